/- The calls of layer 3 at every input: those that put, and that count. -/
import Derived.Test.YtjebhbjffofjnaaDoorUtfB
import Derived.Deep.RegionHeldLaw
namespace Go.Proofs.YtjebhbjffofjnaaDoor
open Go.ChangeShapes Go.WideShapes Go.ChangeAt Go.RowKit Mem

/-- A list of bytes, and behind it others, in a row of the call's own, and an error. -/
def MadeE (base : Nat) (l : List UInt8) (e : Int) (w : World) (x : Ending) (w' : World) : Prop := ∃ v, x = .returned (.tuple #[v, .int .i64 e]) ∧ Own w' base 5 v l ∧ Below base w w'


/-- The bytes behind the first one that are still to be put. -/
def rest : Nat → Nat → List UInt8
  | 0, _ => []
  | m + 1, c => UInt8.ofNat (128 + c / 64 ^ m % 64) :: rest m c

theorem rest_go {d l : List UInt8} {m : Nat} {c : Int} {x : Int} (h : d ++ rest (m + 1) c.toNat = l) (h0 : 0 ≤ c) (hx : x = 128 + c / 64 ^ m % 64) : Hid (d ++ [UInt8.ofNat x.toNat] ++ rest m c.toNat = l) := by
  unfold Hid
  subst hx
  obtain ⟨k, rfl⟩ := Int.eq_ofNat_of_zero_le h0
  rw [← h, List.append_assoc, List.singleton_append, rest, Int.toNat_natCast]
  have e : ((k : Int) / 64 ^ m % 64) = ((k / 64 ^ m % 64 : Nat) : Int) := by simp
  rw [show (128 + (k : Int) / 64 ^ m % 64).toNat = 128 + k / 64 ^ m % 64 by rw [e]; omega]
theorem rest_len (m c : Nat) : (rest m c).length = m := by
  induction m with
  | zero => rfl
  | succ m ih => simp [rest, ih]
theorem at_i64 {a b : Int} (h : a = b) : Value.int .i64 a = .int .i64 b := by rw [h]




end Go.Proofs.YtjebhbjffofjnaaDoor
