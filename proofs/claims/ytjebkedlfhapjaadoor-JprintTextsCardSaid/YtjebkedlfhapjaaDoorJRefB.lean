/- The document's own answers for layer 6, at every input: numbers. -/
import Derived.Test.YtjebkedlfhapjaaDoorJRef
import Derived.Deep.RegionHeldLaw
namespace Go.Proofs.YtjebkedlfhapjaaDoor
open Go.ChangeShapes Go.WideShapes Go.ChangeAt Go.RowKit Mem

/-- A number, where it ends, the error. -/
def Nb (r : Int × Nat × Nat) (k : Nat) (w : World) (e : Ending) (w' : World) : Prop := e = .returned (.tuple #[.int .i64 r.1, .int .i64 ((k + r.2.1 : Nat) : Int), .int .i64 (r.2.2 : Int)]) ∧ w = w'
theorem nb_ret {r : Int × Nat × Nat} {k : Nat} {w : World} {a b c : Int} (h1 : a = r.1) (h2 : b = ((k + r.2.1 : Nat) : Int)) (h3 : c = (r.2.2 : Int)) : Nb r k w (.returned (.tuple #[.int .i64 a, .int .i64 b, .int .i64 c])) w := by
  subst h1; subst h2; subst h3; exact ⟨rfl, rfl⟩
/-- What a number's digits say. -/
theorem numR_20 {m : Nat} {r : List UInt8} (h : Jx.cnt Jx.isD r = 0 ∨ (Jx.byt r 0 = 48 ∧ 1 < Jx.cnt Jx.isD r) ∨ (Jx.isL (Jx.byt r (Jx.cnt Jx.isD r)) = true ∧ Jx.byt r (Jx.cnt Jx.isD r) ≠ 101 ∧ Jx.byt r (Jx.cnt Jx.isD r) ≠ 69)) : Jx.numR m r = (0, m + Jx.cnt Jx.isD r, 20) := by
  unfold Jx.numR; rw [if_pos h]
theorem numR_22 {m : Nat} {r : List UInt8} (h : ¬ (Jx.cnt Jx.isD r = 0 ∨ (Jx.byt r 0 = 48 ∧ 1 < Jx.cnt Jx.isD r) ∨ (Jx.isL (Jx.byt r (Jx.cnt Jx.isD r)) = true ∧ Jx.byt r (Jx.cnt Jx.isD r) ≠ 101 ∧ Jx.byt r (Jx.cnt Jx.isD r) ≠ 69)))
    (h2 : Jx.byt r (Jx.cnt Jx.isD r) = 46 ∨ Jx.isL (Jx.byt r (Jx.cnt Jx.isD r)) = true ∨ 9223372036854775808 < Jx.val (r.take (Jx.cnt Jx.isD r)) ∨ (Jx.val (r.take (Jx.cnt Jx.isD r)) = 9223372036854775808 ∧ m = 0)) : Jx.numR m r = (0, m + Jx.cnt Jx.isD r, 22) := by
  unfold Jx.numR; rw [if_neg h, if_pos h2]
theorem numR_ok {m : Nat} {r : List UInt8} (h : ¬ (Jx.cnt Jx.isD r = 0 ∨ (Jx.byt r 0 = 48 ∧ 1 < Jx.cnt Jx.isD r) ∨ (Jx.isL (Jx.byt r (Jx.cnt Jx.isD r)) = true ∧ Jx.byt r (Jx.cnt Jx.isD r) ≠ 101 ∧ Jx.byt r (Jx.cnt Jx.isD r) ≠ 69)))
    (h2 : ¬ (Jx.byt r (Jx.cnt Jx.isD r) = 46 ∨ Jx.isL (Jx.byt r (Jx.cnt Jx.isD r)) = true ∨ 9223372036854775808 < Jx.val (r.take (Jx.cnt Jx.isD r)) ∨ (Jx.val (r.take (Jx.cnt Jx.isD r)) = 9223372036854775808 ∧ m = 0))) :
    Jx.numR m r = (if m = 0 then (Jx.val (r.take (Jx.cnt Jx.isD r)) : Int) else -(Jx.val (r.take (Jx.cnt Jx.isD r)) : Int), m + Jx.cnt Jx.isD r, 0) := by
  unfold Jx.numR; rw [if_neg h, if_neg h2]
theorem numR_long {r : List UInt8} (h0 : Jx.byt r 0 ≠ 48) (h : 19 < Jx.cnt Jx.isD r) : 9223372036854775808 < Jx.val (r.take (Jx.cnt Jx.isD r)) := by
  have hl := Jx.cnt_le Jx.isD r
  have h1 := Jx.cnt_in Jx.isD r (k := 0) (by omega)
  rw [Jx.isD_is] at h1
  have g := Jx.val_ge (d := r) (by omega) (Jx.cnt Jx.isD r - 1) (by omega)
  rw [show Jx.cnt Jx.isD r - 1 + 1 = Jx.cnt Jx.isD r by omega] at g
  have p : 10 ^ 19 ≤ 10 ^ (Jx.cnt Jx.isD r - 1) := Nat.pow_le_pow_right (by decide) (by omega)
  omega
theorem neg_nought : wrap64 (wrap64 (-wrap64 (IntKind.u64.wrap (-1))) - 1) = 0 := by kernel_rfl




end Go.Proofs.YtjebkedlfhapjaaDoor
/- The document's own answers for layer 6, at every input: words of letters. -/
namespace Go.Proofs.YtjebkedlfhapjaaDoor
open Go.ChangeShapes Go.WideShapes Go.ChangeAt Go.RowKit Mem

theorem str_eq (X S : List UInt8) : ((⟨X.toArray⟩ : ByteArray).toList == (⟨S.toArray⟩ : ByteArray).toList) = decide (X = S) := by
  rw [ByteArray.toList_eq, ByteArray.toList_eq, Bool.eq_iff_iff, beq_iff_eq, decide_eq_true_eq]
/-- Some bytes within others, as a string. -/
theorem bys_mid {w : World} {B b off : Nat} {l : List UInt8} (h : Bys w B (some ⟨b, off, none⟩) l) (k n m c : Nat) (hn : n = ((l.drop k).take m).length) :
    (convert 28 9 (.slice (some ⟨b, off + k, none⟩) n c)).run Tryd.prog w = .ok (.string ⟨((l.drop k).take m).toArray⟩) w := by
  subst hn
  exact ((h.tail k).front m).str byteT strT c

end Go.Proofs.YtjebkedlfhapjaaDoor
