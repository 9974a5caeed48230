/- The document's own answers for layer 7, at every tree: Same. -/
import Derived.Test.YthebcghhakfdkaaDoorJT
import Derived.Test.YthebcghhakfdkaaDoorBase
import Derived.Test.YthebcghhakfdkaaDoorRec
import Derived.Deep.RegionHeldLaw
namespace Go.Proofs.YthebcghhakfdkaaDoor
open Go.ChangeShapes Go.WideShapes Go.ChangeAt Go.RowKit Mem

theorem str_beq (a b : ByteArray) : (a.toList == b.toList) = decide (a = b) := by
  rw [Bool.eq_iff_iff, beq_iff_eq, decide_eq_true_eq, ByteArray.toList_eq, ByteArray.toList_eq]
  constructor
  · intro h; exact ByteArray.ext (Array.toList_inj.1 h)
  · intro h; rw [h]
theorem str_bne (a b : ByteArray) : (a.toList != b.toList) = !decide (a = b) := by unfold bne; rw [str_beq]
/-- A world but for what it draws. -/
def Drewn7 (W w : World) : Prop := ∃ n, w = W.drewN n
def Told (b : Bool) (w : World) (e : Ending) (w' : World) : Prop := e = .returned (.bool b) ∧ Below w.heap.size w w'
theorem told_ret {b c : Bool} {w w' : World} (h : b = c) (hb : Below w.heap.size w w') : Told b w (.returned (.bool c)) w' := by subst h; exact ⟨rfl, hb⟩


end Go.Proofs.YthebcghhakfdkaaDoor
/- The document's own answers for layer 7, at every tree: Deep, Get, Bulk. -/
namespace Go.Proofs.YthebcghhakfdkaaDoor
open Go.ChangeShapes Go.WideShapes Go.ChangeAt Go.RowKit Mem

mutual
/-- How deep a tree is. -/
def J.deep : J → Nat
  | .mk k _ _ its _ => if k = 5 ∨ k = 6 then J.deeps its else 0
/-- One more than the deepest of some trees; 1 at least. -/
def J.deeps : List J → Nat
  | [] => 1
  | j :: r => max (J.deep j + 1) (J.deeps r)
end
theorem J.deep_in {j : J} (h : j.k = 5 ∨ j.k = 6) : j.deep = J.deeps j.its := by cases j; unfold J.deep; exact if_pos h
theorem J.deep_out {j : J} (h : ¬ (j.k = 5 ∨ j.k = 6)) : j.deep = 0 := by cases j; unfold J.deep; exact if_neg h
theorem J.deeps_snoc (l : List J) (j : J) : J.deeps (l ++ [j]) = max (J.deeps l) (j.deep + 1) := by
  induction l with
  | nil => simp only [List.nil_append, J.deeps]; omega
  | cons x r ih => simp only [List.cons_append, J.deeps, ih]; omega
theorem J.deeps_take {l : List J} {i : Nat} (h : i < l.length) : J.deeps (l.take (i + 1)) = max (J.deeps (l.take i)) ((l[i]'h).deep + 1) := by
  rw [List.take_succ_eq_append_getElem h, J.deeps_snoc]
theorem J.deeps_le (l : List J) (i : Nat) : J.deeps (l.take i) ≤ J.deeps l := by
  induction l generalizing i with
  | nil => simp
  | cons x r ih =>
    cases i with
    | zero => simp only [List.take_zero, J.deeps]; have := ih 0; simp only [List.take_zero, J.deeps] at this; omega
    | succ i => simp only [List.take_succ_cons, J.deeps]; have := ih i; omega
theorem J.deeps_pos (l : List J) : 1 ≤ J.deeps l := by
  cases l with
  | nil => exact Nat.le_refl _
  | cons x r => simp only [J.deeps]; omega
theorem J.deep_at {l : List J} {i : Nat} (h : i < l.length) : (l[i]'h).deep + 1 ≤ J.deeps l := by
  have := J.deeps_take h; have := J.deeps_le l (i + 1); omega

def Num_ (n : Nat) (w : World) (e : Ending) (w' : World) : Prop := e = .returned (.int .i64 (n : Int)) ∧ Below w.heap.size w w'
theorem num_ret {n : Nat} {z : Int} {w w' : World} (h : z = (n : Int)) (hb : Below w.heap.size w w') : Num_ n w (.returned (.int .i64 z)) w' := by subst h; exact ⟨rfl, hb⟩
end Go.Proofs.YthebcghhakfdkaaDoor
