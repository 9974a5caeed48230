/- The document's own answers for layer 6, at every input: words of letters. -/
import Derived.Test.YtheeahnhdehloaaDoorJRef
import Derived.Deep.RegionHeldLaw
namespace Go.Proofs.YtheeahnhdehloaaDoor
open Go.ChangeShapes Go.WideShapes Go.ChangeAt Go.RowKit Mem

theorem str_eq (X S : List UInt8) : ((⟨X.toArray⟩ : ByteArray).toList == (⟨S.toArray⟩ : ByteArray).toList) = decide (X = S) := by
  rw [ByteArray.toList_eq, ByteArray.toList_eq, Bool.eq_iff_iff, beq_iff_eq, decide_eq_true_eq]
/-- Some bytes within others, as a string. -/
theorem bys_mid {w : World} {B b off : Nat} {l : List UInt8} (h : Bys w B (some ⟨b, off, none⟩) l) (k n m c : Nat) (hn : n = ((l.drop k).take m).length) :
    (convert 22 9 (.slice (some ⟨b, off + k, none⟩) n c)).run Tryd.prog w = .ok (.string ⟨((l.drop k).take m).toArray⟩) w := by
  subst hn
  exact ((h.tail k).front m).str byteT strT c

set_option maxRecDepth 100000 in
set_option maxHeartbeats 1000000 in
theorem rnamed_any (A : Option Addr) (c : Nat) (l : List UInt8) (k : Nat) (S : List UInt8) (w : World) (hb : Bys w w.heap.size A l) (hl : l.length ≤ 140000000000) (hc : l.length ≤ c) (hk : k < l.length) (hS : 1 ≤ S.length ∧ S.length ≤ 10) :
    Calls Tryd.prog 40 #[.slice A l.length c, .int .i64 (k : Int), .string ⟨S.toArray⟩] w fun e w' => e = .returned (.bool (Jx.named (l.drop k) S)) ∧ w = w' := by
  have AT := Lib.hid (fun j z hz => rat_any A c l j z hz w _ hb)
  have bd := Jx.byt_drop l k
  have sz : (⟨S.toArray⟩ : ByteArray).size = S.length := by simp [ByteArray.size]
  obtain ⟨R, hR⟩ : ∃ R, R = Jx.named (l.drop k) S := ⟨_, rfl⟩
  rw [← hR]
  unfold Jx.named at hR
  rw [bd] at hR
  obtain ⟨h1, h2⟩ := hS
  have ld : (l.drop k).length = l.length - k := List.length_drop
  by_cases hlen : k + S.length ≤ l.length
  · obtain ⟨b, off, rfl, hB, cell⟩ := bys_cell hb hk
    have hconv := bys_mid hb k S.length S.length (c - k) (by rw [List.length_take, ld]; omega)
    have L := Lib.hid (rletter_any (Jx.byt l (k + S.length)))
    have AJ := Lib.hid (AT.out (k + S.length))
    generalize hX : (l.drop k).take S.length = X at *
    have seq := str_eq X S
    clear cell hb hX
    by_cases hXS : X = S
    · subst hXS
      simp only [decide_true, Bool.true_and] at hR seq
      have HR := Lib.hid hR
      obtain ⟨LC, hLC⟩ : ∃ b, b = Jx.isL (Jx.byt l (k + X.length)) := ⟨_, rfl⟩
      rw [← hLC] at L HR
      clear hR hLC bd ld
      generalize Jx.byt l (k + X.length) = C at *
      go_enter Tryd.func40, Tryd.ntmps40
      go_wp2_with fail
      with_reducible refine (AJ.out _ (by omega)).mono ?_
      rintro e w1 ⟨rfl, rfl⟩
      go_wp2_with fail
      with_reducible refine (L.out _).mono ?_
      rintro e w1 ⟨rfl, rfl⟩
      go_wp2_with fail
      all_goals go_ret
      all_goals exact ⟨retBool (by rw [HR.out]), rfl⟩
    · simp only [hXS, decide_false, Bool.false_and] at hR seq
      have HR := Lib.hid hR
      have seq2 : (X == S) = false := by simpa using hXS
      clear hR bd ld
      have HX := Lib.hid hXS
      clear hXS
      go_enter Tryd.func40, Tryd.ntmps40
      go_wp2_with fail
      all_goals go_ret
      all_goals exact ⟨retBool (by rw [HR.out]), rfl⟩
  · have e : (l.drop k).take S.length ≠ S := fun e => by
      have := congrArg List.length e
      rw [List.length_take, ld] at this
      omega
    simp only [e, decide_false, Bool.false_and] at hR
    have HR := Lib.hid hR
    have g : decide ((k : Int) + (S.length : Int) ≤ (l.length : Int)) = false := by simp; omega
    have g2 : decide (k + S.length ≤ l.length) = false := by simp; omega
    clear hR bd ld e hb
    go_enter Tryd.func40, Tryd.ntmps40
    go_wp2_with fail
    all_goals go_ret
    all_goals exact ⟨retBool (by rw [HR.out]), rfl⟩
end Go.Proofs.YtheeahnhdehloaaDoor
