/- The document's own answers for layer 9: names. -/
import Derived.Test.YtnfhikgfcdcpoaaDoorNam
import Derived.Test.YtnfhikgfcdcpoaaDoorBase
import Derived.Test.YtnfhikgfcdcpoaaDoorJTSame
namespace Go.Proofs.YtnfhikgfcdcpoaaDoor
open Go.ChangeShapes Go.WideShapes Go.ChangeAt Go.RowKit Mem

/-- A text of bytes. -/
def sst (l : List UInt8) : ByteArray := ⟨l.toArray⟩
theorem sst_out (s : ByteArray) : sst s.data.toList = s := by unfold sst; simp
theorem sst_in (l : List UInt8) : (sst l).data.toList = l := by unfold sst; simp
theorem sst_inj {a b : List UInt8} (h : sst a = sst b) : a = b := by rw [← sst_in a, h, sst_in]
theorem sst_size (l : List UInt8) : (sst l).size = l.length := by unfold sst; show l.toArray.size = _; simp
theorem len_str (s : ByteArray) : s.data.toList.length = s.size := by rw [Array.length_toList]; rfl
theorem idx_str (s : ByteArray) (j : Nat) (h : j < s.size) (W : World) : (Instr.index 9 (.string s) (.int .i64 (j : Int))).run Tryd.prog W = .ok (.int .u8 ((Jx.byt s.data.toList j : Nat) : Int)) W := by
  rw [run_index_string _ _ _ _ _ strT, dif_pos ⟨by omega, by omega⟩]
  congr 2
  unfold Jx.byt
  have e : s.data.toList.getD j 0 = s[j]'h := by
    rw [List.getD, List.getElem?_eq_getElem (by rw [len_str]; exact h)]
    simp
    rfl
  rw [e]
  rfl
theorem ext_l (s : ByteArray) (k : Nat) : s.extract k s.size = sst (s.data.toList.drop k) := by
  apply ByteArray.ext
  unfold sst
  apply Array.ext'
  rw [ByteArray.data_extract, Array.toList_extract]
  have := len_str s
  simp [List.extract, List.take_of_length_le, this]
theorem ext_h (s : ByteArray) (k : Nat) : s.extract 0 k = sst (s.data.toList.take k) := by
  apply ByteArray.ext
  unfold sst
  apply Array.ext'
  rw [ByteArray.data_extract, Array.toList_extract]
  simp [List.extract]
/-- A call that only reckons. -/
def Pure (v : Value) (w : World) (e : Ending) (w' : World) : Prop := e = .returned v ∧ w = w'
theorem pure_ret {v v' : Value} {w : World} (h : v = v') : Pure v w (.returned v') w := by subst h; exact ⟨rfl, rfl⟩


theorem simple_iff {l : List UInt8} : Nm.simple l = true ↔ l.length ≠ 0 ∧ l.length ≤ 100 ∧ Nm.lt (Jx.byt l 0) = true ∧ ∀ j, j < l.length → Nm.ch (Jx.byt l j) = true := by
  unfold Nm.simple Nm.chs
  simp only [Bool.and_eq_true, decide_eq_true_eq, List.all_eq_true]
  constructor
  · rintro ⟨⟨⟨h1, h2⟩, h3⟩, h4⟩
    refine ⟨h1, h2, h3, fun j hj => ?_⟩
    have := h4 _ (List.getElem_mem hj)
    unfold Jx.byt
    rw [List.getD, List.getElem?_eq_getElem hj]
    exact this
  · rintro ⟨h1, h2, h3, h4⟩
    refine ⟨⟨⟨h1, h2⟩, h3⟩, fun x hx => ?_⟩
    obtain ⟨j, hj, rfl⟩ := List.getElem_of_mem hx
    have := h4 j hj
    unfold Jx.byt at this
    rw [List.getD, List.getElem?_eq_getElem hj] at this
    exact this
theorem simple_no {l : List UInt8} (h : ¬ (l.length ≠ 0 ∧ l.length ≤ 100 ∧ Nm.lt (Jx.byt l 0) = true ∧ ∀ j, j < l.length → Nm.ch (Jx.byt l j) = true)) : Nm.simple l = false := by
  rcases hs : Nm.simple l with _ | _
  · rfl
  · exact absurd (simple_iff.1 hs) h


end Go.Proofs.YtnfhikgfcdcpoaaDoor
