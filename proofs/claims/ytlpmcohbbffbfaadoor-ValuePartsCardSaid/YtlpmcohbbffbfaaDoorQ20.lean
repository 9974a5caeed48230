/- Joined by tools/bundle.py: VWk SGrt. -/
import Derived.Deep.RegionHeldLaw
import Derived.Test.YtlpmcohbbffbfaaDoorQ4
import Derived.Test.YtlpmcohbbffbfaaDoorQ6
import Derived.Test.YtlpmcohbbffbfaaDoorQ7
import Derived.Test.YtlpmcohbbffbfaaDoorQ11
import Derived.Test.YtlpmcohbbffbfaaDoorQ19
namespace Go.Proofs.YtlpmcohbbffbfaaDoor
open Go.ChangeShapes Go.WideShapes Go.ChangeAt Go.RowKit Mem
theorem leaf_lies {w : World} {S : Nat → Prop} (k n bt : Int) : Lies w S (V.mk k n bt [] [] []).enc [.int .i64 k, .int .i64 n, .int .u64 bt, .slice none 0 0, .slice none 0 0, .slice none 0 0] :=
  V.out.2 ⟨none, 0, none, 0, none, 0, rfl, ⟨Nat.le_refl _, Nat.zero_le _⟩, RowD.nil_ _ _ _ _, ⟨Nat.le_refl _, Nat.zero_le _⟩, RowD.nil_ _ _ _ _, ⟨Nat.le_refl _, Nat.zero_le _⟩, .inl rfl⟩
theorem row_two {w : World} {S : Nat → Prop} {s g : Nat} {a b : D} {c d : List Value} (hg : S g) (hc : c.length = s) (hd : d.length = s) (h1 : ∀ j, j < s → w.cell? ⟨g, j, none⟩ = c[j]?) (h2 : ∀ j, j < s → w.cell? ⟨g, s + j, none⟩ = d[j]?) (l1 : Lies w S a c) (l2 : Lies w S b d) : RowD w S s [a, b] (some ⟨g, 0, none⟩) := by
  unfold RowD
  refine ⟨g, 0, c, rfl, hg, hc, fun j hj => by rw [Nat.zero_add]; exact h1 j hj, l1, ?_⟩
  unfold RowD
  refine ⟨g, 0 + s, d, rfl, hg, hd, fun j hj => by rw [Nat.zero_add]; exact h2 j hj, l2, RowD.nil_ _ _ _ _⟩
def ex11W (w : World) : World := lays w [.cells #[.int .i64 11, .string ⟨#[]⟩, .slice none 0 0, .slice none 0 0, .slice none 0 0, .bool false, .string ⟨#[]⟩, .int .i64 0, .int .i64 1, .slice none 0 0, .int .i64 3, .string ⟨#[]⟩, .slice none 0 0, .slice none 0 0, .slice none 0 0, .bool false, .string ⟨#[]⟩, .int .i64 0, .int .i64 0, .slice none 0 0] 40, .cells #[.slice (some ⟨w.heap.size, 0, none⟩) 2 2, .int .i64 0] 35, .cells #[.int .i64 3, .int .i64 1, .int .u64 0, .slice none 0 0, .slice none 0 0, .slice none 0 0] 27, .cells #[.int .i64 4, .int .i64 1, .int .u64 0, .slice none 0 0, .slice none 0 0, .slice none 0 0] 27, .cells #[.int .i64 3, .int .i64 1, .int .u64 0, .slice none 0 0, .slice none 0 0, .slice none 0 0, .int .i64 3, .int .i64 1, .int .u64 0, .slice none 0 0, .slice none 0 0, .slice none 0 0] 27, .cells #[.int .i64 11, .int .i64 0, .int .u64 0, .slice none 0 0, .slice (some ⟨w.heap.size + 1 + 1 + 1 + 1, 0, none⟩) 2 2, .slice none 0 0] 27, .cells #[.int .i64 3, .int .i64 1, .int .u64 0, .slice none 0 0, .slice none 0 0, .slice none 0 0, .int .i64 4, .int .i64 1, .int .u64 0, .slice none 0 0, .slice none 0 0, .slice none 0 0] 27, .cells #[.int .i64 11, .int .i64 0, .int .u64 0, .slice none 0 0, .slice (some ⟨w.heap.size + 1 + 1 + 1 + 1 + 1 + 1, 0, none⟩) 2 2, .slice none 0 0] 27]
theorem ex11W_size (w : World) : (ex11W w).heap.size = w.heap.size + 8 := lays_size _ w
def Ex11S (w u : World) : Prop := u.cell? ⟨w.heap.size + 1, 0, none⟩ = some (.slice (some ⟨w.heap.size, 0, none⟩) 2 2) ∧ u.cell? ⟨w.heap.size + 1, 1, none⟩ = some (.int .i64 0) ∧ u.cell? ⟨w.heap.size + 1 + 1 + 1 + 1 + 1, 0, none⟩ = some (.int .i64 11) ∧ u.cell? ⟨w.heap.size + 1 + 1 + 1 + 1 + 1, 1, none⟩ = some (.int .i64 0) ∧ u.cell? ⟨w.heap.size + 1 + 1 + 1 + 1 + 1, 2, none⟩ = some (.int .u64 0) ∧ u.cell? ⟨w.heap.size + 1 + 1 + 1 + 1 + 1, 3, none⟩ = some (.slice none 0 0) ∧ u.cell? ⟨w.heap.size + 1 + 1 + 1 + 1 + 1, 4, none⟩ = some (.slice (some ⟨w.heap.size + 1 + 1 + 1 + 1, 0, none⟩) 2 2) ∧ u.cell? ⟨w.heap.size + 1 + 1 + 1 + 1 + 1, 5, none⟩ = some (.slice none 0 0) ∧ u.cell? ⟨w.heap.size + 1 + 1 + 1 + 1 + 1 + 1 + 1, 0, none⟩ = some (.int .i64 11) ∧ u.cell? ⟨w.heap.size + 1 + 1 + 1 + 1 + 1 + 1 + 1, 1, none⟩ = some (.int .i64 0) ∧ u.cell? ⟨w.heap.size + 1 + 1 + 1 + 1 + 1 + 1 + 1, 2, none⟩ = some (.int .u64 0) ∧ u.cell? ⟨w.heap.size + 1 + 1 + 1 + 1 + 1 + 1 + 1, 3, none⟩ = some (.slice none 0 0) ∧ u.cell? ⟨w.heap.size + 1 + 1 + 1 + 1 + 1 + 1 + 1, 4, none⟩ = some (.slice (some ⟨w.heap.size + 1 + 1 + 1 + 1 + 1 + 1, 0, none⟩) 2 2) ∧ u.cell? ⟨w.heap.size + 1 + 1 + 1 + 1 + 1 + 1 + 1, 5, none⟩ = some (.slice none 0 0)
theorem ex11W_cell (w : World) {i : Nat} (h : i < 8) (cs : Array Value) (t : TypeId) (e : [.cells #[.int .i64 11, .string ⟨#[]⟩, .slice none 0 0, .slice none 0 0, .slice none 0 0, .bool false, .string ⟨#[]⟩, .int .i64 0, .int .i64 1, .slice none 0 0, .int .i64 3, .string ⟨#[]⟩, .slice none 0 0, .slice none 0 0, .slice none 0 0, .bool false, .string ⟨#[]⟩, .int .i64 0, .int .i64 0, .slice none 0 0] 40, .cells #[.slice (some ⟨w.heap.size, 0, none⟩) 2 2, .int .i64 0] 35, .cells #[.int .i64 3, .int .i64 1, .int .u64 0, .slice none 0 0, .slice none 0 0, .slice none 0 0] 27, .cells #[.int .i64 4, .int .i64 1, .int .u64 0, .slice none 0 0, .slice none 0 0, .slice none 0 0] 27, .cells #[.int .i64 3, .int .i64 1, .int .u64 0, .slice none 0 0, .slice none 0 0, .slice none 0 0, .int .i64 3, .int .i64 1, .int .u64 0, .slice none 0 0, .slice none 0 0, .slice none 0 0] 27, .cells #[.int .i64 11, .int .i64 0, .int .u64 0, .slice none 0 0, .slice (some ⟨w.heap.size + 1 + 1 + 1 + 1, 0, none⟩) 2 2, .slice none 0 0] 27, .cells #[.int .i64 3, .int .i64 1, .int .u64 0, .slice none 0 0, .slice none 0 0, .slice none 0 0, .int .i64 4, .int .i64 1, .int .u64 0, .slice none 0 0, .slice none 0 0, .slice none 0 0] 27, .cells #[.int .i64 11, .int .i64 0, .int .u64 0, .slice none 0 0, .slice (some ⟨w.heap.size + 1 + 1 + 1 + 1 + 1 + 1, 0, none⟩) 2 2, .slice none 0 0] 27][i]'h = Obj.cells cs t (0, 0)) (j : Nat) : (ex11W w).cell? ⟨w.heap.size + i, j, none⟩ = cs[j]? := by
  refine cell_of_row _ _ _ _ t (0, 0) ?_
  have := lays_at [.cells #[.int .i64 11, .string ⟨#[]⟩, .slice none 0 0, .slice none 0 0, .slice none 0 0, .bool false, .string ⟨#[]⟩, .int .i64 0, .int .i64 1, .slice none 0 0, .int .i64 3, .string ⟨#[]⟩, .slice none 0 0, .slice none 0 0, .slice none 0 0, .bool false, .string ⟨#[]⟩, .int .i64 0, .int .i64 0, .slice none 0 0] 40, .cells #[.slice (some ⟨w.heap.size, 0, none⟩) 2 2, .int .i64 0] 35, .cells #[.int .i64 3, .int .i64 1, .int .u64 0, .slice none 0 0, .slice none 0 0, .slice none 0 0] 27, .cells #[.int .i64 4, .int .i64 1, .int .u64 0, .slice none 0 0, .slice none 0 0, .slice none 0 0] 27, .cells #[.int .i64 3, .int .i64 1, .int .u64 0, .slice none 0 0, .slice none 0 0, .slice none 0 0, .int .i64 3, .int .i64 1, .int .u64 0, .slice none 0 0, .slice none 0 0, .slice none 0 0] 27, .cells #[.int .i64 11, .int .i64 0, .int .u64 0, .slice none 0 0, .slice (some ⟨w.heap.size + 1 + 1 + 1 + 1, 0, none⟩) 2 2, .slice none 0 0] 27, .cells #[.int .i64 3, .int .i64 1, .int .u64 0, .slice none 0 0, .slice none 0 0, .slice none 0 0, .int .i64 4, .int .i64 1, .int .u64 0, .slice none 0 0, .slice none 0 0, .slice none 0 0] 27, .cells #[.int .i64 11, .int .i64 0, .int .u64 0, .slice none 0 0, .slice (some ⟨w.heap.size + 1 + 1 + 1 + 1 + 1 + 1, 0, none⟩) 2 2, .slice none 0 0] 27] w (i := i) h
  rw [e] at this
  exact this
theorem ex11S_of (w : World) {u : World} (b : Below (ex11W w).heap.size (ex11W w) u) : Ex11S w u := by
  have hS := ex11W_size w
  have key : ∀ (i : Nat) (h : i < 8) (cs : Array Value) (t : TypeId) (e : [.cells #[.int .i64 11, .string ⟨#[]⟩, .slice none 0 0, .slice none 0 0, .slice none 0 0, .bool false, .string ⟨#[]⟩, .int .i64 0, .int .i64 1, .slice none 0 0, .int .i64 3, .string ⟨#[]⟩, .slice none 0 0, .slice none 0 0, .slice none 0 0, .bool false, .string ⟨#[]⟩, .int .i64 0, .int .i64 0, .slice none 0 0] 40, .cells #[.slice (some ⟨w.heap.size, 0, none⟩) 2 2, .int .i64 0] 35, .cells #[.int .i64 3, .int .i64 1, .int .u64 0, .slice none 0 0, .slice none 0 0, .slice none 0 0] 27, .cells #[.int .i64 4, .int .i64 1, .int .u64 0, .slice none 0 0, .slice none 0 0, .slice none 0 0] 27, .cells #[.int .i64 3, .int .i64 1, .int .u64 0, .slice none 0 0, .slice none 0 0, .slice none 0 0, .int .i64 3, .int .i64 1, .int .u64 0, .slice none 0 0, .slice none 0 0, .slice none 0 0] 27, .cells #[.int .i64 11, .int .i64 0, .int .u64 0, .slice none 0 0, .slice (some ⟨w.heap.size + 1 + 1 + 1 + 1, 0, none⟩) 2 2, .slice none 0 0] 27, .cells #[.int .i64 3, .int .i64 1, .int .u64 0, .slice none 0 0, .slice none 0 0, .slice none 0 0, .int .i64 4, .int .i64 1, .int .u64 0, .slice none 0 0, .slice none 0 0, .slice none 0 0] 27, .cells #[.int .i64 11, .int .i64 0, .int .u64 0, .slice none 0 0, .slice (some ⟨w.heap.size + 1 + 1 + 1 + 1 + 1 + 1, 0, none⟩) 2 2, .slice none 0 0] 27][i]'h = Obj.cells cs t (0, 0)) (j : Nat), u.cell? ⟨w.heap.size + i, j, none⟩ = cs[j]? := fun i h cs t e j => (b.cell (p := ⟨w.heap.size + i, j, none⟩) (by rw [hS]; show _ + i < _ + 8; omega)).trans (ex11W_cell w h cs t e j)
  refine ⟨?_, ?_, ?_, ?_, ?_, ?_, ?_, ?_, ?_, ?_, ?_, ?_, ?_, ?_⟩
  · exact key 1 (by decide) _ _ rfl 0
  · exact key 1 (by decide) _ _ rfl 1
  · exact key 5 (by decide) _ _ rfl 0
  · exact key 5 (by decide) _ _ rfl 1
  · exact key 5 (by decide) _ _ rfl 2
  · exact key 5 (by decide) _ _ rfl 3
  · exact key 5 (by decide) _ _ rfl 4
  · exact key 5 (by decide) _ _ rfl 5
  · exact key 7 (by decide) _ _ rfl 0
  · exact key 7 (by decide) _ _ rfl 1
  · exact key 7 (by decide) _ _ rfl 2
  · exact key 7 (by decide) _ _ rfl 3
  · exact key 7 (by decide) _ _ rfl 4
  · exact key 7 (by decide) _ _ rfl 5
theorem ex11_lies (w : World) : Lies (ex11W w) (· < (ex11W w).heap.size) ex11.enc [.slice (some ⟨w.heap.size, 0, none⟩) 2 2, .int .i64 0] := by
  have hS := ex11W_size w
  have c0 := fun j => ex11W_cell w (i := 0) (by decide) _ _ rfl j
  refine Sc.out.2 ⟨_, 2, rfl, ⟨Nat.le_refl _, by unfold maxLen; decide⟩, ?_⟩
  have l1 : Lies (ex11W w) (· < (ex11W w).heap.size) nd11.enc [.int .i64 11, .string ⟨#[]⟩, .slice none 0 0, .slice none 0 0, .slice none 0 0, .bool false, .string ⟨#[]⟩, .int .i64 0, .int .i64 1, .slice none 0 0] :=
    Nd.out.2 ⟨none, 0, none, 0, none, 0, none, 0, rfl, ⟨Nat.le_refl _, Nat.zero_le _⟩, .inl rfl, ⟨Nat.le_refl _, Nat.zero_le _⟩, RowD.nil_ _ _ _ _, ⟨Nat.le_refl _, Nat.zero_le _⟩, .inl rfl, ⟨Nat.le_refl _, Nat.zero_le _⟩, RowD.nil_ _ _ _ _⟩
  refine row_two (by rw [hS]; omega) rfl rfl (fun j hj => ?_) (fun j hj => ?_) l1 z_lies
  · rw [show (⟨w.heap.size, j, none⟩ : Addr) = ⟨w.heap.size + 0, j, none⟩ from rfl, c0]
    obtain rfl | rfl | rfl | rfl | rfl | rfl | rfl | rfl | rfl | rfl : j = 0 ∨ j = 1 ∨ j = 2 ∨ j = 3 ∨ j = 4 ∨ j = 5 ∨ j = 6 ∨ j = 7 ∨ j = 8 ∨ j = 9 := by omega
    all_goals rfl
  · rw [show (⟨w.heap.size, 10 + j, none⟩ : Addr) = ⟨w.heap.size + 0, 10 + j, none⟩ from rfl, c0]
    obtain rfl | rfl | rfl | rfl | rfl | rfl | rfl | rfl | rfl | rfl : j = 0 ∨ j = 1 ∨ j = 2 ∨ j = 3 ∨ j = 4 ∨ j = 5 ∨ j = 6 ∨ j = 7 ∨ j = 8 ∨ j = 9 := by omega
    all_goals rfl
theorem v11_lies (w : World) : Lies (ex11W w) (· < (ex11W w).heap.size) v11.enc [.int .i64 11, .int .i64 0, .int .u64 0, .slice none 0 0, .slice (some ⟨w.heap.size + 1 + 1 + 1 + 1, 0, none⟩) 2 2, .slice none 0 0] := by
  have hS := ex11W_size w
  have c0 := fun j => ex11W_cell w (i := 4) (by decide) _ _ rfl j
  refine V.out.2 ⟨none, 0, _, 2, none, 0, rfl, ⟨Nat.le_refl _, Nat.zero_le _⟩, RowD.nil_ _ _ _ _, ⟨Nat.le_refl _, by unfold maxLen; decide⟩, ?_, ⟨Nat.le_refl _, Nat.zero_le _⟩, .inl rfl⟩
  refine row_two (by rw [hS]; show w.heap.size + 4 < _; omega) rfl rfl (fun j hj => ?_) (fun j hj => ?_) (leaf_lies 3 1 0) (leaf_lies 3 1 0)
  · rw [show (⟨w.heap.size + 1 + 1 + 1 + 1, j, none⟩ : Addr) = ⟨w.heap.size + 4, j, none⟩ from rfl, c0]
    obtain rfl | rfl | rfl | rfl | rfl | rfl : j = 0 ∨ j = 1 ∨ j = 2 ∨ j = 3 ∨ j = 4 ∨ j = 5 := by omega
    all_goals rfl
  · rw [show (⟨w.heap.size + 1 + 1 + 1 + 1, 6 + j, none⟩ : Addr) = ⟨w.heap.size + 4, 6 + j, none⟩ from rfl, c0]
    obtain rfl | rfl | rfl | rfl | rfl | rfl : j = 0 ∨ j = 1 ∨ j = 2 ∨ j = 3 ∨ j = 4 ∨ j = 5 := by omega
    all_goals rfl
theorem w11_lies (w : World) : Lies (ex11W w) (· < (ex11W w).heap.size) w11.enc [.int .i64 11, .int .i64 0, .int .u64 0, .slice none 0 0, .slice (some ⟨w.heap.size + 1 + 1 + 1 + 1 + 1 + 1, 0, none⟩) 2 2, .slice none 0 0] := by
  have hS := ex11W_size w
  have c0 := fun j => ex11W_cell w (i := 6) (by decide) _ _ rfl j
  refine V.out.2 ⟨none, 0, _, 2, none, 0, rfl, ⟨Nat.le_refl _, Nat.zero_le _⟩, RowD.nil_ _ _ _ _, ⟨Nat.le_refl _, by unfold maxLen; decide⟩, ?_, ⟨Nat.le_refl _, Nat.zero_le _⟩, .inl rfl⟩
  refine row_two (by rw [hS]; show w.heap.size + 6 < _; omega) rfl rfl (fun j hj => ?_) (fun j hj => ?_) (leaf_lies 3 1 0) (leaf_lies 4 1 0)
  · rw [show (⟨w.heap.size + 1 + 1 + 1 + 1 + 1 + 1, j, none⟩ : Addr) = ⟨w.heap.size + 6, j, none⟩ from rfl, c0]
    obtain rfl | rfl | rfl | rfl | rfl | rfl : j = 0 ∨ j = 1 ∨ j = 2 ∨ j = 3 ∨ j = 4 ∨ j = 5 := by omega
    all_goals rfl
  · rw [show (⟨w.heap.size + 1 + 1 + 1 + 1 + 1 + 1, 6 + j, none⟩ : Addr) = ⟨w.heap.size + 6, 6 + j, none⟩ from rfl, c0]
    obtain rfl | rfl | rfl | rfl | rfl | rfl : j = 0 ∨ j = 1 ∨ j = 2 ∨ j = 3 ∨ j = 4 ∨ j = 5 := by omega
    all_goals rfl
set_option maxRecDepth 100000 in
set_option maxHeartbeats 8000000 in
theorem works11_any (w : World) (hL : LaidN w) : Calls Tryd.prog 6 #[] w (Told true w) := by
  have CS := cell_set
  have eW : Hid (∀ W, W = ex11W w → Below w.heap.size w W ∧ LaidN W ∧ Lies W (· < W.heap.size) ex11.enc [.slice (some ⟨w.heap.size, 0, none⟩) 2 2, .int .i64 0] ∧ Lies W (· < W.heap.size) v11.enc [.int .i64 11, .int .i64 0, .int .u64 0, .slice none 0 0, .slice (some ⟨w.heap.size + 1 + 1 + 1 + 1, 0, none⟩) 2 2, .slice none 0 0] ∧ Lies W (· < W.heap.size) w11.enc [.int .i64 11, .int .i64 0, .int .u64 0, .slice none 0 0, .slice (some ⟨w.heap.size + 1 + 1 + 1 + 1 + 1 + 1, 0, none⟩) 2 2, .slice none 0 0] ∧ (∀ u, Below W.heap.size W u → Ex11S w u)) := fun W h => by
    subst h
    exact ⟨lays_below _ w, hL.below (lays_below _ w), ex11_lies w, v11_lies w, w11_lies w, fun u b => ex11S_of w b⟩
  go_enter Tryd.func6, Tryd.ntmps6
  go_wp2_with fail
  obtain ⟨W, hW⟩ : ∃ W, W = ex11W w := ⟨_, rfl⟩
  have HW := Lib.hid hW
  simp only [ex11W, lays] at hW
  rw [← hW]
  clear hW
  obtain ⟨b0, LW, ls, lv, lw, ST⟩ := eW.out W HW.out
  have CF1 : Hid (∀ U, Below W.heap.size W U → Calls Tryd.prog 15 #[.agg #[.slice (some ⟨w.heap.size, 0, none⟩) 2 2, .int .i64 0], .int .i64 0, .agg #[.int .i64 11, .int .i64 0, .int .u64 0, .slice none 0 0, .slice (some ⟨w.heap.size + 1 + 1 + 1 + 1, 0, none⟩) 2 2, .slice none 0 0]] U (fun e w' => e = .returned (.bool true) ∧ Below U.heap.size U w')) := fun U b =>
    (vConforms_any ex11 ex11_sm v11 (by decide) 0 U (LW.below b) _ none _ none 2 0 2 0 (ls.on b) (lv.on b)).mono fun _ _ ⟨x, h1, h2, h3⟩ => ⟨by rw [h1, h2.2 ⟨ex11_right, v11_is⟩], h3⟩
  have CF0 : Hid (∀ U, Below W.heap.size W U → Calls Tryd.prog 15 #[.agg #[.slice (some ⟨w.heap.size, 0, none⟩) 2 2, .int .i64 0], .int .i64 0, .agg #[.int .i64 11, .int .i64 0, .int .u64 0, .slice none 0 0, .slice (some ⟨w.heap.size + 1 + 1 + 1 + 1 + 1 + 1, 0, none⟩) 2 2, .slice none 0 0]] U (fun e w' => e = .returned (.bool false) ∧ Below U.heap.size U w')) := fun U b =>
    (vConforms_any ex11 ex11_sm w11 (by decide) 0 U (LW.below b) _ none _ none 2 0 2 0 (ls.on b) (lw.on b)).mono fun _ _ ⟨x, h1, h2, h3⟩ => ⟨by
      rw [h1]
      cases x with
      | false => rfl
      | true => exact absurd (h2.1 rfl).2 w11_not, h3⟩
  have CP : Hid (∀ U, Below W.heap.size W U → Calls Tryd.prog 7 #[.agg #[.int .i64 11, .int .i64 0, .int .u64 0, .slice none 0 0, .slice (some ⟨w.heap.size + 1 + 1 + 1 + 1, 0, none⟩) 2 2, .slice none 0 0]] U (fun e w' => ∃ B3 d3 B4 d4 B5 d5, e = .returned (.agg #[.int .i64 11, .int .i64 0, .int .u64 0, .slice B3 0 d3, .slice B4 2 d4, .slice B5 0 d5]) ∧ Lies w' (· < w'.heap.size) v11.enc [.int .i64 11, .int .i64 0, .int .u64 0, .slice B3 0 d3, .slice B4 2 d4, .slice B5 0 d5] ∧ Below U.heap.size U w')) := fun U b =>
    (copyV_any v11 U none _ none 0 2 0 (by decide) (lv.on b)).mono fun _ _ ⟨B3, d3, B4, d4, B5, d5, h1, ⟨S, h2, h3, _⟩, h4⟩ => ⟨B3, d3, B4, d4, B5, d5, h1, h3.keep (fun _ _ => rfl) fun k hk => (h2 k hk).2, h4⟩
  have SM : Hid (∀ U, Below W.heap.size W U → ∀ B3 d3 B4 d4 B5 d5, Lies U (· < U.heap.size) v11.enc [.int .i64 11, .int .i64 0, .int .u64 0, .slice B3 0 d3, .slice B4 2 d4, .slice B5 0 d5] → Calls Tryd.prog 8 #[.agg #[.int .i64 11, .int .i64 0, .int .u64 0, .slice none 0 0, .slice (some ⟨w.heap.size + 1 + 1 + 1 + 1, 0, none⟩) 2 2, .slice none 0 0], .agg #[.int .i64 11, .int .i64 0, .int .u64 0, .slice B3 0 d3, .slice B4 2 d4, .slice B5 0 d5]] U (Told true U)) := fun U b B3 d3 B4 d4 B5 d5 hb => by
    have := vSame_any v11 v11 U none _ none B3 B4 B5 0 2 0 d3 d4 d5 (lv.on b) hb
    rw [V.same_yes rfl] at this
    exact this
  have DP : Hid (∀ U, Below W.heap.size W U → Calls Tryd.prog 10 #[.agg #[.int .i64 11, .int .i64 0, .int .u64 0, .slice none 0 0, .slice (some ⟨w.heap.size + 1 + 1 + 1 + 1, 0, none⟩) 2 2, .slice none 0 0]] U (fun e w' => e = .returned (.int .i64 1) ∧ Below U.heap.size U w')) := fun U b =>
    vdeep_at _ v11 (Nat.le_refl _) (by decide) U none _ none 0 2 0 (lv.on b)
  unfold Told at SM
  have STH := Lib.hid ST
  clear ST ls lv lw eW
  have bW0 : Below W.heap.size W W := Below.refl _ _
  have bW : Below W.heap.size W W.drew := (Below.refl _ _).drew
  clear HW LW hL CS
  go_region_held_law (fun u => u.cell? ⟨w.heap.size + 1, 0, none⟩ = some (.slice (some ⟨w.heap.size, 0, none⟩) 2 2) ∧ u.cell? ⟨w.heap.size + 1, 1, none⟩ = some (.int .i64 0) ∧ u.cell? ⟨w.heap.size + 1 + 1 + 1 + 1 + 1, 0, none⟩ = some (.int .i64 11) ∧ u.cell? ⟨w.heap.size + 1 + 1 + 1 + 1 + 1, 1, none⟩ = some (.int .i64 0) ∧ u.cell? ⟨w.heap.size + 1 + 1 + 1 + 1 + 1, 2, none⟩ = some (.int .u64 0) ∧ u.cell? ⟨w.heap.size + 1 + 1 + 1 + 1 + 1, 3, none⟩ = some (.slice none 0 0) ∧ u.cell? ⟨w.heap.size + 1 + 1 + 1 + 1 + 1, 4, none⟩ = some (.slice (some ⟨w.heap.size + 1 + 1 + 1 + 1, 0, none⟩) 2 2) ∧ u.cell? ⟨w.heap.size + 1 + 1 + 1 + 1 + 1, 5, none⟩ = some (.slice none 0 0) ∧ u.cell? ⟨w.heap.size + 1 + 1 + 1 + 1 + 1 + 1 + 1, 0, none⟩ = some (.int .i64 11) ∧ u.cell? ⟨w.heap.size + 1 + 1 + 1 + 1 + 1 + 1 + 1, 1, none⟩ = some (.int .i64 0) ∧ u.cell? ⟨w.heap.size + 1 + 1 + 1 + 1 + 1 + 1 + 1, 2, none⟩ = some (.int .u64 0) ∧ u.cell? ⟨w.heap.size + 1 + 1 + 1 + 1 + 1 + 1 + 1, 3, none⟩ = some (.slice none 0 0) ∧ u.cell? ⟨w.heap.size + 1 + 1 + 1 + 1 + 1 + 1 + 1, 4, none⟩ = some (.slice (some ⟨w.heap.size + 1 + 1 + 1 + 1 + 1 + 1, 0, none⟩) 2 2) ∧ u.cell? ⟨w.heap.size + 1 + 1 + 1 + 1 + 1 + 1 + 1, 5, none⟩ = some (.slice none 0 0)) (exact STH.out _ (by assumption)) (first
    | (go_at_call 7; with_reducible refine (CP.out _ (by assumption)).mono ?_; rintro e u ⟨B3, d3, B4, d4, B5, d5, rfl, lc, bu⟩; have bu2 := Below.next (by assumption) bu)
    | (go_at_call 8; with_reducible refine (SM.out _ (by assumption) _ _ _ _ _ _ (by assumption)).mono ?_; rintro e u ⟨rfl, bu⟩; have bu2 := Below.next (by assumption) bu)
    | (go_at_call 10; with_reducible refine (DP.out _ (by assumption)).mono ?_; rintro e u ⟨rfl, bu⟩; have bu2 := Below.next (by assumption) bu)
    | (go_at_call 15; with_reducible refine (CF1.out _ (by assumption)).mono ?_; rintro e u ⟨rfl, bu⟩; have bu2 := Below.next (by assumption) bu)
    | (go_at_call 15; with_reducible refine (CF0.out _ (by assumption)).mono ?_; rintro e u ⟨rfl, bu⟩; have bu2 := Below.next (by assumption) bu))
  go_wp2_with fail
  go_ret
  exact ⟨rfl, Below.next b0 (by assumption)⟩
theorem vgreat_any (t : V) (w : World) (A3 A4 A5 : Option Addr) (c3 c4 c5 : Nat) (ht : Lies w (· < w.heap.size) t.enc [.int .i64 t.k, .int .i64 t.n, .int .u64 t.bt, .slice A3 t.bs.length c3, .slice A4 t.its.length c4, .slice A5 t.ks.length c5]) :
    Calls Tryd.prog 5 #[.agg #[.int .i64 t.k, .int .i64 t.n, .int .u64 t.bt, .slice A3 t.bs.length c3, .slice A4 t.its.length c4, .slice A5 t.ks.length c5]] w (fun e w' => ∃ b : Bool, e = .returned (.bool b) ∧ (b = false → t.wt ≤ 2500 ∧ t.deep ≤ 81) ∧ Below w.heap.size w w') := by
  have CS := cell_set
  have W1 : Below w.heap.size w (w.alloc (.cells #[.int .i64 t.k, .int .i64 t.n, .int .u64 t.bt, .slice A3 t.bs.length c3, .slice A4 t.its.length c4, .slice A5 t.ks.length c5] 27)) := (Below.refl _ _).alloc (Nat.le_refl _) _
  have B0 : Hid (Calls Tryd.prog 17 #[.agg #[.int .i64 t.k, .int .i64 t.n, .int .u64 t.bt, .slice A3 t.bs.length c3, .slice A4 t.its.length c4, .slice A5 t.ks.length c5], .int .i64 2500, .int .i64 0] (w.alloc (.cells #[.int .i64 t.k, .int .i64 t.n, .int .u64 t.bt, .slice A3 t.bs.length c3, .slice A4 t.its.length c4, .slice A5 t.ks.length c5] 27)) (VBul t 0 (w.alloc (.cells #[.int .i64 t.k, .int .i64 t.n, .int .u64 t.bt, .slice A3 t.bs.length c3, .slice A4 t.its.length c4, .slice A5 t.ks.length c5] 27)))) := vbulk_any t 0 _ A3 A4 A5 c3 c4 c5 (by decide) (ht.on W1)
  clear ht
  go_enter Tryd.func5, Tryd.ntmps5
  go_wp2_with fail
  with_reducible refine B0.out.mono ?_
  rintro e w3 ⟨n, rfl, _, hd, b3⟩
  have bw : Below w.heap.size w w3 := by (repeat' (first | with_reducible assumption | with_reducible exact Below.refl _ _ | (with_reducible refine Below.alloc ?_ ?_ _; rotate_left; focus ((first | exact Nat.le_refl _ | (simp; done) | (simp; omega) | omega | fail))) | (with_reducible refine Below.setCell ?_ ?_ _; rotate_left; focus ((first | exact Nat.le_refl _ | (simp; done) | (simp; omega) | omega | fail))) | with_reducible refine Mem.bel_drewN ?_ _ | with_reducible refine Below.drew ?_ | (with_reducible refine Mem.bel_call (by with_reducible assumption) ?_ ?_; focus ((first | exact Nat.le_refl _ | (simp; done) | (simp; omega) | omega | fail))) | fail))
  have HD := Lib.hid hd
  clear hd
  by_cases h : (2500 : Int) < (n : Int)
  · have q : decide ((2500 : Int) < (n : Int)) = true := by simpa using h
    go_wp2_with fail
    go_ret
    exact ⟨true, rfl, (fun h => by cases h), bw⟩
  · have q : decide ((2500 : Int) < (n : Int)) = false := by simpa using h
    go_wp2_with fail
    go_ret
    exact ⟨false, by first | rfl | (rw [← q]; rfl), fun _ => by have := HD.out (by omega); omega, bw⟩
end Go.Proofs.YtlpmcohbbffbfaaDoor
namespace Go.Proofs.YtlpmcohbbffbfaaDoor
open Go.ChangeShapes Go.WideShapes Go.ChangeAt Go.RowKit Mem
set_option maxRecDepth 100000 in
set_option maxHeartbeats 2000000 in
theorem sgreat_any (sc : Sc) (w : World) (A : Option Addr) (c : Nat) (hs : Lies w (· < w.heap.size) sc.enc [.slice A sc.nodes.length c, .int .i64 sc.root]) :
    Calls Tryd.prog 12 #[.agg #[.slice A sc.nodes.length c, .int .i64 sc.root]] w (fun e w' => ∃ b : Bool, e = .returned (.bool b) ∧ (b = false → sc.sm) ∧ Below w.heap.size w w') := by
  have CS := cell_set
  have W1 : Below w.heap.size w (w.alloc (.cells #[.slice A sc.nodes.length c, .int .i64 sc.root] 35)) := (Below.refl _ _).alloc (Nat.le_refl _) _
  have B0 := Lib.hid (sbulk_any sc _ A c (hs.on W1))
  clear hs
  go_enter Tryd.func12, Tryd.ntmps12
  go_wp2_with fail
  with_reducible refine B0.out.mono ?_
  rintro e w3 ⟨n, rfl, hd, b3⟩
  have bw : Below w.heap.size w w3 := by (repeat' (first | with_reducible assumption | with_reducible exact Below.refl _ _ | (with_reducible refine Below.alloc ?_ ?_ _; rotate_left; focus ((first | exact Nat.le_refl _ | (simp; done) | (simp; omega) | omega | fail))) | (with_reducible refine Below.setCell ?_ ?_ _; rotate_left; focus ((first | exact Nat.le_refl _ | (simp; done) | (simp; omega) | omega | fail))) | with_reducible refine Mem.bel_drewN ?_ _ | with_reducible refine Below.drew ?_ | (with_reducible refine Mem.bel_call (by with_reducible assumption) ?_ ?_; focus ((first | exact Nat.le_refl _ | (simp; done) | (simp; omega) | omega | fail))) | fail))
  have HD := Lib.hid hd
  clear hd
  by_cases h : (2500 : Int) < (n : Int)
  · have q : decide ((2500 : Int) < (n : Int)) = true := by simpa using h
    go_wp2_with fail
    go_ret
    exact ⟨true, rfl, (fun h => by cases h), bw⟩
  · have q : decide ((2500 : Int) < (n : Int)) = false := by simpa using h
    go_wp2_with fail
    go_ret
    exact ⟨false, by first | rfl | (rw [← q]; rfl), fun _ => HD.out (by omega), bw⟩
end Go.Proofs.YtlpmcohbbffbfaaDoor
