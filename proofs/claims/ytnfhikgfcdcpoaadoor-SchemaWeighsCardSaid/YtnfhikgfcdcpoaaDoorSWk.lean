/- Layer 10: the chapter's example. -/
import Derived.Test.YtnfhikgfcdcpoaaDoorSCode
import Derived.Deep.RegionHeldLaw
namespace Go.Proofs.YtnfhikgfcdcpoaaDoor
open Go.ChangeShapes Go.WideShapes Go.ChangeAt Go.RowKit Mem

/-- The world with the chapter's example in it. -/
def exW (w : World) : World := (((w.alloc (.cells #[.string ⟨#[102]⟩, .slice none 0 0, .int .i64 1, .bool false, .int .i64 0, .int .i64 0, .string ⟨#[]⟩, .slice none 0 0, .slice none 0 0] 38)).alloc (.cells #[.int .i64 2, .int .i64 0] 3)).alloc (.cells #[.int .i64 9, .string ⟨#[114]⟩, .slice none 0 0, (.slice (some ⟨w.heap.size, 0, none⟩) 1 1), .slice none 0 0, .bool false, .string ⟨#[]⟩, .int .i64 0, .int .i64 0, .slice none 0 0, .int .i64 13, .string ⟨#[]⟩, .slice none 0 0, .slice none 0 0, .slice none 0 0, .bool false, .string ⟨#[]⟩, .int .i64 0, .int .i64 0, (.slice (some ⟨w.heap.size + 1, 0, none⟩) 2 2), .int .i64 1, .string ⟨#[]⟩, .slice none 0 0, .slice none 0 0, .slice none 0 0, .bool false, .string ⟨#[]⟩, .int .i64 0, .int .i64 0, .slice none 0 0] 33)).alloc (.cells #[.slice (some ⟨w.heap.size + 2, 0, none⟩) 3 3, .int .i64 0] 24)
theorem exW_size (w : World) : (exW w).heap.size = w.heap.size + 4 := by unfold exW; simp
theorem exW_below (w : World) : Below w.heap.size w (exW w) := by
  unfold exW
  exact ((((Below.refl _ _).alloc (Nat.le_refl _) _).alloc (by simp) _).alloc (by simp; omega) _).alloc (by simp; omega) _
theorem exW_0 (w : World) (j : Nat) : (exW w).cell? ⟨w.heap.size, j, none⟩ = #[.string ⟨#[102]⟩, .slice none 0 0, .int .i64 1, .bool false, .int .i64 0, .int .i64 0, .string ⟨#[]⟩, .slice none 0 0, .slice none 0 0][j]? := by
  refine cell_of_row _ _ _ _ 38 (0, 0) ?_
  unfold exW
  rw [Below.heap_alloc _ _ _ (by simp; omega), Below.heap_alloc _ _ _ (by simp; omega), Below.heap_alloc _ _ _ (by simp), heap_alloc_new]
theorem exW_1 (w : World) (j : Nat) : (exW w).cell? ⟨w.heap.size + 1, j, none⟩ = (#[.int .i64 2, .int .i64 0] : Array Value)[j]? := by
  refine cell_of_row _ _ _ _ 3 (0, 0) ?_
  unfold exW
  rw [Below.heap_alloc _ _ _ (by simp), Below.heap_alloc _ _ _ (by simp)]
  have := heap_alloc_new (w.alloc (.cells #[.string ⟨#[102]⟩, .slice none 0 0, .int .i64 1, .bool false, .int .i64 0, .int .i64 0, .string ⟨#[]⟩, .slice none 0 0, .slice none 0 0] 38)) (.cells #[.int .i64 2, .int .i64 0] 3)
  simpa using this
theorem exW_2 (w : World) (j : Nat) : (exW w).cell? ⟨w.heap.size + 2, j, none⟩ = (#[.int .i64 9, .string ⟨#[114]⟩, .slice none 0 0, (.slice (some ⟨w.heap.size, 0, none⟩) 1 1), .slice none 0 0, .bool false, .string ⟨#[]⟩, .int .i64 0, .int .i64 0, .slice none 0 0, .int .i64 13, .string ⟨#[]⟩, .slice none 0 0, .slice none 0 0, .slice none 0 0, .bool false, .string ⟨#[]⟩, .int .i64 0, .int .i64 0, (.slice (some ⟨w.heap.size + 1, 0, none⟩) 2 2), .int .i64 1, .string ⟨#[]⟩, .slice none 0 0, .slice none 0 0, .slice none 0 0, .bool false, .string ⟨#[]⟩, .int .i64 0, .int .i64 0, .slice none 0 0] : Array Value)[j]? := by
  refine cell_of_row _ _ _ _ 33 (0, 0) ?_
  unfold exW
  rw [Below.heap_alloc _ _ _ (by simp)]
  have := heap_alloc_new ((w.alloc (.cells #[.string ⟨#[102]⟩, .slice none 0 0, .int .i64 1, .bool false, .int .i64 0, .int .i64 0, .string ⟨#[]⟩, .slice none 0 0, .slice none 0 0] 38)).alloc (.cells #[.int .i64 2, .int .i64 0] 3)) (.cells #[.int .i64 9, .string ⟨#[114]⟩, .slice none 0 0, (.slice (some ⟨w.heap.size, 0, none⟩) 1 1), .slice none 0 0, .bool false, .string ⟨#[]⟩, .int .i64 0, .int .i64 0, .slice none 0 0, .int .i64 13, .string ⟨#[]⟩, .slice none 0 0, .slice none 0 0, .slice none 0 0, .bool false, .string ⟨#[]⟩, .int .i64 0, .int .i64 0, (.slice (some ⟨w.heap.size + 1, 0, none⟩) 2 2), .int .i64 1, .string ⟨#[]⟩, .slice none 0 0, .slice none 0 0, .slice none 0 0, .bool false, .string ⟨#[]⟩, .int .i64 0, .int .i64 0, .slice none 0 0] 33)
  simpa using this
theorem exW_3 (w : World) (j : Nat) : (exW w).cell? ⟨w.heap.size + 3, j, none⟩ = (#[.slice (some ⟨w.heap.size + 2, 0, none⟩) 3 3, .int .i64 0] : Array Value)[j]? := by
  refine cell_of_row _ _ _ _ 24 (0, 0) ?_
  have := heap_alloc_new (((w.alloc (.cells #[.string ⟨#[102]⟩, .slice none 0 0, .int .i64 1, .bool false, .int .i64 0, .int .i64 0, .string ⟨#[]⟩, .slice none 0 0, .slice none 0 0] 38)).alloc (.cells #[.int .i64 2, .int .i64 0] 3)).alloc (.cells #[.int .i64 9, .string ⟨#[114]⟩, .slice none 0 0, (.slice (some ⟨w.heap.size, 0, none⟩) 1 1), .slice none 0 0, .bool false, .string ⟨#[]⟩, .int .i64 0, .int .i64 0, .slice none 0 0, .int .i64 13, .string ⟨#[]⟩, .slice none 0 0, .slice none 0 0, .slice none 0 0, .bool false, .string ⟨#[]⟩, .int .i64 0, .int .i64 0, (.slice (some ⟨w.heap.size + 1, 0, none⟩) 2 2), .int .i64 1, .string ⟨#[]⟩, .slice none 0 0, .slice none 0 0, .slice none 0 0, .bool false, .string ⟨#[]⟩, .int .i64 0, .int .i64 0, .slice none 0 0] 33)) (.cells #[.slice (some ⟨w.heap.size + 2, 0, none⟩) 3 3, .int .i64 0] 24)
  unfold exW
  simpa using this
theorem exW_lies (w : World) : Lies (exW w) (· < (exW w).heap.size) ex10.enc [.slice (some ⟨w.heap.size + 2, 0, none⟩) 3 3, .int .i64 0] := by
  have h0 := exW_0 w; have h1 := exW_1 w; have h2 := exW_2 w
  have hS : ∀ k, k < 4 → w.heap.size + k < (exW w).heap.size := fun k hk => by rw [exW_size]; omega
  generalize exW w = W at *
  refine Sc.out.2 ⟨_, 3, rfl, ⟨Nat.le_refl _, by unfold maxLen; decide⟩, ?_⟩
  have r9 : RowD W (· < W.heap.size) 1 (([2, 0] : List Int).map (D.i .i64)) (some ⟨w.heap.size + 1, 0, none⟩) := by
    simp only [List.map_cons, List.map_nil]
    unfold RowD RowD RowD
    refine ⟨_, _, [.int .i64 2], rfl, hS 1 (by omega), rfl, (fun j hj => ?_), lies_i.2 rfl, _, _, [.int .i64 0], rfl, hS 1 (by omega), rfl, (fun j hj => ?_), lies_i.2 rfl, trivial⟩
    all_goals
      obtain rfl : j = 0 := by omega
      rw [h1]
      rfl
  have r3 : RowD W (· < W.heap.size) 9 ([(⟨⟨#[102]⟩, [], 1, false, zJ⟩ : Fd)].map Fd.enc) (some ⟨w.heap.size, 0, none⟩) := by
    simp only [List.map_cons, List.map_nil]
    unfold RowD RowD
    refine ⟨_, _, _, rfl, hS 0 (by omega), rfl, (fun j hj => ?_), Fd.out.2 ⟨none, 0, none, 0, none, 0, rfl, ⟨Nat.le_refl _, Nat.zero_le _⟩, .inl rfl, ?_⟩, trivial⟩
    · rw [h0]
      obtain rfl | rfl | rfl | rfl | rfl | rfl | rfl | rfl | rfl : j = 0 ∨ j = 1 ∨ j = 2 ∨ j = 3 ∨ j = 4 ∨ j = 5 ∨ j = 6 ∨ j = 7 ∨ j = 8 := by omega
      all_goals rfl
    · refine tree_lies.1 ?_
      show Lies W _ (J.enc zJ) _
      unfold zJ J.enc J.encs
      rw [lies_ag]
      simp only [liesA_cons, liesA_nil, lies_i, lies_s, lies_sl]
      exact ⟨[_], _, rfl, rfl, [_], _, rfl, rfl, [_], _, rfl, rfl, [_], _, rfl, ⟨none, 0, rfl, Nat.le_refl _, Nat.zero_le _, RowD.nil_ _ _ _ _⟩, [_], [], rfl, ⟨none, 0, rfl, Nat.le_refl _, Nat.zero_le _, RowD.nil_ _ _ _ _⟩, rfl⟩
  show RowD W _ 10 (ex10.nodes.map Nd.enc) _
  unfold ex10
  simp only [List.map_cons, List.map_nil]
  unfold RowD
  refine ⟨w.heap.size + 2, _, _, rfl, hS 2 (by omega), rfl, (fun j hj => by
      rw [h2]
      obtain rfl | rfl | rfl | rfl | rfl | rfl | rfl | rfl | rfl | rfl : j = 0 ∨ j = 1 ∨ j = 2 ∨ j = 3 ∨ j = 4 ∨ j = 5 ∨ j = 6 ∨ j = 7 ∨ j = 8 ∨ j = 9 := by omega
      all_goals rfl), Nd.out.2 ⟨none, 0, some ⟨w.heap.size, 0, none⟩, 1, none, 0, none, 0, rfl, ⟨Nat.le_refl _, Nat.zero_le _⟩, .inl rfl, ⟨Nat.le_refl _, by unfold maxLen; decide⟩, r3, ⟨Nat.le_refl _, Nat.zero_le _⟩, .inl rfl, ⟨Nat.le_refl _, Nat.zero_le _⟩, RowD.nil_ _ _ _ _⟩, ?_⟩
  unfold RowD
  refine ⟨w.heap.size + 2, _, _, rfl, hS 2 (by omega), rfl, (fun j hj => by
      rw [h2]
      obtain rfl | rfl | rfl | rfl | rfl | rfl | rfl | rfl | rfl | rfl : j = 0 ∨ j = 1 ∨ j = 2 ∨ j = 3 ∨ j = 4 ∨ j = 5 ∨ j = 6 ∨ j = 7 ∨ j = 8 ∨ j = 9 := by omega
      all_goals rfl), Nd.out.2 ⟨none, 0, none, 0, none, 0, some ⟨w.heap.size + 1, 0, none⟩, 2, rfl, ⟨Nat.le_refl _, Nat.zero_le _⟩, .inl rfl, ⟨Nat.le_refl _, Nat.zero_le _⟩, RowD.nil_ _ _ _ _, ⟨Nat.le_refl _, Nat.zero_le _⟩, .inl rfl, ⟨Nat.le_refl _, by unfold maxLen; decide⟩, r9⟩, ?_⟩
  unfold RowD
  refine ⟨w.heap.size + 2, _, _, rfl, hS 2 (by omega), rfl, (fun j hj => by
      rw [h2]
      obtain rfl | rfl | rfl | rfl | rfl | rfl | rfl | rfl | rfl | rfl : j = 0 ∨ j = 1 ∨ j = 2 ∨ j = 3 ∨ j = 4 ∨ j = 5 ∨ j = 6 ∨ j = 7 ∨ j = 8 ∨ j = 9 := by omega
      all_goals rfl), Nd.out.2 ⟨none, 0, none, 0, none, 0, none, 0, rfl, ⟨Nat.le_refl _, Nat.zero_le _⟩, .inl rfl, ⟨Nat.le_refl _, Nat.zero_le _⟩, RowD.nil_ _ _ _ _, ⟨Nat.le_refl _, Nat.zero_le _⟩, .inl rfl, ⟨Nat.le_refl _, Nat.zero_le _⟩, RowD.nil_ _ _ _ _⟩, ?_⟩
  unfold RowD
  trivial
theorem exW_node (w : World) : Lies (exW w) (· < (exW w).heap.size) (Nd.enc ⟨13, ⟨#[]⟩, [], [], [], false, ⟨#[]⟩, 0, 0, [2, 0]⟩) [.int .i64 13, .string ⟨#[]⟩, .slice none 0 0, .slice none 0 0, .slice none 0 0, .bool false, .string ⟨#[]⟩, .int .i64 0, .int .i64 0, (.slice (some ⟨w.heap.size + 1, 0, none⟩) 2 2)] := by
  obtain ⟨_, _, e, _, r⟩ := Sc.out.1 (exW_lies w)
  simp only [List.cons.injEq, Value.slice.injEq, and_true] at e
  obtain ⟨⟨rfl, -, rfl⟩, -⟩ := e
  obtain ⟨g, o, A2, c2, A3, c3, A4, c4, A9, c9, e, _, ⟨_, _, k2, k3, k4, _, _, _, _, k9⟩, hl⟩ := nodes_at r (i := 1) (by decide)
  simp only [Option.some.injEq, Addr.mk.injEq, and_true] at e
  obtain ⟨rfl, rfl⟩ := e
  rw [exW_2] at k2 k3 k4 k9
  simp at k2 k3 k4 k9
  obtain ⟨rfl, -, rfl⟩ := k2
  obtain ⟨rfl, -, rfl⟩ := k3
  obtain ⟨rfl, -, rfl⟩ := k4
  obtain ⟨rfl, -, rfl⟩ := k9
  exact hl
theorem ex_sm : ex10.sm := by
  have kf : ∀ f ∈ [(⟨⟨#[102]⟩, [], 1, false, zJ⟩ : Fd)], f.sm := by
    intro f hf
    simp only [List.mem_singleton] at hf
    subst hf
    exact ⟨by decide, by decide, by decide, by decide⟩
  have key : ∀ n ∈ ex10.nodes, n.sm := by
    intro n hn
    unfold ex10 at hn
    simp only [List.mem_cons, List.not_mem_nil, or_false] at hn
    rcases hn with rfl | rfl | rfl
    · exact ⟨by decide, by decide, by decide, by decide, by decide, by decide, fun i h => kf _ (List.getElem_mem h)⟩
    · exact ⟨by decide, by decide, by decide, by decide, by decide, by decide, fun i h => absurd h (Nat.not_lt_zero _)⟩
    · exact ⟨by decide, by decide, by decide, by decide, by decide, by decide, fun i h => absurd h (Nat.not_lt_zero _)⟩
  exact ⟨by decide, fun i h => key _ (List.getElem_mem h)⟩
/-- What the region of the example reads. -/
def ExS (w u : World) : Prop := u.cell? ⟨w.heap.size + 3, 0, none⟩ = some (.slice (some ⟨w.heap.size + 2, 0, none⟩) 3 3) ∧ u.cell? ⟨w.heap.size + 3, 1, none⟩ = some (.int .i64 0) ∧ u.cell? ⟨w.heap.size + 2, 10, none⟩ = some (.int .i64 13) ∧ u.cell? ⟨w.heap.size + 2, 11, none⟩ = some (.string ⟨#[]⟩) ∧ u.cell? ⟨w.heap.size + 2, 12, none⟩ = some (.slice none 0 0) ∧ u.cell? ⟨w.heap.size + 2, 13, none⟩ = some (.slice none 0 0) ∧ u.cell? ⟨w.heap.size + 2, 14, none⟩ = some (.slice none 0 0) ∧ u.cell? ⟨w.heap.size + 2, 15, none⟩ = some (.bool false) ∧ u.cell? ⟨w.heap.size + 2, 16, none⟩ = some (.string ⟨#[]⟩) ∧ u.cell? ⟨w.heap.size + 2, 17, none⟩ = some (.int .i64 0) ∧ u.cell? ⟨w.heap.size + 2, 18, none⟩ = some (.int .i64 0) ∧ u.cell? ⟨w.heap.size + 2, 19, none⟩ = some (.slice (some ⟨w.heap.size + 1, 0, none⟩) 2 2)
theorem exS_of (w : World) {u : World} (b : Below (exW w).heap.size (exW w) u) : ExS w u := by
  have hS := exW_size w
  refine ⟨?_, ?_, ?_, ?_, ?_, ?_, ?_, ?_, ?_, ?_, ?_, ?_⟩
  · exact (b.cell (p := ⟨w.heap.size + 3, 0, none⟩) (by rw [hS]; show _ + 3 < _ + 4; omega)).trans (exW_3 w 0)
  · exact (b.cell (p := ⟨w.heap.size + 3, 1, none⟩) (by rw [hS]; show _ + 3 < _ + 4; omega)).trans (exW_3 w 1)
  · exact (b.cell (p := ⟨w.heap.size + 2, 10, none⟩) (by rw [hS]; show _ + 2 < _ + 4; omega)).trans (exW_2 w 10)
  · exact (b.cell (p := ⟨w.heap.size + 2, 11, none⟩) (by rw [hS]; show _ + 2 < _ + 4; omega)).trans (exW_2 w 11)
  · exact (b.cell (p := ⟨w.heap.size + 2, 12, none⟩) (by rw [hS]; show _ + 2 < _ + 4; omega)).trans (exW_2 w 12)
  · exact (b.cell (p := ⟨w.heap.size + 2, 13, none⟩) (by rw [hS]; show _ + 2 < _ + 4; omega)).trans (exW_2 w 13)
  · exact (b.cell (p := ⟨w.heap.size + 2, 14, none⟩) (by rw [hS]; show _ + 2 < _ + 4; omega)).trans (exW_2 w 14)
  · exact (b.cell (p := ⟨w.heap.size + 2, 15, none⟩) (by rw [hS]; show _ + 2 < _ + 4; omega)).trans (exW_2 w 15)
  · exact (b.cell (p := ⟨w.heap.size + 2, 16, none⟩) (by rw [hS]; show _ + 2 < _ + 4; omega)).trans (exW_2 w 16)
  · exact (b.cell (p := ⟨w.heap.size + 2, 17, none⟩) (by rw [hS]; show _ + 2 < _ + 4; omega)).trans (exW_2 w 17)
  · exact (b.cell (p := ⟨w.heap.size + 2, 18, none⟩) (by rw [hS]; show _ + 2 < _ + 4; omega)).trans (exW_2 w 18)
  · exact (b.cell (p := ⟨w.heap.size + 2, 19, none⟩) (by rw [hS]; show _ + 2 < _ + 4; omega)).trans (exW_2 w 19)

set_option maxRecDepth 100000 in
set_option maxHeartbeats 8000000 in
theorem works10_any (w : World) (hL : LaidN w) : Calls Tryd.prog 7 #[] w (Told true w) := by
  have CS := cell_set
  have eW : Hid (∀ W, W = exW w → Below w.heap.size w W ∧ LaidN W ∧ Lies W (· < W.heap.size) ex10.enc [.slice (some ⟨w.heap.size + 2, 0, none⟩) 3 3, .int .i64 0] ∧ (∀ u, Below W.heap.size W u → ExS w u)) := fun W h => by
    subst h
    exact ⟨exW_below w, hL.below (exW_below w), exW_lies w, fun u b => exS_of w b⟩
  have KN := Lib.hid (exW_node w)
  go_enter Tryd.func7, Tryd.ntmps7
  go_wp2_with fail
  obtain ⟨W, hW⟩ : ∃ W, W = exW w := ⟨_, rfl⟩
  have HW := Lib.hid hW
  unfold exW at hW
  rw [← hW]
  clear hW
  obtain ⟨b0, LW, lies, ST⟩ := eW.out W HW.out
  have KN2 := KN.out
  rw [← HW.out] at KN2
  have R1 : Hid (∀ U, Below W.heap.size W U → Calls Tryd.prog 10 #[.agg #[.slice (some ⟨w.heap.size + 2, 0, none⟩) 3 3, .int .i64 0]] U (fun e w' => e = .returned (.bool true) ∧ Below U.heap.size U w')) := fun U b =>
    (sRightX_any ex10 ex_sm U (LW.below b) _ 3 (lies.on b)).mono fun _ _ ⟨x, h1, h2, h3⟩ => ⟨by rw [h1, h2.2 right_ex], h3⟩
  have R0 : Hid (∀ U, Below W.heap.size W U → Calls Tryd.prog 10 #[.agg #[.slice none 0 0, .int .i64 0]] U (fun e w' => e = .returned (.bool false) ∧ Below U.heap.size U w')) := fun U b =>
    (sRightX_any ⟨[], 0⟩ ⟨by decide, fun i h => absurd h (Nat.not_lt_zero _)⟩ U (LW.below b) none 0 (Sc.out.2 ⟨none, 0, rfl, ⟨Nat.le_refl _, Nat.zero_le _⟩, RowD.nil_ _ _ _ _⟩)).mono fun _ _ ⟨x, h1, h2, h3⟩ => ⟨by
      rw [h1]
      cases x with
      | false => rfl
      | true => exact absurd (Sc.right_is (h2.1 rfl)).1.1 (by decide), h3⟩
  have fnd : plc (ex10.find ⟨#[114]⟩) = 0 := by decide
  have FN : Hid (∀ U, Below W.heap.size W U → Calls Tryd.prog 12 #[.agg #[.slice (some ⟨w.heap.size + 2, 0, none⟩) 3 3, .int .i64 0], .string ⟨#[114]⟩] U (fun e w' => e = .returned (.int .i64 0) ∧ Below U.heap.size U w')) := fun U b =>
    (sFind_any ex10 ex_sm ⟨#[114]⟩ U _ 3 (lies.on b)).mono fun _ _ ⟨h1, h2⟩ => ⟨by rw [h1, fnd], h2⟩
  have KD : Hid (∀ U, Below W.heap.size W U → Calls Tryd.prog 13 #[.agg #[.int .i64 13, .string ⟨#[]⟩, .slice none 0 0, .slice none 0 0, .slice none 0 0, .bool false, .string ⟨#[]⟩, .int .i64 0, .int .i64 0, .slice (some ⟨w.heap.size + 1, 0, none⟩) 2 2]] U (fun e w' => ∃ A c, e = .returned (.slice A 2 c) ∧ Below U.heap.size U w')) := fun U b =>
    (sKids_any _ (by decide) (by decide) U none none none _ 0 0 0 2 (KN2.on b)).mono fun _ _ ⟨A, c, h1, _, _, h2⟩ => ⟨A, c, h1, h2⟩
  have CP : Hid (∀ U, Below W.heap.size W U → Calls Tryd.prog 8 #[.agg #[.slice (some ⟨w.heap.size + 2, 0, none⟩) 3 3, .int .i64 0]] U (fun e w' => ∃ A c, e = .returned (.agg #[.slice A 3 c, .int .i64 0]) ∧ Lies w' (· < w'.heap.size) ex10.enc [.slice A 3 c, .int .i64 0] ∧ Below U.heap.size U w')) := fun U b =>
    (sCopy_any ex10 ex_sm U _ 3 (lies.on b)).mono fun _ _ ⟨v, h1, ⟨A, c, S, h2, h3, h4, _⟩, h5⟩ => ⟨A, c, by rw [h1, h2]; rfl, h4.keep (fun _ _ => rfl) fun k hk => (h3 k hk).2, h5⟩
  have SM : Hid (∀ U, Below W.heap.size W U → ∀ B d, Lies U (· < U.heap.size) ex10.enc [.slice B 3 d, .int .i64 0] → Calls Tryd.prog 16 #[.agg #[.slice (some ⟨w.heap.size + 2, 0, none⟩) 3 3, .int .i64 0], .agg #[.slice B 3 d, .int .i64 0]] U (Told true U)) := fun U b B d hb => sSame_any ex10 U _ B 3 d (lies.on b) hb
  unfold Told at SM
  have STH := Lib.hid ST
  clear fnd ST KN KN2 lies eW
  have bW0 : Below W.heap.size W W := Below.refl _ _
  have bW : Below W.heap.size W W.drew := (Below.refl _ _).drew
  clear HW LW hL CS
  go_region_held_law (fun u => u.cell? ⟨w.heap.size + 3, 0, none⟩ = some (.slice (some ⟨w.heap.size + 2, 0, none⟩) 3 3) ∧ u.cell? ⟨w.heap.size + 3, 1, none⟩ = some (.int .i64 0) ∧ u.cell? ⟨w.heap.size + 2, 10, none⟩ = some (.int .i64 13) ∧ u.cell? ⟨w.heap.size + 2, 11, none⟩ = some (.string ⟨#[]⟩) ∧ u.cell? ⟨w.heap.size + 2, 12, none⟩ = some (.slice none 0 0) ∧ u.cell? ⟨w.heap.size + 2, 13, none⟩ = some (.slice none 0 0) ∧ u.cell? ⟨w.heap.size + 2, 14, none⟩ = some (.slice none 0 0) ∧ u.cell? ⟨w.heap.size + 2, 15, none⟩ = some (.bool false) ∧ u.cell? ⟨w.heap.size + 2, 16, none⟩ = some (.string ⟨#[]⟩) ∧ u.cell? ⟨w.heap.size + 2, 17, none⟩ = some (.int .i64 0) ∧ u.cell? ⟨w.heap.size + 2, 18, none⟩ = some (.int .i64 0) ∧ u.cell? ⟨w.heap.size + 2, 19, none⟩ = some (.slice (some ⟨w.heap.size + 1, 0, none⟩) 2 2)) (exact STH.out _ (by assumption)) (first
    | (go_at_call 12; with_reducible refine (FN.out _ (by assumption)).mono ?_; rintro e u ⟨rfl, bu⟩; have bu2 := Below.next (by assumption) bu)
    | (go_at_call 13; with_reducible refine (KD.out _ (by assumption)).mono ?_; rintro e u ⟨A, c, rfl, bu⟩; have bu2 := Below.next (by assumption) bu)
    | (go_at_call 8; with_reducible refine (CP.out _ (by assumption)).mono ?_; rintro e u ⟨A, c, rfl, lc, bu⟩; have bu2 := Below.next (by assumption) bu)
    | (go_at_call 16; with_reducible refine (SM.out _ (by assumption) _ _ (by assumption)).mono ?_; rintro e u ⟨rfl, bu⟩; have bu2 := Below.next (by assumption) bu)
    | (go_at_call 10; with_reducible refine (R1.out _ (by assumption)).mono ?_; rintro e u ⟨rfl, bu⟩; have bu2 := Below.next (by assumption) bu)
    | (go_at_call 10; with_reducible refine (R0.out _ (by assumption)).mono ?_; rintro e u ⟨rfl, bu⟩; have bu2 := Below.next (by assumption) bu))
  go_wp2_with fail
  go_ret
  exact ⟨rfl, Below.next b0 (by assumption)⟩
end Go.Proofs.YtnfhikgfcdcpoaaDoor
