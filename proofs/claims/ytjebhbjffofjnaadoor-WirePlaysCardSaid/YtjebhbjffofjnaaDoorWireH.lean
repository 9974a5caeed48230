/- Layer 4: a call on both sides, the rest. -/
import Derived.Test.YtjebhbjffofjnaaDoorWireG
namespace Go.Proofs.YtjebhbjffofjnaaDoor
open Go.ChangeShapes Go.WideShapes Go.ChangeAt Go.RowKit Mem

set_option maxRecDepth 100000 in
set_option maxHeartbeats 1000000 in
theorem does4 (g : Nat) (A : Option Addr) (c : Nat) (l : List UInt8) (a e size : Int) (w : World) (_hL : Laid w) (h : RSt w g A l c a e) (hb : Bys w g A l) (hl : l.length ≤ 140000000000) (hc : l.length ≤ c) :
    Calls Tryd.prog 8 #[.agg #[.int .i64 4, .int .i64 size], (.agg #[.slice A (List.length l) c, .int .i64 a, .int .i64 e]), .pointer (some ⟨g, 0, none⟩)] w (Does g (Wr.fxd l a e size).2.1 (Wr.fxd l a e size).2.2 A l c w) := by
  have P0 := fun W hb => Fixed_any A c l a e size W hb hl hc
  have R0 := fun W h hb => rFixed_any g A c l a e size W h hb hl hc
  obtain ⟨⟨X, m, r⟩, hR⟩ : ∃ R, R = Wr.fxd l a e size := ⟨_, rfl⟩
  rw [← hR] at P0 R0 ⊢
  clear hR
  obtain ⟨N, hN⟩ : ∃ N, X.length = N := ⟨_, rfl⟩
  have HN := Lib.hid hN
  clear hN
  have P := Lib.hid P0
  have R := Lib.hid R0
  clear P0 R0
  have g0 := h.lt
  go_enter Tryd.func8, Tryd.ntmps8
  go_wp2_with fail
  refine (P.out _ ((hb.more (Nat.le_of_lt g0)).now (by (repeat' (first | with_reducible assumption | with_reducible exact Below.refl _ _ | (with_reducible refine Below.alloc ?_ ?_ _; rotate_left; focus ((first | exact Nat.le_refl _ | (simp; done) | (simp; omega) | omega | fail))) | (with_reducible refine Below.setCell ?_ ?_ _; rotate_left; focus ((first | exact Nat.le_refl _ | (simp; done) | (simp; omega) | omega | fail))) | with_reducible refine Mem.bel_drewN ?_ _ | with_reducible refine Below.drew ?_ | (with_reducible refine Mem.bel_call (by with_reducible assumption) ?_ ?_; focus ((first | exact Nat.le_refl _ | (simp; done) | (simp; omega) | omega | fail))) | fail))))).mono ?_
  rintro e w1 h1
  obtain ⟨A1, c1, rfl, hc1, y1, b1⟩ := saysF_out HN.out h1
  have y1 := y1.less (B' := w.heap.size + 1 + 1 + 1) (by first | exact Nat.le_refl _ | assumption | (simp; done) | (simp; omega) | omega)
  have hSz := Below.size b1; try simp at hSz
  have hOwn := Nat.lt_of_lt_of_le (n := (w.heap.size + 1 + 1)) (by first | exact Nat.le_refl _ | assumption | (simp; done) | (simp; omega) | omega) (Below.size b1)
  have hOwn1 := Nat.ne_of_gt hOwn
  have hOwn2 := Nat.ne_of_lt hOwn
  have hOwn := (Below.cell b1 (p := ⟨(w.heap.size + 1 + 1), 0, none⟩) (by first | exact Nat.le_refl _ | assumption | (simp; done) | (simp; omega) | omega)).trans (by go_simp; rfl)
  have hOwn := (Below.cell b1 (p := ⟨(w.heap.size + 1 + 1), 1, none⟩) (by first | exact Nat.le_refl _ | assumption | (simp; done) | (simp; omega) | omega)).trans (by go_simp; rfl)
  have hOwn := (Below.cell b1 (p := ⟨(w.heap.size + 1 + 1), 2, none⟩) (by first | exact Nat.le_refl _ | assumption | (simp; done) | (simp; omega) | omega)).trans (by go_simp; rfl)
  have hOwn := (Below.frozen b1 (p := ⟨(w.heap.size + 1 + 1), 0, none⟩) (by first | exact Nat.le_refl _ | assumption | (simp; done) | (simp; omega) | omega)).trans (by go_simp; rfl)
  have hOwn := (Below.frozen b1 (p := ⟨(w.heap.size + 1 + 1), 1, none⟩) (by first | exact Nat.le_refl _ | assumption | (simp; done) | (simp; omega) | omega)).trans (by go_simp; rfl)
  have hOwn := (Below.frozen b1 (p := ⟨(w.heap.size + 1 + 1), 2, none⟩) (by first | exact Nat.le_refl _ | assumption | (simp; done) | (simp; omega) | omega)).trans (by go_simp; rfl)
  have hOwn := Nat.lt_of_lt_of_le (n := w.heap.size) (by first | exact Nat.le_refl _ | assumption | (simp; done) | (simp; omega) | omega) (Below.size b1)
  have hOwn1 := Nat.ne_of_gt hOwn
  have hOwn2 := Nat.ne_of_lt hOwn
  have hOwn := (Below.cell b1 (p := ⟨w.heap.size, 0, none⟩) (by first | exact Nat.le_refl _ | assumption | (simp; done) | (simp; omega) | omega)).trans (by go_simp; rfl)
  have hOwn := (Below.cell b1 (p := ⟨w.heap.size, 1, none⟩) (by first | exact Nat.le_refl _ | assumption | (simp; done) | (simp; omega) | omega)).trans (by go_simp; rfl)
  have hOwn := (Below.frozen b1 (p := ⟨w.heap.size, 0, none⟩) (by first | exact Nat.le_refl _ | assumption | (simp; done) | (simp; omega) | omega)).trans (by go_simp; rfl)
  have hOwn := (Below.frozen b1 (p := ⟨w.heap.size, 1, none⟩) (by first | exact Nat.le_refl _ | assumption | (simp; done) | (simp; omega) | omega)).trans (by go_simp; rfl)
  have t1 : RSt w1 g A l c a e := (((h.alloc _).alloc _).alloc _).below b1 (by simp; omega)
  have s1 : Save g w w1 := Save.of (by (repeat' (first | with_reducible assumption | with_reducible exact Below.refl _ _ | (with_reducible refine Below.alloc ?_ ?_ _; rotate_left; focus ((first | exact Nat.le_refl _ | (simp; done) | (simp; omega) | omega | fail))) | (with_reducible refine Below.setCell ?_ ?_ _; rotate_left; focus ((first | exact Nat.le_refl _ | (simp; done) | (simp; omega) | omega | fail))) | with_reducible refine Mem.bel_drewN ?_ _ | with_reducible refine Below.drew ?_ | (with_reducible refine Mem.bel_call (by with_reducible assumption) ?_ ?_; focus ((first | exact Nat.le_refl _ | (simp; done) | (simp; omega) | omega | fail))) | fail))) (Nat.le_of_lt g0)
  have g1 := t1.lt
  have n1 : w1.heap.size ≠ g := by omega
  have cv : ∀ W, Bys W W.heap.size A1 X → (convert 22 9 (.slice A1 N c1)).run Tryd.prog W = .ok (.string ⟨X.toArray⟩) W := fun W h => by have := h.str byteT strT c1; rw [HN.out] at this; exact this
  have CV := Lib.hid cv
  clear cv
  go_wp2_with fail
  obtain ⟨w0, hw0⟩ : ∃ w0, w0 = w1.alloc (.cells #[.slice A l.length c, .int .i64 m, .int .i64 r] 27) := ⟨_, rfl⟩
  have c0 : w0.cell? ⟨w1.heap.size, 0, none⟩ = some (.slice A l.length c) := by rw [hw0]; go_simp
  have c2 : w0.cell? ⟨w1.heap.size, 1, none⟩ = some (.int .i64 m) := by rw [hw0]; go_simp
  have c3 : w0.cell? ⟨w1.heap.size, 2, none⟩ = some (.int .i64 r) := by rw [hw0]; go_simp
  have b0 : Below w1.heap.size w1 w0 := by rw [hw0]; exact (Below.refl _ _).alloc (Nat.le_refl _) _
  have z0 : w0.heap.size = w1.heap.size + 1 := by rw [hw0]; simp
  have t0 : RSt w0 g A l c a e := t1.below b0 g1
  have s0 : Save g w w0 := Save.call b0 (Nat.le_of_lt g1) s1
  have hOwn := Nat.lt_of_lt_of_le (n := (w.heap.size + 1 + 1)) (by first | exact Nat.le_refl _ | assumption | (simp; done) | (simp; omega) | omega) (Below.size b0)
  have hOwn1 := Nat.ne_of_gt hOwn
  have hOwn2 := Nat.ne_of_lt hOwn
  have hOwn := (Below.cell b0 (p := ⟨(w.heap.size + 1 + 1), 0, none⟩) (by first | exact Nat.le_refl _ | assumption | (simp; done) | (simp; omega) | omega)).trans (by go_simp; rfl)
  have hOwn := (Below.cell b0 (p := ⟨(w.heap.size + 1 + 1), 1, none⟩) (by first | exact Nat.le_refl _ | assumption | (simp; done) | (simp; omega) | omega)).trans (by go_simp; rfl)
  have hOwn := (Below.cell b0 (p := ⟨(w.heap.size + 1 + 1), 2, none⟩) (by first | exact Nat.le_refl _ | assumption | (simp; done) | (simp; omega) | omega)).trans (by go_simp; rfl)
  have hOwn := (Below.frozen b0 (p := ⟨(w.heap.size + 1 + 1), 0, none⟩) (by first | exact Nat.le_refl _ | assumption | (simp; done) | (simp; omega) | omega)).trans (by go_simp; rfl)
  have hOwn := (Below.frozen b0 (p := ⟨(w.heap.size + 1 + 1), 1, none⟩) (by first | exact Nat.le_refl _ | assumption | (simp; done) | (simp; omega) | omega)).trans (by go_simp; rfl)
  have hOwn := (Below.frozen b0 (p := ⟨(w.heap.size + 1 + 1), 2, none⟩) (by first | exact Nat.le_refl _ | assumption | (simp; done) | (simp; omega) | omega)).trans (by go_simp; rfl)
  have hOwn := Nat.lt_of_lt_of_le (n := w.heap.size) (by first | exact Nat.le_refl _ | assumption | (simp; done) | (simp; omega) | omega) (Below.size b0)
  have hOwn1 := Nat.ne_of_gt hOwn
  have hOwn2 := Nat.ne_of_lt hOwn
  have hOwn := (Below.cell b0 (p := ⟨w.heap.size, 0, none⟩) (by first | exact Nat.le_refl _ | assumption | (simp; done) | (simp; omega) | omega)).trans (by go_simp; rfl)
  have hOwn := (Below.cell b0 (p := ⟨w.heap.size, 1, none⟩) (by first | exact Nat.le_refl _ | assumption | (simp; done) | (simp; omega) | omega)).trans (by go_simp; rfl)
  have hOwn := (Below.frozen b0 (p := ⟨w.heap.size, 0, none⟩) (by first | exact Nat.le_refl _ | assumption | (simp; done) | (simp; omega) | omega)).trans (by go_simp; rfl)
  have hOwn := (Below.frozen b0 (p := ⟨w.heap.size, 1, none⟩) (by first | exact Nat.le_refl _ | assumption | (simp; done) | (simp; omega) | omega)).trans (by go_simp; rfl)
  have y0 : Bys w0 w0.heap.size A1 X := (y1.now b0).1
  rw [← hw0]
  have Z0 := Lib.hid z0
  clear hw0 z0
  go_region_held_law (fun w' => w'.cell? ⟨w1.heap.size, 0, none⟩ = some (.slice A l.length c) ∧ w'.cell? ⟨w1.heap.size, 1, none⟩ = some (.int .i64 m) ∧ w'.cell? ⟨w1.heap.size, 2, none⟩ = some (.int .i64 r) ∧ w'.cell? ⟨w.heap.size, 1, none⟩ = some (.int .i64 size) ∧ (convert 22 9 (.slice A1 N c1)).run Tryd.prog w' = .ok (.string ⟨X.toArray⟩) w') (exact ⟨(by first | with_reducible assumption | (go_simp; done)), (by first | with_reducible assumption | (go_simp; done)), (by first | with_reducible assumption | (go_simp; done)), (by first | with_reducible assumption | (go_simp; done)), (by first | with_reducible assumption | exact CV.out _ y0.drew | (go_simp; done))⟩) (first
    | (go_at_call 31; refine (R.out _ t0.drew (s0.bys hb (Nat.le_refl _)).drew).mono ?_; rintro e w2 h2; obtain ⟨A2, cc2, rfl, hcc2, y2, t2, s2⟩ := savesF_out HN.out h2; have v2 : (convert 22 9 (.slice A2 N cc2)).run Tryd.prog w2 = .ok (.string ⟨X.toArray⟩) w2 := (by have := y2.1.str byteT strT cc2; rw [HN.out] at this; exact this); have v1 : (convert 22 9 (.slice A1 N c1)).run Tryd.prog w2 = .ok (.string ⟨X.toArray⟩) w2 := CV.out _ (y1_save s2 (y1.now b0).drew (by omega)); have x1 : NewBys (w.heap.size + 1 + 1 + 1) w2 A1 X := ⟨y1_save s2 (y1.now b0).drew (by omega), y1.2⟩; have x2 : NewBys (w.heap.size + 1 + 1 + 1) w2 A2 X := y2.less (by have := Z0.out; show w.heap.size + 1 + 1 + 1 ≤ w0.heap.size; omega); have u1 := CV.out _ (((x1.set (p := ⟨w.heap.size + 1 + 1, 0, none⟩) (by show w.heap.size + 1 + 1 < w.heap.size + 1 + 1 + 1; omega) (.slice A l.length c)).set (p := ⟨w.heap.size + 1 + 1, 1, none⟩) (by show w.heap.size + 1 + 1 < w.heap.size + 1 + 1 + 1; omega) (.int .i64 m)).set (p := ⟨w.heap.size + 1 + 1, 2, none⟩) (by show w.heap.size + 1 + 1 < w.heap.size + 1 + 1 + 1; omega) (.int .i64 r)).1; have u2 := (((x2.set (p := ⟨w.heap.size + 1 + 1, 0, none⟩) (by show w.heap.size + 1 + 1 < w.heap.size + 1 + 1 + 1; omega) (.slice A l.length c)).set (p := ⟨w.heap.size + 1 + 1, 1, none⟩) (by show w.heap.size + 1 + 1 < w.heap.size + 1 + 1 + 1; omega) (.int .i64 m)).set (p := ⟨w.heap.size + 1 + 1, 2, none⟩) (by show w.heap.size + 1 + 1 < w.heap.size + 1 + 1 + 1; omega) (.int .i64 r)).1.str byteT strT cc2; rw [HN.out] at u2; have s3 : Save g w w2 := Save.next s2 (Save.drew s0); have z2 := s2.size; have zz := Z0.out; have d0 := (Save.cell s2 (p := ⟨w1.heap.size, 0, none⟩) (by show w1.heap.size < w0.heap.size; omega) n1).trans c0; have d1 := (Save.cell s2 (p := ⟨w1.heap.size, 1, none⟩) (by show w1.heap.size < w0.heap.size; omega) n1).trans c2; have d2 := (Save.cell s2 (p := ⟨w1.heap.size, 2, none⟩) (by show w1.heap.size < w0.heap.size; omega) n1).trans c3; clear zz; have d3 := (Save.cell s2 (p := ⟨w.heap.size, 1, none⟩) (by show w.heap.size < w0.heap.size; omega) (by show w.heap.size ≠ g; omega)).trans (by go_simp; rfl); have k0 := (Save.cell s2 (p := ⟨w.heap.size + 1 + 1, 0, none⟩) (by show w.heap.size + 1 + 1 < w0.heap.size; omega) (by show w.heap.size + 1 + 1 ≠ g; omega)).trans (by go_simp; rfl); have f0 := (Save.frozen s2 (p := ⟨w.heap.size + 1 + 1, 0, none⟩) (by show w.heap.size + 1 + 1 < w0.heap.size; omega) (by show w.heap.size + 1 + 1 ≠ g; omega)).trans (by go_simp; rfl); have k1 := (Save.cell s2 (p := ⟨w.heap.size + 1 + 1, 1, none⟩) (by show w.heap.size + 1 + 1 < w0.heap.size; omega) (by show w.heap.size + 1 + 1 ≠ g; omega)).trans (by go_simp; rfl); have f1 := (Save.frozen s2 (p := ⟨w.heap.size + 1 + 1, 1, none⟩) (by show w.heap.size + 1 + 1 < w0.heap.size; omega) (by show w.heap.size + 1 + 1 ≠ g; omega)).trans (by go_simp; rfl); have k2 := (Save.cell s2 (p := ⟨w.heap.size + 1 + 1, 2, none⟩) (by show w.heap.size + 1 + 1 < w0.heap.size; omega) (by show w.heap.size + 1 + 1 ≠ g; omega)).trans (by go_simp; rfl); have f2 := (Save.frozen s2 (p := ⟨w.heap.size + 1 + 1, 2, none⟩) (by show w.heap.size + 1 + 1 < w0.heap.size; omega) (by show w.heap.size + 1 + 1 ≠ g; omega)).trans (by go_simp; rfl)))
  all_goals
    go_wp2_with fail
    try simp only [Exit.inBlock, Exit.then]
    refine post_rd_x (x0 := .slice A (List.length l) c) (x1 := .int .i64 m) (x2 := .int .i64 r) rfl rfl rfl (by go_simp) (by go_simp) (by go_simp) ?_
    refine ⟨by simp, ?_, ?_⟩
    · exact ((t2.past (by show w.heap.size + 1 + 1 ≠ g; omega) _).past (by show w.heap.size + 1 + 1 ≠ g; omega) _).past (by show w.heap.size + 1 + 1 ≠ g; omega) _
    · exact ((s3.fresh (by show w.heap.size ≤ w.heap.size + 1 + 1; omega) g0 _).fresh (by show w.heap.size ≤ w.heap.size + 1 + 1; omega) g0 _).fresh (by show w.heap.size ≤ w.heap.size + 1 + 1; omega) g0 _

set_option maxRecDepth 100000 in
set_option maxHeartbeats 1000000 in
theorem does5 (g : Nat) (A : Option Addr) (c : Nat) (l : List UInt8) (a e size : Int) (w : World) (_hL : Laid w) (h : RSt w g A l c a e) (hb : Bys w g A l) (hl : l.length ≤ 140000000000) (hc : l.length ≤ c) :
    Calls Tryd.prog 8 #[.agg #[.int .i64 5, .int .i64 size], (.agg #[.slice A (List.length l) c, .int .i64 a, .int .i64 e]), .pointer (some ⟨g, 0, none⟩)] w (Does g (Wr.byt l a e).2.1 (Wr.byt l a e).2.2 A l c w) := by
  have P0 := fun W hb => Bytes_any A c l a e W hb hl hc
  have R0 := fun W h hb => rBytes_any g A c l a e W h hb hl hc
  obtain ⟨⟨X, m, r⟩, hR⟩ : ∃ R, R = Wr.byt l a e := ⟨_, rfl⟩
  rw [← hR] at P0 R0 ⊢
  clear hR
  obtain ⟨N, hN⟩ : ∃ N, X.length = N := ⟨_, rfl⟩
  have HN := Lib.hid hN
  clear hN
  have P := Lib.hid P0
  have R := Lib.hid R0
  clear P0 R0
  have g0 := h.lt
  go_enter Tryd.func8, Tryd.ntmps8
  go_wp2_with fail
  refine (P.out _ ((hb.more (Nat.le_of_lt g0)).now (by (repeat' (first | with_reducible assumption | with_reducible exact Below.refl _ _ | (with_reducible refine Below.alloc ?_ ?_ _; rotate_left; focus ((first | exact Nat.le_refl _ | (simp; done) | (simp; omega) | omega | fail))) | (with_reducible refine Below.setCell ?_ ?_ _; rotate_left; focus ((first | exact Nat.le_refl _ | (simp; done) | (simp; omega) | omega | fail))) | with_reducible refine Mem.bel_drewN ?_ _ | with_reducible refine Below.drew ?_ | (with_reducible refine Mem.bel_call (by with_reducible assumption) ?_ ?_; focus ((first | exact Nat.le_refl _ | (simp; done) | (simp; omega) | omega | fail))) | fail))))).mono ?_
  rintro e w1 h1
  obtain ⟨A1, c1, rfl, hc1, y1, b1⟩ := saysF_out HN.out h1
  have y1 := y1.less (B' := w.heap.size + 1 + 1 + 1) (by first | exact Nat.le_refl _ | assumption | (simp; done) | (simp; omega) | omega)
  have hSz := Below.size b1; try simp at hSz
  have hOwn := Nat.lt_of_lt_of_le (n := (w.heap.size + 1 + 1)) (by first | exact Nat.le_refl _ | assumption | (simp; done) | (simp; omega) | omega) (Below.size b1)
  have hOwn1 := Nat.ne_of_gt hOwn
  have hOwn2 := Nat.ne_of_lt hOwn
  have hOwn := (Below.cell b1 (p := ⟨(w.heap.size + 1 + 1), 0, none⟩) (by first | exact Nat.le_refl _ | assumption | (simp; done) | (simp; omega) | omega)).trans (by go_simp; rfl)
  have hOwn := (Below.cell b1 (p := ⟨(w.heap.size + 1 + 1), 1, none⟩) (by first | exact Nat.le_refl _ | assumption | (simp; done) | (simp; omega) | omega)).trans (by go_simp; rfl)
  have hOwn := (Below.cell b1 (p := ⟨(w.heap.size + 1 + 1), 2, none⟩) (by first | exact Nat.le_refl _ | assumption | (simp; done) | (simp; omega) | omega)).trans (by go_simp; rfl)
  have hOwn := (Below.frozen b1 (p := ⟨(w.heap.size + 1 + 1), 0, none⟩) (by first | exact Nat.le_refl _ | assumption | (simp; done) | (simp; omega) | omega)).trans (by go_simp; rfl)
  have hOwn := (Below.frozen b1 (p := ⟨(w.heap.size + 1 + 1), 1, none⟩) (by first | exact Nat.le_refl _ | assumption | (simp; done) | (simp; omega) | omega)).trans (by go_simp; rfl)
  have hOwn := (Below.frozen b1 (p := ⟨(w.heap.size + 1 + 1), 2, none⟩) (by first | exact Nat.le_refl _ | assumption | (simp; done) | (simp; omega) | omega)).trans (by go_simp; rfl)
  have t1 : RSt w1 g A l c a e := (((h.alloc _).alloc _).alloc _).below b1 (by simp; omega)
  have s1 : Save g w w1 := Save.of (by (repeat' (first | with_reducible assumption | with_reducible exact Below.refl _ _ | (with_reducible refine Below.alloc ?_ ?_ _; rotate_left; focus ((first | exact Nat.le_refl _ | (simp; done) | (simp; omega) | omega | fail))) | (with_reducible refine Below.setCell ?_ ?_ _; rotate_left; focus ((first | exact Nat.le_refl _ | (simp; done) | (simp; omega) | omega | fail))) | with_reducible refine Mem.bel_drewN ?_ _ | with_reducible refine Below.drew ?_ | (with_reducible refine Mem.bel_call (by with_reducible assumption) ?_ ?_; focus ((first | exact Nat.le_refl _ | (simp; done) | (simp; omega) | omega | fail))) | fail))) (Nat.le_of_lt g0)
  have g1 := t1.lt
  have n1 : w1.heap.size ≠ g := by omega
  have cv : ∀ W, Bys W W.heap.size A1 X → (convert 22 9 (.slice A1 N c1)).run Tryd.prog W = .ok (.string ⟨X.toArray⟩) W := fun W h => by have := h.str byteT strT c1; rw [HN.out] at this; exact this
  have CV := Lib.hid cv
  clear cv
  go_wp2_with fail
  obtain ⟨w0, hw0⟩ : ∃ w0, w0 = w1.alloc (.cells #[.slice A l.length c, .int .i64 m, .int .i64 r] 27) := ⟨_, rfl⟩
  have c0 : w0.cell? ⟨w1.heap.size, 0, none⟩ = some (.slice A l.length c) := by rw [hw0]; go_simp
  have c2 : w0.cell? ⟨w1.heap.size, 1, none⟩ = some (.int .i64 m) := by rw [hw0]; go_simp
  have c3 : w0.cell? ⟨w1.heap.size, 2, none⟩ = some (.int .i64 r) := by rw [hw0]; go_simp
  have b0 : Below w1.heap.size w1 w0 := by rw [hw0]; exact (Below.refl _ _).alloc (Nat.le_refl _) _
  have z0 : w0.heap.size = w1.heap.size + 1 := by rw [hw0]; simp
  have t0 : RSt w0 g A l c a e := t1.below b0 g1
  have s0 : Save g w w0 := Save.call b0 (Nat.le_of_lt g1) s1
  have hOwn := Nat.lt_of_lt_of_le (n := (w.heap.size + 1 + 1)) (by first | exact Nat.le_refl _ | assumption | (simp; done) | (simp; omega) | omega) (Below.size b0)
  have hOwn1 := Nat.ne_of_gt hOwn
  have hOwn2 := Nat.ne_of_lt hOwn
  have hOwn := (Below.cell b0 (p := ⟨(w.heap.size + 1 + 1), 0, none⟩) (by first | exact Nat.le_refl _ | assumption | (simp; done) | (simp; omega) | omega)).trans (by go_simp; rfl)
  have hOwn := (Below.cell b0 (p := ⟨(w.heap.size + 1 + 1), 1, none⟩) (by first | exact Nat.le_refl _ | assumption | (simp; done) | (simp; omega) | omega)).trans (by go_simp; rfl)
  have hOwn := (Below.cell b0 (p := ⟨(w.heap.size + 1 + 1), 2, none⟩) (by first | exact Nat.le_refl _ | assumption | (simp; done) | (simp; omega) | omega)).trans (by go_simp; rfl)
  have hOwn := (Below.frozen b0 (p := ⟨(w.heap.size + 1 + 1), 0, none⟩) (by first | exact Nat.le_refl _ | assumption | (simp; done) | (simp; omega) | omega)).trans (by go_simp; rfl)
  have hOwn := (Below.frozen b0 (p := ⟨(w.heap.size + 1 + 1), 1, none⟩) (by first | exact Nat.le_refl _ | assumption | (simp; done) | (simp; omega) | omega)).trans (by go_simp; rfl)
  have hOwn := (Below.frozen b0 (p := ⟨(w.heap.size + 1 + 1), 2, none⟩) (by first | exact Nat.le_refl _ | assumption | (simp; done) | (simp; omega) | omega)).trans (by go_simp; rfl)
  have y0 : Bys w0 w0.heap.size A1 X := (y1.now b0).1
  rw [← hw0]
  have Z0 := Lib.hid z0
  clear hw0 z0
  go_region_held_law (fun w' => w'.cell? ⟨w1.heap.size, 0, none⟩ = some (.slice A l.length c) ∧ w'.cell? ⟨w1.heap.size, 1, none⟩ = some (.int .i64 m) ∧ w'.cell? ⟨w1.heap.size, 2, none⟩ = some (.int .i64 r) ∧ (convert 22 9 (.slice A1 N c1)).run Tryd.prog w' = .ok (.string ⟨X.toArray⟩) w') (exact ⟨(by first | with_reducible assumption | (go_simp; done)), (by first | with_reducible assumption | (go_simp; done)), (by first | with_reducible assumption | (go_simp; done)), (by first | with_reducible assumption | exact CV.out _ y0.drew | (go_simp; done))⟩) (first
    | (go_at_call 32; refine (R.out _ t0.drew (s0.bys hb (Nat.le_refl _)).drew).mono ?_; rintro e w2 h2; obtain ⟨A2, cc2, rfl, hcc2, y2, t2, s2⟩ := savesF_out HN.out h2; have v2 : (convert 22 9 (.slice A2 N cc2)).run Tryd.prog w2 = .ok (.string ⟨X.toArray⟩) w2 := (by have := y2.1.str byteT strT cc2; rw [HN.out] at this; exact this); have v1 : (convert 22 9 (.slice A1 N c1)).run Tryd.prog w2 = .ok (.string ⟨X.toArray⟩) w2 := CV.out _ (y1_save s2 (y1.now b0).drew (by omega)); have x1 : NewBys (w.heap.size + 1 + 1 + 1) w2 A1 X := ⟨y1_save s2 (y1.now b0).drew (by omega), y1.2⟩; have x2 : NewBys (w.heap.size + 1 + 1 + 1) w2 A2 X := y2.less (by have := Z0.out; show w.heap.size + 1 + 1 + 1 ≤ w0.heap.size; omega); have u1 := CV.out _ (((x1.set (p := ⟨w.heap.size + 1 + 1, 0, none⟩) (by show w.heap.size + 1 + 1 < w.heap.size + 1 + 1 + 1; omega) (.slice A l.length c)).set (p := ⟨w.heap.size + 1 + 1, 1, none⟩) (by show w.heap.size + 1 + 1 < w.heap.size + 1 + 1 + 1; omega) (.int .i64 m)).set (p := ⟨w.heap.size + 1 + 1, 2, none⟩) (by show w.heap.size + 1 + 1 < w.heap.size + 1 + 1 + 1; omega) (.int .i64 r)).1; have u2 := (((x2.set (p := ⟨w.heap.size + 1 + 1, 0, none⟩) (by show w.heap.size + 1 + 1 < w.heap.size + 1 + 1 + 1; omega) (.slice A l.length c)).set (p := ⟨w.heap.size + 1 + 1, 1, none⟩) (by show w.heap.size + 1 + 1 < w.heap.size + 1 + 1 + 1; omega) (.int .i64 m)).set (p := ⟨w.heap.size + 1 + 1, 2, none⟩) (by show w.heap.size + 1 + 1 < w.heap.size + 1 + 1 + 1; omega) (.int .i64 r)).1.str byteT strT cc2; rw [HN.out] at u2; have s3 : Save g w w2 := Save.next s2 (Save.drew s0); have z2 := s2.size; have zz := Z0.out; have d0 := (Save.cell s2 (p := ⟨w1.heap.size, 0, none⟩) (by show w1.heap.size < w0.heap.size; omega) n1).trans c0; have d1 := (Save.cell s2 (p := ⟨w1.heap.size, 1, none⟩) (by show w1.heap.size < w0.heap.size; omega) n1).trans c2; have d2 := (Save.cell s2 (p := ⟨w1.heap.size, 2, none⟩) (by show w1.heap.size < w0.heap.size; omega) n1).trans c3; clear zz; have k0 := (Save.cell s2 (p := ⟨w.heap.size + 1 + 1, 0, none⟩) (by show w.heap.size + 1 + 1 < w0.heap.size; omega) (by show w.heap.size + 1 + 1 ≠ g; omega)).trans (by go_simp; rfl); have f0 := (Save.frozen s2 (p := ⟨w.heap.size + 1 + 1, 0, none⟩) (by show w.heap.size + 1 + 1 < w0.heap.size; omega) (by show w.heap.size + 1 + 1 ≠ g; omega)).trans (by go_simp; rfl); have k1 := (Save.cell s2 (p := ⟨w.heap.size + 1 + 1, 1, none⟩) (by show w.heap.size + 1 + 1 < w0.heap.size; omega) (by show w.heap.size + 1 + 1 ≠ g; omega)).trans (by go_simp; rfl); have f1 := (Save.frozen s2 (p := ⟨w.heap.size + 1 + 1, 1, none⟩) (by show w.heap.size + 1 + 1 < w0.heap.size; omega) (by show w.heap.size + 1 + 1 ≠ g; omega)).trans (by go_simp; rfl); have k2 := (Save.cell s2 (p := ⟨w.heap.size + 1 + 1, 2, none⟩) (by show w.heap.size + 1 + 1 < w0.heap.size; omega) (by show w.heap.size + 1 + 1 ≠ g; omega)).trans (by go_simp; rfl); have f2 := (Save.frozen s2 (p := ⟨w.heap.size + 1 + 1, 2, none⟩) (by show w.heap.size + 1 + 1 < w0.heap.size; omega) (by show w.heap.size + 1 + 1 ≠ g; omega)).trans (by go_simp; rfl)))
  all_goals
    go_wp2_with fail
    try simp only [Exit.inBlock, Exit.then]
    refine post_rd_x (x0 := .slice A (List.length l) c) (x1 := .int .i64 m) (x2 := .int .i64 r) rfl rfl rfl (by go_simp) (by go_simp) (by go_simp) ?_
    refine ⟨by simp, ?_, ?_⟩
    · exact ((t2.past (by show w.heap.size + 1 + 1 ≠ g; omega) _).past (by show w.heap.size + 1 + 1 ≠ g; omega) _).past (by show w.heap.size + 1 + 1 ≠ g; omega) _
    · exact ((s3.fresh (by show w.heap.size ≤ w.heap.size + 1 + 1; omega) g0 _).fresh (by show w.heap.size ≤ w.heap.size + 1 + 1; omega) g0 _).fresh (by show w.heap.size ≤ w.heap.size + 1 + 1; omega) g0 _

set_option maxRecDepth 100000 in
set_option maxHeartbeats 1000000 in
theorem does6 (g : Nat) (A : Option Addr) (c : Nat) (l : List UInt8) (a e size : Int) (w : World) (hL : Laid w) (h : RSt w g A l c a e) (hb : Bys w g A l) (hl : l.length ≤ 140000000000) (hc : l.length ≤ c) :
    Calls Tryd.prog 8 #[.agg #[.int .i64 6, .int .i64 size], (.agg #[.slice A (List.length l) c, .int .i64 a, .int .i64 e]), .pointer (some ⟨g, 0, none⟩)] w (Does g (Wr.txt l a e).2.1 (Wr.txt l a e).2.2 A l c w) := by
  have P0 := fun W hW hb => Text_any A c l a e W hW hb hl hc
  have R0 := fun W h hb => rText_any g A c l a e W h hb hl hc
  obtain ⟨⟨X, m, r⟩, hR⟩ : ∃ R, R = Wr.txt l a e := ⟨_, rfl⟩
  rw [← hR] at P0 R0 ⊢
  clear hR
  obtain ⟨N, hN⟩ : ∃ N, X.length = N := ⟨_, rfl⟩
  have HN := Lib.hid hN
  clear hN
  have P := Lib.hid P0
  have R := Lib.hid R0
  clear P0 R0
  have g0 := h.lt
  go_enter Tryd.func8, Tryd.ntmps8
  go_wp2_with fail
  refine (P.out _ (hL.below (B := w.heap.size) (by (repeat' (first | with_reducible assumption | with_reducible exact Below.refl _ _ | (with_reducible refine Below.alloc ?_ ?_ _; rotate_left; focus ((first | exact Nat.le_refl _ | (simp; done) | (simp; omega) | omega | fail))) | (with_reducible refine Below.setCell ?_ ?_ _; rotate_left; focus ((first | exact Nat.le_refl _ | (simp; done) | (simp; omega) | omega | fail))) | with_reducible refine Mem.bel_drewN ?_ _ | with_reducible refine Below.drew ?_ | (with_reducible refine Mem.bel_call (by with_reducible assumption) ?_ ?_; focus ((first | exact Nat.le_refl _ | (simp; done) | (simp; omega) | omega | fail))) | fail))) hL.1) ((hb.more (Nat.le_of_lt g0)).now (by (repeat' (first | with_reducible assumption | with_reducible exact Below.refl _ _ | (with_reducible refine Below.alloc ?_ ?_ _; rotate_left; focus ((first | exact Nat.le_refl _ | (simp; done) | (simp; omega) | omega | fail))) | (with_reducible refine Below.setCell ?_ ?_ _; rotate_left; focus ((first | exact Nat.le_refl _ | (simp; done) | (simp; omega) | omega | fail))) | with_reducible refine Mem.bel_drewN ?_ _ | with_reducible refine Below.drew ?_ | (with_reducible refine Mem.bel_call (by with_reducible assumption) ?_ ?_; focus ((first | exact Nat.le_refl _ | (simp; done) | (simp; omega) | omega | fail))) | fail))))).mono ?_
  rintro e w1 h1
  obtain ⟨A1, c1, rfl, hc1, y1, b1⟩ := saysF_out HN.out h1
  have y1 := y1.less (B' := w.heap.size + 1 + 1 + 1) (by first | exact Nat.le_refl _ | assumption | (simp; done) | (simp; omega) | omega)
  have hSz := Below.size b1; try simp at hSz
  have hOwn := Nat.lt_of_lt_of_le (n := (w.heap.size + 1 + 1)) (by first | exact Nat.le_refl _ | assumption | (simp; done) | (simp; omega) | omega) (Below.size b1)
  have hOwn1 := Nat.ne_of_gt hOwn
  have hOwn2 := Nat.ne_of_lt hOwn
  have hOwn := (Below.cell b1 (p := ⟨(w.heap.size + 1 + 1), 0, none⟩) (by first | exact Nat.le_refl _ | assumption | (simp; done) | (simp; omega) | omega)).trans (by go_simp; rfl)
  have hOwn := (Below.cell b1 (p := ⟨(w.heap.size + 1 + 1), 1, none⟩) (by first | exact Nat.le_refl _ | assumption | (simp; done) | (simp; omega) | omega)).trans (by go_simp; rfl)
  have hOwn := (Below.cell b1 (p := ⟨(w.heap.size + 1 + 1), 2, none⟩) (by first | exact Nat.le_refl _ | assumption | (simp; done) | (simp; omega) | omega)).trans (by go_simp; rfl)
  have hOwn := (Below.frozen b1 (p := ⟨(w.heap.size + 1 + 1), 0, none⟩) (by first | exact Nat.le_refl _ | assumption | (simp; done) | (simp; omega) | omega)).trans (by go_simp; rfl)
  have hOwn := (Below.frozen b1 (p := ⟨(w.heap.size + 1 + 1), 1, none⟩) (by first | exact Nat.le_refl _ | assumption | (simp; done) | (simp; omega) | omega)).trans (by go_simp; rfl)
  have hOwn := (Below.frozen b1 (p := ⟨(w.heap.size + 1 + 1), 2, none⟩) (by first | exact Nat.le_refl _ | assumption | (simp; done) | (simp; omega) | omega)).trans (by go_simp; rfl)
  have t1 : RSt w1 g A l c a e := (((h.alloc _).alloc _).alloc _).below b1 (by simp; omega)
  have s1 : Save g w w1 := Save.of (by (repeat' (first | with_reducible assumption | with_reducible exact Below.refl _ _ | (with_reducible refine Below.alloc ?_ ?_ _; rotate_left; focus ((first | exact Nat.le_refl _ | (simp; done) | (simp; omega) | omega | fail))) | (with_reducible refine Below.setCell ?_ ?_ _; rotate_left; focus ((first | exact Nat.le_refl _ | (simp; done) | (simp; omega) | omega | fail))) | with_reducible refine Mem.bel_drewN ?_ _ | with_reducible refine Below.drew ?_ | (with_reducible refine Mem.bel_call (by with_reducible assumption) ?_ ?_; focus ((first | exact Nat.le_refl _ | (simp; done) | (simp; omega) | omega | fail))) | fail))) (Nat.le_of_lt g0)
  have g1 := t1.lt
  have n1 : w1.heap.size ≠ g := by omega
  have cv : ∀ W, Bys W W.heap.size A1 X → (convert 22 9 (.slice A1 N c1)).run Tryd.prog W = .ok (.string ⟨X.toArray⟩) W := fun W h => by have := h.str byteT strT c1; rw [HN.out] at this; exact this
  have CV := Lib.hid cv
  clear cv
  go_wp2_with fail
  obtain ⟨w0, hw0⟩ : ∃ w0, w0 = w1.alloc (.cells #[.slice A l.length c, .int .i64 m, .int .i64 r] 27) := ⟨_, rfl⟩
  have c0 : w0.cell? ⟨w1.heap.size, 0, none⟩ = some (.slice A l.length c) := by rw [hw0]; go_simp
  have c2 : w0.cell? ⟨w1.heap.size, 1, none⟩ = some (.int .i64 m) := by rw [hw0]; go_simp
  have c3 : w0.cell? ⟨w1.heap.size, 2, none⟩ = some (.int .i64 r) := by rw [hw0]; go_simp
  have b0 : Below w1.heap.size w1 w0 := by rw [hw0]; exact (Below.refl _ _).alloc (Nat.le_refl _) _
  have z0 : w0.heap.size = w1.heap.size + 1 := by rw [hw0]; simp
  have t0 : RSt w0 g A l c a e := t1.below b0 g1
  have s0 : Save g w w0 := Save.call b0 (Nat.le_of_lt g1) s1
  have hOwn := Nat.lt_of_lt_of_le (n := (w.heap.size + 1 + 1)) (by first | exact Nat.le_refl _ | assumption | (simp; done) | (simp; omega) | omega) (Below.size b0)
  have hOwn1 := Nat.ne_of_gt hOwn
  have hOwn2 := Nat.ne_of_lt hOwn
  have hOwn := (Below.cell b0 (p := ⟨(w.heap.size + 1 + 1), 0, none⟩) (by first | exact Nat.le_refl _ | assumption | (simp; done) | (simp; omega) | omega)).trans (by go_simp; rfl)
  have hOwn := (Below.cell b0 (p := ⟨(w.heap.size + 1 + 1), 1, none⟩) (by first | exact Nat.le_refl _ | assumption | (simp; done) | (simp; omega) | omega)).trans (by go_simp; rfl)
  have hOwn := (Below.cell b0 (p := ⟨(w.heap.size + 1 + 1), 2, none⟩) (by first | exact Nat.le_refl _ | assumption | (simp; done) | (simp; omega) | omega)).trans (by go_simp; rfl)
  have hOwn := (Below.frozen b0 (p := ⟨(w.heap.size + 1 + 1), 0, none⟩) (by first | exact Nat.le_refl _ | assumption | (simp; done) | (simp; omega) | omega)).trans (by go_simp; rfl)
  have hOwn := (Below.frozen b0 (p := ⟨(w.heap.size + 1 + 1), 1, none⟩) (by first | exact Nat.le_refl _ | assumption | (simp; done) | (simp; omega) | omega)).trans (by go_simp; rfl)
  have hOwn := (Below.frozen b0 (p := ⟨(w.heap.size + 1 + 1), 2, none⟩) (by first | exact Nat.le_refl _ | assumption | (simp; done) | (simp; omega) | omega)).trans (by go_simp; rfl)
  have y0 : Bys w0 w0.heap.size A1 X := (y1.now b0).1
  rw [← hw0]
  have Z0 := Lib.hid z0
  clear hw0 z0
  go_region_held_law (fun w' => w'.cell? ⟨w1.heap.size, 0, none⟩ = some (.slice A l.length c) ∧ w'.cell? ⟨w1.heap.size, 1, none⟩ = some (.int .i64 m) ∧ w'.cell? ⟨w1.heap.size, 2, none⟩ = some (.int .i64 r) ∧ (convert 22 9 (.slice A1 N c1)).run Tryd.prog w' = .ok (.string ⟨X.toArray⟩) w') (exact ⟨(by first | with_reducible assumption | (go_simp; done)), (by first | with_reducible assumption | (go_simp; done)), (by first | with_reducible assumption | (go_simp; done)), (by first | with_reducible assumption | exact CV.out _ y0.drew | (go_simp; done))⟩) (first
    | (go_at_call 33; refine (R.out _ t0.drew (s0.bys hb (Nat.le_refl _)).drew).mono ?_; rintro e w2 h2; obtain ⟨A2, cc2, rfl, hcc2, y2, t2, s2⟩ := savesF_out HN.out h2; have v2 : (convert 22 9 (.slice A2 N cc2)).run Tryd.prog w2 = .ok (.string ⟨X.toArray⟩) w2 := (by have := y2.1.str byteT strT cc2; rw [HN.out] at this; exact this); have v1 : (convert 22 9 (.slice A1 N c1)).run Tryd.prog w2 = .ok (.string ⟨X.toArray⟩) w2 := CV.out _ (y1_save s2 (y1.now b0).drew (by omega)); have x1 : NewBys (w.heap.size + 1 + 1 + 1) w2 A1 X := ⟨y1_save s2 (y1.now b0).drew (by omega), y1.2⟩; have x2 : NewBys (w.heap.size + 1 + 1 + 1) w2 A2 X := y2.less (by have := Z0.out; show w.heap.size + 1 + 1 + 1 ≤ w0.heap.size; omega); have u1 := CV.out _ (((x1.set (p := ⟨w.heap.size + 1 + 1, 0, none⟩) (by show w.heap.size + 1 + 1 < w.heap.size + 1 + 1 + 1; omega) (.slice A l.length c)).set (p := ⟨w.heap.size + 1 + 1, 1, none⟩) (by show w.heap.size + 1 + 1 < w.heap.size + 1 + 1 + 1; omega) (.int .i64 m)).set (p := ⟨w.heap.size + 1 + 1, 2, none⟩) (by show w.heap.size + 1 + 1 < w.heap.size + 1 + 1 + 1; omega) (.int .i64 r)).1; have u2 := (((x2.set (p := ⟨w.heap.size + 1 + 1, 0, none⟩) (by show w.heap.size + 1 + 1 < w.heap.size + 1 + 1 + 1; omega) (.slice A l.length c)).set (p := ⟨w.heap.size + 1 + 1, 1, none⟩) (by show w.heap.size + 1 + 1 < w.heap.size + 1 + 1 + 1; omega) (.int .i64 m)).set (p := ⟨w.heap.size + 1 + 1, 2, none⟩) (by show w.heap.size + 1 + 1 < w.heap.size + 1 + 1 + 1; omega) (.int .i64 r)).1.str byteT strT cc2; rw [HN.out] at u2; have s3 : Save g w w2 := Save.next s2 (Save.drew s0); have z2 := s2.size; have zz := Z0.out; have d0 := (Save.cell s2 (p := ⟨w1.heap.size, 0, none⟩) (by show w1.heap.size < w0.heap.size; omega) n1).trans c0; have d1 := (Save.cell s2 (p := ⟨w1.heap.size, 1, none⟩) (by show w1.heap.size < w0.heap.size; omega) n1).trans c2; have d2 := (Save.cell s2 (p := ⟨w1.heap.size, 2, none⟩) (by show w1.heap.size < w0.heap.size; omega) n1).trans c3; clear zz; have k0 := (Save.cell s2 (p := ⟨w.heap.size + 1 + 1, 0, none⟩) (by show w.heap.size + 1 + 1 < w0.heap.size; omega) (by show w.heap.size + 1 + 1 ≠ g; omega)).trans (by go_simp; rfl); have f0 := (Save.frozen s2 (p := ⟨w.heap.size + 1 + 1, 0, none⟩) (by show w.heap.size + 1 + 1 < w0.heap.size; omega) (by show w.heap.size + 1 + 1 ≠ g; omega)).trans (by go_simp; rfl); have k1 := (Save.cell s2 (p := ⟨w.heap.size + 1 + 1, 1, none⟩) (by show w.heap.size + 1 + 1 < w0.heap.size; omega) (by show w.heap.size + 1 + 1 ≠ g; omega)).trans (by go_simp; rfl); have f1 := (Save.frozen s2 (p := ⟨w.heap.size + 1 + 1, 1, none⟩) (by show w.heap.size + 1 + 1 < w0.heap.size; omega) (by show w.heap.size + 1 + 1 ≠ g; omega)).trans (by go_simp; rfl); have k2 := (Save.cell s2 (p := ⟨w.heap.size + 1 + 1, 2, none⟩) (by show w.heap.size + 1 + 1 < w0.heap.size; omega) (by show w.heap.size + 1 + 1 ≠ g; omega)).trans (by go_simp; rfl); have f2 := (Save.frozen s2 (p := ⟨w.heap.size + 1 + 1, 2, none⟩) (by show w.heap.size + 1 + 1 < w0.heap.size; omega) (by show w.heap.size + 1 + 1 ≠ g; omega)).trans (by go_simp; rfl)))
  all_goals
    go_wp2_with fail
    try simp only [Exit.inBlock, Exit.then]
    refine post_rd_x (x0 := .slice A (List.length l) c) (x1 := .int .i64 m) (x2 := .int .i64 r) rfl rfl rfl (by go_simp) (by go_simp) (by go_simp) ?_
    refine ⟨by simp, ?_, ?_⟩
    · exact ((t2.past (by show w.heap.size + 1 + 1 ≠ g; omega) _).past (by show w.heap.size + 1 + 1 ≠ g; omega) _).past (by show w.heap.size + 1 + 1 ≠ g; omega) _
    · exact ((s3.fresh (by show w.heap.size ≤ w.heap.size + 1 + 1; omega) g0 _).fresh (by show w.heap.size ≤ w.heap.size + 1 + 1; omega) g0 _).fresh (by show w.heap.size ≤ w.heap.size + 1 + 1; omega) g0 _

set_option maxRecDepth 100000 in
set_option maxHeartbeats 1000000 in
theorem doesN (g : Nat) (A : Option Addr) (c : Nat) (l : List UInt8) (a e kind size : Int) (w : World) (hk : kind < 0 ∨ 6 < kind) (h : RSt w g A l c a e) :
    Calls Tryd.prog 8 #[.agg #[.int .i64 kind, .int .i64 size], (.agg #[.slice A (List.length l) c, .int .i64 a, .int .i64 e]), .pointer (some ⟨g, 0, none⟩)] w (Does g a e A l c w) := by
  have q0 : (kind == 0) = false := by simp; omega
  have q1 : (kind == 1) = false := by simp; omega
  have q2 : (kind == 2) = false := by simp; omega
  have q3 : (kind == 3) = false := by simp; omega
  have q4 : (kind == 4) = false := by simp; omega
  have q5 : (kind == 5) = false := by simp; omega
  have q6 : (kind == 6) = false := by simp; omega
  have g0 := h.lt
  go_enter Tryd.func8, Tryd.ntmps8
  go_wp2_with fail
  try simp only [Exit.inBlock, Exit.then]
  refine post_rd_x (x0 := .slice A (List.length l) c) (x1 := .int .i64 a) (x2 := .int .i64 e) rfl rfl rfl (by go_simp) (by go_simp) (by go_simp) ?_
  exact ⟨rfl, ((h.alloc _).alloc _).alloc _, Save.of (by (repeat' (first | with_reducible assumption | with_reducible exact Below.refl _ _ | (with_reducible refine Below.alloc ?_ ?_ _; rotate_left; focus ((first | exact Nat.le_refl _ | (simp; done) | (simp; omega) | omega | fail))) | (with_reducible refine Below.setCell ?_ ?_ _; rotate_left; focus ((first | exact Nat.le_refl _ | (simp; done) | (simp; omega) | omega | fail))) | with_reducible refine Mem.bel_drewN ?_ _ | with_reducible refine Below.drew ?_ | (with_reducible refine Mem.bel_call (by with_reducible assumption) ?_ ?_; focus ((first | exact Nat.le_refl _ | (simp; done) | (simp; omega) | omega | fail))) | fail))) (Nat.le_of_lt g0)⟩

/-- Where a reader stands behind a call, and why it refused. -/
def stp (kind size : Int) (l : List UInt8) (a e : Int) : Int × Int :=
  if kind = 0 then (Wr.boo l a e).2 else if kind = 1 then (Wr.lnum 5 15 l a e).2 else if kind = 2 then (Wr.lnum 10 1 l a e).2 else if kind = 3 then (Wr.bts l a e size).2
  else if kind = 4 then (Wr.fxd l a e size).2 else if kind = 5 then (Wr.byt l a e).2 else if kind = 6 then (Wr.txt l a e).2 else (a, e)
theorem does_any (g : Nat) (A : Option Addr) (c : Nat) (l : List UInt8) (a e kind size : Int) (w : World) (hL : Laid w) (h : RSt w g A l c a e) (hb : Bys w g A l) (hl : l.length ≤ 140000000000) (hc : l.length ≤ c) :
    Calls Tryd.prog 8 #[.agg #[.int .i64 kind, .int .i64 size], (.agg #[.slice A (List.length l) c, .int .i64 a, .int .i64 e]), .pointer (some ⟨g, 0, none⟩)] w (Does g (stp kind size l a e).1 (stp kind size l a e).2 A l c w) := by
  unfold stp
  by_cases h0 : kind = 0
  · subst h0; exact does0 g A c l a e size w hL h hb hl hc
  by_cases h1 : kind = 1
  · subst h1; exact does1 g A c l a e size w hL h hb hl hc
  by_cases h2 : kind = 2
  · subst h2; exact does2 g A c l a e size w hL h hb hl hc
  by_cases h3 : kind = 3
  · subst h3; exact does3 g A c l a e size w hL h hb hl hc
  by_cases h4 : kind = 4
  · subst h4; exact does4 g A c l a e size w hL h hb hl hc
  by_cases h5 : kind = 5
  · subst h5; exact does5 g A c l a e size w hL h hb hl hc
  by_cases h6 : kind = 6
  · subst h6; exact does6 g A c l a e size w hL h hb hl hc
  rw [if_neg h0, if_neg h1, if_neg h2, if_neg h3, if_neg h4, if_neg h5, if_neg h6]
  exact doesN g A c l a e kind size w (by omega) h
end Go.Proofs.YtjebhbjffofjnaaDoor
