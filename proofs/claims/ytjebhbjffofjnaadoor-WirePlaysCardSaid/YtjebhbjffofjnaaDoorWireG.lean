/- Layer 4: a call on both sides, by its kind. -/
import Derived.Test.YtjebhbjffofjnaaDoorWireF
import Derived.Deep.RegionHeldLaw
namespace Go.Proofs.YtjebhbjffofjnaaDoor
open Go.ChangeShapes Go.WideShapes Go.ChangeAt Go.RowKit Mem

theorem Mem.Save.fresh {g : Nat} {w w' : World} (h : Save g w w') {p : Addr} (hp : w.heap.size ≤ p.block) (hg : g < w.heap.size) (u : Value) : Save g w (w'.setCell p u) := by
  exact ⟨h.bel.setCell (by omega) u, fun b hb hs => (Below.heap_setCell _ _ _ _ (by omega)).trans (h.rest b hb hs)⟩
theorem RSt.past {w : World} {g c : Nat} {A : Option Addr} {l : List UInt8} {a e : Int} (h : RSt w g A l c a e) {p : Addr} (hp : p.block ≠ g) (u : Value) : RSt (w.setCell p u) g A l c a e := B3.past h hp u
/-- Bytes that a call made stay, where another block is turned. -/
theorem y1_save {g B : Nat} {w w' : World} {A : Option Addr} {l : List UInt8} (s : Save g w w') (y : NewBys B w A l) (hB : g < B) : Bys w' w'.heap.size A l := by
  rcases y.2 with rfl | ⟨b, off, rfl, hb⟩
  · exact Bys.nil _ _ _
  · rcases y.1 with rfl | ⟨b', off', e, h1, h2⟩
    · exact Bys.nil _ _ _
    · simp only [Option.some.injEq, Addr.mk.injEq, and_true] at e
      obtain ⟨rfl, rfl⟩ := e
      exact .inr ⟨_, _, rfl, Nat.lt_of_lt_of_le h1 s.size, fun k hk => (s.cell (p := ⟨b, off + k, none⟩) h1 (by show b ≠ g; omega)).trans (h2 k hk)⟩

theorem post_rd_x {fn : Func} {R : Ending → World → Prop} {a : Act} {w : World} {t u : Tmp} {g : Nat} {x0 x1 x2 : Value} (hf : fn.results = #[.cell t 27, .tmp u]) (hd : a.defers = [])
    (hg : a.tmps.getD t undef = .pointer (some ⟨g, 0, none⟩)) (h0 : w.cell? ⟨g, 0, none⟩ = some x0) (h1 : w.cell? ⟨g, 1, none⟩ = some x1) (h2 : w.cell? ⟨g, 2, none⟩ = some x2)
    (hR : R (.returned (.tuple #[.agg #[x0, x1, x2], a.tmps.getD u undef])) w) : bodyPost Tryd.prog fn R .ret a w := by
  refine bodyPost_ret ?_ hd hR
  rw [Array.getD_eq_getD_getElem?] at hg
  simp [results, hf, hg, go_sem, h0, h1, h2]
/-- What a call on both sides tells: both alike. -/
def Does (g : Nat) (a e : Int) (A : Option Addr) (l : List UInt8) (c : Nat) (w : World) (x : Ending) (w' : World) : Prop := x = .returned (.tuple #[(.agg #[.slice A (List.length l) c, .int .i64 a, .int .i64 e]), .bool true]) ∧ RSt w' g A l c a e ∧ Save g w w'

set_option maxRecDepth 100000 in
set_option maxHeartbeats 1000000 in
theorem does0 (g : Nat) (A : Option Addr) (c : Nat) (l : List UInt8) (a e size : Int) (w : World) (_hL : Laid w) (h : RSt w g A l c a e) (hb : Bys w g A l) (hl : l.length ≤ 140000000000) (hc : l.length ≤ c) :
    Calls Tryd.prog 8 #[.agg #[.int .i64 0, .int .i64 size], (.agg #[.slice A (List.length l) c, .int .i64 a, .int .i64 e]), .pointer (some ⟨g, 0, none⟩)] w (Does g (Wr.boo l a e).2.1 (Wr.boo l a e).2.2 A l c w) := by
  have P0 := fun W hb => Boolean_any A c l a e W hb hl hc
  have R0 := fun W h hb => rBoolean_any g A c l a e W h hb hl hc
  obtain ⟨⟨n, m, r⟩, hR⟩ : ∃ R, R = Wr.boo l a e := ⟨_, rfl⟩
  rw [← hR] at P0 R0 ⊢
  clear hR
  have P := Lib.hid P0
  have R := Lib.hid R0
  clear P0 R0
  have g0 := h.lt
  go_enter Tryd.func8, Tryd.ntmps8
  go_wp2_with fail
  refine (P.out _ ((hb.more (Nat.le_of_lt g0)).now (by (repeat' (first | with_reducible assumption | with_reducible exact Below.refl _ _ | (with_reducible refine Below.alloc ?_ ?_ _; rotate_left; focus ((first | exact Nat.le_refl _ | (simp; done) | (simp; omega) | omega | fail))) | (with_reducible refine Below.setCell ?_ ?_ _; rotate_left; focus ((first | exact Nat.le_refl _ | (simp; done) | (simp; omega) | omega | fail))) | with_reducible refine Mem.bel_drewN ?_ _ | with_reducible refine Below.drew ?_ | (with_reducible refine Mem.bel_call (by with_reducible assumption) ?_ ?_; focus ((first | exact Nat.le_refl _ | (simp; done) | (simp; omega) | omega | fail))) | fail))))).mono ?_
  rintro e w1 ⟨rfl, b1⟩
  have hSz := Below.size b1; try simp at hSz
  have hOwn := Nat.lt_of_lt_of_le (n := (w.heap.size + 1 + 1)) (by first | exact Nat.le_refl _ | assumption | (simp; done) | (simp; omega) | omega) (Below.size b1)
  have hOwn1 := Nat.ne_of_gt hOwn
  have hOwn2 := Nat.ne_of_lt hOwn
  have hOwn := (Below.cell b1 (p := ⟨(w.heap.size + 1 + 1), 0, none⟩) (by first | exact Nat.le_refl _ | assumption | (simp; done) | (simp; omega) | omega)).trans (by go_simp; rfl)
  have hOwn := (Below.cell b1 (p := ⟨(w.heap.size + 1 + 1), 1, none⟩) (by first | exact Nat.le_refl _ | assumption | (simp; done) | (simp; omega) | omega)).trans (by go_simp; rfl)
  have hOwn := (Below.cell b1 (p := ⟨(w.heap.size + 1 + 1), 2, none⟩) (by first | exact Nat.le_refl _ | assumption | (simp; done) | (simp; omega) | omega)).trans (by go_simp; rfl)
  have hOwn := (Below.frozen b1 (p := ⟨(w.heap.size + 1 + 1), 0, none⟩) (by first | exact Nat.le_refl _ | assumption | (simp; done) | (simp; omega) | omega)).trans (by go_simp; rfl)
  have hOwn := (Below.frozen b1 (p := ⟨(w.heap.size + 1 + 1), 1, none⟩) (by first | exact Nat.le_refl _ | assumption | (simp; done) | (simp; omega) | omega)).trans (by go_simp; rfl)
  have hOwn := (Below.frozen b1 (p := ⟨(w.heap.size + 1 + 1), 2, none⟩) (by first | exact Nat.le_refl _ | assumption | (simp; done) | (simp; omega) | omega)).trans (by go_simp; rfl)
  have t1 : RSt w1 g A l c a e := (((h.alloc _).alloc _).alloc _).below b1 (by simp; omega)
  have s1 : Save g w w1 := Save.of (by (repeat' (first | with_reducible assumption | with_reducible exact Below.refl _ _ | (with_reducible refine Below.alloc ?_ ?_ _; rotate_left; focus ((first | exact Nat.le_refl _ | (simp; done) | (simp; omega) | omega | fail))) | (with_reducible refine Below.setCell ?_ ?_ _; rotate_left; focus ((first | exact Nat.le_refl _ | (simp; done) | (simp; omega) | omega | fail))) | with_reducible refine Mem.bel_drewN ?_ _ | with_reducible refine Below.drew ?_ | (with_reducible refine Mem.bel_call (by with_reducible assumption) ?_ ?_; focus ((first | exact Nat.le_refl _ | (simp; done) | (simp; omega) | omega | fail))) | fail))) (Nat.le_of_lt g0)
  have g1 := t1.lt
  have n1 : w1.heap.size ≠ g := by omega
  go_wp2_with fail
  obtain ⟨w0, hw0⟩ : ∃ w0, w0 = w1.alloc (.cells #[.slice A l.length c, .int .i64 m, .int .i64 r] 27) := ⟨_, rfl⟩
  have c0 : w0.cell? ⟨w1.heap.size, 0, none⟩ = some (.slice A l.length c) := by rw [hw0]; go_simp
  have c2 : w0.cell? ⟨w1.heap.size, 1, none⟩ = some (.int .i64 m) := by rw [hw0]; go_simp
  have c3 : w0.cell? ⟨w1.heap.size, 2, none⟩ = some (.int .i64 r) := by rw [hw0]; go_simp
  have b0 : Below w1.heap.size w1 w0 := by rw [hw0]; exact (Below.refl _ _).alloc (Nat.le_refl _) _
  have z0 : w0.heap.size = w1.heap.size + 1 := by rw [hw0]; simp
  have t0 : RSt w0 g A l c a e := t1.below b0 g1
  have s0 : Save g w w0 := Save.call b0 (Nat.le_of_lt g1) s1
  have hOwn := Nat.lt_of_lt_of_le (n := (w.heap.size + 1 + 1)) (by first | exact Nat.le_refl _ | assumption | (simp; done) | (simp; omega) | omega) (Below.size b0)
  have hOwn1 := Nat.ne_of_gt hOwn
  have hOwn2 := Nat.ne_of_lt hOwn
  have hOwn := (Below.cell b0 (p := ⟨(w.heap.size + 1 + 1), 0, none⟩) (by first | exact Nat.le_refl _ | assumption | (simp; done) | (simp; omega) | omega)).trans (by go_simp; rfl)
  have hOwn := (Below.cell b0 (p := ⟨(w.heap.size + 1 + 1), 1, none⟩) (by first | exact Nat.le_refl _ | assumption | (simp; done) | (simp; omega) | omega)).trans (by go_simp; rfl)
  have hOwn := (Below.cell b0 (p := ⟨(w.heap.size + 1 + 1), 2, none⟩) (by first | exact Nat.le_refl _ | assumption | (simp; done) | (simp; omega) | omega)).trans (by go_simp; rfl)
  have hOwn := (Below.frozen b0 (p := ⟨(w.heap.size + 1 + 1), 0, none⟩) (by first | exact Nat.le_refl _ | assumption | (simp; done) | (simp; omega) | omega)).trans (by go_simp; rfl)
  have hOwn := (Below.frozen b0 (p := ⟨(w.heap.size + 1 + 1), 1, none⟩) (by first | exact Nat.le_refl _ | assumption | (simp; done) | (simp; omega) | omega)).trans (by go_simp; rfl)
  have hOwn := (Below.frozen b0 (p := ⟨(w.heap.size + 1 + 1), 2, none⟩) (by first | exact Nat.le_refl _ | assumption | (simp; done) | (simp; omega) | omega)).trans (by go_simp; rfl)
  rw [← hw0]
  have Z0 := Lib.hid z0
  clear hw0 z0
  go_region_held_law (fun w' => w'.cell? ⟨w1.heap.size, 0, none⟩ = some (.slice A l.length c) ∧ w'.cell? ⟨w1.heap.size, 1, none⟩ = some (.int .i64 m) ∧ w'.cell? ⟨w1.heap.size, 2, none⟩ = some (.int .i64 r)) (exact ⟨(by first | with_reducible assumption | (go_simp; done)), (by first | with_reducible assumption | (go_simp; done)), (by first | with_reducible assumption | (go_simp; done))⟩) (first
    | (go_at_call 26; refine (R.out _ t0.drew (s0.bys hb (Nat.le_refl _)).drew).mono ?_; rintro e w2 ⟨rfl, t2, s2⟩; have s3 : Save g w w2 := Save.next s2 (Save.drew s0); have z2 := s2.size; have zz := Z0.out; have d0 := (Save.cell s2 (p := ⟨w1.heap.size, 0, none⟩) (by show w1.heap.size < w0.heap.size; omega) n1).trans c0; have d1 := (Save.cell s2 (p := ⟨w1.heap.size, 1, none⟩) (by show w1.heap.size < w0.heap.size; omega) n1).trans c2; have d2 := (Save.cell s2 (p := ⟨w1.heap.size, 2, none⟩) (by show w1.heap.size < w0.heap.size; omega) n1).trans c3; clear zz; have k0 := (Save.cell s2 (p := ⟨w.heap.size + 1 + 1, 0, none⟩) (by show w.heap.size + 1 + 1 < w0.heap.size; omega) (by show w.heap.size + 1 + 1 ≠ g; omega)).trans (by go_simp; rfl); have f0 := (Save.frozen s2 (p := ⟨w.heap.size + 1 + 1, 0, none⟩) (by show w.heap.size + 1 + 1 < w0.heap.size; omega) (by show w.heap.size + 1 + 1 ≠ g; omega)).trans (by go_simp; rfl); have k1 := (Save.cell s2 (p := ⟨w.heap.size + 1 + 1, 1, none⟩) (by show w.heap.size + 1 + 1 < w0.heap.size; omega) (by show w.heap.size + 1 + 1 ≠ g; omega)).trans (by go_simp; rfl); have f1 := (Save.frozen s2 (p := ⟨w.heap.size + 1 + 1, 1, none⟩) (by show w.heap.size + 1 + 1 < w0.heap.size; omega) (by show w.heap.size + 1 + 1 ≠ g; omega)).trans (by go_simp; rfl); have k2 := (Save.cell s2 (p := ⟨w.heap.size + 1 + 1, 2, none⟩) (by show w.heap.size + 1 + 1 < w0.heap.size; omega) (by show w.heap.size + 1 + 1 ≠ g; omega)).trans (by go_simp; rfl); have f2 := (Save.frozen s2 (p := ⟨w.heap.size + 1 + 1, 2, none⟩) (by show w.heap.size + 1 + 1 < w0.heap.size; omega) (by show w.heap.size + 1 + 1 ≠ g; omega)).trans (by go_simp; rfl)))
  all_goals
    go_wp2_with fail
    try simp only [Exit.inBlock, Exit.then]
    refine post_rd_x (x0 := .slice A (List.length l) c) (x1 := .int .i64 m) (x2 := .int .i64 r) rfl rfl rfl (by go_simp) (by go_simp) (by go_simp) ?_
    refine ⟨by simp, ?_, ?_⟩
    · exact ((t2.past (by show w.heap.size + 1 + 1 ≠ g; omega) _).past (by show w.heap.size + 1 + 1 ≠ g; omega) _).past (by show w.heap.size + 1 + 1 ≠ g; omega) _
    · exact ((s3.fresh (by show w.heap.size ≤ w.heap.size + 1 + 1; omega) g0 _).fresh (by show w.heap.size ≤ w.heap.size + 1 + 1; omega) g0 _).fresh (by show w.heap.size ≤ w.heap.size + 1 + 1; omega) g0 _

set_option maxRecDepth 100000 in
set_option maxHeartbeats 1000000 in
theorem does1 (g : Nat) (A : Option Addr) (c : Nat) (l : List UInt8) (a e size : Int) (w : World) (_hL : Laid w) (h : RSt w g A l c a e) (hb : Bys w g A l) (hl : l.length ≤ 140000000000) (_hc : l.length ≤ c) :
    Calls Tryd.prog 8 #[.agg #[.int .i64 1, .int .i64 size], (.agg #[.slice A (List.length l) c, .int .i64 a, .int .i64 e]), .pointer (some ⟨g, 0, none⟩)] w (Does g (Wr.lnum 5 15 l a e).2.1 (Wr.lnum 5 15 l a e).2.2 A l c w) := by
  have P0 := fun W hb => Int_rd A c l a e W hb hl
  have R0 := fun W h hb => rInt_any g A c l a e W h hb hl
  obtain ⟨⟨n, m, r⟩, hR⟩ : ∃ R, R = Wr.lnum 5 15 l a e := ⟨_, rfl⟩
  rw [← hR] at P0 R0 ⊢
  clear hR
  have P := Lib.hid P0
  have R := Lib.hid R0
  clear P0 R0
  have g0 := h.lt
  go_enter Tryd.func8, Tryd.ntmps8
  go_wp2_with fail
  refine (P.out _ ((hb.more (Nat.le_of_lt g0)).now (by (repeat' (first | with_reducible assumption | with_reducible exact Below.refl _ _ | (with_reducible refine Below.alloc ?_ ?_ _; rotate_left; focus ((first | exact Nat.le_refl _ | (simp; done) | (simp; omega) | omega | fail))) | (with_reducible refine Below.setCell ?_ ?_ _; rotate_left; focus ((first | exact Nat.le_refl _ | (simp; done) | (simp; omega) | omega | fail))) | with_reducible refine Mem.bel_drewN ?_ _ | with_reducible refine Below.drew ?_ | (with_reducible refine Mem.bel_call (by with_reducible assumption) ?_ ?_; focus ((first | exact Nat.le_refl _ | (simp; done) | (simp; omega) | omega | fail))) | fail))))).mono ?_
  rintro e w1 ⟨rfl, b1⟩
  have hSz := Below.size b1; try simp at hSz
  have hOwn := Nat.lt_of_lt_of_le (n := (w.heap.size + 1 + 1)) (by first | exact Nat.le_refl _ | assumption | (simp; done) | (simp; omega) | omega) (Below.size b1)
  have hOwn1 := Nat.ne_of_gt hOwn
  have hOwn2 := Nat.ne_of_lt hOwn
  have hOwn := (Below.cell b1 (p := ⟨(w.heap.size + 1 + 1), 0, none⟩) (by first | exact Nat.le_refl _ | assumption | (simp; done) | (simp; omega) | omega)).trans (by go_simp; rfl)
  have hOwn := (Below.cell b1 (p := ⟨(w.heap.size + 1 + 1), 1, none⟩) (by first | exact Nat.le_refl _ | assumption | (simp; done) | (simp; omega) | omega)).trans (by go_simp; rfl)
  have hOwn := (Below.cell b1 (p := ⟨(w.heap.size + 1 + 1), 2, none⟩) (by first | exact Nat.le_refl _ | assumption | (simp; done) | (simp; omega) | omega)).trans (by go_simp; rfl)
  have hOwn := (Below.frozen b1 (p := ⟨(w.heap.size + 1 + 1), 0, none⟩) (by first | exact Nat.le_refl _ | assumption | (simp; done) | (simp; omega) | omega)).trans (by go_simp; rfl)
  have hOwn := (Below.frozen b1 (p := ⟨(w.heap.size + 1 + 1), 1, none⟩) (by first | exact Nat.le_refl _ | assumption | (simp; done) | (simp; omega) | omega)).trans (by go_simp; rfl)
  have hOwn := (Below.frozen b1 (p := ⟨(w.heap.size + 1 + 1), 2, none⟩) (by first | exact Nat.le_refl _ | assumption | (simp; done) | (simp; omega) | omega)).trans (by go_simp; rfl)
  have t1 : RSt w1 g A l c a e := (((h.alloc _).alloc _).alloc _).below b1 (by simp; omega)
  have s1 : Save g w w1 := Save.of (by (repeat' (first | with_reducible assumption | with_reducible exact Below.refl _ _ | (with_reducible refine Below.alloc ?_ ?_ _; rotate_left; focus ((first | exact Nat.le_refl _ | (simp; done) | (simp; omega) | omega | fail))) | (with_reducible refine Below.setCell ?_ ?_ _; rotate_left; focus ((first | exact Nat.le_refl _ | (simp; done) | (simp; omega) | omega | fail))) | with_reducible refine Mem.bel_drewN ?_ _ | with_reducible refine Below.drew ?_ | (with_reducible refine Mem.bel_call (by with_reducible assumption) ?_ ?_; focus ((first | exact Nat.le_refl _ | (simp; done) | (simp; omega) | omega | fail))) | fail))) (Nat.le_of_lt g0)
  have g1 := t1.lt
  have n1 : w1.heap.size ≠ g := by omega
  go_wp2_with fail
  obtain ⟨w0, hw0⟩ : ∃ w0, w0 = w1.alloc (.cells #[.slice A l.length c, .int .i64 m, .int .i64 r] 27) := ⟨_, rfl⟩
  have c0 : w0.cell? ⟨w1.heap.size, 0, none⟩ = some (.slice A l.length c) := by rw [hw0]; go_simp
  have c2 : w0.cell? ⟨w1.heap.size, 1, none⟩ = some (.int .i64 m) := by rw [hw0]; go_simp
  have c3 : w0.cell? ⟨w1.heap.size, 2, none⟩ = some (.int .i64 r) := by rw [hw0]; go_simp
  have b0 : Below w1.heap.size w1 w0 := by rw [hw0]; exact (Below.refl _ _).alloc (Nat.le_refl _) _
  have z0 : w0.heap.size = w1.heap.size + 1 := by rw [hw0]; simp
  have t0 : RSt w0 g A l c a e := t1.below b0 g1
  have s0 : Save g w w0 := Save.call b0 (Nat.le_of_lt g1) s1
  have hOwn := Nat.lt_of_lt_of_le (n := (w.heap.size + 1 + 1)) (by first | exact Nat.le_refl _ | assumption | (simp; done) | (simp; omega) | omega) (Below.size b0)
  have hOwn1 := Nat.ne_of_gt hOwn
  have hOwn2 := Nat.ne_of_lt hOwn
  have hOwn := (Below.cell b0 (p := ⟨(w.heap.size + 1 + 1), 0, none⟩) (by first | exact Nat.le_refl _ | assumption | (simp; done) | (simp; omega) | omega)).trans (by go_simp; rfl)
  have hOwn := (Below.cell b0 (p := ⟨(w.heap.size + 1 + 1), 1, none⟩) (by first | exact Nat.le_refl _ | assumption | (simp; done) | (simp; omega) | omega)).trans (by go_simp; rfl)
  have hOwn := (Below.cell b0 (p := ⟨(w.heap.size + 1 + 1), 2, none⟩) (by first | exact Nat.le_refl _ | assumption | (simp; done) | (simp; omega) | omega)).trans (by go_simp; rfl)
  have hOwn := (Below.frozen b0 (p := ⟨(w.heap.size + 1 + 1), 0, none⟩) (by first | exact Nat.le_refl _ | assumption | (simp; done) | (simp; omega) | omega)).trans (by go_simp; rfl)
  have hOwn := (Below.frozen b0 (p := ⟨(w.heap.size + 1 + 1), 1, none⟩) (by first | exact Nat.le_refl _ | assumption | (simp; done) | (simp; omega) | omega)).trans (by go_simp; rfl)
  have hOwn := (Below.frozen b0 (p := ⟨(w.heap.size + 1 + 1), 2, none⟩) (by first | exact Nat.le_refl _ | assumption | (simp; done) | (simp; omega) | omega)).trans (by go_simp; rfl)
  rw [← hw0]
  have Z0 := Lib.hid z0
  clear hw0 z0
  go_region_held_law (fun w' => w'.cell? ⟨w1.heap.size, 0, none⟩ = some (.slice A l.length c) ∧ w'.cell? ⟨w1.heap.size, 1, none⟩ = some (.int .i64 m) ∧ w'.cell? ⟨w1.heap.size, 2, none⟩ = some (.int .i64 r)) (exact ⟨(by first | with_reducible assumption | (go_simp; done)), (by first | with_reducible assumption | (go_simp; done)), (by first | with_reducible assumption | (go_simp; done))⟩) (first
    | (go_at_call 27; refine (R.out _ t0.drew (s0.bys hb (Nat.le_refl _)).drew).mono ?_; rintro e w2 ⟨rfl, t2, s2⟩; have s3 : Save g w w2 := Save.next s2 (Save.drew s0); have z2 := s2.size; have zz := Z0.out; have d0 := (Save.cell s2 (p := ⟨w1.heap.size, 0, none⟩) (by show w1.heap.size < w0.heap.size; omega) n1).trans c0; have d1 := (Save.cell s2 (p := ⟨w1.heap.size, 1, none⟩) (by show w1.heap.size < w0.heap.size; omega) n1).trans c2; have d2 := (Save.cell s2 (p := ⟨w1.heap.size, 2, none⟩) (by show w1.heap.size < w0.heap.size; omega) n1).trans c3; clear zz; have k0 := (Save.cell s2 (p := ⟨w.heap.size + 1 + 1, 0, none⟩) (by show w.heap.size + 1 + 1 < w0.heap.size; omega) (by show w.heap.size + 1 + 1 ≠ g; omega)).trans (by go_simp; rfl); have f0 := (Save.frozen s2 (p := ⟨w.heap.size + 1 + 1, 0, none⟩) (by show w.heap.size + 1 + 1 < w0.heap.size; omega) (by show w.heap.size + 1 + 1 ≠ g; omega)).trans (by go_simp; rfl); have k1 := (Save.cell s2 (p := ⟨w.heap.size + 1 + 1, 1, none⟩) (by show w.heap.size + 1 + 1 < w0.heap.size; omega) (by show w.heap.size + 1 + 1 ≠ g; omega)).trans (by go_simp; rfl); have f1 := (Save.frozen s2 (p := ⟨w.heap.size + 1 + 1, 1, none⟩) (by show w.heap.size + 1 + 1 < w0.heap.size; omega) (by show w.heap.size + 1 + 1 ≠ g; omega)).trans (by go_simp; rfl); have k2 := (Save.cell s2 (p := ⟨w.heap.size + 1 + 1, 2, none⟩) (by show w.heap.size + 1 + 1 < w0.heap.size; omega) (by show w.heap.size + 1 + 1 ≠ g; omega)).trans (by go_simp; rfl); have f2 := (Save.frozen s2 (p := ⟨w.heap.size + 1 + 1, 2, none⟩) (by show w.heap.size + 1 + 1 < w0.heap.size; omega) (by show w.heap.size + 1 + 1 ≠ g; omega)).trans (by go_simp; rfl)))
  all_goals
    go_wp2_with fail
    try simp only [Exit.inBlock, Exit.then]
    refine post_rd_x (x0 := .slice A (List.length l) c) (x1 := .int .i64 m) (x2 := .int .i64 r) rfl rfl rfl (by go_simp) (by go_simp) (by go_simp) ?_
    refine ⟨by simp, ?_, ?_⟩
    · exact ((t2.past (by show w.heap.size + 1 + 1 ≠ g; omega) _).past (by show w.heap.size + 1 + 1 ≠ g; omega) _).past (by show w.heap.size + 1 + 1 ≠ g; omega) _
    · exact ((s3.fresh (by show w.heap.size ≤ w.heap.size + 1 + 1; omega) g0 _).fresh (by show w.heap.size ≤ w.heap.size + 1 + 1; omega) g0 _).fresh (by show w.heap.size ≤ w.heap.size + 1 + 1; omega) g0 _

set_option maxRecDepth 100000 in
set_option maxHeartbeats 1000000 in
theorem does2 (g : Nat) (A : Option Addr) (c : Nat) (l : List UInt8) (a e size : Int) (w : World) (_hL : Laid w) (h : RSt w g A l c a e) (hb : Bys w g A l) (hl : l.length ≤ 140000000000) (_hc : l.length ≤ c) :
    Calls Tryd.prog 8 #[.agg #[.int .i64 2, .int .i64 size], (.agg #[.slice A (List.length l) c, .int .i64 a, .int .i64 e]), .pointer (some ⟨g, 0, none⟩)] w (Does g (Wr.lnum 10 1 l a e).2.1 (Wr.lnum 10 1 l a e).2.2 A l c w) := by
  have P0 := fun W hb => Long_rd A c l a e W hb hl
  have R0 := fun W h hb => rLong_any g A c l a e W h hb hl
  obtain ⟨⟨n, m, r⟩, hR⟩ : ∃ R, R = Wr.lnum 10 1 l a e := ⟨_, rfl⟩
  rw [← hR] at P0 R0 ⊢
  clear hR
  have P := Lib.hid P0
  have R := Lib.hid R0
  clear P0 R0
  have g0 := h.lt
  go_enter Tryd.func8, Tryd.ntmps8
  go_wp2_with fail
  refine (P.out _ ((hb.more (Nat.le_of_lt g0)).now (by (repeat' (first | with_reducible assumption | with_reducible exact Below.refl _ _ | (with_reducible refine Below.alloc ?_ ?_ _; rotate_left; focus ((first | exact Nat.le_refl _ | (simp; done) | (simp; omega) | omega | fail))) | (with_reducible refine Below.setCell ?_ ?_ _; rotate_left; focus ((first | exact Nat.le_refl _ | (simp; done) | (simp; omega) | omega | fail))) | with_reducible refine Mem.bel_drewN ?_ _ | with_reducible refine Below.drew ?_ | (with_reducible refine Mem.bel_call (by with_reducible assumption) ?_ ?_; focus ((first | exact Nat.le_refl _ | (simp; done) | (simp; omega) | omega | fail))) | fail))))).mono ?_
  rintro e w1 ⟨rfl, b1⟩
  have hSz := Below.size b1; try simp at hSz
  have hOwn := Nat.lt_of_lt_of_le (n := (w.heap.size + 1 + 1)) (by first | exact Nat.le_refl _ | assumption | (simp; done) | (simp; omega) | omega) (Below.size b1)
  have hOwn1 := Nat.ne_of_gt hOwn
  have hOwn2 := Nat.ne_of_lt hOwn
  have hOwn := (Below.cell b1 (p := ⟨(w.heap.size + 1 + 1), 0, none⟩) (by first | exact Nat.le_refl _ | assumption | (simp; done) | (simp; omega) | omega)).trans (by go_simp; rfl)
  have hOwn := (Below.cell b1 (p := ⟨(w.heap.size + 1 + 1), 1, none⟩) (by first | exact Nat.le_refl _ | assumption | (simp; done) | (simp; omega) | omega)).trans (by go_simp; rfl)
  have hOwn := (Below.cell b1 (p := ⟨(w.heap.size + 1 + 1), 2, none⟩) (by first | exact Nat.le_refl _ | assumption | (simp; done) | (simp; omega) | omega)).trans (by go_simp; rfl)
  have hOwn := (Below.frozen b1 (p := ⟨(w.heap.size + 1 + 1), 0, none⟩) (by first | exact Nat.le_refl _ | assumption | (simp; done) | (simp; omega) | omega)).trans (by go_simp; rfl)
  have hOwn := (Below.frozen b1 (p := ⟨(w.heap.size + 1 + 1), 1, none⟩) (by first | exact Nat.le_refl _ | assumption | (simp; done) | (simp; omega) | omega)).trans (by go_simp; rfl)
  have hOwn := (Below.frozen b1 (p := ⟨(w.heap.size + 1 + 1), 2, none⟩) (by first | exact Nat.le_refl _ | assumption | (simp; done) | (simp; omega) | omega)).trans (by go_simp; rfl)
  have t1 : RSt w1 g A l c a e := (((h.alloc _).alloc _).alloc _).below b1 (by simp; omega)
  have s1 : Save g w w1 := Save.of (by (repeat' (first | with_reducible assumption | with_reducible exact Below.refl _ _ | (with_reducible refine Below.alloc ?_ ?_ _; rotate_left; focus ((first | exact Nat.le_refl _ | (simp; done) | (simp; omega) | omega | fail))) | (with_reducible refine Below.setCell ?_ ?_ _; rotate_left; focus ((first | exact Nat.le_refl _ | (simp; done) | (simp; omega) | omega | fail))) | with_reducible refine Mem.bel_drewN ?_ _ | with_reducible refine Below.drew ?_ | (with_reducible refine Mem.bel_call (by with_reducible assumption) ?_ ?_; focus ((first | exact Nat.le_refl _ | (simp; done) | (simp; omega) | omega | fail))) | fail))) (Nat.le_of_lt g0)
  have g1 := t1.lt
  have n1 : w1.heap.size ≠ g := by omega
  go_wp2_with fail
  obtain ⟨w0, hw0⟩ : ∃ w0, w0 = w1.alloc (.cells #[.slice A l.length c, .int .i64 m, .int .i64 r] 27) := ⟨_, rfl⟩
  have c0 : w0.cell? ⟨w1.heap.size, 0, none⟩ = some (.slice A l.length c) := by rw [hw0]; go_simp
  have c2 : w0.cell? ⟨w1.heap.size, 1, none⟩ = some (.int .i64 m) := by rw [hw0]; go_simp
  have c3 : w0.cell? ⟨w1.heap.size, 2, none⟩ = some (.int .i64 r) := by rw [hw0]; go_simp
  have b0 : Below w1.heap.size w1 w0 := by rw [hw0]; exact (Below.refl _ _).alloc (Nat.le_refl _) _
  have z0 : w0.heap.size = w1.heap.size + 1 := by rw [hw0]; simp
  have t0 : RSt w0 g A l c a e := t1.below b0 g1
  have s0 : Save g w w0 := Save.call b0 (Nat.le_of_lt g1) s1
  have hOwn := Nat.lt_of_lt_of_le (n := (w.heap.size + 1 + 1)) (by first | exact Nat.le_refl _ | assumption | (simp; done) | (simp; omega) | omega) (Below.size b0)
  have hOwn1 := Nat.ne_of_gt hOwn
  have hOwn2 := Nat.ne_of_lt hOwn
  have hOwn := (Below.cell b0 (p := ⟨(w.heap.size + 1 + 1), 0, none⟩) (by first | exact Nat.le_refl _ | assumption | (simp; done) | (simp; omega) | omega)).trans (by go_simp; rfl)
  have hOwn := (Below.cell b0 (p := ⟨(w.heap.size + 1 + 1), 1, none⟩) (by first | exact Nat.le_refl _ | assumption | (simp; done) | (simp; omega) | omega)).trans (by go_simp; rfl)
  have hOwn := (Below.cell b0 (p := ⟨(w.heap.size + 1 + 1), 2, none⟩) (by first | exact Nat.le_refl _ | assumption | (simp; done) | (simp; omega) | omega)).trans (by go_simp; rfl)
  have hOwn := (Below.frozen b0 (p := ⟨(w.heap.size + 1 + 1), 0, none⟩) (by first | exact Nat.le_refl _ | assumption | (simp; done) | (simp; omega) | omega)).trans (by go_simp; rfl)
  have hOwn := (Below.frozen b0 (p := ⟨(w.heap.size + 1 + 1), 1, none⟩) (by first | exact Nat.le_refl _ | assumption | (simp; done) | (simp; omega) | omega)).trans (by go_simp; rfl)
  have hOwn := (Below.frozen b0 (p := ⟨(w.heap.size + 1 + 1), 2, none⟩) (by first | exact Nat.le_refl _ | assumption | (simp; done) | (simp; omega) | omega)).trans (by go_simp; rfl)
  rw [← hw0]
  have Z0 := Lib.hid z0
  clear hw0 z0
  go_region_held_law (fun w' => w'.cell? ⟨w1.heap.size, 0, none⟩ = some (.slice A l.length c) ∧ w'.cell? ⟨w1.heap.size, 1, none⟩ = some (.int .i64 m) ∧ w'.cell? ⟨w1.heap.size, 2, none⟩ = some (.int .i64 r)) (exact ⟨(by first | with_reducible assumption | (go_simp; done)), (by first | with_reducible assumption | (go_simp; done)), (by first | with_reducible assumption | (go_simp; done))⟩) (first
    | (go_at_call 28; refine (R.out _ t0.drew (s0.bys hb (Nat.le_refl _)).drew).mono ?_; rintro e w2 ⟨rfl, t2, s2⟩; have s3 : Save g w w2 := Save.next s2 (Save.drew s0); have z2 := s2.size; have zz := Z0.out; have d0 := (Save.cell s2 (p := ⟨w1.heap.size, 0, none⟩) (by show w1.heap.size < w0.heap.size; omega) n1).trans c0; have d1 := (Save.cell s2 (p := ⟨w1.heap.size, 1, none⟩) (by show w1.heap.size < w0.heap.size; omega) n1).trans c2; have d2 := (Save.cell s2 (p := ⟨w1.heap.size, 2, none⟩) (by show w1.heap.size < w0.heap.size; omega) n1).trans c3; clear zz; have k0 := (Save.cell s2 (p := ⟨w.heap.size + 1 + 1, 0, none⟩) (by show w.heap.size + 1 + 1 < w0.heap.size; omega) (by show w.heap.size + 1 + 1 ≠ g; omega)).trans (by go_simp; rfl); have f0 := (Save.frozen s2 (p := ⟨w.heap.size + 1 + 1, 0, none⟩) (by show w.heap.size + 1 + 1 < w0.heap.size; omega) (by show w.heap.size + 1 + 1 ≠ g; omega)).trans (by go_simp; rfl); have k1 := (Save.cell s2 (p := ⟨w.heap.size + 1 + 1, 1, none⟩) (by show w.heap.size + 1 + 1 < w0.heap.size; omega) (by show w.heap.size + 1 + 1 ≠ g; omega)).trans (by go_simp; rfl); have f1 := (Save.frozen s2 (p := ⟨w.heap.size + 1 + 1, 1, none⟩) (by show w.heap.size + 1 + 1 < w0.heap.size; omega) (by show w.heap.size + 1 + 1 ≠ g; omega)).trans (by go_simp; rfl); have k2 := (Save.cell s2 (p := ⟨w.heap.size + 1 + 1, 2, none⟩) (by show w.heap.size + 1 + 1 < w0.heap.size; omega) (by show w.heap.size + 1 + 1 ≠ g; omega)).trans (by go_simp; rfl); have f2 := (Save.frozen s2 (p := ⟨w.heap.size + 1 + 1, 2, none⟩) (by show w.heap.size + 1 + 1 < w0.heap.size; omega) (by show w.heap.size + 1 + 1 ≠ g; omega)).trans (by go_simp; rfl)))
  all_goals
    go_wp2_with fail
    try simp only [Exit.inBlock, Exit.then]
    refine post_rd_x (x0 := .slice A (List.length l) c) (x1 := .int .i64 m) (x2 := .int .i64 r) rfl rfl rfl (by go_simp) (by go_simp) (by go_simp) ?_
    refine ⟨by simp, ?_, ?_⟩
    · exact ((t2.past (by show w.heap.size + 1 + 1 ≠ g; omega) _).past (by show w.heap.size + 1 + 1 ≠ g; omega) _).past (by show w.heap.size + 1 + 1 ≠ g; omega) _
    · exact ((s3.fresh (by show w.heap.size ≤ w.heap.size + 1 + 1; omega) g0 _).fresh (by show w.heap.size ≤ w.heap.size + 1 + 1; omega) g0 _).fresh (by show w.heap.size ≤ w.heap.size + 1 + 1; omega) g0 _

set_option maxRecDepth 100000 in
set_option maxHeartbeats 1000000 in
theorem does3 (g : Nat) (A : Option Addr) (c : Nat) (l : List UInt8) (a e size : Int) (w : World) (_hL : Laid w) (h : RSt w g A l c a e) (hb : Bys w g A l) (hl : l.length ≤ 140000000000) (hc : l.length ≤ c) :
    Calls Tryd.prog 8 #[.agg #[.int .i64 3, .int .i64 size], (.agg #[.slice A (List.length l) c, .int .i64 a, .int .i64 e]), .pointer (some ⟨g, 0, none⟩)] w (Does g (Wr.bts l a e size).2.1 (Wr.bts l a e size).2.2 A l c w) := by
  have P0 := fun W hb => Bits_any A c l a e size W hb hl hc
  have R0 := fun W h hb => rBits_any g A c l a e size W h hb hl hc
  obtain ⟨⟨n, m, r⟩, hR⟩ : ∃ R, R = Wr.bts l a e size := ⟨_, rfl⟩
  rw [← hR] at P0 R0 ⊢
  clear hR
  have P := Lib.hid P0
  have R := Lib.hid R0
  clear P0 R0
  have g0 := h.lt
  go_enter Tryd.func8, Tryd.ntmps8
  go_wp2_with fail
  refine (P.out _ ((hb.more (Nat.le_of_lt g0)).now (by (repeat' (first | with_reducible assumption | with_reducible exact Below.refl _ _ | (with_reducible refine Below.alloc ?_ ?_ _; rotate_left; focus ((first | exact Nat.le_refl _ | (simp; done) | (simp; omega) | omega | fail))) | (with_reducible refine Below.setCell ?_ ?_ _; rotate_left; focus ((first | exact Nat.le_refl _ | (simp; done) | (simp; omega) | omega | fail))) | with_reducible refine Mem.bel_drewN ?_ _ | with_reducible refine Below.drew ?_ | (with_reducible refine Mem.bel_call (by with_reducible assumption) ?_ ?_; focus ((first | exact Nat.le_refl _ | (simp; done) | (simp; omega) | omega | fail))) | fail))))).mono ?_
  rintro e w1 ⟨rfl, b1⟩
  have hSz := Below.size b1; try simp at hSz
  have hOwn := Nat.lt_of_lt_of_le (n := (w.heap.size + 1 + 1)) (by first | exact Nat.le_refl _ | assumption | (simp; done) | (simp; omega) | omega) (Below.size b1)
  have hOwn1 := Nat.ne_of_gt hOwn
  have hOwn2 := Nat.ne_of_lt hOwn
  have hOwn := (Below.cell b1 (p := ⟨(w.heap.size + 1 + 1), 0, none⟩) (by first | exact Nat.le_refl _ | assumption | (simp; done) | (simp; omega) | omega)).trans (by go_simp; rfl)
  have hOwn := (Below.cell b1 (p := ⟨(w.heap.size + 1 + 1), 1, none⟩) (by first | exact Nat.le_refl _ | assumption | (simp; done) | (simp; omega) | omega)).trans (by go_simp; rfl)
  have hOwn := (Below.cell b1 (p := ⟨(w.heap.size + 1 + 1), 2, none⟩) (by first | exact Nat.le_refl _ | assumption | (simp; done) | (simp; omega) | omega)).trans (by go_simp; rfl)
  have hOwn := (Below.frozen b1 (p := ⟨(w.heap.size + 1 + 1), 0, none⟩) (by first | exact Nat.le_refl _ | assumption | (simp; done) | (simp; omega) | omega)).trans (by go_simp; rfl)
  have hOwn := (Below.frozen b1 (p := ⟨(w.heap.size + 1 + 1), 1, none⟩) (by first | exact Nat.le_refl _ | assumption | (simp; done) | (simp; omega) | omega)).trans (by go_simp; rfl)
  have hOwn := (Below.frozen b1 (p := ⟨(w.heap.size + 1 + 1), 2, none⟩) (by first | exact Nat.le_refl _ | assumption | (simp; done) | (simp; omega) | omega)).trans (by go_simp; rfl)
  have hOwn := Nat.lt_of_lt_of_le (n := w.heap.size) (by first | exact Nat.le_refl _ | assumption | (simp; done) | (simp; omega) | omega) (Below.size b1)
  have hOwn1 := Nat.ne_of_gt hOwn
  have hOwn2 := Nat.ne_of_lt hOwn
  have hOwn := (Below.cell b1 (p := ⟨w.heap.size, 0, none⟩) (by first | exact Nat.le_refl _ | assumption | (simp; done) | (simp; omega) | omega)).trans (by go_simp; rfl)
  have hOwn := (Below.cell b1 (p := ⟨w.heap.size, 1, none⟩) (by first | exact Nat.le_refl _ | assumption | (simp; done) | (simp; omega) | omega)).trans (by go_simp; rfl)
  have hOwn := (Below.frozen b1 (p := ⟨w.heap.size, 0, none⟩) (by first | exact Nat.le_refl _ | assumption | (simp; done) | (simp; omega) | omega)).trans (by go_simp; rfl)
  have hOwn := (Below.frozen b1 (p := ⟨w.heap.size, 1, none⟩) (by first | exact Nat.le_refl _ | assumption | (simp; done) | (simp; omega) | omega)).trans (by go_simp; rfl)
  have t1 : RSt w1 g A l c a e := (((h.alloc _).alloc _).alloc _).below b1 (by simp; omega)
  have s1 : Save g w w1 := Save.of (by (repeat' (first | with_reducible assumption | with_reducible exact Below.refl _ _ | (with_reducible refine Below.alloc ?_ ?_ _; rotate_left; focus ((first | exact Nat.le_refl _ | (simp; done) | (simp; omega) | omega | fail))) | (with_reducible refine Below.setCell ?_ ?_ _; rotate_left; focus ((first | exact Nat.le_refl _ | (simp; done) | (simp; omega) | omega | fail))) | with_reducible refine Mem.bel_drewN ?_ _ | with_reducible refine Below.drew ?_ | (with_reducible refine Mem.bel_call (by with_reducible assumption) ?_ ?_; focus ((first | exact Nat.le_refl _ | (simp; done) | (simp; omega) | omega | fail))) | fail))) (Nat.le_of_lt g0)
  have g1 := t1.lt
  have n1 : w1.heap.size ≠ g := by omega
  go_wp2_with fail
  obtain ⟨w0, hw0⟩ : ∃ w0, w0 = w1.alloc (.cells #[.slice A l.length c, .int .i64 m, .int .i64 r] 27) := ⟨_, rfl⟩
  have c0 : w0.cell? ⟨w1.heap.size, 0, none⟩ = some (.slice A l.length c) := by rw [hw0]; go_simp
  have c2 : w0.cell? ⟨w1.heap.size, 1, none⟩ = some (.int .i64 m) := by rw [hw0]; go_simp
  have c3 : w0.cell? ⟨w1.heap.size, 2, none⟩ = some (.int .i64 r) := by rw [hw0]; go_simp
  have b0 : Below w1.heap.size w1 w0 := by rw [hw0]; exact (Below.refl _ _).alloc (Nat.le_refl _) _
  have z0 : w0.heap.size = w1.heap.size + 1 := by rw [hw0]; simp
  have t0 : RSt w0 g A l c a e := t1.below b0 g1
  have s0 : Save g w w0 := Save.call b0 (Nat.le_of_lt g1) s1
  have hOwn := Nat.lt_of_lt_of_le (n := (w.heap.size + 1 + 1)) (by first | exact Nat.le_refl _ | assumption | (simp; done) | (simp; omega) | omega) (Below.size b0)
  have hOwn1 := Nat.ne_of_gt hOwn
  have hOwn2 := Nat.ne_of_lt hOwn
  have hOwn := (Below.cell b0 (p := ⟨(w.heap.size + 1 + 1), 0, none⟩) (by first | exact Nat.le_refl _ | assumption | (simp; done) | (simp; omega) | omega)).trans (by go_simp; rfl)
  have hOwn := (Below.cell b0 (p := ⟨(w.heap.size + 1 + 1), 1, none⟩) (by first | exact Nat.le_refl _ | assumption | (simp; done) | (simp; omega) | omega)).trans (by go_simp; rfl)
  have hOwn := (Below.cell b0 (p := ⟨(w.heap.size + 1 + 1), 2, none⟩) (by first | exact Nat.le_refl _ | assumption | (simp; done) | (simp; omega) | omega)).trans (by go_simp; rfl)
  have hOwn := (Below.frozen b0 (p := ⟨(w.heap.size + 1 + 1), 0, none⟩) (by first | exact Nat.le_refl _ | assumption | (simp; done) | (simp; omega) | omega)).trans (by go_simp; rfl)
  have hOwn := (Below.frozen b0 (p := ⟨(w.heap.size + 1 + 1), 1, none⟩) (by first | exact Nat.le_refl _ | assumption | (simp; done) | (simp; omega) | omega)).trans (by go_simp; rfl)
  have hOwn := (Below.frozen b0 (p := ⟨(w.heap.size + 1 + 1), 2, none⟩) (by first | exact Nat.le_refl _ | assumption | (simp; done) | (simp; omega) | omega)).trans (by go_simp; rfl)
  have hOwn := Nat.lt_of_lt_of_le (n := w.heap.size) (by first | exact Nat.le_refl _ | assumption | (simp; done) | (simp; omega) | omega) (Below.size b0)
  have hOwn1 := Nat.ne_of_gt hOwn
  have hOwn2 := Nat.ne_of_lt hOwn
  have hOwn := (Below.cell b0 (p := ⟨w.heap.size, 0, none⟩) (by first | exact Nat.le_refl _ | assumption | (simp; done) | (simp; omega) | omega)).trans (by go_simp; rfl)
  have hOwn := (Below.cell b0 (p := ⟨w.heap.size, 1, none⟩) (by first | exact Nat.le_refl _ | assumption | (simp; done) | (simp; omega) | omega)).trans (by go_simp; rfl)
  have hOwn := (Below.frozen b0 (p := ⟨w.heap.size, 0, none⟩) (by first | exact Nat.le_refl _ | assumption | (simp; done) | (simp; omega) | omega)).trans (by go_simp; rfl)
  have hOwn := (Below.frozen b0 (p := ⟨w.heap.size, 1, none⟩) (by first | exact Nat.le_refl _ | assumption | (simp; done) | (simp; omega) | omega)).trans (by go_simp; rfl)
  rw [← hw0]
  have Z0 := Lib.hid z0
  clear hw0 z0
  go_region_held_law (fun w' => w'.cell? ⟨w1.heap.size, 0, none⟩ = some (.slice A l.length c) ∧ w'.cell? ⟨w1.heap.size, 1, none⟩ = some (.int .i64 m) ∧ w'.cell? ⟨w1.heap.size, 2, none⟩ = some (.int .i64 r) ∧ w'.cell? ⟨w.heap.size, 1, none⟩ = some (.int .i64 size)) (exact ⟨(by first | with_reducible assumption | (go_simp; done)), (by first | with_reducible assumption | (go_simp; done)), (by first | with_reducible assumption | (go_simp; done)), (by first | with_reducible assumption | (go_simp; done))⟩) (first
    | (go_at_call 29; refine (R.out _ t0.drew (s0.bys hb (Nat.le_refl _)).drew).mono ?_; rintro e w2 ⟨rfl, t2, s2⟩; have s3 : Save g w w2 := Save.next s2 (Save.drew s0); have z2 := s2.size; have zz := Z0.out; have d0 := (Save.cell s2 (p := ⟨w1.heap.size, 0, none⟩) (by show w1.heap.size < w0.heap.size; omega) n1).trans c0; have d1 := (Save.cell s2 (p := ⟨w1.heap.size, 1, none⟩) (by show w1.heap.size < w0.heap.size; omega) n1).trans c2; have d2 := (Save.cell s2 (p := ⟨w1.heap.size, 2, none⟩) (by show w1.heap.size < w0.heap.size; omega) n1).trans c3; clear zz; have d3 := (Save.cell s2 (p := ⟨w.heap.size, 1, none⟩) (by show w.heap.size < w0.heap.size; omega) (by show w.heap.size ≠ g; omega)).trans (by go_simp; rfl); have k0 := (Save.cell s2 (p := ⟨w.heap.size + 1 + 1, 0, none⟩) (by show w.heap.size + 1 + 1 < w0.heap.size; omega) (by show w.heap.size + 1 + 1 ≠ g; omega)).trans (by go_simp; rfl); have f0 := (Save.frozen s2 (p := ⟨w.heap.size + 1 + 1, 0, none⟩) (by show w.heap.size + 1 + 1 < w0.heap.size; omega) (by show w.heap.size + 1 + 1 ≠ g; omega)).trans (by go_simp; rfl); have k1 := (Save.cell s2 (p := ⟨w.heap.size + 1 + 1, 1, none⟩) (by show w.heap.size + 1 + 1 < w0.heap.size; omega) (by show w.heap.size + 1 + 1 ≠ g; omega)).trans (by go_simp; rfl); have f1 := (Save.frozen s2 (p := ⟨w.heap.size + 1 + 1, 1, none⟩) (by show w.heap.size + 1 + 1 < w0.heap.size; omega) (by show w.heap.size + 1 + 1 ≠ g; omega)).trans (by go_simp; rfl); have k2 := (Save.cell s2 (p := ⟨w.heap.size + 1 + 1, 2, none⟩) (by show w.heap.size + 1 + 1 < w0.heap.size; omega) (by show w.heap.size + 1 + 1 ≠ g; omega)).trans (by go_simp; rfl); have f2 := (Save.frozen s2 (p := ⟨w.heap.size + 1 + 1, 2, none⟩) (by show w.heap.size + 1 + 1 < w0.heap.size; omega) (by show w.heap.size + 1 + 1 ≠ g; omega)).trans (by go_simp; rfl)))
  all_goals
    go_wp2_with fail
    try simp only [Exit.inBlock, Exit.then]
    refine post_rd_x (x0 := .slice A (List.length l) c) (x1 := .int .i64 m) (x2 := .int .i64 r) rfl rfl rfl (by go_simp) (by go_simp) (by go_simp) ?_
    refine ⟨by simp, ?_, ?_⟩
    · exact ((t2.past (by show w.heap.size + 1 + 1 ≠ g; omega) _).past (by show w.heap.size + 1 + 1 ≠ g; omega) _).past (by show w.heap.size + 1 + 1 ≠ g; omega) _
    · exact ((s3.fresh (by show w.heap.size ≤ w.heap.size + 1 + 1; omega) g0 _).fresh (by show w.heap.size ≤ w.heap.size + 1 + 1; omega) g0 _).fresh (by show w.heap.size ≤ w.heap.size + 1 + 1; omega) g0 _

end Go.Proofs.YtjebhbjffofjnaaDoor
