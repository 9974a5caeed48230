/- Layer 4: a call by its kind, and the walk of the law of what stands behind. -/
import Derived.Test.YtjebhbjffofjnaaDoorWireF
import Derived.Test.YtjebhbjffofjnaaDoorWNum3
namespace Go.Proofs.YtjebhbjffofjnaaDoor
open Go.ChangeShapes Go.WideShapes Go.ChangeAt Go.RowKit Mem

theorem post_rd4 {fn : Func} {R : Ending → World → Prop} {a : Act} {w : World} {t u v y : Tmp} {g : Nat} {x0 x1 x2 : Value} (hf : fn.results = #[.cell t 27, .tmp u, .tmp v, .tmp y]) (hd : a.defers = [])
    (hg : a.tmps.getD t undef = .pointer (some ⟨g, 0, none⟩)) (h0 : w.cell? ⟨g, 0, none⟩ = some x0) (h1 : w.cell? ⟨g, 1, none⟩ = some x1) (h2 : w.cell? ⟨g, 2, none⟩ = some x2)
    (hR : R (.returned (.tuple #[.agg #[x0, x1, x2], a.tmps.getD u undef, a.tmps.getD v undef, a.tmps.getD y undef])) w) : bodyPost Tryd.prog fn R .ret a w := by
  refine bodyPost_ret ?_ hd hR
  rw [Array.getD_eq_getD_getElem?] at hg
  simp [results, hf, hg, go_sem, h0, h1, h2]
/-- What a call tells, whichever it is: a number, bits, bytes; where the reader stands, why it refused. -/
def Reads (n u : Int) (X : List UInt8) (a e : Int) (A : Option Addr) (l : List UInt8) (c : Nat) (w : World) (x : Ending) (w' : World) : Prop :=
  ∃ A' c', x = .returned (.tuple #[(.agg #[.slice A (List.length l) c, .int .i64 a, .int .i64 e]), .int .i64 n, .int .u64 u, .slice A' X.length c']) ∧ Bys w' w'.heap.size A' X ∧ Below w.heap.size w w'
theorem reads_is {n u a e : Int} {X : List UInt8} {N c c' B : Nat} {A A' : Option Addr} {l : List UInt8} {w w' : World} {x : Ending} (hn : X.length = N) (hx : x = .returned (.tuple #[(.agg #[.slice A (List.length l) c, .int .i64 a, .int .i64 e]), .int .i64 n, .int .u64 u, .slice A' N c'])) (y : NewBys B w' A' X) (b : Below w.heap.size w w') :
    Reads n u X a e A l c w x w' := by subst hn; exact ⟨A', c', hx, y.1, b⟩

set_option maxRecDepth 100000 in
set_option maxHeartbeats 1000000 in
theorem reads0 (A : Option Addr) (c : Nat) (l : List UInt8) (a e size : Int) (w : World) (_hL : Laid w) (hb : Bys w w.heap.size A l) (hl : l.length ≤ 140000000000) (hc : l.length ≤ c) :
    Calls Tryd.prog 25 #[.agg #[.int .i64 0, .int .i64 size], (.agg #[.slice A (List.length l) c, .int .i64 a, .int .i64 e])] w (Reads (Wr.boo l a e).1 0 [] (Wr.boo l a e).2.1 (Wr.boo l a e).2.2 A l c w) := by
  have CS := cell_set
  have P0 := fun W hb => Boolean_any A c l a e W hb hl hc
  obtain ⟨⟨n, m, r⟩, hR⟩ : ∃ R, R = Wr.boo l a e := ⟨_, rfl⟩
  rw [← hR] at P0 ⊢
  clear hR
  have P := Lib.hid P0
  clear P0
  go_enter Tryd.func25, Tryd.ntmps25
  go_wp2_with fail
  refine (P.out _ (hb.now (by (repeat' (first | with_reducible assumption | with_reducible exact Below.refl _ _ | (with_reducible refine Below.alloc ?_ ?_ _; rotate_left; focus ((first | exact Nat.le_refl _ | (simp; done) | (simp; omega) | omega | fail))) | (with_reducible refine Below.setCell ?_ ?_ _; rotate_left; focus ((first | exact Nat.le_refl _ | (simp; done) | (simp; omega) | omega | fail))) | with_reducible refine Mem.bel_drewN ?_ _ | with_reducible refine Below.drew ?_ | (with_reducible refine Mem.bel_call (by with_reducible assumption) ?_ ?_; focus ((first | exact Nat.le_refl _ | (simp; done) | (simp; omega) | omega | fail))) | fail))))).mono ?_
  rintro e w1 ⟨rfl, b1⟩
  have hSz := Below.size b1; try simp at hSz
  have hOwn := Nat.lt_of_lt_of_le (n := (w.heap.size + 1 + 1)) (by first | exact Nat.le_refl _ | assumption | (simp; done) | (simp; omega) | omega) (Below.size b1)
  have hOwn1 := Nat.ne_of_gt hOwn
  have hOwn2 := Nat.ne_of_lt hOwn
  have hOwn := (Below.cell b1 (p := ⟨(w.heap.size + 1 + 1), 0, none⟩) (by first | exact Nat.le_refl _ | assumption | (simp; done) | (simp; omega) | omega)).trans (by go_simp; rfl)
  have hOwn := (Below.cell b1 (p := ⟨(w.heap.size + 1 + 1), 1, none⟩) (by first | exact Nat.le_refl _ | assumption | (simp; done) | (simp; omega) | omega)).trans (by go_simp; rfl)
  have hOwn := (Below.cell b1 (p := ⟨(w.heap.size + 1 + 1), 2, none⟩) (by first | exact Nat.le_refl _ | assumption | (simp; done) | (simp; omega) | omega)).trans (by go_simp; rfl)
  have hOwn := (Below.frozen b1 (p := ⟨(w.heap.size + 1 + 1), 0, none⟩) (by first | exact Nat.le_refl _ | assumption | (simp; done) | (simp; omega) | omega)).trans (by go_simp; rfl)
  have hOwn := (Below.frozen b1 (p := ⟨(w.heap.size + 1 + 1), 1, none⟩) (by first | exact Nat.le_refl _ | assumption | (simp; done) | (simp; omega) | omega)).trans (by go_simp; rfl)
  have hOwn := (Below.frozen b1 (p := ⟨(w.heap.size + 1 + 1), 2, none⟩) (by first | exact Nat.le_refl _ | assumption | (simp; done) | (simp; omega) | omega)).trans (by go_simp; rfl)
  go_wp2_with fail
  try simp only [Exit.inBlock, Exit.then]
  refine post_rd4 (x0 := .slice A (List.length l) c) (x1 := .int .i64 m) (x2 := .int .i64 r) rfl rfl rfl (by go_simp) (by go_simp) (by go_simp) ?_
  exact ⟨none, 0, rfl, Bys.nil _ _ _, by (repeat' (first | with_reducible assumption | with_reducible exact Below.refl _ _ | (with_reducible refine Below.alloc ?_ ?_ _; rotate_left; focus ((first | exact Nat.le_refl _ | (simp; done) | (simp; omega) | omega | fail))) | (with_reducible refine Below.setCell ?_ ?_ _; rotate_left; focus ((first | exact Nat.le_refl _ | (simp; done) | (simp; omega) | omega | fail))) | with_reducible refine Mem.bel_drewN ?_ _ | with_reducible refine Below.drew ?_ | (with_reducible refine Mem.bel_call (by with_reducible assumption) ?_ ?_; focus ((first | exact Nat.le_refl _ | (simp; done) | (simp; omega) | omega | fail))) | fail))⟩

set_option maxRecDepth 100000 in
set_option maxHeartbeats 1000000 in
theorem reads1 (A : Option Addr) (c : Nat) (l : List UInt8) (a e size : Int) (w : World) (_hL : Laid w) (hb : Bys w w.heap.size A l) (hl : l.length ≤ 140000000000) (_hc : l.length ≤ c) :
    Calls Tryd.prog 25 #[.agg #[.int .i64 1, .int .i64 size], (.agg #[.slice A (List.length l) c, .int .i64 a, .int .i64 e])] w (Reads (Wr.lnum 5 15 l a e).1 0 [] (Wr.lnum 5 15 l a e).2.1 (Wr.lnum 5 15 l a e).2.2 A l c w) := by
  have CS := cell_set
  have P0 := fun W hb => Int_rd A c l a e W hb hl
  obtain ⟨⟨n, m, r⟩, hR⟩ : ∃ R, R = Wr.lnum 5 15 l a e := ⟨_, rfl⟩
  rw [← hR] at P0 ⊢
  clear hR
  have P := Lib.hid P0
  clear P0
  go_enter Tryd.func25, Tryd.ntmps25
  go_wp2_with fail
  refine (P.out _ (hb.now (by (repeat' (first | with_reducible assumption | with_reducible exact Below.refl _ _ | (with_reducible refine Below.alloc ?_ ?_ _; rotate_left; focus ((first | exact Nat.le_refl _ | (simp; done) | (simp; omega) | omega | fail))) | (with_reducible refine Below.setCell ?_ ?_ _; rotate_left; focus ((first | exact Nat.le_refl _ | (simp; done) | (simp; omega) | omega | fail))) | with_reducible refine Mem.bel_drewN ?_ _ | with_reducible refine Below.drew ?_ | (with_reducible refine Mem.bel_call (by with_reducible assumption) ?_ ?_; focus ((first | exact Nat.le_refl _ | (simp; done) | (simp; omega) | omega | fail))) | fail))))).mono ?_
  rintro e w1 ⟨rfl, b1⟩
  have hSz := Below.size b1; try simp at hSz
  have hOwn := Nat.lt_of_lt_of_le (n := (w.heap.size + 1 + 1)) (by first | exact Nat.le_refl _ | assumption | (simp; done) | (simp; omega) | omega) (Below.size b1)
  have hOwn1 := Nat.ne_of_gt hOwn
  have hOwn2 := Nat.ne_of_lt hOwn
  have hOwn := (Below.cell b1 (p := ⟨(w.heap.size + 1 + 1), 0, none⟩) (by first | exact Nat.le_refl _ | assumption | (simp; done) | (simp; omega) | omega)).trans (by go_simp; rfl)
  have hOwn := (Below.cell b1 (p := ⟨(w.heap.size + 1 + 1), 1, none⟩) (by first | exact Nat.le_refl _ | assumption | (simp; done) | (simp; omega) | omega)).trans (by go_simp; rfl)
  have hOwn := (Below.cell b1 (p := ⟨(w.heap.size + 1 + 1), 2, none⟩) (by first | exact Nat.le_refl _ | assumption | (simp; done) | (simp; omega) | omega)).trans (by go_simp; rfl)
  have hOwn := (Below.frozen b1 (p := ⟨(w.heap.size + 1 + 1), 0, none⟩) (by first | exact Nat.le_refl _ | assumption | (simp; done) | (simp; omega) | omega)).trans (by go_simp; rfl)
  have hOwn := (Below.frozen b1 (p := ⟨(w.heap.size + 1 + 1), 1, none⟩) (by first | exact Nat.le_refl _ | assumption | (simp; done) | (simp; omega) | omega)).trans (by go_simp; rfl)
  have hOwn := (Below.frozen b1 (p := ⟨(w.heap.size + 1 + 1), 2, none⟩) (by first | exact Nat.le_refl _ | assumption | (simp; done) | (simp; omega) | omega)).trans (by go_simp; rfl)
  go_wp2_with fail
  try simp only [Exit.inBlock, Exit.then]
  refine post_rd4 (x0 := .slice A (List.length l) c) (x1 := .int .i64 m) (x2 := .int .i64 r) rfl rfl rfl (by go_simp) (by go_simp) (by go_simp) ?_
  exact ⟨none, 0, rfl, Bys.nil _ _ _, by (repeat' (first | with_reducible assumption | with_reducible exact Below.refl _ _ | (with_reducible refine Below.alloc ?_ ?_ _; rotate_left; focus ((first | exact Nat.le_refl _ | (simp; done) | (simp; omega) | omega | fail))) | (with_reducible refine Below.setCell ?_ ?_ _; rotate_left; focus ((first | exact Nat.le_refl _ | (simp; done) | (simp; omega) | omega | fail))) | with_reducible refine Mem.bel_drewN ?_ _ | with_reducible refine Below.drew ?_ | (with_reducible refine Mem.bel_call (by with_reducible assumption) ?_ ?_; focus ((first | exact Nat.le_refl _ | (simp; done) | (simp; omega) | omega | fail))) | fail))⟩

set_option maxRecDepth 100000 in
set_option maxHeartbeats 1000000 in
theorem reads2 (A : Option Addr) (c : Nat) (l : List UInt8) (a e size : Int) (w : World) (_hL : Laid w) (hb : Bys w w.heap.size A l) (hl : l.length ≤ 140000000000) (_hc : l.length ≤ c) :
    Calls Tryd.prog 25 #[.agg #[.int .i64 2, .int .i64 size], (.agg #[.slice A (List.length l) c, .int .i64 a, .int .i64 e])] w (Reads (Wr.lnum 10 1 l a e).1 0 [] (Wr.lnum 10 1 l a e).2.1 (Wr.lnum 10 1 l a e).2.2 A l c w) := by
  have CS := cell_set
  have P0 := fun W hb => Long_rd A c l a e W hb hl
  obtain ⟨⟨n, m, r⟩, hR⟩ : ∃ R, R = Wr.lnum 10 1 l a e := ⟨_, rfl⟩
  rw [← hR] at P0 ⊢
  clear hR
  have P := Lib.hid P0
  clear P0
  go_enter Tryd.func25, Tryd.ntmps25
  go_wp2_with fail
  refine (P.out _ (hb.now (by (repeat' (first | with_reducible assumption | with_reducible exact Below.refl _ _ | (with_reducible refine Below.alloc ?_ ?_ _; rotate_left; focus ((first | exact Nat.le_refl _ | (simp; done) | (simp; omega) | omega | fail))) | (with_reducible refine Below.setCell ?_ ?_ _; rotate_left; focus ((first | exact Nat.le_refl _ | (simp; done) | (simp; omega) | omega | fail))) | with_reducible refine Mem.bel_drewN ?_ _ | with_reducible refine Below.drew ?_ | (with_reducible refine Mem.bel_call (by with_reducible assumption) ?_ ?_; focus ((first | exact Nat.le_refl _ | (simp; done) | (simp; omega) | omega | fail))) | fail))))).mono ?_
  rintro e w1 ⟨rfl, b1⟩
  have hSz := Below.size b1; try simp at hSz
  have hOwn := Nat.lt_of_lt_of_le (n := (w.heap.size + 1 + 1)) (by first | exact Nat.le_refl _ | assumption | (simp; done) | (simp; omega) | omega) (Below.size b1)
  have hOwn1 := Nat.ne_of_gt hOwn
  have hOwn2 := Nat.ne_of_lt hOwn
  have hOwn := (Below.cell b1 (p := ⟨(w.heap.size + 1 + 1), 0, none⟩) (by first | exact Nat.le_refl _ | assumption | (simp; done) | (simp; omega) | omega)).trans (by go_simp; rfl)
  have hOwn := (Below.cell b1 (p := ⟨(w.heap.size + 1 + 1), 1, none⟩) (by first | exact Nat.le_refl _ | assumption | (simp; done) | (simp; omega) | omega)).trans (by go_simp; rfl)
  have hOwn := (Below.cell b1 (p := ⟨(w.heap.size + 1 + 1), 2, none⟩) (by first | exact Nat.le_refl _ | assumption | (simp; done) | (simp; omega) | omega)).trans (by go_simp; rfl)
  have hOwn := (Below.frozen b1 (p := ⟨(w.heap.size + 1 + 1), 0, none⟩) (by first | exact Nat.le_refl _ | assumption | (simp; done) | (simp; omega) | omega)).trans (by go_simp; rfl)
  have hOwn := (Below.frozen b1 (p := ⟨(w.heap.size + 1 + 1), 1, none⟩) (by first | exact Nat.le_refl _ | assumption | (simp; done) | (simp; omega) | omega)).trans (by go_simp; rfl)
  have hOwn := (Below.frozen b1 (p := ⟨(w.heap.size + 1 + 1), 2, none⟩) (by first | exact Nat.le_refl _ | assumption | (simp; done) | (simp; omega) | omega)).trans (by go_simp; rfl)
  go_wp2_with fail
  try simp only [Exit.inBlock, Exit.then]
  refine post_rd4 (x0 := .slice A (List.length l) c) (x1 := .int .i64 m) (x2 := .int .i64 r) rfl rfl rfl (by go_simp) (by go_simp) (by go_simp) ?_
  exact ⟨none, 0, rfl, Bys.nil _ _ _, by (repeat' (first | with_reducible assumption | with_reducible exact Below.refl _ _ | (with_reducible refine Below.alloc ?_ ?_ _; rotate_left; focus ((first | exact Nat.le_refl _ | (simp; done) | (simp; omega) | omega | fail))) | (with_reducible refine Below.setCell ?_ ?_ _; rotate_left; focus ((first | exact Nat.le_refl _ | (simp; done) | (simp; omega) | omega | fail))) | with_reducible refine Mem.bel_drewN ?_ _ | with_reducible refine Below.drew ?_ | (with_reducible refine Mem.bel_call (by with_reducible assumption) ?_ ?_; focus ((first | exact Nat.le_refl _ | (simp; done) | (simp; omega) | omega | fail))) | fail))⟩

set_option maxRecDepth 100000 in
set_option maxHeartbeats 1000000 in
theorem reads3 (A : Option Addr) (c : Nat) (l : List UInt8) (a e size : Int) (w : World) (_hL : Laid w) (hb : Bys w w.heap.size A l) (hl : l.length ≤ 140000000000) (hc : l.length ≤ c) :
    Calls Tryd.prog 25 #[.agg #[.int .i64 3, .int .i64 size], (.agg #[.slice A (List.length l) c, .int .i64 a, .int .i64 e])] w (Reads 0 (Wr.bts l a e size).1 [] (Wr.bts l a e size).2.1 (Wr.bts l a e size).2.2 A l c w) := by
  have CS := cell_set
  have P0 := fun W hb => Bits_any A c l a e size W hb hl hc
  obtain ⟨⟨n, m, r⟩, hR⟩ : ∃ R, R = Wr.bts l a e size := ⟨_, rfl⟩
  rw [← hR] at P0 ⊢
  clear hR
  have P := Lib.hid P0
  clear P0
  go_enter Tryd.func25, Tryd.ntmps25
  go_wp2_with fail
  refine (P.out _ (hb.now (by (repeat' (first | with_reducible assumption | with_reducible exact Below.refl _ _ | (with_reducible refine Below.alloc ?_ ?_ _; rotate_left; focus ((first | exact Nat.le_refl _ | (simp; done) | (simp; omega) | omega | fail))) | (with_reducible refine Below.setCell ?_ ?_ _; rotate_left; focus ((first | exact Nat.le_refl _ | (simp; done) | (simp; omega) | omega | fail))) | with_reducible refine Mem.bel_drewN ?_ _ | with_reducible refine Below.drew ?_ | (with_reducible refine Mem.bel_call (by with_reducible assumption) ?_ ?_; focus ((first | exact Nat.le_refl _ | (simp; done) | (simp; omega) | omega | fail))) | fail))))).mono ?_
  rintro e w1 ⟨rfl, b1⟩
  have hSz := Below.size b1; try simp at hSz
  have hOwn := Nat.lt_of_lt_of_le (n := (w.heap.size + 1 + 1)) (by first | exact Nat.le_refl _ | assumption | (simp; done) | (simp; omega) | omega) (Below.size b1)
  have hOwn1 := Nat.ne_of_gt hOwn
  have hOwn2 := Nat.ne_of_lt hOwn
  have hOwn := (Below.cell b1 (p := ⟨(w.heap.size + 1 + 1), 0, none⟩) (by first | exact Nat.le_refl _ | assumption | (simp; done) | (simp; omega) | omega)).trans (by go_simp; rfl)
  have hOwn := (Below.cell b1 (p := ⟨(w.heap.size + 1 + 1), 1, none⟩) (by first | exact Nat.le_refl _ | assumption | (simp; done) | (simp; omega) | omega)).trans (by go_simp; rfl)
  have hOwn := (Below.cell b1 (p := ⟨(w.heap.size + 1 + 1), 2, none⟩) (by first | exact Nat.le_refl _ | assumption | (simp; done) | (simp; omega) | omega)).trans (by go_simp; rfl)
  have hOwn := (Below.frozen b1 (p := ⟨(w.heap.size + 1 + 1), 0, none⟩) (by first | exact Nat.le_refl _ | assumption | (simp; done) | (simp; omega) | omega)).trans (by go_simp; rfl)
  have hOwn := (Below.frozen b1 (p := ⟨(w.heap.size + 1 + 1), 1, none⟩) (by first | exact Nat.le_refl _ | assumption | (simp; done) | (simp; omega) | omega)).trans (by go_simp; rfl)
  have hOwn := (Below.frozen b1 (p := ⟨(w.heap.size + 1 + 1), 2, none⟩) (by first | exact Nat.le_refl _ | assumption | (simp; done) | (simp; omega) | omega)).trans (by go_simp; rfl)
  go_wp2_with fail
  try simp only [Exit.inBlock, Exit.then]
  refine post_rd4 (x0 := .slice A (List.length l) c) (x1 := .int .i64 m) (x2 := .int .i64 r) rfl rfl rfl (by go_simp) (by go_simp) (by go_simp) ?_
  exact ⟨none, 0, rfl, Bys.nil _ _ _, by (repeat' (first | with_reducible assumption | with_reducible exact Below.refl _ _ | (with_reducible refine Below.alloc ?_ ?_ _; rotate_left; focus ((first | exact Nat.le_refl _ | (simp; done) | (simp; omega) | omega | fail))) | (with_reducible refine Below.setCell ?_ ?_ _; rotate_left; focus ((first | exact Nat.le_refl _ | (simp; done) | (simp; omega) | omega | fail))) | with_reducible refine Mem.bel_drewN ?_ _ | with_reducible refine Below.drew ?_ | (with_reducible refine Mem.bel_call (by with_reducible assumption) ?_ ?_; focus ((first | exact Nat.le_refl _ | (simp; done) | (simp; omega) | omega | fail))) | fail))⟩

set_option maxRecDepth 100000 in
set_option maxHeartbeats 1000000 in
theorem reads4 (A : Option Addr) (c : Nat) (l : List UInt8) (a e size : Int) (w : World) (_hL : Laid w) (hb : Bys w w.heap.size A l) (hl : l.length ≤ 140000000000) (hc : l.length ≤ c) :
    Calls Tryd.prog 25 #[.agg #[.int .i64 4, .int .i64 size], (.agg #[.slice A (List.length l) c, .int .i64 a, .int .i64 e])] w (Reads 0 0 (Wr.fxd l a e size).1 (Wr.fxd l a e size).2.1 (Wr.fxd l a e size).2.2 A l c w) := by
  have CS := cell_set
  have P0 := fun W hb => Fixed_any A c l a e size W hb hl hc
  obtain ⟨⟨X, m, r⟩, hR⟩ : ∃ R, R = Wr.fxd l a e size := ⟨_, rfl⟩
  rw [← hR] at P0 ⊢
  clear hR
  obtain ⟨N, hN⟩ : ∃ N, X.length = N := ⟨_, rfl⟩
  have HN := Lib.hid hN
  clear hN
  have P := Lib.hid P0
  clear P0
  go_enter Tryd.func25, Tryd.ntmps25
  go_wp2_with fail
  refine (P.out _ (hb.now (by (repeat' (first | with_reducible assumption | with_reducible exact Below.refl _ _ | (with_reducible refine Below.alloc ?_ ?_ _; rotate_left; focus ((first | exact Nat.le_refl _ | (simp; done) | (simp; omega) | omega | fail))) | (with_reducible refine Below.setCell ?_ ?_ _; rotate_left; focus ((first | exact Nat.le_refl _ | (simp; done) | (simp; omega) | omega | fail))) | with_reducible refine Mem.bel_drewN ?_ _ | with_reducible refine Below.drew ?_ | (with_reducible refine Mem.bel_call (by with_reducible assumption) ?_ ?_; focus ((first | exact Nat.le_refl _ | (simp; done) | (simp; omega) | omega | fail))) | fail))))).mono ?_
  rintro e w1 h1
  obtain ⟨A1, c1, rfl, hc1, y1, b1⟩ := saysF_out HN.out h1
  have hSz := Below.size b1; try simp at hSz
  have hOwn := Nat.lt_of_lt_of_le (n := (w.heap.size + 1 + 1)) (by first | exact Nat.le_refl _ | assumption | (simp; done) | (simp; omega) | omega) (Below.size b1)
  have hOwn1 := Nat.ne_of_gt hOwn
  have hOwn2 := Nat.ne_of_lt hOwn
  have hOwn := (Below.cell b1 (p := ⟨(w.heap.size + 1 + 1), 0, none⟩) (by first | exact Nat.le_refl _ | assumption | (simp; done) | (simp; omega) | omega)).trans (by go_simp; rfl)
  have hOwn := (Below.cell b1 (p := ⟨(w.heap.size + 1 + 1), 1, none⟩) (by first | exact Nat.le_refl _ | assumption | (simp; done) | (simp; omega) | omega)).trans (by go_simp; rfl)
  have hOwn := (Below.cell b1 (p := ⟨(w.heap.size + 1 + 1), 2, none⟩) (by first | exact Nat.le_refl _ | assumption | (simp; done) | (simp; omega) | omega)).trans (by go_simp; rfl)
  have hOwn := (Below.frozen b1 (p := ⟨(w.heap.size + 1 + 1), 0, none⟩) (by first | exact Nat.le_refl _ | assumption | (simp; done) | (simp; omega) | omega)).trans (by go_simp; rfl)
  have hOwn := (Below.frozen b1 (p := ⟨(w.heap.size + 1 + 1), 1, none⟩) (by first | exact Nat.le_refl _ | assumption | (simp; done) | (simp; omega) | omega)).trans (by go_simp; rfl)
  have hOwn := (Below.frozen b1 (p := ⟨(w.heap.size + 1 + 1), 2, none⟩) (by first | exact Nat.le_refl _ | assumption | (simp; done) | (simp; omega) | omega)).trans (by go_simp; rfl)
  have y1 := y1.less (B' := w.heap.size + 1 + 1 + 1) (by first | exact Nat.le_refl _ | assumption | (simp; done) | (simp; omega) | omega)
  go_wp2_with fail
  try simp only [Exit.inBlock, Exit.then]
  refine post_rd4 (x0 := .slice A (List.length l) c) (x1 := .int .i64 m) (x2 := .int .i64 r) rfl rfl rfl (by go_simp) (by go_simp) (by go_simp) ?_
  refine reads_is (B := w.heap.size + 1 + 1 + 1) HN.out rfl ?_ (by (repeat' (first | with_reducible assumption | with_reducible exact Below.refl _ _ | (with_reducible refine Below.alloc ?_ ?_ _; rotate_left; focus ((first | exact Nat.le_refl _ | (simp; done) | (simp; omega) | omega | fail))) | (with_reducible refine Below.setCell ?_ ?_ _; rotate_left; focus ((first | exact Nat.le_refl _ | (simp; done) | (simp; omega) | omega | fail))) | with_reducible refine Mem.bel_drewN ?_ _ | with_reducible refine Below.drew ?_ | (with_reducible refine Mem.bel_call (by with_reducible assumption) ?_ ?_; focus ((first | exact Nat.le_refl _ | (simp; done) | (simp; omega) | omega | fail))) | fail)))
  repeat' (first | with_reducible exact y1 | with_reducible refine NewBys.drew ?_ | (with_reducible refine NewBys.set ?_ ?_ _; rotate_left; focus (first | (simp; done) | (simp; omega) | omega | fail)) | fail)

set_option maxRecDepth 100000 in
set_option maxHeartbeats 1000000 in
theorem reads5 (A : Option Addr) (c : Nat) (l : List UInt8) (a e size : Int) (w : World) (_hL : Laid w) (hb : Bys w w.heap.size A l) (hl : l.length ≤ 140000000000) (hc : l.length ≤ c) :
    Calls Tryd.prog 25 #[.agg #[.int .i64 5, .int .i64 size], (.agg #[.slice A (List.length l) c, .int .i64 a, .int .i64 e])] w (Reads 0 0 (Wr.byt l a e).1 (Wr.byt l a e).2.1 (Wr.byt l a e).2.2 A l c w) := by
  have CS := cell_set
  have P0 := fun W hb => Bytes_any A c l a e W hb hl hc
  obtain ⟨⟨X, m, r⟩, hR⟩ : ∃ R, R = Wr.byt l a e := ⟨_, rfl⟩
  rw [← hR] at P0 ⊢
  clear hR
  obtain ⟨N, hN⟩ : ∃ N, X.length = N := ⟨_, rfl⟩
  have HN := Lib.hid hN
  clear hN
  have P := Lib.hid P0
  clear P0
  go_enter Tryd.func25, Tryd.ntmps25
  go_wp2_with fail
  refine (P.out _ (hb.now (by (repeat' (first | with_reducible assumption | with_reducible exact Below.refl _ _ | (with_reducible refine Below.alloc ?_ ?_ _; rotate_left; focus ((first | exact Nat.le_refl _ | (simp; done) | (simp; omega) | omega | fail))) | (with_reducible refine Below.setCell ?_ ?_ _; rotate_left; focus ((first | exact Nat.le_refl _ | (simp; done) | (simp; omega) | omega | fail))) | with_reducible refine Mem.bel_drewN ?_ _ | with_reducible refine Below.drew ?_ | (with_reducible refine Mem.bel_call (by with_reducible assumption) ?_ ?_; focus ((first | exact Nat.le_refl _ | (simp; done) | (simp; omega) | omega | fail))) | fail))))).mono ?_
  rintro e w1 h1
  obtain ⟨A1, c1, rfl, hc1, y1, b1⟩ := saysF_out HN.out h1
  have hSz := Below.size b1; try simp at hSz
  have hOwn := Nat.lt_of_lt_of_le (n := (w.heap.size + 1 + 1)) (by first | exact Nat.le_refl _ | assumption | (simp; done) | (simp; omega) | omega) (Below.size b1)
  have hOwn1 := Nat.ne_of_gt hOwn
  have hOwn2 := Nat.ne_of_lt hOwn
  have hOwn := (Below.cell b1 (p := ⟨(w.heap.size + 1 + 1), 0, none⟩) (by first | exact Nat.le_refl _ | assumption | (simp; done) | (simp; omega) | omega)).trans (by go_simp; rfl)
  have hOwn := (Below.cell b1 (p := ⟨(w.heap.size + 1 + 1), 1, none⟩) (by first | exact Nat.le_refl _ | assumption | (simp; done) | (simp; omega) | omega)).trans (by go_simp; rfl)
  have hOwn := (Below.cell b1 (p := ⟨(w.heap.size + 1 + 1), 2, none⟩) (by first | exact Nat.le_refl _ | assumption | (simp; done) | (simp; omega) | omega)).trans (by go_simp; rfl)
  have hOwn := (Below.frozen b1 (p := ⟨(w.heap.size + 1 + 1), 0, none⟩) (by first | exact Nat.le_refl _ | assumption | (simp; done) | (simp; omega) | omega)).trans (by go_simp; rfl)
  have hOwn := (Below.frozen b1 (p := ⟨(w.heap.size + 1 + 1), 1, none⟩) (by first | exact Nat.le_refl _ | assumption | (simp; done) | (simp; omega) | omega)).trans (by go_simp; rfl)
  have hOwn := (Below.frozen b1 (p := ⟨(w.heap.size + 1 + 1), 2, none⟩) (by first | exact Nat.le_refl _ | assumption | (simp; done) | (simp; omega) | omega)).trans (by go_simp; rfl)
  have y1 := y1.less (B' := w.heap.size + 1 + 1 + 1) (by first | exact Nat.le_refl _ | assumption | (simp; done) | (simp; omega) | omega)
  go_wp2_with fail
  try simp only [Exit.inBlock, Exit.then]
  refine post_rd4 (x0 := .slice A (List.length l) c) (x1 := .int .i64 m) (x2 := .int .i64 r) rfl rfl rfl (by go_simp) (by go_simp) (by go_simp) ?_
  refine reads_is (B := w.heap.size + 1 + 1 + 1) HN.out rfl ?_ (by (repeat' (first | with_reducible assumption | with_reducible exact Below.refl _ _ | (with_reducible refine Below.alloc ?_ ?_ _; rotate_left; focus ((first | exact Nat.le_refl _ | (simp; done) | (simp; omega) | omega | fail))) | (with_reducible refine Below.setCell ?_ ?_ _; rotate_left; focus ((first | exact Nat.le_refl _ | (simp; done) | (simp; omega) | omega | fail))) | with_reducible refine Mem.bel_drewN ?_ _ | with_reducible refine Below.drew ?_ | (with_reducible refine Mem.bel_call (by with_reducible assumption) ?_ ?_; focus ((first | exact Nat.le_refl _ | (simp; done) | (simp; omega) | omega | fail))) | fail)))
  repeat' (first | with_reducible exact y1 | with_reducible refine NewBys.drew ?_ | (with_reducible refine NewBys.set ?_ ?_ _; rotate_left; focus (first | (simp; done) | (simp; omega) | omega | fail)) | fail)

set_option maxRecDepth 100000 in
set_option maxHeartbeats 1000000 in
theorem reads6 (A : Option Addr) (c : Nat) (l : List UInt8) (a e size kind : Int) (w : World) (hk : kind < 0 ∨ 5 < kind) (hL : Laid w) (hb : Bys w w.heap.size A l) (hl : l.length ≤ 140000000000) (hc : l.length ≤ c) :
    Calls Tryd.prog 25 #[.agg #[.int .i64 kind, .int .i64 size], (.agg #[.slice A (List.length l) c, .int .i64 a, .int .i64 e])] w (Reads 0 0 (Wr.txt l a e).1 (Wr.txt l a e).2.1 (Wr.txt l a e).2.2 A l c w) := by
  have CS := cell_set
  have P0 := fun W hW hb => Text_any A c l a e W hW hb hl hc
  have q0 : (kind == 0) = false := by simp; omega
  have q1 : (kind == 1) = false := by simp; omega
  have q2 : (kind == 2) = false := by simp; omega
  have q3 : (kind == 3) = false := by simp; omega
  have q4 : (kind == 4) = false := by simp; omega
  have q5 : (kind == 5) = false := by simp; omega
  clear hk
  obtain ⟨⟨X, m, r⟩, hR⟩ : ∃ R, R = Wr.txt l a e := ⟨_, rfl⟩
  rw [← hR] at P0 ⊢
  clear hR
  obtain ⟨N, hN⟩ : ∃ N, X.length = N := ⟨_, rfl⟩
  have HN := Lib.hid hN
  clear hN
  have P := Lib.hid P0
  clear P0
  go_enter Tryd.func25, Tryd.ntmps25
  go_wp2_with fail
  refine (P.out _ (hL.below (B := w.heap.size) (by (repeat' (first | with_reducible assumption | with_reducible exact Below.refl _ _ | (with_reducible refine Below.alloc ?_ ?_ _; rotate_left; focus ((first | exact Nat.le_refl _ | (simp; done) | (simp; omega) | omega | fail))) | (with_reducible refine Below.setCell ?_ ?_ _; rotate_left; focus ((first | exact Nat.le_refl _ | (simp; done) | (simp; omega) | omega | fail))) | with_reducible refine Mem.bel_drewN ?_ _ | with_reducible refine Below.drew ?_ | (with_reducible refine Mem.bel_call (by with_reducible assumption) ?_ ?_; focus ((first | exact Nat.le_refl _ | (simp; done) | (simp; omega) | omega | fail))) | fail))) hL.1) (hb.now (by (repeat' (first | with_reducible assumption | with_reducible exact Below.refl _ _ | (with_reducible refine Below.alloc ?_ ?_ _; rotate_left; focus ((first | exact Nat.le_refl _ | (simp; done) | (simp; omega) | omega | fail))) | (with_reducible refine Below.setCell ?_ ?_ _; rotate_left; focus ((first | exact Nat.le_refl _ | (simp; done) | (simp; omega) | omega | fail))) | with_reducible refine Mem.bel_drewN ?_ _ | with_reducible refine Below.drew ?_ | (with_reducible refine Mem.bel_call (by with_reducible assumption) ?_ ?_; focus ((first | exact Nat.le_refl _ | (simp; done) | (simp; omega) | omega | fail))) | fail))))).mono ?_
  rintro e w1 h1
  obtain ⟨A1, c1, rfl, hc1, y1, b1⟩ := saysF_out HN.out h1
  have hSz := Below.size b1; try simp at hSz
  have hOwn := Nat.lt_of_lt_of_le (n := (w.heap.size + 1 + 1)) (by first | exact Nat.le_refl _ | assumption | (simp; done) | (simp; omega) | omega) (Below.size b1)
  have hOwn1 := Nat.ne_of_gt hOwn
  have hOwn2 := Nat.ne_of_lt hOwn
  have hOwn := (Below.cell b1 (p := ⟨(w.heap.size + 1 + 1), 0, none⟩) (by first | exact Nat.le_refl _ | assumption | (simp; done) | (simp; omega) | omega)).trans (by go_simp; rfl)
  have hOwn := (Below.cell b1 (p := ⟨(w.heap.size + 1 + 1), 1, none⟩) (by first | exact Nat.le_refl _ | assumption | (simp; done) | (simp; omega) | omega)).trans (by go_simp; rfl)
  have hOwn := (Below.cell b1 (p := ⟨(w.heap.size + 1 + 1), 2, none⟩) (by first | exact Nat.le_refl _ | assumption | (simp; done) | (simp; omega) | omega)).trans (by go_simp; rfl)
  have hOwn := (Below.frozen b1 (p := ⟨(w.heap.size + 1 + 1), 0, none⟩) (by first | exact Nat.le_refl _ | assumption | (simp; done) | (simp; omega) | omega)).trans (by go_simp; rfl)
  have hOwn := (Below.frozen b1 (p := ⟨(w.heap.size + 1 + 1), 1, none⟩) (by first | exact Nat.le_refl _ | assumption | (simp; done) | (simp; omega) | omega)).trans (by go_simp; rfl)
  have hOwn := (Below.frozen b1 (p := ⟨(w.heap.size + 1 + 1), 2, none⟩) (by first | exact Nat.le_refl _ | assumption | (simp; done) | (simp; omega) | omega)).trans (by go_simp; rfl)
  have y1 := y1.less (B' := w.heap.size + 1 + 1 + 1) (by first | exact Nat.le_refl _ | assumption | (simp; done) | (simp; omega) | omega)
  go_wp2_with fail
  try simp only [Exit.inBlock, Exit.then]
  refine post_rd4 (x0 := .slice A (List.length l) c) (x1 := .int .i64 m) (x2 := .int .i64 r) rfl rfl rfl (by go_simp) (by go_simp) (by go_simp) ?_
  refine reads_is (B := w.heap.size + 1 + 1 + 1) HN.out rfl ?_ (by (repeat' (first | with_reducible assumption | with_reducible exact Below.refl _ _ | (with_reducible refine Below.alloc ?_ ?_ _; rotate_left; focus ((first | exact Nat.le_refl _ | (simp; done) | (simp; omega) | omega | fail))) | (with_reducible refine Below.setCell ?_ ?_ _; rotate_left; focus ((first | exact Nat.le_refl _ | (simp; done) | (simp; omega) | omega | fail))) | with_reducible refine Mem.bel_drewN ?_ _ | with_reducible refine Below.drew ?_ | (with_reducible refine Mem.bel_call (by with_reducible assumption) ?_ ?_; focus ((first | exact Nat.le_refl _ | (simp; done) | (simp; omega) | omega | fail))) | fail)))
  repeat' (first | with_reducible exact y1 | with_reducible refine NewBys.drew ?_ | (with_reducible refine NewBys.set ?_ ?_ _; rotate_left; focus (first | (simp; done) | (simp; omega) | omega | fail)) | fail)


/-- The plain answer, whichever call it is. -/
def rds (kind size : Int) (l : List UInt8) (a e : Int) : Int × Int × List UInt8 × Int × Int :=
  if kind = 0 then ((Wr.boo l a e).1, 0, [], (Wr.boo l a e).2) else if kind = 1 then ((Wr.lnum 5 15 l a e).1, 0, [], (Wr.lnum 5 15 l a e).2) else if kind = 2 then ((Wr.lnum 10 1 l a e).1, 0, [], (Wr.lnum 10 1 l a e).2)
  else if kind = 3 then (0, (Wr.bts l a e size).1, [], (Wr.bts l a e size).2) else if kind = 4 then (0, 0, Wr.fxd l a e size) else if kind = 5 then (0, 0, Wr.byt l a e) else (0, 0, Wr.txt l a e)
theorem reads_any (A : Option Addr) (c : Nat) (l : List UInt8) (a e kind size : Int) (w : World) (hL : Laid w) (hb : Bys w w.heap.size A l) (hl : l.length ≤ 140000000000) (hc : l.length ≤ c) :
    Calls Tryd.prog 25 #[.agg #[.int .i64 kind, .int .i64 size], (.agg #[.slice A (List.length l) c, .int .i64 a, .int .i64 e])] w (Reads (rds kind size l a e).1 (rds kind size l a e).2.1 (rds kind size l a e).2.2.1 (rds kind size l a e).2.2.2.1 (rds kind size l a e).2.2.2.2 A l c w) := by
  unfold rds
  by_cases h0 : kind = 0
  · subst h0; exact reads0 A c l a e size w hL hb hl hc
  by_cases h1 : kind = 1
  · subst h1; exact reads1 A c l a e size w hL hb hl hc
  by_cases h2 : kind = 2
  · subst h2; exact reads2 A c l a e size w hL hb hl hc
  by_cases h3 : kind = 3
  · subst h3; exact reads3 A c l a e size w hL hb hl hc
  by_cases h4 : kind = 4
  · subst h4; exact reads4 A c l a e size w hL hb hl hc
  by_cases h5 : kind = 5
  · subst h5; exact reads5 A c l a e size w hL hb hl hc
  rw [if_neg h0, if_neg h1, if_neg h2, if_neg h3, if_neg h4, if_neg h5]
  exact reads6 A c l a e size kind w (by omega) hL hb hl hc
theorem rds_more (kind size : Int) {l t : List UInt8} {k : Nat} (hk : k ≤ l.length) :
    rds kind size l (k : Int) 0 = (0, 0, [], (k : Int), 10) ∨ (rds kind size l (k : Int) 0).2.2.2.2 ≠ 10 ∧ rds kind size (l ++ t) (k : Int) 0 = rds kind size l (k : Int) 0 := by
  unfold rds
  by_cases h0 : kind = 0
  · simp only [if_pos h0]
    rcases Wr.boo_more (t := t) hk with h | ⟨h1, h2⟩
    · left; rw [h]
    · right; exact ⟨h1, by rw [h2]⟩
  by_cases h1 : kind = 1
  · simp only [if_neg h0, if_pos h1]
    rcases Wr.lnum_more (most := 5) (top := 15) (t := t) hk with h | ⟨h1, h2⟩
    · left; rw [h]
    · right; exact ⟨h1, by rw [h2]⟩
  by_cases h2 : kind = 2
  · simp only [if_neg h0, if_neg h1, if_pos h2]
    rcases Wr.lnum_more (most := 10) (top := 1) (t := t) hk with h | ⟨h1, h2⟩
    · left; rw [h]
    · right; exact ⟨h1, by rw [h2]⟩
  by_cases h3 : kind = 3
  · simp only [if_neg h0, if_neg h1, if_neg h2, if_pos h3]
    rcases Wr.bts_more (t := t) size hk with h | ⟨h1, h2⟩
    · left; rw [h]
    · right; exact ⟨h1, by rw [h2]⟩
  by_cases h4 : kind = 4
  · simp only [if_neg h0, if_neg h1, if_neg h2, if_neg h3, if_pos h4]
    rcases Wr.fxd_more (t := t) size hk with h | ⟨h1, h2⟩
    · left; rw [h]
    · right; exact ⟨h1, by rw [h2]⟩
  by_cases h5 : kind = 5
  · simp only [if_neg h0, if_neg h1, if_neg h2, if_neg h3, if_neg h4, if_pos h5]
    rcases Wr.byt_more (t := t) hk with h | ⟨h1, h2⟩
    · left; rw [h]
    · right; exact ⟨h1, by rw [h2]⟩
  simp only [if_neg h0, if_neg h1, if_neg h2, if_neg h3, if_neg h4, if_neg h5]
  rcases Wr.txt_more (t := t) hk with h | ⟨h1, h2⟩
  · left; rw [h]
  · right; exact ⟨h1, by rw [h2]⟩
end Go.Proofs.YtjebhbjffofjnaaDoor
