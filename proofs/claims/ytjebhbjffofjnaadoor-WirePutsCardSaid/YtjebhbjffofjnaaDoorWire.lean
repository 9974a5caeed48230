/- Layer 4: the contracts of a reader, at every input. -/
import Derived.Test.YtjebhbjffofjnaaDoorWNum
import Derived.Test.YtjebhbjffofjnaaDoorBox
import Derived.Test.YtjebhbjffofjnaaDoorVarintC
import Derived.Test.YtjebhbjffofjnaaDoorUtfD
namespace Go.Proofs.YtjebhbjffofjnaaDoor
open Go.ChangeShapes Go.WideShapes Go.ChangeAt Go.RowKit Mem

def SaysR (a e : Int) (A : Option Addr) (l : List UInt8) (c : Nat) (w : World) (x : Ending) (w' : World) : Prop := x = .returned (.agg #[.slice A (List.length l) c, .int .i64 a, .int .i64 e]) ∧ Below w.heap.size w w'
def SaysN (r : Int × Int × Int) (A : Option Addr) (l : List UInt8) (c : Nat) (w : World) (x : Ending) (w' : World) : Prop :=
  x = .returned (.tuple #[.int .i64 r.1, (.agg #[.slice A (List.length l) c, .int .i64 r.2.1, .int .i64 r.2.2])]) ∧ Below w.heap.size w w'
def SaysU (r : Int × Int × Int) (A : Option Addr) (l : List UInt8) (c : Nat) (w : World) (x : Ending) (w' : World) : Prop :=
  x = .returned (.tuple #[.int .u64 r.1, (.agg #[.slice A (List.length l) c, .int .i64 r.2.1, .int .i64 r.2.2])]) ∧ Below w.heap.size w w'
def SaysB (base : Nat) (r : List UInt8 × Int × Int) (A : Option Addr) (l : List UInt8) (c : Nat) (w : World) (x : Ending) (w' : World) : Prop :=
  ∃ A' c', x = .returned (.tuple #[.slice A' r.1.length c', (.agg #[.slice A (List.length l) c, .int .i64 r.2.1, .int .i64 r.2.2])]) ∧ r.1.length ≤ c' ∧ Bys w' base A' r.1 ∧ Below w.heap.size w w'

theorem ld_rd {w : World} {g : Nat} {x0 x1 x2 : Value} (h0 : w.cell? ⟨g, 0, none⟩ = some x0) (h1 : w.cell? ⟨g, 1, none⟩ = some x1) (h2 : w.cell? ⟨g, 2, none⟩ = some x2) :
    (loadVar 27 ⟨g, 0, none⟩).run Tryd.prog w = .ok (.agg #[x0, x1, x2]) w := by go_simp
/-- The end of a call whose result, or whose second result, is a reader: it lies in a block of the call's own. -/
theorem post_rd {fn : Func} {R : Ending → World → Prop} {a : Act} {w : World} {t : Tmp} {g : Nat} {x0 x1 x2 : Value} (hf : fn.results = #[.cell t 27]) (hd : a.defers = [])
    (hg : a.tmps.getD t undef = .pointer (some ⟨g, 0, none⟩)) (h0 : w.cell? ⟨g, 0, none⟩ = some x0) (h1 : w.cell? ⟨g, 1, none⟩ = some x1) (h2 : w.cell? ⟨g, 2, none⟩ = some x2)
    (hR : R (.returned (.agg #[x0, x1, x2])) w) : bodyPost Tryd.prog fn R .ret a w := by
  refine bodyPost_ret ?_ hd hR
  rw [Array.getD_eq_getD_getElem?] at hg
  simp [results, hf, hg, go_sem, h0, h1, h2]
theorem post_x_rd {fn : Func} {R : Ending → World → Prop} {a : Act} {w : World} {t u : Tmp} {g : Nat} {x0 x1 x2 : Value} (hf : fn.results = #[.tmp u, .cell t 27]) (hd : a.defers = [])
    (hg : a.tmps.getD t undef = .pointer (some ⟨g, 0, none⟩)) (h0 : w.cell? ⟨g, 0, none⟩ = some x0) (h1 : w.cell? ⟨g, 1, none⟩ = some x1) (h2 : w.cell? ⟨g, 2, none⟩ = some x2)
    (hR : R (.returned (.tuple #[a.tmps.getD u undef, .agg #[x0, x1, x2]])) w) : bodyPost Tryd.prog fn R .ret a w := by
  refine bodyPost_ret ?_ hd hR
  rw [Array.getD_eq_getD_getElem?] at hg
  simp [results, hf, hg, go_sem, h0, h1, h2]
theorem saysB_mk {base : Nat} {X : List UInt8} {a e : Int} {n c' c : Nat} {A A' : Option Addr} {l : List UInt8} {w w' : World} {x : Ending} (hn : X.length = n) (hx : x = .returned (.tuple #[.slice A' n c', (.agg #[.slice A (List.length l) c, .int .i64 a, .int .i64 e])])) (hc : n ≤ c')
    (hb : Bys w base A' X) (hB : base ≤ w.heap.size) (b : Below w.heap.size w w') : SaysB base (X, a, e) A l c w x w' := by subst hn; exact ⟨A', c', hx, hc, hb.below (b.mono hB), b⟩
def SaysF (r : List UInt8 × Int × Int) (A : Option Addr) (l : List UInt8) (c : Nat) (w : World) (x : Ending) (w' : World) : Prop :=
  ∃ A' c', x = .returned (.tuple #[.slice A' r.1.length c', (.agg #[.slice A (List.length l) c, .int .i64 r.2.1, .int .i64 r.2.2])]) ∧ r.1.length ≤ c' ∧ NewBys w.heap.size w' A' r.1 ∧ Below w.heap.size w w'
theorem saysF_is {X : List UInt8} {a e : Int} {n c' c : Nat} {A A' : Option Addr} {l : List UInt8} {w w' : World} {x : Ending} (hn : X.length = n) (hx : x = .returned (.tuple #[.slice A' n c', (.agg #[.slice A (List.length l) c, .int .i64 a, .int .i64 e])])) (hc : n ≤ c')
    (hb : NewBys w.heap.size w' A' X) (b : Below w.heap.size w w') : SaysF (X, a, e) A l c w x w' := by subst hn; exact ⟨A', c', hx, hc, hb, b⟩
theorem saysF_nil {a e : Int} {c' c : Nat} {A A' : Option Addr} {l : List UInt8} {w w' : World} {x : Ending} (hx : x = .returned (.tuple #[.slice A' 0 c', (.agg #[.slice A (List.length l) c, .int .i64 a, .int .i64 e])]))
    (b : Below w.heap.size w w') : SaysF ([], a, e) A l c w x w' := saysF_is rfl hx (Nat.zero_le _) (NewBys.nil _ _ _) b
theorem saysF_out {X : List UInt8} {a e : Int} {n c : Nat} {A : Option Addr} {l : List UInt8} {w w' : World} {x : Ending} (hn : X.length = n) (h : SaysF (X, a, e) A l c w x w') :
    ∃ A' c', x = .returned (.tuple #[.slice A' n c', (.agg #[.slice A (List.length l) c, .int .i64 a, .int .i64 e])]) ∧ n ≤ c' ∧ NewBys w.heap.size w' A' X ∧ Below w.heap.size w w' := by subst hn; exact h
theorem saysB_out {base : Nat} {X : List UInt8} {a e : Int} {n c : Nat} {A : Option Addr} {l : List UInt8} {w w' : World} {x : Ending} (hn : X.length = n) (h : SaysB base (X, a, e) A l c w x w') :
    ∃ A' c', x = .returned (.tuple #[.slice A' n c', (.agg #[.slice A (List.length l) c, .int .i64 a, .int .i64 e])]) ∧ n ≤ c' ∧ Bys w' base A' X ∧ Below w.heap.size w w' := by subst hn; exact h
theorem refusing_any (A : Option Addr) (c : Nat) (l : List UInt8) (a e e' : Int) (w : World) :
    Calls Tryd.prog 40 #[(.agg #[.slice A (List.length l) c, .int .i64 a, .int .i64 e]), .int .i64 e'] w (SaysR a e' A l c w) := by
  go_enter Tryd.func40, Tryd.ntmps40
  go_wp2_with fail
  try simp only [Exit.inBlock, Exit.then]
  refine post_rd (x0 := .slice A (List.length l) c) (x1 := .int .i64 a) (x2 := .int .i64 e') rfl rfl rfl (by go_simp) (by go_simp) (by go_simp) ?_
  exact ⟨rfl, by (repeat' (first | with_reducible assumption | with_reducible exact Below.refl _ _ | (with_reducible refine Below.alloc ?_ ?_ _; rotate_left; focus ((first | exact Nat.le_refl _ | (simp; done) | (simp; omega) | omega | fail))) | (with_reducible refine Below.setCell ?_ ?_ _; rotate_left; focus ((first | exact Nat.le_refl _ | (simp; done) | (simp; omega) | omega | fail))) | with_reducible refine Mem.bel_drewN ?_ _ | with_reducible refine Below.drew ?_ | (with_reducible refine Mem.bel_call (by with_reducible assumption) ?_ ?_; focus ((first | exact Nat.le_refl _ | (simp; done) | (simp; omega) | omega | fail))) | fail))⟩

theorem placed_any (A : Option Addr) (c : Nat) (l : List UInt8) (a e : Int) (w : World) :
    Calls Tryd.prog 34 #[(.agg #[.slice A (List.length l) c, .int .i64 a, .int .i64 e])] w (SaysR a (Wr.rdy l a e) A l c w) := by
  rcases Wr.rdy_ways l a e with ⟨h, hr⟩ | ⟨rfl, h, hr⟩ | ⟨rfl, k, rfl, hk, hr⟩
  · rw [hr]
    have q : (e == 0) = false := by simpa using h
    go_enter Tryd.func34, Tryd.ntmps34
    go_wp2_with fail
    try simp only [Exit.inBlock, Exit.then]
    refine post_rd (x0 := .slice A (List.length l) c) (x1 := .int .i64 a) (x2 := .int .i64 e) rfl rfl rfl (by go_simp) (by go_simp) (by go_simp) ?_
    exact ⟨rfl, by (repeat' (first | with_reducible assumption | with_reducible exact Below.refl _ _ | (with_reducible refine Below.alloc ?_ ?_ _; rotate_left; focus ((first | exact Nat.le_refl _ | (simp; done) | (simp; omega) | omega | fail))) | (with_reducible refine Below.setCell ?_ ?_ _; rotate_left; focus ((first | exact Nat.le_refl _ | (simp; done) | (simp; omega) | omega | fail))) | with_reducible refine Mem.bel_drewN ?_ _ | with_reducible refine Below.drew ?_ | (with_reducible refine Mem.bel_call (by with_reducible assumption) ?_ ?_; focus ((first | exact Nat.le_refl _ | (simp; done) | (simp; omega) | omega | fail))) | fail))⟩
  · rw [hr]
    by_cases h1 : a < 0
    · go_enter Tryd.func34, Tryd.ntmps34
      go_wp2_with fail
      refine (refusing_any A c l a 0 2 _).mono ?_
      rintro e w1 ⟨rfl, b1⟩
      have hSz := Below.size b1; try simp at hSz
      have hOwn := Nat.lt_of_lt_of_le (n := w.heap.size) (by first | exact Nat.le_refl _ | assumption | (simp; done) | (simp; omega) | omega) (Below.size b1)
      have hOwn1 := Nat.ne_of_gt hOwn
      have hOwn2 := Nat.ne_of_lt hOwn
      have hOwn := (Below.cell b1 (p := ⟨w.heap.size, 0, none⟩) (by first | exact Nat.le_refl _ | assumption | (simp; done) | (simp; omega) | omega)).trans (by go_simp; rfl)
      have hOwn := (Below.cell b1 (p := ⟨w.heap.size, 1, none⟩) (by first | exact Nat.le_refl _ | assumption | (simp; done) | (simp; omega) | omega)).trans (by go_simp; rfl)
      have hOwn := (Below.cell b1 (p := ⟨w.heap.size, 2, none⟩) (by first | exact Nat.le_refl _ | assumption | (simp; done) | (simp; omega) | omega)).trans (by go_simp; rfl)
      have hOwn := (Below.frozen b1 (p := ⟨w.heap.size, 0, none⟩) (by first | exact Nat.le_refl _ | assumption | (simp; done) | (simp; omega) | omega)).trans (by go_simp; rfl)
      have hOwn := (Below.frozen b1 (p := ⟨w.heap.size, 1, none⟩) (by first | exact Nat.le_refl _ | assumption | (simp; done) | (simp; omega) | omega)).trans (by go_simp; rfl)
      have hOwn := (Below.frozen b1 (p := ⟨w.heap.size, 2, none⟩) (by first | exact Nat.le_refl _ | assumption | (simp; done) | (simp; omega) | omega)).trans (by go_simp; rfl)
      have hOwn := Nat.lt_of_lt_of_le (n := (w.heap.size + 1)) (by first | exact Nat.le_refl _ | assumption | (simp; done) | (simp; omega) | omega) (Below.size b1)
      have hOwn1 := Nat.ne_of_gt hOwn
      have hOwn2 := Nat.ne_of_lt hOwn
      have hOwn := (Below.cell b1 (p := ⟨(w.heap.size + 1), 0, none⟩) (by first | exact Nat.le_refl _ | assumption | (simp; done) | (simp; omega) | omega)).trans (by go_simp; rfl)
      have hOwn := (Below.cell b1 (p := ⟨(w.heap.size + 1), 1, none⟩) (by first | exact Nat.le_refl _ | assumption | (simp; done) | (simp; omega) | omega)).trans (by go_simp; rfl)
      have hOwn := (Below.cell b1 (p := ⟨(w.heap.size + 1), 2, none⟩) (by first | exact Nat.le_refl _ | assumption | (simp; done) | (simp; omega) | omega)).trans (by go_simp; rfl)
      have hOwn := (Below.frozen b1 (p := ⟨(w.heap.size + 1), 0, none⟩) (by first | exact Nat.le_refl _ | assumption | (simp; done) | (simp; omega) | omega)).trans (by go_simp; rfl)
      have hOwn := (Below.frozen b1 (p := ⟨(w.heap.size + 1), 1, none⟩) (by first | exact Nat.le_refl _ | assumption | (simp; done) | (simp; omega) | omega)).trans (by go_simp; rfl)
      have hOwn := (Below.frozen b1 (p := ⟨(w.heap.size + 1), 2, none⟩) (by first | exact Nat.le_refl _ | assumption | (simp; done) | (simp; omega) | omega)).trans (by go_simp; rfl)
      go_wp2_with fail
      try simp only [Exit.inBlock, Exit.then]
      refine post_rd (x0 := .slice A (List.length l) c) (x1 := .int .i64 a) (x2 := .int .i64 2) rfl rfl rfl (by go_simp) (by go_simp) (by go_simp) ?_
      exact ⟨rfl, by (repeat' (first | with_reducible assumption | with_reducible exact Below.refl _ _ | (with_reducible refine Below.alloc ?_ ?_ _; rotate_left; focus ((first | exact Nat.le_refl _ | (simp; done) | (simp; omega) | omega | fail))) | (with_reducible refine Below.setCell ?_ ?_ _; rotate_left; focus ((first | exact Nat.le_refl _ | (simp; done) | (simp; omega) | omega | fail))) | with_reducible refine Mem.bel_drewN ?_ _ | with_reducible refine Below.drew ?_ | (with_reducible refine Mem.bel_call (by with_reducible assumption) ?_ ?_; focus ((first | exact Nat.le_refl _ | (simp; done) | (simp; omega) | omega | fail))) | fail))⟩
    · have h2 : (l.length : Int) < a := by omega
      go_enter Tryd.func34, Tryd.ntmps34
      go_wp2_with fail
      refine (refusing_any A c l a 0 2 _).mono ?_
      rintro e w1 ⟨rfl, b1⟩
      have hSz := Below.size b1; try simp at hSz
      have hOwn := Nat.lt_of_lt_of_le (n := w.heap.size) (by first | exact Nat.le_refl _ | assumption | (simp; done) | (simp; omega) | omega) (Below.size b1)
      have hOwn1 := Nat.ne_of_gt hOwn
      have hOwn2 := Nat.ne_of_lt hOwn
      have hOwn := (Below.cell b1 (p := ⟨w.heap.size, 0, none⟩) (by first | exact Nat.le_refl _ | assumption | (simp; done) | (simp; omega) | omega)).trans (by go_simp; rfl)
      have hOwn := (Below.cell b1 (p := ⟨w.heap.size, 1, none⟩) (by first | exact Nat.le_refl _ | assumption | (simp; done) | (simp; omega) | omega)).trans (by go_simp; rfl)
      have hOwn := (Below.cell b1 (p := ⟨w.heap.size, 2, none⟩) (by first | exact Nat.le_refl _ | assumption | (simp; done) | (simp; omega) | omega)).trans (by go_simp; rfl)
      have hOwn := (Below.frozen b1 (p := ⟨w.heap.size, 0, none⟩) (by first | exact Nat.le_refl _ | assumption | (simp; done) | (simp; omega) | omega)).trans (by go_simp; rfl)
      have hOwn := (Below.frozen b1 (p := ⟨w.heap.size, 1, none⟩) (by first | exact Nat.le_refl _ | assumption | (simp; done) | (simp; omega) | omega)).trans (by go_simp; rfl)
      have hOwn := (Below.frozen b1 (p := ⟨w.heap.size, 2, none⟩) (by first | exact Nat.le_refl _ | assumption | (simp; done) | (simp; omega) | omega)).trans (by go_simp; rfl)
      have hOwn := Nat.lt_of_lt_of_le (n := (w.heap.size + 1)) (by first | exact Nat.le_refl _ | assumption | (simp; done) | (simp; omega) | omega) (Below.size b1)
      have hOwn1 := Nat.ne_of_gt hOwn
      have hOwn2 := Nat.ne_of_lt hOwn
      have hOwn := (Below.cell b1 (p := ⟨(w.heap.size + 1), 0, none⟩) (by first | exact Nat.le_refl _ | assumption | (simp; done) | (simp; omega) | omega)).trans (by go_simp; rfl)
      have hOwn := (Below.cell b1 (p := ⟨(w.heap.size + 1), 1, none⟩) (by first | exact Nat.le_refl _ | assumption | (simp; done) | (simp; omega) | omega)).trans (by go_simp; rfl)
      have hOwn := (Below.cell b1 (p := ⟨(w.heap.size + 1), 2, none⟩) (by first | exact Nat.le_refl _ | assumption | (simp; done) | (simp; omega) | omega)).trans (by go_simp; rfl)
      have hOwn := (Below.frozen b1 (p := ⟨(w.heap.size + 1), 0, none⟩) (by first | exact Nat.le_refl _ | assumption | (simp; done) | (simp; omega) | omega)).trans (by go_simp; rfl)
      have hOwn := (Below.frozen b1 (p := ⟨(w.heap.size + 1), 1, none⟩) (by first | exact Nat.le_refl _ | assumption | (simp; done) | (simp; omega) | omega)).trans (by go_simp; rfl)
      have hOwn := (Below.frozen b1 (p := ⟨(w.heap.size + 1), 2, none⟩) (by first | exact Nat.le_refl _ | assumption | (simp; done) | (simp; omega) | omega)).trans (by go_simp; rfl)
      go_wp2_with fail
      try simp only [Exit.inBlock, Exit.then]
      refine post_rd (x0 := .slice A (List.length l) c) (x1 := .int .i64 a) (x2 := .int .i64 2) rfl rfl rfl (by go_simp) (by go_simp) (by go_simp) ?_
      exact ⟨rfl, by (repeat' (first | with_reducible assumption | with_reducible exact Below.refl _ _ | (with_reducible refine Below.alloc ?_ ?_ _; rotate_left; focus ((first | exact Nat.le_refl _ | (simp; done) | (simp; omega) | omega | fail))) | (with_reducible refine Below.setCell ?_ ?_ _; rotate_left; focus ((first | exact Nat.le_refl _ | (simp; done) | (simp; omega) | omega | fail))) | with_reducible refine Mem.bel_drewN ?_ _ | with_reducible refine Below.drew ?_ | (with_reducible refine Mem.bel_call (by with_reducible assumption) ?_ ?_; focus ((first | exact Nat.le_refl _ | (simp; done) | (simp; omega) | omega | fail))) | fail))⟩
  · rw [hr]
    have q1 : (0 : Int) ≤ (k : Int) := by omega
    have q2 : ¬ (l.length : Int) < (k : Int) := by omega
    go_enter Tryd.func34, Tryd.ntmps34
    go_wp2_with fail
    try simp only [Exit.inBlock, Exit.then]
    refine post_rd (x0 := .slice A (List.length l) c) (x1 := .int .i64 (k : Int)) (x2 := .int .i64 0) rfl rfl rfl (by go_simp) (by go_simp) (by go_simp) ?_
    exact ⟨rfl, by (repeat' (first | with_reducible assumption | with_reducible exact Below.refl _ _ | (with_reducible refine Below.alloc ?_ ?_ _; rotate_left; focus ((first | exact Nat.le_refl _ | (simp; done) | (simp; omega) | omega | fail))) | (with_reducible refine Below.setCell ?_ ?_ _; rotate_left; focus ((first | exact Nat.le_refl _ | (simp; done) | (simp; omega) | omega | fail))) | with_reducible refine Mem.bel_drewN ?_ _ | with_reducible refine Below.drew ?_ | (with_reducible refine Mem.bel_call (by with_reducible assumption) ?_ ?_; focus ((first | exact Nat.le_refl _ | (simp; done) | (simp; omega) | omega | fail))) | fail))⟩

set_option maxHeartbeats 400000 in
theorem cut_any (base : Nat) (A : Option Addr) (c : Nat) (l : List UInt8) (a e : Int) (n : Nat) (w : World) (hb : Bys w base A l) (hB : base ≤ w.heap.size) (hl : l.length ≤ 140000000000) (hc : l.length ≤ c) :
    Calls Tryd.prog 39 #[(.agg #[.slice A (List.length l) c, .int .i64 a, .int .i64 e]), .int .i64 (n : Int)] w (SaysB base (Wr.cut l a e n) A l c w) := by
  have CS := cell_set
  have P := Lib.hid (placed_any A c l a e)
  rcases Wr.cut_ways l a e n with ⟨h, hr⟩ | ⟨k, rfl, rfl, hk, h0, ⟨hn, hr⟩ | ⟨hn, hr⟩⟩
  · rw [hr]
    have q : (Wr.rdy l a e == 0) = false := by simpa using h
    generalize Wr.rdy l a e = r at *
    go_enter Tryd.func39, Tryd.ntmps39
    go_wp2_with fail
    refine (P.out _).mono ?_
    rintro e w1 ⟨rfl, b1⟩
    have hSz := Below.size b1; try simp at hSz
    have hOwn := Nat.lt_of_lt_of_le (n := w.heap.size) (by first | exact Nat.le_refl _ | assumption | (simp; done) | (simp; omega) | omega) (Below.size b1)
    have hOwn1 := Nat.ne_of_gt hOwn
    have hOwn2 := Nat.ne_of_lt hOwn
    have hOwn := (Below.cell b1 (p := ⟨w.heap.size, 0, none⟩) (by first | exact Nat.le_refl _ | assumption | (simp; done) | (simp; omega) | omega)).trans (by go_simp; rfl)
    have hOwn := (Below.cell b1 (p := ⟨w.heap.size, 1, none⟩) (by first | exact Nat.le_refl _ | assumption | (simp; done) | (simp; omega) | omega)).trans (by go_simp; rfl)
    have hOwn := (Below.cell b1 (p := ⟨w.heap.size, 2, none⟩) (by first | exact Nat.le_refl _ | assumption | (simp; done) | (simp; omega) | omega)).trans (by go_simp; rfl)
    have hOwn := (Below.frozen b1 (p := ⟨w.heap.size, 0, none⟩) (by first | exact Nat.le_refl _ | assumption | (simp; done) | (simp; omega) | omega)).trans (by go_simp; rfl)
    have hOwn := (Below.frozen b1 (p := ⟨w.heap.size, 1, none⟩) (by first | exact Nat.le_refl _ | assumption | (simp; done) | (simp; omega) | omega)).trans (by go_simp; rfl)
    have hOwn := (Below.frozen b1 (p := ⟨w.heap.size, 2, none⟩) (by first | exact Nat.le_refl _ | assumption | (simp; done) | (simp; omega) | omega)).trans (by go_simp; rfl)
    have hOwn := Nat.lt_of_lt_of_le (n := (w.heap.size + 1)) (by first | exact Nat.le_refl _ | assumption | (simp; done) | (simp; omega) | omega) (Below.size b1)
    have hOwn1 := Nat.ne_of_gt hOwn
    have hOwn2 := Nat.ne_of_lt hOwn
    have hOwn := (Below.cell b1 (p := ⟨(w.heap.size + 1), 0, none⟩) (by first | exact Nat.le_refl _ | assumption | (simp; done) | (simp; omega) | omega)).trans (by go_simp; rfl)
    have hOwn := (Below.cell b1 (p := ⟨(w.heap.size + 1), 1, none⟩) (by first | exact Nat.le_refl _ | assumption | (simp; done) | (simp; omega) | omega)).trans (by go_simp; rfl)
    have hOwn := (Below.cell b1 (p := ⟨(w.heap.size + 1), 2, none⟩) (by first | exact Nat.le_refl _ | assumption | (simp; done) | (simp; omega) | omega)).trans (by go_simp; rfl)
    have hOwn := (Below.frozen b1 (p := ⟨(w.heap.size + 1), 0, none⟩) (by first | exact Nat.le_refl _ | assumption | (simp; done) | (simp; omega) | omega)).trans (by go_simp; rfl)
    have hOwn := (Below.frozen b1 (p := ⟨(w.heap.size + 1), 1, none⟩) (by first | exact Nat.le_refl _ | assumption | (simp; done) | (simp; omega) | omega)).trans (by go_simp; rfl)
    have hOwn := (Below.frozen b1 (p := ⟨(w.heap.size + 1), 2, none⟩) (by first | exact Nat.le_refl _ | assumption | (simp; done) | (simp; omega) | omega)).trans (by go_simp; rfl)
    go_wp2_with fail
    go_region
    all_goals
      go_wp2_with fail
      try simp only [Exit.inBlock, Exit.then]
      refine post_x_rd (x0 := .slice A (List.length l) c) (x1 := .int .i64 a) (x2 := .int .i64 r) rfl rfl rfl (by go_simp) (by go_simp) (by go_simp) ?_
      refine ⟨none, 0, rfl, Nat.le_refl _, Bys.nil _ _ _, by (repeat' (first | with_reducible assumption | with_reducible exact Below.refl _ _ | (with_reducible refine Below.alloc ?_ ?_ _; rotate_left; focus ((first | exact Nat.le_refl _ | (simp; done) | (simp; omega) | omega | fail))) | (with_reducible refine Below.setCell ?_ ?_ _; rotate_left; focus ((first | exact Nat.le_refl _ | (simp; done) | (simp; omega) | omega | fail))) | with_reducible refine Mem.bel_drewN ?_ _ | with_reducible refine Below.drew ?_ | (with_reducible refine Mem.bel_call (by with_reducible assumption) ?_ ?_; focus ((first | exact Nat.le_refl _ | (simp; done) | (simp; omega) | omega | fail))) | fail))⟩
  · rw [hr]
    rw [h0] at P
    have q : (l.length : Int) - (k : Int) < (n : Int) := by omega
    go_enter Tryd.func39, Tryd.ntmps39
    go_wp2_with fail
    refine (P.out _).mono ?_
    rintro e w1 ⟨rfl, b1⟩
    have hSz := Below.size b1; try simp at hSz
    have hOwn := Nat.lt_of_lt_of_le (n := w.heap.size) (by first | exact Nat.le_refl _ | assumption | (simp; done) | (simp; omega) | omega) (Below.size b1)
    have hOwn1 := Nat.ne_of_gt hOwn
    have hOwn2 := Nat.ne_of_lt hOwn
    have hOwn := (Below.cell b1 (p := ⟨w.heap.size, 0, none⟩) (by first | exact Nat.le_refl _ | assumption | (simp; done) | (simp; omega) | omega)).trans (by go_simp; rfl)
    have hOwn := (Below.cell b1 (p := ⟨w.heap.size, 1, none⟩) (by first | exact Nat.le_refl _ | assumption | (simp; done) | (simp; omega) | omega)).trans (by go_simp; rfl)
    have hOwn := (Below.cell b1 (p := ⟨w.heap.size, 2, none⟩) (by first | exact Nat.le_refl _ | assumption | (simp; done) | (simp; omega) | omega)).trans (by go_simp; rfl)
    have hOwn := (Below.frozen b1 (p := ⟨w.heap.size, 0, none⟩) (by first | exact Nat.le_refl _ | assumption | (simp; done) | (simp; omega) | omega)).trans (by go_simp; rfl)
    have hOwn := (Below.frozen b1 (p := ⟨w.heap.size, 1, none⟩) (by first | exact Nat.le_refl _ | assumption | (simp; done) | (simp; omega) | omega)).trans (by go_simp; rfl)
    have hOwn := (Below.frozen b1 (p := ⟨w.heap.size, 2, none⟩) (by first | exact Nat.le_refl _ | assumption | (simp; done) | (simp; omega) | omega)).trans (by go_simp; rfl)
    have hOwn := Nat.lt_of_lt_of_le (n := (w.heap.size + 1)) (by first | exact Nat.le_refl _ | assumption | (simp; done) | (simp; omega) | omega) (Below.size b1)
    have hOwn1 := Nat.ne_of_gt hOwn
    have hOwn2 := Nat.ne_of_lt hOwn
    have hOwn := (Below.cell b1 (p := ⟨(w.heap.size + 1), 0, none⟩) (by first | exact Nat.le_refl _ | assumption | (simp; done) | (simp; omega) | omega)).trans (by go_simp; rfl)
    have hOwn := (Below.cell b1 (p := ⟨(w.heap.size + 1), 1, none⟩) (by first | exact Nat.le_refl _ | assumption | (simp; done) | (simp; omega) | omega)).trans (by go_simp; rfl)
    have hOwn := (Below.cell b1 (p := ⟨(w.heap.size + 1), 2, none⟩) (by first | exact Nat.le_refl _ | assumption | (simp; done) | (simp; omega) | omega)).trans (by go_simp; rfl)
    have hOwn := (Below.frozen b1 (p := ⟨(w.heap.size + 1), 0, none⟩) (by first | exact Nat.le_refl _ | assumption | (simp; done) | (simp; omega) | omega)).trans (by go_simp; rfl)
    have hOwn := (Below.frozen b1 (p := ⟨(w.heap.size + 1), 1, none⟩) (by first | exact Nat.le_refl _ | assumption | (simp; done) | (simp; omega) | omega)).trans (by go_simp; rfl)
    have hOwn := (Below.frozen b1 (p := ⟨(w.heap.size + 1), 2, none⟩) (by first | exact Nat.le_refl _ | assumption | (simp; done) | (simp; omega) | omega)).trans (by go_simp; rfl)
    go_wp2_with fail
    refine (refusing_any A c l (k : Int) 0 10 _).mono ?_
    rintro e w2 ⟨rfl, b2⟩
    have hSz := Below.size b2; try simp at hSz
    have hOwn := Nat.lt_of_lt_of_le (n := (w.heap.size + 1)) (by first | exact Nat.le_refl _ | assumption | (simp; done) | (simp; omega) | omega) (Below.size b2)
    have hOwn1 := Nat.ne_of_gt hOwn
    have hOwn2 := Nat.ne_of_lt hOwn
    have hOwn := (Below.cell b2 (p := ⟨(w.heap.size + 1), 0, none⟩) (by first | exact Nat.le_refl _ | assumption | (simp; done) | (simp; omega) | omega)).trans (by go_simp; rfl)
    have hOwn := (Below.cell b2 (p := ⟨(w.heap.size + 1), 1, none⟩) (by first | exact Nat.le_refl _ | assumption | (simp; done) | (simp; omega) | omega)).trans (by go_simp; rfl)
    have hOwn := (Below.cell b2 (p := ⟨(w.heap.size + 1), 2, none⟩) (by first | exact Nat.le_refl _ | assumption | (simp; done) | (simp; omega) | omega)).trans (by go_simp; rfl)
    have hOwn := (Below.frozen b2 (p := ⟨(w.heap.size + 1), 0, none⟩) (by first | exact Nat.le_refl _ | assumption | (simp; done) | (simp; omega) | omega)).trans (by go_simp; rfl)
    have hOwn := (Below.frozen b2 (p := ⟨(w.heap.size + 1), 1, none⟩) (by first | exact Nat.le_refl _ | assumption | (simp; done) | (simp; omega) | omega)).trans (by go_simp; rfl)
    have hOwn := (Below.frozen b2 (p := ⟨(w.heap.size + 1), 2, none⟩) (by first | exact Nat.le_refl _ | assumption | (simp; done) | (simp; omega) | omega)).trans (by go_simp; rfl)
    go_wp2_with fail
    try simp only [Exit.inBlock, Exit.then]
    refine post_x_rd (x0 := .slice A (List.length l) c) (x1 := .int .i64 (k : Int)) (x2 := .int .i64 10) rfl rfl rfl (by go_simp) (by go_simp) (by go_simp) ?_
    refine ⟨none, 0, rfl, Nat.le_refl _, Bys.nil _ _ _, by (repeat' (first | with_reducible assumption | with_reducible exact Below.refl _ _ | (with_reducible refine Below.alloc ?_ ?_ _; rotate_left; focus ((first | exact Nat.le_refl _ | (simp; done) | (simp; omega) | omega | fail))) | (with_reducible refine Below.setCell ?_ ?_ _; rotate_left; focus ((first | exact Nat.le_refl _ | (simp; done) | (simp; omega) | omega | fail))) | with_reducible refine Mem.bel_drewN ?_ _ | with_reducible refine Below.drew ?_ | (with_reducible refine Mem.bel_call (by with_reducible assumption) ?_ ?_; focus ((first | exact Nat.le_refl _ | (simp; done) | (simp; omega) | omega | fail))) | fail))⟩
  · rw [hr]
    rw [h0] at P
    have q : ¬ (l.length : Int) - (k : Int) < (n : Int) := by omega
    have len : ((l.drop k).take n).length = n := by rw [List.length_take, List.length_drop]; omega
    have hcut := (hb.cut k c hc).front n
    have LEN := Lib.hid len
    have HC := Lib.hid hcut
    clear hcut len
    generalize (l.drop k).take n = X at *
    by_cases hck : c = k
    · subst hck
      have HC2 := HC.out
      rw [if_pos rfl] at HC2
      have HC3 := Lib.hid HC2
      clear HC2 HC
      obtain rfl : n = 0 := by omega
      go_enter Tryd.func39, Tryd.ntmps39
      go_wp2_with fail
      refine (P.out _).mono ?_
      rintro e w1 ⟨rfl, b1⟩
      have hSz := Below.size b1; try simp at hSz
      have hOwn := Nat.lt_of_lt_of_le (n := w.heap.size) (by first | exact Nat.le_refl _ | assumption | (simp; done) | (simp; omega) | omega) (Below.size b1)
      have hOwn1 := Nat.ne_of_gt hOwn
      have hOwn2 := Nat.ne_of_lt hOwn
      have hOwn := (Below.cell b1 (p := ⟨w.heap.size, 0, none⟩) (by first | exact Nat.le_refl _ | assumption | (simp; done) | (simp; omega) | omega)).trans (by go_simp; rfl)
      have hOwn := (Below.cell b1 (p := ⟨w.heap.size, 1, none⟩) (by first | exact Nat.le_refl _ | assumption | (simp; done) | (simp; omega) | omega)).trans (by go_simp; rfl)
      have hOwn := (Below.cell b1 (p := ⟨w.heap.size, 2, none⟩) (by first | exact Nat.le_refl _ | assumption | (simp; done) | (simp; omega) | omega)).trans (by go_simp; rfl)
      have hOwn := (Below.frozen b1 (p := ⟨w.heap.size, 0, none⟩) (by first | exact Nat.le_refl _ | assumption | (simp; done) | (simp; omega) | omega)).trans (by go_simp; rfl)
      have hOwn := (Below.frozen b1 (p := ⟨w.heap.size, 1, none⟩) (by first | exact Nat.le_refl _ | assumption | (simp; done) | (simp; omega) | omega)).trans (by go_simp; rfl)
      have hOwn := (Below.frozen b1 (p := ⟨w.heap.size, 2, none⟩) (by first | exact Nat.le_refl _ | assumption | (simp; done) | (simp; omega) | omega)).trans (by go_simp; rfl)
      have hOwn := Nat.lt_of_lt_of_le (n := (w.heap.size + 1)) (by first | exact Nat.le_refl _ | assumption | (simp; done) | (simp; omega) | omega) (Below.size b1)
      have hOwn1 := Nat.ne_of_gt hOwn
      have hOwn2 := Nat.ne_of_lt hOwn
      have hOwn := (Below.cell b1 (p := ⟨(w.heap.size + 1), 0, none⟩) (by first | exact Nat.le_refl _ | assumption | (simp; done) | (simp; omega) | omega)).trans (by go_simp; rfl)
      have hOwn := (Below.cell b1 (p := ⟨(w.heap.size + 1), 1, none⟩) (by first | exact Nat.le_refl _ | assumption | (simp; done) | (simp; omega) | omega)).trans (by go_simp; rfl)
      have hOwn := (Below.cell b1 (p := ⟨(w.heap.size + 1), 2, none⟩) (by first | exact Nat.le_refl _ | assumption | (simp; done) | (simp; omega) | omega)).trans (by go_simp; rfl)
      have hOwn := (Below.frozen b1 (p := ⟨(w.heap.size + 1), 0, none⟩) (by first | exact Nat.le_refl _ | assumption | (simp; done) | (simp; omega) | omega)).trans (by go_simp; rfl)
      have hOwn := (Below.frozen b1 (p := ⟨(w.heap.size + 1), 1, none⟩) (by first | exact Nat.le_refl _ | assumption | (simp; done) | (simp; omega) | omega)).trans (by go_simp; rfl)
      have hOwn := (Below.frozen b1 (p := ⟨(w.heap.size + 1), 2, none⟩) (by first | exact Nat.le_refl _ | assumption | (simp; done) | (simp; omega) | omega)).trans (by go_simp; rfl)
      go_wp2_with fail
      go_region
      all_goals
        go_wp2_with fail
        try simp only [Exit.inBlock, Exit.then]
        refine post_x_rd (x0 := .slice A (List.length l) c) (x1 := .int .i64 (c : Int)) (x2 := .int .i64 0) rfl rfl rfl (by go_simp) (by go_simp) (by go_simp) ?_
        exact saysB_mk LEN.out rfl (Nat.zero_le _) HC3.out hB (by (repeat' (first | with_reducible assumption | with_reducible exact Below.refl _ _ | (with_reducible refine Below.alloc ?_ ?_ _; rotate_left; focus ((first | exact Nat.le_refl _ | (simp; done) | (simp; omega) | omega | fail))) | (with_reducible refine Below.setCell ?_ ?_ _; rotate_left; focus ((first | exact Nat.le_refl _ | (simp; done) | (simp; omega) | omega | fail))) | with_reducible refine Mem.bel_drewN ?_ _ | with_reducible refine Below.drew ?_ | (with_reducible refine Mem.bel_call (by with_reducible assumption) ?_ ?_; focus ((first | exact Nat.le_refl _ | (simp; done) | (simp; omega) | omega | fail))) | fail)))
    · have HC2 := HC.out
      rw [if_neg hck] at HC2
      have HC3 := Lib.hid HC2
      clear HC2 HC
      go_enter Tryd.func39, Tryd.ntmps39
      go_wp2_with fail
      refine (P.out _).mono ?_
      rintro e w1 ⟨rfl, b1⟩
      have hSz := Below.size b1; try simp at hSz
      have hOwn := Nat.lt_of_lt_of_le (n := w.heap.size) (by first | exact Nat.le_refl _ | assumption | (simp; done) | (simp; omega) | omega) (Below.size b1)
      have hOwn1 := Nat.ne_of_gt hOwn
      have hOwn2 := Nat.ne_of_lt hOwn
      have hOwn := (Below.cell b1 (p := ⟨w.heap.size, 0, none⟩) (by first | exact Nat.le_refl _ | assumption | (simp; done) | (simp; omega) | omega)).trans (by go_simp; rfl)
      have hOwn := (Below.cell b1 (p := ⟨w.heap.size, 1, none⟩) (by first | exact Nat.le_refl _ | assumption | (simp; done) | (simp; omega) | omega)).trans (by go_simp; rfl)
      have hOwn := (Below.cell b1 (p := ⟨w.heap.size, 2, none⟩) (by first | exact Nat.le_refl _ | assumption | (simp; done) | (simp; omega) | omega)).trans (by go_simp; rfl)
      have hOwn := (Below.frozen b1 (p := ⟨w.heap.size, 0, none⟩) (by first | exact Nat.le_refl _ | assumption | (simp; done) | (simp; omega) | omega)).trans (by go_simp; rfl)
      have hOwn := (Below.frozen b1 (p := ⟨w.heap.size, 1, none⟩) (by first | exact Nat.le_refl _ | assumption | (simp; done) | (simp; omega) | omega)).trans (by go_simp; rfl)
      have hOwn := (Below.frozen b1 (p := ⟨w.heap.size, 2, none⟩) (by first | exact Nat.le_refl _ | assumption | (simp; done) | (simp; omega) | omega)).trans (by go_simp; rfl)
      have hOwn := Nat.lt_of_lt_of_le (n := (w.heap.size + 1)) (by first | exact Nat.le_refl _ | assumption | (simp; done) | (simp; omega) | omega) (Below.size b1)
      have hOwn1 := Nat.ne_of_gt hOwn
      have hOwn2 := Nat.ne_of_lt hOwn
      have hOwn := (Below.cell b1 (p := ⟨(w.heap.size + 1), 0, none⟩) (by first | exact Nat.le_refl _ | assumption | (simp; done) | (simp; omega) | omega)).trans (by go_simp; rfl)
      have hOwn := (Below.cell b1 (p := ⟨(w.heap.size + 1), 1, none⟩) (by first | exact Nat.le_refl _ | assumption | (simp; done) | (simp; omega) | omega)).trans (by go_simp; rfl)
      have hOwn := (Below.cell b1 (p := ⟨(w.heap.size + 1), 2, none⟩) (by first | exact Nat.le_refl _ | assumption | (simp; done) | (simp; omega) | omega)).trans (by go_simp; rfl)
      have hOwn := (Below.frozen b1 (p := ⟨(w.heap.size + 1), 0, none⟩) (by first | exact Nat.le_refl _ | assumption | (simp; done) | (simp; omega) | omega)).trans (by go_simp; rfl)
      have hOwn := (Below.frozen b1 (p := ⟨(w.heap.size + 1), 1, none⟩) (by first | exact Nat.le_refl _ | assumption | (simp; done) | (simp; omega) | omega)).trans (by go_simp; rfl)
      have hOwn := (Below.frozen b1 (p := ⟨(w.heap.size + 1), 2, none⟩) (by first | exact Nat.le_refl _ | assumption | (simp; done) | (simp; omega) | omega)).trans (by go_simp; rfl)
      go_wp2_with fail
      go_region
      all_goals
        go_wp2_with fail
        try simp only [Exit.inBlock, Exit.then]
        refine post_x_rd (x0 := .slice A (List.length l) c) (x1 := .int .i64 ((k : Int) + (n : Int))) (x2 := .int .i64 0) rfl rfl rfl (by go_simp) (by go_simp) (by go_simp) ?_
        exact saysB_mk (c' := c - k) LEN.out (by simp) (by omega) HC3.out hB (by (repeat' (first | with_reducible assumption | with_reducible exact Below.refl _ _ | (with_reducible refine Below.alloc ?_ ?_ _; rotate_left; focus ((first | exact Nat.le_refl _ | (simp; done) | (simp; omega) | omega | fail))) | (with_reducible refine Below.setCell ?_ ?_ _; rotate_left; focus ((first | exact Nat.le_refl _ | (simp; done) | (simp; omega) | omega | fail))) | with_reducible refine Mem.bel_drewN ?_ _ | with_reducible refine Below.drew ?_ | (with_reducible refine Mem.bel_call (by with_reducible assumption) ?_ ?_; focus ((first | exact Nat.le_refl _ | (simp; done) | (simp; omega) | omega | fail))) | fail)))
end Go.Proofs.YtjebhbjffofjnaaDoor
