/- Layer 4: a reader's truths, numbers, bits, bytes and texts, at every input. -/
import Derived.Test.YtjebhbjffofjnaaDoorWire
namespace Go.Proofs.YtjebhbjffofjnaaDoor
open Go.ChangeShapes Go.WideShapes Go.ChangeAt Go.RowKit Mem

theorem bitsSize_any (n : Int) (w : World) : Calls Tryd.prog 36 #[.int .i64 n] w (fun x w' => x = .returned (.int .i64 (Wr.most8 n)) ∧ w = w') := by
  go_enter Tryd.func36, Tryd.ntmps36
  go_wp2_with fail
  all_goals
    go_ret
    exact ⟨retInt (by unfold Wr.most8; omega), rfl⟩

theorem takeLong_any (A : Option Addr) (c : Nat) (l : List UInt8) (a e : Int) (w : World) (hb : Bys w w.heap.size A l) (hl : l.length ≤ 140000000000) :
    Calls Tryd.prog 43 #[(.agg #[.slice A (List.length l) c, .int .i64 a, .int .i64 e])] w (Says (Num.zag ((At 10 1 l a).1 : Int)) (At 10 1 l a).2.1 (At 10 1 l a).2.2 w) := by
  have T := Lib.hid (fun W hb => Take_any A c l a W hb hl)
  go_enter Tryd.func43, Tryd.ntmps43
  go_wp2_with fail
  refine (T.out _ (hb.now (by (repeat' (first | with_reducible assumption | with_reducible exact Below.refl _ _ | (with_reducible refine Below.alloc ?_ ?_ _; rotate_left; focus ((first | exact Nat.le_refl _ | (simp; done) | (simp; omega) | omega | fail))) | (with_reducible refine Below.setCell ?_ ?_ _; rotate_left; focus ((first | exact Nat.le_refl _ | (simp; done) | (simp; omega) | omega | fail))) | with_reducible refine Mem.bel_drewN ?_ _ | with_reducible refine Below.drew ?_ | (with_reducible refine Mem.bel_call (by with_reducible assumption) ?_ ?_; focus ((first | exact Nat.le_refl _ | (simp; done) | (simp; omega) | omega | fail))) | fail))))).mono ?_
  rintro e w1 ⟨rfl, b1⟩
  go_wp2_with fail
  go_ret3
  exact ⟨rfl, by (repeat' (first | with_reducible assumption | with_reducible exact Below.refl _ _ | (with_reducible refine Below.alloc ?_ ?_ _; rotate_left; focus ((first | exact Nat.le_refl _ | (simp; done) | (simp; omega) | omega | fail))) | (with_reducible refine Below.setCell ?_ ?_ _; rotate_left; focus ((first | exact Nat.le_refl _ | (simp; done) | (simp; omega) | omega | fail))) | with_reducible refine Mem.bel_drewN ?_ _ | with_reducible refine Below.drew ?_ | (with_reducible refine Mem.bel_call (by with_reducible assumption) ?_ ?_; focus ((first | exact Nat.le_refl _ | (simp; done) | (simp; omega) | omega | fail))) | fail))⟩
theorem takeInt_any (A : Option Addr) (c : Nat) (l : List UInt8) (a e : Int) (w : World) (hb : Bys w w.heap.size A l) (hl : l.length ≤ 140000000000) :
    Calls Tryd.prog 42 #[(.agg #[.slice A (List.length l) c, .int .i64 a, .int .i64 e])] w (Says (Num.zag ((At 5 15 l a).1 : Int)) (At 5 15 l a).2.1 (At 5 15 l a).2.2 w) := by
  have T := Lib.hid (fun W hb => TakeInt_any A c l a W hb hl)
  go_enter Tryd.func42, Tryd.ntmps42
  go_wp2_with fail
  refine (T.out _ (hb.now (by (repeat' (first | with_reducible assumption | with_reducible exact Below.refl _ _ | (with_reducible refine Below.alloc ?_ ?_ _; rotate_left; focus ((first | exact Nat.le_refl _ | (simp; done) | (simp; omega) | omega | fail))) | (with_reducible refine Below.setCell ?_ ?_ _; rotate_left; focus ((first | exact Nat.le_refl _ | (simp; done) | (simp; omega) | omega | fail))) | with_reducible refine Mem.bel_drewN ?_ _ | with_reducible refine Below.drew ?_ | (with_reducible refine Mem.bel_call (by with_reducible assumption) ?_ ?_; focus ((first | exact Nat.le_refl _ | (simp; done) | (simp; omega) | omega | fail))) | fail))))).mono ?_
  rintro e w1 ⟨rfl, b1⟩
  go_wp2_with fail
  go_ret3
  exact ⟨rfl, by (repeat' (first | with_reducible assumption | with_reducible exact Below.refl _ _ | (with_reducible refine Below.alloc ?_ ?_ _; rotate_left; focus ((first | exact Nat.le_refl _ | (simp; done) | (simp; omega) | omega | fail))) | (with_reducible refine Below.setCell ?_ ?_ _; rotate_left; focus ((first | exact Nat.le_refl _ | (simp; done) | (simp; omega) | omega | fail))) | with_reducible refine Mem.bel_drewN ?_ _ | with_reducible refine Below.drew ?_ | (with_reducible refine Mem.bel_call (by with_reducible assumption) ?_ ?_; focus ((first | exact Nat.le_refl _ | (simp; done) | (simp; omega) | omega | fail))) | fail))⟩

set_option maxHeartbeats 1000000 in
theorem numLong_any (A : Option Addr) (c : Nat) (l : List UInt8) (a e : Int) (w : World) (hb : Bys w w.heap.size A l) (hl : l.length ≤ 140000000000) :
    Calls Tryd.prog 41 #[(.agg #[.slice A (List.length l) c, .int .i64 a, .int .i64 e]), .func (Fn.func 43) #[] #[]] w (SaysN (Wr.lnum 10 1 l a e) A l c w) := by
  have P := Lib.hid (placed_any A c l a e)
  have CS := cell_set
  unfold Wr.lnum
  by_cases h : Wr.rdy l a e = 0
  · rw [if_neg (by omega)]
    rw [h] at P
    have F := Lib.hid (fun W hb => takeLong_any A c l a 0 W hb hl)
    generalize Num.zag ((At 10 1 l a).1 : Int) = n at *
    generalize (At 10 1 l a).2.1 = m at *
    generalize (At 10 1 l a).2.2 = r at *
    go_enter Tryd.func41, Tryd.ntmps41
    go_wp2_with fail
    refine (P.out _).mono ?_
    rintro e w1 ⟨rfl, b1⟩
    have hSz := Below.size b1; try simp at hSz
    have hOwn := Nat.lt_of_lt_of_le (n := w.heap.size) (by first | exact Nat.le_refl _ | assumption | (simp; done) | (simp; omega) | omega) (Below.size b1)
    have hOwn1 := Nat.ne_of_gt hOwn
    have hOwn2 := Nat.ne_of_lt hOwn
    have hOwn := (Below.cell b1 (p := ⟨w.heap.size, 0, none⟩) (by first | exact Nat.le_refl _ | assumption | (simp; done) | (simp; omega) | omega)).trans (by go_simp; rfl)
    have hOwn := (Below.cell b1 (p := ⟨w.heap.size, 1, none⟩) (by first | exact Nat.le_refl _ | assumption | (simp; done) | (simp; omega) | omega)).trans (by go_simp; rfl)
    have hOwn := (Below.cell b1 (p := ⟨w.heap.size, 2, none⟩) (by first | exact Nat.le_refl _ | assumption | (simp; done) | (simp; omega) | omega)).trans (by go_simp; rfl)
    have hOwn := (Below.frozen b1 (p := ⟨w.heap.size, 0, none⟩) (by first | exact Nat.le_refl _ | assumption | (simp; done) | (simp; omega) | omega)).trans (by go_simp; rfl)
    have hOwn := (Below.frozen b1 (p := ⟨w.heap.size, 1, none⟩) (by first | exact Nat.le_refl _ | assumption | (simp; done) | (simp; omega) | omega)).trans (by go_simp; rfl)
    have hOwn := (Below.frozen b1 (p := ⟨w.heap.size, 2, none⟩) (by first | exact Nat.le_refl _ | assumption | (simp; done) | (simp; omega) | omega)).trans (by go_simp; rfl)
    have hOwn := Nat.lt_of_lt_of_le (n := (w.heap.size + 1)) (by first | exact Nat.le_refl _ | assumption | (simp; done) | (simp; omega) | omega) (Below.size b1)
    have hOwn1 := Nat.ne_of_gt hOwn
    have hOwn2 := Nat.ne_of_lt hOwn
    have hOwn := (Below.cell b1 (p := ⟨(w.heap.size + 1), 0, none⟩) (by first | exact Nat.le_refl _ | assumption | (simp; done) | (simp; omega) | omega)).trans (by go_simp; rfl)
    have hOwn := (Below.cell b1 (p := ⟨(w.heap.size + 1), 1, none⟩) (by first | exact Nat.le_refl _ | assumption | (simp; done) | (simp; omega) | omega)).trans (by go_simp; rfl)
    have hOwn := (Below.cell b1 (p := ⟨(w.heap.size + 1), 2, none⟩) (by first | exact Nat.le_refl _ | assumption | (simp; done) | (simp; omega) | omega)).trans (by go_simp; rfl)
    have hOwn := (Below.frozen b1 (p := ⟨(w.heap.size + 1), 0, none⟩) (by first | exact Nat.le_refl _ | assumption | (simp; done) | (simp; omega) | omega)).trans (by go_simp; rfl)
    have hOwn := (Below.frozen b1 (p := ⟨(w.heap.size + 1), 1, none⟩) (by first | exact Nat.le_refl _ | assumption | (simp; done) | (simp; omega) | omega)).trans (by go_simp; rfl)
    have hOwn := (Below.frozen b1 (p := ⟨(w.heap.size + 1), 2, none⟩) (by first | exact Nat.le_refl _ | assumption | (simp; done) | (simp; omega) | omega)).trans (by go_simp; rfl)
    go_wp2_with fail
    refine (F.out _ (hb.now (by (repeat' (first | with_reducible assumption | with_reducible exact Below.refl _ _ | (with_reducible refine Below.alloc ?_ ?_ _; rotate_left; focus ((first | exact Nat.le_refl _ | (simp; done) | (simp; omega) | omega | fail))) | (with_reducible refine Below.setCell ?_ ?_ _; rotate_left; focus ((first | exact Nat.le_refl _ | (simp; done) | (simp; omega) | omega | fail))) | with_reducible refine Mem.bel_drewN ?_ _ | with_reducible refine Below.drew ?_ | (with_reducible refine Mem.bel_call (by with_reducible assumption) ?_ ?_; focus ((first | exact Nat.le_refl _ | (simp; done) | (simp; omega) | omega | fail))) | fail))))).mono ?_
    rintro e w2 ⟨rfl, b2⟩
    have hSz := Below.size b2; try simp at hSz
    have hOwn := Nat.lt_of_lt_of_le (n := w.heap.size) (by first | exact Nat.le_refl _ | assumption | (simp; done) | (simp; omega) | omega) (Below.size b2)
    have hOwn1 := Nat.ne_of_gt hOwn
    have hOwn2 := Nat.ne_of_lt hOwn
    have hOwn := (Below.cell b2 (p := ⟨w.heap.size, 0, none⟩) (by first | exact Nat.le_refl _ | assumption | (simp; done) | (simp; omega) | omega)).trans (by go_simp; rfl)
    have hOwn := (Below.cell b2 (p := ⟨w.heap.size, 1, none⟩) (by first | exact Nat.le_refl _ | assumption | (simp; done) | (simp; omega) | omega)).trans (by go_simp; rfl)
    have hOwn := (Below.cell b2 (p := ⟨w.heap.size, 2, none⟩) (by first | exact Nat.le_refl _ | assumption | (simp; done) | (simp; omega) | omega)).trans (by go_simp; rfl)
    have hOwn := (Below.frozen b2 (p := ⟨w.heap.size, 0, none⟩) (by first | exact Nat.le_refl _ | assumption | (simp; done) | (simp; omega) | omega)).trans (by go_simp; rfl)
    have hOwn := (Below.frozen b2 (p := ⟨w.heap.size, 1, none⟩) (by first | exact Nat.le_refl _ | assumption | (simp; done) | (simp; omega) | omega)).trans (by go_simp; rfl)
    have hOwn := (Below.frozen b2 (p := ⟨w.heap.size, 2, none⟩) (by first | exact Nat.le_refl _ | assumption | (simp; done) | (simp; omega) | omega)).trans (by go_simp; rfl)
    have hOwn := Nat.lt_of_lt_of_le (n := (w.heap.size + 1)) (by first | exact Nat.le_refl _ | assumption | (simp; done) | (simp; omega) | omega) (Below.size b2)
    have hOwn1 := Nat.ne_of_gt hOwn
    have hOwn2 := Nat.ne_of_lt hOwn
    have hOwn := (Below.cell b2 (p := ⟨(w.heap.size + 1), 0, none⟩) (by first | exact Nat.le_refl _ | assumption | (simp; done) | (simp; omega) | omega)).trans (by go_simp; rfl)
    have hOwn := (Below.cell b2 (p := ⟨(w.heap.size + 1), 1, none⟩) (by first | exact Nat.le_refl _ | assumption | (simp; done) | (simp; omega) | omega)).trans (by go_simp; rfl)
    have hOwn := (Below.cell b2 (p := ⟨(w.heap.size + 1), 2, none⟩) (by first | exact Nat.le_refl _ | assumption | (simp; done) | (simp; omega) | omega)).trans (by go_simp; rfl)
    have hOwn := (Below.frozen b2 (p := ⟨(w.heap.size + 1), 0, none⟩) (by first | exact Nat.le_refl _ | assumption | (simp; done) | (simp; omega) | omega)).trans (by go_simp; rfl)
    have hOwn := (Below.frozen b2 (p := ⟨(w.heap.size + 1), 1, none⟩) (by first | exact Nat.le_refl _ | assumption | (simp; done) | (simp; omega) | omega)).trans (by go_simp; rfl)
    have hOwn := (Below.frozen b2 (p := ⟨(w.heap.size + 1), 2, none⟩) (by first | exact Nat.le_refl _ | assumption | (simp; done) | (simp; omega) | omega)).trans (by go_simp; rfl)
    go_wp2_with fail
    go_region
    all_goals
      go_wp2_with fail
      try simp only [Exit.inBlock, Exit.then]
      refine post_x_rd (x0 := .slice A (List.length l) c) (x1 := .int .i64 m) (x2 := .int .i64 (r : Int)) rfl rfl rfl (by go_simp) (by go_simp) (by go_simp) ?_
      exact ⟨rfl, by (repeat' (first | with_reducible assumption | with_reducible exact Below.refl _ _ | (with_reducible refine Below.alloc ?_ ?_ _; rotate_left; focus ((first | exact Nat.le_refl _ | (simp; done) | (simp; omega) | omega | fail))) | (with_reducible refine Below.setCell ?_ ?_ _; rotate_left; focus ((first | exact Nat.le_refl _ | (simp; done) | (simp; omega) | omega | fail))) | with_reducible refine Mem.bel_drewN ?_ _ | with_reducible refine Below.drew ?_ | (with_reducible refine Mem.bel_call (by with_reducible assumption) ?_ ?_; focus ((first | exact Nat.le_refl _ | (simp; done) | (simp; omega) | omega | fail))) | fail))⟩
  · rw [if_pos h]
    have q : (Wr.rdy l a e == 0) = false := by simpa using h
    generalize Wr.rdy l a e = r at *
    go_enter Tryd.func41, Tryd.ntmps41
    go_wp2_with fail
    refine (P.out _).mono ?_
    rintro e w1 ⟨rfl, b1⟩
    have hSz := Below.size b1; try simp at hSz
    have hOwn := Nat.lt_of_lt_of_le (n := w.heap.size) (by first | exact Nat.le_refl _ | assumption | (simp; done) | (simp; omega) | omega) (Below.size b1)
    have hOwn1 := Nat.ne_of_gt hOwn
    have hOwn2 := Nat.ne_of_lt hOwn
    have hOwn := (Below.cell b1 (p := ⟨w.heap.size, 0, none⟩) (by first | exact Nat.le_refl _ | assumption | (simp; done) | (simp; omega) | omega)).trans (by go_simp; rfl)
    have hOwn := (Below.cell b1 (p := ⟨w.heap.size, 1, none⟩) (by first | exact Nat.le_refl _ | assumption | (simp; done) | (simp; omega) | omega)).trans (by go_simp; rfl)
    have hOwn := (Below.cell b1 (p := ⟨w.heap.size, 2, none⟩) (by first | exact Nat.le_refl _ | assumption | (simp; done) | (simp; omega) | omega)).trans (by go_simp; rfl)
    have hOwn := (Below.frozen b1 (p := ⟨w.heap.size, 0, none⟩) (by first | exact Nat.le_refl _ | assumption | (simp; done) | (simp; omega) | omega)).trans (by go_simp; rfl)
    have hOwn := (Below.frozen b1 (p := ⟨w.heap.size, 1, none⟩) (by first | exact Nat.le_refl _ | assumption | (simp; done) | (simp; omega) | omega)).trans (by go_simp; rfl)
    have hOwn := (Below.frozen b1 (p := ⟨w.heap.size, 2, none⟩) (by first | exact Nat.le_refl _ | assumption | (simp; done) | (simp; omega) | omega)).trans (by go_simp; rfl)
    have hOwn := Nat.lt_of_lt_of_le (n := (w.heap.size + 1)) (by first | exact Nat.le_refl _ | assumption | (simp; done) | (simp; omega) | omega) (Below.size b1)
    have hOwn1 := Nat.ne_of_gt hOwn
    have hOwn2 := Nat.ne_of_lt hOwn
    have hOwn := (Below.cell b1 (p := ⟨(w.heap.size + 1), 0, none⟩) (by first | exact Nat.le_refl _ | assumption | (simp; done) | (simp; omega) | omega)).trans (by go_simp; rfl)
    have hOwn := (Below.cell b1 (p := ⟨(w.heap.size + 1), 1, none⟩) (by first | exact Nat.le_refl _ | assumption | (simp; done) | (simp; omega) | omega)).trans (by go_simp; rfl)
    have hOwn := (Below.cell b1 (p := ⟨(w.heap.size + 1), 2, none⟩) (by first | exact Nat.le_refl _ | assumption | (simp; done) | (simp; omega) | omega)).trans (by go_simp; rfl)
    have hOwn := (Below.frozen b1 (p := ⟨(w.heap.size + 1), 0, none⟩) (by first | exact Nat.le_refl _ | assumption | (simp; done) | (simp; omega) | omega)).trans (by go_simp; rfl)
    have hOwn := (Below.frozen b1 (p := ⟨(w.heap.size + 1), 1, none⟩) (by first | exact Nat.le_refl _ | assumption | (simp; done) | (simp; omega) | omega)).trans (by go_simp; rfl)
    have hOwn := (Below.frozen b1 (p := ⟨(w.heap.size + 1), 2, none⟩) (by first | exact Nat.le_refl _ | assumption | (simp; done) | (simp; omega) | omega)).trans (by go_simp; rfl)
    go_wp2_with fail
    go_region
    all_goals
      go_wp2_with fail
      try simp only [Exit.inBlock, Exit.then]
      refine post_x_rd (x0 := .slice A (List.length l) c) (x1 := .int .i64 a) (x2 := .int .i64 r) rfl rfl rfl (by go_simp) (by go_simp) (by go_simp) ?_
      exact ⟨rfl, by (repeat' (first | with_reducible assumption | with_reducible exact Below.refl _ _ | (with_reducible refine Below.alloc ?_ ?_ _; rotate_left; focus ((first | exact Nat.le_refl _ | (simp; done) | (simp; omega) | omega | fail))) | (with_reducible refine Below.setCell ?_ ?_ _; rotate_left; focus ((first | exact Nat.le_refl _ | (simp; done) | (simp; omega) | omega | fail))) | with_reducible refine Mem.bel_drewN ?_ _ | with_reducible refine Below.drew ?_ | (with_reducible refine Mem.bel_call (by with_reducible assumption) ?_ ?_; focus ((first | exact Nat.le_refl _ | (simp; done) | (simp; omega) | omega | fail))) | fail))⟩
set_option maxHeartbeats 1000000 in
theorem numInt_any (A : Option Addr) (c : Nat) (l : List UInt8) (a e : Int) (w : World) (hb : Bys w w.heap.size A l) (hl : l.length ≤ 140000000000) :
    Calls Tryd.prog 41 #[(.agg #[.slice A (List.length l) c, .int .i64 a, .int .i64 e]), .func (Fn.func 42) #[] #[]] w (SaysN (Wr.lnum 5 15 l a e) A l c w) := by
  have P := Lib.hid (placed_any A c l a e)
  have CS := cell_set
  unfold Wr.lnum
  by_cases h : Wr.rdy l a e = 0
  · rw [if_neg (by omega)]
    rw [h] at P
    have F := Lib.hid (fun W hb => takeInt_any A c l a 0 W hb hl)
    generalize Num.zag ((At 5 15 l a).1 : Int) = n at *
    generalize (At 5 15 l a).2.1 = m at *
    generalize (At 5 15 l a).2.2 = r at *
    go_enter Tryd.func41, Tryd.ntmps41
    go_wp2_with fail
    refine (P.out _).mono ?_
    rintro e w1 ⟨rfl, b1⟩
    have hSz := Below.size b1; try simp at hSz
    have hOwn := Nat.lt_of_lt_of_le (n := w.heap.size) (by first | exact Nat.le_refl _ | assumption | (simp; done) | (simp; omega) | omega) (Below.size b1)
    have hOwn1 := Nat.ne_of_gt hOwn
    have hOwn2 := Nat.ne_of_lt hOwn
    have hOwn := (Below.cell b1 (p := ⟨w.heap.size, 0, none⟩) (by first | exact Nat.le_refl _ | assumption | (simp; done) | (simp; omega) | omega)).trans (by go_simp; rfl)
    have hOwn := (Below.cell b1 (p := ⟨w.heap.size, 1, none⟩) (by first | exact Nat.le_refl _ | assumption | (simp; done) | (simp; omega) | omega)).trans (by go_simp; rfl)
    have hOwn := (Below.cell b1 (p := ⟨w.heap.size, 2, none⟩) (by first | exact Nat.le_refl _ | assumption | (simp; done) | (simp; omega) | omega)).trans (by go_simp; rfl)
    have hOwn := (Below.frozen b1 (p := ⟨w.heap.size, 0, none⟩) (by first | exact Nat.le_refl _ | assumption | (simp; done) | (simp; omega) | omega)).trans (by go_simp; rfl)
    have hOwn := (Below.frozen b1 (p := ⟨w.heap.size, 1, none⟩) (by first | exact Nat.le_refl _ | assumption | (simp; done) | (simp; omega) | omega)).trans (by go_simp; rfl)
    have hOwn := (Below.frozen b1 (p := ⟨w.heap.size, 2, none⟩) (by first | exact Nat.le_refl _ | assumption | (simp; done) | (simp; omega) | omega)).trans (by go_simp; rfl)
    have hOwn := Nat.lt_of_lt_of_le (n := (w.heap.size + 1)) (by first | exact Nat.le_refl _ | assumption | (simp; done) | (simp; omega) | omega) (Below.size b1)
    have hOwn1 := Nat.ne_of_gt hOwn
    have hOwn2 := Nat.ne_of_lt hOwn
    have hOwn := (Below.cell b1 (p := ⟨(w.heap.size + 1), 0, none⟩) (by first | exact Nat.le_refl _ | assumption | (simp; done) | (simp; omega) | omega)).trans (by go_simp; rfl)
    have hOwn := (Below.cell b1 (p := ⟨(w.heap.size + 1), 1, none⟩) (by first | exact Nat.le_refl _ | assumption | (simp; done) | (simp; omega) | omega)).trans (by go_simp; rfl)
    have hOwn := (Below.cell b1 (p := ⟨(w.heap.size + 1), 2, none⟩) (by first | exact Nat.le_refl _ | assumption | (simp; done) | (simp; omega) | omega)).trans (by go_simp; rfl)
    have hOwn := (Below.frozen b1 (p := ⟨(w.heap.size + 1), 0, none⟩) (by first | exact Nat.le_refl _ | assumption | (simp; done) | (simp; omega) | omega)).trans (by go_simp; rfl)
    have hOwn := (Below.frozen b1 (p := ⟨(w.heap.size + 1), 1, none⟩) (by first | exact Nat.le_refl _ | assumption | (simp; done) | (simp; omega) | omega)).trans (by go_simp; rfl)
    have hOwn := (Below.frozen b1 (p := ⟨(w.heap.size + 1), 2, none⟩) (by first | exact Nat.le_refl _ | assumption | (simp; done) | (simp; omega) | omega)).trans (by go_simp; rfl)
    go_wp2_with fail
    refine (F.out _ (hb.now (by (repeat' (first | with_reducible assumption | with_reducible exact Below.refl _ _ | (with_reducible refine Below.alloc ?_ ?_ _; rotate_left; focus ((first | exact Nat.le_refl _ | (simp; done) | (simp; omega) | omega | fail))) | (with_reducible refine Below.setCell ?_ ?_ _; rotate_left; focus ((first | exact Nat.le_refl _ | (simp; done) | (simp; omega) | omega | fail))) | with_reducible refine Mem.bel_drewN ?_ _ | with_reducible refine Below.drew ?_ | (with_reducible refine Mem.bel_call (by with_reducible assumption) ?_ ?_; focus ((first | exact Nat.le_refl _ | (simp; done) | (simp; omega) | omega | fail))) | fail))))).mono ?_
    rintro e w2 ⟨rfl, b2⟩
    have hSz := Below.size b2; try simp at hSz
    have hOwn := Nat.lt_of_lt_of_le (n := w.heap.size) (by first | exact Nat.le_refl _ | assumption | (simp; done) | (simp; omega) | omega) (Below.size b2)
    have hOwn1 := Nat.ne_of_gt hOwn
    have hOwn2 := Nat.ne_of_lt hOwn
    have hOwn := (Below.cell b2 (p := ⟨w.heap.size, 0, none⟩) (by first | exact Nat.le_refl _ | assumption | (simp; done) | (simp; omega) | omega)).trans (by go_simp; rfl)
    have hOwn := (Below.cell b2 (p := ⟨w.heap.size, 1, none⟩) (by first | exact Nat.le_refl _ | assumption | (simp; done) | (simp; omega) | omega)).trans (by go_simp; rfl)
    have hOwn := (Below.cell b2 (p := ⟨w.heap.size, 2, none⟩) (by first | exact Nat.le_refl _ | assumption | (simp; done) | (simp; omega) | omega)).trans (by go_simp; rfl)
    have hOwn := (Below.frozen b2 (p := ⟨w.heap.size, 0, none⟩) (by first | exact Nat.le_refl _ | assumption | (simp; done) | (simp; omega) | omega)).trans (by go_simp; rfl)
    have hOwn := (Below.frozen b2 (p := ⟨w.heap.size, 1, none⟩) (by first | exact Nat.le_refl _ | assumption | (simp; done) | (simp; omega) | omega)).trans (by go_simp; rfl)
    have hOwn := (Below.frozen b2 (p := ⟨w.heap.size, 2, none⟩) (by first | exact Nat.le_refl _ | assumption | (simp; done) | (simp; omega) | omega)).trans (by go_simp; rfl)
    have hOwn := Nat.lt_of_lt_of_le (n := (w.heap.size + 1)) (by first | exact Nat.le_refl _ | assumption | (simp; done) | (simp; omega) | omega) (Below.size b2)
    have hOwn1 := Nat.ne_of_gt hOwn
    have hOwn2 := Nat.ne_of_lt hOwn
    have hOwn := (Below.cell b2 (p := ⟨(w.heap.size + 1), 0, none⟩) (by first | exact Nat.le_refl _ | assumption | (simp; done) | (simp; omega) | omega)).trans (by go_simp; rfl)
    have hOwn := (Below.cell b2 (p := ⟨(w.heap.size + 1), 1, none⟩) (by first | exact Nat.le_refl _ | assumption | (simp; done) | (simp; omega) | omega)).trans (by go_simp; rfl)
    have hOwn := (Below.cell b2 (p := ⟨(w.heap.size + 1), 2, none⟩) (by first | exact Nat.le_refl _ | assumption | (simp; done) | (simp; omega) | omega)).trans (by go_simp; rfl)
    have hOwn := (Below.frozen b2 (p := ⟨(w.heap.size + 1), 0, none⟩) (by first | exact Nat.le_refl _ | assumption | (simp; done) | (simp; omega) | omega)).trans (by go_simp; rfl)
    have hOwn := (Below.frozen b2 (p := ⟨(w.heap.size + 1), 1, none⟩) (by first | exact Nat.le_refl _ | assumption | (simp; done) | (simp; omega) | omega)).trans (by go_simp; rfl)
    have hOwn := (Below.frozen b2 (p := ⟨(w.heap.size + 1), 2, none⟩) (by first | exact Nat.le_refl _ | assumption | (simp; done) | (simp; omega) | omega)).trans (by go_simp; rfl)
    go_wp2_with fail
    go_region
    all_goals
      go_wp2_with fail
      try simp only [Exit.inBlock, Exit.then]
      refine post_x_rd (x0 := .slice A (List.length l) c) (x1 := .int .i64 m) (x2 := .int .i64 (r : Int)) rfl rfl rfl (by go_simp) (by go_simp) (by go_simp) ?_
      exact ⟨rfl, by (repeat' (first | with_reducible assumption | with_reducible exact Below.refl _ _ | (with_reducible refine Below.alloc ?_ ?_ _; rotate_left; focus ((first | exact Nat.le_refl _ | (simp; done) | (simp; omega) | omega | fail))) | (with_reducible refine Below.setCell ?_ ?_ _; rotate_left; focus ((first | exact Nat.le_refl _ | (simp; done) | (simp; omega) | omega | fail))) | with_reducible refine Mem.bel_drewN ?_ _ | with_reducible refine Below.drew ?_ | (with_reducible refine Mem.bel_call (by with_reducible assumption) ?_ ?_; focus ((first | exact Nat.le_refl _ | (simp; done) | (simp; omega) | omega | fail))) | fail))⟩
  · rw [if_pos h]
    have q : (Wr.rdy l a e == 0) = false := by simpa using h
    generalize Wr.rdy l a e = r at *
    go_enter Tryd.func41, Tryd.ntmps41
    go_wp2_with fail
    refine (P.out _).mono ?_
    rintro e w1 ⟨rfl, b1⟩
    have hSz := Below.size b1; try simp at hSz
    have hOwn := Nat.lt_of_lt_of_le (n := w.heap.size) (by first | exact Nat.le_refl _ | assumption | (simp; done) | (simp; omega) | omega) (Below.size b1)
    have hOwn1 := Nat.ne_of_gt hOwn
    have hOwn2 := Nat.ne_of_lt hOwn
    have hOwn := (Below.cell b1 (p := ⟨w.heap.size, 0, none⟩) (by first | exact Nat.le_refl _ | assumption | (simp; done) | (simp; omega) | omega)).trans (by go_simp; rfl)
    have hOwn := (Below.cell b1 (p := ⟨w.heap.size, 1, none⟩) (by first | exact Nat.le_refl _ | assumption | (simp; done) | (simp; omega) | omega)).trans (by go_simp; rfl)
    have hOwn := (Below.cell b1 (p := ⟨w.heap.size, 2, none⟩) (by first | exact Nat.le_refl _ | assumption | (simp; done) | (simp; omega) | omega)).trans (by go_simp; rfl)
    have hOwn := (Below.frozen b1 (p := ⟨w.heap.size, 0, none⟩) (by first | exact Nat.le_refl _ | assumption | (simp; done) | (simp; omega) | omega)).trans (by go_simp; rfl)
    have hOwn := (Below.frozen b1 (p := ⟨w.heap.size, 1, none⟩) (by first | exact Nat.le_refl _ | assumption | (simp; done) | (simp; omega) | omega)).trans (by go_simp; rfl)
    have hOwn := (Below.frozen b1 (p := ⟨w.heap.size, 2, none⟩) (by first | exact Nat.le_refl _ | assumption | (simp; done) | (simp; omega) | omega)).trans (by go_simp; rfl)
    have hOwn := Nat.lt_of_lt_of_le (n := (w.heap.size + 1)) (by first | exact Nat.le_refl _ | assumption | (simp; done) | (simp; omega) | omega) (Below.size b1)
    have hOwn1 := Nat.ne_of_gt hOwn
    have hOwn2 := Nat.ne_of_lt hOwn
    have hOwn := (Below.cell b1 (p := ⟨(w.heap.size + 1), 0, none⟩) (by first | exact Nat.le_refl _ | assumption | (simp; done) | (simp; omega) | omega)).trans (by go_simp; rfl)
    have hOwn := (Below.cell b1 (p := ⟨(w.heap.size + 1), 1, none⟩) (by first | exact Nat.le_refl _ | assumption | (simp; done) | (simp; omega) | omega)).trans (by go_simp; rfl)
    have hOwn := (Below.cell b1 (p := ⟨(w.heap.size + 1), 2, none⟩) (by first | exact Nat.le_refl _ | assumption | (simp; done) | (simp; omega) | omega)).trans (by go_simp; rfl)
    have hOwn := (Below.frozen b1 (p := ⟨(w.heap.size + 1), 0, none⟩) (by first | exact Nat.le_refl _ | assumption | (simp; done) | (simp; omega) | omega)).trans (by go_simp; rfl)
    have hOwn := (Below.frozen b1 (p := ⟨(w.heap.size + 1), 1, none⟩) (by first | exact Nat.le_refl _ | assumption | (simp; done) | (simp; omega) | omega)).trans (by go_simp; rfl)
    have hOwn := (Below.frozen b1 (p := ⟨(w.heap.size + 1), 2, none⟩) (by first | exact Nat.le_refl _ | assumption | (simp; done) | (simp; omega) | omega)).trans (by go_simp; rfl)
    go_wp2_with fail
    go_region
    all_goals
      go_wp2_with fail
      try simp only [Exit.inBlock, Exit.then]
      refine post_x_rd (x0 := .slice A (List.length l) c) (x1 := .int .i64 a) (x2 := .int .i64 r) rfl rfl rfl (by go_simp) (by go_simp) (by go_simp) ?_
      exact ⟨rfl, by (repeat' (first | with_reducible assumption | with_reducible exact Below.refl _ _ | (with_reducible refine Below.alloc ?_ ?_ _; rotate_left; focus ((first | exact Nat.le_refl _ | (simp; done) | (simp; omega) | omega | fail))) | (with_reducible refine Below.setCell ?_ ?_ _; rotate_left; focus ((first | exact Nat.le_refl _ | (simp; done) | (simp; omega) | omega | fail))) | with_reducible refine Mem.bel_drewN ?_ _ | with_reducible refine Below.drew ?_ | (with_reducible refine Mem.bel_call (by with_reducible assumption) ?_ ?_; focus ((first | exact Nat.le_refl _ | (simp; done) | (simp; omega) | omega | fail))) | fail))⟩
theorem Long_rd (A : Option Addr) (c : Nat) (l : List UInt8) (a e : Int) (w : World) (hb : Bys w w.heap.size A l) (hl : l.length ≤ 140000000000) :
    Calls Tryd.prog 20 #[(.agg #[.slice A (List.length l) c, .int .i64 a, .int .i64 e])] w (SaysN (Wr.lnum 10 1 l a e) A l c w) := by
  have P := Lib.hid (fun W hb => numLong_any A c l a e W hb hl)
  obtain ⟨⟨n, m, r⟩, hr⟩ : ∃ r, r = Wr.lnum 10 1 l a e := ⟨_, rfl⟩
  rw [← hr] at P ⊢
  clear hr
  go_enter Tryd.func20, Tryd.ntmps20
  go_wp2_with fail
  refine (P.out _ (hb.now (by (repeat' (first | with_reducible assumption | with_reducible exact Below.refl _ _ | (with_reducible refine Below.alloc ?_ ?_ _; rotate_left; focus ((first | exact Nat.le_refl _ | (simp; done) | (simp; omega) | omega | fail))) | (with_reducible refine Below.setCell ?_ ?_ _; rotate_left; focus ((first | exact Nat.le_refl _ | (simp; done) | (simp; omega) | omega | fail))) | with_reducible refine Mem.bel_drewN ?_ _ | with_reducible refine Below.drew ?_ | (with_reducible refine Mem.bel_call (by with_reducible assumption) ?_ ?_; focus ((first | exact Nat.le_refl _ | (simp; done) | (simp; omega) | omega | fail))) | fail))))).mono ?_
  rintro e w1 ⟨rfl, b1⟩
  have hSz := Below.size b1; try simp at hSz
  have hOwn := Nat.lt_of_lt_of_le (n := (w.heap.size + 1)) (by first | exact Nat.le_refl _ | assumption | (simp; done) | (simp; omega) | omega) (Below.size b1)
  have hOwn1 := Nat.ne_of_gt hOwn
  have hOwn2 := Nat.ne_of_lt hOwn
  have hOwn := (Below.cell b1 (p := ⟨(w.heap.size + 1), 0, none⟩) (by first | exact Nat.le_refl _ | assumption | (simp; done) | (simp; omega) | omega)).trans (by go_simp; rfl)
  have hOwn := (Below.cell b1 (p := ⟨(w.heap.size + 1), 1, none⟩) (by first | exact Nat.le_refl _ | assumption | (simp; done) | (simp; omega) | omega)).trans (by go_simp; rfl)
  have hOwn := (Below.cell b1 (p := ⟨(w.heap.size + 1), 2, none⟩) (by first | exact Nat.le_refl _ | assumption | (simp; done) | (simp; omega) | omega)).trans (by go_simp; rfl)
  have hOwn := (Below.frozen b1 (p := ⟨(w.heap.size + 1), 0, none⟩) (by first | exact Nat.le_refl _ | assumption | (simp; done) | (simp; omega) | omega)).trans (by go_simp; rfl)
  have hOwn := (Below.frozen b1 (p := ⟨(w.heap.size + 1), 1, none⟩) (by first | exact Nat.le_refl _ | assumption | (simp; done) | (simp; omega) | omega)).trans (by go_simp; rfl)
  have hOwn := (Below.frozen b1 (p := ⟨(w.heap.size + 1), 2, none⟩) (by first | exact Nat.le_refl _ | assumption | (simp; done) | (simp; omega) | omega)).trans (by go_simp; rfl)
  go_wp2_with fail
  try simp only [Exit.inBlock, Exit.then]
  refine post_x_rd (x0 := .slice A (List.length l) c) (x1 := .int .i64 m) (x2 := .int .i64 r) rfl rfl rfl (by go_simp) (by go_simp) (by go_simp) ?_
  exact ⟨rfl, by (repeat' (first | with_reducible assumption | with_reducible exact Below.refl _ _ | (with_reducible refine Below.alloc ?_ ?_ _; rotate_left; focus ((first | exact Nat.le_refl _ | (simp; done) | (simp; omega) | omega | fail))) | (with_reducible refine Below.setCell ?_ ?_ _; rotate_left; focus ((first | exact Nat.le_refl _ | (simp; done) | (simp; omega) | omega | fail))) | with_reducible refine Mem.bel_drewN ?_ _ | with_reducible refine Below.drew ?_ | (with_reducible refine Mem.bel_call (by with_reducible assumption) ?_ ?_; focus ((first | exact Nat.le_refl _ | (simp; done) | (simp; omega) | omega | fail))) | fail))⟩
theorem Int_rd (A : Option Addr) (c : Nat) (l : List UInt8) (a e : Int) (w : World) (hb : Bys w w.heap.size A l) (hl : l.length ≤ 140000000000) :
    Calls Tryd.prog 19 #[(.agg #[.slice A (List.length l) c, .int .i64 a, .int .i64 e])] w (SaysN (Wr.lnum 5 15 l a e) A l c w) := by
  have P := Lib.hid (fun W hb => numInt_any A c l a e W hb hl)
  obtain ⟨⟨n, m, r⟩, hr⟩ : ∃ r, r = Wr.lnum 5 15 l a e := ⟨_, rfl⟩
  rw [← hr] at P ⊢
  clear hr
  go_enter Tryd.func19, Tryd.ntmps19
  go_wp2_with fail
  refine (P.out _ (hb.now (by (repeat' (first | with_reducible assumption | with_reducible exact Below.refl _ _ | (with_reducible refine Below.alloc ?_ ?_ _; rotate_left; focus ((first | exact Nat.le_refl _ | (simp; done) | (simp; omega) | omega | fail))) | (with_reducible refine Below.setCell ?_ ?_ _; rotate_left; focus ((first | exact Nat.le_refl _ | (simp; done) | (simp; omega) | omega | fail))) | with_reducible refine Mem.bel_drewN ?_ _ | with_reducible refine Below.drew ?_ | (with_reducible refine Mem.bel_call (by with_reducible assumption) ?_ ?_; focus ((first | exact Nat.le_refl _ | (simp; done) | (simp; omega) | omega | fail))) | fail))))).mono ?_
  rintro e w1 ⟨rfl, b1⟩
  have hSz := Below.size b1; try simp at hSz
  have hOwn := Nat.lt_of_lt_of_le (n := (w.heap.size + 1)) (by first | exact Nat.le_refl _ | assumption | (simp; done) | (simp; omega) | omega) (Below.size b1)
  have hOwn1 := Nat.ne_of_gt hOwn
  have hOwn2 := Nat.ne_of_lt hOwn
  have hOwn := (Below.cell b1 (p := ⟨(w.heap.size + 1), 0, none⟩) (by first | exact Nat.le_refl _ | assumption | (simp; done) | (simp; omega) | omega)).trans (by go_simp; rfl)
  have hOwn := (Below.cell b1 (p := ⟨(w.heap.size + 1), 1, none⟩) (by first | exact Nat.le_refl _ | assumption | (simp; done) | (simp; omega) | omega)).trans (by go_simp; rfl)
  have hOwn := (Below.cell b1 (p := ⟨(w.heap.size + 1), 2, none⟩) (by first | exact Nat.le_refl _ | assumption | (simp; done) | (simp; omega) | omega)).trans (by go_simp; rfl)
  have hOwn := (Below.frozen b1 (p := ⟨(w.heap.size + 1), 0, none⟩) (by first | exact Nat.le_refl _ | assumption | (simp; done) | (simp; omega) | omega)).trans (by go_simp; rfl)
  have hOwn := (Below.frozen b1 (p := ⟨(w.heap.size + 1), 1, none⟩) (by first | exact Nat.le_refl _ | assumption | (simp; done) | (simp; omega) | omega)).trans (by go_simp; rfl)
  have hOwn := (Below.frozen b1 (p := ⟨(w.heap.size + 1), 2, none⟩) (by first | exact Nat.le_refl _ | assumption | (simp; done) | (simp; omega) | omega)).trans (by go_simp; rfl)
  go_wp2_with fail
  try simp only [Exit.inBlock, Exit.then]
  refine post_x_rd (x0 := .slice A (List.length l) c) (x1 := .int .i64 m) (x2 := .int .i64 r) rfl rfl rfl (by go_simp) (by go_simp) (by go_simp) ?_
  exact ⟨rfl, by (repeat' (first | with_reducible assumption | with_reducible exact Below.refl _ _ | (with_reducible refine Below.alloc ?_ ?_ _; rotate_left; focus ((first | exact Nat.le_refl _ | (simp; done) | (simp; omega) | omega | fail))) | (with_reducible refine Below.setCell ?_ ?_ _; rotate_left; focus ((first | exact Nat.le_refl _ | (simp; done) | (simp; omega) | omega | fail))) | with_reducible refine Mem.bel_drewN ?_ _ | with_reducible refine Below.drew ?_ | (with_reducible refine Mem.bel_call (by with_reducible assumption) ?_ ?_; focus ((first | exact Nat.le_refl _ | (simp; done) | (simp; omega) | omega | fail))) | fail))⟩
end Go.Proofs.YtjebhbjffofjnaaDoor
