/- Layer 4: bits; what is put. -/
import Derived.Test.YtjebhbjffofjnaaDoorWireB
namespace Go.Proofs.YtjebhbjffofjnaaDoor
open Go.ChangeShapes Go.WideShapes Go.ChangeAt Go.RowKit Mem

set_option maxRecDepth 100000 in
theorem PutBits_any (z n : Int) (N : Nat) (h0 : 0 ≤ z) (h1 : z ≤ 18446744073709551615) (hN : Wr.most8 n = (N : Int)) (base : Nat) (v : Value) (l : List UInt8) (w : World) (hb : base ≤ w.heap.size) (hown : Own w base 5 v l) (hl : l.length ≤ 100000000) :
    Calls Tryd.prog 13 #[v, .int .u64 z, .int .i64 n] w (Made base (l ++ Wr.lowb z.toNat N) w) := by
  have BS := Lib.hid (fun W => bitsSize_any n W)
  rw [hN] at BS
  have n8 : N ≤ 8 := by unfold Wr.most8 at hN; omega
  clear hN
  go_enter Tryd.func13, Tryd.ntmps13
  go_wp2_with fail
  refine (BS.out _).mono ?_
  rintro e w' ⟨rfl, rfl⟩
  go_wp2_with fail
  go_loopw [0, 1, 9] (fun sv u p wr => ∃ (y : Int) (d : List UInt8) (k j : Nat), 0 ≤ y ∧ y ≤ 18446744073709551615 ∧ u = .int .u64 y ∧ k + j = N ∧ p = .int .i64 (j : Int) ∧ Own wr base 5 sv d ∧ d.length ≤ 100000000 + j ∧ Hid (d ++ Wr.lowb y.toNat k = l ++ Wr.lowb z.toNat N) ∧ Below base w wr) (fun _ _ p _ => N - (intOf p).toNat)
  case atStart => exact ⟨z, l, N, 0, h0, h1, rfl, by omega, rfl, hown, by omega, rfl, Below.refl _ _⟩
  case round =>
    obtain ⟨y, d, k, j, g0, g1, rfl, hk, rfl, go, gl, ge, gb⟩ := hrel
    have gsz : base ≤ wr.heap.size := by have := gb.size; omega
    by_cases hj : j < N
    · have q : (j : Int) < (N : Int) := by omega
      obtain ⟨k', rfl⟩ : ∃ k', k = k' + 1 := ⟨k - 1, by omega⟩
      have st := Lib.hid (Wr.lowb_step ge.out g0)
      go_wp2_with (at_builtin; refine wpList_app1 _ byteT rfl (.tmp 11) (.tmp 14) rfl base _ d rfl go 1 (y % 256) (by omega) (by omega) rfl (by omega) gsz ?_; intro v' w1 hown1 hb1)
      go_roundw
      case rel => exact ⟨y / 256, _, k', j + 1, by omega, by omega, rfl, by omega, by go_num, hown1, by simp; omega, st, gb.trans hb1⟩
      case measure => simp [intOf]; omega
    · have q : ¬ (j : Int) < (N : Int) := by omega
      obtain rfl : k = 0 := by omega
      go_wp2_with fail
      go_ret
      have ge' := ge.out
      rw [Wr.lowb, List.append_nil] at ge'
      exact ⟨_, rfl, ge' ▸ go, gb⟩

def tr (n : Int) : UInt8 := if n = 0 then 0 else 1
theorem PutBoolean_any (n : Int) (base : Nat) (v : Value) (l : List UInt8) (w : World) (hb : base ≤ w.heap.size) (hown : Own w base 5 v l) (hl : l.length ≤ 100000000) :
    Calls Tryd.prog 11 #[v, .int .i64 n] w (Made base (l ++ [tr n]) w) := by
  by_cases h : n = 0
  · have e : tr n = 0 := by unfold tr; rw [if_pos h]
    rw [e]
    subst h
    go_enter Tryd.func11, Tryd.ntmps11
    go_wp2_with (at_builtin; refine wpList_app1 _ byteT rfl (.tmp 10) (.tmp 11) rfl base _ l rfl hown 1 0 (by omega) (by omega) rfl (by omega) hb ?_; intro v' w1 hown1 hb1)
    go_ret
    exact ⟨_, rfl, hown1, hb1⟩
  · have e : tr n = 1 := by unfold tr; rw [if_neg h]
    rw [e]
    have q : (n == 0) = false := by simpa using h
    go_enter Tryd.func11, Tryd.ntmps11
    go_wp2_with (at_builtin; refine wpList_app1 _ byteT rfl (.tmp 7) (.tmp 8) rfl base _ l rfl hown 1 1 (by omega) (by omega) rfl (by omega) hb ?_; intro v' w1 hown1 hb1)
    go_ret
    exact ⟨_, rfl, hown1, hb1⟩

/-- The bytes of a size and of what it is the size of. -/
def sized (x : List UInt8) : List UInt8 := Num.enc (Num.zig (x.length : Int)).toNat ++ x
theorem sized_len {x : List UInt8} (h : x.length ≤ 1000000) : (sized x).length ≤ x.length + 10 := by
  have := Num.enc_length_le (u := (Num.zig (x.length : Int)).toNat) (by have := Num.zig_hi (n := (x.length : Int)) (by omega) (by omega); have := Num.zig_lo (x.length : Int); omega)
  unfold sized; rw [List.length_append]; omega
set_option maxRecDepth 100000 in
theorem PutBytes_any (base : Nat) (v : Value) (l x : List UInt8) (A : Option Addr) (c : Nat) (w : World) (hb : base ≤ w.heap.size) (hown : Own w base 5 v l) (hl : l.length ≤ 100000000) (hx : Bys w w.heap.size A x) (hxl : x.length ≤ 1000000) :
    Calls Tryd.prog 15 #[v, .slice A x.length c] w (Made base (l ++ sized x) w) := by
  have sl := sized_len hxl
  have p := put_any (x.length : Int) (by omega) (by omega) w.heap.size _ [] w (Nat.le_refl _) (Own.none_ _ _ _) (by simp)
  rw [List.nil_append] at p
  unfold sized at sl ⊢
  generalize Num.enc (Num.zig (x.length : Int)).toNat = E at *
  have P := Lib.hid p
  clear p
  go_enter Tryd.func15, Tryd.ntmps15
  go_wp2_with fail
  refine P.out.mono ?_
  rintro e w1 ⟨v1, rfl, o1, b1⟩
  have oo := hown.below b1
  have y1 := hx.below b1
  have sz1 := b1.size
  have el : E.length ≤ 10 := by rw [List.length_append] at sl; omega
  go_wp2_with (first
    | (at_builtin; refine wpList_app _ byteT rfl (.tmp 9) (.tmp 12) rfl base _ l rfl oo2 _ A2 c2 (E ++ x) rfl y2 (by rw [List.length_append]; omega) (by omega) ?_; intro v' w3 hown3 hb3)
    | (at_builtin; refine wpList_app _ byteT rfl (.tmp 10) (.tmp 11) rfl w.heap.size _ E rfl o1 _ A c x rfl y1 (by omega) (by omega) ?_; intro v' w2 o2 b2; obtain ⟨A2, c2, rfl, y2⟩ := o2.bys; have oo2 := hown.below (b1.trans b2); have sz2 := b2.size))
  go_ret
  exact ⟨_, rfl, hown3, (b1.mono hb).trans ((b2.mono hb).trans hb3)⟩

set_option maxRecDepth 100000 in
set_option maxHeartbeats 2000000 in
theorem Bits_any (A : Option Addr) (c : Nat) (l : List UInt8) (a e n : Int) (w : World) (hb : Bys w w.heap.size A l) (hl : l.length ≤ 140000000000) (hc : l.length ≤ c) :
    Calls Tryd.prog 21 #[(.agg #[.slice A (List.length l) c, .int .i64 a, .int .i64 e]), .int .i64 n] w (SaysU (Wr.bts l a e n) A l c w) := by
  have CS := cell_set
  obtain ⟨N, hN, n8⟩ := Wr.most8_nat n
  have BS := Lib.hid (fun W => bitsSize_any n W)
  have P := Lib.hid (fun W hb hB => cut_any w.heap.size A c l a e N W hb hB hl hc)
  have K : ∃ X m r, Wr.cut l a e (N : Int) = (X, m, r) ∧ X.length ≤ 8 ∧ Wr.bts l a e n = ((Wr.low X : Int), m, r) := by
    have T := Wr.cut_tells l a e N
    unfold Wr.bts
    rw [hN]
    obtain ⟨⟨X, m, r⟩, hr⟩ : ∃ R, R = Wr.cut l a e (N : Int) := ⟨_, rfl⟩
    rw [← hr] at T ⊢
    refine ⟨X, m, r, rfl, ?_, rfl⟩
    rcases T with ⟨_, h, _⟩ | ⟨_, h, _⟩
    · have : X = [] := h
      rw [this]; simp
    · have : X.length = N := h
      omega
  obtain ⟨X, m, r, hk, h8, hy⟩ := K
  rw [hN] at BS
  rw [hk] at P
  rw [hy]
  clear hN hk hy
  go_enter Tryd.func21, Tryd.ntmps21
  go_wp2_with fail
  go_region_held_law (fun w' => w'.cell? ⟨w.heap.size, 0, none⟩ = some (.slice A l.length c) ∧ w'.cell? ⟨w.heap.size, 1, none⟩ = some (.int .i64 a) ∧ w'.cell? ⟨w.heap.size, 2, none⟩ = some (.int .i64 e)) (exact ⟨by first | assumption | (go_simp; done) | (go_simp; intro h; omega), by first | assumption | (go_simp; done) | (go_simp; intro h; omega), by first | assumption | (go_simp; done) | (go_simp; intro h; omega)⟩) (first
    | (go_at_call 36; refine (BS.out _).mono ?_; rintro e w' ⟨rfl, rfl⟩)
    | (go_at_call 39; refine (P.out _ (hb.below (B := w.heap.size) (by (repeat' (first | with_reducible assumption | with_reducible exact Below.refl _ _ | (with_reducible refine Below.alloc ?_ ?_ _; rotate_left; focus ((first | exact Nat.le_refl _ | (simp; done) | (simp; omega) | omega | fail))) | (with_reducible refine Below.setCell ?_ ?_ _; rotate_left; focus ((first | exact Nat.le_refl _ | (simp; done) | (simp; omega) | omega | fail))) | with_reducible refine Mem.bel_drewN ?_ _ | with_reducible refine Below.drew ?_ | (with_reducible refine Mem.bel_call (by with_reducible assumption) ?_ ?_; focus ((first | exact Nat.le_refl _ | (simp; done) | (simp; omega) | omega | fail))) | fail)))) (by first | exact Nat.le_refl _ | assumption | (simp; done) | (simp; omega) | omega)).mono ?_; rintro e w1 h1; obtain ⟨A1, c1, rfl, hc1, y1, b1⟩ := saysB_out (rfl : X.length = X.length) h1; have hSz := Below.size b1; try simp at hSz; have hOwn := Nat.lt_of_lt_of_le (n := w.heap.size) (by first | exact Nat.le_refl _ | assumption | (simp; done) | (simp; omega) | omega) (Below.size b1); have hOwn1 := Nat.ne_of_gt hOwn; have hOwn2 := Nat.ne_of_lt hOwn; have hOwn := (Below.cell b1 (p := ⟨w.heap.size, 0, none⟩) (by first | exact Nat.le_refl _ | assumption | (simp; done) | (simp; omega) | omega)).trans (by go_simp; rfl); have hOwn := (Below.cell b1 (p := ⟨w.heap.size, 1, none⟩) (by first | exact Nat.le_refl _ | assumption | (simp; done) | (simp; omega) | omega)).trans (by go_simp; rfl); have hOwn := (Below.cell b1 (p := ⟨w.heap.size, 2, none⟩) (by first | exact Nat.le_refl _ | assumption | (simp; done) | (simp; omega) | omega)).trans (by go_simp; rfl); have hOwn := (Below.frozen b1 (p := ⟨w.heap.size, 0, none⟩) (by first | exact Nat.le_refl _ | assumption | (simp; done) | (simp; omega) | omega)).trans (by go_simp; rfl); have hOwn := (Below.frozen b1 (p := ⟨w.heap.size, 1, none⟩) (by first | exact Nat.le_refl _ | assumption | (simp; done) | (simp; omega) | omega)).trans (by go_simp; rfl); have hOwn := (Below.frozen b1 (p := ⟨w.heap.size, 2, none⟩) (by first | exact Nat.le_refl _ | assumption | (simp; done) | (simp; omega) | omega)).trans (by go_simp; rfl); have hOwn := Nat.lt_of_lt_of_le (n := (w.heap.size + 1)) (by first | exact Nat.le_refl _ | assumption | (simp; done) | (simp; omega) | omega) (Below.size b1); have hOwn1 := Nat.ne_of_gt hOwn; have hOwn2 := Nat.ne_of_lt hOwn; have hOwn := (Below.cell b1 (p := ⟨(w.heap.size + 1), 0, none⟩) (by first | exact Nat.le_refl _ | assumption | (simp; done) | (simp; omega) | omega)).trans (by go_simp; rfl); have hOwn := (Below.cell b1 (p := ⟨(w.heap.size + 1), 1, none⟩) (by first | exact Nat.le_refl _ | assumption | (simp; done) | (simp; omega) | omega)).trans (by go_simp; rfl); have hOwn := (Below.cell b1 (p := ⟨(w.heap.size + 1), 2, none⟩) (by first | exact Nat.le_refl _ | assumption | (simp; done) | (simp; omega) | omega)).trans (by go_simp; rfl); have hOwn := (Below.frozen b1 (p := ⟨(w.heap.size + 1), 0, none⟩) (by first | exact Nat.le_refl _ | assumption | (simp; done) | (simp; omega) | omega)).trans (by go_simp; rfl); have hOwn := (Below.frozen b1 (p := ⟨(w.heap.size + 1), 1, none⟩) (by first | exact Nat.le_refl _ | assumption | (simp; done) | (simp; omega) | omega)).trans (by go_simp; rfl); have hOwn := (Below.frozen b1 (p := ⟨(w.heap.size + 1), 2, none⟩) (by first | exact Nat.le_refl _ | assumption | (simp; done) | (simp; omega) | omega)).trans (by go_simp; rfl); try (have hOwn := Nat.lt_of_lt_of_le (n := (w.heap.size + 1 + 1)) (by first | exact Nat.le_refl _ | assumption | (simp; done) | (simp; omega) | omega) (Below.size b1); have hOwn1 := Nat.ne_of_gt hOwn; have hOwn2 := Nat.ne_of_lt hOwn; have hOwn := (Below.cell b1 (p := ⟨(w.heap.size + 1 + 1), 0, none⟩) (by first | exact Nat.le_refl _ | assumption | (simp; done) | (simp; omega) | omega)).trans (by go_simp; rfl); have hOwn := (Below.cell b1 (p := ⟨(w.heap.size + 1 + 1), 1, none⟩) (by first | exact Nat.le_refl _ | assumption | (simp; done) | (simp; omega) | omega)).trans (by go_simp; rfl); have hOwn := (Below.cell b1 (p := ⟨(w.heap.size + 1 + 1), 2, none⟩) (by first | exact Nat.le_refl _ | assumption | (simp; done) | (simp; omega) | omega)).trans (by go_simp; rfl); have hOwn := (Below.frozen b1 (p := ⟨(w.heap.size + 1 + 1), 0, none⟩) (by first | exact Nat.le_refl _ | assumption | (simp; done) | (simp; omega) | omega)).trans (by go_simp; rfl); have hOwn := (Below.frozen b1 (p := ⟨(w.heap.size + 1 + 1), 1, none⟩) (by first | exact Nat.le_refl _ | assumption | (simp; done) | (simp; omega) | omega)).trans (by go_simp; rfl); have hOwn := (Below.frozen b1 (p := ⟨(w.heap.size + 1 + 1), 2, none⟩) (by first | exact Nat.le_refl _ | assumption | (simp; done) | (simp; omega) | omega)).trans (by go_simp; rfl))))
  all_goals
    go_wp2_with fail
    go_loop [8, 20] (fun u p => ∃ j : Nat, j ≤ X.length ∧ u = .int .u64 ((Wr.low (X.take j) : Nat) : Int) ∧ p = .int .i64 (j : Int)) (fun _ p => X.length - (intOf p).toNat)
    case atStart => exact ⟨0, by omega, rfl, rfl⟩
    case round =>
      obtain ⟨j, hj, rfl, rfl⟩ := hrel
      by_cases hjl : j < X.length
      · have q : (j : Int) < (X.length : Int) := by omega
        have st := Lib.hid (Wr.bits_step (X := (X.getD j 0).toNat) rfl hjl h8)
        rcases y1 with h | ⟨b, off, rfl, hb1, hc2⟩
        · rw [h] at hjl; simp at hjl
        · have k1 := hc2 j hjl
          unfold cel at k1
          have hb2 : b < w1.heap.size := by omega
          have hb3 : b ≠ w.heap.size + 1 + 1 := by omega
          have hb4 : b ≠ w.heap.size + 1 := by omega
          obtain ⟨Y, hY⟩ : ∃ Y, Y = (X.getD j 0).toNat := ⟨_, rfl⟩
          rw [← hY] at st k1
          have hY1 : Y < 256 := by rw [hY]; exact (X.getD j 0).toNat_lt
          have j8 : j ≤ 7 := by omega
          clear hY hc2 h8
          generalize Wr.low (X.take j) = u0 at *
          go_wp2_with fail
          go_round
          case rel => exact ⟨j + 1, by omega, by rw [← st.out], by go_num⟩
          case measure => simp [intOf]; omega
      · obtain rfl : j = X.length := by omega
        have q : ¬ (X.length : Int) < (X.length : Int) := by omega
        rw [List.take_length]
        generalize Wr.low X = u0 at *
        go_wp2_with fail
        go_region
        all_goals
          go_wp2_with fail
          try simp only [Exit.inBlock, Exit.then]
          refine post_x_rd (x0 := .slice A (List.length l) c) (x1 := .int .i64 m) (x2 := .int .i64 r) rfl rfl rfl (by go_simp) (by go_simp) (by go_simp) ?_
          exact ⟨rfl, by (repeat' (first | with_reducible assumption | with_reducible exact Below.refl _ _ | (with_reducible refine Below.alloc ?_ ?_ _; rotate_left; focus ((first | exact Nat.le_refl _ | (simp; done) | (simp; omega) | omega | fail))) | (with_reducible refine Below.setCell ?_ ?_ _; rotate_left; focus ((first | exact Nat.le_refl _ | (simp; done) | (simp; omega) | omega | fail))) | with_reducible refine Mem.bel_drewN ?_ _ | with_reducible refine Below.drew ?_ | (with_reducible refine Mem.bel_call (by with_reducible assumption) ?_ ?_; focus ((first | exact Nat.le_refl _ | (simp; done) | (simp; omega) | omega | fail))) | fail))⟩
end Go.Proofs.YtjebhbjffofjnaaDoor
