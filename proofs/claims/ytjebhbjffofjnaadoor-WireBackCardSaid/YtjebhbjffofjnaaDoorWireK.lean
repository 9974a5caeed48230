/- Layer 4: the walk of the law of what is put and read again. -/
import Derived.Test.YtjebhbjffofjnaaDoorWireF
import Derived.Test.YtjebhbjffofjnaaDoorWNum2
namespace Go.Proofs.YtjebhbjffofjnaaDoor
open Go.ChangeShapes Go.WideShapes Go.ChangeAt Go.RowKit Mem

theorem tr_le (n : Int) : (tr n).toNat ≤ 1 := by unfold tr; split <;> decide

set_option maxRecDepth 100000 in
set_option maxHeartbeats 4000000 in
theorem wireBack_walk (n m z : Int) (A3 : Option Addr) (x : List UInt8) (cap3 : Nat) (A4 : Option Addr) (s : List UInt8) (cap4 : Nat) (A5 : Option Addr) (tl : List UInt8) (cap5 : Nat) (w : World)
    (hn : (Lit.int .i64 n).wf = true) (hm : (Lit.int .i32 m).wf = true) (hz : (Lit.int .u64 z).wf = true) (_k3 : x.length ≤ cap3) (b3 : Bys w w.heap.size A3 x) (k4 : s.length ≤ cap4) (b4 : Bys w w.heap.size A4 s) (_k5 : tl.length ≤ cap5) (b5 : Bys w w.heap.size A5 tl) (hL : Laid w) :
    Calls Tryd.prog 5 #[.int .i64 n, .int .i32 m, .int .u64 z, .slice A3 x.length cap3, .slice A4 s.length cap4, .slice A5 tl.length cap5] w (Yes w.heap.size w) := by
  obtain ⟨n0, n1⟩ := fit_i64 hn
  obtain ⟨m0, m1⟩ := fit_i32 hm
  obtain ⟨z0, z1⟩ : 0 ≤ z ∧ z ≤ 18446744073709551615 := by simpa [Lit.wf, IntKind.min, IntKind.max, IntKind.signed, IntKind.bits] using hz
  clear hn hm hz
  have CS := cell_set
  have WK := Lib.hid (works4_any w hL)
  by_cases hbig : x.length ≤ 2000 ∧ s.length ≤ 2000 ∧ tl.length ≤ 2000
  · obtain ⟨hx, hs, ht⟩ := hbig
    have q1 : ¬ (2000 : Int) < (x.length : Int) := by omega
    have q2 : ¬ (2000 : Int) < (s.length : Int) := by omega
    have q3 : ¬ (2000 : Int) < (tl.length : Int) := by omega
    -- what is put
    have p1 := fun W hW => PutBoolean_any n w.heap.size (.slice none 0 0) [] W hW (Own.none_ _ _ _) (by simp)
    have p2 := fun v l W hW ho hl => put_any m (by omega) (by omega) w.heap.size v l W hW ho hl
    have p3 := fun v l W hW ho hl => put_any n n0 n1 w.heap.size v l W hW ho hl
    have p4 := fun v l W hW ho hl => PutBits_any z 8 8 z0 z1 (by decide) w.heap.size v l W hW ho hl
    have p5 := fun v l W hW ho hl => PutBits_any z 4 4 z0 z1 (by decide) w.heap.size v l W hW ho hl
    have p6 := fun v l W hW ho hl hb => PutBytes_any w.heap.size v l x A3 cap3 W hW ho hl hb (by omega)
    have p7 := fun v l W hW ho hl hb => PutBytes_any w.heap.size v l s A4 cap4 W hW ho hl hb (by omega)
    rw [List.nil_append] at p1
    obtain ⟨T, hT⟩ : ∃ T, T = tr n := ⟨_, rfl⟩
    have tle := tr_le n
    rw [← hT] at p1 tle
    have l1 : (Num.enc (Num.zig m).toNat).length ≤ 10 := Num.enc_length_le (by have := Num.zig_lo m; have := Num.zig_hi (n := m) (by omega) (by omega); omega)
    have l2 : (Num.enc (Num.zig n).toNat).length ≤ 10 := Num.enc_length_le (by have := Num.zig_lo n; have := Num.zig_hi n0 n1; omega)
    have l3 := Wr.lowb_len 8 z.toNat
    have l4 := Wr.lowb_len 4 z.toNat
    have l5 := sized_len (x := x) (by omega)
    have l6 := sized_len (x := s) (by omega)
    obtain ⟨L, hLL⟩ : ∃ L, L = (((((([T] ++ Num.enc (Num.zig m).toNat) ++ Num.enc (Num.zig n).toNat) ++ Wr.lowb z.toNat 8) ++ Wr.lowb z.toNat 4) ++ sized x) ++ sized s) ++ tl := ⟨_, rfl⟩
    have back := Wr.back_plain T tle n m z x s tl n0 n1 m0 m1 z0 z1 hx hs L hLL
    have lL : L.length ≤ 7000 := by rw [hLL]; simp only [List.length_append, List.length_cons, List.length_nil]; omega
    obtain ⟨k1, k2, k3, k4', k5, k6, k7, e1, e2, e3, e4, e5, e6, e7, kk⟩ := back
    have eU : tl.length = 0 ↔ k7 = L.length := by omega
    have hTn : ((T.toNat : Int) == 1) = !(n == 0) := by
      rw [hT]; unfold tr
      by_cases h : n = 0
      · subst h; rfl
      · rw [if_neg h]; simp [h]
    generalize Num.enc (Num.zig m).toNat = E1 at *
    generalize Num.enc (Num.zig n).toNat = E2 at *
    generalize Wr.lowb z.toNat 8 = F8 at *
    generalize Wr.lowb z.toNat 4 = F4 at *
    generalize sized x = SX at *
    generalize sized s = SS at *
    -- what is read
    have hl : L.length ≤ 140000000000 := by omega
    have r1 := fun A c W hb hc => Boolean_any A c L 0 0 W hb hl hc
    have r2 := fun A c W hb => Int_rd A c L (k1 : Int) 0 W hb hl
    have r3 := fun A c W hb => Long_rd A c L (k2 : Int) 0 W hb hl
    have r4 := fun A c W hb hc => Bits_any A c L (k3 : Int) 0 8 W hb hl hc
    have r5 := fun A c W hb hc => Bits_any A c L (k4' : Int) 0 4 W hb hl hc
    have r6 := fun A c W hb hc => Bytes_any A c L (k5 : Int) 0 W hb hl hc
    have r7 := fun A c W hW hb hc => Text_any A c L (k6 : Int) 0 W hW hb hl hc
    rw [e1] at r1
    rw [e2] at r2
    rw [e3] at r3
    rw [e4] at r4
    rw [e5] at r5
    rw [e6] at r6
    have P1 := Lib.hid p1
    have P2 := Lib.hid p2
    have P3 := Lib.hid p3
    have P4 := Lib.hid p4
    have P5 := Lib.hid p5
    have P6 := Lib.hid p6
    have P7 := Lib.hid p7
    have R1 := Lib.hid r1
    have R2 := Lib.hid r2
    have R3 := Lib.hid r3
    have R4 := Lib.hid r4
    have R5 := Lib.hid r5
    have R6 := Lib.hid r6
    have HL := Lib.hid hLL
    have HT := Lib.hid hTn
    have RI := Lib.hid (fun A c W hb hc => Right_any A c s W hb hc)
    have FN := Lib.hid (fun A c W => End_any A c L (k7 : Int) 0 W)
    have LL := Lib.hid (show 1 + E1.length + E2.length + F8.length + F4.length + SX.length + SS.length ≤ 7000 by omega)
    have KK := Lib.hid kk
    have E7 := Lib.hid e7
    have R7 := Lib.hid r7
    clear p1 p2 p3 p4 p5 p6 p7 r1 r2 r3 r4 r5 r6 r7 hLL hT hTn e1 e2 e3 e4 e5 e6 e7 l1 l2 l3 l4 l5 l6 kk eU tle
    go_enter Tryd.func5, Tryd.ntmps5
    go_wp2_with fail
    refine WK.out.mono ?_
    rintro e w1 ⟨rfl, b1⟩
    have z1 := b1.size
    go_wp2_with fail
    refine (P1.out _ (by omega)).mono ?_
    rintro e w2 ⟨v2, rfl, o2, b2⟩
    have B2 : Below w.heap.size w w2 := b1.trans b2
    have z2 := B2.size
    go_wp2_with fail
    refine (P2.out _ _ _ z2 o2 (by have := LL.out; simp)).mono ?_
    rintro e w3 ⟨v3, rfl, o3, b3'⟩
    have B3 : Below w.heap.size w w3 := B2.trans b3'
    have z3 := B3.size
    go_wp2_with fail
    refine (P3.out _ _ _ z3 o3 (by have := LL.out; simp; omega)).mono ?_
    rintro e w4 ⟨v4, rfl, o4, b4'⟩
    have B4 : Below w.heap.size w w4 := B3.trans b4'
    have z4 := B4.size
    go_wp2_with fail
    refine (P4.out _ _ _ z4 o4 (by have := LL.out; simp; omega)).mono ?_
    rintro e w5 ⟨v5, rfl, o5, b5'⟩
    have B5 : Below w.heap.size w w5 := B4.trans b5'
    have z5 := B5.size
    go_wp2_with fail
    refine (P5.out _ _ _ z5 o5 (by have := LL.out; simp; omega)).mono ?_
    rintro e w6 ⟨v6, rfl, o6, b6'⟩
    have B6 : Below w.heap.size w w6 := B5.trans b6'
    have z6 := B6.size
    go_wp2_with fail
    refine (P6.out _ _ _ z6 o6 (by have := LL.out; simp; omega) (b3.now B6)).mono ?_
    rintro e w7 ⟨v7, rfl, o7, b7'⟩
    have B7 : Below w.heap.size w w7 := B6.trans b7'
    have z7 := B7.size
    go_wp2_with fail
    refine (P7.out _ _ _ z7 o7 (by have := LL.out; simp; omega) (b4.now B7)).mono ?_
    rintro e w8 ⟨v8, rfl, o8, b8'⟩
    have B8 : Below w.heap.size w w8 := B7.trans b8'
    have z8 := B8.size
    have cv3 : ∀ W, Bys W W.heap.size A3 x → (convert 22 9 (.slice A3 x.length cap3)).run Tryd.prog W = .ok (.string ⟨x.toArray⟩) W := fun W h => h.str byteT strT cap3
    have CV3 := Lib.hid cv3
    have cv4 : ∀ W, Bys W W.heap.size A4 s → (convert 22 9 (.slice A4 s.length cap4)).run Tryd.prog W = .ok (.string ⟨s.toArray⟩) W := fun W h => h.str byteT strT cap4
    have CV4 := Lib.hid cv4
    clear cv3 cv4
    go_wp2_with (at_builtin; refine wpList_app _ byteT rfl (.tmp 55) (.tmp 56) rfl w.heap.size _ _ rfl o8 _ A5 cap5 tl rfl (b5.now B8) (by have := LL.out; simp; omega) z8 ?_; intro v9 w9 o9 b9'; rw [← HL.out] at o9; obtain ⟨A, c, rfl, y9, c9⟩ := o9.room; have B9 : Below w.heap.size w w9 := B8.trans b9'; have z9 := B9.size; clear o2 o3 o4 o5 o6 o7 o8 o9 B2 B3 B4 B5 B6 B7 B8 b1 b2 b3' b4' b5' b6' b7' b8' b9' z1 z2 z3 z4 z5 z6 z7 z8 LL)
    refine (R1.out A c _ y9 c9).mono ?_
    rintro e x1 ⟨rfl, d1⟩
    obtain ⟨bt, t1, t2⟩ : ∃ bt : Bool, ((T.toNat : Int) == 1) = bt ∧ (n != 0) = bt := ⟨_, HT.out, rfl⟩
    have C1 : Below w.heap.size w x1 := by (repeat' (first | with_reducible assumption | with_reducible exact Below.refl _ _ | (with_reducible refine Below.alloc ?_ ?_ _; rotate_left; focus ((first | exact Nat.le_refl _ | (simp; done) | (simp; omega) | omega | fail))) | (with_reducible refine Below.setCell ?_ ?_ _; rotate_left; focus ((first | exact Nat.le_refl _ | (simp; done) | (simp; omega) | omega | fail))) | with_reducible refine Mem.bel_drewN ?_ _ | with_reducible refine Below.drew ?_ | (with_reducible refine Mem.bel_call (by with_reducible assumption) ?_ ?_; focus ((first | exact Nat.le_refl _ | (simp; done) | (simp; omega) | omega | fail))) | fail))
    have g1 : w.heap.size ≤ x1.heap.size := C1.size
    have C9 : Below w9.heap.size w9 x1 := by (repeat' (first | with_reducible assumption | with_reducible exact Below.refl _ _ | (with_reducible refine Below.alloc ?_ ?_ _; rotate_left; focus ((first | exact Nat.le_refl _ | (simp; done) | (simp; omega) | omega | fail))) | (with_reducible refine Below.setCell ?_ ?_ _; rotate_left; focus ((first | exact Nat.le_refl _ | (simp; done) | (simp; omega) | omega | fail))) | with_reducible refine Mem.bel_drewN ?_ _ | with_reducible refine Below.drew ?_ | (with_reducible refine Mem.bel_call (by with_reducible assumption) ?_ ?_; focus ((first | exact Nat.le_refl _ | (simp; done) | (simp; omega) | omega | fail))) | fail))
    have g9 : w9.heap.size ≤ x1.heap.size := C9.size
    go_wp2_with fail
    refine (R2.out A c _ ((y9.now (by (repeat' (first | with_reducible assumption | with_reducible exact Below.refl _ _ | (with_reducible refine Below.alloc ?_ ?_ _; rotate_left; focus ((first | exact Nat.le_refl _ | (simp; done) | (simp; omega) | omega | fail))) | (with_reducible refine Below.setCell ?_ ?_ _; rotate_left; focus ((first | exact Nat.le_refl _ | (simp; done) | (simp; omega) | omega | fail))) | with_reducible refine Mem.bel_drewN ?_ _ | with_reducible refine Below.drew ?_ | (with_reducible refine Mem.bel_call (by with_reducible assumption) ?_ ?_; focus ((first | exact Nat.le_refl _ | (simp; done) | (simp; omega) | omega | fail))) | fail)))))).mono ?_
    rintro e x2 ⟨rfl, d2⟩
    have hSz := Below.size d2; try simp at hSz
    have f2 := d2.size
    have hOwn := Nat.lt_of_lt_of_le (n := x1.heap.size) (by first | exact Nat.le_refl _ | assumption | (simp; done) | (simp; omega) | omega) (Below.size d2)
    have hOwn1 := Nat.ne_of_gt hOwn
    have hOwn2 := Nat.ne_of_lt hOwn
    have hOwn := (Below.cell d2 (p := ⟨x1.heap.size, 0, none⟩) (by first | exact Nat.le_refl _ | assumption | (simp; done) | (simp; omega) | omega)).trans (by go_simp; rfl)
    have hOwn := (Below.cell d2 (p := ⟨x1.heap.size, 1, none⟩) (by first | exact Nat.le_refl _ | assumption | (simp; done) | (simp; omega) | omega)).trans (by go_simp; rfl)
    have hOwn := (Below.cell d2 (p := ⟨x1.heap.size, 2, none⟩) (by first | exact Nat.le_refl _ | assumption | (simp; done) | (simp; omega) | omega)).trans (by go_simp; rfl)
    have hOwn := (Below.frozen d2 (p := ⟨x1.heap.size, 0, none⟩) (by first | exact Nat.le_refl _ | assumption | (simp; done) | (simp; omega) | omega)).trans (by go_simp; rfl)
    have hOwn := (Below.frozen d2 (p := ⟨x1.heap.size, 1, none⟩) (by first | exact Nat.le_refl _ | assumption | (simp; done) | (simp; omega) | omega)).trans (by go_simp; rfl)
    have hOwn := (Below.frozen d2 (p := ⟨x1.heap.size, 2, none⟩) (by first | exact Nat.le_refl _ | assumption | (simp; done) | (simp; omega) | omega)).trans (by go_simp; rfl)
    go_wp2_with fail
    refine (R3.out A c _ ((y9.now (by (repeat' (first | with_reducible assumption | with_reducible exact Below.refl _ _ | (with_reducible refine Below.alloc ?_ ?_ _; rotate_left; focus ((first | exact Nat.le_refl _ | (simp; done) | (simp; omega) | omega | fail))) | (with_reducible refine Below.setCell ?_ ?_ _; rotate_left; focus ((first | exact Nat.le_refl _ | (simp; done) | (simp; omega) | omega | fail))) | with_reducible refine Mem.bel_drewN ?_ _ | with_reducible refine Below.drew ?_ | (with_reducible refine Mem.bel_call (by with_reducible assumption) ?_ ?_; focus ((first | exact Nat.le_refl _ | (simp; done) | (simp; omega) | omega | fail))) | fail)))))).mono ?_
    rintro e x3 ⟨rfl, d3⟩
    have hSz := Below.size d3; try simp at hSz
    have f3 := d3.size
    have hOwn := Nat.lt_of_lt_of_le (n := x1.heap.size) (by first | exact Nat.le_refl _ | assumption | (simp; done) | (simp; omega) | omega) (Below.size d3)
    have hOwn1 := Nat.ne_of_gt hOwn
    have hOwn2 := Nat.ne_of_lt hOwn
    have hOwn := (Below.cell d3 (p := ⟨x1.heap.size, 0, none⟩) (by first | exact Nat.le_refl _ | assumption | (simp; done) | (simp; omega) | omega)).trans (by go_simp; rfl)
    have hOwn := (Below.cell d3 (p := ⟨x1.heap.size, 1, none⟩) (by first | exact Nat.le_refl _ | assumption | (simp; done) | (simp; omega) | omega)).trans (by go_simp; rfl)
    have hOwn := (Below.cell d3 (p := ⟨x1.heap.size, 2, none⟩) (by first | exact Nat.le_refl _ | assumption | (simp; done) | (simp; omega) | omega)).trans (by go_simp; rfl)
    have hOwn := (Below.frozen d3 (p := ⟨x1.heap.size, 0, none⟩) (by first | exact Nat.le_refl _ | assumption | (simp; done) | (simp; omega) | omega)).trans (by go_simp; rfl)
    have hOwn := (Below.frozen d3 (p := ⟨x1.heap.size, 1, none⟩) (by first | exact Nat.le_refl _ | assumption | (simp; done) | (simp; omega) | omega)).trans (by go_simp; rfl)
    have hOwn := (Below.frozen d3 (p := ⟨x1.heap.size, 2, none⟩) (by first | exact Nat.le_refl _ | assumption | (simp; done) | (simp; omega) | omega)).trans (by go_simp; rfl)
    go_wp2_with fail
    refine (R4.out A c _ ((y9.now (by (repeat' (first | with_reducible assumption | with_reducible exact Below.refl _ _ | (with_reducible refine Below.alloc ?_ ?_ _; rotate_left; focus ((first | exact Nat.le_refl _ | (simp; done) | (simp; omega) | omega | fail))) | (with_reducible refine Below.setCell ?_ ?_ _; rotate_left; focus ((first | exact Nat.le_refl _ | (simp; done) | (simp; omega) | omega | fail))) | with_reducible refine Mem.bel_drewN ?_ _ | with_reducible refine Below.drew ?_ | (with_reducible refine Mem.bel_call (by with_reducible assumption) ?_ ?_; focus ((first | exact Nat.le_refl _ | (simp; done) | (simp; omega) | omega | fail))) | fail))))) c9).mono ?_
    rintro e x4 ⟨rfl, d4⟩
    have hSz := Below.size d4; try simp at hSz
    have f4 := d4.size
    have hOwn := Nat.lt_of_lt_of_le (n := x1.heap.size) (by first | exact Nat.le_refl _ | assumption | (simp; done) | (simp; omega) | omega) (Below.size d4)
    have hOwn1 := Nat.ne_of_gt hOwn
    have hOwn2 := Nat.ne_of_lt hOwn
    have hOwn := (Below.cell d4 (p := ⟨x1.heap.size, 0, none⟩) (by first | exact Nat.le_refl _ | assumption | (simp; done) | (simp; omega) | omega)).trans (by go_simp; rfl)
    have hOwn := (Below.cell d4 (p := ⟨x1.heap.size, 1, none⟩) (by first | exact Nat.le_refl _ | assumption | (simp; done) | (simp; omega) | omega)).trans (by go_simp; rfl)
    have hOwn := (Below.cell d4 (p := ⟨x1.heap.size, 2, none⟩) (by first | exact Nat.le_refl _ | assumption | (simp; done) | (simp; omega) | omega)).trans (by go_simp; rfl)
    have hOwn := (Below.frozen d4 (p := ⟨x1.heap.size, 0, none⟩) (by first | exact Nat.le_refl _ | assumption | (simp; done) | (simp; omega) | omega)).trans (by go_simp; rfl)
    have hOwn := (Below.frozen d4 (p := ⟨x1.heap.size, 1, none⟩) (by first | exact Nat.le_refl _ | assumption | (simp; done) | (simp; omega) | omega)).trans (by go_simp; rfl)
    have hOwn := (Below.frozen d4 (p := ⟨x1.heap.size, 2, none⟩) (by first | exact Nat.le_refl _ | assumption | (simp; done) | (simp; omega) | omega)).trans (by go_simp; rfl)
    go_wp2_with fail
    refine (R5.out A c _ ((y9.now (by (repeat' (first | with_reducible assumption | with_reducible exact Below.refl _ _ | (with_reducible refine Below.alloc ?_ ?_ _; rotate_left; focus ((first | exact Nat.le_refl _ | (simp; done) | (simp; omega) | omega | fail))) | (with_reducible refine Below.setCell ?_ ?_ _; rotate_left; focus ((first | exact Nat.le_refl _ | (simp; done) | (simp; omega) | omega | fail))) | with_reducible refine Mem.bel_drewN ?_ _ | with_reducible refine Below.drew ?_ | (with_reducible refine Mem.bel_call (by with_reducible assumption) ?_ ?_; focus ((first | exact Nat.le_refl _ | (simp; done) | (simp; omega) | omega | fail))) | fail))))) c9).mono ?_
    rintro e x5 ⟨rfl, d5⟩
    have hSz := Below.size d5; try simp at hSz
    have f5 := d5.size
    have hOwn := Nat.lt_of_lt_of_le (n := x1.heap.size) (by first | exact Nat.le_refl _ | assumption | (simp; done) | (simp; omega) | omega) (Below.size d5)
    have hOwn1 := Nat.ne_of_gt hOwn
    have hOwn2 := Nat.ne_of_lt hOwn
    have hOwn := (Below.cell d5 (p := ⟨x1.heap.size, 0, none⟩) (by first | exact Nat.le_refl _ | assumption | (simp; done) | (simp; omega) | omega)).trans (by go_simp; rfl)
    have hOwn := (Below.cell d5 (p := ⟨x1.heap.size, 1, none⟩) (by first | exact Nat.le_refl _ | assumption | (simp; done) | (simp; omega) | omega)).trans (by go_simp; rfl)
    have hOwn := (Below.cell d5 (p := ⟨x1.heap.size, 2, none⟩) (by first | exact Nat.le_refl _ | assumption | (simp; done) | (simp; omega) | omega)).trans (by go_simp; rfl)
    have hOwn := (Below.frozen d5 (p := ⟨x1.heap.size, 0, none⟩) (by first | exact Nat.le_refl _ | assumption | (simp; done) | (simp; omega) | omega)).trans (by go_simp; rfl)
    have hOwn := (Below.frozen d5 (p := ⟨x1.heap.size, 1, none⟩) (by first | exact Nat.le_refl _ | assumption | (simp; done) | (simp; omega) | omega)).trans (by go_simp; rfl)
    have hOwn := (Below.frozen d5 (p := ⟨x1.heap.size, 2, none⟩) (by first | exact Nat.le_refl _ | assumption | (simp; done) | (simp; omega) | omega)).trans (by go_simp; rfl)
    go_wp2_with fail
    refine (R6.out A c _ ((y9.now (by (repeat' (first | with_reducible assumption | with_reducible exact Below.refl _ _ | (with_reducible refine Below.alloc ?_ ?_ _; rotate_left; focus ((first | exact Nat.le_refl _ | (simp; done) | (simp; omega) | omega | fail))) | (with_reducible refine Below.setCell ?_ ?_ _; rotate_left; focus ((first | exact Nat.le_refl _ | (simp; done) | (simp; omega) | omega | fail))) | with_reducible refine Mem.bel_drewN ?_ _ | with_reducible refine Below.drew ?_ | (with_reducible refine Mem.bel_call (by with_reducible assumption) ?_ ?_; focus ((first | exact Nat.le_refl _ | (simp; done) | (simp; omega) | omega | fail))) | fail))))) c9).mono ?_
    rintro e x6 h6
    obtain ⟨A6, c6, rfl, hc6, y6, d6⟩ := saysF_out (rfl : x.length = x.length) h6
    have hSz := Below.size d6; try simp at hSz
    have f6 := d6.size
    have hOwn := Nat.lt_of_lt_of_le (n := x1.heap.size) (by first | exact Nat.le_refl _ | assumption | (simp; done) | (simp; omega) | omega) (Below.size d6)
    have hOwn1 := Nat.ne_of_gt hOwn
    have hOwn2 := Nat.ne_of_lt hOwn
    have hOwn := (Below.cell d6 (p := ⟨x1.heap.size, 0, none⟩) (by first | exact Nat.le_refl _ | assumption | (simp; done) | (simp; omega) | omega)).trans (by go_simp; rfl)
    have hOwn := (Below.cell d6 (p := ⟨x1.heap.size, 1, none⟩) (by first | exact Nat.le_refl _ | assumption | (simp; done) | (simp; omega) | omega)).trans (by go_simp; rfl)
    have hOwn := (Below.cell d6 (p := ⟨x1.heap.size, 2, none⟩) (by first | exact Nat.le_refl _ | assumption | (simp; done) | (simp; omega) | omega)).trans (by go_simp; rfl)
    have hOwn := (Below.frozen d6 (p := ⟨x1.heap.size, 0, none⟩) (by first | exact Nat.le_refl _ | assumption | (simp; done) | (simp; omega) | omega)).trans (by go_simp; rfl)
    have hOwn := (Below.frozen d6 (p := ⟨x1.heap.size, 1, none⟩) (by first | exact Nat.le_refl _ | assumption | (simp; done) | (simp; omega) | omega)).trans (by go_simp; rfl)
    have hOwn := (Below.frozen d6 (p := ⟨x1.heap.size, 2, none⟩) (by first | exact Nat.le_refl _ | assumption | (simp; done) | (simp; omega) | omega)).trans (by go_simp; rfl)
    have y6' := y6.less (B' := x1.heap.size + 1) (by first | exact Nat.le_refl _ | assumption | (simp; done) | (simp; omega) | omega)
    have u6 := (((y6'.set (p := ⟨x1.heap.size, 0, none⟩) (by show x1.heap.size < x1.heap.size + 1; omega) (.slice A L.length c)).set (p := ⟨x1.heap.size, 1, none⟩) (by show x1.heap.size < x1.heap.size + 1; omega) (.int .i64 (k6 : Int))).set (p := ⟨x1.heap.size, 2, none⟩) (by show x1.heap.size < x1.heap.size + 1; omega) (.int .i64 0)).1.str byteT strT c6
    obtain ⟨W6, hW6⟩ : ∃ W6, W6 = ((x6.setCell ⟨x1.heap.size, 0, none⟩ (.slice A L.length c)).setCell ⟨x1.heap.size, 1, none⟩ (.int .i64 (k6 : Int))).setCell ⟨x1.heap.size, 2, none⟩ (.int .i64 0) := ⟨_, rfl⟩
    have C6 : Below w.heap.size w W6 := by rw [hW6]; (repeat' (first | with_reducible assumption | with_reducible exact Below.refl _ _ | (with_reducible refine Below.alloc ?_ ?_ _; rotate_left; focus ((first | exact Nat.le_refl _ | (simp; done) | (simp; omega) | omega | fail))) | (with_reducible refine Below.setCell ?_ ?_ _; rotate_left; focus ((first | exact Nat.le_refl _ | (simp; done) | (simp; omega) | omega | fail))) | with_reducible refine Mem.bel_drewN ?_ _ | with_reducible refine Below.drew ?_ | (with_reducible refine Mem.bel_call (by with_reducible assumption) ?_ ?_; focus ((first | exact Nat.le_refl _ | (simp; done) | (simp; omega) | omega | fail))) | fail))
    have D6 : Below w9.heap.size w9 W6 := by rw [hW6]; (repeat' (first | with_reducible assumption | with_reducible exact Below.refl _ _ | (with_reducible refine Below.alloc ?_ ?_ _; rotate_left; focus ((first | exact Nat.le_refl _ | (simp; done) | (simp; omega) | omega | fail))) | (with_reducible refine Below.setCell ?_ ?_ _; rotate_left; focus ((first | exact Nat.le_refl _ | (simp; done) | (simp; omega) | omega | fail))) | with_reducible refine Mem.bel_drewN ?_ _ | with_reducible refine Below.drew ?_ | (with_reducible refine Mem.bel_call (by with_reducible assumption) ?_ ?_; focus ((first | exact Nat.le_refl _ | (simp; done) | (simp; omega) | omega | fail))) | fail))
    have v6 := CV3.out _ (b3.now C6)
    rw [hW6] at v6
    go_wp2_with fail
    rw [← hW6]
    have w0 : W6.cell? ⟨x1.heap.size, 0, none⟩ = some (.slice A L.length c) := by rw [hW6]; go_simp
    have w1' : W6.cell? ⟨x1.heap.size, 1, none⟩ = some (.int .i64 (k6 : Int)) := by rw [hW6]; go_simp
    have w2' : W6.cell? ⟨x1.heap.size, 2, none⟩ = some (.int .i64 0) := by rw [hW6]; go_simp
    have zz : x1.heap.size < W6.heap.size := by rw [hW6]; simp [World.setCell]; omega
    have g6 : w.heap.size ≤ W6.heap.size := C6.size
    clear hW6 v6 u6 y6 y6' t1 t2
    rcases E7.out with ⟨e7, e8⟩ | ⟨⟨jj, e7⟩, e8⟩
    · have r7 := R7.out
      rw [e8] at r7
      have ri := RI.out
      unfold Rgt at ri
      rw [e7] at ri
      have R7n := Lib.hid r7
      have RIn := Lib.hid ri
      clear r7 ri e7 e8 R7 RI E7
      refine (R7n.out A c _ (hL.below C6 hL.1) (y9.now D6) c9).mono ?_
      rintro e x7 h7
      obtain ⟨A7, c7, rfl, hc7, y7, d7⟩ := saysF_out (n := 0) rfl h7
      have f7 := d7.size
      have zz7 : x1.heap.size < x7.heap.size := by omega
      have hOwn := Nat.lt_of_lt_of_le (n := x1.heap.size) (by first | exact Nat.le_refl _ | assumption | (simp; done) | (simp; omega) | omega) (Below.size d7)
      have hOwn1 := Nat.ne_of_gt hOwn
      have hOwn2 := Nat.ne_of_lt hOwn
      have hOwn := (Below.cell d7 (p := ⟨x1.heap.size, 0, none⟩) (by first | exact Nat.le_refl _ | assumption | (simp; done) | (simp; omega) | omega)).trans (by go_simp; rfl)
      have hOwn := (Below.cell d7 (p := ⟨x1.heap.size, 1, none⟩) (by first | exact Nat.le_refl _ | assumption | (simp; done) | (simp; omega) | omega)).trans (by go_simp; rfl)
      have hOwn := (Below.cell d7 (p := ⟨x1.heap.size, 2, none⟩) (by first | exact Nat.le_refl _ | assumption | (simp; done) | (simp; omega) | omega)).trans (by go_simp; rfl)
      have hOwn := (Below.frozen d7 (p := ⟨x1.heap.size, 0, none⟩) (by first | exact Nat.le_refl _ | assumption | (simp; done) | (simp; omega) | omega)).trans (by go_simp; rfl)
      have hOwn := (Below.frozen d7 (p := ⟨x1.heap.size, 1, none⟩) (by first | exact Nat.le_refl _ | assumption | (simp; done) | (simp; omega) | omega)).trans (by go_simp; rfl)
      have hOwn := (Below.frozen d7 (p := ⟨x1.heap.size, 2, none⟩) (by first | exact Nat.le_refl _ | assumption | (simp; done) | (simp; omega) | omega)).trans (by go_simp; rfl)
      go_wp2_with fail
      refine (RIn.out A4 cap4 _ (hL.below (B := w.heap.size) (by (repeat' (first | with_reducible assumption | with_reducible exact Below.refl _ _ | (with_reducible refine Below.alloc ?_ ?_ _; rotate_left; focus ((first | exact Nat.le_refl _ | (simp; done) | (simp; omega) | omega | fail))) | (with_reducible refine Below.setCell ?_ ?_ _; rotate_left; focus ((first | exact Nat.le_refl _ | (simp; done) | (simp; omega) | omega | fail))) | with_reducible refine Mem.bel_drewN ?_ _ | with_reducible refine Below.drew ?_ | (with_reducible refine Mem.bel_call (by with_reducible assumption) ?_ ?_; focus ((first | exact Nat.le_refl _ | (simp; done) | (simp; omega) | omega | fail))) | fail))) hL.1) (b4.now (by (repeat' (first | with_reducible assumption | with_reducible exact Below.refl _ _ | (with_reducible refine Below.alloc ?_ ?_ _; rotate_left; focus ((first | exact Nat.le_refl _ | (simp; done) | (simp; omega) | omega | fail))) | (with_reducible refine Below.setCell ?_ ?_ _; rotate_left; focus ((first | exact Nat.le_refl _ | (simp; done) | (simp; omega) | omega | fail))) | with_reducible refine Mem.bel_drewN ?_ _ | with_reducible refine Below.drew ?_ | (with_reducible refine Mem.bel_call (by with_reducible assumption) ?_ ?_; focus ((first | exact Nat.le_refl _ | (simp; done) | (simp; omega) | omega | fail))) | fail)))) (by omega) k4).mono ?_
      rintro e x8 ⟨rfl, d8⟩
      have f8 := d8.size
      simp at f8
      have hOwn := Nat.lt_of_lt_of_le (n := x1.heap.size) (by first | exact Nat.le_refl _ | assumption | (simp; done) | (simp; omega) | omega) (Below.size d8)
      have hOwn1 := Nat.ne_of_gt hOwn
      have hOwn2 := Nat.ne_of_lt hOwn
      have hOwn := (Below.cell d8 (p := ⟨x1.heap.size, 0, none⟩) (by first | exact Nat.le_refl _ | assumption | (simp; done) | (simp; omega) | omega)).trans (by go_simp; rfl)
      have hOwn := (Below.cell d8 (p := ⟨x1.heap.size, 1, none⟩) (by first | exact Nat.le_refl _ | assumption | (simp; done) | (simp; omega) | omega)).trans (by go_simp; rfl)
      have hOwn := (Below.cell d8 (p := ⟨x1.heap.size, 2, none⟩) (by first | exact Nat.le_refl _ | assumption | (simp; done) | (simp; omega) | omega)).trans (by go_simp; rfl)
      have hOwn := (Below.frozen d8 (p := ⟨x1.heap.size, 0, none⟩) (by first | exact Nat.le_refl _ | assumption | (simp; done) | (simp; omega) | omega)).trans (by go_simp; rfl)
      have hOwn := (Below.frozen d8 (p := ⟨x1.heap.size, 1, none⟩) (by first | exact Nat.le_refl _ | assumption | (simp; done) | (simp; omega) | omega)).trans (by go_simp; rfl)
      have hOwn := (Below.frozen d8 (p := ⟨x1.heap.size, 2, none⟩) (by first | exact Nat.le_refl _ | assumption | (simp; done) | (simp; omega) | omega)).trans (by go_simp; rfl)
      have hOwn := Nat.lt_of_lt_of_le (n := x7.heap.size) (by first | exact Nat.le_refl _ | assumption | (simp; done) | (simp; omega) | omega) (Below.size d8)
      have hOwn1 := Nat.ne_of_gt hOwn
      have hOwn2 := Nat.ne_of_lt hOwn
      have hOwn := (Below.cell d8 (p := ⟨x7.heap.size, 0, none⟩) (by first | exact Nat.le_refl _ | assumption | (simp; done) | (simp; omega) | omega)).trans (by go_simp; rfl)
      have hOwn := (Below.cell d8 (p := ⟨x7.heap.size, 1, none⟩) (by first | exact Nat.le_refl _ | assumption | (simp; done) | (simp; omega) | omega)).trans (by go_simp; rfl)
      have hOwn := (Below.cell d8 (p := ⟨x7.heap.size, 2, none⟩) (by first | exact Nat.le_refl _ | assumption | (simp; done) | (simp; omega) | omega)).trans (by go_simp; rfl)
      have hOwn := (Below.frozen d8 (p := ⟨x7.heap.size, 0, none⟩) (by first | exact Nat.le_refl _ | assumption | (simp; done) | (simp; omega) | omega)).trans (by go_simp; rfl)
      have hOwn := (Below.frozen d8 (p := ⟨x7.heap.size, 1, none⟩) (by first | exact Nat.le_refl _ | assumption | (simp; done) | (simp; omega) | omega)).trans (by go_simp; rfl)
      have hOwn := (Below.frozen d8 (p := ⟨x7.heap.size, 2, none⟩) (by first | exact Nat.le_refl _ | assumption | (simp; done) | (simp; omega) | omega)).trans (by go_simp; rfl)
      go_wp2_with fail
      go_ret
      exact ⟨rfl, by (repeat' (first | with_reducible assumption | with_reducible exact Below.refl _ _ | (with_reducible refine Below.alloc ?_ ?_ _; rotate_left; focus ((first | exact Nat.le_refl _ | (simp; done) | (simp; omega) | omega | fail))) | (with_reducible refine Below.setCell ?_ ?_ _; rotate_left; focus ((first | exact Nat.le_refl _ | (simp; done) | (simp; omega) | omega | fail))) | with_reducible refine Mem.bel_drewN ?_ _ | with_reducible refine Below.drew ?_ | (with_reducible refine Mem.bel_call (by with_reducible assumption) ?_ ?_; focus ((first | exact Nat.le_refl _ | (simp; done) | (simp; omega) | omega | fail))) | fail))⟩
    · have r7 := R7.out
      rw [e8] at r7
      have ri := RI.out
      unfold Rgt at ri
      rw [e7] at ri
      have R7n := Lib.hid r7
      have RIn := Lib.hid ri
      clear r7 ri e7 e8 R7 RI E7
      have kk := KK.out
      have t3 : ((L.length : Int) - (k7 : Int) == (tl.length : Int)) = true := by simp; omega
      obtain ⟨fv, hf⟩ : ∃ fv, fv = Wr.fin L (k7 : Int) 0 := ⟨_, rfl⟩
      have fn := FN.out
      rw [← hf] at fn
      obtain ⟨b2, t4, t5⟩ : ∃ b2 : Bool, (fv == 0) = b2 ∧ ((tl.length : Int) == 0) = b2 := by
        refine ⟨_, rfl, ?_⟩
        rw [hf]; unfold Wr.fin
        rw [Wr.rdy_ok (by omega)]
        by_cases h : tl.length = 0
        · rw [if_neg (by omega), h]; rfl
        · rw [if_pos ⟨rfl, by omega⟩, show ((tl.length : Int) == 0) = false by rw [beq_eq_false_iff_ne]; omega]; rfl
      have kb : k7 ≤ L.length := by omega
      have t6 : (L.length : Int) - (k7 : Int) = (tl.length : Int) := by omega
      have FE := Lib.hid fn
      clear fn hf kk FN KK
      obtain ⟨sn, hsn⟩ : ∃ sn, s.length = sn := ⟨_, rfl⟩
      refine (R7n.out A c _ (hL.below C6 hL.1) (y9.now D6) c9).mono ?_
      rintro e x7 h7
      obtain ⟨A7, c7, rfl, hc7, y7, d7⟩ := saysF_out (rfl : s.length = s.length) h7
      have f7 := d7.size
      clear hsn
      go_wp2_with fail
      refine (RIn.out A4 cap4 _ (hL.below (B := w.heap.size) (by (repeat' (first | with_reducible assumption | with_reducible exact Below.refl _ _ | (with_reducible refine Below.alloc ?_ ?_ _; rotate_left; focus ((first | exact Nat.le_refl _ | (simp; done) | (simp; omega) | omega | fail))) | (with_reducible refine Below.setCell ?_ ?_ _; rotate_left; focus ((first | exact Nat.le_refl _ | (simp; done) | (simp; omega) | omega | fail))) | with_reducible refine Mem.bel_drewN ?_ _ | with_reducible refine Below.drew ?_ | (with_reducible refine Mem.bel_call (by with_reducible assumption) ?_ ?_; focus ((first | exact Nat.le_refl _ | (simp; done) | (simp; omega) | omega | fail))) | fail))) hL.1) (b4.now (by (repeat' (first | with_reducible assumption | with_reducible exact Below.refl _ _ | (with_reducible refine Below.alloc ?_ ?_ _; rotate_left; focus ((first | exact Nat.le_refl _ | (simp; done) | (simp; omega) | omega | fail))) | (with_reducible refine Below.setCell ?_ ?_ _; rotate_left; focus ((first | exact Nat.le_refl _ | (simp; done) | (simp; omega) | omega | fail))) | with_reducible refine Mem.bel_drewN ?_ _ | with_reducible refine Below.drew ?_ | (with_reducible refine Mem.bel_call (by with_reducible assumption) ?_ ?_; focus ((first | exact Nat.le_refl _ | (simp; done) | (simp; omega) | omega | fail))) | fail)))) (by omega) k4).mono ?_
      rintro e x8 ⟨rfl, d8⟩
      have f8 := d8.size
      simp at f8
      have hOwn := Nat.lt_of_lt_of_le (n := x7.heap.size) (by first | exact Nat.le_refl _ | assumption | (simp; done) | (simp; omega) | omega) (Below.size d8)
      have hOwn1 := Nat.ne_of_gt hOwn
      have hOwn2 := Nat.ne_of_lt hOwn
      have hOwn := (Below.cell d8 (p := ⟨x7.heap.size, 0, none⟩) (by first | exact Nat.le_refl _ | assumption | (simp; done) | (simp; omega) | omega)).trans (by go_simp; rfl)
      have hOwn := (Below.cell d8 (p := ⟨x7.heap.size, 1, none⟩) (by first | exact Nat.le_refl _ | assumption | (simp; done) | (simp; omega) | omega)).trans (by go_simp; rfl)
      have hOwn := (Below.cell d8 (p := ⟨x7.heap.size, 2, none⟩) (by first | exact Nat.le_refl _ | assumption | (simp; done) | (simp; omega) | omega)).trans (by go_simp; rfl)
      have hOwn := (Below.frozen d8 (p := ⟨x7.heap.size, 0, none⟩) (by first | exact Nat.le_refl _ | assumption | (simp; done) | (simp; omega) | omega)).trans (by go_simp; rfl)
      have hOwn := (Below.frozen d8 (p := ⟨x7.heap.size, 1, none⟩) (by first | exact Nat.le_refl _ | assumption | (simp; done) | (simp; omega) | omega)).trans (by go_simp; rfl)
      have hOwn := (Below.frozen d8 (p := ⟨x7.heap.size, 2, none⟩) (by first | exact Nat.le_refl _ | assumption | (simp; done) | (simp; omega) | omega)).trans (by go_simp; rfl)
      have u8 := (y7.now (w' := x8) (by (repeat' (first | with_reducible assumption | with_reducible exact Below.refl _ _ | (with_reducible refine Below.alloc ?_ ?_ _; rotate_left; focus ((first | exact Nat.le_refl _ | (simp; done) | (simp; omega) | omega | fail))) | (with_reducible refine Below.setCell ?_ ?_ _; rotate_left; focus ((first | exact Nat.le_refl _ | (simp; done) | (simp; omega) | omega | fail))) | with_reducible refine Mem.bel_drewN ?_ _ | with_reducible refine Below.drew ?_ | (with_reducible refine Mem.bel_call (by with_reducible assumption) ?_ ?_; focus ((first | exact Nat.le_refl _ | (simp; done) | (simp; omega) | omega | fail))) | fail)))).1.str byteT strT c7
      have v8 := CV4.out _ (b4.now (W := x8) (by (repeat' (first | with_reducible assumption | with_reducible exact Below.refl _ _ | (with_reducible refine Below.alloc ?_ ?_ _; rotate_left; focus ((first | exact Nat.le_refl _ | (simp; done) | (simp; omega) | omega | fail))) | (with_reducible refine Below.setCell ?_ ?_ _; rotate_left; focus ((first | exact Nat.le_refl _ | (simp; done) | (simp; omega) | omega | fail))) | with_reducible refine Mem.bel_drewN ?_ _ | with_reducible refine Below.drew ?_ | (with_reducible refine Mem.bel_call (by with_reducible assumption) ?_ ?_; focus ((first | exact Nat.le_refl _ | (simp; done) | (simp; omega) | omega | fail))) | fail))))
      go_wp2_with fail
      refine (FE.out A c _).mono ?_
      rintro e x9 ⟨rfl, d9⟩
      have f9 := d9.size
      go_wp2_with fail
      go_ret
      exact ⟨by simp, by (repeat' (first | with_reducible assumption | with_reducible exact Below.refl _ _ | (with_reducible refine Below.alloc ?_ ?_ _; rotate_left; focus ((first | exact Nat.le_refl _ | (simp; done) | (simp; omega) | omega | fail))) | (with_reducible refine Below.setCell ?_ ?_ _; rotate_left; focus ((first | exact Nat.le_refl _ | (simp; done) | (simp; omega) | omega | fail))) | with_reducible refine Mem.bel_drewN ?_ _ | with_reducible refine Below.drew ?_ | (with_reducible refine Mem.bel_call (by with_reducible assumption) ?_ ?_; focus ((first | exact Nat.le_refl _ | (simp; done) | (simp; omega) | omega | fail))) | fail))⟩
  · obtain ⟨bg, tb⟩ : ∃ bg : Bool, bg = true := ⟨true, rfl⟩
    have big : 2000 < x.length ∨ 2000 < s.length ∨ 2000 < tl.length := by omega
    clear tb bg hbig
    rcases big with h | h | h
    · have q1 : (2000 : Int) < (x.length : Int) := by omega
      go_enter Tryd.func5, Tryd.ntmps5
      go_wp2_with fail
      refine WK.out.mono ?_
      rintro e w1 ⟨rfl, b1⟩
      go_wp2_with fail
      go_ret
      exact ⟨rfl, b1⟩
    · have q1 : (2000 : Int) < (s.length : Int) := by omega
      by_cases h2 : (2000 : Int) < (x.length : Int)
      all_goals
        go_enter Tryd.func5, Tryd.ntmps5
        go_wp2_with fail
        refine WK.out.mono ?_
        rintro e w1 ⟨rfl, b1⟩
        go_wp2_with fail
        go_ret
        exact ⟨rfl, b1⟩
    · have q1 : (2000 : Int) < (tl.length : Int) := by omega
      by_cases h2 : (2000 : Int) < (x.length : Int)
      all_goals
        by_cases h3 : (2000 : Int) < (s.length : Int)
        all_goals
          go_enter Tryd.func5, Tryd.ntmps5
          go_wp2_with fail
          refine WK.out.mono ?_
          rintro e w1 ⟨rfl, b1⟩
          go_wp2_with fail
          go_ret
          exact ⟨rfl, b1⟩
end Go.Proofs.YtjebhbjffofjnaaDoor
