/- Layer 4: the document's own reader, what it tells; what it puts. -/
import Derived.Test.YtjebhbjffofjnaaDoorWireR
import Derived.Deep.RegionWith
namespace Go.Proofs.YtjebhbjffofjnaaDoor
open Go.ChangeShapes Go.WideShapes Go.ChangeAt Go.RowKit Mem

theorem rFixed_any (g : Nat) (A : Option Addr) (c : Nat) (l : List UInt8) (a e n : Int) (w : World) (h : RSt w g A l c a e) (hb : Bys w g A l) (hl : l.length ≤ 140000000000) (hc : l.length ≤ c) :
    Calls Tryd.prog 31 #[.pointer (some ⟨g, 0, none⟩), .int .i64 n] w (SavesF (Wr.fxd l a e n) g A l c w) := by
  obtain ⟨N, hN⟩ := Int.eq_ofNat_of_zero_le (a := max n 0) (by omega)
  unfold Wr.fxd
  rw [hN]
  exact rFixed_nat g A c l a e n N (by omega) w h hb hl hc

theorem rBoolean_any (g : Nat) (A : Option Addr) (c : Nat) (l : List UInt8) (a e : Int) (w : World) (h : RSt w g A l c a e) (hb : Bys w g A l) (hl : l.length ≤ 140000000000) (hc : l.length ≤ c) :
    Calls Tryd.prog 26 #[.pointer (some ⟨g, 0, none⟩)] w (Saves (.int .i64 (Wr.boo l a e).1) (Wr.boo l a e).2.1 (Wr.boo l a e).2.2 g A l c w) := by
  have P0 : Calls Tryd.prog 31 #[.pointer (some ⟨g, 0, none⟩), .int .i64 1] w (SavesF (Wr.cut l a e 1) g A l c w) := rFixed_nat g A c l a e 1 1 (.inl rfl) w h hb hl hc
  obtain ⟨_, _, _, _, _, _⟩ := h.facts
  have CS := cell_set
  unfold Wr.boo
  rcases Wr.cut_one l a e with ⟨r, hr, hy⟩ | ⟨x, m, hy⟩
  · rw [hy] at P0 ⊢
    rw [if_pos hr]
    have P := Lib.hid P0
    have q : (r == 0) = false := by simpa using hr
    clear hy P0
    go_enter Tryd.func26, Tryd.ntmps26
    go_wp2_with fail
    refine P.out.mono ?_
    rintro e w1 h1
    obtain ⟨A1, c1, rfl, hc1, y1, t1, s1⟩ := savesF_out (n := 0) rfl h1
    obtain ⟨_, _, _, _, _, _⟩ := t1.facts
    go_wp2_with fail
    go_ret
    exact ⟨rfl, t1, s1⟩
  · rw [hy] at P0 ⊢
    rw [if_neg (by simp)]
    have P := Lib.hid P0
    clear hy P0
    obtain ⟨X, hX⟩ : ∃ X, X = x.toNat := ⟨_, rfl⟩
    have hX1 := x.toNat_lt
    show Calls _ _ _ _ (Saves (.int .i64 (if 1 < x.toNat then (0, a, 11) else ((x.toNat : Int), m, 0)).1) (if 1 < x.toNat then (0, a, 11) else ((x.toNat : Int), m, 0)).2.1 (if 1 < x.toNat then (0, a, 11) else ((x.toNat : Int), m, 0)).2.2 g A l c w)
    rw [← hX] at hX1 ⊢
    have HX := Lib.hid hX
    clear hX
    by_cases h1 : 1 < X
    · rw [if_pos h1]
      have q1 : ((X : Int) != 0) = true := by simp; omega
      have q2 : ((X : Int) != 1) = true := by simp; omega
      go_enter Tryd.func26, Tryd.ntmps26
      go_wp2_with fail
      refine P.out.mono ?_
      rintro e w1 h1
      obtain ⟨A1, c1, rfl, hc1, y1, t1, s1⟩ := savesF_out (n := 1) rfl h1
      obtain ⟨b, off, rfl, hb1, k1⟩ := y1.1.one
      rw [← HX.out] at k1
      obtain ⟨_, _, _, _, _, _⟩ := t1.facts
      go_wp2_with fail
      go_ret
      exact ⟨rfl, (t1.setAt a).setE 11, by (repeat' (first | with_reducible assumption | with_reducible exact Mem.Save.refl _ _ | with_reducible refine Mem.Save.set ?_ _ _ | with_reducible refine Mem.Save.drewN ?_ _ | with_reducible refine Mem.Save.drew ?_ | (with_reducible refine Mem.Save.alloc ?_ ?_ _; rotate_left; focus (first | exact Nat.le_refl _ | assumption | (simp; done) | (simp; omega) | omega | fail)) | (with_reducible refine Mem.Save.call (by with_reducible assumption) ?_ ?_; focus (first | exact Nat.le_refl _ | assumption | (simp; done) | (simp; omega) | omega | fail)) | with_reducible refine Mem.Save.next (by with_reducible assumption) ?_ | fail))⟩
    · rw [if_neg h1]
      rcases (show X = 0 ∨ X = 1 by omega) with rfl | rfl
      all_goals
        go_enter Tryd.func26, Tryd.ntmps26
        go_wp2_with fail
        refine P.out.mono ?_
        rintro e w1 h1
        obtain ⟨A1, c1, rfl, hc1, y1, t1, s1⟩ := savesF_out (n := 1) rfl h1
        obtain ⟨b, off, rfl, hb1, k1⟩ := y1.1.one
        rw [← HX.out] at k1
        obtain ⟨_, _, _, _, _, _⟩ := t1.facts
        go_wp2_with fail
        go_ret
        exact ⟨rfl, t1, s1⟩

set_option maxRecDepth 100000 in
theorem rBits_any (g : Nat) (A : Option Addr) (c : Nat) (l : List UInt8) (a e n : Int) (w : World) (h : RSt w g A l c a e) (hb : Bys w g A l) (hl : l.length ≤ 140000000000) (hc : l.length ≤ c) :
    Calls Tryd.prog 29 #[.pointer (some ⟨g, 0, none⟩), .int .i64 n] w (Saves (.int .u64 (Wr.bts l a e n).1) (Wr.bts l a e n).2.1 (Wr.bts l a e n).2.2 g A l c w) := by
  obtain ⟨N, hN, n8⟩ := Wr.most8_nat n
  have hN' := hN
  unfold Wr.most8 at hN'
  have P0 : ∀ y, (y = min n 8) → Calls Tryd.prog 31 #[.pointer (some ⟨g, 0, none⟩), .int .i64 y] w (SavesF (Wr.cut l a e (N : Int)) g A l c w) := fun y hy => rFixed_nat g A c l a e y N (by omega) w h hb hl hc
  have K : ∃ X m r, Wr.cut l a e (N : Int) = (X, m, r) ∧ X.length ≤ 8 ∧ Wr.bts l a e n = ((Wr.low X : Int), m, r) := by
    have T := Wr.cut_tells l a e N
    unfold Wr.bts
    rw [hN]
    obtain ⟨⟨X, m, r⟩, hr⟩ : ∃ R, R = Wr.cut l a e (N : Int) := ⟨_, rfl⟩
    rw [← hr] at T ⊢
    refine ⟨X, m, r, rfl, ?_, rfl⟩
    rcases T with ⟨_, h, _⟩ | ⟨_, h, _⟩
    · have : X = [] := h
      rw [this]; simp
    · have : X.length = N := h
      omega
  obtain ⟨X, m, r, hk, h8, hy⟩ := K
  rw [hk] at P0
  rw [hy]
  have P := Lib.hid P0
  clear hN hk hy hN' P0
  by_cases hn : 8 < n
  · have q : (8 : Int) < n := hn
    have P2 := Lib.hid (P.out 8 (by omega))
    go_enter Tryd.func29, Tryd.ntmps29
    go_wp2_with fail
    refine P2.out.mono ?_
    rintro e w1 h1
    obtain ⟨A1, c1, rfl, hc1, y1, t1, s1⟩ := savesF_out (rfl : X.length = X.length) h1
    go_wp2_with fail
    go_loop [6, 7] (fun u p => ∃ j : Nat, j ≤ X.length ∧ p = .int .i64 ((j : Int) - 1) ∧ u = .int .u64 ((Wr.low (X.drop j) : Nat) : Int)) (fun _ p => (intOf p + 1).toNat)
    case atStart => exact ⟨X.length, by omega, rfl, by rw [List.drop_length]; rfl⟩
    case round =>
      obtain ⟨j, hj, rfl, rfl⟩ := hrel
      by_cases h0 : j = 0
      · subst h0
        have q0 : ¬ (0 : Int) ≤ -1 := by omega
        rw [List.drop_zero]
        generalize Wr.low X = u0 at *
        go_wp2_with fail
        go_ret
        exact ⟨rfl, t1, s1⟩
      · obtain ⟨i, rfl⟩ : ∃ i, j = i + 1 := ⟨j - 1, by omega⟩
        have st := Wr.low_back (L := X) (j := i) (by omega)
        have fit := Wr.low_fit2 (L := X) i h8
        rcases y1.1 with h | ⟨b, off, rfl, hb1, hc2⟩
        · rw [h] at hj; simp at hj
        · have k1 := hc2 i (by omega)
          unfold cel at k1
          obtain ⟨Y, hY⟩ : ∃ Y, Y = (X.getD i 0).toNat := ⟨_, rfl⟩
          have hY1 : Y < 256 := by rw [hY]; exact (X.getD i 0).toNat_lt
          rw [← hY] at st k1
          obtain ⟨u0, hu0⟩ : ∃ u0, u0 = Wr.low (X.drop (i + 1)) := ⟨_, rfl⟩
          rw [← hu0] at st ⊢
          have st2 := Lib.hid st
          have iX : i < X.length := by omega
          have i8 : i ≤ 7 := by omega
          have q0 : (0 : Int) ≤ (i : Int) := by omega
          have q1 : (((i + 1 : Nat) : Int) - 1) = (i : Int) := by omega
          have q3 : (u0 : Int) * 256 + (Y : Int) ≤ 18446744073709551615 := by omega
          clear hY hu0 hc2 st fit h8
          rw [q1]
          go_wp2_with fail
          go_round
          case rel => exact ⟨i, by omega, by go_num, by rw [st2.out]; congr 1⟩
          case measure => simp [intOf] <;> omega
  · have q : ¬ (8 : Int) < n := hn
    have P2 := Lib.hid (P.out n (by omega))
    go_enter Tryd.func29, Tryd.ntmps29
    go_wp2_with fail
    refine P2.out.mono ?_
    rintro e w1 h1
    obtain ⟨A1, c1, rfl, hc1, y1, t1, s1⟩ := savesF_out (rfl : X.length = X.length) h1
    go_wp2_with fail
    go_loop [6, 7] (fun u p => ∃ j : Nat, j ≤ X.length ∧ p = .int .i64 ((j : Int) - 1) ∧ u = .int .u64 ((Wr.low (X.drop j) : Nat) : Int)) (fun _ p => (intOf p + 1).toNat)
    case atStart => exact ⟨X.length, by omega, rfl, by rw [List.drop_length]; rfl⟩
    case round =>
      obtain ⟨j, hj, rfl, rfl⟩ := hrel
      by_cases h0 : j = 0
      · subst h0
        have q0 : ¬ (0 : Int) ≤ -1 := by omega
        rw [List.drop_zero]
        generalize Wr.low X = u0 at *
        go_wp2_with fail
        go_ret
        exact ⟨rfl, t1, s1⟩
      · obtain ⟨i, rfl⟩ : ∃ i, j = i + 1 := ⟨j - 1, by omega⟩
        have st := Wr.low_back (L := X) (j := i) (by omega)
        have fit := Wr.low_fit2 (L := X) i h8
        rcases y1.1 with h | ⟨b, off, rfl, hb1, hc2⟩
        · rw [h] at hj; simp at hj
        · have k1 := hc2 i (by omega)
          unfold cel at k1
          obtain ⟨Y, hY⟩ : ∃ Y, Y = (X.getD i 0).toNat := ⟨_, rfl⟩
          have hY1 : Y < 256 := by rw [hY]; exact (X.getD i 0).toNat_lt
          rw [← hY] at st k1
          obtain ⟨u0, hu0⟩ : ∃ u0, u0 = Wr.low (X.drop (i + 1)) := ⟨_, rfl⟩
          rw [← hu0] at st ⊢
          have st2 := Lib.hid st
          have iX : i < X.length := by omega
          have i8 : i ≤ 7 := by omega
          have q0 : (0 : Int) ≤ (i : Int) := by omega
          have q1 : (((i + 1 : Nat) : Int) - 1) = (i : Int) := by omega
          have q3 : (u0 : Int) * 256 + (Y : Int) ≤ 18446744073709551615 := by omega
          clear hY hu0 hc2 st fit h8
          rw [q1]
          go_wp2_with fail
          go_round
          case rel => exact ⟨i, by omega, by go_num, by rw [st2.out]; congr 1⟩
          case measure => simp [intOf] <;> omega

set_option maxRecDepth 100000 in
set_option maxHeartbeats 1000000 in
theorem rBytes_any (g : Nat) (A : Option Addr) (c : Nat) (l : List UInt8) (a e : Int) (w : World) (h : RSt w g A l c a e) (hb : Bys w g A l) (hl : l.length ≤ 140000000000) (hc : l.length ≤ c) :
    Calls Tryd.prog 32 #[.pointer (some ⟨g, 0, none⟩)] w (SavesF (Wr.byt l a e) g A l c w) := by
  have P0 := rLong_any g A c l a e w h hb hl
  obtain ⟨_, _, _, _, _, _⟩ := h.facts
  have CS := cell_set
  rcases Wr.byt_ways l a e with ⟨n, r, hr, hy, hz⟩ | ⟨n, m, hn, hy, hz⟩ | ⟨n, m, hn, hy, hz⟩ | ⟨N, m, hN, hy, hcut⟩
  · rw [hy] at P0; rw [hz]
    have P := Lib.hid P0
    have q : (r == 0) = false := by simpa using hr
    clear hy hz P0
    go_enter Tryd.func32, Tryd.ntmps32
    go_wp2_with fail
    refine P.out.mono ?_
    rintro e w1 ⟨rfl, t1, s1⟩
    obtain ⟨_, _, _, _, _, _⟩ := t1.facts
    go_wp2_with fail
    go_ret
    exact savesF_nil rfl (t1.setAt a) (by (repeat' (first | with_reducible assumption | with_reducible exact Mem.Save.refl _ _ | with_reducible refine Mem.Save.set ?_ _ _ | with_reducible refine Mem.Save.drewN ?_ _ | with_reducible refine Mem.Save.drew ?_ | (with_reducible refine Mem.Save.alloc ?_ ?_ _; rotate_left; focus (first | exact Nat.le_refl _ | assumption | (simp; done) | (simp; omega) | omega | fail)) | (with_reducible refine Mem.Save.call (by with_reducible assumption) ?_ ?_; focus (first | exact Nat.le_refl _ | assumption | (simp; done) | (simp; omega) | omega | fail)) | with_reducible refine Mem.Save.next (by with_reducible assumption) ?_ | fail)))
  · rw [hy] at P0; rw [hz]
    have P := Lib.hid P0
    clear hy hz P0
    go_enter Tryd.func32, Tryd.ntmps32
    go_wp2_with fail
    refine P.out.mono ?_
    rintro e w1 ⟨rfl, t1, s1⟩
    obtain ⟨_, _, _, _, _, _⟩ := t1.facts
    go_wp2_with fail
    go_ret
    exact savesF_nil rfl ((t1.setE 11).setAt a) (by (repeat' (first | with_reducible assumption | with_reducible exact Mem.Save.refl _ _ | with_reducible refine Mem.Save.set ?_ _ _ | with_reducible refine Mem.Save.drewN ?_ _ | with_reducible refine Mem.Save.drew ?_ | (with_reducible refine Mem.Save.alloc ?_ ?_ _; rotate_left; focus (first | exact Nat.le_refl _ | assumption | (simp; done) | (simp; omega) | omega | fail)) | (with_reducible refine Mem.Save.call (by with_reducible assumption) ?_ ?_; focus (first | exact Nat.le_refl _ | assumption | (simp; done) | (simp; omega) | omega | fail)) | with_reducible refine Mem.Save.next (by with_reducible assumption) ?_ | fail)))
  · rw [hy] at P0; rw [hz]
    have P := Lib.hid P0
    have q : ¬ n < 0 := by omega
    clear hy hz P0
    go_enter Tryd.func32, Tryd.ntmps32
    go_wp2_with fail
    refine P.out.mono ?_
    rintro e w1 ⟨rfl, t1, s1⟩
    obtain ⟨_, _, _, _, _, _⟩ := t1.facts
    go_wp2_with fail
    go_ret
    exact savesF_nil rfl ((t1.setE 15).setAt a) (by (repeat' (first | with_reducible assumption | with_reducible exact Mem.Save.refl _ _ | with_reducible refine Mem.Save.set ?_ _ _ | with_reducible refine Mem.Save.drewN ?_ _ | with_reducible refine Mem.Save.drew ?_ | (with_reducible refine Mem.Save.alloc ?_ ?_ _; rotate_left; focus (first | exact Nat.le_refl _ | assumption | (simp; done) | (simp; omega) | omega | fail)) | (with_reducible refine Mem.Save.call (by with_reducible assumption) ?_ ?_; focus (first | exact Nat.le_refl _ | assumption | (simp; done) | (simp; omega) | omega | fail)) | with_reducible refine Mem.Save.next (by with_reducible assumption) ?_ | fail)))
  · rw [hy] at P0
    have P := Lib.hid P0
    have q1 : ¬ (N : Int) < 0 := by omega
    have q2 : ¬ (20000 : Int) < (N : Int) := by omega
    have F := Lib.hid (fun W hW hbW => rFixed_nat g A c l m 0 (N : Int) N (.inl rfl) W hW hbW hl hc)
    clear hy P0
    rcases hcut with ⟨r, hr, hk, hz⟩ | ⟨X, m', hX, hNl, hk, hz⟩
    · rw [hz]
      rw [hk] at F
      have q : (r == 0) = false := by simpa using hr
      clear hk hz
      go_enter Tryd.func32, Tryd.ntmps32
      go_wp2_with fail
      refine P.out.mono ?_
      rintro e w1 ⟨rfl, t1, s1⟩
      obtain ⟨_, _, _, _, _, _⟩ := t1.facts
      go_wp2_with fail
      refine (F.out _ t1 (s1.bys hb (Nat.le_refl _))).mono ?_
      rintro e w2 h2
      obtain ⟨A2, c2, rfl, hc2, y2, t2, s2⟩ := savesF_out (n := 0) rfl h2
      obtain ⟨_, _, _, _, _, _⟩ := t2.facts
      go_wp2_with fail
      go_ret
      exact savesF_nil rfl (t2.setAt a) (by (repeat' (first | with_reducible assumption | with_reducible exact Mem.Save.refl _ _ | with_reducible refine Mem.Save.set ?_ _ _ | with_reducible refine Mem.Save.drewN ?_ _ | with_reducible refine Mem.Save.drew ?_ | (with_reducible refine Mem.Save.alloc ?_ ?_ _; rotate_left; focus (first | exact Nat.le_refl _ | assumption | (simp; done) | (simp; omega) | omega | fail)) | (with_reducible refine Mem.Save.call (by with_reducible assumption) ?_ ?_; focus (first | exact Nat.le_refl _ | assumption | (simp; done) | (simp; omega) | omega | fail)) | with_reducible refine Mem.Save.next (by with_reducible assumption) ?_ | fail)))
    · rw [hz]
      rw [hk] at F
      clear hk hz
      go_enter Tryd.func32, Tryd.ntmps32
      go_wp2_with fail
      refine P.out.mono ?_
      rintro e w1 ⟨rfl, t1, s1⟩
      obtain ⟨_, _, _, _, _, _⟩ := t1.facts
      go_wp2_with fail
      refine (F.out _ t1 (s1.bys hb (Nat.le_refl _))).mono ?_
      rintro e w2 h2
      obtain ⟨A2, c2, rfl, hc2, y2, t2, s2⟩ := savesF_out hX h2
      obtain ⟨_, _, _, _, _, _⟩ := t2.facts
      go_wp2_with fail
      go_ret
      exact savesF_is hX rfl hc2 (y2.less s1.size) t2 (by (repeat' (first | with_reducible assumption | with_reducible exact Mem.Save.refl _ _ | with_reducible refine Mem.Save.set ?_ _ _ | with_reducible refine Mem.Save.drewN ?_ _ | with_reducible refine Mem.Save.drew ?_ | (with_reducible refine Mem.Save.alloc ?_ ?_ _; rotate_left; focus (first | exact Nat.le_refl _ | assumption | (simp; done) | (simp; omega) | omega | fail)) | (with_reducible refine Mem.Save.call (by with_reducible assumption) ?_ ?_; focus (first | exact Nat.le_refl _ | assumption | (simp; done) | (simp; omega) | omega | fail)) | with_reducible refine Mem.Save.next (by with_reducible assumption) ?_ | fail)))

set_option maxRecDepth 100000 in
set_option maxHeartbeats 1000000 in
theorem rText_any (g : Nat) (A : Option Addr) (c : Nat) (l : List UInt8) (a e : Int) (w : World) (h : RSt w g A l c a e) (hb : Bys w g A l) (hl : l.length ≤ 140000000000) (hc : l.length ≤ c) :
    Calls Tryd.prog 33 #[.pointer (some ⟨g, 0, none⟩)] w (SavesF (Wr.txt l a e) g A l c w) := by
  have P0 := rBytes_any g A c l a e w h hb hl hc
  obtain ⟨_, _, _, _, _, _⟩ := h.facts
  have CS := cell_set
  rcases Wr.txt_ways l a e with ⟨r, hr, hy, hz⟩ | ⟨X, m, hX, hy, hk⟩
  · rw [hy] at P0; rw [hz]
    have P := Lib.hid P0
    have q : (r == 0) = false := by simpa using hr
    clear hy hz P0
    go_enter Tryd.func33, Tryd.ntmps33
    go_wp2_with fail
    refine P.out.mono ?_
    rintro e w1 h1
    obtain ⟨A1, c1, rfl, hc1, y1, t1, s1⟩ := savesF_out (n := 0) rfl h1
    obtain ⟨_, _, _, _, _, _⟩ := t1.facts
    go_wp2_with fail
    go_ret
    exact savesF_nil rfl t1 s1
  · rw [hy] at P0
    have P := Lib.hid P0
    have C0 := fun A c W hb hc => rCount_any A c X W hb (by omega) hc
    obtain ⟨n, hn⟩ : ∃ n, n = X.length := ⟨_, rfl⟩
    rw [← hn] at C0 hX
    have HN := Lib.hid hn.symm
    clear hn
    rcases hk with ⟨hk, hz⟩ | ⟨k, hk, hz⟩
    · have e1 : cntI X = -1 := by unfold cntI; rw [hk]
      rw [e1] at C0
      rw [hz]
      have C := Lib.hid C0
      clear hy hk hz P0 C0 e1
      go_enter Tryd.func33, Tryd.ntmps33
      go_wp2_with fail
      refine P.out.mono ?_
      rintro e w1 h1
      obtain ⟨A1, c1, rfl, hc1, y1, t1, s1⟩ := savesF_out HN.out h1
      have g1 := t1.lt
      obtain ⟨_, _, _, _, _, _⟩ := t1.facts
      go_wp2_with fail
      refine (C.out _ _ _ y1.1 hc1).mono ?_
      rintro e w2 ⟨rfl, b2⟩
      have t2 := t1.below b2 g1
      have s2 : Save g w w2 := Save.call b2 (Nat.le_of_lt g1) s1
      obtain ⟨_, _, _, _, _, _⟩ := t2.facts
      go_wp2_with fail
      go_ret
      exact savesF_nil rfl ((t2.setAt a).setE 11) (by (repeat' (first | with_reducible assumption | with_reducible exact Mem.Save.refl _ _ | with_reducible refine Mem.Save.set ?_ _ _ | with_reducible refine Mem.Save.drewN ?_ _ | with_reducible refine Mem.Save.drew ?_ | (with_reducible refine Mem.Save.alloc ?_ ?_ _; rotate_left; focus (first | exact Nat.le_refl _ | assumption | (simp; done) | (simp; omega) | omega | fail)) | (with_reducible refine Mem.Save.call (by with_reducible assumption) ?_ ?_; focus (first | exact Nat.le_refl _ | assumption | (simp; done) | (simp; omega) | omega | fail)) | with_reducible refine Mem.Save.next (by with_reducible assumption) ?_ | fail)))
    · have e1 : cntI X = (k : Int) := by unfold cntI; rw [hk]
      rw [e1] at C0
      rw [hz]
      have C := Lib.hid C0
      have q : ¬ (k : Int) < 0 := by omega
      clear hy hk hz P0 C0 e1
      go_enter Tryd.func33, Tryd.ntmps33
      go_wp2_with fail
      refine P.out.mono ?_
      rintro e w1 h1
      obtain ⟨A1, c1, rfl, hc1, y1, t1, s1⟩ := savesF_out HN.out h1
      have g1 := t1.lt
      obtain ⟨_, _, _, _, _, _⟩ := t1.facts
      go_wp2_with fail
      refine (C.out _ _ _ y1.1 hc1).mono ?_
      rintro e w2 ⟨rfl, b2⟩
      have t2 := t1.below b2 g1
      have s2 : Save g w w2 := Save.call b2 (Nat.le_of_lt g1) s1
      obtain ⟨_, _, _, _, _, _⟩ := t2.facts
      go_wp2_with fail
      go_ret
      exact savesF_is HN.out rfl hc1 (y1.now b2) t2 s2

set_option maxHeartbeats 4000000 in
theorem rEnd_any (g : Nat) (A : Option Addr) (c : Nat) (l : List UInt8) (a e : Int) (w : World) (h : RSt w g A l c a e) :
    Calls Tryd.prog 10 #[.pointer (some ⟨g, 0, none⟩)] w (fun x w' => x = .returned (.int .i64 (Wr.fin l a e)) ∧ Save g w w') := by
  have P0 := ready_any g A c l a e
  obtain ⟨_, _, _, _, _, _⟩ := h.facts
  rcases Wr.fin_ways l a e with ⟨r, hr, hy, hz⟩ | ⟨k, rfl, hy, ⟨hk, hz⟩ | ⟨hk, hz⟩⟩
  · rw [hy] at P0; rw [hz]
    have q : (r == 0) = false := by simpa using hr
    rw [q] at P0
    have P := Lib.hid P0
    clear hy hz P0
    go_enter Tryd.func10, Tryd.ntmps10
    go_wp2_with fail
    first
      | go_region_with (first | (go_at_call 35; refine (P.out _ (by first | exact h | exact h.drew)).mono ?_; rintro e w1 ⟨rfl, t1, s1⟩; obtain ⟨_, _, _, _, _, _⟩ := t1.facts; have s2 : Save g w w1 := Save.next s1 (Save.drew (Save.refl _ _))))
      | fail
    all_goals
      go_wp2_with fail
      go_ret
      exact ⟨rfl, s2⟩
  · rw [hy] at P0; rw [hz]
    have q : (k : Int) < (l.length : Int) := by omega
    have P := Lib.hid P0
    clear hy hz P0
    go_enter Tryd.func10, Tryd.ntmps10
    go_wp2_with fail
    go_region_held_law (fun w' => w'.cell? ⟨g, 0, none⟩ = some (.slice A l.length c) ∧ w'.cell? ⟨g, 1, none⟩ = some (.int .i64 (k : Int))) (exact ⟨by first | assumption | (go_simp; done), by first | assumption | (go_simp; done)⟩) (first | (go_at_call 35; refine (P.out _ (by first | exact h | exact h.drew)).mono ?_; rintro e w1 ⟨rfl, t1, s1⟩; obtain ⟨_, _, _, _, _, _⟩ := t1.facts; have s2 : Save g w w1 := Save.next s1 (Save.drew (Save.refl _ _))))
    all_goals
      go_wp2_with fail
      go_ret
      exact ⟨rfl, s2⟩
  · rw [hy] at P0; rw [hz]
    subst hk
    have q : ¬ (l.length : Int) < (l.length : Int) := by omega
    have P := Lib.hid P0
    clear hy hz P0
    go_enter Tryd.func10, Tryd.ntmps10
    go_wp2_with fail
    go_region_held_law (fun w' => w'.cell? ⟨g, 0, none⟩ = some (.slice A l.length c) ∧ w'.cell? ⟨g, 1, none⟩ = some (.int .i64 (l.length : Int))) (exact ⟨by first | assumption | (go_simp; done), by first | assumption | (go_simp; done)⟩) (first | (go_at_call 35; refine (P.out _ (by first | exact h | exact h.drew)).mono ?_; rintro e w1 ⟨rfl, t1, s1⟩; obtain ⟨_, _, _, _, _, _⟩ := t1.facts; have s2 : Save g w w1 := Save.next s1 (Save.drew (Save.refl _ _))))
    all_goals
      go_wp2_with fail
      go_ret
      exact ⟨rfl, s2⟩

theorem rPutBits_any (z n : Int) (N : Nat) (h0 : 0 ≤ z) (h1 : z ≤ 18446744073709551615) (hN : Wr.most8 n = (N : Int)) (w : World) :
    Calls Tryd.prog 14 #[.int .u64 z, .int .i64 n] w (Made w.heap.size (Wr.lowb z.toNat N) w) := by
  unfold Wr.most8 at hN
  obtain ⟨base, hbase⟩ : ∃ base, base = w.heap.size := ⟨_, rfl⟩
  rw [← hbase]
  have hb : base ≤ w.heap.size := by omega
  clear hbase
  have HN := Lib.hid hN
  clear hN
  go_enter Tryd.func14, Tryd.ntmps14
  go_wp2_with fail
  go_loopw [0, 5, 6] (fun u sv p wr => ∃ (y : Int) (d : List UInt8) (k j : Nat), 0 ≤ y ∧ y ≤ 18446744073709551615 ∧ u = .int .u64 y ∧ k + j = N ∧ p = .int .i64 (j : Int) ∧ Own wr base 5 sv d ∧ d.length ≤ j ∧ Hid (d ++ Wr.lowb y.toNat k = Wr.lowb z.toNat N) ∧ Below base w wr) (fun _ _ p _ => N - (intOf p).toNat)
  case atStart => exact ⟨z, [], N, 0, h0, h1, rfl, by omega, rfl, Own.none_ _ _ _, by simp, rfl, Below.refl _ _⟩
  case round =>
    obtain ⟨y, d, k, j, g0, g1, rfl, hk, rfl, go, gl, ge, gb⟩ := hrel
    have gsz : base ≤ wr.heap.size := by have := gb.size; omega
    by_cases hj : j < N
    · have q : (j : Int) < n := by have := HN.out; omega
      have q2 : (j : Int) < 8 := by have := HN.out; omega
      obtain ⟨k', rfl⟩ : ∃ k', k = k' + 1 := ⟨k - 1, by omega⟩
      have st := Lib.hid (Wr.lowb_step ge.out g0)
      go_wp2_with (at_builtin; refine wpList_app1 _ byteT rfl (.tmp 16) (.tmp 20) rfl base _ d rfl go 1 (y % 256) (by omega) (by omega) rfl (by omega) gsz ?_; intro v' w1 hown1 hb1)
      go_roundw
      case rel => exact ⟨y / 256, _, k', j + 1, by omega, by omega, rfl, by omega, by go_num, hown1, by simp; omega, st, gb.trans hb1⟩
      case measure => simp [intOf]; omega
    · obtain rfl : k = 0 := by omega
      have ge' := ge.out
      rw [Wr.lowb, List.append_nil] at ge'
      have GE := Lib.hid ge'
      clear ge ge'
      by_cases h8 : (j : Int) < n
      · have q2 : ¬ (j : Int) < 8 := by have := HN.out; omega
        go_wp2_with fail
        go_ret
        exact ⟨_, rfl, GE.out ▸ go, gb⟩
      · go_wp2_with fail
        go_ret
        exact ⟨_, rfl, GE.out ▸ go, gb⟩

theorem rPutBytes_any (x : List UInt8) (A : Option Addr) (c : Nat) (w : World) (hx : Bys w w.heap.size A x) (hxl : x.length ≤ 1000000) :
    Calls Tryd.prog 16 #[.slice A x.length c] w (Made w.heap.size (Num.enc (Num.zig (x.length : Int)).toNat ++ x) w) := by
  have el := Num.enc_length_le (u := (Num.zig (x.length : Int)).toNat) (by have := Num.zig_hi (n := (x.length : Int)) (by omega) (by omega); have := Num.zig_lo (x.length : Int); omega)
  have p := rput_any (x.length : Int) (by omega) (by omega) w
  generalize Num.enc (Num.zig (x.length : Int)).toNat = E at *
  have P := Lib.hid p
  clear p
  go_enter Tryd.func16, Tryd.ntmps16
  go_wp2_with fail
  refine P.out.mono ?_
  rintro e w1 ⟨v1, rfl, o1, b1⟩
  have y1 := hx.below b1
  have sz1 := b1.size
  go_wp2_with (at_builtin; refine wpList_app _ byteT rfl (.tmp 5) (.tmp 6) rfl w.heap.size _ E rfl o1 _ A c x rfl y1 (by omega) (by omega) ?_; intro v' w2 o2 b2)
  go_ret
  exact ⟨_, rfl, o2, b1.trans b2⟩
end Go.Proofs.YtjebhbjffofjnaaDoor
