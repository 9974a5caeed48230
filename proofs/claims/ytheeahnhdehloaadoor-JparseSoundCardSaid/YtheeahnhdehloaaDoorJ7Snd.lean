/- The laws of layer 7, walked: is a tree sound? -/
import Derived.Test.YtheeahnhdehloaaDoorJSnd
import Derived.Test.YtheeahnhdehloaaDoorConv
import Derived.Test.YtheeahnhdehloaaDoorUtf
import Derived.Test.YtheeahnhdehloaaDoorJTSame
import Derived.Deep.LoopGhost
namespace Go.Proofs.YtheeahnhdehloaaDoor
open Go.ChangeShapes Go.WideShapes Go.ChangeAt Go.RowKit Mem

theorem right_str {s : ByteArray} (hs : right7 s) (W : World) (g : Nat) (hg : g = W.heap.size) (hL : Laid W) : ∃ c W', (convert 9 22 (.string s)).run Tryd.prog W = .ok (.slice (some ⟨g, 0, none⟩) s.size c) W' ∧
    Calls Tryd.prog 27 #[.slice (some ⟨g, 0, none⟩) s.size c] W' (fun e w' => e = .returned (.bool true) ∧ Below W.heap.size W w') := by
  subst hg
  obtain ⟨c, W', h1, h2, h3, h4⟩ := conv_lays s W
  have ln : s.data.toList.length = s.size := by rw [Array.length_toList]; rfl
  have r := Right_any (some ⟨W.heap.size, 0, none⟩) c s.data.toList W' (hL.below h3 hL.top) h4 (by have := hs.2; omega) (by omega)
  rw [ln] at r
  refine ⟨c, W', h1, r.mono fun e w' h => ⟨?_, h3.trans (h.2.mono h3.size)⟩⟩
  rw [h.1, hs.1]

set_option maxRecDepth 100000 in
set_option maxHeartbeats 8000000 in
theorem sound_at : ∀ (N : Nat) (t : J), SizeOf.sizeOf t ≤ N → t.snd → ∀ (w : World) (A3 A4 : Option Addr) (c3 c4 : Nat), Laid w →
    TreeC w w.heap.size t [.int .i64 t.k, .int .i64 t.n, .string t.t, .slice A3 t.its.length c3, .slice A4 t.ks.length c4] →
    Calls Tryd.prog 16 #[.agg #[.int .i64 t.k, .int .i64 t.n, .string t.t, .slice A3 t.its.length c3, .slice A4 t.ks.length c4]] w (Told true w)
  | 0, t, h => by cases t; simp at h
  | N + 1, .mk k n s its ks, hN => by
    intro hs w A3 A4 c3 c4 hL ht
    have CS := cell_set
    have top := hL.top
    obtain ⟨_, _, _, _, e, hc3, hc4, rt, ft⟩ := ht.out
    simp only [J.k, J.n, J.t, J.its, J.ks, List.cons.injEq, Value.slice.injEq, true_and, and_true] at e hc3 hc4 rt ft
    obtain ⟨⟨rfl, rfl⟩, rfl, rfl⟩ := e
    obtain ⟨s1, s2, _, s4, s5, s6⟩ := J.snd_out hs
    simp only [J.k, J.n, J.t, J.its, J.ks] at s1 s2 s4 s5 s6 ⊢
    have IH : Hid (∀ (i : Nat) (h1 : i < its.length) (W : World) (A3 A4 : Option Addr) (c3 c4 : Nat), Laid W →
        TreeC W W.heap.size (its[i]'h1) [.int .i64 (its[i]'h1).k, .int .i64 (its[i]'h1).n, .string (its[i]'h1).t, .slice A3 (its[i]'h1).its.length c3, .slice A4 (its[i]'h1).ks.length c4] →
        Calls Tryd.prog 16 #[.agg #[.int .i64 (its[i]'h1).k, .int .i64 (its[i]'h1).n, .string (its[i]'h1).t, .slice A3 (its[i]'h1).its.length c3, .slice A4 (its[i]'h1).ks.length c4]] W (Told true W)) := fun i h1 W A3 A4 c3 c4 hL a =>
      sound_at N (its[i]'h1) (by have := J.lt_its (j := .mk k n s its ks) (i := i) h1; simp only [J.its] at this; omega) (J.snds_at s6 h1) W A3 A4 c3 c4 hL a
    have RT := Lib.hid rt; have FT := Lib.hid ft
    have RK := Lib.hid (fun i (h : i < ks.length) => s4 _ (List.getElem_mem h))
    have ND := Lib.hid (fun j i (hj : j < ks.length) (hi : i < ks.length) (h : j < i) => List.pairwise_iff_getElem.1 s5 j i hj hi h)
    have hb4 := hc4.2
    have hb3 := hc3.2
    have hr4 := hc4.1
    unfold maxLen at hb4 hb3
    obtain ⟨ni, hni⟩ : ∃ m, m = its.length := ⟨_, rfl⟩
    obtain ⟨nk, hnk⟩ : ∃ m, m = ks.length := ⟨_, rfl⟩
    have HNI := Lib.hid hni; have HNK := Lib.hid hnk
    have qk : ((k == 6) = true ∧ ((nk : Int) != (ni : Int)) = false) ∨ (k == 6) = false := by
      by_cases h6 : k = 6
      · exact .inl ⟨by simpa using h6, by have := s2 h6; rw [bne_eq_false_iff_eq]; omega⟩
      · exact .inr (by simpa using h6)
    rw [← hni] at hb3 ⊢
    rw [← hnk] at hb4 hr4 ⊢
    have W1 : Below w.heap.size w (w.alloc (.cells #[.int .i64 k, .int .i64 n, .string s, .slice A3 ni c3, .slice A4 nk c4] 27)) := (Below.refl _ _).alloc (Nat.le_refl _) _
    have gz1 : (w.alloc (.cells #[.int .i64 k, .int .i64 n, .string s, .slice A3 ni c3, .slice A4 nk c4] 27)).heap.size = w.heap.size + 1 := by simp
    have GZ1 := Lib.hid gz1
    obtain ⟨cs0, Ws, cv0, rc0⟩ := right_str s1 (w.alloc (.cells #[.int .i64 k, .int .i64 n, .string s, .slice A3 ni c3, .slice A4 nk c4] 27)) (w.heap.size + 1) gz1.symm (hL.alloc _)
    have RC0 := Lib.hid rc0
    clear ht rt ft hN hc3 hc4 hni hnk s1 s2 s4 s5 s6 gz1 rc0 hs
    rcases qk with ⟨q6, qn⟩ | q6
    all_goals
      go_enter Tryd.func16, Tryd.ntmps16
      go_wp2_with fail
      with_reducible refine RC0.out.mono ?_
      rintro e w2 ⟨rfl, b2⟩
      rw [GZ1.out] at b2
      have s2 := b2.size
      rw [GZ1.out] at s2
      have hOwn := Nat.lt_of_lt_of_le (n := w.heap.size) (by first | exact Nat.le_refl _ | assumption | (simp; done) | (simp; omega) | omega) (Below.size b2)
      have hOwn1 := Nat.ne_of_gt hOwn
      have hOwn2 := Nat.ne_of_lt hOwn
      have hOwn := (Below.cell b2 (p := ⟨w.heap.size, 0, none⟩) (by first | exact Nat.le_refl _ | assumption | (simp; done) | (simp; omega) | omega)).trans (by go_simp; rfl)
      have hOwn := (Below.cell b2 (p := ⟨w.heap.size, 1, none⟩) (by first | exact Nat.le_refl _ | assumption | (simp; done) | (simp; omega) | omega)).trans (by go_simp; rfl)
      have hOwn := (Below.cell b2 (p := ⟨w.heap.size, 2, none⟩) (by first | exact Nat.le_refl _ | assumption | (simp; done) | (simp; omega) | omega)).trans (by go_simp; rfl)
      have hOwn := (Below.cell b2 (p := ⟨w.heap.size, 3, none⟩) (by first | exact Nat.le_refl _ | assumption | (simp; done) | (simp; omega) | omega)).trans (by go_simp; rfl)
      have hOwn := (Below.cell b2 (p := ⟨w.heap.size, 4, none⟩) (by first | exact Nat.le_refl _ | assumption | (simp; done) | (simp; omega) | omega)).trans (by go_simp; rfl)
      have hOwn := (Below.frozen b2 (p := ⟨w.heap.size, 0, none⟩) (by first | exact Nat.le_refl _ | assumption | (simp; done) | (simp; omega) | omega)).trans (by go_simp; rfl)
      have hOwn := (Below.frozen b2 (p := ⟨w.heap.size, 1, none⟩) (by first | exact Nat.le_refl _ | assumption | (simp; done) | (simp; omega) | omega)).trans (by go_simp; rfl)
      have hOwn := (Below.frozen b2 (p := ⟨w.heap.size, 2, none⟩) (by first | exact Nat.le_refl _ | assumption | (simp; done) | (simp; omega) | omega)).trans (by go_simp; rfl)
      have hOwn := (Below.frozen b2 (p := ⟨w.heap.size, 3, none⟩) (by first | exact Nat.le_refl _ | assumption | (simp; done) | (simp; omega) | omega)).trans (by go_simp; rfl)
      have hOwn := (Below.frozen b2 (p := ⟨w.heap.size, 4, none⟩) (by first | exact Nat.le_refl _ | assumption | (simp; done) | (simp; omega) | omega)).trans (by go_simp; rfl)
      go_wp2_with fail
      go_loopw [31] (fun t wr => ∃ i : Nat, i ≤ nk ∧ t = .int .i64 (i : Int) ∧ Below (w.heap.size + 1) (w.alloc (.cells #[.int .i64 k, .int .i64 n, .string s, .slice A3 ni c3, .slice A4 nk c4] 27)) wr) (fun t _ => nk - (intOf t).toNat)
      case atStart => exact ⟨0, Nat.zero_le _, rfl, b2⟩
      case round =>
        obtain ⟨i, hi, rfl, bl⟩ := hrel
        have gsz := bl.size
        rw [GZ1.out] at gsz
        have blw := W1.trans (bl.mono (by omega))
        have Lr := hL.below blw top
        have hOwn := Nat.lt_of_lt_of_le (n := w.heap.size) (by first | exact Nat.le_refl _ | assumption | (simp; done) | (simp; omega) | omega) (Below.size bl)
        have hOwn1 := Nat.ne_of_gt hOwn
        have hOwn2 := Nat.ne_of_lt hOwn
        have hOwn := (Below.cell bl (p := ⟨w.heap.size, 0, none⟩) (by first | exact Nat.le_refl _ | assumption | (simp; done) | (simp; omega) | omega)).trans (by go_simp; rfl)
        have hOwn := (Below.cell bl (p := ⟨w.heap.size, 1, none⟩) (by first | exact Nat.le_refl _ | assumption | (simp; done) | (simp; omega) | omega)).trans (by go_simp; rfl)
        have hOwn := (Below.cell bl (p := ⟨w.heap.size, 2, none⟩) (by first | exact Nat.le_refl _ | assumption | (simp; done) | (simp; omega) | omega)).trans (by go_simp; rfl)
        have hOwn := (Below.cell bl (p := ⟨w.heap.size, 3, none⟩) (by first | exact Nat.le_refl _ | assumption | (simp; done) | (simp; omega) | omega)).trans (by go_simp; rfl)
        have hOwn := (Below.cell bl (p := ⟨w.heap.size, 4, none⟩) (by first | exact Nat.le_refl _ | assumption | (simp; done) | (simp; omega) | omega)).trans (by go_simp; rfl)
        have hOwn := (Below.frozen bl (p := ⟨w.heap.size, 0, none⟩) (by first | exact Nat.le_refl _ | assumption | (simp; done) | (simp; omega) | omega)).trans (by go_simp; rfl)
        have hOwn := (Below.frozen bl (p := ⟨w.heap.size, 1, none⟩) (by first | exact Nat.le_refl _ | assumption | (simp; done) | (simp; omega) | omega)).trans (by go_simp; rfl)
        have hOwn := (Below.frozen bl (p := ⟨w.heap.size, 2, none⟩) (by first | exact Nat.le_refl _ | assumption | (simp; done) | (simp; omega) | omega)).trans (by go_simp; rfl)
        have hOwn := (Below.frozen bl (p := ⟨w.heap.size, 3, none⟩) (by first | exact Nat.le_refl _ | assumption | (simp; done) | (simp; omega) | omega)).trans (by go_simp; rfl)
        have hOwn := (Below.frozen bl (p := ⟨w.heap.size, 4, none⟩) (by first | exact Nat.le_refl _ | assumption | (simp; done) | (simp; omega) | omega)).trans (by go_simp; rfl)
        by_cases hik : i < nk
        · have h1 : i < ks.length := by rw [← HNK.out]; exact hik
          obtain ⟨b8, o8, e8, hb8, z0⟩ := fl_str FT.out h1
          have z1 := (blw.cell (p := ⟨b8, o8 + i, none⟩) hb8).trans z0
          obtain ⟨cs1, Wc, cv1, rc1⟩ := right_str (RK.out i h1) wr wr.heap.size rfl Lr
          have NEQ := Lib.hid (fun j (hj : j < ks.length) (h : j < i) => ND.out j i hj h1 h)
          have lb8 : b8 < w.heap.size := hb8
          have RC1 := Lib.hid rc1
          have CELL := Lib.hid (fun j (hj : j < ks.length) => fl_str FT.out hj)
          generalize ks[i]'h1 = Y at *
          subst e8
          have hi4 : (i : Int) ≤ (c4 : Int) := by omega
          clear h1 z0 rc1
          go_wp2_with fail
          with_reducible refine RC1.out.mono ?_
          rintro e w5 ⟨rfl, b5⟩
          have b5w := bl.trans (b5.mono gsz)
          have s5 := b5.size
          have blw5 := W1.trans (b5w.mono (by omega))
          have hOwn := Nat.lt_of_lt_of_le (n := w.heap.size) (by first | exact Nat.le_refl _ | assumption | (simp; done) | (simp; omega) | omega) (Below.size b5w)
          have hOwn1 := Nat.ne_of_gt hOwn
          have hOwn2 := Nat.ne_of_lt hOwn
          have hOwn := (Below.cell b5w (p := ⟨w.heap.size, 0, none⟩) (by first | exact Nat.le_refl _ | assumption | (simp; done) | (simp; omega) | omega)).trans (by go_simp; rfl)
          have hOwn := (Below.cell b5w (p := ⟨w.heap.size, 1, none⟩) (by first | exact Nat.le_refl _ | assumption | (simp; done) | (simp; omega) | omega)).trans (by go_simp; rfl)
          have hOwn := (Below.cell b5w (p := ⟨w.heap.size, 2, none⟩) (by first | exact Nat.le_refl _ | assumption | (simp; done) | (simp; omega) | omega)).trans (by go_simp; rfl)
          have hOwn := (Below.cell b5w (p := ⟨w.heap.size, 3, none⟩) (by first | exact Nat.le_refl _ | assumption | (simp; done) | (simp; omega) | omega)).trans (by go_simp; rfl)
          have hOwn := (Below.cell b5w (p := ⟨w.heap.size, 4, none⟩) (by first | exact Nat.le_refl _ | assumption | (simp; done) | (simp; omega) | omega)).trans (by go_simp; rfl)
          have hOwn := (Below.frozen b5w (p := ⟨w.heap.size, 0, none⟩) (by first | exact Nat.le_refl _ | assumption | (simp; done) | (simp; omega) | omega)).trans (by go_simp; rfl)
          have hOwn := (Below.frozen b5w (p := ⟨w.heap.size, 1, none⟩) (by first | exact Nat.le_refl _ | assumption | (simp; done) | (simp; omega) | omega)).trans (by go_simp; rfl)
          have hOwn := (Below.frozen b5w (p := ⟨w.heap.size, 2, none⟩) (by first | exact Nat.le_refl _ | assumption | (simp; done) | (simp; omega) | omega)).trans (by go_simp; rfl)
          have hOwn := (Below.frozen b5w (p := ⟨w.heap.size, 3, none⟩) (by first | exact Nat.le_refl _ | assumption | (simp; done) | (simp; omega) | omega)).trans (by go_simp; rfl)
          have hOwn := (Below.frozen b5w (p := ⟨w.heap.size, 4, none⟩) (by first | exact Nat.le_refl _ | assumption | (simp; done) | (simp; omega) | omega)).trans (by go_simp; rfl)
          go_wp2_with fail
          go_loopw [45] (fun t wq => ∃ j : Nat, j ≤ i ∧ t = .int .i64 (j : Int) ∧ wq = w5) (fun t _ => i - (intOf t).toNat)
          case atStart => exact ⟨0, Nat.zero_le _, rfl, by first | rfl | trivial⟩
          case round =>
            obtain ⟨j, hj, rfl, rfl⟩ := hrel
            by_cases hji : j < i
            · have h2 : j < ks.length := by rw [← HNK.out]; omega
              obtain ⟨b9, o9, e9, hb9, z9⟩ := CELL.out j h2
              simp only [Option.some.injEq, Addr.mk.injEq, and_true] at e9
              obtain ⟨rfl, rfl⟩ := e9
              have z10 := (blw5.cell (p := ⟨b8, o8 + j, none⟩) hb9).trans z9
              have ne := NEQ.out j h2 hji
              have sx : ((ks[j]'h2).toList == Y.toList) = false := by rw [str_beq]; simpa using ne
              generalize ks[j]'h2 = X at *
              clear ne h2 z9
              go_wp2_with fail
              go_roundw
              case rel => exact ⟨j + 1, by omega, by go_num, by first | rfl | trivial⟩
              case measure => simp [intOf]; omega
            · obtain rfl : j = i := by omega
              go_wp2_with fail
              go_roundw
              case rel => exact ⟨j + 1, by omega, by go_num, b5w⟩
              case measure => simp [intOf]; omega
        · obtain rfl : i = nk := by omega
          clear hik
          go_wp2_with fail
          go_loopw [57] (fun t wq => ∃ p : Nat, p ≤ ni ∧ t = .int .i64 (p : Int) ∧ Below (w.heap.size + 1) wr wq) (fun t _ => ni - (intOf t).toNat)
          case atStart => exact ⟨0, Nat.zero_le _, rfl, Below.refl _ _⟩
          case round =>
            obtain ⟨p, hp, rfl, bl2⟩ := hrel
            have blq := bl.trans bl2
            have gsz2 := blq.size
            rw [GZ1.out] at gsz2
            have blw2 := W1.trans (blq.mono (by omega))
            have Lr2 := hL.below blw2 top
            by_cases hpn : p < ni
            · have h1' : p < its.length := by rw [← HNI.out]; exact hpn
              obtain ⟨b1, o1, X3, x3, X4, x4, e1, hb1, y0, y1, y2, y3, y4, ty⟩ := (RT.out.below blw2).cells h1'
              have I2 := Lib.hid (fun W hL a => IH.out p h1' W X3 X4 x3 x4 hL a)
              generalize its[p]'h1' = T' at *
              subst e1
              have TY := Lib.hid (ty.more (show w.heap.size ≤ _ from blw2.size))
              have lb1 := Nat.lt_of_lt_of_le hb1 blw2.size
              clear ty h1'
              go_wp2_with fail
              with_reducible refine (I2.out _ (Lr2.alloc _) ((TY.out.alloc (Nat.le_refl _) _).more (by simp))).mono ?_
              rintro e w7 ⟨rfl, b7⟩
              have b27 := (bl2.alloc gsz2 _).trans (b7.mono (by simp; omega))
              go_wp2_with fail
              go_roundw
              case rel => exact ⟨p + 1, by omega, by go_num, b27⟩
              case measure => simp [intOf]; omega
            · obtain rfl : p = ni := by omega
              clear hpn
              go_wp2_with fail
              go_ret
              exact told_ret rfl blw2
theorem sound_any (t : J) (h : t.snd) (w : World) (A3 A4 : Option Addr) (c3 c4 : Nat) (hL : Laid w) (ht : TreeC w w.heap.size t [.int .i64 t.k, .int .i64 t.n, .string t.t, .slice A3 t.its.length c3, .slice A4 t.ks.length c4]) :
    Calls Tryd.prog 16 #[.agg #[.int .i64 t.k, .int .i64 t.n, .string t.t, .slice A3 t.its.length c3, .slice A4 t.ks.length c4]] w (Told true w) := sound_at _ t (Nat.le_refl _) h w A3 A4 c3 c4 hL ht
end Go.Proofs.YtheeahnhdehloaaDoor
