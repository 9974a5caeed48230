/- The laws of layer 7, walked: what is parsed is sound. -/
import Derived.Test.YtheeahnhdehloaaDoorJ7Law
import Derived.Test.YtheeahnhdehloaaDoorJ7Snd
import Derived.Test.YtheeahnhdehloaaDoorJCSame
import Derived.Test.YtheeahnhdehloaaDoorJRGet
import Derived.Deep.RegionHeldLaw
namespace Go.Proofs.YtheeahnhdehloaaDoor
open Go.ChangeShapes Go.WideShapes Go.ChangeAt Go.RowKit Mem

set_option maxRecDepth 100000 in
set_option maxHeartbeats 8000000 in
theorem jparseSound_walk (A : Option Addr) (l : List UInt8) (c : Nat) (w : World) (hc : l.length ≤ c) (hb : Bys w w.heap.size A l) (hL : Laid w) :
    Calls Tryd.prog 5 #[.slice A l.length c] w fun e w' => e = .returned (.bool true) ∧ Below w.heap.size w w' := by
  have CS := cell_set
  have top := hL.top
  have WK := Lib.hid (works7_any w hL)
  by_cases hbig : 2000 < l.length
  · have hq : (2000 : Int) < (l.length : Int) := by omega
    go_enter Tryd.func5, Tryd.ntmps5
    go_wp2_with fail
    refine WK.out.mono ?_
    rintro e w1 ⟨rfl, b1⟩
    go_wp2_with fail
    go_ret
    exact ⟨rfl, b1⟩
  · have hq : ¬ (2000 : Int) < (l.length : Int) := by omega
    have PA := Lib.hid (fun W h1 h2 => parse_any A c l W h1 h2 (by omega) hc)
    have ps := fun h => Jp.parse_snd (l := l) h
    have pb := fun h => Jp.parse_bad (l := l) h
    obtain ⟨⟨j, er⟩, hr⟩ : ∃ r, r = Jp.parse l := ⟨_, rfl⟩
    rw [← hr] at PA ps pb
    simp only at ps pb
    have PS := Lib.hid ps
    have PB := Lib.hid pb
    clear hr hbig ps pb
    go_enter Tryd.func5, Tryd.ntmps5
    go_wp2_with fail
    refine WK.out.mono ?_
    rintro e w1 ⟨rfl, b1⟩
    have s1 := b1.size
    have L1 := hL.below b1 top
    have y1 := hb.now b1
    go_wp2_with fail
    with_reducible refine (PA.out _ L1 y1).mono ?_
    rintro e w2 ⟨A3, c3, A4, c4, rfl, tr, b2⟩
    simp only at tr ⊢
    have s2 := b2.size
    have bw2 : Below w.heap.size w w2 := b1.trans (b2.mono s1)
    have tr2 := btw_c tr
    by_cases he : er = 0
    · subst he
      obtain ⟨sn, dp⟩ := PS.out rfl
      obtain ⟨_, _, _, _, e, hc3, hc4, rt, ft⟩ := tr2.out
      simp only [List.cons.injEq, Value.slice.injEq, true_and, and_true] at e
      obtain ⟨⟨rfl, rfl⟩, rfl, rfl⟩ := e
      obtain ⟨_, n2, n3, _, n5, _⟩ := J.snd_out sn
      have SN := Lib.hid sn
      have DP := Lib.hid dp
      have RT := Lib.hid rt
      have FT := Lib.hid ft
      have TR := Lib.hid tr2
      have GE := Lib.hid (fun W D3 D4 d3 d4 key h => get_any j key W D3 D4 d3 d4 h)
      have LEN := Lib.hid (fun (i : Nat) (h : i < j.ks.length) => show j.k = 6 ∧ i < j.its.length from by
        have h6 := n3 (fun e => by rw [e] at h; exact absurd h (Nat.not_lt_zero _))
        exact ⟨h6, by rw [← n2 h6]; exact h⟩)
      have ND := Lib.hid (fun m i (hm : m < j.ks.length) (hi : i < j.ks.length) (h : m < i) => List.pairwise_iff_getElem.1 n5 m i hm hi h)
      have hb4 := hc4.2
      have hb3 := hc3.2
      unfold maxLen at hb4 hb3
      have SA := Lib.hid (fun W D3 D4 d3 d4 hL h => sound_any j SN.out W D3 D4 d3 d4 hL h)
      have DA := Lib.hid (fun W D3 D4 d3 d4 h => deep_at _ j (Nat.le_refl _) (by have := DP.out; omega) W D3 D4 d3 d4 h)
      obtain ⟨dj, hdj⟩ : ∃ d, d = j.deep := ⟨_, rfl⟩
      rw [← hdj] at DA dp
      obtain ⟨ni, hni⟩ : ∃ m, m = j.its.length := ⟨_, rfl⟩
      obtain ⟨nk, hnk⟩ : ∃ m, m = j.ks.length := ⟨_, rfl⟩
      have HNI := Lib.hid hni; have HNK := Lib.hid hnk
      have gz : (w2.alloc (.cells #[.int .i64 j.k, .int .i64 j.n, .string j.t, .slice A3 ni c3, .slice A4 nk c4] 27)).heap.size = w2.heap.size + 1 := by simp
      have GZ := Lib.hid gz
      have qd : (dj : Int) ≤ 32 := by omega
      have GEh : Hid (∀ W key, TreeC W W.heap.size j [.int .i64 j.k, .int .i64 j.n, .string j.t, .slice A3 ni c3, .slice A4 nk c4] → Calls Tryd.prog 11 #[.agg #[.int .i64 j.k, .int .i64 j.n, .string j.t, .slice A3 ni c3, .slice A4 nk c4], .string key] W (Got (j.get key) W)) := fun W key h => by
        have := GE.out W A3 A4 c3 c4 key (by rw [← HNI.out, ← HNK.out]; exact h)
        rw [← HNI.out, ← HNK.out] at this
        exact this
      have SAh : Hid (∀ W, Laid W → TreeC W W.heap.size j [.int .i64 j.k, .int .i64 j.n, .string j.t, .slice A3 ni c3, .slice A4 nk c4] → Calls Tryd.prog 16 #[.agg #[.int .i64 j.k, .int .i64 j.n, .string j.t, .slice A3 ni c3, .slice A4 nk c4]] W (Told true W)) := fun W hL h => by
        have := SA.out W A3 A4 c3 c4 hL (by rw [← HNI.out, ← HNK.out]; exact h)
        rw [← HNI.out, ← HNK.out] at this
        exact this
      have DAh : Hid (∀ W, TreeC W W.heap.size j [.int .i64 j.k, .int .i64 j.n, .string j.t, .slice A3 ni c3, .slice A4 nk c4] → Calls Tryd.prog 14 #[.agg #[.int .i64 j.k, .int .i64 j.n, .string j.t, .slice A3 ni c3, .slice A4 nk c4]] W (Num_ dj W)) := fun W h => by
        have := DA.out W A3 A4 c3 c4 (by rw [← HNI.out, ← HNK.out]; exact h)
        rw [← HNI.out, ← HNK.out] at this
        exact this
      have TRh : Hid (TreeC w2 w2.heap.size j [.int .i64 j.k, .int .i64 j.n, .string j.t, .slice A3 ni c3, .slice A4 nk c4]) := by
        have := TR.out
        rw [← HNI.out, ← HNK.out] at this
        exact this
      rw [← hni] at hb3 ⊢
      rw [← hnk] at hb4 ⊢
      clear tr tr2 rt ft hc3 hc4 hni hnk n2 n3 n5 sn dp GE SA DA TR hdj gz
      obtain ⟨jk, hjk⟩ : ∃ z, z = j.k := ⟨_, rfl⟩
      go_wp2_with fail
      go_loopw [27] (fun t wr => ∃ i : Nat, i ≤ nk ∧ t = .int .i64 (i : Int) ∧ Below (w2.heap.size + 1) (w2.alloc (.cells #[.int .i64 j.k, .int .i64 j.n, .string j.t, .slice A3 ni c3, .slice A4 nk c4] 27)) wr) (fun t _ => nk - (intOf t).toNat)
      case atStart => exact ⟨0, Nat.zero_le _, rfl, Below.refl _ _⟩
      case round =>
        obtain ⟨i, hi, rfl, bl⟩ := hrel
        have gsz := bl.size
        rw [GZ.out] at gsz
        have b2r : Below w2.heap.size w2 wr := ((Below.refl _ _).alloc (Nat.le_refl _) _).trans (bl.mono (by omega))
        have bwr : Below w.heap.size w wr := bw2.trans (b2r.mono (by omega))
        have trr : TreeC wr wr.heap.size j _ := (TRh.out.below b2r).more b2r.size
        have hOwn := Nat.lt_of_lt_of_le (n := w2.heap.size) (by first | exact Nat.le_refl _ | assumption | (simp; done) | (simp; omega) | omega) (Below.size bl)
        have hOwn1 := Nat.ne_of_gt hOwn
        have hOwn2 := Nat.ne_of_lt hOwn
        have hOwn := (Below.cell bl (p := ⟨w2.heap.size, 0, none⟩) (by first | exact Nat.le_refl _ | assumption | (simp; done) | (simp; omega) | omega)).trans (by go_simp; rfl)
        have hOwn := (Below.cell bl (p := ⟨w2.heap.size, 1, none⟩) (by first | exact Nat.le_refl _ | assumption | (simp; done) | (simp; omega) | omega)).trans (by go_simp; rfl)
        have hOwn := (Below.cell bl (p := ⟨w2.heap.size, 2, none⟩) (by first | exact Nat.le_refl _ | assumption | (simp; done) | (simp; omega) | omega)).trans (by go_simp; rfl)
        have hOwn := (Below.cell bl (p := ⟨w2.heap.size, 3, none⟩) (by first | exact Nat.le_refl _ | assumption | (simp; done) | (simp; omega) | omega)).trans (by go_simp; rfl)
        have hOwn := (Below.cell bl (p := ⟨w2.heap.size, 4, none⟩) (by first | exact Nat.le_refl _ | assumption | (simp; done) | (simp; omega) | omega)).trans (by go_simp; rfl)
        have hOwn := (Below.frozen bl (p := ⟨w2.heap.size, 0, none⟩) (by first | exact Nat.le_refl _ | assumption | (simp; done) | (simp; omega) | omega)).trans (by go_simp; rfl)
        have hOwn := (Below.frozen bl (p := ⟨w2.heap.size, 1, none⟩) (by first | exact Nat.le_refl _ | assumption | (simp; done) | (simp; omega) | omega)).trans (by go_simp; rfl)
        have hOwn := (Below.frozen bl (p := ⟨w2.heap.size, 2, none⟩) (by first | exact Nat.le_refl _ | assumption | (simp; done) | (simp; omega) | omega)).trans (by go_simp; rfl)
        have hOwn := (Below.frozen bl (p := ⟨w2.heap.size, 3, none⟩) (by first | exact Nat.le_refl _ | assumption | (simp; done) | (simp; omega) | omega)).trans (by go_simp; rfl)
        have hOwn := (Below.frozen bl (p := ⟨w2.heap.size, 4, none⟩) (by first | exact Nat.le_refl _ | assumption | (simp; done) | (simp; omega) | omega)).trans (by go_simp; rfl)
        by_cases hik : i < nk
        · have h1 : i < j.ks.length := by rw [← HNK.out]; exact hik
          obtain ⟨h6, h2⟩ := LEN.out i h1
          obtain ⟨b8, o8, e8, hb8, z0⟩ := fl_str FT.out h1
          have z1 := (b2r.cell (p := ⟨b8, o8 + i, none⟩) hb8).trans z0
          obtain ⟨b1', o1, Z3, z3, Z4, z4, e1, hb1, v0, v1, v2, v3, v4, tv⟩ := (RT.out.below b2r).cells h2
          have ge := GEh.out wr (j.ks[i]'h1) trr
          rw [J.get_at h6 h1 h2 rfl (fun m hm hmi => ND.out m i hm h1 hmi)] at ge
          have hin : i < ni := by rw [HNI.out]; exact h2
          have q7 : decide ((ni : Int) ≤ (i : Int)) = false := by rw [decide_eq_false_iff_not]; omega
          have q7n : decide (ni ≤ i) = false := by rw [decide_eq_false_iff_not]; omega
          have SM := Lib.hid (fun W a1 a2 a3 a4 x1 x2 x3 x4 h k => same_any (j.its[i]'h2) (j.its[i]'h2) W a1 a2 a3 a4 x1 x2 x3 x4 h k)
          rw [J.same_refl] at SM
          generalize j.ks[i]'h1 = Y at *
          generalize j.its[i]'h2 = T at *
          subst e8
          subst e1
          have lb8 : b8 < wr.heap.size := Nat.lt_of_lt_of_le hb8 b2r.size
          have lb1 : b1' < wr.heap.size := Nat.lt_of_lt_of_le hb1 b2r.size
          have GE2 := Lib.hid ge
          have TV := Lib.hid (tv.more b2r.size)
          clear ge z0 h1 h2 h6 trr tv
          go_wp2_with fail
          with_reducible refine GE2.out.mono ?_
          rintro e w3 ⟨X3, x3, X4, x4, rfl, tx, b3⟩
          simp only [gotten, Option.getD_some, Option.isSome_some] at tx ⊢
          have s3 := b3.size
          have bl3 := bl.trans (b3.mono gsz)
          have hOwn := Nat.lt_of_lt_of_le (n := w2.heap.size) (by first | exact Nat.le_refl _ | assumption | (simp; done) | (simp; omega) | omega) (Below.size b3)
          have hOwn1 := Nat.ne_of_gt hOwn
          have hOwn2 := Nat.ne_of_lt hOwn
          have hOwn := (Below.cell b3 (p := ⟨w2.heap.size, 0, none⟩) (by first | exact Nat.le_refl _ | assumption | (simp; done) | (simp; omega) | omega)).trans (by go_simp; rfl)
          have hOwn := (Below.cell b3 (p := ⟨w2.heap.size, 1, none⟩) (by first | exact Nat.le_refl _ | assumption | (simp; done) | (simp; omega) | omega)).trans (by go_simp; rfl)
          have hOwn := (Below.cell b3 (p := ⟨w2.heap.size, 2, none⟩) (by first | exact Nat.le_refl _ | assumption | (simp; done) | (simp; omega) | omega)).trans (by go_simp; rfl)
          have hOwn := (Below.cell b3 (p := ⟨w2.heap.size, 3, none⟩) (by first | exact Nat.le_refl _ | assumption | (simp; done) | (simp; omega) | omega)).trans (by go_simp; rfl)
          have hOwn := (Below.cell b3 (p := ⟨w2.heap.size, 4, none⟩) (by first | exact Nat.le_refl _ | assumption | (simp; done) | (simp; omega) | omega)).trans (by go_simp; rfl)
          have hOwn := (Below.frozen b3 (p := ⟨w2.heap.size, 0, none⟩) (by first | exact Nat.le_refl _ | assumption | (simp; done) | (simp; omega) | omega)).trans (by go_simp; rfl)
          have hOwn := (Below.frozen b3 (p := ⟨w2.heap.size, 1, none⟩) (by first | exact Nat.le_refl _ | assumption | (simp; done) | (simp; omega) | omega)).trans (by go_simp; rfl)
          have hOwn := (Below.frozen b3 (p := ⟨w2.heap.size, 2, none⟩) (by first | exact Nat.le_refl _ | assumption | (simp; done) | (simp; omega) | omega)).trans (by go_simp; rfl)
          have hOwn := (Below.frozen b3 (p := ⟨w2.heap.size, 3, none⟩) (by first | exact Nat.le_refl _ | assumption | (simp; done) | (simp; omega) | omega)).trans (by go_simp; rfl)
          have hOwn := (Below.frozen b3 (p := ⟨w2.heap.size, 4, none⟩) (by first | exact Nat.le_refl _ | assumption | (simp; done) | (simp; omega) | omega)).trans (by go_simp; rfl)
          have u0 := (b3.cell (p := ⟨b1', o1 + i * 5, none⟩) lb1).trans v0
          have u1 := (b3.cell (p := ⟨b1', o1 + i * 5 + 1, none⟩) lb1).trans v1
          have u2_ := (b3.cell (p := ⟨b1', o1 + i * 5 + 2, none⟩) lb1).trans v2
          have u3 := (b3.cell (p := ⟨b1', o1 + i * 5 + 3, none⟩) lb1).trans v3
          have u4 := (b3.cell (p := ⟨b1', o1 + i * 5 + 4, none⟩) lb1).trans v4
          have TX := Lib.hid (tx.more s3)
          have TV3 := Lib.hid ((TV.out.below b3).more s3)
          clear tx v0 v1 v2 v3 v4
          have lb13 : b1' < w3.heap.size := by omega
          have lw23 : w2.heap.size < w3.heap.size := by omega
          go_wp2_with fail
          obtain ⟨w4, hw4⟩ : ∃ w4, w4 = w3.alloc (.cells #[.int .i64 T.k, .int .i64 T.n, .string T.t, .slice X3 T.its.length x3, .slice X4 T.ks.length x4] 27) := ⟨_, rfl⟩
          have t0 : w4.cell? ⟨w3.heap.size, 0, none⟩ = some (.int .i64 T.k) := by rw [hw4]; go_simp
          have t1 : w4.cell? ⟨w3.heap.size, 1, none⟩ = some (.int .i64 T.n) := by rw [hw4]; go_simp
          have t2 : w4.cell? ⟨w3.heap.size, 2, none⟩ = some (.string T.t) := by rw [hw4]; go_simp
          have t3 : w4.cell? ⟨w3.heap.size, 3, none⟩ = some (.slice X3 T.its.length x3) := by rw [hw4]; go_simp
          have t4 : w4.cell? ⟨w3.heap.size, 4, none⟩ = some (.slice X4 T.ks.length x4) := by rw [hw4]; go_simp
          have b34 : Below w3.heap.size w3 w4 := by rw [hw4]; exact (Below.refl _ _).alloc (Nat.le_refl _) _
          have z4_ : w4.heap.size = w3.heap.size + 1 := by rw [hw4]; simp
          have i3 : w4.cell? ⟨w2.heap.size, 3, none⟩ = some (.slice (some ⟨b1', o1, none⟩) ni c3) := by rw [hw4]; go_simp
          have u0 := (b34.cell (p := ⟨b1', o1 + i * 5, none⟩) lb13).trans u0
          have u1 := (b34.cell (p := ⟨b1', o1 + i * 5 + 1, none⟩) lb13).trans u1
          have u2_ := (b34.cell (p := ⟨b1', o1 + i * 5 + 2, none⟩) lb13).trans u2_
          have u3 := (b34.cell (p := ⟨b1', o1 + i * 5 + 3, none⟩) lb13).trans u3
          have u4 := (b34.cell (p := ⟨b1', o1 + i * 5 + 4, none⟩) lb13).trans u4
          have TX4 := Lib.hid ((TX.out.below b34).more b34.size)
          have TV4 := Lib.hid ((TV3.out.below b34).more b34.size)
          have bl4 := bl3.trans (b34.mono (by omega))
          rw [← hw4]
          have SMh := Lib.hid (fun W h k => SM.out W X3 X4 Z3 Z4 x3 x4 z3 z4 h k)
          clear hw4 hOwn hOwn1 hOwn2 TX TV3 TV
          go_region_held_law (fun w' => w'.cell? ⟨w3.heap.size, 0, none⟩ = some (.int .i64 T.k) ∧ w'.cell? ⟨w3.heap.size, 1, none⟩ = some (.int .i64 T.n) ∧ w'.cell? ⟨w3.heap.size, 2, none⟩ = some (.string T.t) ∧ w'.cell? ⟨w3.heap.size, 3, none⟩ = some (.slice X3 T.its.length x3) ∧ w'.cell? ⟨w3.heap.size, 4, none⟩ = some (.slice X4 T.ks.length x4) ∧ w'.cell? ⟨w2.heap.size, 3, none⟩ = some (.slice (some ⟨b1', o1, none⟩) ni c3) ∧ w'.cell? ⟨b1', o1 + i * 5, none⟩ = some (.int .i64 T.k) ∧ w'.cell? ⟨b1', o1 + i * 5 + 1, none⟩ = some (.int .i64 T.n) ∧ w'.cell? ⟨b1', o1 + i * 5 + 2, none⟩ = some (.string T.t) ∧ w'.cell? ⟨b1', o1 + i * 5 + 3, none⟩ = some (.slice Z3 T.its.length z3) ∧ w'.cell? ⟨b1', o1 + i * 5 + 4, none⟩ = some (.slice Z4 T.ks.length z4)) (exact ⟨(by first | with_reducible assumption | (go_simp; done)), (by first | with_reducible assumption | (go_simp; done)), (by first | with_reducible assumption | (go_simp; done)), (by first | with_reducible assumption | (go_simp; done)), (by first | with_reducible assumption | (go_simp; done)), (by first | with_reducible assumption | (go_simp; done)), (by first | with_reducible assumption | (go_simp; done)), (by first | with_reducible assumption | (go_simp; done)), (by first | with_reducible assumption | (go_simp; done)), (by first | with_reducible assumption | (go_simp; done)), (by first | with_reducible assumption | (go_simp; done))⟩)
            (first | (go_at_call 13; refine (SMh.out _ (TX4.out.drewN _) (TV4.out.drewN _)).mono ?_; rintro e w5 ⟨rfl, b5⟩; have k0_ := (Below.cell b5 (p := ⟨w3.heap.size, 0, none⟩) (by show w3.heap.size < w4.heap.size; omega)).trans t0; have k1_ := (Below.cell b5 (p := ⟨w3.heap.size, 1, none⟩) (by show w3.heap.size < w4.heap.size; omega)).trans t1; have k2_ := (Below.cell b5 (p := ⟨w3.heap.size, 2, none⟩) (by show w3.heap.size < w4.heap.size; omega)).trans t2; have k3_ := (Below.cell b5 (p := ⟨w3.heap.size, 3, none⟩) (by show w3.heap.size < w4.heap.size; omega)).trans t3; have k4_ := (Below.cell b5 (p := ⟨w3.heap.size, 4, none⟩) (by show w3.heap.size < w4.heap.size; omega)).trans t4; have k5_ := (Below.cell b5 (p := ⟨w2.heap.size, 3, none⟩) (by show w2.heap.size < w4.heap.size; omega)).trans i3; have k6_ := (Below.cell b5 (p := ⟨b1', o1 + i * 5, none⟩) (by show b1' < w4.heap.size; omega)).trans u0; have k7_ := (Below.cell b5 (p := ⟨b1', o1 + i * 5 + 1, none⟩) (by show b1' < w4.heap.size; omega)).trans u1; have k8_ := (Below.cell b5 (p := ⟨b1', o1 + i * 5 + 2, none⟩) (by show b1' < w4.heap.size; omega)).trans u2_; have k9_ := (Below.cell b5 (p := ⟨b1', o1 + i * 5 + 3, none⟩) (by show b1' < w4.heap.size; omega)).trans u3; have k10_ := (Below.cell b5 (p := ⟨b1', o1 + i * 5 + 4, none⟩) (by show b1' < w4.heap.size; omega)).trans u4))
          all_goals
            have bl5 := (bel_drewN bl4 _).trans (b5.mono (by have := bl4.size; rw [GZ.out] at this; exact this))
            go_wp2_with fail
            go_roundw
            case rel => exact ⟨i + 1, by omega, by go_num, bl5⟩
            case measure => simp [intOf]; omega
        · obtain rfl : i = nk := by omega
          have Lr := hL.below bwr top
          have TRR := Lib.hid trr
          clear trr
          go_wp2_with fail
          with_reducible refine (SAh.out _ Lr TRR.out).mono ?_
          rintro e w6 ⟨rfl, b6⟩
          have bw6 : Below w.heap.size w w6 := bwr.trans (b6.mono bwr.size)
          have hOwn := Nat.lt_of_lt_of_le (n := w2.heap.size) (by first | exact Nat.le_refl _ | assumption | (simp; done) | (simp; omega) | omega) (Below.size b6)
          have hOwn1 := Nat.ne_of_gt hOwn
          have hOwn2 := Nat.ne_of_lt hOwn
          have hOwn := (Below.cell b6 (p := ⟨w2.heap.size, 0, none⟩) (by first | exact Nat.le_refl _ | assumption | (simp; done) | (simp; omega) | omega)).trans (by go_simp; rfl)
          have hOwn := (Below.cell b6 (p := ⟨w2.heap.size, 1, none⟩) (by first | exact Nat.le_refl _ | assumption | (simp; done) | (simp; omega) | omega)).trans (by go_simp; rfl)
          have hOwn := (Below.cell b6 (p := ⟨w2.heap.size, 2, none⟩) (by first | exact Nat.le_refl _ | assumption | (simp; done) | (simp; omega) | omega)).trans (by go_simp; rfl)
          have hOwn := (Below.cell b6 (p := ⟨w2.heap.size, 3, none⟩) (by first | exact Nat.le_refl _ | assumption | (simp; done) | (simp; omega) | omega)).trans (by go_simp; rfl)
          have hOwn := (Below.cell b6 (p := ⟨w2.heap.size, 4, none⟩) (by first | exact Nat.le_refl _ | assumption | (simp; done) | (simp; omega) | omega)).trans (by go_simp; rfl)
          have hOwn := (Below.frozen b6 (p := ⟨w2.heap.size, 0, none⟩) (by first | exact Nat.le_refl _ | assumption | (simp; done) | (simp; omega) | omega)).trans (by go_simp; rfl)
          have hOwn := (Below.frozen b6 (p := ⟨w2.heap.size, 1, none⟩) (by first | exact Nat.le_refl _ | assumption | (simp; done) | (simp; omega) | omega)).trans (by go_simp; rfl)
          have hOwn := (Below.frozen b6 (p := ⟨w2.heap.size, 2, none⟩) (by first | exact Nat.le_refl _ | assumption | (simp; done) | (simp; omega) | omega)).trans (by go_simp; rfl)
          have hOwn := (Below.frozen b6 (p := ⟨w2.heap.size, 3, none⟩) (by first | exact Nat.le_refl _ | assumption | (simp; done) | (simp; omega) | omega)).trans (by go_simp; rfl)
          have hOwn := (Below.frozen b6 (p := ⟨w2.heap.size, 4, none⟩) (by first | exact Nat.le_refl _ | assumption | (simp; done) | (simp; omega) | omega)).trans (by go_simp; rfl)
          go_wp2_with fail
          with_reducible refine (DAh.out _ ((TRR.out.below b6).more b6.size)).mono ?_
          rintro e w7 ⟨rfl, b7⟩
          have bw7 : Below w.heap.size w w7 := bw6.trans (b7.mono bw6.size)
          go_wp2_with fail
          go_ret
          exact ⟨by simp, bw7⟩
    · have jz := PB.out he
      subst jz
      simp only [J.zero, J.k, J.n, J.t, J.its, J.ks, List.length_nil] at tr2 ⊢
      have qe : ((er : Int) != 0) = true := by rw [bne_iff_ne]; omega
      have SM := Lib.hid (fun W a1 a2 a3 a4 x1 x2 x3 x4 h k => same_any J.zero J.zero W a1 a2 a3 a4 x1 x2 x3 x4 h k)
      rw [J.same_refl] at SM
      have TR := Lib.hid tr2
      clear tr tr2 PS PB he
      go_wp2_with fail
      refine (SM.out _ A3 A4 none none c3 c4 0 0 ((TR.out.alloc (Nat.le_refl _) _).more (by simp)) (TreeS.zero_ _ _)).mono ?_
      rintro e w5 ⟨rfl, b5⟩
      have bw5 : Below w.heap.size w w5 := (bw2.alloc (by omega) _).trans (b5.mono (by simp; omega))
      go_wp2_with fail
      go_ret
      exact ⟨rfl, bw5⟩
end Go.Proofs.YtheeahnhdehloaaDoor
