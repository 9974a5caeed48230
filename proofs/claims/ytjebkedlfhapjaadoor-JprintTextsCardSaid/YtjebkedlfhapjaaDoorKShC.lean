/- The document's own answers for layer 8: may a tree be (kind 6). -/
import Derived.Test.YtjebkedlfhapjaaDoorKNum
import Derived.Deep.LoopGhost
namespace Go.Proofs.YtjebkedlfhapjaaDoor
open Go.ChangeShapes Go.WideShapes Go.ChangeAt Go.RowKit Mem

set_option maxRecDepth 100000 in
set_option maxHeartbeats 4000000 in
theorem rshape_6 (k n : Int) (s : ByteArray) (its : List J) (ks : List ByteArray) (hk : k = 6) (ih : ShIH its) (hW : (J.mk k n s its ks).wt ≤ 1000000) (w : World) (A3 A4 : Option Addr) (c3 c4 : Nat)
    (ht : TreeC w w.heap.size (.mk k n s its ks) [.int .i64 k, .int .i64 n, .string s, .slice A3 its.length c3, .slice A4 ks.length c4]) :
    Calls Tryd.prog 24 #[.agg #[.int .i64 k, .int .i64 n, .string s, .slice A3 its.length c3, .slice A4 ks.length c4]] w (Told (J.mk k n s its ks).frmb w) := by
  have CS := cell_set
  obtain ⟨_, _, _, _, e, hc3, hc4, rt, ft⟩ := ht.out
  simp only [J.k, J.n, J.t, J.its, J.ks, List.cons.injEq, Value.slice.injEq, true_and, and_true] at e hc3 hc4 rt ft
  obtain ⟨⟨rfl, rfl⟩, rfl, rfl⟩ := e
  have wt : (J.mk k n s its ks).wt = 1 + s.size + kwt ks + J.wts its := by unfold J.wt; rfl
  rw [wt] at hW
  have hss : s.size ≤ 100000000 := by omega
  have FR : Hid ((J.mk k n s its ks).frm ↔ (1 ≤ k ∧ k ≤ 6 ∧ (k ≠ 2 → k ≠ 3 → n = 0) ∧ (k = 2 → n = 0 ∨ n = 1) ∧ (k ≠ 4 → s = Jp.nil_) ∧ (Num.cU s.data.toList).isSome = true ∧ (k < 5 → its = []) ∧ (k ≠ 6 → ks = []) ∧ (k = 6 → ks.length = its.length) ∧ (∀ x ∈ ks, (Num.cU x.data.toList).isSome = true) ∧ ks.Nodup ∧ J.frms its)) := by show _ ↔ _; unfold J.frm; exact Iff.rfl
  have IH := Lib.hid ih
  unfold ShIH at IH
  have RT := Lib.hid rt; have FT := Lib.hid ft
  have KSZ := Lib.hid (fun i (h : i < ks.length) => (show (ks[i]'h).size ≤ 100000000 by have := kwt_at (l := ks) h; omega))
  have hb4 := hc4.2
  have hb3 := hc3.2
  have hr4 := hc4.1
  unfold maxLen at hb4 hb3
  obtain ⟨ni, hni⟩ : ∃ m, m = its.length := ⟨_, rfl⟩
  obtain ⟨nk, hnk⟩ : ∃ m, m = ks.length := ⟨_, rfl⟩
  have HNI := Lib.hid hni; have HNK := Lib.hid hnk
  have ITN : Hid (its = [] ↔ ni = 0) := by show _ ↔ _; rw [hni]; exact List.length_eq_zero_iff.symm
  have KSN : Hid (ks = [] ↔ nk = 0) := by show _ ↔ _; rw [hnk]; exact List.length_eq_zero_iff.symm
  rw [← hni] at hb3 ⊢
  rw [← hnk] at hb4 hr4 ⊢
  obtain ⟨T, hT⟩ : ∃ T, T = J.mk k n s its ks := ⟨_, rfl⟩
  rw [← hT] at FR ⊢
  have W1 : Below w.heap.size w (w.alloc (.cells #[.int .i64 k, .int .i64 n, .string s, .slice A3 ni c3, .slice A4 nk c4] 25)) := (Below.refl _ _).alloc (Nat.le_refl _) _
  have gz1 : (w.alloc (.cells #[.int .i64 k, .int .i64 n, .string s, .slice A3 ni c3, .slice A4 nk c4] 25)).heap.size = w.heap.size + 1 := by simp
  have GZ1 := Lib.hid gz1
  have nilU : Hid ((Num.cU (⟨#[]⟩ : ByteArray).data.toList).isSome = true) := by show _ = true; rw [show (⟨#[]⟩ : ByteArray).data.toList = [] from rfl, Num.cU_nil]; rfl
  have nilS : Hid (Jp.nil_ = (⟨#[]⟩ : ByteArray)) := rfl
  clear ht rt ft ih hc3 hc4 hni hnk gz1 hT wt hW
  subst hk
  by_cases hn : n ≠ 0
  · clear nilU
    have Z : Hid (T.frmb = false) := J.frmb_no fun h => by
      have h := FR.out.1 h
      have := h.2.2.1 (by decide) (by decide); omega
    clear FR IH KSZ ITN KSN
    go_enter Tryd.func24, Tryd.ntmps24
    simp only [List.append]
    go_wp2_with fail
    go_ret
    exact told_ret Z.out (by (repeat' (first | with_reducible assumption | with_reducible exact Below.refl _ _ | (with_reducible refine Below.alloc ?_ ?_ _; rotate_left; focus ((first | exact Nat.le_refl _ | (simp; done) | (simp; omega) | omega | fail))) | (with_reducible refine Below.setCell ?_ ?_ _; rotate_left; focus ((first | exact Nat.le_refl _ | (simp; done) | (simp; omega) | omega | fail))) | with_reducible refine Mem.bel_drewN ?_ _ | with_reducible refine Below.drew ?_ | (with_reducible refine Mem.bel_call (by with_reducible assumption) ?_ ?_; focus ((first | exact Nat.le_refl _ | (simp; done) | (simp; omega) | omega | fail))) | fail)))
  · obtain rfl : n = 0 := by omega
    clear hn
    by_cases hs : s ≠ ⟨#[]⟩
    · have sx : (s.toList != (⟨#[]⟩ : ByteArray).toList) = true := by rw [str_bne]; simpa using hs
      have sx2 : (s.toList == (⟨#[]⟩ : ByteArray).toList) = false := by rw [str_beq]; simpa using hs
      have sx3 : (s.toList != []) = true := by have := sx; rwa [show (⟨#[]⟩ : ByteArray).toList = [] by rw [ByteArray.toList_eq]] at this
      have sx4 : (s.toList == []) = false := by have := sx2; rwa [show (⟨#[]⟩ : ByteArray).toList = [] by rw [ByteArray.toList_eq]] at this
      have Z : Hid (T.frmb = false) := J.frmb_no fun h => by
        have h := FR.out.1 h
        exact hs (h.2.2.2.2.1 (by decide))
      clear FR IH KSZ ITN KSN
      go_enter Tryd.func24, Tryd.ntmps24
      simp only [List.append]
      go_wp2_with fail
      go_ret
      exact told_ret Z.out (by (repeat' (first | with_reducible assumption | with_reducible exact Below.refl _ _ | (with_reducible refine Below.alloc ?_ ?_ _; rotate_left; focus ((first | exact Nat.le_refl _ | (simp; done) | (simp; omega) | omega | fail))) | (with_reducible refine Below.setCell ?_ ?_ _; rotate_left; focus ((first | exact Nat.le_refl _ | (simp; done) | (simp; omega) | omega | fail))) | with_reducible refine Mem.bel_drewN ?_ _ | with_reducible refine Below.drew ?_ | (with_reducible refine Mem.bel_call (by with_reducible assumption) ?_ ?_; focus ((first | exact Nat.le_refl _ | (simp; done) | (simp; omega) | omega | fail))) | fail)))
    · obtain rfl : s = ⟨#[]⟩ := by by_cases g : s = ⟨#[]⟩; exact g; exact absurd g hs
      have UU := nilU
      clear hs
      by_cases hq : nk ≠ ni
      · have HQ := Lib.hid hq
        have qn : ((nk : Int) != (ni : Int)) = true := by rw [bne_iff_ne]; omega
        have Z : Hid (T.frmb = false) := J.frmb_no fun h => by
          have h := FR.out.1 h
          have := h.2.2.2.2.2.2.2.2.1 rfl; have := HNK.out; have := HNI.out; exact HQ.out (by omega)
        clear FR IH KSZ ITN KSN
        go_enter Tryd.func24, Tryd.ntmps24
        simp only [List.append]
        go_wp2_with fail
        with_reducible refine (rtext_any _ _ (by first | assumption | decide)).mono ?_
        rintro e w2 ⟨rfl, b2⟩
        rw [GZ1.out] at b2
        have hOwn := Nat.lt_of_lt_of_le (n := w.heap.size) (by first | exact Nat.le_refl _ | assumption | (simp; done) | (simp; omega) | omega) (Below.size b2)
        have hOwn1 := Nat.ne_of_gt hOwn
        have hOwn2 := Nat.ne_of_lt hOwn
        have hOwn := (Below.cell b2 (p := ⟨w.heap.size, 0, none⟩) (by first | exact Nat.le_refl _ | assumption | (simp; done) | (simp; omega) | omega)).trans (by go_simp; rfl)
        have hOwn := (Below.cell b2 (p := ⟨w.heap.size, 1, none⟩) (by first | exact Nat.le_refl _ | assumption | (simp; done) | (simp; omega) | omega)).trans (by go_simp; rfl)
        have hOwn := (Below.cell b2 (p := ⟨w.heap.size, 2, none⟩) (by first | exact Nat.le_refl _ | assumption | (simp; done) | (simp; omega) | omega)).trans (by go_simp; rfl)
        have hOwn := (Below.cell b2 (p := ⟨w.heap.size, 3, none⟩) (by first | exact Nat.le_refl _ | assumption | (simp; done) | (simp; omega) | omega)).trans (by go_simp; rfl)
        have hOwn := (Below.cell b2 (p := ⟨w.heap.size, 4, none⟩) (by first | exact Nat.le_refl _ | assumption | (simp; done) | (simp; omega) | omega)).trans (by go_simp; rfl)
        have hOwn := (Below.frozen b2 (p := ⟨w.heap.size, 0, none⟩) (by first | exact Nat.le_refl _ | assumption | (simp; done) | (simp; omega) | omega)).trans (by go_simp; rfl)
        have hOwn := (Below.frozen b2 (p := ⟨w.heap.size, 1, none⟩) (by first | exact Nat.le_refl _ | assumption | (simp; done) | (simp; omega) | omega)).trans (by go_simp; rfl)
        have hOwn := (Below.frozen b2 (p := ⟨w.heap.size, 2, none⟩) (by first | exact Nat.le_refl _ | assumption | (simp; done) | (simp; omega) | omega)).trans (by go_simp; rfl)
        have hOwn := (Below.frozen b2 (p := ⟨w.heap.size, 3, none⟩) (by first | exact Nat.le_refl _ | assumption | (simp; done) | (simp; omega) | omega)).trans (by go_simp; rfl)
        have hOwn := (Below.frozen b2 (p := ⟨w.heap.size, 4, none⟩) (by first | exact Nat.le_refl _ | assumption | (simp; done) | (simp; omega) | omega)).trans (by go_simp; rfl)
        rw [UU.out]
        go_wp2_with fail
        go_ret
        exact told_ret Z.out (by (repeat' (first | with_reducible assumption | with_reducible exact Below.refl _ _ | (with_reducible refine Below.alloc ?_ ?_ _; rotate_left; focus ((first | exact Nat.le_refl _ | (simp; done) | (simp; omega) | omega | fail))) | (with_reducible refine Below.setCell ?_ ?_ _; rotate_left; focus ((first | exact Nat.le_refl _ | (simp; done) | (simp; omega) | omega | fail))) | with_reducible refine Mem.bel_drewN ?_ _ | with_reducible refine Below.drew ?_ | (with_reducible refine Mem.bel_call (by with_reducible assumption) ?_ ?_; focus ((first | exact Nat.le_refl _ | (simp; done) | (simp; omega) | omega | fail))) | fail)))
      · have HQ0 : Hid (nk = ni) := by show _ = _; omega
        have hq0 := HQ0.out
        have qn : ((nk : Int) != (ni : Int)) = false := by rw [bne_eq_false_iff_eq]; omega
        clear hq0 hq
        have OK : Hid (T.frm ↔ (∀ x ∈ ks, (Num.cU x.data.toList).isSome = true) ∧ ks.Nodup ∧ J.frms its) := by
          show _ ↔ _
          rw [FR.out]
          exact ⟨fun h => h.2.2.2.2.2.2.2.2.2, fun h => ⟨by decide, by decide, fun _ _ => rfl, fun e => absurd e (by decide), fun _ => rfl, UU.out, fun e => absurd e (by decide), fun e => absurd rfl e, fun _ => by rw [← HNK.out, ← HNI.out, HQ0.out], h⟩⟩
        clear FR ITN KSN
        go_enter Tryd.func24, Tryd.ntmps24
        simp only [List.append]
        go_wp2_with fail
        with_reducible refine (rtext_any _ _ (by first | assumption | decide)).mono ?_
        rintro e w2 ⟨rfl, b2⟩
        rw [GZ1.out] at b2
        have hOwn := Nat.lt_of_lt_of_le (n := w.heap.size) (by first | exact Nat.le_refl _ | assumption | (simp; done) | (simp; omega) | omega) (Below.size b2)
        have hOwn1 := Nat.ne_of_gt hOwn
        have hOwn2 := Nat.ne_of_lt hOwn
        have hOwn := (Below.cell b2 (p := ⟨w.heap.size, 0, none⟩) (by first | exact Nat.le_refl _ | assumption | (simp; done) | (simp; omega) | omega)).trans (by go_simp; rfl)
        have hOwn := (Below.cell b2 (p := ⟨w.heap.size, 1, none⟩) (by first | exact Nat.le_refl _ | assumption | (simp; done) | (simp; omega) | omega)).trans (by go_simp; rfl)
        have hOwn := (Below.cell b2 (p := ⟨w.heap.size, 2, none⟩) (by first | exact Nat.le_refl _ | assumption | (simp; done) | (simp; omega) | omega)).trans (by go_simp; rfl)
        have hOwn := (Below.cell b2 (p := ⟨w.heap.size, 3, none⟩) (by first | exact Nat.le_refl _ | assumption | (simp; done) | (simp; omega) | omega)).trans (by go_simp; rfl)
        have hOwn := (Below.cell b2 (p := ⟨w.heap.size, 4, none⟩) (by first | exact Nat.le_refl _ | assumption | (simp; done) | (simp; omega) | omega)).trans (by go_simp; rfl)
        have hOwn := (Below.frozen b2 (p := ⟨w.heap.size, 0, none⟩) (by first | exact Nat.le_refl _ | assumption | (simp; done) | (simp; omega) | omega)).trans (by go_simp; rfl)
        have hOwn := (Below.frozen b2 (p := ⟨w.heap.size, 1, none⟩) (by first | exact Nat.le_refl _ | assumption | (simp; done) | (simp; omega) | omega)).trans (by go_simp; rfl)
        have hOwn := (Below.frozen b2 (p := ⟨w.heap.size, 2, none⟩) (by first | exact Nat.le_refl _ | assumption | (simp; done) | (simp; omega) | omega)).trans (by go_simp; rfl)
        have hOwn := (Below.frozen b2 (p := ⟨w.heap.size, 3, none⟩) (by first | exact Nat.le_refl _ | assumption | (simp; done) | (simp; omega) | omega)).trans (by go_simp; rfl)
        have hOwn := (Below.frozen b2 (p := ⟨w.heap.size, 4, none⟩) (by first | exact Nat.le_refl _ | assumption | (simp; done) | (simp; omega) | omega)).trans (by go_simp; rfl)
        rw [UU.out]
        go_wp2_with fail
        go_loopw [3] (fun t wr => ∃ i : Nat, i ≤ nk ∧ t = .int .i64 (i : Int) ∧ Hid ((∀ m (h : m < ks.length), m < i → (Num.cU (ks[m]'h).data.toList).isSome = true) ∧ (∀ a b (ha : a < ks.length) (hb : b < ks.length), a < b → b < i → ks[a]'ha ≠ ks[b]'hb)) ∧ Below (w.heap.size + 1) w2 wr) (fun t _ => nk - (intOf t).toNat)
        case atStart => exact ⟨0, Nat.zero_le _, rfl, ⟨fun _ _ h => absurd h (Nat.not_lt_zero _), fun _ _ _ _ _ h => absurd h (Nat.not_lt_zero _)⟩, Below.refl _ _⟩
        case round =>
          obtain ⟨i, hi, rfl, KR, bl0⟩ := hrel
          have bl := b2.trans bl0
          have gsz := bl.size
          rw [GZ1.out] at gsz
          have blw := W1.trans (bl.mono (by omega))
          have hOwn := Nat.lt_of_lt_of_le (n := w.heap.size) (by first | exact Nat.le_refl _ | assumption | (simp; done) | (simp; omega) | omega) (Below.size bl)
          have hOwn1 := Nat.ne_of_gt hOwn
          have hOwn2 := Nat.ne_of_lt hOwn
          have hOwn := (Below.cell bl (p := ⟨w.heap.size, 0, none⟩) (by first | exact Nat.le_refl _ | assumption | (simp; done) | (simp; omega) | omega)).trans (by go_simp; rfl)
          have hOwn := (Below.cell bl (p := ⟨w.heap.size, 1, none⟩) (by first | exact Nat.le_refl _ | assumption | (simp; done) | (simp; omega) | omega)).trans (by go_simp; rfl)
          have hOwn := (Below.cell bl (p := ⟨w.heap.size, 2, none⟩) (by first | exact Nat.le_refl _ | assumption | (simp; done) | (simp; omega) | omega)).trans (by go_simp; rfl)
          have hOwn := (Below.cell bl (p := ⟨w.heap.size, 3, none⟩) (by first | exact Nat.le_refl _ | assumption | (simp; done) | (simp; omega) | omega)).trans (by go_simp; rfl)
          have hOwn := (Below.cell bl (p := ⟨w.heap.size, 4, none⟩) (by first | exact Nat.le_refl _ | assumption | (simp; done) | (simp; omega) | omega)).trans (by go_simp; rfl)
          have hOwn := (Below.frozen bl (p := ⟨w.heap.size, 0, none⟩) (by first | exact Nat.le_refl _ | assumption | (simp; done) | (simp; omega) | omega)).trans (by go_simp; rfl)
          have hOwn := (Below.frozen bl (p := ⟨w.heap.size, 1, none⟩) (by first | exact Nat.le_refl _ | assumption | (simp; done) | (simp; omega) | omega)).trans (by go_simp; rfl)
          have hOwn := (Below.frozen bl (p := ⟨w.heap.size, 2, none⟩) (by first | exact Nat.le_refl _ | assumption | (simp; done) | (simp; omega) | omega)).trans (by go_simp; rfl)
          have hOwn := (Below.frozen bl (p := ⟨w.heap.size, 3, none⟩) (by first | exact Nat.le_refl _ | assumption | (simp; done) | (simp; omega) | omega)).trans (by go_simp; rfl)
          have hOwn := (Below.frozen bl (p := ⟨w.heap.size, 4, none⟩) (by first | exact Nat.le_refl _ | assumption | (simp; done) | (simp; omega) | omega)).trans (by go_simp; rfl)
          by_cases hik : i < nk
          · have h1 : i < ks.length := by rw [← HNK.out]; exact hik
            obtain ⟨b8, o8, e8, hb8, z0⟩ := fl_str FT.out h1
            have z1 := (blw.cell (p := ⟨b8, o8 + i, none⟩) hb8).trans z0
            have lb8 : b8 < w.heap.size := hb8
            have CELL := Lib.hid (fun j (hj : j < ks.length) => fl_str FT.out hj)
            have hi4 : (i : Int) ≤ (c4 : Int) := by omega
            have ysz := KSZ.out i h1
            by_cases hu : (Num.cU (ks[i]'h1).data.toList).isSome = false
            · have Z : Hid (T.frmb = false) := J.frmb_no fun h => by
                have := (OK.out.1 h).1 _ (List.getElem_mem h1); rw [hu] at this; cases this
              have HU := Lib.hid hu
              clear hu OK KR
              generalize ks[i]'h1 = Y at *
              subst e8
              clear h1 z0
              go_wp2_with fail
              with_reducible refine (rtext_any _ _ (by assumption)).mono ?_
              rintro e w5 ⟨rfl, b5⟩
              rw [HU.out]
              go_wp2_with fail
              go_ret
              exact told_ret Z.out (blw.trans (b5.mono (by omega)))
            · have HU : Hid ((Num.cU (ks[i]'h1).data.toList).isSome = true) := (Bool.eq_false_or_eq_true _).resolve_right hu
              have GO : Hid (∀ (hn : ∀ j (h : j < ks.length), j < i → ks[j]'h ≠ ks[i]'h1), (∀ m (h : m < ks.length), m < i + 1 → (Num.cU (ks[m]'h).data.toList).isSome = true) ∧ (∀ a b (ha : a < ks.length) (hb : b < ks.length), a < b → b < i + 1 → ks[a]'ha ≠ ks[b]'hb)) := fun hn => by
                refine ⟨fun m h hm => ?_, fun a b ha hb hab hbi => ?_⟩
                · rcases Nat.lt_or_ge m i with g | g
                  · exact KR.out.1 m h g
                  · obtain rfl : m = i := by omega
                    exact HU.out
                · rcases Nat.lt_or_ge b i with g | g
                  · exact KR.out.2 a b ha hb hab g
                  · obtain rfl : b = i := by omega
                    exact hn a ha hab
              have BADK : Hid (∀ j (h : j < ks.length), j < i → ks[j]'h = ks[i]'h1 → T.frmb = false) := fun j h hj e => J.frmb_no fun g => by
                exact List.pairwise_iff_getElem.1 (OK.out.1 g).2.1 j i h h1 hj e
              clear hu KR
              generalize ks[i]'h1 = Y at *
              subst e8
              clear h1 z0
              go_wp2_with fail
              with_reducible refine (rtext_any _ _ (by assumption)).mono ?_
              rintro e w5 ⟨rfl, b5⟩
              rw [HU.out]
              have b5w := bl.trans (b5.mono (by omega))
              have b50 := bl0.trans (b5.mono (by omega))
              have s5 := b5.size
              have blw5 := W1.trans (b5w.mono (by omega))
              have hOwn := Nat.lt_of_lt_of_le (n := w.heap.size) (by first | exact Nat.le_refl _ | assumption | (simp; done) | (simp; omega) | omega) (Below.size b5w)
              have hOwn1 := Nat.ne_of_gt hOwn
              have hOwn2 := Nat.ne_of_lt hOwn
              have hOwn := (Below.cell b5w (p := ⟨w.heap.size, 0, none⟩) (by first | exact Nat.le_refl _ | assumption | (simp; done) | (simp; omega) | omega)).trans (by go_simp; rfl)
              have hOwn := (Below.cell b5w (p := ⟨w.heap.size, 1, none⟩) (by first | exact Nat.le_refl _ | assumption | (simp; done) | (simp; omega) | omega)).trans (by go_simp; rfl)
              have hOwn := (Below.cell b5w (p := ⟨w.heap.size, 2, none⟩) (by first | exact Nat.le_refl _ | assumption | (simp; done) | (simp; omega) | omega)).trans (by go_simp; rfl)
              have hOwn := (Below.cell b5w (p := ⟨w.heap.size, 3, none⟩) (by first | exact Nat.le_refl _ | assumption | (simp; done) | (simp; omega) | omega)).trans (by go_simp; rfl)
              have hOwn := (Below.cell b5w (p := ⟨w.heap.size, 4, none⟩) (by first | exact Nat.le_refl _ | assumption | (simp; done) | (simp; omega) | omega)).trans (by go_simp; rfl)
              have hOwn := (Below.frozen b5w (p := ⟨w.heap.size, 0, none⟩) (by first | exact Nat.le_refl _ | assumption | (simp; done) | (simp; omega) | omega)).trans (by go_simp; rfl)
              have hOwn := (Below.frozen b5w (p := ⟨w.heap.size, 1, none⟩) (by first | exact Nat.le_refl _ | assumption | (simp; done) | (simp; omega) | omega)).trans (by go_simp; rfl)
              have hOwn := (Below.frozen b5w (p := ⟨w.heap.size, 2, none⟩) (by first | exact Nat.le_refl _ | assumption | (simp; done) | (simp; omega) | omega)).trans (by go_simp; rfl)
              have hOwn := (Below.frozen b5w (p := ⟨w.heap.size, 3, none⟩) (by first | exact Nat.le_refl _ | assumption | (simp; done) | (simp; omega) | omega)).trans (by go_simp; rfl)
              have hOwn := (Below.frozen b5w (p := ⟨w.heap.size, 4, none⟩) (by first | exact Nat.le_refl _ | assumption | (simp; done) | (simp; omega) | omega)).trans (by go_simp; rfl)
              have z5 := (b5.cell (p := ⟨b8, o8 + i, none⟩) (by simp; omega)).trans z1
              go_wp2_with fail
              go_loopw [4] (fun t wq => ∃ j : Nat, j ≤ i ∧ t = .int .i64 (j : Int) ∧ Hid (∀ m (h : m < ks.length), m < j → ks[m]'h ≠ Y) ∧ Drewn7 w5 wq) (fun t _ => i - (intOf t).toNat)
              case atStart => exact ⟨0, Nat.zero_le _, rfl, fun _ _ h => absurd h (Nat.not_lt_zero _), ⟨0, rfl⟩⟩
              case round =>
                obtain ⟨j, hj, rfl, NE, ⟨nd, rfl⟩⟩ := hrel
                by_cases hji : j < i
                · have h2 : j < ks.length := by rw [← HNK.out]; omega
                  obtain ⟨b9, o9, e9, hb9, z9⟩ := CELL.out j h2
                  simp only [Option.some.injEq, Addr.mk.injEq, and_true] at e9
                  obtain ⟨rfl, rfl⟩ := e9
                  have z10 := (blw5.cell (p := ⟨b8, o8 + j, none⟩) hb9).trans z9
                  have ne := NE.out
                  have bad := BADK.out j h2 hji
                  by_cases hx : ks[j]'h2 = Y
                  · have Z := Lib.hid (bad hx)
                    have sx : ((ks[j]'h2).toList == Y.toList) = true := by rw [str_beq]; simpa using hx
                    generalize ks[j]'h2 = X at *
                    clear ne bad hx h2 z9 OK GO BADK NE
                    go_wp2_with fail
                    go_quiet (fail)
                    go_wp2_with fail
                    go_ret
                    exact told_ret Z.out (by (repeat' (first | with_reducible assumption | with_reducible exact Below.refl _ _ | (with_reducible refine Below.alloc ?_ ?_ _; rotate_left; focus ((first | exact Nat.le_refl _ | (simp; done) | (simp; omega) | omega | fail))) | (with_reducible refine Below.setCell ?_ ?_ _; rotate_left; focus ((first | exact Nat.le_refl _ | (simp; done) | (simp; omega) | omega | fail))) | with_reducible refine Mem.bel_drewN ?_ _ | with_reducible refine Below.drew ?_ | (with_reducible refine Mem.bel_call (by with_reducible assumption) ?_ ?_; focus ((first | exact Nat.le_refl _ | (simp; done) | (simp; omega) | omega | fail))) | fail)))
                  · have NE2 : Hid (∀ q (h : q < ks.length), q < j + 1 → ks[q]'h ≠ Y) := fun q h hq => by
                      rcases Nat.lt_or_ge q j with g | g
                      · exact ne q h g
                      · obtain rfl : q = j := by omega
                        exact hx
                    have sx : ((ks[j]'h2).toList == Y.toList) = false := by rw [str_beq]; simpa using hx
                    generalize ks[j]'h2 = X at *
                    clear ne bad hx h2 z9 NE
                    go_wp2_with fail
                    go_quiet (fail)
                    go_wp2_with fail
                    go_roundw
                    case rel => exact ⟨j + 1, by omega, by go_num, NE2, ⟨_, rfl⟩⟩
                    case measure => simp [intOf]; omega
                · obtain rfl : j = i := by omega
                  have GO2 := Lib.hid (GO.out NE.out)
                  clear hji GO BADK NE
                  go_wp2_with fail
                  go_roundw
                  case rel => exact ⟨j + 1, by omega, by go_num, GO2, (by (repeat' (first | with_reducible assumption | with_reducible exact Below.refl _ _ | (with_reducible refine Below.alloc ?_ ?_ _; rotate_left; focus ((first | exact Nat.le_refl _ | (simp; done) | (simp; omega) | omega | fail))) | (with_reducible refine Below.setCell ?_ ?_ _; rotate_left; focus ((first | exact Nat.le_refl _ | (simp; done) | (simp; omega) | omega | fail))) | with_reducible refine Mem.bel_drewN ?_ _ | with_reducible refine Below.drew ?_ | (with_reducible refine Mem.bel_call (by with_reducible assumption) ?_ ?_; focus ((first | exact Nat.le_refl _ | (simp; done) | (simp; omega) | omega | fail))) | fail)))⟩
                  case measure => simp [intOf]; omega
          · obtain rfl : i = nk := by omega
            have OK2 : Hid (T.frm ↔ J.frms its) := by
              show _ ↔ _
              rw [OK.out]
              refine ⟨fun h => h.2.2, fun h => ⟨fun x hx => ?_, ?_, h⟩⟩
              · obtain ⟨m, hm, e⟩ := List.getElem_of_mem hx
                rw [← e]; exact KR.out.1 m hm (by have := HNK.out; omega)
              · exact List.pairwise_iff_getElem.2 fun a b ha hb hab => KR.out.2 a b ha hb hab (by have := HNK.out; omega)
            clear hik OK KR
            go_wp2_with fail
            go_loopw [5] (fun t wq => ∃ p : Nat, p ≤ ni ∧ t = .int .i64 (p : Int) ∧ Hid (∀ m (h : m < its.length), m < p → (its[m]'h).frm) ∧ Below (w.heap.size + 1) wr wq) (fun t _ => ni - (intOf t).toNat)
            case atStart => exact ⟨0, Nat.zero_le _, rfl, fun _ _ h => absurd h (Nat.not_lt_zero _), Below.refl _ _⟩
            case round =>
              obtain ⟨p, hp, rfl, FI, bl2⟩ := hrel
              have blq := bl.trans bl2
              have gsz2 := blq.size
              rw [GZ1.out] at gsz2
              have blw2 := W1.trans (blq.mono (by omega))
              have hOwn := Nat.lt_of_lt_of_le (n := w.heap.size) (by first | exact Nat.le_refl _ | assumption | (simp; done) | (simp; omega) | omega) (Below.size blq)
              have hOwn1 := Nat.ne_of_gt hOwn
              have hOwn2 := Nat.ne_of_lt hOwn
              have hOwn := (Below.cell blq (p := ⟨w.heap.size, 0, none⟩) (by first | exact Nat.le_refl _ | assumption | (simp; done) | (simp; omega) | omega)).trans (by go_simp; rfl)
              have hOwn := (Below.cell blq (p := ⟨w.heap.size, 1, none⟩) (by first | exact Nat.le_refl _ | assumption | (simp; done) | (simp; omega) | omega)).trans (by go_simp; rfl)
              have hOwn := (Below.cell blq (p := ⟨w.heap.size, 2, none⟩) (by first | exact Nat.le_refl _ | assumption | (simp; done) | (simp; omega) | omega)).trans (by go_simp; rfl)
              have hOwn := (Below.cell blq (p := ⟨w.heap.size, 3, none⟩) (by first | exact Nat.le_refl _ | assumption | (simp; done) | (simp; omega) | omega)).trans (by go_simp; rfl)
              have hOwn := (Below.cell blq (p := ⟨w.heap.size, 4, none⟩) (by first | exact Nat.le_refl _ | assumption | (simp; done) | (simp; omega) | omega)).trans (by go_simp; rfl)
              have hOwn := (Below.frozen blq (p := ⟨w.heap.size, 0, none⟩) (by first | exact Nat.le_refl _ | assumption | (simp; done) | (simp; omega) | omega)).trans (by go_simp; rfl)
              have hOwn := (Below.frozen blq (p := ⟨w.heap.size, 1, none⟩) (by first | exact Nat.le_refl _ | assumption | (simp; done) | (simp; omega) | omega)).trans (by go_simp; rfl)
              have hOwn := (Below.frozen blq (p := ⟨w.heap.size, 2, none⟩) (by first | exact Nat.le_refl _ | assumption | (simp; done) | (simp; omega) | omega)).trans (by go_simp; rfl)
              have hOwn := (Below.frozen blq (p := ⟨w.heap.size, 3, none⟩) (by first | exact Nat.le_refl _ | assumption | (simp; done) | (simp; omega) | omega)).trans (by go_simp; rfl)
              have hOwn := (Below.frozen blq (p := ⟨w.heap.size, 4, none⟩) (by first | exact Nat.le_refl _ | assumption | (simp; done) | (simp; omega) | omega)).trans (by go_simp; rfl)
              by_cases hpn : p < ni
              · have h1' : p < its.length := by rw [← HNI.out]; exact hpn
                obtain ⟨b1, o1, X3, x3, X4, x4, e1, hb1, y0, y1, y2, y3, y4, ty⟩ := (RT.out.below blw2).cells h1'
                have I2 := Lib.hid (fun W a => IH.out p h1' W X3 X4 x3 x4 a)
                have FI2 : Hid ((its[p]'h1').frm → ∀ m (h : m < its.length), m < p + 1 → (its[m]'h).frm) := fun hf m h hm => by
                  rcases Nat.lt_or_ge m p with g | g
                  · exact FI.out m h g
                  · obtain rfl : m = p := by omega
                    exact hf
                have NO : Hid (¬ (its[p]'h1').frm → T.frmb = false) := fun hf => J.frmb_no fun h => hf (J.frms_iff.1 (OK2.out.1 h) p h1')
                generalize its[p]'h1' = T' at *
                subst e1
                have TY := Lib.hid (ty.more (show w.heap.size ≤ _ from blw2.size))
                have lb1 := Nat.lt_of_lt_of_le hb1 blw2.size
                clear ty h1' FI
                by_cases hf : T'.frm
                · have FB := Lib.hid (J.frmb_yes hf)
                  have FI3 := Lib.hid (FI2.out hf)
                  clear FI2 NO hf
                  go_wp2_with fail
                  with_reducible refine (I2.out _ TY.out).mono ?_
                  rintro e w7 ⟨rfl, b7⟩
                  rw [FB.out]
                  have b27 := bl2.trans (b7.mono gsz2)
                  go_wp2_with fail
                  go_roundw
                  case rel => exact ⟨p + 1, by omega, by go_num, FI3, b27⟩
                  case measure => simp [intOf]; omega
                · have FB := Lib.hid (J.frmb_no hf)
                  have Z := Lib.hid (NO.out hf)
                  clear FI2 NO hf
                  go_wp2_with fail
                  with_reducible refine (I2.out _ TY.out).mono ?_
                  rintro e w7 ⟨rfl, b7⟩
                  rw [FB.out]
                  go_wp2_with fail
                  go_ret
                  exact told_ret Z.out (by (repeat' (first | with_reducible assumption | with_reducible exact Below.refl _ _ | (with_reducible refine Below.alloc ?_ ?_ _; rotate_left; focus ((first | exact Nat.le_refl _ | (simp; done) | (simp; omega) | omega | fail))) | (with_reducible refine Below.setCell ?_ ?_ _; rotate_left; focus ((first | exact Nat.le_refl _ | (simp; done) | (simp; omega) | omega | fail))) | with_reducible refine Mem.bel_drewN ?_ _ | with_reducible refine Below.drew ?_ | (with_reducible refine Mem.bel_call (by with_reducible assumption) ?_ ?_; focus ((first | exact Nat.le_refl _ | (simp; done) | (simp; omega) | omega | fail))) | fail)))
              · obtain rfl : p = ni := by omega
                have Z : Hid (T.frmb = true) := J.frmb_yes (OK2.out.2 (J.frms_iff.2 fun m h => FI.out m h (by have := HNI.out; omega)))
                clear hpn
                go_wp2_with fail
                go_ret
                exact told_ret Z.out (by (repeat' (first | with_reducible assumption | with_reducible exact Below.refl _ _ | (with_reducible refine Below.alloc ?_ ?_ _; rotate_left; focus ((first | exact Nat.le_refl _ | (simp; done) | (simp; omega) | omega | fail))) | (with_reducible refine Below.setCell ?_ ?_ _; rotate_left; focus ((first | exact Nat.le_refl _ | (simp; done) | (simp; omega) | omega | fail))) | with_reducible refine Mem.bel_drewN ?_ _ | with_reducible refine Below.drew ?_ | (with_reducible refine Mem.bel_call (by with_reducible assumption) ?_ ?_; focus ((first | exact Nat.le_refl _ | (simp; done) | (simp; omega) | omega | fail))) | fail)))
end Go.Proofs.YtjebkedlfhapjaaDoor
