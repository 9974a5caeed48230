/- Joined by tools/bundle.py: KShC KRr R10R. -/
import Derived.Deep.LoopGhost
import Derived.Deep.CutRange
import Derived.BigQuiet
import Derived.Test.YtpmgjpchpmkklaaGreatDoorT4
import Derived.Test.YtpmgjpchpmkklaaGreatDoorT5
import Derived.Test.YtpmgjpchpmkklaaGreatDoorT6
import Derived.Test.YtpmgjpchpmkklaaGreatDoorT7
import Derived.Test.YtpmgjpchpmkklaaGreatDoorT15
import Derived.Test.YtpmgjpchpmkklaaGreatDoorT19
import Derived.Test.YtpmgjpchpmkklaaGreatDoorT21
import Derived.Test.YtpmgjpchpmkklaaGreatDoorT22
import Derived.Test.YtpmgjpchpmkklaaGreatDoorT0
set_option maxRecDepth 100000
set_option maxHeartbeats 16000000
namespace Go.Proofs.YtpmgjpchpmkklaaGreatDoor
open Go.ChangeShapes Go.WideShapes Go.ChangeAt Go.RowKit Mem
theorem rshape_6 (k n : Int) (s : ByteArray) (its : List J) (ks : List ByteArray) (hk : k = 6) (ih : ShIH its) (hW : (J.mk k n s its ks).wt ≤ 1000000) (w : World) (A3 A4 : Option Addr) (c3 c4 : Nat)
 (ht : TreeC w w.heap.size (.mk k n s its ks) [.int .i64 k, .int .i64 n, .string s, .slice A3 its.length c3, .slice A4 ks.length c4]) :
 Calls Tryz.prog 80 #[.agg #[.int .i64 k, .int .i64 n, .string s, .slice A3 its.length c3, .slice A4 ks.length c4]] w (Told (J.mk k n s its ks).frmb w) := by
 have CS := cell_set
 obtain ⟨_, _, _, _, e, hc3, hc4, rt, ft⟩ := ht.out
 simp only [J.k, J.n, J.t, J.its, J.ks, List.cons.injEq, Value.slice.injEq, true_and, and_true] at e hc3 hc4 rt ft
 obtain ⟨⟨rfl, rfl⟩, rfl, rfl⟩ := e
 have wt : (J.mk k n s its ks).wt = 1 + s.size + kwt ks + J.wts its := by unfold J.wt; rfl
 rw [wt] at hW
 have hss : s.size ≤ 100000000 := by omega
 have FR : Hid ((J.mk k n s its ks).frm ↔ (1 ≤ k ∧ k ≤ 6 ∧ (k ≠ 2 → k ≠ 3 → n = 0) ∧ (k = 2 → n = 0 ∨ n = 1) ∧ (k ≠ 4 → s = Jp.nil_) ∧ (Num.cU s.data.toList).isSome = true ∧ (k < 5 → its = []) ∧ (k ≠ 6 → ks = []) ∧ (k = 6 → ks.length = its.length) ∧ (∀ x ∈ ks, (Num.cU x.data.toList).isSome = true) ∧ ks.Nodup ∧ J.frms its)) := by show _ ↔ _; unfold J.frm; exact Iff.rfl
 have IH := Lib.hid ih
 unfold ShIH at IH
 have RT := Lib.hid rt; have FT := Lib.hid ft
 have KSZ := Lib.hid (fun i (h : i < ks.length) => (show (ks[i]'h).size ≤ 100000000 by have := kwt_at (l := ks) h; omega))
 have hb4 := hc4.2
 have hb3 := hc3.2
 have hr4 := hc4.1
 unfold maxLen at hb4 hb3
 obtain ⟨ni, hni⟩ : ∃ m, m = its.length := ⟨_, rfl⟩
 obtain ⟨nk, hnk⟩ : ∃ m, m = ks.length := ⟨_, rfl⟩
 have HNI := Lib.hid hni; have HNK := Lib.hid hnk
 have ITN : Hid (its = [] ↔ ni = 0) := by show _ ↔ _; rw [hni]; exact List.length_eq_zero_iff.symm
 have KSN : Hid (ks = [] ↔ nk = 0) := by show _ ↔ _; rw [hnk]; exact List.length_eq_zero_iff.symm
 rw [← hni] at hb3 ⊢
 rw [← hnk] at hb4 hr4 ⊢
 obtain ⟨T, hT⟩ : ∃ T, T = J.mk k n s its ks := ⟨_, rfl⟩
 rw [← hT] at FR ⊢
 have W1 : Below w.heap.size w (w.alloc (.cells #[.int .i64 k, .int .i64 n, .string s, .slice A3 ni c3, .slice A4 nk c4] 49)) := (Below.refl _ _).alloc (Nat.le_refl _) _
 have gz1 : (w.alloc (.cells #[.int .i64 k, .int .i64 n, .string s, .slice A3 ni c3, .slice A4 nk c4] 49)).heap.size = w.heap.size + 1 := by simp
 have GZ1 := Lib.hid gz1
 have nilU : Hid ((Num.cU (⟨#[]⟩ : ByteArray).data.toList).isSome = true) := by show _ = true; rw [show (⟨#[]⟩ : ByteArray).data.toList = [] from rfl, Num.cU_nil]; rfl
 have nilS : Hid (Jp.nil_ = (⟨#[]⟩ : ByteArray)) := rfl
 clear ht rt ft ih hc3 hc4 hni hnk gz1 hT wt hW
 subst hk
 by_cases hn : n ≠ 0
 · clear nilU
   have Z : Hid (T.frmb = false) := J.frmb_no fun h => by
    have h := FR.out.1 h
    have := h.2.2.1 (by decide) (by decide); omega
   clear FR IH KSZ ITN KSN
   go_enter Tryz.func80, Tryz.ntmps80
   simp only [List.append]
   go_wp2_with fail
   go_ret
   exact told_ret Z.out bqq
 · obtain rfl : n = 0 := by omega
   clear hn
   by_cases hs : s ≠ ⟨#[]⟩
   · have sx : (s.toList != (⟨#[]⟩ : ByteArray).toList) = true := by rw [str_bne]; simpa using hs
     have sx2 : (s.toList == (⟨#[]⟩ : ByteArray).toList) = false := by rw [str_beq]; simpa using hs
     have sx3 : (s.toList != []) = true := by have := sx; rwa [show (⟨#[]⟩ : ByteArray).toList = [] by rw [ByteArray.toList_eq]] at this
     have sx4 : (s.toList == []) = false := by have := sx2; rwa [show (⟨#[]⟩ : ByteArray).toList = [] by rw [ByteArray.toList_eq]] at this
     have Z : Hid (T.frmb = false) := J.frmb_no fun h => by
      have h := FR.out.1 h
      exact hs (h.2.2.2.2.1 (by decide))
     clear FR IH KSZ ITN KSN
     go_enter Tryz.func80, Tryz.ntmps80
     simp only [List.append]
     go_wp2_with fail
     go_ret
     exact told_ret Z.out bqq
   · obtain rfl : s = ⟨#[]⟩ := by by_cases g : s = ⟨#[]⟩; exact g; exact absurd g hs
     have UU := nilU
     clear hs
     by_cases hq : nk ≠ ni
     · have HQ := Lib.hid hq
       have qn : ((nk : Int) != (ni : Int)) = true := by rw [bne_iff_ne]; omega
       have Z : Hid (T.frmb = false) := J.frmb_no fun h => by
        have h := FR.out.1 h
        have := h.2.2.2.2.2.2.2.2.1 rfl; have := HNK.out; have := HNI.out; exact HQ.out (by omega)
       clear FR IH KSZ ITN KSN
       go_enter Tryz.func80, Tryz.ntmps80
       simp only [List.append]
       go_wp2_with fail
       with_reducible refine (rtext_any _ _ (by first | assumption | decide)).mono ?_
       rintro e w2 ⟨rfl, b2⟩
       rw [GZ1.out] at b2
       have hOwn := Nat.lt_of_lt_of_le (n := w.heap.size) sdd (Below.size b2)
       have hOwn1 := Nat.ne_of_gt hOwn
       have hOwn2 := Nat.ne_of_lt hOwn
       have hOwn := ocl b2 w.heap.size 0
       have hOwn := ocl b2 w.heap.size 1
       have hOwn := ocl b2 w.heap.size 2
       have hOwn := ocl b2 w.heap.size 3
       have hOwn := ocl b2 w.heap.size 4
       have hOwn := ofr b2 w.heap.size 0
       have hOwn := ofr b2 w.heap.size 1
       have hOwn := ofr b2 w.heap.size 2
       have hOwn := ofr b2 w.heap.size 3
       have hOwn := ofr b2 w.heap.size 4
       rw [UU.out]
       go_wp2_with fail
       go_ret
       exact told_ret Z.out bqq
     · have HQ0 : Hid (nk = ni) := by show _ = _; omega
       have hq0 := HQ0.out
       have qn : ((nk : Int) != (ni : Int)) = false := by rw [bne_eq_false_iff_eq]; omega
       clear hq0 hq
       have OK : Hid (T.frm ↔ (∀ x ∈ ks, (Num.cU x.data.toList).isSome = true) ∧ ks.Nodup ∧ J.frms its) := by
        show _ ↔ _
        rw [FR.out]
        exact ⟨fun h => h.2.2.2.2.2.2.2.2.2, fun h => ⟨by decide, by decide, fun _ _ => rfl, fun e => absurd e (by decide), fun _ => rfl, UU.out, fun e => absurd e (by decide), fun e => absurd rfl e, fun _ => by rw [← HNK.out, ← HNI.out, HQ0.out], h⟩⟩
       clear FR ITN KSN
       go_enter Tryz.func80, Tryz.ntmps80
       simp only [List.append]
       go_wp2_with fail
       with_reducible refine (rtext_any _ _ (by first | assumption | decide)).mono ?_
       rintro e w2 ⟨rfl, b2⟩
       rw [GZ1.out] at b2
       have hOwn := Nat.lt_of_lt_of_le (n := w.heap.size) sdd (Below.size b2)
       have hOwn1 := Nat.ne_of_gt hOwn
       have hOwn2 := Nat.ne_of_lt hOwn
       have hOwn := ocl b2 w.heap.size 0
       have hOwn := ocl b2 w.heap.size 1
       have hOwn := ocl b2 w.heap.size 2
       have hOwn := ocl b2 w.heap.size 3
       have hOwn := ocl b2 w.heap.size 4
       have hOwn := ofr b2 w.heap.size 0
       have hOwn := ofr b2 w.heap.size 1
       have hOwn := ofr b2 w.heap.size 2
       have hOwn := ofr b2 w.heap.size 3
       have hOwn := ofr b2 w.heap.size 4
       rw [UU.out]
       go_wp2_with fail
       go_loopw [3] (fun t wr => ∃ i : Nat, i ≤ nk ∧ t = .int .i64 (i : Int) ∧ Hid ((∀ m (h : m < ks.length), m < i → (Num.cU (ks[m]'h).data.toList).isSome = true) ∧ (∀ a b (ha : a < ks.length) (hb : b < ks.length), a < b → b < i → ks[a]'ha ≠ ks[b]'hb)) ∧ Below (w.heap.size + 1) w2 wr) (fun t _ => nk - (intOf t).toNat)
       case atStart => exact ⟨0, Nat.zero_le _, rfl, ⟨fun _ _ h => absurd h (Nat.not_lt_zero _), fun _ _ _ _ _ h => absurd h (Nat.not_lt_zero _)⟩, Below.refl _ _⟩
       case round =>
        obtain ⟨i, hi, rfl, KR, bl0⟩ := hrel
        have bl := b2.trans bl0
        have gsz := bl.size
        rw [GZ1.out] at gsz
        have blw := W1.trans (bl.mono (by omega))
        have hOwn := Nat.lt_of_lt_of_le (n := w.heap.size) sdd (Below.size bl)
        have hOwn1 := Nat.ne_of_gt hOwn
        have hOwn2 := Nat.ne_of_lt hOwn
        have hOwn := ocl bl w.heap.size 0
        have hOwn := ocl bl w.heap.size 1
        have hOwn := ocl bl w.heap.size 2
        have hOwn := ocl bl w.heap.size 3
        have hOwn := ocl bl w.heap.size 4
        have hOwn := ofr bl w.heap.size 0
        have hOwn := ofr bl w.heap.size 1
        have hOwn := ofr bl w.heap.size 2
        have hOwn := ofr bl w.heap.size 3
        have hOwn := ofr bl w.heap.size 4
        by_cases hik : i < nk
        · have h1 : i < ks.length := by rw [← HNK.out]; exact hik
          obtain ⟨b8, o8, e8, hb8, z0⟩ := fl_str FT.out h1
          have z1 := (blw.cell (p := ⟨b8, o8 + i, none⟩) hb8).trans z0
          have lb8 : b8 < w.heap.size := hb8
          have CELL := Lib.hid (fun j (hj : j < ks.length) => fl_str FT.out hj)
          have hi4 : (i : Int) ≤ (c4 : Int) := by omega
          have ysz := KSZ.out i h1
          by_cases hu : (Num.cU (ks[i]'h1).data.toList).isSome = false
          · have Z : Hid (T.frmb = false) := J.frmb_no fun h => by
             have := (OK.out.1 h).1 _ (List.getElem_mem h1); rw [hu] at this; cases this
            have HU := Lib.hid hu
            clear hu OK KR
            generalize ks[i]'h1 = Y at *
            subst e8
            clear h1 z0
            go_wp2_with fail
            with_reducible refine (rtext_any _ _ (by assumption)).mono ?_
            rintro e w5 ⟨rfl, b5⟩
            rw [HU.out]
            go_wp2_with fail
            go_ret
            exact told_ret Z.out (blw.trans (b5.mono (by omega)))
          · have HU : Hid ((Num.cU (ks[i]'h1).data.toList).isSome = true) := (Bool.eq_false_or_eq_true _).resolve_right hu
            have GO : Hid (∀ (hn : ∀ j (h : j < ks.length), j < i → ks[j]'h ≠ ks[i]'h1), (∀ m (h : m < ks.length), m < i + 1 → (Num.cU (ks[m]'h).data.toList).isSome = true) ∧ (∀ a b (ha : a < ks.length) (hb : b < ks.length), a < b → b < i + 1 → ks[a]'ha ≠ ks[b]'hb)) := fun hn => by
             refine ⟨fun m h hm => ?_, fun a b ha hb hab hbi => ?_⟩
             · rcases Nat.lt_or_ge m i with g | g
               · exact KR.out.1 m h g
               · obtain rfl : m = i := by omega
                 exact HU.out
             · rcases Nat.lt_or_ge b i with g | g
               · exact KR.out.2 a b ha hb hab g
               · obtain rfl : b = i := by omega
                 exact hn a ha hab
            have BADK : Hid (∀ j (h : j < ks.length), j < i → ks[j]'h = ks[i]'h1 → T.frmb = false) := fun j h hj e => J.frmb_no fun g => by
             exact List.pairwise_iff_getElem.1 (OK.out.1 g).2.1 j i h h1 hj e
            clear hu KR
            generalize ks[i]'h1 = Y at *
            subst e8
            clear h1 z0
            go_wp2_with fail
            with_reducible refine (rtext_any _ _ (by assumption)).mono ?_
            rintro e w5 ⟨rfl, b5⟩
            rw [HU.out]
            have b5w := bl.trans (b5.mono (by omega))
            have b50 := bl0.trans (b5.mono (by omega))
            have s5 := b5.size
            have blw5 := W1.trans (b5w.mono (by omega))
            have hOwn := Nat.lt_of_lt_of_le (n := w.heap.size) sdd (Below.size b5w)
            have hOwn1 := Nat.ne_of_gt hOwn
            have hOwn2 := Nat.ne_of_lt hOwn
            have hOwn := ocl b5w w.heap.size 0
            have hOwn := ocl b5w w.heap.size 1
            have hOwn := ocl b5w w.heap.size 2
            have hOwn := ocl b5w w.heap.size 3
            have hOwn := ocl b5w w.heap.size 4
            have hOwn := ofr b5w w.heap.size 0
            have hOwn := ofr b5w w.heap.size 1
            have hOwn := ofr b5w w.heap.size 2
            have hOwn := ofr b5w w.heap.size 3
            have hOwn := ofr b5w w.heap.size 4
            have z5 := (b5.cell (p := ⟨b8, o8 + i, none⟩) (by simp; omega)).trans z1
            go_wp2_with fail
            go_loopw [4] (fun t wq => ∃ j : Nat, j ≤ i ∧ t = .int .i64 (j : Int) ∧ Hid (∀ m (h : m < ks.length), m < j → ks[m]'h ≠ Y) ∧ Drewn7 w5 wq) (fun t _ => i - (intOf t).toNat)
            case atStart => exact ⟨0, Nat.zero_le _, rfl, fun _ _ h => absurd h (Nat.not_lt_zero _), ⟨0, rfl⟩⟩
            case round =>
             obtain ⟨j, hj, rfl, NE, ⟨nd, rfl⟩⟩ := hrel
             by_cases hji : j < i
             · have h2 : j < ks.length := by rw [← HNK.out]; omega
               obtain ⟨b9, o9, e9, hb9, z9⟩ := CELL.out j h2
               simp only [Option.some.injEq, Addr.mk.injEq, and_true] at e9
               obtain ⟨rfl, rfl⟩ := e9
               have z10 := (blw5.cell (p := ⟨b8, o8 + j, none⟩) hb9).trans z9
               have ne := NE.out
               have bad := BADK.out j h2 hji
               by_cases hx : ks[j]'h2 = Y
               · have Z := Lib.hid (bad hx)
                 have sx : ((ks[j]'h2).toList == Y.toList) = true := by rw [str_beq]; simpa using hx
                 generalize ks[j]'h2 = X at *
                 clear ne bad hx h2 z9 OK GO BADK NE
                 go_wp2_with fail
                 go_quiet (fail)
                 go_wp2_with fail
                 go_ret
                 exact told_ret Z.out bqq
               · have NE2 : Hid (∀ q (h : q < ks.length), q < j + 1 → ks[q]'h ≠ Y) := fun q h hq => by
                  rcases Nat.lt_or_ge q j with g | g
                  · exact ne q h g
                  · obtain rfl : q = j := by omega
                    exact hx
                 have sx : ((ks[j]'h2).toList == Y.toList) = false := by rw [str_beq]; simpa using hx
                 generalize ks[j]'h2 = X at *
                 clear ne bad hx h2 z9 NE
                 go_wp2_with fail
                 go_quiet (fail)
                 go_wp2_with fail
                 go_roundw
                 case rel => exact ⟨j + 1, by omega, by go_num, NE2, ⟨_, rfl⟩⟩
                 case measure => simp [intOf]; omega
             · obtain rfl : j = i := by omega
               have GO2 := Lib.hid (GO.out NE.out)
               clear hji GO BADK NE
               go_wp2_with fail
               go_roundw
               case rel => exact ⟨j + 1, by omega, by go_num, GO2, bqq⟩
               case measure => simp [intOf]; omega
        · obtain rfl : i = nk := by omega
          have OK2 : Hid (T.frm ↔ J.frms its) := by
           show _ ↔ _
           rw [OK.out]
           refine ⟨fun h => h.2.2, fun h => ⟨fun x hx => ?_, ?_, h⟩⟩
           · obtain ⟨m, hm, e⟩ := List.getElem_of_mem hx
             rw [← e]; exact KR.out.1 m hm (by have := HNK.out; omega)
           · exact List.pairwise_iff_getElem.2 fun a b ha hb hab => KR.out.2 a b ha hb hab (by have := HNK.out; omega)
          clear hik OK KR
          go_wp2_with fail
          go_loopw [5] (fun t wq => ∃ p : Nat, p ≤ ni ∧ t = .int .i64 (p : Int) ∧ Hid (∀ m (h : m < its.length), m < p → (its[m]'h).frm) ∧ Below (w.heap.size + 1) wr wq) (fun t _ => ni - (intOf t).toNat)
          case atStart => exact ⟨0, Nat.zero_le _, rfl, fun _ _ h => absurd h (Nat.not_lt_zero _), Below.refl _ _⟩
          case round =>
           obtain ⟨p, hp, rfl, FI, bl2⟩ := hrel
           have blq := bl.trans bl2
           have gsz2 := blq.size
           rw [GZ1.out] at gsz2
           have blw2 := W1.trans (blq.mono (by omega))
           have hOwn := Nat.lt_of_lt_of_le (n := w.heap.size) sdd (Below.size blq)
           have hOwn1 := Nat.ne_of_gt hOwn
           have hOwn2 := Nat.ne_of_lt hOwn
           have hOwn := ocl blq w.heap.size 0
           have hOwn := ocl blq w.heap.size 1
           have hOwn := ocl blq w.heap.size 2
           have hOwn := ocl blq w.heap.size 3
           have hOwn := ocl blq w.heap.size 4
           have hOwn := ofr blq w.heap.size 0
           have hOwn := ofr blq w.heap.size 1
           have hOwn := ofr blq w.heap.size 2
           have hOwn := ofr blq w.heap.size 3
           have hOwn := ofr blq w.heap.size 4
           by_cases hpn : p < ni
           · have h1' : p < its.length := by rw [← HNI.out]; exact hpn
             obtain ⟨b1, o1, X3, x3, X4, x4, e1, hb1, y0, y1, y2, y3, y4, ty⟩ := (RT.out.below blw2).cells h1'
             have I2 := Lib.hid (fun W a => IH.out p h1' W X3 X4 x3 x4 a)
             have FI2 : Hid ((its[p]'h1').frm → ∀ m (h : m < its.length), m < p + 1 → (its[m]'h).frm) := fun hf m h hm => by
              rcases Nat.lt_or_ge m p with g | g
              · exact FI.out m h g
              · obtain rfl : m = p := by omega
                exact hf
             have NO : Hid (¬ (its[p]'h1').frm → T.frmb = false) := fun hf => J.frmb_no fun h => hf (J.frms_iff.1 (OK2.out.1 h) p h1')
             generalize its[p]'h1' = T' at *
             subst e1
             have TY := Lib.hid (ty.more (show w.heap.size ≤ _ from blw2.size))
             have lb1 := Nat.lt_of_lt_of_le hb1 blw2.size
             clear ty h1' FI
             by_cases hf : T'.frm
             · have FB := Lib.hid (J.frmb_yes hf)
               have FI3 := Lib.hid (FI2.out hf)
               clear FI2 NO hf
               go_wp2_with fail
               with_reducible refine (I2.out _ TY.out).mono ?_
               rintro e w7 ⟨rfl, b7⟩
               rw [FB.out]
               have b27 := bl2.trans (b7.mono gsz2)
               go_wp2_with fail
               go_roundw
               case rel => exact ⟨p + 1, by omega, by go_num, FI3, b27⟩
               case measure => simp [intOf]; omega
             · have FB := Lib.hid (J.frmb_no hf)
               have Z := Lib.hid (NO.out hf)
               clear FI2 NO hf
               go_wp2_with fail
               with_reducible refine (I2.out _ TY.out).mono ?_
               rintro e w7 ⟨rfl, b7⟩
               rw [FB.out]
               go_wp2_with fail
               go_ret
               exact told_ret Z.out bqq
           · obtain rfl : p = ni := by omega
             have Z : Hid (T.frmb = true) := J.frmb_yes (OK2.out.2 (J.frms_iff.2 fun m h => FI.out m h (by have := HNI.out; omega)))
             clear hpn
             go_wp2_with fail
             go_ret
             exact told_ret Z.out bqq
theorem rshape_at : ∀ (N : Nat) (t : J), SizeOf.sizeOf t ≤ N → t.wt ≤ 1000000 → ∀ (w : World) (A3 A4 : Option Addr) (c3 c4 : Nat),
 TreeC w w.heap.size t [.int .i64 t.k, .int .i64 t.n, .string t.t, .slice A3 t.its.length c3, .slice A4 t.ks.length c4] →
 Calls Tryz.prog 80 #[.agg #[.int .i64 t.k, .int .i64 t.n, .string t.t, .slice A3 t.its.length c3, .slice A4 t.ks.length c4]] w (Told t.frmb w)
 | 0, t, h => by cases t; simp at h
 | N + 1, .mk k n s its ks, hN => by
  intro hW w A3 A4 c3 c4 ht
  have wt : (J.mk k n s its ks).wt = 1 + s.size + kwt ks + J.wts its := by unfold J.wt; rfl
  have ih : ShIH its := fun i h1 W A3 A4 c3 c4 a =>
   rshape_at N (its[i]'h1) (by have := J.lt_its (j := .mk k n s its ks) (i := i) h1; simp only [J.its] at this; omega) (by have := wts_at (l := its) h1; omega) W A3 A4 c3 c4 a
  by_cases h0 : k < 1 ∨ 6 < k
  · exact rshape_0 k n s its ks h0 ih hW w A3 A4 c3 c4 ht
  · obtain h | h | h | h | h | h : k = 1 ∨ k = 2 ∨ k = 3 ∨ k = 4 ∨ k = 5 ∨ k = 6 := by omega
    · exact rshape_1 k n s its ks h ih hW w A3 A4 c3 c4 ht
    · exact rshape_2 k n s its ks h ih hW w A3 A4 c3 c4 ht
    · exact rshape_3 k n s its ks h ih hW w A3 A4 c3 c4 ht
    · exact rshape_4 k n s its ks h ih hW w A3 A4 c3 c4 ht
    · exact rshape_5 k n s its ks h ih hW w A3 A4 c3 c4 ht
    · exact rshape_6 k n s its ks h ih hW w A3 A4 c3 c4 ht
theorem rshape_any (t : J) (hW : t.wt ≤ 1000000) (w : World) (A3 A4 : Option Addr) (c3 c4 : Nat) (ht : TreeC w w.heap.size t [.int .i64 t.k, .int .i64 t.n, .string t.t, .slice A3 t.its.length c3, .slice A4 t.ks.length c4]) :
 Calls Tryz.prog 80 #[.agg #[.int .i64 t.k, .int .i64 t.n, .string t.t, .slice A3 t.its.length c3, .slice A4 t.ks.length c4]] w (Told t.frmb w) := rshape_at _ t (Nat.le_refl _) hW w A3 A4 c3 c4 ht
theorem rRight_any (t : J) (hW : t.wt ≤ 1000000) (hD : t.deep ≤ 1000000) (w : World) (A3 A4 : Option Addr) (c3 c4 : Nat) (ht : TreeC w w.heap.size t [.int .i64 t.k, .int .i64 t.n, .string t.t, .slice A3 t.its.length c3, .slice A4 t.ks.length c4]) :
 Calls Tryz.prog 56 #[.agg #[.int .i64 t.k, .int .i64 t.n, .string t.t, .slice A3 t.its.length c3, .slice A4 t.ks.length c4]] w (Told t.rightb w) := by
 have CS := cell_set
 have DP := Lib.hid (fun W h => rdeep_at _ t (Nat.le_refl _) hD W A3 A4 c3 c4 h)
 have SH := Lib.hid (fun W h => rshape_any t hW W A3 A4 c3 c4 h)
 have RB : Hid (t.rightb = (decide (t.deep ≤ 32) && t.frmb)) := rfl
 have W1 : Below w.heap.size w (w.alloc (.cells #[.int .i64 t.k, .int .i64 t.n, .string t.t, .slice A3 t.its.length c3, .slice A4 t.ks.length c4] 49)) := (Below.refl _ _).alloc (Nat.le_refl _) _
 have gz1 : (w.alloc (.cells #[.int .i64 t.k, .int .i64 t.n, .string t.t, .slice A3 t.its.length c3, .slice A4 t.ks.length c4] 49)).heap.size = w.heap.size + 1 := by simp
 have HT1 : Hid (TreeC (w.alloc (.cells #[.int .i64 t.k, .int .i64 t.n, .string t.t, .slice A3 t.its.length c3, .slice A4 t.ks.length c4] 49)) (w.alloc (.cells #[.int .i64 t.k, .int .i64 t.n, .string t.t, .slice A3 t.its.length c3, .slice A4 t.ks.length c4] 49)).heap.size t [.int .i64 t.k, .int .i64 t.n, .string t.t, .slice A3 t.its.length c3, .slice A4 t.ks.length c4]) := (ht.alloc (Nat.le_refl _) _).more (by rw [gz1]; omega)
 have GZ1 := Lib.hid gz1
 obtain ⟨dt, hdt⟩ : ∃ d, d = t.deep := ⟨_, rfl⟩
 obtain ⟨fb, hfb⟩ : ∃ b, b = t.frmb := ⟨_, rfl⟩
 rw [← hdt, ← hfb] at RB
 rw [← hdt] at DP
 rw [← hfb] at SH
 clear hdt hfb ht gz1 hW hD
 by_cases hd : dt ≤ 32
 · have q : (dt : Int) ≤ 32 := by omega
   have HD := Lib.hid hd
   clear hd
   go_enter Tryz.func56, Tryz.ntmps56
   go_wp2_with fail
   with_reducible refine (DP.out _ HT1.out).mono ?_
   rintro e w2 ⟨rfl, b2⟩
   have HT2 := Lib.hid ((HT1.out.below b2).more b2.size)
   rw [GZ1.out] at b2
   have s2 := b2.size
   rw [GZ1.out] at s2
   have hOwn := Nat.lt_of_lt_of_le (n := w.heap.size) sdd (Below.size b2)
   have hOwn1 := Nat.ne_of_gt hOwn
   have hOwn2 := Nat.ne_of_lt hOwn
   have hOwn := ocl b2 w.heap.size 0
   have hOwn := ocl b2 w.heap.size 1
   have hOwn := ocl b2 w.heap.size 2
   have hOwn := ocl b2 w.heap.size 3
   have hOwn := ocl b2 w.heap.size 4
   have hOwn := ofr b2 w.heap.size 0
   have hOwn := ofr b2 w.heap.size 1
   have hOwn := ofr b2 w.heap.size 2
   have hOwn := ofr b2 w.heap.size 3
   have hOwn := ofr b2 w.heap.size 4
   go_wp2_with fail
   with_reducible refine (SH.out _ HT2.out).mono ?_
   rintro e w3 ⟨rfl, b3⟩
   go_wp2_with fail
   go_ret
   exact told_ret (by rw [RB.out]; simp [HD.out]) (W1.trans ((b2.mono (by omega)).trans (b3.mono (by omega))))
 · have q : ¬ (dt : Int) ≤ 32 := by omega
   have HD := Lib.hid hd
   clear hd
   go_enter Tryz.func56, Tryz.ntmps56
   go_wp2_with fail
   with_reducible refine (DP.out _ HT1.out).mono ?_
   rintro e w2 ⟨rfl, b2⟩
   rw [GZ1.out] at b2
   have hOwn := Nat.lt_of_lt_of_le (n := w.heap.size) sdd (Below.size b2)
   have hOwn1 := Nat.ne_of_gt hOwn
   have hOwn2 := Nat.ne_of_lt hOwn
   have hOwn := ocl b2 w.heap.size 0
   have hOwn := ocl b2 w.heap.size 1
   have hOwn := ocl b2 w.heap.size 2
   have hOwn := ocl b2 w.heap.size 3
   have hOwn := ocl b2 w.heap.size 4
   have hOwn := ofr b2 w.heap.size 0
   have hOwn := ofr b2 w.heap.size 1
   have hOwn := ofr b2 w.heap.size 2
   have hOwn := ofr b2 w.heap.size 3
   have hOwn := ofr b2 w.heap.size 4
   go_wp2_with fail
   go_ret
   exact told_ret (by rw [RB.out]; simp [HD.out]) (W1.trans (b2.mono (by omega)))
section
open Go
variable {P : Program} (w : World) {t e : TypeId} {s : Nat} {z : Value} {y : Nat}
theorem wpList_gat2 (hu : RecT P t e s z y) {ops : Array Oper} {rest : List Oper} {o : Oper} {a : Act} {Q : Exit → Act → World → Prop} (hgd : o.guard = none) (sO x : Operand)
 (ho : o.op = .call { callee := .builtin .append, args := #[sO, x], argTypes := #[t, t] })
 (base : Nat) (v : Value) (ds : List D) (hs : a.eval sO = v) (w0 : World) (hg : GatS w0 base e s v ds) (h0 : Below w0.heap.size w0 w) (c : Nat) (cs : Array Value) (hx : a.eval x = .slice (some ⟨w.heap.size, 0, none⟩) 1 c) (hl : cs.size = s)
 (h1 : ∀ u ∈ cs.toList, u.oneCell' = true) (hlen : ds.length + 1 ≤ 1000000000) (hbase : base ≤ w0.heap.size) (d : D) (hd : NewD w w0.heap.size d cs.toList)
 (h : ∀ v' w', GatS w' base e s v' (ds ++ [d]) → Below base w w' → (∀ g, w0.heap.size ≤ g → g < w.heap.size → w'.heap[g]? = w.heap[g]?) → wpList P ops Q rest (a.put o.dst v') w') : wpList P ops Q (o :: rest) a (w.alloc (.cells cs e)) := by
 obtain ⟨S, xs, k1, k2, k3, k4⟩ := hg.below h0
 obtain ⟨S1, m1, m2, m3⟩ := hd
 have ow : ∀ g, v.ownBlock = some g → g < w0.heap.size := fun g e0 => by
  obtain ⟨S', xs', q1, _⟩ := hg
  exact (q1.base_le e0.symm).2
 refine wpList_appRg1 w hu hgd _ rfl sO x ho base v ds.length xs hs k1 c cs hx hl h1 hlen (Nat.le_trans hbase h0.size) fun v' w' r1 r2 r3 r4 => h v' w' ⟨fun b => S b ∨ S1 b, xs ++ cs.toList, by simpa using r1, ?_, fun b hs => ?_, fun p hp => ?_⟩ r2 fun g q1 q2 => r3.block g q2 (fun e0 => by have := ow _ e0.symm; omega)
 · refine ElsS.snoc (by simpa using hl) (m2.keep (fun p hp => ?_) fun _ h => .inr h) (k2.keep (fun p hp => ?_) fun _ h => .inl h)
   · have a1 := m1 _ hp
     exact World.cell?_of_block (r3.block _ a1.2 (fun e0 => by have := ow _ e0.symm; omega))
   · have a1 := k3 _ hp
     exact World.cell?_of_block (r3.block _ a1.2.1 a1.2.2)
 · rcases hs with hs | hs
   · have a1 := k3 b hs
     exact ⟨a1.1, Nat.lt_of_lt_of_le a1.2.1 r3.size, ne_own a1.2.2 r4 (by omega)⟩
   · have a1 := m1 b hs
     exact ⟨Nat.le_trans hbase a1.1, Nat.lt_of_lt_of_le a1.2 r3.size, ne_own (fun e0 => by have := ow _ e0.symm; omega) r4 (by omega)⟩
 · rcases hp with hp | hp
   · have a1 := k3 _ hp
     exact (World.frozen?_of_block (r3.block _ a1.2.1 a1.2.2)).trans (k4 p hp)
   · have a1 := m1 _ hp
     exact (World.frozen?_of_block (r3.block _ a1.2 (fun e0 => by have := ow _ e0.symm; omega))).trans (m3 p hp)
end
theorem rnode_9 (s : Sc) (n : Nd) (hk : n.k = 9) (hs : n.sm) (w : World) (A A2 A3 A4 A9 : Option Addr) (c c2 c3 c4 c9 : Nat)
 (h : Lies w (· < w.heap.size) n.enc [.int .i64 n.k, .string n.name, .slice A2 n.al.length c2, .slice A3 n.fs.length c3, .slice A4 n.sy.length c4, .bool n.has, .string n.df, .int .i64 n.size, .int .i64 n.items, .slice A9 n.br.length c9]) :
 Calls Tryz.prog 33 #[.agg #[.slice A s.nodes.length c, .int .i64 s.root], .agg #[.int .i64 n.k, .string n.name, .slice A2 n.al.length c2, .slice A3 n.fs.length c3, .slice A4 n.sy.length c4, .bool n.has, .string n.df, .int .i64 n.size, .int .i64 n.items, .slice A9 n.br.length c9]] w (Tells (n.ok s) w) := by
 have CS := cell_set
 obtain ⟨_, _, _, _, _, _, _, _, e, l2, f2, l3, r3, l4, f4, l9, r9⟩ := Nd.out.1 h
 simp only [List.cons.injEq, Value.slice.injEq, true_and, and_true] at e
 obtain ⟨⟨rfl, rfl⟩, ⟨rfl, rfl⟩, ⟨rfl, rfl⟩, rfl, rfl⟩ := e
 have OKI := ok_9 (s := s) hk
 have FU := Lib.hid (fun W => rFull_any n.name (by have := hs.1; omega) W)
 have FA := Lib.hid (fun i (h : i < n.al.length) W => rFull_any (n.al[i]'h) (by have := kwt_at h; have := hs.2.2.2.2.1; omega) W)
 have KI := Lib.hid (fun W => rKind_any n.name W)
 have NM : Hid (∀ W, Calls Tryz.prog 34 #[.int .i64 9] W (Pure (.bool true) W)) := fun W => by
  have := rNamed_any 9 W
  rwa [show named 9 = true by decide] at this
 have SN : Hid (∀ W, Below w.heap.size w W → Calls Tryz.prog 58 #[.agg #[.int .i64 9, .string n.name, .slice A2 n.al.length c2, .slice A3 n.fs.length c3, .slice A4 n.sy.length c4, .bool n.has, .string n.df, .int .i64 n.size, .int .i64 n.items, .slice A9 n.br.length c9], .agg #[.int .i64 9, .string n.name, .slice A2 n.al.length c2, .slice A3 n.fs.length c3, .slice none 0 0, .bool false, .string ⟨#[]⟩, .int .i64 0, .int .i64 0, .slice none 0 0]] W (Tells ((⟨9, ⟨#[]⟩, [], [], n.sy, n.has, n.df, n.size, n.items, n.br⟩ : Nd) = Nd.z 9) W)) := fun W b => by
  have := rsameN_any n ⟨9, n.name, n.al, n.fs, [], false, ⟨#[]⟩, 0, 0, []⟩ W A2 A3 A4 A9 A2 A3 none none c2 c3 c4 c9 c2 c3 0 0 (h.on b)
   (Nd.out.2 ⟨A2, c2, A3, c3, none, 0, none, 0, rfl, l2, FlS.keep (Below.keeps b) (fun _ h => Nat.lt_of_lt_of_le h b.size) f2, l3, (r3.below b).more b.size, ⟨Nat.le_refl _, Nat.zero_le _⟩, .inl rfl, ⟨Nat.le_refl _, Nat.zero_le _⟩, RowD.nil_ _ _ _ _⟩)
  rw [hk] at this
  refine this.mono fun _ _ g => told_tells g (Nd.sameb_iff.trans ?_)
  obtain ⟨k, name, al, fs, sy, has, df, size, items, br⟩ := n
  simp only at hk
  subst hk
  simp [Nd.z]
 rw [hk]
 have F2 := Lib.hid f2
 have l2m := l2.2
 unfold maxLen at l2m
 generalize ((⟨9, ⟨#[]⟩, [], [], n.sy, n.has, n.df, n.size, n.items, n.br⟩ : Nd) = Nd.z 9) = P3 at *
 obtain ⟨na, hna⟩ : ∃ m, m = n.al.length := ⟨_, rfl⟩
 have HNA := Lib.hid hna
 rw [← hna] at SN l2m ⊢
 have NF : Hid (Nm.full n.name.data.toList = false → ¬ n.ok s) := fun e h => by have := (OKI.1 h).1.1.1; rw [e] at this; cases this
 have NK : Hid (Nm.kind n.name.data.toList ≠ 0 → ¬ n.ok s) := fun e h => e (OKI.1 h).1.1.2
 have N4 : Hid (¬ na ≤ 40 → ¬ n.ok s) := fun e h => e (by rw [hna]; exact (OKI.1 h).1.2.1)
 have NE : Hid (∀ i (h : i < n.al.length), Nm.full (n.al[i]'h).data.toList = false → ¬ n.ok s) := fun i h e g => by have := (OKI.1 g).1.2.2 _ (List.getElem_mem h); rw [e] at this; cases this
 have YS : Hid (Nm.full n.name.data.toList = true → Nm.kind n.name.data.toList = 0 → na ≤ 40 → (∀ i (h : i < n.al.length), Nm.full (n.al[i]'h).data.toList = true) → (n.ok s ↔ recOk n ∧ P3)) := fun h1 h2 h3 h4 => by
  rw [OKI]
  exact ⟨fun g => g.2, fun g => ⟨⟨⟨h1, h2⟩, (by rw [← hna]; exact h3), fun t ht => by obtain ⟨i, hi, rfl⟩ := List.getElem_of_mem ht; exact h4 i hi⟩, g⟩⟩
 obtain ⟨n3, hn3⟩ : ∃ m, m = n.fs.length := ⟨_, rfl⟩
 have HN3 := Lib.hid hn3
 have F3 := Lib.hid r3
 have HS := Lib.hid hs.2.2.2.2.2.2
 have l3m := l3.2
 have h3m := hs.2.1
 have RC : Hid (recOk n ↔ okSimples (n.fs.map Fd.name) ∧ (n.fs.map Fd.name).Nodup ∧ ∀ i (h : i < n.fs.length), (n.fs[i]'h).ok) := by
  show _ ↔ _; unfold recOk
  exact ⟨fun ⟨a, b, c⟩ => ⟨a, b, fun i h => c _ (List.getElem_mem h)⟩, fun ⟨a, b, c⟩ => ⟨a, b, fun f hf => by obtain ⟨i, hi, rfl⟩ := List.getElem_of_mem hf; exact c i hi⟩⟩
 rw [← hn3] at SN h3m ⊢
 have n3m : n3 ≤ 9223372036854775807 := by omega
 generalize recOk n = E at *
 clear h l2 f2 l3 r3 l4 f4 l9 r9 hs OKI l3m hn3
 generalize n.ok s = Q at *
 generalize Nm.full n.name.data.toList = bf at *
 generalize Nm.kind n.name.data.toList = kd at *
 clear hk
 generalize s.nodes.length = ns at *
 generalize s.root = rt at *
 clear hna
 generalize n.name = nm at *
 generalize n.sy.length = e4 at *
 generalize n.br.length = e9 at *
 generalize n.has = hh at *
 generalize n.df = df at *
 generalize n.size = sz at *
 generalize n.items = im at *
 cases bf with
 | false =>
  have Z := Lib.hid (NF.out rfl)
  clear NF NK N4 NE YS FA KI SN RC F3 HS
  go_enter Tryz.func33, Tryz.ntmps33
  go_wp2_with fail
  with_reducible refine (NM.out _).mono ?_
  rintro e w1 ⟨rfl, rfl⟩
  go_wp2_with fail
  with_reducible refine (FU.out _).mono ?_
  rintro e w1 ⟨rfl, rfl⟩
  go_wp2_with fail
  go_ret
  exact tells_no rfl Z.out bqq
 | true =>
 by_cases hkd : kd = 0
 rotate_left
 · have Z := Lib.hid (NK.out hkd)
   have q0 : (0 : Int) < (kd : Int) := by omega
   clear NF NK N4 NE YS FA SN RC F3 HS hkd
   go_enter Tryz.func33, Tryz.ntmps33
   go_wp2_with fail
   with_reducible refine (NM.out _).mono ?_
   rintro e w1 ⟨rfl, rfl⟩
   go_wp2_with fail
   with_reducible refine (FU.out _).mono ?_
   rintro e w1 ⟨rfl, rfl⟩
   go_wp2_with fail
   with_reducible refine (KI.out _).mono ?_
   rintro e w1 ⟨rfl, rfl⟩
   go_wp2_with fail
   go_ret
   exact tells_no (by simp) Z.out bqq
 subst hkd
 by_cases h40 : na ≤ 40
 rotate_left
 · have Z := Lib.hid (N4.out h40)
   have q40 : (40 : Int) < (na : Int) := by omega
   clear NF NK N4 NE YS FA SN RC F3 HS h40
   go_enter Tryz.func33, Tryz.ntmps33
   go_wp2_with fail
   with_reducible refine (NM.out _).mono ?_
   rintro e w1 ⟨rfl, rfl⟩
   go_wp2_with fail
   with_reducible refine (FU.out _).mono ?_
   rintro e w1 ⟨rfl, rfl⟩
   go_wp2_with fail
   with_reducible refine (KI.out _).mono ?_
   rintro e w1 ⟨rfl, rfl⟩
   go_wp2_with fail
   go_ret
   exact tells_no (by simp) Z.out bqq
 have q40 : ¬ (40 : Int) < (na : Int) := by omega
 have Y2 := Lib.hid (YS.out rfl rfl h40)
 clear NF NK N4 YS h40
 go_enter Tryz.func33, Tryz.ntmps33
 go_wp2_with fail
 with_reducible refine (NM.out _).mono ?_
 rintro e w1 ⟨rfl, rfl⟩
 go_wp2_with fail
 with_reducible refine (FU.out _).mono ?_
 rintro e w1 ⟨rfl, rfl⟩
 go_wp2_with fail
 with_reducible refine (KI.out _).mono ?_
 rintro e w1 ⟨rfl, rfl⟩
 go_wp2_with fail
 have G0 := Lib.hid (bqq : Below w.heap.size w (((w.alloc (.cells #[.slice A ns c, .int .i64 rt] 24)).alloc (.cells #[.int .i64 9, .string nm, .slice A2 na c2, .slice A3 n3 c3, .slice A4 e4 c4, .bool hh, .string df, .int .i64 sz, .int .i64 im, .slice A9 e9 c9] 42)).alloc (.cells #[.int .i64 9, .string nm, .slice A2 na c2, .slice none 0 0, .slice none 0 0, .bool false, .string ⟨#[]⟩, .int .i64 0, .int .i64 0, .slice none 0 0] 42)))
 have BN := Lib.hid ((B10.newat (w := w.alloc (.cells #[.slice A ns c, .int .i64 rt] 24)) (g := w.heap.size + 1) (t := 42) (x0 := .int .i64 9) (x1 := .string nm) (x2 := .slice A2 na c2) (x3 := .slice A3 n3 c3) (x4 := .slice A4 e4 c4) (x5 := .bool hh) (x6 := .string df) (x7 := .int .i64 sz) (x8 := .int .i64 im) (x9 := .slice A9 e9 c9) (by simp)).alloc (.cells #[.int .i64 9, .string nm, .slice A2 na c2, .slice none 0 0, .slice none 0 0, .bool false, .string ⟨#[]⟩, .int .i64 0, .int .i64 0, .slice none 0 0] 42))
 have BM := Lib.hid (B10.newat (w := (w.alloc (.cells #[.slice A ns c, .int .i64 rt] 24)).alloc (.cells #[.int .i64 9, .string nm, .slice A2 na c2, .slice A3 n3 c3, .slice A4 e4 c4, .bool hh, .string df, .int .i64 sz, .int .i64 im, .slice A9 e9 c9] 42)) (g := w.heap.size + 1 + 1) (t := 42) (x0 := .int .i64 9) (x1 := .string nm) (x2 := .slice A2 na c2) (x3 := .slice none 0 0) (x4 := .slice none 0 0) (x5 := .bool false) (x6 := .string ⟨#[]⟩) (x7 := .int .i64 0) (x8 := .int .i64 0) (x9 := .slice none 0 0) (by simp))
 generalize (((w.alloc (.cells #[.slice A ns c, .int .i64 rt] 24)).alloc (.cells #[.int .i64 9, .string nm, .slice A2 na c2, .slice A3 n3 c3, .slice A4 e4 c4, .bool hh, .string df, .int .i64 sz, .int .i64 im, .slice A9 e9 c9] 42)).alloc (.cells #[.int .i64 9, .string nm, .slice A2 na c2, .slice none 0 0, .slice none 0 0, .bool false, .string ⟨#[]⟩, .int .i64 0, .int .i64 0, .slice none 0 0] 42)) = W1 at *
 have FW := Lib.hid (FlS.keep (Below.keeps G0.out) (fun _ h => h) F2.out)
 obtain ⟨n0, n1, n2, n3_, n4, n5, n6, n7, n8, n9, _, _, _, _, _, _, _, _, _, _⟩ := B10.facts BN.out
 obtain ⟨m0, m1, m2, m3, m4, m5, m6, m7, m8, m9, y0, y1, y2, y3, y4, y5, y6, y7, y8, y9⟩ := B10.facts BM.out
 go_loopw [6] (fun t wr => ∃ j : Nat, j ≤ na ∧ t = .int .i64 (j : Int) ∧ Hid (∀ i (h : i < n.al.length), i < j → Nm.full (n.al[i]'h).data.toList = true) ∧ wr = W1) (fun t _ => na - (intOf t).toNat)
 case atStart => exact ⟨0, Nat.zero_le _, rfl, fun _ _ h => absurd h (Nat.not_lt_zero _), rfl⟩
 case round =>
  obtain ⟨j, hj, rfl, NX, rfl⟩ := hrel
  by_cases hjn : j < na
  · have q : (j : Int) < (na : Int) := by omega
    have h1 : j < n.al.length := by rw [← HNA.out]; exact hjn
    obtain ⟨b8, o8, e8, hb8, z0⟩ := fl_str FW.out h1
    have S1 := Lib.hid (FA.out j h1)
    have N1 := Lib.hid (NE.out j h1)
    have NY : Hid (Nm.full (n.al[j]'h1).data.toList = true → ∀ i (h : i < n.al.length), i < j + 1 → Nm.full (n.al[i]'h).data.toList = true) := fun e i h hi => by
     rcases Nat.lt_or_ge i j with k | k
     · exact NX.out i h k
     · obtain rfl : i = j := by omega
       exact e
    generalize n.al[j]'h1 = Y at *
    obtain ⟨b, hb⟩ : ∃ b, b = Nm.full Y.data.toList := ⟨_, rfl⟩
    rw [← hb] at S1 N1 NY
    subst e8
    clear hb h1
    go_wp2_with fail
    with_reducible refine (S1.out _).mono ?_
    rintro e w1 ⟨rfl, rfl⟩
    cases b with
    | true =>
     have NX2 := Lib.hid (NY.out rfl)
     go_wp2_with fail
     go_roundw
     case rel => exact ⟨j + 1, by omega, by go_num, NX2, by first | rfl | trivial⟩
     case measure => simp [intOf]; omega
    | false =>
     have Z := Lib.hid (N1.out rfl)
     go_wp2_with fail
     go_ret
     exact tells_no rfl Z.out G0.out
  · obtain rfl : j = na := by omega
    have q : ¬ (j : Int) < (j : Int) := by omega
    have Z := Lib.hid (Y2.out fun i h => NX.out i h (by rw [HNA.out]; exact h))
    clear NX hjn Y2 NE FA
    go_wp2_with fail
    have H0 := Lib.hid (G0.out.setCell (by show w.heap.size ≤ w.heap.size + 1 + 1; omega) _ : Below w.heap.size w (wr.setCell ⟨w.heap.size + 1 + 1, 3, none⟩ (.slice A3 n3 c3)))
    have CN := Lib.hid (BN.out.past (p := ⟨w.heap.size + 1 + 1, 3, none⟩) (by show w.heap.size + 1 + 1 ≠ w.heap.size + 1; omega) (.slice A3 n3 c3))
    have CM := Lib.hid (BM.out.set3 (.slice A3 n3 c3))
    clear BN BM n0 n1 n2 n3_ n4 n5 n6 n7 n8 n9 m0 m1 m2 m3 m4 m5 m6 m7 m8 m9 y0 y1 y2 y3 y4 y5 y6 y7 y8 y9
    generalize (wr.setCell ⟨w.heap.size + 1 + 1, 3, none⟩ (.slice A3 n3 c3)) = W2 at *
    have zW := H0.out.size
    have ltN := CN.out.lt
    have ltM := CM.out.lt
    clear FW F2 G0
    go_loopw [7, 8, 9, 10] (fun f v t _ wx => ∃ (b : Bool) (j : Nat), j ≤ n3 ∧ t = .int .i64 (j : Int) ∧ f = .bool b ∧ Hid (b = true ↔ ∀ i (h : i < n.fs.length), i < j → (n.fs[i]'h).ok) ∧ Hid (GatS wx W2.heap.size 9 1 v (((n.fs.take j).map Fd.name).map D.s)) ∧ Hid (Below W2.heap.size W2 wx)) (fun _ _ t _ _ => n3 - (intOf t).toNat)
    case atStart => exact ⟨true, 0, Nat.zero_le _, rfl, rfl, ⟨fun _ i h g => absurd g (Nat.not_lt_zero _), fun _ => rfl⟩, GatS.none_ _ _ _ _, Below.refl _ _⟩
    case round =>
     obtain ⟨b, j, hj, rfl, rfl, HF, HG, bl⟩ := hrel
     have bl2 := bl.out
     have z := bl2.size
     have K1 := Lib.hid (B10.below CN.out bl2 ltN)
     have K2 := Lib.hid (B10.below CM.out bl2 ltM)
     have bw : Below w.heap.size w wr := H0.out.trans (bl2.mono zW)
     obtain ⟨_, _, _, _, _, _, _, _, _, _, _, _, _, _, _, _, _, _, _, _⟩ := B10.facts K1.out
     by_cases hjn : j < n3
     · have h1 : j < n.fs.length := by rw [← HN3.out]; exact hjn
       have q : (j : Int) < (n3 : Int) := by omega
       obtain ⟨b1', o1, X1, x1, X3, x3, X4, x4, e1, hb1, ⟨y0, y1, y2, y3, y4, y5, y6, y7, y8⟩, l1, f1, t1⟩ := fields_at F3.out h1
       have lb1 : b1' < wr.heap.size := Nat.lt_of_lt_of_le hb1 bw.size
       have y0 := (bw.cell (p := ⟨b1', o1 + j * 9, none⟩) hb1).trans y0
       have y1 := (bw.cell (p := ⟨b1', o1 + j * 9 + 1, none⟩) hb1).trans y1
       have y2 := (bw.cell (p := ⟨b1', o1 + j * 9 + 2, none⟩) hb1).trans y2
       have y3 := (bw.cell (p := ⟨b1', o1 + j * 9 + 3, none⟩) hb1).trans y3
       have y4 := (bw.cell (p := ⟨b1', o1 + j * 9 + 4, none⟩) hb1).trans y4
       have y5 := (bw.cell (p := ⟨b1', o1 + j * 9 + 5, none⟩) hb1).trans y5
       have y6 := (bw.cell (p := ⟨b1', o1 + j * 9 + 6, none⟩) hb1).trans y6
       have y7 := (bw.cell (p := ⟨b1', o1 + j * 9 + 7, none⟩) hb1).trans y7
       have y8 := (bw.cell (p := ⟨b1', o1 + j * 9 + 8, none⟩) hb1).trans y8
       obtain ⟨s1, s2, s3, s4⟩ := HS.out j h1
       have lk := kwt_ln (n.fs[j]'h1).al
       have CN1 := Lib.hid (fun W (b : Below w.heap.size w W) => rsimple_any X1 x1 (n.fs[j]'h1).al W (FlS.keep (Below.keeps b) (fun _ h => Nat.lt_of_lt_of_le h b.size) f1) (by unfold maxLen; omega) (fun t ht => by obtain ⟨i, hi, rfl⟩ := List.getElem_of_mem ht; have := kwt_at hi; omega))
       have CR := Lib.hid (fun W (b : Below w.heap.size w W) => (rRight_any (n.fs[j]'h1).df (by omega) (by omega) W X3 X4 x3 x4 ((t1.below b).more b.size)).mono fun _ _ g => told_tells g J.rightb_iff)
       have CZ : Hid (∀ W, Below w.heap.size w W → Calls Tryz.prog 57 #[.agg #[.int .i64 (n.fs[j]'h1).df.k, .int .i64 (n.fs[j]'h1).df.n, .string (n.fs[j]'h1).df.t, .slice X3 (n.fs[j]'h1).df.its.length x3, .slice X4 (n.fs[j]'h1).df.ks.length x4], .agg #[.int .i64 0, .int .i64 0, .string ⟨#[]⟩, .slice none 0 0, .slice none 0 0]] W (Tells ((n.fs[j]'h1).df = zJ) W)) := fun W b =>
        (rsame_any (n.fs[j]'h1).df zJ W X3 X4 none none x3 x4 0 0 ((t1.below b).more b.size) (tree_lies.1 zJ_lies)).mono fun _ _ g => told_tells g J.same_iff
       obtain ⟨bs, hbs⟩ : ∃ b, b = (decide ((n.fs[j]'h1).al.length ≤ 40) && (n.fs[j]'h1).al.all fun t => Nm.simple t.data.toList) := ⟨_, rfl⟩
       have hbs2 : Hid (bs = true ↔ okSimples (n.fs[j]'h1).al) := by show _ ↔ _; rw [hbs, Bool.and_eq_true, decide_eq_true_eq, List.all_eq_true]; exact Iff.rfl
       simp only [← hbs] at CN1
       have OKF : Hid ((n.fs[j]'h1).ok ↔ okSimples (n.fs[j]'h1).al ∧ (if (n.fs[j]'h1).has = true then (n.fs[j]'h1).df.deep ≤ 32 ∧ (n.fs[j]'h1).df.frm else (n.fs[j]'h1).df = zJ)) := Iff.rfl
       have TK : Hid (((n.fs.take (j + 1)).map Fd.name).map D.s = ((n.fs.take j).map Fd.name).map D.s ++ [D.s (n.fs[j]'h1).name]) := by
        show _ = _
        rw [List.take_succ_eq_append_getElem h1, List.map_append, List.map_append]; rfl
       have LJ : Hid ((((n.fs.take j).map Fd.name).map D.s).length = j) := by show _ = _; have hn := HN3.out; simp; omega
       obtain ⟨ALL, hALL⟩ : ∃ P : Prop, P ↔ (∀ i (h : i < n.fs.length), i < j + 1 → (n.fs[i]'h).ok) := ⟨_, Iff.rfl⟩
       have NX : Hid (ALL ↔ (b = true ∧ (n.fs[j]'h1).ok)) := hALL.trans ⟨fun g => ⟨HF.out.2 (fun i h k => g i h (by omega)), g j h1 (by omega)⟩, fun ⟨g, o⟩ i h k => by
        rcases Nat.lt_or_ge i j with p | p
        · exact HF.out.1 g i h p
        · obtain rfl : i = j := by omega
          exact o⟩
       have HALL := Lib.hid hALL
       generalize hT : n.fs[j]'h1 = T at *
       generalize T.ok = OK at *
       generalize okSimples T.al = O1 at *
       generalize (T.df.deep ≤ 32 ∧ T.df.frm) = O2 at *
       generalize (T.df = zJ) = O3 at *
       generalize T.has = th at *
       have B0 := Lib.hid (B9.newat (w := wr) (t := 51) (x0 := .string T.name) (x1 := .slice X1 T.al.length x1) (x2 := .int .i64 T.ty) (x3 := .bool th) (x4 := .int .i64 T.df.k) (x5 := .int .i64 T.df.n) (x6 := .string T.df.t) (x7 := .slice X3 T.df.its.length x3) (x8 := .slice X4 T.df.ks.length x4) rfl)
       have BV0 : Hid (Below wr.heap.size wr (wr.alloc (.cells #[.string T.name, .slice X1 T.al.length x1, .int .i64 T.ty, .bool th, .int .i64 T.df.k, .int .i64 T.df.n, .string T.df.t, .slice X3 T.df.its.length x3, .slice X4 T.df.ks.length x4] 51))) := (Below.refl _ _).alloc (Nat.le_refl _) _
       have ND : Hid (NewD (wr.alloc (.cells #[.string T.name, .slice X1 T.al.length x1, .int .i64 T.ty, .bool th, .int .i64 T.df.k, .int .i64 T.df.n, .string T.df.t, .slice X3 T.df.its.length x3, .slice X4 T.df.ks.length x4] 51)) wr.heap.size (D.s T.name) [.string T.name]) := ⟨fun _ => False, fun _ h => h.elim, lies_s.2 rfl, fun _ h => h.elim⟩
       have BWR := Lib.hid bw
       subst e1
       clear h1 l1 f1 t1 hT hbs lk HF hALL s1 s2 s3 s4
       go_upto_region 22 with (at_builtin; go_loud (refine wpList_gat2 _ textT rfl (.tmp 86) (.tmp 89) rfl W2.heap.size u8 _ rfl wr HG.out BV0.out 1 #[.string T.name] (by simp [Act.eval]) rfl (by simp [Value.oneCell']) (by rw [LJ.out]; omega) z _ ND.out ?_); intro v5 w5 g5 b5' k5)
       have HG5 : Hid (GatS w5 W2.heap.size 9 1 v5 (((n.fs.take (j + 1)).map Fd.name).map D.s)) := by show GatS _ _ _ _ _ _; rw [TK.out]; exact g5
       have bl5 : Hid (Below W2.heap.size W2 w5) := bl2.trans ((BV0.out.mono z).trans b5')
       have bw5 : Hid (Below w.heap.size w w5) := H0.out.trans (bl5.out.mono zW)
       have B5 : Hid (B9 w5 wr.heap.size 51 (.string T.name) (.slice X1 T.al.length x1) (.int .i64 T.ty) (.bool th) (.int .i64 T.df.k) (.int .i64 T.df.n) (.string T.df.t) (.slice X3 T.df.its.length x3) (.slice X4 T.df.ks.length x4)) := (k5 _ (Nat.le_refl _) (by simp)).trans B0.out
       clear g5 b5' k5 HG ND TK LJ B0 BV0 K1 K2 bl bl2 z bw BWR
       obtain ⟨_, _, _, _, _, _, _, _, _, _, _, _, _, _, _, _, _, _⟩ := B9.facts B5.out
       cases b with
       | false =>
        have HN : Hid ((false : Bool) = true ↔ ALL) := ⟨(fun e => by cases e), fun g => absurd (NX.out.1 g).1 (by simp)⟩
        clear NX OKF
        have HF3 : Hid (false = true ↔ ∀ i (h : i < n.fs.length), i < j + 1 → (n.fs[i]'h).ok) := HN.out.trans HALL.out
        have BB8 : Hid (Below w5.heap.size w5 w5) := Below.refl _ _
        have HG6 := Lib.hid (HG5.out.below BB8.out)
        have bl6 : Hid (Below W2.heap.size W2 _) := bl5.out.trans (BB8.out.mono bl5.out.size)
        clear HALL
        go_wp2_with fail
        go_roundw
        case rel => exact ⟨false, j + 1, by omega, by go_num, rfl, HF3, HG6, bl6⟩
        case measure => simp [intOf]; omega
       | true =>
        have NX2 : Hid (ALL ↔ OK) := NX.out.trans ⟨fun g => g.2, fun g => ⟨rfl, g⟩⟩
        clear NX
        go_wp2_with fail
        with_reducible refine (CN1.out _ bw5.out).mono ?_
        rintro e w6 ⟨rfl, rfl⟩
        cases bs with
        | false =>
         have HN : Hid ((false : Bool) = true ↔ ALL) := ⟨(fun e => by cases e), fun g => by have := hbs2.out.2 (OKF.out.1 (NX2.out.1 g)).1; cases this⟩
         clear NX2 OKF
         have HF3 : Hid (false = true ↔ ∀ i (h : i < n.fs.length), i < j + 1 → (n.fs[i]'h).ok) := HN.out.trans HALL.out
         have BB8 : Hid (Below w5.heap.size w5 w5) := Below.refl _ _
         have HG6 := Lib.hid (HG5.out.below BB8.out)
         have bl6 : Hid (Below W2.heap.size W2 _) := bl5.out.trans (BB8.out.mono bl5.out.size)
         clear HALL
         go_wp2_with fail
         go_roundw
         case rel => exact ⟨false, j + 1, by omega, by go_num, rfl, HF3, HG6, bl6⟩
         case measure => simp [intOf]; omega
        | true =>
         have HO1 := Lib.hid (hbs2.out.1 (by first | rfl | trivial))
         cases th with
         | true =>
          have NX3 : Hid (ALL ↔ O2) := NX2.out.trans (OKF.out.trans ⟨fun g => by simpa using g.2, fun g => ⟨HO1.out, by simpa using g⟩⟩)
          clear NX2 OKF
          go_wp2_with fail
          with_reducible refine (CR.out _ bw5.out).mono ?_
          rintro e w7 ⟨b7, rfl, hb7, bb7⟩
          have HB7 : Hid (b7 = true ↔ ALL) := hb7.trans NX3.out.symm
          have BB7 := Lib.hid bb7
          obtain ⟨_, _, _, _, _, _, _, _, _, _, _, _, _, _, _, _, _, _⟩ := B9.facts (B9.below B5.out bb7 B5.out.lt)
          clear hb7 bb7
          cases b7 with
          | true =>
           have HF3 : Hid (true = true ↔ ∀ i (h : i < n.fs.length), i < j + 1 → (n.fs[i]'h).ok) := HB7.out.trans HALL.out
           have BB8 := BB7
           have HG6 := Lib.hid (HG5.out.below BB8.out)
           have bl6 : Hid (Below W2.heap.size W2 _) := bl5.out.trans (BB8.out.mono bl5.out.size)
           clear HALL
           go_wp2_with fail
           go_roundw
           case rel => exact ⟨true, j + 1, by omega, by go_num, rfl, ⟨fun _ => HF3.out.1 (by first | rfl | trivial), fun _ => rfl⟩, HG6, bl6⟩
           case measure => simp [intOf]; omega
          | false =>
           have HF3 : Hid (false = true ↔ ∀ i (h : i < n.fs.length), i < j + 1 → (n.fs[i]'h).ok) := HB7.out.trans HALL.out
           have BB8 := BB7
           have HG6 := Lib.hid (HG5.out.below BB8.out)
           have bl6 : Hid (Below W2.heap.size W2 _) := bl5.out.trans (BB8.out.mono bl5.out.size)
           clear HALL
           go_wp2_with fail
           go_roundw
           case rel => exact ⟨false, j + 1, by omega, by go_num, rfl, HF3, HG6, bl6⟩
           case measure => simp [intOf]; omega
         | false =>
          have NX3 : Hid (ALL ↔ O3) := NX2.out.trans (OKF.out.trans ⟨fun g => by simpa using g.2, fun g => ⟨HO1.out, by simpa using g⟩⟩)
          clear NX2 OKF
          go_wp2_with fail
          with_reducible refine (CZ.out _ bw5.out).mono ?_
          rintro e w7 ⟨b7, rfl, hb7, bb7⟩
          have HB7 : Hid (b7 = true ↔ ALL) := hb7.trans NX3.out.symm
          have BB7 := Lib.hid bb7
          clear hb7 bb7
          have HF3 : Hid (b7 = true ↔ ∀ i (h : i < n.fs.length), i < j + 1 → (n.fs[i]'h).ok) := HB7.out.trans HALL.out
          have BB8 := BB7
          have HG6 := Lib.hid (HG5.out.below BB8.out)
          have bl6 : Hid (Below W2.heap.size W2 _) := bl5.out.trans (BB8.out.mono bl5.out.size)
          clear HALL
          go_wp2_with fail
          go_roundw
          case rel => exact ⟨b7, j + 1, by omega, by go_num, rfl, HF3, HG6, bl6⟩
          case measure => simp [intOf]; omega
     · obtain rfl : j = n3 := by omega
       have q : ¬ (j : Int) < (j : Int) := by omega
       have TK : n.fs.take j = n.fs := by rw [HN3.out, List.take_length]
       rw [TK] at HG
       obtain ⟨A', c', rfl, hc, S, hS, hr, _⟩ := HG.out.done
       have FL := row_strs.1 hr
       have LN : ((n.fs.map Fd.name).map D.s).length = (n.fs.map Fd.name).length := List.length_map ..
       have LN2 : (n.fs.map Fd.name).length = j := by rw [List.length_map]; exact HN3.out.symm
       have SZ : ∀ t ∈ n.fs.map Fd.name, t.size ≤ 1000000000 := fun t ht => by
        obtain ⟨f, hf, rfl⟩ := List.mem_map.1 ht
        obtain ⟨i, hi, rfl⟩ := List.getElem_of_mem hf
        have := (HS.out i hi).1
        omega
       have FL2 : FlS wr (· < wr.heap.size) A' ((n.fs.map Fd.name).map Value.string) := FlS.keep (fun _ _ => rfl) (fun g hg => (hS _ hg).2) FL
       have C1 := Lib.hid (rsimple_any A' c' (n.fs.map Fd.name) wr FL2 (by unfold maxLen; omega) SZ)
       have C2 := Lib.hid (rOnce_any A' c' (n.fs.map Fd.name) wr FL2 (by unfold maxLen; omega))
       have M1 := Lib.hid bw
       have HALL : Hid (b = true ↔ ∀ i (h : i < n.fs.length), (n.fs[i]'h).ok) := HF.out.trans ⟨fun g i h => g i h (by rw [HN3.out]; exact h), fun g i h _ => g i h⟩
       obtain ⟨bs, hbs⟩ : ∃ b, b = (decide ((n.fs.map Fd.name).length ≤ 40) && (n.fs.map Fd.name).all fun t => Nm.simple t.data.toList) := ⟨_, rfl⟩
       have hbs2 : Hid (bs = true ↔ okSimples (n.fs.map Fd.name)) := by show _ ↔ _; rw [hbs, Bool.and_eq_true, decide_eq_true_eq, List.all_eq_true]; exact Iff.rfl
       obtain ⟨bo, hbo⟩ : ∃ b, b = decide (n.fs.map Fd.name).Nodup := ⟨_, rfl⟩
       have hbo2 : Hid (bo = true ↔ (n.fs.map Fd.name).Nodup) := by show _ ↔ _; rw [hbo]; simp
       rw [← hbs, LN2] at C1
       rw [← hbo, LN2] at C2
       rw [LN, LN2]
       clear hbs hbo
       generalize okSimples (n.fs.map Fd.name) = O1 at *
       generalize (n.fs.map Fd.name).Nodup = O2 at *
       generalize (∀ i (h : i < n.fs.length), (n.fs[i]'h).ok) = O3 at *
       obtain ⟨_, _, _, _, _, _, _, _, _, _, _, _, _, _, _, _, _, _, _, _⟩ := B10.facts K2.out
       clear HF HG hr FL LN LN2 SZ FL2 hS TK HS hjn
       cases b with
       | false =>
        have ZN : Hid (¬ Q) := fun g => by have := HALL.out.2 (RC.out.1 (Z.out.1 g).1).2.2; cases this
        clear Z RC SN C1 C2
        go_wp2_with fail
        go_ret
        exact tells_no (by simp) ZN.out M1.out
       | true =>
       go_wp2_with fail
       with_reducible refine C1.out.mono ?_
       rintro e w6 ⟨rfl, rfl⟩
       cases bs with
       | false =>
        have ZN : Hid (¬ Q) := fun g => by have := hbs2.out.2 (RC.out.1 (Z.out.1 g).1).1; cases this
        clear Z RC SN C2
        go_wp2_with fail
        go_ret
        exact tells_no (by simp) ZN.out M1.out
       | true =>
       go_wp2_with fail
       with_reducible refine C2.out.mono ?_
       rintro e w7 ⟨rfl, b7⟩
       have h7 := M1.out.trans (b7.mono M1.out.size)
       have J1 := Lib.hid (B10.below K1.out b7 K1.out.lt)
       have J2 := Lib.hid (B10.below K2.out b7 K2.out.lt)
       obtain ⟨_, _, _, _, _, _, _, _, _, _, _, _, _, _, _, _, _, _, _, _⟩ := B10.facts J1.out
       obtain ⟨_, _, _, _, _, _, _, _, _, _, _, _, _, _, _, _, _, _, _, _⟩ := B10.facts J2.out
       cases bo with
       | false =>
        have ZN : Hid (¬ Q) := fun g => by have := hbo2.out.2 (RC.out.1 (Z.out.1 g).1).2.1; cases this
        clear Z RC SN
        go_wp2_with fail
        go_ret
        exact tells_no (by simp) ZN.out h7
       | true =>
       have ZY : Hid (Q ↔ P3) := Z.out.trans ⟨fun g => g.2, fun g => ⟨RC.out.2 ⟨hbs2.out.1 (by first | rfl | trivial), hbo2.out.1 (by first | rfl | trivial), HALL.out.1 (by first | rfl | trivial)⟩, g⟩⟩
       clear Z RC
       go_wp2_with fail
       with_reducible refine (SN.out _ h7).mono ?_
       rintro e w9 ⟨b, rfl, hb, b9⟩
       have bw9 : Below w.heap.size w w9 := h7.trans (b9.mono h7.size)
       have HB9 := Lib.hid hb
       clear hb
       go_wp2_with fail
       go_ret
       exact ⟨b, rfl, HB9.out.trans ZY.out.symm, bw9⟩
end Go.Proofs.YtpmgjpchpmkklaaGreatDoor
