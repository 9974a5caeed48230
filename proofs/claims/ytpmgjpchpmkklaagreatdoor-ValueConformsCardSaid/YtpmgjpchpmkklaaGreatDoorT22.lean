/- Joined by tools/bundle.py: KShA KShB. -/
import Derived.Deep.LoopGhost
import Derived.Test.YtpmgjpchpmkklaaGreatDoorT21
import Derived.Test.YtpmgjpchpmkklaaGreatDoorT0
set_option maxRecDepth 100000
set_option maxHeartbeats 16000000
namespace Go.Proofs.YtpmgjpchpmkklaaGreatDoor
open Go.ChangeShapes Go.WideShapes Go.ChangeAt Go.RowKit Mem
theorem rshape_0 (k n : Int) (s : ByteArray) (its : List J) (ks : List ByteArray) (hk : k < 1 ∨ 6 < k) (ih : ShIH its) (hW : (J.mk k n s its ks).wt ≤ 1000000) (w : World) (A3 A4 : Option Addr) (c3 c4 : Nat)
 (ht : TreeC w w.heap.size (.mk k n s its ks) [.int .i64 k, .int .i64 n, .string s, .slice A3 its.length c3, .slice A4 ks.length c4]) :
 Calls Tryz.prog 80 #[.agg #[.int .i64 k, .int .i64 n, .string s, .slice A3 its.length c3, .slice A4 ks.length c4]] w (Told (J.mk k n s its ks).frmb w) := by
 have CS := cell_set
 obtain ⟨_, _, _, _, e, hc3, hc4, rt, ft⟩ := ht.out
 simp only [J.k, J.n, J.t, J.its, J.ks, List.cons.injEq, Value.slice.injEq, true_and, and_true] at e hc3 hc4 rt ft
 obtain ⟨⟨rfl, rfl⟩, rfl, rfl⟩ := e
 have wt : (J.mk k n s its ks).wt = 1 + s.size + kwt ks + J.wts its := by unfold J.wt; rfl
 rw [wt] at hW
 have hss : s.size ≤ 100000000 := by omega
 have FR : Hid ((J.mk k n s its ks).frm ↔ (1 ≤ k ∧ k ≤ 6 ∧ (k ≠ 2 → k ≠ 3 → n = 0) ∧ (k = 2 → n = 0 ∨ n = 1) ∧ (k ≠ 4 → s = Jp.nil_) ∧ (Num.cU s.data.toList).isSome = true ∧ (k < 5 → its = []) ∧ (k ≠ 6 → ks = []) ∧ (k = 6 → ks.length = its.length) ∧ (∀ x ∈ ks, (Num.cU x.data.toList).isSome = true) ∧ ks.Nodup ∧ J.frms its)) := by show _ ↔ _; unfold J.frm; exact Iff.rfl
 have IH := Lib.hid ih
 unfold ShIH at IH
 have RT := Lib.hid rt; have FT := Lib.hid ft
 have KSZ := Lib.hid (fun i (h : i < ks.length) => (show (ks[i]'h).size ≤ 100000000 by have := kwt_at (l := ks) h; omega))
 have hb4 := hc4.2
 have hb3 := hc3.2
 have hr4 := hc4.1
 unfold maxLen at hb4 hb3
 obtain ⟨ni, hni⟩ : ∃ m, m = its.length := ⟨_, rfl⟩
 obtain ⟨nk, hnk⟩ : ∃ m, m = ks.length := ⟨_, rfl⟩
 have HNI := Lib.hid hni; have HNK := Lib.hid hnk
 have ITN : Hid (its = [] ↔ ni = 0) := by show _ ↔ _; rw [hni]; exact List.length_eq_zero_iff.symm
 have KSN : Hid (ks = [] ↔ nk = 0) := by show _ ↔ _; rw [hnk]; exact List.length_eq_zero_iff.symm
 rw [← hni] at hb3 ⊢
 rw [← hnk] at hb4 hr4 ⊢
 obtain ⟨T, hT⟩ : ∃ T, T = J.mk k n s its ks := ⟨_, rfl⟩
 rw [← hT] at FR ⊢
 have W1 : Below w.heap.size w (w.alloc (.cells #[.int .i64 k, .int .i64 n, .string s, .slice A3 ni c3, .slice A4 nk c4] 49)) := (Below.refl _ _).alloc (Nat.le_refl _) _
 have gz1 : (w.alloc (.cells #[.int .i64 k, .int .i64 n, .string s, .slice A3 ni c3, .slice A4 nk c4] 49)).heap.size = w.heap.size + 1 := by simp
 have GZ1 := Lib.hid gz1
 have nilU : Hid ((Num.cU (⟨#[]⟩ : ByteArray).data.toList).isSome = true) := by show _ = true; rw [show (⟨#[]⟩ : ByteArray).data.toList = [] from rfl, Num.cU_nil]; rfl
 have nilS : Hid (Jp.nil_ = (⟨#[]⟩ : ByteArray)) := rfl
 clear ht rt ft ih hc3 hc4 hni hnk gz1 hT wt hW
 by_cases hk0 : k < 1
 · clear nilU
   have Z : Hid (T.frmb = false) := J.frmb_no fun h => by
    have h := FR.out.1 h
    have := h.1; omega
   clear FR IH KSZ ITN KSN
   go_enter Tryz.func80, Tryz.ntmps80
   simp only [List.append]
   go_wp2_with fail
   go_ret
   exact told_ret Z.out bqq
 · by_cases hk7 : 6 < k
   · clear nilU
     have Z : Hid (T.frmb = false) := J.frmb_no fun h => by
      have h := FR.out.1 h
      have := h.2.1; omega
     clear FR IH KSZ ITN KSN
     go_enter Tryz.func80, Tryz.ntmps80
     simp only [List.append]
     go_wp2_with fail
     go_ret
     exact told_ret Z.out bqq
   · exact absurd hk (by omega)
theorem rshape_1 (k n : Int) (s : ByteArray) (its : List J) (ks : List ByteArray) (hk : k = 1) (ih : ShIH its) (hW : (J.mk k n s its ks).wt ≤ 1000000) (w : World) (A3 A4 : Option Addr) (c3 c4 : Nat)
 (ht : TreeC w w.heap.size (.mk k n s its ks) [.int .i64 k, .int .i64 n, .string s, .slice A3 its.length c3, .slice A4 ks.length c4]) :
 Calls Tryz.prog 80 #[.agg #[.int .i64 k, .int .i64 n, .string s, .slice A3 its.length c3, .slice A4 ks.length c4]] w (Told (J.mk k n s its ks).frmb w) := by
 have CS := cell_set
 obtain ⟨_, _, _, _, e, hc3, hc4, rt, ft⟩ := ht.out
 simp only [J.k, J.n, J.t, J.its, J.ks, List.cons.injEq, Value.slice.injEq, true_and, and_true] at e hc3 hc4 rt ft
 obtain ⟨⟨rfl, rfl⟩, rfl, rfl⟩ := e
 have wt : (J.mk k n s its ks).wt = 1 + s.size + kwt ks + J.wts its := by unfold J.wt; rfl
 rw [wt] at hW
 have hss : s.size ≤ 100000000 := by omega
 have FR : Hid ((J.mk k n s its ks).frm ↔ (1 ≤ k ∧ k ≤ 6 ∧ (k ≠ 2 → k ≠ 3 → n = 0) ∧ (k = 2 → n = 0 ∨ n = 1) ∧ (k ≠ 4 → s = Jp.nil_) ∧ (Num.cU s.data.toList).isSome = true ∧ (k < 5 → its = []) ∧ (k ≠ 6 → ks = []) ∧ (k = 6 → ks.length = its.length) ∧ (∀ x ∈ ks, (Num.cU x.data.toList).isSome = true) ∧ ks.Nodup ∧ J.frms its)) := by show _ ↔ _; unfold J.frm; exact Iff.rfl
 have IH := Lib.hid ih
 unfold ShIH at IH
 have RT := Lib.hid rt; have FT := Lib.hid ft
 have KSZ := Lib.hid (fun i (h : i < ks.length) => (show (ks[i]'h).size ≤ 100000000 by have := kwt_at (l := ks) h; omega))
 have hb4 := hc4.2
 have hb3 := hc3.2
 have hr4 := hc4.1
 unfold maxLen at hb4 hb3
 obtain ⟨ni, hni⟩ : ∃ m, m = its.length := ⟨_, rfl⟩
 obtain ⟨nk, hnk⟩ : ∃ m, m = ks.length := ⟨_, rfl⟩
 have HNI := Lib.hid hni; have HNK := Lib.hid hnk
 have ITN : Hid (its = [] ↔ ni = 0) := by show _ ↔ _; rw [hni]; exact List.length_eq_zero_iff.symm
 have KSN : Hid (ks = [] ↔ nk = 0) := by show _ ↔ _; rw [hnk]; exact List.length_eq_zero_iff.symm
 rw [← hni] at hb3 ⊢
 rw [← hnk] at hb4 hr4 ⊢
 obtain ⟨T, hT⟩ : ∃ T, T = J.mk k n s its ks := ⟨_, rfl⟩
 rw [← hT] at FR ⊢
 have W1 : Below w.heap.size w (w.alloc (.cells #[.int .i64 k, .int .i64 n, .string s, .slice A3 ni c3, .slice A4 nk c4] 49)) := (Below.refl _ _).alloc (Nat.le_refl _) _
 have gz1 : (w.alloc (.cells #[.int .i64 k, .int .i64 n, .string s, .slice A3 ni c3, .slice A4 nk c4] 49)).heap.size = w.heap.size + 1 := by simp
 have GZ1 := Lib.hid gz1
 have nilU : Hid ((Num.cU (⟨#[]⟩ : ByteArray).data.toList).isSome = true) := by show _ = true; rw [show (⟨#[]⟩ : ByteArray).data.toList = [] from rfl, Num.cU_nil]; rfl
 have nilS : Hid (Jp.nil_ = (⟨#[]⟩ : ByteArray)) := rfl
 clear ht rt ft ih hc3 hc4 hni hnk gz1 hT wt hW
 subst hk
 by_cases hn : n ≠ 0
 · clear nilU
   have Z : Hid (T.frmb = false) := J.frmb_no fun h => by
    have h := FR.out.1 h
    have := h.2.2.1 (by decide) (by decide); omega
   clear FR IH KSZ ITN KSN
   go_enter Tryz.func80, Tryz.ntmps80
   simp only [List.append]
   go_wp2_with fail
   go_ret
   exact told_ret Z.out bqq
 · obtain rfl : n = 0 := by omega
   clear hn
   by_cases hs : s ≠ ⟨#[]⟩
   · have sx : (s.toList != (⟨#[]⟩ : ByteArray).toList) = true := by rw [str_bne]; simpa using hs
     have sx2 : (s.toList == (⟨#[]⟩ : ByteArray).toList) = false := by rw [str_beq]; simpa using hs
     have sx3 : (s.toList != []) = true := by have := sx; rwa [show (⟨#[]⟩ : ByteArray).toList = [] by rw [ByteArray.toList_eq]] at this
     have sx4 : (s.toList == []) = false := by have := sx2; rwa [show (⟨#[]⟩ : ByteArray).toList = [] by rw [ByteArray.toList_eq]] at this
     have Z : Hid (T.frmb = false) := J.frmb_no fun h => by
      have h := FR.out.1 h
      exact hs (h.2.2.2.2.1 (by decide))
     clear FR IH KSZ ITN KSN
     go_enter Tryz.func80, Tryz.ntmps80
     simp only [List.append]
     go_wp2_with fail
     go_ret
     exact told_ret Z.out bqq
   · obtain rfl : s = ⟨#[]⟩ := by by_cases g : s = ⟨#[]⟩; exact g; exact absurd g hs
     have UU := nilU
     clear hs
     by_cases hi : (0 : Int) < (ni : Int)
     · have HI := Lib.hid hi
       have Z : Hid (T.frmb = false) := J.frmb_no fun h => by
        have h := FR.out.1 h
        have := ITN.out.1 (h.2.2.2.2.2.2.1 (by decide)); have := HI.out; omega
       clear FR IH KSZ ITN KSN
       go_enter Tryz.func80, Tryz.ntmps80
       simp only [List.append]
       go_wp2_with fail
       with_reducible refine (rtext_any _ _ (by first | assumption | decide)).mono ?_
       rintro e w2 ⟨rfl, b2⟩
       rw [GZ1.out] at b2
       have hOwn := Nat.lt_of_lt_of_le (n := w.heap.size) sdd (Below.size b2)
       have hOwn1 := Nat.ne_of_gt hOwn
       have hOwn2 := Nat.ne_of_lt hOwn
       have hOwn := ocl b2 w.heap.size 0
       have hOwn := ocl b2 w.heap.size 1
       have hOwn := ocl b2 w.heap.size 2
       have hOwn := ocl b2 w.heap.size 3
       have hOwn := ocl b2 w.heap.size 4
       have hOwn := ofr b2 w.heap.size 0
       have hOwn := ofr b2 w.heap.size 1
       have hOwn := ofr b2 w.heap.size 2
       have hOwn := ofr b2 w.heap.size 3
       have hOwn := ofr b2 w.heap.size 4
       rw [UU.out]
       go_wp2_with fail
       go_ret
       exact told_ret Z.out bqq
     · have HI0 : Hid (ni = 0) := by show _ = _; omega
       by_cases hq : (0 : Int) < (nk : Int)
       · have HQ := Lib.hid hq
         have Z : Hid (T.frmb = false) := J.frmb_no fun h => by
          have h := FR.out.1 h
          have := KSN.out.1 (h.2.2.2.2.2.2.2.1 (by decide)); have := HQ.out; omega
         clear FR IH KSZ ITN KSN
         go_enter Tryz.func80, Tryz.ntmps80
         simp only [List.append]
         go_wp2_with fail
         with_reducible refine (rtext_any _ _ (by first | assumption | decide)).mono ?_
         rintro e w2 ⟨rfl, b2⟩
         rw [GZ1.out] at b2
         have hOwn := Nat.lt_of_lt_of_le (n := w.heap.size) sdd (Below.size b2)
         have hOwn1 := Nat.ne_of_gt hOwn
         have hOwn2 := Nat.ne_of_lt hOwn
         have hOwn := ocl b2 w.heap.size 0
         have hOwn := ocl b2 w.heap.size 1
         have hOwn := ocl b2 w.heap.size 2
         have hOwn := ocl b2 w.heap.size 3
         have hOwn := ocl b2 w.heap.size 4
         have hOwn := ofr b2 w.heap.size 0
         have hOwn := ofr b2 w.heap.size 1
         have hOwn := ofr b2 w.heap.size 2
         have hOwn := ofr b2 w.heap.size 3
         have hOwn := ofr b2 w.heap.size 4
         rw [UU.out]
         go_wp2_with fail
         go_ret
         exact told_ret Z.out bqq
       · have HQ0 : Hid (nk = 0) := by show _ = _; omega
         have OK : Hid (T.frm ↔ (∀ x ∈ ks, (Num.cU x.data.toList).isSome = true) ∧ ks.Nodup ∧ J.frms its) := by
          show _ ↔ _
          rw [FR.out]
          exact ⟨fun h => h.2.2.2.2.2.2.2.2.2, fun h => ⟨by decide, by decide, fun _ _ => rfl, fun e => absurd e (by decide), fun _ => rfl, UU.out, fun _ => ITN.out.2 HI0.out, fun _ => KSN.out.2 HQ0.out, fun e => absurd e (by decide), h⟩⟩
         have ie := ITN.out.2 HI0.out
         have ke := KSN.out.2 HQ0.out
         have Z : Hid (T.frmb = true) := J.frmb_yes (OK.out.2 ⟨(fun x hx => by rw [ke] at hx; cases hx), (by rw [ke]; exact List.nodup_nil), (by rw [ie]; unfold J.frms; trivial)⟩)
         clear FR ITN KSN OK IH KSZ HNI HNK RT FT ie ke
         obtain rfl := HI0.out
         obtain rfl := HQ0.out
         clear HI0 HQ0
         go_enter Tryz.func80, Tryz.ntmps80
         simp only [List.append]
         go_wp2_with fail
         with_reducible refine (rtext_any _ _ (by first | assumption | decide)).mono ?_
         rintro e w2 ⟨rfl, b2⟩
         rw [GZ1.out] at b2
         have hOwn := Nat.lt_of_lt_of_le (n := w.heap.size) sdd (Below.size b2)
         have hOwn1 := Nat.ne_of_gt hOwn
         have hOwn2 := Nat.ne_of_lt hOwn
         have hOwn := ocl b2 w.heap.size 0
         have hOwn := ocl b2 w.heap.size 1
         have hOwn := ocl b2 w.heap.size 2
         have hOwn := ocl b2 w.heap.size 3
         have hOwn := ocl b2 w.heap.size 4
         have hOwn := ofr b2 w.heap.size 0
         have hOwn := ofr b2 w.heap.size 1
         have hOwn := ofr b2 w.heap.size 2
         have hOwn := ofr b2 w.heap.size 3
         have hOwn := ofr b2 w.heap.size 4
         rw [UU.out]
         go_wp2_with fail
         go_loopw [3] (fun t wr => t = .int .i64 0 ∧ wr = w2) (fun _ _ => 0)
         case atStart => exact ⟨rfl, by first | rfl | trivial⟩
         case round =>
          obtain ⟨rfl, rfl⟩ := hrel
          go_wp2_with fail
          go_loopw [5] (fun t wq => t = .int .i64 0 ∧ wq = wr) (fun _ _ => 0)
          case atStart => exact ⟨rfl, by first | rfl | trivial⟩
          case round =>
           obtain ⟨rfl, rfl⟩ := hrel
           go_wp2_with fail
           go_ret
           exact told_ret Z.out bqq
theorem rshape_2 (k n : Int) (s : ByteArray) (its : List J) (ks : List ByteArray) (hk : k = 2) (ih : ShIH its) (hW : (J.mk k n s its ks).wt ≤ 1000000) (w : World) (A3 A4 : Option Addr) (c3 c4 : Nat)
 (ht : TreeC w w.heap.size (.mk k n s its ks) [.int .i64 k, .int .i64 n, .string s, .slice A3 its.length c3, .slice A4 ks.length c4]) :
 Calls Tryz.prog 80 #[.agg #[.int .i64 k, .int .i64 n, .string s, .slice A3 its.length c3, .slice A4 ks.length c4]] w (Told (J.mk k n s its ks).frmb w) := by
 have CS := cell_set
 obtain ⟨_, _, _, _, e, hc3, hc4, rt, ft⟩ := ht.out
 simp only [J.k, J.n, J.t, J.its, J.ks, List.cons.injEq, Value.slice.injEq, true_and, and_true] at e hc3 hc4 rt ft
 obtain ⟨⟨rfl, rfl⟩, rfl, rfl⟩ := e
 have wt : (J.mk k n s its ks).wt = 1 + s.size + kwt ks + J.wts its := by unfold J.wt; rfl
 rw [wt] at hW
 have hss : s.size ≤ 100000000 := by omega
 have FR : Hid ((J.mk k n s its ks).frm ↔ (1 ≤ k ∧ k ≤ 6 ∧ (k ≠ 2 → k ≠ 3 → n = 0) ∧ (k = 2 → n = 0 ∨ n = 1) ∧ (k ≠ 4 → s = Jp.nil_) ∧ (Num.cU s.data.toList).isSome = true ∧ (k < 5 → its = []) ∧ (k ≠ 6 → ks = []) ∧ (k = 6 → ks.length = its.length) ∧ (∀ x ∈ ks, (Num.cU x.data.toList).isSome = true) ∧ ks.Nodup ∧ J.frms its)) := by show _ ↔ _; unfold J.frm; exact Iff.rfl
 have IH := Lib.hid ih
 unfold ShIH at IH
 have RT := Lib.hid rt; have FT := Lib.hid ft
 have KSZ := Lib.hid (fun i (h : i < ks.length) => (show (ks[i]'h).size ≤ 100000000 by have := kwt_at (l := ks) h; omega))
 have hb4 := hc4.2
 have hb3 := hc3.2
 have hr4 := hc4.1
 unfold maxLen at hb4 hb3
 obtain ⟨ni, hni⟩ : ∃ m, m = its.length := ⟨_, rfl⟩
 obtain ⟨nk, hnk⟩ : ∃ m, m = ks.length := ⟨_, rfl⟩
 have HNI := Lib.hid hni; have HNK := Lib.hid hnk
 have ITN : Hid (its = [] ↔ ni = 0) := by show _ ↔ _; rw [hni]; exact List.length_eq_zero_iff.symm
 have KSN : Hid (ks = [] ↔ nk = 0) := by show _ ↔ _; rw [hnk]; exact List.length_eq_zero_iff.symm
 rw [← hni] at hb3 ⊢
 rw [← hnk] at hb4 hr4 ⊢
 obtain ⟨T, hT⟩ : ∃ T, T = J.mk k n s its ks := ⟨_, rfl⟩
 rw [← hT] at FR ⊢
 have W1 : Below w.heap.size w (w.alloc (.cells #[.int .i64 k, .int .i64 n, .string s, .slice A3 ni c3, .slice A4 nk c4] 49)) := (Below.refl _ _).alloc (Nat.le_refl _) _
 have gz1 : (w.alloc (.cells #[.int .i64 k, .int .i64 n, .string s, .slice A3 ni c3, .slice A4 nk c4] 49)).heap.size = w.heap.size + 1 := by simp
 have GZ1 := Lib.hid gz1
 have nilU : Hid ((Num.cU (⟨#[]⟩ : ByteArray).data.toList).isSome = true) := by show _ = true; rw [show (⟨#[]⟩ : ByteArray).data.toList = [] from rfl, Num.cU_nil]; rfl
 have nilS : Hid (Jp.nil_ = (⟨#[]⟩ : ByteArray)) := rfl
 clear ht rt ft ih hc3 hc4 hni hnk gz1 hT wt hW
 subst hk
 by_cases hn : n ≠ 0 ∧ n ≠ 1
 · obtain ⟨hn0, hn1⟩ := hn
   have Z : Hid (T.frmb = false) := J.frmb_no fun h => by
    have h := FR.out.1 h
    have := h.2.2.2.1 rfl; omega
   clear FR IH KSZ ITN KSN
   go_enter Tryz.func80, Tryz.ntmps80
   simp only [List.append]
   go_wp2_with fail
   go_ret
   exact told_ret Z.out bqq
 · have hn2 : n = 0 ∨ n = 1 := by omega
   clear hn
   by_cases hs : s ≠ ⟨#[]⟩
   · have sx : (s.toList != (⟨#[]⟩ : ByteArray).toList) = true := by rw [str_bne]; simpa using hs
     have sx2 : (s.toList == (⟨#[]⟩ : ByteArray).toList) = false := by rw [str_beq]; simpa using hs
     have sx3 : (s.toList != []) = true := by have := sx; rwa [show (⟨#[]⟩ : ByteArray).toList = [] by rw [ByteArray.toList_eq]] at this
     have sx4 : (s.toList == []) = false := by have := sx2; rwa [show (⟨#[]⟩ : ByteArray).toList = [] by rw [ByteArray.toList_eq]] at this
     rcases hn2 with rfl | rfl
     all_goals
      have Z : Hid (T.frmb = false) := J.frmb_no fun h => by
       have h := FR.out.1 h
       exact hs (h.2.2.2.2.1 (by decide))
      clear FR IH KSZ ITN KSN
      go_enter Tryz.func80, Tryz.ntmps80
      simp only [List.append]
      go_wp2_with fail
      go_ret
      exact told_ret Z.out bqq
   · obtain rfl : s = ⟨#[]⟩ := by by_cases g : s = ⟨#[]⟩; exact g; exact absurd g hs
     have UU := nilU
     clear hs
     by_cases hi : (0 : Int) < (ni : Int)
     · have HI := Lib.hid hi
       have Z : Hid (T.frmb = false) := J.frmb_no fun h => by
        have h := FR.out.1 h
        have := ITN.out.1 (h.2.2.2.2.2.2.1 (by decide)); have := HI.out; omega
       clear FR IH KSZ ITN KSN
       rcases hn2 with rfl | rfl
       all_goals
        go_enter Tryz.func80, Tryz.ntmps80
        simp only [List.append]
        go_wp2_with fail
        with_reducible refine (rtext_any _ _ (by first | assumption | decide)).mono ?_
        rintro e w2 ⟨rfl, b2⟩
        rw [GZ1.out] at b2
        have hOwn := Nat.lt_of_lt_of_le (n := w.heap.size) sdd (Below.size b2)
        have hOwn1 := Nat.ne_of_gt hOwn
        have hOwn2 := Nat.ne_of_lt hOwn
        have hOwn := ocl b2 w.heap.size 0
        have hOwn := ocl b2 w.heap.size 1
        have hOwn := ocl b2 w.heap.size 2
        have hOwn := ocl b2 w.heap.size 3
        have hOwn := ocl b2 w.heap.size 4
        have hOwn := ofr b2 w.heap.size 0
        have hOwn := ofr b2 w.heap.size 1
        have hOwn := ofr b2 w.heap.size 2
        have hOwn := ofr b2 w.heap.size 3
        have hOwn := ofr b2 w.heap.size 4
        rw [UU.out]
        go_wp2_with fail
        go_ret
        exact told_ret Z.out bqq
     · have HI0 : Hid (ni = 0) := by show _ = _; omega
       by_cases hq : (0 : Int) < (nk : Int)
       · have HQ := Lib.hid hq
         have Z : Hid (T.frmb = false) := J.frmb_no fun h => by
          have h := FR.out.1 h
          have := KSN.out.1 (h.2.2.2.2.2.2.2.1 (by decide)); have := HQ.out; omega
         clear FR IH KSZ ITN KSN
         rcases hn2 with rfl | rfl
         all_goals
          go_enter Tryz.func80, Tryz.ntmps80
          simp only [List.append]
          go_wp2_with fail
          with_reducible refine (rtext_any _ _ (by first | assumption | decide)).mono ?_
          rintro e w2 ⟨rfl, b2⟩
          rw [GZ1.out] at b2
          have hOwn := Nat.lt_of_lt_of_le (n := w.heap.size) sdd (Below.size b2)
          have hOwn1 := Nat.ne_of_gt hOwn
          have hOwn2 := Nat.ne_of_lt hOwn
          have hOwn := ocl b2 w.heap.size 0
          have hOwn := ocl b2 w.heap.size 1
          have hOwn := ocl b2 w.heap.size 2
          have hOwn := ocl b2 w.heap.size 3
          have hOwn := ocl b2 w.heap.size 4
          have hOwn := ofr b2 w.heap.size 0
          have hOwn := ofr b2 w.heap.size 1
          have hOwn := ofr b2 w.heap.size 2
          have hOwn := ofr b2 w.heap.size 3
          have hOwn := ofr b2 w.heap.size 4
          rw [UU.out]
          go_wp2_with fail
          go_ret
          exact told_ret Z.out bqq
       · have HQ0 : Hid (nk = 0) := by show _ = _; omega
         have OK : Hid (T.frm ↔ (∀ x ∈ ks, (Num.cU x.data.toList).isSome = true) ∧ ks.Nodup ∧ J.frms its) := by
          show _ ↔ _
          rw [FR.out]
          exact ⟨fun h => h.2.2.2.2.2.2.2.2.2, fun h => ⟨by decide, by decide, fun e => absurd rfl e, fun _ => hn2, fun _ => rfl, UU.out, fun _ => ITN.out.2 HI0.out, fun _ => KSN.out.2 HQ0.out, fun e => absurd e (by decide), h⟩⟩
         have ie := ITN.out.2 HI0.out
         have ke := KSN.out.2 HQ0.out
         have Z : Hid (T.frmb = true) := J.frmb_yes (OK.out.2 ⟨(fun x hx => by rw [ke] at hx; cases hx), (by rw [ke]; exact List.nodup_nil), (by rw [ie]; unfold J.frms; trivial)⟩)
         clear FR ITN KSN OK IH KSZ HNI HNK RT FT ie ke
         obtain rfl := HI0.out
         obtain rfl := HQ0.out
         clear HI0 HQ0
         rcases hn2 with rfl | rfl
         all_goals
          go_enter Tryz.func80, Tryz.ntmps80
          simp only [List.append]
          go_wp2_with fail
          with_reducible refine (rtext_any _ _ (by first | assumption | decide)).mono ?_
          rintro e w2 ⟨rfl, b2⟩
          rw [GZ1.out] at b2
          have hOwn := Nat.lt_of_lt_of_le (n := w.heap.size) sdd (Below.size b2)
          have hOwn1 := Nat.ne_of_gt hOwn
          have hOwn2 := Nat.ne_of_lt hOwn
          have hOwn := ocl b2 w.heap.size 0
          have hOwn := ocl b2 w.heap.size 1
          have hOwn := ocl b2 w.heap.size 2
          have hOwn := ocl b2 w.heap.size 3
          have hOwn := ocl b2 w.heap.size 4
          have hOwn := ofr b2 w.heap.size 0
          have hOwn := ofr b2 w.heap.size 1
          have hOwn := ofr b2 w.heap.size 2
          have hOwn := ofr b2 w.heap.size 3
          have hOwn := ofr b2 w.heap.size 4
          rw [UU.out]
          go_wp2_with fail
          go_loopw [3] (fun t wr => t = .int .i64 0 ∧ wr = w2) (fun _ _ => 0)
          case atStart => exact ⟨rfl, by first | rfl | trivial⟩
          case round =>
           obtain ⟨rfl, rfl⟩ := hrel
           go_wp2_with fail
           go_loopw [5] (fun t wq => t = .int .i64 0 ∧ wq = wr) (fun _ _ => 0)
           case atStart => exact ⟨rfl, by first | rfl | trivial⟩
           case round =>
            obtain ⟨rfl, rfl⟩ := hrel
            go_wp2_with fail
            go_ret
            exact told_ret Z.out bqq
theorem rshape_3 (k n : Int) (s : ByteArray) (its : List J) (ks : List ByteArray) (hk : k = 3) (ih : ShIH its) (hW : (J.mk k n s its ks).wt ≤ 1000000) (w : World) (A3 A4 : Option Addr) (c3 c4 : Nat)
 (ht : TreeC w w.heap.size (.mk k n s its ks) [.int .i64 k, .int .i64 n, .string s, .slice A3 its.length c3, .slice A4 ks.length c4]) :
 Calls Tryz.prog 80 #[.agg #[.int .i64 k, .int .i64 n, .string s, .slice A3 its.length c3, .slice A4 ks.length c4]] w (Told (J.mk k n s its ks).frmb w) := by
 have CS := cell_set
 obtain ⟨_, _, _, _, e, hc3, hc4, rt, ft⟩ := ht.out
 simp only [J.k, J.n, J.t, J.its, J.ks, List.cons.injEq, Value.slice.injEq, true_and, and_true] at e hc3 hc4 rt ft
 obtain ⟨⟨rfl, rfl⟩, rfl, rfl⟩ := e
 have wt : (J.mk k n s its ks).wt = 1 + s.size + kwt ks + J.wts its := by unfold J.wt; rfl
 rw [wt] at hW
 have hss : s.size ≤ 100000000 := by omega
 have FR : Hid ((J.mk k n s its ks).frm ↔ (1 ≤ k ∧ k ≤ 6 ∧ (k ≠ 2 → k ≠ 3 → n = 0) ∧ (k = 2 → n = 0 ∨ n = 1) ∧ (k ≠ 4 → s = Jp.nil_) ∧ (Num.cU s.data.toList).isSome = true ∧ (k < 5 → its = []) ∧ (k ≠ 6 → ks = []) ∧ (k = 6 → ks.length = its.length) ∧ (∀ x ∈ ks, (Num.cU x.data.toList).isSome = true) ∧ ks.Nodup ∧ J.frms its)) := by show _ ↔ _; unfold J.frm; exact Iff.rfl
 have IH := Lib.hid ih
 unfold ShIH at IH
 have RT := Lib.hid rt; have FT := Lib.hid ft
 have KSZ := Lib.hid (fun i (h : i < ks.length) => (show (ks[i]'h).size ≤ 100000000 by have := kwt_at (l := ks) h; omega))
 have hb4 := hc4.2
 have hb3 := hc3.2
 have hr4 := hc4.1
 unfold maxLen at hb4 hb3
 obtain ⟨ni, hni⟩ : ∃ m, m = its.length := ⟨_, rfl⟩
 obtain ⟨nk, hnk⟩ : ∃ m, m = ks.length := ⟨_, rfl⟩
 have HNI := Lib.hid hni; have HNK := Lib.hid hnk
 have ITN : Hid (its = [] ↔ ni = 0) := by show _ ↔ _; rw [hni]; exact List.length_eq_zero_iff.symm
 have KSN : Hid (ks = [] ↔ nk = 0) := by show _ ↔ _; rw [hnk]; exact List.length_eq_zero_iff.symm
 rw [← hni] at hb3 ⊢
 rw [← hnk] at hb4 hr4 ⊢
 obtain ⟨T, hT⟩ : ∃ T, T = J.mk k n s its ks := ⟨_, rfl⟩
 rw [← hT] at FR ⊢
 have W1 : Below w.heap.size w (w.alloc (.cells #[.int .i64 k, .int .i64 n, .string s, .slice A3 ni c3, .slice A4 nk c4] 49)) := (Below.refl _ _).alloc (Nat.le_refl _) _
 have gz1 : (w.alloc (.cells #[.int .i64 k, .int .i64 n, .string s, .slice A3 ni c3, .slice A4 nk c4] 49)).heap.size = w.heap.size + 1 := by simp
 have GZ1 := Lib.hid gz1
 have nilU : Hid ((Num.cU (⟨#[]⟩ : ByteArray).data.toList).isSome = true) := by show _ = true; rw [show (⟨#[]⟩ : ByteArray).data.toList = [] from rfl, Num.cU_nil]; rfl
 have nilS : Hid (Jp.nil_ = (⟨#[]⟩ : ByteArray)) := rfl
 clear ht rt ft ih hc3 hc4 hni hnk gz1 hT wt hW
 subst hk
 by_cases hs : s ≠ ⟨#[]⟩
 · have sx : (s.toList != (⟨#[]⟩ : ByteArray).toList) = true := by rw [str_bne]; simpa using hs
   have sx2 : (s.toList == (⟨#[]⟩ : ByteArray).toList) = false := by rw [str_beq]; simpa using hs
   have sx3 : (s.toList != []) = true := by have := sx; rwa [show (⟨#[]⟩ : ByteArray).toList = [] by rw [ByteArray.toList_eq]] at this
   have sx4 : (s.toList == []) = false := by have := sx2; rwa [show (⟨#[]⟩ : ByteArray).toList = [] by rw [ByteArray.toList_eq]] at this
   have Z : Hid (T.frmb = false) := J.frmb_no fun h => by
    have h := FR.out.1 h
    exact hs (h.2.2.2.2.1 (by decide))
   clear FR IH KSZ ITN KSN
   go_enter Tryz.func80, Tryz.ntmps80
   simp only [List.append]
   go_wp2_with fail
   go_ret
   exact told_ret Z.out bqq
 · obtain rfl : s = ⟨#[]⟩ := by by_cases g : s = ⟨#[]⟩; exact g; exact absurd g hs
   have UU := nilU
   clear hs
   by_cases hi : (0 : Int) < (ni : Int)
   · have HI := Lib.hid hi
     have Z : Hid (T.frmb = false) := J.frmb_no fun h => by
      have h := FR.out.1 h
      have := ITN.out.1 (h.2.2.2.2.2.2.1 (by decide)); have := HI.out; omega
     clear FR IH KSZ ITN KSN
     go_enter Tryz.func80, Tryz.ntmps80
     simp only [List.append]
     go_wp2_with fail
     with_reducible refine (rtext_any _ _ (by first | assumption | decide)).mono ?_
     rintro e w2 ⟨rfl, b2⟩
     rw [GZ1.out] at b2
     have hOwn := Nat.lt_of_lt_of_le (n := w.heap.size) sdd (Below.size b2)
     have hOwn1 := Nat.ne_of_gt hOwn
     have hOwn2 := Nat.ne_of_lt hOwn
     have hOwn := ocl b2 w.heap.size 0
     have hOwn := ocl b2 w.heap.size 1
     have hOwn := ocl b2 w.heap.size 2
     have hOwn := ocl b2 w.heap.size 3
     have hOwn := ocl b2 w.heap.size 4
     have hOwn := ofr b2 w.heap.size 0
     have hOwn := ofr b2 w.heap.size 1
     have hOwn := ofr b2 w.heap.size 2
     have hOwn := ofr b2 w.heap.size 3
     have hOwn := ofr b2 w.heap.size 4
     rw [UU.out]
     go_wp2_with fail
     go_ret
     exact told_ret Z.out bqq
   · have HI0 : Hid (ni = 0) := by show _ = _; omega
     by_cases hq : (0 : Int) < (nk : Int)
     · have HQ := Lib.hid hq
       have Z : Hid (T.frmb = false) := J.frmb_no fun h => by
        have h := FR.out.1 h
        have := KSN.out.1 (h.2.2.2.2.2.2.2.1 (by decide)); have := HQ.out; omega
       clear FR IH KSZ ITN KSN
       go_enter Tryz.func80, Tryz.ntmps80
       simp only [List.append]
       go_wp2_with fail
       with_reducible refine (rtext_any _ _ (by first | assumption | decide)).mono ?_
       rintro e w2 ⟨rfl, b2⟩
       rw [GZ1.out] at b2
       have hOwn := Nat.lt_of_lt_of_le (n := w.heap.size) sdd (Below.size b2)
       have hOwn1 := Nat.ne_of_gt hOwn
       have hOwn2 := Nat.ne_of_lt hOwn
       have hOwn := ocl b2 w.heap.size 0
       have hOwn := ocl b2 w.heap.size 1
       have hOwn := ocl b2 w.heap.size 2
       have hOwn := ocl b2 w.heap.size 3
       have hOwn := ocl b2 w.heap.size 4
       have hOwn := ofr b2 w.heap.size 0
       have hOwn := ofr b2 w.heap.size 1
       have hOwn := ofr b2 w.heap.size 2
       have hOwn := ofr b2 w.heap.size 3
       have hOwn := ofr b2 w.heap.size 4
       rw [UU.out]
       go_wp2_with fail
       go_ret
       exact told_ret Z.out bqq
     · have HQ0 : Hid (nk = 0) := by show _ = _; omega
       have OK : Hid (T.frm ↔ (∀ x ∈ ks, (Num.cU x.data.toList).isSome = true) ∧ ks.Nodup ∧ J.frms its) := by
        show _ ↔ _
        rw [FR.out]
        exact ⟨fun h => h.2.2.2.2.2.2.2.2.2, fun h => ⟨by decide, by decide, fun _ e => absurd rfl e, fun e => absurd e (by decide), fun _ => rfl, UU.out, fun _ => ITN.out.2 HI0.out, fun _ => KSN.out.2 HQ0.out, fun e => absurd e (by decide), h⟩⟩
       have ie := ITN.out.2 HI0.out
       have ke := KSN.out.2 HQ0.out
       have Z : Hid (T.frmb = true) := J.frmb_yes (OK.out.2 ⟨(fun x hx => by rw [ke] at hx; cases hx), (by rw [ke]; exact List.nodup_nil), (by rw [ie]; unfold J.frms; trivial)⟩)
       clear FR ITN KSN OK IH KSZ HNI HNK RT FT ie ke
       obtain rfl := HI0.out
       obtain rfl := HQ0.out
       clear HI0 HQ0
       go_enter Tryz.func80, Tryz.ntmps80
       simp only [List.append]
       go_wp2_with fail
       with_reducible refine (rtext_any _ _ (by first | assumption | decide)).mono ?_
       rintro e w2 ⟨rfl, b2⟩
       rw [GZ1.out] at b2
       have hOwn := Nat.lt_of_lt_of_le (n := w.heap.size) sdd (Below.size b2)
       have hOwn1 := Nat.ne_of_gt hOwn
       have hOwn2 := Nat.ne_of_lt hOwn
       have hOwn := ocl b2 w.heap.size 0
       have hOwn := ocl b2 w.heap.size 1
       have hOwn := ocl b2 w.heap.size 2
       have hOwn := ocl b2 w.heap.size 3
       have hOwn := ocl b2 w.heap.size 4
       have hOwn := ofr b2 w.heap.size 0
       have hOwn := ofr b2 w.heap.size 1
       have hOwn := ofr b2 w.heap.size 2
       have hOwn := ofr b2 w.heap.size 3
       have hOwn := ofr b2 w.heap.size 4
       rw [UU.out]
       go_wp2_with fail
       go_loopw [3] (fun t wr => t = .int .i64 0 ∧ wr = w2) (fun _ _ => 0)
       case atStart => exact ⟨rfl, by first | rfl | trivial⟩
       case round =>
        obtain ⟨rfl, rfl⟩ := hrel
        go_wp2_with fail
        go_loopw [5] (fun t wq => t = .int .i64 0 ∧ wq = wr) (fun _ _ => 0)
        case atStart => exact ⟨rfl, by first | rfl | trivial⟩
        case round =>
         obtain ⟨rfl, rfl⟩ := hrel
         go_wp2_with fail
         go_ret
         exact told_ret Z.out bqq
theorem rshape_4 (k n : Int) (s : ByteArray) (its : List J) (ks : List ByteArray) (hk : k = 4) (ih : ShIH its) (hW : (J.mk k n s its ks).wt ≤ 1000000) (w : World) (A3 A4 : Option Addr) (c3 c4 : Nat)
 (ht : TreeC w w.heap.size (.mk k n s its ks) [.int .i64 k, .int .i64 n, .string s, .slice A3 its.length c3, .slice A4 ks.length c4]) :
 Calls Tryz.prog 80 #[.agg #[.int .i64 k, .int .i64 n, .string s, .slice A3 its.length c3, .slice A4 ks.length c4]] w (Told (J.mk k n s its ks).frmb w) := by
 have CS := cell_set
 obtain ⟨_, _, _, _, e, hc3, hc4, rt, ft⟩ := ht.out
 simp only [J.k, J.n, J.t, J.its, J.ks, List.cons.injEq, Value.slice.injEq, true_and, and_true] at e hc3 hc4 rt ft
 obtain ⟨⟨rfl, rfl⟩, rfl, rfl⟩ := e
 have wt : (J.mk k n s its ks).wt = 1 + s.size + kwt ks + J.wts its := by unfold J.wt; rfl
 rw [wt] at hW
 have hss : s.size ≤ 100000000 := by omega
 have FR : Hid ((J.mk k n s its ks).frm ↔ (1 ≤ k ∧ k ≤ 6 ∧ (k ≠ 2 → k ≠ 3 → n = 0) ∧ (k = 2 → n = 0 ∨ n = 1) ∧ (k ≠ 4 → s = Jp.nil_) ∧ (Num.cU s.data.toList).isSome = true ∧ (k < 5 → its = []) ∧ (k ≠ 6 → ks = []) ∧ (k = 6 → ks.length = its.length) ∧ (∀ x ∈ ks, (Num.cU x.data.toList).isSome = true) ∧ ks.Nodup ∧ J.frms its)) := by show _ ↔ _; unfold J.frm; exact Iff.rfl
 have IH := Lib.hid ih
 unfold ShIH at IH
 have RT := Lib.hid rt; have FT := Lib.hid ft
 have KSZ := Lib.hid (fun i (h : i < ks.length) => (show (ks[i]'h).size ≤ 100000000 by have := kwt_at (l := ks) h; omega))
 have hb4 := hc4.2
 have hb3 := hc3.2
 have hr4 := hc4.1
 unfold maxLen at hb4 hb3
 obtain ⟨ni, hni⟩ : ∃ m, m = its.length := ⟨_, rfl⟩
 obtain ⟨nk, hnk⟩ : ∃ m, m = ks.length := ⟨_, rfl⟩
 have HNI := Lib.hid hni; have HNK := Lib.hid hnk
 have ITN : Hid (its = [] ↔ ni = 0) := by show _ ↔ _; rw [hni]; exact List.length_eq_zero_iff.symm
 have KSN : Hid (ks = [] ↔ nk = 0) := by show _ ↔ _; rw [hnk]; exact List.length_eq_zero_iff.symm
 rw [← hni] at hb3 ⊢
 rw [← hnk] at hb4 hr4 ⊢
 obtain ⟨T, hT⟩ : ∃ T, T = J.mk k n s its ks := ⟨_, rfl⟩
 rw [← hT] at FR ⊢
 have W1 : Below w.heap.size w (w.alloc (.cells #[.int .i64 k, .int .i64 n, .string s, .slice A3 ni c3, .slice A4 nk c4] 49)) := (Below.refl _ _).alloc (Nat.le_refl _) _
 have gz1 : (w.alloc (.cells #[.int .i64 k, .int .i64 n, .string s, .slice A3 ni c3, .slice A4 nk c4] 49)).heap.size = w.heap.size + 1 := by simp
 have GZ1 := Lib.hid gz1
 have nilU : Hid ((Num.cU (⟨#[]⟩ : ByteArray).data.toList).isSome = true) := by show _ = true; rw [show (⟨#[]⟩ : ByteArray).data.toList = [] from rfl, Num.cU_nil]; rfl
 have nilS : Hid (Jp.nil_ = (⟨#[]⟩ : ByteArray)) := rfl
 clear ht rt ft ih hc3 hc4 hni hnk gz1 hT wt hW
 subst hk
 by_cases hn : n ≠ 0
 · clear nilU
   have Z : Hid (T.frmb = false) := J.frmb_no fun h => by
    have h := FR.out.1 h
    have := h.2.2.1 (by decide) (by decide); omega
   clear FR IH KSZ ITN KSN
   go_enter Tryz.func80, Tryz.ntmps80
   simp only [List.append]
   go_wp2_with fail
   go_ret
   exact told_ret Z.out bqq
 · obtain rfl : n = 0 := by omega
   clear hn
   by_cases hu : (Num.cU s.data.toList).isSome = false
   · have HU := Lib.hid hu
     clear hu
     have Z : Hid (T.frmb = false) := J.frmb_no fun h => by
      have h := FR.out.1 h
      have := h.2.2.2.2.2.1; rw [HU.out] at this; cases this
     clear FR IH KSZ ITN KSN
     go_enter Tryz.func80, Tryz.ntmps80
     simp only [List.append]
     go_wp2_with fail
     with_reducible refine (rtext_any _ _ (by first | assumption | decide)).mono ?_
     rintro e w2 ⟨rfl, b2⟩
     rw [GZ1.out] at b2
     have hOwn := Nat.lt_of_lt_of_le (n := w.heap.size) sdd (Below.size b2)
     have hOwn1 := Nat.ne_of_gt hOwn
     have hOwn2 := Nat.ne_of_lt hOwn
     have hOwn := ocl b2 w.heap.size 0
     have hOwn := ocl b2 w.heap.size 1
     have hOwn := ocl b2 w.heap.size 2
     have hOwn := ocl b2 w.heap.size 3
     have hOwn := ocl b2 w.heap.size 4
     have hOwn := ofr b2 w.heap.size 0
     have hOwn := ofr b2 w.heap.size 1
     have hOwn := ofr b2 w.heap.size 2
     have hOwn := ofr b2 w.heap.size 3
     have hOwn := ofr b2 w.heap.size 4
     rw [HU.out]
     go_wp2_with fail
     go_ret
     exact told_ret Z.out bqq
   · have UU : Hid ((Num.cU s.data.toList).isSome = true) := (Bool.eq_false_or_eq_true _).resolve_right hu
     clear hu
     by_cases hi : (0 : Int) < (ni : Int)
     · have HI := Lib.hid hi
       have Z : Hid (T.frmb = false) := J.frmb_no fun h => by
        have h := FR.out.1 h
        have := ITN.out.1 (h.2.2.2.2.2.2.1 (by decide)); have := HI.out; omega
       clear FR IH KSZ ITN KSN
       go_enter Tryz.func80, Tryz.ntmps80
       simp only [List.append]
       go_wp2_with fail
       with_reducible refine (rtext_any _ _ (by first | assumption | decide)).mono ?_
       rintro e w2 ⟨rfl, b2⟩
       rw [GZ1.out] at b2
       have hOwn := Nat.lt_of_lt_of_le (n := w.heap.size) sdd (Below.size b2)
       have hOwn1 := Nat.ne_of_gt hOwn
       have hOwn2 := Nat.ne_of_lt hOwn
       have hOwn := ocl b2 w.heap.size 0
       have hOwn := ocl b2 w.heap.size 1
       have hOwn := ocl b2 w.heap.size 2
       have hOwn := ocl b2 w.heap.size 3
       have hOwn := ocl b2 w.heap.size 4
       have hOwn := ofr b2 w.heap.size 0
       have hOwn := ofr b2 w.heap.size 1
       have hOwn := ofr b2 w.heap.size 2
       have hOwn := ofr b2 w.heap.size 3
       have hOwn := ofr b2 w.heap.size 4
       rw [UU.out]
       go_wp2_with fail
       go_ret
       exact told_ret Z.out bqq
     · have HI0 : Hid (ni = 0) := by show _ = _; omega
       by_cases hq : (0 : Int) < (nk : Int)
       · have HQ := Lib.hid hq
         have Z : Hid (T.frmb = false) := J.frmb_no fun h => by
          have h := FR.out.1 h
          have := KSN.out.1 (h.2.2.2.2.2.2.2.1 (by decide)); have := HQ.out; omega
         clear FR IH KSZ ITN KSN
         go_enter Tryz.func80, Tryz.ntmps80
         simp only [List.append]
         go_wp2_with fail
         with_reducible refine (rtext_any _ _ (by first | assumption | decide)).mono ?_
         rintro e w2 ⟨rfl, b2⟩
         rw [GZ1.out] at b2
         have hOwn := Nat.lt_of_lt_of_le (n := w.heap.size) sdd (Below.size b2)
         have hOwn1 := Nat.ne_of_gt hOwn
         have hOwn2 := Nat.ne_of_lt hOwn
         have hOwn := ocl b2 w.heap.size 0
         have hOwn := ocl b2 w.heap.size 1
         have hOwn := ocl b2 w.heap.size 2
         have hOwn := ocl b2 w.heap.size 3
         have hOwn := ocl b2 w.heap.size 4
         have hOwn := ofr b2 w.heap.size 0
         have hOwn := ofr b2 w.heap.size 1
         have hOwn := ofr b2 w.heap.size 2
         have hOwn := ofr b2 w.heap.size 3
         have hOwn := ofr b2 w.heap.size 4
         rw [UU.out]
         go_wp2_with fail
         go_ret
         exact told_ret Z.out bqq
       · have HQ0 : Hid (nk = 0) := by show _ = _; omega
         have OK : Hid (T.frm ↔ (∀ x ∈ ks, (Num.cU x.data.toList).isSome = true) ∧ ks.Nodup ∧ J.frms its) := by
          show _ ↔ _
          rw [FR.out]
          exact ⟨fun h => h.2.2.2.2.2.2.2.2.2, fun h => ⟨by decide, by decide, fun _ _ => rfl, fun e => absurd e (by decide), fun e => absurd rfl e, UU.out, fun _ => ITN.out.2 HI0.out, fun _ => KSN.out.2 HQ0.out, fun e => absurd e (by decide), h⟩⟩
         have ie := ITN.out.2 HI0.out
         have ke := KSN.out.2 HQ0.out
         have Z : Hid (T.frmb = true) := J.frmb_yes (OK.out.2 ⟨(fun x hx => by rw [ke] at hx; cases hx), (by rw [ke]; exact List.nodup_nil), (by rw [ie]; unfold J.frms; trivial)⟩)
         clear FR ITN KSN OK IH KSZ HNI HNK RT FT ie ke
         obtain rfl := HI0.out
         obtain rfl := HQ0.out
         clear HI0 HQ0
         go_enter Tryz.func80, Tryz.ntmps80
         simp only [List.append]
         go_wp2_with fail
         with_reducible refine (rtext_any _ _ (by first | assumption | decide)).mono ?_
         rintro e w2 ⟨rfl, b2⟩
         rw [GZ1.out] at b2
         have hOwn := Nat.lt_of_lt_of_le (n := w.heap.size) sdd (Below.size b2)
         have hOwn1 := Nat.ne_of_gt hOwn
         have hOwn2 := Nat.ne_of_lt hOwn
         have hOwn := ocl b2 w.heap.size 0
         have hOwn := ocl b2 w.heap.size 1
         have hOwn := ocl b2 w.heap.size 2
         have hOwn := ocl b2 w.heap.size 3
         have hOwn := ocl b2 w.heap.size 4
         have hOwn := ofr b2 w.heap.size 0
         have hOwn := ofr b2 w.heap.size 1
         have hOwn := ofr b2 w.heap.size 2
         have hOwn := ofr b2 w.heap.size 3
         have hOwn := ofr b2 w.heap.size 4
         rw [UU.out]
         go_wp2_with fail
         go_loopw [3] (fun t wr => t = .int .i64 0 ∧ wr = w2) (fun _ _ => 0)
         case atStart => exact ⟨rfl, by first | rfl | trivial⟩
         case round =>
          obtain ⟨rfl, rfl⟩ := hrel
          go_wp2_with fail
          go_loopw [5] (fun t wq => t = .int .i64 0 ∧ wq = wr) (fun _ _ => 0)
          case atStart => exact ⟨rfl, by first | rfl | trivial⟩
          case round =>
           obtain ⟨rfl, rfl⟩ := hrel
           go_wp2_with fail
           go_ret
           exact told_ret Z.out bqq
theorem rshape_5 (k n : Int) (s : ByteArray) (its : List J) (ks : List ByteArray) (hk : k = 5) (ih : ShIH its) (hW : (J.mk k n s its ks).wt ≤ 1000000) (w : World) (A3 A4 : Option Addr) (c3 c4 : Nat)
 (ht : TreeC w w.heap.size (.mk k n s its ks) [.int .i64 k, .int .i64 n, .string s, .slice A3 its.length c3, .slice A4 ks.length c4]) :
 Calls Tryz.prog 80 #[.agg #[.int .i64 k, .int .i64 n, .string s, .slice A3 its.length c3, .slice A4 ks.length c4]] w (Told (J.mk k n s its ks).frmb w) := by
 have CS := cell_set
 obtain ⟨_, _, _, _, e, hc3, hc4, rt, ft⟩ := ht.out
 simp only [J.k, J.n, J.t, J.its, J.ks, List.cons.injEq, Value.slice.injEq, true_and, and_true] at e hc3 hc4 rt ft
 obtain ⟨⟨rfl, rfl⟩, rfl, rfl⟩ := e
 have wt : (J.mk k n s its ks).wt = 1 + s.size + kwt ks + J.wts its := by unfold J.wt; rfl
 rw [wt] at hW
 have hss : s.size ≤ 100000000 := by omega
 have FR : Hid ((J.mk k n s its ks).frm ↔ (1 ≤ k ∧ k ≤ 6 ∧ (k ≠ 2 → k ≠ 3 → n = 0) ∧ (k = 2 → n = 0 ∨ n = 1) ∧ (k ≠ 4 → s = Jp.nil_) ∧ (Num.cU s.data.toList).isSome = true ∧ (k < 5 → its = []) ∧ (k ≠ 6 → ks = []) ∧ (k = 6 → ks.length = its.length) ∧ (∀ x ∈ ks, (Num.cU x.data.toList).isSome = true) ∧ ks.Nodup ∧ J.frms its)) := by show _ ↔ _; unfold J.frm; exact Iff.rfl
 have IH := Lib.hid ih
 unfold ShIH at IH
 have RT := Lib.hid rt; have FT := Lib.hid ft
 have KSZ := Lib.hid (fun i (h : i < ks.length) => (show (ks[i]'h).size ≤ 100000000 by have := kwt_at (l := ks) h; omega))
 have hb4 := hc4.2
 have hb3 := hc3.2
 have hr4 := hc4.1
 unfold maxLen at hb4 hb3
 obtain ⟨ni, hni⟩ : ∃ m, m = its.length := ⟨_, rfl⟩
 obtain ⟨nk, hnk⟩ : ∃ m, m = ks.length := ⟨_, rfl⟩
 have HNI := Lib.hid hni; have HNK := Lib.hid hnk
 have ITN : Hid (its = [] ↔ ni = 0) := by show _ ↔ _; rw [hni]; exact List.length_eq_zero_iff.symm
 have KSN : Hid (ks = [] ↔ nk = 0) := by show _ ↔ _; rw [hnk]; exact List.length_eq_zero_iff.symm
 rw [← hni] at hb3 ⊢
 rw [← hnk] at hb4 hr4 ⊢
 obtain ⟨T, hT⟩ : ∃ T, T = J.mk k n s its ks := ⟨_, rfl⟩
 rw [← hT] at FR ⊢
 have W1 : Below w.heap.size w (w.alloc (.cells #[.int .i64 k, .int .i64 n, .string s, .slice A3 ni c3, .slice A4 nk c4] 49)) := (Below.refl _ _).alloc (Nat.le_refl _) _
 have gz1 : (w.alloc (.cells #[.int .i64 k, .int .i64 n, .string s, .slice A3 ni c3, .slice A4 nk c4] 49)).heap.size = w.heap.size + 1 := by simp
 have GZ1 := Lib.hid gz1
 have nilU : Hid ((Num.cU (⟨#[]⟩ : ByteArray).data.toList).isSome = true) := by show _ = true; rw [show (⟨#[]⟩ : ByteArray).data.toList = [] from rfl, Num.cU_nil]; rfl
 have nilS : Hid (Jp.nil_ = (⟨#[]⟩ : ByteArray)) := rfl
 clear ht rt ft ih hc3 hc4 hni hnk gz1 hT wt hW
 subst hk
 by_cases hn : n ≠ 0
 · clear nilU
   have Z : Hid (T.frmb = false) := J.frmb_no fun h => by
    have h := FR.out.1 h
    have := h.2.2.1 (by decide) (by decide); omega
   clear FR IH KSZ ITN KSN
   go_enter Tryz.func80, Tryz.ntmps80
   simp only [List.append]
   go_wp2_with fail
   go_ret
   exact told_ret Z.out bqq
 · obtain rfl : n = 0 := by omega
   clear hn
   by_cases hs : s ≠ ⟨#[]⟩
   · have sx : (s.toList != (⟨#[]⟩ : ByteArray).toList) = true := by rw [str_bne]; simpa using hs
     have sx2 : (s.toList == (⟨#[]⟩ : ByteArray).toList) = false := by rw [str_beq]; simpa using hs
     have sx3 : (s.toList != []) = true := by have := sx; rwa [show (⟨#[]⟩ : ByteArray).toList = [] by rw [ByteArray.toList_eq]] at this
     have sx4 : (s.toList == []) = false := by have := sx2; rwa [show (⟨#[]⟩ : ByteArray).toList = [] by rw [ByteArray.toList_eq]] at this
     have Z : Hid (T.frmb = false) := J.frmb_no fun h => by
      have h := FR.out.1 h
      exact hs (h.2.2.2.2.1 (by decide))
     clear FR IH KSZ ITN KSN
     go_enter Tryz.func80, Tryz.ntmps80
     simp only [List.append]
     go_wp2_with fail
     go_ret
     exact told_ret Z.out bqq
   · obtain rfl : s = ⟨#[]⟩ := by by_cases g : s = ⟨#[]⟩; exact g; exact absurd g hs
     have UU := nilU
     clear hs
     by_cases hq : (0 : Int) < (nk : Int)
     · have HQ := Lib.hid hq
       have Z : Hid (T.frmb = false) := J.frmb_no fun h => by
        have h := FR.out.1 h
        have := KSN.out.1 (h.2.2.2.2.2.2.2.1 (by decide)); have := HQ.out; omega
       clear FR IH KSZ ITN KSN
       go_enter Tryz.func80, Tryz.ntmps80
       simp only [List.append]
       go_wp2_with fail
       with_reducible refine (rtext_any _ _ (by first | assumption | decide)).mono ?_
       rintro e w2 ⟨rfl, b2⟩
       rw [GZ1.out] at b2
       have hOwn := Nat.lt_of_lt_of_le (n := w.heap.size) sdd (Below.size b2)
       have hOwn1 := Nat.ne_of_gt hOwn
       have hOwn2 := Nat.ne_of_lt hOwn
       have hOwn := ocl b2 w.heap.size 0
       have hOwn := ocl b2 w.heap.size 1
       have hOwn := ocl b2 w.heap.size 2
       have hOwn := ocl b2 w.heap.size 3
       have hOwn := ocl b2 w.heap.size 4
       have hOwn := ofr b2 w.heap.size 0
       have hOwn := ofr b2 w.heap.size 1
       have hOwn := ofr b2 w.heap.size 2
       have hOwn := ofr b2 w.heap.size 3
       have hOwn := ofr b2 w.heap.size 4
       rw [UU.out]
       go_wp2_with fail
       go_ret
       exact told_ret Z.out bqq
     · have HQ0 : Hid (nk = 0) := by show _ = _; omega
       have OK : Hid (T.frm ↔ (∀ x ∈ ks, (Num.cU x.data.toList).isSome = true) ∧ ks.Nodup ∧ J.frms its) := by
        show _ ↔ _
        rw [FR.out]
        exact ⟨fun h => h.2.2.2.2.2.2.2.2.2, fun h => ⟨by decide, by decide, fun _ _ => rfl, fun e => absurd e (by decide), fun _ => rfl, UU.out, fun e => absurd e (by decide), fun _ => KSN.out.2 HQ0.out, fun e => absurd e (by decide), h⟩⟩
       clear FR ITN KSN
       obtain rfl := HQ0.out
       clear HQ0 hq
       go_enter Tryz.func80, Tryz.ntmps80
       simp only [List.append]
       go_wp2_with fail
       with_reducible refine (rtext_any _ _ (by first | assumption | decide)).mono ?_
       rintro e w2 ⟨rfl, b2⟩
       rw [GZ1.out] at b2
       have hOwn := Nat.lt_of_lt_of_le (n := w.heap.size) sdd (Below.size b2)
       have hOwn1 := Nat.ne_of_gt hOwn
       have hOwn2 := Nat.ne_of_lt hOwn
       have hOwn := ocl b2 w.heap.size 0
       have hOwn := ocl b2 w.heap.size 1
       have hOwn := ocl b2 w.heap.size 2
       have hOwn := ocl b2 w.heap.size 3
       have hOwn := ocl b2 w.heap.size 4
       have hOwn := ofr b2 w.heap.size 0
       have hOwn := ofr b2 w.heap.size 1
       have hOwn := ofr b2 w.heap.size 2
       have hOwn := ofr b2 w.heap.size 3
       have hOwn := ofr b2 w.heap.size 4
       rw [UU.out]
       go_wp2_with fail
       go_loopw [3] (fun t wr => t = .int .i64 0 ∧ Below (w.heap.size + 1) w2 wr) (fun _ _ => 0)
       case atStart => exact ⟨rfl, Below.refl _ _⟩
       case round =>
        obtain ⟨rfl, bl0⟩ := hrel
        have bl := b2.trans bl0
        have gsz := bl.size
        rw [GZ1.out] at gsz
        have blw := W1.trans (bl.mono (by omega))
        have hOwn := Nat.lt_of_lt_of_le (n := w.heap.size) sdd (Below.size bl)
        have hOwn1 := Nat.ne_of_gt hOwn
        have hOwn2 := Nat.ne_of_lt hOwn
        have hOwn := ocl bl w.heap.size 0
        have hOwn := ocl bl w.heap.size 1
        have hOwn := ocl bl w.heap.size 2
        have hOwn := ocl bl w.heap.size 3
        have hOwn := ocl bl w.heap.size 4
        have hOwn := ofr bl w.heap.size 0
        have hOwn := ofr bl w.heap.size 1
        have hOwn := ofr bl w.heap.size 2
        have hOwn := ofr bl w.heap.size 3
        have hOwn := ofr bl w.heap.size 4
        have OK2 : Hid (T.frm ↔ J.frms its) := by
         show _ ↔ _
         rw [OK.out]
         have ke : ks = [] := List.eq_nil_of_length_eq_zero HNK.out.symm
         refine ⟨fun h => h.2.2, fun h => ⟨fun x hx => ?_, ?_, h⟩⟩
         · rw [ke] at hx; cases hx
         · rw [ke]; exact List.nodup_nil
        clear OK
        go_wp2_with fail
        go_loopw [5] (fun t wq => ∃ p : Nat, p ≤ ni ∧ t = .int .i64 (p : Int) ∧ Hid (∀ m (h : m < its.length), m < p → (its[m]'h).frm) ∧ Below (w.heap.size + 1) wr wq) (fun t _ => ni - (intOf t).toNat)
        case atStart => exact ⟨0, Nat.zero_le _, rfl, fun _ _ h => absurd h (Nat.not_lt_zero _), Below.refl _ _⟩
        case round =>
         obtain ⟨p, hp, rfl, FI, bl2⟩ := hrel
         have blq := bl.trans bl2
         have gsz2 := blq.size
         rw [GZ1.out] at gsz2
         have blw2 := W1.trans (blq.mono (by omega))
         have hOwn := Nat.lt_of_lt_of_le (n := w.heap.size) sdd (Below.size blq)
         have hOwn1 := Nat.ne_of_gt hOwn
         have hOwn2 := Nat.ne_of_lt hOwn
         have hOwn := ocl blq w.heap.size 0
         have hOwn := ocl blq w.heap.size 1
         have hOwn := ocl blq w.heap.size 2
         have hOwn := ocl blq w.heap.size 3
         have hOwn := ocl blq w.heap.size 4
         have hOwn := ofr blq w.heap.size 0
         have hOwn := ofr blq w.heap.size 1
         have hOwn := ofr blq w.heap.size 2
         have hOwn := ofr blq w.heap.size 3
         have hOwn := ofr blq w.heap.size 4
         by_cases hpn : p < ni
         · have h1' : p < its.length := by rw [← HNI.out]; exact hpn
           obtain ⟨b1, o1, X3, x3, X4, x4, e1, hb1, y0, y1, y2, y3, y4, ty⟩ := (RT.out.below blw2).cells h1'
           have I2 := Lib.hid (fun W a => IH.out p h1' W X3 X4 x3 x4 a)
           have FI2 : Hid ((its[p]'h1').frm → ∀ m (h : m < its.length), m < p + 1 → (its[m]'h).frm) := fun hf m h hm => by
            rcases Nat.lt_or_ge m p with g | g
            · exact FI.out m h g
            · obtain rfl : m = p := by omega
              exact hf
           have NO : Hid (¬ (its[p]'h1').frm → T.frmb = false) := fun hf => J.frmb_no fun h => hf (J.frms_iff.1 (OK2.out.1 h) p h1')
           generalize its[p]'h1' = T' at *
           subst e1
           have TY := Lib.hid (ty.more (show w.heap.size ≤ _ from blw2.size))
           have lb1 := Nat.lt_of_lt_of_le hb1 blw2.size
           clear ty h1' FI
           by_cases hf : T'.frm
           · have FB := Lib.hid (J.frmb_yes hf)
             have FI3 := Lib.hid (FI2.out hf)
             clear FI2 NO hf
             go_wp2_with fail
             with_reducible refine (I2.out _ TY.out).mono ?_
             rintro e w7 ⟨rfl, b7⟩
             rw [FB.out]
             have b27 := bl2.trans (b7.mono gsz2)
             go_wp2_with fail
             go_roundw
             case rel => exact ⟨p + 1, by omega, by go_num, FI3, b27⟩
             case measure => simp [intOf]; omega
           · have FB := Lib.hid (J.frmb_no hf)
             have Z := Lib.hid (NO.out hf)
             clear FI2 NO hf
             go_wp2_with fail
             with_reducible refine (I2.out _ TY.out).mono ?_
             rintro e w7 ⟨rfl, b7⟩
             rw [FB.out]
             go_wp2_with fail
             go_ret
             exact told_ret Z.out bqq
         · obtain rfl : p = ni := by omega
           have Z : Hid (T.frmb = true) := J.frmb_yes (OK2.out.2 (J.frms_iff.2 fun m h => FI.out m h (by have := HNI.out; omega)))
           clear hpn
           go_wp2_with fail
           go_ret
           exact told_ret Z.out bqq
end Go.Proofs.YtpmgjpchpmkklaaGreatDoor
