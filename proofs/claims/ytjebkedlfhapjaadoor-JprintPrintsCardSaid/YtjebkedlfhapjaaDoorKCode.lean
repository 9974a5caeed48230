/- Layer 8, the code's own calls: a tree as bytes that are put; Print. (Written by tools/genktree.py.) -/
import Derived.Test.YtjebkedlfhapjaaDoorKIts
import Derived.Test.YtjebkedlfhapjaaDoorKRgt
namespace Go.Proofs.YtjebkedlfhapjaaDoor
open Go.ChangeShapes Go.WideShapes Go.ChangeAt Go.RowKit Mem

theorem fbool_t (w : World) : Calls Tryd.prog 33 #[.bool true] w fun e w' => e = .returned (.string ⟨#[116, 114, 117, 101]⟩) ∧ w = w' := by
  go_enter Tryd.func33, Tryd.ntmps33
  go_wp2
  go_ret
  exact ⟨rfl, rfl⟩
theorem fbool_f (w : World) : Calls Tryd.prog 33 #[.bool false] w fun e w' => e = .returned (.string ⟨#[102, 97, 108, 115, 101]⟩) ∧ w = w' := by
  go_enter Tryd.func33, Tryd.ntmps33
  go_wp2
  go_ret
  exact ⟨rfl, rfl⟩

set_option maxRecDepth 100000 in
set_option maxHeartbeats 4000000 in
theorem tree_1 (n : Int) (s : ByteArray) (its : List J) (ks : List ByteArray) (hf : (J.mk 1 n s its ks).frm) (_hr : (J.mk 1 n s its ks).rng) (_ih : ∀ i (h : i < its.length), TreeP (its[i]'h)) : TreeP (.mk 1 n s its ks) := by
  intro B g r l w A3 A4 c3 c4 hL hB hBg hBr sn ht
  simp only [J.k, J.n, J.t, J.its, J.ks] at ht ⊢
  have CS := cell_set
  have gl := sn.lt
  have rl := sn.rlt
  have W1 : Below w.heap.size w (w.alloc (.cells #[.int .i64 1, .int .i64 n, .string s, .slice A3 its.length c3, .slice A4 ks.length c4] 25)) := (Below.refl _ _).alloc (Nat.le_refl _) _
  have gz1 : (w.alloc (.cells #[.int .i64 1, .int .i64 n, .string s, .slice A3 its.length c3, .slice A4 ks.length c4] 25)).heap.size = w.heap.size + 1 := by simp
  have GZ1 := Lib.hid gz1
  have s1 := sn.below W1
  have FR : (J.mk 1 n s its ks).frm := hf
  unfold J.frm at FR
  obtain ⟨_, _, f3, f4, f5, f6, f7, f8, f9, f10, f11, f12⟩ := FR
  obtain ⟨PR, hPR⟩ : ∃ m, m = Jp.prt (.mk 1 n s its ks) := ⟨_, rfl⟩
  rw [← hPR]
  unfold Jp.prt at hPR
  rw [if_pos rfl] at hPR
  have PU := Lib.hid (put_any g r l ⟨#[110, 117, 108, 108]⟩ PR (by rw [hPR]; rfl) _ s1)
  clear hf f3 f4 f5 f6 f7 f8 f9 f10 f11 f12 sn s1 gz1 hL ht hPR
  go_enter Tryd.func20, Tryd.ntmps20
  go_wp2_with fail
  with_reducible refine PU.out.mono ?_
  rintro e w2 (⟨h2, rfl, h⟩ | ⟨h2, rfl, h⟩)
  · have FA := Lib.hid (Put.after W1 (.inl ⟨h2, rfl, h⟩))
    clear h
    go_wp2_with fail
    go_ret
    exact FA.out
  · have FA := Lib.hid (Put.after W1 (.inr ⟨h2, rfl, h⟩))
    clear h
    go_wp2_with fail
    go_ret
    exact FA.out

set_option maxRecDepth 100000 in
set_option maxHeartbeats 4000000 in
theorem tree_2 (n : Int) (s : ByteArray) (its : List J) (ks : List ByteArray) (hf : (J.mk 2 n s its ks).frm) (_hr : (J.mk 2 n s its ks).rng) (_ih : ∀ i (h : i < its.length), TreeP (its[i]'h)) : TreeP (.mk 2 n s its ks) := by
  intro B g r l w A3 A4 c3 c4 hL hB hBg hBr sn ht
  simp only [J.k, J.n, J.t, J.its, J.ks] at ht ⊢
  have CS := cell_set
  have gl := sn.lt
  have rl := sn.rlt
  have W1 : Below w.heap.size w (w.alloc (.cells #[.int .i64 2, .int .i64 n, .string s, .slice A3 its.length c3, .slice A4 ks.length c4] 25)) := (Below.refl _ _).alloc (Nat.le_refl _) _
  have gz1 : (w.alloc (.cells #[.int .i64 2, .int .i64 n, .string s, .slice A3 its.length c3, .slice A4 ks.length c4] 25)).heap.size = w.heap.size + 1 := by simp
  have GZ1 := Lib.hid gz1
  have s1 := sn.below W1
  have FR : (J.mk 2 n s its ks).frm := hf
  unfold J.frm at FR
  obtain ⟨_, _, f3, f4, f5, f6, f7, f8, f9, f10, f11, f12⟩ := FR
  obtain ⟨PR, hPR⟩ : ∃ m, m = Jp.prt (.mk 2 n s its ks) := ⟨_, rfl⟩
  rw [← hPR]
  unfold Jp.prt at hPR
  rw [if_neg (by decide), if_pos rfl] at hPR
  rcases f4 rfl with rfl | rfl
  · have PU := Lib.hid (put_any g r l ⟨#[102, 97, 108, 115, 101]⟩ PR (by rw [hPR, if_pos rfl]; rfl) _ s1)
    clear hf f3 f5 f6 f7 f8 f9 f10 f11 f12 sn s1 gz1 hL ht hPR
    go_enter Tryd.func20, Tryd.ntmps20
    go_wp2_with fail
    with_reducible refine (fbool_f _).mono ?_
    rintro e w2 ⟨rfl, rfl⟩
    go_wp2_with fail
    with_reducible refine PU.out.mono ?_
    rintro e w3 (⟨h3, rfl, h⟩ | ⟨h3, rfl, h⟩)
    · have FA := Lib.hid (Put.after W1 (.inl ⟨h3, rfl, h⟩))
      clear h
      go_wp2_with fail
      go_ret
      exact FA.out
    · have FA := Lib.hid (Put.after W1 (.inr ⟨h3, rfl, h⟩))
      clear h
      go_wp2_with fail
      go_ret
      exact FA.out
  · have PU := Lib.hid (put_any g r l ⟨#[116, 114, 117, 101]⟩ PR (by rw [hPR, if_neg (by decide)]; rfl) _ s1)
    clear hf f3 f5 f6 f7 f8 f9 f10 f11 f12 sn s1 gz1 hL ht hPR
    go_enter Tryd.func20, Tryd.ntmps20
    go_wp2_with fail
    with_reducible refine (fbool_t _).mono ?_
    rintro e w2 ⟨rfl, rfl⟩
    go_wp2_with fail
    with_reducible refine PU.out.mono ?_
    rintro e w3 (⟨h3, rfl, h⟩ | ⟨h3, rfl, h⟩)
    · have FA := Lib.hid (Put.after W1 (.inl ⟨h3, rfl, h⟩))
      clear h
      go_wp2_with fail
      go_ret
      exact FA.out
    · have FA := Lib.hid (Put.after W1 (.inr ⟨h3, rfl, h⟩))
      clear h
      go_wp2_with fail
      go_ret
      exact FA.out

set_option maxRecDepth 100000 in
set_option maxHeartbeats 4000000 in
theorem tree_3 (n : Int) (s : ByteArray) (its : List J) (ks : List ByteArray) (hf : (J.mk 3 n s its ks).frm) (hr : (J.mk 3 n s its ks).rng) (_ih : ∀ i (h : i < its.length), TreeP (its[i]'h)) : TreeP (.mk 3 n s its ks) := by
  intro B g r l w A3 A4 c3 c4 hL hB hBg hBr sn ht
  simp only [J.k, J.n, J.t, J.its, J.ks] at ht ⊢
  have CS := cell_set
  have gl := sn.lt
  have rl := sn.rlt
  have W1 : Below w.heap.size w (w.alloc (.cells #[.int .i64 3, .int .i64 n, .string s, .slice A3 its.length c3, .slice A4 ks.length c4] 25)) := (Below.refl _ _).alloc (Nat.le_refl _) _
  have gz1 : (w.alloc (.cells #[.int .i64 3, .int .i64 n, .string s, .slice A3 its.length c3, .slice A4 ks.length c4] 25)).heap.size = w.heap.size + 1 := by simp
  have GZ1 := Lib.hid gz1
  have s1 := sn.below W1
  have FR : (J.mk 3 n s its ks).frm := hf
  unfold J.frm at FR
  obtain ⟨_, _, f3, f4, f5, f6, f7, f8, f9, f10, f11, f12⟩ := FR
  obtain ⟨PR, hPR⟩ : ∃ m, m = Jp.prt (.mk 3 n s its ks) := ⟨_, rfl⟩
  rw [← hPR]
  unfold Jp.prt at hPR
  rw [if_neg (by decide), if_neg (by decide), if_pos rfl] at hPR
  unfold J.rng at hr
  have nb := jNumber_any n hr.1 hr.2.1 (w.alloc (.cells #[.int .i64 3, .int .i64 n, .string s, .slice A3 its.length c3, .slice A4 ks.length c4] 25)).heap.size (.slice none 0 0) [] _ (hL.below W1 hL.top) (by rw [gz1]; have := hL.top; omega) (Nat.le_refl _) (Own.none_ _ _ _) (by simp)
  rw [List.nil_append, ← hPR] at nb
  have NB := Lib.hid nb
  have PU : Hid (∀ W, Below (w.alloc (.cells #[.int .i64 3, .int .i64 n, .string s, .slice A3 its.length c3, .slice A4 ks.length c4] 25)).heap.size (w.alloc (.cells #[.int .i64 3, .int .i64 n, .string s, .slice A3 its.length c3, .slice A4 ks.length c4] 25)) W → Calls Tryd.prog 19 #[.string ⟨PR.toArray⟩, .pointer (some ⟨g, 0, none⟩)] W (Put g r l PR (w.alloc (.cells #[.int .i64 3, .int .i64 n, .string s, .slice A3 its.length c3, .slice A4 ks.length c4] 25)))) := fun W b =>
    (put_any g r l ⟨PR.toArray⟩ PR (by simp) W (s1.below b)).mono fun e w' hp => hp.after b
  have pl : PR.length ≤ 100 := by rw [hPR]; exact Nat.le_trans (Jx.nm_len hr.1 hr.2.1) (by omega)
  clear hf f3 f4 f5 f6 f7 f8 f9 f10 f11 f12 sn s1 gz1 hL ht hPR hr nb
  go_enter Tryd.func20, Tryd.ntmps20
  go_wp2_with fail
  with_reducible refine NB.out.mono ?_
  rintro e w2 ⟨v2, rfl, o2, b2⟩
  obtain ⟨A2, c2, rfl, y2, hc2⟩ := o2.room
  have cv := y2.str byteT strT c2
  clear o2 y2
  go_wp2_with fail
  with_reducible refine (PU.out w2 b2).mono ?_
  rintro e w3 (⟨h3, rfl, h⟩ | ⟨h3, rfl, h⟩)
  · have FA := Lib.hid (Put.after W1 (.inl ⟨h3, rfl, h⟩))
    clear h
    go_wp2_with fail
    go_ret
    exact FA.out
  · have FA := Lib.hid (Put.after W1 (.inr ⟨h3, rfl, h⟩))
    clear h
    go_wp2_with fail
    go_ret
    exact FA.out

set_option maxRecDepth 100000 in
set_option maxHeartbeats 4000000 in
theorem tree_4 (n : Int) (s : ByteArray) (its : List J) (ks : List ByteArray) (hf : (J.mk 4 n s its ks).frm) (_hr : (J.mk 4 n s its ks).rng) (_ih : ∀ i (h : i < its.length), TreeP (its[i]'h)) : TreeP (.mk 4 n s its ks) := by
  intro B g r l w A3 A4 c3 c4 hL hB hBg hBr sn ht
  simp only [J.k, J.n, J.t, J.its, J.ks] at ht ⊢
  have CS := cell_set
  have gl := sn.lt
  have rl := sn.rlt
  have W1 : Below w.heap.size w (w.alloc (.cells #[.int .i64 4, .int .i64 n, .string s, .slice A3 its.length c3, .slice A4 ks.length c4] 25)) := (Below.refl _ _).alloc (Nat.le_refl _) _
  have gz1 : (w.alloc (.cells #[.int .i64 4, .int .i64 n, .string s, .slice A3 its.length c3, .slice A4 ks.length c4] 25)).heap.size = w.heap.size + 1 := by simp
  have GZ1 := Lib.hid gz1
  have s1 := sn.below W1
  have FR : (J.mk 4 n s its ks).frm := hf
  unfold J.frm at FR
  obtain ⟨_, _, f3, f4, f5, f6, f7, f8, f9, f10, f11, f12⟩ := FR
  obtain ⟨PR, hPR⟩ : ∃ m, m = Jp.prt (.mk 4 n s its ks) := ⟨_, rfl⟩
  rw [← hPR]
  unfold Jp.prt at hPR
  rw [if_neg (by decide), if_neg (by decide), if_neg (by decide), if_pos rfl] at hPR
  have tx := ptext_any g r l s _ s1
  rw [← hPR] at tx
  have TX := Lib.hid tx
  clear hf f3 f4 f5 f6 f7 f8 f9 f10 f11 f12 sn s1 gz1 hL ht hPR tx
  go_enter Tryd.func20, Tryd.ntmps20
  go_wp2_with fail
  with_reducible refine TX.out.mono ?_
  rintro e w2 (⟨h2, rfl, h⟩ | ⟨h2, rfl, h⟩)
  · have FA := Lib.hid (Put.after W1 (.inl ⟨h2, rfl, h⟩))
    clear h
    go_wp2_with fail
    go_ret
    exact FA.out
  · have FA := Lib.hid (Put.after W1 (.inr ⟨h2, rfl, h⟩))
    clear h
    go_wp2_with fail
    go_ret
    exact FA.out

set_option maxRecDepth 100000 in
set_option maxHeartbeats 4000000 in
theorem tree_5 (n : Int) (s : ByteArray) (its : List J) (ks : List ByteArray) (hf : (J.mk 5 n s its ks).frm) (_hr : (J.mk 5 n s its ks).rng) (ih : ∀ i (h : i < its.length), TreeP (its[i]'h)) : TreeP (.mk 5 n s its ks) := by
  intro B g r l w A3 A4 c3 c4 hL hB hBg hBr sn ht
  simp only [J.k, J.n, J.t, J.its, J.ks] at ht ⊢
  have CS := cell_set
  have gl := sn.lt
  have rl := sn.rlt
  have W1 : Below w.heap.size w (w.alloc (.cells #[.int .i64 5, .int .i64 n, .string s, .slice A3 its.length c3, .slice A4 ks.length c4] 25)) := (Below.refl _ _).alloc (Nat.le_refl _) _
  have gz1 : (w.alloc (.cells #[.int .i64 5, .int .i64 n, .string s, .slice A3 its.length c3, .slice A4 ks.length c4] 25)).heap.size = w.heap.size + 1 := by simp
  have GZ1 := Lib.hid gz1
  have s1 := sn.below W1
  have FR : (J.mk 5 n s its ks).frm := hf
  unfold J.frm at FR
  obtain ⟨_, _, f3, f4, f5, f6, f7, f8, f9, f10, f11, f12⟩ := FR
  obtain ⟨PR, hPR⟩ : ∃ m, m = Jp.prt (.mk 5 n s its ks) := ⟨_, rfl⟩
  rw [← hPR]
  unfold Jp.prt at hPR
  rw [if_neg (by decide), if_neg (by decide), if_neg (by decide), if_neg (by decide), if_neg (by decide)] at hPR
  obtain ⟨X, hX⟩ : ∃ X, X = Jp.prts false true its [] := ⟨_, rfl⟩
  obtain rfl : ks = [] := f8 (by decide)
  rw [← hX] at hPR
  have EQ : Hid ([] ++ [91] ++ X ++ [93] = PR) := by show _ = _; rw [hPR]; simp
  have A1 := Lib.hid (At8.start s1)
  have P1 := Lib.hid (put_any g r l ⟨#[91]⟩ [91] rfl _ s1)
  have IT : Hid (∀ (W : World) (r2 : Nat) (q : List UInt8), Below B w W → B ≤ r2 → Snk W g r2 q → Calls Tryd.prog 35 #[(.func (.func 19) #[] #[.pointer (some ⟨g, 0, none⟩)]), .agg #[.int .i64 5, .int .i64 n, .string s, .slice A3 its.length c3, .slice A4 ([] : List ByteArray).length c4]] W (Put g r2 q X W)) := fun W r2 q b hb2 sk => by
    rw [hX]
    exact items_5 n s its [] ih B g r2 q W A3 A4 c3 c4 (hL.below b hB) hB hBg hb2 sk (ht.below b)
  clear hf f3 f4 f5 f6 f7 f8 f9 f10 f11 f12 sn s1 hL ht hPR hX ih
  rw [show ([] : List ByteArray).length = 0 from rfl] at GZ1 W1 A1 P1 IT gz1 ⊢
  clear gz1
  go_enter Tryd.func20, Tryd.ntmps20
  go_wp2_with fail
  with_reducible refine P1.out.mono ?_
  rintro e w2 (⟨h2, rfl, r2, S2, hr2, v2⟩ | ⟨h2, rfl, v2⟩)
  · have A2 := Lib.hid (A1.out.step (m := [91]) (Below.refl _ _) (by rw [List.append_nil]; exact S2) hr2 v2)
    rw [GZ1.out] at v2 hr2
    have z2 := v2.size
    rw [GZ1.out] at z2
    have bw2 : Below B w w2 := (W1.mono (by omega)).trans (v2.bel hBg hBr (by omega))
    have I2 := Lib.hid (IT.out w2 r2 _ bw2 (by omega) A2.out.1)
    have hOwn := Nat.lt_of_lt_of_le (n := w.heap.size) (by first | exact Nat.le_refl _ | assumption | (simp; done) | (simp; omega) | omega) (Mem.Sav.size v2)
    have hOwn1 := Nat.ne_of_gt hOwn
    have hOwn2 := Nat.ne_of_lt hOwn
    have hOwn := (Mem.Sav.cell v2 (p := ⟨w.heap.size, 0, none⟩) (by first | exact Nat.le_refl _ | assumption | (simp; done) | (simp; omega) | omega) (by first | assumption | (simp; done) | (simp; omega) | omega) (by first | assumption | (simp; done) | (simp; omega) | omega)).trans (by go_simp; rfl)
    have hOwn := (Mem.Sav.cell v2 (p := ⟨w.heap.size, 1, none⟩) (by first | exact Nat.le_refl _ | assumption | (simp; done) | (simp; omega) | omega) (by first | assumption | (simp; done) | (simp; omega) | omega) (by first | assumption | (simp; done) | (simp; omega) | omega)).trans (by go_simp; rfl)
    have hOwn := (Mem.Sav.cell v2 (p := ⟨w.heap.size, 2, none⟩) (by first | exact Nat.le_refl _ | assumption | (simp; done) | (simp; omega) | omega) (by first | assumption | (simp; done) | (simp; omega) | omega) (by first | assumption | (simp; done) | (simp; omega) | omega)).trans (by go_simp; rfl)
    have hOwn := (Mem.Sav.cell v2 (p := ⟨w.heap.size, 3, none⟩) (by first | exact Nat.le_refl _ | assumption | (simp; done) | (simp; omega) | omega) (by first | assumption | (simp; done) | (simp; omega) | omega) (by first | assumption | (simp; done) | (simp; omega) | omega)).trans (by go_simp; rfl)
    have hOwn := (Mem.Sav.cell v2 (p := ⟨w.heap.size, 4, none⟩) (by first | exact Nat.le_refl _ | assumption | (simp; done) | (simp; omega) | omega) (by first | assumption | (simp; done) | (simp; omega) | omega) (by first | assumption | (simp; done) | (simp; omega) | omega)).trans (by go_simp; rfl)
    have hOwn := (Mem.Sav.frozen v2 (p := ⟨w.heap.size, 0, none⟩) (by first | exact Nat.le_refl _ | assumption | (simp; done) | (simp; omega) | omega) (by first | assumption | (simp; done) | (simp; omega) | omega) (by first | assumption | (simp; done) | (simp; omega) | omega)).trans (by go_simp; rfl)
    have hOwn := (Mem.Sav.frozen v2 (p := ⟨w.heap.size, 1, none⟩) (by first | exact Nat.le_refl _ | assumption | (simp; done) | (simp; omega) | omega) (by first | assumption | (simp; done) | (simp; omega) | omega) (by first | assumption | (simp; done) | (simp; omega) | omega)).trans (by go_simp; rfl)
    have hOwn := (Mem.Sav.frozen v2 (p := ⟨w.heap.size, 2, none⟩) (by first | exact Nat.le_refl _ | assumption | (simp; done) | (simp; omega) | omega) (by first | assumption | (simp; done) | (simp; omega) | omega) (by first | assumption | (simp; done) | (simp; omega) | omega)).trans (by go_simp; rfl)
    have hOwn := (Mem.Sav.frozen v2 (p := ⟨w.heap.size, 3, none⟩) (by first | exact Nat.le_refl _ | assumption | (simp; done) | (simp; omega) | omega) (by first | assumption | (simp; done) | (simp; omega) | omega) (by first | assumption | (simp; done) | (simp; omega) | omega)).trans (by go_simp; rfl)
    have hOwn := (Mem.Sav.frozen v2 (p := ⟨w.heap.size, 4, none⟩) (by first | exact Nat.le_refl _ | assumption | (simp; done) | (simp; omega) | omega) (by first | assumption | (simp; done) | (simp; omega) | omega) (by first | assumption | (simp; done) | (simp; omega) | omega)).trans (by go_simp; rfl)
    clear S2 v2
    go_wp2_with fail
    with_reducible refine I2.out.mono ?_
    rintro e w3 (⟨h3, rfl, r3, S3, hr3, v3⟩ | ⟨h3, rfl, v3⟩)
    · have A3' := Lib.hid (A2.out.step (Below.refl _ _) S3 hr3 v3)
      have P3 := Lib.hid (put_any g r3 _ ⟨#[93]⟩ [93] rfl w3 A3'.out.1)
      clear S3 v3
      go_wp2_with fail
      with_reducible refine P3.out.mono ?_
      rintro e w4 (⟨h4, rfl, r4, S4, hr4, v4⟩ | ⟨h4, rfl, v4⟩)
      · have AE := A3'.out.step (Below.refl _ _) S4 hr4 v4
        rw [EQ.out] at AE
        have FA := Lib.hid (Put.after W1 AE.done)
        clear AE S4 v4
        go_wp2_with fail
        go_ret
        exact FA.out
      · have FA := Lib.hid (Put.after W1 (A3'.out.fail (Below.refl _ _) v4 h4 (M := PR) (by rw [← EQ.out]; simp only [List.length_append, List.length_cons, List.length_nil]; omega)))
        clear v4
        go_wp2_with fail
        go_ret
        exact FA.out
    · have FA := Lib.hid (Put.after W1 (A2.out.fail (Below.refl _ _) v3 h3 (M := PR) (by rw [← EQ.out]; simp only [List.length_append, List.length_cons, List.length_nil]; omega)))
      clear v3
      go_wp2_with fail
      go_ret
      exact FA.out
  · have FA := Lib.hid (Put.after W1 (A1.out.fail (m := [91]) (Below.refl _ _) v2 (by rw [List.append_nil]; exact h2) (M := PR) (by rw [← EQ.out]; simp only [List.length_append, List.length_cons, List.length_nil]; omega)))
    clear v2
    go_wp2_with fail
    go_ret
    exact FA.out

set_option maxRecDepth 100000 in
set_option maxHeartbeats 4000000 in
theorem tree_6 (n : Int) (s : ByteArray) (its : List J) (ks : List ByteArray) (hf : (J.mk 6 n s its ks).frm) (_hr : (J.mk 6 n s its ks).rng) (ih : ∀ i (h : i < its.length), TreeP (its[i]'h)) : TreeP (.mk 6 n s its ks) := by
  intro B g r l w A3 A4 c3 c4 hL hB hBg hBr sn ht
  simp only [J.k, J.n, J.t, J.its, J.ks] at ht ⊢
  have CS := cell_set
  have gl := sn.lt
  have rl := sn.rlt
  have W1 : Below w.heap.size w (w.alloc (.cells #[.int .i64 6, .int .i64 n, .string s, .slice A3 its.length c3, .slice A4 ks.length c4] 25)) := (Below.refl _ _).alloc (Nat.le_refl _) _
  have gz1 : (w.alloc (.cells #[.int .i64 6, .int .i64 n, .string s, .slice A3 its.length c3, .slice A4 ks.length c4] 25)).heap.size = w.heap.size + 1 := by simp
  have GZ1 := Lib.hid gz1
  have s1 := sn.below W1
  have FR : (J.mk 6 n s its ks).frm := hf
  unfold J.frm at FR
  obtain ⟨_, _, f3, f4, f5, f6, f7, f8, f9, f10, f11, f12⟩ := FR
  obtain ⟨PR, hPR⟩ : ∃ m, m = Jp.prt (.mk 6 n s its ks) := ⟨_, rfl⟩
  rw [← hPR]
  unfold Jp.prt at hPR
  rw [if_neg (by decide), if_neg (by decide), if_neg (by decide), if_neg (by decide), if_pos rfl] at hPR
  obtain ⟨X, hX⟩ : ∃ X, X = Jp.prts true true its ks := ⟨_, rfl⟩
  rw [← hX] at hPR
  have EQ : Hid ([] ++ [123] ++ X ++ [125] = PR) := by show _ = _; rw [hPR]; simp
  have A1 := Lib.hid (At8.start s1)
  have P1 := Lib.hid (put_any g r l ⟨#[123]⟩ [123] rfl _ s1)
  have IT : Hid (∀ (W : World) (r2 : Nat) (q : List UInt8), Below B w W → B ≤ r2 → Snk W g r2 q → Calls Tryd.prog 35 #[(.func (.func 19) #[] #[.pointer (some ⟨g, 0, none⟩)]), .agg #[.int .i64 6, .int .i64 n, .string s, .slice A3 its.length c3, .slice A4 ks.length c4]] W (Put g r2 q X W)) := fun W r2 q b hb2 sk => by
    rw [hX]
    exact items_6 n s its ks (f9 rfl) ih B g r2 q W A3 A4 c3 c4 (hL.below b hB) hB hBg hb2 sk (ht.below b)
  clear hf f3 f4 f5 f6 f7 f8 f9 f10 f11 f12 sn s1 hL ht hPR hX ih
  clear gz1
  go_enter Tryd.func20, Tryd.ntmps20
  go_wp2_with fail
  with_reducible refine P1.out.mono ?_
  rintro e w2 (⟨h2, rfl, r2, S2, hr2, v2⟩ | ⟨h2, rfl, v2⟩)
  · have A2 := Lib.hid (A1.out.step (m := [123]) (Below.refl _ _) (by rw [List.append_nil]; exact S2) hr2 v2)
    rw [GZ1.out] at v2 hr2
    have z2 := v2.size
    rw [GZ1.out] at z2
    have bw2 : Below B w w2 := (W1.mono (by omega)).trans (v2.bel hBg hBr (by omega))
    have I2 := Lib.hid (IT.out w2 r2 _ bw2 (by omega) A2.out.1)
    have hOwn := Nat.lt_of_lt_of_le (n := w.heap.size) (by first | exact Nat.le_refl _ | assumption | (simp; done) | (simp; omega) | omega) (Mem.Sav.size v2)
    have hOwn1 := Nat.ne_of_gt hOwn
    have hOwn2 := Nat.ne_of_lt hOwn
    have hOwn := (Mem.Sav.cell v2 (p := ⟨w.heap.size, 0, none⟩) (by first | exact Nat.le_refl _ | assumption | (simp; done) | (simp; omega) | omega) (by first | assumption | (simp; done) | (simp; omega) | omega) (by first | assumption | (simp; done) | (simp; omega) | omega)).trans (by go_simp; rfl)
    have hOwn := (Mem.Sav.cell v2 (p := ⟨w.heap.size, 1, none⟩) (by first | exact Nat.le_refl _ | assumption | (simp; done) | (simp; omega) | omega) (by first | assumption | (simp; done) | (simp; omega) | omega) (by first | assumption | (simp; done) | (simp; omega) | omega)).trans (by go_simp; rfl)
    have hOwn := (Mem.Sav.cell v2 (p := ⟨w.heap.size, 2, none⟩) (by first | exact Nat.le_refl _ | assumption | (simp; done) | (simp; omega) | omega) (by first | assumption | (simp; done) | (simp; omega) | omega) (by first | assumption | (simp; done) | (simp; omega) | omega)).trans (by go_simp; rfl)
    have hOwn := (Mem.Sav.cell v2 (p := ⟨w.heap.size, 3, none⟩) (by first | exact Nat.le_refl _ | assumption | (simp; done) | (simp; omega) | omega) (by first | assumption | (simp; done) | (simp; omega) | omega) (by first | assumption | (simp; done) | (simp; omega) | omega)).trans (by go_simp; rfl)
    have hOwn := (Mem.Sav.cell v2 (p := ⟨w.heap.size, 4, none⟩) (by first | exact Nat.le_refl _ | assumption | (simp; done) | (simp; omega) | omega) (by first | assumption | (simp; done) | (simp; omega) | omega) (by first | assumption | (simp; done) | (simp; omega) | omega)).trans (by go_simp; rfl)
    have hOwn := (Mem.Sav.frozen v2 (p := ⟨w.heap.size, 0, none⟩) (by first | exact Nat.le_refl _ | assumption | (simp; done) | (simp; omega) | omega) (by first | assumption | (simp; done) | (simp; omega) | omega) (by first | assumption | (simp; done) | (simp; omega) | omega)).trans (by go_simp; rfl)
    have hOwn := (Mem.Sav.frozen v2 (p := ⟨w.heap.size, 1, none⟩) (by first | exact Nat.le_refl _ | assumption | (simp; done) | (simp; omega) | omega) (by first | assumption | (simp; done) | (simp; omega) | omega) (by first | assumption | (simp; done) | (simp; omega) | omega)).trans (by go_simp; rfl)
    have hOwn := (Mem.Sav.frozen v2 (p := ⟨w.heap.size, 2, none⟩) (by first | exact Nat.le_refl _ | assumption | (simp; done) | (simp; omega) | omega) (by first | assumption | (simp; done) | (simp; omega) | omega) (by first | assumption | (simp; done) | (simp; omega) | omega)).trans (by go_simp; rfl)
    have hOwn := (Mem.Sav.frozen v2 (p := ⟨w.heap.size, 3, none⟩) (by first | exact Nat.le_refl _ | assumption | (simp; done) | (simp; omega) | omega) (by first | assumption | (simp; done) | (simp; omega) | omega) (by first | assumption | (simp; done) | (simp; omega) | omega)).trans (by go_simp; rfl)
    have hOwn := (Mem.Sav.frozen v2 (p := ⟨w.heap.size, 4, none⟩) (by first | exact Nat.le_refl _ | assumption | (simp; done) | (simp; omega) | omega) (by first | assumption | (simp; done) | (simp; omega) | omega) (by first | assumption | (simp; done) | (simp; omega) | omega)).trans (by go_simp; rfl)
    clear S2 v2
    go_wp2_with fail
    with_reducible refine I2.out.mono ?_
    rintro e w3 (⟨h3, rfl, r3, S3, hr3, v3⟩ | ⟨h3, rfl, v3⟩)
    · have A3' := Lib.hid (A2.out.step (Below.refl _ _) S3 hr3 v3)
      have P3 := Lib.hid (put_any g r3 _ ⟨#[125]⟩ [125] rfl w3 A3'.out.1)
      clear S3 v3
      go_wp2_with fail
      with_reducible refine P3.out.mono ?_
      rintro e w4 (⟨h4, rfl, r4, S4, hr4, v4⟩ | ⟨h4, rfl, v4⟩)
      · have AE := A3'.out.step (Below.refl _ _) S4 hr4 v4
        rw [EQ.out] at AE
        have FA := Lib.hid (Put.after W1 AE.done)
        clear AE S4 v4
        go_wp2_with fail
        go_ret
        exact FA.out
      · have FA := Lib.hid (Put.after W1 (A3'.out.fail (Below.refl _ _) v4 h4 (M := PR) (by rw [← EQ.out]; simp only [List.length_append, List.length_cons, List.length_nil]; omega)))
        clear v4
        go_wp2_with fail
        go_ret
        exact FA.out
    · have FA := Lib.hid (Put.after W1 (A2.out.fail (Below.refl _ _) v3 h3 (M := PR) (by rw [← EQ.out]; simp only [List.length_append, List.length_cons, List.length_nil]; omega)))
      clear v3
      go_wp2_with fail
      go_ret
      exact FA.out
  · have FA := Lib.hid (Put.after W1 (A1.out.fail (m := [123]) (Below.refl _ _) v2 (by rw [List.append_nil]; exact h2) (M := PR) (by rw [← EQ.out]; simp only [List.length_append, List.length_cons, List.length_nil]; omega)))
    clear v2
    go_wp2_with fail
    go_ret
    exact FA.out

theorem tree_at : ∀ (N : Nat) (t : J), SizeOf.sizeOf t ≤ N → t.frm → t.rng → TreeP t
  | 0, t, h => by cases t; simp at h
  | N + 1, .mk k n s its ks, hN => by
    intro hf hr
    have ih : ∀ i (h : i < its.length), TreeP (its[i]'h) := fun i h => by
      have f12 : J.frms its := by have := hf; unfold J.frm at this; exact this.2.2.2.2.2.2.2.2.2.2.2
      have r3 : J.rngs its := by have := hr; unfold J.rng at this; exact this.2.2
      exact tree_at N _ (by have := J.lt_its (j := .mk k n s its ks) (i := i) h; simp only [J.its] at this; omega) (J.frms_iff.1 f12 i h) (J.rngs_at r3 h)
    have k1 : 1 ≤ k ∧ k ≤ 6 := by have := hf; unfold J.frm at this; exact ⟨this.1, this.2.1⟩
    obtain rfl | rfl | rfl | rfl | rfl | rfl : k = 1 ∨ k = 2 ∨ k = 3 ∨ k = 4 ∨ k = 5 ∨ k = 6 := by omega
    · exact tree_1 n s its ks hf hr ih
    · exact tree_2 n s its ks hf hr ih
    · exact tree_3 n s its ks hf hr ih
    · exact tree_4 n s its ks hf hr ih
    · exact tree_5 n s its ks hf hr ih
    · exact tree_6 n s its ks hf hr ih

/-- What Print answers: bytes in any blocks, and the error. -/
def PrtB (o : List UInt8 × Nat) (w : World) (e : Ending) (w' : World) : Prop := ∃ A c, e = .returned (.tuple #[.slice A o.1.length c, .int .i64 (o.2 : Int)]) ∧ o.1.length ≤ c ∧ Bys w' w'.heap.size A o.1 ∧ Below w.heap.size w w'
theorem prtB_no {o : List UInt8 × Nat} {n : Nat} {z : Int} {w w' : World} (h : o = ([], n)) (hz : z = (n : Int)) (hb : Below w.heap.size w w') : PrtB o w (.returned (.tuple #[.slice none 0 0, .int .i64 z])) w' := by
  subst h; subst hz
  exact ⟨none, 0, rfl, Nat.le_refl _, .inl rfl, hb⟩
theorem prtB_yes {o : List UInt8 × Nat} {l : List UInt8} {A : Option Addr} {c N : Nat} {w w' : World} (h : o = (l, 0)) (hN : l.length = N) (hc : N ≤ c) (hy : Bys w' w'.heap.size A l) (hb : Below w.heap.size w w') : PrtB o w (.returned (.tuple #[.slice A N c, .int .i64 0])) w' := by
  subst h; subst hN
  exact ⟨A, c, rfl, hc, hy, hb⟩

set_option maxRecDepth 100000 in
set_option maxHeartbeats 4000000 in
theorem jPrint_any (t : J) (hW : t.wt ≤ 1000000) (hD : t.deep ≤ 1000000) (hr : t.rng) (w : World) (hL : Laid w) (A3 A4 : Option Addr) (c3 c4 : Nat) (ht : TreeC w w.heap.size t [.int .i64 t.k, .int .i64 t.n, .string t.t, .slice A3 t.its.length c3, .slice A4 t.ks.length c4]) :
    Calls Tryd.prog 9 #[.agg #[.int .i64 t.k, .int .i64 t.n, .string t.t, .slice A3 t.its.length c3, .slice A4 t.ks.length c4]] w (PrtB (Jp.out t) w) := by
  have CS := cell_set
  have top := hL.top
  have W1 : Below w.heap.size w (w.alloc (.cells #[.int .i64 t.k, .int .i64 t.n, .string t.t, .slice A3 t.its.length c3, .slice A4 t.ks.length c4] 25)) := (Below.refl _ _).alloc (Nat.le_refl _) _
  have gz1 : (w.alloc (.cells #[.int .i64 t.k, .int .i64 t.n, .string t.t, .slice A3 t.its.length c3, .slice A4 t.ks.length c4] 25)).heap.size = w.heap.size + 1 := by simp
  have RG := Lib.hid (jRight_any t hW hD _ (hL.below W1 top) A3 A4 c3 c4 ((ht.below W1).more W1.size))
  obtain ⟨O, hO⟩ : ∃ o, o = Jp.out t := ⟨_, rfl⟩
  rw [← hO]
  unfold Jp.out at hO
  have GZ1 := Lib.hid gz1
  by_cases hb : t.rightb = true
  · rw [if_pos hb] at hO
    rw [hb] at RG
    have TP := Lib.hid (fun (W : World) (g : Nat) (hg : w.heap.size ≤ g) (sk : Snk W g g []) (b : Below w.heap.size w W) => tree_at _ t (Nat.le_refl _) (J.rightb_iff.1 hb).2 hr w.heap.size g g [] W A3 A4 c3 c4 (hL.below b top) top hg hg sk (ht.below b))
    obtain ⟨X, hX⟩ : ∃ X, X = Jp.prt t := ⟨_, rfl⟩
    rw [← hX] at hO TP
    have OO := Lib.hid hO
    generalize t.k = jk at *
    generalize t.n = jn at *
    clear hO hX hb hW hD hr hL ht gz1
    go_enter Tryd.func9, Tryd.ntmps9
    go_wp2_with fail
    with_reducible refine RG.out.mono ?_
    rintro e w2 ⟨rfl, b2⟩
    rw [GZ1.out] at b2
    have s2 := b2.size
    rw [GZ1.out] at s2
    have bw2 : Below w.heap.size w w2 := W1.trans (b2.mono (by omega))
    have hOwn := Nat.lt_of_lt_of_le (n := w.heap.size) (by first | exact Nat.le_refl _ | assumption | (simp; done) | (simp; omega) | omega) (Below.size b2)
    have hOwn1 := Nat.ne_of_gt hOwn
    have hOwn2 := Nat.ne_of_lt hOwn
    have hOwn := (Below.cell b2 (p := ⟨w.heap.size, 0, none⟩) (by first | exact Nat.le_refl _ | assumption | (simp; done) | (simp; omega) | omega)).trans (by go_simp; rfl)
    have hOwn := (Below.cell b2 (p := ⟨w.heap.size, 1, none⟩) (by first | exact Nat.le_refl _ | assumption | (simp; done) | (simp; omega) | omega)).trans (by go_simp; rfl)
    have hOwn := (Below.cell b2 (p := ⟨w.heap.size, 2, none⟩) (by first | exact Nat.le_refl _ | assumption | (simp; done) | (simp; omega) | omega)).trans (by go_simp; rfl)
    have hOwn := (Below.cell b2 (p := ⟨w.heap.size, 3, none⟩) (by first | exact Nat.le_refl _ | assumption | (simp; done) | (simp; omega) | omega)).trans (by go_simp; rfl)
    have hOwn := (Below.cell b2 (p := ⟨w.heap.size, 4, none⟩) (by first | exact Nat.le_refl _ | assumption | (simp; done) | (simp; omega) | omega)).trans (by go_simp; rfl)
    have hOwn := (Below.frozen b2 (p := ⟨w.heap.size, 0, none⟩) (by first | exact Nat.le_refl _ | assumption | (simp; done) | (simp; omega) | omega)).trans (by go_simp; rfl)
    have hOwn := (Below.frozen b2 (p := ⟨w.heap.size, 1, none⟩) (by first | exact Nat.le_refl _ | assumption | (simp; done) | (simp; omega) | omega)).trans (by go_simp; rfl)
    have hOwn := (Below.frozen b2 (p := ⟨w.heap.size, 2, none⟩) (by first | exact Nat.le_refl _ | assumption | (simp; done) | (simp; omega) | omega)).trans (by go_simp; rfl)
    have hOwn := (Below.frozen b2 (p := ⟨w.heap.size, 3, none⟩) (by first | exact Nat.le_refl _ | assumption | (simp; done) | (simp; omega) | omega)).trans (by go_simp; rfl)
    have hOwn := (Below.frozen b2 (p := ⟨w.heap.size, 4, none⟩) (by first | exact Nat.le_refl _ | assumption | (simp; done) | (simp; omega) | omega)).trans (by go_simp; rfl)
    have B3 : Below w.heap.size w (w2.alloc (.cells #[.slice none 0 0] 28)) := bw2.alloc (by omega) _
    have sk : Snk (w2.alloc (.cells #[.slice none 0 0] 28)) w2.heap.size w2.heap.size [] := ⟨_, Blk.new w2 _ _, Own.none_ _ _ _, (fun h e => by cases e), by simp, by simp⟩
    have T3 := Lib.hid (TP.out _ w2.heap.size (by omega) sk B3)
    have z3 : (w2.alloc (.cells #[.slice none 0 0] 28)).heap.size = w2.heap.size + 1 := by simp
    have Z3 := Lib.hid z3
    clear sk TP z3
    go_wp2_with fail
    with_reducible refine T3.out.mono ?_
    rintro e w4 (⟨h4, rfl, r4, S4, hr4, v4⟩ | ⟨h4, rfl, v4⟩)
    · have bw4 : Below w.heap.size w w4 := B3.trans (v4.bel (by omega) (by omega) (by rw [Z3.out]; omega))
      obtain ⟨v5, hb5, ho5, _⟩ := S4
      rw [List.nil_append] at ho5
      obtain ⟨A5, c5, rfl, y5, hc5⟩ := ho5.room
      have c0 := hb5.cell 0
      have f0 := hb5.frozen 0
      simp only [List.getElem?_toArray, List.getElem?_cons_zero] at c0
      have Y5 := Lib.hid y5
      have ZO : Hid (O = (X, 0)) := by show _ = _; rw [OO.out, if_neg (by simp at h4; omega)]
      clear y5 ho5 hb5 v4
      go_wp2_with fail
      go_ret2
      exact prtB_yes ZO.out rfl hc5 Y5.out bw4
    · have bw4 : Below w.heap.size w w4 := B3.trans (v4.bel (by omega) (by omega) (by rw [Z3.out]; omega))
      have ZO : Hid (O = ([], 3)) := by show _ = _; rw [OO.out, if_pos (by simp at h4; omega)]
      clear v4
      go_wp2_with fail
      go_ret2
      exact prtB_no ZO.out rfl bw4
  · rw [if_neg hb] at hO
    rw [show t.rightb = false by simpa using hb] at RG
    have ZO := Lib.hid hO
    clear hO hb hW hD hr hL ht gz1
    go_enter Tryd.func9, Tryd.ntmps9
    go_wp2_with fail
    with_reducible refine RG.out.mono ?_
    rintro e w2 ⟨rfl, b2⟩
    rw [GZ1.out] at b2
    have bw2 : Below w.heap.size w w2 := W1.trans (b2.mono (by omega))
    go_wp2_with fail
    go_ret2
    exact prtB_no ZO.out rfl bw2
end Go.Proofs.YtjebkedlfhapjaaDoor
