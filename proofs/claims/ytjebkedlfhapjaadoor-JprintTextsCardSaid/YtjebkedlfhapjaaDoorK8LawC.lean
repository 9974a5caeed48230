/- The laws of layer 8, walked: what is parsed is printed, and parsed again. -/
import Derived.Test.YtjebkedlfhapjaaDoorK8Wk
namespace Go.Proofs.YtjebkedlfhapjaaDoor
open Go.ChangeShapes Go.WideShapes Go.ChangeAt Go.RowKit Mem

set_option maxRecDepth 100000 in
set_option maxHeartbeats 8000000 in
theorem jprintTexts_walk (A : Option Addr) (l : List UInt8) (c : Nat) (w : World) (hc : l.length ≤ c) (hb : Bys w w.heap.size A l) (hL : Laid w) :
    Calls Tryd.prog 6 #[.slice A l.length c] w fun e w' => e = .returned (.bool true) ∧ Below w.heap.size w w' := by
  have CS := cell_set
  have top := hL.top
  have WK := Lib.hid (works8_any w hL)
  by_cases hbig : 2000 < l.length
  · have hq : (2000 : Int) < (l.length : Int) := by omega
    go_enter Tryd.func6, Tryd.ntmps6
    go_wp2_with fail
    refine WK.out.mono ?_
    rintro e w1 ⟨rfl, b1⟩
    go_wp2_with fail
    go_ret
    exact ⟨rfl, b1⟩
  · have hq : ¬ (2000 : Int) < (l.length : Int) := by omega
    have PA := Lib.hid (fun W h1 h2 => parse_any A c l W h1 h2 (by omega) hc)
    have po := fun h => Jp.parse_out (l := l) (by omega) h
    obtain ⟨⟨j, er⟩, hr⟩ : ∃ r, r = Jp.parse l := ⟨_, rfl⟩
    rw [← hr] at PA po
    simp only at po
    have PO := Lib.hid po
    clear hr hbig po
    go_enter Tryd.func6, Tryd.ntmps6
    go_wp2_with fail
    refine WK.out.mono ?_
    rintro e w1 ⟨rfl, b1⟩
    have s1 := b1.size
    have L1 := hL.below b1 top
    have y1 := hb.now b1
    go_wp2_with fail
    with_reducible refine (PA.out _ L1 y1).mono ?_
    rintro e w2 ⟨A3, c3, A4, c4, rfl, tr, b2⟩
    simp only at tr ⊢
    have s2 := b2.size
    have bw2 : Below w.heap.size w w2 := b1.trans (b2.mono s1)
    have tr2 := btw_c tr
    by_cases he : er = 0
    · subst he
      obtain ⟨hr, hW, hD, hR, hle, ho, hpp⟩ := PO.out rfl
      have ple : (Jp.prt j).length ≤ 2000 := by omega
      have HT := Lib.hid (fun W (b : Below w2.heap.size w2 W) => (tr2.below b).more b.size)
      have LL := Lib.hid (fun W (b : Below w2.heap.size w2 W) => hL.below (bw2.trans (b.mono bw2.size)) top)
      have PR := Lib.hid (fun W A3 A4 c3 c4 hL h => jPrint_any j hW hD hr W hL A3 A4 c3 c4 h)
      have RI := Lib.hid (fun W b => jRight_any j hW hD W (LL.out W b) A3 A4 c3 c4 (HT.out W b))
      have PP := Lib.hid (fun (A : Option Addr) (c : Nat) W hL hb hc => parse_any A c (Jp.prt j) W hL hb (by omega) hc)
      have SA := Lib.hid (fun W D3 D4 d3 d4 b h => same_any j j W A3 A4 D3 D4 c3 c4 d3 d4 (HT.out W b) h)
      rw [ho] at PR
      rw [hR] at RI
      rw [hpp] at PP
      rw [J.same_refl] at SA
      unfold PrtB at PR
      obtain ⟨P, hP⟩ : ∃ P, P = Jp.prt j := ⟨_, rfl⟩
      rw [← hP] at PR PP hle ple
      have qle : (P.length : Int) ≤ (l.length : Int) := by omega
      have BW := Lib.hid bw2
      clear PO tr tr2 b1 b2 PA y1 hr hW hD hR ho hpp hP L1
      have b02 : Below w2.heap.size w2 (w2.alloc (.cells #[.int .i64 j.k, .int .i64 j.n, .string j.t, .slice A3 j.its.length c3, .slice A4 j.ks.length c4] 25)) := (Below.refl _ _).alloc (Nat.le_refl _) _
      have z2 : (w2.alloc (.cells #[.int .i64 j.k, .int .i64 j.n, .string j.t, .slice A3 j.its.length c3, .slice A4 j.ks.length c4] 25)).heap.size = w2.heap.size + 1 := by simp
      have Z2 := Lib.hid z2
      clear z2
      go_wp2_with fail
      with_reducible refine (PR.out _ A3 A4 c3 c4 (LL.out _ b02) (HT.out _ b02)).mono ?_
      rintro e w3 ⟨PA, pc, rfl, hpc, pb, b3⟩
      simp only at pb hpc ⊢
      have s3 := b3.size
      rw [Z2.out] at s3
      have b23 : Below w2.heap.size w2 w3 := b02.trans (b3.mono (by rw [Z2.out]; omega))
      have hOwn := Nat.lt_of_lt_of_le (n := w2.heap.size) (by first | exact Nat.le_refl _ | assumption | (simp; done) | (simp; omega) | omega) (Below.size b3)
      have hOwn1 := Nat.ne_of_gt hOwn
      have hOwn2 := Nat.ne_of_lt hOwn
      have hOwn := (Below.cell b3 (p := ⟨w2.heap.size, 0, none⟩) (by first | exact Nat.le_refl _ | assumption | (simp; done) | (simp; omega) | omega)).trans (by go_simp; rfl)
      have hOwn := (Below.cell b3 (p := ⟨w2.heap.size, 1, none⟩) (by first | exact Nat.le_refl _ | assumption | (simp; done) | (simp; omega) | omega)).trans (by go_simp; rfl)
      have hOwn := (Below.cell b3 (p := ⟨w2.heap.size, 2, none⟩) (by first | exact Nat.le_refl _ | assumption | (simp; done) | (simp; omega) | omega)).trans (by go_simp; rfl)
      have hOwn := (Below.cell b3 (p := ⟨w2.heap.size, 3, none⟩) (by first | exact Nat.le_refl _ | assumption | (simp; done) | (simp; omega) | omega)).trans (by go_simp; rfl)
      have hOwn := (Below.cell b3 (p := ⟨w2.heap.size, 4, none⟩) (by first | exact Nat.le_refl _ | assumption | (simp; done) | (simp; omega) | omega)).trans (by go_simp; rfl)
      have hOwn := (Below.frozen b3 (p := ⟨w2.heap.size, 0, none⟩) (by first | exact Nat.le_refl _ | assumption | (simp; done) | (simp; omega) | omega)).trans (by go_simp; rfl)
      have hOwn := (Below.frozen b3 (p := ⟨w2.heap.size, 1, none⟩) (by first | exact Nat.le_refl _ | assumption | (simp; done) | (simp; omega) | omega)).trans (by go_simp; rfl)
      have hOwn := (Below.frozen b3 (p := ⟨w2.heap.size, 2, none⟩) (by first | exact Nat.le_refl _ | assumption | (simp; done) | (simp; omega) | omega)).trans (by go_simp; rfl)
      have hOwn := (Below.frozen b3 (p := ⟨w2.heap.size, 3, none⟩) (by first | exact Nat.le_refl _ | assumption | (simp; done) | (simp; omega) | omega)).trans (by go_simp; rfl)
      have hOwn := (Below.frozen b3 (p := ⟨w2.heap.size, 4, none⟩) (by first | exact Nat.le_refl _ | assumption | (simp; done) | (simp; omega) | omega)).trans (by go_simp; rfl)
      have PB := Lib.hid pb
      have LL3 := Lib.hid (LL.out _ b23)
      go_wp2_with fail
      with_reducible refine (PP.out PA pc _ LL3.out PB.out hpc).mono ?_
      rintro e w4 ⟨X3, x3, X4, x4, rfl, tk, b4⟩
      simp only at tk ⊢
      have s4 := b4.size
      have b24 : Below w2.heap.size w2 w4 := b23.trans (b4.mono (by omega))
      have tk4 := btw_c tk
      have hOwn := Nat.lt_of_lt_of_le (n := w2.heap.size) (by first | exact Nat.le_refl _ | assumption | (simp; done) | (simp; omega) | omega) (Below.size b4)
      have hOwn1 := Nat.ne_of_gt hOwn
      have hOwn2 := Nat.ne_of_lt hOwn
      have hOwn := (Below.cell b4 (p := ⟨w2.heap.size, 0, none⟩) (by first | exact Nat.le_refl _ | assumption | (simp; done) | (simp; omega) | omega)).trans (by go_simp; rfl)
      have hOwn := (Below.cell b4 (p := ⟨w2.heap.size, 1, none⟩) (by first | exact Nat.le_refl _ | assumption | (simp; done) | (simp; omega) | omega)).trans (by go_simp; rfl)
      have hOwn := (Below.cell b4 (p := ⟨w2.heap.size, 2, none⟩) (by first | exact Nat.le_refl _ | assumption | (simp; done) | (simp; omega) | omega)).trans (by go_simp; rfl)
      have hOwn := (Below.cell b4 (p := ⟨w2.heap.size, 3, none⟩) (by first | exact Nat.le_refl _ | assumption | (simp; done) | (simp; omega) | omega)).trans (by go_simp; rfl)
      have hOwn := (Below.cell b4 (p := ⟨w2.heap.size, 4, none⟩) (by first | exact Nat.le_refl _ | assumption | (simp; done) | (simp; omega) | omega)).trans (by go_simp; rfl)
      have hOwn := (Below.frozen b4 (p := ⟨w2.heap.size, 0, none⟩) (by first | exact Nat.le_refl _ | assumption | (simp; done) | (simp; omega) | omega)).trans (by go_simp; rfl)
      have hOwn := (Below.frozen b4 (p := ⟨w2.heap.size, 1, none⟩) (by first | exact Nat.le_refl _ | assumption | (simp; done) | (simp; omega) | omega)).trans (by go_simp; rfl)
      have hOwn := (Below.frozen b4 (p := ⟨w2.heap.size, 2, none⟩) (by first | exact Nat.le_refl _ | assumption | (simp; done) | (simp; omega) | omega)).trans (by go_simp; rfl)
      have hOwn := (Below.frozen b4 (p := ⟨w2.heap.size, 3, none⟩) (by first | exact Nat.le_refl _ | assumption | (simp; done) | (simp; omega) | omega)).trans (by go_simp; rfl)
      have hOwn := (Below.frozen b4 (p := ⟨w2.heap.size, 4, none⟩) (by first | exact Nat.le_refl _ | assumption | (simp; done) | (simp; omega) | omega)).trans (by go_simp; rfl)
      have HK := Lib.hid (fun W (b : Below w4.heap.size w4 W) => (tk4.below b).more b.size)
      have PB4 := Lib.hid ((PB.out.below b4).more s4)
      have b04 : Below w4.heap.size w4 (w4.alloc (.cells #[.int .i64 j.k, .int .i64 j.n, .string j.t, .slice X3 j.its.length x3, .slice X4 j.ks.length x4] 25)) := (Below.refl _ _).alloc (Nat.le_refl _) _
      have z4 : (w4.alloc (.cells #[.int .i64 j.k, .int .i64 j.n, .string j.t, .slice X3 j.its.length x3, .slice X4 j.ks.length x4] 25)).heap.size = w4.heap.size + 1 := by simp
      have Z4 := Lib.hid z4
      have b24' : Below w2.heap.size w2 (w4.alloc (.cells #[.int .i64 j.k, .int .i64 j.n, .string j.t, .slice X3 j.its.length x3, .slice X4 j.ks.length x4] 25)) := b24.trans (b04.mono (by omega))
      have LL4 := Lib.hid (LL.out _ b24')
      clear tk tk4 z4 pb
      go_wp2_with fail
      with_reducible refine (PR.out _ X3 X4 x3 x4 LL4.out (HK.out _ b04)).mono ?_
      rintro e w5 ⟨PC, pd, rfl, hpd, pb5, b5⟩
      simp only at pb5 hpd ⊢
      have s5 := b5.size
      rw [Z4.out] at s5
      have b25 : Below w2.heap.size w2 w5 := b24'.trans (b5.mono (by rw [Z4.out]; omega))
      have b45 : Below w4.heap.size w4 w5 := b04.trans (b5.mono (by rw [Z4.out]; omega))
      have hOwn := Nat.lt_of_lt_of_le (n := w2.heap.size) (by first | exact Nat.le_refl _ | assumption | (simp; done) | (simp; omega) | omega) (Below.size b5)
      have hOwn1 := Nat.ne_of_gt hOwn
      have hOwn2 := Nat.ne_of_lt hOwn
      have hOwn := (Below.cell b5 (p := ⟨w2.heap.size, 0, none⟩) (by first | exact Nat.le_refl _ | assumption | (simp; done) | (simp; omega) | omega)).trans (by go_simp; rfl)
      have hOwn := (Below.cell b5 (p := ⟨w2.heap.size, 1, none⟩) (by first | exact Nat.le_refl _ | assumption | (simp; done) | (simp; omega) | omega)).trans (by go_simp; rfl)
      have hOwn := (Below.cell b5 (p := ⟨w2.heap.size, 2, none⟩) (by first | exact Nat.le_refl _ | assumption | (simp; done) | (simp; omega) | omega)).trans (by go_simp; rfl)
      have hOwn := (Below.cell b5 (p := ⟨w2.heap.size, 3, none⟩) (by first | exact Nat.le_refl _ | assumption | (simp; done) | (simp; omega) | omega)).trans (by go_simp; rfl)
      have hOwn := (Below.cell b5 (p := ⟨w2.heap.size, 4, none⟩) (by first | exact Nat.le_refl _ | assumption | (simp; done) | (simp; omega) | omega)).trans (by go_simp; rfl)
      have hOwn := (Below.frozen b5 (p := ⟨w2.heap.size, 0, none⟩) (by first | exact Nat.le_refl _ | assumption | (simp; done) | (simp; omega) | omega)).trans (by go_simp; rfl)
      have hOwn := (Below.frozen b5 (p := ⟨w2.heap.size, 1, none⟩) (by first | exact Nat.le_refl _ | assumption | (simp; done) | (simp; omega) | omega)).trans (by go_simp; rfl)
      have hOwn := (Below.frozen b5 (p := ⟨w2.heap.size, 2, none⟩) (by first | exact Nat.le_refl _ | assumption | (simp; done) | (simp; omega) | omega)).trans (by go_simp; rfl)
      have hOwn := (Below.frozen b5 (p := ⟨w2.heap.size, 3, none⟩) (by first | exact Nat.le_refl _ | assumption | (simp; done) | (simp; omega) | omega)).trans (by go_simp; rfl)
      have hOwn := (Below.frozen b5 (p := ⟨w2.heap.size, 4, none⟩) (by first | exact Nat.le_refl _ | assumption | (simp; done) | (simp; omega) | omega)).trans (by go_simp; rfl)
      have hOwn := Nat.lt_of_lt_of_le (n := w4.heap.size) (by first | exact Nat.le_refl _ | assumption | (simp; done) | (simp; omega) | omega) (Below.size b5)
      have hOwn1 := Nat.ne_of_gt hOwn
      have hOwn2 := Nat.ne_of_lt hOwn
      have hOwn := (Below.cell b5 (p := ⟨w4.heap.size, 0, none⟩) (by first | exact Nat.le_refl _ | assumption | (simp; done) | (simp; omega) | omega)).trans (by go_simp; rfl)
      have hOwn := (Below.cell b5 (p := ⟨w4.heap.size, 1, none⟩) (by first | exact Nat.le_refl _ | assumption | (simp; done) | (simp; omega) | omega)).trans (by go_simp; rfl)
      have hOwn := (Below.cell b5 (p := ⟨w4.heap.size, 2, none⟩) (by first | exact Nat.le_refl _ | assumption | (simp; done) | (simp; omega) | omega)).trans (by go_simp; rfl)
      have hOwn := (Below.cell b5 (p := ⟨w4.heap.size, 3, none⟩) (by first | exact Nat.le_refl _ | assumption | (simp; done) | (simp; omega) | omega)).trans (by go_simp; rfl)
      have hOwn := (Below.cell b5 (p := ⟨w4.heap.size, 4, none⟩) (by first | exact Nat.le_refl _ | assumption | (simp; done) | (simp; omega) | omega)).trans (by go_simp; rfl)
      have hOwn := (Below.frozen b5 (p := ⟨w4.heap.size, 0, none⟩) (by first | exact Nat.le_refl _ | assumption | (simp; done) | (simp; omega) | omega)).trans (by go_simp; rfl)
      have hOwn := (Below.frozen b5 (p := ⟨w4.heap.size, 1, none⟩) (by first | exact Nat.le_refl _ | assumption | (simp; done) | (simp; omega) | omega)).trans (by go_simp; rfl)
      have hOwn := (Below.frozen b5 (p := ⟨w4.heap.size, 2, none⟩) (by first | exact Nat.le_refl _ | assumption | (simp; done) | (simp; omega) | omega)).trans (by go_simp; rfl)
      have hOwn := (Below.frozen b5 (p := ⟨w4.heap.size, 3, none⟩) (by first | exact Nat.le_refl _ | assumption | (simp; done) | (simp; omega) | omega)).trans (by go_simp; rfl)
      have hOwn := (Below.frozen b5 (p := ⟨w4.heap.size, 4, none⟩) (by first | exact Nat.le_refl _ | assumption | (simp; done) | (simp; omega) | omega)).trans (by go_simp; rfl)
      have PB5 := Lib.hid pb5
      clear pb5
      go_wp2_with fail
      with_reducible refine (RI.out _ b25).mono ?_
      rintro e w6 ⟨rfl, b6⟩
      have s6 := b6.size
      have b26 : Below w2.heap.size w2 w6 := b25.trans (b6.mono (by omega))
      have b46 : Below w4.heap.size w4 w6 := b45.trans (b6.mono (by omega))
      have hOwn := Nat.lt_of_lt_of_le (n := w2.heap.size) (by first | exact Nat.le_refl _ | assumption | (simp; done) | (simp; omega) | omega) (Below.size b6)
      have hOwn1 := Nat.ne_of_gt hOwn
      have hOwn2 := Nat.ne_of_lt hOwn
      have hOwn := (Below.cell b6 (p := ⟨w2.heap.size, 0, none⟩) (by first | exact Nat.le_refl _ | assumption | (simp; done) | (simp; omega) | omega)).trans (by go_simp; rfl)
      have hOwn := (Below.cell b6 (p := ⟨w2.heap.size, 1, none⟩) (by first | exact Nat.le_refl _ | assumption | (simp; done) | (simp; omega) | omega)).trans (by go_simp; rfl)
      have hOwn := (Below.cell b6 (p := ⟨w2.heap.size, 2, none⟩) (by first | exact Nat.le_refl _ | assumption | (simp; done) | (simp; omega) | omega)).trans (by go_simp; rfl)
      have hOwn := (Below.cell b6 (p := ⟨w2.heap.size, 3, none⟩) (by first | exact Nat.le_refl _ | assumption | (simp; done) | (simp; omega) | omega)).trans (by go_simp; rfl)
      have hOwn := (Below.cell b6 (p := ⟨w2.heap.size, 4, none⟩) (by first | exact Nat.le_refl _ | assumption | (simp; done) | (simp; omega) | omega)).trans (by go_simp; rfl)
      have hOwn := (Below.frozen b6 (p := ⟨w2.heap.size, 0, none⟩) (by first | exact Nat.le_refl _ | assumption | (simp; done) | (simp; omega) | omega)).trans (by go_simp; rfl)
      have hOwn := (Below.frozen b6 (p := ⟨w2.heap.size, 1, none⟩) (by first | exact Nat.le_refl _ | assumption | (simp; done) | (simp; omega) | omega)).trans (by go_simp; rfl)
      have hOwn := (Below.frozen b6 (p := ⟨w2.heap.size, 2, none⟩) (by first | exact Nat.le_refl _ | assumption | (simp; done) | (simp; omega) | omega)).trans (by go_simp; rfl)
      have hOwn := (Below.frozen b6 (p := ⟨w2.heap.size, 3, none⟩) (by first | exact Nat.le_refl _ | assumption | (simp; done) | (simp; omega) | omega)).trans (by go_simp; rfl)
      have hOwn := (Below.frozen b6 (p := ⟨w2.heap.size, 4, none⟩) (by first | exact Nat.le_refl _ | assumption | (simp; done) | (simp; omega) | omega)).trans (by go_simp; rfl)
      have hOwn := Nat.lt_of_lt_of_le (n := w4.heap.size) (by first | exact Nat.le_refl _ | assumption | (simp; done) | (simp; omega) | omega) (Below.size b6)
      have hOwn1 := Nat.ne_of_gt hOwn
      have hOwn2 := Nat.ne_of_lt hOwn
      have hOwn := (Below.cell b6 (p := ⟨w4.heap.size, 0, none⟩) (by first | exact Nat.le_refl _ | assumption | (simp; done) | (simp; omega) | omega)).trans (by go_simp; rfl)
      have hOwn := (Below.cell b6 (p := ⟨w4.heap.size, 1, none⟩) (by first | exact Nat.le_refl _ | assumption | (simp; done) | (simp; omega) | omega)).trans (by go_simp; rfl)
      have hOwn := (Below.cell b6 (p := ⟨w4.heap.size, 2, none⟩) (by first | exact Nat.le_refl _ | assumption | (simp; done) | (simp; omega) | omega)).trans (by go_simp; rfl)
      have hOwn := (Below.cell b6 (p := ⟨w4.heap.size, 3, none⟩) (by first | exact Nat.le_refl _ | assumption | (simp; done) | (simp; omega) | omega)).trans (by go_simp; rfl)
      have hOwn := (Below.cell b6 (p := ⟨w4.heap.size, 4, none⟩) (by first | exact Nat.le_refl _ | assumption | (simp; done) | (simp; omega) | omega)).trans (by go_simp; rfl)
      have hOwn := (Below.frozen b6 (p := ⟨w4.heap.size, 0, none⟩) (by first | exact Nat.le_refl _ | assumption | (simp; done) | (simp; omega) | omega)).trans (by go_simp; rfl)
      have hOwn := (Below.frozen b6 (p := ⟨w4.heap.size, 1, none⟩) (by first | exact Nat.le_refl _ | assumption | (simp; done) | (simp; omega) | omega)).trans (by go_simp; rfl)
      have hOwn := (Below.frozen b6 (p := ⟨w4.heap.size, 2, none⟩) (by first | exact Nat.le_refl _ | assumption | (simp; done) | (simp; omega) | omega)).trans (by go_simp; rfl)
      have hOwn := (Below.frozen b6 (p := ⟨w4.heap.size, 3, none⟩) (by first | exact Nat.le_refl _ | assumption | (simp; done) | (simp; omega) | omega)).trans (by go_simp; rfl)
      have hOwn := (Below.frozen b6 (p := ⟨w4.heap.size, 4, none⟩) (by first | exact Nat.le_refl _ | assumption | (simp; done) | (simp; omega) | omega)).trans (by go_simp; rfl)
      go_wp2_with fail
      with_reducible refine (SA.out _ X3 X4 x3 x4 b26 (HK.out _ b46)).mono ?_
      rintro e w7 ⟨rfl, b7⟩
      have s7 := b7.size
      have b27 : Below w2.heap.size w2 w7 := b26.trans (b7.mono (by omega))
      have b47 : Below w4.heap.size w4 w7 := b46.trans (b7.mono (by omega))
      have cv1 := (PB4.out.below b47).str byteT strT pc
      have cv2 := (PB5.out.below (b6.trans (b7.mono s6))).str byteT strT pd
      go_wp2_with fail
      go_ret
      exact ⟨rfl, BW.out.trans (b27.mono BW.out.size)⟩
    · have qe : ((er : Int) != 0) = true := by rw [bne_iff_ne]; omega
      clear PO PA tr tr2 he
      go_wp2_with fail
      go_ret
      exact ⟨rfl, by (repeat' (first | with_reducible assumption | with_reducible exact Below.refl _ _ | (with_reducible refine Below.alloc ?_ ?_ _; rotate_left; focus ((first | exact Nat.le_refl _ | (simp; done) | (simp; omega) | omega | fail))) | (with_reducible refine Below.setCell ?_ ?_ _; rotate_left; focus ((first | exact Nat.le_refl _ | (simp; done) | (simp; omega) | omega | fail))) | with_reducible refine Mem.bel_drewN ?_ _ | with_reducible refine Below.drew ?_ | (with_reducible refine Mem.bel_call (by with_reducible assumption) ?_ ?_; focus ((first | exact Nat.le_refl _ | (simp; done) | (simp; omega) | omega | fail))) | fail))⟩
end Go.Proofs.YtjebkedlfhapjaaDoor
