/- The laws of layer 8, walked: what is printed is parsed as it was. -/
import Derived.Test.YtjebkedlfhapjaaDoorK8Wk
namespace Go.Proofs.YtjebkedlfhapjaaDoor
open Go.ChangeShapes Go.WideShapes Go.ChangeAt Go.RowKit Mem

theorem out_ways (t : J) : (∃ e, Jp.out t = ([], e) ∧ e ≠ 0 ∧ (e = 3 ∧ t.rightb = true ∨ e = 2 ∧ t.rightb = false)) ∨ (Jp.out t = (Jp.prt t, 0) ∧ t.rightb = true ∧ (Jp.prt t).length ≤ 20000) := by
  unfold Jp.out
  by_cases h : t.rightb = true
  · rw [if_pos h]
    by_cases h2 : 20000 < (Jp.prt t).length
    · rw [if_pos h2]; exact .inl ⟨3, rfl, by decide, .inl ⟨rfl, h⟩⟩
    · rw [if_neg h2]; exact .inr ⟨rfl, h, by omega⟩
  · rw [if_neg h]; exact .inl ⟨2, rfl, by decide, .inr ⟨rfl, by simpa using h⟩⟩
theorem tk8 {n : Int} (h1 : -9223372036854775808 ≤ n) (h2 : n ≤ 9223372036854775807) : Jx.takI (Jx.nm n) 0 = (⟨9, n, [], 0, (Jx.nm n).length⟩, 0) := by
  have := Jx.tk_num (l := Jx.nm n) (m := []) (p := 0) (by simp) Jx.Bnd.nil h1 h2
  unfold Jx.takI
  rw [if_neg (by omega)]
  simpa using this
set_option maxRecDepth 100000 in
set_option maxHeartbeats 8000000 in
theorem jprintBack_walk (j : J) (n : Int) (w : World) (A3 A4 : Option Addr) (c3 c4 : Nat) (hj : TreeC w w.heap.size j [.int .i64 j.k, .int .i64 j.n, .string j.t, .slice A3 j.its.length c3, .slice A4 j.ks.length c4]) (hr : j.rng) (wn : (Lit.int .i64 n).wf = true) (hL : Laid w) :
    Calls Tryd.prog 5 #[.agg #[.int .i64 j.k, .int .i64 j.n, .string j.t, .slice A3 j.its.length c3, .slice A4 j.ks.length c4], .int .i64 n] w fun e w' => e = .returned (.bool true) ∧ Below w.heap.size w w' := by
  have CS := cell_set
  have top := hL.top
  obtain ⟨h1, h2⟩ := fit_i64 wn
  have W2 : Below w.heap.size w (w.alloc (.cells #[.int .i64 j.k, .int .i64 j.n, .string j.t, .slice A3 j.its.length c3, .slice A4 j.ks.length c4] 25)) := (Below.refl _ _).alloc (Nat.le_refl _) _
  have sz2 : (w.alloc (.cells #[.int .i64 j.k, .int .i64 j.n, .string j.t, .slice A3 j.its.length c3, .slice A4 j.ks.length c4] 25)).heap.size = w.heap.size + 1 := by simp
  have HJ := Lib.hid (fun W (b : Below w.heap.size w W) => (hj.below b).more b.size)
  have LL := Lib.hid (fun W (b : Below w.heap.size w W) => hL.below b top)
  have WK := Lib.hid (fun W (b : Below w.heap.size w W) => works8_any W (hL.below b top))
  have GJ := Lib.hid (fun W b => great_any j W A3 A4 c3 c4 (HJ.out W b))
  have SZ2 := Lib.hid sz2
  have nl := Jx.nm_len h1 h2
  have nu := fun W (hLW : Laid W) => jNumber_any n h1 h2 W.heap.size (.slice none 0 0) [] W hLW hLW.top (Nat.le_refl _) (Own.none_ _ _ _) (by simp)
  have tq := tk8 h1 h2
  obtain ⟨E, hE⟩ : ∃ E, E = Jx.nm n := ⟨_, rfl⟩
  simp only [← hE, List.nil_append] at nu nl tq
  have TK : Hid (∀ A5 c5 W, Laid W → Bys W W.heap.size A5 E → E.length ≤ c5 → Calls Tryd.prog 15 #[.slice A5 E.length c5, .int .i64 0] W (TkW (⟨9, n, [], 0, E.length⟩, 0) W)) := fun A5 c5 W a b c => by
    rw [← tq]; exact jTake_any A5 c5 E 0 W a b (by omega) c
  have NU := Lib.hid nu
  unfold TkW wval at TK
  unfold Made at NU
  clear hj sz2 wn nu tq hE
  go_enter Tryd.func5, Tryd.ntmps5
  go_wp2_with fail
  refine (WK.out _ W2).mono ?_
  rintro e w1 ⟨rfl, b1⟩
  have s1 := b1.size
  rw [SZ2.out] at s1
  have bw1 : Below w.heap.size w w1 := W2.trans (b1.mono (by rw [SZ2.out]; omega))
  have hOwn := Nat.lt_of_lt_of_le (n := w.heap.size) (by first | exact Nat.le_refl _ | assumption | (simp; done) | (simp; omega) | omega) (Below.size b1)
  have hOwn1 := Nat.ne_of_gt hOwn
  have hOwn2 := Nat.ne_of_lt hOwn
  have hOwn := (Below.cell b1 (p := ⟨w.heap.size, 0, none⟩) (by first | exact Nat.le_refl _ | assumption | (simp; done) | (simp; omega) | omega)).trans (by go_simp; rfl)
  have hOwn := (Below.cell b1 (p := ⟨w.heap.size, 1, none⟩) (by first | exact Nat.le_refl _ | assumption | (simp; done) | (simp; omega) | omega)).trans (by go_simp; rfl)
  have hOwn := (Below.cell b1 (p := ⟨w.heap.size, 2, none⟩) (by first | exact Nat.le_refl _ | assumption | (simp; done) | (simp; omega) | omega)).trans (by go_simp; rfl)
  have hOwn := (Below.cell b1 (p := ⟨w.heap.size, 3, none⟩) (by first | exact Nat.le_refl _ | assumption | (simp; done) | (simp; omega) | omega)).trans (by go_simp; rfl)
  have hOwn := (Below.cell b1 (p := ⟨w.heap.size, 4, none⟩) (by first | exact Nat.le_refl _ | assumption | (simp; done) | (simp; omega) | omega)).trans (by go_simp; rfl)
  have hOwn := (Below.frozen b1 (p := ⟨w.heap.size, 0, none⟩) (by first | exact Nat.le_refl _ | assumption | (simp; done) | (simp; omega) | omega)).trans (by go_simp; rfl)
  have hOwn := (Below.frozen b1 (p := ⟨w.heap.size, 1, none⟩) (by first | exact Nat.le_refl _ | assumption | (simp; done) | (simp; omega) | omega)).trans (by go_simp; rfl)
  have hOwn := (Below.frozen b1 (p := ⟨w.heap.size, 2, none⟩) (by first | exact Nat.le_refl _ | assumption | (simp; done) | (simp; omega) | omega)).trans (by go_simp; rfl)
  have hOwn := (Below.frozen b1 (p := ⟨w.heap.size, 3, none⟩) (by first | exact Nat.le_refl _ | assumption | (simp; done) | (simp; omega) | omega)).trans (by go_simp; rfl)
  have hOwn := (Below.frozen b1 (p := ⟨w.heap.size, 4, none⟩) (by first | exact Nat.le_refl _ | assumption | (simp; done) | (simp; omega) | omega)).trans (by go_simp; rfl)
  go_wp2_with fail
  refine (NU.out _ (hL.below bw1 top)).mono ?_
  rintro e w2 ⟨v2, rfl, o2, b2⟩
  obtain ⟨A2, c2, rfl, y2, hc2⟩ := o2.room
  have s2 := b2.size
  have bw2 : Below w.heap.size w w2 := bw1.trans (b2.mono bw1.size)
  clear o2
  have hOwn := Nat.lt_of_lt_of_le (n := w.heap.size) (by first | exact Nat.le_refl _ | assumption | (simp; done) | (simp; omega) | omega) (Below.size b2)
  have hOwn1 := Nat.ne_of_gt hOwn
  have hOwn2 := Nat.ne_of_lt hOwn
  have hOwn := (Below.cell b2 (p := ⟨w.heap.size, 0, none⟩) (by first | exact Nat.le_refl _ | assumption | (simp; done) | (simp; omega) | omega)).trans (by go_simp; rfl)
  have hOwn := (Below.cell b2 (p := ⟨w.heap.size, 1, none⟩) (by first | exact Nat.le_refl _ | assumption | (simp; done) | (simp; omega) | omega)).trans (by go_simp; rfl)
  have hOwn := (Below.cell b2 (p := ⟨w.heap.size, 2, none⟩) (by first | exact Nat.le_refl _ | assumption | (simp; done) | (simp; omega) | omega)).trans (by go_simp; rfl)
  have hOwn := (Below.cell b2 (p := ⟨w.heap.size, 3, none⟩) (by first | exact Nat.le_refl _ | assumption | (simp; done) | (simp; omega) | omega)).trans (by go_simp; rfl)
  have hOwn := (Below.cell b2 (p := ⟨w.heap.size, 4, none⟩) (by first | exact Nat.le_refl _ | assumption | (simp; done) | (simp; omega) | omega)).trans (by go_simp; rfl)
  have hOwn := (Below.frozen b2 (p := ⟨w.heap.size, 0, none⟩) (by first | exact Nat.le_refl _ | assumption | (simp; done) | (simp; omega) | omega)).trans (by go_simp; rfl)
  have hOwn := (Below.frozen b2 (p := ⟨w.heap.size, 1, none⟩) (by first | exact Nat.le_refl _ | assumption | (simp; done) | (simp; omega) | omega)).trans (by go_simp; rfl)
  have hOwn := (Below.frozen b2 (p := ⟨w.heap.size, 2, none⟩) (by first | exact Nat.le_refl _ | assumption | (simp; done) | (simp; omega) | omega)).trans (by go_simp; rfl)
  have hOwn := (Below.frozen b2 (p := ⟨w.heap.size, 3, none⟩) (by first | exact Nat.le_refl _ | assumption | (simp; done) | (simp; omega) | omega)).trans (by go_simp; rfl)
  have hOwn := (Below.frozen b2 (p := ⟨w.heap.size, 4, none⟩) (by first | exact Nat.le_refl _ | assumption | (simp; done) | (simp; omega) | omega)).trans (by go_simp; rfl)
  go_wp2_with fail
  with_reducible refine (TK.out A2 c2 _ (LL.out _ bw2) y2 hc2).mono ?_
  rintro e w3 ⟨rfl, b3⟩
  have s3 := b3.size
  have bw3 : Below w.heap.size w w3 := bw2.trans (b3.mono bw2.size)
  have hOwn := Nat.lt_of_lt_of_le (n := w.heap.size) (by first | exact Nat.le_refl _ | assumption | (simp; done) | (simp; omega) | omega) (Below.size b3)
  have hOwn1 := Nat.ne_of_gt hOwn
  have hOwn2 := Nat.ne_of_lt hOwn
  have hOwn := (Below.cell b3 (p := ⟨w.heap.size, 0, none⟩) (by first | exact Nat.le_refl _ | assumption | (simp; done) | (simp; omega) | omega)).trans (by go_simp; rfl)
  have hOwn := (Below.cell b3 (p := ⟨w.heap.size, 1, none⟩) (by first | exact Nat.le_refl _ | assumption | (simp; done) | (simp; omega) | omega)).trans (by go_simp; rfl)
  have hOwn := (Below.cell b3 (p := ⟨w.heap.size, 2, none⟩) (by first | exact Nat.le_refl _ | assumption | (simp; done) | (simp; omega) | omega)).trans (by go_simp; rfl)
  have hOwn := (Below.cell b3 (p := ⟨w.heap.size, 3, none⟩) (by first | exact Nat.le_refl _ | assumption | (simp; done) | (simp; omega) | omega)).trans (by go_simp; rfl)
  have hOwn := (Below.cell b3 (p := ⟨w.heap.size, 4, none⟩) (by first | exact Nat.le_refl _ | assumption | (simp; done) | (simp; omega) | omega)).trans (by go_simp; rfl)
  have hOwn := (Below.frozen b3 (p := ⟨w.heap.size, 0, none⟩) (by first | exact Nat.le_refl _ | assumption | (simp; done) | (simp; omega) | omega)).trans (by go_simp; rfl)
  have hOwn := (Below.frozen b3 (p := ⟨w.heap.size, 1, none⟩) (by first | exact Nat.le_refl _ | assumption | (simp; done) | (simp; omega) | omega)).trans (by go_simp; rfl)
  have hOwn := (Below.frozen b3 (p := ⟨w.heap.size, 2, none⟩) (by first | exact Nat.le_refl _ | assumption | (simp; done) | (simp; omega) | omega)).trans (by go_simp; rfl)
  have hOwn := (Below.frozen b3 (p := ⟨w.heap.size, 3, none⟩) (by first | exact Nat.le_refl _ | assumption | (simp; done) | (simp; omega) | omega)).trans (by go_simp; rfl)
  have hOwn := (Below.frozen b3 (p := ⟨w.heap.size, 4, none⟩) (by first | exact Nat.le_refl _ | assumption | (simp; done) | (simp; omega) | omega)).trans (by go_simp; rfl)
  go_wp2_with fail
  with_reducible refine (GJ.out _ (bw3.alloc (by omega) _)).mono ?_
  rintro e w4 ⟨gj, rfl, hgj, b4⟩
  have s4 := b4.size
  simp at s4
  have bw4 : Below w.heap.size w w4 := (bw3.alloc (by omega) _).trans (b4.mono (by simp; omega))
  have HGJ := Lib.hid hgj
  clear hgj y2
  have hOwn := Nat.lt_of_lt_of_le (n := w.heap.size) (by first | exact Nat.le_refl _ | assumption | (simp; done) | (simp; omega) | omega) (Below.size b4)
  have hOwn1 := Nat.ne_of_gt hOwn
  have hOwn2 := Nat.ne_of_lt hOwn
  have hOwn := (Below.cell b4 (p := ⟨w.heap.size, 0, none⟩) (by first | exact Nat.le_refl _ | assumption | (simp; done) | (simp; omega) | omega)).trans (by go_simp; rfl)
  have hOwn := (Below.cell b4 (p := ⟨w.heap.size, 1, none⟩) (by first | exact Nat.le_refl _ | assumption | (simp; done) | (simp; omega) | omega)).trans (by go_simp; rfl)
  have hOwn := (Below.cell b4 (p := ⟨w.heap.size, 2, none⟩) (by first | exact Nat.le_refl _ | assumption | (simp; done) | (simp; omega) | omega)).trans (by go_simp; rfl)
  have hOwn := (Below.cell b4 (p := ⟨w.heap.size, 3, none⟩) (by first | exact Nat.le_refl _ | assumption | (simp; done) | (simp; omega) | omega)).trans (by go_simp; rfl)
  have hOwn := (Below.cell b4 (p := ⟨w.heap.size, 4, none⟩) (by first | exact Nat.le_refl _ | assumption | (simp; done) | (simp; omega) | omega)).trans (by go_simp; rfl)
  have hOwn := (Below.frozen b4 (p := ⟨w.heap.size, 0, none⟩) (by first | exact Nat.le_refl _ | assumption | (simp; done) | (simp; omega) | omega)).trans (by go_simp; rfl)
  have hOwn := (Below.frozen b4 (p := ⟨w.heap.size, 1, none⟩) (by first | exact Nat.le_refl _ | assumption | (simp; done) | (simp; omega) | omega)).trans (by go_simp; rfl)
  have hOwn := (Below.frozen b4 (p := ⟨w.heap.size, 2, none⟩) (by first | exact Nat.le_refl _ | assumption | (simp; done) | (simp; omega) | omega)).trans (by go_simp; rfl)
  have hOwn := (Below.frozen b4 (p := ⟨w.heap.size, 3, none⟩) (by first | exact Nat.le_refl _ | assumption | (simp; done) | (simp; omega) | omega)).trans (by go_simp; rfl)
  have hOwn := (Below.frozen b4 (p := ⟨w.heap.size, 4, none⟩) (by first | exact Nat.le_refl _ | assumption | (simp; done) | (simp; omega) | omega)).trans (by go_simp; rfl)
  cases gj with
  | true =>
    go_wp2_with fail
    go_ret
    exact ⟨rfl, bw4⟩
  | false =>
    have h61 : j.deep ≤ 61 ∧ j.wt ≤ 2000 := by first | exact HGJ.out rfl | exact HGJ.out trivial
    have hW : j.wt ≤ 1000000 := by omega
    have hD : j.deep ≤ 1000000 := by omega
    have PR := Lib.hid (fun W b => jPrint_any j hW hD hr W (LL.out W b) A3 A4 c3 c4 (HJ.out W b))
    have RI := Lib.hid (fun W b => jRight_any j hW hD W (LL.out W b) A3 A4 c3 c4 (HJ.out W b))
    unfold PrtB at PR
    rcases out_ways j with ⟨er, ho, he, hw⟩ | ⟨ho, hR, hle⟩
    · rw [ho] at PR
      have HE := Lib.hid he
      have qe : ((er : Int) != 0) = true := by rw [bne_iff_ne]; omega
      have RB : Hid (j.rightb = ((er : Int) == 3)) := by
        show _ = _
        rcases hw with ⟨rfl, h⟩ | ⟨rfl, h⟩
        · rw [h]; rfl
        · rw [h]; rfl
      obtain ⟨rb, hrb⟩ : ∃ b, b = j.rightb := ⟨_, rfl⟩
      rw [← hrb] at RI RB
      clear HGJ GJ h61 hW hD ho he hw hrb
      go_wp2_with fail
      with_reducible refine (PR.out _ bw4).mono ?_
      rintro e w5 ⟨PA, pc, rfl, hpc, pb, b5⟩
      simp only [List.length_nil] at hpc ⊢
      have s5 := b5.size
      have bw5 : Below w.heap.size w w5 := bw4.trans (b5.mono bw4.size)
      have hOwn := Nat.lt_of_lt_of_le (n := w.heap.size) (by first | exact Nat.le_refl _ | assumption | (simp; done) | (simp; omega) | omega) (Below.size b5)
      have hOwn1 := Nat.ne_of_gt hOwn
      have hOwn2 := Nat.ne_of_lt hOwn
      have hOwn := (Below.cell b5 (p := ⟨w.heap.size, 0, none⟩) (by first | exact Nat.le_refl _ | assumption | (simp; done) | (simp; omega) | omega)).trans (by go_simp; rfl)
      have hOwn := (Below.cell b5 (p := ⟨w.heap.size, 1, none⟩) (by first | exact Nat.le_refl _ | assumption | (simp; done) | (simp; omega) | omega)).trans (by go_simp; rfl)
      have hOwn := (Below.cell b5 (p := ⟨w.heap.size, 2, none⟩) (by first | exact Nat.le_refl _ | assumption | (simp; done) | (simp; omega) | omega)).trans (by go_simp; rfl)
      have hOwn := (Below.cell b5 (p := ⟨w.heap.size, 3, none⟩) (by first | exact Nat.le_refl _ | assumption | (simp; done) | (simp; omega) | omega)).trans (by go_simp; rfl)
      have hOwn := (Below.cell b5 (p := ⟨w.heap.size, 4, none⟩) (by first | exact Nat.le_refl _ | assumption | (simp; done) | (simp; omega) | omega)).trans (by go_simp; rfl)
      have hOwn := (Below.frozen b5 (p := ⟨w.heap.size, 0, none⟩) (by first | exact Nat.le_refl _ | assumption | (simp; done) | (simp; omega) | omega)).trans (by go_simp; rfl)
      have hOwn := (Below.frozen b5 (p := ⟨w.heap.size, 1, none⟩) (by first | exact Nat.le_refl _ | assumption | (simp; done) | (simp; omega) | omega)).trans (by go_simp; rfl)
      have hOwn := (Below.frozen b5 (p := ⟨w.heap.size, 2, none⟩) (by first | exact Nat.le_refl _ | assumption | (simp; done) | (simp; omega) | omega)).trans (by go_simp; rfl)
      have hOwn := (Below.frozen b5 (p := ⟨w.heap.size, 3, none⟩) (by first | exact Nat.le_refl _ | assumption | (simp; done) | (simp; omega) | omega)).trans (by go_simp; rfl)
      have hOwn := (Below.frozen b5 (p := ⟨w.heap.size, 4, none⟩) (by first | exact Nat.le_refl _ | assumption | (simp; done) | (simp; omega) | omega)).trans (by go_simp; rfl)
      clear pb
      go_wp2_with fail
      with_reducible refine (RI.out _ bw5).mono ?_
      rintro e w6 ⟨rfl, b6⟩
      have bw6 : Below w.heap.size w w6 := bw5.trans (b6.mono bw5.size)
      have rbe := RB.out
      subst rbe
      go_wp2_with fail
      go_ret
      exact ⟨by simp, bw6⟩
    · rw [ho] at PR
      have hf := (J.rightb_iff.1 hR)
      have pp := Jp.parse_prt hf.2 hr hf.1 hle
      have PP := Lib.hid (fun (A : Option Addr) (c : Nat) W hL hb hc => parse_any A c (Jp.prt j) W hL hb (by omega) hc)
      have SA := Lib.hid (fun W D3 D4 d3 d4 b h => same_any j j W A3 A4 D3 D4 c3 c4 d3 d4 (HJ.out W b) h)
      rw [pp] at PP
      rw [J.same_refl] at SA
      obtain ⟨P, hP⟩ : ∃ P, P = Jp.prt j := ⟨_, rfl⟩
      rw [← hP] at PR PP
      clear HGJ GJ h61 hW hD ho hR hle hf pp hP RI
      go_wp2_with fail
      with_reducible refine (PR.out _ bw4).mono ?_
      rintro e w5 ⟨PA, pc, rfl, hpc, pb, b5⟩
      simp only at pb hpc ⊢
      have s5 := b5.size
      have bw5 : Below w.heap.size w w5 := bw4.trans (b5.mono bw4.size)
      have hOwn := Nat.lt_of_lt_of_le (n := w.heap.size) (by first | exact Nat.le_refl _ | assumption | (simp; done) | (simp; omega) | omega) (Below.size b5)
      have hOwn1 := Nat.ne_of_gt hOwn
      have hOwn2 := Nat.ne_of_lt hOwn
      have hOwn := (Below.cell b5 (p := ⟨w.heap.size, 0, none⟩) (by first | exact Nat.le_refl _ | assumption | (simp; done) | (simp; omega) | omega)).trans (by go_simp; rfl)
      have hOwn := (Below.cell b5 (p := ⟨w.heap.size, 1, none⟩) (by first | exact Nat.le_refl _ | assumption | (simp; done) | (simp; omega) | omega)).trans (by go_simp; rfl)
      have hOwn := (Below.cell b5 (p := ⟨w.heap.size, 2, none⟩) (by first | exact Nat.le_refl _ | assumption | (simp; done) | (simp; omega) | omega)).trans (by go_simp; rfl)
      have hOwn := (Below.cell b5 (p := ⟨w.heap.size, 3, none⟩) (by first | exact Nat.le_refl _ | assumption | (simp; done) | (simp; omega) | omega)).trans (by go_simp; rfl)
      have hOwn := (Below.cell b5 (p := ⟨w.heap.size, 4, none⟩) (by first | exact Nat.le_refl _ | assumption | (simp; done) | (simp; omega) | omega)).trans (by go_simp; rfl)
      have hOwn := (Below.frozen b5 (p := ⟨w.heap.size, 0, none⟩) (by first | exact Nat.le_refl _ | assumption | (simp; done) | (simp; omega) | omega)).trans (by go_simp; rfl)
      have hOwn := (Below.frozen b5 (p := ⟨w.heap.size, 1, none⟩) (by first | exact Nat.le_refl _ | assumption | (simp; done) | (simp; omega) | omega)).trans (by go_simp; rfl)
      have hOwn := (Below.frozen b5 (p := ⟨w.heap.size, 2, none⟩) (by first | exact Nat.le_refl _ | assumption | (simp; done) | (simp; omega) | omega)).trans (by go_simp; rfl)
      have hOwn := (Below.frozen b5 (p := ⟨w.heap.size, 3, none⟩) (by first | exact Nat.le_refl _ | assumption | (simp; done) | (simp; omega) | omega)).trans (by go_simp; rfl)
      have hOwn := (Below.frozen b5 (p := ⟨w.heap.size, 4, none⟩) (by first | exact Nat.le_refl _ | assumption | (simp; done) | (simp; omega) | omega)).trans (by go_simp; rfl)
      have PB := Lib.hid pb
      clear pb
      go_wp2_with fail
      with_reducible refine (PP.out PA pc _ (LL.out _ bw5) PB.out hpc).mono ?_
      rintro e w6 ⟨X3, x3, X4, x4, rfl, tk, b6⟩
      simp only at tk ⊢
      have s6 := b6.size
      have bw6 : Below w.heap.size w w6 := bw5.trans (b6.mono bw5.size)
      have tk6 := btw_c tk
      have hOwn := Nat.lt_of_lt_of_le (n := w.heap.size) (by first | exact Nat.le_refl _ | assumption | (simp; done) | (simp; omega) | omega) (Below.size b6)
      have hOwn1 := Nat.ne_of_gt hOwn
      have hOwn2 := Nat.ne_of_lt hOwn
      have hOwn := (Below.cell b6 (p := ⟨w.heap.size, 0, none⟩) (by first | exact Nat.le_refl _ | assumption | (simp; done) | (simp; omega) | omega)).trans (by go_simp; rfl)
      have hOwn := (Below.cell b6 (p := ⟨w.heap.size, 1, none⟩) (by first | exact Nat.le_refl _ | assumption | (simp; done) | (simp; omega) | omega)).trans (by go_simp; rfl)
      have hOwn := (Below.cell b6 (p := ⟨w.heap.size, 2, none⟩) (by first | exact Nat.le_refl _ | assumption | (simp; done) | (simp; omega) | omega)).trans (by go_simp; rfl)
      have hOwn := (Below.cell b6 (p := ⟨w.heap.size, 3, none⟩) (by first | exact Nat.le_refl _ | assumption | (simp; done) | (simp; omega) | omega)).trans (by go_simp; rfl)
      have hOwn := (Below.cell b6 (p := ⟨w.heap.size, 4, none⟩) (by first | exact Nat.le_refl _ | assumption | (simp; done) | (simp; omega) | omega)).trans (by go_simp; rfl)
      have hOwn := (Below.frozen b6 (p := ⟨w.heap.size, 0, none⟩) (by first | exact Nat.le_refl _ | assumption | (simp; done) | (simp; omega) | omega)).trans (by go_simp; rfl)
      have hOwn := (Below.frozen b6 (p := ⟨w.heap.size, 1, none⟩) (by first | exact Nat.le_refl _ | assumption | (simp; done) | (simp; omega) | omega)).trans (by go_simp; rfl)
      have hOwn := (Below.frozen b6 (p := ⟨w.heap.size, 2, none⟩) (by first | exact Nat.le_refl _ | assumption | (simp; done) | (simp; omega) | omega)).trans (by go_simp; rfl)
      have hOwn := (Below.frozen b6 (p := ⟨w.heap.size, 3, none⟩) (by first | exact Nat.le_refl _ | assumption | (simp; done) | (simp; omega) | omega)).trans (by go_simp; rfl)
      have hOwn := (Below.frozen b6 (p := ⟨w.heap.size, 4, none⟩) (by first | exact Nat.le_refl _ | assumption | (simp; done) | (simp; omega) | omega)).trans (by go_simp; rfl)
      have HK := Lib.hid (fun W (b : Below w6.heap.size w6 W) => (tk6.below b).more b.size)
      clear tk tk6
      go_wp2_with fail
      with_reducible refine (SA.out _ X3 X4 x3 x4 (bw6.alloc (by omega) _) (HK.out _ ((Below.refl _ _).alloc (Nat.le_refl _) _))).mono ?_
      rintro e w7 ⟨rfl, b7⟩
      have bw7 : Below w.heap.size w w7 := (bw6.alloc (by omega) _).trans (b7.mono (by simp; omega))
      go_wp2_with fail
      go_ret
      exact ⟨rfl, bw7⟩
end Go.Proofs.YtjebkedlfhapjaaDoor
