/- The document's own answers for layer 7: Parse. -/
import Derived.Test.YtheeahnhdehloaaDoorJTVal
namespace Go.Proofs.YtheeahnhdehloaaDoor
open Go.ChangeShapes Go.WideShapes Go.ChangeAt Go.RowKit Mem

theorem wl_len (l : List UInt8) : ∀ (n p : Nat), p ≤ l.length → l.length - p ≤ n → (Jp.wl l p).length + p ≤ l.length + 1 := by
  intro n
  induction n with
  | zero =>
    intro p hp hn
    by_cases h : (Jx.tak l p).2 = 0
    · by_cases hk : (Jx.tak l p).1.k = 11
      · rw [Jp.wl_end hp h hk]; simp; omega
      · have m := Jx.tak_more hp h hk
        omega
    · rw [Jp.wl_bad hp h]; simp; omega
  | succ n ih =>
    intro p hp hn
    by_cases h : (Jx.tak l p).2 = 0
    · by_cases hk : (Jx.tak l p).1.k = 11
      · rw [Jp.wl_end hp h hk]; simp; omega
      · have m := Jx.tak_more hp h hk
        rw [Jp.wl_go hp h hk]
        have := ih _ m.2.1 (by omega)
        simp; omega
    · rw [Jp.wl_bad hp h]; simp; omega

/-- A tree in a result's block, and a number. -/
theorem post_j2 {fn : Func} {R : Ending → World → Prop} {a : Act} {w : World} {t u : Tmp} {g : Nat} {x0 x1 x2 x3 x4 : Value} (hf : fn.results = #[.cell t 27, .tmp u]) (hd : a.defers = [])
    (hg : a.tmps.getD t undef = .pointer (some ⟨g, 0, none⟩)) (h0 : w.cell? ⟨g, 0, none⟩ = some x0) (h1 : w.cell? ⟨g, 1, none⟩ = some x1) (h2 : w.cell? ⟨g, 2, none⟩ = some x2) (h3 : w.cell? ⟨g, 3, none⟩ = some x3) (h4 : w.cell? ⟨g, 4, none⟩ = some x4)
    (hR : R (.returned (.tuple #[.agg #[x0, x1, x2, x3, x4], a.tmps.getD u undef])) w) : bodyPost Tryd.prog fn R .ret a w := by
  refine bodyPost_ret ?_ hd hR
  rw [Array.getD_eq_getD_getElem?] at hg
  simp [results, hf, hg, go_sem, h0, h1, h2, h3, h4]
/-- What Parse answers: a tree in blocks of the call's own, and a number. -/
def Prs (r : J × Nat) (w : World) (e : Ending) (w' : World) : Prop :=
  ∃ A3 c3 A4 c4, e = .returned (.tuple #[.agg #[.int .i64 r.1.k, .int .i64 r.1.n, .string r.1.t, .slice A3 r.1.its.length c3, .slice A4 r.1.ks.length c4], .int .i64 (r.2 : Int)]) ∧
    TreeS w' (Btw w.heap.size w'.heap.size) r.1 [.int .i64 r.1.k, .int .i64 r.1.n, .string r.1.t, .slice A3 r.1.its.length c3, .slice A4 r.1.ks.length c4] ∧ Below w.heap.size w w'
theorem prs_bad {r : J × Nat} {w w' : World} {er : Nat} {y : Int} (h : r = (J.zero, er)) (hy : y = (er : Int)) (hb : Below w.heap.size w w') :
    Prs r w (.returned (.tuple #[.agg #[.int .i64 0, .int .i64 0, .string ⟨#[]⟩, .slice none 0 0, .slice none 0 0], .int .i64 y])) w' := by
  subst h; subst hy
  exact ⟨none, 0, none, 0, rfl, TreeS.zero_ _ _, hb⟩
theorem prs_ok {r : J × Nat} {w wr w' : World} {j : J} {B : Nat} {A3 A4 : Option Addr} {c3 c4 : Nat} (h : r = (j, 0)) (ht : TreeS wr (Btw B wr.heap.size) j [.int .i64 j.k, .int .i64 j.n, .string j.t, .slice A3 j.its.length c3, .slice A4 j.ks.length c4])
    (hB : w.heap.size ≤ B) (hk : KeepS (Btw B wr.heap.size) wr w') (hs : wr.heap.size ≤ w'.heap.size) (hb : Below w.heap.size w w') :
    Prs r w (.returned (.tuple #[.agg #[.int .i64 j.k, .int .i64 j.n, .string j.t, .slice A3 j.its.length c3, .slice A4 j.ks.length c4], .int .i64 0])) w' := by
  subst h
  exact ⟨A3, c3, A4, c4, rfl, ht.keep hk (fun b hb => ⟨Nat.le_trans hB hb.1, Nat.lt_of_lt_of_le hb.2 hs⟩), hb⟩

set_option maxRecDepth 100000 in
set_option maxHeartbeats 4000000 in
theorem rparse_any (VAL : ∀ f, ValC f) (A : Option Addr) (c : Nat) (l : List UInt8) (w : World) (hb : Bys w w.heap.size A l) (hl : l.length ≤ 100000000) (hc : l.length ≤ c) :
    Calls Tryd.prog 8 #[.slice A l.length c] w (Prs (Jp.parse l) w) := by
  have CS := cell_set
  obtain ⟨R, hR⟩ : ∃ R, R = Jp.parse l := ⟨_, rfl⟩
  rw [← hR]
  unfold Jp.parse at hR
  by_cases h0 : 20000 < l.length
  · rw [if_pos h0] at hR
    have Z := Lib.hid hR
    have q0 : (decide ((20000 : Int) < (l.length : Int))) = true := by rw [decide_eq_true_iff]; omega
    clear hR hb
    go_enter Tryd.func8, Tryd.ntmps8
    go_wp2_with fail
    try simp only [Exit.inBlock, Exit.then]
    refine post_j2 (x0 := .int .i64 0) (x1 := .int .i64 0) (x2 := .string ⟨#[]⟩) (x3 := (.slice none 0 0)) (x4 := (.slice none 0 0)) rfl rfl rfl (by go_simp) (by go_simp) (by go_simp) (by go_simp) (by go_simp) ?_
    exact prs_bad Z.out rfl (by (repeat' (first | with_reducible assumption | with_reducible exact Below.refl _ _ | (with_reducible refine Below.alloc ?_ ?_ _; rotate_left; focus ((first | exact Nat.le_refl _ | (simp; done) | (simp; omega) | omega | fail))) | (with_reducible refine Below.setCell ?_ ?_ _; rotate_left; focus ((first | exact Nat.le_refl _ | (simp; done) | (simp; omega) | omega | fail))) | with_reducible refine Mem.bel_drewN ?_ _ | with_reducible refine Below.drew ?_ | (with_reducible refine Mem.bel_call (by with_reducible assumption) ?_ ?_; focus ((first | exact Nat.le_refl _ | (simp; done) | (simp; omega) | omega | fail))) | fail)))
  · rw [if_neg h0] at hR
    have HR := Lib.hid hR
    have q0 : (decide ((20000 : Int) < (l.length : Int))) = false := by rw [decide_eq_false_iff_not]; omega
    have WD := Lib.hid (fun wr (h : Below w.heap.size w wr) => rwords_any A c l wr ((hb.below h).more h.size) hl hc)
    have wlen := wl_len l l.length 0 (Nat.zero_le _) (by omega)
    have at0 : Jp.At (Jp.wl l 0) l 0 0 := ⟨Nat.zero_le _, rfl⟩
    obtain ⟨ws, hws⟩ : ∃ ws, ws = Jp.wl l 0 := ⟨_, rfl⟩
    rw [← hws] at WD wlen at0
    obtain ⟨WL, hWL⟩ : ∃ m, m = ws.length := ⟨_, rfl⟩
    have HWL := Lib.hid hWL
    have AT0 := Lib.hid at0
    have HVAL := Lib.hid VAL
    have hll := hl
    rw [← hWL] at wlen
    clear hR hws hWL at0 hb VAL
    go_enter Tryd.func8, Tryd.ntmps8
    go_wp2_with fail
    refine (WD.out _ (by (repeat' (first | with_reducible assumption | with_reducible exact Below.refl _ _ | (with_reducible refine Below.alloc ?_ ?_ _; rotate_left; focus ((first | exact Nat.le_refl _ | (simp; done) | (simp; omega) | omega | fail))) | (with_reducible refine Below.setCell ?_ ?_ _; rotate_left; focus ((first | exact Nat.le_refl _ | (simp; done) | (simp; omega) | omega | fail))) | with_reducible refine Mem.bel_drewN ?_ _ | with_reducible refine Below.drew ?_ | (with_reducible refine Mem.bel_call (by with_reducible assumption) ?_ ?_; focus ((first | exact Nat.le_refl _ | (simp; done) | (simp; omega) | omega | fail))) | fail)))).mono ?_
    rintro e w1 ⟨v, rfl, o1, b1⟩
    obtain ⟨A1, c1, rfl, h1, f1⟩ := ownR_fls o1
    have b1' := b1.mono (show w.heap.size + 1 ≤ _ by simp)
    have bl1 : Below w.heap.size w w1 := ((Below.refl _ _).alloc (Nat.le_refl _) _).trans (b1'.mono (by omega))
    have hOwn := Nat.lt_of_lt_of_le (n := w.heap.size) (by first | exact Nat.le_refl _ | assumption | (simp; done) | (simp; omega) | omega) (Below.size b1')
    have hOwn1 := Nat.ne_of_gt hOwn
    have hOwn2 := Nat.ne_of_lt hOwn
    have hOwn := (Below.cell b1' (p := ⟨w.heap.size, 0, none⟩) (by first | exact Nat.le_refl _ | assumption | (simp; done) | (simp; omega) | omega)).trans (by go_simp; rfl)
    have hOwn := (Below.cell b1' (p := ⟨w.heap.size, 1, none⟩) (by first | exact Nat.le_refl _ | assumption | (simp; done) | (simp; omega) | omega)).trans (by go_simp; rfl)
    have hOwn := (Below.cell b1' (p := ⟨w.heap.size, 2, none⟩) (by first | exact Nat.le_refl _ | assumption | (simp; done) | (simp; omega) | omega)).trans (by go_simp; rfl)
    have hOwn := (Below.cell b1' (p := ⟨w.heap.size, 3, none⟩) (by first | exact Nat.le_refl _ | assumption | (simp; done) | (simp; omega) | omega)).trans (by go_simp; rfl)
    have hOwn := (Below.cell b1' (p := ⟨w.heap.size, 4, none⟩) (by first | exact Nat.le_refl _ | assumption | (simp; done) | (simp; omega) | omega)).trans (by go_simp; rfl)
    have hOwn := (Below.frozen b1' (p := ⟨w.heap.size, 0, none⟩) (by first | exact Nat.le_refl _ | assumption | (simp; done) | (simp; omega) | omega)).trans (by go_simp; rfl)
    have hOwn := (Below.frozen b1' (p := ⟨w.heap.size, 1, none⟩) (by first | exact Nat.le_refl _ | assumption | (simp; done) | (simp; omega) | omega)).trans (by go_simp; rfl)
    have hOwn := (Below.frozen b1' (p := ⟨w.heap.size, 2, none⟩) (by first | exact Nat.le_refl _ | assumption | (simp; done) | (simp; omega) | omega)).trans (by go_simp; rfl)
    have hOwn := (Below.frozen b1' (p := ⟨w.heap.size, 3, none⟩) (by first | exact Nat.le_refl _ | assumption | (simp; done) | (simp; omega) | omega)).trans (by go_simp; rfl)
    have hOwn := (Below.frozen b1' (p := ⟨w.heap.size, 4, none⟩) (by first | exact Nat.le_refl _ | assumption | (simp; done) | (simp; omega) | omega)).trans (by go_simp; rfl)
    have gsz1 := bl1.size
    have fw1 : Fl w1 w1.heap.size A1 (wcs ws) := f1.imp id fun ⟨b, o, e, hb, hcc⟩ => ⟨b, o, e, hb.2, hcc⟩
    have vc := HVAL.out (2 * l.length + 3) ws l 0 0 0 w1 A1 c1 (by omega) hll AT0.out (by omega) h1 (by rw [← HWL.out]; omega) fw1
    have FW1 := Lib.hid fw1
    rw [← HWL.out, show ((0 : Nat) : Int) = 0 from rfl] at vc
    rw [← HWL.out]
    rw [← HWL.out] at h1 o1
    have rr := HR.out
    obtain ⟨⟨j, q, er⟩, hpv⟩ : ∃ r, r = Jp.pval (2 * l.length + 3) l 0 0 := ⟨_, rfl⟩
    rw [← hpv] at vc rr
    simp only at rr
    have VC := Lib.hid vc
    have RR := Lib.hid rr
    clear vc hpv HR f1 fw1 o1 rr
    go_wp2_with fail
    with_reducible refine VC.out.mono ?_
    rintro e w5 ⟨X3, y3, X4, y4, z, rfl, tr, nx, b5⟩
    simp only at tr nx
    have bb5 := b1'.trans (b5.mono (by omega))
    have hOwn := Nat.lt_of_lt_of_le (n := w.heap.size) (by first | exact Nat.le_refl _ | assumption | (simp; done) | (simp; omega) | omega) (Below.size bb5)
    have hOwn1 := Nat.ne_of_gt hOwn
    have hOwn2 := Nat.ne_of_lt hOwn
    have hOwn := (Below.cell bb5 (p := ⟨w.heap.size, 0, none⟩) (by first | exact Nat.le_refl _ | assumption | (simp; done) | (simp; omega) | omega)).trans (by go_simp; rfl)
    have hOwn := (Below.cell bb5 (p := ⟨w.heap.size, 1, none⟩) (by first | exact Nat.le_refl _ | assumption | (simp; done) | (simp; omega) | omega)).trans (by go_simp; rfl)
    have hOwn := (Below.cell bb5 (p := ⟨w.heap.size, 2, none⟩) (by first | exact Nat.le_refl _ | assumption | (simp; done) | (simp; omega) | omega)).trans (by go_simp; rfl)
    have hOwn := (Below.cell bb5 (p := ⟨w.heap.size, 3, none⟩) (by first | exact Nat.le_refl _ | assumption | (simp; done) | (simp; omega) | omega)).trans (by go_simp; rfl)
    have hOwn := (Below.cell bb5 (p := ⟨w.heap.size, 4, none⟩) (by first | exact Nat.le_refl _ | assumption | (simp; done) | (simp; omega) | omega)).trans (by go_simp; rfl)
    have hOwn := (Below.frozen bb5 (p := ⟨w.heap.size, 0, none⟩) (by first | exact Nat.le_refl _ | assumption | (simp; done) | (simp; omega) | omega)).trans (by go_simp; rfl)
    have hOwn := (Below.frozen bb5 (p := ⟨w.heap.size, 1, none⟩) (by first | exact Nat.le_refl _ | assumption | (simp; done) | (simp; omega) | omega)).trans (by go_simp; rfl)
    have hOwn := (Below.frozen bb5 (p := ⟨w.heap.size, 2, none⟩) (by first | exact Nat.le_refl _ | assumption | (simp; done) | (simp; omega) | omega)).trans (by go_simp; rfl)
    have hOwn := (Below.frozen bb5 (p := ⟨w.heap.size, 3, none⟩) (by first | exact Nat.le_refl _ | assumption | (simp; done) | (simp; omega) | omega)).trans (by go_simp; rfl)
    have hOwn := (Below.frozen bb5 (p := ⟨w.heap.size, 4, none⟩) (by first | exact Nat.le_refl _ | assumption | (simp; done) | (simp; omega) | omega)).trans (by go_simp; rfl)
    have bl5 : Below w.heap.size w w5 := bl1.trans (b5.mono gsz1)
    have lt50 : w.heap.size < w5.heap.size := by have := bb5.size; simp at this; omega
    have rr := RR.out
    clear RR
    by_cases he : er = 0
    · subst he
      obtain ⟨i2, rfl, li, lp, at2⟩ := nx rfl
      rw [if_neg (by simp)] at rr
      have hi2 : i2 < WL := by rw [HWL.out]; exact at2.lt
      have aw2 := at2.word
      have tk2 := fun g => tak_k at2.1 g
      obtain ⟨b9, o9, rfl, hb9, x0, x1, x2, x3, x4⟩ := fl_word ((FW1.out.below b5).more b5.size) at2.lt
      obtain ⟨⟨⟨K, n, T, a, x⟩, er⟩, hr⟩ : ∃ r, r = Jx.tak l q := ⟨_, rfl⟩
      rw [← hr] at aw2 tk2 rr
      simp only at rr
      unfold Jp.wd at aw2
      by_cases he2 : er = 0
      · subst he2
        rw [if_pos rfl] at aw2
        simp only at aw2 tk2
        rw [aw2] at x0 x1 x2 x3 x4
        simp only at x0 x1 x2 x3 x4
        rw [if_neg (by simp)] at rr
        have hk1 := tk2 trivial
        clear hr aw2 tk2
        by_cases hK : K = 11
        · subst hK
          rw [if_neg (by simp)] at rr
          have Z := Lib.hid rr
          have TR := Lib.hid tr
          clear rr nx tr at2
          go_wp2_with fail
          try simp only [Exit.inBlock, Exit.then]
          refine post_j2 (x0 := .int .i64 j.k) (x1 := .int .i64 j.n) (x2 := .string j.t) (x3 := (.slice X3 j.its.length y3)) (x4 := (.slice X4 j.ks.length y4)) rfl rfl rfl (by go_simp) (by go_simp) (by go_simp) (by go_simp) (by go_simp) ?_
          refine prs_ok Z.out TR.out (by omega) ?_ ?_ (by (repeat' (first | with_reducible assumption | with_reducible exact Below.refl _ _ | (with_reducible refine Below.alloc ?_ ?_ _; rotate_left; focus ((first | exact Nat.le_refl _ | (simp; done) | (simp; omega) | omega | fail))) | (with_reducible refine Below.setCell ?_ ?_ _; rotate_left; focus ((first | exact Nat.le_refl _ | (simp; done) | (simp; omega) | omega | fail))) | with_reducible refine Mem.bel_drewN ?_ _ | with_reducible refine Below.drew ?_ | (with_reducible refine Mem.bel_call (by with_reducible assumption) ?_ ?_; focus ((first | exact Nat.le_refl _ | (simp; done) | (simp; omega) | omega | fail))) | fail)))
          · refine KeepS.trans ?_ (fun p hp => World.cell?_alloc_lt _ _ p (by simpa using hp.2))
            have HG : ∀ b, Btw w1.heap.size w5.heap.size b → b ≠ w.heap.size := fun b hb => by have := hb.1; omega
            repeat (with_reducible refine KeepS.set ?_ HG _ _)
            with_reducible exact KeepS.refl _ _
          · first | (simp; done) | (simp; omega)
        · rw [if_pos hK] at rr
          have Z := Lib.hid rr
          have qk : ((K : Int) != 11) = true := by rw [bne_iff_ne]; omega
          have WR := Lib.hid (wrong_any (K : Int) n (a : Int) (x : Int) ⟨T.toArray⟩)
          rw [if_neg (by omega)] at WR
          clear rr nx tr at2 hK
          go_wp2_with fail
          with_reducible refine (WR.out _).mono ?_
          rintro e w9 ⟨rfl, b9⟩
          have bl9 := (bb5.alloc (by omega) _).trans (b9.mono (by simp; omega))
          have hOwn := Nat.lt_of_lt_of_le (n := w.heap.size) (by first | exact Nat.le_refl _ | assumption | (simp; done) | (simp; omega) | omega) (Below.size bl9)
          have hOwn1 := Nat.ne_of_gt hOwn
          have hOwn2 := Nat.ne_of_lt hOwn
          have hOwn := (Below.cell bl9 (p := ⟨w.heap.size, 0, none⟩) (by first | exact Nat.le_refl _ | assumption | (simp; done) | (simp; omega) | omega)).trans (by go_simp; rfl)
          have hOwn := (Below.cell bl9 (p := ⟨w.heap.size, 1, none⟩) (by first | exact Nat.le_refl _ | assumption | (simp; done) | (simp; omega) | omega)).trans (by go_simp; rfl)
          have hOwn := (Below.cell bl9 (p := ⟨w.heap.size, 2, none⟩) (by first | exact Nat.le_refl _ | assumption | (simp; done) | (simp; omega) | omega)).trans (by go_simp; rfl)
          have hOwn := (Below.cell bl9 (p := ⟨w.heap.size, 3, none⟩) (by first | exact Nat.le_refl _ | assumption | (simp; done) | (simp; omega) | omega)).trans (by go_simp; rfl)
          have hOwn := (Below.cell bl9 (p := ⟨w.heap.size, 4, none⟩) (by first | exact Nat.le_refl _ | assumption | (simp; done) | (simp; omega) | omega)).trans (by go_simp; rfl)
          have hOwn := (Below.frozen bl9 (p := ⟨w.heap.size, 0, none⟩) (by first | exact Nat.le_refl _ | assumption | (simp; done) | (simp; omega) | omega)).trans (by go_simp; rfl)
          have hOwn := (Below.frozen bl9 (p := ⟨w.heap.size, 1, none⟩) (by first | exact Nat.le_refl _ | assumption | (simp; done) | (simp; omega) | omega)).trans (by go_simp; rfl)
          have hOwn := (Below.frozen bl9 (p := ⟨w.heap.size, 2, none⟩) (by first | exact Nat.le_refl _ | assumption | (simp; done) | (simp; omega) | omega)).trans (by go_simp; rfl)
          have hOwn := (Below.frozen bl9 (p := ⟨w.heap.size, 3, none⟩) (by first | exact Nat.le_refl _ | assumption | (simp; done) | (simp; omega) | omega)).trans (by go_simp; rfl)
          have hOwn := (Below.frozen bl9 (p := ⟨w.heap.size, 4, none⟩) (by first | exact Nat.le_refl _ | assumption | (simp; done) | (simp; omega) | omega)).trans (by go_simp; rfl)
          go_wp2_with fail
          try simp only [Exit.inBlock, Exit.then]
          refine post_j2 (x0 := .int .i64 0) (x1 := .int .i64 0) (x2 := .string ⟨#[]⟩) (x3 := (.slice none 0 0)) (x4 := (.slice none 0 0)) rfl rfl rfl (by go_simp) (by go_simp) (by go_simp) (by go_simp) (by go_simp) ?_
          exact prs_bad Z.out rfl (by (repeat' (first | with_reducible assumption | with_reducible exact Below.refl _ _ | (with_reducible refine Below.alloc ?_ ?_ _; rotate_left; focus ((first | exact Nat.le_refl _ | (simp; done) | (simp; omega) | omega | fail))) | (with_reducible refine Below.setCell ?_ ?_ _; rotate_left; focus ((first | exact Nat.le_refl _ | (simp; done) | (simp; omega) | omega | fail))) | with_reducible refine Mem.bel_drewN ?_ _ | with_reducible refine Below.drew ?_ | (with_reducible refine Mem.bel_call (by with_reducible assumption) ?_ ?_; focus ((first | exact Nat.le_refl _ | (simp; done) | (simp; omega) | omega | fail))) | fail)))
      · rw [if_neg he2] at aw2
        rw [aw2] at x0 x1 x2 x3 x4
        simp only at x0 x1 x2 x3 x4
        rw [if_pos he2] at rr
        have Z := Lib.hid rr
        have WR := Lib.hid (wrong_any 0 (er : Int) 0 0 ⟨#[]⟩)
        rw [if_pos rfl] at WR
        clear rr nx tr at2 hr aw2 he2 tk2
        go_wp2_with fail
        with_reducible refine (WR.out _).mono ?_
        rintro e w9 ⟨rfl, b9⟩
        have bl9 := (bb5.alloc (by omega) _).trans (b9.mono (by simp; omega))
        have hOwn := Nat.lt_of_lt_of_le (n := w.heap.size) (by first | exact Nat.le_refl _ | assumption | (simp; done) | (simp; omega) | omega) (Below.size bl9)
        have hOwn1 := Nat.ne_of_gt hOwn
        have hOwn2 := Nat.ne_of_lt hOwn
        have hOwn := (Below.cell bl9 (p := ⟨w.heap.size, 0, none⟩) (by first | exact Nat.le_refl _ | assumption | (simp; done) | (simp; omega) | omega)).trans (by go_simp; rfl)
        have hOwn := (Below.cell bl9 (p := ⟨w.heap.size, 1, none⟩) (by first | exact Nat.le_refl _ | assumption | (simp; done) | (simp; omega) | omega)).trans (by go_simp; rfl)
        have hOwn := (Below.cell bl9 (p := ⟨w.heap.size, 2, none⟩) (by first | exact Nat.le_refl _ | assumption | (simp; done) | (simp; omega) | omega)).trans (by go_simp; rfl)
        have hOwn := (Below.cell bl9 (p := ⟨w.heap.size, 3, none⟩) (by first | exact Nat.le_refl _ | assumption | (simp; done) | (simp; omega) | omega)).trans (by go_simp; rfl)
        have hOwn := (Below.cell bl9 (p := ⟨w.heap.size, 4, none⟩) (by first | exact Nat.le_refl _ | assumption | (simp; done) | (simp; omega) | omega)).trans (by go_simp; rfl)
        have hOwn := (Below.frozen bl9 (p := ⟨w.heap.size, 0, none⟩) (by first | exact Nat.le_refl _ | assumption | (simp; done) | (simp; omega) | omega)).trans (by go_simp; rfl)
        have hOwn := (Below.frozen bl9 (p := ⟨w.heap.size, 1, none⟩) (by first | exact Nat.le_refl _ | assumption | (simp; done) | (simp; omega) | omega)).trans (by go_simp; rfl)
        have hOwn := (Below.frozen bl9 (p := ⟨w.heap.size, 2, none⟩) (by first | exact Nat.le_refl _ | assumption | (simp; done) | (simp; omega) | omega)).trans (by go_simp; rfl)
        have hOwn := (Below.frozen bl9 (p := ⟨w.heap.size, 3, none⟩) (by first | exact Nat.le_refl _ | assumption | (simp; done) | (simp; omega) | omega)).trans (by go_simp; rfl)
        have hOwn := (Below.frozen bl9 (p := ⟨w.heap.size, 4, none⟩) (by first | exact Nat.le_refl _ | assumption | (simp; done) | (simp; omega) | omega)).trans (by go_simp; rfl)
        go_wp2_with fail
        try simp only [Exit.inBlock, Exit.then]
        refine post_j2 (x0 := .int .i64 0) (x1 := .int .i64 0) (x2 := .string ⟨#[]⟩) (x3 := (.slice none 0 0)) (x4 := (.slice none 0 0)) rfl rfl rfl (by go_simp) (by go_simp) (by go_simp) (by go_simp) (by go_simp) ?_
        exact prs_bad Z.out rfl (by (repeat' (first | with_reducible assumption | with_reducible exact Below.refl _ _ | (with_reducible refine Below.alloc ?_ ?_ _; rotate_left; focus ((first | exact Nat.le_refl _ | (simp; done) | (simp; omega) | omega | fail))) | (with_reducible refine Below.setCell ?_ ?_ _; rotate_left; focus ((first | exact Nat.le_refl _ | (simp; done) | (simp; omega) | omega | fail))) | with_reducible refine Mem.bel_drewN ?_ _ | with_reducible refine Below.drew ?_ | (with_reducible refine Mem.bel_call (by with_reducible assumption) ?_ ?_; focus ((first | exact Nat.le_refl _ | (simp; done) | (simp; omega) | omega | fail))) | fail)))
    · rw [if_pos he] at rr
      have Z := Lib.hid rr
      have qe : ((er : Int) != 0) = true := by rw [bne_iff_ne]; omega
      clear rr nx tr he
      go_wp2_with fail
      try simp only [Exit.inBlock, Exit.then]
      refine post_j2 (x0 := .int .i64 0) (x1 := .int .i64 0) (x2 := .string ⟨#[]⟩) (x3 := (.slice none 0 0)) (x4 := (.slice none 0 0)) rfl rfl rfl (by go_simp) (by go_simp) (by go_simp) (by go_simp) (by go_simp) ?_
      exact prs_bad Z.out rfl (by (repeat' (first | with_reducible assumption | with_reducible exact Below.refl _ _ | (with_reducible refine Below.alloc ?_ ?_ _; rotate_left; focus ((first | exact Nat.le_refl _ | (simp; done) | (simp; omega) | omega | fail))) | (with_reducible refine Below.setCell ?_ ?_ _; rotate_left; focus ((first | exact Nat.le_refl _ | (simp; done) | (simp; omega) | omega | fail))) | with_reducible refine Mem.bel_drewN ?_ _ | with_reducible refine Below.drew ?_ | (with_reducible refine Mem.bel_call (by with_reducible assumption) ?_ ?_; focus ((first | exact Nat.le_refl _ | (simp; done) | (simp; omega) | omega | fail))) | fail)))
end Go.Proofs.YtheeahnhdehloaaDoor
