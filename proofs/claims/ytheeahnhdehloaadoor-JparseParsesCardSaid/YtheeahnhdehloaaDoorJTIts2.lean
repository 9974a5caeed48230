/- The document's own answers for layer 7: the items of an object. -/
import Derived.Test.YtheeahnhdehloaaDoorJTIts
namespace Go.Proofs.YtheeahnhdehloaaDoor
open Go.ChangeShapes Go.WideShapes Go.ChangeAt Go.RowKit Mem

set_option maxRecDepth 100000 in
set_option maxHeartbeats 8000000 in
theorem items_2 (f : Nat) (hV : ∀ g, g ≤ f → ValC g) (ws : List Jx.Wd) (l : List UInt8) (i p d : Nat) (w : World) (A : Option Addr) (c : Nat) (hf : 2 * (l.length + 1 - p) + 1 < f + 1) (hll : l.length ≤ 100000000) (ha : Jp.At ws l i p) (hd : d ≤ 32) (hc : ws.length ≤ c) (hwl : ws.length ≤ 100000001) (hF : Fl w w.heap.size A (wcs ws)) :
    Calls Tryd.prog 31 #[.slice A ws.length c, .int .i64 (i : Int), .int .i64 (d : Int), .int .i64 2] w
      (Pv (if (Jx.tak l p).2 = 0 ∧ (Jx.tak l p).1.k = 2 then (.mk (Jp.kindOf 2) 0 Jp.nil_ [] [], (Jx.tak l p).1.x, 0) else Jp.pits (f + 1) l p d 2 [] []) ws l i p w) := by
  have CS := cell_set
  have hi := ha.lt
  have aw := ha.word
  have an := fun g hk => ha.next g hk
  obtain ⟨b, o, rfl, hB, x0, x1, x2, x3, x4⟩ := fl_word hF hi
  have hil : i ≤ 100000001 := by omega
  have W0 : Below w.heap.size w (w.alloc (.cells #[.int .i64 0, .int .i64 0, .string ⟨#[]⟩, .slice none 0 0, .slice none 0 0] 27)) := (Below.refl _ _).alloc (Nat.le_refl _) _
  by_cases hend : (Jx.tak l p).2 = 0 ∧ (Jx.tak l p).1.k = 2
  · rw [if_pos hend]
    have AN := Lib.hid (an hend.1 (by rw [hend.2]; decide))
    unfold Jp.wd at aw
    rw [if_pos hend.1] at aw
    rw [aw, hend.2] at x0
    clear an aw hend hF hV x1 x2 x3 x4
    generalize ws.length = WL at *
    go_enter Tryd.func31, Tryd.ntmps31
    go_wp2_with fail
    try simp only [Exit.inBlock, Exit.then]
    refine post_j3 (x0 := .int .i64 6) (x1 := .int .i64 0) (x2 := .string ⟨#[]⟩) (x3 := (.slice none 0 0)) (x4 := (.slice none 0 0)) rfl rfl rfl (by go_simp) (by go_simp) (by go_simp) (by go_simp) (by go_simp) ?_
    exact pv_leaf (by rfl) (by push_cast; omega) AN.out.1 (by omega) AN.out.2 (by (repeat' (first | with_reducible assumption | with_reducible exact Below.refl _ _ | (with_reducible refine Below.alloc ?_ ?_ _; rotate_left; focus ((first | exact Nat.le_refl _ | (simp; done) | (simp; omega) | omega | fail))) | (with_reducible refine Below.setCell ?_ ?_ _; rotate_left; focus ((first | exact Nat.le_refl _ | (simp; done) | (simp; omega) | omega | fail))) | with_reducible refine Mem.bel_drewN ?_ _ | with_reducible refine Below.drew ?_ | (with_reducible refine Mem.bel_call (by with_reducible assumption) ?_ ?_; focus ((first | exact Nat.le_refl _ | (simp; done) | (simp; omega) | omega | fail))) | fail)))
  · rw [if_neg hend]
    obtain ⟨R, hR⟩ : ∃ R, R = Jp.pits (f + 1) l p d 2 [] [] := ⟨_, rfl⟩
    rw [← hR]
    have q1 : (((ws[i]'hi).k : Int) == 2) = false := by
      rw [beq_eq_false_iff_ne]
      intro h
      unfold Jp.wd at aw
      by_cases g : (Jx.tak l p).2 = 0
      · rw [if_pos g] at aw; rw [aw] at h; exact hend ⟨g, by omega⟩
      · rw [if_neg g] at aw; rw [aw] at h; simp at h
    have START : Hid (Jp.At ws l i p ∧ R = Jp.pits (f + 1) l p d 2 [] []) := ⟨ha, hR⟩
    have FW := Lib.hid hF
    have HV := Lib.hid hV
    have hS := St.start (w := w) (6) rfl
    have HSS := Lib.hid hS
    obtain ⟨WL, hWL⟩ : ∃ m, m = ws.length := ⟨_, rfl⟩
    have HWL := Lib.hid hWL
    rw [← HWL.out]
    rw [← HWL.out] at hc hwl
    have hp0 := ha.1
    clear hR aw an hend ha hF hV hS hWL x1 x2 x3 x4
    have hiw : i < WL := by rw [HWL.out]; exact hi
    generalize ws[i]'hi = WI at *
    go_enter Tryd.func31, Tryd.ntmps31
    go_wp2_with fail
    go_loopw [1] (fun t wr => ∃ (i' p' g : Nat) (ks : List ByteArray) (js : List J) (css : List (List Value)) (v3 v4 : Value), t = .int .i64 (i' : Int) ∧ i ≤ i' ∧ p ≤ p' ∧ Hid (Jp.At ws l i' p' ∧ R = Jp.pits g l p' d 2 ks js) ∧ 2 * (l.length + 1 - p') + 1 < g ∧ g ≤ f + 1 ∧ js.length ≤ p' ∧ ks.length ≤ p' ∧ Hid (St w wr 6 ks js css v3 v4)) (fun t _ => WL - (intOf t).toNat)
    case atStart => exact ⟨i, p, f + 1, [], [], [], _, _, rfl, Nat.le_refl _, Nat.le_refl _, START, hf, Nat.le_refl _, Nat.zero_le _, Nat.zero_le _, HSS⟩
    case round =>
      obtain ⟨i1, p1, g, ks, js, css, v3, v4, rfl, ii, pp, AT, hg, hgf, hjl, hkl, ST⟩ := hrel
      have at1 := AT.out.1
      have rr := AT.out.2
      have hiw2 : i1 < WL := by rw [HWL.out]; exact at1.lt
      have gsz := ST.out.lt
      have bw : Below w.heap.size w wr := W0.trans (ST.out.bl.mono (Nat.le_succ _))
      have hp1 := at1.1
      obtain ⟨g, rfl⟩ : ∃ g', g = g' + 1 := ⟨g - 1, by omega⟩
      unfold Jp.pits at rr
      rw [if_pos rfl] at rr
      have aw1 := at1.word
      have an1 := fun g hk => at1.next g hk
      have tk1 := fun g => tak_k at1.1 g
      obtain ⟨b9, o9, e9, hb9, x0, x1, x2, x3, x4⟩ := fl_word (FW.out.below bw) at1.lt
      simp only [Option.some.injEq, Addr.mk.injEq, and_true] at e9
      obtain ⟨rfl, rfl⟩ := e9
      obtain ⟨k0, k1, k2, k3, k4, r0, r1, r2, r3, r4⟩ := ST.out.bk.facts
      have hOwn := Nat.lt_of_lt_of_le (n := w.heap.size) (by first | exact Nat.le_refl _ | assumption | (simp; done) | (simp; omega) | omega) (Below.size ST.out.bl)
      have hOwn1 := Nat.ne_of_gt hOwn
      have hOwn2 := Nat.ne_of_lt hOwn
      have hOwn := (Below.cell ST.out.bl (p := ⟨w.heap.size, 0, none⟩) (by first | exact Nat.le_refl _ | assumption | (simp; done) | (simp; omega) | omega)).trans (by go_simp; rfl)
      have hOwn := (Below.cell ST.out.bl (p := ⟨w.heap.size, 1, none⟩) (by first | exact Nat.le_refl _ | assumption | (simp; done) | (simp; omega) | omega)).trans (by go_simp; rfl)
      have hOwn := (Below.cell ST.out.bl (p := ⟨w.heap.size, 2, none⟩) (by first | exact Nat.le_refl _ | assumption | (simp; done) | (simp; omega) | omega)).trans (by go_simp; rfl)
      have hOwn := (Below.cell ST.out.bl (p := ⟨w.heap.size, 3, none⟩) (by first | exact Nat.le_refl _ | assumption | (simp; done) | (simp; omega) | omega)).trans (by go_simp; rfl)
      have hOwn := (Below.cell ST.out.bl (p := ⟨w.heap.size, 4, none⟩) (by first | exact Nat.le_refl _ | assumption | (simp; done) | (simp; omega) | omega)).trans (by go_simp; rfl)
      have hOwn := (Below.frozen ST.out.bl (p := ⟨w.heap.size, 0, none⟩) (by first | exact Nat.le_refl _ | assumption | (simp; done) | (simp; omega) | omega)).trans (by go_simp; rfl)
      have hOwn := (Below.frozen ST.out.bl (p := ⟨w.heap.size, 1, none⟩) (by first | exact Nat.le_refl _ | assumption | (simp; done) | (simp; omega) | omega)).trans (by go_simp; rfl)
      have hOwn := (Below.frozen ST.out.bl (p := ⟨w.heap.size, 2, none⟩) (by first | exact Nat.le_refl _ | assumption | (simp; done) | (simp; omega) | omega)).trans (by go_simp; rfl)
      have hOwn := (Below.frozen ST.out.bl (p := ⟨w.heap.size, 3, none⟩) (by first | exact Nat.le_refl _ | assumption | (simp; done) | (simp; omega) | omega)).trans (by go_simp; rfl)
      have hOwn := (Below.frozen ST.out.bl (p := ⟨w.heap.size, 4, none⟩) (by first | exact Nat.le_refl _ | assumption | (simp; done) | (simp; omega) | omega)).trans (by go_simp; rfl)
      obtain ⟨⟨⟨K1, n1, T1, a1, y1⟩, er1⟩, hr1⟩ : ∃ r, r = Jx.tak l p1 := ⟨_, rfl⟩
      rw [← hr1] at aw1 an1 tk1 rr
      simp only at rr
      unfold Jp.wd at aw1
      by_cases he1 : er1 = 0
      · subst he1
        rw [if_pos rfl] at aw1
        simp only at aw1 tk1 an1
        rw [aw1] at x0 x1 x2 x3 x4
        simp only at x0 x1 x2 x3 x4
        rw [if_neg (by simp)] at rr
        have hk1 := tk1 trivial
        clear hr1 aw1 tk1
        by_cases hK1 : K1 = 10
        · subst hK1
          rw [if_neg (by simp)] at rr
          obtain ⟨A4, c4, e4, h4, f4⟩ := ownR_fls ST.out.o4
          subst e4
          have F4 := Lib.hid f4
          obtain ⟨nk, hnk⟩ : ∃ m, m = ks.length := ⟨_, rfl⟩
          have HNK := Lib.hid hnk
          rw [← hnk] at ST k4 h4
          have nkb : nk ≤ 100000000 := by omega
          clear f4 hnk
          go_wp2_with fail
          go_loopw [12] (fun t wq => ∃ j : Nat, j ≤ nk ∧ t = .int .i64 (j : Int) ∧ Hid (∀ m (h : m < ks.length), m < j → ks[m]'h ≠ Jp.str T1) ∧ Drewn7 wr wq) (fun t _ => nk - (intOf t).toNat)
          case atStart => exact ⟨0, Nat.zero_le _, rfl, fun _ _ h => absurd h (Nat.not_lt_zero _), ⟨0, rfl⟩⟩
          case round =>
            obtain ⟨m, hm, rfl, NE, ⟨nd, rfl⟩⟩ := hrel
            by_cases hmk : m < nk
            · have h1 : m < ks.length := by rw [← HNK.out]; exact hmk
              obtain ⟨b8, o8, e8, hb8, z0⟩ := fl_str F4.out h1
              have ne := NE.out
              by_cases hx : ks[m]'h1 = Jp.str T1
              · have any : (ks.any fun k => decide (k = Jp.str T1)) = true := List.any_eq_true.2 ⟨_, List.getElem_mem h1, by simpa using hx⟩
                rw [if_pos any] at rr
                have Z := Lib.hid rr
                rw [hx] at z0
                unfold Jp.str at z0
                have sx : ((⟨T1.toArray⟩ : ByteArray).toList == (⟨T1.toArray⟩ : ByteArray).toList) = true := by simp
                subst e8
                clear ne any rr hx an1 AT h1
                go_wp2_with fail
                go_quiet (fail)
                go_wp2_with fail
                try simp only [Exit.inBlock, Exit.then]
                refine post_j3 (x0 := .int .i64 0) (x1 := .int .i64 0) (x2 := .string ⟨#[]⟩) (x3 := (.slice none 0 0)) (x4 := (.slice none 0 0)) rfl rfl rfl (by go_simp) (by go_simp) (by go_simp) (by go_simp) (by go_simp) ?_
                exact pv_bad Z.out (by decide) rfl (by (repeat' (first | with_reducible assumption | with_reducible exact Below.refl _ _ | (with_reducible refine Below.alloc ?_ ?_ _; rotate_left; focus ((first | exact Nat.le_refl _ | (simp; done) | (simp; omega) | omega | fail))) | (with_reducible refine Below.setCell ?_ ?_ _; rotate_left; focus ((first | exact Nat.le_refl _ | (simp; done) | (simp; omega) | omega | fail))) | with_reducible refine Mem.bel_drewN ?_ _ | with_reducible refine Below.drew ?_ | (with_reducible refine Mem.bel_call (by with_reducible assumption) ?_ ?_; focus ((first | exact Nat.le_refl _ | (simp; done) | (simp; omega) | omega | fail))) | fail)))
              · have NE2 : Hid (∀ q (h : q < ks.length), q < m + 1 → ks[q]'h ≠ Jp.str T1) := fun q h hq => by
                  rcases Nat.lt_or_ge q m with g | g
                  · exact ne q h g
                  · obtain rfl : q = m := by omega
                    exact hx
                have sx : ((ks[m]'h1).toList == (⟨T1.toArray⟩ : ByteArray).toList) = false := by rw [str_beq]; simpa [Jp.str] using hx
                have sx2 : ((ks[m]'h1).toList == T1) = false := by have := sx; rwa [show (⟨T1.toArray⟩ : ByteArray).toList = T1 by rw [ByteArray.toList_eq]] at this
                generalize ks[m]'h1 = Y at *
                subst e8
                clear ne rr hx an1 AT h1
                go_wp2_with fail
                go_quiet (fail)
                go_wp2_with fail
                go_roundw
                case rel => exact ⟨m + 1, by omega, by go_num, NE2, ⟨_, rfl⟩⟩
                case measure => simp [intOf]; omega
            · obtain rfl : m = nk := by omega
              have any : ¬ (ks.any fun k => decide (k = Jp.str T1)) = true := fun h => by
                obtain ⟨y, hy, hd⟩ := List.any_eq_true.1 h
                obtain ⟨q, hq, e⟩ := List.getElem_of_mem hy
                exact NE.out q hq (by rw [HNK.out]; exact hq) (by rw [e]; simpa using hd)
              rw [if_neg any] at rr
              have RR := Lib.hid rr
              have ANX := Lib.hid (an1 trivial (by decide))
              clear any rr an1 NE hmk AT
              go_wp2_with fail
              have st4 := ST.out.drewN nd
              have k4' : (wr.drewN nd).cell? ⟨w.heap.size + 1, 4, none⟩ = some (.slice A4 m c4) := k4
              have x2' : (wr.drewN nd).cell? ⟨b, o + i1 * 5 + 2, none⟩ = some (.string ⟨T1.toArray⟩) := x2
              have sz' : (wr.drewN nd).heap.size = wr.heap.size := rfl
              generalize wr.drewN nd = w2 at *
              have o4n := st4.o4
              rw [← HNK.out] at o4n
              have ltg : w.heap.size + 1 < w2.heap.size := by omega
              have ltb : b < w2.heap.size := by omega
              have k5 := (World.cell?_alloc_lt w2 (.cells #[.string ⟨T1.toArray⟩] 9) ⟨w.heap.size + 1, 4, none⟩ ltg).trans k4'
              have x5 := (World.cell?_alloc_lt w2 (.cells #[.string ⟨T1.toArray⟩] 9) ⟨b, o + i1 * 5 + 2, none⟩ ltb).trans x2'
              go_region_law
                (first | (go_loud (refine step_appRg1 _ srecT (by rfl) (some 73) rfl (.tmp 66) (.tmp 72) rfl (w.heap.size + 2) _ m (ks.map Value.string) rfl o4n 1 _ (by simp [Act.eval]) (by rfl) (by simp [Value.oneCell']) (by omega) (by omega) ?_; intro v4' w3 o4' b3 g3 ob3; obtain ⟨A8, c8, rfl, h8, f8⟩ := ownR_fls o4'; have bk3 := B5.below st4.bk b3 (by omega); obtain ⟨u0, u1, u2, u3, u4, t0, t1, t2, t3, t4⟩ := bk3.facts; have xx := (Below.cell b3 (p := ⟨b, o + i1 * 5 + 2, none⟩) (by show b < w.heap.size + 2; omega)).trans x2')))
              all_goals (
                have ST4 := Lib.hid (St.key st4 (k := Jp.str T1) (w' := w3) (v4' := .slice A8 (m + 1) c8) (by rw [← HNK.out]; exact o4') g3 b3 (ob3.imp id fun e => ⟨_, e, by simp⟩))
                have rr := RR.out
                obtain ⟨w4, e4⟩ : ∃ w4, w4 = w3.setCell ⟨w.heap.size + 1, 4, none⟩ (.slice A8 (m + 1) c8) := ⟨_, rfl⟩
                obtain ⟨ks1, hks1⟩ : ∃ k, k = ks ++ [Jp.str T1] := ⟨_, rfl⟩
                rw [← e4, ← hks1] at ST4
                rw [← e4]
                rw [← hks1] at rr
                have hk1l : ks1.length = m + 1 := by rw [hks1, List.length_append, ← HNK.out]; rfl
                clear e4 hks1 o4' b3 g3 ob3 f8 bk3 u0 u1 u2 u3 u4 t0 t1 t2 t3 t4 xx k5 x5 o4n k4' x2' sz' st4 ltg ltb k0 k1 k2 k3 k4 r0 r1 r2 r3 r4 x0 x1 x2 x3 x4 hOwn hOwn1 hOwn2 RR ST
                have atk := ANX.out.1
                have hyp := ANX.out.2
                have hyl := atk.1
                have awk := atk.word
                have ank := fun g hk => atk.next g hk
                have tkk := fun g => tak_k atk.1 g
                have bw4 : Below w.heap.size w w4 := W0.trans (ST4.out.bl.mono (Nat.le_succ _))
                have gsz4 := ST4.out.lt
                have hiw3 : i1 + 1 < WL := by rw [HWL.out]; exact atk.lt
                obtain ⟨b9, o9, e9, hb9, x0, x1, x2, x3, x4⟩ := fl_word (FW.out.below bw4) atk.lt
                simp only [Option.some.injEq, Addr.mk.injEq, and_true] at e9
                obtain ⟨rfl, rfl⟩ := e9
                obtain ⟨k0, k1, k2, k3, k4, r0, r1, r2, r3, r4⟩ := ST4.out.bk.facts
                have hOwn := Nat.lt_of_lt_of_le (n := w.heap.size) (by first | exact Nat.le_refl _ | assumption | (simp; done) | (simp; omega) | omega) (Below.size ST4.out.bl)
                have hOwn1 := Nat.ne_of_gt hOwn
                have hOwn2 := Nat.ne_of_lt hOwn
                have hOwn := (Below.cell ST4.out.bl (p := ⟨w.heap.size, 0, none⟩) (by first | exact Nat.le_refl _ | assumption | (simp; done) | (simp; omega) | omega)).trans (by go_simp; rfl)
                have hOwn := (Below.cell ST4.out.bl (p := ⟨w.heap.size, 1, none⟩) (by first | exact Nat.le_refl _ | assumption | (simp; done) | (simp; omega) | omega)).trans (by go_simp; rfl)
                have hOwn := (Below.cell ST4.out.bl (p := ⟨w.heap.size, 2, none⟩) (by first | exact Nat.le_refl _ | assumption | (simp; done) | (simp; omega) | omega)).trans (by go_simp; rfl)
                have hOwn := (Below.cell ST4.out.bl (p := ⟨w.heap.size, 3, none⟩) (by first | exact Nat.le_refl _ | assumption | (simp; done) | (simp; omega) | omega)).trans (by go_simp; rfl)
                have hOwn := (Below.cell ST4.out.bl (p := ⟨w.heap.size, 4, none⟩) (by first | exact Nat.le_refl _ | assumption | (simp; done) | (simp; omega) | omega)).trans (by go_simp; rfl)
                have hOwn := (Below.frozen ST4.out.bl (p := ⟨w.heap.size, 0, none⟩) (by first | exact Nat.le_refl _ | assumption | (simp; done) | (simp; omega) | omega)).trans (by go_simp; rfl)
                have hOwn := (Below.frozen ST4.out.bl (p := ⟨w.heap.size, 1, none⟩) (by first | exact Nat.le_refl _ | assumption | (simp; done) | (simp; omega) | omega)).trans (by go_simp; rfl)
                have hOwn := (Below.frozen ST4.out.bl (p := ⟨w.heap.size, 2, none⟩) (by first | exact Nat.le_refl _ | assumption | (simp; done) | (simp; omega) | omega)).trans (by go_simp; rfl)
                have hOwn := (Below.frozen ST4.out.bl (p := ⟨w.heap.size, 3, none⟩) (by first | exact Nat.le_refl _ | assumption | (simp; done) | (simp; omega) | omega)).trans (by go_simp; rfl)
                have hOwn := (Below.frozen ST4.out.bl (p := ⟨w.heap.size, 4, none⟩) (by first | exact Nat.le_refl _ | assumption | (simp; done) | (simp; omega) | omega)).trans (by go_simp; rfl)
                obtain ⟨⟨⟨K2, n2, T2, a2, p2⟩, er2⟩, hr2⟩ : ∃ r, r = Jx.tak l y1 := ⟨_, rfl⟩
                rw [← hr2] at awk ank tkk rr
                simp only at rr
                unfold Jp.wd at awk
                by_cases he2 : er2 = 0
                · subst he2
                  rw [if_pos rfl] at awk
                  simp only at awk tkk ank
                  rw [awk] at x0 x1 x2 x3 x4
                  simp only at x0 x1 x2 x3 x4
                  rw [if_neg (by simp)] at rr
                  have hk2 := tkk trivial
                  clear hr2 awk tkk
                  by_cases hK2 : K2 = 5
                  · subst hK2
                    rw [if_neg (by simp)] at rr
                    have ATV := Lib.hid (ank trivial (by decide))
                    clear ank
                    have atv := ATV.out.1
                    have hvp := ATV.out.2
                    have hvl := atv.1
                    have hiw4 : i1 + 2 < WL := by rw [HWL.out]; exact atv.lt
                    have vc := HV.out g (by omega) ws l (i1 + 2) p2 d w4 (some ⟨b, o, none⟩) c (by omega) hll atv hd (by rw [← HWL.out]; exact hc) (by rw [← HWL.out]; exact hwl) ((FW.out.below bw4).more bw4.size)
                    rw [← HWL.out] at vc
                    rw [show ((i1 + 2 : Nat) : Int) = (i1 : Int) + 1 + 1 by omega] at vc
                    obtain ⟨⟨j, q, er⟩, hpv⟩ : ∃ r, r = Jp.pval g l p2 d := ⟨_, rfl⟩
                    rw [← hpv] at vc rr
                    simp only at rr
                    have VC := Lib.hid vc
                    clear vc hpv atv
                    go_wp2_with fail
                    with_reducible refine VC.out.mono ?_
                    rintro e w5 ⟨X3, y3, X4, y4, z, rfl, tr, nx, b5⟩
                    simp only at tr nx
                    have ST5 := ST4.out.below b5
                    obtain ⟨k0, k1, k2, k3, k4, r0, r1, r2, r3, r4⟩ := ST5.bk.facts
                    have hOwn := Nat.lt_of_lt_of_le (n := w.heap.size) (by first | exact Nat.le_refl _ | assumption | (simp; done) | (simp; omega) | omega) (Below.size ST5.bl)
                    have hOwn1 := Nat.ne_of_gt hOwn
                    have hOwn2 := Nat.ne_of_lt hOwn
                    have hOwn := (Below.cell ST5.bl (p := ⟨w.heap.size, 0, none⟩) (by first | exact Nat.le_refl _ | assumption | (simp; done) | (simp; omega) | omega)).trans (by go_simp; rfl)
                    have hOwn := (Below.cell ST5.bl (p := ⟨w.heap.size, 1, none⟩) (by first | exact Nat.le_refl _ | assumption | (simp; done) | (simp; omega) | omega)).trans (by go_simp; rfl)
                    have hOwn := (Below.cell ST5.bl (p := ⟨w.heap.size, 2, none⟩) (by first | exact Nat.le_refl _ | assumption | (simp; done) | (simp; omega) | omega)).trans (by go_simp; rfl)
                    have hOwn := (Below.cell ST5.bl (p := ⟨w.heap.size, 3, none⟩) (by first | exact Nat.le_refl _ | assumption | (simp; done) | (simp; omega) | omega)).trans (by go_simp; rfl)
                    have hOwn := (Below.cell ST5.bl (p := ⟨w.heap.size, 4, none⟩) (by first | exact Nat.le_refl _ | assumption | (simp; done) | (simp; omega) | omega)).trans (by go_simp; rfl)
                    have hOwn := (Below.frozen ST5.bl (p := ⟨w.heap.size, 0, none⟩) (by first | exact Nat.le_refl _ | assumption | (simp; done) | (simp; omega) | omega)).trans (by go_simp; rfl)
                    have hOwn := (Below.frozen ST5.bl (p := ⟨w.heap.size, 1, none⟩) (by first | exact Nat.le_refl _ | assumption | (simp; done) | (simp; omega) | omega)).trans (by go_simp; rfl)
                    have hOwn := (Below.frozen ST5.bl (p := ⟨w.heap.size, 2, none⟩) (by first | exact Nat.le_refl _ | assumption | (simp; done) | (simp; omega) | omega)).trans (by go_simp; rfl)
                    have hOwn := (Below.frozen ST5.bl (p := ⟨w.heap.size, 3, none⟩) (by first | exact Nat.le_refl _ | assumption | (simp; done) | (simp; omega) | omega)).trans (by go_simp; rfl)
                    have hOwn := (Below.frozen ST5.bl (p := ⟨w.heap.size, 4, none⟩) (by first | exact Nat.le_refl _ | assumption | (simp; done) | (simp; omega) | omega)).trans (by go_simp; rfl)
                    have l5 := ST5.lt
                    by_cases he : er = 0
                    · subst he
                      obtain ⟨i2, rfl, li, lp, at2⟩ := nx rfl
                      have hi2 : i2 < WL := by rw [HWL.out]; exact at2.lt
                      rw [if_neg (by simp)] at rr
                      have st6 := ST5.alloc (.cells #[.int .i64 j.k, .int .i64 j.n, .string j.t, .slice X3 j.its.length y3, .slice X4 j.ks.length y4] 27)
                      have tr6 : TreeS (w5.alloc (.cells #[.int .i64 j.k, .int .i64 j.n, .string j.t, .slice X3 j.its.length y3, .slice X4 j.ks.length y4] 27)) (Free w (w5.alloc (.cells #[.int .i64 j.k, .int .i64 j.n, .string j.t, .slice X3 j.its.length y3, .slice X4 j.ks.length y4] 27)) v3 (.slice A8 (m + 1) c8)) j [.int .i64 j.k, .int .i64 j.n, .string j.t, .slice X3 j.its.length y3, .slice X4 j.ks.length y4] :=
                        tr.keep (fun p hp => World.cell?_alloc_lt _ _ p hp.2) (fun b hb => ⟨by have := hb.1; omega, by have := hb.2; simp; omega, fun e => by have := own_lt ST4.out.o3 b e; have := hb.1; omega, fun e => by have := own_lt ST4.out.o4 b e; have := hb.1; omega⟩)
                      obtain ⟨m0, m1, m2, m3, m4, n0, n1, n2, n3, n4⟩ := st6.bk.facts
                      have lt5 : w.heap.size + 1 < w5.heap.size := by omega
                      have lt50 : w.heap.size < w5.heap.size := by omega
                      go_upto_region 23 with (at_builtin; go_loud (refine wpList_appRg1 _ jrecT rfl _ rfl (.tmp 106) (.tmp 108) rfl (w.heap.size + 2) _ js.length css.flatten rfl st6.o3 1 _ (by simp; rfl) rfl (by simp [Value.oneCell']) (by omega) (by simp; omega) ?_; intro v3' w6 o3' b6 g6 ob6; obtain ⟨A9, c9, rfl, h9, f9⟩ := ownR_fls o3'; have bk6 := B5.below st6.bk b6 (by omega); obtain ⟨u0, u1, u2, u3, u4, t0, t1, t2, t3, t4⟩ := bk6.facts))
                      have ST7 := St.item (h := st6) o3' g6 b6 (ob6.imp id fun e => ⟨_, e, by simp⟩) tr6
                      obtain ⟨w7, e7⟩ : ∃ w7, w7 = w6.setCell ⟨w.heap.size + 1, 3, none⟩ (.slice A9 (js.length + 1) c9) := ⟨_, rfl⟩
                      rw [← e7] at ST7 ⊢
                      clear e7 o3' b6 g6 ob6 f9 bk6 u0 u1 u2 u3 u4 t0 t1 t2 t3 t4 m0 m1 m2 m3 m4 n0 n1 n2 n3 n4 k0 k1 k2 k3 k4 r0 r1 r2 r3 r4 st6 tr6 tr nx b5 ST5 hOwn hOwn1 hOwn2 ST4
                      have l7 := ST7.lt
                      obtain ⟨k0, k1, k2, k3, k4, r0, r1, r2, r3, r4⟩ := ST7.bk.facts
                      have hOwn := Nat.lt_of_lt_of_le (n := w.heap.size) (by first | exact Nat.le_refl _ | assumption | (simp; done) | (simp; omega) | omega) (Below.size ST7.bl)
                      have hOwn1 := Nat.ne_of_gt hOwn
                      have hOwn2 := Nat.ne_of_lt hOwn
                      have hOwn := (Below.cell ST7.bl (p := ⟨w.heap.size, 0, none⟩) (by first | exact Nat.le_refl _ | assumption | (simp; done) | (simp; omega) | omega)).trans (by go_simp; rfl)
                      have hOwn := (Below.cell ST7.bl (p := ⟨w.heap.size, 1, none⟩) (by first | exact Nat.le_refl _ | assumption | (simp; done) | (simp; omega) | omega)).trans (by go_simp; rfl)
                      have hOwn := (Below.cell ST7.bl (p := ⟨w.heap.size, 2, none⟩) (by first | exact Nat.le_refl _ | assumption | (simp; done) | (simp; omega) | omega)).trans (by go_simp; rfl)
                      have hOwn := (Below.cell ST7.bl (p := ⟨w.heap.size, 3, none⟩) (by first | exact Nat.le_refl _ | assumption | (simp; done) | (simp; omega) | omega)).trans (by go_simp; rfl)
                      have hOwn := (Below.cell ST7.bl (p := ⟨w.heap.size, 4, none⟩) (by first | exact Nat.le_refl _ | assumption | (simp; done) | (simp; omega) | omega)).trans (by go_simp; rfl)
                      have hOwn := (Below.frozen ST7.bl (p := ⟨w.heap.size, 0, none⟩) (by first | exact Nat.le_refl _ | assumption | (simp; done) | (simp; omega) | omega)).trans (by go_simp; rfl)
                      have hOwn := (Below.frozen ST7.bl (p := ⟨w.heap.size, 1, none⟩) (by first | exact Nat.le_refl _ | assumption | (simp; done) | (simp; omega) | omega)).trans (by go_simp; rfl)
                      have hOwn := (Below.frozen ST7.bl (p := ⟨w.heap.size, 2, none⟩) (by first | exact Nat.le_refl _ | assumption | (simp; done) | (simp; omega) | omega)).trans (by go_simp; rfl)
                      have hOwn := (Below.frozen ST7.bl (p := ⟨w.heap.size, 3, none⟩) (by first | exact Nat.le_refl _ | assumption | (simp; done) | (simp; omega) | omega)).trans (by go_simp; rfl)
                      have hOwn := (Below.frozen ST7.bl (p := ⟨w.heap.size, 4, none⟩) (by first | exact Nat.le_refl _ | assumption | (simp; done) | (simp; omega) | omega)).trans (by go_simp; rfl)
                      have bw7 : Below w.heap.size w w7 := W0.trans (ST7.bl.mono (Nat.le_succ _))
                      have f7 := FW.out.below bw7
                      have aw2 := at2.word
                      have an2 := fun g hk => at2.next g hk
                      have tk2 := fun g => tak_k at2.1 g
                      obtain ⟨b9, o9, e9, hb9, x0, x1, x2, x3, x4⟩ := fl_word f7 at2.lt
                      simp only [Option.some.injEq, Addr.mk.injEq, and_true] at e9
                      obtain ⟨rfl, rfl⟩ := e9
                      obtain ⟨⟨⟨K, n, T, a, x⟩, er⟩, hr⟩ : ∃ r, r = Jx.tak l q := ⟨_, rfl⟩
                      rw [← hr] at aw2 an2 tk2 rr
                      simp only at rr
                      unfold Jp.wd at aw2
                      have hnb : w.heap.size + 1 ≠ b := by omega
                      by_cases he2 : er = 0
                      · subst he2
                        rw [if_pos rfl] at aw2
                        simp only at aw2 tk2 an2
                        rw [aw2] at x0 x1 x2 x3 x4
                        simp only at x0 x1 x2 x3 x4
                        rw [if_neg (by simp)] at rr
                        have hk1 := tk2 trivial
                        clear hr aw2 tk2
                        by_cases hKe : K = 2
                        · subst hKe
                          rw [if_pos rfl] at rr
                          have AN := Lib.hid (an2 trivial (by decide))
                          obtain ⟨B3, d3, B4, d4, v3e, v4e, tr7⟩ := ST7.tree (by simp; omega) (by omega)
                          have Z := Lib.hid rr
                          have e4 : d4 = c8 ∧ B4 = A8 := by injection v4e with e1 e2 e3; exact ⟨e3.symm, e1.symm⟩
                          obtain ⟨rfl, rfl⟩ := e4
                          clear v4e
                          have e3 : d3 = c9 ∧ B3 = A9 := by injection v3e with e1 e2 e3; exact ⟨e3.symm, e1.symm⟩
                          obtain ⟨rfl, rfl⟩ := e3
                          clear rr an2 v3e at2
                          go_wp2_with fail
                          try simp only [Exit.inBlock, Exit.then]
                          refine post_j3 (x0 := .int .i64 6) (x1 := .int .i64 0) (x2 := .string ⟨#[]⟩) (x3 := (.slice B3 (js.length + 1) d3)) (x4 := (.slice B4 (m + 1) d4)) rfl rfl rfl (by go_simp) (by go_simp) (by go_simp) (by go_simp) (by go_simp) ?_
                          refine pv_tree (by simp) hk1l Z.out tr7 ?_ (by simp) (by push_cast; omega) AN.out.1 (by omega) (by have := AN.out.2; omega) (by (repeat' (first | with_reducible assumption | with_reducible exact Below.refl _ _ | (with_reducible refine Below.alloc ?_ ?_ _; rotate_left; focus ((first | exact Nat.le_refl _ | (simp; done) | (simp; omega) | omega | fail))) | (with_reducible refine Below.setCell ?_ ?_ _; rotate_left; focus ((first | exact Nat.le_refl _ | (simp; done) | (simp; omega) | omega | fail))) | with_reducible refine Mem.bel_drewN ?_ _ | with_reducible refine Below.drew ?_ | (with_reducible refine Mem.bel_call (by with_reducible assumption) ?_ ?_; focus ((first | exact Nat.le_refl _ | (simp; done) | (simp; omega) | omega | fail))) | fail)))
                          repeat (refine KeepS.set ?_ (fun b hb => by have := hb.1; omega) _ _)
                          exact KeepS.refl _ _
                        · rw [if_neg hKe] at rr
                          have qe : ((K : Int) == 2) = false := by rw [beq_eq_false_iff_ne]; omega
                          by_cases hK6 : K = 6
                          · subst hK6
                            rw [if_neg (by decide)] at rr
                            have at3 := an2 trivial (by decide)
                            have AT3 := Lib.hid (And.intro at3.1 rr)
                            have lt3 := at3.2
                            have lx := at3.1.1
                            have hq := at2.1
                            have ST8 := Lib.hid ST7
                            clear rr an2 at3 hKe
                            go_wp2_with fail
                            go_roundw
                            case rel => exact ⟨i2 + 1, x, g, ks1, js ++ [j], css ++ [_], _, _, by go_num, by omega, by omega, AT3, by omega, by omega, by simp; omega, by have := HNK.out; omega, ST8⟩
                            case measure => simp [intOf]; omega
                          · rw [if_pos hK6] at rr
                            have Z := Lib.hid rr
                            have q6 : ((K : Int) != 6) = true := by rw [bne_iff_ne]; omega
                            have WR := Lib.hid (wrong_any (K : Int) n (a : Int) (x : Int) ⟨T.toArray⟩)
                            rw [if_neg (by omega)] at WR
                            clear rr an2 hKe hK6
                            go_wp2_with fail
                            with_reducible refine (WR.out _).mono ?_
                            rintro e w9 ⟨rfl, b9⟩
                            have bl9 := ST7.bl.trans (b9.mono (by omega))
                            have hOwn := Nat.lt_of_lt_of_le (n := w.heap.size) (by first | exact Nat.le_refl _ | assumption | (simp; done) | (simp; omega) | omega) (Below.size bl9)
                            have hOwn1 := Nat.ne_of_gt hOwn
                            have hOwn2 := Nat.ne_of_lt hOwn
                            have hOwn := (Below.cell bl9 (p := ⟨w.heap.size, 0, none⟩) (by first | exact Nat.le_refl _ | assumption | (simp; done) | (simp; omega) | omega)).trans (by go_simp; rfl)
                            have hOwn := (Below.cell bl9 (p := ⟨w.heap.size, 1, none⟩) (by first | exact Nat.le_refl _ | assumption | (simp; done) | (simp; omega) | omega)).trans (by go_simp; rfl)
                            have hOwn := (Below.cell bl9 (p := ⟨w.heap.size, 2, none⟩) (by first | exact Nat.le_refl _ | assumption | (simp; done) | (simp; omega) | omega)).trans (by go_simp; rfl)
                            have hOwn := (Below.cell bl9 (p := ⟨w.heap.size, 3, none⟩) (by first | exact Nat.le_refl _ | assumption | (simp; done) | (simp; omega) | omega)).trans (by go_simp; rfl)
                            have hOwn := (Below.cell bl9 (p := ⟨w.heap.size, 4, none⟩) (by first | exact Nat.le_refl _ | assumption | (simp; done) | (simp; omega) | omega)).trans (by go_simp; rfl)
                            have hOwn := (Below.frozen bl9 (p := ⟨w.heap.size, 0, none⟩) (by first | exact Nat.le_refl _ | assumption | (simp; done) | (simp; omega) | omega)).trans (by go_simp; rfl)
                            have hOwn := (Below.frozen bl9 (p := ⟨w.heap.size, 1, none⟩) (by first | exact Nat.le_refl _ | assumption | (simp; done) | (simp; omega) | omega)).trans (by go_simp; rfl)
                            have hOwn := (Below.frozen bl9 (p := ⟨w.heap.size, 2, none⟩) (by first | exact Nat.le_refl _ | assumption | (simp; done) | (simp; omega) | omega)).trans (by go_simp; rfl)
                            have hOwn := (Below.frozen bl9 (p := ⟨w.heap.size, 3, none⟩) (by first | exact Nat.le_refl _ | assumption | (simp; done) | (simp; omega) | omega)).trans (by go_simp; rfl)
                            have hOwn := (Below.frozen bl9 (p := ⟨w.heap.size, 4, none⟩) (by first | exact Nat.le_refl _ | assumption | (simp; done) | (simp; omega) | omega)).trans (by go_simp; rfl)
                            go_wp2_with fail
                            try simp only [Exit.inBlock, Exit.then]
                            refine post_j3 (x0 := .int .i64 0) (x1 := .int .i64 0) (x2 := .string ⟨#[]⟩) (x3 := (.slice none 0 0)) (x4 := (.slice none 0 0)) rfl rfl rfl (by go_simp) (by go_simp) (by go_simp) (by go_simp) (by go_simp) ?_
                            exact pv_bad Z.out (by decide) rfl (by (repeat' (first | with_reducible assumption | with_reducible exact Below.refl _ _ | (with_reducible refine Below.alloc ?_ ?_ _; rotate_left; focus ((first | exact Nat.le_refl _ | (simp; done) | (simp; omega) | omega | fail))) | (with_reducible refine Below.setCell ?_ ?_ _; rotate_left; focus ((first | exact Nat.le_refl _ | (simp; done) | (simp; omega) | omega | fail))) | with_reducible refine Mem.bel_drewN ?_ _ | with_reducible refine Below.drew ?_ | (with_reducible refine Mem.bel_call (by with_reducible assumption) ?_ ?_; focus ((first | exact Nat.le_refl _ | (simp; done) | (simp; omega) | omega | fail))) | fail)))
                      · rw [if_neg he2] at aw2
                        rw [aw2] at x0 x1 x2 x3 x4
                        simp only at x0 x1 x2 x3 x4
                        rw [if_pos he2] at rr
                        have Z := Lib.hid rr
                        have HE2 := Lib.hid he2
                        have WR := Lib.hid (wrong_any 0 (er : Int) 0 0 ⟨#[]⟩)
                        rw [if_pos rfl] at WR
                        clear rr an2 tk2 hr aw2 he2
                        go_wp2_with fail
                        with_reducible refine (WR.out _).mono ?_
                        rintro e w9 ⟨rfl, b9⟩
                        have bl9 := ST7.bl.trans (b9.mono (by omega))
                        have hOwn := Nat.lt_of_lt_of_le (n := w.heap.size) (by first | exact Nat.le_refl _ | assumption | (simp; done) | (simp; omega) | omega) (Below.size bl9)
                        have hOwn1 := Nat.ne_of_gt hOwn
                        have hOwn2 := Nat.ne_of_lt hOwn
                        have hOwn := (Below.cell bl9 (p := ⟨w.heap.size, 0, none⟩) (by first | exact Nat.le_refl _ | assumption | (simp; done) | (simp; omega) | omega)).trans (by go_simp; rfl)
                        have hOwn := (Below.cell bl9 (p := ⟨w.heap.size, 1, none⟩) (by first | exact Nat.le_refl _ | assumption | (simp; done) | (simp; omega) | omega)).trans (by go_simp; rfl)
                        have hOwn := (Below.cell bl9 (p := ⟨w.heap.size, 2, none⟩) (by first | exact Nat.le_refl _ | assumption | (simp; done) | (simp; omega) | omega)).trans (by go_simp; rfl)
                        have hOwn := (Below.cell bl9 (p := ⟨w.heap.size, 3, none⟩) (by first | exact Nat.le_refl _ | assumption | (simp; done) | (simp; omega) | omega)).trans (by go_simp; rfl)
                        have hOwn := (Below.cell bl9 (p := ⟨w.heap.size, 4, none⟩) (by first | exact Nat.le_refl _ | assumption | (simp; done) | (simp; omega) | omega)).trans (by go_simp; rfl)
                        have hOwn := (Below.frozen bl9 (p := ⟨w.heap.size, 0, none⟩) (by first | exact Nat.le_refl _ | assumption | (simp; done) | (simp; omega) | omega)).trans (by go_simp; rfl)
                        have hOwn := (Below.frozen bl9 (p := ⟨w.heap.size, 1, none⟩) (by first | exact Nat.le_refl _ | assumption | (simp; done) | (simp; omega) | omega)).trans (by go_simp; rfl)
                        have hOwn := (Below.frozen bl9 (p := ⟨w.heap.size, 2, none⟩) (by first | exact Nat.le_refl _ | assumption | (simp; done) | (simp; omega) | omega)).trans (by go_simp; rfl)
                        have hOwn := (Below.frozen bl9 (p := ⟨w.heap.size, 3, none⟩) (by first | exact Nat.le_refl _ | assumption | (simp; done) | (simp; omega) | omega)).trans (by go_simp; rfl)
                        have hOwn := (Below.frozen bl9 (p := ⟨w.heap.size, 4, none⟩) (by first | exact Nat.le_refl _ | assumption | (simp; done) | (simp; omega) | omega)).trans (by go_simp; rfl)
                        go_wp2_with fail
                        try simp only [Exit.inBlock, Exit.then]
                        refine post_j3 (x0 := .int .i64 0) (x1 := .int .i64 0) (x2 := .string ⟨#[]⟩) (x3 := (.slice none 0 0)) (x4 := (.slice none 0 0)) rfl rfl rfl (by go_simp) (by go_simp) (by go_simp) (by go_simp) (by go_simp) ?_
                        exact pv_bad Z.out HE2.out rfl (by (repeat' (first | with_reducible assumption | with_reducible exact Below.refl _ _ | (with_reducible refine Below.alloc ?_ ?_ _; rotate_left; focus ((first | exact Nat.le_refl _ | (simp; done) | (simp; omega) | omega | fail))) | (with_reducible refine Below.setCell ?_ ?_ _; rotate_left; focus ((first | exact Nat.le_refl _ | (simp; done) | (simp; omega) | omega | fail))) | with_reducible refine Mem.bel_drewN ?_ _ | with_reducible refine Below.drew ?_ | (with_reducible refine Mem.bel_call (by with_reducible assumption) ?_ ?_; focus ((first | exact Nat.le_refl _ | (simp; done) | (simp; omega) | omega | fail))) | fail)))
                    · rw [if_pos he] at rr
                      have Z := Lib.hid rr
                      have HE := Lib.hid he
                      have qe : ((er : Int) != 0) = true := by rw [bne_iff_ne]; omega
                      have bl5 := ST5.bl
                      clear rr nx tr he
                      go_wp2_with fail
                      try simp only [Exit.inBlock, Exit.then]
                      refine post_j3 (x0 := .int .i64 0) (x1 := .int .i64 0) (x2 := .string ⟨#[]⟩) (x3 := (.slice none 0 0)) (x4 := (.slice none 0 0)) rfl rfl rfl (by go_simp) (by go_simp) (by go_simp) (by go_simp) (by go_simp) ?_
                      exact pv_bad Z.out HE.out rfl (by (repeat' (first | with_reducible assumption | with_reducible exact Below.refl _ _ | (with_reducible refine Below.alloc ?_ ?_ _; rotate_left; focus ((first | exact Nat.le_refl _ | (simp; done) | (simp; omega) | omega | fail))) | (with_reducible refine Below.setCell ?_ ?_ _; rotate_left; focus ((first | exact Nat.le_refl _ | (simp; done) | (simp; omega) | omega | fail))) | with_reducible refine Mem.bel_drewN ?_ _ | with_reducible refine Below.drew ?_ | (with_reducible refine Mem.bel_call (by with_reducible assumption) ?_ ?_; focus ((first | exact Nat.le_refl _ | (simp; done) | (simp; omega) | omega | fail))) | fail)))
                  · rw [if_pos hK2] at rr
                    have Z := Lib.hid rr
                    have qk : ((K2 : Int) != 5) = true := by rw [bne_iff_ne]; omega
                    have WR := Lib.hid (wrong_any (K2 : Int) n2 (a2 : Int) (p2 : Int) ⟨T2.toArray⟩)
                    rw [if_neg (by omega)] at WR
                    clear rr ank hK2
                    go_wp2_with fail
                    with_reducible refine (WR.out _).mono ?_
                    rintro e w9 ⟨rfl, b9⟩
                    have bl9 := ST4.out.bl.trans (b9.mono (by omega))
                    have hOwn := Nat.lt_of_lt_of_le (n := w.heap.size) (by first | exact Nat.le_refl _ | assumption | (simp; done) | (simp; omega) | omega) (Below.size bl9)
                    have hOwn1 := Nat.ne_of_gt hOwn
                    have hOwn2 := Nat.ne_of_lt hOwn
                    have hOwn := (Below.cell bl9 (p := ⟨w.heap.size, 0, none⟩) (by first | exact Nat.le_refl _ | assumption | (simp; done) | (simp; omega) | omega)).trans (by go_simp; rfl)
                    have hOwn := (Below.cell bl9 (p := ⟨w.heap.size, 1, none⟩) (by first | exact Nat.le_refl _ | assumption | (simp; done) | (simp; omega) | omega)).trans (by go_simp; rfl)
                    have hOwn := (Below.cell bl9 (p := ⟨w.heap.size, 2, none⟩) (by first | exact Nat.le_refl _ | assumption | (simp; done) | (simp; omega) | omega)).trans (by go_simp; rfl)
                    have hOwn := (Below.cell bl9 (p := ⟨w.heap.size, 3, none⟩) (by first | exact Nat.le_refl _ | assumption | (simp; done) | (simp; omega) | omega)).trans (by go_simp; rfl)
                    have hOwn := (Below.cell bl9 (p := ⟨w.heap.size, 4, none⟩) (by first | exact Nat.le_refl _ | assumption | (simp; done) | (simp; omega) | omega)).trans (by go_simp; rfl)
                    have hOwn := (Below.frozen bl9 (p := ⟨w.heap.size, 0, none⟩) (by first | exact Nat.le_refl _ | assumption | (simp; done) | (simp; omega) | omega)).trans (by go_simp; rfl)
                    have hOwn := (Below.frozen bl9 (p := ⟨w.heap.size, 1, none⟩) (by first | exact Nat.le_refl _ | assumption | (simp; done) | (simp; omega) | omega)).trans (by go_simp; rfl)
                    have hOwn := (Below.frozen bl9 (p := ⟨w.heap.size, 2, none⟩) (by first | exact Nat.le_refl _ | assumption | (simp; done) | (simp; omega) | omega)).trans (by go_simp; rfl)
                    have hOwn := (Below.frozen bl9 (p := ⟨w.heap.size, 3, none⟩) (by first | exact Nat.le_refl _ | assumption | (simp; done) | (simp; omega) | omega)).trans (by go_simp; rfl)
                    have hOwn := (Below.frozen bl9 (p := ⟨w.heap.size, 4, none⟩) (by first | exact Nat.le_refl _ | assumption | (simp; done) | (simp; omega) | omega)).trans (by go_simp; rfl)
                    go_wp2_with fail
                    try simp only [Exit.inBlock, Exit.then]
                    refine post_j3 (x0 := .int .i64 0) (x1 := .int .i64 0) (x2 := .string ⟨#[]⟩) (x3 := (.slice none 0 0)) (x4 := (.slice none 0 0)) rfl rfl rfl (by go_simp) (by go_simp) (by go_simp) (by go_simp) (by go_simp) ?_
                    exact pv_bad Z.out (by decide) rfl (by (repeat' (first | with_reducible assumption | with_reducible exact Below.refl _ _ | (with_reducible refine Below.alloc ?_ ?_ _; rotate_left; focus ((first | exact Nat.le_refl _ | (simp; done) | (simp; omega) | omega | fail))) | (with_reducible refine Below.setCell ?_ ?_ _; rotate_left; focus ((first | exact Nat.le_refl _ | (simp; done) | (simp; omega) | omega | fail))) | with_reducible refine Mem.bel_drewN ?_ _ | with_reducible refine Below.drew ?_ | (with_reducible refine Mem.bel_call (by with_reducible assumption) ?_ ?_; focus ((first | exact Nat.le_refl _ | (simp; done) | (simp; omega) | omega | fail))) | fail)))
                · rw [if_neg he2] at awk
                  rw [awk] at x0 x1 x2 x3 x4
                  simp only at x0 x1 x2 x3 x4
                  rw [if_pos he2] at rr
                  have Z := Lib.hid rr
                  have HEW := Lib.hid he2
                  have WR := Lib.hid (wrong_any 0 (er2 : Int) 0 0 ⟨#[]⟩)
                  rw [if_pos rfl] at WR
                  clear rr ank tkk hr2 awk he2
                  go_wp2_with fail
                  with_reducible refine (WR.out _).mono ?_
                  rintro e w9 ⟨rfl, b9⟩
                  have bl9 := ST4.out.bl.trans (b9.mono (by omega))
                  have hOwn := Nat.lt_of_lt_of_le (n := w.heap.size) (by first | exact Nat.le_refl _ | assumption | (simp; done) | (simp; omega) | omega) (Below.size bl9)
                  have hOwn1 := Nat.ne_of_gt hOwn
                  have hOwn2 := Nat.ne_of_lt hOwn
                  have hOwn := (Below.cell bl9 (p := ⟨w.heap.size, 0, none⟩) (by first | exact Nat.le_refl _ | assumption | (simp; done) | (simp; omega) | omega)).trans (by go_simp; rfl)
                  have hOwn := (Below.cell bl9 (p := ⟨w.heap.size, 1, none⟩) (by first | exact Nat.le_refl _ | assumption | (simp; done) | (simp; omega) | omega)).trans (by go_simp; rfl)
                  have hOwn := (Below.cell bl9 (p := ⟨w.heap.size, 2, none⟩) (by first | exact Nat.le_refl _ | assumption | (simp; done) | (simp; omega) | omega)).trans (by go_simp; rfl)
                  have hOwn := (Below.cell bl9 (p := ⟨w.heap.size, 3, none⟩) (by first | exact Nat.le_refl _ | assumption | (simp; done) | (simp; omega) | omega)).trans (by go_simp; rfl)
                  have hOwn := (Below.cell bl9 (p := ⟨w.heap.size, 4, none⟩) (by first | exact Nat.le_refl _ | assumption | (simp; done) | (simp; omega) | omega)).trans (by go_simp; rfl)
                  have hOwn := (Below.frozen bl9 (p := ⟨w.heap.size, 0, none⟩) (by first | exact Nat.le_refl _ | assumption | (simp; done) | (simp; omega) | omega)).trans (by go_simp; rfl)
                  have hOwn := (Below.frozen bl9 (p := ⟨w.heap.size, 1, none⟩) (by first | exact Nat.le_refl _ | assumption | (simp; done) | (simp; omega) | omega)).trans (by go_simp; rfl)
                  have hOwn := (Below.frozen bl9 (p := ⟨w.heap.size, 2, none⟩) (by first | exact Nat.le_refl _ | assumption | (simp; done) | (simp; omega) | omega)).trans (by go_simp; rfl)
                  have hOwn := (Below.frozen bl9 (p := ⟨w.heap.size, 3, none⟩) (by first | exact Nat.le_refl _ | assumption | (simp; done) | (simp; omega) | omega)).trans (by go_simp; rfl)
                  have hOwn := (Below.frozen bl9 (p := ⟨w.heap.size, 4, none⟩) (by first | exact Nat.le_refl _ | assumption | (simp; done) | (simp; omega) | omega)).trans (by go_simp; rfl)
                  go_wp2_with fail
                  try simp only [Exit.inBlock, Exit.then]
                  refine post_j3 (x0 := .int .i64 0) (x1 := .int .i64 0) (x2 := .string ⟨#[]⟩) (x3 := (.slice none 0 0)) (x4 := (.slice none 0 0)) rfl rfl rfl (by go_simp) (by go_simp) (by go_simp) (by go_simp) (by go_simp) ?_
                  exact pv_bad Z.out HEW.out rfl (by (repeat' (first | with_reducible assumption | with_reducible exact Below.refl _ _ | (with_reducible refine Below.alloc ?_ ?_ _; rotate_left; focus ((first | exact Nat.le_refl _ | (simp; done) | (simp; omega) | omega | fail))) | (with_reducible refine Below.setCell ?_ ?_ _; rotate_left; focus ((first | exact Nat.le_refl _ | (simp; done) | (simp; omega) | omega | fail))) | with_reducible refine Mem.bel_drewN ?_ _ | with_reducible refine Below.drew ?_ | (with_reducible refine Mem.bel_call (by with_reducible assumption) ?_ ?_; focus ((first | exact Nat.le_refl _ | (simp; done) | (simp; omega) | omega | fail))) | fail)))
                )
        · rw [if_pos hK1] at rr
          have Z := Lib.hid rr
          have qk : ((K1 : Int) != 10) = true := by rw [bne_iff_ne]; omega
          have WR := Lib.hid (wrong_any (K1 : Int) n1 (a1 : Int) (y1 : Int) ⟨T1.toArray⟩)
          rw [if_neg (by omega)] at WR
          clear rr an1 AT hK1
          go_wp2_with fail
          with_reducible refine (WR.out _).mono ?_
          rintro e w9 ⟨rfl, b9⟩
          have bl9 := ST.out.bl.trans (b9.mono (by omega))
          have hOwn := Nat.lt_of_lt_of_le (n := w.heap.size) (by first | exact Nat.le_refl _ | assumption | (simp; done) | (simp; omega) | omega) (Below.size bl9)
          have hOwn1 := Nat.ne_of_gt hOwn
          have hOwn2 := Nat.ne_of_lt hOwn
          have hOwn := (Below.cell bl9 (p := ⟨w.heap.size, 0, none⟩) (by first | exact Nat.le_refl _ | assumption | (simp; done) | (simp; omega) | omega)).trans (by go_simp; rfl)
          have hOwn := (Below.cell bl9 (p := ⟨w.heap.size, 1, none⟩) (by first | exact Nat.le_refl _ | assumption | (simp; done) | (simp; omega) | omega)).trans (by go_simp; rfl)
          have hOwn := (Below.cell bl9 (p := ⟨w.heap.size, 2, none⟩) (by first | exact Nat.le_refl _ | assumption | (simp; done) | (simp; omega) | omega)).trans (by go_simp; rfl)
          have hOwn := (Below.cell bl9 (p := ⟨w.heap.size, 3, none⟩) (by first | exact Nat.le_refl _ | assumption | (simp; done) | (simp; omega) | omega)).trans (by go_simp; rfl)
          have hOwn := (Below.cell bl9 (p := ⟨w.heap.size, 4, none⟩) (by first | exact Nat.le_refl _ | assumption | (simp; done) | (simp; omega) | omega)).trans (by go_simp; rfl)
          have hOwn := (Below.frozen bl9 (p := ⟨w.heap.size, 0, none⟩) (by first | exact Nat.le_refl _ | assumption | (simp; done) | (simp; omega) | omega)).trans (by go_simp; rfl)
          have hOwn := (Below.frozen bl9 (p := ⟨w.heap.size, 1, none⟩) (by first | exact Nat.le_refl _ | assumption | (simp; done) | (simp; omega) | omega)).trans (by go_simp; rfl)
          have hOwn := (Below.frozen bl9 (p := ⟨w.heap.size, 2, none⟩) (by first | exact Nat.le_refl _ | assumption | (simp; done) | (simp; omega) | omega)).trans (by go_simp; rfl)
          have hOwn := (Below.frozen bl9 (p := ⟨w.heap.size, 3, none⟩) (by first | exact Nat.le_refl _ | assumption | (simp; done) | (simp; omega) | omega)).trans (by go_simp; rfl)
          have hOwn := (Below.frozen bl9 (p := ⟨w.heap.size, 4, none⟩) (by first | exact Nat.le_refl _ | assumption | (simp; done) | (simp; omega) | omega)).trans (by go_simp; rfl)
          go_wp2_with fail
          try simp only [Exit.inBlock, Exit.then]
          refine post_j3 (x0 := .int .i64 0) (x1 := .int .i64 0) (x2 := .string ⟨#[]⟩) (x3 := (.slice none 0 0)) (x4 := (.slice none 0 0)) rfl rfl rfl (by go_simp) (by go_simp) (by go_simp) (by go_simp) (by go_simp) ?_
          exact pv_bad Z.out (by decide) rfl (by (repeat' (first | with_reducible assumption | with_reducible exact Below.refl _ _ | (with_reducible refine Below.alloc ?_ ?_ _; rotate_left; focus ((first | exact Nat.le_refl _ | (simp; done) | (simp; omega) | omega | fail))) | (with_reducible refine Below.setCell ?_ ?_ _; rotate_left; focus ((first | exact Nat.le_refl _ | (simp; done) | (simp; omega) | omega | fail))) | with_reducible refine Mem.bel_drewN ?_ _ | with_reducible refine Below.drew ?_ | (with_reducible refine Mem.bel_call (by with_reducible assumption) ?_ ?_; focus ((first | exact Nat.le_refl _ | (simp; done) | (simp; omega) | omega | fail))) | fail)))
      · rw [if_neg he1] at aw1
        rw [aw1] at x0 x1 x2 x3 x4
        simp only at x0 x1 x2 x3 x4
        rw [if_pos he1] at rr
        have Z := Lib.hid rr
        have HEW := Lib.hid he1
        have WR := Lib.hid (wrong_any 0 (er1 : Int) 0 0 ⟨#[]⟩)
        rw [if_pos rfl] at WR
        clear rr an1 tk1 AT hr1 aw1 he1
        go_wp2_with fail
        with_reducible refine (WR.out _).mono ?_
        rintro e w9 ⟨rfl, b9⟩
        have bl9 := ST.out.bl.trans (b9.mono (by omega))
        have hOwn := Nat.lt_of_lt_of_le (n := w.heap.size) (by first | exact Nat.le_refl _ | assumption | (simp; done) | (simp; omega) | omega) (Below.size bl9)
        have hOwn1 := Nat.ne_of_gt hOwn
        have hOwn2 := Nat.ne_of_lt hOwn
        have hOwn := (Below.cell bl9 (p := ⟨w.heap.size, 0, none⟩) (by first | exact Nat.le_refl _ | assumption | (simp; done) | (simp; omega) | omega)).trans (by go_simp; rfl)
        have hOwn := (Below.cell bl9 (p := ⟨w.heap.size, 1, none⟩) (by first | exact Nat.le_refl _ | assumption | (simp; done) | (simp; omega) | omega)).trans (by go_simp; rfl)
        have hOwn := (Below.cell bl9 (p := ⟨w.heap.size, 2, none⟩) (by first | exact Nat.le_refl _ | assumption | (simp; done) | (simp; omega) | omega)).trans (by go_simp; rfl)
        have hOwn := (Below.cell bl9 (p := ⟨w.heap.size, 3, none⟩) (by first | exact Nat.le_refl _ | assumption | (simp; done) | (simp; omega) | omega)).trans (by go_simp; rfl)
        have hOwn := (Below.cell bl9 (p := ⟨w.heap.size, 4, none⟩) (by first | exact Nat.le_refl _ | assumption | (simp; done) | (simp; omega) | omega)).trans (by go_simp; rfl)
        have hOwn := (Below.frozen bl9 (p := ⟨w.heap.size, 0, none⟩) (by first | exact Nat.le_refl _ | assumption | (simp; done) | (simp; omega) | omega)).trans (by go_simp; rfl)
        have hOwn := (Below.frozen bl9 (p := ⟨w.heap.size, 1, none⟩) (by first | exact Nat.le_refl _ | assumption | (simp; done) | (simp; omega) | omega)).trans (by go_simp; rfl)
        have hOwn := (Below.frozen bl9 (p := ⟨w.heap.size, 2, none⟩) (by first | exact Nat.le_refl _ | assumption | (simp; done) | (simp; omega) | omega)).trans (by go_simp; rfl)
        have hOwn := (Below.frozen bl9 (p := ⟨w.heap.size, 3, none⟩) (by first | exact Nat.le_refl _ | assumption | (simp; done) | (simp; omega) | omega)).trans (by go_simp; rfl)
        have hOwn := (Below.frozen bl9 (p := ⟨w.heap.size, 4, none⟩) (by first | exact Nat.le_refl _ | assumption | (simp; done) | (simp; omega) | omega)).trans (by go_simp; rfl)
        go_wp2_with fail
        try simp only [Exit.inBlock, Exit.then]
        refine post_j3 (x0 := .int .i64 0) (x1 := .int .i64 0) (x2 := .string ⟨#[]⟩) (x3 := (.slice none 0 0)) (x4 := (.slice none 0 0)) rfl rfl rfl (by go_simp) (by go_simp) (by go_simp) (by go_simp) (by go_simp) ?_
        exact pv_bad Z.out HEW.out rfl (by (repeat' (first | with_reducible assumption | with_reducible exact Below.refl _ _ | (with_reducible refine Below.alloc ?_ ?_ _; rotate_left; focus ((first | exact Nat.le_refl _ | (simp; done) | (simp; omega) | omega | fail))) | (with_reducible refine Below.setCell ?_ ?_ _; rotate_left; focus ((first | exact Nat.le_refl _ | (simp; done) | (simp; omega) | omega | fail))) | with_reducible refine Mem.bel_drewN ?_ _ | with_reducible refine Below.drew ?_ | (with_reducible refine Mem.bel_call (by with_reducible assumption) ?_ ?_; focus ((first | exact Nat.le_refl _ | (simp; done) | (simp; omega) | omega | fail))) | fail)))
end Go.Proofs.YtheeahnhdehloaaDoor
