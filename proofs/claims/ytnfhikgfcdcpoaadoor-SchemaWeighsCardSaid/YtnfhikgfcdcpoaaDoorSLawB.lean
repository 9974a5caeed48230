/- The laws of layer 10, walked: what nodes weigh. -/
import Derived.Test.YtnfhikgfcdcpoaaDoorSLaw
namespace Go.Proofs.YtnfhikgfcdcpoaaDoor
open Go.ChangeShapes Go.WideShapes Go.ChangeAt Go.RowKit Mem

set_option maxRecDepth 100000 in
set_option maxHeartbeats 8000000 in
theorem schemaWeighs_walk (sc : Sc) (w : World) (A : Option Addr) (c : Nat) (hs : Lies w (· < w.heap.size) sc.enc [.slice A sc.nodes.length c, .int .i64 sc.root]) (hL : LaidN w) :
    Calls Tryd.prog 5 #[.agg #[.slice A sc.nodes.length c, .int .i64 sc.root]] w fun e w' => e = .returned (.bool true) ∧ Below w.heap.size w w' := by
  have CS := cell_set
  have HS := Lib.hid (fun W (b : Below w.heap.size w W) => (hs.below b).more b.size)
  have WK := Lib.hid (fun W (b : Below w.heap.size w W) => works10_any W (hL.below b))
  have GR := Lib.hid (fun W b => sgreat_any sc W A c (HS.out W b))
  have RI := Lib.hid (fun (sm : sc.sm) W b => sRight_any sc sm W (hL.below b) A c (HS.out W b))
  have WA := Lib.hid (fun (sm : sc.sm) a W b => sWeight_any sc sm a W A c (HS.out W b))
  obtain ⟨_, _, e, la, ra⟩ := Sc.out.1 hs
  simp only [List.cons.injEq, Value.slice.injEq, true_and, and_true] at e
  obtain ⟨rfl, rfl⟩ := e
  have RA := Lib.hid ra
  have lb := la.2
  unfold maxLen at lb
  obtain ⟨n, hn⟩ : ∃ m, m = sc.nodes.length := ⟨_, rfl⟩
  have HN := Lib.hid hn
  rw [← hn] at GR RI WA lb ⊢
  have W1 : Below w.heap.size w (w.alloc (.cells #[.slice A n c, .int .i64 sc.root] 24)) := (Below.refl _ _).alloc (Nat.le_refl _) _
  have gz1 : (w.alloc (.cells #[.slice A n c, .int .i64 sc.root] 24)).heap.size = w.heap.size + 1 := by simp
  have GZ1 := Lib.hid gz1
  generalize hrt : sc.root = rt at *
  clear hs la ra gz1 hn HS
  go_enter Tryd.func5, Tryd.ntmps5
  go_wp2_with fail
  with_reducible refine (WK.out _ W1).mono ?_
  rintro e w1 ⟨rfl, b1⟩
  rw [GZ1.out] at b1
  have z1 := b1.size
  rw [GZ1.out] at z1
  have bw1 : Below w.heap.size w w1 := W1.trans (b1.mono (by omega))
  have hOwn := Nat.lt_of_lt_of_le (n := w.heap.size) (by first | exact Nat.le_refl _ | assumption | (simp; done) | (simp; omega) | omega) (Below.size b1)
  have hOwn1 := Nat.ne_of_gt hOwn
  have hOwn2 := Nat.ne_of_lt hOwn
  have hOwn := (Below.cell b1 (p := ⟨w.heap.size, 0, none⟩) (by first | exact Nat.le_refl _ | assumption | (simp; done) | (simp; omega) | omega)).trans (by go_simp; rfl)
  have hOwn := (Below.cell b1 (p := ⟨w.heap.size, 1, none⟩) (by first | exact Nat.le_refl _ | assumption | (simp; done) | (simp; omega) | omega)).trans (by go_simp; rfl)
  have hOwn := (Below.frozen b1 (p := ⟨w.heap.size, 0, none⟩) (by first | exact Nat.le_refl _ | assumption | (simp; done) | (simp; omega) | omega)).trans (by go_simp; rfl)
  have hOwn := (Below.frozen b1 (p := ⟨w.heap.size, 1, none⟩) (by first | exact Nat.le_refl _ | assumption | (simp; done) | (simp; omega) | omega)).trans (by go_simp; rfl)
  go_wp2_with fail
  with_reducible refine (GR.out w1 bw1).mono ?_
  rintro e w2 ⟨gj, rfl, hgj, b2⟩
  have z2 := b2.size
  have bw2 : Below w.heap.size w w2 := bw1.trans (b2.mono (by omega))
  have HGJ := Lib.hid hgj
  clear hgj
  have hOwn := Nat.lt_of_lt_of_le (n := w.heap.size) (by first | exact Nat.le_refl _ | assumption | (simp; done) | (simp; omega) | omega) (Below.size b2)
  have hOwn1 := Nat.ne_of_gt hOwn
  have hOwn2 := Nat.ne_of_lt hOwn
  have hOwn := (Below.cell b2 (p := ⟨w.heap.size, 0, none⟩) (by first | exact Nat.le_refl _ | assumption | (simp; done) | (simp; omega) | omega)).trans (by go_simp; rfl)
  have hOwn := (Below.cell b2 (p := ⟨w.heap.size, 1, none⟩) (by first | exact Nat.le_refl _ | assumption | (simp; done) | (simp; omega) | omega)).trans (by go_simp; rfl)
  have hOwn := (Below.frozen b2 (p := ⟨w.heap.size, 0, none⟩) (by first | exact Nat.le_refl _ | assumption | (simp; done) | (simp; omega) | omega)).trans (by go_simp; rfl)
  have hOwn := (Below.frozen b2 (p := ⟨w.heap.size, 1, none⟩) (by first | exact Nat.le_refl _ | assumption | (simp; done) | (simp; omega) | omega)).trans (by go_simp; rfl)
  cases gj with
  | true =>
    go_wp2_with fail
    go_ret
    exact ⟨rfl, bw2⟩
  | false =>
    have sm : sc.sm := by first | exact HGJ.out rfl | exact HGJ.out trivial
    have RI2 := Lib.hid (RI.out sm)
    have WT := Lib.hid (WA.out sm)
    have SMH := Lib.hid sm
    clear RI WA HGJ sm WK GR
    by_cases n0 : n = 0
    · have q0 : ((n : Int) == 0) = true := by rw [beq_iff_eq]; omega
      go_wp2_with fail
      go_ret
      exact ⟨rfl, bw2⟩
    · have q0 : ((n : Int) == 0) = false := by rw [beq_eq_false_iff_ne]; omega
      have W0 := Lib.hid (WT.out 0 w2 bw2)
      by_cases ho : sc.ordered
      · have w0 : sc.weight 0 = sc.wt 0 := Sc.weight_in (i := 0) ho (by rw [← HN.out]; omega)
        have w1' := (sc.wt_le 0).1
        rw [w0] at W0
        have q1 : ((sc.wt 0 : Int) == 0) = false := by rw [beq_eq_false_iff_ne]; omega
        have GD := Lib.hid (ordered_good ho)
        have WI := Lib.hid (fun i (h : i < sc.nodes.length) => Sc.weight_in ho h)
        generalize sc.wt 0 = wz at *
        clear w0
        go_wp2_with fail
        with_reducible refine W0.out.mono ?_
        rintro e w4 ⟨rfl, b4⟩
        have z4 := b4.size
        have bw4 : Below w.heap.size w w4 := bw2.trans (b4.mono (by omega))
        have hOwn := Nat.lt_of_lt_of_le (n := w.heap.size) (by first | exact Nat.le_refl _ | assumption | (simp; done) | (simp; omega) | omega) (Below.size b4)
        have hOwn1 := Nat.ne_of_gt hOwn
        have hOwn2 := Nat.ne_of_lt hOwn
        have hOwn := (Below.cell b4 (p := ⟨w.heap.size, 0, none⟩) (by first | exact Nat.le_refl _ | assumption | (simp; done) | (simp; omega) | omega)).trans (by go_simp; rfl)
        have hOwn := (Below.cell b4 (p := ⟨w.heap.size, 1, none⟩) (by first | exact Nat.le_refl _ | assumption | (simp; done) | (simp; omega) | omega)).trans (by go_simp; rfl)
        have hOwn := (Below.frozen b4 (p := ⟨w.heap.size, 0, none⟩) (by first | exact Nat.le_refl _ | assumption | (simp; done) | (simp; omega) | omega)).trans (by go_simp; rfl)
        have hOwn := (Below.frozen b4 (p := ⟨w.heap.size, 1, none⟩) (by first | exact Nat.le_refl _ | assumption | (simp; done) | (simp; omega) | omega)).trans (by go_simp; rfl)
        go_wp2_with fail
        with_reducible refine (RI2.out w4 bw4).mono ?_
        rintro e w3 ⟨rb, rfl, hrb, b3⟩
        have z3 := b3.size
        have bw3 : Below w.heap.size w w3 := bw4.trans (b3.mono (by omega))
        have RB : Hid (rb = true → ∀ i, i < sc.nodes.length → sc.wt i ≤ 1000) := fun e i h => (hrb e).2.2 i (by rw [HN.out]; exact h)
        clear hrb
        have hOwn := Nat.lt_of_lt_of_le (n := w.heap.size) (by first | exact Nat.le_refl _ | assumption | (simp; done) | (simp; omega) | omega) (Below.size b3)
        have hOwn1 := Nat.ne_of_gt hOwn
        have hOwn2 := Nat.ne_of_lt hOwn
        have hOwn := (Below.cell b3 (p := ⟨w.heap.size, 0, none⟩) (by first | exact Nat.le_refl _ | assumption | (simp; done) | (simp; omega) | omega)).trans (by go_simp; rfl)
        have hOwn := (Below.cell b3 (p := ⟨w.heap.size, 1, none⟩) (by first | exact Nat.le_refl _ | assumption | (simp; done) | (simp; omega) | omega)).trans (by go_simp; rfl)
        have hOwn := (Below.frozen b3 (p := ⟨w.heap.size, 0, none⟩) (by first | exact Nat.le_refl _ | assumption | (simp; done) | (simp; omega) | omega)).trans (by go_simp; rfl)
        have hOwn := (Below.frozen b3 (p := ⟨w.heap.size, 1, none⟩) (by first | exact Nat.le_refl _ | assumption | (simp; done) | (simp; omega) | omega)).trans (by go_simp; rfl)
        have c0 : w3.cell? ⟨w.heap.size, 0, none⟩ = some (.slice A n c) := by go_simp
        have c1 : w3.cell? ⟨w.heap.size, 1, none⟩ = some (.int .i64 rt) := by go_simp
        have BX : Hid (∀ W, Below w3.heap.size w3 W → W.cell? ⟨w.heap.size, 0, none⟩ = some (.slice A n c) ∧ W.cell? ⟨w.heap.size, 1, none⟩ = some (.int .i64 rt) ∧ Below w.heap.size w W) := fun W b =>
          ⟨(b.cell (p := ⟨w.heap.size, 0, none⟩) (by show w.heap.size < _; omega)).trans c0, (b.cell (p := ⟨w.heap.size, 1, none⟩) (by show w.heap.size < _; omega)).trans c1, bw3.trans (b.mono (by omega))⟩
        clear RI2
        go_wp2_with fail
        go_loopw [29] (fun t wr => ∃ i : Nat, i ≤ n ∧ t = .int .i64 (i : Int) ∧ Below w3.heap.size w3 wr) (fun t _ => n - (intOf t).toNat)
        case atStart => exact ⟨0, Nat.zero_le _, rfl, Below.refl _ _⟩
        case round =>
          obtain ⟨wo, hwo⟩ : ∃ x, x = wr := ⟨_, rfl⟩
          subst hwo
          obtain ⟨i, hi, rfl, bl⟩ := hrel
          obtain ⟨d0, d1, bwo⟩ := BX.out wo bl
          have zo := bl.size
          by_cases hin : i < n
          · have h1 : i < sc.nodes.length := by rw [← HN.out]; exact hin
            obtain ⟨b5, o5, X2, x2, X3, x3, X4, x4, X9, x9, e5, hb5, ⟨y0, y1, y2, y3, y4, y5, y6, y7, y8, y9⟩, ly⟩ := nodes_at (RA.out.below bwo) h1
            have KA := Lib.hid (kids_at h1)
            have KD := Lib.hid (kind_at h1)
            have GI := Lib.hid (fun k hk => GD.out.1 i (Nat.zero_le _) h1 k hk)
            rw [KA.out] at GI
            have SB : Hid ((sc.nodes[i]'h1).fs.length ≤ 100000000 ∧ (sc.nodes[i]'h1).br.length ≤ 100000000) := by have := SMH.out.2 i h1; exact ⟨by have := this.2.1; omega, by have := this.2.2.1; omega⟩
            generalize sc.nodes[i]'h1 = T at *
            subst e5
            have lb5 : b5 < w.heap.size := hb5
            have LY := Lib.hid ly
            have NB : Below wo.heap.size wo (wo.alloc (.cells #[.int .i64 T.k, .string T.name, .slice X2 T.al.length x2, .slice X3 T.fs.length x3, .slice X4 T.sy.length x4, .bool T.has, .string T.df, .int .i64 T.size, .int .i64 T.items, .slice X9 T.br.length x9] 33)) := (Below.refl _ _).alloc (Nat.le_refl _) _
            have gzn : (wo.alloc (.cells #[.int .i64 T.k, .string T.name, .slice X2 T.al.length x2, .slice X3 T.fs.length x3, .slice X4 T.sy.length x4, .bool T.has, .string T.df, .int .i64 T.size, .int .i64 T.items, .slice X9 T.br.length x9] 33)).heap.size = wo.heap.size + 1 := by simp
            have GZN := Lib.hid gzn
            have kc0 : (wo.alloc (.cells #[.int .i64 T.k, .string T.name, .slice X2 T.al.length x2, .slice X3 T.fs.length x3, .slice X4 T.sy.length x4, .bool T.has, .string T.df, .int .i64 T.size, .int .i64 T.items, .slice X9 T.br.length x9] 33)).cell? ⟨wo.heap.size, 0, none⟩ = some (.int .i64 T.k) := by simp
            have wsz := bwo.size
            have KC := Lib.hid (sKids_any T SB.out.1 SB.out.2 _ X2 X3 X4 X9 x2 x3 x4 x9 ((LY.out.below (NB.mono wsz)).more (Nat.le_trans wsz NB.size)))
            have KC0 := Lib.hid kc0
            clear ly gzn kc0
            go_wp2_with fail
            with_reducible refine KC.out.mono ?_
            rintro e w7 ⟨A7, c7, rfl, l7, r7, b8⟩
            rw [GZN.out] at b8
            have z8 := b8.size
            rw [GZN.out] at z8
            have bl7 : Below w3.heap.size w3 w7 := bl.trans ((NB.trans (b8.mono (by omega))).mono (by omega))
            have K7 : Hid (w7.cell? ⟨wo.heap.size, 0, none⟩ = some (.int .i64 T.k)) := (b8.cell (p := ⟨wo.heap.size, 0, none⟩) (by show wo.heap.size < _; omega)).trans KC0.out
            have R7 := Lib.hid r7
            have q7 := l7.2
            unfold maxLen at q7
            obtain ⟨nk, hnk⟩ : ∃ m, m = T.kids.length := ⟨_, rfl⟩
            have HK := Lib.hid hnk
            rw [← hnk] at q7
            clear r7 l7
            simp only [← hnk]
            clear hnk
            by_cases k9 : T.k = 9
            · have K9 : Hid (T.k = 9) := k9
              have qk : ((T.k : Int) == 9) = true := by rw [beq_iff_eq]; exact k9
              clear k9
              go_wp2_with fail
              go_loopw [6, 37] (fun m t wr => ∃ (p v : Nat), p ≤ nk ∧ v ≤ 1001 ∧ t = .int .i64 (p : Int) ∧ m = .int .i64 (v : Int) ∧ Hid (v = capF sc.wt (T.kids.take p) 1) ∧ Below w7.heap.size w7 wr) (fun _ t _ => nk - (intOf t).toNat)
              case atStart => exact ⟨0, 1, Nat.zero_le _, by omega, rfl, rfl, (by show _ = _; rw [List.take_zero]; rfl), Below.refl _ _⟩
              case round =>
                obtain ⟨p, v, hp, hv, rfl, rfl, HV, bi⟩ := hrel
                have z7i := bi.size
                have bw7i : Below w3.heap.size w3 wr := bl7.trans (bi.mono (by omega))
                obtain ⟨i0, i1, bwi⟩ := BX.out wr bw7i
                have k9 : wr.cell? ⟨wo.heap.size, 0, none⟩ = some (.int .i64 T.k) := (bi.cell (p := ⟨wo.heap.size, 0, none⟩) (by show wo.heap.size < w7.heap.size; omega)).trans K7.out
                by_cases hpk : p < nk
                · have h2 : p < T.kids.length := by rw [← HK.out]; exact hpk
                  obtain ⟨b9, o9, ek, hb9, v0⟩ := ints_at R7.out h2
                  have v1 := (bi.cell (p := ⟨b9, o9 + p, none⟩) hb9.2).trans v0
                  have gk := GI.out _ (List.getElem_mem h2)
                  have TK : Hid (T.kids.take (p + 1) = T.kids.take p ++ [T.kids[p]'h2]) := List.take_succ_eq_append_getElem h2
                  generalize T.kids[p]'h2 = K at *
                  subst ek
                  obtain ⟨kn, rfl⟩ : ∃ m : Nat, K = (m : Int) := ⟨K.toNat, by omega⟩
                  have h3 : kn < sc.nodes.length := by omega
                  clear h2 v0 gk
                  have VQ : capF sc.wt (T.kids.take (p + 1)) 1 = min (v + sc.wt kn) 1001 := by rw [TK.out, capF_snoc, ← HV.out, Int.toNat_natCast]
                  go_wp2_with fail
                  with_reducible refine (WT.out (kn : Int) wr bwi).mono ?_
                  rintro e w9 ⟨rfl, b10⟩
                  have z10 := b10.size
                  have bi9 : Below w7.heap.size w7 w9 := bi.trans (b10.mono z7i)
                  have wl := sc.wt_le kn
                  have VQ2 := Lib.hid VQ
                  rw [WI.out kn h3]
                  generalize sc.wt kn = wk at *
                  clear VQ
                  by_cases hm : v + wk ≤ 1001
                  · have qm : (v : Int) + (wk : Int) ≤ 1001 := by omega
                    go_wp2_with fail
                    go_roundw
                    case rel => exact ⟨p + 1, v + wk, by omega, by omega, by go_num, by first | (push_cast; rfl) | (congr 1; omega), by show _ = _; rw [VQ2.out]; omega, bi9⟩
                    case measure => simp [intOf]; omega
                  · have qm : ¬ (v : Int) + (wk : Int) ≤ 1001 := by omega
                    go_wp2_with fail
                    go_roundw
                    case rel => exact ⟨p + 1, 1001, by omega, by omega, by go_num, by first | rfl | (congr 1; omega), by show _ = _; rw [VQ2.out]; omega, bi9⟩
                    case measure => simp [intOf]; omega
                · obtain rfl : p = nk := by omega
                  have WV : Hid (sc.wt i = v) := by
                    show _ = _
                    rw [sc.wt_fix i, KD.out, if_pos K9.out, KA.out, HV.out, HK.out, List.take_length]
                  have RW : Hid (rb = true → v ≤ 1000) := fun e => by rw [← WV.out]; exact RB.out e i h1
                  clear hpk
                  go_wp2_with fail
                  with_reducible refine (WT.out (i : Int) wr bwi).mono ?_
                  rintro e w9 ⟨rfl, b10⟩
                  rw [WI.out i h1, WV.out]
                  have z10 := b10.size
                  have bend : Below w3.heap.size w3 w9 := bw7i.trans (b10.mono (by omega))
                  cases rb with
                  | true =>
                    have v10 : v ≤ 1000 := by first | exact RW.out rfl | exact RW.out trivial
                    have qv : ¬ (1000 : Int) < (v : Int) := by omega
                    go_wp2_with fail
                    go_roundw
                    case rel => exact ⟨i + 1, by omega, by go_num, bend⟩
                    case measure => simp [intOf]; omega
                  | false =>
                    go_wp2_with fail
                    go_roundw
                    case rel => exact ⟨i + 1, by omega, by go_num, bend⟩
                    case measure => simp [intOf]; omega
            · have K9 : Hid (¬ T.k = 9) := k9
              have qk : ((T.k : Int) == 9) = false := by rw [beq_eq_false_iff_ne]; exact k9
              clear k9
              go_wp2_with fail
              go_loopw [6, 37] (fun m t wr => ∃ (p v : Nat), p ≤ nk ∧ v ≤ 1001 ∧ t = .int .i64 (p : Int) ∧ m = .int .i64 (v : Int) ∧ Hid (v = 1) ∧ Below w7.heap.size w7 wr) (fun _ t _ => nk - (intOf t).toNat)
              case atStart => exact ⟨0, 1, Nat.zero_le _, by omega, rfl, rfl, rfl, Below.refl _ _⟩
              case round =>
                obtain ⟨p, v, hp, hv, rfl, rfl, HV, bi⟩ := hrel
                have z7i := bi.size
                have bw7i : Below w3.heap.size w3 wr := bl7.trans (bi.mono (by omega))
                obtain ⟨i0, i1, bwi⟩ := BX.out wr bw7i
                have k9 : wr.cell? ⟨wo.heap.size, 0, none⟩ = some (.int .i64 T.k) := (bi.cell (p := ⟨wo.heap.size, 0, none⟩) (by show wo.heap.size < w7.heap.size; omega)).trans K7.out
                by_cases hpk : p < nk
                · have h2 : p < T.kids.length := by rw [← HK.out]; exact hpk
                  obtain ⟨b9, o9, ek, hb9, v0⟩ := ints_at R7.out h2
                  have v1 := (bi.cell (p := ⟨b9, o9 + p, none⟩) hb9.2).trans v0
                  have gk := GI.out _ (List.getElem_mem h2)
                  have TK : Hid (T.kids.take (p + 1) = T.kids.take p ++ [T.kids[p]'h2]) := List.take_succ_eq_append_getElem h2
                  generalize T.kids[p]'h2 = K at *
                  subst ek
                  obtain ⟨kn, rfl⟩ : ∃ m : Nat, K = (m : Int) := ⟨K.toNat, by omega⟩
                  have h3 : kn < sc.nodes.length := by omega
                  clear h2 v0 gk
                  go_wp2_with fail
                  go_roundw
                  case rel => exact ⟨p + 1, v, by omega, by omega, by go_num, rfl, HV.out, bi⟩
                  case measure => simp [intOf]; omega
                · obtain rfl : p = nk := by omega
                  have WV : Hid (sc.wt i = v) := by
                    show _ = _
                    rw [sc.wt_fix i, KD.out, if_neg K9.out, HV.out]
                  have RW : Hid (rb = true → v ≤ 1000) := fun e => by rw [← WV.out]; exact RB.out e i h1
                  clear hpk
                  go_wp2_with fail
                  with_reducible refine (WT.out (i : Int) wr bwi).mono ?_
                  rintro e w9 ⟨rfl, b10⟩
                  rw [WI.out i h1, WV.out]
                  have z10 := b10.size
                  have bend : Below w3.heap.size w3 w9 := bw7i.trans (b10.mono (by omega))
                  cases rb with
                  | true =>
                    have v10 : v ≤ 1000 := by first | exact RW.out rfl | exact RW.out trivial
                    have qv : ¬ (1000 : Int) < (v : Int) := by omega
                    go_wp2_with fail
                    go_roundw
                    case rel => exact ⟨i + 1, by omega, by go_num, bend⟩
                    case measure => simp [intOf]; omega
                  | false =>
                    go_wp2_with fail
                    go_roundw
                    case rel => exact ⟨i + 1, by omega, by go_num, bend⟩
                    case measure => simp [intOf]; omega
          · obtain rfl : i = n := by omega
            clear hin
            go_wp2_with fail
            go_ret
            exact ⟨rfl, bwo⟩
      · have w0 : sc.weight 0 = 0 := Sc.weight_out ho
        rw [w0] at W0
        clear w0
        go_wp2_with fail
        with_reducible refine W0.out.mono ?_
        rintro e w4 ⟨rfl, b4⟩
        go_wp2_with fail
        go_ret
        exact ⟨rfl, bw2.trans (b4.mono (by omega))⟩
end Go.Proofs.YtnfhikgfcdcpoaaDoor
