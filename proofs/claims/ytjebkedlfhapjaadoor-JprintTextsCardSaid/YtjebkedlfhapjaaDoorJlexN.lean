/- Layer 6, the code's own calls at every input: a number as a word. -/
import Derived.Test.YtjebkedlfhapjaaDoorJlexB
namespace Go.Proofs.YtjebkedlfhapjaaDoor
open Go.ChangeShapes Go.WideShapes Go.ChangeAt Go.RowKit Mem

set_option maxRecDepth 100000 in
set_option maxHeartbeats 4000000 in
theorem number_0 (A : Option Addr) (c : Nat) (l : List UInt8) (w : World) (hb : Bys w w.heap.size A l) (hl : l.length ≤ 60000000000) (hc : l.length ≤ c) (h0 : 0 < l.length) (h45 : Jx.byt l 0 ≠ 45) :
    Calls Tryd.prog 45 #[.slice A l.length c] w (TkW (numW (Jx.numR 0 (l.drop 0))) w) := by
  have CS := cell_set
  obtain ⟨b, off, rfl, hB, cell0⟩ := bys_cell hb h0
  rw [Nat.add_zero] at cell0
  have q45 : ((Jx.byt l 0 : Int) == 45) = false := by rw [beq_eq_false_iff_ne]; omega
  have hm1 : 0 ≤ l.length := by omega
  have ld : (l.drop 0).length = l.length - 0 := List.length_drop
  have hcl := Jx.cnt_le Jx.isD (l.drop 0)
  rw [ld] at hcl
  have cin := fun j => Jx.cnt_in Jx.isD (l.drop 0) (k := j)
  have r20 := @numR_20 0 (l.drop 0)
  have r22 := @numR_22 0 (l.drop 0)
  have rw_ := @numR_whl 0 (l.drop 0) (by omega)
  have bd : ∀ k, Jx.byt (l.drop 0) k = Jx.byt l (0 + k) := fun k => Jx.byt_drop l 0 k
  have YR : ∀ W, Bys W w.heap.size (some ⟨b, off, none⟩) l → Bys W w.heap.size (some ⟨b, off + 0, none⟩) (l.drop 0) := fun W h => h.tail 0
  have Y2 : ∀ W k, Bys W w.heap.size (some ⟨b, off, none⟩) l → Bys W w.heap.size (some ⟨b, off + k, none⟩) (l.drop k) := fun W k h => h.tail k
  have CELL : ∀ k, k < l.length → w.cell? ⟨b, off + k, none⟩ = some (.int .u8 (Jx.byt l k : Int)) := fun k hk => by
    obtain ⟨b2, off2, e2, _, h⟩ := bys_cell hb hk
    simp only [Option.some.injEq, Addr.mk.injEq, and_true] at e2
    obtain ⟨rfl, rfl⟩ := e2
    exact h
  have da : ∀ A' n c' W, n = l.length - 0 → Bys W w.heap.size A' (l.drop 0) → Calls Tryd.prog 57 #[.slice A' n c'] W fun e w' => e = .returned (.int .i64 (Jx.cnt Jx.isD (l.drop 0) : Int)) ∧ W = w' := fun A' n c' W hn hA => by
    have := digitsAhead_any A' c' (l.drop 0) W _ hA (by rw [ld]; omega)
    rw [ld, ← hn] at this
    exact this
  have wa : ∀ A' n c' W, n = l.length - 0 → Bys W w.heap.size A' (l.drop 0) → Calls Tryd.prog 59 #[.slice A' n c', .int .i64 (Jx.cnt Jx.isD (l.drop 0) : Int), .bool false] W (Wh (whl (Jx.val ((l.drop 0).take (Jx.cnt Jx.isD (l.drop 0)))) (Jx.cnt Jx.isD (l.drop 0)) false) W) := fun A' n c' W hn hA => by
    have := jwhole_any A' c' (l.drop 0) (Jx.cnt Jx.isD (l.drop 0)) false W _ hA (Jx.cnt_le _ _) cin
    rw [ld, ← hn] at this
    exact this
  rw [show ((0 : Nat) == 1) = false from rfl] at rw_
  have ga : ∀ A' n c' W k, n = l.length - k → Bys W w.heap.size A' (l.drop k) → Calls Tryd.prog 58 #[.slice A' n c'] W fun e w' => e = .returned (.bool (Jx.isL (Jx.byt l k))) ∧ W = w' := fun A' n c' W k hn hA => by
    have := goesOn_any A' c' (l.drop k) W _ hA
    rw [Jx.byt_drop, Nat.add_zero, List.length_drop, ← hn] at this
    exact this
  have c256 := Jx.byt_lt l (0 + Jx.cnt Jx.isD (l.drop 0))
  simp only [bd, Nat.add_zero, Nat.zero_add] at r20 r22 rw_ c256
  generalize Jx.numR 0 (l.drop 0) = R at *
  obtain ⟨V, hV⟩ : ∃ V, V = Jx.val ((l.drop 0).take (Jx.cnt Jx.isD (l.drop 0))) := ⟨_, rfl⟩
  rw [← hV] at wa rw_
  obtain ⟨N, hN⟩ : ∃ N, N = Jx.cnt Jx.isD (l.drop 0) := ⟨_, rfl⟩
  rw [← hN] at wa rw_ da r20 r22 c256 hcl
  have HB := hb
  have DA := Lib.hid da; have WA := Lib.hid wa; have R20 := Lib.hid r20; have R22 := Lib.hid r22; have RW := Lib.hid rw_; have GA := Lib.hid ga; have CL := Lib.hid CELL; have YRH := Lib.hid YR; have Y2H := Lib.hid Y2
  have C00 := CELL (0 + 0)
  have DR := Lib.hid (show ∀ k, l.length ≤ k → l.drop k = [] from fun k hk => List.drop_eq_nil_of_le hk)
  clear da wa r20 r22 rw_ ga CELL YR Y2 hV hN cin bd h45 hb
  have hcM : c ≠ 0 := by omega
  go_enter Tryd.func45, Tryd.ntmps45
  go_wp2_with fail
  with_reducible refine (DA.out _ _ _ _ (by first | rfl | omega | (simp; done) | (simp; omega)) (by first | exact YRH.out _ (HB.alloc (Nat.le_refl _) _) | (rw [List.drop_zero]; exact HB.alloc (Nat.le_refl _) _))).mono ?_
  rintro e w1 ⟨rfl, rfl⟩
  by_cases hN0 : N = 0
  · have Z := Lib.hid (R20.out (.inl hN0))
    subst hN0
    go_wp2_with fail
    try simp only [Exit.inBlock, Exit.then]
    refine post_rj (x0 := .int .i64 0) (x1 := .int .i64 0) (x2 := .string ⟨#[]⟩) (x3 := .int .i64 0) (x4 := .int .i64 0) rfl rfl rfl (by go_simp) (by go_simp) (by go_simp) (by go_simp) (by go_simp) ?_
    exact tkW_ret (numW_20 Z.out) rfl rfl rfl rfl rfl rfl (by (repeat' (first | with_reducible assumption | with_reducible exact Below.refl _ _ | (with_reducible refine Below.alloc ?_ ?_ _; rotate_left; focus ((first | exact Nat.le_refl _ | (simp; done) | (simp; omega) | omega | fail))) | (with_reducible refine Below.setCell ?_ ?_ _; rotate_left; focus ((first | exact Nat.le_refl _ | (simp; done) | (simp; omega) | omega | fail))) | with_reducible refine Mem.bel_drewN ?_ _ | with_reducible refine Below.drew ?_ | (with_reducible refine Mem.bel_call (by with_reducible assumption) ?_ ?_; focus ((first | exact Nat.le_refl _ | (simp; done) | (simp; omega) | omega | fail))) | fail)))
  · have q0 : ((N : Int) == 0) = false := by rw [beq_eq_false_iff_ne]; omega
    have cM := CL.out 0 (by omega)
    by_cases hA : Jx.byt l 0 = 48 ∧ 1 < N
    · have Z := Lib.hid (R20.out (.inr (.inl hA)))
      obtain ⟨hA1, hA2⟩ := hA
      have q48 : ((Jx.byt l 0 : Int) == 48) = true := by rw [beq_iff_eq]; omega
      go_wp2_with fail
      all_goals
        try simp only [Exit.inBlock, Exit.then]
        refine post_rj (x0 := .int .i64 0) (x1 := .int .i64 0) (x2 := .string ⟨#[]⟩) (x3 := .int .i64 0) (x4 := .int .i64 0) rfl rfl rfl (by go_simp) (by go_simp) (by go_simp) (by go_simp) (by go_simp) ?_
        exact tkW_ret (numW_20 Z.out) rfl rfl rfl rfl rfl rfl (by (repeat' (first | with_reducible assumption | with_reducible exact Below.refl _ _ | (with_reducible refine Below.alloc ?_ ?_ _; rotate_left; focus ((first | exact Nat.le_refl _ | (simp; done) | (simp; omega) | omega | fail))) | (with_reducible refine Below.setCell ?_ ?_ _; rotate_left; focus ((first | exact Nat.le_refl _ | (simp; done) | (simp; omega) | omega | fail))) | with_reducible refine Mem.bel_drewN ?_ _ | with_reducible refine Below.drew ?_ | (with_reducible refine Mem.bel_call (by with_reducible assumption) ?_ ?_; focus ((first | exact Nat.le_refl _ | (simp; done) | (simp; omega) | omega | fail))) | fail)))
    · have hA3 : 1 < N → ((Jx.byt l 0 : Int) == 48) = false := fun h => by rw [beq_eq_false_iff_ne]; omega
      have hA0 : ¬ (N = 0 ∨ (Jx.byt l 0 = 48 ∧ 1 < N)) := by omega
      have RW1 := Lib.hid (RW.out hA0)
      have R22a := Lib.hid (fun h => R22.out (fun k => by rcases k with k | k | k; (· exact hN0 k); (· exact hA k); (· exact (h : ¬ (Jx.isL (Jx.byt l N) = true ∧ Jx.byt l N ≠ 101 ∧ Jx.byt l N ≠ 69)) k)))
      have R20a := Lib.hid (fun h => R20.out (.inr (.inr h)))
      have QS : Hid (1 < N ∧ ((Jx.byt l 0 : Int) == 48) = false ∨ decide ((1 : Int) < (N : Int)) = false) := by
        by_cases h : 1 < N
        · exact .inl ⟨h, hA3 h⟩
        · exact .inr (by simp; omega)
      clear R20 R22 RW hA hA0 hA3
      by_cases hE : N < l.length
      · have cE := CL.out N hE
        have hcE : c ≠ N := by omega
        have PL := Lib.hid (place_any ⟨#[46, 101, 69]⟩ (Jx.byt l N))
        have pp := place_point (Jx.byt l N) c256
        rw [show (⟨#[46, 101, 69]⟩ : ByteArray).data.toList = [46, 101, 69] from rfl] at PL
        have G := Lib.hid (fun n c' W hn hA => GA.out (some ⟨b, off + N, none⟩) n c' W N hn hA)
        have YE : Hid (∀ W, Bys W w.heap.size (some ⟨b, off, none⟩) l → Bys W w.heap.size (some ⟨b, off + N, none⟩) (l.drop N)) := fun W h => Y2H.out W N h
        have lnr : decide ((0 : Int) < ((l.length - N : Nat) : Int)) = true := by simp; omega
        obtain ⟨I, hI⟩ : ∃ I, I = place [46, 101, 69] (Jx.byt l N) := ⟨_, rfl⟩
        rw [← hI] at PL pp
        clear hI
        generalize hC : Jx.byt l N = C at *
        by_cases hp : 0 ≤ I
        · have hp2 := pp.1 hp
          have Z := Lib.hid (R22a.out (fun k => by rcases hp2 with h | h | h; (· subst h; exact absurd k.1 (by decide)); (· exact k.2.1 h); (· exact k.2.2 h)) (by rcases hp2 with h | h | h; (· exact .inl h); (· subst h; exact .inr (.inl rfl)); (· subst h; exact .inr (.inl rfl))))
          rcases QS.out with ⟨h1N, q48⟩ | q1N
          all_goals
            go_wp2_with fail
            with_reducible refine (PL.out _).mono ?_
            rintro e w1 ⟨rfl, rfl⟩
            go_wp2_with fail
            try simp only [Exit.inBlock, Exit.then]
            refine post_rj (x0 := .int .i64 0) (x1 := .int .i64 0) (x2 := .string ⟨#[]⟩) (x3 := .int .i64 0) (x4 := .int .i64 0) rfl rfl rfl (by go_simp) (by go_simp) (by go_simp) (by go_simp) (by go_simp) ?_
            exact tkW_ret (numW_22 Z.out) rfl rfl rfl rfl rfl rfl (by (repeat' (first | with_reducible assumption | with_reducible exact Below.refl _ _ | (with_reducible refine Below.alloc ?_ ?_ _; rotate_left; focus ((first | exact Nat.le_refl _ | (simp; done) | (simp; omega) | omega | fail))) | (with_reducible refine Below.setCell ?_ ?_ _; rotate_left; focus ((first | exact Nat.le_refl _ | (simp; done) | (simp; omega) | omega | fail))) | with_reducible refine Mem.bel_drewN ?_ _ | with_reducible refine Below.drew ?_ | (with_reducible refine Mem.bel_call (by with_reducible assumption) ?_ ?_; focus ((first | exact Nat.le_refl _ | (simp; done) | (simp; omega) | omega | fail))) | fail)))
        · have hp2 : C ≠ 46 ∧ C ≠ 101 ∧ C ≠ 69 := by omega
          obtain ⟨n46, n101, n69⟩ := hp2
          have RW2 := Lib.hid (RW1.out n46)
          have R20b := Lib.hid (fun h => R20a.out ⟨h, n101, n69⟩)
          clear pp n46 n101 n69 RW1 R20a R22a
          obtain ⟨LC, hLC⟩ : ∃ x, x = Jx.isL C := ⟨_, rfl⟩
          rw [← hLC] at G RW2 R20b
          clear hLC
          cases LC with
          | true =>
            have Z := Lib.hid (R20b.out rfl)
            rcases QS.out with ⟨h1N, q48⟩ | q1N
            all_goals
              go_wp2_with fail
              with_reducible refine (PL.out _).mono ?_
              rintro e w1 ⟨rfl, rfl⟩
              go_wp2_with fail
              with_reducible refine (G.out _ _ _ (by first | rfl | omega | (simp; done) | (simp; omega)) (YE.out _ (HB.alloc (Nat.le_refl _) _))).mono ?_
              rintro e w1 ⟨rfl, rfl⟩
              go_wp2_with fail
              try simp only [Exit.inBlock, Exit.then]
              refine post_rj (x0 := .int .i64 0) (x1 := .int .i64 0) (x2 := .string ⟨#[]⟩) (x3 := .int .i64 0) (x4 := .int .i64 0) rfl rfl rfl (by go_simp) (by go_simp) (by go_simp) (by go_simp) (by go_simp) ?_
              exact tkW_ret (numW_20 Z.out) rfl rfl rfl rfl rfl rfl (by (repeat' (first | with_reducible assumption | with_reducible exact Below.refl _ _ | (with_reducible refine Below.alloc ?_ ?_ _; rotate_left; focus ((first | exact Nat.le_refl _ | (simp; done) | (simp; omega) | omega | fail))) | (with_reducible refine Below.setCell ?_ ?_ _; rotate_left; focus ((first | exact Nat.le_refl _ | (simp; done) | (simp; omega) | omega | fail))) | with_reducible refine Mem.bel_drewN ?_ _ | with_reducible refine Below.drew ?_ | (with_reducible refine Mem.bel_call (by with_reducible assumption) ?_ ?_; focus ((first | exact Nat.le_refl _ | (simp; done) | (simp; omega) | omega | fail))) | fail)))
          | false =>
            have RW3 := RW2.out rfl
            obtain ⟨⟨vv, ok⟩, hw⟩ : ∃ r, r = whl V N false := ⟨_, rfl⟩
            rw [← hw] at WA RW3
            cases ok with
            | true =>
              have Z := Lib.hid (RW3.trans (if_pos rfl))
              clear RW3 RW2 hw
              rcases QS.out with ⟨h1N, q48⟩ | q1N
              all_goals
                go_wp2_with fail
                with_reducible refine (PL.out _).mono ?_
                rintro e w1 ⟨rfl, rfl⟩
                go_wp2_with fail
                with_reducible refine (G.out _ _ _ (by first | rfl | omega | (simp; done) | (simp; omega)) (YE.out _ (HB.alloc (Nat.le_refl _) _))).mono ?_
                rintro e w1 ⟨rfl, rfl⟩
                go_wp2_with fail
                with_reducible refine (WA.out _ _ _ _ (by first | rfl | omega | (simp; done) | (simp; omega)) (by first | exact YRH.out _ (HB.alloc (Nat.le_refl _) _) | (rw [List.drop_zero]; exact HB.alloc (Nat.le_refl _) _))).mono ?_
                rintro e w1 ⟨rfl, rfl⟩
                go_wp2_with fail
                try simp only [Exit.inBlock, Exit.then]
                refine post_rj (x0 := .int .i64 9) (x1 := .int .i64 vv) (x2 := .string ⟨#[]⟩) (x3 := .int .i64 0) (x4 := .int .i64 (N : Int)) rfl rfl rfl (by go_simp) (by go_simp) (by go_simp) (by go_simp) (by go_simp) ?_
                exact tkW_ret (numW_ok Z.out) rfl rfl rfl rfl (by push_cast; omega) rfl (by (repeat' (first | with_reducible assumption | with_reducible exact Below.refl _ _ | (with_reducible refine Below.alloc ?_ ?_ _; rotate_left; focus ((first | exact Nat.le_refl _ | (simp; done) | (simp; omega) | omega | fail))) | (with_reducible refine Below.setCell ?_ ?_ _; rotate_left; focus ((first | exact Nat.le_refl _ | (simp; done) | (simp; omega) | omega | fail))) | with_reducible refine Mem.bel_drewN ?_ _ | with_reducible refine Below.drew ?_ | (with_reducible refine Mem.bel_call (by with_reducible assumption) ?_ ?_; focus ((first | exact Nat.le_refl _ | (simp; done) | (simp; omega) | omega | fail))) | fail)))
            | false =>
              have Z := Lib.hid (RW3.trans (if_neg (by simp)))
              clear RW3 RW2 hw
              rcases QS.out with ⟨h1N, q48⟩ | q1N
              all_goals
                go_wp2_with fail
                with_reducible refine (PL.out _).mono ?_
                rintro e w1 ⟨rfl, rfl⟩
                go_wp2_with fail
                with_reducible refine (G.out _ _ _ (by first | rfl | omega | (simp; done) | (simp; omega)) (YE.out _ (HB.alloc (Nat.le_refl _) _))).mono ?_
                rintro e w1 ⟨rfl, rfl⟩
                go_wp2_with fail
                with_reducible refine (WA.out _ _ _ _ (by first | rfl | omega | (simp; done) | (simp; omega)) (by first | exact YRH.out _ (HB.alloc (Nat.le_refl _) _) | (rw [List.drop_zero]; exact HB.alloc (Nat.le_refl _) _))).mono ?_
                rintro e w1 ⟨rfl, rfl⟩
                go_wp2_with fail
                try simp only [Exit.inBlock, Exit.then]
                refine post_rj (x0 := .int .i64 0) (x1 := .int .i64 0) (x2 := .string ⟨#[]⟩) (x3 := .int .i64 0) (x4 := .int .i64 0) rfl rfl rfl (by go_simp) (by go_simp) (by go_simp) (by go_simp) (by go_simp) ?_
                exact tkW_ret (numW_22 Z.out) rfl rfl rfl rfl rfl rfl (by (repeat' (first | with_reducible assumption | with_reducible exact Below.refl _ _ | (with_reducible refine Below.alloc ?_ ?_ _; rotate_left; focus ((first | exact Nat.le_refl _ | (simp; done) | (simp; omega) | omega | fail))) | (with_reducible refine Below.setCell ?_ ?_ _; rotate_left; focus ((first | exact Nat.le_refl _ | (simp; done) | (simp; omega) | omega | fail))) | with_reducible refine Mem.bel_drewN ?_ _ | with_reducible refine Below.drew ?_ | (with_reducible refine Mem.bel_call (by with_reducible assumption) ?_ ?_; focus ((first | exact Nat.le_refl _ | (simp; done) | (simp; omega) | omega | fail))) | fail)))
      · have hE2 : N = l.length := by omega
        have c0 := Jx.byt_end (l := l) (i := N) (by omega)
        have RWa := RW1.out
        have G := Lib.hid (fun A' n c' W hn => GA.out A' n c' W N hn (by rw [DR.out N (by omega)]; exact Bys.nil _ _ _))
        rw [c0] at RWa G
        rw [show Jx.isL 0 = false from rfl] at RWa G
        have RW3 := RWa (by decide) rfl
        clear RWa RW1 R22a R20a c0 c256
        have le0 : l.length - N = 0 := by omega
        have hcE : c = N ∨ c ≠ N := by omega
        have HE2 := Lib.hid hE2
        clear hE2 hE
        obtain ⟨⟨vv, ok⟩, hw⟩ : ∃ r, r = whl V N false := ⟨_, rfl⟩
        rw [← hw] at WA RW3
        cases ok with
        | true =>
          have Z := Lib.hid (RW3.trans (if_pos rfl))
          clear RW3 hw
          rcases QS.out with ⟨h1N, q48⟩ | q1N
          all_goals
            rcases hcE with hcE | hcE
            first | (have hq := hcE.symm; subst hq) | skip
            all_goals
              go_wp2_with fail
              with_reducible refine (G.out _ _ _ _ (by first | rfl | omega | (simp; done) | (simp; omega))).mono ?_
              rintro e w1 ⟨rfl, rfl⟩
              go_wp2_with fail
              with_reducible refine (WA.out _ _ _ _ (by first | rfl | omega | (simp; done) | (simp; omega)) (by first | exact YRH.out _ (HB.alloc (Nat.le_refl _) _) | (rw [List.drop_zero]; exact HB.alloc (Nat.le_refl _) _))).mono ?_
              rintro e w1 ⟨rfl, rfl⟩
              go_wp2_with fail
              try simp only [Exit.inBlock, Exit.then]
              refine post_rj (x0 := .int .i64 9) (x1 := .int .i64 vv) (x2 := .string ⟨#[]⟩) (x3 := .int .i64 0) (x4 := .int .i64 (N : Int)) rfl rfl rfl (by go_simp) (by go_simp) (by go_simp) (by go_simp) (by go_simp) ?_
              exact tkW_ret (numW_ok Z.out) rfl rfl rfl rfl (by push_cast; omega) rfl (by (repeat' (first | with_reducible assumption | with_reducible exact Below.refl _ _ | (with_reducible refine Below.alloc ?_ ?_ _; rotate_left; focus ((first | exact Nat.le_refl _ | (simp; done) | (simp; omega) | omega | fail))) | (with_reducible refine Below.setCell ?_ ?_ _; rotate_left; focus ((first | exact Nat.le_refl _ | (simp; done) | (simp; omega) | omega | fail))) | with_reducible refine Mem.bel_drewN ?_ _ | with_reducible refine Below.drew ?_ | (with_reducible refine Mem.bel_call (by with_reducible assumption) ?_ ?_; focus ((first | exact Nat.le_refl _ | (simp; done) | (simp; omega) | omega | fail))) | fail)))
        | false =>
          have Z := Lib.hid (RW3.trans (if_neg (by simp)))
          clear RW3 hw
          rcases QS.out with ⟨h1N, q48⟩ | q1N
          all_goals
            rcases hcE with hcE | hcE
            first | (have hq := hcE.symm; subst hq) | skip
            all_goals
              go_wp2_with fail
              with_reducible refine (G.out _ _ _ _ (by first | rfl | omega | (simp; done) | (simp; omega))).mono ?_
              rintro e w1 ⟨rfl, rfl⟩
              go_wp2_with fail
              with_reducible refine (WA.out _ _ _ _ (by first | rfl | omega | (simp; done) | (simp; omega)) (by first | exact YRH.out _ (HB.alloc (Nat.le_refl _) _) | (rw [List.drop_zero]; exact HB.alloc (Nat.le_refl _) _))).mono ?_
              rintro e w1 ⟨rfl, rfl⟩
              go_wp2_with fail
              try simp only [Exit.inBlock, Exit.then]
              refine post_rj (x0 := .int .i64 0) (x1 := .int .i64 0) (x2 := .string ⟨#[]⟩) (x3 := .int .i64 0) (x4 := .int .i64 0) rfl rfl rfl (by go_simp) (by go_simp) (by go_simp) (by go_simp) (by go_simp) ?_
              exact tkW_ret (numW_22 Z.out) rfl rfl rfl rfl rfl rfl (by (repeat' (first | with_reducible assumption | with_reducible exact Below.refl _ _ | (with_reducible refine Below.alloc ?_ ?_ _; rotate_left; focus ((first | exact Nat.le_refl _ | (simp; done) | (simp; omega) | omega | fail))) | (with_reducible refine Below.setCell ?_ ?_ _; rotate_left; focus ((first | exact Nat.le_refl _ | (simp; done) | (simp; omega) | omega | fail))) | with_reducible refine Mem.bel_drewN ?_ _ | with_reducible refine Below.drew ?_ | (with_reducible refine Mem.bel_call (by with_reducible assumption) ?_ ?_; focus ((first | exact Nat.le_refl _ | (simp; done) | (simp; omega) | omega | fail))) | fail)))

set_option maxRecDepth 100000 in
set_option maxHeartbeats 4000000 in
theorem number_1 (A : Option Addr) (c : Nat) (l : List UInt8) (w : World) (hb : Bys w w.heap.size A l) (hl : l.length ≤ 60000000000) (hc : l.length ≤ c) (h0 : 0 < l.length) (h45 : Jx.byt l 0 = 45) :
    Calls Tryd.prog 45 #[.slice A l.length c] w (TkW (numW (Jx.numR 1 (l.drop 1))) w) := by
  have CS := cell_set
  obtain ⟨b, off, rfl, hB, cell0⟩ := bys_cell hb h0
  rw [Nat.add_zero] at cell0
  have q45 : ((Jx.byt l 0 : Int) == 45) = true := by rw [beq_iff_eq]; omega
  have hm1 : 1 ≤ l.length := by omega
  have ld : (l.drop 1).length = l.length - 1 := List.length_drop
  have hcl := Jx.cnt_le Jx.isD (l.drop 1)
  rw [ld] at hcl
  have cin := fun j => Jx.cnt_in Jx.isD (l.drop 1) (k := j)
  have r20 := @numR_20 1 (l.drop 1)
  have r22 := @numR_22 1 (l.drop 1)
  have rw_ := @numR_whl 1 (l.drop 1) (by omega)
  have bd : ∀ k, Jx.byt (l.drop 1) k = Jx.byt l (1 + k) := fun k => Jx.byt_drop l 1 k
  have YR : ∀ W, Bys W w.heap.size (some ⟨b, off, none⟩) l → Bys W w.heap.size (some ⟨b, off + 1, none⟩) (l.drop 1) := fun W h => h.tail 1
  have Y2 : ∀ W k, Bys W w.heap.size (some ⟨b, off, none⟩) l → Bys W w.heap.size (some ⟨b, off + k, none⟩) (l.drop k) := fun W k h => h.tail k
  have CELL : ∀ k, k < l.length → w.cell? ⟨b, off + k, none⟩ = some (.int .u8 (Jx.byt l k : Int)) := fun k hk => by
    obtain ⟨b2, off2, e2, _, h⟩ := bys_cell hb hk
    simp only [Option.some.injEq, Addr.mk.injEq, and_true] at e2
    obtain ⟨rfl, rfl⟩ := e2
    exact h
  have da : ∀ A' n c' W, n = l.length - 1 → Bys W w.heap.size A' (l.drop 1) → Calls Tryd.prog 57 #[.slice A' n c'] W fun e w' => e = .returned (.int .i64 (Jx.cnt Jx.isD (l.drop 1) : Int)) ∧ W = w' := fun A' n c' W hn hA => by
    have := digitsAhead_any A' c' (l.drop 1) W _ hA (by rw [ld]; omega)
    rw [ld, ← hn] at this
    exact this
  have wa : ∀ A' n c' W, n = l.length - 1 → Bys W w.heap.size A' (l.drop 1) → Calls Tryd.prog 59 #[.slice A' n c', .int .i64 (Jx.cnt Jx.isD (l.drop 1) : Int), .bool true] W (Wh (whl (Jx.val ((l.drop 1).take (Jx.cnt Jx.isD (l.drop 1)))) (Jx.cnt Jx.isD (l.drop 1)) true) W) := fun A' n c' W hn hA => by
    have := jwhole_any A' c' (l.drop 1) (Jx.cnt Jx.isD (l.drop 1)) true W _ hA (Jx.cnt_le _ _) cin
    rw [ld, ← hn] at this
    exact this
  rw [show ((1 : Nat) == 1) = true from rfl] at rw_
  have ga : ∀ A' n c' W k, n = l.length - k → Bys W w.heap.size A' (l.drop k) → Calls Tryd.prog 58 #[.slice A' n c'] W fun e w' => e = .returned (.bool (Jx.isL (Jx.byt l k))) ∧ W = w' := fun A' n c' W k hn hA => by
    have := goesOn_any A' c' (l.drop k) W _ hA
    rw [Jx.byt_drop, Nat.add_zero, List.length_drop, ← hn] at this
    exact this
  have c256 := Jx.byt_lt l (1 + Jx.cnt Jx.isD (l.drop 1))
  simp only [bd, Nat.add_zero] at r20 r22 rw_
  generalize Jx.numR 1 (l.drop 1) = R at *
  obtain ⟨V, hV⟩ : ∃ V, V = Jx.val ((l.drop 1).take (Jx.cnt Jx.isD (l.drop 1))) := ⟨_, rfl⟩
  rw [← hV] at wa rw_
  obtain ⟨N, hN⟩ : ∃ N, N = Jx.cnt Jx.isD (l.drop 1) := ⟨_, rfl⟩
  rw [← hN] at wa rw_ da r20 r22 c256 hcl
  have HB := hb
  have DA := Lib.hid da; have WA := Lib.hid wa; have R20 := Lib.hid r20; have R22 := Lib.hid r22; have RW := Lib.hid rw_; have GA := Lib.hid ga; have CL := Lib.hid CELL; have YRH := Lib.hid YR; have Y2H := Lib.hid Y2
  have C00 := CELL (1 + 0)
  have DR := Lib.hid (show ∀ k, l.length ≤ k → l.drop k = [] from fun k hk => List.drop_eq_nil_of_le hk)
  clear da wa r20 r22 rw_ ga CELL YR Y2 hV hN cin bd h45 hb
  by_cases hcM : c = 1
  · subst hcM
    have hL1 : l.length = 1 := by omega
    obtain rfl : N = 0 := by omega
    have Z := Lib.hid (R20.out (.inl rfl))
    have DRM := Lib.hid (show ∀ A' W, Bys W w.heap.size A' (l.drop 1) from fun A' W => by rw [DR.out 1 (by omega)]; exact Bys.nil _ _ _)
    go_enter Tryd.func45, Tryd.ntmps45
    go_wp2_with fail
    with_reducible refine (DA.out _ _ _ _ (by first | rfl | omega | (simp; done) | (simp; omega)) (DRM.out _ _)).mono ?_
    rintro e w1 ⟨rfl, rfl⟩
    go_wp2_with fail
    try simp only [Exit.inBlock, Exit.then]
    refine post_rj (x0 := .int .i64 0) (x1 := .int .i64 0) (x2 := .string ⟨#[]⟩) (x3 := .int .i64 0) (x4 := .int .i64 0) rfl rfl rfl (by go_simp) (by go_simp) (by go_simp) (by go_simp) (by go_simp) ?_
    exact tkW_ret (numW_20 Z.out) rfl rfl rfl rfl rfl rfl (by (repeat' (first | with_reducible assumption | with_reducible exact Below.refl _ _ | (with_reducible refine Below.alloc ?_ ?_ _; rotate_left; focus ((first | exact Nat.le_refl _ | (simp; done) | (simp; omega) | omega | fail))) | (with_reducible refine Below.setCell ?_ ?_ _; rotate_left; focus ((first | exact Nat.le_refl _ | (simp; done) | (simp; omega) | omega | fail))) | with_reducible refine Mem.bel_drewN ?_ _ | with_reducible refine Below.drew ?_ | (with_reducible refine Mem.bel_call (by with_reducible assumption) ?_ ?_; focus ((first | exact Nat.le_refl _ | (simp; done) | (simp; omega) | omega | fail))) | fail)))
  go_enter Tryd.func45, Tryd.ntmps45
  go_wp2_with fail
  with_reducible refine (DA.out _ _ _ _ (by first | rfl | omega | (simp; done) | (simp; omega)) (by first | exact YRH.out _ (HB.alloc (Nat.le_refl _) _) | (rw [List.drop_zero]; exact HB.alloc (Nat.le_refl _) _))).mono ?_
  rintro e w1 ⟨rfl, rfl⟩
  by_cases hN0 : N = 0
  · have Z := Lib.hid (R20.out (.inl hN0))
    subst hN0
    go_wp2_with fail
    try simp only [Exit.inBlock, Exit.then]
    refine post_rj (x0 := .int .i64 0) (x1 := .int .i64 0) (x2 := .string ⟨#[]⟩) (x3 := .int .i64 0) (x4 := .int .i64 0) rfl rfl rfl (by go_simp) (by go_simp) (by go_simp) (by go_simp) (by go_simp) ?_
    exact tkW_ret (numW_20 Z.out) rfl rfl rfl rfl rfl rfl (by (repeat' (first | with_reducible assumption | with_reducible exact Below.refl _ _ | (with_reducible refine Below.alloc ?_ ?_ _; rotate_left; focus ((first | exact Nat.le_refl _ | (simp; done) | (simp; omega) | omega | fail))) | (with_reducible refine Below.setCell ?_ ?_ _; rotate_left; focus ((first | exact Nat.le_refl _ | (simp; done) | (simp; omega) | omega | fail))) | with_reducible refine Mem.bel_drewN ?_ _ | with_reducible refine Below.drew ?_ | (with_reducible refine Mem.bel_call (by with_reducible assumption) ?_ ?_; focus ((first | exact Nat.le_refl _ | (simp; done) | (simp; omega) | omega | fail))) | fail)))
  · have q0 : ((N : Int) == 0) = false := by rw [beq_eq_false_iff_ne]; omega
    have cM := CL.out 1 (by omega)
    by_cases hA : Jx.byt l 1 = 48 ∧ 1 < N
    · have Z := Lib.hid (R20.out (.inr (.inl hA)))
      obtain ⟨hA1, hA2⟩ := hA
      have q48 : ((Jx.byt l 1 : Int) == 48) = true := by rw [beq_iff_eq]; omega
      go_wp2_with fail
      all_goals
        try simp only [Exit.inBlock, Exit.then]
        refine post_rj (x0 := .int .i64 0) (x1 := .int .i64 0) (x2 := .string ⟨#[]⟩) (x3 := .int .i64 0) (x4 := .int .i64 0) rfl rfl rfl (by go_simp) (by go_simp) (by go_simp) (by go_simp) (by go_simp) ?_
        exact tkW_ret (numW_20 Z.out) rfl rfl rfl rfl rfl rfl (by (repeat' (first | with_reducible assumption | with_reducible exact Below.refl _ _ | (with_reducible refine Below.alloc ?_ ?_ _; rotate_left; focus ((first | exact Nat.le_refl _ | (simp; done) | (simp; omega) | omega | fail))) | (with_reducible refine Below.setCell ?_ ?_ _; rotate_left; focus ((first | exact Nat.le_refl _ | (simp; done) | (simp; omega) | omega | fail))) | with_reducible refine Mem.bel_drewN ?_ _ | with_reducible refine Below.drew ?_ | (with_reducible refine Mem.bel_call (by with_reducible assumption) ?_ ?_; focus ((first | exact Nat.le_refl _ | (simp; done) | (simp; omega) | omega | fail))) | fail)))
    · have hA3 : 1 < N → ((Jx.byt l 1 : Int) == 48) = false := fun h => by rw [beq_eq_false_iff_ne]; omega
      have hA0 : ¬ (N = 0 ∨ (Jx.byt l 1 = 48 ∧ 1 < N)) := by omega
      have RW1 := Lib.hid (RW.out hA0)
      have R22a := Lib.hid (fun h => R22.out (fun k => by rcases k with k | k | k; (· exact hN0 k); (· exact hA k); (· exact (h : ¬ (Jx.isL (Jx.byt l (1 + N)) = true ∧ Jx.byt l (1 + N) ≠ 101 ∧ Jx.byt l (1 + N) ≠ 69)) k)))
      have R20a := Lib.hid (fun h => R20.out (.inr (.inr h)))
      have QS : Hid (1 < N ∧ ((Jx.byt l 1 : Int) == 48) = false ∨ decide ((1 : Int) < (N : Int)) = false) := by
        by_cases h : 1 < N
        · exact .inl ⟨h, hA3 h⟩
        · exact .inr (by simp; omega)
      clear R20 R22 RW hA hA0 hA3
      by_cases hE : (1 + N) < l.length
      · have cE := CL.out (1 + N) hE
        have hcE : c ≠ (1 + N) := by omega
        have PL := Lib.hid (place_any ⟨#[46, 101, 69]⟩ (Jx.byt l (1 + N)))
        have pp := place_point (Jx.byt l (1 + N)) c256
        rw [show (⟨#[46, 101, 69]⟩ : ByteArray).data.toList = [46, 101, 69] from rfl] at PL
        have G := Lib.hid (fun n c' W hn hA => GA.out (some ⟨b, off + (1 + N), none⟩) n c' W (1 + N) hn hA)
        have YE : Hid (∀ W, Bys W w.heap.size (some ⟨b, off, none⟩) l → Bys W w.heap.size (some ⟨b, off + (1 + N), none⟩) (l.drop (1 + N))) := fun W h => Y2H.out W (1 + N) h
        have lnr : decide ((0 : Int) < ((l.length - (1 + N) : Nat) : Int)) = true := by simp; omega
        obtain ⟨I, hI⟩ : ∃ I, I = place [46, 101, 69] (Jx.byt l (1 + N)) := ⟨_, rfl⟩
        rw [← hI] at PL pp
        clear hI
        generalize hC : Jx.byt l (1 + N) = C at *
        by_cases hp : 0 ≤ I
        · have hp2 := pp.1 hp
          have Z := Lib.hid (R22a.out (fun k => by rcases hp2 with h | h | h; (· subst h; exact absurd k.1 (by decide)); (· exact k.2.1 h); (· exact k.2.2 h)) (by rcases hp2 with h | h | h; (· exact .inl h); (· subst h; exact .inr (.inl rfl)); (· subst h; exact .inr (.inl rfl))))
          rcases QS.out with ⟨h1N, q48⟩ | q1N
          all_goals
            go_wp2_with fail
            with_reducible refine (PL.out _).mono ?_
            rintro e w1 ⟨rfl, rfl⟩
            go_wp2_with fail
            try simp only [Exit.inBlock, Exit.then]
            refine post_rj (x0 := .int .i64 0) (x1 := .int .i64 0) (x2 := .string ⟨#[]⟩) (x3 := .int .i64 0) (x4 := .int .i64 0) rfl rfl rfl (by go_simp) (by go_simp) (by go_simp) (by go_simp) (by go_simp) ?_
            exact tkW_ret (numW_22 Z.out) rfl rfl rfl rfl rfl rfl (by (repeat' (first | with_reducible assumption | with_reducible exact Below.refl _ _ | (with_reducible refine Below.alloc ?_ ?_ _; rotate_left; focus ((first | exact Nat.le_refl _ | (simp; done) | (simp; omega) | omega | fail))) | (with_reducible refine Below.setCell ?_ ?_ _; rotate_left; focus ((first | exact Nat.le_refl _ | (simp; done) | (simp; omega) | omega | fail))) | with_reducible refine Mem.bel_drewN ?_ _ | with_reducible refine Below.drew ?_ | (with_reducible refine Mem.bel_call (by with_reducible assumption) ?_ ?_; focus ((first | exact Nat.le_refl _ | (simp; done) | (simp; omega) | omega | fail))) | fail)))
        · have hp2 : C ≠ 46 ∧ C ≠ 101 ∧ C ≠ 69 := by omega
          obtain ⟨n46, n101, n69⟩ := hp2
          have RW2 := Lib.hid (RW1.out n46)
          have R20b := Lib.hid (fun h => R20a.out ⟨h, n101, n69⟩)
          clear pp n46 n101 n69 RW1 R20a R22a
          obtain ⟨LC, hLC⟩ : ∃ x, x = Jx.isL C := ⟨_, rfl⟩
          rw [← hLC] at G RW2 R20b
          clear hLC
          cases LC with
          | true =>
            have Z := Lib.hid (R20b.out rfl)
            rcases QS.out with ⟨h1N, q48⟩ | q1N
            all_goals
              go_wp2_with fail
              with_reducible refine (PL.out _).mono ?_
              rintro e w1 ⟨rfl, rfl⟩
              go_wp2_with fail
              with_reducible refine (G.out _ _ _ (by first | rfl | omega | (simp; done) | (simp; omega)) (YE.out _ (HB.alloc (Nat.le_refl _) _))).mono ?_
              rintro e w1 ⟨rfl, rfl⟩
              go_wp2_with fail
              try simp only [Exit.inBlock, Exit.then]
              refine post_rj (x0 := .int .i64 0) (x1 := .int .i64 0) (x2 := .string ⟨#[]⟩) (x3 := .int .i64 0) (x4 := .int .i64 0) rfl rfl rfl (by go_simp) (by go_simp) (by go_simp) (by go_simp) (by go_simp) ?_
              exact tkW_ret (numW_20 Z.out) rfl rfl rfl rfl rfl rfl (by (repeat' (first | with_reducible assumption | with_reducible exact Below.refl _ _ | (with_reducible refine Below.alloc ?_ ?_ _; rotate_left; focus ((first | exact Nat.le_refl _ | (simp; done) | (simp; omega) | omega | fail))) | (with_reducible refine Below.setCell ?_ ?_ _; rotate_left; focus ((first | exact Nat.le_refl _ | (simp; done) | (simp; omega) | omega | fail))) | with_reducible refine Mem.bel_drewN ?_ _ | with_reducible refine Below.drew ?_ | (with_reducible refine Mem.bel_call (by with_reducible assumption) ?_ ?_; focus ((first | exact Nat.le_refl _ | (simp; done) | (simp; omega) | omega | fail))) | fail)))
          | false =>
            have RW3 := RW2.out rfl
            obtain ⟨⟨vv, ok⟩, hw⟩ : ∃ r, r = whl V N true := ⟨_, rfl⟩
            rw [← hw] at WA RW3
            cases ok with
            | true =>
              have Z := Lib.hid (RW3.trans (if_pos rfl))
              clear RW3 RW2 hw
              rcases QS.out with ⟨h1N, q48⟩ | q1N
              all_goals
                go_wp2_with fail
                with_reducible refine (PL.out _).mono ?_
                rintro e w1 ⟨rfl, rfl⟩
                go_wp2_with fail
                with_reducible refine (G.out _ _ _ (by first | rfl | omega | (simp; done) | (simp; omega)) (YE.out _ (HB.alloc (Nat.le_refl _) _))).mono ?_
                rintro e w1 ⟨rfl, rfl⟩
                go_wp2_with fail
                with_reducible refine (WA.out _ _ _ _ (by first | rfl | omega | (simp; done) | (simp; omega)) (by first | exact YRH.out _ (HB.alloc (Nat.le_refl _) _) | (rw [List.drop_zero]; exact HB.alloc (Nat.le_refl _) _))).mono ?_
                rintro e w1 ⟨rfl, rfl⟩
                go_wp2_with fail
                try simp only [Exit.inBlock, Exit.then]
                refine post_rj (x0 := .int .i64 9) (x1 := .int .i64 vv) (x2 := .string ⟨#[]⟩) (x3 := .int .i64 0) (x4 := .int .i64 (1 + (N : Int))) rfl rfl rfl (by go_simp) (by go_simp) (by go_simp) (by go_simp) (by go_simp) ?_
                exact tkW_ret (numW_ok Z.out) rfl rfl rfl rfl (by push_cast; omega) rfl (by (repeat' (first | with_reducible assumption | with_reducible exact Below.refl _ _ | (with_reducible refine Below.alloc ?_ ?_ _; rotate_left; focus ((first | exact Nat.le_refl _ | (simp; done) | (simp; omega) | omega | fail))) | (with_reducible refine Below.setCell ?_ ?_ _; rotate_left; focus ((first | exact Nat.le_refl _ | (simp; done) | (simp; omega) | omega | fail))) | with_reducible refine Mem.bel_drewN ?_ _ | with_reducible refine Below.drew ?_ | (with_reducible refine Mem.bel_call (by with_reducible assumption) ?_ ?_; focus ((first | exact Nat.le_refl _ | (simp; done) | (simp; omega) | omega | fail))) | fail)))
            | false =>
              have Z := Lib.hid (RW3.trans (if_neg (by simp)))
              clear RW3 RW2 hw
              rcases QS.out with ⟨h1N, q48⟩ | q1N
              all_goals
                go_wp2_with fail
                with_reducible refine (PL.out _).mono ?_
                rintro e w1 ⟨rfl, rfl⟩
                go_wp2_with fail
                with_reducible refine (G.out _ _ _ (by first | rfl | omega | (simp; done) | (simp; omega)) (YE.out _ (HB.alloc (Nat.le_refl _) _))).mono ?_
                rintro e w1 ⟨rfl, rfl⟩
                go_wp2_with fail
                with_reducible refine (WA.out _ _ _ _ (by first | rfl | omega | (simp; done) | (simp; omega)) (by first | exact YRH.out _ (HB.alloc (Nat.le_refl _) _) | (rw [List.drop_zero]; exact HB.alloc (Nat.le_refl _) _))).mono ?_
                rintro e w1 ⟨rfl, rfl⟩
                go_wp2_with fail
                try simp only [Exit.inBlock, Exit.then]
                refine post_rj (x0 := .int .i64 0) (x1 := .int .i64 0) (x2 := .string ⟨#[]⟩) (x3 := .int .i64 0) (x4 := .int .i64 0) rfl rfl rfl (by go_simp) (by go_simp) (by go_simp) (by go_simp) (by go_simp) ?_
                exact tkW_ret (numW_22 Z.out) rfl rfl rfl rfl rfl rfl (by (repeat' (first | with_reducible assumption | with_reducible exact Below.refl _ _ | (with_reducible refine Below.alloc ?_ ?_ _; rotate_left; focus ((first | exact Nat.le_refl _ | (simp; done) | (simp; omega) | omega | fail))) | (with_reducible refine Below.setCell ?_ ?_ _; rotate_left; focus ((first | exact Nat.le_refl _ | (simp; done) | (simp; omega) | omega | fail))) | with_reducible refine Mem.bel_drewN ?_ _ | with_reducible refine Below.drew ?_ | (with_reducible refine Mem.bel_call (by with_reducible assumption) ?_ ?_; focus ((first | exact Nat.le_refl _ | (simp; done) | (simp; omega) | omega | fail))) | fail)))
      · have hE2 : (1 + N) = l.length := by omega
        have c0 := Jx.byt_end (l := l) (i := (1 + N)) (by omega)
        have RWa := RW1.out
        have G := Lib.hid (fun A' n c' W hn => GA.out A' n c' W (1 + N) hn (by rw [DR.out (1 + N) (by omega)]; exact Bys.nil _ _ _))
        rw [c0] at RWa G
        rw [show Jx.isL 0 = false from rfl] at RWa G
        have RW3 := RWa (by decide) rfl
        clear RWa RW1 R22a R20a c0 c256
        have le0 : l.length - (1 + N) = 0 := by omega
        have hcE : c = (1 + N) ∨ c ≠ (1 + N) := by omega
        have HE2 := Lib.hid hE2
        clear hE2 hE
        obtain ⟨⟨vv, ok⟩, hw⟩ : ∃ r, r = whl V N true := ⟨_, rfl⟩
        rw [← hw] at WA RW3
        cases ok with
        | true =>
          have Z := Lib.hid (RW3.trans (if_pos rfl))
          clear RW3 hw
          rcases QS.out with ⟨h1N, q48⟩ | q1N
          all_goals
            rcases hcE with hcE | hcE
            first | (have hq := hcE.symm; subst hq) | skip
            all_goals
              go_wp2_with fail
              with_reducible refine (G.out _ _ _ _ (by first | rfl | omega | (simp; done) | (simp; omega))).mono ?_
              rintro e w1 ⟨rfl, rfl⟩
              go_wp2_with fail
              with_reducible refine (WA.out _ _ _ _ (by first | rfl | omega | (simp; done) | (simp; omega)) (by first | exact YRH.out _ (HB.alloc (Nat.le_refl _) _) | (rw [List.drop_zero]; exact HB.alloc (Nat.le_refl _) _))).mono ?_
              rintro e w1 ⟨rfl, rfl⟩
              go_wp2_with fail
              try simp only [Exit.inBlock, Exit.then]
              refine post_rj (x0 := .int .i64 9) (x1 := .int .i64 vv) (x2 := .string ⟨#[]⟩) (x3 := .int .i64 0) (x4 := .int .i64 (1 + (N : Int))) rfl rfl rfl (by go_simp) (by go_simp) (by go_simp) (by go_simp) (by go_simp) ?_
              exact tkW_ret (numW_ok Z.out) rfl rfl rfl rfl (by push_cast; omega) rfl (by (repeat' (first | with_reducible assumption | with_reducible exact Below.refl _ _ | (with_reducible refine Below.alloc ?_ ?_ _; rotate_left; focus ((first | exact Nat.le_refl _ | (simp; done) | (simp; omega) | omega | fail))) | (with_reducible refine Below.setCell ?_ ?_ _; rotate_left; focus ((first | exact Nat.le_refl _ | (simp; done) | (simp; omega) | omega | fail))) | with_reducible refine Mem.bel_drewN ?_ _ | with_reducible refine Below.drew ?_ | (with_reducible refine Mem.bel_call (by with_reducible assumption) ?_ ?_; focus ((first | exact Nat.le_refl _ | (simp; done) | (simp; omega) | omega | fail))) | fail)))
        | false =>
          have Z := Lib.hid (RW3.trans (if_neg (by simp)))
          clear RW3 hw
          rcases QS.out with ⟨h1N, q48⟩ | q1N
          all_goals
            rcases hcE with hcE | hcE
            first | (have hq := hcE.symm; subst hq) | skip
            all_goals
              go_wp2_with fail
              with_reducible refine (G.out _ _ _ _ (by first | rfl | omega | (simp; done) | (simp; omega))).mono ?_
              rintro e w1 ⟨rfl, rfl⟩
              go_wp2_with fail
              with_reducible refine (WA.out _ _ _ _ (by first | rfl | omega | (simp; done) | (simp; omega)) (by first | exact YRH.out _ (HB.alloc (Nat.le_refl _) _) | (rw [List.drop_zero]; exact HB.alloc (Nat.le_refl _) _))).mono ?_
              rintro e w1 ⟨rfl, rfl⟩
              go_wp2_with fail
              try simp only [Exit.inBlock, Exit.then]
              refine post_rj (x0 := .int .i64 0) (x1 := .int .i64 0) (x2 := .string ⟨#[]⟩) (x3 := .int .i64 0) (x4 := .int .i64 0) rfl rfl rfl (by go_simp) (by go_simp) (by go_simp) (by go_simp) (by go_simp) ?_
              exact tkW_ret (numW_22 Z.out) rfl rfl rfl rfl rfl rfl (by (repeat' (first | with_reducible assumption | with_reducible exact Below.refl _ _ | (with_reducible refine Below.alloc ?_ ?_ _; rotate_left; focus ((first | exact Nat.le_refl _ | (simp; done) | (simp; omega) | omega | fail))) | (with_reducible refine Below.setCell ?_ ?_ _; rotate_left; focus ((first | exact Nat.le_refl _ | (simp; done) | (simp; omega) | omega | fail))) | with_reducible refine Mem.bel_drewN ?_ _ | with_reducible refine Below.drew ?_ | (with_reducible refine Mem.bel_call (by with_reducible assumption) ?_ ?_; focus ((first | exact Nat.le_refl _ | (simp; done) | (simp; omega) | omega | fail))) | fail)))

theorem number_any (A : Option Addr) (c : Nat) (l : List UInt8) (w : World) (hb : Bys w w.heap.size A l) (hl : l.length ≤ 60000000000) (hc : l.length ≤ c) (h0 : 0 < l.length) :
    Calls Tryd.prog 45 #[.slice A l.length c] w (TkW (numW (Jx.num l)) w) := by
  unfold Jx.num
  by_cases h : Jx.byt l 0 = 45
  · rw [if_pos h]; exact number_1 A c l w hb hl hc h0 h
  · rw [if_neg h]
    have := number_0 A c l w hb hl hc h0 h
    rw [List.drop_zero] at this
    exact this
end Go.Proofs.YtjebkedlfhapjaaDoor
