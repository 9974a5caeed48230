/- Joined by tools/bundle.py: JlexN JlexE. -/
import Derived.Test.YthogheglddfniaaGreatDoorW7
import Derived.Test.YthogheglddfniaaGreatDoorW22
import Derived.Test.YthogheglddfniaaGreatDoorW0
set_option maxRecDepth 100000
set_option maxHeartbeats 16000000
namespace Go.Proofs.YthogheglddfniaaGreatDoor
open Go.ChangeShapes Go.WideShapes Go.ChangeAt Go.RowKit Mem
theorem number_0 (A : Option Addr) (c : Nat) (l : List UInt8) (w : World) (hb : Bys w w.heap.size A l) (hl : l.length ≤ 60000000000) (hc : l.length ≤ c) (h0 : 0 < l.length) (h45 : Jx.byt l 0 ≠ 45) :
 Calls Tryz.prog 150 #[.slice A l.length c] w (TkW (numW (Jx.numR 0 (l.drop 0))) w) := by
 have CS := cell_set
 obtain ⟨b, off, rfl, hB, cell0⟩ := bys_cell hb h0
 rw [Nat.add_zero] at cell0
 have q45 : ((Jx.byt l 0 : Int) == 45) = false := by rw [beq_eq_false_iff_ne]; omega
 have hm1 : 0 ≤ l.length := by omega
 have ld : (l.drop 0).length = l.length - 0 := List.length_drop
 have hcl := Jx.cnt_le Jx.isD (l.drop 0)
 rw [ld] at hcl
 have cin := fun j => Jx.cnt_in Jx.isD (l.drop 0) (k := j)
 have r20 := @numR_20 0 (l.drop 0)
 have r22 := @numR_22 0 (l.drop 0)
 have rw_ := @numR_whl 0 (l.drop 0) (by omega)
 have bd : ∀ k, Jx.byt (l.drop 0) k = Jx.byt l (0 + k) := fun k => Jx.byt_drop l 0 k
 have YR : ∀ W, Bys W w.heap.size (some ⟨b, off, none⟩) l → Bys W w.heap.size (some ⟨b, off + 0, none⟩) (l.drop 0) := fun W h => h.tail 0
 have Y2 : ∀ W k, Bys W w.heap.size (some ⟨b, off, none⟩) l → Bys W w.heap.size (some ⟨b, off + k, none⟩) (l.drop k) := fun W k h => h.tail k
 have CELL : ∀ k, k < l.length → w.cell? ⟨b, off + k, none⟩ = some (.int .u8 (Jx.byt l k : Int)) := fun k hk => by
  obtain ⟨b2, off2, e2, _, h⟩ := bys_cell hb hk
  simp only [Option.some.injEq, Addr.mk.injEq, and_true] at e2
  obtain ⟨rfl, rfl⟩ := e2
  exact h
 have da : ∀ A' n c' W, n = l.length - 0 → Bys W w.heap.size A' (l.drop 0) → Calls Tryz.prog 171 #[.slice A' n c'] W fun e w' => e = .returned (.int .i64 (Jx.cnt Jx.isD (l.drop 0) : Int)) ∧ W = w' := fun A' n c' W hn hA => by
  have := digitsAhead_any A' c' (l.drop 0) W _ hA (by rw [ld]; omega)
  rw [ld, ← hn] at this
  exact this
 have wa : ∀ A' n c' W, n = l.length - 0 → Bys W w.heap.size A' (l.drop 0) → Calls Tryz.prog 173 #[.slice A' n c', .int .i64 (Jx.cnt Jx.isD (l.drop 0) : Int), .bool false] W (Wh (whl (Jx.val ((l.drop 0).take (Jx.cnt Jx.isD (l.drop 0)))) (Jx.cnt Jx.isD (l.drop 0)) false) W) := fun A' n c' W hn hA => by
  have := jwhole_any A' c' (l.drop 0) (Jx.cnt Jx.isD (l.drop 0)) false W _ hA (Jx.cnt_le _ _) cin
  rw [ld, ← hn] at this
  exact this
 rw [show ((0 : Nat) == 1) = false from rfl] at rw_
 have ga : ∀ A' n c' W k, n = l.length - k → Bys W w.heap.size A' (l.drop k) → Calls Tryz.prog 172 #[.slice A' n c'] W fun e w' => e = .returned (.bool (Jx.isL (Jx.byt l k))) ∧ W = w' := fun A' n c' W k hn hA => by
  have := goesOn_any A' c' (l.drop k) W _ hA
  rw [Jx.byt_drop, Nat.add_zero, List.length_drop, ← hn] at this
  exact this
 have c256 := Jx.byt_lt l (0 + Jx.cnt Jx.isD (l.drop 0))
 simp only [bd, Nat.add_zero, Nat.zero_add] at r20 r22 rw_ c256
 generalize Jx.numR 0 (l.drop 0) = R at *
 obtain ⟨V, hV⟩ : ∃ V, V = Jx.val ((l.drop 0).take (Jx.cnt Jx.isD (l.drop 0))) := ⟨_, rfl⟩
 rw [← hV] at wa rw_
 obtain ⟨N, hN⟩ : ∃ N, N = Jx.cnt Jx.isD (l.drop 0) := ⟨_, rfl⟩
 rw [← hN] at wa rw_ da r20 r22 c256 hcl
 have HB := hb
 have DA := Lib.hid da; have WA := Lib.hid wa; have R20 := Lib.hid r20; have R22 := Lib.hid r22; have RW := Lib.hid rw_; have GA := Lib.hid ga; have CL := Lib.hid CELL; have YRH := Lib.hid YR; have Y2H := Lib.hid Y2
 have C00 := CELL (0 + 0)
 have DR := Lib.hid (show ∀ k, l.length ≤ k → l.drop k = [] from fun k hk => List.drop_eq_nil_of_le hk)
 clear da wa r20 r22 rw_ ga CELL YR Y2 hV hN cin bd h45 hb
 have hcM : c ≠ 0 := by omega
 go_enter Tryz.func150, Tryz.ntmps150
 go_wp2_with fail
 with_reducible refine (DA.out _ _ _ _ (by first | rfl | omega | (simp; done) | (simp; omega)) (by first | exact YRH.out _ (HB.alloc (Nat.le_refl _) _) | (rw [List.drop_zero]; exact HB.alloc (Nat.le_refl _) _))).mono ?_
 rintro e w1 ⟨rfl, rfl⟩
 by_cases hN0 : N = 0
 · have Z := Lib.hid (R20.out (.inl hN0))
   subst hN0
   go_wp2_with fail
   try simp only [Exit.inBlock, Exit.then]
   refine post_rj (x0 := .int .i64 0) (x1 := .int .i64 0) (x2 := .string ⟨#[]⟩) (x3 := .int .i64 0) (x4 := .int .i64 0) rfl rfl rfl (by go_simp) (by go_simp) (by go_simp) (by go_simp) (by go_simp) ?_
   exact tkW_ret (numW_20 Z.out) rfl rfl rfl rfl rfl rfl bqq
 · have q0 : ((N : Int) == 0) = false := by rw [beq_eq_false_iff_ne]; omega
   have cM := CL.out 0 (by omega)
   by_cases hA : Jx.byt l 0 = 48 ∧ 1 < N
   · have Z := Lib.hid (R20.out (.inr (.inl hA)))
     obtain ⟨hA1, hA2⟩ := hA
     have q48 : ((Jx.byt l 0 : Int) == 48) = true := by rw [beq_iff_eq]; omega
     go_wp2_with fail
     all_goals
      try simp only [Exit.inBlock, Exit.then]
      refine post_rj (x0 := .int .i64 0) (x1 := .int .i64 0) (x2 := .string ⟨#[]⟩) (x3 := .int .i64 0) (x4 := .int .i64 0) rfl rfl rfl (by go_simp) (by go_simp) (by go_simp) (by go_simp) (by go_simp) ?_
      exact tkW_ret (numW_20 Z.out) rfl rfl rfl rfl rfl rfl bqq
   · have hA3 : 1 < N → ((Jx.byt l 0 : Int) == 48) = false := fun h => by rw [beq_eq_false_iff_ne]; omega
     have hA0 : ¬ (N = 0 ∨ (Jx.byt l 0 = 48 ∧ 1 < N)) := by omega
     have RW1 := Lib.hid (RW.out hA0)
     have R22a := Lib.hid (fun h => R22.out (fun k => by rcases k with k | k | k; (· exact hN0 k); (· exact hA k); (· exact (h : ¬ (Jx.isL (Jx.byt l N) = true ∧ Jx.byt l N ≠ 101 ∧ Jx.byt l N ≠ 69)) k)))
     have R20a := Lib.hid (fun h => R20.out (.inr (.inr h)))
     have QS : Hid (1 < N ∧ ((Jx.byt l 0 : Int) == 48) = false ∨ decide ((1 : Int) < (N : Int)) = false) := by
      by_cases h : 1 < N
      · exact .inl ⟨h, hA3 h⟩
      · exact .inr (by simp; omega)
     clear R20 R22 RW hA hA0 hA3
     by_cases hE : N < l.length
     · have cE := CL.out N hE
       have hcE : c ≠ N := by omega
       have PL := Lib.hid (place_any ⟨#[46, 101, 69]⟩ (Jx.byt l N))
       have pp := place_point (Jx.byt l N) c256
       rw [show (⟨#[46, 101, 69]⟩ : ByteArray).data.toList = [46, 101, 69] from rfl] at PL
       have G := Lib.hid (fun n c' W hn hA => GA.out (some ⟨b, off + N, none⟩) n c' W N hn hA)
       have YE : Hid (∀ W, Bys W w.heap.size (some ⟨b, off, none⟩) l → Bys W w.heap.size (some ⟨b, off + N, none⟩) (l.drop N)) := fun W h => Y2H.out W N h
       have lnr : decide ((0 : Int) < ((l.length - N : Nat) : Int)) = true := by simp; omega
       obtain ⟨I, hI⟩ : ∃ I, I = place [46, 101, 69] (Jx.byt l N) := ⟨_, rfl⟩
       rw [← hI] at PL pp
       clear hI
       generalize hC : Jx.byt l N = C at *
       by_cases hp : 0 ≤ I
       · have hp2 := pp.1 hp
         have Z := Lib.hid (R22a.out (fun k => by rcases hp2 with h | h | h; (· subst h; exact absurd k.1 (by decide)); (· exact k.2.1 h); (· exact k.2.2 h)) (by rcases hp2 with h | h | h; (· exact .inl h); (· subst h; exact .inr (.inl rfl)); (· subst h; exact .inr (.inl rfl))))
         rcases QS.out with ⟨h1N, q48⟩ | q1N
         all_goals
          go_wp2_with fail
          with_reducible refine (PL.out _).mono ?_
          rintro e w1 ⟨rfl, rfl⟩
          go_wp2_with fail
          try simp only [Exit.inBlock, Exit.then]
          refine post_rj (x0 := .int .i64 0) (x1 := .int .i64 0) (x2 := .string ⟨#[]⟩) (x3 := .int .i64 0) (x4 := .int .i64 0) rfl rfl rfl (by go_simp) (by go_simp) (by go_simp) (by go_simp) (by go_simp) ?_
          exact tkW_ret (numW_22 Z.out) rfl rfl rfl rfl rfl rfl bqq
       · have hp2 : C ≠ 46 ∧ C ≠ 101 ∧ C ≠ 69 := by omega
         obtain ⟨n46, n101, n69⟩ := hp2
         have RW2 := Lib.hid (RW1.out n46)
         have R20b := Lib.hid (fun h => R20a.out ⟨h, n101, n69⟩)
         clear pp n46 n101 n69 RW1 R20a R22a
         obtain ⟨LC, hLC⟩ : ∃ x, x = Jx.isL C := ⟨_, rfl⟩
         rw [← hLC] at G RW2 R20b
         clear hLC
         cases LC with
         | true =>
          have Z := Lib.hid (R20b.out rfl)
          rcases QS.out with ⟨h1N, q48⟩ | q1N
          all_goals
           go_wp2_with fail
           with_reducible refine (PL.out _).mono ?_
           rintro e w1 ⟨rfl, rfl⟩
           go_wp2_with fail
           with_reducible refine (G.out _ _ _ (by first | rfl | omega | (simp; done) | (simp; omega)) (YE.out _ (HB.alloc (Nat.le_refl _) _))).mono ?_
           rintro e w1 ⟨rfl, rfl⟩
           go_wp2_with fail
           try simp only [Exit.inBlock, Exit.then]
           refine post_rj (x0 := .int .i64 0) (x1 := .int .i64 0) (x2 := .string ⟨#[]⟩) (x3 := .int .i64 0) (x4 := .int .i64 0) rfl rfl rfl (by go_simp) (by go_simp) (by go_simp) (by go_simp) (by go_simp) ?_
           exact tkW_ret (numW_20 Z.out) rfl rfl rfl rfl rfl rfl bqq
         | false =>
          have RW3 := RW2.out rfl
          obtain ⟨⟨vv, ok⟩, hw⟩ : ∃ r, r = whl V N false := ⟨_, rfl⟩
          rw [← hw] at WA RW3
          cases ok with
          | true =>
           have Z := Lib.hid (RW3.trans (if_pos rfl))
           clear RW3 RW2 hw
           rcases QS.out with ⟨h1N, q48⟩ | q1N
           all_goals
            go_wp2_with fail
            with_reducible refine (PL.out _).mono ?_
            rintro e w1 ⟨rfl, rfl⟩
            go_wp2_with fail
            with_reducible refine (G.out _ _ _ (by first | rfl | omega | (simp; done) | (simp; omega)) (YE.out _ (HB.alloc (Nat.le_refl _) _))).mono ?_
            rintro e w1 ⟨rfl, rfl⟩
            go_wp2_with fail
            with_reducible refine (WA.out _ _ _ _ (by first | rfl | omega | (simp; done) | (simp; omega)) (by first | exact YRH.out _ (HB.alloc (Nat.le_refl _) _) | (rw [List.drop_zero]; exact HB.alloc (Nat.le_refl _) _))).mono ?_
            rintro e w1 ⟨rfl, rfl⟩
            go_wp2_with fail
            try simp only [Exit.inBlock, Exit.then]
            refine post_rj (x0 := .int .i64 9) (x1 := .int .i64 vv) (x2 := .string ⟨#[]⟩) (x3 := .int .i64 0) (x4 := .int .i64 (N : Int)) rfl rfl rfl (by go_simp) (by go_simp) (by go_simp) (by go_simp) (by go_simp) ?_
            exact tkW_ret (numW_ok Z.out) rfl rfl rfl rfl (by push_cast; omega) rfl bqq
          | false =>
           have Z := Lib.hid (RW3.trans (if_neg (by simp)))
           clear RW3 RW2 hw
           rcases QS.out with ⟨h1N, q48⟩ | q1N
           all_goals
            go_wp2_with fail
            with_reducible refine (PL.out _).mono ?_
            rintro e w1 ⟨rfl, rfl⟩
            go_wp2_with fail
            with_reducible refine (G.out _ _ _ (by first | rfl | omega | (simp; done) | (simp; omega)) (YE.out _ (HB.alloc (Nat.le_refl _) _))).mono ?_
            rintro e w1 ⟨rfl, rfl⟩
            go_wp2_with fail
            with_reducible refine (WA.out _ _ _ _ (by first | rfl | omega | (simp; done) | (simp; omega)) (by first | exact YRH.out _ (HB.alloc (Nat.le_refl _) _) | (rw [List.drop_zero]; exact HB.alloc (Nat.le_refl _) _))).mono ?_
            rintro e w1 ⟨rfl, rfl⟩
            go_wp2_with fail
            try simp only [Exit.inBlock, Exit.then]
            refine post_rj (x0 := .int .i64 0) (x1 := .int .i64 0) (x2 := .string ⟨#[]⟩) (x3 := .int .i64 0) (x4 := .int .i64 0) rfl rfl rfl (by go_simp) (by go_simp) (by go_simp) (by go_simp) (by go_simp) ?_
            exact tkW_ret (numW_22 Z.out) rfl rfl rfl rfl rfl rfl bqq
     · have hE2 : N = l.length := by omega
       have c0 := Jx.byt_end (l := l) (i := N) (by omega)
       have RWa := RW1.out
       have G := Lib.hid (fun A' n c' W hn => GA.out A' n c' W N hn (by rw [DR.out N (by omega)]; exact Bys.nil _ _ _))
       rw [c0] at RWa G
       rw [show Jx.isL 0 = false from rfl] at RWa G
       have RW3 := RWa (by decide) rfl
       clear RWa RW1 R22a R20a c0 c256
       have le0 : l.length - N = 0 := by omega
       have hcE : c = N ∨ c ≠ N := by omega
       have HE2 := Lib.hid hE2
       clear hE2 hE
       obtain ⟨⟨vv, ok⟩, hw⟩ : ∃ r, r = whl V N false := ⟨_, rfl⟩
       rw [← hw] at WA RW3
       cases ok with
       | true =>
        have Z := Lib.hid (RW3.trans (if_pos rfl))
        clear RW3 hw
        rcases QS.out with ⟨h1N, q48⟩ | q1N
        all_goals
         rcases hcE with hcE | hcE
         first | (have hq := hcE.symm; subst hq) | skip
         all_goals
          go_wp2_with fail
          with_reducible refine (G.out _ _ _ _ (by first | rfl | omega | (simp; done) | (simp; omega))).mono ?_
          rintro e w1 ⟨rfl, rfl⟩
          go_wp2_with fail
          with_reducible refine (WA.out _ _ _ _ (by first | rfl | omega | (simp; done) | (simp; omega)) (by first | exact YRH.out _ (HB.alloc (Nat.le_refl _) _) | (rw [List.drop_zero]; exact HB.alloc (Nat.le_refl _) _))).mono ?_
          rintro e w1 ⟨rfl, rfl⟩
          go_wp2_with fail
          try simp only [Exit.inBlock, Exit.then]
          refine post_rj (x0 := .int .i64 9) (x1 := .int .i64 vv) (x2 := .string ⟨#[]⟩) (x3 := .int .i64 0) (x4 := .int .i64 (N : Int)) rfl rfl rfl (by go_simp) (by go_simp) (by go_simp) (by go_simp) (by go_simp) ?_
          exact tkW_ret (numW_ok Z.out) rfl rfl rfl rfl (by push_cast; omega) rfl bqq
       | false =>
        have Z := Lib.hid (RW3.trans (if_neg (by simp)))
        clear RW3 hw
        rcases QS.out with ⟨h1N, q48⟩ | q1N
        all_goals
         rcases hcE with hcE | hcE
         first | (have hq := hcE.symm; subst hq) | skip
         all_goals
          go_wp2_with fail
          with_reducible refine (G.out _ _ _ _ (by first | rfl | omega | (simp; done) | (simp; omega))).mono ?_
          rintro e w1 ⟨rfl, rfl⟩
          go_wp2_with fail
          with_reducible refine (WA.out _ _ _ _ (by first | rfl | omega | (simp; done) | (simp; omega)) (by first | exact YRH.out _ (HB.alloc (Nat.le_refl _) _) | (rw [List.drop_zero]; exact HB.alloc (Nat.le_refl _) _))).mono ?_
          rintro e w1 ⟨rfl, rfl⟩
          go_wp2_with fail
          try simp only [Exit.inBlock, Exit.then]
          refine post_rj (x0 := .int .i64 0) (x1 := .int .i64 0) (x2 := .string ⟨#[]⟩) (x3 := .int .i64 0) (x4 := .int .i64 0) rfl rfl rfl (by go_simp) (by go_simp) (by go_simp) (by go_simp) (by go_simp) ?_
          exact tkW_ret (numW_22 Z.out) rfl rfl rfl rfl rfl rfl bqq
theorem number_1 (A : Option Addr) (c : Nat) (l : List UInt8) (w : World) (hb : Bys w w.heap.size A l) (hl : l.length ≤ 60000000000) (hc : l.length ≤ c) (h0 : 0 < l.length) (h45 : Jx.byt l 0 = 45) :
 Calls Tryz.prog 150 #[.slice A l.length c] w (TkW (numW (Jx.numR 1 (l.drop 1))) w) := by
 have CS := cell_set
 obtain ⟨b, off, rfl, hB, cell0⟩ := bys_cell hb h0
 rw [Nat.add_zero] at cell0
 have q45 : ((Jx.byt l 0 : Int) == 45) = true := by rw [beq_iff_eq]; omega
 have hm1 : 1 ≤ l.length := by omega
 have ld : (l.drop 1).length = l.length - 1 := List.length_drop
 have hcl := Jx.cnt_le Jx.isD (l.drop 1)
 rw [ld] at hcl
 have cin := fun j => Jx.cnt_in Jx.isD (l.drop 1) (k := j)
 have r20 := @numR_20 1 (l.drop 1)
 have r22 := @numR_22 1 (l.drop 1)
 have rw_ := @numR_whl 1 (l.drop 1) (by omega)
 have bd : ∀ k, Jx.byt (l.drop 1) k = Jx.byt l (1 + k) := fun k => Jx.byt_drop l 1 k
 have YR : ∀ W, Bys W w.heap.size (some ⟨b, off, none⟩) l → Bys W w.heap.size (some ⟨b, off + 1, none⟩) (l.drop 1) := fun W h => h.tail 1
 have Y2 : ∀ W k, Bys W w.heap.size (some ⟨b, off, none⟩) l → Bys W w.heap.size (some ⟨b, off + k, none⟩) (l.drop k) := fun W k h => h.tail k
 have CELL : ∀ k, k < l.length → w.cell? ⟨b, off + k, none⟩ = some (.int .u8 (Jx.byt l k : Int)) := fun k hk => by
  obtain ⟨b2, off2, e2, _, h⟩ := bys_cell hb hk
  simp only [Option.some.injEq, Addr.mk.injEq, and_true] at e2
  obtain ⟨rfl, rfl⟩ := e2
  exact h
 have da : ∀ A' n c' W, n = l.length - 1 → Bys W w.heap.size A' (l.drop 1) → Calls Tryz.prog 171 #[.slice A' n c'] W fun e w' => e = .returned (.int .i64 (Jx.cnt Jx.isD (l.drop 1) : Int)) ∧ W = w' := fun A' n c' W hn hA => by
  have := digitsAhead_any A' c' (l.drop 1) W _ hA (by rw [ld]; omega)
  rw [ld, ← hn] at this
  exact this
 have wa : ∀ A' n c' W, n = l.length - 1 → Bys W w.heap.size A' (l.drop 1) → Calls Tryz.prog 173 #[.slice A' n c', .int .i64 (Jx.cnt Jx.isD (l.drop 1) : Int), .bool true] W (Wh (whl (Jx.val ((l.drop 1).take (Jx.cnt Jx.isD (l.drop 1)))) (Jx.cnt Jx.isD (l.drop 1)) true) W) := fun A' n c' W hn hA => by
  have := jwhole_any A' c' (l.drop 1) (Jx.cnt Jx.isD (l.drop 1)) true W _ hA (Jx.cnt_le _ _) cin
  rw [ld, ← hn] at this
  exact this
 rw [show ((1 : Nat) == 1) = true from rfl] at rw_
 have ga : ∀ A' n c' W k, n = l.length - k → Bys W w.heap.size A' (l.drop k) → Calls Tryz.prog 172 #[.slice A' n c'] W fun e w' => e = .returned (.bool (Jx.isL (Jx.byt l k))) ∧ W = w' := fun A' n c' W k hn hA => by
  have := goesOn_any A' c' (l.drop k) W _ hA
  rw [Jx.byt_drop, Nat.add_zero, List.length_drop, ← hn] at this
  exact this
 have c256 := Jx.byt_lt l (1 + Jx.cnt Jx.isD (l.drop 1))
 simp only [bd, Nat.add_zero] at r20 r22 rw_
 generalize Jx.numR 1 (l.drop 1) = R at *
 obtain ⟨V, hV⟩ : ∃ V, V = Jx.val ((l.drop 1).take (Jx.cnt Jx.isD (l.drop 1))) := ⟨_, rfl⟩
 rw [← hV] at wa rw_
 obtain ⟨N, hN⟩ : ∃ N, N = Jx.cnt Jx.isD (l.drop 1) := ⟨_, rfl⟩
 rw [← hN] at wa rw_ da r20 r22 c256 hcl
 have HB := hb
 have DA := Lib.hid da; have WA := Lib.hid wa; have R20 := Lib.hid r20; have R22 := Lib.hid r22; have RW := Lib.hid rw_; have GA := Lib.hid ga; have CL := Lib.hid CELL; have YRH := Lib.hid YR; have Y2H := Lib.hid Y2
 have C00 := CELL (1 + 0)
 have DR := Lib.hid (show ∀ k, l.length ≤ k → l.drop k = [] from fun k hk => List.drop_eq_nil_of_le hk)
 clear da wa r20 r22 rw_ ga CELL YR Y2 hV hN cin bd h45 hb
 by_cases hcM : c = 1
 · subst hcM
   have hL1 : l.length = 1 := by omega
   obtain rfl : N = 0 := by omega
   have Z := Lib.hid (R20.out (.inl rfl))
   have DRM := Lib.hid (show ∀ A' W, Bys W w.heap.size A' (l.drop 1) from fun A' W => by rw [DR.out 1 (by omega)]; exact Bys.nil _ _ _)
   go_enter Tryz.func150, Tryz.ntmps150
   go_wp2_with fail
   with_reducible refine (DA.out _ _ _ _ (by first | rfl | omega | (simp; done) | (simp; omega)) (DRM.out _ _)).mono ?_
   rintro e w1 ⟨rfl, rfl⟩
   go_wp2_with fail
   try simp only [Exit.inBlock, Exit.then]
   refine post_rj (x0 := .int .i64 0) (x1 := .int .i64 0) (x2 := .string ⟨#[]⟩) (x3 := .int .i64 0) (x4 := .int .i64 0) rfl rfl rfl (by go_simp) (by go_simp) (by go_simp) (by go_simp) (by go_simp) ?_
   exact tkW_ret (numW_20 Z.out) rfl rfl rfl rfl rfl rfl bqq
 go_enter Tryz.func150, Tryz.ntmps150
 go_wp2_with fail
 with_reducible refine (DA.out _ _ _ _ (by first | rfl | omega | (simp; done) | (simp; omega)) (by first | exact YRH.out _ (HB.alloc (Nat.le_refl _) _) | (rw [List.drop_zero]; exact HB.alloc (Nat.le_refl _) _))).mono ?_
 rintro e w1 ⟨rfl, rfl⟩
 by_cases hN0 : N = 0
 · have Z := Lib.hid (R20.out (.inl hN0))
   subst hN0
   go_wp2_with fail
   try simp only [Exit.inBlock, Exit.then]
   refine post_rj (x0 := .int .i64 0) (x1 := .int .i64 0) (x2 := .string ⟨#[]⟩) (x3 := .int .i64 0) (x4 := .int .i64 0) rfl rfl rfl (by go_simp) (by go_simp) (by go_simp) (by go_simp) (by go_simp) ?_
   exact tkW_ret (numW_20 Z.out) rfl rfl rfl rfl rfl rfl bqq
 · have q0 : ((N : Int) == 0) = false := by rw [beq_eq_false_iff_ne]; omega
   have cM := CL.out 1 (by omega)
   by_cases hA : Jx.byt l 1 = 48 ∧ 1 < N
   · have Z := Lib.hid (R20.out (.inr (.inl hA)))
     obtain ⟨hA1, hA2⟩ := hA
     have q48 : ((Jx.byt l 1 : Int) == 48) = true := by rw [beq_iff_eq]; omega
     go_wp2_with fail
     all_goals
      try simp only [Exit.inBlock, Exit.then]
      refine post_rj (x0 := .int .i64 0) (x1 := .int .i64 0) (x2 := .string ⟨#[]⟩) (x3 := .int .i64 0) (x4 := .int .i64 0) rfl rfl rfl (by go_simp) (by go_simp) (by go_simp) (by go_simp) (by go_simp) ?_
      exact tkW_ret (numW_20 Z.out) rfl rfl rfl rfl rfl rfl bqq
   · have hA3 : 1 < N → ((Jx.byt l 1 : Int) == 48) = false := fun h => by rw [beq_eq_false_iff_ne]; omega
     have hA0 : ¬ (N = 0 ∨ (Jx.byt l 1 = 48 ∧ 1 < N)) := by omega
     have RW1 := Lib.hid (RW.out hA0)
     have R22a := Lib.hid (fun h => R22.out (fun k => by rcases k with k | k | k; (· exact hN0 k); (· exact hA k); (· exact (h : ¬ (Jx.isL (Jx.byt l (1 + N)) = true ∧ Jx.byt l (1 + N) ≠ 101 ∧ Jx.byt l (1 + N) ≠ 69)) k)))
     have R20a := Lib.hid (fun h => R20.out (.inr (.inr h)))
     have QS : Hid (1 < N ∧ ((Jx.byt l 1 : Int) == 48) = false ∨ decide ((1 : Int) < (N : Int)) = false) := by
      by_cases h : 1 < N
      · exact .inl ⟨h, hA3 h⟩
      · exact .inr (by simp; omega)
     clear R20 R22 RW hA hA0 hA3
     by_cases hE : (1 + N) < l.length
     · have cE := CL.out (1 + N) hE
       have hcE : c ≠ (1 + N) := by omega
       have PL := Lib.hid (place_any ⟨#[46, 101, 69]⟩ (Jx.byt l (1 + N)))
       have pp := place_point (Jx.byt l (1 + N)) c256
       rw [show (⟨#[46, 101, 69]⟩ : ByteArray).data.toList = [46, 101, 69] from rfl] at PL
       have G := Lib.hid (fun n c' W hn hA => GA.out (some ⟨b, off + (1 + N), none⟩) n c' W (1 + N) hn hA)
       have YE : Hid (∀ W, Bys W w.heap.size (some ⟨b, off, none⟩) l → Bys W w.heap.size (some ⟨b, off + (1 + N), none⟩) (l.drop (1 + N))) := fun W h => Y2H.out W (1 + N) h
       have lnr : decide ((0 : Int) < ((l.length - (1 + N) : Nat) : Int)) = true := by simp; omega
       obtain ⟨I, hI⟩ : ∃ I, I = place [46, 101, 69] (Jx.byt l (1 + N)) := ⟨_, rfl⟩
       rw [← hI] at PL pp
       clear hI
       generalize hC : Jx.byt l (1 + N) = C at *
       by_cases hp : 0 ≤ I
       · have hp2 := pp.1 hp
         have Z := Lib.hid (R22a.out (fun k => by rcases hp2 with h | h | h; (· subst h; exact absurd k.1 (by decide)); (· exact k.2.1 h); (· exact k.2.2 h)) (by rcases hp2 with h | h | h; (· exact .inl h); (· subst h; exact .inr (.inl rfl)); (· subst h; exact .inr (.inl rfl))))
         rcases QS.out with ⟨h1N, q48⟩ | q1N
         all_goals
          go_wp2_with fail
          with_reducible refine (PL.out _).mono ?_
          rintro e w1 ⟨rfl, rfl⟩
          go_wp2_with fail
          try simp only [Exit.inBlock, Exit.then]
          refine post_rj (x0 := .int .i64 0) (x1 := .int .i64 0) (x2 := .string ⟨#[]⟩) (x3 := .int .i64 0) (x4 := .int .i64 0) rfl rfl rfl (by go_simp) (by go_simp) (by go_simp) (by go_simp) (by go_simp) ?_
          exact tkW_ret (numW_22 Z.out) rfl rfl rfl rfl rfl rfl bqq
       · have hp2 : C ≠ 46 ∧ C ≠ 101 ∧ C ≠ 69 := by omega
         obtain ⟨n46, n101, n69⟩ := hp2
         have RW2 := Lib.hid (RW1.out n46)
         have R20b := Lib.hid (fun h => R20a.out ⟨h, n101, n69⟩)
         clear pp n46 n101 n69 RW1 R20a R22a
         obtain ⟨LC, hLC⟩ : ∃ x, x = Jx.isL C := ⟨_, rfl⟩
         rw [← hLC] at G RW2 R20b
         clear hLC
         cases LC with
         | true =>
          have Z := Lib.hid (R20b.out rfl)
          rcases QS.out with ⟨h1N, q48⟩ | q1N
          all_goals
           go_wp2_with fail
           with_reducible refine (PL.out _).mono ?_
           rintro e w1 ⟨rfl, rfl⟩
           go_wp2_with fail
           with_reducible refine (G.out _ _ _ (by first | rfl | omega | (simp; done) | (simp; omega)) (YE.out _ (HB.alloc (Nat.le_refl _) _))).mono ?_
           rintro e w1 ⟨rfl, rfl⟩
           go_wp2_with fail
           try simp only [Exit.inBlock, Exit.then]
           refine post_rj (x0 := .int .i64 0) (x1 := .int .i64 0) (x2 := .string ⟨#[]⟩) (x3 := .int .i64 0) (x4 := .int .i64 0) rfl rfl rfl (by go_simp) (by go_simp) (by go_simp) (by go_simp) (by go_simp) ?_
           exact tkW_ret (numW_20 Z.out) rfl rfl rfl rfl rfl rfl bqq
         | false =>
          have RW3 := RW2.out rfl
          obtain ⟨⟨vv, ok⟩, hw⟩ : ∃ r, r = whl V N true := ⟨_, rfl⟩
          rw [← hw] at WA RW3
          cases ok with
          | true =>
           have Z := Lib.hid (RW3.trans (if_pos rfl))
           clear RW3 RW2 hw
           rcases QS.out with ⟨h1N, q48⟩ | q1N
           all_goals
            go_wp2_with fail
            with_reducible refine (PL.out _).mono ?_
            rintro e w1 ⟨rfl, rfl⟩
            go_wp2_with fail
            with_reducible refine (G.out _ _ _ (by first | rfl | omega | (simp; done) | (simp; omega)) (YE.out _ (HB.alloc (Nat.le_refl _) _))).mono ?_
            rintro e w1 ⟨rfl, rfl⟩
            go_wp2_with fail
            with_reducible refine (WA.out _ _ _ _ (by first | rfl | omega | (simp; done) | (simp; omega)) (by first | exact YRH.out _ (HB.alloc (Nat.le_refl _) _) | (rw [List.drop_zero]; exact HB.alloc (Nat.le_refl _) _))).mono ?_
            rintro e w1 ⟨rfl, rfl⟩
            go_wp2_with fail
            try simp only [Exit.inBlock, Exit.then]
            refine post_rj (x0 := .int .i64 9) (x1 := .int .i64 vv) (x2 := .string ⟨#[]⟩) (x3 := .int .i64 0) (x4 := .int .i64 (1 + (N : Int))) rfl rfl rfl (by go_simp) (by go_simp) (by go_simp) (by go_simp) (by go_simp) ?_
            exact tkW_ret (numW_ok Z.out) rfl rfl rfl rfl (by push_cast; omega) rfl bqq
          | false =>
           have Z := Lib.hid (RW3.trans (if_neg (by simp)))
           clear RW3 RW2 hw
           rcases QS.out with ⟨h1N, q48⟩ | q1N
           all_goals
            go_wp2_with fail
            with_reducible refine (PL.out _).mono ?_
            rintro e w1 ⟨rfl, rfl⟩
            go_wp2_with fail
            with_reducible refine (G.out _ _ _ (by first | rfl | omega | (simp; done) | (simp; omega)) (YE.out _ (HB.alloc (Nat.le_refl _) _))).mono ?_
            rintro e w1 ⟨rfl, rfl⟩
            go_wp2_with fail
            with_reducible refine (WA.out _ _ _ _ (by first | rfl | omega | (simp; done) | (simp; omega)) (by first | exact YRH.out _ (HB.alloc (Nat.le_refl _) _) | (rw [List.drop_zero]; exact HB.alloc (Nat.le_refl _) _))).mono ?_
            rintro e w1 ⟨rfl, rfl⟩
            go_wp2_with fail
            try simp only [Exit.inBlock, Exit.then]
            refine post_rj (x0 := .int .i64 0) (x1 := .int .i64 0) (x2 := .string ⟨#[]⟩) (x3 := .int .i64 0) (x4 := .int .i64 0) rfl rfl rfl (by go_simp) (by go_simp) (by go_simp) (by go_simp) (by go_simp) ?_
            exact tkW_ret (numW_22 Z.out) rfl rfl rfl rfl rfl rfl bqq
     · have hE2 : (1 + N) = l.length := by omega
       have c0 := Jx.byt_end (l := l) (i := (1 + N)) (by omega)
       have RWa := RW1.out
       have G := Lib.hid (fun A' n c' W hn => GA.out A' n c' W (1 + N) hn (by rw [DR.out (1 + N) (by omega)]; exact Bys.nil _ _ _))
       rw [c0] at RWa G
       rw [show Jx.isL 0 = false from rfl] at RWa G
       have RW3 := RWa (by decide) rfl
       clear RWa RW1 R22a R20a c0 c256
       have le0 : l.length - (1 + N) = 0 := by omega
       have hcE : c = (1 + N) ∨ c ≠ (1 + N) := by omega
       have HE2 := Lib.hid hE2
       clear hE2 hE
       obtain ⟨⟨vv, ok⟩, hw⟩ : ∃ r, r = whl V N true := ⟨_, rfl⟩
       rw [← hw] at WA RW3
       cases ok with
       | true =>
        have Z := Lib.hid (RW3.trans (if_pos rfl))
        clear RW3 hw
        rcases QS.out with ⟨h1N, q48⟩ | q1N
        all_goals
         rcases hcE with hcE | hcE
         first | (have hq := hcE.symm; subst hq) | skip
         all_goals
          go_wp2_with fail
          with_reducible refine (G.out _ _ _ _ (by first | rfl | omega | (simp; done) | (simp; omega))).mono ?_
          rintro e w1 ⟨rfl, rfl⟩
          go_wp2_with fail
          with_reducible refine (WA.out _ _ _ _ (by first | rfl | omega | (simp; done) | (simp; omega)) (by first | exact YRH.out _ (HB.alloc (Nat.le_refl _) _) | (rw [List.drop_zero]; exact HB.alloc (Nat.le_refl _) _))).mono ?_
          rintro e w1 ⟨rfl, rfl⟩
          go_wp2_with fail
          try simp only [Exit.inBlock, Exit.then]
          refine post_rj (x0 := .int .i64 9) (x1 := .int .i64 vv) (x2 := .string ⟨#[]⟩) (x3 := .int .i64 0) (x4 := .int .i64 (1 + (N : Int))) rfl rfl rfl (by go_simp) (by go_simp) (by go_simp) (by go_simp) (by go_simp) ?_
          exact tkW_ret (numW_ok Z.out) rfl rfl rfl rfl (by push_cast; omega) rfl bqq
       | false =>
        have Z := Lib.hid (RW3.trans (if_neg (by simp)))
        clear RW3 hw
        rcases QS.out with ⟨h1N, q48⟩ | q1N
        all_goals
         rcases hcE with hcE | hcE
         first | (have hq := hcE.symm; subst hq) | skip
         all_goals
          go_wp2_with fail
          with_reducible refine (G.out _ _ _ _ (by first | rfl | omega | (simp; done) | (simp; omega))).mono ?_
          rintro e w1 ⟨rfl, rfl⟩
          go_wp2_with fail
          with_reducible refine (WA.out _ _ _ _ (by first | rfl | omega | (simp; done) | (simp; omega)) (by first | exact YRH.out _ (HB.alloc (Nat.le_refl _) _) | (rw [List.drop_zero]; exact HB.alloc (Nat.le_refl _) _))).mono ?_
          rintro e w1 ⟨rfl, rfl⟩
          go_wp2_with fail
          try simp only [Exit.inBlock, Exit.then]
          refine post_rj (x0 := .int .i64 0) (x1 := .int .i64 0) (x2 := .string ⟨#[]⟩) (x3 := .int .i64 0) (x4 := .int .i64 0) rfl rfl rfl (by go_simp) (by go_simp) (by go_simp) (by go_simp) (by go_simp) ?_
          exact tkW_ret (numW_22 Z.out) rfl rfl rfl rfl rfl rfl bqq
theorem number_any (A : Option Addr) (c : Nat) (l : List UInt8) (w : World) (hb : Bys w w.heap.size A l) (hl : l.length ≤ 60000000000) (hc : l.length ≤ c) (h0 : 0 < l.length) :
 Calls Tryz.prog 150 #[.slice A l.length c] w (TkW (numW (Jx.num l)) w) := by
 unfold Jx.num
 by_cases h : Jx.byt l 0 = 45
 · rw [if_pos h]; exact number_1 A c l w hb hl hc h0 h
 · rw [if_neg h]
   have := number_0 A c l w hb hl hc h0 h
   rw [List.drop_zero] at this
   exact this
def txtW (r : Option (List UInt8 × Nat)) : Jx.Wd × Nat := match r with
 | none => (⟨0, 0, [], 0, 0⟩, 20)
 | some (s, k) => (⟨10, 0, s, 0, k + 1⟩, 0)
theorem txtW_none {r : Option (List UInt8 × Nat)} (h : r = none) : txtW r = (⟨0, 0, [], 0, 0⟩, 20) := by subst h; rfl
theorem txtW_some {r : Option (List UInt8 × Nat)} {s : List UInt8} {k : Nat} (h : r = some (s, k)) : txtW r = (⟨10, 0, s, 0, k + 1⟩, 0) := by subst h; rfl
theorem put_c (c : Int) (base : Nat) (v : Value) (l : List UInt8) (w : World) (hL : Laid w) (hp : 5 < base) (hb : base ≤ w.heap.size) (hown : Own w base 5 v l) (hl : l.length ≤ 100000000) (hc : Num.isC c) :
 Calls Tryz.prog 170 #[v, .int .i32 c] w (MadeE base (l ++ Num.ue c.toNat) 0 w) := Put_any c hc base v l w hL hp hb hown hl
theorem jtext_any (A : Option Addr) (c : Nat) (l : List UInt8) (w : World) (hL : Laid w) (hb : Bys w w.heap.size A l) (hl : l.length ≤ 100000000) (hc : l.length ≤ c) (h0 : 0 < l.length) :
 Calls Tryz.prog 148 #[.slice A l.length c] w (TkW (txtW (Jx.txt (l.drop 1))) w) := by
 have CS := cell_set
 have START := Lib.hid (txAt_start (l.drop 1))
 have ld : (l.drop 1).length = l.length - 1 := List.length_drop
 have dd := fun q => List.drop_drop (i := q) (j := 1) (l := l)
 obtain ⟨D, hD⟩ : ∃ D, D = l.drop 1 := ⟨_, rfl⟩
 rw [← hD] at START ld ⊢
 simp only [← hD] at dd
 have DD := Lib.hid dd
 have LD := Lib.hid ld
 have hp := hL.1
 have W0 : Below w.heap.size w (w.alloc (.cells #[.int .i64 0, .int .i64 0, .string ⟨#[]⟩, .int .i64 0, .int .i64 0] 118)) := (Below.refl _ _).alloc (Nat.le_refl _) _
 have sz0 : (w.alloc (.cells #[.int .i64 0, .int .i64 0, .string ⟨#[]⟩, .int .i64 0, .int .i64 0] 118)).heap.size = w.heap.size + 1 := by simp
 clear dd ld hD
 go_enter Tryz.func148, Tryz.ntmps148
 go_wp2_with fail
 go_loopw [4, 5] (fun v t wr => ∃ (p : Nat) (d : List UInt8), 1 ≤ p ∧ t = .int .i64 (p : Int) ∧ Own wr (w.heap.size + 1) 5 v d ∧ Hid (TxAt D (p - 1) d) ∧ Below (w.heap.size + 1) (w.alloc (.cells #[.int .i64 0, .int .i64 0, .string ⟨#[]⟩, .int .i64 0, .int .i64 0] 118)) wr) (fun _ t _ => l.length - (intOf t).toNat)
 case atStart => exact ⟨1, [], Nat.le_refl _, rfl, Own.none_ _ _ _, START, Below.refl _ _⟩
 case round =>
  obtain ⟨p, d, kp, rfl, ow, TA, bl⟩ := hrel
  have gsz := bl.size
  rw [sz0] at gsz
  have blw := W0.trans (bl.mono (Nat.le_succ _))
  have ta := TA.out
  have hdl := ta.2.1
  have hql := ta.1
  have bad := ta.bad; have done := ta.done; have no := ta.no; have go := fun o n => ta.go (o := o) (n := n)
  have e := DD.out (p - 1)
  rw [show 1 + (p - 1) = p by omega] at e
  rw [e] at bad done no go
  rw [LD.out] at hql
  have hpl : p ≤ l.length := by omega
  have Yl := hb.below blw
  have bd := Jx.byt_drop l p
  rw [bd 0, Nat.add_zero] at bad done no go
  have Lr := hL.below blw hp
  have CELL := Lib.hid (fun hj => bys_cell Yl (k := p) hj)
  have CH := Lib.hid (fun (h : p < l.length) => character_any A c l p wr Lr (Yl.more (by omega)) (by omega) hc h)
  have IC := Lib.hid (fun h => item_chr (l := l) (k := p) h)
  have CLO := Lib.hid (fun h => chrR_low (l := l) (k := p) h)
  have x256 := Jx.byt_lt l p
  have BAD := Lib.hid bad; have DONE := Lib.hid done; have NO := Lib.hid no; have GO0 := Lib.hid go
  have xend := fun h => Jx.byt_end (l := l) (i := p) h
  obtain ⟨X, hX⟩ : ∃ X, X = Jx.byt l p := ⟨_, rfl⟩
  rw [← hX] at BAD DONE NO GO0 CELL x256 xend
  have HX := Lib.hid hX
  have YL := Lib.hid Yl
  clear ta bad done no go e bd hX hql TA Yl
  have hOwn := Nat.lt_of_lt_of_le (n := w.heap.size) sdd (Below.size bl)
  have hOwn1 := Nat.ne_of_gt hOwn
  have hOwn2 := Nat.ne_of_lt hOwn
  have hOwn := ocl bl w.heap.size 0
  have hOwn := ocl bl w.heap.size 1
  have hOwn := ocl bl w.heap.size 2
  have hOwn := ocl bl w.heap.size 3
  have hOwn := ocl bl w.heap.size 4
  have hOwn := ofr bl w.heap.size 0
  have hOwn := ofr bl w.heap.size 1
  have hOwn := ofr bl w.heap.size 2
  have hOwn := ofr bl w.heap.size 3
  have hOwn := ofr bl w.heap.size 4
  by_cases hpp : p < l.length
  · have q1 : decide ((p : Int) < (l.length : Int)) = true := by simp; omega
    by_cases h34 : X = 34
    · have Z := Lib.hid (DONE.out h34)
      obtain ⟨b, off, rfl, hB, cell⟩ := CELL.out hpp
      obtain ⟨A7, c7, rfl, hy⟩ := ow.bys
      have conv := hy.str byteT strT c7
      have q34 : ((X : Int) != 34) = false := by rw [bne_eq_false_iff_eq]; omega
      have q2 : ((p : Int) == (l.length : Int)) = false := by rw [beq_eq_false_iff_ne]; omega
      clear h34 hy CELL xend CH IC CLO BAD DONE NO GO0
      go_wp2_with fail
      try simp only [Exit.inBlock, Exit.then]
      refine post_rj (x0 := .int .i64 10) (x1 := .int .i64 0) (x2 := .string ⟨d.toArray⟩) (x3 := .int .i64 0) (x4 := .int .i64 ((p : Int) + 1)) rfl rfl rfl (by go_simp) (by go_simp) (by go_simp) (by go_simp) (by go_simp) ?_
      exact tkW_ret (txtW_some Z.out) rfl rfl rfl rfl (by push_cast; omega) rfl bqq
    · have q34 : ((X : Int) != 34) = true := by rw [bne_iff_ne]; omega
      have NO1 := Lib.hid (NO.out h34)
      obtain ⟨b, off, rfl, hB, cell⟩ := CELL.out hpp
      have CH1 := Lib.hid (CH.out hpp)
      clear CELL CH xend
      by_cases h32 : X < 32
      · have Z := Lib.hid (BAD.out h32)
        have CH2 := CH1.out
        rw [CLO.out (by rw [← HX.out]; exact h32)] at CH2
        have CH3 := Lib.hid CH2
        clear CH2 CH1 CLO IC
        go_wp2_with fail
        refine CH3.out.mono ?_
        rintro e w1 ⟨rfl, b1⟩
        have blb := bl.trans (b1.mono gsz)
        have hOwn := Nat.lt_of_lt_of_le (n := w.heap.size) sdd (Below.size blb)
        have hOwn1 := Nat.ne_of_gt hOwn
        have hOwn2 := Nat.ne_of_lt hOwn
        have hOwn := ocl blb w.heap.size 0
        have hOwn := ocl blb w.heap.size 1
        have hOwn := ocl blb w.heap.size 2
        have hOwn := ocl blb w.heap.size 3
        have hOwn := ocl blb w.heap.size 4
        have hOwn := ofr blb w.heap.size 0
        have hOwn := ofr blb w.heap.size 1
        have hOwn := ofr blb w.heap.size 2
        have hOwn := ofr blb w.heap.size 3
        have hOwn := ofr blb w.heap.size 4
        go_wp2_with fail
        try simp only [Exit.inBlock, Exit.then]
        refine post_rj (x0 := .int .i64 0) (x1 := .int .i64 0) (x2 := .string ⟨#[]⟩) (x3 := .int .i64 0) (x4 := .int .i64 0) rfl rfl rfl (by go_simp) (by go_simp) (by go_simp) (by go_simp) (by go_simp) ?_
        exact tkW_ret (txtW_none Z.out) rfl rfl rfl rfl rfl rfl bqq
      · have ic := IC.out (by rw [← HX.out]; omega)
        rcases ic with ⟨cc, n, e, isc, kn, it⟩ | ⟨er, it⟩
        · have G := Lib.hid (GO0.out _ _ (by omega) h34 it)
          have CH2 := CH1.out
          rw [e] at CH2
          have CH3 := Lib.hid CH2
          have ISC := Lib.hid isc
          have hul := Num.ue_len cc.toNat
          obtain ⟨U, hU⟩ : ∃ U, U = Num.ue cc.toNat := ⟨_, rfl⟩
          rw [← hU] at G hul
          have PC := Lib.hid (fun v W h1 h2 h3 => put_c cc (w.heap.size + 1) v d W h1 (by omega) h2 h3 (by omega) isc)
          rw [← hU] at PC
          clear CH2 CH1 CLO IC e isc it BAD DONE NO GO0 h34 hU
          go_wp2_with fail
          refine CH3.out.mono ?_
          rintro e w1 ⟨rfl, b1⟩
          have blb := bl.trans (b1.mono gsz)
          have gs1 := blb.size
          rw [sz0] at gs1
          have L1 := Lr.below b1 (by omega)
          have o1 := ow.below b1
          go_wp2_with fail
          with_reducible refine (PC.out _ _ L1 gs1 o1).mono ?_
          rintro e w2 ⟨v2, rfl, o2, b2⟩
          have bl2 := blb.trans b2
          go_wp2_with fail
          go_roundw
          case rel => exact ⟨n, d ++ U, by omega, rfl, o2, Lib.hid (G.out.1.at (by omega)), bl2⟩
          case measure => have := G.out.2; simp [intOf]; omega
        · have Z := Lib.hid (NO1.out it)
          obtain ⟨⟨cc, n, er0⟩, hr⟩ : ∃ r, r = chrR l p := ⟨_, rfl⟩
          rw [← hr] at CH1 er
          simp only at er
          by_cases he : er0 = 0
          · subst he
            have nc : ¬ Num.isC cc := by rcases er with h | h; (· exact absurd rfl h); (· exact h)
            have PN := Lib.hid (fun v => Put_no cc nc v)
            clear er it hr IC CLO BAD DONE NO GO0 h34 nc
            go_wp2_with fail
            refine CH1.out.mono ?_
            rintro e w1 ⟨rfl, b1⟩
            have blb := bl.trans (b1.mono gsz)
            go_wp2_with fail
            with_reducible refine (PN.out _ _).mono ?_
            rintro e w2 ⟨rfl, rfl⟩
            have hOwn := Nat.lt_of_lt_of_le (n := w.heap.size) sdd (Below.size blb)
            have hOwn1 := Nat.ne_of_gt hOwn
            have hOwn2 := Nat.ne_of_lt hOwn
            have hOwn := ocl blb w.heap.size 0
            have hOwn := ocl blb w.heap.size 1
            have hOwn := ocl blb w.heap.size 2
            have hOwn := ocl blb w.heap.size 3
            have hOwn := ocl blb w.heap.size 4
            have hOwn := ofr blb w.heap.size 0
            have hOwn := ofr blb w.heap.size 1
            have hOwn := ofr blb w.heap.size 2
            have hOwn := ofr blb w.heap.size 3
            have hOwn := ofr blb w.heap.size 4
            go_wp2_with fail
            try simp only [Exit.inBlock, Exit.then]
            refine post_rj (x0 := .int .i64 0) (x1 := .int .i64 0) (x2 := .string ⟨#[]⟩) (x3 := .int .i64 0) (x4 := .int .i64 0) rfl rfl rfl (by go_simp) (by go_simp) (by go_simp) (by go_simp) (by go_simp) ?_
            exact tkW_ret (txtW_none Z.out) rfl rfl rfl rfl rfl rfl bqq
          · have qe : ((er0 : Int) == 0) = false := by rw [beq_eq_false_iff_ne]; omega
            have qe2 : ((er0 : Int) != 0) = true := by rw [bne_iff_ne]; omega
            clear er it hr IC CLO BAD DONE NO GO0 h34 he
            go_wp2_with fail
            refine CH1.out.mono ?_
            rintro e w1 ⟨rfl, b1⟩
            have blb := bl.trans (b1.mono gsz)
            have hOwn := Nat.lt_of_lt_of_le (n := w.heap.size) sdd (Below.size blb)
            have hOwn1 := Nat.ne_of_gt hOwn
            have hOwn2 := Nat.ne_of_lt hOwn
            have hOwn := ocl blb w.heap.size 0
            have hOwn := ocl blb w.heap.size 1
            have hOwn := ocl blb w.heap.size 2
            have hOwn := ocl blb w.heap.size 3
            have hOwn := ocl blb w.heap.size 4
            have hOwn := ofr blb w.heap.size 0
            have hOwn := ofr blb w.heap.size 1
            have hOwn := ofr blb w.heap.size 2
            have hOwn := ofr blb w.heap.size 3
            have hOwn := ofr blb w.heap.size 4
            go_wp2_with fail
            try simp only [Exit.inBlock, Exit.then]
            refine post_rj (x0 := .int .i64 0) (x1 := .int .i64 0) (x2 := .string ⟨#[]⟩) (x3 := .int .i64 0) (x4 := .int .i64 0) rfl rfl rfl (by go_simp) (by go_simp) (by go_simp) (by go_simp) (by go_simp) ?_
            exact tkW_ret (txtW_none Z.out) rfl rfl rfl rfl rfl rfl bqq
  · have Z := Lib.hid (BAD.out (by rw [xend (by omega)]; decide))
    have q1 : decide ((p : Int) < (l.length : Int)) = false := by simp; omega
    have q2 : ((p : Int) == (l.length : Int)) = true := by rw [beq_iff_eq]; omega
    clear CELL xend CH IC CLO BAD DONE NO GO0
    go_wp2_with fail
    try simp only [Exit.inBlock, Exit.then]
    refine post_rj (x0 := .int .i64 0) (x1 := .int .i64 0) (x2 := .string ⟨#[]⟩) (x3 := .int .i64 0) (x4 := .int .i64 0) rfl rfl rfl (by go_simp) (by go_simp) (by go_simp) (by go_simp) (by go_simp) ?_
    exact tkW_ret (txtW_none Z.out) rfl rfl rfl rfl rfl rfl bqq
end Go.Proofs.YthogheglddfniaaGreatDoor
