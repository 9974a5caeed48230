/- The laws of layer 9, walked: a full name is what its parts are joined to. (Written by tools/gennparts.py.) -/
import Derived.Test.YthebcghhakfdkaaDoorNLaw
namespace Go.Proofs.YthebcghhakfdkaaDoor
open Go.ChangeShapes Go.WideShapes Go.ChangeAt Go.RowKit Mem

theorem join_dot {X l : List UInt8} (h : Nm.full l = true) (hs : Nm.space l ≠ []) : Nm.join X l = some l := by
  have hd : ¬ Nm.dot l < 0 := fun g => hs (by unfold Nm.space; exact if_pos g)
  unfold Nm.join
  rw [if_neg hd, if_pos h]
theorem space_len (l : List UInt8) : (Nm.space l).length ≤ l.length := by
  unfold Nm.space
  split
  · simp
  · rw [List.length_take]; omega
theorem last_len (l : List UInt8) : (Nm.last l).length ≤ l.length := by
  unfold Nm.last; rw [List.length_drop]; omega
theorem word_len (k : Int) : (Nm.word k).length ≤ 100 := by
  by_cases hk : k = 1 ∨ k = 2 ∨ k = 3 ∨ k = 4 ∨ k = 5 ∨ k = 6 ∨ k = 7 ∨ k = 8 ∨ k = 9 ∨ k = 10 ∨ k = 11 ∨ k = 12 ∨ k = 14
  · rcases hk with rfl | rfl | rfl | rfl | rfl | rfl | rfl | rfl | rfl | rfl | rfl | rfl | rfl
    all_goals decide
  · simp only [not_or] at hk
    obtain ⟨g1, g2, g3, g4, g5, g6, g7, g8, g9, g10, g11, g12, g14⟩ := hk
    unfold Nm.word
    rw [if_neg g1, if_neg g2, if_neg g3, if_neg g4, if_neg g5, if_neg g6, if_neg g7, if_neg g8, if_neg g9, if_neg g10, if_neg g11, if_neg g12, if_neg g14]
    decide
set_option maxRecDepth 100000 in
set_option maxHeartbeats 8000000 in
theorem namingParts_walk (s a : ByteArray) (k : Int) (w : World) (wk : (Lit.int .i64 k).wf = true) (hL : LaidN w) :
    Calls Tryd.prog 4 #[.string s, .string a, .int .i64 k] w fun e w' => e = .returned (.bool true) ∧ Below w.heap.size w w' := by
  obtain ⟨k1, k2⟩ := fit_i64 wk
  have WK := Lib.hid works9_any
  unfold Ans at WK
  have A6 := Lib.hid (nWord_any k k1 k2)
  unfold Ans at A6
  have wl := word_len k
  have a5 := fun W (l : LaidN W) => nKind_any (sst (Nm.word k)) (by rw [sst_size]; omega) W l
  rw [sst_in] at a5
  have A5 := Lib.hid a5
  unfold Ans at A5
  have KK := Lib.hid (@Nm.word_kind k)
  have ln := len_str s
  have PA := Lib.hid (@Nm.full_parts s.data.toList)
  have JD := Lib.hid (fun X => @join_dot X s.data.toList)
  have OS := Lib.hid (sst_out s)
  have sl := space_len s.data.toList
  have ll := last_len s.data.toList
  rw [ln] at sl ll
  have ee : ∀ X : ByteArray, (X.toList == X.toList) = true := by simp
  have nn : ∀ X : ByteArray, (X.toList != X.toList) = false := by simp
  obtain ⟨W6, hW6⟩ : ∃ X, X = sst (Nm.word k) := ⟨_, rfl⟩
  obtain ⟨K6, hK6⟩ : ∃ X : Nat, X = Nm.kind (Nm.word k) := ⟨_, rfl⟩
  rw [← hW6] at A5 A6
  rw [← hK6] at A5 KK
  have WE : Hid (W6 = ⟨#[]⟩ ∨ (K6 : Int) = k) := by
    by_cases g : Nm.word k = []
    · exact .inl (by rw [hW6, g]; rfl)
    · exact .inr (KK.out g)
  clear hW6 hK6 KK a5 wl wk ln
  by_cases hs : 1000 < s.size
  · have q1 : (1000 : Int) < (s.size : Int) := by omega
    clear PA JD OS sl ll
    rcases WE.out with hw | hw
    · subst hw
      go_enter Tryd.func4, Tryd.ntmps4
      go_wp2_with fail
      refine (WK.out _ hL).mono ?_
      rintro e w1 ⟨rfl, b1⟩
      go_wp2_with fail
      refine (A6.out _ (hL.below b1)).mono ?_
      rintro e w2 ⟨rfl, b2⟩
      have c2 := b1.trans (b2.mono b1.size)
      go_wp2_with fail
      have c3 := c2
      go_ret
      exact ⟨rfl, c3⟩
    · by_cases hz : W6 = ⟨#[]⟩
      · subst hz
        go_enter Tryd.func4, Tryd.ntmps4
        go_wp2_with fail
        refine (WK.out _ hL).mono ?_
        rintro e w1 ⟨rfl, b1⟩
        go_wp2_with fail
        refine (A6.out _ (hL.below b1)).mono ?_
        rintro e w2 ⟨rfl, b2⟩
        have c2 := b1.trans (b2.mono b1.size)
        go_wp2_with fail
        have c3 := c2
        go_ret
        exact ⟨rfl, c3⟩
      · obtain ⟨n1, n2, n3, n4, n5⟩ := ne_facts hz
        have qk : ((K6 : Int) != k) = false := by rw [bne_eq_false_iff_eq]; exact hw
        clear hw WE hz
        go_enter Tryd.func4, Tryd.ntmps4
        go_wp2_with fail
        refine (WK.out _ hL).mono ?_
        rintro e w1 ⟨rfl, b1⟩
        go_wp2_with fail
        refine (A6.out _ (hL.below b1)).mono ?_
        rintro e w2 ⟨rfl, b2⟩
        have c2 := b1.trans (b2.mono b1.size)
        go_wp2_with fail
        refine (A5.out _ (hL.below c2)).mono ?_
        rintro e w3 ⟨rfl, b3⟩
        have c3 := c2.trans (b3.mono c2.size)
        go_wp2_with fail
        go_ret
        exact ⟨rfl, c3⟩
  · have q1 : ¬ (1000 : Int) < (s.size : Int) := by omega
    by_cases ha : 1000 < a.size
    · have q2 : (1000 : Int) < (a.size : Int) := by omega
      clear PA JD OS sl ll
      rcases WE.out with hw | hw
      · subst hw
        go_enter Tryd.func4, Tryd.ntmps4
        go_wp2_with fail
        refine (WK.out _ hL).mono ?_
        rintro e w1 ⟨rfl, b1⟩
        go_wp2_with fail
        refine (A6.out _ (hL.below b1)).mono ?_
        rintro e w2 ⟨rfl, b2⟩
        have c2 := b1.trans (b2.mono b1.size)
        go_wp2_with fail
        have c3 := c2
        go_ret
        exact ⟨rfl, c3⟩
      · by_cases hz : W6 = ⟨#[]⟩
        · subst hz
          go_enter Tryd.func4, Tryd.ntmps4
          go_wp2_with fail
          refine (WK.out _ hL).mono ?_
          rintro e w1 ⟨rfl, b1⟩
          go_wp2_with fail
          refine (A6.out _ (hL.below b1)).mono ?_
          rintro e w2 ⟨rfl, b2⟩
          have c2 := b1.trans (b2.mono b1.size)
          go_wp2_with fail
          have c3 := c2
          go_ret
          exact ⟨rfl, c3⟩
        · obtain ⟨n1, n2, n3, n4, n5⟩ := ne_facts hz
          have qk : ((K6 : Int) != k) = false := by rw [bne_eq_false_iff_eq]; exact hw
          clear hw WE hz
          go_enter Tryd.func4, Tryd.ntmps4
          go_wp2_with fail
          refine (WK.out _ hL).mono ?_
          rintro e w1 ⟨rfl, b1⟩
          go_wp2_with fail
          refine (A6.out _ (hL.below b1)).mono ?_
          rintro e w2 ⟨rfl, b2⟩
          have c2 := b1.trans (b2.mono b1.size)
          go_wp2_with fail
          refine (A5.out _ (hL.below c2)).mono ?_
          rintro e w3 ⟨rfl, b3⟩
          have c3 := c2.trans (b3.mono c2.size)
          go_wp2_with fail
          go_ret
          exact ⟨rfl, c3⟩
    · have q2 : ¬ (1000 : Int) < (a.size : Int) := by omega
      have FU := Lib.hid (nFull_any s (by omega))
      have SP := Lib.hid (nSpace_any s (by omega))
      have LA := Lib.hid (nLast_any s (by omega))
      have jo := fun W l => nJoin_any (sst (Nm.space s.data.toList)) (sst (Nm.last s.data.toList)) (by rw [sst_size]; omega) (by rw [sst_size]; omega) W l
      have si := fun W l => nSimple_any (sst (Nm.last s.data.toList)) (by rw [sst_size]; omega) W l
      have fs := fun W l => nFull_any (sst (Nm.space s.data.toList)) (by rw [sst_size]; omega) W l
      have rs := fun g W l => nResolve_any s a a g (by omega) (by omega) (by omega) W l
      simp only [sst_in, ite_self] at jo si fs rs
      rcases hf : Nm.full s.data.toList with _ | _
      · rw [hf] at FU
        unfold Ans at FU
        clear PA JD OS sl ll jo si fs rs hf SP LA
        rcases WE.out with hw | hw
        · subst hw
          go_enter Tryd.func4, Tryd.ntmps4
          go_wp2_with fail
          refine (WK.out _ hL).mono ?_
          rintro e w1 ⟨rfl, b1⟩
          go_wp2_with fail
          refine (A6.out _ (hL.below b1)).mono ?_
          rintro e w2 ⟨rfl, b2⟩
          have c2 := b1.trans (b2.mono b1.size)
          go_wp2_with fail
          have c3 := c2
          refine (FU.out _ (hL.below c3)).mono ?_
          rintro e w4 ⟨rfl, b4⟩
          have c4 := c3.trans (b4.mono c3.size)
          go_wp2_with fail
          go_ret
          exact ⟨rfl, c4⟩
        · by_cases hz : W6 = ⟨#[]⟩
          · subst hz
            go_enter Tryd.func4, Tryd.ntmps4
            go_wp2_with fail
            refine (WK.out _ hL).mono ?_
            rintro e w1 ⟨rfl, b1⟩
            go_wp2_with fail
            refine (A6.out _ (hL.below b1)).mono ?_
            rintro e w2 ⟨rfl, b2⟩
            have c2 := b1.trans (b2.mono b1.size)
            go_wp2_with fail
            have c3 := c2
            refine (FU.out _ (hL.below c3)).mono ?_
            rintro e w4 ⟨rfl, b4⟩
            have c4 := c3.trans (b4.mono c3.size)
            go_wp2_with fail
            go_ret
            exact ⟨rfl, c4⟩
          · obtain ⟨n1, n2, n3, n4, n5⟩ := ne_facts hz
            have qk : ((K6 : Int) != k) = false := by rw [bne_eq_false_iff_eq]; exact hw
            clear hw WE hz
            go_enter Tryd.func4, Tryd.ntmps4
            go_wp2_with fail
            refine (WK.out _ hL).mono ?_
            rintro e w1 ⟨rfl, b1⟩
            go_wp2_with fail
            refine (A6.out _ (hL.below b1)).mono ?_
            rintro e w2 ⟨rfl, b2⟩
            have c2 := b1.trans (b2.mono b1.size)
            go_wp2_with fail
            refine (A5.out _ (hL.below c2)).mono ?_
            rintro e w3 ⟨rfl, b3⟩
            have c3 := c2.trans (b3.mono c2.size)
            go_wp2_with fail
            refine (FU.out _ (hL.below c3)).mono ?_
            rintro e w4 ⟨rfl, b4⟩
            have c4 := c3.trans (b4.mono c3.size)
            go_wp2_with fail
            go_ret
            exact ⟨rfl, c4⟩
      · obtain ⟨p1, p2, p3⟩ := PA.out hf
        rw [hf] at FU
        rw [p1] at si
        rw [p3] at jo
        have JO := Lib.hid jo
        have SI := Lib.hid si
        by_cases hsp : Nm.space s.data.toList = []
        · rw [hsp] at SP JO
          simp only [joined, Option.getD_some, Option.isSome_some, OS.out] at JO
          rw [show sst [] = (⟨#[]⟩ : ByteArray) from rfl] at SP JO
          unfold Ans at FU SP LA JO SI
          generalize sst (Nm.last s.data.toList) = LL at *
          clear PA JD OS sl ll jo si fs rs hf p1 p2 p3 hsp
          rcases WE.out with hw | hw
          · subst hw
            go_enter Tryd.func4, Tryd.ntmps4
            go_wp2_with fail
            refine (WK.out _ hL).mono ?_
            rintro e w1 ⟨rfl, b1⟩
            go_wp2_with fail
            refine (A6.out _ (hL.below b1)).mono ?_
            rintro e w2 ⟨rfl, b2⟩
            have c2 := b1.trans (b2.mono b1.size)
            go_wp2_with fail
            have c3 := c2
            refine (FU.out _ (hL.below c3)).mono ?_
            rintro e w4 ⟨rfl, b4⟩
            have c4 := c3.trans (b4.mono c3.size)
            go_wp2_with fail
            refine (SP.out _ (hL.below c4)).mono ?_
            rintro e w5 ⟨rfl, b5⟩
            have c5 := c4.trans (b5.mono c4.size)
            go_wp2_with fail
            refine (LA.out _ (hL.below c5)).mono ?_
            rintro e w6 ⟨rfl, b6⟩
            have c6 := c5.trans (b6.mono c5.size)
            go_wp2_with fail
            refine (JO.out _ (hL.below c6)).mono ?_
            rintro e w7 ⟨rfl, b7⟩
            have c7 := c6.trans (b7.mono c6.size)
            go_wp2_with fail
            refine (LA.out _ (hL.below c7)).mono ?_
            rintro e w8 ⟨rfl, b8⟩
            have c8 := c7.trans (b8.mono c7.size)
            go_wp2_with fail
            refine (SI.out _ (hL.below c8)).mono ?_
            rintro e w9 ⟨rfl, b9⟩
            have c9 := c8.trans (b9.mono c8.size)
            go_wp2_with fail
            refine (SP.out _ (hL.below c9)).mono ?_
            rintro e w10 ⟨rfl, b10⟩
            have c10 := c9.trans (b10.mono c9.size)
            go_wp2_with fail
            refine (SP.out _ (hL.below c10)).mono ?_
            rintro e w11 ⟨rfl, b11⟩
            have c11 := c10.trans (b11.mono c10.size)
            go_wp2_with fail
            go_ret
            exact ⟨rfl, c11⟩
          · by_cases hz : W6 = ⟨#[]⟩
            · subst hz
              go_enter Tryd.func4, Tryd.ntmps4
              go_wp2_with fail
              refine (WK.out _ hL).mono ?_
              rintro e w1 ⟨rfl, b1⟩
              go_wp2_with fail
              refine (A6.out _ (hL.below b1)).mono ?_
              rintro e w2 ⟨rfl, b2⟩
              have c2 := b1.trans (b2.mono b1.size)
              go_wp2_with fail
              have c3 := c2
              refine (FU.out _ (hL.below c3)).mono ?_
              rintro e w4 ⟨rfl, b4⟩
              have c4 := c3.trans (b4.mono c3.size)
              go_wp2_with fail
              refine (SP.out _ (hL.below c4)).mono ?_
              rintro e w5 ⟨rfl, b5⟩
              have c5 := c4.trans (b5.mono c4.size)
              go_wp2_with fail
              refine (LA.out _ (hL.below c5)).mono ?_
              rintro e w6 ⟨rfl, b6⟩
              have c6 := c5.trans (b6.mono c5.size)
              go_wp2_with fail
              refine (JO.out _ (hL.below c6)).mono ?_
              rintro e w7 ⟨rfl, b7⟩
              have c7 := c6.trans (b7.mono c6.size)
              go_wp2_with fail
              refine (LA.out _ (hL.below c7)).mono ?_
              rintro e w8 ⟨rfl, b8⟩
              have c8 := c7.trans (b8.mono c7.size)
              go_wp2_with fail
              refine (SI.out _ (hL.below c8)).mono ?_
              rintro e w9 ⟨rfl, b9⟩
              have c9 := c8.trans (b9.mono c8.size)
              go_wp2_with fail
              refine (SP.out _ (hL.below c9)).mono ?_
              rintro e w10 ⟨rfl, b10⟩
              have c10 := c9.trans (b10.mono c9.size)
              go_wp2_with fail
              refine (SP.out _ (hL.below c10)).mono ?_
              rintro e w11 ⟨rfl, b11⟩
              have c11 := c10.trans (b11.mono c10.size)
              go_wp2_with fail
              go_ret
              exact ⟨rfl, c11⟩
            · obtain ⟨n1, n2, n3, n4, n5⟩ := ne_facts hz
              have qk : ((K6 : Int) != k) = false := by rw [bne_eq_false_iff_eq]; exact hw
              clear hw WE hz
              go_enter Tryd.func4, Tryd.ntmps4
              go_wp2_with fail
              refine (WK.out _ hL).mono ?_
              rintro e w1 ⟨rfl, b1⟩
              go_wp2_with fail
              refine (A6.out _ (hL.below b1)).mono ?_
              rintro e w2 ⟨rfl, b2⟩
              have c2 := b1.trans (b2.mono b1.size)
              go_wp2_with fail
              refine (A5.out _ (hL.below c2)).mono ?_
              rintro e w3 ⟨rfl, b3⟩
              have c3 := c2.trans (b3.mono c2.size)
              go_wp2_with fail
              refine (FU.out _ (hL.below c3)).mono ?_
              rintro e w4 ⟨rfl, b4⟩
              have c4 := c3.trans (b4.mono c3.size)
              go_wp2_with fail
              refine (SP.out _ (hL.below c4)).mono ?_
              rintro e w5 ⟨rfl, b5⟩
              have c5 := c4.trans (b5.mono c4.size)
              go_wp2_with fail
              refine (LA.out _ (hL.below c5)).mono ?_
              rintro e w6 ⟨rfl, b6⟩
              have c6 := c5.trans (b6.mono c5.size)
              go_wp2_with fail
              refine (JO.out _ (hL.below c6)).mono ?_
              rintro e w7 ⟨rfl, b7⟩
              have c7 := c6.trans (b7.mono c6.size)
              go_wp2_with fail
              refine (LA.out _ (hL.below c7)).mono ?_
              rintro e w8 ⟨rfl, b8⟩
              have c8 := c7.trans (b8.mono c7.size)
              go_wp2_with fail
              refine (SI.out _ (hL.below c8)).mono ?_
              rintro e w9 ⟨rfl, b9⟩
              have c9 := c8.trans (b9.mono c8.size)
              go_wp2_with fail
              refine (SP.out _ (hL.below c9)).mono ?_
              rintro e w10 ⟨rfl, b10⟩
              have c10 := c9.trans (b10.mono c9.size)
              go_wp2_with fail
              refine (SP.out _ (hL.below c10)).mono ?_
              rintro e w11 ⟨rfl, b11⟩
              have c11 := c10.trans (b11.mono c10.size)
              go_wp2_with fail
              go_ret
              exact ⟨rfl, c11⟩
        · have jd := JD.out a.data.toList hf hsp
          rw [p2 hsp] at fs
          simp only [jd] at rs
          have FS := Lib.hid fs
          have RS := Lib.hid rs
          simp only [joined, Option.getD_some, Option.isSome_some, OS.out] at JO RS
          have hn : sst (Nm.space s.data.toList) ≠ ⟨#[]⟩ := fun e => hsp (by rw [← sst_in (Nm.space s.data.toList), e])
          unfold Ans at FU SP LA JO SI FS RS
          generalize sst (Nm.last s.data.toList) = LL at *
          generalize sst (Nm.space s.data.toList) = SS at *
          obtain ⟨m1, m2, m3, m4, m5⟩ := ne_facts hn
          clear PA JD OS sl ll jo si fs rs hf p1 p2 p3 hsp jd hn
          rcases WE.out with hw | hw
          · subst hw
            go_enter Tryd.func4, Tryd.ntmps4
            go_wp2_with fail
            refine (WK.out _ hL).mono ?_
            rintro e w1 ⟨rfl, b1⟩
            go_wp2_with fail
            refine (A6.out _ (hL.below b1)).mono ?_
            rintro e w2 ⟨rfl, b2⟩
            have c2 := b1.trans (b2.mono b1.size)
            go_wp2_with fail
            have c3 := c2
            refine (FU.out _ (hL.below c3)).mono ?_
            rintro e w4 ⟨rfl, b4⟩
            have c4 := c3.trans (b4.mono c3.size)
            go_wp2_with fail
            refine (SP.out _ (hL.below c4)).mono ?_
            rintro e w5 ⟨rfl, b5⟩
            have c5 := c4.trans (b5.mono c4.size)
            go_wp2_with fail
            refine (LA.out _ (hL.below c5)).mono ?_
            rintro e w6 ⟨rfl, b6⟩
            have c6 := c5.trans (b6.mono c5.size)
            go_wp2_with fail
            refine (JO.out _ (hL.below c6)).mono ?_
            rintro e w7 ⟨rfl, b7⟩
            have c7 := c6.trans (b7.mono c6.size)
            go_wp2_with fail
            refine (LA.out _ (hL.below c7)).mono ?_
            rintro e w8 ⟨rfl, b8⟩
            have c8 := c7.trans (b8.mono c7.size)
            go_wp2_with fail
            refine (SI.out _ (hL.below c8)).mono ?_
            rintro e w9 ⟨rfl, b9⟩
            have c9 := c8.trans (b9.mono c8.size)
            go_wp2_with fail
            refine (SP.out _ (hL.below c9)).mono ?_
            rintro e w10 ⟨rfl, b10⟩
            have c10 := c9.trans (b10.mono c9.size)
            go_wp2_with fail
            refine (SP.out _ (hL.below c10)).mono ?_
            rintro e w11 ⟨rfl, b11⟩
            have c11 := c10.trans (b11.mono c10.size)
            go_wp2_with fail
            refine (FS.out _ (hL.below c11)).mono ?_
            rintro e w12 ⟨rfl, b12⟩
            have c12 := c11.trans (b12.mono c11.size)
            go_wp2_with fail
            refine (SP.out _ (hL.below c12)).mono ?_
            rintro e w13 ⟨rfl, b13⟩
            have c13 := c12.trans (b13.mono c12.size)
            go_wp2_with fail
            refine (RS.out _ _ (hL.below c13)).mono ?_
            rintro e w14 ⟨rfl, b14⟩
            have c14 := c13.trans (b14.mono c13.size)
            go_wp2_with fail
            go_ret
            exact ⟨rfl, c14⟩
          · by_cases hz : W6 = ⟨#[]⟩
            · subst hz
              go_enter Tryd.func4, Tryd.ntmps4
              go_wp2_with fail
              refine (WK.out _ hL).mono ?_
              rintro e w1 ⟨rfl, b1⟩
              go_wp2_with fail
              refine (A6.out _ (hL.below b1)).mono ?_
              rintro e w2 ⟨rfl, b2⟩
              have c2 := b1.trans (b2.mono b1.size)
              go_wp2_with fail
              have c3 := c2
              refine (FU.out _ (hL.below c3)).mono ?_
              rintro e w4 ⟨rfl, b4⟩
              have c4 := c3.trans (b4.mono c3.size)
              go_wp2_with fail
              refine (SP.out _ (hL.below c4)).mono ?_
              rintro e w5 ⟨rfl, b5⟩
              have c5 := c4.trans (b5.mono c4.size)
              go_wp2_with fail
              refine (LA.out _ (hL.below c5)).mono ?_
              rintro e w6 ⟨rfl, b6⟩
              have c6 := c5.trans (b6.mono c5.size)
              go_wp2_with fail
              refine (JO.out _ (hL.below c6)).mono ?_
              rintro e w7 ⟨rfl, b7⟩
              have c7 := c6.trans (b7.mono c6.size)
              go_wp2_with fail
              refine (LA.out _ (hL.below c7)).mono ?_
              rintro e w8 ⟨rfl, b8⟩
              have c8 := c7.trans (b8.mono c7.size)
              go_wp2_with fail
              refine (SI.out _ (hL.below c8)).mono ?_
              rintro e w9 ⟨rfl, b9⟩
              have c9 := c8.trans (b9.mono c8.size)
              go_wp2_with fail
              refine (SP.out _ (hL.below c9)).mono ?_
              rintro e w10 ⟨rfl, b10⟩
              have c10 := c9.trans (b10.mono c9.size)
              go_wp2_with fail
              refine (SP.out _ (hL.below c10)).mono ?_
              rintro e w11 ⟨rfl, b11⟩
              have c11 := c10.trans (b11.mono c10.size)
              go_wp2_with fail
              refine (FS.out _ (hL.below c11)).mono ?_
              rintro e w12 ⟨rfl, b12⟩
              have c12 := c11.trans (b12.mono c11.size)
              go_wp2_with fail
              refine (SP.out _ (hL.below c12)).mono ?_
              rintro e w13 ⟨rfl, b13⟩
              have c13 := c12.trans (b13.mono c12.size)
              go_wp2_with fail
              refine (RS.out _ _ (hL.below c13)).mono ?_
              rintro e w14 ⟨rfl, b14⟩
              have c14 := c13.trans (b14.mono c13.size)
              go_wp2_with fail
              go_ret
              exact ⟨rfl, c14⟩
            · obtain ⟨n1, n2, n3, n4, n5⟩ := ne_facts hz
              have qk : ((K6 : Int) != k) = false := by rw [bne_eq_false_iff_eq]; exact hw
              clear hw WE hz
              go_enter Tryd.func4, Tryd.ntmps4
              go_wp2_with fail
              refine (WK.out _ hL).mono ?_
              rintro e w1 ⟨rfl, b1⟩
              go_wp2_with fail
              refine (A6.out _ (hL.below b1)).mono ?_
              rintro e w2 ⟨rfl, b2⟩
              have c2 := b1.trans (b2.mono b1.size)
              go_wp2_with fail
              refine (A5.out _ (hL.below c2)).mono ?_
              rintro e w3 ⟨rfl, b3⟩
              have c3 := c2.trans (b3.mono c2.size)
              go_wp2_with fail
              refine (FU.out _ (hL.below c3)).mono ?_
              rintro e w4 ⟨rfl, b4⟩
              have c4 := c3.trans (b4.mono c3.size)
              go_wp2_with fail
              refine (SP.out _ (hL.below c4)).mono ?_
              rintro e w5 ⟨rfl, b5⟩
              have c5 := c4.trans (b5.mono c4.size)
              go_wp2_with fail
              refine (LA.out _ (hL.below c5)).mono ?_
              rintro e w6 ⟨rfl, b6⟩
              have c6 := c5.trans (b6.mono c5.size)
              go_wp2_with fail
              refine (JO.out _ (hL.below c6)).mono ?_
              rintro e w7 ⟨rfl, b7⟩
              have c7 := c6.trans (b7.mono c6.size)
              go_wp2_with fail
              refine (LA.out _ (hL.below c7)).mono ?_
              rintro e w8 ⟨rfl, b8⟩
              have c8 := c7.trans (b8.mono c7.size)
              go_wp2_with fail
              refine (SI.out _ (hL.below c8)).mono ?_
              rintro e w9 ⟨rfl, b9⟩
              have c9 := c8.trans (b9.mono c8.size)
              go_wp2_with fail
              refine (SP.out _ (hL.below c9)).mono ?_
              rintro e w10 ⟨rfl, b10⟩
              have c10 := c9.trans (b10.mono c9.size)
              go_wp2_with fail
              refine (SP.out _ (hL.below c10)).mono ?_
              rintro e w11 ⟨rfl, b11⟩
              have c11 := c10.trans (b11.mono c10.size)
              go_wp2_with fail
              refine (FS.out _ (hL.below c11)).mono ?_
              rintro e w12 ⟨rfl, b12⟩
              have c12 := c11.trans (b12.mono c11.size)
              go_wp2_with fail
              refine (SP.out _ (hL.below c12)).mono ?_
              rintro e w13 ⟨rfl, b13⟩
              have c13 := c12.trans (b13.mono c12.size)
              go_wp2_with fail
              refine (RS.out _ _ (hL.below c13)).mono ?_
              rintro e w14 ⟨rfl, b14⟩
              have c14 := c13.trans (b14.mono c13.size)
              go_wp2_with fail
              go_ret
              exact ⟨rfl, c14⟩
end Go.Proofs.YthebcghhakfdkaaDoor
