/- Bits as whole numbers, at every input. -/
import Derived.Test.YtcnalkbedcgknaaProm
namespace Go.Proofs.Ytcnalkbedcgknaa
open Go.ChangeShapes Go.WideShapes Go.ChangeAt Go.RowKit

theorem grown_drewN {a b : World} (h : Grown a b) (m : Nat) : Grown a (b.drewN m) := h

theorem retPair {k : IntKind} {a b : Int} {x y : Bool} (h : a = b) (g : x = y) : Ending.returned (.tuple #[.int k a, .bool x]) = .returned (.tuple #[.int k b, .bool y]) := by rw [h, g]

theorem wholeSize_any (d : Nat) (hd : d < 9223372036854775808) (w : World) :
    Calls Try.prog 23 #[.int .u64 d] w fun e w' => e = .returned (.tuple #[.int .u64 (Fp.wsz d : Nat), .bool (Fp.wok d)]) ∧ Grown w w' := by
  by_cases h : d = 0
  · subst h
    go_enter Try.func23, Try.ntmps23
    go_wp2
    all_goals go_ret2
    exact ⟨rfl, Grown.refl _⟩
  · have q0 : ((d : Int) == 0) = false := by simp; omega
    by_cases c : d / 4503599627370496 < 1023 ∨ 1087 ≤ d / 4503599627370496
    · have F : Hid (Fp.wsz d = 0 ∧ Fp.wok d = false) := Lib.hid (by unfold Fp.wsz Fp.wok; rw [if_pos c]; refine ⟨rfl, ?_⟩; simp [h]; omega)
      go_enter Try.func23, Try.ntmps23
      go_wp2
      all_goals go_ret2
      all_goals rw [F.out.1, F.out.2]
      all_goals exact ⟨rfl, Grown.refl _⟩
    · have E := Lib.hid (Fp.or52 d)
      by_cases c2 : 1075 < d / 4503599627370496
      · have F : Hid (Fp.wsz d = (d % 4503599627370496 + 4503599627370496) * 2 ^ (d / 4503599627370496 - 1075) ∧ Fp.wok d = true) := Lib.hid (by unfold Fp.wsz Fp.wok; rw [if_neg c, if_pos c2]; refine ⟨rfl, ?_⟩; simp [h]; omega)
        have hs := Fp.wsz_lt d
        go_enter Try.func23, Try.ntmps23
        go_wp2
        all_goals go_ret2
        refine ⟨retPair ?_ F.out.2.symm, Grown.refl _⟩
        rw [F.out.1] at hs ⊢
        rw [E.out, show d / 4503599627370496 - 1023 - 52 = d / 4503599627370496 - 1075 by omega]
        generalize d / 4503599627370496 - 1075 = k at *
        rw [← wrapNat hs]
        simp
      · have F : Hid (Fp.wsz d = (d % 4503599627370496 + 4503599627370496) / 2 ^ (1075 - d / 4503599627370496) ∧ Fp.wok d = ((d % 4503599627370496 + 4503599627370496) / 2 ^ (1075 - d / 4503599627370496) * 2 ^ (1075 - d / 4503599627370496) == d % 4503599627370496 + 4503599627370496)) := Lib.hid (by
          have g1 : 1023 ≤ d / 4503599627370496 := by omega
          have g2 : d / 4503599627370496 < 1087 := by omega
          unfold Fp.wsz Fp.wok; rw [if_neg c, if_neg c2]; refine ⟨rfl, ?_⟩; simp [h, c2, g1, g2])
        go_enter Try.func23, Try.ntmps23
        go_wp2_with fail
        go_quiet (fail)
        go_wp2_with fail
        all_goals go_ret2
        refine ⟨retPair ?_ ?_, grown_drewN (Grown.refl _) _⟩
        · rw [E.out, F.out.1, show 52 - (d / 4503599627370496 - 1023) = 1075 - d / 4503599627370496 by omega]
          simp
        · rw [E.out, F.out.2, show 52 - (d / 4503599627370496 - 1023) = 1075 - d / 4503599627370496 by omega]
          have hM : d % 4503599627370496 + 4503599627370496 < 18446744073709551616 := by omega
          generalize 1075 - d / 4503599627370496 = k
          generalize d % 4503599627370496 + 4503599627370496 = M at hM ⊢
          have e1 : ((M : Int) / 2 ^ k * 2 ^ k) = ((M / 2 ^ k * 2 ^ k : Nat) : Int) := by simp
          have e2 := Nat.div_mul_le_self M (2 ^ k)
          rw [e1, wrapNat (by omega)]
          rw [Bool.eq_iff_iff]
          simp only [beq_iff_eq]
          omega

theorem wholeSize_at (d : Nat) (z : Int) (hz : z = (d : Int)) (hd : d < 9223372036854775808) (w : World) :
    Calls Try.prog 23 #[.int .u64 z] w fun e w' => e = .returned (.tuple #[.int .u64 (Fp.wsz d : Nat), .bool (Fp.wok d)]) ∧ Grown w w' := by
  subst hz; exact wholeSize_any d hd w

theorem Whole_any (d : Nat) (hd : d < 18446744073709551616) (w : World) :
    Calls Try.prog 12 #[.int .u64 d] w fun e w' => e = .returned (.tuple #[.int .i64 (Fp.hol d), .bool (Fp.hok d)]) ∧ Grown w w' := by
  have WS := Lib.hid (wholeSize_at (d % 9223372036854775808))
  have hs := Fp.wsz_lt (d % 9223372036854775808)
  have FH : Hid (Fp.hol d = if Fp.hok d = true then (if d / 9223372036854775808 = 1 then -(Fp.wsz (d % 9223372036854775808) : Int) else Fp.wsz (d % 9223372036854775808)) else 0) := Lib.hid rfl
  have FK : Hid (Fp.hok d = (Fp.wok (d % 9223372036854775808) && decide (Fp.wsz (d % 9223372036854775808) ≤ 9223372036854775807 + d / 9223372036854775808))) := Lib.hid rfl
  have eD : Hid ((d : Int) % 9223372036854775808 = ((d % 9223372036854775808 : Nat) : Int)) := Lib.hid (by omega)
  have hD : d % 9223372036854775808 < 9223372036854775808 := by omega
  generalize Fp.wsz (d % 9223372036854775808) = S at *
  generalize Fp.wok (d % 9223372036854775808) = O at *
  generalize Fp.hol d = H at *
  generalize Fp.hok d = K at *
  by_cases hb : d / 9223372036854775808 = 1
  · have b0 : ((d : Int) / 9223372036854775808 == 1) = true := by rw [show (d : Int) / 9223372036854775808 = 1 by omega]; rfl
    cases O
    · have HV : Hid (H = 0 ∧ K = false) := Lib.hid (by have e := FH.out; rw [FK.out] at e; have t : (false && decide (S ≤ 9223372036854775807 + d / 9223372036854775808)) = false := (by rfl); rw [t] at e; exact ⟨(by rw [e]; rfl), FK.out.trans t⟩)
      clear FH FK
      go_enter Try.func12, Try.ntmps12
      go_wp2_with fail
      refine (WS.out _ eD.out hD _).mono ?_
      rintro e w1 ⟨rfl, hg⟩
      go_wp2_with fail
      all_goals go_ret2
      all_goals rw [HV.out.1, HV.out.2]
      all_goals refine ⟨retPair ?_ rfl, hg⟩
      all_goals first | rfl | omega | (simp only [wrap64, IntKind.wrap_u64]; omega)
    · by_cases hS : S ≤ 9223372036854775808
      · have HV : Hid (H = -(S : Int) ∧ K = true) := Lib.hid (by have e := FH.out; rw [FK.out] at e; have t : (true && decide (S ≤ 9223372036854775807 + d / 9223372036854775808)) = true := (by simp; omega); rw [t] at e; exact ⟨(by rw [e]; rw [if_pos rfl, if_pos hb]), FK.out.trans t⟩)
        clear FH FK
        go_enter Try.func12, Try.ntmps12
        go_wp2_with fail
        refine (WS.out _ eD.out hD _).mono ?_
        rintro e w1 ⟨rfl, hg⟩
        go_wp2_with fail
        all_goals go_ret2
        all_goals rw [HV.out.1, HV.out.2]
        all_goals refine ⟨retPair ?_ rfl, hg⟩
        all_goals first | rfl | omega | (simp only [wrap64, IntKind.wrap_u64]; omega)
      · have HV : Hid (H = 0 ∧ K = false) := Lib.hid (by have e := FH.out; rw [FK.out] at e; have t : (true && decide (S ≤ 9223372036854775807 + d / 9223372036854775808)) = false := (by simp; omega); rw [t] at e; exact ⟨(by rw [e]; rfl), FK.out.trans t⟩)
        clear FH FK
        go_enter Try.func12, Try.ntmps12
        go_wp2_with fail
        refine (WS.out _ eD.out hD _).mono ?_
        rintro e w1 ⟨rfl, hg⟩
        go_wp2_with fail
        all_goals go_ret2
        all_goals rw [HV.out.1, HV.out.2]
        all_goals refine ⟨retPair ?_ rfl, hg⟩
        all_goals first | rfl | omega | (simp only [wrap64, IntKind.wrap_u64]; omega)
  · have b0 : ((d : Int) / 9223372036854775808 == 1) = false := by simp; omega
    cases O
    · have HV : Hid (H = 0 ∧ K = false) := Lib.hid (by have e := FH.out; rw [FK.out] at e; have t : (false && decide (S ≤ 9223372036854775807 + d / 9223372036854775808)) = false := (by rfl); rw [t] at e; exact ⟨(by rw [e]; rfl), FK.out.trans t⟩)
      clear FH FK
      go_enter Try.func12, Try.ntmps12
      go_wp2_with fail
      refine (WS.out _ eD.out hD _).mono ?_
      rintro e w1 ⟨rfl, hg⟩
      go_wp2_with fail
      all_goals go_ret2
      all_goals rw [HV.out.1, HV.out.2]
      all_goals refine ⟨retPair ?_ rfl, hg⟩
      all_goals first | rfl | omega | (simp only [wrap64, IntKind.wrap_u64]; omega)
    · by_cases hS : S ≤ 9223372036854775807
      · have HV : Hid (H = (S : Int) ∧ K = true) := Lib.hid (by have e := FH.out; rw [FK.out] at e; have t : (true && decide (S ≤ 9223372036854775807 + d / 9223372036854775808)) = true := (by simp; omega); rw [t] at e; exact ⟨(by rw [e]; rw [if_pos rfl, if_neg hb]), FK.out.trans t⟩)
        clear FH FK
        go_enter Try.func12, Try.ntmps12
        go_wp2_with fail
        refine (WS.out _ eD.out hD _).mono ?_
        rintro e w1 ⟨rfl, hg⟩
        go_wp2_with fail
        all_goals go_ret2
        all_goals rw [HV.out.1, HV.out.2]
        all_goals refine ⟨retPair ?_ rfl, hg⟩
        all_goals first | rfl | omega | (simp only [wrap64, IntKind.wrap_u64]; omega)
      · have HV : Hid (H = 0 ∧ K = false) := Lib.hid (by have e := FH.out; rw [FK.out] at e; have t : (true && decide (S ≤ 9223372036854775807 + d / 9223372036854775808)) = false := (by simp; omega); rw [t] at e; exact ⟨(by rw [e]; rfl), FK.out.trans t⟩)
        clear FH FK
        go_enter Try.func12, Try.ntmps12
        go_wp2_with fail
        refine (WS.out _ eD.out hD _).mono ?_
        rintro e w1 ⟨rfl, hg⟩
        go_wp2_with fail
        all_goals go_ret2
        all_goals rw [HV.out.1, HV.out.2]
        all_goals refine ⟨retPair ?_ rfl, hg⟩
        all_goals first | rfl | omega | (simp only [wrap64, IntKind.wrap_u64]; omega)

end Go.Proofs.Ytcnalkbedcgknaa
