/- The document's own rounding, digit by digit; and the walk over bits. -/
import Derived.Test.YtcnalkbedcgknaaPromW
import Derived.Test.YtcnalkbedcgknaaPromL
namespace Go.Proofs.Ytcnalkbedcgknaa
open Go.ChangeShapes Go.WideShapes Go.ChangeAt Go.RowKit

/-- Of the digits that are dropped the first one; and whether there is one behind it. -/
def hf (u i : Nat) : Bool := decide (0 < i) && decide (u / 2 ^ (i - 1) % 2 = 1)
def mo (u i : Nat) : Bool := decide (0 < i) && decide (u % 2 ^ (i - 1) ≠ 0)

theorem hf_succ (u i : Nat) : hf u (i + 1) = decide (u / 2 ^ i % 2 = 1) := by unfold hf; simp
theorem mo_succ (u i : Nat) : mo u (i + 1) = (mo u i || hf u i) := by
  unfold mo hf
  by_cases h : i = 0
  · subst h; simp [Nat.mod_one]
  · obtain ⟨k, rfl⟩ : ∃ k, i = k + 1 := ⟨i - 1, by omega⟩
    simp only [Nat.add_sub_cancel, Nat.succ_pos, decide_true, Bool.true_and]
    rw [Nat.mod_pow_succ]
    have hp := Nat.two_pow_pos k
    rcases Nat.mod_two_eq_zero_or_one (u / 2 ^ k) with e | e
    · rw [e]; simp
    · rw [e]
      have : u % 2 ^ k + 2 ^ k * 1 ≠ 0 := by omega
      simp
theorem div_succ (u i : Nat) : u / 2 ^ (i + 1) = u / 2 ^ i / 2 := by rw [Nat.pow_succ, Nat.div_div_eq_div_mul]

theorem up_hf (u d : Nat) (h : 0 < d) : Fp.up u d = if (hf u d && (mo u d || decide (u / 2 ^ d % 2 = 1))) = true then 1 else 0 := by
  unfold Fp.up hf mo
  obtain ⟨k, rfl⟩ : ∃ k, d = k + 1 := ⟨d - 1, by omega⟩
  simp only [Nat.add_sub_cancel, Nat.succ_pos, decide_true, Bool.true_and]
  rw [Nat.mod_pow_succ]
  have hp := Nat.two_pow_pos k
  have hr : u % 2 ^ k < 2 ^ k := Nat.mod_lt _ hp
  have eb := Nat.mod_two_eq_zero_or_one (u / 2 ^ k)
  generalize u / 2 ^ k % 2 = b at *
  generalize u % 2 ^ k = r at *
  generalize u / 2 ^ (k + 1) % 2 = o at *
  generalize 2 ^ k = P at *
  rcases eb with e | e
  · rw [e, if_neg (by omega)]; simp
  · rw [e, Nat.mul_one]
    by_cases c : r = 0
    · subst c
      by_cases c2 : o = 1
      · rw [if_pos (by omega)]; simp [c2]
      · rw [if_neg (by omega)]; simp [c2]
    · rw [if_pos (by omega)]; simp [c]
theorem rnd_hf (u d : Nat) : Fp.rnd u d = u / 2 ^ d + if (hf u d && (mo u d || decide (u / 2 ^ d % 2 = 1))) = true then 1 else 0 := by
  by_cases h : d = 0
  · subst h; simp [Fp.rnd, hf]
  · unfold Fp.rnd; rw [if_neg h, up_hf u d (by omega)]

theorem rnd_none {u d i : Nat} (h1 : i < d) (h2 : u / 2 ^ i = 0) (h3 : hf u i = false) : Fp.rnd u d = 0 := by
  have hu : u < 2 ^ (d - 1) := by
    by_cases h : i = 0
    · subst h
      have : u = 0 := by simpa using h2
      subst this; exact Nat.two_pow_pos _
    · obtain ⟨k, rfl⟩ : ∃ k, i = k + 1 := ⟨i - 1, by omega⟩
      have a : u / 2 ^ k % 2 ≠ 1 := by simpa [hf] using h3
      have b : u < 2 ^ (k + 1) := by
        rcases Nat.lt_or_ge u (2 ^ (k + 1)) with c | c
        · exact c
        · have := Nat.div_pos c (Nat.two_pow_pos (k + 1)); omega
      have c : u / 2 ^ k < 2 := by rw [Nat.div_lt_iff_lt_mul (Nat.two_pow_pos _), Nat.mul_comm, ← Nat.pow_succ]; exact b
      have e : 2 ^ (k + 1) ≤ 2 ^ (d - 1) := Nat.pow_le_pow_right (by decide) (by omega)
      omega
  have hd : 2 ^ (d - 1) ≤ 2 ^ d := Nat.pow_le_pow_right (by decide) (by omega)
  unfold Fp.rnd Fp.up
  rw [if_neg (by omega), Nat.div_eq_of_lt (by omega), Nat.mod_eq_of_lt (by omega), if_neg (by omega)]

theorem hf_half {u i : Nat} (hu : u < 18446744073709551616) (h : hf u i = true) : u / 2 ^ i < 9223372036854775808 := by
  have h0 : i ≠ 0 := by intro e; subst e; simp [hf] at h
  obtain ⟨k, rfl⟩ : ∃ k, i = k + 1 := ⟨i - 1, by omega⟩
  rw [div_succ]
  have := Nat.div_le_self u (2 ^ k)
  omega

theorem rRound_any (u d : Nat) (hu : u < 18446744073709551616) (hd : d < 18446744073709551616) (w : World) :
    Calls Try.prog 17 #[.int .u64 u, .int .u64 d] w fun e w' => e = .returned (.int .u64 (Fp.rnd u d : Nat)) ∧ w = w' := by
  have FR : Hid (∀ i, i = d → Fp.rnd u d = u / 2 ^ i + if (hf u i && (mo u i || decide (u / 2 ^ i % 2 = 1))) = true then 1 else 0) := Lib.hid (fun i e => by subst e; exact rnd_hf u i)
  have FN : Hid (∀ i, i < d → u / 2 ^ i = 0 → hf u i = false → Fp.rnd u d = 0) := Lib.hid (fun _ => rnd_none)
  generalize Fp.rnd u d = R at *
  go_enter Try.func17, Try.ntmps17
  go_wp2
  go_loop [0, 5, 6, 7] (fun a h m c => ∃ i : Nat, i ≤ d ∧ a = .int .u64 ((u / 2 ^ i : Nat) : Int) ∧ h = .bool (hf u i) ∧ m = .bool (mo u i) ∧ c = .int .u64 (i : Int)) (fun _ _ _ c => d - (intOf c).toNat)
  case atStart => exact ⟨0, by omega, by simp, rfl, rfl, rfl⟩
  case round =>
    obtain ⟨i, hi, rfl, rfl, rfl, rfl⟩ := hrel
    have U1 : u / 2 ^ i ≤ u := Nat.div_le_self _ _
    have R1 := Lib.hid (div_succ u i); have R2 := Lib.hid (hf_succ u i); have R3 := Lib.hid (mo_succ u i)
    have FR := Lib.hid (FR.out i); have FN := Lib.hid (FN.out i)
    have FH : Hid (hf u i = true → u / 2 ^ i < 9223372036854775808) := Lib.hid (hf_half hu)
    generalize hf u i = H at *
    generalize mo u i = M at *
    generalize u / 2 ^ i = U at *
    by_cases c : i = d
    · have FR' := Lib.hid (FR.out c)
      clear FR FN R1 R2 R3
      cases H
      · clear FH
        go_wp2
        all_goals go_ret
        exact ⟨retInt (by rw [FR'.out]; simp), rfl⟩
      · have hh := FH.out rfl
        clear FH
        by_cases o : U % 2 = 1
        · have o' : ((U : Int).tmod 2 == 1) = true := by rw [Int.tmod_eq_emod_of_nonneg (Int.natCast_nonneg _)]; simp; omega
          cases M
          · go_wp2
            all_goals go_ret
            all_goals exact ⟨retInt (by rw [FR'.out]; simp [o]), rfl⟩
          · go_wp2
            all_goals go_ret
            all_goals exact ⟨retInt (by rw [FR'.out]; simp [o]), rfl⟩
        · have o' : ((U : Int).tmod 2 == 1) = false := by rw [Int.tmod_eq_emod_of_nonneg (Int.natCast_nonneg _)]; simp; omega
          cases M
          · go_wp2
            all_goals go_ret
            all_goals exact ⟨retInt (by rw [FR'.out]; simp [o]), rfl⟩
          · go_wp2
            all_goals go_ret
            all_goals exact ⟨retInt (by rw [FR'.out]; simp [o]), rfl⟩
    · have c1 : (i : Int) < (d : Int) := by omega
      by_cases u0 : U = 0
      · cases H
        · have FN' := Lib.hid (FN.out (by omega) u0 rfl)
          clear FR FN FH R1 R2 R3
          subst u0
          go_wp2
          all_goals go_ret
          all_goals exact ⟨retInt (by rw [FN'.out]; rfl), rfl⟩
        · clear FR FN FH
          subst u0
          cases M
          all_goals go_wp2
          all_goals refine ⟨⟨i + 1, by omega, congrArg (Value.int .u64) (by rw [R1.out]; omega), congrArg Value.bool ?_, congrArg Value.bool (by rw [R3.out]; rfl), rfl⟩, by simp [intOf]; omega⟩
          all_goals (rw [R2.out]; rfl)
      · clear FR FN FH
        have u1 : (0 : Int) < (U : Int) := by omega
        have T : ((U : Int).tmod 2 == 1) = decide (U % 2 = 1) := by rw [Int.tmod_eq_emod_of_nonneg (Int.natCast_nonneg _), Bool.eq_iff_iff]; simp; omega
        have T := Lib.hid T
        cases H
        all_goals cases M
        all_goals go_wp2
        all_goals refine ⟨⟨i + 1, by omega, congrArg (Value.int .u64) (by rw [R1.out]; omega), congrArg Value.bool ?_, congrArg Value.bool (by rw [R3.out]; rfl), rfl⟩, by simp [intOf]; omega⟩
        all_goals (rw [R2.out]; first | exact T.out | (rw [← T.out]; rfl))

theorem rnd_over (u d : Nat) (hu : u < 18446744073709551616) (hd : 64 < d) : Fp.rnd u d = 0 := by
  have a : 2 ^ 64 ≤ 2 ^ (d - 1) := Nat.pow_le_pow_right (by decide) (by omega)
  have b : 2 ^ 64 ≤ 2 ^ d := Nat.pow_le_pow_right (by decide) (by omega)
  unfold Fp.rnd Fp.up
  rw [if_neg (by omega), Nat.div_eq_of_lt (by omega), Nat.mod_eq_of_lt (by omega), if_neg (by omega)]

theorem Round_all (u d : Nat) (hu : u < 18446744073709551616) (hd : d < 18446744073709551616) (w : World) :
    Calls Try.prog 16 #[.int .u64 u, .int .u64 d] w fun e w' => e = .returned (.int .u64 (Fp.rnd u d : Nat)) ∧ w = w' := by
  by_cases h : d ≤ 64
  · exact Round_any u d hu h w
  · have F := Lib.hid (rnd_over u d hu (by omega))
    go_enter Try.func16, Try.ntmps16
    go_wp2
    all_goals go_ret
    all_goals exact ⟨retInt (by rw [F.out]; rfl), rfl⟩

theorem promoteBits_walk (f d k : Int) (hf : (Lit.int .u32 f).wf = true) (hd : (Lit.int .u64 d).wf = true) (hk : (Lit.int .u64 k).wf = true) (w : World) :
    Calls Try.prog 4 #[.int .u32 f, .int .u64 d, .int .u64 k] w fun e w' => e = .returned (.bool true) ∧ Grown w w' := by
  obtain ⟨f0, f1⟩ := fu32 hf
  obtain ⟨d0, d1⟩ := fu64 hd
  obtain ⟨k0, k1⟩ := fu64 hk
  clear hf hd hk
  obtain ⟨f, rfl⟩ : ∃ x : Nat, f = (x : Int) := ⟨f.toNat, by omega⟩
  obtain ⟨d, rfl⟩ : ∃ x : Nat, d = (x : Int) := ⟨d.toNat, by omega⟩
  obtain ⟨k, rfl⟩ : ∃ x : Nat, k = (x : Int) := ⟨k.toNat, by omega⟩
  have H := Lib.hid (Whole_any d (by omega)); have RH := Lib.hid (rWhole_any d (by omega))
  have W := Lib.hid (Wide_any f (by omega)); have RW := Lib.hid (rWide_any f (by omega))
  have R := Lib.hid (Round_all d k (by omega) (by omega)); have RR := Lib.hid (rRound_any d k (by omega) (by omega))
  generalize Fp.hol d = A at *
  generalize Fp.hok d = B at *
  generalize ((Fp.wide f : Nat) : Int) = C at *
  generalize ((Fp.rnd d k : Nat) : Int) = E at *
  go_enter Try.func4, Try.ntmps4
  go_wp2_with fail
  refine (H.out _).mono ?_
  rintro e w1 ⟨rfl, g1⟩
  go_wp2_with fail
  refine (RH.out _).mono ?_
  rintro e w2 ⟨rfl, rfl⟩
  go_wp2_with fail
  refine (W.out _).mono ?_
  rintro e w3 ⟨rfl, g3⟩
  go_wp2_with fail
  refine (RW.out _).mono ?_
  rintro e w4 ⟨rfl, rfl⟩
  go_wp2_with fail
  refine (R.out _).mono ?_
  rintro e w5 ⟨rfl, rfl⟩
  go_wp2_with fail
  refine (RR.out _).mono ?_
  rintro e w6 ⟨rfl, rfl⟩
  go_wp2_with fail
  refine (works_any _).mono ?_
  rintro e w7 ⟨rfl, g7⟩
  go_wp2_with fail
  all_goals go_ret
  exact ⟨rfl, grown_trans g1 (grown_trans g3 g7)⟩
end Go.Proofs.Ytcnalkbedcgknaa
