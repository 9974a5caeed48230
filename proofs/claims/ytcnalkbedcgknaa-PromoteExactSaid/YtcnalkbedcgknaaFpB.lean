/- Plain mathematics of layer 5: bits rise with numbers, and numbers of few digits go back to themselves. -/
import Derived.Test.YtcnalkbedcgknaaFp
namespace Go.Proofs.Ytcnalkbedcgknaa.Fp

def o64 (x : Nat) : Nat := if x / 9223372036854775808 = 1 then 18446744073709551615 - x else x + 9223372036854775808
def o32 (x : Nat) : Nat := if x / 2147483648 = 1 then 4294967295 - x else x + 2147483648

theorem o64_mono {n m : Int} (h0 : -9223372036854775808 ≤ n) (h1 : m ≤ 9223372036854775807) (h : n ≤ m) : o64 (fp 11 52 1023 n) ≤ o64 (fp 11 52 1023 m) := by
  have a := mag_hi (F := 52) (B := 1023) (s := n.natAbs) (by decide) (by omega)
  have b := mag_hi (F := 52) (B := 1023) (s := m.natAbs) (by decide) (by omega)
  unfold fp
  by_cases hn : n < 0
  · by_cases hm : m < 0
    · have c := mag_mono (F := 52) (B := 1023) (s := m.natAbs) (t := n.natAbs) (by decide) (by omega)
      rw [if_pos hn, if_pos hm]
      unfold o64
      rw [if_pos (by omega), if_pos (by omega)]
      omega
    · rw [if_pos hn, if_neg hm]
      unfold o64
      rw [if_pos (by omega), if_neg (by omega)]
      omega
  · have c := mag_mono (F := 52) (B := 1023) (s := n.natAbs) (t := m.natAbs) (by decide) (by omega)
    rw [if_neg hn, if_neg (by omega)]
    unfold o64
    rw [if_neg (by omega), if_neg (by omega)]
    omega

theorem o32_mono {n m : Int} (h0 : -9223372036854775808 ≤ n) (h1 : m ≤ 9223372036854775807) (h : n ≤ m) : o32 (fp 8 23 127 n) ≤ o32 (fp 8 23 127 m) := by
  have a := mag_hi (F := 23) (B := 127) (s := n.natAbs) (by decide) (by omega)
  have b := mag_hi (F := 23) (B := 127) (s := m.natAbs) (by decide) (by omega)
  unfold fp
  by_cases hn : n < 0
  · by_cases hm : m < 0
    · have c := mag_mono (F := 23) (B := 127) (s := m.natAbs) (t := n.natAbs) (by decide) (by omega)
      rw [if_pos hn, if_pos hm]
      unfold o32
      rw [if_pos (by omega), if_pos (by omega)]
      omega
    · rw [if_pos hn, if_neg hm]
      unfold o32
      rw [if_pos (by omega), if_neg (by omega)]
      omega
  · have c := mag_mono (F := 23) (B := 127) (s := n.natAbs) (t := m.natAbs) (by decide) (by omega)
    rw [if_neg hn, if_neg (by omega)]
    unfold o32
    rw [if_neg (by omega), if_neg (by omega)]
    omega

theorem log2_le {s k : Nat} (h : s ≤ 2 ^ k) (h0 : s ≠ 0) : s.log2 ≤ k := by
  have := log2_ge h0
  rcases Nat.lt_or_ge k s.log2 with c | c
  · have : 2 ^ k < 2 ^ s.log2 := Nat.pow_lt_pow_right (by decide) c
    omega
  · exact c

/-- The bits of a number of few digits: what stands behind its first digit. -/
theorem mag_exact {F B s : Nat} (h0 : s ≠ 0) (h : s.log2 ≤ F) (hB : 1 ≤ B) :
    ∃ g, g < 2 ^ F ∧ s * 2 ^ (F - s.log2) = 2 ^ F + g ∧ mag F B s = (B + s.log2) * 2 ^ F + g := by
  have a := mv_ge h0 F
  have b := mv_lt h0 (q := F) h
  have e : mv s s.log2 F = s * 2 ^ (F - s.log2) := by unfold mv; rw [if_neg (by omega)]
  rw [Nat.pow_succ] at b
  refine ⟨s * 2 ^ (F - s.log2) - 2 ^ F, by omega, by omega, ?_⟩
  unfold mag
  rw [if_neg h0, e, show B + s.log2 = (B + s.log2 - 1) + 1 by omega, Nat.add_mul]
  simp only [Nat.add_sub_cancel]
  omega

theorem wide_fp (m : Int) (h0 : -8388608 ≤ m) (h1 : m ≤ 8388608) : wide (fp 8 23 127 m) = fp 11 52 1023 m := by
  by_cases hm : m = 0
  · subst hm; decide +kernel
  · have s0 : m.natAbs ≠ 0 := by omega
    have hp := log2_le (s := m.natAbs) (k := 23) (by omega) s0
    obtain ⟨g, hg, e1, e2⟩ := mag_exact (F := 23) (B := 127) s0 hp (by decide)
    obtain ⟨g', hg', e1', e2'⟩ := mag_exact (F := 52) (B := 1023) s0 (by omega) (by decide)
    have k : g' = g * 536870912 := by
      have : m.natAbs * 2 ^ (52 - m.natAbs.log2) = m.natAbs * 2 ^ (23 - m.natAbs.log2) * 536870912 := by
        rw [Nat.mul_assoc]; congr 1
        rw [show (536870912 : Nat) = 2 ^ 29 by rfl, ← Nat.pow_add]; congr 1; omega
      omega
    unfold fp
    rw [e2, e2', k]
    have hx : ∀ b : Nat, b ≤ 1 → wide (b * 2147483648 + ((127 + m.natAbs.log2) * 8388608 + g)) = b * 9223372036854775808 + ((1023 + m.natAbs.log2) * 4503599627370496 + g * 536870912) := by
      intro b hb
      generalize m.natAbs.log2 = p at hp ⊢
      unfold wide
      rw [show (b * 2147483648 + ((127 + p) * 8388608 + g)) / 2147483648 = b by omega, show (b * 2147483648 + ((127 + p) * 8388608 + g)) / 8388608 % 256 = 127 + p by omega,
        show (b * 2147483648 + ((127 + p) * 8388608 + g)) % 8388608 = g by omega, if_neg (by omega), if_neg (by omega)]
      omega
    have x0 := hx 0 (by decide)
    have x1 := hx 1 (by decide)
    simp only [Nat.zero_mul, Nat.zero_add, Nat.one_mul] at x0 x1
    by_cases hn : m < 0
    · rw [if_pos hn, if_pos hn]; exact x1
    · rw [if_neg hn, if_neg hn]; exact x0

theorem whole_mag {s : Nat} (s0 : s ≠ 0) (h : s ≤ 4503599627370496) : mag 52 1023 s < 9223372036854775808 ∧ wsz (mag 52 1023 s) = s ∧ wok (mag 52 1023 s) = true := by
  have hp := log2_le (s := s) (k := 52) h s0
  obtain ⟨g, hg, e1, e2⟩ := mag_exact (F := 52) (B := 1023) s0 hp (by decide)
  rw [e2]
  have q1 : ((1023 + s.log2) * 2 ^ 52 + g) / 4503599627370496 = 1023 + s.log2 := by omega
  have q2 : ((1023 + s.log2) * 2 ^ 52 + g) % 4503599627370496 = g := by omega
  have q3 : 1075 - (1023 + s.log2) = 52 - s.log2 := by omega
  have q4 : g + 4503599627370496 = s * 2 ^ (52 - s.log2) := by omega
  have q5 : s * 2 ^ (52 - s.log2) / 2 ^ (52 - s.log2) = s := Nat.mul_div_cancel _ (Nat.two_pow_pos _)
  refine ⟨by omega, ?_, ?_⟩
  · unfold wsz
    rw [q1, q2, if_neg (by omega), if_neg (by omega), q3, q4, q5]
  · unfold wok
    rw [q1, q2, q3, q4, q5]
    simp; omega

theorem whole_fp (k : Int) (h0 : -4503599627370496 ≤ k) (h1 : k ≤ 4503599627370496) : hok (fp 11 52 1023 k) = true ∧ hol (fp 11 52 1023 k) = k := by
  by_cases hk : k = 0
  · subst hk; decide +kernel
  · have s0 : k.natAbs ≠ 0 := by omega
    obtain ⟨m0, m1, m2⟩ := whole_mag s0 (by omega)
    by_cases hn : k < 0
    · have e : fp 11 52 1023 k = 9223372036854775808 + mag 52 1023 k.natAbs := by unfold fp; rw [if_pos hn]
      have a : hok (fp 11 52 1023 k) = true := by
        unfold hok
        rw [e, show (9223372036854775808 + mag 52 1023 k.natAbs) % 9223372036854775808 = mag 52 1023 k.natAbs by omega, m1, m2]
        simp; omega
      refine ⟨a, ?_⟩
      unfold hol
      rw [if_pos a, e, show (9223372036854775808 + mag 52 1023 k.natAbs) % 9223372036854775808 = mag 52 1023 k.natAbs by omega, m1, if_pos (by omega)]
      omega
    · have e : fp 11 52 1023 k = mag 52 1023 k.natAbs := by unfold fp; rw [if_neg hn]
      have a : hok (fp 11 52 1023 k) = true := by
        unfold hok
        rw [e, Nat.mod_eq_of_lt m0, m1, m2]
        simp; omega
      refine ⟨a, ?_⟩
      unfold hol
      rw [if_pos a, e, Nat.mod_eq_of_lt m0, m1, if_neg (by omega)]
      omega

theorem rnd_exact (M k : Nat) : rnd (M * 2 ^ k) k = M := by
  unfold rnd up
  have h := Nat.two_pow_pos k
  by_cases h0 : k = 0
  · subst h0; simp
  · have g : 2 ^ (k - 1) ≠ 0 := by have := Nat.two_pow_pos (k - 1); omega
    rw [if_neg h0, Nat.mul_div_cancel _ h, Nat.mul_mod_left]
    generalize 2 ^ (k - 1) = G at g ⊢
    rw [if_neg (by omega)]
    omega

theorem mag_whole {D : Nat} (h0 : D ≠ 0) (h : wok D = true) : wsz D ≠ 0 ∧ mag 52 1023 (wsz D) = D := by
  have hw : 1023 ≤ D / 4503599627370496 ∧ D / 4503599627370496 < 1087 ∧ (1075 < D / 4503599627370496 ∨ (D % 4503599627370496 + 4503599627370496) / 2 ^ (1075 - D / 4503599627370496) * 2 ^ (1075 - D / 4503599627370496) = D % 4503599627370496 + 4503599627370496) := by
    unfold wok at h
    simpa [h0, and_assoc] using h
  obtain ⟨p, hp⟩ : ∃ p, D / 4503599627370496 = 1023 + p := ⟨D / 4503599627370496 - 1023, by omega⟩
  obtain ⟨M, hM⟩ : ∃ M, M = D % 4503599627370496 + 4503599627370496 := ⟨_, rfl⟩
  have m1 : 2 ^ 52 ≤ M := by omega
  have m2 : M < 2 ^ 53 := by omega
  have hD : D = (1023 + p - 1) * 2 ^ 52 + M := by omega
  rw [← hM, hp] at hw
  by_cases c : 52 < p
  · have e : wsz D = M * 2 ^ (p - 52) := by
      unfold wsz
      rw [← hM, hp, if_neg (by omega), if_pos (by omega), show 1023 + p - 1075 = p - 52 by omega]
    have a1 : 2 ^ p ≤ M * 2 ^ (p - 52) := by
      calc 2 ^ p = 2 ^ 52 * 2 ^ (p - 52) := by rw [← Nat.pow_add]; congr 1; omega
        _ ≤ _ := Nat.mul_le_mul_right _ m1
    have a2 : M * 2 ^ (p - 52) < 2 ^ (p + 1) := by
      calc M * 2 ^ (p - 52) < 2 ^ 53 * 2 ^ (p - 52) := Nat.mul_lt_mul_of_pos_right m2 (Nat.two_pow_pos _)
        _ = _ := by rw [← Nat.pow_add]; congr 1; omega
    have s0 : M * 2 ^ (p - 52) ≠ 0 := by have := Nat.two_pow_pos p; omega
    have l : (M * 2 ^ (p - 52)).log2 = p := (Nat.log2_eq_iff s0).2 ⟨a1, a2⟩
    rw [e]
    refine ⟨s0, ?_⟩
    unfold mag mv
    rw [if_neg s0, l, if_pos c, rnd_exact]
    exact hD.symm
  · have x := hw.2.2.resolve_left (by omega)
    rw [show 1075 - (1023 + p) = 52 - p by omega] at x
    have e : wsz D = M / 2 ^ (52 - p) := by
      unfold wsz
      rw [← hM, hp, if_neg (by omega), if_neg (by omega), show 1075 - (1023 + p) = 52 - p by omega]
    have a1 : 2 ^ p ≤ M / 2 ^ (52 - p) := by
      rw [Nat.le_div_iff_mul_le (Nat.two_pow_pos _), ← Nat.pow_add, show p + (52 - p) = 52 by omega]; exact m1
    have a2 : M / 2 ^ (52 - p) < 2 ^ (p + 1) := by
      rw [Nat.div_lt_iff_lt_mul (Nat.two_pow_pos _), ← Nat.pow_add, show p + 1 + (52 - p) = 53 by omega]; exact m2
    have s0 : M / 2 ^ (52 - p) ≠ 0 := by have := Nat.two_pow_pos p; omega
    have l : (M / 2 ^ (52 - p)).log2 = p := (Nat.log2_eq_iff s0).2 ⟨a1, a2⟩
    rw [e]
    refine ⟨s0, ?_⟩
    unfold mag mv
    rw [if_neg s0, l, if_neg c, x]
    exact hD.symm

theorem fp_whole {d : Nat} (hd : d < 18446744073709551616) (h : hok d = true) : fp 11 52 1023 (hol d) = d ∨ d = 9223372036854775808 := by
  have hk : wok (d % 9223372036854775808) = true := by unfold hok at h; simp at h; exact h.1
  unfold hol
  rw [if_pos h]
  by_cases h0 : d % 9223372036854775808 = 0
  · by_cases hb : d / 9223372036854775808 = 1
    · right; omega
    · left
      have : d = 0 := by omega
      subst this
      decide +kernel
  · left
    obtain ⟨s0, e⟩ := mag_whole h0 hk
    generalize wsz (d % 9223372036854775808) = S at *
    by_cases hb : d / 9223372036854775808 = 1
    · rw [if_pos hb]
      unfold fp
      rw [if_pos (by omega), show (-(S : Int)).natAbs = S by omega, e]
      omega
    · rw [if_neg hb]
      unfold fp
      rw [if_neg (by omega), show (S : Int).natAbs = S by omega, e]
      omega

theorem hol_not {d : Nat} (h : hok d = false) : hol d = 0 := by unfold hol; rw [h]; rfl

theorem hol_fit {d : Nat} (hd : d < 18446744073709551616) (h : hok d = true) : -9223372036854775808 ≤ hol d ∧ hol d ≤ 9223372036854775807 := by
  have hk : wsz (d % 9223372036854775808) ≤ 9223372036854775807 + d / 9223372036854775808 := by unfold hok at h; simp at h; exact h.2
  unfold hol
  rw [if_pos h]
  split <;> omega

theorem flip64 {x : Nat} (h : x < 18446744073709551616) : bits .xor .u64 IntKind.u64.max (x : Int) = ((18446744073709551615 - x : Nat) : Int) := by
  have := u64_xor_nat 18446744073709551615 x (by decide) h
  rw [show IntKind.u64.max = ((18446744073709551615 : Nat) : Int) by rfl, this]
  congr 1
  exact Lib.xor_ones64 x h

theorem flip32 {x : Nat} (h : x < 4294967296) : bits .xor .u32 IntKind.u32.max (x : Int) = ((4294967295 - x : Nat) : Int) := by
  have := u32_xor_nat 4294967295 x (by decide) h
  rw [show IntKind.u32.max = ((4294967295 : Nat) : Int) by rfl, this]
  congr 1
  exact Num.xor_ones32 x h

theorem lift64 {x : Nat} (h : x < 9223372036854775808) : bits .or .u64 (x : Int) 9223372036854775808 = ((x + 9223372036854775808 : Nat) : Int) := by
  have e := u64_or_nat x 9223372036854775808 (by omega) (by decide)
  have k := Nat.two_pow_add_eq_or_of_lt (i := 63) (b := x) h 1
  rw [Nat.or_comm] at k
  simp only [Nat.mul_one, Nat.reducePow] at k
  rw [← k] at e
  rw [show (9223372036854775808 : Int) = ((9223372036854775808 : Nat) : Int) by rfl, e]
  omega

theorem lift32 {x : Nat} (h : x < 2147483648) : bits .or .u32 (x : Int) 2147483648 = ((x + 2147483648 : Nat) : Int) := by
  have e := u32_or_nat x 2147483648 (by omega) (by decide)
  have k := Nat.two_pow_add_eq_or_of_lt (i := 31) (b := x) h 1
  rw [Nat.or_comm] at k
  simp only [Nat.mul_one, Nat.reducePow] at k
  rw [← k] at e
  rw [show (2147483648 : Int) = ((2147483648 : Nat) : Int) by rfl, e]
  omega

end Go.Proofs.Ytcnalkbedcgknaa.Fp
