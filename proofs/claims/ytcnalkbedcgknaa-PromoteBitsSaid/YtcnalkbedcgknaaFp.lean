/- Plain mathematics of layer 5: whole numbers rounded to so many binary digits, and the bits of the floating number that is nearest to one. -/
import Derived.Test.YtcnalkbedcgknaaNum
import GoSem.Core.Float
namespace Go.Proofs.Ytcnalkbedcgknaa.Fp

/-- A number without its lowest d digits, rounded to the nearest, of two as near the even one. -/
def up (u d : Nat) : Nat := if 2 ^ (d - 1) < u % 2 ^ d ∨ (u % 2 ^ d = 2 ^ (d - 1) ∧ u / 2 ^ d % 2 = 1) then 1 else 0
def rnd (u d : Nat) : Nat := if d = 0 then u else u / 2 ^ d + up u d
/-- A number's digits, the one at place p laid at place q. -/
def mv (u p q : Nat) : Nat := if q < p then rnd u (p - q) else u * 2 ^ (q - p)
/-- The bits without a sign. -/
def mag (F B s : Nat) : Nat := if s = 0 then 0 else (B + s.log2 - 1) * 2 ^ F + mv s s.log2 F
/-- The bits of the nearest one. -/
def fp (E F B : Nat) (n : Int) : Nat := if n < 0 then 2 ^ (E + F) + mag F B n.natAbs else mag F B n.natAbs

theorem up_le (u d : Nat) : up u d ≤ 1 := by unfold up; split <;> omega
theorem rnd_zero (u : Nat) : rnd u 0 = u := by simp [rnd]

theorem rnd_le (u d : Nat) : rnd u d ≤ u / 2 ^ d + 1 := by
  unfold rnd; split
  · subst d; simp
  · have := up_le u d; omega
theorem rnd_ge (u d : Nat) : u / 2 ^ d ≤ rnd u d := by
  unfold rnd; split
  · subst d; simp
  · omega

theorem up_mono {u v d : Nat} (h : u ≤ v) (e : u / 2 ^ d = v / 2 ^ d) : up u d ≤ up v d := by
  have a := Nat.div_add_mod u (2 ^ d)
  have b := Nat.div_add_mod v (2 ^ d)
  unfold up
  rw [e] at a ⊢
  generalize v / 2 ^ d = q at *
  generalize 2 ^ d * q = Q at *
  generalize u % 2 ^ d = x at *
  generalize v % 2 ^ d = y at *
  generalize 2 ^ (d - 1) = h at *
  split <;> split <;> omega

theorem rnd_mono {u v d : Nat} (h : u ≤ v) : rnd u d ≤ rnd v d := by
  have q : u / 2 ^ d ≤ v / 2 ^ d := Nat.div_le_div_right h
  rcases Nat.lt_or_eq_of_le q with q | q
  · have := rnd_le u d; have := rnd_ge v d; omega
  · unfold rnd
    split
    · exact h
    · have := up_mono h q; omega

theorem log2_lt {s : Nat} (_h : s ≠ 0) : s < 2 ^ (s.log2 + 1) := Nat.lt_log2_self
theorem log2_ge {s : Nat} (h : s ≠ 0) : 2 ^ s.log2 ≤ s := Nat.log2_self_le h

/-- What is laid at place q has its first digit there, or, rounded, one place up. -/
theorem mv_ge {s : Nat} (h : s ≠ 0) (q : Nat) : 2 ^ q ≤ mv s s.log2 q := by
  unfold mv
  split
  · rename_i hq
    refine Nat.le_trans ?_ (rnd_ge _ _)
    rw [Nat.le_div_iff_mul_le (Nat.two_pow_pos _), ← Nat.pow_add, show q + (s.log2 - q) = s.log2 by omega]
    exact log2_ge h
  · rename_i hq
    calc 2 ^ q = 2 ^ s.log2 * 2 ^ (q - s.log2) := by rw [← Nat.pow_add, show s.log2 + (q - s.log2) = q by omega]
      _ ≤ s * 2 ^ (q - s.log2) := Nat.mul_le_mul_right _ (log2_ge h)

theorem mv_le {s : Nat} (h : s ≠ 0) (q : Nat) : mv s s.log2 q ≤ 2 ^ (q + 1) := by
  unfold mv
  split
  · rename_i hq
    have h1 := rnd_le s (s.log2 - q)
    have h2 : s / 2 ^ (s.log2 - q) < 2 ^ (q + 1) := by
      rw [Nat.div_lt_iff_lt_mul (Nat.two_pow_pos _), ← Nat.pow_add, show q + 1 + (s.log2 - q) = s.log2 + 1 by omega]
      exact log2_lt h
    omega
  · rename_i hq
    calc s * 2 ^ (q - s.log2) ≤ 2 ^ (s.log2 + 1) * 2 ^ (q - s.log2) := Nat.mul_le_mul_right _ (Nat.le_of_lt (log2_lt h))
      _ = 2 ^ (q + 1) := by rw [← Nat.pow_add, show s.log2 + 1 + (q - s.log2) = q + 1 by omega]

theorem mv_lt {s : Nat} (h : s ≠ 0) {q : Nat} (hq : s.log2 ≤ q) : mv s s.log2 q < 2 ^ (q + 1) := by
  unfold mv
  rw [if_neg (by omega)]
  calc s * 2 ^ (q - s.log2) < 2 ^ (s.log2 + 1) * 2 ^ (q - s.log2) := Nat.mul_lt_mul_of_pos_right (log2_lt h) (Nat.two_pow_pos _)
    _ = 2 ^ (q + 1) := by rw [← Nat.pow_add, show s.log2 + 1 + (q - s.log2) = q + 1 by omega]

theorem log2_mono {s t : Nat} (h : s ≤ t) : s.log2 ≤ t.log2 := by
  by_cases h0 : s = 0
  · subst h0; simp
  · have ht : t ≠ 0 := by omega
    rw [Nat.le_log2 ht]
    exact Nat.le_trans (log2_ge h0) h

theorem mv_mono {s t p q : Nat} (h : s ≤ t) : mv s p q ≤ mv t p q := by
  unfold mv
  split
  · exact rnd_mono h
  · exact Nat.mul_le_mul_right _ h

theorem mag_mono {F B s t : Nat} (hB : 1 ≤ B) (h : s ≤ t) : mag F B s ≤ mag F B t := by
  unfold mag
  by_cases h0 : s = 0
  · simp [h0]
  · have ht : t ≠ 0 := by omega
    rw [if_neg h0, if_neg ht]
    rcases Nat.lt_or_eq_of_le (log2_mono h) with q | q
    · have a := mv_le h0 F
      have b := mv_ge ht F
      rw [Nat.pow_succ] at a
      have c : (B + s.log2 - 1 + 1) * 2 ^ F ≤ (B + t.log2 - 1) * 2 ^ F := Nat.mul_le_mul_right _ (by omega)
      rw [Nat.add_mul] at c
      omega
    · rw [q]
      exact Nat.add_le_add_left (mv_mono h) _

theorem mag_zero (F B : Nat) : mag F B 0 = 0 := by simp [mag]

theorem log2_hi {s : Nat} (h : s < 2 ^ 64) : s.log2 < 64 := by
  by_cases h0 : s = 0
  · subst h0; decide
  · exact (Nat.log2_lt h0).2 h

/-- Bits without a sign leave the sign's place. -/
theorem mag_hi {F B s : Nat} (hB : 1 ≤ B) (h : s < 2 ^ 64) : mag F B s ≤ (B + 64) * 2 ^ F := by
  unfold mag
  split
  · omega
  · rename_i h0
    have a := mv_le h0 F
    have := log2_hi h
    rw [Nat.pow_succ] at a
    have c : (B + s.log2 - 1 + 2) * 2 ^ F ≤ (B + 64) * 2 ^ F := Nat.mul_le_mul_right _ (by omega)
    rw [Nat.add_mul] at c
    omega

/-- How many digits a number has, by the layers' own word. -/
theorem bl_log2 (s : Nat) (h0 : s ≠ 0) (h : s < 2 ^ 64) : Num.bl (s : Int) = ((s.log2 : Nat) : Int) + 1 := by
  induction s using Nat.strongRecOn with
  | _ s ih =>
    rw [Num.bl_step (by omega) (by omega)]
    by_cases h2 : 2 ≤ s
    · have := ih (s / 2) (by omega) (by omega) (by omega)
      rw [show ((s : Int) / 2) = ((s / 2 : Nat) : Int) by omega, this, Nat.log2_def s, if_pos h2]
      omega
    · obtain rfl : s = 1 := by omega
      decide

/-! ### The document's own -/

theorem gap_pow (d n : Nat) (h : d ≤ n.log2 + 2) : 1 <<< min d (n.log2 + 2) = 2 ^ d := by
  rw [Nat.min_eq_left h, Nat.shiftLeft_eq, Nat.one_mul]

theorem cut_rnd (neg : Bool) (n d : Nat) (h : d ≤ n.log2 + 2) : Ieee.Toward.even.cut neg n d = rnd n d := by
  unfold Ieee.Toward.cut
  rw [gap_pow d n h]
  unfold rnd up
  by_cases hd : d = 0
  · subst d; simp [Nat.mod_one]
  · obtain ⟨k, rfl⟩ : ∃ k, d = k + 1 := ⟨d - 1, by omega⟩
    rw [if_neg hd]
    simp only [Nat.add_sub_cancel]
    generalize hr : n % 2 ^ (k + 1) = r
    generalize n / 2 ^ (k + 1) = q
    have e : 2 ^ (k + 1) = 2 * 2 ^ k := by rw [Nat.pow_succ, Nat.mul_comm]
    rw [e]
    generalize 2 ^ k = g
    by_cases c : g < r ∨ (r = g ∧ q % 2 = 1)
    · rw [if_pos c]
      have : (decide (2 * g < 2 * r) || (2 * g == 2 * r && q % 2 == 1)) = true := by
        rcases c with c | ⟨rfl, c⟩
        · simp; omega
        · simp [c]
      simp only [this, Bool.toNat_true]
    · rw [if_neg c]
      have : (decide (2 * g < 2 * r) || (2 * g == 2 * r && q % 2 == 1)) = false := by
        have c1 : ¬ g < r := fun h => c (.inl h)
        have c2 : ¬ (r = g ∧ q % 2 = 1) := fun h => c (.inr h)
        simp only [Bool.or_eq_false_iff, decide_eq_false_iff_not, Bool.and_eq_false_iff, beq_eq_false_iff_ne]
        refine ⟨by omega, ?_⟩
        by_cases h : q % 2 = 1
        · exact .inl (fun hh => c2 ⟨by omega, h⟩)
        · exact .inr h
      simp only [this, Bool.toNat_false]

theorem nearest_fp {f : Ieee.Format} {B : Nat} (hB : B + 1 = 2 ^ (f.exponentBits - 1)) (h1 : 1 ≤ B) (hI : (B + 64) * f.binade ≤ f.infRung)
    (neg : Bool) (s : Nat) (hs : s < 2 ^ 64) :
    f.nearest neg s 0 = f.word neg (mag f.fractionBits B s) := by
  unfold Ieee.Format.nearest
  by_cases h0 : s = 0
  · rw [if_pos h0, h0, mag_zero]
  · rw [if_neg h0]
    have hlp : f.leastPlace = 1 - (B : Int) - f.fractionBits := by
      unfold Ieee.Format.leastPlace
      have : ((2 : Int) ^ (f.exponentBits - 1)) = ((B + 1 : Nat) : Int) := by rw [hB]; simp
      rw [this]; omega
    have hl : max ((0 : Int) + s.log2 - f.fractionBits) (1 - (B : Int) - f.fractionBits) = (s.log2 : Int) - f.fractionBits := by omega
    simp only [hlp, hl]
    have e1 : ((s.log2 : Int) - f.fractionBits - (1 - (B : Int) - f.fractionBits)).toNat = B + s.log2 - 1 := by omega
    rw [e1]
    have e2 : Ieee.Toward.even.cut neg (s <<< (0 - ((s.log2 : Int) - f.fractionBits)).toNat) ((s.log2 : Int) - f.fractionBits - 0).toNat = mv s s.log2 f.fractionBits := by
      unfold mv
      by_cases c : f.fractionBits < s.log2
      · rw [if_pos c, show (0 - ((s.log2 : Int) - f.fractionBits)).toNat = 0 by omega, show ((s.log2 : Int) - f.fractionBits - 0).toNat = s.log2 - f.fractionBits by omega, Nat.shiftLeft_zero]
        exact cut_rnd neg s _ (by omega)
      · rw [if_neg c, show (0 - ((s.log2 : Int) - f.fractionBits)).toNat = f.fractionBits - s.log2 by omega, show ((s.log2 : Int) - f.fractionBits - 0).toNat = 0 by omega,
          cut_rnd neg _ _ (by omega), rnd_zero, Nat.shiftLeft_eq]
    rw [e2]
    have := mag_hi (F := f.fractionBits) (B := B) h1 hs
    unfold mag at this
    rw [if_neg h0] at this
    unfold Ieee.Format.binade at hI ⊢
    rw [Nat.min_eq_left (by omega)]
    unfold mag
    rw [if_neg h0]

theorem word_fp (f : Ieee.Format) (B : Nat) (n : Int) : f.word (decide (n < 0)) (mag f.fractionBits B n.natAbs) = fp f.exponentBits f.fractionBits B n := by
  unfold Ieee.Format.word Ieee.Format.signWeight fp
  by_cases h : n < 0
  · simp [h]
  · simp [h]

theorem near64 (n : Int) (h0 : -9223372036854775808 ≤ n) (h1 : n ≤ 9223372036854775807) : FloatKind.f64.nearest n = fp 11 52 1023 n := by
  unfold FloatKind.nearest FloatKind.encode Ieee.Format.write
  have := nearest_fp (f := Ieee.double) (B := 1023) (by decide) (by decide) (by decide) (decide (n < 0)) n.natAbs (by omega)
  exact this.trans (word_fp Ieee.double 1023 n)

theorem near32 (n : Int) (h0 : -9223372036854775808 ≤ n) (h1 : n ≤ 9223372036854775807) : FloatKind.f32.nearest n = fp 8 23 127 n := by
  unfold FloatKind.nearest FloatKind.encode Ieee.Format.write
  have := nearest_fp (f := Ieee.single) (B := 127) (by decide) (by decide) (by decide) (decide (n < 0)) n.natAbs (by omega)
  exact this.trans (word_fp Ieee.single 127 n)

/-! ### Bits of 32 as bits of 64; bits as whole numbers -/

def small (g : Nat) : Nat := if g = 0 then 0 else fp 11 52 1023 g - 671036344478203904
def wide (f : Nat) : Nat := f / 2147483648 * 9223372036854775808 + if f / 8388608 % 256 = 0 then small (f % 8388608)
  else (if f / 8388608 % 256 = 255 then 2047 else f / 8388608 % 256 + 896) * 4503599627370496 + f % 8388608 * 536870912
/-- The whole number that bits without a sign have. -/
def wsz (d : Nat) : Nat := if d / 4503599627370496 < 1023 ∨ 1087 ≤ d / 4503599627370496 then 0
  else if 1075 < d / 4503599627370496 then (d % 4503599627370496 + 4503599627370496) * 2 ^ (d / 4503599627370496 - 1075)
  else (d % 4503599627370496 + 4503599627370496) / 2 ^ (1075 - d / 4503599627370496)
def wok (d : Nat) : Bool := d == 0 || (decide (1023 ≤ d / 4503599627370496) && decide (d / 4503599627370496 < 1087) &&
  (decide (1075 < d / 4503599627370496) || (d % 4503599627370496 + 4503599627370496) / 2 ^ (1075 - d / 4503599627370496) * 2 ^ (1075 - d / 4503599627370496) == d % 4503599627370496 + 4503599627370496))
/-- Whether bits have a whole number that may be, and which. -/
def hok (d : Nat) : Bool := wok (d % 9223372036854775808) && decide (wsz (d % 9223372036854775808) ≤ 9223372036854775807 + d / 9223372036854775808)
def hol (d : Nat) : Int := if hok d = true then (if d / 9223372036854775808 = 1 then -(wsz (d % 9223372036854775808) : Int) else wsz (d % 9223372036854775808)) else 0

theorem fp_lt (n : Int) (h0 : -9223372036854775808 ≤ n) (h1 : n ≤ 9223372036854775807) : fp 11 52 1023 n < 18446744073709551616 := by
  have := mag_hi (F := 52) (B := 1023) (s := n.natAbs) (by decide) (by omega)
  unfold fp; split <;> omega
theorem fp32_lt (n : Int) (h0 : -9223372036854775808 ≤ n) (h1 : n ≤ 9223372036854775807) : fp 8 23 127 n < 4294967296 := by
  have := mag_hi (F := 23) (B := 127) (s := n.natAbs) (by decide) (by omega)
  unfold fp; split <;> omega
theorem fp_pos (g : Nat) (h : g ≠ 0) (h1 : g < 18446744073709551616) : 4607182418800017408 ≤ fp 11 52 1023 g ∧ fp 11 52 1023 g ≤ 4895412794951729152 := by
  have e : fp 11 52 1023 g = mag 52 1023 g := by unfold fp; rw [if_neg (by omega)]; simp
  rw [e]
  refine ⟨?_, by have := mag_hi (F := 52) (B := 1023) (s := g) (by decide) (by omega); omega⟩
  unfold mag
  rw [if_neg h]
  have := mv_ge h 52
  have c : (1023 + g.log2 - 1) * 2 ^ 52 ≥ 1022 * 2 ^ 52 := Nat.mul_le_mul_right _ (by omega)
  omega
theorem small_lt (g : Nat) (h1 : g < 8388608) : small g < 9223372036854775808 := by
  unfold small; split
  · omega
  · have := fp_pos g (by omega) (by omega); omega
theorem wide_lt (f : Nat) (h : f < 4294967296) : wide f < 18446744073709551616 := by
  have := small_lt (f % 8388608) (by omega)
  unfold wide; split
  · omega
  · split <;> omega
theorem wsz_lt (d : Nat) : wsz d < 18446744073709551616 := by
  unfold wsz
  split
  · omega
  · split
    · rename_i h1 h2
      have : 2 ^ (d / 4503599627370496 - 1075) ≤ 2 ^ 11 := Nat.pow_le_pow_right (by decide) (by omega)
      have t := Nat.mul_le_mul_left (d % 4503599627370496 + 4503599627370496) this
      generalize (d % 4503599627370496 + 4503599627370496) * 2 ^ (d / 4503599627370496 - 1075) = X at *
      omega
    · have := Nat.div_le_self (d % 4503599627370496 + 4503599627370496) (2 ^ (1075 - d / 4503599627370496)); omega

theorem or_disj (k x y : Nat) (hy : y < 2 ^ k) (h : x * 2 ^ k + y < 18446744073709551616) : bits .or .u64 ((x * 2 ^ k : Nat) : Int) (y : Int) = ((x * 2 ^ k + y : Nat) : Int) := by
  rw [u64_or_nat _ _ (by omega) (by omega), Nat.mul_comm, ← Nat.two_pow_add_eq_or_of_lt hy]

theorem or63 {x y : Nat} (hx : x ≤ 1) (hy : y < 9223372036854775808) : bits .or .u64 ((x : Int) * 9223372036854775808) (y : Int) = ((x * 9223372036854775808 + y : Nat) : Int) := by
  have h1 := or_disj 63 x y (by omega) (by omega)
  rw [show ((x : Int) * 9223372036854775808) = ((x * 2 ^ 63 : Nat) : Int) by omega, h1]

theorem wide_or {s e g : Nat} (hs : s ≤ 1) (he : e < 2048) (hg : g < 8388608) :
    bits .or .u64 (bits .or .u64 ((s : Int) * 9223372036854775808) ((e : Int) * 4503599627370496)) ((g : Int) * 536870912) = ((s * 9223372036854775808 + (e * 4503599627370496 + g * 536870912) : Nat) : Int) := by
  have h1 := or_disj 63 s (e * 4503599627370496) (by omega) (by omega)
  have h2 := or_disj 52 (s * 2048 + e) (g * 536870912) (by omega) (by omega)
  rw [show ((s : Int) * 9223372036854775808) = ((s * 2 ^ 63 : Nat) : Int) by omega, show ((e : Int) * 4503599627370496) = ((e * 4503599627370496 : Nat) : Int) by omega, h1,
    show s * 2 ^ 63 + e * 4503599627370496 = (s * 2048 + e) * 2 ^ 52 by omega, show ((g : Int) * 536870912) = ((g * 536870912 : Nat) : Int) by omega, h2]
  omega

theorem wide_ones {s g : Nat} (hs : s ≤ 1) (hg : g < 8388608) :
    bits .or .u64 (bits .or .u64 ((s : Int) * 9223372036854775808) 9218868437227405312) ((g : Int) * 536870912) = ((s * 9223372036854775808 + (2047 * 4503599627370496 + g * 536870912) : Nat) : Int) := by
  have := wide_or (e := 2047) hs (by decide) hg
  rw [← this]
  rfl

theorem and255 (f : Nat) (hf : f < 4294967296) : IntKind.u64.wrap (bits .and .u32 ((f : Int) / 8388608) 255) = ((f / 8388608 % 256 : Nat) : Int) := by
  have h := bits_mask .u32 32 (by decide) wraps_u32 8 (by decide) ((f : Int) / 8388608) (by omega) (by omega)
  have e : bits .and .u32 ((f : Int) / 8388608) 255 = ((f / 8388608 % 256 : Nat) : Int) := by simpa using h
  rw [e, IntKind.wrap_u64]; omega

theorem or52 (d : Nat) : bits .or .u64 ((d : Int) % 4503599627370496) 4503599627370496 = ((d % 4503599627370496 + 4503599627370496 : Nat) : Int) := by
  have h := u64_or_nat (d % 4503599627370496) 4503599627370496 (by omega) (by decide)
  have k := Nat.two_pow_add_eq_or_of_lt (i := 52) (b := d % 4503599627370496) (by omega) 1
  rw [Nat.or_comm] at k
  simp only [Nat.mul_one, Nat.reducePow] at k
  rw [← k] at h
  rw [show ((d : Int) % 4503599627370496) = ((d % 4503599627370496 : Nat) : Int) by omega, show (4503599627370496 : Int) = ((4503599627370496 : Nat) : Int) by rfl, h]
  omega

end Go.Proofs.Ytcnalkbedcgknaa.Fp
