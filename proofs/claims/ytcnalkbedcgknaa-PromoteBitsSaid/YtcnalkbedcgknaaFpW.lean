/- Plain mathematics of layer 5: the document's own answers by floating numbers are those by whole ones. -/
import Derived.Test.YtcnalkbedcgknaaFpB
namespace Go.Proofs.Ytcnalkbedcgknaa.Fp
open Ieee

theorem cut_zero (neg : Bool) (n d : Nat) : Toward.zero.cut neg n d = n / 2 ^ d := by
  unfold Toward.cut
  simp only [Bool.toNat_false, Nat.add_zero, Nat.shiftLeft_eq, Nat.one_mul]
  by_cases h : d ≤ n.log2 + 2
  · rw [Nat.min_eq_left h]
  · have e : n < 2 ^ (n.log2 + 1) := Nat.lt_log2_self
    have e1 : n < 2 ^ (n.log2 + 2) := Nat.lt_of_lt_of_le e (Nat.pow_le_pow_right (by decide) (by omega))
    have e2 : n < 2 ^ d := Nat.lt_of_lt_of_le e (Nat.pow_le_pow_right (by decide) (by omega))
    rw [Nat.min_eq_right (by omega), Nat.div_eq_of_lt e1, Nat.div_eq_of_lt e2]

theorem cut_even0 (neg : Bool) (n : Nat) : Toward.even.cut neg n 0 = n := by rw [cut_rnd _ _ _ (by omega), rnd_zero]

/-- A number of few digits, at any place that the format has, is written as it is. -/
theorem nearest_exact (neg : Bool) (s : Nat) (place : Int) (h0 : s ≠ 0) (hs : s.log2 ≤ 52) (hp : -1022 ≤ place + s.log2) (hp2 : place + s.log2 ≤ 1023) :
    double.nearest neg s place = double.word neg ((place + s.log2 + 1022).toNat * 4503599627370496 + s * 2 ^ (52 - s.log2)) := by
  unfold Format.nearest
  rw [if_neg h0]
  have hlp : double.leastPlace = -1074 := by decide
  have hf : ((double.fractionBits : Nat) : Int) = 52 := by decide
  have hl : max (place + s.log2 - (52 : Int)) (-1074) = place + s.log2 - 52 := by omega
  simp only [hlp, hf, hl]
  rw [show (place - (place + s.log2 - 52)).toNat = 52 - s.log2 by omega, show (place + s.log2 - 52 - place).toNat = 0 by omega, cut_even0, Nat.shiftLeft_eq,
    show (place + s.log2 - 52 - -1074).toNat = (place + s.log2 + 1022).toNat by omega]
  have a := mv_lt h0 (q := 52) hs
  have e : mv s s.log2 52 = s * 2 ^ (52 - s.log2) := by unfold mv; rw [if_neg (by omega)]
  rw [e] at a
  rw [show double.binade = 4503599627370496 by decide, show double.infRung = 2047 * 4503599627370496 by decide, Nat.min_eq_left (by omega)]

theorem word_of (neg : Bool) (x : Nat) : double.word neg x = (if neg then 9223372036854775808 + x else x) := rfl

theorem read_sub (b D : Nat) (hb : b ≤ 1) (hD : D < 4503599627370496) : double.read (b * 9223372036854775808 + D) = .number (b == 1) D (-1074) := by
  unfold Format.read
  rw [show double.signWeight = 9223372036854775808 by decide, show double.binade = 4503599627370496 by decide, show double.leastPlace = -1074 by decide,
    show (b * 9223372036854775808 + D) / 9223372036854775808 % 2 = b by omega, show (b * 9223372036854775808 + D) % 9223372036854775808 = D by omega]
  simp only [hD, if_true]

theorem read_norm (b e g : Nat) (hb : b ≤ 1) (he : 1 ≤ e) (he2 : e < 2047) (hg : g < 4503599627370496) :
    double.read (b * 9223372036854775808 + (e * 4503599627370496 + g)) = .number (b == 1) (4503599627370496 + g) ((e : Int) - 1075) := by
  unfold Format.read
  rw [show double.signWeight = 9223372036854775808 by decide, show double.binade = 4503599627370496 by decide, show double.leastPlace = -1074 by decide, show double.infRung = 2047 * 4503599627370496 by decide,
    show (b * 9223372036854775808 + (e * 4503599627370496 + g)) / 9223372036854775808 % 2 = b by omega, show (b * 9223372036854775808 + (e * 4503599627370496 + g)) % 9223372036854775808 = e * 4503599627370496 + g by omega]
  simp only [show ¬ e * 4503599627370496 + g < 4503599627370496 by omega, show e * 4503599627370496 + g < 2047 * 4503599627370496 by omega, if_true, if_false]
  rw [show (e * 4503599627370496 + g) % 4503599627370496 = g by omega, show (e * 4503599627370496 + g) / 4503599627370496 = e by omega]
  congr 1
  omega

/-- Bits of 32 that are a number, as bits of 64. -/
theorem wide_write (f : Nat) (hf : f < 4294967296) (h : f / 8388608 % 256 ≠ 255) :
    ∃ m i, single.read f = .number (f / 2147483648 == 1) m i ∧ double.nearest (f / 2147483648 == 1) m i = wide f := by
  have hs : ∀ x : Nat, double.word (f / 2147483648 == 1) x = f / 2147483648 * 9223372036854775808 + x := by
    intro x; rw [word_of]
    have : f / 2147483648 = 0 ∨ f / 2147483648 = 1 := by omega
    rcases this with e | e <;> rw [e] <;> simp
  have hn : (f / 2147483648 % 2 == 1) = (f / 2147483648 == 1) := by rw [show f / 2147483648 % 2 = f / 2147483648 by omega]
  by_cases h0 : f / 8388608 % 256 = 0
  · refine ⟨f % 8388608, -149, ?_, ?_⟩
    · unfold Format.read
      rw [show single.signWeight = 2147483648 by decide, show single.binade = 8388608 by decide, show single.leastPlace = -149 by decide, hn]
      simp only [show f % 2147483648 < 8388608 by omega, if_true]
      rw [show f % 2147483648 = f % 8388608 by omega]
    · unfold wide small
      rw [if_pos h0]
      by_cases g0 : f % 8388608 = 0
      · rw [if_pos g0, g0]
        unfold Format.nearest
        rw [if_pos rfl]
        exact hs 0
      · rw [if_neg g0]
        have hl := log2_le (s := f % 8388608) (k := 23) (by omega) g0
        rw [nearest_exact _ _ _ g0 (by omega) (by omega) (by omega), hs]
        have e : fp 11 52 1023 ((f % 8388608 : Nat) : Int) = mag 52 1023 (f % 8388608) := by unfold fp; rw [if_neg (by omega), Int.natAbs_natCast]
        rw [e]
        unfold mag mv
        rw [if_neg g0, if_neg (by omega)]
        omega
  · refine ⟨8388608 + f % 8388608, (f / 8388608 % 256 : Nat) - 150, ?_, ?_⟩
    · unfold Format.read
      rw [show single.signWeight = 2147483648 by decide, show single.binade = 8388608 by decide, show single.leastPlace = -149 by decide, show single.infRung = 255 * 8388608 by decide, hn]
      simp only [show ¬ f % 2147483648 < 8388608 by omega, show f % 2147483648 < 255 * 8388608 by omega, if_true, if_false]
      rw [show f % 2147483648 % 8388608 = f % 8388608 by omega, show f % 2147483648 / 8388608 = f / 8388608 % 256 by omega]
      congr 1
      omega
    · have l : (8388608 + f % 8388608).log2 = 23 := (Nat.log2_eq_iff (by omega)).2 ⟨by omega, by omega⟩
      unfold wide
      rw [if_neg h0, if_neg h, nearest_exact _ _ _ (by omega) (by omega) (by omega) (by omega), hs, l]
      omega

theorem wide_finite (f : Nat) (hf : f < 4294967296) (h : f / 8388608 % 256 ≠ 255) : (double.read (wide f)).isInfinity = false := by
  have hw : ∃ e g, e < 2047 ∧ g < 4503599627370496 ∧ wide f = f / 2147483648 * 9223372036854775808 + (e * 4503599627370496 + g) := by
    unfold wide
    by_cases h0 : f / 8388608 % 256 = 0
    · rw [if_pos h0]
      unfold small
      split
      · exact ⟨0, 0, by omega, by omega, by omega⟩
      · rename_i g0
        have := fp_pos (f % 8388608) g0 (by omega)
        obtain ⟨Y, hY⟩ : ∃ Y, Y = fp 11 52 1023 ((f % 8388608 : Nat) : Int) - 671036344478203904 := ⟨_, rfl⟩
        rw [← hY]
        exact ⟨Y / 4503599627370496, Y % 4503599627370496, by omega, by omega, by omega⟩
    · rw [if_neg h0, if_neg h]
      exact ⟨f / 8388608 % 256 + 896, f % 8388608 * 536870912, by omega, by omega, by omega⟩
  obtain ⟨e, g, he, hg, hw⟩ := hw
  rw [hw]
  by_cases e0 : e = 0
  · subst e0
    rw [show f / 2147483648 * 9223372036854775808 + (0 * 4503599627370496 + g) = f / 2147483648 * 9223372036854775808 + g by omega, read_sub _ _ (by omega) hg]; rfl
  · rw [read_norm _ _ _ (by omega) (by omega) he hg]; rfl

/-! ### Bits as whole numbers, by comparisons and by cutting -/

theorem cmp_ge (a b : Int) : (some (compare a b) == some Ordering.gt || some (compare a b) == some Ordering.eq) = decide (b ≤ a) := by
  unfold compare instOrdInt compareOfLessAndEq
  by_cases h1 : a < b
  · simp [h1]
  · by_cases h2 : a = b
    · simp [h2]
    · simp [h1, h2]; omega
theorem cmp_lt (a b : Int) : (some (compare a b) == some Ordering.lt) = decide (a < b) := by
  unfold compare instOrdInt compareOfLessAndEq
  by_cases h1 : a < b
  · simp [h1]
  · by_cases h2 : a = b
    · simp [h2]
    · simp [h1, h2]
theorem cmp_eq (a b : Int) : (some (compare a b) == some Ordering.eq) = decide (a = b) := by
  unfold compare instOrdInt compareOfLessAndEq
  by_cases h1 : a < b
  · simp [h1]; omega
  · by_cases h2 : a = b
    · simp [h2]
    · simp [h1, h2]

def ge (d : Nat) : Bool := double.order d 14114281232179134464 == some .gt || double.order d 14114281232179134464 == some .eq
def lt (d : Nat) : Bool := double.order d 4890909195324358656 == some .lt
/-- What is left of bits, cut towards 0. -/
def cutd (d : Nat) : Nat := double.write ((double.read d).integral .zero)
def same (d : Nat) : Bool := double.order (cutd d) d == some .eq

theorem low_read : double.read 14114281232179134464 = .number true 4503599627370496 11 := by decide +kernel
theorem top_read : double.read 4890909195324358656 = .number false 4503599627370496 11 := by decide +kernel

theorem signed_mul (neg : Bool) (m k : Nat) : signed neg m k = if neg then -((m * 2 ^ k : Nat) : Int) else ((m * 2 ^ k : Nat) : Int) := by
  unfold signed; rw [Nat.shiftLeft_eq]

theorem order_num {d x : Nat} {s t : Bool} {m n : Nat} {i j : Int} (h : double.read d = .number s m i) (k : double.read x = .number t n j) :
    double.order d x = some (compare (signed s m (i - min i j).toNat) (signed t n (j - min i j).toNat)) := by
  unfold Format.order; rw [h, k]; rfl

/-- Numbers whose last digit's place is at most 10 lie between the least one and the greatest. -/
theorem within {d : Nat} {s : Bool} {m : Nat} {i : Int} (h : double.read d = .number s m i) (hi : i ≤ 10) (hm : m < 9007199254740992) : ge d = true ∧ lt d = true := by
  unfold ge lt
  rw [order_num h low_read, order_num h top_read, cmp_ge, cmp_lt, signed_mul, signed_mul, signed_mul, show (i - min i 11).toNat = 0 by omega]
  have : 2 ^ 1 ≤ 2 ^ (11 - min i 11).toNat := Nat.pow_le_pow_right (by decide) (by omega)
  have e : 4503599627370496 * 2 ≤ 4503599627370496 * 2 ^ (11 - min i 11).toNat := Nat.mul_le_mul_left _ this
  generalize 4503599627370496 * 2 ^ (11 - min i 11).toNat = X at *
  cases s <;> simp <;> omega

theorem cutd_num {d : Nat} {s : Bool} {m : Nat} {i : Int} (h : double.read d = .number s m i) :
    cutd d = double.nearest s (m * 2 ^ i.toNat / 2 ^ (-i).toNat) 0 ∧ (double.read d).toInt .zero = some (if s then -((m * 2 ^ i.toNat / 2 ^ (-i).toNat : Nat) : Int) else ((m * 2 ^ i.toNat / 2 ^ (-i).toNat : Nat) : Int)) := by
  unfold cutd Datum.toInt
  rw [h]
  simp only [Datum.integral, cut_zero, Nat.shiftLeft_eq, signed_mul, Nat.pow_zero, Nat.mul_one]
  exact ⟨rfl, trivial⟩

def Refs (d : Nat) : Prop :=
  (hok d = true → ge d = true ∧ lt d = true ∧ same d = true ∧ (double.read d).toInt .zero = some (hol d)) ∧
  (hok d = false → ge d = false ∨ (ge d = true ∧ lt d = false) ∨ (ge d = true ∧ lt d = true ∧ same d = false))

theorem refs_small (b D : Nat) (hb : b ≤ 1) (h : D / 4503599627370496 < 1023) : Refs (b * 9223372036854775808 + D) := by
  have hD : D < 9223372036854775808 := by omega
  have q : (b * 9223372036854775808 + D) % 9223372036854775808 = D := by omega
  have hk : hok (b * 9223372036854775808 + D) = (D == 0) := by
    unfold hok wsz wok
    rw [q, if_pos (Or.inl h)]
    simp; omega
  have hz : wsz D = 0 := by unfold wsz; rw [if_pos (Or.inl h)]
  have hl : hok (b * 9223372036854775808 + D) = true → hol (b * 9223372036854775808 + D) = 0 := by
    intro t; unfold hol; rw [if_pos t, q, hz]; simp
  have hr : ∃ m i, double.read (b * 9223372036854775808 + D) = .number (b == 1) m i ∧ m < 9007199254740992 ∧ -1074 ≤ i ∧ i ≤ 10 ∧ m * 2 ^ i.toNat / 2 ^ (-i).toNat = 0 ∧ (m = 0 ↔ D = 0) := by
    by_cases e0 : D / 4503599627370496 = 0
    · refine ⟨D, -1074, read_sub b D hb (by omega), by omega, by omega, by omega, ?_, Iff.rfl⟩
      rw [show (-1074 : Int).toNat = 0 by rfl, show (-(-1074 : Int)).toNat = 1074 by rfl, Nat.pow_zero, Nat.mul_one]
      have : ∀ k, 52 ≤ k → D / 2 ^ k = 0 := fun k hk => Nat.div_eq_of_lt (Nat.lt_of_lt_of_le (show D < 2 ^ 52 by omega) (Nat.pow_le_pow_right (by decide) hk))
      exact this 1074 (by decide)
    · have r := read_norm b (D / 4503599627370496) (D % 4503599627370496) hb (by omega) (by omega) (by omega)
      rw [show D / 4503599627370496 * 4503599627370496 + D % 4503599627370496 = D by omega] at r
      refine ⟨_, _, r, by omega, by omega, by omega, ?_, by omega⟩
      rw [show (((D / 4503599627370496 : Nat) : Int) - 1075).toNat = 0 by omega, Nat.pow_zero, Nat.mul_one]
      exact Nat.div_eq_of_lt (Nat.lt_of_lt_of_le (show _ < 2 ^ 53 by omega) (Nat.pow_le_pow_right (by decide) (by omega)))
  obtain ⟨m, i, r, hm, hi, hi2, hT, h0⟩ := hr
  obtain ⟨w1, w2⟩ := within r hi2 hm
  obtain ⟨c1, c2⟩ := cutd_num r
  rw [hT] at c1 c2
  have ct : cutd (b * 9223372036854775808 + D) = b * 9223372036854775808 + 0 := by
    rw [c1]; unfold Format.nearest; rw [if_pos rfl, word_of]
    rcases (show b = 0 ∨ b = 1 by omega) with e | e <;> rw [e] <;> rfl
  have sm : same (b * 9223372036854775808 + D) = (D == 0) := by
    unfold same
    rw [order_num (by rw [ct]; exact read_sub b 0 hb (by decide)) r, cmp_eq, signed_mul, signed_mul]
    have hp := Nat.two_pow_pos (i - min (-1074) i).toNat
    generalize 2 ^ (i - min (-1074) i).toNat = P at hp ⊢
    rw [Bool.eq_iff_iff]
    simp only [Nat.zero_mul, decide_eq_true_eq, beq_iff_eq]
    rw [← h0]
    have : m * P = 0 ↔ m = 0 := by rw [Nat.mul_eq_zero]; omega
    by_cases hb1 : b = 1
    · rw [if_pos hb1, if_pos hb1]; omega
    · rw [if_neg hb1, if_neg hb1]; omega
  refine ⟨fun t => ⟨w1, w2, ?_, ?_⟩, fun t => .inr (.inr ⟨w1, w2, ?_⟩)⟩
  · rw [sm, ← hk]; exact t
  · rw [c2, hl t]; simp
  · rw [sm, ← hk]; exact t

theorem wok_mid {D : Nat} (h1 : 1023 ≤ D / 4503599627370496) (h2 : D / 4503599627370496 ≤ 1075) :
    wsz D = (D % 4503599627370496 + 4503599627370496) / 2 ^ (1075 - D / 4503599627370496) ∧
    wok D = ((D % 4503599627370496 + 4503599627370496) / 2 ^ (1075 - D / 4503599627370496) * 2 ^ (1075 - D / 4503599627370496) == D % 4503599627370496 + 4503599627370496) := by
  unfold wsz wok
  rw [if_neg (by omega), if_neg (by omega)]
  refine ⟨rfl, ?_⟩
  have a : (D == 0) = false := by simp; omega
  have b : decide (1023 ≤ D / 4503599627370496) = true := by simpa using h1
  have c : decide (D / 4503599627370496 < 1087) = true := by simp; omega
  have e : decide (1075 < D / 4503599627370496) = false := by simp; omega
  rw [a, b, c, e]; simp

theorem refs_mid (b D : Nat) (hb : b ≤ 1) (h1 : 1023 ≤ D / 4503599627370496) (h2 : D / 4503599627370496 ≤ 1075) : Refs (b * 9223372036854775808 + D) := by
  have hD : D < 9223372036854775808 := by omega
  have q : (b * 9223372036854775808 + D) % 9223372036854775808 = D := by omega
  have q2 : (b * 9223372036854775808 + D) / 9223372036854775808 = b := by omega
  obtain ⟨e1, e2⟩ := wok_mid h1 h2
  have r := read_norm b (D / 4503599627370496) (D % 4503599627370496) hb (by omega) (by omega) (by omega)
  rw [show D / 4503599627370496 * 4503599627370496 + D % 4503599627370496 = D by omega, Nat.add_comm 4503599627370496] at r
  obtain ⟨w1, w2⟩ := within r (by omega) (by omega)
  obtain ⟨c1, c2⟩ := cutd_num r
  have hm1 : 2 ^ 52 ≤ D % 4503599627370496 + 4503599627370496 := by omega
  have hm2 : D % 4503599627370496 + 4503599627370496 < 2 ^ 53 := by omega
  rw [show (((D / 4503599627370496 : Nat) : Int) - 1075).toNat = 0 by omega, show (-(((D / 4503599627370496 : Nat) : Int) - 1075)).toNat = 1075 - D / 4503599627370496 by omega, Nat.pow_zero, Nat.mul_one] at c1 c2
  have hk : hok (b * 9223372036854775808 + D) = wok D := by
    unfold hok
    rw [q, q2, e1]
    have := Nat.div_le_self (D % 4503599627370496 + 4503599627370496) (2 ^ (1075 - D / 4503599627370496))
    have : decide ((D % 4503599627370496 + 4503599627370496) / 2 ^ (1075 - D / 4503599627370496) ≤ 9223372036854775807 + b) = true := by simp; omega
    rw [this]; simp
  have hl : hok (b * 9223372036854775808 + D) = true → hol (b * 9223372036854775808 + D) = if (b == 1) = true then -(((D % 4503599627370496 + 4503599627370496) / 2 ^ (1075 - D / 4503599627370496) : Nat) : Int) else (((D % 4503599627370496 + 4503599627370496) / 2 ^ (1075 - D / 4503599627370496) : Nat) : Int) := by
    intro t; unfold hol; rw [if_pos t, q, q2, e1]; simp
  obtain ⟨k, hk'⟩ : ∃ k, k = 1075 - D / 4503599627370496 := ⟨_, rfl⟩
  rw [← hk'] at e1 e2 c1 c2 hl
  generalize hM : D % 4503599627370496 + 4503599627370496 = M at *
  have a1 : 2 ^ (52 - k) ≤ M / 2 ^ k := by
    rw [Nat.le_div_iff_mul_le (Nat.two_pow_pos _), ← Nat.pow_add, show 52 - k + k = 52 by omega]; exact hm1
  have a2 : M / 2 ^ k < 2 ^ (52 - k + 1) := by
    rw [Nat.div_lt_iff_lt_mul (Nat.two_pow_pos _), ← Nat.pow_add, show 52 - k + 1 + k = 53 by omega]; exact hm2
  have s0 : M / 2 ^ k ≠ 0 := by have := Nat.two_pow_pos (52 - k); omega
  have l : (M / 2 ^ k).log2 = 52 - k := (Nat.log2_eq_iff s0).2 ⟨a1, a2⟩
  have x1 : M / 2 ^ k * 2 ^ k ≤ M := Nat.div_mul_le_self M (2 ^ k)
  have x2 : 2 ^ 52 ≤ M / 2 ^ k * 2 ^ k := by
    calc 2 ^ 52 = 2 ^ (52 - k) * 2 ^ k := by rw [← Nat.pow_add]; congr 1; omega
      _ ≤ _ := Nat.mul_le_mul_right _ a1
  rw [nearest_exact _ _ 0 s0 (by omega) (by omega) (by omega), l, show 52 - (52 - k) = k by omega, word_of, show (0 + ((52 - k : Nat) : Int) + 1022).toNat = 1074 - k by omega] at c1
  have ct : cutd (b * 9223372036854775808 + D) = b * 9223372036854775808 + ((1075 - k) * 4503599627370496 + (M / 2 ^ k * 2 ^ k - 4503599627370496)) := by
    rw [c1]
    rcases (show b = 0 ∨ b = 1 by omega) with e | e <;> rw [e] <;> simp <;> omega
  have rt := read_norm b (1075 - k) (M / 2 ^ k * 2 ^ k - 4503599627370496) hb (by omega) (by omega) (by omega)
  rw [← ct] at rt
  have sm : same (b * 9223372036854775808 + D) = wok D := by
    unfold same
    rw [order_num rt r, cmp_eq, signed_mul, signed_mul, e2]
    rw [show ((((1075 - k : Nat) : Int) - 1075) - min (((1075 - k : Nat) : Int) - 1075) (((D / 4503599627370496 : Nat) : Int) - 1075)).toNat = 0 by omega,
      show ((((D / 4503599627370496 : Nat) : Int) - 1075) - min (((1075 - k : Nat) : Int) - 1075) (((D / 4503599627370496 : Nat) : Int) - 1075)).toNat = 0 by omega, Nat.pow_zero, Nat.mul_one, Nat.mul_one,
      show 4503599627370496 + (M / 2 ^ k * 2 ^ k - 4503599627370496) = M / 2 ^ k * 2 ^ k by omega]
    rw [Bool.eq_iff_iff]
    simp only [decide_eq_true_eq, beq_iff_eq]
    by_cases hb1 : b = 1
    · rw [if_pos hb1, if_pos hb1]; omega
    · rw [if_neg hb1, if_neg hb1]; omega
  refine ⟨fun t => ⟨w1, w2, ?_, ?_⟩, fun t => .inr (.inr ⟨w1, w2, ?_⟩)⟩
  · rw [sm, ← hk]; exact t
  · rw [c2, hl t]
  · rw [sm, ← hk]; exact t

theorem wok_top {D : Nat} (h1 : 1075 < D / 4503599627370496) (h2 : D / 4503599627370496 < 1087) :
    wsz D = (D % 4503599627370496 + 4503599627370496) * 2 ^ (D / 4503599627370496 - 1075) ∧ wok D = true := by
  unfold wsz wok
  rw [if_neg (by omega), if_pos h1]
  refine ⟨rfl, ?_⟩
  have b : decide (1023 ≤ D / 4503599627370496) = true := by simp; omega
  have c : decide (D / 4503599627370496 < 1087) = true := by simpa using h2
  have e : decide (1075 < D / 4503599627370496) = true := by simpa using h1
  rw [b, c, e]; simp

theorem refs_top (b D : Nat) (hb : b ≤ 1) (h1 : 1076 ≤ D / 4503599627370496) (h2 : D / 4503599627370496 ≤ 1085) : Refs (b * 9223372036854775808 + D) := by
  have hD : D < 9223372036854775808 := by omega
  have q : (b * 9223372036854775808 + D) % 9223372036854775808 = D := by omega
  have q2 : (b * 9223372036854775808 + D) / 9223372036854775808 = b := by omega
  obtain ⟨e1, e2⟩ := wok_top (D := D) (by omega) (by omega)
  obtain ⟨s0, hm⟩ := mag_whole (D := D) (by omega) e2
  have r := read_norm b (D / 4503599627370496) (D % 4503599627370496) hb (by omega) (by omega) (by omega)
  rw [show D / 4503599627370496 * 4503599627370496 + D % 4503599627370496 = D by omega, Nat.add_comm 4503599627370496] at r
  obtain ⟨w1, w2⟩ := within r (by omega) (by omega)
  obtain ⟨c1, c2⟩ := cutd_num r
  rw [show (((D / 4503599627370496 : Nat) : Int) - 1075).toNat = D / 4503599627370496 - 1075 by omega, show (-(((D / 4503599627370496 : Nat) : Int) - 1075)).toNat = 0 by omega, Nat.pow_zero, Nat.div_one, ← e1] at c1 c2
  have hs : wsz D < 9223372036854775808 := by
    rw [e1]
    have : 2 ^ (D / 4503599627370496 - 1075) ≤ 2 ^ 10 := Nat.pow_le_pow_right (by decide) (by omega)
    have t := Nat.mul_le_mul_left (D % 4503599627370496 + 4503599627370496) this
    omega
  have hk : hok (b * 9223372036854775808 + D) = true := by
    unfold hok
    rw [q, q2, e2]
    simp; omega
  have hl : hol (b * 9223372036854775808 + D) = if (b == 1) = true then -(wsz D : Int) else (wsz D : Int) := by
    unfold hol; rw [if_pos hk, q, q2]; simp
  have ct : cutd (b * 9223372036854775808 + D) = b * 9223372036854775808 + D := by
    rw [c1, nearest_fp (f := double) (B := 1023) (by decide) (by decide) (by decide) _ _ (by omega), word_of]
    rw [show double.fractionBits = 52 by rfl, hm]
    rcases (show b = 0 ∨ b = 1 by omega) with e | e <;> rw [e] <;> simp
  have sm : same (b * 9223372036854775808 + D) = true := by
    unfold same
    rw [order_num (by rw [ct]; exact r) r, cmp_eq]
    simp
  refine ⟨fun _ => ⟨w1, w2, sm, ?_⟩, fun t => by rw [hk] at t; cases t⟩
  rw [c2, hl]

/-- Numbers whose last digit's place is at least 11: from the least one on, and up. -/
theorem beyond {d : Nat} {s : Bool} {m : Nat} {i : Int} (h : double.read d = .number s m i) (hi : 11 ≤ i) :
    ge d = decide (-4503599627370496 ≤ if s = true then -((m * 2 ^ (i - 11).toNat : Nat) : Int) else ((m * 2 ^ (i - 11).toNat : Nat) : Int)) ∧
    lt d = decide ((if s = true then -((m * 2 ^ (i - 11).toNat : Nat) : Int) else ((m * 2 ^ (i - 11).toNat : Nat) : Int)) < 4503599627370496) := by
  unfold ge lt
  rw [order_num h low_read, order_num h top_read, cmp_ge, cmp_lt, signed_mul, signed_mul, signed_mul, show min i 11 = 11 by omega]
  exact ⟨rfl, rfl⟩

theorem refs_beyond (b D : Nat) (hb : b ≤ 1) (h1 : 1086 ≤ D / 4503599627370496) (h2 : D / 4503599627370496 < 2047) (h3 : b * 9223372036854775808 + D ≠ 14114281232179134464) : Refs (b * 9223372036854775808 + D) := by
  have hD : D < 9223372036854775808 := by omega
  have q : (b * 9223372036854775808 + D) % 9223372036854775808 = D := by omega
  have q2 : (b * 9223372036854775808 + D) / 9223372036854775808 = b := by omega
  have r := read_norm b (D / 4503599627370496) (D % 4503599627370496) hb (by omega) (by omega) (by omega)
  rw [show D / 4503599627370496 * 4503599627370496 + D % 4503599627370496 = D by omega] at r
  obtain ⟨w1, w2⟩ := beyond r (by omega)
  have hp := Nat.two_pow_pos ((((D / 4503599627370496 : Nat) : Int) - 1075) - 11).toNat
  have x := Nat.le_mul_of_pos_right (4503599627370496 + D % 4503599627370496) hp
  have hk : hok (b * 9223372036854775808 + D) = false := by
    unfold hok
    rw [q, q2]
    by_cases e : D / 4503599627370496 < 1087
    · have e86 : D / 4503599627370496 = 1086 := by omega
      obtain ⟨e1, e2⟩ := wok_top (D := D) (by omega) e
      rw [e86] at e1
      rw [e1, e2]
      simp; omega
    · have : wok D = false := by
        unfold wok
        have a : (D == 0) = false := by simp; omega
        have c : decide (D / 4503599627370496 < 1087) = false := by simpa using e
        rw [a, c]; simp
      rw [this]; rfl
  refine ⟨(fun t => by rw [hk] at t; cases t), fun _ => ?_⟩
  rw [w1, w2]
  by_cases hb1 : b = 1
  · left
    have h4 : (b == 1) = true := by simpa using hb1
    rw [if_pos h4]
    by_cases e : D / 4503599627370496 = 1086
    · rw [e] at x ⊢
      simp only [decide_eq_false_iff_not]
      omega
    · have e2 : 2 ^ 1 ≤ 2 ^ ((((D / 4503599627370496 : Nat) : Int) - 1075) - 11).toNat := Nat.pow_le_pow_right (by decide) (by omega)
      have t := Nat.mul_le_mul_left (4503599627370496 + D % 4503599627370496) e2
      simp only [decide_eq_false_iff_not]
      omega
  · right; left
    have h4 : (b == 1) = false := by simpa using hb1
    rw [h4]
    simp only [Bool.false_eq_true, if_false, decide_eq_true_eq, decide_eq_false_iff_not]
    omega

theorem read_none (b D : Nat) (hb : b ≤ 1) (h1 : D < 9223372036854775808) (h2 : 2047 ≤ D / 4503599627370496) :
    double.read (b * 9223372036854775808 + D) = .infinity (b == 1) ∨ ∃ t, double.read (b * 9223372036854775808 + D) = .nan (b == 1) t := by
  unfold Format.read
  rw [show double.signWeight = 9223372036854775808 by decide, show double.binade = 4503599627370496 by decide, show double.leastPlace = -1074 by decide, show double.infRung = 2047 * 4503599627370496 by decide,
    show (b * 9223372036854775808 + D) / 9223372036854775808 % 2 = b by omega, show (b * 9223372036854775808 + D) % 9223372036854775808 = D by omega]
  simp only [show ¬ D < 4503599627370496 by omega, show ¬ D < 2047 * 4503599627370496 by omega, if_false]
  split
  · left; rfl
  · right; exact ⟨_, rfl⟩

theorem refs_none (b D : Nat) (hb : b ≤ 1) (h1 : D < 9223372036854775808) (h2 : 2047 ≤ D / 4503599627370496) : Refs (b * 9223372036854775808 + D) := by
  have q : (b * 9223372036854775808 + D) % 9223372036854775808 = D := by omega
  have hk : hok (b * 9223372036854775808 + D) = false := by
    unfold hok wok
    rw [q]
    have a : (D == 0) = false := by simp; omega
    have c : decide (D / 4503599627370496 < 1087) = false := by simp; omega
    rw [a, c]; simp
  refine ⟨(fun t => by rw [hk] at t; cases t), fun _ => ?_⟩
  unfold ge lt Format.order
  rw [low_read, top_read]
  rcases read_none b D hb h1 h2 with e | ⟨t, e⟩
  · rw [e]
    by_cases hb1 : b = 1
    · left; subst hb1; rfl
    · right; left
      have h4 : (b == 1) = false := by simpa using hb1
      rw [h4]; exact ⟨rfl, rfl⟩
  · rw [e]; left; rfl

theorem refs_all (d : Nat) (hd : d < 18446744073709551616) : Refs d := by
  by_cases h3 : d = 14114281232179134464
  · subst h3
    refine ⟨fun _ => ?_, fun t => absurd t (by decide +kernel)⟩
    decide +kernel
  · have e : d = d / 9223372036854775808 * 9223372036854775808 + d % 9223372036854775808 := by omega
    have hb : d / 9223372036854775808 ≤ 1 := by omega
    have hD : d % 9223372036854775808 < 9223372036854775808 := by omega
    rw [e] at h3 ⊢
    generalize d / 9223372036854775808 = b at *
    generalize d % 9223372036854775808 = D at *
    by_cases c1 : D / 4503599627370496 < 1023
    · exact refs_small b D hb c1
    · by_cases c2 : D / 4503599627370496 ≤ 1075
      · exact refs_mid b D hb (by omega) c2
      · by_cases c3 : D / 4503599627370496 ≤ 1085
        · exact refs_top b D hb (by omega) c3
        · by_cases c4 : D / 4503599627370496 < 2047
          · exact refs_beyond b D hb (by omega) c4 h3
          · exact refs_none b D hb hD (by omega)

end Go.Proofs.Ytcnalkbedcgknaa.Fp
