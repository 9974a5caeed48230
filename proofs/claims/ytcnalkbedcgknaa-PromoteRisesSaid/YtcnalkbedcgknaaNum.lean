/- Plain mathematics of layer 1: zig-zag on whole numbers, how many binary digits a number has, how many parts of seven. -/
import Derived.Lib.Zigzag
import Derived.Laws.BitsAllLaws
import Derived.RowKit
namespace Go.Proofs.Ytcnalkbedcgknaa.Num

def zig (n : Int) : Int := if 0 ≤ n then 2 * n else -2 * n - 1
def zag (u : Int) : Int := if u % 2 = 0 then u / 2 else -(u / 2) - 1

theorem zig_pos {n : Int} (h : 0 ≤ n) : zig n = 2 * n := by unfold zig; rw [if_pos h]
theorem zig_neg {n : Int} (h : n < 0) : zig n = -2 * n - 1 := by unfold zig; rw [if_neg (by omega)]
theorem zag_even {u : Int} (h : u % 2 = 0) : zag u = u / 2 := by unfold zag; rw [if_pos h]
theorem zag_odd {u : Int} (h : u % 2 = 1) : zag u = -(u / 2) - 1 := by unfold zag; rw [if_neg (by omega)]

theorem zig_lo (n : Int) : 0 ≤ zig n := by unfold zig; split <;> omega
theorem zig_hi {n : Int} (h0 : -9223372036854775808 ≤ n) (h1 : n ≤ 9223372036854775807) : zig n ≤ 18446744073709551615 := by unfold zig; split <;> omega
theorem zig_hi32 {n : Int} (h0 : -2147483648 ≤ n) (h1 : n ≤ 2147483647) : zig n ≤ 4294967295 := by unfold zig; split <;> omega
theorem zag_lo {u : Int} (h0 : 0 ≤ u) (h1 : u ≤ 18446744073709551615) : -9223372036854775808 ≤ zag u := by unfold zag; split <;> omega
theorem zag_hi {u : Int} (h0 : 0 ≤ u) (h1 : u ≤ 18446744073709551615) : zag u ≤ 9223372036854775807 := by unfold zag; split <;> omega
theorem zag_lo32 {u : Int} (h0 : 0 ≤ u) (h1 : u ≤ 4294967295) : -2147483648 ≤ zag u := by unfold zag; split <;> omega
theorem zag_hi32 {u : Int} (h0 : 0 ≤ u) (h1 : u ≤ 4294967295) : zag u ≤ 2147483647 := by unfold zag; split <;> omega
theorem zag_zig (n : Int) : zag (zig n) = n := by unfold zig zag; split <;> split <;> omega
theorem zig_zag {u : Int} (h0 : 0 ≤ u) : zig (zag u) = u := by unfold zig zag; split <;> split <;> omega

/-- 'exclusive or' with all ones, and with none, of 64 digits and of 32. -/
theorem xor64_zero {a : Int} (h0 : 0 ≤ a) (h1 : a ≤ 18446744073709551615) : bits .xor .u64 a 0 = a := by
  obtain ⟨n, rfl⟩ := Int.eq_ofNat_of_zero_le h0
  have := bits_xor_u64_nat n 0 (by omega) (by omega)
  simpa using this
theorem xor64_ones {a : Int} (h0 : 0 ≤ a) (h1 : a ≤ 18446744073709551615) : bits .xor .u64 a 18446744073709551615 = 18446744073709551615 - a := by
  obtain ⟨n, rfl⟩ := Int.eq_ofNat_of_zero_le h0
  have := bits_xor_u64_nat n (2 ^ 64 - 1) (by omega) (by omega)
  rw [Nat.xor_comm, Lib.xor_ones64 n (by omega)] at this
  have e : ((2 ^ 64 - 1 : Nat) : Int) = 18446744073709551615 := by decide
  rw [e] at this
  rw [this]; omega
theorem xor_ones32 (b : Nat) (hb : b < 2 ^ 32) : (2 ^ 32 - 1) ^^^ b = 2 ^ 32 - 1 - b := by
  apply Nat.eq_of_testBit_eq
  intro i
  rw [Nat.testBit_xor, Nat.testBit_two_pow_sub_one, show 2 ^ 32 - 1 - b = 2 ^ 32 - (b + 1) by omega, Nat.testBit_two_pow_sub_succ hb]
  by_cases hi : i < 32
  · simp [hi]
  · have : b.testBit i = false := Nat.testBit_lt_two_pow (Nat.lt_of_lt_of_le hb (Nat.pow_le_pow_right (by decide) (by omega)))
    simp [hi, this]
theorem xor32_zero {a : Int} (h0 : 0 ≤ a) (h1 : a ≤ 4294967295) : bits .xor .u32 a 0 = a := by
  obtain ⟨n, rfl⟩ := Int.eq_ofNat_of_zero_le h0
  have := u32_xor_nat n 0 (by omega) (by omega)
  simpa using this
theorem xor32_ones {a : Int} (h0 : 0 ≤ a) (h1 : a ≤ 4294967295) : bits .xor .u32 a 4294967295 = 4294967295 - a := by
  obtain ⟨n, rfl⟩ := Int.eq_ofNat_of_zero_le h0
  have := u32_xor_nat n (2 ^ 32 - 1) (by omega) (by omega)
  rw [Nat.xor_comm, xor_ones32 n (by omega)] at this
  have e : ((2 ^ 32 - 1 : Nat) : Int) = 4294967295 := by decide
  rw [e] at this
  rw [this]; omega
theorem and1_64 {u : Int} (h0 : 0 ≤ u) (h1 : u ≤ 18446744073709551615) : bits .and .u64 u 1 = u % 2 := Lib.u64_and1 u h0 (by omega)
theorem and1_32 {u : Int} (h0 : 0 ≤ u) (h1 : u ≤ 4294967295) : bits .and .u32 u 1 = u % 2 := by
  have h := bits_mask .u32 32 (by decide) wraps_u32 1 (by decide) u h0 (by omega)
  simpa using h

/-- What the code makes of a number with a sign. -/
theorem zig_code {n : Int} (h0 : -9223372036854775808 ≤ n) (h1 : n ≤ 9223372036854775807) :
    bits .xor .u64 (IntKind.u64.wrap (IntKind.u64.wrap n * 2)) (IntKind.u64.wrap (n / 9223372036854775808)) = zig n := by
  simp only [IntKind.wrap_u64]
  by_cases h : 0 ≤ n
  · rw [show n / 9223372036854775808 % 18446744073709551616 = 0 by omega, xor64_zero (by omega) (by omega), zig_pos h]; omega
  · rw [show n / 9223372036854775808 % 18446744073709551616 = 18446744073709551615 by omega, xor64_ones (by omega) (by omega), zig_neg (by omega)]; omega
theorem zig32_code {n : Int} (h0 : -2147483648 ≤ n) (h1 : n ≤ 2147483647) :
    bits .xor .u32 (IntKind.u32.wrap (IntKind.u32.wrap n * 2)) (IntKind.u32.wrap (n / 2147483648)) = zig n := by
  simp only [IntKind.wrap_u32']
  by_cases h : 0 ≤ n
  · rw [show n / 2147483648 % 4294967296 = 0 by omega, xor32_zero (by omega) (by omega), zig_pos h]; omega
  · rw [show n / 2147483648 % 4294967296 = 4294967295 by omega, xor32_ones (by omega) (by omega), zig_neg (by omega)]; omega

theorem zag_code {u : Int} (h0 : 0 ≤ u) (h1 : u ≤ 18446744073709551615) :
    RowKit.wrap64 (bits .xor .u64 (u / 2) (IntKind.u64.wrap (-bits .and .u64 u 1))) = zag u := by
  rw [and1_64 h0 h1, IntKind.wrap_u64]
  unfold RowKit.wrap64
  by_cases h : u % 2 = 0
  · rw [show -(u % 2) % 18446744073709551616 = 0 by omega, xor64_zero (by omega) (by omega), zag_even h]; omega
  · rw [show -(u % 2) % 18446744073709551616 = 18446744073709551615 by omega, xor64_ones (by omega) (by omega), zag_odd (by omega)]; omega
theorem zag32_code {u : Int} (h0 : 0 ≤ u) (h1 : u ≤ 4294967295) :
    RowKit.wrap32 (bits .xor .u32 (u / 2) (-bits .and .u32 u 1 % 4294967296)) = zag u := by
  rw [and1_32 h0 h1]
  unfold RowKit.wrap32
  by_cases h : u % 2 = 0
  · rw [show -(u % 2) % 4294967296 = 0 by omega, xor32_zero (by omega) (by omega), zag_even h]; omega
  · rw [show -(u % 2) % 4294967296 = 4294967295 by omega, xor32_ones (by omega) (by omega), zag_odd (by omega)]; omega

/-! How many binary digits. -/
def dig : Nat → Nat → Nat
  | 0, _ => 0
  | f + 1, u => if u = 0 then 0 else dig f (u / 2) + 1
theorem dig_fuel : ∀ (f g u : Nat), u < 2 ^ f → u < 2 ^ g → dig f u = dig g u
  | 0, 0, _, _, _ => rfl
  | 0, g + 1, u, h, _ => by
    have : u = 0 := by simp at h; exact h
    subst this; simp [dig]
  | f + 1, 0, u, _, h => by
    have : u = 0 := by simp at h; exact h
    subst this; simp [dig]
  | f + 1, g + 1, u, h, k => by
    rw [Nat.pow_succ] at h k
    unfold dig
    by_cases e : u = 0
    · rw [if_pos e, if_pos e]
    · rw [if_neg e, if_neg e, dig_fuel f g (u / 2) (by omega) (by omega)]
theorem dig_le : ∀ (f k u : Nat), u < 2 ^ k → dig f u ≤ k
  | 0, _, _, _ => Nat.zero_le _
  | f + 1, 0, u, h => by
    have : u = 0 := by simp at h; exact h
    subst this; simp [dig]
  | f + 1, k + 1, u, h => by
    rw [Nat.pow_succ] at h
    unfold dig
    split
    · omega
    · have := dig_le f k (u / 2) (by omega); omega
theorem dig_mono : ∀ (f u v : Nat), u ≤ v → dig f u ≤ dig f v
  | 0, _, _, _ => Nat.le_refl _
  | f + 1, u, v, h => by
    unfold dig
    by_cases e : u = 0
    · rw [if_pos e]; omega
    · rw [if_neg e, if_neg (by omega)]
      have := dig_mono f (u / 2) (v / 2) (by omega); omega

/-- How many binary digits u has, of at most 64. -/
def bl (u : Int) : Int := dig 64 u.toNat
theorem bl_zero : bl 0 = 0 := by decide
theorem bl_lo (u : Int) : 0 ≤ bl u := by unfold bl; omega
theorem bl_step {u : Int} (h0 : 0 < u) (h1 : u ≤ 18446744073709551615) : bl u = bl (u / 2) + 1 := by
  unfold bl
  rw [show dig 64 u.toNat = dig 63 (u.toNat / 2) + 1 by rw [dig, if_neg (by omega)], dig_fuel 63 64 (u.toNat / 2) (by omega) (by omega), show (u / 2).toNat = u.toNat / 2 by omega]
  omega
theorem bl_hi {u : Int} (h : u ≤ 18446744073709551615) : bl u ≤ 64 := by
  unfold bl
  have := dig_le 64 64 u.toNat (by omega); omega
theorem bl_mono {u v : Int} (h : u ≤ v) : bl u ≤ bl v := by
  unfold bl
  have := dig_mono 64 u.toNat v.toNat (by omega); omega
theorem bl_one : bl 1 = 1 := by decide
theorem bl_pos {u : Int} (h : 0 < u) : 1 ≤ bl u := by
  have := bl_mono (u := 1) (v := u) (by omega); rw [bl_one] at this; exact this
theorem bl_8 {u : Int} (h0 : 255 < u) (h1 : u ≤ 18446744073709551615) : bl u = bl (u / 256) + 8 := by
  rw [bl_step (by omega) h1, bl_step (u := u / 2) (by omega) (by omega), bl_step (u := u / 2 / 2) (by omega) (by omega), bl_step (u := u / 2 / 2 / 2) (by omega) (by omega),
    bl_step (u := u / 2 / 2 / 2 / 2) (by omega) (by omega), bl_step (u := u / 2 / 2 / 2 / 2 / 2) (by omega) (by omega), bl_step (u := u / 2 / 2 / 2 / 2 / 2 / 2) (by omega) (by omega),
    bl_step (u := u / 2 / 2 / 2 / 2 / 2 / 2 / 2) (by omega) (by omega), show u / 2 / 2 / 2 / 2 / 2 / 2 / 2 / 2 = u / 256 by omega]
  omega
theorem bl_7 {u : Int} (h0 : 127 < u) (h1 : u ≤ 18446744073709551615) : bl u = bl (u / 128) + 7 := by
  rw [bl_step (by omega) h1, bl_step (u := u / 2) (by omega) (by omega), bl_step (u := u / 2 / 2) (by omega) (by omega), bl_step (u := u / 2 / 2 / 2) (by omega) (by omega),
    bl_step (u := u / 2 / 2 / 2 / 2) (by omega) (by omega), bl_step (u := u / 2 / 2 / 2 / 2 / 2) (by omega) (by omega), bl_step (u := u / 2 / 2 / 2 / 2 / 2 / 2) (by omega) (by omega),
    show u / 2 / 2 / 2 / 2 / 2 / 2 / 2 = u / 128 by omega]
  omega
theorem bl_small {u : Int} (h : u ≤ 127) : bl u ≤ 7 := by
  unfold bl
  have := dig_le 64 7 u.toNat (by omega); omega

/-- How many parts of seven digits, one at least. -/
def parts (u : Int) : Int := (max (bl u) 1 + 6) / 7
theorem parts_small {u : Int} (h : u ≤ 127) : parts u = 1 := by
  unfold parts; have := bl_small h; have := bl_lo u; omega
theorem parts_big {u : Int} (h0 : 127 < u) (h1 : u ≤ 18446744073709551615) : parts u = parts (u / 128) + 1 := by
  unfold parts; have := bl_7 h0 h1; have := bl_pos (u := u / 128) (by omega); omega
theorem parts_lo (u : Int) : 1 ≤ parts u := by unfold parts; omega
theorem parts_hi {u : Int} (h : u ≤ 18446744073709551615) : parts u ≤ 10 := by unfold parts; have := bl_hi h; omega
theorem parts_mono {u v : Int} (h : u ≤ v) : parts u ≤ parts v := by unfold parts; have := bl_mono h; omega
theorem parts_odd {n : Int} (h0 : 0 ≤ n) (h1 : n ≤ 9223372036854775807) : parts (2 * n + 1) = parts (2 * n) := by
  by_cases h : n = 0
  · subst h; decide
  · unfold parts
    rw [bl_step (u := 2 * n + 1) (by omega) (by omega), bl_step (u := 2 * n) (by omega) (by omega), show (2 * n + 1) / 2 = n by omega, show 2 * n / 2 = n by omega]
def width (n : Int) : Int := parts (zig n)
theorem width_lo (n : Int) : 1 ≤ width n := parts_lo _
theorem width_hi {n : Int} (h0 : -9223372036854775808 ≤ n) (h1 : n ≤ 9223372036854775807) : width n ≤ 10 := parts_hi (zig_hi h0 h1)
theorem width_mono {n m : Int} (h0 : 0 ≤ n) (h : n ≤ m) : width n ≤ width m := by
  unfold width; rw [zig_pos h0, zig_pos (by omega)]; exact parts_mono (by omega)
theorem width_not {n : Int} (h0 : 0 ≤ n) (h1 : n ≤ 9223372036854775807) : width (-n - 1) = width n := by
  unfold width; rw [zig_pos h0, zig_neg (by omega), show -2 * (-n - 1) - 1 = 2 * n + 1 by omega, parts_odd h0 h1]
end Go.Proofs.Ytcnalkbedcgknaa.Num
