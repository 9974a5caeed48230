/- Plain mathematics of layer 2: a number's bytes, and what stands at the beginning of a list of bytes. -/
import Derived.Test.YtjebhbjffofjnaaDoorNum
import Derived.Laws.Bits64b
import Derived.Laws.BitsAllLaws
namespace Go.Proofs.YtjebhbjffofjnaaDoor.Num

/-- A number's bytes, the lowest part of seven digits first. -/
def enc (u : Nat) : List UInt8 := if u < 128 then [UInt8.ofNat u] else UInt8.ofNat (u % 128 + 128) :: enc (u / 128)
termination_by u
decreasing_by omega

theorem enc_small {u : Nat} (h : u < 128) : enc u = [UInt8.ofNat u] := by rw [enc, if_pos h]
theorem enc_big {u : Nat} (h : ¬ u < 128) : enc u = UInt8.ofNat (u % 128 + 128) :: enc (u / 128) := by rw [enc, if_neg h]
theorem enc_ne (u : Nat) : enc u ≠ [] := by
  by_cases h : u < 128
  · rw [enc_small h]; simp
  · rw [enc_big h]; simp
theorem toNat_ofNat {n : Nat} (h : n < 256) : (UInt8.ofNat n).toNat = n := UInt8.toNat_ofNat_of_lt' h
theorem enc_len (f : Nat) : ∀ u : Nat, u < 2 ^ f → u ≤ 18446744073709551615 → ((enc u).length : Int) = parts (u : Int) := by
  induction f with
  | zero =>
    intro u h _
    obtain rfl : u = 0 := by simpa using h
    rw [enc_small (by omega)]; decide
  | succ f ih =>
    intro u h h1
    by_cases hs : u < 128
    · rw [enc_small hs, parts_small (by omega)]; rfl
    · rw [enc_big hs, parts_big (by omega) (by omega), List.length_cons, show ((u : Int) / 128) = ((u / 128 : Nat) : Int) by omega, ← ih (u / 128) (by rw [Nat.pow_succ] at h; omega) (by omega)]
      omega
theorem enc_length {u : Nat} (h : u ≤ 18446744073709551615) : ((enc u).length : Int) = parts (u : Int) := enc_len 64 u (by omega) h
theorem enc_length_le {u : Nat} (h : u ≤ 18446744073709551615) : (enc u).length ≤ 10 := by
  have := enc_length h; have := parts_hi (u := (u : Int)) (by omega); omega

/-- How many bytes at the beginning are above 127, of at most m. -/
def cnt : Nat → List UInt8 → Nat
  | 0, _ => 0
  | _ + 1, [] => 0
  | m + 1, x :: r => if 128 ≤ x.toNat then cnt m r + 1 else 0
/-- The number that the first k bytes' parts are. -/
def val : Nat → List UInt8 → Nat
  | 0, _ => 0
  | _ + 1, [] => 0
  | k + 1, x :: r => x.toNat % 128 + 128 * val k r
/-- What is taken: the number, how many bytes, the error's number. -/
def tak (most top : Nat) (l : List UInt8) : Nat × Nat × Nat :=
  if l.length ≤ cnt (most - 1) l then (0, 0, 10)
  else if (cnt (most - 1) l = most - 1 ∧ top < (l.getD (cnt (most - 1) l) 0).toNat) ∨ (0 < cnt (most - 1) l ∧ (l.getD (cnt (most - 1) l) 0).toNat = 0) then (0, 0, 11)
  else (val (cnt (most - 1) l + 1) l, cnt (most - 1) l + 1, 0)

theorem cnt_le_len : ∀ (m : Nat) (l : List UInt8), cnt m l ≤ l.length
  | 0, _ => by simp [cnt]
  | _ + 1, [] => by simp [cnt]
  | m + 1, x :: r => by
    unfold cnt; split
    · have := cnt_le_len m r; simp; omega
    · simp
theorem cnt_le : ∀ (m : Nat) (l : List UInt8), cnt m l ≤ m
  | 0, _ => by simp [cnt]
  | _ + 1, [] => by simp [cnt]
  | m + 1, x :: r => by
    unfold cnt; split
    · have := cnt_le m r; omega
    · omega
theorem cnt_big : ∀ (m : Nat) (l : List UInt8) (k : Nat), k < cnt m l → 128 ≤ (l.getD k 0).toNat
  | 0, _, k, h => by simp [cnt] at h
  | _ + 1, [], k, h => by simp [cnt] at h
  | m + 1, x :: r, k, h => by
    unfold cnt at h
    by_cases hx : 128 ≤ x.toNat
    · rw [if_pos hx] at h
      cases k with
      | zero => simpa using hx
      | succ k => have := cnt_big m r k (by omega); simpa using this
    · rw [if_neg hx] at h; omega
theorem cnt_end : ∀ (m : Nat) (l : List UInt8), cnt m l < m → cnt m l < l.length → (l.getD (cnt m l) 0).toNat < 128
  | 0, _, h, _ => by simp [cnt] at h
  | _ + 1, [], _, h => by simp [cnt] at h
  | m + 1, x :: r, h, k => by
    unfold cnt at h k ⊢
    by_cases hx : 128 ≤ x.toNat
    · rw [if_pos hx] at h k ⊢
      have := cnt_end m r (by omega) (by simp at k; omega)
      simpa using this
    · rw [if_neg hx]; simp; omega
/-- Whatever says where the run ends says 'cnt'. -/
theorem cnt_is {m n : Nat} {l : List UInt8} (h1 : n ≤ m) (h2 : n ≤ l.length) (h3 : ∀ k, k < n → 128 ≤ (l.getD k 0).toNat) (h4 : n = m ∨ n = l.length ∨ (l.getD n 0).toNat < 128) : cnt m l = n := by
  have a1 := cnt_le m l
  have a2 := cnt_le_len m l
  rcases Nat.lt_trichotomy (cnt m l) n with h | h | h
  · have := h3 _ h
    have := cnt_end m l (by omega) (by omega)
    omega
  · exact h
  · have := cnt_big m l n h
    omega

theorem val_lt : ∀ (k : Nat) (l : List UInt8), val k l < 128 ^ k
  | 0, _ => by simp [val]
  | k + 1, [] => by simp [val]; exact Nat.pow_pos (by decide)
  | k + 1, x :: r => by
    have := val_lt k r
    have hx := Nat.mod_lt x.toNat (show 0 < 128 by decide)
    unfold val; rw [Nat.pow_succ]; omega
/-- One part more, at the end. -/
theorem val_snoc : ∀ (k : Nat) (l : List UInt8), val (k + 1) l = val k l + 128 ^ k * ((l.getD k 0).toNat % 128)
  | 0, [] => by simp [val]
  | 0, x :: r => by simp [val]
  | k + 1, [] => by simp [val]
  | k + 1, x :: r => by
    have := val_snoc k r
    rw [val, this, val, Nat.mul_add, Nat.pow_succ]
    simp only [List.getD_cons_succ]
    rw [Nat.mul_comm (128 ^ k) 128, Nat.mul_assoc]
    omega
/-- One part more, at the beginning. -/
theorem val_cons (k : Nat) (l : List UInt8) (h : l ≠ []) : val (k + 1) l = (l.getD 0 0).toNat % 128 + 128 * val k (l.drop 1) := by
  cases l with
  | nil => exact absurd rfl h
  | cons x r => simp [val]
/-- The number fits: nine parts and one digit; four parts and four digits. -/
theorem tak_lt {most top c u e : Nat} {l : List UInt8} (h : tak most top l = (u, c, e)) (ht : top < 128) : u < 128 ^ (most - 1) * (top + 1) := by
  unfold tak at h
  have pos : 0 < 128 ^ (most - 1) * (top + 1) := Nat.mul_pos (Nat.pow_pos (by decide)) (by omega)
  split at h
  · simp only [Prod.mk.injEq] at h; omega
  · rename_i h1
    split at h
    · simp only [Prod.mk.injEq] at h; omega
    · rename_i h2
      simp only [Prod.mk.injEq] at h
      obtain ⟨hu, _, _⟩ := h
      subst hu
      have a1 := cnt_le (most - 1) l
      by_cases hc : cnt (most - 1) l = most - 1
      · have h3 : ¬ top < (l.getD (cnt (most - 1) l) 0).toNat := fun h => h2 (.inl ⟨hc, h⟩)
        rw [val_snoc]
        rw [hc] at h3 ⊢
        have := val_lt (most - 1) l
        rw [Nat.mul_add]
        have h4 : (l.getD (most - 1) 0).toNat % 128 ≤ top := Nat.le_trans (Nat.mod_le _ _) (by omega)
        have := Nat.mul_le_mul_left (128 ^ (most - 1)) h4
        omega
      · have := val_lt (cnt (most - 1) l + 1) l
        have h5 : 128 ^ (cnt (most - 1) l + 1) ≤ 128 ^ (most - 1) := Nat.pow_le_pow_right (by decide) (by omega)
        have h6 : 128 ^ (most - 1) * 1 ≤ 128 ^ (most - 1) * (top + 1) := Nat.mul_le_mul_left _ (by omega)
        omega

/-- A number's bytes, and anything behind them: how they begin. -/
theorem enc_at : ∀ (f u : Nat) (r : List UInt8), u < 2 ^ f →
    (∀ k, k + 1 < (enc u).length → 128 ≤ ((enc u ++ r).getD k 0).toNat) ∧ ((enc u ++ r).getD ((enc u).length - 1) 0).toNat < 128 ∧
    (128 ≤ u → ((enc u ++ r).getD ((enc u).length - 1) 0).toNat ≠ 0) ∧ val (enc u).length (enc u ++ r) = u
  | 0, u, r, h => by
    obtain rfl : u = 0 := by simpa using h
    rw [enc_small (by omega)]
    simp [val]
  | f + 1, u, r, h => by
    by_cases hs : u < 128
    · rw [enc_small hs]
      have e := toNat_ofNat (n := u) (by omega)
      refine ⟨fun k hk => by simp at hk, ?_, fun h => absurd h (by omega), ?_⟩
      · simp only [List.length_singleton, Nat.sub_self, List.singleton_append, List.getD_cons_zero, e]; exact hs
      · simp only [List.length_singleton, List.singleton_append, val, e]; omega
    · have ih := enc_at f (u / 128) r (by rw [Nat.pow_succ] at h; omega)
      have ne := enc_ne (u / 128)
      have len : 1 ≤ (enc (u / 128)).length := List.length_pos_iff.2 ne
      have e := toNat_ofNat (n := u % 128 + 128) (by omega)
      rw [enc_big hs]
      obtain ⟨i1, i2, i3, i4⟩ := ih
      simp only [List.length_cons, List.cons_append, Nat.add_sub_cancel]
      refine ⟨fun k hk => ?_, ?_, fun _ => ?_, ?_⟩
      · cases k with
        | zero => simp only [List.getD_cons_zero, e]; omega
        | succ k => simp only [List.getD_cons_succ]; exact i1 k (by omega)
      · rw [show (enc (u / 128)).length = (enc (u / 128)).length - 1 + 1 by omega, List.getD_cons_succ]; exact i2
      · rw [show (enc (u / 128)).length = (enc (u / 128)).length - 1 + 1 by omega, List.getD_cons_succ]
        by_cases h2 : 128 ≤ u / 128
        · exact i3 h2
        · rw [enc_small (by omega)]
          simp only [List.length_singleton, Nat.sub_self, List.singleton_append, List.getD_cons_zero, toNat_ofNat (n := u / 128) (by omega)]
          omega
      · rw [val, e, i4]; omega

theorem tak_enc_cnt {u most : Nat} (r : List UInt8) (hu : u ≤ 18446744073709551615) (hl : (enc u).length ≤ most) : cnt (most - 1) (enc u ++ r) = (enc u).length - 1 := by
  obtain ⟨i1, i2, _, _⟩ := enc_at 64 u r (by omega)
  have len : 1 ≤ (enc u).length := List.length_pos_iff.2 (enc_ne u)
  exact cnt_is (by omega) (by rw [List.length_append]; omega) (fun k hk => i1 k (by omega)) (.inr (.inr i2))
/-- What is put is taken, where it fits. -/
theorem tak_enc {u most top : Nat} (r : List UInt8) (hu : u ≤ 18446744073709551615) (hl : (enc u).length ≤ most) (ht : (enc u).length = most → u < 128 ^ (most - 1) * (top + 1)) :
    tak most top (enc u ++ r) = (u, (enc u).length, 0) := by
  obtain ⟨i1, i2, i3, i4⟩ := enc_at 64 u r (by omega)
  have len : 1 ≤ (enc u).length := List.length_pos_iff.2 (enc_ne u)
  unfold tak
  rw [tak_enc_cnt r hu hl, if_neg (by rw [List.length_append]; omega), if_neg, show (enc u).length - 1 + 1 = (enc u).length by omega, i4]
  rintro (⟨h1, h2⟩ | ⟨h1, h2⟩)
  · have h3 := ht (by omega)
    have h4 := i4
    rw [show (enc u).length = (enc u).length - 1 + 1 by omega, val_snoc, Nat.mod_eq_of_lt i2, h1] at h4
    rw [h1] at h2
    have := Nat.mul_le_mul_left (128 ^ (most - 1)) (show top + 1 ≤ ((enc u ++ r).getD (most - 1) 0).toNat by omega)
    omega
  · refine i3 ?_ h2
    by_cases h3 : 128 ≤ u
    · exact h3
    · rw [enc_small (by omega)] at h1; simp at h1
/-- A number of more than 32 digits is refused where 32 are asked. -/
theorem tak_enc_far {u : Nat} (r : List UInt8) (hu : u ≤ 18446744073709551615) (h : 4294967295 < u) : tak 5 15 (enc u ++ r) = (0, 0, 11) := by
  obtain ⟨i1, i2, i3, i4⟩ := enc_at 64 u r (by omega)
  have len : 1 ≤ (enc u).length := List.length_pos_iff.2 (enc_ne u)
  have hv := val_lt (enc u).length (enc u ++ r)
  rw [i4] at hv
  have h5 : 5 ≤ (enc u).length := by
    rcases Nat.lt_or_ge (enc u).length 5 with hlt | hge
    · have : 128 ^ (enc u).length ≤ 128 ^ 4 := Nat.pow_le_pow_right (by decide) (by omega)
      have : 128 ^ 4 = 268435456 := by decide
      omega
    · exact hge
  have hc : cnt 4 (enc u ++ r) = 4 := cnt_is (by omega) (by rw [List.length_append]; omega) (fun k hk => i1 k (by omega)) (.inl rfl)
  unfold tak
  rw [show 5 - 1 = 4 by decide, hc, if_neg (by rw [List.length_append]; omega), if_pos]
  refine .inl ⟨rfl, ?_⟩
  rcases Nat.lt_or_ge 5 (enc u).length with hlt | hge
  · have := i1 4 (by omega); omega
  · have h6 : (enc u).length = 5 := by omega
    rw [h6] at i2 i4
    have h7 := val_lt 4 (enc u ++ r)
    rw [show 5 = 4 + 1 by decide, val_snoc] at i4
    rw [show 5 - 1 = 4 by decide] at i2
    rw [Nat.mod_eq_of_lt i2] at i4
    have : 128 ^ 4 = 268435456 := by decide
    omega

/-- What is taken, put again, is the bytes that it had. -/
theorem enc_val : ∀ (n : Nat) (l : List UInt8), n < l.length → (∀ k, k < n → 128 ≤ (l.getD k 0).toNat) → (l.getD n 0).toNat < 128 → (0 < n → (l.getD n 0).toNat ≠ 0) →
    enc (val (n + 1) l) = l.take (n + 1) ∧ (0 < n → 128 ≤ val (n + 1) l) ∧ (0 < val (n + 1) l ∨ n = 0)
  | 0, [], h, _, _, _ => by simp at h
  | 0, x :: r, _, _, h, _ => by
    have hx : x.toNat < 128 := by simpa using h
    have e : val 1 (x :: r) = x.toNat := by simp [val]; omega
    refine ⟨?_, fun h => absurd h (by omega), .inr rfl⟩
    rw [e, enc_small hx]
    simp
  | n + 1, [], h, _, _, _ => by simp at h
  | n + 1, x :: r, h1, h2, h3, h4 => by
    have hx : 128 ≤ x.toNat := by simpa using h2 0 (by omega)
    have hb := x.toNat_lt
    obtain ⟨ih, ih2, ih3⟩ := enc_val n r (by simp at h1; omega) (fun k hk => by have := h2 (k + 1) (by omega); simpa using this) (by simpa using h3) (fun _ => by have := h4 (by omega); simpa using this)
    have pos : 0 < val (n + 1) r := by
      rcases ih3 with h | h
      · exact h
      · subst h
        have h5 := h4 (by omega)
        have h6 : (r.getD 0 0).toNat ≠ 0 := by simpa using h5
        have h7 : (r.getD 0 0).toNat < 128 := by simpa using h3
        rw [val_snoc]
        simp only [val, Nat.pow_zero]
        omega
    have e : val (n + 1 + 1) (x :: r) = x.toNat % 128 + 128 * val (n + 1) r := rfl
    refine ⟨?_, fun _ => by rw [e]; omega, .inl (by rw [e]; omega)⟩
    rw [e, enc_big (by omega), show (x.toNat % 128 + 128 * val (n + 1) r) % 128 + 128 = x.toNat by omega, show (x.toNat % 128 + 128 * val (n + 1) r) / 128 = val (n + 1) r by omega, ih]
    simp
theorem enc_tak {most top u c : Nat} {l : List UInt8} (h : tak most top l = (u, c, 0)) (ht : top < 128) : enc u = l.take c ∧ 0 < c ∧ c ≤ l.length := by
  unfold tak at h
  split at h
  · simp only [Prod.mk.injEq] at h; omega
  · rename_i h1
    split at h
    · simp only [Prod.mk.injEq] at h; omega
    · rename_i h2
      simp only [Prod.mk.injEq] at h
      obtain ⟨hu, hc, _⟩ := h
      subst hu; subst hc
      have a1 := cnt_le (most - 1) l
      have a2 := cnt_le_len (most - 1) l
      refine ⟨(enc_val _ l (by omega) (cnt_big _ l) ?_ (fun h3 h4 => h2 (.inr ⟨h3, h4⟩))).1, by omega, by omega⟩
      rcases Nat.lt_or_ge (cnt (most - 1) l) (most - 1) with h3 | h3
      · exact cnt_end _ l h3 (by omega)
      · have : ¬ top < (l.getD (cnt (most - 1) l) 0).toNat := fun h => h2 (.inl ⟨by omega, h⟩)
        omega
theorem tak_err {most top u c e : Nat} {l : List UInt8} (h : tak most top l = (u, c, e)) : (e = 0 ∧ 0 < c ∧ c ≤ l.length) ∨ ((e = 10 ∨ e = 11) ∧ u = 0 ∧ c = 0) := by
  unfold tak at h
  have a2 := cnt_le_len (most - 1) l
  split at h
  · simp only [Prod.mk.injEq] at h; omega
  · split at h
    · simp only [Prod.mk.injEq] at h; omega
    · simp only [Prod.mk.injEq] at h; omega

/-! The machine's words. -/
theorem or_parts {u k x : Nat} (hu : u < 128 ^ k) (h : u + 128 ^ k * x < 18446744073709551616) :
    bits .or .u64 (u : Int) (((128 ^ k * x : Nat) : Int)) = ((u + 128 ^ k * x : Nat) : Int) := by
  have hp : 128 ^ k = 2 ^ (7 * k) := by rw [Nat.pow_mul]
  rw [bits_or_u64_nat u (128 ^ k * x) (by omega) (by omega)]
  congr 1
  rw [hp] at hu ⊢
  have := Nat.shiftLeft_add_eq_or_of_lt hu x
  rw [Nat.shiftLeft_eq, Nat.mul_comm] at this
  rw [Nat.or_comm, ← this, Nat.add_comm]
theorem gat_step {L : List UInt8} {j X : Nat} (hX : X = (L.getD j 0).toNat) (h : val (j + 1) L < 18446744073709551616) :
    bits .or .u64 ((val j L : Nat) : Int) (IntKind.u64.wrap ((X : Int) % 128 * 2 ^ (j * 7))) = ((val (j + 1) L : Nat) : Int) := by
  subst hX
  rw [val_snoc] at h ⊢
  have e : (((L.getD j 0).toNat : Nat) : Int) % 128 * 2 ^ (j * 7) = ((128 ^ j * ((L.getD j 0).toNat % 128) : Nat) : Int) := by
    rw [Nat.mul_comm (128 ^ j), Int.natCast_mul, show (128 : Nat) ^ j = 2 ^ (j * 7) by rw [Nat.mul_comm j 7, Nat.pow_mul]]
    simp
  rw [e, IntKind.wrap_u64, ← or_parts (val_lt j L) h]
  congr 1
  omega
theorem tak_short {most top : Nat} {L : List UInt8} {N : Nat} (hN : N = cnt (most - 1) L) (h : L.length ≤ N) : tak most top L = (0, 0, 10) := by
  unfold tak; rw [← hN, if_pos h]
theorem tak_form {most top : Nat} {L : List UInt8} {N X : Nat} (hN : N = cnt (most - 1) L) (h : N < L.length) (hX : X = (L.getD N 0).toNat) (hf : (N = most - 1 ∧ top < X) ∨ (0 < N ∧ X = 0)) : tak most top L = (0, 0, 11) := by
  unfold tak; rw [← hN, if_neg (by omega), if_pos (by rw [← hX]; exact hf)]
theorem tak_ok {most top : Nat} {L : List UInt8} {N X : Nat} (hN : N = cnt (most - 1) L) (h : N < L.length) (hX : X = (L.getD N 0).toNat) (hf : ¬ ((N = most - 1 ∧ top < X) ∨ (0 < N ∧ X = 0))) : tak most top L = (val (N + 1) L, N + 1, 0) := by
  unfold tak; rw [← hN, if_neg (by omega), if_neg (by rw [← hX]; exact hf)]
theorem val_fit {j most : Nat} (L : List UInt8) (h : j < most - 1) (hm : most ≤ 10) : val (j + 1) L < 18446744073709551616 := by
  have h1 := val_lt (j + 1) L
  have h2 : 128 ^ (j + 1) ≤ 128 ^ 9 := Nat.pow_le_pow_right (by decide) (by omega)
  have h3 : 128 ^ 9 = 9223372036854775808 := by decide
  omega

set_option maxRecDepth 100000 in
theorem or_128_nat : ∀ x : Fin 256, x.val ||| 128 = x.val % 128 + 128 := by decide
theorem or_128 {x : Int} (h0 : 0 ≤ x) (h1 : x < 256) : bits .or .u8 x 128 = x % 128 + 128 := by
  obtain ⟨n, rfl⟩ := Int.eq_ofNat_of_zero_le h0
  have := u8_or_nat n 128 (by omega) (by decide)
  rw [show ((128 : Nat) : Int) = 128 from rfl] at this
  have e : n ||| 128 = n % 128 + 128 := or_128_nat ⟨n, by omega⟩
  rw [this, e]
  omega
end Go.Proofs.YtjebhbjffofjnaaDoor.Num
