/- Plain mathematics of layer 6: a word's bytes alone are that word, with nothing or white bytes behind; all words. -/
import Derived.Test.YtbogafecgakgiaaDoorJNum
namespace Go.Proofs.YtbogafecgakgiaaDoor.Jx
open Num

theorem uni_cut {l m o : List UInt8} {n j : Nat} (h : uni l = some (o, n)) (hj : n - 2 ≤ j) (hl : j ≤ l.length) : uni (l.take j ++ m) = some (o, n) := by
  unfold uni at h
  split at h
  · rename_i h1
    split at h
    · rename_i h2
      simp only [Option.some.injEq, Prod.mk.injEq] at h
      obtain ⟨rfl, rfl⟩ := h
      have e1 : four (l.take j ++ m) = four l := four_same fun i hi => byt_cut (by omega) (by omega)
      have e2 : four ((l.take j ++ m).drop 6) = four (l.drop 6) := four_same fun i hi => by rw [byt_drop, byt_drop, byt_cut (by omega) (by omega)]
      unfold uni
      rw [e1, e2, byt_cut (by omega) (by omega), byt_cut (by omega) (by omega), if_pos h1, if_pos h2]
    · cases h
  · rename_i h1
    split at h
    · rename_i h2
      simp only [Option.some.injEq, Prod.mk.injEq] at h
      obtain ⟨rfl, rfl⟩ := h
      have e1 : four (l.take j ++ m) = four l := four_same fun i hi => byt_cut (by omega) (by omega)
      unfold uni
      unfold isC at h2
      rw [e1, if_neg (by omega), if_pos (by unfold isC; omega)]
    · cases h
theorem take_cut {l m : List UInt8} {n j : Nat} (h : n ≤ j) (hl : j ≤ l.length) : (l.take j ++ m).take n = l.take n := by
  rw [List.take_append_of_le_length (by rw [List.length_take]; omega), List.take_take, Nat.min_eq_left h]
theorem fst_cut2 {l m : List UInt8} {c n j : Nat} (h : fst l = (c, n, 0)) (hj : n ≤ j) (hl : j ≤ l.length) : fst (l.take j ++ m) = (c, n, 0) := by
  obtain ⟨h1, h2, _⟩ := ue_fst h
  have hn : (ue c).length = n := by rw [h2, List.length_take]; omega
  have e : l.take j ++ m = ue c ++ ((l.take j ++ m).drop n) := by
    rw [h2, ← take_cut (m := m) hj hl, List.take_append_drop]
  rw [e, fst_ue h1, hn]
theorem item_cut {l m o : List UInt8} {n j : Nat} (h : item l = some (o, n)) (hj : n ≤ j) (hl : j ≤ l.length) : item (l.take j ++ m) = some (o, n) := by
  have hn := item_len h
  have e0 : byt (l.take j ++ m) 0 = byt l 0 := byt_cut (by omega) (by omega)
  unfold item at h ⊢
  rw [e0]
  split at h
  · rename_i h1
    rw [if_pos h1]
    split at h
    · rename_i v hv
      simp only [Option.some.injEq, Prod.mk.injEq] at h
      obtain ⟨rfl, rfl⟩ := h
      rw [byt_cut (by omega) (by omega), hv]
    · rename_i hv
      split at h
      · rename_i h2
        have := uni_len h
        have e1 : byt (l.take j ++ m) 1 = byt l 1 := byt_cut (by omega) (by omega)
        rw [e1, hv]
        simp only
        rw [if_pos h2, drop_cut (by omega) hl]
        exact uni_cut h (by omega) (by rw [List.length_drop]; omega)
      · cases h
  · rename_i h1
    rw [if_neg h1]
    split at h
    · rename_i h2
      simp only [Option.some.injEq, Prod.mk.injEq] at h
      obtain ⟨rfl, rfl⟩ := h
      have e : fst l = ((fst l).1, (fst l).2.1, 0) := by rw [← h2]
      rw [fst_cut2 e hj hl]
      simp only
      rw [if_pos trivial, take_cut hj hl]
    · cases h
theorem txt_len : ∀ (f : Nat) (l : List UInt8) {s : List UInt8} {k : Nat}, l.length < f → txt l = some (s, k) → 1 ≤ k ∧ k ≤ l.length ∧ s.length + 1 ≤ k
  | 0, _, _, _, h, _ => absurd h (Nat.not_lt_zero _)
  | f + 1, l, s, k, hf, h => by
    by_cases h0 : byt l 0 < 32
    · rw [txt_bad h0] at h; cases h
    by_cases h1 : byt l 0 = 34
    · rw [txt_end h1] at h
      simp only [Option.some.injEq, Prod.mk.injEq] at h
      obtain ⟨rfl, rfl⟩ := h
      have := byt_pos (l := l) (i := 0) (by omega)
      simp; omega
    cases hi : item l with
    | none => rw [txt_no h1 hi] at h; cases h
    | some r =>
      obtain ⟨o, n⟩ := r
      have hn := item_len hi
      rw [txt_go (by omega) h1 hi] at h
      cases ht : txt (l.drop n) with
      | none => rw [ht] at h; cases h
      | some r =>
        obtain ⟨s', k'⟩ := r
        rw [ht] at h
        simp only [Option.map_some, Option.some.injEq, Prod.mk.injEq] at h
        obtain ⟨rfl, rfl⟩ := h
        have := txt_len f (l.drop n) (by rw [List.length_drop]; omega) ht
        rw [List.length_drop] at this
        simp; omega
theorem txt_cut : ∀ (f : Nat) (l : List UInt8) {s : List UInt8} {k j : Nat} (m : List UInt8), l.length < f → txt l = some (s, k) → k ≤ j → j ≤ l.length → txt (l.take j ++ m) = some (s, k)
  | 0, _, _, _, _, _, h, _, _, _ => absurd h (Nat.not_lt_zero _)
  | f + 1, l, s, k, j, m, hf, h, hj, hl => by
    have hk := txt_len (f + 1) l hf h
    have e0 : byt (l.take j ++ m) 0 = byt l 0 := byt_cut (by omega) (by omega)
    by_cases h0 : byt l 0 < 32
    · rw [txt_bad h0] at h; cases h
    by_cases h1 : byt l 0 = 34
    · rw [txt_end h1] at h
      rw [txt_end (by rw [e0]; exact h1), h]
    cases hi : item l with
    | none => rw [txt_no h1 hi] at h; cases h
    | some r =>
      obtain ⟨o, n⟩ := r
      have hn := item_len hi
      rw [txt_go (by omega) h1 hi] at h
      cases ht : txt (l.drop n) with
      | none => rw [ht] at h; cases h
      | some r =>
        obtain ⟨s', k'⟩ := r
        rw [ht] at h
        simp only [Option.map_some, Option.some.injEq, Prod.mk.injEq] at h
        obtain ⟨rfl, rfl⟩ := h
        rw [txt_go (by rw [e0]; omega) (by rw [e0]; exact h1) (item_cut hi (by omega) hl), drop_cut (by omega) hl, txt_cut f (l.drop n) m (by rw [List.length_drop]; omega) ht (by omega) (by rw [List.length_drop]; omega)]
        rfl

theorem isD_is {c : Nat} : isD c = true ↔ 48 ≤ c ∧ c ≤ 57 := by unfold isD; simp
theorem isL_is {c : Nat} : isL c = true ↔ (48 ≤ c ∧ c ≤ 57) ∨ (97 ≤ c ∧ c ≤ 122) ∨ (65 ≤ c ∧ c ≤ 90) := by unfold isL; simp
theorem isW_is {c : Nat} : isW c = true ↔ c = 32 ∨ c = 9 ∨ c = 10 ∨ c = 13 := by unfold isW; simp
/-- Nothing, or a white byte, ahead. -/
def Off (m : List UInt8) : Prop := m = [] ∨ isW (byt m 0) = true
theorem Off.byt {m : List UInt8} (h : Off m) : byt m 0 = 0 ∨ byt m 0 = 32 ∨ byt m 0 = 9 ∨ byt m 0 = 10 ∨ byt m 0 = 13 := by
  rcases h with h | h
  · subst h; exact .inl rfl
  · exact .inr (isW_is.1 h)
theorem Off.dig {m : List UInt8} (h : Off m) : isD (Jx.byt m 0) = false := by
  have := h.byt; unfold isD; simp; omega
theorem Off.let {m : List UInt8} (h : Off m) : isL (Jx.byt m 0) = false := by
  have := h.byt; unfold isL; simp; omega

theorem numR_len {m : Nat} {r : List UInt8} (h : (numR m r).2.2 = 0) : (numR m r).2.1 = m + cnt isD r ∧ cnt isD r ≠ 0 := by
  unfold numR at h ⊢
  split at h
  · cases h
  · rename_i h1
    split at h
    · cases h
    · rename_i h2
      rw [if_neg h1, if_neg h2]
      exact ⟨rfl, fun e => h1 (.inl e)⟩
theorem numR_big {m : Nat} {r : List UInt8} (h : (numR m r).2.2 = 0) : -9223372036854775808 ≤ (numR m r).1 ∧ (numR m r).1 ≤ 9223372036854775807 := by
  unfold numR at h ⊢
  split at h
  · cases h
  · rename_i h1
    split at h
    · cases h
    · rename_i h2
      rw [if_neg h1, if_neg h2]
      simp only
      split <;> omega
theorem numR_err (m : Nat) (r : List UInt8) : (numR m r).2.2 = 0 ∨ ((numR m r).1 = 0 ∧ ((numR m r).2.2 = 20 ∨ (numR m r).2.2 = 22)) := by
  unfold numR; split
  · exact .inr ⟨rfl, .inl rfl⟩
  · split
    · exact .inr ⟨rfl, .inr rfl⟩
    · exact .inl rfl
theorem numR_cut {m : Nat} {r t : List UInt8} {j : Nat} (h : (numR m r).2.2 = 0) (hj : j = cnt isD r) (ht : Off t) : numR m (r.take j ++ t) = numR m r := by
  subst hj
  have hn := cnt_le isD r
  have h0 := (numR_len h).2
  have ec : cnt isD (r.take (cnt isD r) ++ t) = cnt isD r := cnt_cut hn (Nat.le_refl _) (.inr ht.dig)
  have eb : byt (r.take (cnt isD r) ++ t) (cnt isD r) = byt t 0 := by rw [byt_cut2 (Nat.le_refl _) hn, Nat.sub_self]
  have e0 : byt (r.take (cnt isD r) ++ t) 0 = byt r 0 := byt_cut (by omega) (by omega)
  have et : (r.take (cnt isD r) ++ t).take (cnt isD r) = r.take (cnt isD r) := take_cut (Nat.le_refl _) hn
  have hb := ht.byt
  have hl := ht.let
  unfold numR at h ⊢
  rw [ec, eb, e0, et, hl]
  split at h
  · cases h
  · rename_i h1
    split at h
    · cases h
    · rename_i h2
      rw [if_neg h1, if_neg h2, if_neg, if_neg]
      · intro h3
        rcases h3 with h3 | h3 | h3 | h3
        · omega
        · cases h3
        · exact h2 (.inr (.inr (.inl h3)))
        · exact h2 (.inr (.inr (.inr h3)))
      · intro h3
        rcases h3 with h3 | h3 | h3
        · omega
        · exact h1 (.inr (.inl h3))
        · cases h3.1
theorem num_len {l : List UInt8} (h : (num l).2.2 = 0) : 1 ≤ (num l).2.1 ∧ (num l).2.1 ≤ l.length := by
  unfold num at h ⊢
  split at h
  · rename_i h1
    rw [if_pos h1]
    have a := numR_len h
    have := cnt_le isD (l.drop 1)
    rw [List.length_drop] at this
    omega
  · rename_i h1
    rw [if_neg h1]
    have a := numR_len h
    have := cnt_le isD l
    omega
theorem num_big {l : List UInt8} (h : (num l).2.2 = 0) : -9223372036854775808 ≤ (num l).1 ∧ (num l).1 ≤ 9223372036854775807 := by
  unfold num at h ⊢
  split at h
  · rename_i h1; rw [if_pos h1]; exact numR_big h
  · rename_i h1; rw [if_neg h1]; exact numR_big h
theorem num_cut {l t : List UInt8} (h : (num l).2.2 = 0) (ht : Off t) : num (l.take (num l).2.1 ++ t) = num l := by
  have hn := num_len h
  have e0 : byt (l.take (num l).2.1 ++ t) 0 = byt l 0 := byt_cut (by omega) (by omega)
  generalize hk : (num l).2.1 = k at hn e0 ⊢
  unfold num at h hk ⊢
  rw [e0]
  split at h
  · rename_i h1
    rw [if_pos h1] at hk
    rw [if_pos h1, drop_cut (by omega) (by omega)]
    exact (numR_cut h (by have := numR_len h; omega) ht).trans (by rw [if_pos h1])
  · rename_i h1
    rw [if_neg h1] at hk
    rw [if_neg h1]
    exact (numR_cut h (by have := numR_len h; omega) ht).trans (by rw [if_neg h1])
theorem named_len {l s : List UInt8} (h : named l s = true) : s.length ≤ l.length := by
  unfold named at h
  simp only [Bool.and_eq_true, decide_eq_true_eq] at h
  have := congrArg List.length h.1
  rw [List.length_take] at this
  omega
theorem named_cut {l s t : List UInt8} (h : named l s = true) (ht : Off t) : named (l.take s.length ++ t) s = true := by
  have hl := named_len h
  unfold named at h ⊢
  simp only [Bool.and_eq_true, decide_eq_true_eq] at h ⊢
  rw [take_cut (Nat.le_refl _) hl, byt_cut2 (Nat.le_refl _) hl, Nat.sub_self, ht.let]
  exact ⟨h.1, rfl⟩
theorem punct_is (c : Nat) : (punct c = 0 ∧ c ≠ 123 ∧ c ≠ 125 ∧ c ≠ 91 ∧ c ≠ 93 ∧ c ≠ 58 ∧ c ≠ 44) ∨ (punct c = 1 ∧ c = 123) ∨ (punct c = 2 ∧ c = 125) ∨ (punct c = 3 ∧ c = 91) ∨ (punct c = 4 ∧ c = 93) ∨ (punct c = 5 ∧ c = 58) ∨ (punct c = 6 ∧ c = 44) := by
  unfold punct
  split
  · omega
  · split
    · omega
    · split
      · omega
      · split
        · omega
        · split
          · omega
          · split <;> omega

theorem word_p {l : List UInt8} (h : punct (byt l 0) ≠ 0) : word l = (⟨punct (byt l 0), 0, [], 0, 1⟩, 0) := by unfold word; rw [if_pos h]
theorem word_t0 {l : List UInt8} (h : byt l 0 = 34) (ht : txt (l.drop 1) = none) : word l = (Wd.zero, 20) := by
  unfold word; rw [if_neg (by rw [h]; decide), if_pos h, ht]
theorem word_t {l s : List UInt8} {k : Nat} (h : byt l 0 = 34) (ht : txt (l.drop 1) = some (s, k)) : word l = (⟨10, 0, s, 0, k + 1⟩, 0) := by
  unfold word; rw [if_neg (by rw [h]; decide), if_pos h, ht]
theorem numb_p {c : Nat} (h : c = 45 ∨ isD c = true) : punct c = 0 ∧ c ≠ 34 := by
  rw [isD_is] at h
  have := punct_is c
  omega
theorem word_n {l : List UInt8} (h : byt l 0 = 45 ∨ isD (byt l 0) = true) : word l = if (num l).2.2 = 0 then (⟨9, (num l).1, [], 0, (num l).2.1⟩, 0) else (Wd.zero, (num l).2.2) := by
  have a := numb_p h
  unfold word; rw [if_neg (by omega), if_neg a.2, if_pos h]
theorem word_l {l : List UInt8} (h : punct (byt l 0) = 0) (h1 : byt l 0 ≠ 34) (h2 : ¬ (byt l 0 = 45 ∨ isD (byt l 0) = true)) :
    word l = if named l sT = true then (⟨7, 1, [], 0, 4⟩, 0) else if named l sF = true then (⟨7, 0, [], 0, 5⟩, 0) else if named l sN = true then (⟨8, 0, [], 0, 4⟩, 0) else (Wd.zero, 20) := by
  unfold word; rw [if_neg (by omega), if_neg h1, if_neg h2]
/-- What a word's parts are. -/
def Wd.ok (w : Wd) (len : Nat) : Prop := w.a = 0 ∧ 1 ≤ w.x ∧ w.x ≤ len ∧ 1 ≤ w.k ∧ w.k ≤ 10 ∧ -9223372036854775808 ≤ w.n ∧ w.n ≤ 9223372036854775807 ∧ w.t.length ≤ w.x
theorem word_ok {l : List UInt8} {w : Wd} (h : word l = (w, 0)) : w.ok l.length := by
  by_cases h0 : punct (byt l 0) = 0
  · by_cases h1 : byt l 0 = 34
    · have hl := byt_pos (l := l) (i := 0) (by omega)
      cases ht : txt (l.drop 1) with
      | none => rw [word_t0 h1 ht] at h; cases h
      | some r =>
        obtain ⟨s, k⟩ := r
        rw [word_t h1 ht] at h
        simp only [Prod.mk.injEq, and_true] at h
        subst h
        have := txt_len _ _ (Nat.lt_succ_self _) ht
        rw [List.length_drop] at this
        refine ⟨rfl, ?_, ?_, by show 1 ≤ 10; omega, by show 10 ≤ 10; omega, by show (-9223372036854775808 : Int) ≤ 0; omega, by show (0 : Int) ≤ 9223372036854775807; omega, ?_⟩
        · show 1 ≤ k + 1; omega
        · show k + 1 ≤ l.length; omega
        · show s.length ≤ k + 1; omega
    · by_cases h2 : byt l 0 = 45 ∨ isD (byt l 0) = true
      · rw [word_n h2] at h
        split at h
        · rename_i h3
          simp only [Prod.mk.injEq, and_true] at h
          subst h
          have a := num_len h3
          have b := num_big h3
          exact ⟨rfl, a.1, a.2, by show 1 ≤ 9; omega, by show 9 ≤ 10; omega, b.1, b.2, Nat.zero_le _⟩
        · rename_i h3
          simp only [Prod.mk.injEq] at h
          exact absurd h.2 h3
      · rw [word_l h0 h1 h2] at h
        have fin : ∀ (s : List UInt8) (k : Nat) (n : Int), named l s = true → 1 ≤ s.length → 1 ≤ k → k ≤ 10 → 0 ≤ n → n ≤ 1 → Wd.ok ⟨k, n, [], 0, s.length⟩ l.length := fun s k n a b c d e f =>
          ⟨rfl, b, named_len a, c, d, by show (-9223372036854775808 : Int) ≤ n; omega, by show n ≤ 9223372036854775807; omega, Nat.zero_le _⟩
        split at h
        · rename_i h3
          simp only [Prod.mk.injEq, and_true] at h
          subst h
          exact fin sT 7 1 h3 (by decide) (by omega) (by omega) (by omega) (by omega)
        · split at h
          · rename_i h3
            simp only [Prod.mk.injEq, and_true] at h
            subst h
            exact fin sF 7 0 h3 (by decide) (by omega) (by omega) (by omega) (by omega)
          · split at h
            · rename_i h3
              simp only [Prod.mk.injEq, and_true] at h
              subst h
              exact fin sN 8 0 h3 (by decide) (by omega) (by omega) (by omega) (by omega)
            · cases h
  · have hl : byt l 0 ≠ 0 := by intro e; rw [e] at h0; exact h0 rfl
    have hl := byt_pos hl
    rw [word_p h0] at h
    simp only [Prod.mk.injEq, and_true] at h
    subst h
    have := punct_is (byt l 0)
    refine ⟨rfl, by show 1 ≤ 1; omega, hl, ?_, ?_, by show (-9223372036854775808 : Int) ≤ 0; omega, by show (0 : Int) ≤ 9223372036854775807; omega, Nat.zero_le _⟩
    · show 1 ≤ punct (byt l 0); omega
    · show punct (byt l 0) ≤ 10; omega
theorem word_err (l : List UInt8) : (∃ w, word l = (w, 0)) ∨ word l = (Wd.zero, 20) ∨ word l = (Wd.zero, 22) := by
  by_cases h0 : punct (byt l 0) = 0
  · by_cases h1 : byt l 0 = 34
    · cases ht : txt (l.drop 1) with
      | none => exact .inr (.inl (word_t0 h1 ht))
      | some r => exact .inl ⟨_, word_t h1 ht⟩
    · by_cases h2 : byt l 0 = 45 ∨ isD (byt l 0) = true
      · rw [word_n h2]
        split
        · exact .inl ⟨_, rfl⟩
        · rename_i h3
          have e : (num l).2.2 = 20 ∨ (num l).2.2 = 22 := by
            unfold num at h3 ⊢
            split at h3
            · rename_i h4
              rw [if_pos h4]
              have := numR_err 1 (l.drop 1); omega
            · rename_i h4
              rw [if_neg h4]
              have := numR_err 0 l; omega
          rcases e with e | e
          · exact .inr (.inl (by rw [e]))
          · exact .inr (.inr (by rw [e]))
      · rw [word_l h0 h1 h2]
        split
        · exact .inl ⟨_, rfl⟩
        · split
          · exact .inl ⟨_, rfl⟩
          · split
            · exact .inl ⟨_, rfl⟩
            · exact .inr (.inl rfl)
  · exact .inl ⟨_, word_p h0⟩
/-- A word's bytes are that word, with nothing or white behind. -/
theorem named_one {l s : List UInt8} (h : named l s = true) (i : Nat) (hi : i < s.length) : byt l i = byt s i := by
  have hl := named_len h
  unfold named at h
  simp only [Bool.and_eq_true, decide_eq_true_eq] at h
  rw [← h.1, byt_take hi]
theorem word_cut {l m : List UInt8} {w : Wd} (h : word l = (w, 0)) (hm : Off m) : word (l.take w.x ++ m) = (w, 0) := by
  have hok := word_ok h
  have e0 : byt (l.take w.x ++ m) 0 = byt l 0 := byt_cut (by have := hok.2.1; omega) (by have := hok.2; omega)
  by_cases h0 : punct (byt l 0) = 0
  · by_cases h1 : byt l 0 = 34
    · cases ht : txt (l.drop 1) with
      | none => rw [word_t0 h1 ht] at h; cases h
      | some r =>
        obtain ⟨s, k⟩ := r
        rw [word_t h1 ht] at h
        simp only [Prod.mk.injEq, and_true] at h
        subst h
        have hk := txt_len _ _ (Nat.lt_succ_self _) ht
        rw [List.length_drop] at hk
        refine word_t (by rw [e0]; exact h1) ?_
        show txt ((l.take (k + 1) ++ m).drop 1) = _
        rw [drop_cut (by omega) (by omega)]
        exact txt_cut _ _ m (Nat.lt_succ_self _) ht (by omega) (by rw [List.length_drop]; omega)
    · by_cases h2 : byt l 0 = 45 ∨ isD (byt l 0) = true
      · rw [word_n h2] at h
        split at h
        · rename_i h3
          simp only [Prod.mk.injEq, and_true] at h
          subst h
          rw [word_n (by rw [e0]; exact h2)]
          show (if (num (l.take (num l).2.1 ++ m)).2.2 = 0 then _ else _) = _
          rw [num_cut h3 hm, if_pos h3]
        · rename_i h3
          simp only [Prod.mk.injEq] at h
          exact absurd h.2 h3
      · rw [word_l h0 h1 h2] at h
        rw [word_l (by rw [e0]; exact h0) (by rw [e0]; exact h1) (by rw [e0]; exact h2)]
        split at h
        · rename_i h3
          simp only [Prod.mk.injEq, and_true] at h
          subst h
          exact if_pos (named_cut (s := sT) h3 hm)
        · split at h
          · rename_i h3
            simp only [Prod.mk.injEq, and_true] at h
            subst h
            have b := named_one h3 0 (by decide)
            refine (if_neg ?_).trans (if_pos (named_cut (s := sF) h3 hm))
            intro hx
            have c := named_one hx 0 (by decide)
            rw [e0, b] at c
            exact absurd c (by decide)
          · split at h
            · rename_i h3
              simp only [Prod.mk.injEq, and_true] at h
              subst h
              have b := named_one h3 0 (by decide)
              refine (if_neg ?_).trans ((if_neg ?_).trans (if_pos (named_cut (s := sN) h3 hm)))
              · intro hx
                have c := named_one hx 0 (by decide)
                rw [e0, b] at c
                exact absurd c (by decide)
              · intro hx
                have c := named_one hx 0 (by decide)
                rw [e0, b] at c
                exact absurd c (by decide)
            · cases h
  · rw [word_p h0] at h
    simp only [Prod.mk.injEq, and_true] at h
    subst h
    rw [word_p (by rw [e0]; exact h0), e0]
/-- A word's first byte is not white. -/
theorem word_first {l : List UInt8} {w : Wd} (h : word l = (w, 0)) : isW (byt l 0) = false := by
  cases hw : isW (byt l 0) with
  | false => rfl
  | true =>
    rw [isW_is] at hw
    have p := punct_is (byt l 0)
    have d : ¬ (byt l 0 = 45 ∨ isD (byt l 0) = true) := by rw [isD_is]; omega
    rw [word_l (by omega) (by omega) d] at h
    have no : ∀ s : List UInt8, 0 < s.length → 97 ≤ byt s 0 → ¬ named l s = true := fun s a b c => by
      have := named_one c 0 a; omega
    rw [if_neg (no _ (by decide) (by decide)), if_neg (no _ (by decide) (by decide)), if_neg (no _ (by decide) (by decide))] at h
    cases h
end Go.Proofs.YtbogafecgakgiaaDoor.Jx
