/- Plain mathematics of layer 3: a character's bytes, and what stands at the beginning of a list of bytes. -/
import Derived.Laws.BitsLemmas
import Derived.Laws.BitsAllLaws
namespace Go.Proofs.YtnfhikgfcdcpoaaDoor.Num

/-- A character; how many bytes it has; its bytes. -/
def isC (c : Int) : Prop := 0 ≤ c ∧ c ≤ 1114111 ∧ (c < 55296 ∨ 57343 < c)
instance (c : Int) : Decidable (isC c) := by unfold isC; infer_instance
def need (c : Int) : Nat := if c < 0 ∨ 1114111 < c ∨ (55296 ≤ c ∧ c ≤ 57343) then 0 else if c < 128 then 1 else if c < 2048 then 2 else if c < 65536 then 3 else 4
def ue (c : Nat) : List UInt8 :=
  if c < 128 then [UInt8.ofNat c]
  else if c < 2048 then [UInt8.ofNat (192 + c / 64), UInt8.ofNat (128 + c % 64)]
  else if c < 65536 then [UInt8.ofNat (224 + c / 4096), UInt8.ofNat (128 + c / 64 % 64), UInt8.ofNat (128 + c % 64)]
  else [UInt8.ofNat (240 + c / 262144), UInt8.ofNat (128 + c / 4096 % 64), UInt8.ofNat (128 + c / 64 % 64), UInt8.ofNat (128 + c % 64)]
theorem ue_1 {c : Nat} (h : c < 128) : ue c = [UInt8.ofNat c] := by unfold ue; rw [if_pos h]
theorem ue_2 {c : Nat} (h : 128 ≤ c) (k : c < 2048) : ue c = [UInt8.ofNat (192 + c / 64), UInt8.ofNat (128 + c % 64)] := by unfold ue; rw [if_neg (by omega), if_pos k]
theorem ue_3 {c : Nat} (h : 2048 ≤ c) (k : c < 65536) : ue c = [UInt8.ofNat (224 + c / 4096), UInt8.ofNat (128 + c / 64 % 64), UInt8.ofNat (128 + c % 64)] := by
  unfold ue; rw [if_neg (by omega), if_neg (by omega), if_pos k]
theorem ue_4 {c : Nat} (h : 65536 ≤ c) : ue c = [UInt8.ofNat (240 + c / 262144), UInt8.ofNat (128 + c / 4096 % 64), UInt8.ofNat (128 + c / 64 % 64), UInt8.ofNat (128 + c % 64)] := by
  unfold ue; rw [if_neg (by omega), if_neg (by omega), if_neg (by omega)]
theorem nat8 {n : Nat} (h : n < 256) : (UInt8.ofNat n).toNat = n := UInt8.toNat_ofNat_of_lt' h
theorem of8 (x : UInt8) : UInt8.ofNat x.toNat = x := by simp
theorem ue_len (c : Nat) : 1 ≤ (ue c).length ∧ (ue c).length ≤ 4 := by
  unfold ue; split
  · simp
  · split
    · simp
    · split <;> simp
theorem need_ue {c : Nat} (h : isC (c : Int)) : need (c : Int) = (ue c).length := by
  unfold isC at h
  unfold need ue
  rw [if_neg (by omega)]
  by_cases h1 : c < 128
  · rw [if_pos (by omega), if_pos h1]; rfl
  · rw [if_neg (by omega), if_neg h1]
    by_cases h2 : c < 2048
    · rw [if_pos (by omega), if_pos h2]; rfl
    · rw [if_neg (by omega), if_neg h2]
      by_cases h3 : c < 65536
      · rw [if_pos (by omega), if_pos h3]; rfl
      · rw [if_neg (by omega), if_neg h3]; rfl
theorem need_0 {c : Int} (h : ¬ isC c) : need c = 0 := by unfold isC at h; unfold need; rw [if_pos (by omega)]

/-- How many bytes a first byte asks for; its mark; the least and the greatest second one. -/
def ask (x : Nat) : Nat := if 244 < x then 0 else if 240 ≤ x then 4 else if 224 ≤ x then 3 else if 194 ≤ x then 2 else if x < 128 then 1 else 0
def mark : Nat → Nat
  | 2 => 192
  | 3 => 224
  | 4 => 240
  | _ => 0
def lo (x : Nat) : Nat := if x = 224 then 160 else if x = 240 then 144 else 128
def hi (x : Nat) : Nat := if x = 237 then 159 else if x = 244 then 143 else 191
theorem ask_is (x : Nat) : (ask x = 0 ∧ (244 < x ∨ (128 ≤ x ∧ x < 194))) ∨ (ask x = 1 ∧ x < 128) ∨ (ask x = 2 ∧ 194 ≤ x ∧ x < 224) ∨ (ask x = 3 ∧ 224 ≤ x ∧ x < 240) ∨ (ask x = 4 ∧ 240 ≤ x ∧ x ≤ 244) := by
  unfold ask; split
  · omega
  · split
    · omega
    · split
      · omega
      · split
        · omega
        · split <;> omega
theorem lo_is (x : Nat) : (x = 224 ∧ lo x = 160) ∨ (x = 240 ∧ lo x = 144) ∨ (x ≠ 224 ∧ x ≠ 240 ∧ lo x = 128) := by
  unfold lo; split
  · omega
  · split <;> omega
theorem hi_is (x : Nat) : (x = 237 ∧ hi x = 159) ∨ (x = 244 ∧ hi x = 143) ∨ (x ≠ 237 ∧ x ≠ 244 ∧ hi x = 191) := by
  unfold hi; split
  · omega
  · split <;> omega

/-- k bytes more: the next one from f to t, those behind it any that hold digits. -/
def more : Nat → Nat → Nat → Nat → Nat → List UInt8 → Nat × Nat × Nat
  | 0, _, _, a, s, _ => (a, s, 0)
  | _ + 1, _, _, _, _, [] => (0, 0, 10)
  | k + 1, f, t, a, s, y :: r => if y.toNat < f ∨ t < y.toNat then (0, 0, 11) else more k 128 191 (a * 64 + (y.toNat - 128)) s r
/-- What stands first: the character, how many bytes it has, the error. -/
def fst : List UInt8 → Nat × Nat × Nat
  | [] => (0, 0, 10)
  | x :: r => if ask x.toNat = 0 then (0, 0, 11) else more (ask x.toNat - 1) (lo x.toNat) (hi x.toNat) (x.toNat - mark (ask x.toNat)) (ask x.toNat) r
theorem fst_cons (x : UInt8) (r : List UInt8) : fst (x :: r) = if ask x.toNat = 0 then (0, 0, 11) else more (ask x.toNat - 1) (lo x.toNat) (hi x.toNat) (x.toNat - mark (ask x.toNat)) (ask x.toNat) r := rfl
theorem more_cons (k f t a s : Nat) (y : UInt8) (r : List UInt8) : more (k + 1) f t a s (y :: r) = if y.toNat < f ∨ t < y.toNat then (0, 0, 11) else more k 128 191 (a * 64 + (y.toNat - 128)) s r := rfl
theorem more_zero (f t a s : Nat) (l : List UInt8) : more 0 f t a s l = (a, s, 0) := rfl
theorem more_nil {k f t a s : Nat} (h : 0 < k) : more k f t a s [] = (0, 0, 10) := by
  obtain ⟨j, rfl⟩ : ∃ j, k = j + 1 := ⟨k - 1, by omega⟩
  rfl
theorem more_bad {k f t a s : Nat} {y : UInt8} {r : List UInt8} (h : 0 < k) (hy : y.toNat < f ∨ t < y.toNat) : more k f t a s (y :: r) = (0, 0, 11) := by
  obtain ⟨j, rfl⟩ : ∃ j, k = j + 1 := ⟨k - 1, by omega⟩
  rw [more_cons, if_pos hy]
theorem more_go {k f t a s : Nat} {y : UInt8} {r : List UInt8} (h : 0 < k) (h1 : f ≤ y.toNat) (h2 : y.toNat ≤ t) : more k f t a s (y :: r) = more (k - 1) 128 191 (a * 64 + (y.toNat - 128)) s r := by
  obtain ⟨j, rfl⟩ : ∃ j, k = j + 1 := ⟨k - 1, by omega⟩
  rw [more_cons, if_neg (by omega)]; rfl
/-- The same, at a place within a list. -/
theorem more_end {l : List UInt8} {p k f t a s : Nat} (h : 0 < k) (hp : p = l.length) : more k f t a s (l.drop p) = (0, 0, 10) := by
  rw [List.drop_eq_nil_of_le (by omega), more_nil h]
theorem drop_at {l : List UInt8} {p : Nat} (h : p < l.length) : l.drop p = l.getD p 0 :: l.drop (p + 1) := by
  rw [List.drop_eq_getElem_cons h]; simp [List.getD, List.getElem?_eq_getElem h]
theorem more_bad_at {l : List UInt8} {p k f t a s X : Nat} (h : 0 < k) (hp : p < l.length) (hX : X = (l.getD p 0).toNat) (hy : X < f ∨ t < X) : more k f t a s (l.drop p) = (0, 0, 11) := by
  rw [drop_at hp]; exact more_bad h (by omega)
theorem more_go_at {l : List UInt8} {p k f t a s X : Nat} (h : 0 < k) (hp : p < l.length) (hX : X = (l.getD p 0).toNat) (h1 : f ≤ X) (h2 : X ≤ t) : more k f t a s (l.drop p) = more (k - 1) 128 191 (a * 64 + (X - 128)) s (l.drop (p + 1)) := by
  rw [drop_at hp, more_go h (by omega) (by omega), ← hX]

theorem more_err : ∀ (k f t a s : Nat) (l : List UInt8), (∃ c, more k f t a s l = (c, s, 0) ∧ k ≤ l.length) ∨ (more k f t a s l = (0, 0, 10) ∧ l.length < k) ∨ more k f t a s l = (0, 0, 11)
  | 0, _, _, a, _, l => .inl ⟨a, rfl, Nat.zero_le _⟩
  | _ + 1, _, _, _, _, [] => .inr (.inl ⟨rfl, by simp⟩)
  | k + 1, f, t, a, s, y :: r => by
    rw [more_cons]
    split
    · exact .inr (.inr rfl)
    · rcases more_err k 128 191 (a * 64 + (y.toNat - 128)) s r with ⟨c, h, hl⟩ | ⟨h, hl⟩ | h
      · exact .inl ⟨c, h, by simp; omega⟩
      · exact .inr (.inl ⟨h, by simp; omega⟩)
      · exact .inr (.inr h)
theorem fst_err (l : List UInt8) : (∃ c n, fst l = (c, n, 0) ∧ 0 < n ∧ n ≤ 4 ∧ n ≤ l.length) ∨ (fst l = (0, 0, 10) ∧ l.length < 4) ∨ fst l = (0, 0, 11) := by
  cases l with
  | nil => exact .inr (.inl ⟨rfl, by simp⟩)
  | cons x r =>
    rw [fst_cons]
    have a := ask_is x.toNat
    split
    · exact .inr (.inr rfl)
    · rcases more_err (ask x.toNat - 1) (lo x.toNat) (hi x.toNat) (x.toNat - mark (ask x.toNat)) (ask x.toNat) r with ⟨c, h, hl⟩ | ⟨h, hl⟩ | h
      · exact .inl ⟨c, _, h, by omega, by omega, by simp; omega⟩
      · exact .inr (.inl ⟨h, by simp; omega⟩)
      · exact .inr (.inr h)
theorem more_app : ∀ (k f t a s : Nat) (l m : List UInt8) {c n : Nat}, more k f t a s l = (c, n, 0) → more k f t a s (l ++ m) = (c, n, 0)
  | 0, _, _, _, _, _, _, _, _, h => h
  | _ + 1, _, _, _, _, [], _, _, _, h => by simp [more] at h
  | k + 1, f, t, a, s, y :: r, m, c, n, h => by
    rw [more_cons] at h
    rw [List.cons_append, more_cons]
    split at h
    · simp at h
    · rename_i g
      rw [if_neg g]
      exact more_app k _ _ _ _ r m h
theorem fst_app {l : List UInt8} (m : List UInt8) {c n : Nat} (h : fst l = (c, n, 0)) : fst (l ++ m) = (c, n, 0) := by
  cases l with
  | nil => simp [fst] at h
  | cons x r =>
    rw [fst_cons] at h
    rw [List.cons_append, fst_cons]
    split at h
    · simp at h
    · rename_i g
      rw [if_neg g]
      exact more_app _ _ _ _ _ r m h
theorem more_cut : ∀ (k f t a s : Nat) (l m : List UInt8) {c n : Nat}, more k f t a s (l ++ m) = (c, n, 0) → l.length < k → more k f t a s l = (0, 0, 10)
  | 0, _, _, _, _, _, _, _, _, _, h => absurd h (by omega)
  | _ + 1, _, _, _, _, [], _, _, _, _, _ => rfl
  | k + 1, f, t, a, s, y :: r, m, c, n, h, hl => by
    rw [List.cons_append] at h
    rw [more_cons] at h ⊢
    split at h
    · simp at h
    · rename_i g
      rw [if_neg g]
      exact more_cut k _ _ _ _ r m h (by simp at hl; omega)
/-- What begins a character's bytes, and is less, ends too soon. -/
theorem fst_cut {l m : List UInt8} {c n : Nat} (h : fst (l ++ m) = (c, n, 0)) (hn : l.length < n) : fst l = (0, 0, 10) := by
  cases l with
  | nil => rfl
  | cons x r =>
    rw [List.cons_append] at h
    rw [fst_cons] at h ⊢
    split at h
    · simp at h
    · rename_i g
      rw [if_neg g]
      have e : n = ask x.toNat := by
        rcases more_err (ask x.toNat - 1) (lo x.toNat) (hi x.toNat) (x.toNat - mark (ask x.toNat)) (ask x.toNat) (r ++ m) with ⟨c, h2, _⟩ | ⟨h2, _⟩ | h2
        · rw [h2] at h; simp only [Prod.mk.injEq] at h; omega
        · rw [h2] at h; simp at h
        · rw [h2] at h; simp at h
      exact more_cut _ _ _ _ _ r m h (by simp at hn; omega)
theorem more_fill : ∀ (k a s : Nat) (l m : List UInt8), more k 128 191 a s l = (0, 0, 10) → (∀ y ∈ m, 128 ≤ y.toNat ∧ y.toNat ≤ 191) → k ≤ l.length + m.length → ∃ c, more k 128 191 a s (l ++ m) = (c, s, 0)
  | 0, a, s, _, _, _, _, _ => ⟨a, rfl⟩
  | k + 1, a, s, [], [], _, _, hk => absurd hk (by simp)
  | k + 1, a, s, [], y :: m, _, hm, hk => by
    have h1 := hm y (by simp)
    rw [List.nil_append, more_go (by omega) h1.1 h1.2]
    cases k with
    | zero => exact ⟨_, rfl⟩
    | succ k =>
      have := more_fill (k + 1) (a * 64 + (y.toNat - 128)) s [] m (more_nil (by omega)) (fun z hz => hm z (by simp [hz])) (by simp at hk ⊢; omega)
      simpa using this
  | k + 1, a, s, y :: r, m, h, hm, hk => by
    rw [List.cons_append]
    rw [more_cons] at h ⊢
    split at h
    · simp at h
    · rename_i g
      rw [if_neg g]
      exact more_fill k _ s r m h hm (by simp at hk; omega)
/-- The document's fillings. -/
def fills : List (List UInt8) := [[128, 128, 128], [191, 191, 191], [160, 128, 128], [144, 128, 128], [143, 191, 191], [159, 191, 191]]
theorem fst_fill {l : List UInt8} (h : fst l = (0, 0, 10)) (hl : l ≠ []) : ∃ j, j < 6 ∧ ∃ c n, fst (l ++ fills.getD j []) = (c, n, 0) ∧ l.length < n := by
  cases l with
  | nil => exact absurd rfl hl
  | cons x r =>
    rw [fst_cons] at h
    split at h
    · simp at h
    · rename_i g
      have aa := ask_is x.toNat
      have len : r.length < ask x.toNat - 1 := by
        rcases more_err (ask x.toNat - 1) (lo x.toNat) (hi x.toNat) (x.toNat - mark (ask x.toNat)) (ask x.toNat) r with ⟨c, h2, _⟩ | ⟨h2, h3⟩ | h2
        · rw [h2] at h; simp at h
        · exact h3
        · rw [h2] at h; simp at h
      have key : ∃ j, j < 6 ∧ ∃ c, more (ask x.toNat - 1) (lo x.toNat) (hi x.toNat) (x.toNat - mark (ask x.toNat)) (ask x.toNat) (r ++ fills.getD j []) = (c, ask x.toNat, 0) := by
        cases r with
        | nil =>
          have l1 := lo_is x.toNat
          have h1 := hi_is x.toNat
          simp only [List.nil_append]
          obtain ⟨k, hk⟩ : ∃ k, ask x.toNat - 1 = k + 1 := ⟨ask x.toNat - 2, by simp at len; omega⟩
          rw [hk]
          have step : ∀ (y : UInt8) (m : List UInt8), lo x.toNat ≤ y.toNat → y.toNat ≤ hi x.toNat → m.length = 2 → (∀ z ∈ m, 128 ≤ z.toNat ∧ z.toNat ≤ 191) → ∃ c, more (k + 1) (lo x.toNat) (hi x.toNat) (x.toNat - mark (ask x.toNat)) (ask x.toNat) (y :: m) = (c, ask x.toNat, 0) := by
            intro y m h1 h2 h3 h4
            rw [more_go (by omega) h1 h2]
            cases k with
            | zero => exact ⟨_, rfl⟩
            | succ k =>
              have := more_fill (k + 1) ((x.toNat - mark (ask x.toNat)) * 64 + (y.toNat - 128)) (ask x.toNat) [] m (more_nil (by omega)) h4 (by simp; omega)
              simpa using this
          rcases l1 with ⟨e1, e2⟩ | ⟨e1, e2⟩ | ⟨_, _, e2⟩
          · exact ⟨2, by omega, step 160 [128, 128] (by rw [e2]; decide) (by rcases h1 with h1 | h1 | h1 <;> (have : (160 : UInt8).toNat = 160 := rfl; omega)) rfl (by decide)⟩
          · exact ⟨3, by omega, step 144 [128, 128] (by rw [e2]; decide) (by rcases h1 with h1 | h1 | h1 <;> (have : (144 : UInt8).toNat = 144 := rfl; omega)) rfl (by decide)⟩
          · exact ⟨0, by omega, step 128 [128, 128] (by rw [e2]; decide) (by rcases h1 with h1 | h1 | h1 <;> (have : (128 : UInt8).toNat = 128 := rfl; omega)) rfl (by decide)⟩
        | cons y r =>
          refine ⟨0, by omega, ?_⟩
          obtain ⟨k, hk⟩ : ∃ k, ask x.toNat - 1 = k + 1 := ⟨ask x.toNat - 2, by simp at len; omega⟩
          rw [hk] at h ⊢
          rw [List.cons_append]
          rw [more_cons] at h ⊢
          split at h
          · simp at h
          · rename_i g
            rw [if_neg g]
            exact more_fill k _ _ r _ h (by decide) (by show k ≤ r.length + 3; omega)
      obtain ⟨j, hj, c, hc⟩ := key
      refine ⟨j, hj, c, ask x.toNat, ?_, by simp; omega⟩
      rw [List.cons_append]
      rw [fst_cons, if_neg g]
      exact hc

/-- What is put is taken. -/
theorem fst_ue {c : Nat} (h : isC (c : Int)) (r : List UInt8) : fst (ue c ++ r) = (c, (ue c).length, 0) := by
  unfold isC at h
  by_cases h1 : c < 128
  · rw [ue_1 h1]
    have e := nat8 (n := c) (by omega)
    have a := ask_is c
    show fst (UInt8.ofNat c :: r) = _
    rw [fst_cons, e, if_neg (by omega), show ask c - 1 = 0 by omega]
    show (c - mark (ask c), ask c, 0) = (c, 1, 0)
    rw [show ask c = 1 by omega]
    simp [mark]
  · by_cases h2 : c < 2048
    · rw [ue_2 (by omega) h2]
      have e := nat8 (n := 192 + c / 64) (by omega)
      have e2 := nat8 (n := 128 + c % 64) (by omega)
      have a := ask_is (192 + c / 64)
      have b1 := lo_is (192 + c / 64)
      have b2 := hi_is (192 + c / 64)
      show fst (UInt8.ofNat (192 + c / 64) :: UInt8.ofNat (128 + c % 64) :: r) = _
      rw [fst_cons, e, if_neg (by omega), show ask (192 + c / 64) = 2 by omega, more_go (by omega) (by omega) (by omega), e2, show 2 - 1 - 1 = 0 from rfl, more_zero]
      simp only [mark, List.length_cons, List.length_nil]
      simp only [Prod.mk.injEq, and_true]
      omega
    · by_cases h3 : c < 65536
      · rw [ue_3 (by omega) h3]
        have e := nat8 (n := 224 + c / 4096) (by omega)
        have e2 := nat8 (n := 128 + c / 64 % 64) (by omega)
        have e3 := nat8 (n := 128 + c % 64) (by omega)
        have a := ask_is (224 + c / 4096)
        have b1 := lo_is (224 + c / 4096)
        have b2 := hi_is (224 + c / 4096)
        show fst (UInt8.ofNat (224 + c / 4096) :: UInt8.ofNat (128 + c / 64 % 64) :: UInt8.ofNat (128 + c % 64) :: r) = _
        rw [fst_cons, e, if_neg (by omega), show ask (224 + c / 4096) = 3 by omega, more_go (by omega) (by omega) (by omega), e2, more_go (by omega) (by omega) (by omega), e3, show 3 - 1 - 1 - 1 = 0 from rfl, more_zero]
        simp only [mark, List.length_cons, List.length_nil]
        simp only [Prod.mk.injEq, and_true]
        omega
      · rw [ue_4 (by omega)]
        have e := nat8 (n := 240 + c / 262144) (by omega)
        have e2 := nat8 (n := 128 + c / 4096 % 64) (by omega)
        have e3 := nat8 (n := 128 + c / 64 % 64) (by omega)
        have e4 := nat8 (n := 128 + c % 64) (by omega)
        have a := ask_is (240 + c / 262144)
        have b1 := lo_is (240 + c / 262144)
        have b2 := hi_is (240 + c / 262144)
        show fst (UInt8.ofNat (240 + c / 262144) :: UInt8.ofNat (128 + c / 4096 % 64) :: UInt8.ofNat (128 + c / 64 % 64) :: UInt8.ofNat (128 + c % 64) :: r) = _
        rw [fst_cons, e, if_neg (by omega), show ask (240 + c / 262144) = 4 by omega, more_go (by omega) (by omega) (by omega), e2, more_go (by omega) (by omega) (by omega), e3, more_go (by omega) (by omega) (by omega), e4, show 4 - 1 - 1 - 1 - 1 = 0 from rfl, more_zero]
        simp only [mark, List.length_cons, List.length_nil]
        simp only [Prod.mk.injEq, and_true]
        omega

/-- The number that n bytes' digits are, as the document reckons it. -/
def csum (n : Nat) (l : List UInt8) : Int :=
  let x : Nat → Int := fun i => (((l.getD i 0).toNat : Nat) : Int)
  match n with
  | 1 => x 0
  | 2 => (x 0 - 192) * 64 + (x 1 - 128)
  | 3 => (x 0 - 224) * 4096 + (x 1 - 128) * 64 + (x 2 - 128)
  | _ => (x 0 - 240) * 262144 + (x 1 - 128) * 4096 + (x 2 - 128) * 64 + (x 3 - 128)
theorem of8_eq {x : UInt8} {n : Nat} (h : x.toNat = n) : UInt8.ofNat n = x := by rw [← h]; simp
/-- What is taken is a character, and has just its bytes. -/
theorem ue_fst {l : List UInt8} {c n : Nat} (h : fst l = (c, n, 0)) : isC (c : Int) ∧ ue c = l.take n ∧ csum n l = (c : Int) := by
  cases l with
  | nil => simp [fst] at h
  | cons x l =>
    rw [fst_cons] at h
    have a := ask_is x.toNat
    have b1 := lo_is x.toNat
    have b2 := hi_is x.toNat
    rcases a with ⟨a1, a2⟩ | ⟨a1, a2⟩ | ⟨a1, a2⟩ | ⟨a1, a2⟩ | ⟨a1, a2⟩
    · rw [a1, if_pos rfl] at h; simp at h
    · rw [a1, if_neg (by omega), show 1 - 1 = 0 from rfl, more_zero, show mark 1 = 0 from rfl] at h
      simp only [Prod.mk.injEq, and_true, Nat.sub_zero] at h
      obtain ⟨rfl, rfl⟩ := h
      refine ⟨by unfold isC; omega, ?_, ?_⟩
      · rw [ue_1 a2]; simp
      · simp [csum]
    · rw [a1, if_neg (by omega), show 2 - 1 = 0 + 1 from rfl, show mark 2 = 192 from rfl] at h
      match l with
      | [] => rw [more_nil (by omega)] at h; simp at h
      | y :: l =>
        rw [more_cons, more_zero] at h
        split at h
        · simp at h
        · rename_i g
          simp only [Prod.mk.injEq, and_true] at h
          obtain ⟨rfl, rfl⟩ := h
          have e1 : (x.toNat - 192) * 64 + (y.toNat - 128) < 2048 := by omega
          refine ⟨by unfold isC; omega, ?_, ?_⟩
          · rw [ue_2 (by omega) e1]
            simp only [List.take_succ_cons, List.take_zero]
            rw [of8_eq (x := x) (by omega), of8_eq (x := y) (by omega)]
          · simp only [csum, List.getD_cons_zero, List.getD_cons_succ]; omega
    · rw [a1, if_neg (by omega), show 3 - 1 = 0 + 1 + 1 from rfl, show mark 3 = 224 from rfl] at h
      match l with
      | [] => rw [more_nil (by omega)] at h; simp at h
      | y :: l =>
        rw [more_cons] at h
        split at h
        · simp at h
        · rename_i g
          match l with
          | [] => rw [more_nil (by omega)] at h; simp at h
          | z :: l =>
            rw [more_cons, more_zero] at h
            split at h
            · simp at h
            · rename_i g2
              simp only [Prod.mk.injEq, and_true] at h
              obtain ⟨rfl, rfl⟩ := h
              have e1 : ((x.toNat - 224) * 64 + (y.toNat - 128)) * 64 + (z.toNat - 128) < 65536 := by omega
              refine ⟨by unfold isC; omega, ?_, ?_⟩
              · rw [ue_3 (by omega) e1]
                simp only [List.take_succ_cons, List.take_zero]
                rw [of8_eq (x := x) (by omega), of8_eq (x := y) (by omega), of8_eq (x := z) (by omega)]
              · simp only [csum, List.getD_cons_zero, List.getD_cons_succ]; omega
    · rw [a1, if_neg (by omega), show 4 - 1 = 0 + 1 + 1 + 1 from rfl, show mark 4 = 240 from rfl] at h
      match l with
      | [] => rw [more_nil (by omega)] at h; simp at h
      | y :: l =>
        rw [more_cons] at h
        split at h
        · simp at h
        · rename_i g
          match l with
          | [] => rw [more_nil (by omega)] at h; simp at h
          | z :: l =>
            rw [more_cons] at h
            split at h
            · simp at h
            · rename_i g2
              match l with
              | [] => rw [more_nil (by omega)] at h; simp at h
              | u :: l =>
                rw [more_cons, more_zero] at h
                split at h
                · simp at h
                · rename_i g3
                  simp only [Prod.mk.injEq, and_true] at h
                  obtain ⟨rfl, rfl⟩ := h
                  refine ⟨by unfold isC; omega, ?_, ?_⟩
                  · rw [ue_4 (by omega)]
                    simp only [List.take_succ_cons, List.take_zero]
                    rw [of8_eq (x := x) (by omega), of8_eq (x := y) (by omega), of8_eq (x := z) (by omega), of8_eq (x := u) (by omega)]
                  · simp only [csum, List.getD_cons_zero, List.getD_cons_succ]; omega

/-- What is put, read as the document reads it. -/
def okAt (n : Nat) (l : List UInt8) : Prop := isC (csum n l) ∧ (ue (csum n l).toNat).length = n ∧ ue (csum n l).toNat = l.take n
theorem okAt_fst {n : Nat} {l : List UInt8} (h : okAt n l) : fst l = ((csum n l).toNat, n, 0) := by
  obtain ⟨h1, h2, h3⟩ := h
  have h0 : 0 ≤ csum n l := h1.1
  have e : ((csum n l).toNat : Int) = csum n l := by omega
  have := fst_ue (c := (csum n l).toNat) (by rw [e]; exact h1) (l.drop n)
  rw [h3, List.take_append_drop, ← h3, h2] at this
  exact this
theorem fst_okAt {n c : Nat} {l : List UInt8} (h : fst l = (c, n, 0)) : okAt n l := by
  obtain ⟨h1, h2, h3⟩ := ue_fst h
  have h4 : n ≤ l.length := by
    rcases fst_err l with ⟨c', n', e, _, _, hl⟩ | ⟨e, _⟩ | e
    · rw [h] at e; simp only [Prod.mk.injEq] at e; omega
    · rw [h] at e; simp at e
    · rw [h] at e; simp at e
  refine ⟨by rw [h3]; exact h1, ?_, ?_⟩
  · rw [h3, Int.toNat_natCast, h2, List.length_take]; omega
  · rw [h3, Int.toNat_natCast, h2]
/-- Which character stands first, -1: none. -/
def wh (l : List UInt8) : Int := if (fst l).2.2 = 0 then ((fst l).1 : Int) else -1
theorem wh_ok {l : List UInt8} {n : Nat} (h : okAt n l) : wh l = csum n l := by
  have := okAt_fst h
  have h0 : 0 ≤ csum n l := h.1.1
  unfold wh; rw [this, if_pos rfl]; show ((csum n l).toNat : Int) = _; omega
theorem wh_none {l : List UInt8} (h : ∀ n, 1 ≤ n → n ≤ 4 → n ≤ l.length → ¬ okAt n l) : wh l = -1 := by
  unfold wh
  rcases fst_err l with ⟨c, n, e, h1, h2, h3⟩ | ⟨e, _⟩ | e
  · exact absurd (fst_okAt e) (h n h1 h2 h3)
  · rw [e]; rfl
  · rw [e]; rfl

/-- How many characters bytes are. -/
def cU (l : List UInt8) : Option Nat :=
  if h : l = [] then some 0
  else if h2 : (fst l).2.2 = 0 then (cU (l.drop (fst l).2.1)).map (· + 1)
  else none
termination_by l.length
decreasing_by
  rcases fst_err l with ⟨c, n, e, h1, h3, h4⟩ | ⟨e, _⟩ | e
  · rw [e]; simp; omega
  · rw [e] at h2; simp at h2
  · rw [e] at h2; simp at h2
theorem cU_nil : cU [] = some 0 := by rw [cU]; simp
theorem cU_go {l : List UInt8} {c n : Nat} (h : fst l = (c, n, 0)) : cU l = (cU (l.drop n)).map (· + 1) := by
  rw [cU, dif_neg (by intro e; subst e; simp [fst] at h), dif_pos (by rw [h]), h]
theorem cU_bad {l : List UInt8} (hl : l ≠ []) (h : (fst l).2.2 ≠ 0) : cU l = none := by
  rw [cU, dif_neg hl, dif_neg h]
theorem cU_app : ∀ (k : Nat) (a b : List UInt8) (n : Nat), a.length ≤ k → cU a = some n → cU (a ++ b) = (cU b).map (· + n)
  | k, [], b, n, _, h => by
    rw [cU_nil] at h
    simp only [Option.some.injEq] at h
    subst h; simp
  | 0, x :: a, b, n, hk, _ => by simp at hk
  | k + 1, x :: a, b, n, hk, h => by
    rcases fst_err (x :: a) with ⟨c, m, e, h1, h3, h4⟩ | ⟨e, _⟩ | e
    · rw [cU_go e] at h
      obtain ⟨i, hi, hn⟩ := Option.map_eq_some_iff.1 h
      have ih := cU_app k ((x :: a).drop m) b i (by simp at hk ⊢; omega) hi
      rw [cU_go (fst_app b e), show (x :: a ++ b).drop m = (x :: a).drop m ++ b by rw [List.drop_append_of_le_length h4], ih, Option.map_map]
      congr 1
      funext j
      simp; omega
    · rw [cU_bad (by simp) (by rw [e]; simp)] at h; simp at h
    · rw [cU_bad (by simp) (by rw [e]; simp)] at h; simp at h
theorem cU_le : ∀ (k : Nat) (l : List UInt8) (n : Nat), l.length ≤ k → cU l = some n → n ≤ l.length
  | k, [], n, _, h => by
    rw [cU_nil] at h
    simp only [Option.some.injEq] at h
    omega
  | 0, x :: a, n, hk, _ => by simp at hk
  | k + 1, x :: a, n, hk, h => by
    rcases fst_err (x :: a) with ⟨c, m, e, h1, h3, h4⟩ | ⟨e, _⟩ | e
    · rw [cU_go e] at h
      obtain ⟨i, hi, hn⟩ := Option.map_eq_some_iff.1 h
      have ih := cU_le k ((x :: a).drop m) i (by simp at hk ⊢; omega) hi
      simp at ih hk ⊢; omega
    · rw [cU_bad (by simp) (by rw [e]; simp)] at h; simp at h
    · rw [cU_bad (by simp) (by rw [e]; simp)] at h; simp at h

/-! The machine's words. -/
theorem or_64 {a y : Nat} (ha : a < 33554432) (hy : y < 64) : bits .or .i32 ((a : Int) * 64) (y : Int) = ((a * 64 + y : Nat) : Int) := by
  rw [i32_or6 _ _ (by omega) (by omega) (by omega) (by omega) (by omega)]; omega
theorem wrap8 {q : Int} (h0 : 0 ≤ q) (h1 : q < 256) : IntKind.u8.wrap q = q := by rw [IntKind.wrap_u8]; omega
theorem lead_1 {q : Int} (h0 : 0 ≤ q) (h1 : q < 128) : bits .or .u8 0 (IntKind.u8.wrap q) = q := by
  rw [wrap8 h0 (by omega)]
  obtain ⟨n, rfl⟩ := Int.eq_ofNat_of_zero_le h0
  have := u8_or_nat 0 n (by decide) (by omega)
  simpa using this
theorem lead_2 {q : Int} (h0 : 0 ≤ q) (h1 : q < 32) : bits .or .u8 192 (IntKind.u8.wrap q) = 192 + q := by rw [wrap8 h0 (by omega)]; exact u8_or192 q h0 h1
theorem lead_3 {q : Int} (h0 : 0 ≤ q) (h1 : q < 16) : bits .or .u8 224 (IntKind.u8.wrap q) = 224 + q := by rw [wrap8 h0 (by omega)]; exact u8_or224 q h0 h1
theorem lead_4 {q : Int} (h0 : 0 ≤ q) (h1 : q < 8) : bits .or .u8 240 (IntKind.u8.wrap q) = 240 + q := by rw [wrap8 h0 (by omega)]; exact u8_or240 q h0 h1
theorem tail_8 (q : Int) : bits .or .u8 128 (bits .and .u8 (q % 256) 63) = 128 + q % 64 := by
  rw [u8_and63 _ (by omega) (by omega), u8_or128 _ (by omega) (by omega)]; omega
set_option maxRecDepth 100000 in
theorem or_128_63 : ∀ x : Fin 256, (128 ||| (x.val &&& 63)) = 128 + x.val % 64 := by decide
end Go.Proofs.YtnfhikgfcdcpoaaDoor.Num
