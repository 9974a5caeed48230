/- Plain mathematics of layer 9: names. -/
import Derived.Test.YtnfhikgfcdcpoaaDoorJNum
namespace Go.Proofs.YtnfhikgfcdcpoaaDoor.Nm
open Jx

/-- May a byte begin a name? -/
def lt (c : Nat) : Bool := decide ((97 ≤ c ∧ c ≤ 122) ∨ (65 ≤ c ∧ c ≤ 90) ∨ c = 95)
def ch (c : Nat) : Bool := lt c || isD c
/-- Do the bytes from a place on, up to another, go on a name? -/
def chs (l : List UInt8) : Bool := l.all fun x => ch x.toNat
def simple (l : List UInt8) : Bool := decide (l.length ≠ 0) && decide (l.length ≤ 100) && lt (byt l 0) && chs l
/-- The place of the last dot ahead of a place; -1. -/
def dotN : Nat → List UInt8 → Int
  | 0, _ => -1
  | i + 1, l => if byt l i = 46 then (i : Int) else dotN i l
def dot (l : List UInt8) : Int := dotN l.length l
theorem dotN_lt : ∀ (i : Nat) (l : List UInt8), -1 ≤ dotN i l ∧ dotN i l < (i : Int)
  | 0, l => by simp [dotN]
  | i + 1, l => by
    unfold dotN
    have := dotN_lt i l
    split <;> omega
theorem dotN_at : ∀ (i : Nat) (l : List UInt8) (k : Nat), dotN i l = (k : Int) → byt l k = 46 ∧ ∀ j, k < j → j < i → byt l j ≠ 46
  | 0, l, k, h => by unfold dotN at h; omega
  | i + 1, l, k, h => by
    unfold dotN at h
    split at h
    · rename_i h1
      obtain rfl : i = k := by omega
      exact ⟨h1, fun j a b => by omega⟩
    · rename_i h1
      have ih := dotN_at i l k h
      refine ⟨ih.1, fun j a b => ?_⟩
      rcases Nat.lt_or_ge j i with g | g
      · exact ih.2 j a g
      · obtain rfl : j = i := by omega
        exact h1
theorem dotN_no : ∀ (i : Nat) (l : List UInt8), dotN i l < 0 → ∀ j, j < i → byt l j ≠ 46
  | 0, l, _, j, hj => absurd hj (Nat.not_lt_zero _)
  | i + 1, l, h, j, hj => by
    unfold dotN at h
    split at h
    · omega
    · rename_i h1
      rcases Nat.lt_or_ge j i with g | g
      · exact dotN_no i l h j g
      · obtain rfl : j = i := by omega
        exact h1
theorem dotN_none : ∀ (i : Nat) (l : List UInt8), (∀ j, j < i → byt l j ≠ 46) → dotN i l = -1
  | 0, _, _ => rfl
  | i + 1, l, h => by
    unfold dotN
    rw [if_neg (h i (by omega)), dotN_none i l (fun j hj => h j (by omega))]
theorem dot_lt (l : List UInt8) : -1 ≤ dot l ∧ dot l < (l.length : Int) := dotN_lt _ l
theorem dot_place {l : List UInt8} (h : 0 ≤ dot l) : ∃ k : Nat, dot l = (k : Int) ∧ k < l.length ∧ byt l k = 46 ∧ ∀ j, k < j → j < l.length → byt l j ≠ 46 := by
  obtain ⟨k, hk⟩ : ∃ k : Nat, dot l = (k : Int) := ⟨(dot l).toNat, by omega⟩
  have := dot_lt l
  have a := dotN_at l.length l k hk
  exact ⟨k, hk, by omega, a.1, a.2⟩
/-- A full name. -/
def fullF : Nat → List UInt8 → Bool
  | 0, _ => false
  | f + 1, l => if 0 ≤ dot l then simple (l.drop (dot l + 1).toNat) && fullF f (l.take (dot l).toNat) else simple l
def full (l : List UInt8) : Bool := decide (l.length ≤ 100) && fullF (l.length + 1) l
def space (l : List UInt8) : List UInt8 := if dot l < 0 then [] else l.take (dot l).toNat
def last (l : List UInt8) : List UInt8 := l.drop (dot l + 1).toNat
/-- A name in a space. -/
def join (s n : List UInt8) : Option (List UInt8) :=
  if dot n < 0 then
    if simple n = true then
      if full (if s ≠ [] then s ++ 46 :: n else n) = true then some (if s ≠ [] then s ++ 46 :: n else n) else none
    else none
  else if full n = true then some n else none
theorem fullF_fuel : ∀ (f g : Nat) (l : List UInt8), l.length < f → l.length < g → fullF f l = fullF g l
  | 0, _, _, h, _ => absurd h (Nat.not_lt_zero _)
  | _ + 1, 0, _, _, h => absurd h (Nat.not_lt_zero _)
  | f + 1, g + 1, l, h1, h2 => by
    unfold fullF
    split
    · rename_i h
      have := dot_lt l
      rw [fullF_fuel f g (l.take (dot l).toNat) (by rw [List.length_take]; omega) (by rw [List.length_take]; omega)]
    · rfl
theorem full_go {l : List UInt8} (h : 0 ≤ dot l) : full l = (decide (l.length ≤ 100) && (simple (last l) && full (space l))) := by
  have d := dot_lt l
  have e : space l = l.take (dot l).toNat := by unfold space; rw [if_neg (by omega)]
  unfold full
  rw [fullF, if_pos h, e]
  have hl : (l.take (dot l).toNat).length = (dot l).toNat := by rw [List.length_take]; omega
  rw [fullF_fuel l.length ((l.take (dot l).toNat).length + 1) (l.take (dot l).toNat) (by omega) (by omega), hl]
  unfold last
  by_cases h100 : l.length ≤ 100
  · rw [show decide ((dot l).toNat ≤ 100) = true by simp; omega]; simp
  · simp [h100]
theorem full_one {l : List UInt8} (h : dot l < 0) : full l = simple l := by
  unfold full
  rw [fullF, if_neg (by omega)]
  unfold simple
  by_cases h100 : l.length ≤ 100 <;> simp [h100]
theorem last_no (l : List UInt8) : dot (last l) < 0 := by
  have d := dot_lt l
  have : dot (last l) = -1 := by
    refine dotN_none _ _ fun j hj => ?_
    unfold last at hj ⊢
    rw [List.length_drop] at hj
    rw [byt_drop]
    rcases Int.lt_or_le (dot l) 0 with h | h
    · exact dotN_no l.length l h _ (by omega)
    · obtain ⟨k, hk, _, _, h2⟩ := dot_place h
      exact h2 _ (by omega) (by omega)
  omega
/-- What a full name's parts are. -/
theorem full_parts {l : List UInt8} (h : full l = true) : simple (last l) = true ∧ (space l ≠ [] → full (space l) = true) ∧ join (space l) (last l) = some l := by
  have ln := last_no l
  rcases Int.lt_or_le (dot l) 0 with hd | hd
  · have d := dot_lt l
    have el : last l = l := by unfold last; rw [show (dot l + 1).toNat = 0 by omega]; rfl
    have es : space l = [] := by unfold space; rw [if_pos hd]
    rw [el, es]
    have hs : simple l = true := by rw [← full_one hd]; exact h
    refine ⟨hs, fun e => absurd rfl e, ?_⟩
    unfold join
    rw [if_pos hd, if_pos hs]
    simp [h]
  · have g := h
    rw [full_go hd] at g
    simp only [Bool.and_eq_true, decide_eq_true_eq] at g
    obtain ⟨_, g1, g2⟩ := g
    obtain ⟨k, hk, hkl, h46, _⟩ := dot_place hd
    have es : space l = l.take k := by unfold space; rw [if_neg (by omega), hk]; rfl
    have el : last l = l.drop (k + 1) := by unfold last; rw [hk]; rfl
    have ne : space l ≠ [] := by
      intro e
      rw [e] at g2
      cases g2
    have whole : space l ++ 46 :: last l = l := by
      rw [es, el]
      have h1 : l.drop k = 46 :: l.drop (k + 1) := by
        rw [List.drop_eq_getElem_cons hkl]
        congr 1
        have : (l[k]'hkl).toNat = 46 := by
          rw [← h46]; unfold byt; simp [List.getD, List.getElem?_eq_getElem hkl]
        exact UInt8.toNat_inj.1 this
      rw [← h1, List.take_append_drop]
    refine ⟨g1, fun _ => g2, ?_⟩
    unfold join
    rw [if_pos ln, if_pos g1, if_pos ne, whole, if_pos h]
end Go.Proofs.YtnfhikgfcdcpoaaDoor.Nm
namespace Go.Proofs.YtnfhikgfcdcpoaaDoor.Nm
/-- The word of a kind. -/
def word (k : Int) : List UInt8 :=
  if k = 1 then [110, 117, 108, 108] else if k = 2 then [98, 111, 111, 108, 101, 97, 110] else if k = 3 then [105, 110, 116] else if k = 4 then [108, 111, 110, 103] else if k = 5 then [102, 108, 111, 97, 116]
  else if k = 6 then [100, 111, 117, 98, 108, 101] else if k = 7 then [98, 121, 116, 101, 115] else if k = 8 then [115, 116, 114, 105, 110, 103] else if k = 9 then [114, 101, 99, 111, 114, 100] else if k = 10 then [101, 110, 117, 109]
  else if k = 11 then [97, 114, 114, 97, 121] else if k = 12 then [109, 97, 112] else if k = 14 then [102, 105, 120, 101, 100] else []
/-- The kind of a word, asked from a number on. -/
def kindF : Nat → Nat → List UInt8 → Nat
  | 0, _, _ => 0
  | f + 1, k, s => if s ≠ [] ∧ word (k : Int) = s then k else kindF f (k + 1) s
def kind (s : List UInt8) : Nat := kindF 14 1 s
theorem word_kind {k : Int} (h : word k ≠ []) : (kind (word k) : Int) = k := by
  have hk : k = 1 ∨ k = 2 ∨ k = 3 ∨ k = 4 ∨ k = 5 ∨ k = 6 ∨ k = 7 ∨ k = 8 ∨ k = 9 ∨ k = 10 ∨ k = 11 ∨ k = 12 ∨ k = 14 := by
    rcases Decidable.em (k = 1 ∨ k = 2 ∨ k = 3 ∨ k = 4 ∨ k = 5 ∨ k = 6 ∨ k = 7 ∨ k = 8 ∨ k = 9 ∨ k = 10 ∨ k = 11 ∨ k = 12 ∨ k = 14) with g | g
    · exact g
    · exfalso
      apply h
      unfold word
      simp only [not_or] at g
      obtain ⟨g1, g2, g3, g4, g5, g6, g7, g8, g9, g10, g11, g12, g14⟩ := g
      rw [if_neg g1, if_neg g2, if_neg g3, if_neg g4, if_neg g5, if_neg g6, if_neg g7, if_neg g8, if_neg g9, if_neg g10, if_neg g11, if_neg g12, if_neg g14]
  rcases hk with rfl | rfl | rfl | rfl | rfl | rfl | rfl | rfl | rfl | rfl | rfl | rfl | rfl <;> decide
end Go.Proofs.YtnfhikgfcdcpoaaDoor.Nm
