/- Plain mathematics of layer 9: a full name's parts, cut from the left; places of dots as the library tells them. -/
import Derived.Test.YtnfhikgfcdcpoaaDoorNam
import Derived.Lib.SplitLaws
import Derived.Lib.LastIndexByte
namespace Go.Proofs.YtnfhikgfcdcpoaaDoor.Nm
open Jx

/-- What stands between dots. -/
def parts : List UInt8 → List (List UInt8)
  | [] => [[]]
  | c :: l => if c = 46 then [] :: parts l else match parts l with
    | [] => [[c]]
    | p :: r => (c :: p) :: r
theorem parts_ne : ∀ l : List UInt8, parts l ≠ []
  | [] => by simp [parts]
  | c :: l => by
    unfold parts
    split
    · simp
    · split <;> simp
theorem parts_app : ∀ a b : List UInt8, parts (a ++ 46 :: b) = parts a ++ parts b
  | [], b => by simp [parts]
  | c :: a, b => by
    rw [List.cons_append, parts, parts_app a b]
    conv => rhs; rw [parts]
    split
    · rfl
    · have := parts_ne a
      rcases h : parts a with _ | ⟨p, r⟩
      · exact absurd h this
      · rfl
theorem parts_no : ∀ b : List UInt8, (∀ x ∈ b, x ≠ 46) → parts b = [b]
  | [], _ => rfl
  | c :: b, h => by
    rw [parts, if_neg (h c (by simp)), parts_no b fun x hx => h x (by simp [hx])]
theorem parts_small : ∀ (l : List UInt8) (p : List UInt8), p ∈ parts l → p.length ≤ l.length
  | [], p, h => by simp [parts] at h; subst h; simp
  | c :: l, p, h => by
    have ih := parts_small l
    rw [parts] at h
    split at h
    · rcases List.mem_cons.1 h with rfl | g
      · simp
      · have := ih p g; rw [List.length_cons]; omega
    · have ne := parts_ne l
      rcases hp : parts l with _ | ⟨q, r⟩
      · exact absurd hp ne
      · rw [hp] at h ih
        rcases List.mem_cons.1 h with rfl | g
        · have := ih q (by simp); simp only [List.length_cons]; omega
        · have := ih p (List.mem_cons_of_mem _ g); rw [List.length_cons]; omega
theorem parts_count : ∀ l : List UInt8, (parts l).length ≤ l.length + 1
  | [] => by simp [parts]
  | c :: l => by
    have ih := parts_count l
    rw [parts]
    split
    · simp only [List.length_cons]; omega
    · have ne := parts_ne l
      rcases hp : parts l with _ | ⟨q, r⟩
      · exact absurd hp ne
      · rw [hp] at ih; simp only [List.length_cons] at ih ⊢; omega
theorem splitK_parts : ∀ l : List UInt8, Lib.splitK [46] 0 (Lib.count l [46]) l = parts l
  | [] => by rw [Lib.count_one]; rfl
  | c :: l => by
    have ih := splitK_parts l
    by_cases hc : c = 46
    · subst hc
      rw [Lib.count_cons_eq, Nat.add_comm, Lib.splitK]
      have e : Lib.index (46 :: l) [46] = 0 := by rw [Lib.index]; simp [List.isPrefixOf]
      rw [e, if_neg (by decide), parts, if_pos rfl, ← ih]
      rfl
    · rw [Lib.count_cons_ne c 46 l hc, parts, if_neg hc]
      have hp : ([46] : List UInt8).isPrefixOf (c :: l) = false := by simp [List.isPrefixOf, Ne.symm hc]
      have e : Lib.index (c :: l) [46] = if Lib.index l [46] == -1 then -1 else Lib.index l [46] + 1 := by rw [Lib.index, hp]; simp
      rcases hk : Lib.count l [46] with _ | k
      · rw [hk, Lib.splitK] at ih
        rw [← ih, Lib.splitK]
      · rw [hk, Lib.splitK] at ih
        rw [Lib.splitK, e]
        by_cases hm : Lib.index l [46] = -1
        · rw [if_pos (beq_iff_eq.2 hm)] at ih
          rw [if_pos (beq_iff_eq.2 hm), if_pos (by decide), ← ih]
        · have hge := Lib.index_ge l [46]
          rw [if_neg (fun g => hm (beq_iff_eq.1 g))] at ih
          rw [if_neg (fun g => hm (beq_iff_eq.1 g)), if_neg (fun g => by have := beq_iff_eq.1 g; omega), ← ih]
          obtain ⟨j, hj⟩ : ∃ j : Nat, Lib.index l [46] = j := ⟨(Lib.index l [46]).toNat, by omega⟩
          rw [hj, show ((j : Int) + 1).toNat + 0 = j + 1 by omega, show (j : Int).toNat + 0 = j by omega, show ((j : Int) + 1).toNat = j + 1 by omega, show (j : Int).toNat = j by omega]
          show _ = (c :: l.take j) :: _
          rw [List.take_succ_cons, List.length_singleton, List.drop_succ_cons]
theorem no_dot {l : List UInt8} (h : dot l < 0) : ∀ x ∈ l, x ≠ 46 := by
  intro x hx e
  obtain ⟨j, hj, rfl⟩ := List.getElem_of_mem hx
  apply dotN_no l.length l h j hj
  unfold byt
  rw [List.getD, List.getElem?_eq_getElem hj, Option.getD_some, e]
  rfl
theorem whole_dot {l : List UInt8} (hd : 0 ≤ dot l) : space l ++ 46 :: last l = l := by
  obtain ⟨k, hk, hkl, h46, _⟩ := dot_place hd
  have es : space l = l.take k := by unfold space; rw [if_neg (by omega), hk]; rfl
  have el : last l = l.drop (k + 1) := by unfold last; rw [hk]; rfl
  rw [es, el]
  have h1 : l.drop k = 46 :: l.drop (k + 1) := by
    rw [List.drop_eq_getElem_cons hkl]
    congr 1
    have : (l[k]'hkl).toNat = 46 := by
      rw [← h46]; unfold byt; simp [List.getD, List.getElem?_eq_getElem hkl]
    exact UInt8.toNat_inj.1 this
  rw [← h1, List.take_append_drop]
theorem full_all : ∀ (n : Nat) (l : List UInt8), l.length ≤ n → full l = (decide (l.length ≤ 100) && (parts l).all simple)
  | n, l, hn => by
    rcases Int.lt_or_le (dot l) 0 with h | h
    · rw [full_one h, parts_no l (no_dot h)]
      by_cases h100 : l.length ≤ 100
      · simp [h100]
      · simp only [h100, decide_false, Bool.false_and]
        unfold simple
        simp [h100]
    · have w := whole_dot h
      have hl : (space l).length < l.length := by
        have := congrArg List.length w
        rw [List.length_append, List.length_cons] at this
        omega
      cases n with
      | zero => omega
      | succ n =>
        have ih := full_all n (space l) (by omega)
        have e : parts l = parts (space l) ++ [last l] := by
          rw [← parts_no (last l) (no_dot (last_no l)), ← parts_app, w]
        rw [full_go h, ih, e, List.all_append]
        by_cases h100 : l.length ≤ 100
        · have h2 : (space l).length ≤ 100 := by omega
          simp [h100, h2, Bool.and_comm]
        · simp [h100]
theorem full_parts' (l : List UInt8) : full l = (decide (l.length ≤ 100) && (parts l).all simple) := full_all _ l (Nat.le_refl _)
theorem last_dot (s : ByteArray) : Lib.lastIndexByte s 46 = dot s.data.toList := by
  have hs : s.data.toList.length = s.size := by rw [Array.length_toList]; rfl
  have key : ∀ i, i ≤ s.size → Lib.lastIdx s 46 i = dotN i s.data.toList := by
    intro i
    induction i with
    | zero => intro _; rfl
    | succ i ih =>
      intro hi
      have e : (s.data[i]!).toNat = byt s.data.toList i := by
        unfold byt
        rw [List.getD, List.getElem?_eq_getElem (by rw [hs]; omega), Option.getD_some]
        congr 1
        rw [getElem!_pos s.data i (by show i < s.size; omega)]
        rfl
      unfold Lib.lastIdx dotN
      rw [ih (by omega), e]
      by_cases hb : byt s.data.toList i = 46
      · rw [if_pos hb, if_pos (by omega)]
      · rw [if_neg hb, if_neg (by omega)]
  unfold Lib.lastIndexByte dot
  rw [hs]
  exact key _ (Nat.le_refl _)
theorem has_dot (l : List UInt8) : decide (0 ≤ Lib.indexByte l 46) = decide (0 ≤ dot l) := by
  have a : ∀ l : List UInt8, 0 ≤ Lib.indexByte l 46 ↔ (46 : UInt8) ∈ l := by
    intro l
    induction l with
    | nil => simp [Lib.indexByte]
    | cons b l ih =>
      have g := Lib.indexByte_ge l 46
      unfold Lib.indexByte
      split
      · rename_i h; have : b = 46 := by simpa using h
        subst this; simp
      · rename_i h
        have hb : b ≠ 46 := by simpa using h
        split
        · rename_i h2
          have e : Lib.indexByte l 46 = -1 := by simpa using h2
          constructor
          · intro x; omega
          · intro x
            rcases List.mem_cons.1 x with y | y
            · exact absurd y.symm hb
            · have := ih.2 y; omega
        · rename_i h2
          have e : Lib.indexByte l 46 ≠ -1 := by simpa using h2
          constructor
          · intro _; exact List.mem_cons_of_mem _ (ih.1 (by omega))
          · intro _; omega
  have b : 0 ≤ dot l ↔ (46 : UInt8) ∈ l := by
    constructor
    · intro h
      obtain ⟨k, _, hk, h46, _⟩ := dot_place h
      have : (l[k]'hk) = 46 := by
        apply UInt8.toNat_inj.1
        show _ = 46
        rw [← h46]; unfold byt; simp [List.getD, List.getElem?_eq_getElem hk]
      rw [← this]; exact List.getElem_mem hk
    · intro h
      rcases Int.lt_or_le (dot l) 0 with g | g
      · exact absurd rfl (no_dot g _ h)
      · exact g
  exact decide_eq_decide.2 ((a l).trans b.symm)
theorem kindF_skip {f k : Nat} {s : List UInt8} (h : word (k : Int) ≠ s) : kindF (f + 1) k s = kindF f (k + 1) s := by
  rw [kindF, if_neg fun g => h g.2]
theorem kindF_hit {f k : Nat} {s : List UInt8} (h0 : s ≠ []) (h : word (k : Int) = s) : kindF (f + 1) k s = k := by
  rw [kindF, if_pos ⟨h0, h⟩]
theorem kindF_from {j : Nat} {l : List UInt8} (h0 : l ≠ []) (hj : word (j : Int) = l) : ∀ (f k : Nat), k ≤ j → j < k + f → (∀ m : Nat, k ≤ m → m < j → word (m : Int) ≠ l) → kindF f k l = j
  | 0, k, h1, h2, _ => by omega
  | f + 1, k, h1, h2, h => by
    rcases Nat.lt_or_ge k j with g | g
    · rw [kindF_skip (h k (Nat.le_refl _) g), kindF_from h0 hj f (k + 1) g (by omega) fun m a b => h m (by omega) b]
    · obtain rfl : k = j := by omega
      exact kindF_hit h0 hj
theorem kindF_none {l : List UInt8} : ∀ (f k : Nat), (∀ m : Nat, k ≤ m → m < k + f → word (m : Int) ≠ l) → kindF f k l = 0
  | 0, _, _ => rfl
  | f + 1, k, h => by rw [kindF_skip (h k (Nat.le_refl _) (by omega)), kindF_none f (k + 1) fun m a b => h m (by omega) (by omega)]
theorem kind_first {j : Nat} {l : List UInt8} (hj : j < 15) (h : ∀ m : Nat, m < j → word (m : Int) ≠ l) (e : word (j : Int) = l) : kind l = j := by
  rcases Nat.eq_zero_or_pos j with rfl | hp
  · rw [← e]; decide
  · have h0 : l ≠ [] := fun g => h 0 hp (by rw [g]; decide)
    unfold kind
    exact kindF_from h0 e 14 1 hp (by omega) fun m _ b => h m b
theorem kind_none {l : List UInt8} (h : ∀ m : Nat, m < 15 → word (m : Int) ≠ l) : kind l = 0 := by
  unfold kind
  exact kindF_none 14 1 fun m _ b => h m (by omega)
theorem kind_nil : kind [] = 0 := by decide
theorem word_0 : word 0 = [] := by decide
theorem word_13 : word 13 = [] := by decide
theorem word_out {k : Int} (h : k < 0 ∨ 15 ≤ k) : word k = [] := by
  unfold word
  rw [if_neg (by omega), if_neg (by omega), if_neg (by omega), if_neg (by omega), if_neg (by omega), if_neg (by omega), if_neg (by omega), if_neg (by omega), if_neg (by omega), if_neg (by omega), if_neg (by omega), if_neg (by omega), if_neg (by omega)]
theorem join_not {s n : List UInt8} (h : full n = false) : join s n = none := by
  unfold join
  split
  · rename_i hd
    rw [full_one hd] at h
    rw [if_neg (by rw [h]; decide)]
  · rw [if_neg (by rw [h]; decide)]
theorem join_has {s n : List UInt8} (h : full n = true) (hd : s = [] ∨ 0 ≤ dot n) : join s n = some n := by
  unfold join
  by_cases g : dot n < 0
  · rcases hd with rfl | hd
    · have hs : simple n = true := by rw [← full_one g]; exact h
      rw [if_pos g, if_pos hs]; simp [h]
    · omega
  · rw [if_neg g, if_pos h]
theorem space_of (s n : List UInt8) (h : dot n < 0) : dot (s ++ 46 :: n) = (s.length : Int) := by
  have hb : byt (s ++ 46 :: n) s.length = 46 := by
    unfold byt; rw [List.getD, List.getElem?_append_right (Nat.le_refl _), Nat.sub_self]; rfl
  have no : ∀ j, s.length < j → j < (s ++ 46 :: n).length → byt (s ++ 46 :: n) j ≠ 46 := by
    intro j h1 h2
    rw [List.length_append, List.length_cons] at h2
    obtain ⟨m, rfl⟩ : ∃ m, j = s.length + (m + 1) := ⟨j - s.length - 1, by omega⟩
    have := dotN_no n.length n h m (by omega)
    intro e
    apply this
    rw [← e]
    unfold byt
    rw [List.getD, List.getD, List.getElem?_append_right (by omega), Nat.add_sub_cancel_left, List.getElem?_cons_succ]
  rcases Int.lt_or_le (dot (s ++ 46 :: n)) 0 with g | g
  · exact absurd hb (dotN_no _ _ g s.length (by rw [List.length_append, List.length_cons]; omega))
  · obtain ⟨k, hk, hkl, h46, hn⟩ := dot_place g
    rw [hk]
    rcases Nat.lt_trichotomy k s.length with a | a | a
    · exact absurd hb (hn s.length a (by rw [List.length_append, List.length_cons]; omega))
    · rw [a]
    · exact absurd h46 (no k a hkl)
theorem join_in {s n : List UInt8} (hf : full n = true) (hs : s ≠ []) (hd : dot n < 0) : join s n = if full s = true ∧ s.length + 1 + n.length ≤ 100 then some (s ++ 46 :: n) else none := by
  have sm : simple n = true := by rw [← full_one hd]; exact hf
  unfold join
  rw [if_pos hd, if_pos sm, if_pos hs]
  have d := space_of s n hd
  have e1 : space (s ++ 46 :: n) = s := by unfold space; rw [if_neg (by omega), d]; simp
  have e2 : last (s ++ 46 :: n) = n := by
    unfold last
    rw [d, show ((s.length : Int) + 1).toNat = s.length + 1 by omega, List.drop_append]
    simp
  rw [full_go (by omega), e1, e2, sm, Bool.true_and, List.length_append, List.length_cons]
  by_cases h1 : full s = true
  · by_cases h2 : s.length + 1 + n.length ≤ 100
    · rw [if_pos (by rw [h1, Bool.and_true]; simp; omega), if_pos ⟨h1, h2⟩]
    · rw [if_neg (by rw [h1, Bool.and_true]; simp; omega), if_neg fun g => h2 g.2]
  · rw [if_neg (by simp [h1]), if_neg fun g => h1 g.1]
end Go.Proofs.YtnfhikgfcdcpoaaDoor.Nm
