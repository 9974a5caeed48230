/- Joined by tools/bundle.py: JNum Nam JPar KFrm SRgt VIs SOk. -/
import Derived.Test.YtlpmcohbbffbfaaDoorQ1
import Derived.Test.YtlpmcohbbffbfaaDoorQ3
import Derived.Test.YtlpmcohbbffbfaaDoorQ4
namespace Go.Proofs.YtlpmcohbbffbfaaDoor.Jx
open Num
def isD (c : Nat) : Bool := decide (48 ≤ c ∧ c ≤ 57)
def isL (c : Nat) : Bool := decide ((48 ≤ c ∧ c ≤ 57) ∨ (97 ≤ c ∧ c ≤ 122) ∨ (65 ≤ c ∧ c ≤ 90))
def isW (c : Nat) : Bool := decide (c = 32 ∨ c = 9 ∨ c = 10 ∨ c = 13)
def byt (l : List UInt8) (i : Nat) : Nat := (l.getD i 0).toNat
theorem byt_lt (l : List UInt8) (i : Nat) : byt l i < 256 := (l.getD i 0).toNat_lt
theorem byt_end {l : List UInt8} {i : Nat} (h : l.length ≤ i) : byt l i = 0 := by
  unfold byt; rw [List.getD, List.getElem?_eq_none h]; rfl
theorem byt_pos {l : List UInt8} {i : Nat} (h : byt l i ≠ 0) : i < l.length := by
  rcases Nat.lt_or_ge i l.length with k | k
  · exact k
  · exact absurd (byt_end k) h
theorem byt_drop (l : List UInt8) (p i : Nat) : byt (l.drop p) i = byt l (p + i) := by
  unfold byt; simp [List.getD, List.getElem?_drop]
def cnt (p : Nat → Bool) : List UInt8 → Nat
  | [] => 0
  | x :: r => if p x.toNat = true then cnt p r + 1 else 0
theorem cnt_le (p : Nat → Bool) : ∀ l, cnt p l ≤ l.length
  | [] => Nat.le_refl _
  | x :: r => by unfold cnt; have := cnt_le p r; split <;> simp <;> omega
def val (d : List UInt8) : Nat := d.foldl (fun u x => u * 10 + (x.toNat - 48)) 0
def numR (m : Nat) (r : List UInt8) : Int × Nat × Nat :=
  if cnt isD r = 0 ∨ (byt r 0 = 48 ∧ 1 < cnt isD r) ∨ (isL (byt r (cnt isD r)) = true ∧ byt r (cnt isD r) ≠ 101 ∧ byt r (cnt isD r) ≠ 69) then (0, m + cnt isD r, 20)
  else if byt r (cnt isD r) = 46 ∨ isL (byt r (cnt isD r)) = true ∨ 9223372036854775808 < val (r.take (cnt isD r)) ∨ (val (r.take (cnt isD r)) = 9223372036854775808 ∧ m = 0) then (0, m + cnt isD r, 22)
  else (if m = 0 then (val (r.take (cnt isD r)) : Int) else -(val (r.take (cnt isD r)) : Int), m + cnt isD r, 0)
def num (l : List UInt8) : Int × Nat × Nat := if byt l 0 = 45 then numR 1 (l.drop 1) else numR 0 l
def hex (c : Nat) : Int := if 48 ≤ c ∧ c ≤ 57 then (c : Int) - 48 else if 65 ≤ c ∧ c ≤ 70 then (c : Int) - 55 else if 97 ≤ c ∧ c ≤ 102 then (c : Int) - 87 else -1
theorem hex_is (c : Nat) : (48 ≤ c ∧ c ≤ 57 ∧ hex c = (c : Int) - 48) ∨ (65 ≤ c ∧ c ≤ 70 ∧ hex c = (c : Int) - 55) ∨ (97 ≤ c ∧ c ≤ 102 ∧ hex c = (c : Int) - 87) ∨ (hex c = -1 ∧ ¬ (48 ≤ c ∧ c ≤ 57) ∧ ¬ (65 ≤ c ∧ c ≤ 70) ∧ ¬ (97 ≤ c ∧ c ≤ 102)) := by
  unfold hex; split
  · omega
  · split
    · omega
    · split <;> omega
def four (l : List UInt8) : Int :=
  if hex (byt l 0) < 0 ∨ hex (byt l 1) < 0 ∨ hex (byt l 2) < 0 ∨ hex (byt l 3) < 0 then -1 else ((hex (byt l 0) * 16 + hex (byt l 1)) * 16 + hex (byt l 2)) * 16 + hex (byt l 3)
theorem four_len {l : List UInt8} (h : 0 ≤ four l) : 4 ≤ l.length := by
  unfold four at h
  split at h
  · omega
  · have d := hex_is (byt l 3)
    have : byt l 3 ≠ 0 := by omega
    have := byt_pos this
    omega
def esc (c : Nat) : Option Nat :=
  if c = 34 ∨ c = 47 ∨ c = 92 then some c else if c = 98 then some 8 else if c = 102 then some 12 else if c = 110 then some 10 else if c = 114 then some 13 else if c = 116 then some 9 else none
def uni (l : List UInt8) : Option (List UInt8 × Nat) :=
  if 55296 ≤ four l ∧ four l ≤ 56319 ∧ byt l 4 = 92 ∧ byt l 5 = 117 then
    if 56320 ≤ four (l.drop 6) ∧ four (l.drop 6) ≤ 57343 then some (ue (65536 + (four l - 55296) * 1024 + four (l.drop 6) - 56320).toNat, 12) else none
  else if isC (four l) then some (ue (four l).toNat, 6) else none
def item (l : List UInt8) : Option (List UInt8 × Nat) :=
  if byt l 0 = 92 then
    match esc (byt l 1) with
    | some v => some ([UInt8.ofNat v], 2)
    | none => if byt l 1 = 117 then uni (l.drop 2) else none
  else if (fst l).2.2 = 0 then some (l.take (fst l).2.1, (fst l).2.1) else none
def txtF : Nat → List UInt8 → Option (List UInt8 × Nat)
  | 0, _ => none
  | f + 1, l => if byt l 0 < 32 then none else if byt l 0 = 34 then some ([], 1) else
    match item l with
    | none => none
    | some (o, n) => (txtF f (l.drop n)).map fun r => (o ++ r.1, n + r.2)
def txt (l : List UInt8) : Option (List UInt8 × Nat) := txtF (l.length + 1) l
theorem uni_len {l o : List UInt8} {n : Nat} (h : uni l = some (o, n)) : 4 ≤ n ∧ n ≤ l.length + 2 ∧ o.length ≤ 4 := by
  unfold uni at h
  split at h
  · split at h
    · rename_i h1 h2
      simp only [Option.some.injEq, Prod.mk.injEq] at h
      obtain ⟨rfl, rfl⟩ := h
      have a := four_len (l := l.drop 6) (by omega)
      rw [List.length_drop] at a
      have := ue_len (65536 + (four l - 55296) * 1024 + four (l.drop 6) - 56320).toNat
      exact ⟨by omega, by omega, this.2⟩
    · cases h
  · split at h
    · rename_i h1 h2
      simp only [Option.some.injEq, Prod.mk.injEq] at h
      obtain ⟨rfl, rfl⟩ := h
      have a := four_len (l := l) h2.1
      exact ⟨by omega, by omega, (ue_len _).2⟩
    · cases h
theorem esc_pos {c v : Nat} (h : esc c = some v) : c ≠ 0 := by
  intro e; subst e; simp [esc] at h
theorem item_len {l o : List UInt8} {n : Nat} (h : item l = some (o, n)) : 1 ≤ n ∧ n ≤ l.length ∧ o.length ≤ n := by
  unfold item at h
  split at h
  · split at h
    · rename_i v hv
      simp only [Option.some.injEq, Prod.mk.injEq] at h
      obtain ⟨rfl, rfl⟩ := h
      have := byt_pos (esc_pos hv)
      simp; omega
    · split at h
      · rename_i h1
        have := uni_len h
        rw [List.length_drop] at this
        have := byt_pos (l := l) (i := 1) (by omega)
        omega
      · cases h
  · split at h
    · rename_i h1
      simp only [Option.some.injEq, Prod.mk.injEq] at h
      obtain ⟨rfl, rfl⟩ := h
      rcases fst_err l with ⟨c, n, e, a, b, d⟩ | ⟨e, _⟩ | e
      · rw [e]; simp; omega
      · rw [e] at h1; cases h1
      · rw [e] at h1; cases h1
    · cases h
theorem txtF_fuel : ∀ (f g : Nat) (l : List UInt8), l.length < f → l.length < g → txtF f l = txtF g l
  | 0, _, _, h, _ => absurd h (Nat.not_lt_zero _)
  | _ + 1, 0, _, _, h => absurd h (Nat.not_lt_zero _)
  | f + 1, g + 1, l, h1, h2 => by
    unfold txtF
    split
    · rfl
    · split
      · rfl
      · split
        · rfl
        · rename_i o n hi
          have := item_len hi
          rw [txtF_fuel f g (l.drop n) (by rw [List.length_drop]; omega) (by rw [List.length_drop]; omega)]
theorem txt_bad {l : List UInt8} (h : byt l 0 < 32) : txt l = none := by unfold txt txtF; rw [if_pos h]
theorem txt_end {l : List UInt8} (h : byt l 0 = 34) : txt l = some ([], 1) := by unfold txt txtF; rw [if_neg (by omega), if_pos h]
theorem txt_no {l : List UInt8} (h1 : byt l 0 ≠ 34) (h : item l = none) : txt l = none := by
  unfold txt txtF
  split
  · rfl
  · rw [h]
theorem txt_go {l o : List UInt8} {n : Nat} (h0 : 32 ≤ byt l 0) (h1 : byt l 0 ≠ 34) (h : item l = some (o, n)) : txt l = (txt (l.drop n)).map fun r => (o ++ r.1, n + r.2) := by
  have := item_len h
  unfold txt
  rw [txtF, if_neg (by omega), if_neg h1, h]
  simp only
  rw [txtF_fuel l.length ((l.drop n).length + 1) (l.drop n) (by rw [List.length_drop]; omega) (by omega)]
structure Wd where
  k : Nat
  n : Int
  t : List UInt8
  a : Nat
  x : Nat
def Wd.zero : Wd := ⟨0, 0, [], 0, 0⟩
def Wd.at_ (w : Wd) (q : Nat) : Wd := ⟨w.k, w.n, w.t, w.a + q, w.x + q⟩
def punct (c : Nat) : Nat := if c = 123 then 1 else if c = 125 then 2 else if c = 91 then 3 else if c = 93 then 4 else if c = 58 then 5 else if c = 44 then 6 else 0
def named (l s : List UInt8) : Bool := decide (l.take s.length = s) && !isL (byt l s.length)
def sT : List UInt8 := [116, 114, 117, 101]
def sF : List UInt8 := [102, 97, 108, 115, 101]
def sN : List UInt8 := [110, 117, 108, 108]
def word (l : List UInt8) : Wd × Nat :=
  if punct (byt l 0) ≠ 0 then (⟨punct (byt l 0), 0, [], 0, 1⟩, 0)
  else if byt l 0 = 34 then
    match txt (l.drop 1) with
    | none => (Wd.zero, 20)
    | some (s, k) => (⟨10, 0, s, 0, k + 1⟩, 0)
  else if byt l 0 = 45 ∨ isD (byt l 0) = true then
    if (num l).2.2 = 0 then (⟨9, (num l).1, [], 0, (num l).2.1⟩, 0) else (Wd.zero, (num l).2.2)
  else if named l sT = true then (⟨7, 1, [], 0, 4⟩, 0)
  else if named l sF = true then (⟨7, 0, [], 0, 5⟩, 0)
  else if named l sN = true then (⟨8, 0, [], 0, 4⟩, 0)
  else (Wd.zero, 20)
def tak (l : List UInt8) (p : Nat) : Wd × Nat :=
  if p + cnt isW (l.drop p) = l.length then (⟨11, 0, [], l.length, l.length⟩, 0)
  else if (word (l.drop (p + cnt isW (l.drop p)))).2 = 0 then ((word (l.drop (p + cnt isW (l.drop p)))).1.at_ (p + cnt isW (l.drop p)), 0)
  else (Wd.zero, (word (l.drop (p + cnt isW (l.drop p)))).2)
def allF : Nat → List UInt8 → Nat → List Wd × Nat
  | 0, _, _ => ([], 0)
  | f + 1, l, p => if (tak l p).2 ≠ 0 then ([], (tak l p).2) else if (tak l p).1.k = 11 then ([], 0)
    else if (allF f l (tak l p).1.x).2 ≠ 0 then ([], (allF f l (tak l p).1.x).2) else ((tak l p).1 :: (allF f l (tak l p).1.x).1, 0)
def all (l : List UInt8) (p : Nat) : List Wd × Nat := allF (l.length + 1 - p) l p
end Go.Proofs.YtlpmcohbbffbfaaDoor.Jx
namespace Go.Proofs.YtlpmcohbbffbfaaDoor.Jx
open Num
theorem txt_len : ∀ (f : Nat) (l : List UInt8) {s : List UInt8} {k : Nat}, l.length < f → txt l = some (s, k) → 1 ≤ k ∧ k ≤ l.length ∧ s.length + 1 ≤ k
  | 0, _, _, _, h, _ => absurd h (Nat.not_lt_zero _)
  | f + 1, l, s, k, hf, h => by
    by_cases h0 : byt l 0 < 32
    · rw [txt_bad h0] at h; cases h
    by_cases h1 : byt l 0 = 34
    · rw [txt_end h1] at h
      simp only [Option.some.injEq, Prod.mk.injEq] at h
      obtain ⟨rfl, rfl⟩ := h
      have := byt_pos (l := l) (i := 0) (by omega)
      simp; omega
    cases hi : item l with
    | none => rw [txt_no h1 hi] at h; cases h
    | some r =>
      obtain ⟨o, n⟩ := r
      have hn := item_len hi
      rw [txt_go (by omega) h1 hi] at h
      cases ht : txt (l.drop n) with
      | none => rw [ht] at h; cases h
      | some r =>
        obtain ⟨s', k'⟩ := r
        rw [ht] at h
        simp only [Option.map_some, Option.some.injEq, Prod.mk.injEq] at h
        obtain ⟨rfl, rfl⟩ := h
        have := txt_len f (l.drop n) (by rw [List.length_drop]; omega) ht
        rw [List.length_drop] at this
        simp; omega
theorem isD_is {c : Nat} : isD c = true ↔ 48 ≤ c ∧ c ≤ 57 := by unfold isD; simp
theorem isW_is {c : Nat} : isW c = true ↔ c = 32 ∨ c = 9 ∨ c = 10 ∨ c = 13 := by unfold isW; simp
def Off (m : List UInt8) : Prop := m = [] ∨ isW (byt m 0) = true
theorem Off.byt {m : List UInt8} (h : Off m) : byt m 0 = 0 ∨ byt m 0 = 32 ∨ byt m 0 = 9 ∨ byt m 0 = 10 ∨ byt m 0 = 13 := by
  rcases h with h | h
  · subst h; exact .inl rfl
  · exact .inr (isW_is.1 h)
theorem numR_len {m : Nat} {r : List UInt8} (h : (numR m r).2.2 = 0) : (numR m r).2.1 = m + cnt isD r ∧ cnt isD r ≠ 0 := by
  unfold numR at h ⊢
  split at h
  · cases h
  · rename_i h1
    split at h
    · cases h
    · rename_i h2
      rw [if_neg h1, if_neg h2]
      exact ⟨rfl, fun e => h1 (.inl e)⟩
theorem numR_big {m : Nat} {r : List UInt8} (h : (numR m r).2.2 = 0) : -9223372036854775808 ≤ (numR m r).1 ∧ (numR m r).1 ≤ 9223372036854775807 := by
  unfold numR at h ⊢
  split at h
  · cases h
  · rename_i h1
    split at h
    · cases h
    · rename_i h2
      rw [if_neg h1, if_neg h2]
      simp only
      split <;> omega
theorem numR_err (m : Nat) (r : List UInt8) : (numR m r).2.2 = 0 ∨ ((numR m r).1 = 0 ∧ ((numR m r).2.2 = 20 ∨ (numR m r).2.2 = 22)) := by
  unfold numR; split
  · exact .inr ⟨rfl, .inl rfl⟩
  · split
    · exact .inr ⟨rfl, .inr rfl⟩
    · exact .inl rfl
theorem num_len {l : List UInt8} (h : (num l).2.2 = 0) : 1 ≤ (num l).2.1 ∧ (num l).2.1 ≤ l.length := by
  unfold num at h ⊢
  split at h
  · rename_i h1
    rw [if_pos h1]
    have a := numR_len h
    have := cnt_le isD (l.drop 1)
    rw [List.length_drop] at this
    omega
  · rename_i h1
    rw [if_neg h1]
    have a := numR_len h
    have := cnt_le isD l
    omega
theorem num_big {l : List UInt8} (h : (num l).2.2 = 0) : -9223372036854775808 ≤ (num l).1 ∧ (num l).1 ≤ 9223372036854775807 := by
  unfold num at h ⊢
  split at h
  · rename_i h1; rw [if_pos h1]; exact numR_big h
  · rename_i h1; rw [if_neg h1]; exact numR_big h
theorem named_len {l s : List UInt8} (h : named l s = true) : s.length ≤ l.length := by
  unfold named at h
  simp only [Bool.and_eq_true, decide_eq_true_eq] at h
  have := congrArg List.length h.1
  rw [List.length_take] at this
  omega
theorem punct_is (c : Nat) : (punct c = 0 ∧ c ≠ 123 ∧ c ≠ 125 ∧ c ≠ 91 ∧ c ≠ 93 ∧ c ≠ 58 ∧ c ≠ 44) ∨ (punct c = 1 ∧ c = 123) ∨ (punct c = 2 ∧ c = 125) ∨ (punct c = 3 ∧ c = 91) ∨ (punct c = 4 ∧ c = 93) ∨ (punct c = 5 ∧ c = 58) ∨ (punct c = 6 ∧ c = 44) := by
  unfold punct
  split
  · omega
  · split
    · omega
    · split
      · omega
      · split
        · omega
        · split
          · omega
          · split <;> omega
theorem word_p {l : List UInt8} (h : punct (byt l 0) ≠ 0) : word l = (⟨punct (byt l 0), 0, [], 0, 1⟩, 0) := by unfold word; rw [if_pos h]
theorem word_t0 {l : List UInt8} (h : byt l 0 = 34) (ht : txt (l.drop 1) = none) : word l = (Wd.zero, 20) := by
  unfold word; rw [if_neg (by rw [h]; decide), if_pos h, ht]
theorem word_t {l s : List UInt8} {k : Nat} (h : byt l 0 = 34) (ht : txt (l.drop 1) = some (s, k)) : word l = (⟨10, 0, s, 0, k + 1⟩, 0) := by
  unfold word; rw [if_neg (by rw [h]; decide), if_pos h, ht]
theorem numb_p {c : Nat} (h : c = 45 ∨ isD c = true) : punct c = 0 ∧ c ≠ 34 := by
  rw [isD_is] at h
  have := punct_is c
  omega
theorem word_n {l : List UInt8} (h : byt l 0 = 45 ∨ isD (byt l 0) = true) : word l = if (num l).2.2 = 0 then (⟨9, (num l).1, [], 0, (num l).2.1⟩, 0) else (Wd.zero, (num l).2.2) := by
  have a := numb_p h
  unfold word; rw [if_neg (by omega), if_neg a.2, if_pos h]
theorem word_l {l : List UInt8} (h : punct (byt l 0) = 0) (h1 : byt l 0 ≠ 34) (h2 : ¬ (byt l 0 = 45 ∨ isD (byt l 0) = true)) :
    word l = if named l sT = true then (⟨7, 1, [], 0, 4⟩, 0) else if named l sF = true then (⟨7, 0, [], 0, 5⟩, 0) else if named l sN = true then (⟨8, 0, [], 0, 4⟩, 0) else (Wd.zero, 20) := by
  unfold word; rw [if_neg (by omega), if_neg h1, if_neg h2]
def Wd.ok (w : Wd) (len : Nat) : Prop := w.a = 0 ∧ 1 ≤ w.x ∧ w.x ≤ len ∧ 1 ≤ w.k ∧ w.k ≤ 10 ∧ -9223372036854775808 ≤ w.n ∧ w.n ≤ 9223372036854775807 ∧ w.t.length ≤ w.x
theorem word_ok {l : List UInt8} {w : Wd} (h : word l = (w, 0)) : w.ok l.length := by
  by_cases h0 : punct (byt l 0) = 0
  · by_cases h1 : byt l 0 = 34
    · have hl := byt_pos (l := l) (i := 0) (by omega)
      cases ht : txt (l.drop 1) with
      | none => rw [word_t0 h1 ht] at h; cases h
      | some r =>
        obtain ⟨s, k⟩ := r
        rw [word_t h1 ht] at h
        simp only [Prod.mk.injEq, and_true] at h
        subst h
        have := txt_len _ _ (Nat.lt_succ_self _) ht
        rw [List.length_drop] at this
        refine ⟨rfl, ?_, ?_, by show 1 ≤ 10; omega, by show 10 ≤ 10; omega, by show (-9223372036854775808 : Int) ≤ 0; omega, by show (0 : Int) ≤ 9223372036854775807; omega, ?_⟩
        · show 1 ≤ k + 1; omega
        · show k + 1 ≤ l.length; omega
        · show s.length ≤ k + 1; omega
    · by_cases h2 : byt l 0 = 45 ∨ isD (byt l 0) = true
      · rw [word_n h2] at h
        split at h
        · rename_i h3
          simp only [Prod.mk.injEq, and_true] at h
          subst h
          have a := num_len h3
          have b := num_big h3
          exact ⟨rfl, a.1, a.2, by show 1 ≤ 9; omega, by show 9 ≤ 10; omega, b.1, b.2, Nat.zero_le _⟩
        · rename_i h3
          simp only [Prod.mk.injEq] at h
          exact absurd h.2 h3
      · rw [word_l h0 h1 h2] at h
        have fin : ∀ (s : List UInt8) (k : Nat) (n : Int), named l s = true → 1 ≤ s.length → 1 ≤ k → k ≤ 10 → 0 ≤ n → n ≤ 1 → Wd.ok ⟨k, n, [], 0, s.length⟩ l.length := fun s k n a b c d e f =>
          ⟨rfl, b, named_len a, c, d, by show (-9223372036854775808 : Int) ≤ n; omega, by show n ≤ 9223372036854775807; omega, Nat.zero_le _⟩
        split at h
        · rename_i h3
          simp only [Prod.mk.injEq, and_true] at h
          subst h
          exact fin sT 7 1 h3 (by decide) (by omega) (by omega) (by omega) (by omega)
        · split at h
          · rename_i h3
            simp only [Prod.mk.injEq, and_true] at h
            subst h
            exact fin sF 7 0 h3 (by decide) (by omega) (by omega) (by omega) (by omega)
          · split at h
            · rename_i h3
              simp only [Prod.mk.injEq, and_true] at h
              subst h
              exact fin sN 8 0 h3 (by decide) (by omega) (by omega) (by omega) (by omega)
            · cases h
  · have hl : byt l 0 ≠ 0 := by intro e; rw [e] at h0; exact h0 rfl
    have hl := byt_pos hl
    rw [word_p h0] at h
    simp only [Prod.mk.injEq, and_true] at h
    subst h
    have := punct_is (byt l 0)
    refine ⟨rfl, by show 1 ≤ 1; omega, hl, ?_, ?_, by show (-9223372036854775808 : Int) ≤ 0; omega, by show (0 : Int) ≤ 9223372036854775807; omega, Nat.zero_le _⟩
    · show 1 ≤ punct (byt l 0); omega
    · show punct (byt l 0) ≤ 10; omega
theorem word_err (l : List UInt8) : (∃ w, word l = (w, 0)) ∨ word l = (Wd.zero, 20) ∨ word l = (Wd.zero, 22) := by
  by_cases h0 : punct (byt l 0) = 0
  · by_cases h1 : byt l 0 = 34
    · cases ht : txt (l.drop 1) with
      | none => exact .inr (.inl (word_t0 h1 ht))
      | some r => exact .inl ⟨_, word_t h1 ht⟩
    · by_cases h2 : byt l 0 = 45 ∨ isD (byt l 0) = true
      · rw [word_n h2]
        split
        · exact .inl ⟨_, rfl⟩
        · rename_i h3
          have e : (num l).2.2 = 20 ∨ (num l).2.2 = 22 := by
            unfold num at h3 ⊢
            split at h3
            · rename_i h4
              rw [if_pos h4]
              have := numR_err 1 (l.drop 1); omega
            · rename_i h4
              rw [if_neg h4]
              have := numR_err 0 l; omega
          rcases e with e | e
          · exact .inr (.inl (by rw [e]))
          · exact .inr (.inr (by rw [e]))
      · rw [word_l h0 h1 h2]
        split
        · exact .inl ⟨_, rfl⟩
        · split
          · exact .inl ⟨_, rfl⟩
          · split
            · exact .inl ⟨_, rfl⟩
            · exact .inr (.inl rfl)
  · exact .inl ⟨_, word_p h0⟩
end Go.Proofs.YtlpmcohbbffbfaaDoor.Jx
namespace Go.Proofs.YtlpmcohbbffbfaaDoor.Jx
open Num
theorem tak_q (l : List UInt8) (p : Nat) (hp : p ≤ l.length) : p + cnt isW (l.drop p) ≤ l.length := by
  have := cnt_le isW (l.drop p); rw [List.length_drop] at this; omega
theorem tak_end {l : List UInt8} {p : Nat} (h : p + cnt isW (l.drop p) = l.length) : tak l p = (⟨11, 0, [], l.length, l.length⟩, 0) := by unfold tak; rw [if_pos h]
theorem tak_word {l : List UInt8} {p q : Nat} {w : Wd} (hq : q = p + cnt isW (l.drop p)) (h : q ≠ l.length) (hw : word (l.drop q) = (w, 0)) : tak l p = (w.at_ q, 0) := by
  subst hq
  unfold tak; rw [if_neg h, hw, if_pos rfl]
theorem tak_err {l : List UInt8} {p q e : Nat} {w : Wd} (hq : q = p + cnt isW (l.drop p)) (h : q ≠ l.length) (hw : word (l.drop q) = (w, e)) (he : e ≠ 0) : tak l p = (Wd.zero, e) := by
  subst hq
  unfold tak; rw [if_neg h, hw, if_neg he]
theorem tak_ways (l : List UInt8) (p : Nat) (hp : p ≤ l.length) :
    tak l p = (⟨11, 0, [], l.length, l.length⟩, 0) ∨ tak l p = (Wd.zero, 20) ∨ tak l p = (Wd.zero, 22) ∨
    ∃ w q, q = p + cnt isW (l.drop p) ∧ q < l.length ∧ word (l.drop q) = (w, 0) ∧ w.ok (l.length - q) ∧ tak l p = (w.at_ q, 0) := by
  have hq := tak_q l p hp
  by_cases h : p + cnt isW (l.drop p) = l.length
  · exact .inl (tak_end h)
  · rcases word_err (l.drop (p + cnt isW (l.drop p))) with ⟨w, hw⟩ | hw | hw
    · have := word_ok hw
      rw [List.length_drop] at this
      exact .inr (.inr (.inr ⟨w, _, rfl, by omega, hw, this, tak_word rfl h hw⟩))
    · exact .inr (.inl (tak_err rfl h hw (by decide)))
    · exact .inr (.inr (.inl (tak_err rfl h hw (by decide))))
theorem tak_more {l : List UInt8} {p : Nat} (hp : p ≤ l.length) (h : (tak l p).2 = 0) (hk : (tak l p).1.k ≠ 11) : p < (tak l p).1.x ∧ (tak l p).1.x ≤ l.length ∧ (tak l p).1.a < (tak l p).1.x := by
  rcases tak_ways l p hp with e | e | e | ⟨w, q, h0, hq, _, hw, e⟩
  · rw [e] at hk; exact absurd rfl hk
  · rw [e] at h; cases h
  · rw [e] at h; cases h
  · rw [e]
    obtain ⟨h1, h2, h3, h4, h5, h6, h7, h8⟩ := hw
    refine ⟨?_, ?_, ?_⟩
    · show p < w.x + q; omega
    · show w.x + q ≤ l.length; omega
    · show w.a + q < w.x + q; omega
theorem allF_fuel : ∀ (f g : Nat) (l : List UInt8) (p : Nat), p ≤ l.length → l.length < f + p → l.length < g + p → allF f l p = allF g l p
  | 0, _, _, _, hp, h, _ => absurd h (by omega)
  | _ + 1, 0, _, _, hp, _, h => absurd h (by omega)
  | f + 1, g + 1, l, p, hp, h1, h2 => by
    unfold allF
    split
    · rfl
    · rename_i he
      split
      · rfl
      · rename_i hk
        have := tak_more hp (by omega) hk
        rw [allF_fuel f g l _ this.2.1 (by omega) (by omega)]
def joinA (d : List Wd) (r : List Wd × Nat) : List Wd × Nat := if r.2 ≠ 0 then ([], r.2) else (d ++ r.1, 0)
theorem all_bad {l : List UInt8} {p : Nat} (hp : p ≤ l.length) (h : (tak l p).2 ≠ 0) : all l p = ([], (tak l p).2) := by
  unfold all
  rw [show l.length + 1 - p = (l.length - p) + 1 by omega, allF, if_pos h]
theorem all_end {l : List UInt8} {p : Nat} (hp : p ≤ l.length) (h : (tak l p).2 = 0) (hk : (tak l p).1.k = 11) : all l p = ([], 0) := by
  unfold all
  rw [show l.length + 1 - p = (l.length - p) + 1 by omega, allF, if_neg (by omega), if_pos hk]
theorem all_go {l : List UInt8} {p : Nat} (hp : p ≤ l.length) (h : (tak l p).2 = 0) (hk : (tak l p).1.k ≠ 11) : all l p = joinA [(tak l p).1] (all l (tak l p).1.x) := by
  have hm := tak_more hp h hk
  unfold all joinA
  rw [show l.length + 1 - p = (l.length - p) + 1 by omega, allF, if_neg (by omega), if_neg hk, allF_fuel (l.length - p) (l.length + 1 - (tak l p).1.x) l _ hm.2.1 (by omega) (by omega)]
  split
  · rfl
  · rfl
theorem joinA_joinA (d e : List Wd) (r : List Wd × Nat) : joinA d (joinA e r) = joinA (d ++ e) r := by
  by_cases h : r.2 = 0
  · unfold joinA; simp [h]
  · unfold joinA; simp [h]
def AllAt (l : List UInt8) (d : List Wd) (p : Nat) : Prop := p ≤ l.length ∧ d.length ≤ p ∧ all l 0 = joinA d (all l p)
theorem AllAt.bad {l : List UInt8} {d : List Wd} {p : Nat} (h : AllAt l d p) (he : (tak l p).2 ≠ 0) : all l 0 = ([], (tak l p).2) := by
  rw [h.2.2, all_bad h.1 he]; unfold joinA; rw [if_pos he]
theorem AllAt.done {l : List UInt8} {d : List Wd} {p : Nat} (h : AllAt l d p) (he : (tak l p).2 = 0) (hk : (tak l p).1.k = 11) : all l 0 = (d, 0) := by
  rw [h.2.2, all_end h.1 he hk]; unfold joinA; simp
theorem AllAt.go {l : List UInt8} {d : List Wd} {p : Nat} (h : AllAt l d p) (he : (tak l p).2 = 0) (hk : (tak l p).1.k ≠ 11) : AllAt l (d ++ [(tak l p).1]) (tak l p).1.x ∧ p < (tak l p).1.x := by
  have hm := tak_more h.1 he hk
  refine ⟨⟨hm.2.1, by have := h.2.1; simp; omega, ?_⟩, hm.1⟩
  rw [h.2.2, all_go h.1 he hk, joinA_joinA]
end Go.Proofs.YtlpmcohbbffbfaaDoor.Jx
namespace Go.Proofs.YtlpmcohbbffbfaaDoor.Nm
open Jx
def lt (c : Nat) : Bool := decide ((97 ≤ c ∧ c ≤ 122) ∨ (65 ≤ c ∧ c ≤ 90) ∨ c = 95)
def ch (c : Nat) : Bool := lt c || isD c
def chs (l : List UInt8) : Bool := l.all fun x => ch x.toNat
def simple (l : List UInt8) : Bool := decide (l.length ≠ 0) && decide (l.length ≤ 100) && lt (byt l 0) && chs l
def dotN : Nat → List UInt8 → Int
  | 0, _ => -1
  | i + 1, l => if byt l i = 46 then (i : Int) else dotN i l
def dot (l : List UInt8) : Int := dotN l.length l
theorem dotN_lt : ∀ (i : Nat) (l : List UInt8), -1 ≤ dotN i l ∧ dotN i l < (i : Int)
  | 0, l => by simp [dotN]
  | i + 1, l => by
    unfold dotN
    have := dotN_lt i l
    split <;> omega
theorem dotN_at : ∀ (i : Nat) (l : List UInt8) (k : Nat), dotN i l = (k : Int) → byt l k = 46 ∧ ∀ j, k < j → j < i → byt l j ≠ 46
  | 0, l, k, h => by unfold dotN at h; omega
  | i + 1, l, k, h => by
    unfold dotN at h
    split at h
    · rename_i h1
      obtain rfl : i = k := by omega
      exact ⟨h1, fun j a b => by omega⟩
    · rename_i h1
      have ih := dotN_at i l k h
      refine ⟨ih.1, fun j a b => ?_⟩
      rcases Nat.lt_or_ge j i with g | g
      · exact ih.2 j a g
      · obtain rfl : j = i := by omega
        exact h1
theorem dotN_no : ∀ (i : Nat) (l : List UInt8), dotN i l < 0 → ∀ j, j < i → byt l j ≠ 46
  | 0, l, _, j, hj => absurd hj (Nat.not_lt_zero _)
  | i + 1, l, h, j, hj => by
    unfold dotN at h
    split at h
    · omega
    · rename_i h1
      rcases Nat.lt_or_ge j i with g | g
      · exact dotN_no i l h j g
      · obtain rfl : j = i := by omega
        exact h1
theorem dotN_none : ∀ (i : Nat) (l : List UInt8), (∀ j, j < i → byt l j ≠ 46) → dotN i l = -1
  | 0, _, _ => rfl
  | i + 1, l, h => by
    unfold dotN
    rw [if_neg (h i (by omega)), dotN_none i l (fun j hj => h j (by omega))]
theorem dot_lt (l : List UInt8) : -1 ≤ dot l ∧ dot l < (l.length : Int) := dotN_lt _ l
theorem dot_place {l : List UInt8} (h : 0 ≤ dot l) : ∃ k : Nat, dot l = (k : Int) ∧ k < l.length ∧ byt l k = 46 ∧ ∀ j, k < j → j < l.length → byt l j ≠ 46 := by
  obtain ⟨k, hk⟩ : ∃ k : Nat, dot l = (k : Int) := ⟨(dot l).toNat, by omega⟩
  have := dot_lt l
  have a := dotN_at l.length l k hk
  exact ⟨k, hk, by omega, a.1, a.2⟩
def fullF : Nat → List UInt8 → Bool
  | 0, _ => false
  | f + 1, l => if 0 ≤ dot l then simple (l.drop (dot l + 1).toNat) && fullF f (l.take (dot l).toNat) else simple l
def full (l : List UInt8) : Bool := decide (l.length ≤ 100) && fullF (l.length + 1) l
def space (l : List UInt8) : List UInt8 := if dot l < 0 then [] else l.take (dot l).toNat
def last (l : List UInt8) : List UInt8 := l.drop (dot l + 1).toNat
theorem fullF_fuel : ∀ (f g : Nat) (l : List UInt8), l.length < f → l.length < g → fullF f l = fullF g l
  | 0, _, _, h, _ => absurd h (Nat.not_lt_zero _)
  | _ + 1, 0, _, _, h => absurd h (Nat.not_lt_zero _)
  | f + 1, g + 1, l, h1, h2 => by
    unfold fullF
    split
    · rename_i h
      have := dot_lt l
      rw [fullF_fuel f g (l.take (dot l).toNat) (by rw [List.length_take]; omega) (by rw [List.length_take]; omega)]
    · rfl
theorem full_go {l : List UInt8} (h : 0 ≤ dot l) : full l = (decide (l.length ≤ 100) && (simple (last l) && full (space l))) := by
  have d := dot_lt l
  have e : space l = l.take (dot l).toNat := by unfold space; rw [if_neg (by omega)]
  unfold full
  rw [fullF, if_pos h, e]
  have hl : (l.take (dot l).toNat).length = (dot l).toNat := by rw [List.length_take]; omega
  rw [fullF_fuel l.length ((l.take (dot l).toNat).length + 1) (l.take (dot l).toNat) (by omega) (by omega), hl]
  unfold last
  by_cases h100 : l.length ≤ 100
  · rw [show decide ((dot l).toNat ≤ 100) = true by simp; omega]; simp
  · simp [h100]
theorem full_one {l : List UInt8} (h : dot l < 0) : full l = simple l := by
  unfold full
  rw [fullF, if_neg (by omega)]
  unfold simple
  by_cases h100 : l.length ≤ 100 <;> simp [h100]
theorem last_no (l : List UInt8) : dot (last l) < 0 := by
  have d := dot_lt l
  have : dot (last l) = -1 := by
    refine dotN_none _ _ fun j hj => ?_
    unfold last at hj ⊢
    rw [List.length_drop] at hj
    rw [byt_drop]
    rcases Int.lt_or_le (dot l) 0 with h | h
    · exact dotN_no l.length l h _ (by omega)
    · obtain ⟨k, hk, _, _, h2⟩ := dot_place h
      exact h2 _ (by omega) (by omega)
  omega
end Go.Proofs.YtlpmcohbbffbfaaDoor.Nm
namespace Go.Proofs.YtlpmcohbbffbfaaDoor.Nm
def word (k : Int) : List UInt8 :=
  if k = 1 then [110, 117, 108, 108] else if k = 2 then [98, 111, 111, 108, 101, 97, 110] else if k = 3 then [105, 110, 116] else if k = 4 then [108, 111, 110, 103] else if k = 5 then [102, 108, 111, 97, 116]
  else if k = 6 then [100, 111, 117, 98, 108, 101] else if k = 7 then [98, 121, 116, 101, 115] else if k = 8 then [115, 116, 114, 105, 110, 103] else if k = 9 then [114, 101, 99, 111, 114, 100] else if k = 10 then [101, 110, 117, 109]
  else if k = 11 then [97, 114, 114, 97, 121] else if k = 12 then [109, 97, 112] else if k = 14 then [102, 105, 120, 101, 100] else []
def kindF : Nat → Nat → List UInt8 → Nat
  | 0, _, _ => 0
  | f + 1, k, s => if s ≠ [] ∧ word (k : Int) = s then k else kindF f (k + 1) s
def kind (s : List UInt8) : Nat := kindF 14 1 s
end Go.Proofs.YtlpmcohbbffbfaaDoor.Nm
namespace Go.Proofs.YtlpmcohbbffbfaaDoor.Jp
open Jx
def nil_ : ByteArray := ⟨#[]⟩
def str (t : List UInt8) : ByteArray := ⟨t.toArray⟩
abbrev R := J × Nat × Nat
def bad (e : Nat) : R := (J.zero, 0, e)
def wlF : Nat → List UInt8 → Nat → List Wd
  | 0, _, _ => []
  | f + 1, l, p => if (tak l p).2 ≠ 0 then [⟨0, ((tak l p).2 : Int), [], 0, 0⟩] else if (tak l p).1.k = 11 then [(tak l p).1] else (tak l p).1 :: wlF f l (tak l p).1.x
def wl (l : List UInt8) (p : Nat) : List Wd := wlF (l.length + 1 - p) l p
theorem wlF_fuel : ∀ (f g : Nat) (l : List UInt8) (p : Nat), p ≤ l.length → l.length < f + p → l.length < g + p → wlF f l p = wlF g l p
  | 0, _, l, p, hp, h, _ => absurd h (by omega)
  | _ + 1, 0, l, p, hp, _, h => absurd h (by omega)
  | f + 1, g + 1, l, p, hp, h1, h2 => by
    unfold wlF
    split
    · rfl
    · rename_i he
      split
      · rfl
      · rename_i hk
        have m := tak_more hp (by omega) hk
        rw [wlF_fuel f g l _ m.2.1 (by omega) (by omega)]
theorem wl_bad {l : List UInt8} {p : Nat} (hp : p ≤ l.length) (h : (tak l p).2 ≠ 0) : wl l p = [⟨0, ((tak l p).2 : Int), [], 0, 0⟩] := by
  unfold wl; rw [show l.length + 1 - p = (l.length - p) + 1 by omega]; unfold wlF; rw [if_pos h]
theorem wl_end {l : List UInt8} {p : Nat} (hp : p ≤ l.length) (h : (tak l p).2 = 0) (hk : (tak l p).1.k = 11) : wl l p = [(tak l p).1] := by
  unfold wl; rw [show l.length + 1 - p = (l.length - p) + 1 by omega]; unfold wlF; rw [if_neg (by omega), if_pos hk]
theorem wl_go {l : List UInt8} {p : Nat} (hp : p ≤ l.length) (h : (tak l p).2 = 0) (hk : (tak l p).1.k ≠ 11) : wl l p = (tak l p).1 :: wl l (tak l p).1.x := by
  have m := tak_more hp h hk
  unfold wl; rw [show l.length + 1 - p = (l.length - p) + 1 by omega, wlF, if_neg (by omega), if_neg hk]
  rw [wlF_fuel _ (l.length + 1 - (tak l p).1.x) l _ m.2.1 (by omega) (by omega)]
def At (ws : List Wd) (l : List UInt8) (i p : Nat) : Prop := p ≤ l.length ∧ ws.drop i = wl l p
theorem wl_pos {l : List UInt8} {p : Nat} (hp : p ≤ l.length) : wl l p ≠ [] := by
  by_cases h : (tak l p).2 = 0
  · by_cases hk : (tak l p).1.k = 11
    · rw [wl_end hp h hk]; simp
    · rw [wl_go hp h hk]; simp
  · rw [wl_bad hp h]; simp
theorem At.lt {ws : List Wd} {l : List UInt8} {i p : Nat} (h : At ws l i p) : i < ws.length := by
  rcases Nat.lt_or_ge i ws.length with g | g
  · exact g
  · have := h.2; rw [List.drop_eq_nil_of_le g] at this; exact absurd this.symm (wl_pos h.1)
def wd (r : Wd × Nat) : Wd := if r.2 = 0 then r.1 else ⟨0, (r.2 : Int), [], 0, 0⟩
theorem At.word {ws : List Wd} {l : List UInt8} {i p : Nat} (h : At ws l i p) : ws[i]'h.lt = wd (tak l p) := by
  have e := h.2
  rw [List.drop_eq_getElem_cons h.lt] at e
  unfold wd
  by_cases g : (tak l p).2 = 0
  · rw [if_pos g]
    by_cases hk : (tak l p).1.k = 11
    · rw [wl_end h.1 g hk] at e; exact (List.cons.inj e).1
    · rw [wl_go h.1 g hk] at e; exact (List.cons.inj e).1
  · rw [if_neg g]; rw [wl_bad h.1 g] at e; exact (List.cons.inj e).1
theorem At.next {ws : List Wd} {l : List UInt8} {i p : Nat} (h : At ws l i p) (g : (tak l p).2 = 0) (hk : (tak l p).1.k ≠ 11) : At ws l (i + 1) (tak l p).1.x ∧ p < (tak l p).1.x := by
  have e := h.2
  rw [List.drop_eq_getElem_cons h.lt, wl_go h.1 g hk] at e
  have m := tak_more h.1 g hk
  exact ⟨⟨m.2.1, (List.cons.inj e).2⟩, m.1⟩
end Go.Proofs.YtlpmcohbbffbfaaDoor.Jp
namespace Go.Proofs.YtlpmcohbbffbfaaDoor
open Num
mutual
/-- May a tree be, but for how deep it is? -/
def J.frm : J → Prop
  | .mk k n t its ks => 1 ≤ k ∧ k ≤ 6 ∧ (k ≠ 2 → k ≠ 3 → n = 0) ∧ (k = 2 → n = 0 ∨ n = 1) ∧ (k ≠ 4 → t = Jp.nil_) ∧ (cU t.data.toList).isSome = true ∧ (k < 5 → its = []) ∧ (k ≠ 6 → ks = []) ∧ (k = 6 → ks.length = its.length) ∧ (∀ x ∈ ks, (cU x.data.toList).isSome = true) ∧ ks.Nodup ∧ J.frms its
def J.frms : List J → Prop
  | [] => True
  | j :: r => J.frm j ∧ J.frms r
end
theorem J.frms_iff : ∀ {l : List J}, J.frms l ↔ ∀ i (h : i < l.length), (l[i]'h).frm
  | [] => ⟨fun _ i h => absurd h (Nat.not_lt_zero _), fun _ => by unfold J.frms; trivial⟩
  | j :: r => by
    unfold J.frms
    rw [J.frms_iff (l := r)]
    constructor
    · intro h i hi
      cases i with
      | zero => exact h.1
      | succ i => exact h.2 i (by simpa using hi)
    · intro h
      exact ⟨h 0 (by simp), fun i hi => by have := h (i + 1) (by simpa using hi); simpa using this⟩
noncomputable def J.frmb (t : J) : Bool := @decide t.frm (Classical.propDecidable _)
theorem J.frmb_iff {t : J} : t.frmb = true ↔ t.frm := by unfold J.frmb; simp
noncomputable def J.rightb (t : J) : Bool := decide (t.deep ≤ 32) && t.frmb
theorem J.rightb_iff {t : J} : t.rightb = true ↔ t.deep ≤ 32 ∧ t.frm := by unfold J.rightb; rw [Bool.and_eq_true, decide_eq_true_eq, J.frmb_iff]
end Go.Proofs.YtlpmcohbbffbfaaDoor
namespace Go.Proofs.YtlpmcohbbffbfaaDoor
def zJ : J := .mk 0 0 ⟨#[]⟩ [] []
def okName (t : ByteArray) : Prop := Nm.full t.data.toList = true ∧ Nm.kind t.data.toList = 0
def okFulls (l : List ByteArray) : Prop := l.length ≤ 40 ∧ ∀ t ∈ l, Nm.full t.data.toList = true
def okSimples (l : List ByteArray) : Prop := l.length ≤ 40 ∧ ∀ t ∈ l, Nm.simple t.data.toList = true
def Fd.ok (f : Fd) : Prop := okSimples f.al ∧ (if f.has = true then f.df.deep ≤ 32 ∧ f.df.frm else f.df = zJ)
def Nd.ok (s : Sc) (n : Nd) : Prop := 1 ≤ n.k ∧ n.k ≤ 14 ∧
  (if named n.k = true then okName n.name ∧ okFulls n.al else n.name = ⟨#[]⟩ ∧ n.al = []) ∧
  (if n.k = 9 then okSimples (n.fs.map Fd.name) ∧ (n.fs.map Fd.name).Nodup ∧ ∀ f ∈ n.fs, f.ok else n.fs = []) ∧
  (if n.k = 10 then n.sy ≠ [] ∧ okSimples n.sy ∧ n.sy.Nodup ∧ (if n.has = true then n.df ∈ n.sy else n.df = ⟨#[]⟩) else n.sy = [] ∧ n.has = false ∧ n.df = ⟨#[]⟩) ∧
  (if n.k = 14 then 0 ≤ n.size ∧ n.size ≤ 1000 else n.size = 0) ∧
  (if n.k = 11 ∨ n.k = 12 then True else n.items = 0) ∧
  (if n.k = 13 then n.br ≠ [] ∧ n.br.length ≤ 10 ∧ (∀ b ∈ n.br, s.kind b ≠ 13) ∧ n.br.Pairwise (fun a b => a ≠ b ∧ (s.kind a ≠ s.kind b ∨ named (s.kind a) = true)) else n.br = [])
def Sc.names (s : Sc) : List ByteArray := (s.nodes.filter fun n => named n.k).map Nd.name
def Sc.right (s : Sc) : Prop := s.ordered ∧ (∀ n ∈ s.nodes, n.ok s) ∧ (∀ i, i < s.nodes.length → s.wt i ≤ 1000) ∧ s.names.Nodup
end Go.Proofs.YtlpmcohbbffbfaaDoor
namespace Go.Proofs.YtlpmcohbbffbfaaDoor
def VJust (k n bt : Int) (nb ni nk : Nat) : Prop := (k = 2 ∨ k = 3 ∨ k = 4 ∨ k = 10 ∨ k = 13 ∨ n = 0) ∧ (k = 5 ∨ k = 6 ∨ bt = 0) ∧ (k = 7 ∨ k = 8 ∨ k = 14 ∨ nb = 0) ∧ (k = 9 ∨ k = 11 ∨ k = 12 ∨ k = 13 ∨ ni = 0) ∧ (k = 12 ∨ nk = 0)
def keysOk (ks : List ByteArray) : Prop := ∀ i (h : i < ks.length), (ks[i]'h).size ≤ 20000 ∧ (Num.cU (ks[i]'h).data.toList).isSome = true
theorem keysOk_iff {ks : List ByteArray} : keysOk ks ↔ ∀ x ∈ ks, x.size ≤ 20000 ∧ (Num.cU x.data.toList).isSome = true :=
  ⟨fun h x hx => by obtain ⟨i, hi, rfl⟩ := List.getElem_of_mem hx; exact h i hi, fun h i hi => h _ (List.getElem_mem hi)⟩
section
variable {s : Sc} {p : Nat} (hp : p < s.nodes.length) {k n bt : Int} {bs : List UInt8} {its : List V} {ks : List ByteArray}
theorem Sc.node_at {s : Sc} {p : Nat} (hp : p < s.nodes.length) : s.node (p : Int) = s.nodes[p]'hp := by
  unfold Sc.node
  rw [Int.toNat_natCast, List.getElem?_eq_getElem hp]; rfl
include hp in
theorem V.is_at : V.is s (.mk k n bt bs its ks) (p : Int) ↔ k = (s.nodes[p]'hp).k ∧ bs.length ≤ 20000 ∧ its.length ≤ 300 ∧ VOwn (s.nodes[p]'hp) n bt bs its.length ks ∧ V.all s its (VKids (s.nodes[p]'hp) n its.length) := by
  unfold V.is
  rw [Sc.node_at hp]
  constructor
  · rintro ⟨_, _, h⟩; exact h
  · intro h; exact ⟨by omega, by omega, h⟩
theorem V.is_not (h : ¬ k = (s.nodes[p]'hp).k) : ¬ V.is s (.mk k n bt bs its ks) (p : Int) := fun g => h ((V.is_at hp).1 g).1
theorem vown_iff {nd : Nd} {m : Nat} (hs : nd.k = 14 → nd.size ≤ 1000) : (bs.length ≤ 20000 ∧ m ≤ 300 ∧ VOwn nd n bt bs m ks ∧ (nd.k = 9 ∨ nd.k = 11 ∨ nd.k = 12 ∨ nd.k = 13 ∨ m = 0)) ↔ VJust nd.k n bt bs.length m ks.length ∧ m ≤ 300 ∧
    (nd.k = 2 → n = 0 ∨ n = 1) ∧ (nd.k = 3 → -2147483648 ≤ n ∧ n ≤ 2147483647) ∧ (nd.k = 10 → 0 ≤ n ∧ n < (nd.sy.length : Int)) ∧ (nd.k = 13 → 0 ≤ n ∧ n < (nd.br.length : Int)) ∧ (nd.k = 5 → bt ≤ 4294967295) ∧
    (nd.k = 7 → bs.length ≤ 20000) ∧ (nd.k = 8 → (Num.cU bs).isSome = true ∧ bs.length ≤ 20000) ∧ (nd.k = 14 → (bs.length : Int) = nd.size) ∧ (nd.k = 12 → ks.length = m ∧ keysOk ks) := by
  have e1 : bs = [] ↔ bs.length = 0 := List.length_eq_zero_iff.symm
  have e2 : ks = [] ↔ ks.length = 0 := List.length_eq_zero_iff.symm
  unfold VOwn VJust
  rw [e1, e2, ← keysOk_iff]
  generalize keysOk ks = KO
  generalize ((Num.cU bs).isSome = true) = CO
  generalize bs.length = nb
  generalize ks.length = nk
  generalize (nd.sy.length : Int) = ls
  generalize (nd.br.length : Int) = lb
  generalize nd.size = sz at *
  generalize nd.k = K at *
  constructor
  · rintro ⟨h1, h2, ⟨h3, h4, h5, h6⟩, h7⟩
    refine ⟨⟨?_, ?_, ?_, ?_, ?_⟩, h2, ?_, ?_, ?_, ?_, ?_, ?_, ?_, ?_, ?_⟩
    · by_cases c2 : K = 2
      · exact .inl c2
      by_cases c3 : K = 3
      · exact .inr (.inl c3)
      by_cases c4 : K = 4
      · exact .inr (.inr (.inl c4))
      by_cases c10 : K = 10
      · exact .inr (.inr (.inr (.inl c10)))
      by_cases c13 : K = 13
      · exact .inr (.inr (.inr (.inr (.inl c13))))
      rw [if_neg c2, if_neg c3, if_neg c4, if_neg c10, if_neg c13] at h3
      exact .inr (.inr (.inr (.inr (.inr h3))))
    · by_cases c5 : K = 5
      · exact .inl c5
      by_cases c6 : K = 6
      · exact .inr (.inl c6)
      rw [if_neg c5, if_neg c6] at h4
      exact .inr (.inr h4)
    · by_cases c7 : K = 7
      · exact .inl c7
      by_cases c8 : K = 8
      · exact .inr (.inl c8)
      by_cases c14 : K = 14
      · exact .inr (.inr (.inl c14))
      rw [if_neg c7, if_neg c8, if_neg c14] at h5
      exact .inr (.inr (.inr h5))
    · exact h7
    · by_cases c12 : K = 12
      · exact .inl c12
      rw [if_neg c12] at h6
      exact .inr h6
    · rintro rfl; simpa using h3
    · rintro rfl; simpa using h3
    · rintro rfl; simpa using h3
    · rintro rfl; simpa using h3
    · rintro rfl
      have h4 : bt < 4294967296 := by simpa using h4
      clear h1 h2 h3 h5 h6 h7 hs
      omega
    · rintro _; exact h1
    · rintro rfl; exact ⟨by simpa using h5, h1⟩
    · rintro rfl; simpa using h5
    · rintro rfl; simpa using h6
  · rintro ⟨⟨j1, j2, j3, j4, j5⟩, h2, g2, g3, g10, g13, g5, g7, g8, g14, g12⟩
    refine ⟨?_, h2, ⟨?_, ?_, ?_, ?_⟩, j4⟩
    · by_cases c7 : K = 7
      · exact g7 c7
      by_cases c8 : K = 8
      · exact (g8 c8).2
      by_cases c14 : K = 14
      · have a := g14 c14
        have b := hs c14
        clear j1 j2 j3 j4 j5 h2 g2 g3 g10 g13 g5 g7 g8 g14 g12 hs
        omega
      · exact Nat.le_trans (Nat.le_of_eq (((j3.resolve_left c7).resolve_left c8).resolve_left c14)) (Nat.zero_le _)
    · by_cases c2 : K = 2
      · rw [if_pos c2]; exact g2 c2
      rw [if_neg c2]
      by_cases c3 : K = 3
      · rw [if_pos c3]; exact g3 c3
      rw [if_neg c3]
      by_cases c4 : K = 4
      · rw [if_pos c4]; trivial
      rw [if_neg c4]
      by_cases c10 : K = 10
      · rw [if_pos c10]; exact g10 c10
      rw [if_neg c10]
      by_cases c13 : K = 13
      · rw [if_pos c13]; exact g13 c13
      rw [if_neg c13]
      exact ((((j1.resolve_left c2).resolve_left c3).resolve_left c4).resolve_left c10).resolve_left c13
    · by_cases c5 : K = 5
      · rw [if_pos c5]
        have a := g5 c5
        clear j1 j2 j3 j4 j5 h2 g2 g3 g10 g13 g5 g7 g8 g14 g12 hs
        omega
      rw [if_neg c5]
      by_cases c6 : K = 6
      · rw [if_pos c6]; trivial
      rw [if_neg c6]
      exact (j2.resolve_left c5).resolve_left c6
    · by_cases c7 : K = 7
      · rw [if_pos c7]; trivial
      rw [if_neg c7]
      by_cases c8 : K = 8
      · rw [if_pos c8]; exact (g8 c8).1
      rw [if_neg c8]
      by_cases c14 : K = 14
      · rw [if_pos c14]; exact g14 c14
      rw [if_neg c14]
      exact ((j3.resolve_left c7).resolve_left c8).resolve_left c14
    · by_cases c12 : K = 12
      · rw [if_pos c12]; exact g12 c12
      rw [if_neg c12]
      exact j5.resolve_left c12
theorem vkids_none {nd : Nd} {m : Nat} (h : ¬ (nd.k = 9 ∨ nd.k = 11 ∨ nd.k = 12 ∨ nd.k = 13)) : VKids nd n m = [] := by
  unfold VKids
  rw [if_neg (by omega), if_neg (by omega), if_neg (by omega)]
theorem all_none : V.all s its [] ↔ its.length = 0 := by
  rw [V.all_iff]
  constructor
  · rintro ⟨h, _⟩; simpa using h.symm
  · intro h; exact ⟨by simpa using h.symm, fun i hi => by omega⟩
theorem V.is_leaf (hs : (s.nodes[p]'hp).k = 14 → (s.nodes[p]'hp).size ≤ 1000) (hk : k = (s.nodes[p]'hp).k) (hl : ¬ (k = 9 ∨ k = 11 ∨ k = 12 ∨ k = 13)) : V.is s (.mk k n bt bs its ks) (p : Int) ↔ VJust k n bt bs.length its.length ks.length ∧
    (k = 2 → n = 0 ∨ n = 1) ∧ (k = 3 → -2147483648 ≤ n ∧ n ≤ 2147483647) ∧ (k = 10 → 0 ≤ n ∧ n < ((s.nodes[p]'hp).sy.length : Int)) ∧ (k = 5 → bt ≤ 4294967295) ∧
    (k = 7 → bs.length ≤ 20000) ∧ (k = 8 → (Num.cU bs).isSome = true ∧ bs.length ≤ 20000) ∧ (k = 14 → (bs.length : Int) = (s.nodes[p]'hp).size) := by
  have v := vown_iff (n := n) (bt := bt) (bs := bs) (ks := ks) (m := its.length) hs
  rw [V.is_at hp]
  generalize s.nodes[p]'hp = nd at *
  subst hk
  rw [vkids_none hl, all_none]
  constructor
  · rintro ⟨_, h1, h2, h3, h4⟩
    obtain ⟨a1, a2, a3, a4, a5, a6, a7, a8, a9, a10, a11⟩ := v.1 ⟨h1, h2, h3, by omega⟩
    exact ⟨a1, a3, a4, a5, a7, a8, a9, a10⟩
  · rintro ⟨a1, a3, a4, a5, a7, a8, a9, a10⟩
    have z : its.length = 0 := by have := a1.2.2.2.1; omega
    obtain ⟨b1, b2, b3, _⟩ := v.2 ⟨a1, by omega, a3, a4, a5, (fun h => by omega), a7, a8, a9, a10, (fun h => by omega)⟩
    exact ⟨rfl, b1, b2, b3, z⟩
theorem V.is_part (hk : k = (s.nodes[p]'hp).k) (hl : k = 9 ∨ k = 11 ∨ k = 12 ∨ k = 13) : V.is s (.mk k n bt bs its ks) (p : Int) ↔ VJust k n bt bs.length its.length ks.length ∧ its.length ≤ 300 ∧ (k = 13 → 0 ≤ n ∧ n < ((s.nodes[p]'hp).br.length : Int)) ∧ (k = 12 → ks.length = its.length ∧ keysOk ks) ∧
    (VKids (s.nodes[p]'hp) n its.length).length = its.length ∧ ∀ i (h : i < its.length) (g : i < (VKids (s.nodes[p]'hp) n its.length).length), V.is s (its[i]'h) ((VKids (s.nodes[p]'hp) n its.length)[i]'g) := by
  have v := vown_iff (nd := s.nodes[p]'hp) (n := n) (bt := bt) (bs := bs) (ks := ks) (m := its.length) (fun h => by omega)
  rw [V.is_at hp, V.all_iff]
  generalize s.nodes[p]'hp = nd at *
  subst hk
  constructor
  · rintro ⟨_, h1, h2, h3, h4⟩
    obtain ⟨a1, a2, a3, a4, a5, a6, a7, a8, a9, a10, a11⟩ := v.1 ⟨h1, h2, h3, by omega⟩
    exact ⟨a1, a2, a6, a11, h4⟩
  · rintro ⟨a1, a2, a6, a11, h4⟩
    obtain ⟨b1, b2, b3, _⟩ := v.2 ⟨a1, a2, (fun h => by omega), (fun h => by omega), (fun h => by omega), a6, (fun h => by omega), (fun h => by omega), (fun h => by omega), (fun h => by omega), a11⟩
    exact ⟨rfl, b1, b2, b3, h4⟩
theorem V.is_9 (hk : (s.nodes[p]'hp).k = 9) (hf : (s.nodes[p]'hp).fs.length ≤ 300) : V.is s (.mk 9 n bt bs its ks) (p : Int) ↔ VJust 9 n bt bs.length its.length ks.length ∧ (its.length = (s.nodes[p]'hp).fs.length ∧ ∀ i (h : i < its.length) (g : i < (s.nodes[p]'hp).fs.length), V.is s (its[i]'h) ((s.nodes[p]'hp).fs[i]'g).ty) := by
  rw [V.is_part hp hk.symm (.inl rfl)]
  have e : VKids (s.nodes[p]'hp) n its.length = (s.nodes[p]'hp).fs.map Fd.ty := by unfold VKids; rw [if_pos hk]
  rw [e]
  have lm : ((s.nodes[p]'hp).fs.map Fd.ty).length = (s.nodes[p]'hp).fs.length := List.length_map ..
  generalize s.nodes[p]'hp = nd at *
  constructor
  · rintro ⟨h1, _, _, _, h2, h3⟩
    exact ⟨h1, h2.symm.trans lm, fun i h g => by have := h3 i h (by rw [List.length_map]; exact g); rwa [List.getElem_map] at this⟩
  · rintro ⟨h1, h2, h3⟩
    exact ⟨h1, by omega, (fun h => by omega), (fun h => by omega), lm.trans h2.symm, fun i h g => by rw [List.getElem_map]; exact h3 i h (by rw [List.length_map] at g; exact g)⟩
theorem V.is_11 (hk : (s.nodes[p]'hp).k = 11) : V.is s (.mk 11 n bt bs its ks) (p : Int) ↔ VJust 11 n bt bs.length its.length ks.length ∧ (its.length ≤ 300 ∧ ∀ i (h : i < its.length), V.is s (its[i]'h) (s.nodes[p]'hp).items) := by
  rw [V.is_part hp hk.symm (.inr (.inl rfl))]
  have e : VKids (s.nodes[p]'hp) n its.length = List.replicate its.length (s.nodes[p]'hp).items := by unfold VKids; rw [if_neg (by omega), if_pos (.inl hk)]
  rw [e]
  generalize s.nodes[p]'hp = nd at *
  constructor
  · rintro ⟨h1, h0, _, _, h2, h3⟩
    exact ⟨h1, h0, fun i h => by have := h3 i h (by rw [List.length_replicate]; exact h); rwa [List.getElem_replicate] at this⟩
  · rintro ⟨h1, h2, h3⟩
    exact ⟨h1, h2, (fun h => by omega), (fun h => by omega), List.length_replicate, fun i h g => by rw [List.getElem_replicate]; exact h3 i h⟩
theorem V.is_12 (hk : (s.nodes[p]'hp).k = 12) : V.is s (.mk 12 n bt bs its ks) (p : Int) ↔ VJust 12 n bt bs.length its.length ks.length ∧ (ks.length = its.length ∧ keysOk ks) ∧ (its.length ≤ 300 ∧ ∀ i (h : i < its.length), V.is s (its[i]'h) (s.nodes[p]'hp).items) := by
  rw [V.is_part hp hk.symm (.inr (.inr (.inl rfl)))]
  have e : VKids (s.nodes[p]'hp) n its.length = List.replicate its.length (s.nodes[p]'hp).items := by unfold VKids; rw [if_neg (by omega), if_pos (.inr hk)]
  rw [e]
  generalize s.nodes[p]'hp = nd at *
  constructor
  · rintro ⟨h1, h0, _, h4, h2, h3⟩
    exact ⟨h1, h4 rfl, h0, fun i h => by have := h3 i h (by rw [List.length_replicate]; exact h); rwa [List.getElem_replicate] at this⟩
  · rintro ⟨h1, h4, h2, h3⟩
    exact ⟨h1, h2, (fun h => by omega), (fun _ => h4), List.length_replicate, fun i h g => by rw [List.getElem_replicate]; exact h3 i h⟩
theorem V.is_13 (hk : (s.nodes[p]'hp).k = 13) : V.is s (.mk 13 n bt bs its ks) (p : Int) ↔ VJust 13 n bt bs.length its.length ks.length ∧ (0 ≤ n ∧ n < ((s.nodes[p]'hp).br.length : Int)) ∧ its.length = 1 ∧ (∃ h : 0 < its.length, V.is s (its[0]'h) ((s.nodes[p]'hp).br.getD n.toNat 0)) := by
  rw [V.is_part hp hk.symm (.inr (.inr (.inr rfl)))]
  have e : VKids (s.nodes[p]'hp) n its.length = ((s.nodes[p]'hp).br[n.toNat]?).toList := by unfold VKids; rw [if_neg (by omega), if_neg (by omega), if_pos hk]
  rw [e]
  generalize s.nodes[p]'hp = nd at *
  constructor
  · rintro ⟨h1, h0, h5, _, h2, h3⟩
    have h5 := h5 rfl
    have hl : n.toNat < nd.br.length := by omega
    have ek : (nd.br[n.toNat]?).toList = [nd.br.getD n.toNat 0] := by rw [List.getElem?_eq_getElem hl, List.getD_eq_getElem?_getD, List.getElem?_eq_getElem hl]; rfl
    rw [ek] at h2
    have l1 : its.length = 1 := by simpa using h2.symm
    refine ⟨h1, h5, l1, by omega, ?_⟩
    have := h3 0 (by omega) (by rw [ek]; simp)
    simpa [ek] using this
  · rintro ⟨h1, h5, l1, h0, h3⟩
    have hl : n.toNat < nd.br.length := by omega
    have ek : (nd.br[n.toNat]?).toList = [nd.br.getD n.toNat 0] := by rw [List.getElem?_eq_getElem hl, List.getD_eq_getElem?_getD, List.getElem?_eq_getElem hl]; rfl
    refine ⟨h1, by omega, (fun _ => h5), (fun h => by omega), by rw [ek, l1]; rfl, fun i h g => ?_⟩
    obtain rfl : i = 0 := by omega
    simpa [ek] using h3
end
end Go.Proofs.YtlpmcohbbffbfaaDoor
namespace Go.Proofs.YtlpmcohbbffbfaaDoor
open Go.ChangeShapes Go.WideShapes Go.ChangeAt Go.RowKit Mem
def Tells (P : Prop) (w : World) (e : Ending) (w' : World) : Prop := ∃ b : Bool, e = .returned (.bool b) ∧ (b = true ↔ P) ∧ Below w.heap.size w w'
theorem tells_yes {P : Prop} {b : Bool} {w w' : World} (hb : b = true) (h : P) (k : Below w.heap.size w w') : Tells P w (.returned (.bool b)) w' := ⟨b, rfl, ⟨fun _ => h, fun _ => hb⟩, k⟩
theorem tells_no {P : Prop} {b : Bool} {w w' : World} (hb : b = false) (h : ¬ P) (k : Below w.heap.size w w') : Tells P w (.returned (.bool b)) w' := ⟨b, rfl, ⟨fun g => (by rw [hb] at g; cases g), fun g => absurd g h⟩, k⟩
theorem zJ_lies {w : World} {S : Nat → Prop} : Lies w S zJ.enc [.int .i64 0, .int .i64 0, .string ⟨#[]⟩, .slice none 0 0, .slice none 0 0] := by
  refine tree_lies.2 ?_
  unfold zJ TreeS
  exact ⟨none, 0, none, 0, rfl, ⟨Nat.le_refl _, Nat.zero_le _⟩, ⟨Nat.le_refl _, Nat.zero_le _⟩, (by unfold RowS; trivial), .inl rfl⟩
theorem J.same_iff_ {a b : J} : J.same a b = true ↔ a = b := by
  constructor
  · intro h
    refine Classical.byContradiction fun g => ?_
    rw [J.same_no g] at h; cases h
  · intro h; subst h; exact J.same_refl _
theorem Tells.iff {P Q : Prop} {w : World} {e : Ending} {w' : World} (h : Tells P w e w') (k : P ↔ Q) : Tells Q w e w' := by
  obtain ⟨b, h1, h2, h3⟩ := h
  exact ⟨b, h1, h2.trans k, h3⟩
theorem told_tells {b : Bool} {P : Prop} {w : World} {e : Ending} {w' : World} (h : Told b w e w') (k : b = true ↔ P) : Tells P w e w' := ⟨b, h.1, k, h.2⟩
def unionOk (s : Sc) (br : List Int) : Prop := br ≠ [] ∧ br.length ≤ 10 ∧ (∀ b ∈ br, s.kind b ≠ 13) ∧ br.Pairwise (fun a b => a ≠ b ∧ (s.kind a ≠ s.kind b ∨ named (s.kind a) = true))
theorem kind_cell {s : Sc} {w : World} {S : Nat → Prop} {A : Option Addr} (h : RowD w S 10 (s.nodes.map Nd.enc) A) {p : Int} (h0 : 0 ≤ p) (h1 : p < (s.nodes.length : Int)) : ∃ q b o, p = ((q : Nat) : Int) ∧ q < s.nodes.length ∧ A = some ⟨b, o, none⟩ ∧ w.cell? ⟨b, o + q * 10, none⟩ = some (.int .i64 (s.kind p)) := by
  have hq : p.toNat < s.nodes.length := by omega
  obtain ⟨b, o, X2, x2, X3, x3, X4, x4, X9, x9, e1, _, ⟨y0, _⟩, _⟩ := nodes_at h hq
  refine ⟨p.toNat, b, o, by omega, hq, e1, ?_⟩
  rw [y0]
  unfold Sc.kind
  rw [if_pos h0, List.getElem?_eq_getElem hq]; rfl
def Nd.z (k : Int) : Nd := ⟨k, ⟨#[]⟩, [], [], [], false, ⟨#[]⟩, 0, 0, []⟩
def enumOk (n : Nd) : Prop := n.sy ≠ [] ∧ okSimples n.sy ∧ n.sy.Nodup ∧ (if n.has = true then n.df ∈ n.sy else n.df = ⟨#[]⟩)
def recOk (n : Nd) : Prop := okSimples (n.fs.map Fd.name) ∧ (n.fs.map Fd.name).Nodup ∧ ∀ f ∈ n.fs, f.ok
theorem z_lies {w : World} {S : Nat → Prop} {k : Int} : Lies w S (Nd.z k).enc [.int .i64 k, .string ⟨#[]⟩, .slice none 0 0, .slice none 0 0, .slice none 0 0, .bool false, .string ⟨#[]⟩, .int .i64 0, .int .i64 0, .slice none 0 0] :=
  Nd.out.2 ⟨none, 0, none, 0, none, 0, none, 0, rfl, ⟨Nat.le_refl _, Nat.zero_le _⟩, .inl rfl, ⟨Nat.le_refl _, Nat.zero_le _⟩, RowD.nil_ _ _ _ _, ⟨Nat.le_refl _, Nat.zero_le _⟩, .inl rfl, ⟨Nat.le_refl _, Nat.zero_le _⟩, RowD.nil_ _ _ _ _⟩
theorem ok_prim {s : Sc} {n : Nd} (hk : 1 ≤ n.k ∧ n.k ≤ 8) : n.ok s ↔ (⟨n.k, n.name, n.al, n.fs, n.sy, n.has, n.df, n.size, n.items, n.br⟩ : Nd) = Nd.z n.k := by
  obtain ⟨k, name, al, fs, sy, has, df, size, items, br⟩ := n
  simp only at hk
  simp only [Nd.ok, Nd.z, named, Nd.mk.injEq, true_and]
  have e9 : ¬ k = 9 := by omega
  have e10 : ¬ k = 10 := by omega
  have e11 : ¬ k = 11 := by omega
  have e12 : ¬ k = 12 := by omega
  have e13 : ¬ k = 13 := by omega
  have e14 : ¬ k = 14 := by omega
  simp only [e9, e10, e11, e12, e13, e14, if_false, or_false, decide_false, Bool.false_eq_true]
  constructor
  · rintro ⟨_, _, ⟨h1, h2⟩, h3, ⟨h4, h5, h6⟩, h7, h8, h9⟩
    exact ⟨h1, h2, h3, h4, h5, h6, h7, h8, h9⟩
  · rintro ⟨h1, h2, h3, h4, h5, h6, h7, h8, h9⟩
    exact ⟨by omega, by omega, ⟨h1, h2⟩, h3, ⟨h4, h5, h6⟩, h7, h8, h9⟩
theorem ok_11 {s : Sc} {n : Nd} (hk : n.k = 11) : n.ok s ↔ (⟨11, n.name, n.al, n.fs, n.sy, n.has, n.df, n.size, 0, n.br⟩ : Nd) = Nd.z 11 := by
  obtain ⟨k, name, al, fs, sy, has, df, size, items, br⟩ := n
  simp only at hk
  subst hk
  simp only [Nd.ok, Nd.z, named, Nd.mk.injEq, true_and]
  simp
  constructor
  · rintro ⟨⟨h1, h2⟩, h3, ⟨h4, h5, h6⟩, h7, h9⟩
    exact ⟨h1, h2, h3, h4, h5, h6, h7, h9⟩
  · rintro ⟨h1, h2, h3, h4, h5, h6, h7, h9⟩
    exact ⟨⟨h1, h2⟩, h3, ⟨h4, h5, h6⟩, h7, h9⟩
theorem ok_12 {s : Sc} {n : Nd} (hk : n.k = 12) : n.ok s ↔ (⟨12, n.name, n.al, n.fs, n.sy, n.has, n.df, n.size, 0, n.br⟩ : Nd) = Nd.z 12 := by
  obtain ⟨k, name, al, fs, sy, has, df, size, items, br⟩ := n
  simp only at hk
  subst hk
  simp only [Nd.ok, Nd.z, named, Nd.mk.injEq, true_and]
  simp
  constructor
  · rintro ⟨⟨h1, h2⟩, h3, ⟨h4, h5, h6⟩, h7, h9⟩
    exact ⟨h1, h2, h3, h4, h5, h6, h7, h9⟩
  · rintro ⟨h1, h2, h3, h4, h5, h6, h7, h9⟩
    exact ⟨⟨h1, h2⟩, h3, ⟨h4, h5, h6⟩, h7, h9⟩
theorem ok_13 {s : Sc} {n : Nd} (hk : n.k = 13) : n.ok s ↔ unionOk s n.br ∧ (⟨13, n.name, n.al, n.fs, n.sy, n.has, n.df, n.size, n.items, []⟩ : Nd) = Nd.z 13 := by
  obtain ⟨k, name, al, fs, sy, has, df, size, items, br⟩ := n
  simp only at hk
  subst hk
  simp only [Nd.ok, Nd.z, named, unionOk, Nd.mk.injEq, true_and]
  simp
  constructor
  · rintro ⟨⟨h1, h2⟩, h3, ⟨h4, h5, h6⟩, h7, h8, h9⟩
    exact ⟨h9, h1, h2, h3, h4, h5, h6, h7, h8⟩
  · rintro ⟨h9, h1, h2, h3, h4, h5, h6, h7, h8⟩
    exact ⟨⟨h1, h2⟩, h3, ⟨h4, h5, h6⟩, h7, h8, h9⟩
theorem ok_9 {s : Sc} {n : Nd} (hk : n.k = 9) : n.ok s ↔ (okName n.name ∧ okFulls n.al) ∧ recOk n ∧ (⟨9, ⟨#[]⟩, [], [], n.sy, n.has, n.df, n.size, n.items, n.br⟩ : Nd) = Nd.z 9 := by
  obtain ⟨k, name, al, fs, sy, has, df, size, items, br⟩ := n
  simp only at hk
  subst hk
  simp only [Nd.ok, Nd.z, named, recOk, Nd.mk.injEq, true_and]
  constructor
  · intro h
    simp at h ⊢
    obtain ⟨⟨h1, h2⟩, h3, ⟨h4, h5, h6⟩, h7, h8, h9⟩ := h
    exact ⟨⟨h1, h2⟩, h3, h4, h5, h6, h7, h8, h9⟩
  · intro h
    simp at h ⊢
    obtain ⟨⟨h1, h2⟩, h3, h4, h5, h6, h7, h8, h9⟩ := h
    exact ⟨⟨h1, h2⟩, h3, ⟨h4, h5, h6⟩, h7, h8, h9⟩
theorem ok_10 {s : Sc} {n : Nd} (hk : n.k = 10) : n.ok s ↔ (okName n.name ∧ okFulls n.al) ∧ enumOk n ∧ (⟨10, ⟨#[]⟩, [], n.fs, [], false, ⟨#[]⟩, n.size, n.items, n.br⟩ : Nd) = Nd.z 10 := by
  obtain ⟨k, name, al, fs, sy, has, df, size, items, br⟩ := n
  simp only at hk
  subst hk
  simp only [Nd.ok, Nd.z, named, enumOk, Nd.mk.injEq, true_and]
  constructor
  · intro h
    simp at h ⊢
    obtain ⟨⟨h1, h2⟩, h3, h4, h7, h8, h9⟩ := h
    exact ⟨⟨h1, h2⟩, h4, h3, h7, h8, h9⟩
  · intro h
    simp at h ⊢
    obtain ⟨⟨h1, h2⟩, h4, h3, h7, h8, h9⟩ := h
    exact ⟨⟨h1, h2⟩, h3, h4, h7, h8, h9⟩
theorem ok_14 {s : Sc} {n : Nd} (hk : n.k = 14) : n.ok s ↔ (okName n.name ∧ okFulls n.al) ∧ (0 ≤ n.size ∧ n.size ≤ 1000) ∧ (⟨14, ⟨#[]⟩, [], n.fs, n.sy, n.has, n.df, 0, n.items, n.br⟩ : Nd) = Nd.z 14 := by
  obtain ⟨k, name, al, fs, sy, has, df, size, items, br⟩ := n
  simp only at hk
  subst hk
  simp only [Nd.ok, Nd.z, named, Nd.mk.injEq, true_and]
  constructor
  · intro h
    simp at h ⊢
    obtain ⟨⟨h1, h2⟩, h3, ⟨h4, h5, h6⟩, h7, h8, h9⟩ := h
    exact ⟨⟨h1, h2⟩, h7, h3, h4, h5, h6, h8, h9⟩
  · intro h
    simp at h ⊢
    obtain ⟨⟨h1, h2⟩, h7, h3, h4, h5, h6, h8, h9⟩ := h
    exact ⟨⟨h1, h2⟩, h3, ⟨h4, h5, h6⟩, h7, h8, h9⟩
end Go.Proofs.YtlpmcohbbffbfaaDoor
