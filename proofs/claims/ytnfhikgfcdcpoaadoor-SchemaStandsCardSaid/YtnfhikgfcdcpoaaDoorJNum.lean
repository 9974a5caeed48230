/- Plain mathematics of layer 6: what the words of JSON texts are. -/
import Derived.Test.YtnfhikgfcdcpoaaDoorUNum
namespace Go.Proofs.YtnfhikgfcdcpoaaDoor.Jx
open Num

def isD (c : Nat) : Bool := decide (48 ≤ c ∧ c ≤ 57)
def isL (c : Nat) : Bool := decide ((48 ≤ c ∧ c ≤ 57) ∨ (97 ≤ c ∧ c ≤ 122) ∨ (65 ≤ c ∧ c ≤ 90))
def isW (c : Nat) : Bool := decide (c = 32 ∨ c = 9 ∨ c = 10 ∨ c = 13)
/-- The byte at a place; 0 behind the end. -/
def byt (l : List UInt8) (i : Nat) : Nat := (l.getD i 0).toNat
theorem byt_lt (l : List UInt8) (i : Nat) : byt l i < 256 := (l.getD i 0).toNat_lt
theorem byt_end {l : List UInt8} {i : Nat} (h : l.length ≤ i) : byt l i = 0 := by
  unfold byt; rw [List.getD, List.getElem?_eq_none h]; rfl
theorem byt_pos {l : List UInt8} {i : Nat} (h : byt l i ≠ 0) : i < l.length := by
  rcases Nat.lt_or_ge i l.length with k | k
  · exact k
  · exact absurd (byt_end k) h
theorem byt_drop (l : List UInt8) (p i : Nat) : byt (l.drop p) i = byt l (p + i) := by
  unfold byt; simp [List.getD, List.getElem?_drop]
theorem byt_zero (x : UInt8) (r : List UInt8) : byt (x :: r) 0 = x.toNat := rfl
theorem byt_succ (x : UInt8) (r : List UInt8) (i : Nat) : byt (x :: r) (i + 1) = byt r i := rfl
theorem byt_app {l m : List UInt8} {i : Nat} (h : i < l.length) : byt (l ++ m) i = byt l i := by
  unfold byt; simp [List.getD, List.getElem?_append_left h]
theorem byt_app2 {l m : List UInt8} {i : Nat} (h : l.length ≤ i) : byt (l ++ m) i = byt m (i - l.length) := by
  unfold byt; simp [List.getD, List.getElem?_append_right h]
theorem byt_take {l : List UInt8} {n i : Nat} (h : i < n) : byt (l.take n) i = byt l i := by
  unfold byt; simp [List.getD, h]
/-- Bytes that are kept, with others behind. -/
theorem byt_cut {l m : List UInt8} {n i : Nat} (h : i < n) (k : i < l.length) : byt (l.take n ++ m) i = byt l i := by
  rw [byt_app (by rw [List.length_take]; omega), byt_take h]
theorem byt_cut2 {l m : List UInt8} {n i : Nat} (h : n ≤ i) (k : n ≤ l.length) : byt (l.take n ++ m) i = byt m (i - n) := by
  rw [byt_app2 (by rw [List.length_take]; omega), List.length_take, Nat.min_eq_left k]
theorem byt_toNat (l : List UInt8) (i : Nat) : l.getD i 0 = UInt8.ofNat (byt l i) := by unfold byt; simp
theorem drop_cut {l m : List UInt8} {n p : Nat} (h : p ≤ n) (k : n ≤ l.length) : (l.take n ++ m).drop p = (l.drop p).take (n - p) ++ m := by
  rw [List.drop_append_of_le_length (by rw [List.length_take]; omega), List.drop_take]

/-- How many bytes ahead are so. -/
def cnt (p : Nat → Bool) : List UInt8 → Nat
  | [] => 0
  | x :: r => if p x.toNat = true then cnt p r + 1 else 0
theorem cnt_le (p : Nat → Bool) : ∀ l, cnt p l ≤ l.length
  | [] => Nat.le_refl _
  | x :: r => by unfold cnt; have := cnt_le p r; split <;> simp <;> omega
theorem cnt_in (p : Nat → Bool) : ∀ (l : List UInt8) {k : Nat}, k < cnt p l → p (byt l k) = true
  | [], _, h => absurd h (Nat.not_lt_zero _)
  | x :: r, k, h => by
    unfold cnt at h
    split at h
    · rename_i hx
      cases k with
      | zero => exact hx
      | succ k => exact cnt_in p r (by omega)
    · omega
theorem cnt_out (p : Nat → Bool) : ∀ (l : List UInt8), cnt p l < l.length → p (byt l (cnt p l)) = false
  | [], h => absurd h (Nat.lt_irrefl _)
  | x :: r, h => by
    unfold cnt at h ⊢
    split
    · rename_i hx
      rw [if_pos hx] at h
      exact cnt_out p r (by simpa using h)
    · rename_i hx
      rw [byt_zero]; simpa using hx
theorem cnt_out0 (p : Nat → Bool) (h0 : p 0 = false) (l : List UInt8) : p (byt l (cnt p l)) = false := by
  rcases Nat.lt_or_ge (cnt p l) l.length with h | h
  · exact cnt_out p l h
  · rw [byt_end h, h0]
theorem cnt_eq {p : Nat → Bool} {l : List UInt8} {k : Nat} (hk : k ≤ l.length) (h : ∀ j, j < k → p (byt l j) = true) (h2 : k = l.length ∨ p (byt l k) = false) : cnt p l = k := by
  rcases Nat.lt_trichotomy (cnt p l) k with c | c | c
  · have := cnt_out p l (by omega); rw [h _ c] at this; cases this
  · exact c
  · rcases h2 with h2 | h2
    · have := cnt_le p l; omega
    · have := cnt_in p l c; rw [h2] at this; cases this
theorem cnt_cut {p : Nat → Bool} {l m : List UInt8} {n : Nat} (hn : n ≤ l.length) (h : cnt p l ≤ n) (h2 : cnt p l < n ∨ p (byt m 0) = false) : cnt p (l.take n ++ m) = cnt p l := by
  refine cnt_eq (by simp; omega) (fun j hj => ?_) ?_
  · rw [byt_cut (by omega) (by omega)]; exact cnt_in p l hj
  · rcases h2 with h2 | h2
    · refine .inr ?_
      rw [byt_cut h2 (by omega)]; exact cnt_out p l (by omega)
    · rcases Nat.lt_or_ge (cnt p l) n with h3 | h3
      · refine .inr ?_
        rw [byt_cut h3 (by omega)]; exact cnt_out p l (by omega)
      · refine .inr ?_
        rw [byt_cut2 h3 hn, show cnt p l - n = 0 by omega]; exact h2

/-- The number that digits are. -/
def val (d : List UInt8) : Nat := d.foldl (fun u x => u * 10 + (x.toNat - 48)) 0
theorem val_snoc (d : List UInt8) (x : UInt8) : val (d ++ [x]) = val d * 10 + (x.toNat - 48) := by unfold val; simp
theorem take_snoc {d : List UInt8} {k : Nat} (h : k < d.length) : d.take (k + 1) = d.take k ++ [d.getD k 0] := by
  rw [List.take_succ_eq_append_getElem h]; simp [List.getD, List.getElem?_eq_getElem h]
theorem val_take {d : List UInt8} {k : Nat} (h : k < d.length) : val (d.take (k + 1)) = val (d.take k) * 10 + (byt d k - 48) := by
  rw [take_snoc h, val_snoc]; rfl
theorem val_lt {d : List UInt8} (k : Nat) (hk : k ≤ d.length) (h : ∀ j, j < k → isD (byt d j) = true) : val (d.take k) < 10 ^ k := by
  induction k with
  | zero => simp [val]
  | succ k ih =>
    have i := ih (by omega) (fun j hj => h j (by omega))
    have g := h k (by omega)
    unfold isD at g
    simp only [decide_eq_true_eq] at g
    rw [val_take (by omega), Nat.pow_succ]
    omega
theorem val_ge {d : List UInt8} (h0 : 49 ≤ byt d 0) (k : Nat) (hk : k < d.length) : 10 ^ k ≤ val (d.take (k + 1)) := by
  induction k with
  | zero => rw [val_take hk]; simp [val]; omega
  | succ k ih =>
    have i := ih (by omega)
    rw [val_take hk, Nat.pow_succ]
    omega

/-- A number: what it is, how many bytes it has, the error. -/
def numR (m : Nat) (r : List UInt8) : Int × Nat × Nat :=
  if cnt isD r = 0 ∨ (byt r 0 = 48 ∧ 1 < cnt isD r) ∨ (isL (byt r (cnt isD r)) = true ∧ byt r (cnt isD r) ≠ 101 ∧ byt r (cnt isD r) ≠ 69) then (0, m + cnt isD r, 20)
  else if byt r (cnt isD r) = 46 ∨ isL (byt r (cnt isD r)) = true ∨ 9223372036854775808 < val (r.take (cnt isD r)) ∨ (val (r.take (cnt isD r)) = 9223372036854775808 ∧ m = 0) then (0, m + cnt isD r, 22)
  else (if m = 0 then (val (r.take (cnt isD r)) : Int) else -(val (r.take (cnt isD r)) : Int), m + cnt isD r, 0)
def num (l : List UInt8) : Int × Nat × Nat := if byt l 0 = 45 then numR 1 (l.drop 1) else numR 0 l

/-- A hexadecimal digit, or -1; four of them. -/
def hex (c : Nat) : Int := if 48 ≤ c ∧ c ≤ 57 then (c : Int) - 48 else if 65 ≤ c ∧ c ≤ 70 then (c : Int) - 55 else if 97 ≤ c ∧ c ≤ 102 then (c : Int) - 87 else -1
theorem hex_is (c : Nat) : (48 ≤ c ∧ c ≤ 57 ∧ hex c = (c : Int) - 48) ∨ (65 ≤ c ∧ c ≤ 70 ∧ hex c = (c : Int) - 55) ∨ (97 ≤ c ∧ c ≤ 102 ∧ hex c = (c : Int) - 87) ∨ (hex c = -1 ∧ ¬ (48 ≤ c ∧ c ≤ 57) ∧ ¬ (65 ≤ c ∧ c ≤ 70) ∧ ¬ (97 ≤ c ∧ c ≤ 102)) := by
  unfold hex; split
  · omega
  · split
    · omega
    · split <;> omega
theorem hex_le (c : Nat) : -1 ≤ hex c ∧ hex c ≤ 15 := by have := hex_is c; omega
def four (l : List UInt8) : Int :=
  if hex (byt l 0) < 0 ∨ hex (byt l 1) < 0 ∨ hex (byt l 2) < 0 ∨ hex (byt l 3) < 0 then -1 else ((hex (byt l 0) * 16 + hex (byt l 1)) * 16 + hex (byt l 2)) * 16 + hex (byt l 3)
theorem four_le (l : List UInt8) : -1 ≤ four l ∧ four l ≤ 65535 := by
  have a := hex_le (byt l 0); have b := hex_le (byt l 1); have c := hex_le (byt l 2); have d := hex_le (byt l 3)
  unfold four; split <;> omega
theorem four_len {l : List UInt8} (h : 0 ≤ four l) : 4 ≤ l.length := by
  unfold four at h
  split at h
  · omega
  · have d := hex_is (byt l 3)
    have : byt l 3 ≠ 0 := by omega
    have := byt_pos this
    omega
theorem four_same {l m : List UInt8} (h : ∀ i, i < 4 → byt l i = byt m i) : four l = four m := by
  unfold four; rw [h 0 (by omega), h 1 (by omega), h 2 (by omega), h 3 (by omega)]

/-- What an escape of one byte is. -/
def esc (c : Nat) : Option Nat :=
  if c = 34 ∨ c = 47 ∨ c = 92 then some c else if c = 98 then some 8 else if c = 102 then some 12 else if c = 110 then some 10 else if c = 114 then some 13 else if c = 116 then some 9 else none
/-- What stands behind \u: its character's bytes, and how many bytes the escape has, or both of a pair. -/
def uni (l : List UInt8) : Option (List UInt8 × Nat) :=
  if 55296 ≤ four l ∧ four l ≤ 56319 ∧ byt l 4 = 92 ∧ byt l 5 = 117 then
    if 56320 ≤ four (l.drop 6) ∧ four (l.drop 6) ≤ 57343 then some (ue (65536 + (four l - 55296) * 1024 + four (l.drop 6) - 56320).toNat, 12) else none
  else if isC (four l) then some (ue (four l).toNat, 6) else none
/-- What a text goes on with: a character, or an escape. -/
def item (l : List UInt8) : Option (List UInt8 × Nat) :=
  if byt l 0 = 92 then
    match esc (byt l 1) with
    | some v => some ([UInt8.ofNat v], 2)
    | none => if byt l 1 = 117 then uni (l.drop 2) else none
  else if (fst l).2.2 = 0 then some (l.take (fst l).2.1, (fst l).2.1) else none
def txtF : Nat → List UInt8 → Option (List UInt8 × Nat)
  | 0, _ => none
  | f + 1, l => if byt l 0 < 32 then none else if byt l 0 = 34 then some ([], 1) else
    match item l with
    | none => none
    | some (o, n) => (txtF f (l.drop n)).map fun r => (o ++ r.1, n + r.2)
/-- A text behind its first sign: what it says, and how many bytes it has, with the last sign. -/
def txt (l : List UInt8) : Option (List UInt8 × Nat) := txtF (l.length + 1) l

theorem uni_len {l o : List UInt8} {n : Nat} (h : uni l = some (o, n)) : 4 ≤ n ∧ n ≤ l.length + 2 ∧ o.length ≤ 4 := by
  unfold uni at h
  split at h
  · split at h
    · rename_i h1 h2
      simp only [Option.some.injEq, Prod.mk.injEq] at h
      obtain ⟨rfl, rfl⟩ := h
      have a := four_len (l := l.drop 6) (by omega)
      rw [List.length_drop] at a
      have := ue_len (65536 + (four l - 55296) * 1024 + four (l.drop 6) - 56320).toNat
      exact ⟨by omega, by omega, this.2⟩
    · cases h
  · split at h
    · rename_i h1 h2
      simp only [Option.some.injEq, Prod.mk.injEq] at h
      obtain ⟨rfl, rfl⟩ := h
      have a := four_len (l := l) h2.1
      exact ⟨by omega, by omega, (ue_len _).2⟩
    · cases h
theorem esc_pos {c v : Nat} (h : esc c = some v) : c ≠ 0 := by
  intro e; subst e; simp [esc] at h
theorem item_len {l o : List UInt8} {n : Nat} (h : item l = some (o, n)) : 1 ≤ n ∧ n ≤ l.length ∧ o.length ≤ n := by
  unfold item at h
  split at h
  · split at h
    · rename_i v hv
      simp only [Option.some.injEq, Prod.mk.injEq] at h
      obtain ⟨rfl, rfl⟩ := h
      have := byt_pos (esc_pos hv)
      simp; omega
    · split at h
      · rename_i h1
        have := uni_len h
        rw [List.length_drop] at this
        have := byt_pos (l := l) (i := 1) (by omega)
        omega
      · cases h
  · split at h
    · rename_i h1
      simp only [Option.some.injEq, Prod.mk.injEq] at h
      obtain ⟨rfl, rfl⟩ := h
      rcases fst_err l with ⟨c, n, e, a, b, d⟩ | ⟨e, _⟩ | e
      · rw [e]; simp; omega
      · rw [e] at h1; cases h1
      · rw [e] at h1; cases h1
    · cases h
theorem txtF_fuel : ∀ (f g : Nat) (l : List UInt8), l.length < f → l.length < g → txtF f l = txtF g l
  | 0, _, _, h, _ => absurd h (Nat.not_lt_zero _)
  | _ + 1, 0, _, _, h => absurd h (Nat.not_lt_zero _)
  | f + 1, g + 1, l, h1, h2 => by
    unfold txtF
    split
    · rfl
    · split
      · rfl
      · split
        · rfl
        · rename_i o n hi
          have := item_len hi
          rw [txtF_fuel f g (l.drop n) (by rw [List.length_drop]; omega) (by rw [List.length_drop]; omega)]
theorem txt_bad {l : List UInt8} (h : byt l 0 < 32) : txt l = none := by unfold txt txtF; rw [if_pos h]
theorem txt_end {l : List UInt8} (h : byt l 0 = 34) : txt l = some ([], 1) := by unfold txt txtF; rw [if_neg (by omega), if_pos h]
theorem txt_no {l : List UInt8} (h1 : byt l 0 ≠ 34) (h : item l = none) : txt l = none := by
  unfold txt txtF
  split
  · rfl
  · rw [h]
theorem txt_go {l o : List UInt8} {n : Nat} (h0 : 32 ≤ byt l 0) (h1 : byt l 0 ≠ 34) (h : item l = some (o, n)) : txt l = (txt (l.drop n)).map fun r => (o ++ r.1, n + r.2) := by
  have := item_len h
  unfold txt
  rw [txtF, if_neg (by omega), if_neg h1, h]
  simp only
  rw [txtF_fuel l.length ((l.drop n).length + 1) (l.drop n) (by rw [List.length_drop]; omega) (by omega)]

/-- A word: its kind, its number, its text, where it begins, what stands behind it. -/
structure Wd where
  k : Nat
  n : Int
  t : List UInt8
  a : Nat
  x : Nat
def Wd.zero : Wd := ⟨0, 0, [], 0, 0⟩
def Wd.at_ (w : Wd) (q : Nat) : Wd := ⟨w.k, w.n, w.t, w.a + q, w.x + q⟩
def punct (c : Nat) : Nat := if c = 123 then 1 else if c = 125 then 2 else if c = 91 then 3 else if c = 93 then 4 else if c = 58 then 5 else if c = 44 then 6 else 0
def named (l s : List UInt8) : Bool := decide (l.take s.length = s) && !isL (byt l s.length)
def sT : List UInt8 := [116, 114, 117, 101]
def sF : List UInt8 := [102, 97, 108, 115, 101]
def sN : List UInt8 := [110, 117, 108, 108]
/-- The word that stands first, from place 0 on, and the error. -/
def word (l : List UInt8) : Wd × Nat :=
  if punct (byt l 0) ≠ 0 then (⟨punct (byt l 0), 0, [], 0, 1⟩, 0)
  else if byt l 0 = 34 then
    match txt (l.drop 1) with
    | none => (Wd.zero, 20)
    | some (s, k) => (⟨10, 0, s, 0, k + 1⟩, 0)
  else if byt l 0 = 45 ∨ isD (byt l 0) = true then
    if (num l).2.2 = 0 then (⟨9, (num l).1, [], 0, (num l).2.1⟩, 0) else (Wd.zero, (num l).2.2)
  else if named l sT = true then (⟨7, 1, [], 0, 4⟩, 0)
  else if named l sF = true then (⟨7, 0, [], 0, 5⟩, 0)
  else if named l sN = true then (⟨8, 0, [], 0, 4⟩, 0)
  else (Wd.zero, 20)
def tak (l : List UInt8) (p : Nat) : Wd × Nat :=
  if p + cnt isW (l.drop p) = l.length then (⟨11, 0, [], l.length, l.length⟩, 0)
  else if (word (l.drop (p + cnt isW (l.drop p)))).2 = 0 then ((word (l.drop (p + cnt isW (l.drop p)))).1.at_ (p + cnt isW (l.drop p)), 0)
  else (Wd.zero, (word (l.drop (p + cnt isW (l.drop p)))).2)
def takI (l : List UInt8) (i : Int) : Wd × Nat := if i < 0 ∨ (l.length : Int) < i then (Wd.zero, 2) else tak l i.toNat
def allF : Nat → List UInt8 → Nat → List Wd × Nat
  | 0, _, _ => ([], 0)
  | f + 1, l, p => if (tak l p).2 ≠ 0 then ([], (tak l p).2) else if (tak l p).1.k = 11 then ([], 0)
    else if (allF f l (tak l p).1.x).2 ≠ 0 then ([], (allF f l (tak l p).1.x).2) else ((tak l p).1 :: (allF f l (tak l p).1.x).1, 0)
def all (l : List UInt8) (p : Nat) : List Wd × Nat := allF (l.length + 1 - p) l p
end Go.Proofs.YtnfhikgfcdcpoaaDoor.Jx
/- Plain mathematics of layer 6: a word's bytes alone are that word, with nothing or white bytes behind; all words. -/
namespace Go.Proofs.YtnfhikgfcdcpoaaDoor.Jx
open Num

theorem uni_cut {l m o : List UInt8} {n j : Nat} (h : uni l = some (o, n)) (hj : n - 2 ≤ j) (hl : j ≤ l.length) : uni (l.take j ++ m) = some (o, n) := by
  unfold uni at h
  split at h
  · rename_i h1
    split at h
    · rename_i h2
      simp only [Option.some.injEq, Prod.mk.injEq] at h
      obtain ⟨rfl, rfl⟩ := h
      have e1 : four (l.take j ++ m) = four l := four_same fun i hi => byt_cut (by omega) (by omega)
      have e2 : four ((l.take j ++ m).drop 6) = four (l.drop 6) := four_same fun i hi => by rw [byt_drop, byt_drop, byt_cut (by omega) (by omega)]
      unfold uni
      rw [e1, e2, byt_cut (by omega) (by omega), byt_cut (by omega) (by omega), if_pos h1, if_pos h2]
    · cases h
  · rename_i h1
    split at h
    · rename_i h2
      simp only [Option.some.injEq, Prod.mk.injEq] at h
      obtain ⟨rfl, rfl⟩ := h
      have e1 : four (l.take j ++ m) = four l := four_same fun i hi => byt_cut (by omega) (by omega)
      unfold uni
      unfold isC at h2
      rw [e1, if_neg (by omega), if_pos (by unfold isC; omega)]
    · cases h
theorem take_cut {l m : List UInt8} {n j : Nat} (h : n ≤ j) (hl : j ≤ l.length) : (l.take j ++ m).take n = l.take n := by
  rw [List.take_append_of_le_length (by rw [List.length_take]; omega), List.take_take, Nat.min_eq_left h]
theorem fst_cut2 {l m : List UInt8} {c n j : Nat} (h : fst l = (c, n, 0)) (hj : n ≤ j) (hl : j ≤ l.length) : fst (l.take j ++ m) = (c, n, 0) := by
  obtain ⟨h1, h2, _⟩ := ue_fst h
  have hn : (ue c).length = n := by rw [h2, List.length_take]; omega
  have e : l.take j ++ m = ue c ++ ((l.take j ++ m).drop n) := by
    rw [h2, ← take_cut (m := m) hj hl, List.take_append_drop]
  rw [e, fst_ue h1, hn]
theorem item_cut {l m o : List UInt8} {n j : Nat} (h : item l = some (o, n)) (hj : n ≤ j) (hl : j ≤ l.length) : item (l.take j ++ m) = some (o, n) := by
  have hn := item_len h
  have e0 : byt (l.take j ++ m) 0 = byt l 0 := byt_cut (by omega) (by omega)
  unfold item at h ⊢
  rw [e0]
  split at h
  · rename_i h1
    rw [if_pos h1]
    split at h
    · rename_i v hv
      simp only [Option.some.injEq, Prod.mk.injEq] at h
      obtain ⟨rfl, rfl⟩ := h
      rw [byt_cut (by omega) (by omega), hv]
    · rename_i hv
      split at h
      · rename_i h2
        have := uni_len h
        have e1 : byt (l.take j ++ m) 1 = byt l 1 := byt_cut (by omega) (by omega)
        rw [e1, hv]
        simp only
        rw [if_pos h2, drop_cut (by omega) hl]
        exact uni_cut h (by omega) (by rw [List.length_drop]; omega)
      · cases h
  · rename_i h1
    rw [if_neg h1]
    split at h
    · rename_i h2
      simp only [Option.some.injEq, Prod.mk.injEq] at h
      obtain ⟨rfl, rfl⟩ := h
      have e : fst l = ((fst l).1, (fst l).2.1, 0) := by rw [← h2]
      rw [fst_cut2 e hj hl]
      simp only
      rw [if_pos trivial, take_cut hj hl]
    · cases h
theorem txt_len : ∀ (f : Nat) (l : List UInt8) {s : List UInt8} {k : Nat}, l.length < f → txt l = some (s, k) → 1 ≤ k ∧ k ≤ l.length ∧ s.length + 1 ≤ k
  | 0, _, _, _, h, _ => absurd h (Nat.not_lt_zero _)
  | f + 1, l, s, k, hf, h => by
    by_cases h0 : byt l 0 < 32
    · rw [txt_bad h0] at h; cases h
    by_cases h1 : byt l 0 = 34
    · rw [txt_end h1] at h
      simp only [Option.some.injEq, Prod.mk.injEq] at h
      obtain ⟨rfl, rfl⟩ := h
      have := byt_pos (l := l) (i := 0) (by omega)
      simp; omega
    cases hi : item l with
    | none => rw [txt_no h1 hi] at h; cases h
    | some r =>
      obtain ⟨o, n⟩ := r
      have hn := item_len hi
      rw [txt_go (by omega) h1 hi] at h
      cases ht : txt (l.drop n) with
      | none => rw [ht] at h; cases h
      | some r =>
        obtain ⟨s', k'⟩ := r
        rw [ht] at h
        simp only [Option.map_some, Option.some.injEq, Prod.mk.injEq] at h
        obtain ⟨rfl, rfl⟩ := h
        have := txt_len f (l.drop n) (by rw [List.length_drop]; omega) ht
        rw [List.length_drop] at this
        simp; omega
theorem txt_cut : ∀ (f : Nat) (l : List UInt8) {s : List UInt8} {k j : Nat} (m : List UInt8), l.length < f → txt l = some (s, k) → k ≤ j → j ≤ l.length → txt (l.take j ++ m) = some (s, k)
  | 0, _, _, _, _, _, h, _, _, _ => absurd h (Nat.not_lt_zero _)
  | f + 1, l, s, k, j, m, hf, h, hj, hl => by
    have hk := txt_len (f + 1) l hf h
    have e0 : byt (l.take j ++ m) 0 = byt l 0 := byt_cut (by omega) (by omega)
    by_cases h0 : byt l 0 < 32
    · rw [txt_bad h0] at h; cases h
    by_cases h1 : byt l 0 = 34
    · rw [txt_end h1] at h
      rw [txt_end (by rw [e0]; exact h1), h]
    cases hi : item l with
    | none => rw [txt_no h1 hi] at h; cases h
    | some r =>
      obtain ⟨o, n⟩ := r
      have hn := item_len hi
      rw [txt_go (by omega) h1 hi] at h
      cases ht : txt (l.drop n) with
      | none => rw [ht] at h; cases h
      | some r =>
        obtain ⟨s', k'⟩ := r
        rw [ht] at h
        simp only [Option.map_some, Option.some.injEq, Prod.mk.injEq] at h
        obtain ⟨rfl, rfl⟩ := h
        rw [txt_go (by rw [e0]; omega) (by rw [e0]; exact h1) (item_cut hi (by omega) hl), drop_cut (by omega) hl, txt_cut f (l.drop n) m (by rw [List.length_drop]; omega) ht (by omega) (by rw [List.length_drop]; omega)]
        rfl

theorem isD_is {c : Nat} : isD c = true ↔ 48 ≤ c ∧ c ≤ 57 := by unfold isD; simp
theorem isL_is {c : Nat} : isL c = true ↔ (48 ≤ c ∧ c ≤ 57) ∨ (97 ≤ c ∧ c ≤ 122) ∨ (65 ≤ c ∧ c ≤ 90) := by unfold isL; simp
theorem isW_is {c : Nat} : isW c = true ↔ c = 32 ∨ c = 9 ∨ c = 10 ∨ c = 13 := by unfold isW; simp
/-- Nothing, or a white byte, ahead. -/
def Off (m : List UInt8) : Prop := m = [] ∨ isW (byt m 0) = true
theorem Off.byt {m : List UInt8} (h : Off m) : byt m 0 = 0 ∨ byt m 0 = 32 ∨ byt m 0 = 9 ∨ byt m 0 = 10 ∨ byt m 0 = 13 := by
  rcases h with h | h
  · subst h; exact .inl rfl
  · exact .inr (isW_is.1 h)
theorem Off.dig {m : List UInt8} (h : Off m) : isD (Jx.byt m 0) = false := by
  have := h.byt; unfold isD; simp; omega
theorem Off.let {m : List UInt8} (h : Off m) : isL (Jx.byt m 0) = false := by
  have := h.byt; unfold isL; simp; omega

theorem numR_len {m : Nat} {r : List UInt8} (h : (numR m r).2.2 = 0) : (numR m r).2.1 = m + cnt isD r ∧ cnt isD r ≠ 0 := by
  unfold numR at h ⊢
  split at h
  · cases h
  · rename_i h1
    split at h
    · cases h
    · rename_i h2
      rw [if_neg h1, if_neg h2]
      exact ⟨rfl, fun e => h1 (.inl e)⟩
theorem numR_big {m : Nat} {r : List UInt8} (h : (numR m r).2.2 = 0) : -9223372036854775808 ≤ (numR m r).1 ∧ (numR m r).1 ≤ 9223372036854775807 := by
  unfold numR at h ⊢
  split at h
  · cases h
  · rename_i h1
    split at h
    · cases h
    · rename_i h2
      rw [if_neg h1, if_neg h2]
      simp only
      split <;> omega
theorem numR_err (m : Nat) (r : List UInt8) : (numR m r).2.2 = 0 ∨ ((numR m r).1 = 0 ∧ ((numR m r).2.2 = 20 ∨ (numR m r).2.2 = 22)) := by
  unfold numR; split
  · exact .inr ⟨rfl, .inl rfl⟩
  · split
    · exact .inr ⟨rfl, .inr rfl⟩
    · exact .inl rfl
theorem numR_cut {m : Nat} {r t : List UInt8} {j : Nat} (h : (numR m r).2.2 = 0) (hj : j = cnt isD r) (ht : Off t) : numR m (r.take j ++ t) = numR m r := by
  subst hj
  have hn := cnt_le isD r
  have h0 := (numR_len h).2
  have ec : cnt isD (r.take (cnt isD r) ++ t) = cnt isD r := cnt_cut hn (Nat.le_refl _) (.inr ht.dig)
  have eb : byt (r.take (cnt isD r) ++ t) (cnt isD r) = byt t 0 := by rw [byt_cut2 (Nat.le_refl _) hn, Nat.sub_self]
  have e0 : byt (r.take (cnt isD r) ++ t) 0 = byt r 0 := byt_cut (by omega) (by omega)
  have et : (r.take (cnt isD r) ++ t).take (cnt isD r) = r.take (cnt isD r) := take_cut (Nat.le_refl _) hn
  have hb := ht.byt
  have hl := ht.let
  unfold numR at h ⊢
  rw [ec, eb, e0, et, hl]
  split at h
  · cases h
  · rename_i h1
    split at h
    · cases h
    · rename_i h2
      rw [if_neg h1, if_neg h2, if_neg, if_neg]
      · intro h3
        rcases h3 with h3 | h3 | h3 | h3
        · omega
        · cases h3
        · exact h2 (.inr (.inr (.inl h3)))
        · exact h2 (.inr (.inr (.inr h3)))
      · intro h3
        rcases h3 with h3 | h3 | h3
        · omega
        · exact h1 (.inr (.inl h3))
        · cases h3.1
theorem num_len {l : List UInt8} (h : (num l).2.2 = 0) : 1 ≤ (num l).2.1 ∧ (num l).2.1 ≤ l.length := by
  unfold num at h ⊢
  split at h
  · rename_i h1
    rw [if_pos h1]
    have a := numR_len h
    have := cnt_le isD (l.drop 1)
    rw [List.length_drop] at this
    omega
  · rename_i h1
    rw [if_neg h1]
    have a := numR_len h
    have := cnt_le isD l
    omega
theorem num_big {l : List UInt8} (h : (num l).2.2 = 0) : -9223372036854775808 ≤ (num l).1 ∧ (num l).1 ≤ 9223372036854775807 := by
  unfold num at h ⊢
  split at h
  · rename_i h1; rw [if_pos h1]; exact numR_big h
  · rename_i h1; rw [if_neg h1]; exact numR_big h
theorem num_cut {l t : List UInt8} (h : (num l).2.2 = 0) (ht : Off t) : num (l.take (num l).2.1 ++ t) = num l := by
  have hn := num_len h
  have e0 : byt (l.take (num l).2.1 ++ t) 0 = byt l 0 := byt_cut (by omega) (by omega)
  generalize hk : (num l).2.1 = k at hn e0 ⊢
  unfold num at h hk ⊢
  rw [e0]
  split at h
  · rename_i h1
    rw [if_pos h1] at hk
    rw [if_pos h1, drop_cut (by omega) (by omega)]
    exact (numR_cut h (by have := numR_len h; omega) ht).trans (by rw [if_pos h1])
  · rename_i h1
    rw [if_neg h1] at hk
    rw [if_neg h1]
    exact (numR_cut h (by have := numR_len h; omega) ht).trans (by rw [if_neg h1])
theorem named_len {l s : List UInt8} (h : named l s = true) : s.length ≤ l.length := by
  unfold named at h
  simp only [Bool.and_eq_true, decide_eq_true_eq] at h
  have := congrArg List.length h.1
  rw [List.length_take] at this
  omega
theorem named_cut {l s t : List UInt8} (h : named l s = true) (ht : Off t) : named (l.take s.length ++ t) s = true := by
  have hl := named_len h
  unfold named at h ⊢
  simp only [Bool.and_eq_true, decide_eq_true_eq] at h ⊢
  rw [take_cut (Nat.le_refl _) hl, byt_cut2 (Nat.le_refl _) hl, Nat.sub_self, ht.let]
  exact ⟨h.1, rfl⟩
theorem punct_is (c : Nat) : (punct c = 0 ∧ c ≠ 123 ∧ c ≠ 125 ∧ c ≠ 91 ∧ c ≠ 93 ∧ c ≠ 58 ∧ c ≠ 44) ∨ (punct c = 1 ∧ c = 123) ∨ (punct c = 2 ∧ c = 125) ∨ (punct c = 3 ∧ c = 91) ∨ (punct c = 4 ∧ c = 93) ∨ (punct c = 5 ∧ c = 58) ∨ (punct c = 6 ∧ c = 44) := by
  unfold punct
  split
  · omega
  · split
    · omega
    · split
      · omega
      · split
        · omega
        · split
          · omega
          · split <;> omega

theorem word_p {l : List UInt8} (h : punct (byt l 0) ≠ 0) : word l = (⟨punct (byt l 0), 0, [], 0, 1⟩, 0) := by unfold word; rw [if_pos h]
theorem word_t0 {l : List UInt8} (h : byt l 0 = 34) (ht : txt (l.drop 1) = none) : word l = (Wd.zero, 20) := by
  unfold word; rw [if_neg (by rw [h]; decide), if_pos h, ht]
theorem word_t {l s : List UInt8} {k : Nat} (h : byt l 0 = 34) (ht : txt (l.drop 1) = some (s, k)) : word l = (⟨10, 0, s, 0, k + 1⟩, 0) := by
  unfold word; rw [if_neg (by rw [h]; decide), if_pos h, ht]
theorem numb_p {c : Nat} (h : c = 45 ∨ isD c = true) : punct c = 0 ∧ c ≠ 34 := by
  rw [isD_is] at h
  have := punct_is c
  omega
theorem word_n {l : List UInt8} (h : byt l 0 = 45 ∨ isD (byt l 0) = true) : word l = if (num l).2.2 = 0 then (⟨9, (num l).1, [], 0, (num l).2.1⟩, 0) else (Wd.zero, (num l).2.2) := by
  have a := numb_p h
  unfold word; rw [if_neg (by omega), if_neg a.2, if_pos h]
theorem word_l {l : List UInt8} (h : punct (byt l 0) = 0) (h1 : byt l 0 ≠ 34) (h2 : ¬ (byt l 0 = 45 ∨ isD (byt l 0) = true)) :
    word l = if named l sT = true then (⟨7, 1, [], 0, 4⟩, 0) else if named l sF = true then (⟨7, 0, [], 0, 5⟩, 0) else if named l sN = true then (⟨8, 0, [], 0, 4⟩, 0) else (Wd.zero, 20) := by
  unfold word; rw [if_neg (by omega), if_neg h1, if_neg h2]
/-- What a word's parts are. -/
def Wd.ok (w : Wd) (len : Nat) : Prop := w.a = 0 ∧ 1 ≤ w.x ∧ w.x ≤ len ∧ 1 ≤ w.k ∧ w.k ≤ 10 ∧ -9223372036854775808 ≤ w.n ∧ w.n ≤ 9223372036854775807 ∧ w.t.length ≤ w.x
theorem word_ok {l : List UInt8} {w : Wd} (h : word l = (w, 0)) : w.ok l.length := by
  by_cases h0 : punct (byt l 0) = 0
  · by_cases h1 : byt l 0 = 34
    · have hl := byt_pos (l := l) (i := 0) (by omega)
      cases ht : txt (l.drop 1) with
      | none => rw [word_t0 h1 ht] at h; cases h
      | some r =>
        obtain ⟨s, k⟩ := r
        rw [word_t h1 ht] at h
        simp only [Prod.mk.injEq, and_true] at h
        subst h
        have := txt_len _ _ (Nat.lt_succ_self _) ht
        rw [List.length_drop] at this
        refine ⟨rfl, ?_, ?_, by show 1 ≤ 10; omega, by show 10 ≤ 10; omega, by show (-9223372036854775808 : Int) ≤ 0; omega, by show (0 : Int) ≤ 9223372036854775807; omega, ?_⟩
        · show 1 ≤ k + 1; omega
        · show k + 1 ≤ l.length; omega
        · show s.length ≤ k + 1; omega
    · by_cases h2 : byt l 0 = 45 ∨ isD (byt l 0) = true
      · rw [word_n h2] at h
        split at h
        · rename_i h3
          simp only [Prod.mk.injEq, and_true] at h
          subst h
          have a := num_len h3
          have b := num_big h3
          exact ⟨rfl, a.1, a.2, by show 1 ≤ 9; omega, by show 9 ≤ 10; omega, b.1, b.2, Nat.zero_le _⟩
        · rename_i h3
          simp only [Prod.mk.injEq] at h
          exact absurd h.2 h3
      · rw [word_l h0 h1 h2] at h
        have fin : ∀ (s : List UInt8) (k : Nat) (n : Int), named l s = true → 1 ≤ s.length → 1 ≤ k → k ≤ 10 → 0 ≤ n → n ≤ 1 → Wd.ok ⟨k, n, [], 0, s.length⟩ l.length := fun s k n a b c d e f =>
          ⟨rfl, b, named_len a, c, d, by show (-9223372036854775808 : Int) ≤ n; omega, by show n ≤ 9223372036854775807; omega, Nat.zero_le _⟩
        split at h
        · rename_i h3
          simp only [Prod.mk.injEq, and_true] at h
          subst h
          exact fin sT 7 1 h3 (by decide) (by omega) (by omega) (by omega) (by omega)
        · split at h
          · rename_i h3
            simp only [Prod.mk.injEq, and_true] at h
            subst h
            exact fin sF 7 0 h3 (by decide) (by omega) (by omega) (by omega) (by omega)
          · split at h
            · rename_i h3
              simp only [Prod.mk.injEq, and_true] at h
              subst h
              exact fin sN 8 0 h3 (by decide) (by omega) (by omega) (by omega) (by omega)
            · cases h
  · have hl : byt l 0 ≠ 0 := by intro e; rw [e] at h0; exact h0 rfl
    have hl := byt_pos hl
    rw [word_p h0] at h
    simp only [Prod.mk.injEq, and_true] at h
    subst h
    have := punct_is (byt l 0)
    refine ⟨rfl, by show 1 ≤ 1; omega, hl, ?_, ?_, by show (-9223372036854775808 : Int) ≤ 0; omega, by show (0 : Int) ≤ 9223372036854775807; omega, Nat.zero_le _⟩
    · show 1 ≤ punct (byt l 0); omega
    · show punct (byt l 0) ≤ 10; omega
theorem word_err (l : List UInt8) : (∃ w, word l = (w, 0)) ∨ word l = (Wd.zero, 20) ∨ word l = (Wd.zero, 22) := by
  by_cases h0 : punct (byt l 0) = 0
  · by_cases h1 : byt l 0 = 34
    · cases ht : txt (l.drop 1) with
      | none => exact .inr (.inl (word_t0 h1 ht))
      | some r => exact .inl ⟨_, word_t h1 ht⟩
    · by_cases h2 : byt l 0 = 45 ∨ isD (byt l 0) = true
      · rw [word_n h2]
        split
        · exact .inl ⟨_, rfl⟩
        · rename_i h3
          have e : (num l).2.2 = 20 ∨ (num l).2.2 = 22 := by
            unfold num at h3 ⊢
            split at h3
            · rename_i h4
              rw [if_pos h4]
              have := numR_err 1 (l.drop 1); omega
            · rename_i h4
              rw [if_neg h4]
              have := numR_err 0 l; omega
          rcases e with e | e
          · exact .inr (.inl (by rw [e]))
          · exact .inr (.inr (by rw [e]))
      · rw [word_l h0 h1 h2]
        split
        · exact .inl ⟨_, rfl⟩
        · split
          · exact .inl ⟨_, rfl⟩
          · split
            · exact .inl ⟨_, rfl⟩
            · exact .inr (.inl rfl)
  · exact .inl ⟨_, word_p h0⟩
/-- A word's bytes are that word, with nothing or white behind. -/
theorem named_one {l s : List UInt8} (h : named l s = true) (i : Nat) (hi : i < s.length) : byt l i = byt s i := by
  have hl := named_len h
  unfold named at h
  simp only [Bool.and_eq_true, decide_eq_true_eq] at h
  rw [← h.1, byt_take hi]
theorem word_cut {l m : List UInt8} {w : Wd} (h : word l = (w, 0)) (hm : Off m) : word (l.take w.x ++ m) = (w, 0) := by
  have hok := word_ok h
  have e0 : byt (l.take w.x ++ m) 0 = byt l 0 := byt_cut (by have := hok.2.1; omega) (by have := hok.2; omega)
  by_cases h0 : punct (byt l 0) = 0
  · by_cases h1 : byt l 0 = 34
    · cases ht : txt (l.drop 1) with
      | none => rw [word_t0 h1 ht] at h; cases h
      | some r =>
        obtain ⟨s, k⟩ := r
        rw [word_t h1 ht] at h
        simp only [Prod.mk.injEq, and_true] at h
        subst h
        have hk := txt_len _ _ (Nat.lt_succ_self _) ht
        rw [List.length_drop] at hk
        refine word_t (by rw [e0]; exact h1) ?_
        show txt ((l.take (k + 1) ++ m).drop 1) = _
        rw [drop_cut (by omega) (by omega)]
        exact txt_cut _ _ m (Nat.lt_succ_self _) ht (by omega) (by rw [List.length_drop]; omega)
    · by_cases h2 : byt l 0 = 45 ∨ isD (byt l 0) = true
      · rw [word_n h2] at h
        split at h
        · rename_i h3
          simp only [Prod.mk.injEq, and_true] at h
          subst h
          rw [word_n (by rw [e0]; exact h2)]
          show (if (num (l.take (num l).2.1 ++ m)).2.2 = 0 then _ else _) = _
          rw [num_cut h3 hm, if_pos h3]
        · rename_i h3
          simp only [Prod.mk.injEq] at h
          exact absurd h.2 h3
      · rw [word_l h0 h1 h2] at h
        rw [word_l (by rw [e0]; exact h0) (by rw [e0]; exact h1) (by rw [e0]; exact h2)]
        split at h
        · rename_i h3
          simp only [Prod.mk.injEq, and_true] at h
          subst h
          exact if_pos (named_cut (s := sT) h3 hm)
        · split at h
          · rename_i h3
            simp only [Prod.mk.injEq, and_true] at h
            subst h
            have b := named_one h3 0 (by decide)
            refine (if_neg ?_).trans (if_pos (named_cut (s := sF) h3 hm))
            intro hx
            have c := named_one hx 0 (by decide)
            rw [e0, b] at c
            exact absurd c (by decide)
          · split at h
            · rename_i h3
              simp only [Prod.mk.injEq, and_true] at h
              subst h
              have b := named_one h3 0 (by decide)
              refine (if_neg ?_).trans ((if_neg ?_).trans (if_pos (named_cut (s := sN) h3 hm)))
              · intro hx
                have c := named_one hx 0 (by decide)
                rw [e0, b] at c
                exact absurd c (by decide)
              · intro hx
                have c := named_one hx 0 (by decide)
                rw [e0, b] at c
                exact absurd c (by decide)
            · cases h
  · rw [word_p h0] at h
    simp only [Prod.mk.injEq, and_true] at h
    subst h
    rw [word_p (by rw [e0]; exact h0), e0]
/-- A word's first byte is not white. -/
theorem word_first {l : List UInt8} {w : Wd} (h : word l = (w, 0)) : isW (byt l 0) = false := by
  cases hw : isW (byt l 0) with
  | false => rfl
  | true =>
    rw [isW_is] at hw
    have p := punct_is (byt l 0)
    have d : ¬ (byt l 0 = 45 ∨ isD (byt l 0) = true) := by rw [isD_is]; omega
    rw [word_l (by omega) (by omega) d] at h
    have no : ∀ s : List UInt8, 0 < s.length → 97 ≤ byt s 0 → ¬ named l s = true := fun s a b c => by
      have := named_one c 0 a; omega
    rw [if_neg (no _ (by decide) (by decide)), if_neg (no _ (by decide) (by decide)), if_neg (no _ (by decide) (by decide))] at h
    cases h
end Go.Proofs.YtnfhikgfcdcpoaaDoor.Jx
/- Plain mathematics of layer 6: all words of some bytes; words with white bytes ahead. -/
namespace Go.Proofs.YtnfhikgfcdcpoaaDoor.Jx
open Num

/-- What Take tells. -/
def Wd.fine (w : Wd) (len : Nat) : Prop := w.a ≤ w.x ∧ w.x ≤ len ∧ w.k ≤ 11 ∧ -9223372036854775808 ≤ w.n ∧ w.n ≤ 9223372036854775807 ∧ w.t.length ≤ len
theorem tak_q (l : List UInt8) (p : Nat) (hp : p ≤ l.length) : p + cnt isW (l.drop p) ≤ l.length := by
  have := cnt_le isW (l.drop p); rw [List.length_drop] at this; omega
theorem tak_end {l : List UInt8} {p : Nat} (h : p + cnt isW (l.drop p) = l.length) : tak l p = (⟨11, 0, [], l.length, l.length⟩, 0) := by unfold tak; rw [if_pos h]
theorem tak_word {l : List UInt8} {p q : Nat} {w : Wd} (hq : q = p + cnt isW (l.drop p)) (h : q ≠ l.length) (hw : word (l.drop q) = (w, 0)) : tak l p = (w.at_ q, 0) := by
  subst hq
  unfold tak; rw [if_neg h, hw, if_pos rfl]
theorem tak_err {l : List UInt8} {p q e : Nat} {w : Wd} (hq : q = p + cnt isW (l.drop p)) (h : q ≠ l.length) (hw : word (l.drop q) = (w, e)) (he : e ≠ 0) : tak l p = (Wd.zero, e) := by
  subst hq
  unfold tak; rw [if_neg h, hw, if_neg he]
/-- The ways that Take has. -/
theorem tak_ways (l : List UInt8) (p : Nat) (hp : p ≤ l.length) :
    tak l p = (⟨11, 0, [], l.length, l.length⟩, 0) ∨ tak l p = (Wd.zero, 20) ∨ tak l p = (Wd.zero, 22) ∨
    ∃ w q, q = p + cnt isW (l.drop p) ∧ q < l.length ∧ word (l.drop q) = (w, 0) ∧ w.ok (l.length - q) ∧ tak l p = (w.at_ q, 0) := by
  have hq := tak_q l p hp
  by_cases h : p + cnt isW (l.drop p) = l.length
  · exact .inl (tak_end h)
  · rcases word_err (l.drop (p + cnt isW (l.drop p))) with ⟨w, hw⟩ | hw | hw
    · have := word_ok hw
      rw [List.length_drop] at this
      exact .inr (.inr (.inr ⟨w, _, rfl, by omega, hw, this, tak_word rfl h hw⟩))
    · exact .inr (.inl (tak_err rfl h hw (by decide)))
    · exact .inr (.inr (.inl (tak_err rfl h hw (by decide))))
theorem tak_fine (l : List UInt8) (p : Nat) (hp : p ≤ l.length) : (tak l p).1.fine l.length ∧ (tak l p).2 ≤ 22 := by
  rcases tak_ways l p hp with h | h | h | ⟨w, q, _, hq, _, hk, h⟩
  · rw [h]; exact ⟨⟨Nat.le_refl _, Nat.le_refl _, by show 11 ≤ 11; omega, by show (-9223372036854775808 : Int) ≤ 0; omega, by show (0 : Int) ≤ 9223372036854775807; omega, Nat.zero_le _⟩, by omega⟩
  · rw [h]; exact ⟨⟨Nat.le_refl _, Nat.zero_le _, Nat.zero_le _, by show (-9223372036854775808 : Int) ≤ 0; omega, by show (0 : Int) ≤ 9223372036854775807; omega, Nat.zero_le _⟩, by omega⟩
  · rw [h]; exact ⟨⟨Nat.le_refl _, Nat.zero_le _, Nat.zero_le _, by show (-9223372036854775808 : Int) ≤ 0; omega, by show (0 : Int) ≤ 9223372036854775807; omega, Nat.zero_le _⟩, by omega⟩
  · rw [h]
    obtain ⟨h1, h2, h3, h4, h5, h6, h7, h8⟩ := hk
    refine ⟨⟨?_, ?_, ?_, h6, h7, ?_⟩, by omega⟩
    · show w.a + q ≤ w.x + q; omega
    · show w.x + q ≤ l.length; omega
    · show w.k ≤ 11; omega
    · show w.t.length ≤ l.length; omega
/-- One that is no End goes on. -/
theorem tak_more {l : List UInt8} {p : Nat} (hp : p ≤ l.length) (h : (tak l p).2 = 0) (hk : (tak l p).1.k ≠ 11) : p < (tak l p).1.x ∧ (tak l p).1.x ≤ l.length ∧ (tak l p).1.a < (tak l p).1.x := by
  rcases tak_ways l p hp with e | e | e | ⟨w, q, h0, hq, _, hw, e⟩
  · rw [e] at hk; exact absurd rfl hk
  · rw [e] at h; cases h
  · rw [e] at h; cases h
  · rw [e]
    obtain ⟨h1, h2, h3, h4, h5, h6, h7, h8⟩ := hw
    refine ⟨?_, ?_, ?_⟩
    · show p < w.x + q; omega
    · show w.x + q ≤ l.length; omega
    · show w.a + q < w.x + q; omega

theorem allF_fuel : ∀ (f g : Nat) (l : List UInt8) (p : Nat), p ≤ l.length → l.length < f + p → l.length < g + p → allF f l p = allF g l p
  | 0, _, _, _, hp, h, _ => absurd h (by omega)
  | _ + 1, 0, _, _, hp, _, h => absurd h (by omega)
  | f + 1, g + 1, l, p, hp, h1, h2 => by
    unfold allF
    split
    · rfl
    · rename_i he
      split
      · rfl
      · rename_i hk
        have := tak_more hp (by omega) hk
        rw [allF_fuel f g l _ this.2.1 (by omega) (by omega)]
theorem allF_len : ∀ (f : Nat) (l : List UInt8) (p : Nat), p ≤ l.length → (allF f l p).1.length + p ≤ l.length
  | 0, _, _, h => by simpa [allF] using h
  | f + 1, l, p, h => by
    unfold allF
    split
    · simpa using h
    · rename_i he
      split
      · simpa using h
      · rename_i hk
        have m := tak_more h (by omega) hk
        have := allF_len f l _ m.2.1
        split
        · simpa using h
        · simp; omega
theorem all_len (l : List UInt8) : (all l 0).1.length ≤ l.length := allF_len _ l 0 (Nat.zero_le _)
def joinA (d : List Wd) (r : List Wd × Nat) : List Wd × Nat := if r.2 ≠ 0 then ([], r.2) else (d ++ r.1, 0)
theorem all_bad {l : List UInt8} {p : Nat} (hp : p ≤ l.length) (h : (tak l p).2 ≠ 0) : all l p = ([], (tak l p).2) := by
  unfold all
  rw [show l.length + 1 - p = (l.length - p) + 1 by omega, allF, if_pos h]
theorem all_end {l : List UInt8} {p : Nat} (hp : p ≤ l.length) (h : (tak l p).2 = 0) (hk : (tak l p).1.k = 11) : all l p = ([], 0) := by
  unfold all
  rw [show l.length + 1 - p = (l.length - p) + 1 by omega, allF, if_neg (by omega), if_pos hk]
theorem all_go {l : List UInt8} {p : Nat} (hp : p ≤ l.length) (h : (tak l p).2 = 0) (hk : (tak l p).1.k ≠ 11) : all l p = joinA [(tak l p).1] (all l (tak l p).1.x) := by
  have hm := tak_more hp h hk
  unfold all joinA
  rw [show l.length + 1 - p = (l.length - p) + 1 by omega, allF, if_neg (by omega), if_neg hk, allF_fuel (l.length - p) (l.length + 1 - (tak l p).1.x) l _ hm.2.1 (by omega) (by omega)]
  split
  · rfl
  · rfl
theorem joinA_joinA (d e : List Wd) (r : List Wd × Nat) : joinA d (joinA e r) = joinA (d ++ e) r := by
  by_cases h : r.2 = 0
  · unfold joinA; simp [h]
  · unfold joinA; simp [h]
/-- What has been told, and where the next one begins: the loop of All. -/
def AllAt (l : List UInt8) (d : List Wd) (p : Nat) : Prop := p ≤ l.length ∧ d.length ≤ p ∧ all l 0 = joinA d (all l p)
theorem allAt_start (l : List UInt8) : AllAt l [] 0 := ⟨Nat.zero_le _, Nat.le_refl _, by
  unfold joinA
  split
  · rename_i h
    have : (all l 0).1 = [] ∨ (all l 0).2 = 0 := by
      unfold all
      rw [show l.length + 1 - 0 = l.length + 1 by omega, allF]
      split
      · exact .inl rfl
      · split
        · exact .inl rfl
        · split
          · exact .inl rfl
          · exact .inr rfl
    rcases this with e | e
    · rw [← e]
    · exact absurd e h
  · rename_i h
    have : (all l 0).2 = 0 := by omega
    exact Prod.ext rfl this⟩
theorem AllAt.bad {l : List UInt8} {d : List Wd} {p : Nat} (h : AllAt l d p) (he : (tak l p).2 ≠ 0) : all l 0 = ([], (tak l p).2) := by
  rw [h.2.2, all_bad h.1 he]; unfold joinA; rw [if_pos he]
theorem AllAt.done {l : List UInt8} {d : List Wd} {p : Nat} (h : AllAt l d p) (he : (tak l p).2 = 0) (hk : (tak l p).1.k = 11) : all l 0 = (d, 0) := by
  rw [h.2.2, all_end h.1 he hk]; unfold joinA; simp
theorem AllAt.go {l : List UInt8} {d : List Wd} {p : Nat} (h : AllAt l d p) (he : (tak l p).2 = 0) (hk : (tak l p).1.k ≠ 11) : AllAt l (d ++ [(tak l p).1]) (tak l p).1.x ∧ p < (tak l p).1.x := by
  have hm := tak_more h.1 he hk
  refine ⟨⟨hm.2.1, by have := h.2.1; simp; omega, ?_⟩, hm.1⟩
  rw [h.2.2, all_go h.1 he hk, joinA_joinA]
end Go.Proofs.YtnfhikgfcdcpoaaDoor.Jx
