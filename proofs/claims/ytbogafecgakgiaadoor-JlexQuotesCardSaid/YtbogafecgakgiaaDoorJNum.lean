/- Plain mathematics of layer 6: what the words of JSON texts are. -/
import Derived.Test.YtbogafecgakgiaaDoorUNum
namespace Go.Proofs.YtbogafecgakgiaaDoor.Jx
open Num

def isD (c : Nat) : Bool := decide (48 ≤ c ∧ c ≤ 57)
def isL (c : Nat) : Bool := decide ((48 ≤ c ∧ c ≤ 57) ∨ (97 ≤ c ∧ c ≤ 122) ∨ (65 ≤ c ∧ c ≤ 90))
def isW (c : Nat) : Bool := decide (c = 32 ∨ c = 9 ∨ c = 10 ∨ c = 13)
/-- The byte at a place; 0 behind the end. -/
def byt (l : List UInt8) (i : Nat) : Nat := (l.getD i 0).toNat
theorem byt_lt (l : List UInt8) (i : Nat) : byt l i < 256 := (l.getD i 0).toNat_lt
theorem byt_end {l : List UInt8} {i : Nat} (h : l.length ≤ i) : byt l i = 0 := by
  unfold byt; rw [List.getD, List.getElem?_eq_none h]; rfl
theorem byt_pos {l : List UInt8} {i : Nat} (h : byt l i ≠ 0) : i < l.length := by
  rcases Nat.lt_or_ge i l.length with k | k
  · exact k
  · exact absurd (byt_end k) h
theorem byt_drop (l : List UInt8) (p i : Nat) : byt (l.drop p) i = byt l (p + i) := by
  unfold byt; simp [List.getD, List.getElem?_drop]
theorem byt_zero (x : UInt8) (r : List UInt8) : byt (x :: r) 0 = x.toNat := rfl
theorem byt_succ (x : UInt8) (r : List UInt8) (i : Nat) : byt (x :: r) (i + 1) = byt r i := rfl
theorem byt_app {l m : List UInt8} {i : Nat} (h : i < l.length) : byt (l ++ m) i = byt l i := by
  unfold byt; simp [List.getD, List.getElem?_append_left h]
theorem byt_app2 {l m : List UInt8} {i : Nat} (h : l.length ≤ i) : byt (l ++ m) i = byt m (i - l.length) := by
  unfold byt; simp [List.getD, List.getElem?_append_right h]
theorem byt_take {l : List UInt8} {n i : Nat} (h : i < n) : byt (l.take n) i = byt l i := by
  unfold byt; simp [List.getD, h]
/-- Bytes that are kept, with others behind. -/
theorem byt_cut {l m : List UInt8} {n i : Nat} (h : i < n) (k : i < l.length) : byt (l.take n ++ m) i = byt l i := by
  rw [byt_app (by rw [List.length_take]; omega), byt_take h]
theorem byt_cut2 {l m : List UInt8} {n i : Nat} (h : n ≤ i) (k : n ≤ l.length) : byt (l.take n ++ m) i = byt m (i - n) := by
  rw [byt_app2 (by rw [List.length_take]; omega), List.length_take, Nat.min_eq_left k]
theorem byt_toNat (l : List UInt8) (i : Nat) : l.getD i 0 = UInt8.ofNat (byt l i) := by unfold byt; simp
theorem drop_cut {l m : List UInt8} {n p : Nat} (h : p ≤ n) (k : n ≤ l.length) : (l.take n ++ m).drop p = (l.drop p).take (n - p) ++ m := by
  rw [List.drop_append_of_le_length (by rw [List.length_take]; omega), List.drop_take]

/-- How many bytes ahead are so. -/
def cnt (p : Nat → Bool) : List UInt8 → Nat
  | [] => 0
  | x :: r => if p x.toNat = true then cnt p r + 1 else 0
theorem cnt_le (p : Nat → Bool) : ∀ l, cnt p l ≤ l.length
  | [] => Nat.le_refl _
  | x :: r => by unfold cnt; have := cnt_le p r; split <;> simp <;> omega
theorem cnt_in (p : Nat → Bool) : ∀ (l : List UInt8) {k : Nat}, k < cnt p l → p (byt l k) = true
  | [], _, h => absurd h (Nat.not_lt_zero _)
  | x :: r, k, h => by
    unfold cnt at h
    split at h
    · rename_i hx
      cases k with
      | zero => exact hx
      | succ k => exact cnt_in p r (by omega)
    · omega
theorem cnt_out (p : Nat → Bool) : ∀ (l : List UInt8), cnt p l < l.length → p (byt l (cnt p l)) = false
  | [], h => absurd h (Nat.lt_irrefl _)
  | x :: r, h => by
    unfold cnt at h ⊢
    split
    · rename_i hx
      rw [if_pos hx] at h
      exact cnt_out p r (by simpa using h)
    · rename_i hx
      rw [byt_zero]; simpa using hx
theorem cnt_out0 (p : Nat → Bool) (h0 : p 0 = false) (l : List UInt8) : p (byt l (cnt p l)) = false := by
  rcases Nat.lt_or_ge (cnt p l) l.length with h | h
  · exact cnt_out p l h
  · rw [byt_end h, h0]
theorem cnt_eq {p : Nat → Bool} {l : List UInt8} {k : Nat} (hk : k ≤ l.length) (h : ∀ j, j < k → p (byt l j) = true) (h2 : k = l.length ∨ p (byt l k) = false) : cnt p l = k := by
  rcases Nat.lt_trichotomy (cnt p l) k with c | c | c
  · have := cnt_out p l (by omega); rw [h _ c] at this; cases this
  · exact c
  · rcases h2 with h2 | h2
    · have := cnt_le p l; omega
    · have := cnt_in p l c; rw [h2] at this; cases this
theorem cnt_cut {p : Nat → Bool} {l m : List UInt8} {n : Nat} (hn : n ≤ l.length) (h : cnt p l ≤ n) (h2 : cnt p l < n ∨ p (byt m 0) = false) : cnt p (l.take n ++ m) = cnt p l := by
  refine cnt_eq (by simp; omega) (fun j hj => ?_) ?_
  · rw [byt_cut (by omega) (by omega)]; exact cnt_in p l hj
  · rcases h2 with h2 | h2
    · refine .inr ?_
      rw [byt_cut h2 (by omega)]; exact cnt_out p l (by omega)
    · rcases Nat.lt_or_ge (cnt p l) n with h3 | h3
      · refine .inr ?_
        rw [byt_cut h3 (by omega)]; exact cnt_out p l (by omega)
      · refine .inr ?_
        rw [byt_cut2 h3 hn, show cnt p l - n = 0 by omega]; exact h2

/-- The number that digits are. -/
def val (d : List UInt8) : Nat := d.foldl (fun u x => u * 10 + (x.toNat - 48)) 0
theorem val_snoc (d : List UInt8) (x : UInt8) : val (d ++ [x]) = val d * 10 + (x.toNat - 48) := by unfold val; simp
theorem take_snoc {d : List UInt8} {k : Nat} (h : k < d.length) : d.take (k + 1) = d.take k ++ [d.getD k 0] := by
  rw [List.take_succ_eq_append_getElem h]; simp [List.getD, List.getElem?_eq_getElem h]
theorem val_take {d : List UInt8} {k : Nat} (h : k < d.length) : val (d.take (k + 1)) = val (d.take k) * 10 + (byt d k - 48) := by
  rw [take_snoc h, val_snoc]; rfl
theorem val_lt {d : List UInt8} (k : Nat) (hk : k ≤ d.length) (h : ∀ j, j < k → isD (byt d j) = true) : val (d.take k) < 10 ^ k := by
  induction k with
  | zero => simp [val]
  | succ k ih =>
    have i := ih (by omega) (fun j hj => h j (by omega))
    have g := h k (by omega)
    unfold isD at g
    simp only [decide_eq_true_eq] at g
    rw [val_take (by omega), Nat.pow_succ]
    omega
theorem val_ge {d : List UInt8} (h0 : 49 ≤ byt d 0) (k : Nat) (hk : k < d.length) : 10 ^ k ≤ val (d.take (k + 1)) := by
  induction k with
  | zero => rw [val_take hk]; simp [val]; omega
  | succ k ih =>
    have i := ih (by omega)
    rw [val_take hk, Nat.pow_succ]
    omega

/-- A number: what it is, how many bytes it has, the error. -/
def numR (m : Nat) (r : List UInt8) : Int × Nat × Nat :=
  if cnt isD r = 0 ∨ (byt r 0 = 48 ∧ 1 < cnt isD r) ∨ (isL (byt r (cnt isD r)) = true ∧ byt r (cnt isD r) ≠ 101 ∧ byt r (cnt isD r) ≠ 69) then (0, m + cnt isD r, 20)
  else if byt r (cnt isD r) = 46 ∨ isL (byt r (cnt isD r)) = true ∨ 9223372036854775808 < val (r.take (cnt isD r)) ∨ (val (r.take (cnt isD r)) = 9223372036854775808 ∧ m = 0) then (0, m + cnt isD r, 22)
  else (if m = 0 then (val (r.take (cnt isD r)) : Int) else -(val (r.take (cnt isD r)) : Int), m + cnt isD r, 0)
def num (l : List UInt8) : Int × Nat × Nat := if byt l 0 = 45 then numR 1 (l.drop 1) else numR 0 l

/-- A hexadecimal digit, or -1; four of them. -/
def hex (c : Nat) : Int := if 48 ≤ c ∧ c ≤ 57 then (c : Int) - 48 else if 65 ≤ c ∧ c ≤ 70 then (c : Int) - 55 else if 97 ≤ c ∧ c ≤ 102 then (c : Int) - 87 else -1
theorem hex_is (c : Nat) : (48 ≤ c ∧ c ≤ 57 ∧ hex c = (c : Int) - 48) ∨ (65 ≤ c ∧ c ≤ 70 ∧ hex c = (c : Int) - 55) ∨ (97 ≤ c ∧ c ≤ 102 ∧ hex c = (c : Int) - 87) ∨ (hex c = -1 ∧ ¬ (48 ≤ c ∧ c ≤ 57) ∧ ¬ (65 ≤ c ∧ c ≤ 70) ∧ ¬ (97 ≤ c ∧ c ≤ 102)) := by
  unfold hex; split
  · omega
  · split
    · omega
    · split <;> omega
theorem hex_le (c : Nat) : -1 ≤ hex c ∧ hex c ≤ 15 := by have := hex_is c; omega
def four (l : List UInt8) : Int :=
  if hex (byt l 0) < 0 ∨ hex (byt l 1) < 0 ∨ hex (byt l 2) < 0 ∨ hex (byt l 3) < 0 then -1 else ((hex (byt l 0) * 16 + hex (byt l 1)) * 16 + hex (byt l 2)) * 16 + hex (byt l 3)
theorem four_le (l : List UInt8) : -1 ≤ four l ∧ four l ≤ 65535 := by
  have a := hex_le (byt l 0); have b := hex_le (byt l 1); have c := hex_le (byt l 2); have d := hex_le (byt l 3)
  unfold four; split <;> omega
theorem four_len {l : List UInt8} (h : 0 ≤ four l) : 4 ≤ l.length := by
  unfold four at h
  split at h
  · omega
  · have d := hex_is (byt l 3)
    have : byt l 3 ≠ 0 := by omega
    have := byt_pos this
    omega
theorem four_same {l m : List UInt8} (h : ∀ i, i < 4 → byt l i = byt m i) : four l = four m := by
  unfold four; rw [h 0 (by omega), h 1 (by omega), h 2 (by omega), h 3 (by omega)]

/-- What an escape of one byte is. -/
def esc (c : Nat) : Option Nat :=
  if c = 34 ∨ c = 47 ∨ c = 92 then some c else if c = 98 then some 8 else if c = 102 then some 12 else if c = 110 then some 10 else if c = 114 then some 13 else if c = 116 then some 9 else none
/-- What stands behind \u: its character's bytes, and how many bytes the escape has, or both of a pair. -/
def uni (l : List UInt8) : Option (List UInt8 × Nat) :=
  if 55296 ≤ four l ∧ four l ≤ 56319 ∧ byt l 4 = 92 ∧ byt l 5 = 117 then
    if 56320 ≤ four (l.drop 6) ∧ four (l.drop 6) ≤ 57343 then some (ue (65536 + (four l - 55296) * 1024 + four (l.drop 6) - 56320).toNat, 12) else none
  else if isC (four l) then some (ue (four l).toNat, 6) else none
/-- What a text goes on with: a character, or an escape. -/
def item (l : List UInt8) : Option (List UInt8 × Nat) :=
  if byt l 0 = 92 then
    match esc (byt l 1) with
    | some v => some ([UInt8.ofNat v], 2)
    | none => if byt l 1 = 117 then uni (l.drop 2) else none
  else if (fst l).2.2 = 0 then some (l.take (fst l).2.1, (fst l).2.1) else none
def txtF : Nat → List UInt8 → Option (List UInt8 × Nat)
  | 0, _ => none
  | f + 1, l => if byt l 0 < 32 then none else if byt l 0 = 34 then some ([], 1) else
    match item l with
    | none => none
    | some (o, n) => (txtF f (l.drop n)).map fun r => (o ++ r.1, n + r.2)
/-- A text behind its first sign: what it says, and how many bytes it has, with the last sign. -/
def txt (l : List UInt8) : Option (List UInt8 × Nat) := txtF (l.length + 1) l

theorem uni_len {l o : List UInt8} {n : Nat} (h : uni l = some (o, n)) : 4 ≤ n ∧ n ≤ l.length + 2 ∧ o.length ≤ 4 := by
  unfold uni at h
  split at h
  · split at h
    · rename_i h1 h2
      simp only [Option.some.injEq, Prod.mk.injEq] at h
      obtain ⟨rfl, rfl⟩ := h
      have a := four_len (l := l.drop 6) (by omega)
      rw [List.length_drop] at a
      have := ue_len (65536 + (four l - 55296) * 1024 + four (l.drop 6) - 56320).toNat
      exact ⟨by omega, by omega, this.2⟩
    · cases h
  · split at h
    · rename_i h1 h2
      simp only [Option.some.injEq, Prod.mk.injEq] at h
      obtain ⟨rfl, rfl⟩ := h
      have a := four_len (l := l) h2.1
      exact ⟨by omega, by omega, (ue_len _).2⟩
    · cases h
theorem esc_pos {c v : Nat} (h : esc c = some v) : c ≠ 0 := by
  intro e; subst e; simp [esc] at h
theorem item_len {l o : List UInt8} {n : Nat} (h : item l = some (o, n)) : 1 ≤ n ∧ n ≤ l.length ∧ o.length ≤ n := by
  unfold item at h
  split at h
  · split at h
    · rename_i v hv
      simp only [Option.some.injEq, Prod.mk.injEq] at h
      obtain ⟨rfl, rfl⟩ := h
      have := byt_pos (esc_pos hv)
      simp; omega
    · split at h
      · rename_i h1
        have := uni_len h
        rw [List.length_drop] at this
        have := byt_pos (l := l) (i := 1) (by omega)
        omega
      · cases h
  · split at h
    · rename_i h1
      simp only [Option.some.injEq, Prod.mk.injEq] at h
      obtain ⟨rfl, rfl⟩ := h
      rcases fst_err l with ⟨c, n, e, a, b, d⟩ | ⟨e, _⟩ | e
      · rw [e]; simp; omega
      · rw [e] at h1; cases h1
      · rw [e] at h1; cases h1
    · cases h
theorem txtF_fuel : ∀ (f g : Nat) (l : List UInt8), l.length < f → l.length < g → txtF f l = txtF g l
  | 0, _, _, h, _ => absurd h (Nat.not_lt_zero _)
  | _ + 1, 0, _, _, h => absurd h (Nat.not_lt_zero _)
  | f + 1, g + 1, l, h1, h2 => by
    unfold txtF
    split
    · rfl
    · split
      · rfl
      · split
        · rfl
        · rename_i o n hi
          have := item_len hi
          rw [txtF_fuel f g (l.drop n) (by rw [List.length_drop]; omega) (by rw [List.length_drop]; omega)]
theorem txt_bad {l : List UInt8} (h : byt l 0 < 32) : txt l = none := by unfold txt txtF; rw [if_pos h]
theorem txt_end {l : List UInt8} (h : byt l 0 = 34) : txt l = some ([], 1) := by unfold txt txtF; rw [if_neg (by omega), if_pos h]
theorem txt_no {l : List UInt8} (h1 : byt l 0 ≠ 34) (h : item l = none) : txt l = none := by
  unfold txt txtF
  split
  · rfl
  · rw [h]
theorem txt_go {l o : List UInt8} {n : Nat} (h0 : 32 ≤ byt l 0) (h1 : byt l 0 ≠ 34) (h : item l = some (o, n)) : txt l = (txt (l.drop n)).map fun r => (o ++ r.1, n + r.2) := by
  have := item_len h
  unfold txt
  rw [txtF, if_neg (by omega), if_neg h1, h]
  simp only
  rw [txtF_fuel l.length ((l.drop n).length + 1) (l.drop n) (by rw [List.length_drop]; omega) (by omega)]

/-- A word: its kind, its number, its text, where it begins, what stands behind it. -/
structure Wd where
  k : Nat
  n : Int
  t : List UInt8
  a : Nat
  x : Nat
def Wd.zero : Wd := ⟨0, 0, [], 0, 0⟩
def Wd.at_ (w : Wd) (q : Nat) : Wd := ⟨w.k, w.n, w.t, w.a + q, w.x + q⟩
def punct (c : Nat) : Nat := if c = 123 then 1 else if c = 125 then 2 else if c = 91 then 3 else if c = 93 then 4 else if c = 58 then 5 else if c = 44 then 6 else 0
def named (l s : List UInt8) : Bool := decide (l.take s.length = s) && !isL (byt l s.length)
def sT : List UInt8 := [116, 114, 117, 101]
def sF : List UInt8 := [102, 97, 108, 115, 101]
def sN : List UInt8 := [110, 117, 108, 108]
/-- The word that stands first, from place 0 on, and the error. -/
def word (l : List UInt8) : Wd × Nat :=
  if punct (byt l 0) ≠ 0 then (⟨punct (byt l 0), 0, [], 0, 1⟩, 0)
  else if byt l 0 = 34 then
    match txt (l.drop 1) with
    | none => (Wd.zero, 20)
    | some (s, k) => (⟨10, 0, s, 0, k + 1⟩, 0)
  else if byt l 0 = 45 ∨ isD (byt l 0) = true then
    if (num l).2.2 = 0 then (⟨9, (num l).1, [], 0, (num l).2.1⟩, 0) else (Wd.zero, (num l).2.2)
  else if named l sT = true then (⟨7, 1, [], 0, 4⟩, 0)
  else if named l sF = true then (⟨7, 0, [], 0, 5⟩, 0)
  else if named l sN = true then (⟨8, 0, [], 0, 4⟩, 0)
  else (Wd.zero, 20)
def tak (l : List UInt8) (p : Nat) : Wd × Nat :=
  if p + cnt isW (l.drop p) = l.length then (⟨11, 0, [], l.length, l.length⟩, 0)
  else if (word (l.drop (p + cnt isW (l.drop p)))).2 = 0 then ((word (l.drop (p + cnt isW (l.drop p)))).1.at_ (p + cnt isW (l.drop p)), 0)
  else (Wd.zero, (word (l.drop (p + cnt isW (l.drop p)))).2)
def takI (l : List UInt8) (i : Int) : Wd × Nat := if i < 0 ∨ (l.length : Int) < i then (Wd.zero, 2) else tak l i.toNat
def allF : Nat → List UInt8 → Nat → List Wd × Nat
  | 0, _, _ => ([], 0)
  | f + 1, l, p => if (tak l p).2 ≠ 0 then ([], (tak l p).2) else if (tak l p).1.k = 11 then ([], 0)
    else if (allF f l (tak l p).1.x).2 ≠ 0 then ([], (allF f l (tak l p).1.x).2) else ((tak l p).1 :: (allF f l (tak l p).1.x).1, 0)
def all (l : List UInt8) (p : Nat) : List Wd × Nat := allF (l.length + 1 - p) l p
end Go.Proofs.YtbogafecgakgiaaDoor.Jx
