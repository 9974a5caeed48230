/- Joined by tools/bundle.py: JNum JPar JEq KFrm JGet SMath SWt. -/
import Derived.Deep.LoopGhost
import Derived.BigQuiet
import Derived.Test.YthogheglddfniaaGreatDoorW1
import Derived.Test.YthogheglddfniaaGreatDoorW2
import Derived.Test.YthogheglddfniaaGreatDoorW3
import Derived.Test.YthogheglddfniaaGreatDoorW0
set_option maxRecDepth 100000
set_option maxHeartbeats 16000000
namespace Go.Proofs.YthogheglddfniaaGreatDoor.Jx
open Num
def isD (c : Nat) : Bool := decide (48 ≤ c ∧ c ≤ 57)
def isL (c : Nat) : Bool := decide ((48 ≤ c ∧ c ≤ 57) ∨ (97 ≤ c ∧ c ≤ 122) ∨ (65 ≤ c ∧ c ≤ 90))
def isW (c : Nat) : Bool := decide (c = 32 ∨ c = 9 ∨ c = 10 ∨ c = 13)
def byt (l : List UInt8) (i : Nat) : Nat := (l.getD i 0).toNat
theorem byt_lt (l : List UInt8) (i : Nat) : byt l i < 256 := (l.getD i 0).toNat_lt
theorem byt_end {l : List UInt8} {i : Nat} (h : l.length ≤ i) : byt l i = 0 := by
 unfold byt; rw [List.getD, List.getElem?_eq_none h]; rfl
theorem byt_pos {l : List UInt8} {i : Nat} (h : byt l i ≠ 0) : i < l.length := by
 rcases Nat.lt_or_ge i l.length with k | k
 · exact k
 · exact absurd (byt_end k) h
theorem byt_drop (l : List UInt8) (p i : Nat) : byt (l.drop p) i = byt l (p + i) := by
 unfold byt; simp [List.getD, List.getElem?_drop]
theorem byt_zero (x : UInt8) (r : List UInt8) : byt (x :: r) 0 = x.toNat := rfl
theorem byt_app {l m : List UInt8} {i : Nat} (h : i < l.length) : byt (l ++ m) i = byt l i := by
 unfold byt; simp [List.getD, List.getElem?_append_left h]
theorem byt_app2 {l m : List UInt8} {i : Nat} (h : l.length ≤ i) : byt (l ++ m) i = byt m (i - l.length) := by
 unfold byt; simp [List.getD, List.getElem?_append_right h]
theorem byt_take {l : List UInt8} {n i : Nat} (h : i < n) : byt (l.take n) i = byt l i := by
 unfold byt; simp [List.getD, h]
theorem byt_toNat (l : List UInt8) (i : Nat) : l.getD i 0 = UInt8.ofNat (byt l i) := by unfold byt; simp
def cnt (p : Nat → Bool) : List UInt8 → Nat
 | [] => 0
 | x :: r => if p x.toNat = true then cnt p r + 1 else 0
theorem cnt_le (p : Nat → Bool) : ∀ l, cnt p l ≤ l.length
 | [] => Nat.le_refl _
 | x :: r => by unfold cnt; have := cnt_le p r; split <;> simp <;> omega
theorem cnt_in (p : Nat → Bool) : ∀ (l : List UInt8) {k : Nat}, k < cnt p l → p (byt l k) = true
 | [], _, h => absurd h (Nat.not_lt_zero _)
 | x :: r, k, h => by
  unfold cnt at h
  split at h
  · rename_i hx
    cases k with
    | zero => exact hx
    | succ k => exact cnt_in p r (by omega)
  · omega
theorem cnt_out (p : Nat → Bool) : ∀ (l : List UInt8), cnt p l < l.length → p (byt l (cnt p l)) = false
 | [], h => absurd h (Nat.lt_irrefl _)
 | x :: r, h => by
  unfold cnt at h ⊢
  split
  · rename_i hx
    rw [if_pos hx] at h
    exact cnt_out p r (by simpa using h)
  · rename_i hx
    rw [byt_zero]; simpa using hx
theorem cnt_eq {p : Nat → Bool} {l : List UInt8} {k : Nat} (hk : k ≤ l.length) (h : ∀ j, j < k → p (byt l j) = true) (h2 : k = l.length ∨ p (byt l k) = false) : cnt p l = k := by
 rcases Nat.lt_trichotomy (cnt p l) k with c | c | c
 · have := cnt_out p l (by omega); rw [h _ c] at this; cases this
 · exact c
 · rcases h2 with h2 | h2
   · have := cnt_le p l; omega
   · have := cnt_in p l c; rw [h2] at this; cases this
def val (d : List UInt8) : Nat := d.foldl (fun u x => u * 10 + (x.toNat - 48)) 0
theorem val_snoc (d : List UInt8) (x : UInt8) : val (d ++ [x]) = val d * 10 + (x.toNat - 48) := by unfold val; simp
theorem take_snoc {d : List UInt8} {k : Nat} (h : k < d.length) : d.take (k + 1) = d.take k ++ [d.getD k 0] := by
 rw [List.take_succ_eq_append_getElem h]; simp [List.getD, List.getElem?_eq_getElem h]
theorem val_take {d : List UInt8} {k : Nat} (h : k < d.length) : val (d.take (k + 1)) = val (d.take k) * 10 + (byt d k - 48) := by
 rw [take_snoc h, val_snoc]; rfl
theorem val_lt {d : List UInt8} (k : Nat) (hk : k ≤ d.length) (h : ∀ j, j < k → isD (byt d j) = true) : val (d.take k) < 10 ^ k := by
 induction k with
 | zero => simp [val]
 | succ k ih =>
  have i := ih (by omega) (fun j hj => h j (by omega))
  have g := h k (by omega)
  unfold isD at g
  simp only [decide_eq_true_eq] at g
  rw [val_take (by omega), Nat.pow_succ]
  omega
theorem val_ge {d : List UInt8} (h0 : 49 ≤ byt d 0) (k : Nat) (hk : k < d.length) : 10 ^ k ≤ val (d.take (k + 1)) := by
 induction k with
 | zero => rw [val_take hk]; simp [val]; omega
 | succ k ih =>
  have i := ih (by omega)
  rw [val_take hk, Nat.pow_succ]
  omega
def numR (m : Nat) (r : List UInt8) : Int × Nat × Nat :=
 if cnt isD r = 0 ∨ (byt r 0 = 48 ∧ 1 < cnt isD r) ∨ (isL (byt r (cnt isD r)) = true ∧ byt r (cnt isD r) ≠ 101 ∧ byt r (cnt isD r) ≠ 69) then (0, m + cnt isD r, 20)
 else if byt r (cnt isD r) = 46 ∨ isL (byt r (cnt isD r)) = true ∨ 9223372036854775808 < val (r.take (cnt isD r)) ∨ (val (r.take (cnt isD r)) = 9223372036854775808 ∧ m = 0) then (0, m + cnt isD r, 22)
 else (if m = 0 then (val (r.take (cnt isD r)) : Int) else -(val (r.take (cnt isD r)) : Int), m + cnt isD r, 0)
def num (l : List UInt8) : Int × Nat × Nat := if byt l 0 = 45 then numR 1 (l.drop 1) else numR 0 l
def hex (c : Nat) : Int := if 48 ≤ c ∧ c ≤ 57 then (c : Int) - 48 else if 65 ≤ c ∧ c ≤ 70 then (c : Int) - 55 else if 97 ≤ c ∧ c ≤ 102 then (c : Int) - 87 else -1
theorem hex_is (c : Nat) : (48 ≤ c ∧ c ≤ 57 ∧ hex c = (c : Int) - 48) ∨ (65 ≤ c ∧ c ≤ 70 ∧ hex c = (c : Int) - 55) ∨ (97 ≤ c ∧ c ≤ 102 ∧ hex c = (c : Int) - 87) ∨ (hex c = -1 ∧ ¬ (48 ≤ c ∧ c ≤ 57) ∧ ¬ (65 ≤ c ∧ c ≤ 70) ∧ ¬ (97 ≤ c ∧ c ≤ 102)) := by
 unfold hex; split
 · omega
 · split
   · omega
   · split <;> omega
theorem hex_le (c : Nat) : -1 ≤ hex c ∧ hex c ≤ 15 := by have := hex_is c; omega
def four (l : List UInt8) : Int :=
 if hex (byt l 0) < 0 ∨ hex (byt l 1) < 0 ∨ hex (byt l 2) < 0 ∨ hex (byt l 3) < 0 then -1 else ((hex (byt l 0) * 16 + hex (byt l 1)) * 16 + hex (byt l 2)) * 16 + hex (byt l 3)
theorem four_le (l : List UInt8) : -1 ≤ four l ∧ four l ≤ 65535 := by
 have a := hex_le (byt l 0); have b := hex_le (byt l 1); have c := hex_le (byt l 2); have d := hex_le (byt l 3)
 unfold four; split <;> omega
theorem four_len {l : List UInt8} (h : 0 ≤ four l) : 4 ≤ l.length := by
 unfold four at h
 split at h
 · omega
 · have d := hex_is (byt l 3)
   have : byt l 3 ≠ 0 := by omega
   have := byt_pos this
   omega
def esc (c : Nat) : Option Nat :=
 if c = 34 ∨ c = 47 ∨ c = 92 then some c else if c = 98 then some 8 else if c = 102 then some 12 else if c = 110 then some 10 else if c = 114 then some 13 else if c = 116 then some 9 else none
def uni (l : List UInt8) : Option (List UInt8 × Nat) :=
 if 55296 ≤ four l ∧ four l ≤ 56319 ∧ byt l 4 = 92 ∧ byt l 5 = 117 then
  if 56320 ≤ four (l.drop 6) ∧ four (l.drop 6) ≤ 57343 then some (ue (65536 + (four l - 55296) * 1024 + four (l.drop 6) - 56320).toNat, 12) else none
 else if isC (four l) then some (ue (four l).toNat, 6) else none
def item (l : List UInt8) : Option (List UInt8 × Nat) :=
 if byt l 0 = 92 then
  match esc (byt l 1) with
  | some v => some ([UInt8.ofNat v], 2)
  | none => if byt l 1 = 117 then uni (l.drop 2) else none
 else if (fst l).2.2 = 0 then some (l.take (fst l).2.1, (fst l).2.1) else none
def txtF : Nat → List UInt8 → Option (List UInt8 × Nat)
 | 0, _ => none
 | f + 1, l => if byt l 0 < 32 then none else if byt l 0 = 34 then some ([], 1) else
  match item l with
  | none => none
  | some (o, n) => (txtF f (l.drop n)).map fun r => (o ++ r.1, n + r.2)
def txt (l : List UInt8) : Option (List UInt8 × Nat) := txtF (l.length + 1) l
theorem uni_len {l o : List UInt8} {n : Nat} (h : uni l = some (o, n)) : 4 ≤ n ∧ n ≤ l.length + 2 ∧ o.length ≤ 4 := by
 unfold uni at h
 split at h
 · split at h
   · rename_i h1 h2
     simp only [Option.some.injEq, Prod.mk.injEq] at h
     obtain ⟨rfl, rfl⟩ := h
     have a := four_len (l := l.drop 6) (by omega)
     rw [List.length_drop] at a
     have := ue_len (65536 + (four l - 55296) * 1024 + four (l.drop 6) - 56320).toNat
     exact ⟨by omega, by omega, this.2⟩
   · cases h
 · split at h
   · rename_i h1 h2
     simp only [Option.some.injEq, Prod.mk.injEq] at h
     obtain ⟨rfl, rfl⟩ := h
     have a := four_len (l := l) h2.1
     exact ⟨by omega, by omega, (ue_len _).2⟩
   · cases h
theorem esc_pos {c v : Nat} (h : esc c = some v) : c ≠ 0 := by
 intro e; subst e; simp [esc] at h
theorem item_len {l o : List UInt8} {n : Nat} (h : item l = some (o, n)) : 1 ≤ n ∧ n ≤ l.length ∧ o.length ≤ n := by
 unfold item at h
 split at h
 · split at h
   · rename_i v hv
     simp only [Option.some.injEq, Prod.mk.injEq] at h
     obtain ⟨rfl, rfl⟩ := h
     have := byt_pos (esc_pos hv)
     simp; omega
   · split at h
     · rename_i h1
       have := uni_len h
       rw [List.length_drop] at this
       have := byt_pos (l := l) (i := 1) (by omega)
       omega
     · cases h
 · split at h
   · rename_i h1
     simp only [Option.some.injEq, Prod.mk.injEq] at h
     obtain ⟨rfl, rfl⟩ := h
     rcases fst_err l with ⟨c, n, e, a, b, d⟩ | ⟨e, _⟩ | e
     · rw [e]; simp; omega
     · rw [e] at h1; cases h1
     · rw [e] at h1; cases h1
   · cases h
theorem txtF_fuel : ∀ (f g : Nat) (l : List UInt8), l.length < f → l.length < g → txtF f l = txtF g l
 | 0, _, _, h, _ => absurd h (Nat.not_lt_zero _)
 | _ + 1, 0, _, _, h => absurd h (Nat.not_lt_zero _)
 | f + 1, g + 1, l, h1, h2 => by
  unfold txtF
  split
  · rfl
  · split
    · rfl
    · split
      · rfl
      · rename_i o n hi
        have := item_len hi
        rw [txtF_fuel f g (l.drop n) (by rw [List.length_drop]; omega) (by rw [List.length_drop]; omega)]
theorem txt_bad {l : List UInt8} (h : byt l 0 < 32) : txt l = none := by unfold txt txtF; rw [if_pos h]
theorem txt_end {l : List UInt8} (h : byt l 0 = 34) : txt l = some ([], 1) := by unfold txt txtF; rw [if_neg (by omega), if_pos h]
theorem txt_no {l : List UInt8} (h1 : byt l 0 ≠ 34) (h : item l = none) : txt l = none := by
 unfold txt txtF
 split
 · rfl
 · rw [h]
theorem txt_go {l o : List UInt8} {n : Nat} (h0 : 32 ≤ byt l 0) (h1 : byt l 0 ≠ 34) (h : item l = some (o, n)) : txt l = (txt (l.drop n)).map fun r => (o ++ r.1, n + r.2) := by
 have := item_len h
 unfold txt
 rw [txtF, if_neg (by omega), if_neg h1, h]
 simp only
 rw [txtF_fuel l.length ((l.drop n).length + 1) (l.drop n) (by rw [List.length_drop]; omega) (by omega)]
structure Wd where
 k : Nat
 n : Int
 t : List UInt8
 a : Nat
 x : Nat
def Wd.zero : Wd := ⟨0, 0, [], 0, 0⟩
def Wd.at_ (w : Wd) (q : Nat) : Wd := ⟨w.k, w.n, w.t, w.a + q, w.x + q⟩
def punct (c : Nat) : Nat := if c = 123 then 1 else if c = 125 then 2 else if c = 91 then 3 else if c = 93 then 4 else if c = 58 then 5 else if c = 44 then 6 else 0
def named (l s : List UInt8) : Bool := decide (l.take s.length = s) && !isL (byt l s.length)
def sT : List UInt8 := [116, 114, 117, 101]
def sF : List UInt8 := [102, 97, 108, 115, 101]
def sN : List UInt8 := [110, 117, 108, 108]
def word (l : List UInt8) : Wd × Nat :=
 if punct (byt l 0) ≠ 0 then (⟨punct (byt l 0), 0, [], 0, 1⟩, 0)
 else if byt l 0 = 34 then
  match txt (l.drop 1) with
  | none => (Wd.zero, 20)
  | some (s, k) => (⟨10, 0, s, 0, k + 1⟩, 0)
 else if byt l 0 = 45 ∨ isD (byt l 0) = true then
  if (num l).2.2 = 0 then (⟨9, (num l).1, [], 0, (num l).2.1⟩, 0) else (Wd.zero, (num l).2.2)
 else if named l sT = true then (⟨7, 1, [], 0, 4⟩, 0)
 else if named l sF = true then (⟨7, 0, [], 0, 5⟩, 0)
 else if named l sN = true then (⟨8, 0, [], 0, 4⟩, 0)
 else (Wd.zero, 20)
def tak (l : List UInt8) (p : Nat) : Wd × Nat :=
 if p + cnt isW (l.drop p) = l.length then (⟨11, 0, [], l.length, l.length⟩, 0)
 else if (word (l.drop (p + cnt isW (l.drop p)))).2 = 0 then ((word (l.drop (p + cnt isW (l.drop p)))).1.at_ (p + cnt isW (l.drop p)), 0)
 else (Wd.zero, (word (l.drop (p + cnt isW (l.drop p)))).2)
def allF : Nat → List UInt8 → Nat → List Wd × Nat
 | 0, _, _ => ([], 0)
 | f + 1, l, p => if (tak l p).2 ≠ 0 then ([], (tak l p).2) else if (tak l p).1.k = 11 then ([], 0)
  else if (allF f l (tak l p).1.x).2 ≠ 0 then ([], (allF f l (tak l p).1.x).2) else ((tak l p).1 :: (allF f l (tak l p).1.x).1, 0)
def all (l : List UInt8) (p : Nat) : List Wd × Nat := allF (l.length + 1 - p) l p
end Go.Proofs.YthogheglddfniaaGreatDoor.Jx
namespace Go.Proofs.YthogheglddfniaaGreatDoor.Jx
open Num
theorem txt_len : ∀ (f : Nat) (l : List UInt8) {s : List UInt8} {k : Nat}, l.length < f → txt l = some (s, k) → 1 ≤ k ∧ k ≤ l.length ∧ s.length + 1 ≤ k
 | 0, _, _, _, h, _ => absurd h (Nat.not_lt_zero _)
 | f + 1, l, s, k, hf, h => by
  by_cases h0 : byt l 0 < 32
  · rw [txt_bad h0] at h; cases h
  by_cases h1 : byt l 0 = 34
  · rw [txt_end h1] at h
    simp only [Option.some.injEq, Prod.mk.injEq] at h
    obtain ⟨rfl, rfl⟩ := h
    have := byt_pos (l := l) (i := 0) (by omega)
    simp; omega
  cases hi : item l with
  | none => rw [txt_no h1 hi] at h; cases h
  | some r =>
   obtain ⟨o, n⟩ := r
   have hn := item_len hi
   rw [txt_go (by omega) h1 hi] at h
   cases ht : txt (l.drop n) with
   | none => rw [ht] at h; cases h
   | some r =>
    obtain ⟨s', k'⟩ := r
    rw [ht] at h
    simp only [Option.map_some, Option.some.injEq, Prod.mk.injEq] at h
    obtain ⟨rfl, rfl⟩ := h
    have := txt_len f (l.drop n) (by rw [List.length_drop]; omega) ht
    rw [List.length_drop] at this
    simp; omega
theorem isD_is {c : Nat} : isD c = true ↔ 48 ≤ c ∧ c ≤ 57 := by unfold isD; simp
theorem isL_is {c : Nat} : isL c = true ↔ (48 ≤ c ∧ c ≤ 57) ∨ (97 ≤ c ∧ c ≤ 122) ∨ (65 ≤ c ∧ c ≤ 90) := by unfold isL; simp
theorem isW_is {c : Nat} : isW c = true ↔ c = 32 ∨ c = 9 ∨ c = 10 ∨ c = 13 := by unfold isW; simp
theorem numR_len {m : Nat} {r : List UInt8} (h : (numR m r).2.2 = 0) : (numR m r).2.1 = m + cnt isD r ∧ cnt isD r ≠ 0 := by
 unfold numR at h ⊢
 split at h
 · cases h
 · rename_i h1
   split at h
   · cases h
   · rename_i h2
     rw [if_neg h1, if_neg h2]
     exact ⟨rfl, fun e => h1 (.inl e)⟩
theorem numR_big {m : Nat} {r : List UInt8} (h : (numR m r).2.2 = 0) : -9223372036854775808 ≤ (numR m r).1 ∧ (numR m r).1 ≤ 9223372036854775807 := by
 unfold numR at h ⊢
 split at h
 · cases h
 · rename_i h1
   split at h
   · cases h
   · rename_i h2
     rw [if_neg h1, if_neg h2]
     simp only
     split <;> omega
theorem numR_err (m : Nat) (r : List UInt8) : (numR m r).2.2 = 0 ∨ ((numR m r).1 = 0 ∧ ((numR m r).2.2 = 20 ∨ (numR m r).2.2 = 22)) := by
 unfold numR; split
 · exact .inr ⟨rfl, .inl rfl⟩
 · split
   · exact .inr ⟨rfl, .inr rfl⟩
   · exact .inl rfl
theorem num_len {l : List UInt8} (h : (num l).2.2 = 0) : 1 ≤ (num l).2.1 ∧ (num l).2.1 ≤ l.length := by
 unfold num at h ⊢
 split at h
 · rename_i h1
   rw [if_pos h1]
   have a := numR_len h
   have := cnt_le isD (l.drop 1)
   rw [List.length_drop] at this
   omega
 · rename_i h1
   rw [if_neg h1]
   have a := numR_len h
   have := cnt_le isD l
   omega
theorem num_big {l : List UInt8} (h : (num l).2.2 = 0) : -9223372036854775808 ≤ (num l).1 ∧ (num l).1 ≤ 9223372036854775807 := by
 unfold num at h ⊢
 split at h
 · rename_i h1; rw [if_pos h1]; exact numR_big h
 · rename_i h1; rw [if_neg h1]; exact numR_big h
theorem named_len {l s : List UInt8} (h : named l s = true) : s.length ≤ l.length := by
 unfold named at h
 simp only [Bool.and_eq_true, decide_eq_true_eq] at h
 have := congrArg List.length h.1
 rw [List.length_take] at this
 omega
theorem punct_is (c : Nat) : (punct c = 0 ∧ c ≠ 123 ∧ c ≠ 125 ∧ c ≠ 91 ∧ c ≠ 93 ∧ c ≠ 58 ∧ c ≠ 44) ∨ (punct c = 1 ∧ c = 123) ∨ (punct c = 2 ∧ c = 125) ∨ (punct c = 3 ∧ c = 91) ∨ (punct c = 4 ∧ c = 93) ∨ (punct c = 5 ∧ c = 58) ∨ (punct c = 6 ∧ c = 44) := by
 unfold punct
 split
 · omega
 · split
   · omega
   · split
     · omega
     · split
       · omega
       · split
         · omega
         · split <;> omega
theorem word_p {l : List UInt8} (h : punct (byt l 0) ≠ 0) : word l = (⟨punct (byt l 0), 0, [], 0, 1⟩, 0) := by unfold word; rw [if_pos h]
theorem word_t0 {l : List UInt8} (h : byt l 0 = 34) (ht : txt (l.drop 1) = none) : word l = (Wd.zero, 20) := by
 unfold word; rw [if_neg (by rw [h]; decide), if_pos h, ht]
theorem word_t {l s : List UInt8} {k : Nat} (h : byt l 0 = 34) (ht : txt (l.drop 1) = some (s, k)) : word l = (⟨10, 0, s, 0, k + 1⟩, 0) := by
 unfold word; rw [if_neg (by rw [h]; decide), if_pos h, ht]
theorem numb_p {c : Nat} (h : c = 45 ∨ isD c = true) : punct c = 0 ∧ c ≠ 34 := by
 rw [isD_is] at h
 have := punct_is c
 omega
theorem word_n {l : List UInt8} (h : byt l 0 = 45 ∨ isD (byt l 0) = true) : word l = if (num l).2.2 = 0 then (⟨9, (num l).1, [], 0, (num l).2.1⟩, 0) else (Wd.zero, (num l).2.2) := by
 have a := numb_p h
 unfold word; rw [if_neg (by omega), if_neg a.2, if_pos h]
theorem word_l {l : List UInt8} (h : punct (byt l 0) = 0) (h1 : byt l 0 ≠ 34) (h2 : ¬ (byt l 0 = 45 ∨ isD (byt l 0) = true)) :
 word l = if named l sT = true then (⟨7, 1, [], 0, 4⟩, 0) else if named l sF = true then (⟨7, 0, [], 0, 5⟩, 0) else if named l sN = true then (⟨8, 0, [], 0, 4⟩, 0) else (Wd.zero, 20) := by
 unfold word; rw [if_neg (by omega), if_neg h1, if_neg h2]
def Wd.ok (w : Wd) (len : Nat) : Prop := w.a = 0 ∧ 1 ≤ w.x ∧ w.x ≤ len ∧ 1 ≤ w.k ∧ w.k ≤ 10 ∧ -9223372036854775808 ≤ w.n ∧ w.n ≤ 9223372036854775807 ∧ w.t.length ≤ w.x
theorem word_ok {l : List UInt8} {w : Wd} (h : word l = (w, 0)) : w.ok l.length := by
 by_cases h0 : punct (byt l 0) = 0
 · by_cases h1 : byt l 0 = 34
   · have hl := byt_pos (l := l) (i := 0) (by omega)
     cases ht : txt (l.drop 1) with
     | none => rw [word_t0 h1 ht] at h; cases h
     | some r =>
      obtain ⟨s, k⟩ := r
      rw [word_t h1 ht] at h
      simp only [Prod.mk.injEq, and_true] at h
      subst h
      have := txt_len _ _ (Nat.lt_succ_self _) ht
      rw [List.length_drop] at this
      refine ⟨rfl, ?_, ?_, by show 1 ≤ 10; omega, by show 10 ≤ 10; omega, by show (-9223372036854775808 : Int) ≤ 0; omega, by show (0 : Int) ≤ 9223372036854775807; omega, ?_⟩
      · show 1 ≤ k + 1; omega
      · show k + 1 ≤ l.length; omega
      · show s.length ≤ k + 1; omega
   · by_cases h2 : byt l 0 = 45 ∨ isD (byt l 0) = true
     · rw [word_n h2] at h
       split at h
       · rename_i h3
         simp only [Prod.mk.injEq, and_true] at h
         subst h
         have a := num_len h3
         have b := num_big h3
         exact ⟨rfl, a.1, a.2, by show 1 ≤ 9; omega, by show 9 ≤ 10; omega, b.1, b.2, Nat.zero_le _⟩
       · rename_i h3
         simp only [Prod.mk.injEq] at h
         exact absurd h.2 h3
     · rw [word_l h0 h1 h2] at h
       have fin : ∀ (s : List UInt8) (k : Nat) (n : Int), named l s = true → 1 ≤ s.length → 1 ≤ k → k ≤ 10 → 0 ≤ n → n ≤ 1 → Wd.ok ⟨k, n, [], 0, s.length⟩ l.length := fun s k n a b c d e f =>
        ⟨rfl, b, named_len a, c, d, by show (-9223372036854775808 : Int) ≤ n; omega, by show n ≤ 9223372036854775807; omega, Nat.zero_le _⟩
       split at h
       · rename_i h3
         simp only [Prod.mk.injEq, and_true] at h
         subst h
         exact fin sT 7 1 h3 (by decide) (by omega) (by omega) (by omega) (by omega)
       · split at h
         · rename_i h3
           simp only [Prod.mk.injEq, and_true] at h
           subst h
           exact fin sF 7 0 h3 (by decide) (by omega) (by omega) (by omega) (by omega)
         · split at h
           · rename_i h3
             simp only [Prod.mk.injEq, and_true] at h
             subst h
             exact fin sN 8 0 h3 (by decide) (by omega) (by omega) (by omega) (by omega)
           · cases h
 · have hl : byt l 0 ≠ 0 := by intro e; rw [e] at h0; exact h0 rfl
   have hl := byt_pos hl
   rw [word_p h0] at h
   simp only [Prod.mk.injEq, and_true] at h
   subst h
   have := punct_is (byt l 0)
   refine ⟨rfl, by show 1 ≤ 1; omega, hl, ?_, ?_, by show (-9223372036854775808 : Int) ≤ 0; omega, by show (0 : Int) ≤ 9223372036854775807; omega, Nat.zero_le _⟩
   · show 1 ≤ punct (byt l 0); omega
   · show punct (byt l 0) ≤ 10; omega
theorem word_err (l : List UInt8) : (∃ w, word l = (w, 0)) ∨ word l = (Wd.zero, 20) ∨ word l = (Wd.zero, 22) := by
 by_cases h0 : punct (byt l 0) = 0
 · by_cases h1 : byt l 0 = 34
   · cases ht : txt (l.drop 1) with
     | none => exact .inr (.inl (word_t0 h1 ht))
     | some r => exact .inl ⟨_, word_t h1 ht⟩
   · by_cases h2 : byt l 0 = 45 ∨ isD (byt l 0) = true
     · rw [word_n h2]
       split
       · exact .inl ⟨_, rfl⟩
       · rename_i h3
         have e : (num l).2.2 = 20 ∨ (num l).2.2 = 22 := by
          unfold num at h3 ⊢
          split at h3
          · rename_i h4
            rw [if_pos h4]
            have := numR_err 1 (l.drop 1); omega
          · rename_i h4
            rw [if_neg h4]
            have := numR_err 0 l; omega
         rcases e with e | e
         · exact .inr (.inl (by rw [e]))
         · exact .inr (.inr (by rw [e]))
     · rw [word_l h0 h1 h2]
       split
       · exact .inl ⟨_, rfl⟩
       · split
         · exact .inl ⟨_, rfl⟩
         · split
           · exact .inl ⟨_, rfl⟩
           · exact .inr (.inl rfl)
 · exact .inl ⟨_, word_p h0⟩
end Go.Proofs.YthogheglddfniaaGreatDoor.Jx
namespace Go.Proofs.YthogheglddfniaaGreatDoor.Jx
open Num
def Wd.fine (w : Wd) (len : Nat) : Prop := w.a ≤ w.x ∧ w.x ≤ len ∧ w.k ≤ 11 ∧ -9223372036854775808 ≤ w.n ∧ w.n ≤ 9223372036854775807 ∧ w.t.length ≤ len
theorem tak_q (l : List UInt8) (p : Nat) (hp : p ≤ l.length) : p + cnt isW (l.drop p) ≤ l.length := by
 have := cnt_le isW (l.drop p); rw [List.length_drop] at this; omega
theorem tak_end {l : List UInt8} {p : Nat} (h : p + cnt isW (l.drop p) = l.length) : tak l p = (⟨11, 0, [], l.length, l.length⟩, 0) := by unfold tak; rw [if_pos h]
theorem tak_word {l : List UInt8} {p q : Nat} {w : Wd} (hq : q = p + cnt isW (l.drop p)) (h : q ≠ l.length) (hw : word (l.drop q) = (w, 0)) : tak l p = (w.at_ q, 0) := by
 subst hq
 unfold tak; rw [if_neg h, hw, if_pos rfl]
theorem tak_err {l : List UInt8} {p q e : Nat} {w : Wd} (hq : q = p + cnt isW (l.drop p)) (h : q ≠ l.length) (hw : word (l.drop q) = (w, e)) (he : e ≠ 0) : tak l p = (Wd.zero, e) := by
 subst hq
 unfold tak; rw [if_neg h, hw, if_neg he]
theorem tak_ways (l : List UInt8) (p : Nat) (hp : p ≤ l.length) :
 tak l p = (⟨11, 0, [], l.length, l.length⟩, 0) ∨ tak l p = (Wd.zero, 20) ∨ tak l p = (Wd.zero, 22) ∨
 ∃ w q, q = p + cnt isW (l.drop p) ∧ q < l.length ∧ word (l.drop q) = (w, 0) ∧ w.ok (l.length - q) ∧ tak l p = (w.at_ q, 0) := by
 have hq := tak_q l p hp
 by_cases h : p + cnt isW (l.drop p) = l.length
 · exact .inl (tak_end h)
 · rcases word_err (l.drop (p + cnt isW (l.drop p))) with ⟨w, hw⟩ | hw | hw
   · have := word_ok hw
     rw [List.length_drop] at this
     exact .inr (.inr (.inr ⟨w, _, rfl, by omega, hw, this, tak_word rfl h hw⟩))
   · exact .inr (.inl (tak_err rfl h hw (by decide)))
   · exact .inr (.inr (.inl (tak_err rfl h hw (by decide))))
theorem tak_fine (l : List UInt8) (p : Nat) (hp : p ≤ l.length) : (tak l p).1.fine l.length ∧ (tak l p).2 ≤ 22 := by
 rcases tak_ways l p hp with h | h | h | ⟨w, q, _, hq, _, hk, h⟩
 · rw [h]; exact ⟨⟨Nat.le_refl _, Nat.le_refl _, by show 11 ≤ 11; omega, by show (-9223372036854775808 : Int) ≤ 0; omega, by show (0 : Int) ≤ 9223372036854775807; omega, Nat.zero_le _⟩, by omega⟩
 · rw [h]; exact ⟨⟨Nat.le_refl _, Nat.zero_le _, Nat.zero_le _, by show (-9223372036854775808 : Int) ≤ 0; omega, by show (0 : Int) ≤ 9223372036854775807; omega, Nat.zero_le _⟩, by omega⟩
 · rw [h]; exact ⟨⟨Nat.le_refl _, Nat.zero_le _, Nat.zero_le _, by show (-9223372036854775808 : Int) ≤ 0; omega, by show (0 : Int) ≤ 9223372036854775807; omega, Nat.zero_le _⟩, by omega⟩
 · rw [h]
   obtain ⟨h1, h2, h3, h4, h5, h6, h7, h8⟩ := hk
   refine ⟨⟨?_, ?_, ?_, h6, h7, ?_⟩, by omega⟩
   · show w.a + q ≤ w.x + q; omega
   · show w.x + q ≤ l.length; omega
   · show w.k ≤ 11; omega
   · show w.t.length ≤ l.length; omega
theorem tak_more {l : List UInt8} {p : Nat} (hp : p ≤ l.length) (h : (tak l p).2 = 0) (hk : (tak l p).1.k ≠ 11) : p < (tak l p).1.x ∧ (tak l p).1.x ≤ l.length ∧ (tak l p).1.a < (tak l p).1.x := by
 rcases tak_ways l p hp with e | e | e | ⟨w, q, h0, hq, _, hw, e⟩
 · rw [e] at hk; exact absurd rfl hk
 · rw [e] at h; cases h
 · rw [e] at h; cases h
 · rw [e]
   obtain ⟨h1, h2, h3, h4, h5, h6, h7, h8⟩ := hw
   refine ⟨?_, ?_, ?_⟩
   · show p < w.x + q; omega
   · show w.x + q ≤ l.length; omega
   · show w.a + q < w.x + q; omega
end Go.Proofs.YthogheglddfniaaGreatDoor.Jx
namespace Go.Proofs.YthogheglddfniaaGreatDoor.Jp
open Jx
def nil_ : ByteArray := ⟨#[]⟩
def str (t : List UInt8) : ByteArray := ⟨t.toArray⟩
def kindOf (e : Nat) : Int := if e = 2 then 6 else 5
abbrev R := J × Nat × Nat
def bad (e : Nat) : R := (J.zero, 0, e)
mutual
/-- The value that stands at a place, within so many lists and objects. -/
def pval : Nat → List UInt8 → Nat → Nat → R
 | 0, _, _, _ => bad 20
 | f + 1, l, p, d =>
  if (tak l p).2 ≠ 0 then bad (tak l p).2
  else if (tak l p).1.k = 7 then (.mk 2 (tak l p).1.n nil_ [] [], (tak l p).1.x, 0)
  else if (tak l p).1.k = 8 then (.mk 1 0 nil_ [] [], (tak l p).1.x, 0)
  else if (tak l p).1.k = 9 then (.mk 3 (tak l p).1.n nil_ [] [], (tak l p).1.x, 0)
  else if (tak l p).1.k = 10 then (.mk 4 0 (str (tak l p).1.t) [] [], (tak l p).1.x, 0)
  else if (tak l p).1.k = 1 ∨ (tak l p).1.k = 3 then
   if d = 32 then bad 21
   else if (tak l (tak l p).1.x).2 = 0 ∧ (tak l (tak l p).1.x).1.k = (tak l p).1.k + 1 then (.mk (kindOf ((tak l p).1.k + 1)) 0 nil_ [] [], (tak l (tak l p).1.x).1.x, 0)
   else pits f l (tak l p).1.x (d + 1) ((tak l p).1.k + 1) [] []
  else bad 20
/-- The items that stand from a place on, of a list or an object that ends with a sign, behind others. -/
def pits : Nat → List UInt8 → Nat → Nat → Nat → List ByteArray → List J → R
 | 0, _, _, _, _, _, _ => bad 20
 | f + 1, l, p, d, e, ks, js =>
  if e = 2 then
   if (tak l p).2 ≠ 0 then bad (tak l p).2
   else if (tak l p).1.k ≠ 10 then bad 20
   else if (ks.any fun k => decide (k = str (tak l p).1.t)) = true then bad 23
   else if (tak l (tak l p).1.x).2 ≠ 0 then bad (tak l (tak l p).1.x).2
   else if (tak l (tak l p).1.x).1.k ≠ 5 then bad 20
   else if (pval f l (tak l (tak l p).1.x).1.x d).2.2 ≠ 0 then bad (pval f l (tak l (tak l p).1.x).1.x d).2.2
   else if (tak l (pval f l (tak l (tak l p).1.x).1.x d).2.1).2 ≠ 0 then bad (tak l (pval f l (tak l (tak l p).1.x).1.x d).2.1).2
   else if (tak l (pval f l (tak l (tak l p).1.x).1.x d).2.1).1.k = e then
    (.mk (kindOf e) 0 nil_ (js ++ [(pval f l (tak l (tak l p).1.x).1.x d).1]) (ks ++ [str (tak l p).1.t]), (tak l (pval f l (tak l (tak l p).1.x).1.x d).2.1).1.x, 0)
   else if (tak l (pval f l (tak l (tak l p).1.x).1.x d).2.1).1.k ≠ 6 then bad 20
   else pits f l (tak l (pval f l (tak l (tak l p).1.x).1.x d).2.1).1.x d e (ks ++ [str (tak l p).1.t]) (js ++ [(pval f l (tak l (tak l p).1.x).1.x d).1])
  else
   if (pval f l p d).2.2 ≠ 0 then bad (pval f l p d).2.2
   else if (tak l (pval f l p d).2.1).2 ≠ 0 then bad (tak l (pval f l p d).2.1).2
   else if (tak l (pval f l p d).2.1).1.k = e then (.mk (kindOf e) 0 nil_ (js ++ [(pval f l p d).1]) ks, (tak l (pval f l p d).2.1).1.x, 0)
   else if (tak l (pval f l p d).2.1).1.k ≠ 6 then bad 20
   else pits f l (tak l (pval f l p d).2.1).1.x d e ks (js ++ [(pval f l p d).1])
end
def parse (l : List UInt8) : J × Nat :=
 if 20000 < l.length then (J.zero, 3)
 else if (pval (2 * l.length + 3) l 0 0).2.2 ≠ 0 then (J.zero, (pval (2 * l.length + 3) l 0 0).2.2)
 else if (tak l (pval (2 * l.length + 3) l 0 0).2.1).2 ≠ 0 then (J.zero, (tak l (pval (2 * l.length + 3) l 0 0).2.1).2)
 else if (tak l (pval (2 * l.length + 3) l 0 0).2.1).1.k ≠ 11 then (J.zero, 20)
 else ((pval (2 * l.length + 3) l 0 0).1, 0)
def wlF : Nat → List UInt8 → Nat → List Wd
 | 0, _, _ => []
 | f + 1, l, p => if (tak l p).2 ≠ 0 then [⟨0, ((tak l p).2 : Int), [], 0, 0⟩] else if (tak l p).1.k = 11 then [(tak l p).1] else (tak l p).1 :: wlF f l (tak l p).1.x
def wl (l : List UInt8) (p : Nat) : List Wd := wlF (l.length + 1 - p) l p
end Go.Proofs.YthogheglddfniaaGreatDoor.Jp
namespace Go.Proofs.YthogheglddfniaaGreatDoor
open Go.ChangeShapes Go.WideShapes Go.ChangeAt Go.RowKit Mem
def place7 (ks : List ByteArray) (k : ByteArray) : Option Nat := ks.findIdx? fun x => decide (x = k)
theorem place7_at {ks : List ByteArray} {k : ByteArray} {i : Nat} (hi : i < ks.length) (h : ks[i]'hi = k) (hn : ∀ m (g : m < ks.length), m < i → ks[m]'g ≠ k) : place7 ks k = some i := by
 unfold place7
 rw [List.findIdx?_eq_some_iff_getElem]
 exact ⟨hi, by simpa using h, fun j hj => by simpa using hn j (by omega) hj⟩
theorem place7_no {ks : List ByteArray} {k : ByteArray} (hn : ∀ m (g : m < ks.length), ks[m]'g ≠ k) : place7 ks k = none := by
 unfold place7
 rw [List.findIdx?_eq_none_iff]
 intro x hx
 obtain ⟨m, hm, rfl⟩ := List.getElem_of_mem hx
 simpa using hn m hm
theorem place7_lt {ks : List ByteArray} {k : ByteArray} {i : Nat} (h : place7 ks k = some i) : i < ks.length := by
 unfold place7 at h
 rw [List.findIdx?_eq_some_iff_getElem] at h
 exact h.1
theorem place7_any {ks : List ByteArray} {k : ByteArray} : (ks.any fun x => decide (x = k)) = (place7 ks k).isSome := by
 unfold place7
 simp [List.findIdx?_isSome]
def num7 (o : Option Nat) : Int := match o with | none => -1 | some i => (i : Int)
def Idx (ks : List ByteArray) (k : ByteArray) (w : World) (e : Ending) (w' : World) : Prop := e = .returned (.int .i64 (num7 (place7 ks k))) ∧ w' = w
theorem idx_ret {ks : List ByteArray} {k : ByteArray} {o : Option Nat} {w w' : World} {z : Int} (h : place7 ks k = o) (hz : z = num7 o) (hw : w' = w) : Idx ks k w (.returned (.int .i64 z)) w' := by
 subst hz; subst h; exact ⟨rfl, hw⟩
theorem index_any (S : Nat → Prop) (A : Option Addr) (c : Nat) (ks : List ByteArray) (k : ByteArray) (w : World) (h : FlS w S A (ks.map Value.string)) (hl : ks.length ≤ maxLen) :
 Calls Tryz.prog 135 #[.slice A ks.length c, .string k] w (Idx ks k w) := by
 have F := Lib.hid h
 obtain ⟨nk, hnk⟩ : ∃ m, m = ks.length := ⟨_, rfl⟩
 have HNK := Lib.hid hnk
 rw [← hnk] at hl ⊢
 have hb : nk ≤ 9223372036854775807 := by unfold maxLen at hl; exact hl
 clear hnk h hl
 go_enter Tryz.func135, Tryz.ntmps135
 go_wp2_with fail
 go_loopw [8] (fun t wq => ∃ j : Nat, j ≤ nk ∧ t = .int .i64 (j : Int) ∧ Hid (∀ m (h : m < ks.length), m < j → ks[m]'h ≠ k) ∧ wq = w) (fun t _ => nk - (intOf t).toNat)
 case atStart => exact ⟨0, Nat.zero_le _, rfl, fun _ _ h => absurd h (Nat.not_lt_zero _), rfl⟩
 case round =>
  obtain ⟨m, hm, rfl, NE, rfl⟩ := hrel
  by_cases hmk : m < nk
  · have h1 : m < ks.length := by rw [← HNK.out]; exact hmk
    obtain ⟨b8, o8, e8, hb8, z0⟩ := fl_str F.out h1
    have ne := NE.out
    by_cases hx : ks[m]'h1 = k
    · have Z := Lib.hid (place7_at h1 hx (fun q g hq => ne q g hq))
      rw [hx] at z0
      have sx : (k.toList == k.toList) = true := by simp
      subst e8
      clear ne hx h1
      go_wp2_with fail
      go_ret
      exact idx_ret Z.out rfl rfl
    · have NE2 : Hid (∀ q (h : q < ks.length), q < m + 1 → ks[q]'h ≠ k) := fun q h hq => by
       rcases Nat.lt_or_ge q m with g | g
       · exact ne q h g
       · obtain rfl : q = m := by omega
         exact hx
      have sx : (k.toList == (ks[m]'h1).toList) = false := by rw [str_beq]; simpa using fun e => hx e.symm
      generalize ks[m]'h1 = Y at *
      subst e8
      clear ne hx h1
      go_wp2_with fail
      go_roundw
      case rel => exact ⟨m + 1, by omega, by go_num, NE2, by first | rfl | trivial⟩
      case measure => simp [intOf]; omega
  · obtain rfl : m = nk := by omega
    have Z := Lib.hid (place7_no (ks := ks) (k := k) (fun q g => NE.out q g (by rw [HNK.out]; exact g)))
    clear NE hmk
    go_wp2_with fail
    go_ret
    exact idx_ret Z.out rfl rfl
theorem contains_any (S : Nat → Prop) (A : Option Addr) (c : Nat) (ks : List ByteArray) (k : ByteArray) (w : World) (h : FlS w S A (ks.map Value.string)) (hl : ks.length ≤ maxLen) :
 Calls Tryz.prog 115 #[.slice A ks.length c, .string k] w (fun e w' => e = .returned (.bool (place7 ks k).isSome) ∧ w' = w) := by
 have IX := Lib.hid (index_any S A c ks k w h hl)
 obtain ⟨o, ho⟩ : ∃ o, o = place7 ks k := ⟨_, rfl⟩
 obtain ⟨nk, hnk⟩ : ∃ m, m = ks.length := ⟨_, rfl⟩
 have ix := IX.out
 unfold Idx at ix
 rw [← ho, ← hnk] at ix
 rw [← ho, ← hnk]
 have IX2 := Lib.hid ix
 clear ix IX ho hnk h hl
 cases o with
 | none =>
  go_enter Tryz.func115, Tryz.ntmps115
  go_wp2_with fail
  with_reducible refine IX2.out.mono ?_
  rintro e w1 ⟨rfl, rfl⟩
  have q2 : ¬ (0 : Int) ≤ num7 none := by decide
  go_wp2_with fail
  go_ret
  exact ⟨by simp [num7], rfl⟩
 | some i =>
  go_enter Tryz.func115, Tryz.ntmps115
  go_wp2_with fail
  with_reducible refine IX2.out.mono ?_
  rintro e w1 ⟨rfl, rfl⟩
  have q2 : (0 : Int) ≤ num7 (some i) := by show (0 : Int) ≤ (i : Int); omega
  go_wp2_with fail
  go_ret
  exact ⟨by simp, rfl⟩
def eqs (a b : List ByteArray) : Bool := decide (a = b)
theorem Drewn7.next {w a : World} (h : Drewn7 w a) (n : Nat) : Drewn7 w (a.drewN n) := by obtain ⟨k, rfl⟩ := h; exact ⟨k + n, by simp⟩
def Eqd (r : Bool) (w : World) (e : Ending) (w' : World) : Prop := e = .returned (.bool r) ∧ Drewn7 w w'
theorem eqd_ret {r c : Bool} {w w' : World} (h : r = c) (hw : Drewn7 w w') : Eqd r w (.returned (.bool c)) w' := by subst h; exact ⟨rfl, hw⟩
theorem equal_any (S : Nat → Prop) (A D : Option Addr) (c d : Nat) (ks ls : List ByteArray) (w : World) (h : FlS w S A (ks.map Value.string)) (h' : FlS w S D (ls.map Value.string)) (hl : ks.length ≤ maxLen) (_hl' : ls.length ≤ maxLen) :
 Calls Tryz.prog 71 #[.slice A ks.length c, .slice D ls.length d] w (Eqd (eqs ks ls) w) := by
 have F := Lib.hid h
 have G := Lib.hid h'
 obtain ⟨R, hR⟩ : ∃ R, R = eqs ks ls := ⟨_, rfl⟩
 rw [← hR]
 unfold eqs at hR
 by_cases hlen : ks.length = ls.length
 · obtain ⟨nk, hnk⟩ : ∃ m, m = ks.length := ⟨_, rfl⟩
   have HNK := Lib.hid hnk
   have HNL : Hid (nk = ls.length) := hnk.trans hlen
   rw [← HNL.out, ← hnk]
   have hb : nk ≤ 9223372036854775807 := by unfold maxLen at hl; omega
   have YES : Hid (ks = ls → R = true) := fun e => by rw [hR]; simpa using e
   have NO : Hid (ks ≠ ls → R = false) := fun e => by rw [hR]; simpa using e
   clear hnk h h' hl hlen hR
   go_enter Tryz.func71, Tryz.ntmps71
   go_wp2_with fail
   go_loopw [13] (fun t wq => ∃ j : Nat, j ≤ nk ∧ t = .int .i64 (j : Int) ∧ Hid (∀ m (h : m < ks.length) (g : m < ls.length), m < j → ks[m]'h = ls[m]'g) ∧ Drewn7 w wq) (fun t _ => nk - (intOf t).toNat)
   case atStart => exact ⟨0, Nat.zero_le _, rfl, fun _ _ _ h => absurd h (Nat.not_lt_zero _), ⟨0, rfl⟩⟩
   case round =>
    obtain ⟨m, hm, rfl, NE, ⟨nd, rfl⟩⟩ := hrel
    by_cases hmk : m < nk
    · have h1 : m < ks.length := by rw [← HNK.out]; exact hmk
      have h2 : m < ls.length := by rw [← HNL.out]; exact hmk
      obtain ⟨b8, o8, e8, hb8, z0⟩ := fl_str F.out h1
      obtain ⟨b9, o9, e9, hb9, z1⟩ := fl_str G.out h2
      have ne := NE.out
      by_cases hx : ks[m]'h1 = ls[m]'h2
      · have NE2 : Hid (∀ q (h : q < ks.length) (g : q < ls.length), q < m + 1 → ks[q]'h = ls[q]'g) := fun q h g hq => by
         rcases Nat.lt_or_ge q m with k | k
         · exact ne q h g k
         · obtain rfl : q = m := by omega
           exact hx
        rw [← hx] at z1
        generalize ks[m]'h1 = Y at *
        have sx : (Y.toList != Y.toList) = false := by rw [str_bne]; simp
        subst e8 e9
        clear ne hx h1 h2
        go_wp2_with fail
        go_quiet (fail)
        go_wp2_with fail
        go_roundw
        case rel => exact ⟨m + 1, by omega, by go_num, NE2, ⟨_, rfl⟩⟩
        case measure => simp [intOf]; omega
      · have Z := Lib.hid (NO.out (fun e => hx (by subst e; rfl)))
        have sx : ((ks[m]'h1).toList != (ls[m]'h2).toList) = true := by rw [str_bne]; simpa using hx
        have sx2 : ((ks[m]'h1).toList == (ls[m]'h2).toList) = false := by rw [str_beq]; simpa using hx
        generalize ks[m]'h1 = Y at *
        generalize ls[m]'h2 = X at *
        subst e8 e9
        clear ne hx h1 h2
        go_wp2_with fail
        go_quiet (fail)
        go_wp2_with fail
        go_ret
        exact eqd_ret Z.out (Drewn7.next ⟨_, rfl⟩ _)
    · obtain rfl : m = nk := by omega
      have Z := Lib.hid (YES.out (List.ext_getElem (by rw [← HNK.out, HNL.out]) fun j g1 g2 => NE.out j g1 g2 (by rw [HNK.out]; exact g1)))
      clear NE hmk
      go_wp2_with fail
      go_ret
      exact eqd_ret Z.out ⟨_, rfl⟩
 · have Z : Hid (R = false) := by show _ = _; rw [hR]; simp only [decide_eq_false_iff_not]; intro e; exact hlen (by rw [e])
   have q : ((ks.length : Int) != (ls.length : Int)) = true := by rw [bne_iff_ne]; omega
   clear hlen hR h h'
   go_enter Tryz.func71, Tryz.ntmps71
   go_wp2_with fail
   go_ret
   exact eqd_ret Z.out ⟨0, rfl⟩
end Go.Proofs.YthogheglddfniaaGreatDoor
namespace Go.Proofs.YthogheglddfniaaGreatDoor
open Num
mutual
/-- May a tree be, but for how deep it is? -/
def J.frm : J → Prop
 | .mk k n t its ks => 1 ≤ k ∧ k ≤ 6 ∧ (k ≠ 2 → k ≠ 3 → n = 0) ∧ (k = 2 → n = 0 ∨ n = 1) ∧ (k ≠ 4 → t = Jp.nil_) ∧ (cU t.data.toList).isSome = true ∧ (k < 5 → its = []) ∧ (k ≠ 6 → ks = []) ∧ (k = 6 → ks.length = its.length) ∧ (∀ x ∈ ks, (cU x.data.toList).isSome = true) ∧ ks.Nodup ∧ J.frms its
def J.frms : List J → Prop
 | [] => True
 | j :: r => J.frm j ∧ J.frms r
end
theorem J.frms_snoc {l : List J} {j : J} (h : J.frms l) (hj : j.frm) : J.frms (l ++ [j]) := by
 induction l with
 | nil => unfold J.frms; exact ⟨hj, by unfold J.frms; trivial⟩
 | cons x r ih => unfold J.frms at h; rw [List.cons_append]; unfold J.frms; exact ⟨h.1, ih h.2⟩
theorem J.frms_nil : J.frms [] := by unfold J.frms; trivial
theorem J.frms_iff : ∀ {l : List J}, J.frms l ↔ ∀ i (h : i < l.length), (l[i]'h).frm
 | [] => ⟨fun _ i h => absurd h (Nat.not_lt_zero _), fun _ => by unfold J.frms; trivial⟩
 | j :: r => by
  unfold J.frms
  rw [J.frms_iff (l := r)]
  constructor
  · intro h i hi
    cases i with
    | zero => exact h.1
    | succ i => exact h.2 i (by simpa using hi)
  · intro h
    exact ⟨h 0 (by simp), fun i hi => by have := h (i + 1) (by simpa using hi); simpa using this⟩
noncomputable def J.frmb (t : J) : Bool := @decide t.frm (Classical.propDecidable _)
theorem J.frmb_iff {t : J} : t.frmb = true ↔ t.frm := by unfold J.frmb; simp
noncomputable def J.rightb (t : J) : Bool := decide (t.deep ≤ 32) && t.frmb
theorem J.rightb_iff {t : J} : t.rightb = true ↔ t.deep ≤ 32 ∧ t.frm := by unfold J.rightb; rw [Bool.and_eq_true, decide_eq_true_eq, J.frmb_iff]
end Go.Proofs.YthogheglddfniaaGreatDoor
namespace Go.Proofs.YthogheglddfniaaGreatDoor
def J.get (j : J) (k : ByteArray) : Option J := if j.k = 6 then (place7 j.ks k).bind fun i => j.its[i]? else none
def gotten (o : Option J) : J := o.getD J.zero
theorem J.get_in {j x : J} {k : ByteArray} (h : j.get k = some x) : j.k = 6 ∧ x ∈ j.its := by
 unfold J.get at h
 by_cases hk : j.k = 6
 · rw [if_pos hk, Option.bind_eq_some_iff] at h
   obtain ⟨i, _, h⟩ := h
   exact ⟨hk, List.mem_of_getElem? h⟩
 · rw [if_neg hk] at h; cases h
theorem J.deeps_mem : ∀ {l : List J} {x : J}, x ∈ l → x.deep + 1 ≤ J.deeps l
 | j :: r, x, h => by
  unfold J.deeps
  rcases List.mem_cons.1 h with rfl | h
  · omega
  · have := J.deeps_mem h; omega
theorem J.frms_mem {l : List J} {x : J} (h : J.frms l) (hx : x ∈ l) : x.frm := by
 obtain ⟨i, hi, rfl⟩ := List.getElem_of_mem hx
 exact J.frms_iff.1 h i hi
theorem J.frm_its {j : J} (h : j.frm) : J.frms j.its := by cases j; unfold J.frm at h; exact h.2.2.2.2.2.2.2.2.2.2.2
theorem J.get_deep {j x : J} {k : ByteArray} (h : j.get k = some x) : x.deep + 1 ≤ j.deep := by
 obtain ⟨hk, hx⟩ := J.get_in h
 rw [J.deep_in (.inr hk)]
 exact J.deeps_mem hx
theorem J.get_frm {j x : J} {k : ByteArray} (h : j.get k = some x) (hf : j.frm) : x.frm := J.frms_mem (J.frm_its hf) (J.get_in h).2
def named (k : Int) : Bool := decide (k = 9 ∨ k = 10 ∨ k = 14)
def Nd.kids (n : Nd) : List Int := if n.k = 9 then n.fs.map Fd.ty else if n.k = 11 ∨ n.k = 12 then [n.items] else if n.k = 13 then n.br else []
def Sc.kind (s : Sc) (i : Int) : Int := if 0 ≤ i then ((s.nodes[i.toNat]?).map Nd.k).getD 0 else 0
def Sc.kidsAt (s : Sc) (i : Nat) : List Int := ((s.nodes[i]?).map Nd.kids).getD []
mutual
/-- From a node that is the next one, which one is the next then. -/
def met (s : Sc) : Nat → Nat → Option Nat
 | 0, _ => none
 | f + 1, at_ => if s.nodes.length ≤ at_ then none else metK s f (s.kidsAt at_) (at_ + 1)
/-- .. behind some kids. -/
def metK (s : Sc) : Nat → List Int → Nat → Option Nat
 | _, [], next => some next
 | f, k :: r, next => if k < 0 ∨ (next : Int) < k ∨ (k < (next : Int) ∧ named (s.kind k) = false) then none
  else if k = (next : Int) then (match met s f next with
   | none => none
   | some nx => metK s f r nx)
  else metK s f r next
end
def Sc.ordered (s : Sc) : Prop := 1 ≤ s.nodes.length ∧ s.nodes.length ≤ 200 ∧ s.root = 0 ∧ met s 33 0 = some s.nodes.length
def Good (s : Sc) (a b : Nat) : Prop := (∀ j, a ≤ j → j < b → ∀ k ∈ s.kidsAt j, 0 ≤ k ∧ k < (b : Int) ∧ (k ≤ (j : Int) → named (s.kind k) = true)) ∧ ∀ i, a < i → i < b → ∃ j, a ≤ j ∧ j < i ∧ (i : Int) ∈ s.kidsAt j
mutual
theorem met_good (s : Sc) : ∀ (f a b : Nat), met s f a = some b → a < b ∧ b ≤ s.nodes.length ∧ Good s a b
 | 0, _, _, h => by unfold met at h; cases h
 | f + 1, a, b, h => by
  unfold met at h
  by_cases h0 : s.nodes.length ≤ a
  · rw [if_pos h0] at h; cases h
  · rw [if_neg h0] at h
    obtain ⟨h1, h2, h3, h4, h5⟩ := metK_good s f (s.kidsAt a) a (a + 1) b h (by omega) (by omega) (fun k hk => hk) (fun j h1 h2 => by omega) (fun i h1 h2 => by omega)
    refine ⟨by omega, h2, fun j hj hb k hk => ?_, h5⟩
    rcases Nat.eq_or_lt_of_le hj with e | e
    · subst e; exact h3 k hk
    · exact h4 j e hb k hk
/-- .. behind some kids of the node a: the nodes behind it, up to the next one, are good. -/
theorem metK_good (s : Sc) : ∀ (f : Nat) (l : List Int) (a next b : Nat), metK s f l next = some b → a < next → next ≤ s.nodes.length → (∀ k ∈ l, k ∈ s.kidsAt a) →
 (∀ j, a < j → j < next → ∀ k ∈ s.kidsAt j, 0 ≤ k ∧ k < (next : Int) ∧ (k ≤ (j : Int) → named (s.kind k) = true)) →
 (∀ i, a < i → i < next → ∃ j, a ≤ j ∧ j < i ∧ (i : Int) ∈ s.kidsAt j) →
 next ≤ b ∧ b ≤ s.nodes.length ∧ (∀ k ∈ l, 0 ≤ k ∧ k < (b : Int) ∧ (k ≤ (a : Int) → named (s.kind k) = true)) ∧
  (∀ j, a < j → j < b → ∀ k ∈ s.kidsAt j, 0 ≤ k ∧ k < (b : Int) ∧ (k ≤ (j : Int) → named (s.kind k) = true)) ∧
  (∀ i, a < i → i < b → ∃ j, a ≤ j ∧ j < i ∧ (i : Int) ∈ s.kidsAt j)
 | f, [], a, next, b, h, ha, hn, _, hg, hi => by
  unfold metK at h
  simp only [Option.some.injEq] at h
  subst h
  exact ⟨Nat.le_refl _, hn, fun k hk => by simp at hk, hg, hi⟩
 | f, k :: r, a, next, b, h, ha, hn, hl, hg, hi => by
  unfold metK at h
  by_cases h0 : k < 0 ∨ (next : Int) < k ∨ (k < (next : Int) ∧ named (s.kind k) = false)
  · rw [if_pos h0] at h; cases h
  · rw [if_neg h0] at h
    have hk0 : 0 ≤ k := by omega
    by_cases h1 : k = (next : Int)
    · rw [if_pos h1] at h
      rcases hm : met s f next with _ | nx
      · rw [hm] at h; cases h
      · rw [hm] at h
        obtain ⟨g1, g2, g3, g4⟩ := met_good s f next nx hm
        have step := metK_good s f r a nx b h (by omega) g2 (fun k hk => hl k (by simp [hk])) (fun j h1 h2 k hk => by
         rcases Nat.lt_or_ge j next with g | g
         · have := hg j h1 g k hk; exact ⟨this.1, by omega, this.2.2⟩
         · exact g3 j g h2 k hk) (fun i h3 h2 => by
         rcases Nat.lt_trichotomy i next with g | g | g
         · exact hi i h3 g
         · subst g
           exact ⟨a, Nat.le_refl _, ha, by rw [← h1]; exact hl k (by simp)⟩
         · obtain ⟨j, e1, e2, e3⟩ := g4 i g h2
           exact ⟨j, by omega, e2, e3⟩)
        obtain ⟨s1, s2, s3, s4, s5⟩ := step
        refine ⟨by omega, s2, fun q hq => ?_, s4, s5⟩
        rcases List.mem_cons.1 hq with e | e
        · subst e; exact ⟨hk0, by omega, fun hh => by omega⟩
        · exact s3 q e
    · rw [if_neg h1] at h
      obtain ⟨s1, s2, s3, s4, s5⟩ := metK_good s f r a next b h ha hn (fun k hk => hl k (by simp [hk])) hg hi
      refine ⟨s1, s2, fun q hq => ?_, s4, s5⟩
      rcases List.mem_cons.1 hq with e | e
      · subst e
        have nk : named (s.kind q) = true := by
         rcases hq : named (s.kind q) with _ | _
         · exact absurd (.inr (.inr ⟨by omega, hq⟩)) h0
         · rfl
        exact ⟨hk0, by omega, fun _ => nk⟩
      · exact s3 q e
end
theorem ordered_good {s : Sc} (h : s.ordered) : Good s 0 s.nodes.length := (met_good s _ _ _ h.2.2.2).2.2
def Sc.find (s : Sc) (t : ByteArray) : Option Nat := s.nodes.findIdx? fun n => named n.k && n.name == t
def capF (W : Nat → Nat) : List Int → Nat → Nat
 | [], w => w
 | k :: r, w => capF W r (min (w + W k.toNat) 1001)
def wtR (s : Sc) : Nat → Nat → Nat
 | 0, _ => 1
 | r + 1, i => if s.kind i = 9 then capF (wtR s r) (s.kidsAt i) 1 else 1
theorem capF_mono {W V : Nat → Nat} (h : ∀ i, W i ≤ V i) : ∀ (l : List Int) (a b : Nat), a ≤ b → capF W l a ≤ capF V l b
 | [], _, _, hab => hab
 | k :: r, a, b, hab => by
  unfold capF
  exact capF_mono h r _ _ (by have := h k.toNat; omega)
theorem capF_le (W : Nat → Nat) : ∀ (l : List Int) (a : Nat), a ≤ 1001 → capF W l a ≤ 1001
 | [], _, h => h
 | k :: r, a, h => by
  unfold capF
  exact capF_le W r _ (by omega)
theorem capF_ge (W : Nat → Nat) : ∀ (l : List Int) (a : Nat), min a 1001 ≤ capF W l a
 | [], a => by unfold capF; omega
 | k :: r, a => by
  unfold capF
  have := capF_ge W r (min (a + W k.toNat) 1001)
  omega
theorem wtR_le (s : Sc) : ∀ (r i : Nat), wtR s r i ≤ 1001
 | 0, _ => by unfold wtR; omega
 | r + 1, i => by
  unfold wtR
  split
  · exact capF_le _ _ _ (by omega)
  · omega
theorem wtR_pos (s : Sc) : ∀ (r i : Nat), 1 ≤ wtR s r i
 | 0, _ => by unfold wtR; omega
 | r + 1, i => by
  unfold wtR
  split
  · have := capF_ge (wtR s r) (s.kidsAt i) 1; omega
  · omega
theorem wtR_mono (s : Sc) : ∀ (r i : Nat), wtR s r i ≤ wtR s (r + 1) i
 | 0, i => by have := wtR_pos s 1 i; unfold wtR at this ⊢; exact this
 | r + 1, i => by
  rw [wtR, wtR]
  split
  · exact capF_mono (wtR_mono s r) _ _ _ (Nat.le_refl _)
  · omega
theorem wtR_out {s : Sc} {i : Nat} (h : s.nodes.length ≤ i) : ∀ r, wtR s r i = 1
 | 0 => by unfold wtR; rfl
 | r + 1 => by
  unfold wtR
  have : s.kind i ≠ 9 := by
   unfold Sc.kind
   rw [if_pos (by omega), Int.toNat_natCast, List.getElem?_eq_none h]
   decide
  rw [if_neg this]
def sumN (W : Nat → Nat) : Nat → Nat
 | 0 => 0
 | n + 1 => sumN W n + W n
theorem sumN_le {W V : Nat → Nat} (h : ∀ i, W i ≤ V i) : ∀ n, sumN W n ≤ sumN V n
 | 0 => Nat.le_refl _
 | n + 1 => by unfold sumN; have := sumN_le h n; have := h n; omega
theorem sumN_lt {W V : Nat → Nat} (h : ∀ i, W i ≤ V i) : ∀ {n i : Nat}, i < n → W i < V i → sumN W n < sumN V n
 | 0, _, hi, _ => absurd hi (Nat.not_lt_zero _)
 | n + 1, i, hi, hl => by
  unfold sumN
  rcases Nat.lt_or_ge i n with g | g
  · have := sumN_lt h g hl; have := h n; omega
  · obtain rfl : i = n := by omega
    have := sumN_le h i; omega
theorem sumN_bound {W : Nat → Nat} {M : Nat} (h : ∀ i, W i ≤ M) : ∀ n, sumN W n ≤ M * n
 | 0 => Nat.zero_le _
 | n + 1 => by unfold sumN; have := sumN_bound h n; have := h n; rw [Nat.mul_succ]; omega
theorem wtR_stays {s : Sc} {r : Nat} (h : wtR s (r + 1) = wtR s r) : ∀ k, wtR s (r + k) = wtR s r
 | 0 => rfl
 | k + 1 => by
  have ih := wtR_stays h k
  funext i
  show wtR s (r + k + 1) i = _
  rw [wtR, ih, ← h, wtR]
  rw [h]
theorem wtR_stable (s : Sc) : ∃ r, r ≤ 1001 * s.nodes.length ∧ wtR s (r + 1) = wtR s r := by
 by_cases h : ∃ r, r ≤ 1001 * s.nodes.length ∧ wtR s (r + 1) = wtR s r
 · exact h
 · exfalso
   have grow : ∀ r, r ≤ 1001 * s.nodes.length → sumN (wtR s r) s.nodes.length < sumN (wtR s (r + 1)) s.nodes.length := fun r hr => by
    have ne : wtR s (r + 1) ≠ wtR s r := fun e => h ⟨r, hr, e⟩
    have : ∃ i, i < s.nodes.length ∧ wtR s r i < wtR s (r + 1) i := by
     apply Classical.byContradiction
     intro hn
     apply ne
     funext i
     have m := wtR_mono s r i
     rcases Nat.lt_or_ge i s.nodes.length with g | g
     · rcases Nat.lt_or_ge (wtR s r i) (wtR s (r + 1) i) with g2 | g2
       · exact absurd ⟨i, g, g2⟩ hn
       · omega
     · rw [wtR_out g, wtR_out g]
    obtain ⟨i, hi, hl⟩ := this
    exact sumN_lt (wtR_mono s r) hi hl
   have least : ∀ r, r ≤ 1001 * s.nodes.length + 1 → r ≤ sumN (wtR s r) s.nodes.length := by
    intro r
    induction r with
    | zero => exact fun _ => Nat.zero_le _
    | succ r ih => intro hr; have := ih (by omega); have := grow r (by omega); omega
   have a := least (1001 * s.nodes.length + 1) (Nat.le_refl _)
   have b := sumN_bound (wtR_le s (1001 * s.nodes.length + 1)) s.nodes.length
   omega
def Sc.wt (s : Sc) (i : Nat) : Nat := wtR s (1001 * s.nodes.length) i
theorem Sc.wt_fix (s : Sc) (i : Nat) : s.wt i = if s.kind i = 9 then capF s.wt (s.kidsAt i) 1 else 1 := by
 obtain ⟨r, hr, he⟩ := wtR_stable s
 have e1 : wtR s (1001 * s.nodes.length) = wtR s r := by
  have := wtR_stays he (1001 * s.nodes.length - r)
  rwa [show r + (1001 * s.nodes.length - r) = 1001 * s.nodes.length by omega] at this
 have e2 : s.wt = wtR s r := e1
 rw [e2, ← he, wtR, he]
theorem Sc.wt_le (s : Sc) (i : Nat) : 1 ≤ s.wt i ∧ s.wt i ≤ 1001 := ⟨wtR_pos _ _ _, wtR_le _ _ _⟩
noncomputable def Sc.weight (s : Sc) (a : Int) : Nat := @ite _ (0 ≤ a ∧ a < (s.nodes.length : Int) ∧ s.ordered) (Classical.propDecidable _) (s.wt a.toNat) 0
theorem Sc.weight_in {s : Sc} {i : Nat} (h : s.ordered) (hi : i < s.nodes.length) : s.weight (i : Int) = s.wt i := by
 unfold Sc.weight
 rw [if_pos ⟨by omega, by omega, h⟩, Int.toNat_natCast]
theorem capF_snoc (W : Nat → Nat) (k : Int) : ∀ (l : List Int) (w : Nat), capF W (l ++ [k]) w = min (capF W l w + W k.toNat) 1001
 | [], w => rfl
 | x :: r, w => by
  rw [List.cons_append]
  unfold capF
  exact capF_snoc W k r _
end Go.Proofs.YthogheglddfniaaGreatDoor
namespace Go.Proofs.YthogheglddfniaaGreatDoor
def meetM (s : Sc) (f m : Nat) (p : Int) : Option Nat := if p < 0 ∨ (m : Int) < p ∨ (p < (m : Int) ∧ named (s.kind p) = false) then none else if p = (m : Int) then met s f m else some m
theorem metK_cons (s : Sc) (f m : Nat) (k : Int) (r : List Int) : metK s f (k :: r) m = (meetM s f m k).bind (metK s f r) := by
 rw [metK]
 unfold meetM
 split
 · rfl
 · split
   · cases met s f m <;> rfl
   · rfl
theorem metK_some {s : Sc} {f m m' : Nat} {k : Int} {r : List Int} (h : meetM s f m k = some m') : metK s f (k :: r) m = metK s f r m' := by rw [metK_cons, h]; rfl
theorem metK_none {s : Sc} {f m : Nat} {k : Int} {r : List Int} (h : meetM s f m k = none) : metK s f (k :: r) m = none := by rw [metK_cons, h]; rfl
theorem meetM_le {s : Sc} {f m m' : Nat} {p : Int} (hm : m ≤ s.nodes.length) (h : meetM s f m p = some m') : m' ≤ s.nodes.length := by
 unfold meetM at h
 split at h
 · cases h
 · split at h
   · exact (met_good s f m m' h).2.1
   · injection h with h; omega
theorem met_in {s : Sc} {f m : Nat} (h : m < s.nodes.length) : met s (f + 1) m = metK s f (s.kidsAt m) (m + 1) := by rw [met, if_neg (by omega)]
theorem met_out {s : Sc} {f m : Nat} (h : s.nodes.length ≤ m) : met s f m = none := by
 cases f with
 | zero => rw [met]
 | succ f => rw [met, if_pos h]
def Sc.edge (s : Sc) (i j : Nat) : Prop := s.kind i = 9 ∧ (j : Int) ∈ s.kidsAt i
inductive Sc.path (s : Sc) : Nat → Nat → Prop where
 | one {i j : Nat} (h : s.edge i j) : Sc.path s i j
 | more {i j k : Nat} (h : Sc.path s i j) (e : s.edge j k) : Sc.path s i k
theorem capF_in (W : Nat → Nat) : ∀ (l : List Int) (a : Nat) (k : Int), k ∈ l → min (a + W k.toNat) 1001 ≤ capF W l a
 | [], _, _, h => by simp at h
 | q :: r, a, k, h => by
  unfold capF
  rcases List.mem_cons.1 h with e | e
  · subst e
    have := capF_ge W r (min (a + W k.toNat) 1001); omega
  · have := capF_in W r (min (a + W q.toNat) 1001) k e; omega
theorem edge_wt {s : Sc} {i j : Nat} (h : s.edge i j) : min (1 + s.wt j) 1001 ≤ s.wt i := by
 rw [s.wt_fix i, if_pos h.1]
 have := capF_in s.wt (s.kidsAt i) 1 _ h.2
 simpa using this
theorem path_wt {s : Sc} {i j : Nat} (h : s.path i j) : min (1 + s.wt j) 1001 ≤ s.wt i := by
 induction h with
 | one h => exact edge_wt h
 | more h e ih => have := edge_wt e; omega
theorem path_self {s : Sc} {i : Nat} (h : s.path i i) : s.wt i = 1001 := by
 have := path_wt h; have := (s.wt_le i).2; omega
def Wok (s : Sc) (a : Nat) (W : List Nat) : Prop := ∀ i (h : i < W.length), W[i]'h = 0 ∨ W[i]'h = s.wt i ∨ (W[i]'h = 1001 ∧ s.path i a)
def Won (s : Sc) (W W' : List Nat) : Prop := W'.length = W.length ∧ ∀ i (h : i < W.length) (h' : i < W'.length), (W[i]'h ≠ 0 → W'[i]'h' = W[i]'h) ∧ (W[i]'h = 0 → W'[i]'h' = 0 ∨ W'[i]'h' = s.wt i)
theorem Won.refl (s : Sc) (W : List Nat) : Won s W W := ⟨rfl, fun _ _ _ => ⟨fun _ => rfl, fun h => .inl h⟩⟩
theorem Won.trans {s : Sc} {A B C : List Nat} (h : Won s A B) (k : Won s B C) : Won s A C := by
 refine ⟨k.1.trans h.1, fun i h1 h2 => ?_⟩
 have h3 : i < B.length := by rw [h.1]; exact h1
 obtain ⟨a1, a2⟩ := h.2 i h1 h3
 obtain ⟨b1, b2⟩ := k.2 i h3 h2
 constructor
 · intro e; rw [b1 (by rw [a1 e]; exact e), a1 e]
 · intro e
   rcases a2 e with g | g
   · exact b2 g
   · right
     rw [b1 (by rw [g]; have := (s.wt_le i).1; omega), g]
def zeros (W : List Nat) : Nat := W.countP (· == 0)
theorem zeros_won {s : Sc} : ∀ {W W' : List Nat}, Won s W W' → zeros W' ≤ zeros W
 | [], W', h => by
  have : W' = [] := List.length_eq_zero_iff.1 h.1
  subst this; exact Nat.le_refl _
 | x :: r, [], h => by have := h.1; simp at this
 | x :: r, y :: q, h => by
  have key : ∀ (A B : List Nat), A.length = B.length → (∀ i (h : i < A.length) (h' : i < B.length), A[i]'h ≠ 0 → B[i]'h' = A[i]'h) → zeros B ≤ zeros A := by
   intro A
   induction A with
   | nil => intro B e _; have : B = [] := List.length_eq_zero_iff.1 e.symm; subst this; exact Nat.le_refl _
   | cons a A ih =>
    intro B e hB
    cases B with
    | nil => simp at e
    | cons b B =>
     have h1 := ih B (by simpa using e) (fun i h1 h2 => hB (i + 1) (by simpa using h1) (by simpa using h2))
     have h0 := hB 0 (by simp) (by simp)
     simp only [List.getElem_cons_zero] at h0
     unfold zeros at h1 ⊢
     rw [List.countP_cons, List.countP_cons]
     by_cases ea : a = 0
     · subst ea; simp; split <;> omega
     · rw [h0 ea]; omega
  exact key _ _ h.1.symm fun i h1 h2 => (h.2 i h1 h2).1
theorem zeros_set {W : List Nat} {a v : Nat} (ha : a < W.length) (h0 : W[a]'ha = 0) (hv : v ≠ 0) : zeros (W.set a v) + 1 = zeros W := by
 induction W generalizing a with
 | nil => simp at ha
 | cons x r ih =>
  cases a with
  | zero =>
   simp only [List.getElem_cons_zero] at h0
   subst h0
   unfold zeros
   simp [hv]
  | succ a =>
   have := ih (a := a) (by simpa using ha) (by simpa using h0)
   unfold zeros at this ⊢
   rw [List.set_cons_succ, List.countP_cons, List.countP_cons]
   omega
theorem Wok.part {s : Sc} {a : Nat} {W : List Nat} (h : Wok s a W) (_ha : a < W.length) {k : Nat} (e : s.edge a k) : Wok s k (W.set a 1001) := by
 intro i hi
 rw [List.length_set] at hi
 rw [List.getElem_set]
 split
 · rename_i e2; subst e2
   exact .inr (.inr ⟨rfl, .one e⟩)
 · rcases h i hi with g | g | ⟨g1, g2⟩
   · exact .inl g
   · exact .inr (.inl g)
   · exact .inr (.inr ⟨g1, .more g2 e⟩)
theorem Wok.won {s : Sc} {a : Nat} {W W' : List Nat} (h : Wok s a W) (k : Won s W W') : Wok s a W' := by
 intro i hi
 have h1 : i < W.length := by rw [← k.1]; exact hi
 obtain ⟨k1, k2⟩ := k.2 i h1 hi
 by_cases e : W[i]'h1 = 0
 · rcases k2 e with g | g
   · exact .inl g
   · exact .inr (.inl g)
 · rw [k1 e]; exact h i h1
theorem Wok.self {s : Sc} {a : Nat} {W : List Nat} (h : Wok s a W) (ha : a < W.length) (h0 : W[a]'ha ≠ 0) : W[a]'ha = s.wt a := by
 rcases h a ha with g | g | ⟨g1, g2⟩
 · exact absurd g h0
 · exact g
 · rw [g1, path_self g2]
theorem Won.put {s : Sc} {a : Nat} {W W' : List Nat} (ha : a < W.length) (h0 : W[a]'ha = 0) (k : Won s (W.set a 1001) W') : Won s W (W'.set a (s.wt a)) := by
 have kl : W'.length = W.length := by rw [k.1, List.length_set]
 refine ⟨by rw [List.length_set, kl], fun i h1 h2 => ?_⟩
 rw [List.length_set] at h2
 rw [List.getElem_set]
 split
 · rename_i e; subst e
   exact ⟨fun g => absurd h0 g, fun _ => .inr rfl⟩
 · rename_i e
   have := k.2 i (by rw [List.length_set]; exact h1) h2
   rw [List.getElem_set, if_neg e] at this
   exact this
theorem wok_zero (s : Sc) (a n : Nat) : Wok s a (List.replicate n 0) := fun i h => .inl (by simp)
def Wfin (s : Sc) (W : List Nat) : Prop := ∀ i (h : i < W.length), W[i]'h = 0 ∨ W[i]'h = s.wt i
end Go.Proofs.YthogheglddfniaaGreatDoor
