/- Plain mathematics of layer 6: words with a white byte ahead of each are the same words. -/
import Derived.Test.YtbogafecgakgiaaDoorJNum4
namespace Go.Proofs.YtbogafecgakgiaaDoor.Jx
open Num

/-- A word of some bytes, where it says. -/
def Of (l : List UInt8) (w : Wd) : Prop := w.a < w.x ∧ w.x ≤ l.length ∧ 1 ≤ w.k ∧ w.k ≤ 10 ∧ ∃ v, word (l.drop w.a) = (v, 0) ∧ w = v.at_ w.a
theorem tak_of {l : List UInt8} {p : Nat} (hp : p ≤ l.length) (h : (tak l p).2 = 0) (hk : (tak l p).1.k ≠ 11) : Of l (tak l p).1 := by
  rcases tak_ways l p hp with e | e | e | ⟨w, q, h0, hq, hw, ho, e⟩
  · rw [e] at hk; exact absurd rfl hk
  · rw [e] at h; cases h
  · rw [e] at h; cases h
  · rw [e]
    obtain ⟨h1, h2, h3, h4, h5, _, _, _⟩ := ho
    have ha : (w.at_ q).a = q := by show w.a + q = q; omega
    refine ⟨?_, ?_, h4, h5, w, ?_, ?_⟩
    · show w.a + q < w.x + q; omega
    · show w.x + q ≤ l.length; omega
    · rw [ha]; exact hw
    · rw [ha]
theorem allF_of : ∀ (f : Nat) (l : List UInt8) (p : Nat), p ≤ l.length → ∀ w ∈ (allF f l p).1, Of l w
  | 0, _, _, _ => by simp [allF]
  | f + 1, l, p, hp => by
    unfold allF
    split
    · simp
    · rename_i he
      split
      · simp
      · rename_i hk
        have m := tak_more hp (by omega) hk
        have ih := allF_of f l _ m.2.1
        split
        · simp
        · intro w hw
          rcases List.mem_cons.1 hw with e | e
          · subst e; exact tak_of hp (by omega) hk
          · exact ih w e
theorem all_of (l : List UInt8) : ∀ w ∈ (all l 0).1, Of l w := allF_of _ l 0 (Nat.zero_le _)

/-- A word's bytes. -/
def body (l : List UInt8) (w : Wd) : List UInt8 := (l.drop w.a).take (w.x - w.a)
theorem Of.len {l : List UInt8} {w : Wd} (h : Of l w) : (body l w).length = w.x - w.a := by
  unfold body; rw [List.length_take, List.length_drop]; have := h.1; have := h.2.1; omega
/-- Its bytes are that word, with nothing or white behind. -/
theorem Of.word {l m : List UInt8} {w : Wd} (h : Of l w) (hm : Off m) : ∃ v, word (body l w ++ m) = (v, 0) ∧ v.x = w.x - w.a ∧ v.a = 0 ∧ v.k = w.k ∧ v.n = w.n ∧ v.t = w.t := by
  obtain ⟨h1, h2, _, _, v, hv, e⟩ := h
  have ok := word_ok hv
  have ha : v.a = 0 := ok.1
  have e1 : w.k = v.k := (congrArg Wd.k e).trans rfl
  have e2 : w.n = v.n := (congrArg Wd.n e).trans rfl
  have e3 : w.t = v.t := (congrArg Wd.t e).trans rfl
  have e4 : w.x = v.x + w.a := congrArg Wd.x e
  have c := word_cut hv hm
  rw [show v.x = w.x - w.a by omega] at c
  exact ⟨v, c, by omega, ha, e1.symm, e2.symm, e3.symm⟩
theorem cnt_no {l : List UInt8} (h : isW (byt l 0) = false) : cnt isW l = 0 := by
  cases l with
  | nil => rfl
  | cons x r => unfold cnt; rw [if_neg]; rw [byt_zero] at h; rw [h]; decide
/-- What words say, but for their places. -/
def key (w : Wd) : Nat × Int × List UInt8 := (w.k, w.n, w.t)
theorem key_of {w v : Wd} (h1 : v.k = w.k) (h2 : v.n = w.n) (h3 : v.t = w.t) : key v = key w := by unfold key; rw [h1, h2, h3]
/-- A word's bytes alone. -/
theorem all_body {l : List UInt8} {w : Wd} (h : Of l w) : ∃ v, all (body l w) 0 = ([v], 0) ∧ key v = key w := by
  obtain ⟨v, hv, hx, ha, h1, h2, h3⟩ := h.word (m := []) (.inl rfl)
  rw [List.append_nil] at hv
  have hl := h.len
  have hp : 0 < (body l w).length := by have := h.1; omega
  have c : 0 = 0 + cnt isW ((body l w).drop 0) := by rw [List.drop_zero, cnt_no (word_first hv)]
  have t := tak_word c (by omega) (by rw [List.drop_zero]; exact hv)
  have k11 : (v.at_ 0).k ≠ 11 := by show v.k ≠ 11; have := h.2.2.2.1; omega
  have xe : (v.at_ 0).x = (body l w).length := by show v.x + 0 = _; omega
  have t2 := tak_e (l := body l w) (k := (body l w).length) (q := (body l w).length) (by rw [List.drop_length]; rfl) rfl
  have a2 := all_end (l := body l w) (p := (body l w).length) (Nat.le_refl _) (by rw [t2]) (by rw [t2])
  refine ⟨v.at_ 0, ?_, key_of h1 h2 h3⟩
  rw [all_go (Nat.zero_le _) (by rw [t]) (by rw [t]; exact k11), t, xe, a2]
  rfl

/-- Words with a white byte ahead of each, from the i-th one on, and one behind. -/
def wide (h : Nat → UInt8) (l : List UInt8) : Nat → List Wd → List UInt8
  | _, [] => [32]
  | i, w :: r => h i :: (body l w ++ wide h l (i + 1) r)
theorem wide_off {h : Nat → UInt8} (hh : ∀ i, isW (h i).toNat = true) (l : List UInt8) (i : Nat) (ws : List Wd) : Off (wide h l i ws) := by
  cases ws with
  | nil => exact .inr rfl
  | cons w r => exact .inr (hh i)
theorem cnt_one {x : UInt8} {l : List UInt8} (hx : isW x.toNat = true) (h : isW (byt l 0) = false) : cnt isW (x :: l) = 1 := by
  unfold cnt; rw [if_pos hx, cnt_no h]
theorem all_wide {h : Nat → UInt8} (hh : ∀ i, isW (h i).toNat = true) (l : List UInt8) : ∀ (ws : List Wd) (i : Nat) (pre : List UInt8), (∀ w ∈ ws, Of l w) →
    ∃ vs, all (pre ++ wide h l i ws) pre.length = (vs, 0) ∧ vs.map key = ws.map key
  | [], i, pre, _ => by
    have t : tak (pre ++ [32]) pre.length = (⟨11, 0, [], pre.length + 1, pre.length + 1⟩, 0) := by
      have c : pre.length + 1 = pre.length + cnt isW ((pre ++ [32]).drop pre.length) := by rw [List.drop_left]; rfl
      exact tak_e c (by simp)
    exact ⟨[], all_end (by simp [wide]) (by show (tak (pre ++ [32]) pre.length).2 = 0; rw [t]) (by show (tak (pre ++ [32]) pre.length).1.k = 11; rw [t]), rfl⟩
  | w :: r, i, pre, hw => by
    have how := hw w (by simp)
    obtain ⟨v, hv, hx, ha, h1, h2, h3⟩ := how.word (wide_off hh l (i + 1) r)
    have hl := how.len
    have dr : (pre ++ wide h l i (w :: r)).drop pre.length = h i :: (body l w ++ wide h l (i + 1) r) := by rw [List.drop_left]; rfl
    have c : pre.length + 1 = pre.length + cnt isW ((pre ++ wide h l i (w :: r)).drop pre.length) := by rw [dr, cnt_one (hh i) (word_first hv)]
    have dr2 : (pre ++ wide h l i (w :: r)).drop (pre.length + 1) = body l w ++ wide h l (i + 1) r := by rw [← List.drop_drop, dr]; rfl
    have len : (pre ++ wide h l i (w :: r)).length = pre.length + 1 + (w.x - w.a) + (wide h l (i + 1) r).length := by
      simp [wide, hl]; omega
    have t := tak_word c (by rw [len]; have := how.1; omega) (by rw [dr2]; exact hv)
    have k11 : (v.at_ (pre.length + 1)).k ≠ 11 := by show v.k ≠ 11; have := how.2.2.2.1; omega
    have pe : pre ++ wide h l i (w :: r) = (pre ++ h i :: body l w) ++ wide h l (i + 1) r := by simp [wide]
    have xe : (v.at_ (pre.length + 1)).x = (pre ++ h i :: body l w).length := by show v.x + (pre.length + 1) = _; simp [hl]; omega
    obtain ⟨vs, hvs, hk⟩ := all_wide hh l r (i + 1) (pre ++ h i :: body l w) (fun w hw' => hw w (by simp [hw']))
    refine ⟨v.at_ (pre.length + 1) :: vs, ?_, by simp only [List.map_cons]; rw [hk, key_of (v := v.at_ (pre.length + 1)) h1 h2 h3]⟩
    rw [all_go (by rw [len]; omega) (by rw [t]) (by rw [t]; exact k11), t, xe, pe, hvs]
    rfl
/-- What the loop that writes them knows. -/
theorem wide_go {h : Nat → UInt8} {l d : List UInt8} {ws : List Wd} {i : Nat} (hi : i < ws.length) {X : List UInt8} (e : d ++ wide h l i (ws.drop i) = X) : (d ++ [h i]) ++ body l (ws[i]'hi) ++ wide h l (i + 1) (ws.drop (i + 1)) = X := by
  rw [← e, List.drop_eq_getElem_cons hi]
  simp [wide]
theorem wide_done {h : Nat → UInt8} {l d : List UInt8} {ws : List Wd} {X : List UInt8} (e : d ++ wide h l ws.length (ws.drop ws.length) = X) : d ++ [32] = X := by
  rw [← e, List.drop_length]; rfl
theorem wide_len {h : Nat → UInt8} {l : List UInt8} : ∀ (ws : List Wd) (i : Nat), (∀ w ∈ ws, Of l w) → (wide h l i ws).length ≤ ws.length * (l.length + 1) + 1
  | [], _, _ => by simp [wide]
  | w :: r, i, hw => by
    have ih := wide_len (h := h) r (i + 1) (fun w hw' => hw w (by simp [hw']))
    have how := hw w (by simp)
    have hl := how.len
    have := how.2.1
    simp only [wide, List.length_cons, List.length_append, hl]
    rw [Nat.succ_mul]
    omega
theorem map_at {ws vs : List Wd} (h : vs.map key = ws.map key) {i : Nat} (hi : i < ws.length) (hj : i < vs.length) : (vs[i]'hj).k = (ws[i]'hi).k ∧ (vs[i]'hj).n = (ws[i]'hi).n ∧ (vs[i]'hj).t = (ws[i]'hi).t := by
  have e : (vs.map key)[i]? = (ws.map key)[i]? := by rw [h]
  rw [List.getElem?_map, List.getElem?_map, List.getElem?_eq_getElem hi, List.getElem?_eq_getElem hj] at e
  simpa [key] using e
/-- Beside an error there is no word. -/
theorem all_err (l : List UInt8) (h : (all l 0).2 ≠ 0) : (all l 0).1 = [] := by
  unfold all at h ⊢
  rw [show l.length + 1 - 0 = l.length + 1 by omega, allF] at h ⊢
  split
  · rfl
  · rename_i h1
    rw [if_neg h1] at h
    split
    · rfl
    · rename_i h2
      rw [if_neg h2] at h
      split
      · rfl
      · rename_i h3
        rw [if_neg h3] at h
        exact absurd rfl h
/-- The four white bytes, and the one at any place, by turns. -/
def whites : List UInt8 := [32, 9, 10, 13]
theorem whites_white (k : Nat) (h : k < 4) : isW (whites.getD k 0).toNat = true := by
  obtain rfl | rfl | rfl | rfl : k = 0 ∨ k = 1 ∨ k = 2 ∨ k = 3 := by omega
  all_goals rfl
end Go.Proofs.YtbogafecgakgiaaDoor.Jx
