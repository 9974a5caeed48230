/- Plain mathematics of layer 6: all words of some bytes; words with white bytes ahead. -/
import Derived.Test.YtbogafecgakgiaaDoorJNum2
namespace Go.Proofs.YtbogafecgakgiaaDoor.Jx
open Num

/-- What Take tells. -/
def Wd.fine (w : Wd) (len : Nat) : Prop := w.a ≤ w.x ∧ w.x ≤ len ∧ w.k ≤ 11 ∧ -9223372036854775808 ≤ w.n ∧ w.n ≤ 9223372036854775807 ∧ w.t.length ≤ len
theorem tak_q (l : List UInt8) (p : Nat) (hp : p ≤ l.length) : p + cnt isW (l.drop p) ≤ l.length := by
  have := cnt_le isW (l.drop p); rw [List.length_drop] at this; omega
theorem tak_end {l : List UInt8} {p : Nat} (h : p + cnt isW (l.drop p) = l.length) : tak l p = (⟨11, 0, [], l.length, l.length⟩, 0) := by unfold tak; rw [if_pos h]
theorem tak_word {l : List UInt8} {p q : Nat} {w : Wd} (hq : q = p + cnt isW (l.drop p)) (h : q ≠ l.length) (hw : word (l.drop q) = (w, 0)) : tak l p = (w.at_ q, 0) := by
  subst hq
  unfold tak; rw [if_neg h, hw, if_pos rfl]
theorem tak_err {l : List UInt8} {p q e : Nat} {w : Wd} (hq : q = p + cnt isW (l.drop p)) (h : q ≠ l.length) (hw : word (l.drop q) = (w, e)) (he : e ≠ 0) : tak l p = (Wd.zero, e) := by
  subst hq
  unfold tak; rw [if_neg h, hw, if_neg he]
/-- The ways that Take has. -/
theorem tak_ways (l : List UInt8) (p : Nat) (hp : p ≤ l.length) :
    tak l p = (⟨11, 0, [], l.length, l.length⟩, 0) ∨ tak l p = (Wd.zero, 20) ∨ tak l p = (Wd.zero, 22) ∨
    ∃ w q, q = p + cnt isW (l.drop p) ∧ q < l.length ∧ word (l.drop q) = (w, 0) ∧ w.ok (l.length - q) ∧ tak l p = (w.at_ q, 0) := by
  have hq := tak_q l p hp
  by_cases h : p + cnt isW (l.drop p) = l.length
  · exact .inl (tak_end h)
  · rcases word_err (l.drop (p + cnt isW (l.drop p))) with ⟨w, hw⟩ | hw | hw
    · have := word_ok hw
      rw [List.length_drop] at this
      exact .inr (.inr (.inr ⟨w, _, rfl, by omega, hw, this, tak_word rfl h hw⟩))
    · exact .inr (.inl (tak_err rfl h hw (by decide)))
    · exact .inr (.inr (.inl (tak_err rfl h hw (by decide))))
theorem tak_fine (l : List UInt8) (p : Nat) (hp : p ≤ l.length) : (tak l p).1.fine l.length ∧ (tak l p).2 ≤ 22 := by
  rcases tak_ways l p hp with h | h | h | ⟨w, q, _, hq, _, hk, h⟩
  · rw [h]; exact ⟨⟨Nat.le_refl _, Nat.le_refl _, by show 11 ≤ 11; omega, by show (-9223372036854775808 : Int) ≤ 0; omega, by show (0 : Int) ≤ 9223372036854775807; omega, Nat.zero_le _⟩, by omega⟩
  · rw [h]; exact ⟨⟨Nat.le_refl _, Nat.zero_le _, Nat.zero_le _, by show (-9223372036854775808 : Int) ≤ 0; omega, by show (0 : Int) ≤ 9223372036854775807; omega, Nat.zero_le _⟩, by omega⟩
  · rw [h]; exact ⟨⟨Nat.le_refl _, Nat.zero_le _, Nat.zero_le _, by show (-9223372036854775808 : Int) ≤ 0; omega, by show (0 : Int) ≤ 9223372036854775807; omega, Nat.zero_le _⟩, by omega⟩
  · rw [h]
    obtain ⟨h1, h2, h3, h4, h5, h6, h7, h8⟩ := hk
    refine ⟨⟨?_, ?_, ?_, h6, h7, ?_⟩, by omega⟩
    · show w.a + q ≤ w.x + q; omega
    · show w.x + q ≤ l.length; omega
    · show w.k ≤ 11; omega
    · show w.t.length ≤ l.length; omega
/-- One that is no End goes on. -/
theorem tak_more {l : List UInt8} {p : Nat} (hp : p ≤ l.length) (h : (tak l p).2 = 0) (hk : (tak l p).1.k ≠ 11) : p < (tak l p).1.x ∧ (tak l p).1.x ≤ l.length ∧ (tak l p).1.a < (tak l p).1.x := by
  rcases tak_ways l p hp with e | e | e | ⟨w, q, h0, hq, _, hw, e⟩
  · rw [e] at hk; exact absurd rfl hk
  · rw [e] at h; cases h
  · rw [e] at h; cases h
  · rw [e]
    obtain ⟨h1, h2, h3, h4, h5, h6, h7, h8⟩ := hw
    refine ⟨?_, ?_, ?_⟩
    · show p < w.x + q; omega
    · show w.x + q ≤ l.length; omega
    · show w.a + q < w.x + q; omega

theorem allF_fuel : ∀ (f g : Nat) (l : List UInt8) (p : Nat), p ≤ l.length → l.length < f + p → l.length < g + p → allF f l p = allF g l p
  | 0, _, _, _, hp, h, _ => absurd h (by omega)
  | _ + 1, 0, _, _, hp, _, h => absurd h (by omega)
  | f + 1, g + 1, l, p, hp, h1, h2 => by
    unfold allF
    split
    · rfl
    · rename_i he
      split
      · rfl
      · rename_i hk
        have := tak_more hp (by omega) hk
        rw [allF_fuel f g l _ this.2.1 (by omega) (by omega)]
theorem allF_len : ∀ (f : Nat) (l : List UInt8) (p : Nat), p ≤ l.length → (allF f l p).1.length + p ≤ l.length
  | 0, _, _, h => by simpa [allF] using h
  | f + 1, l, p, h => by
    unfold allF
    split
    · simpa using h
    · rename_i he
      split
      · simpa using h
      · rename_i hk
        have m := tak_more h (by omega) hk
        have := allF_len f l _ m.2.1
        split
        · simpa using h
        · simp; omega
theorem all_len (l : List UInt8) : (all l 0).1.length ≤ l.length := allF_len _ l 0 (Nat.zero_le _)
def joinA (d : List Wd) (r : List Wd × Nat) : List Wd × Nat := if r.2 ≠ 0 then ([], r.2) else (d ++ r.1, 0)
theorem all_bad {l : List UInt8} {p : Nat} (hp : p ≤ l.length) (h : (tak l p).2 ≠ 0) : all l p = ([], (tak l p).2) := by
  unfold all
  rw [show l.length + 1 - p = (l.length - p) + 1 by omega, allF, if_pos h]
theorem all_end {l : List UInt8} {p : Nat} (hp : p ≤ l.length) (h : (tak l p).2 = 0) (hk : (tak l p).1.k = 11) : all l p = ([], 0) := by
  unfold all
  rw [show l.length + 1 - p = (l.length - p) + 1 by omega, allF, if_neg (by omega), if_pos hk]
theorem all_go {l : List UInt8} {p : Nat} (hp : p ≤ l.length) (h : (tak l p).2 = 0) (hk : (tak l p).1.k ≠ 11) : all l p = joinA [(tak l p).1] (all l (tak l p).1.x) := by
  have hm := tak_more hp h hk
  unfold all joinA
  rw [show l.length + 1 - p = (l.length - p) + 1 by omega, allF, if_neg (by omega), if_neg hk, allF_fuel (l.length - p) (l.length + 1 - (tak l p).1.x) l _ hm.2.1 (by omega) (by omega)]
  split
  · rfl
  · rfl
theorem joinA_joinA (d e : List Wd) (r : List Wd × Nat) : joinA d (joinA e r) = joinA (d ++ e) r := by
  by_cases h : r.2 = 0
  · unfold joinA; simp [h]
  · unfold joinA; simp [h]
/-- What has been told, and where the next one begins: the loop of All. -/
def AllAt (l : List UInt8) (d : List Wd) (p : Nat) : Prop := p ≤ l.length ∧ d.length ≤ p ∧ all l 0 = joinA d (all l p)
theorem allAt_start (l : List UInt8) : AllAt l [] 0 := ⟨Nat.zero_le _, Nat.le_refl _, by
  unfold joinA
  split
  · rename_i h
    have : (all l 0).1 = [] ∨ (all l 0).2 = 0 := by
      unfold all
      rw [show l.length + 1 - 0 = l.length + 1 by omega, allF]
      split
      · exact .inl rfl
      · split
        · exact .inl rfl
        · split
          · exact .inl rfl
          · exact .inr rfl
    rcases this with e | e
    · rw [← e]
    · exact absurd e h
  · rename_i h
    have : (all l 0).2 = 0 := by omega
    exact Prod.ext rfl this⟩
theorem AllAt.bad {l : List UInt8} {d : List Wd} {p : Nat} (h : AllAt l d p) (he : (tak l p).2 ≠ 0) : all l 0 = ([], (tak l p).2) := by
  rw [h.2.2, all_bad h.1 he]; unfold joinA; rw [if_pos he]
theorem AllAt.done {l : List UInt8} {d : List Wd} {p : Nat} (h : AllAt l d p) (he : (tak l p).2 = 0) (hk : (tak l p).1.k = 11) : all l 0 = (d, 0) := by
  rw [h.2.2, all_end h.1 he hk]; unfold joinA; simp
theorem AllAt.go {l : List UInt8} {d : List Wd} {p : Nat} (h : AllAt l d p) (he : (tak l p).2 = 0) (hk : (tak l p).1.k ≠ 11) : AllAt l (d ++ [(tak l p).1]) (tak l p).1.x ∧ p < (tak l p).1.x := by
  have hm := tak_more h.1 he hk
  refine ⟨⟨hm.2.1, by have := h.2.1; simp; omega, ?_⟩, hm.1⟩
  rw [h.2.2, all_go h.1 he hk, joinA_joinA]
end Go.Proofs.YtbogafecgakgiaaDoor.Jx
