/- Plain mathematics of layer 7: which tree a JSON text is. -/
import Derived.Test.YtnfhikgfcdcpoaaDoorJNum
import Derived.Test.YtnfhikgfcdcpoaaDoorJT
namespace Go.Proofs.YtnfhikgfcdcpoaaDoor.Jp
open Jx

def nil_ : ByteArray := ⟨#[]⟩
def str (t : List UInt8) : ByteArray := ⟨t.toArray⟩
/-- The kind of what ends with a sign. -/
def kindOf (e : Nat) : Int := if e = 2 then 6 else 5
/-- A tree, where what stands behind it begins, the error. -/
abbrev R := J × Nat × Nat
def bad (e : Nat) : R := (J.zero, 0, e)
mutual
/-- The value that stands at a place, within so many lists and objects. -/
def pval : Nat → List UInt8 → Nat → Nat → R
  | 0, _, _, _ => bad 20
  | f + 1, l, p, d =>
    if (tak l p).2 ≠ 0 then bad (tak l p).2
    else if (tak l p).1.k = 7 then (.mk 2 (tak l p).1.n nil_ [] [], (tak l p).1.x, 0)
    else if (tak l p).1.k = 8 then (.mk 1 0 nil_ [] [], (tak l p).1.x, 0)
    else if (tak l p).1.k = 9 then (.mk 3 (tak l p).1.n nil_ [] [], (tak l p).1.x, 0)
    else if (tak l p).1.k = 10 then (.mk 4 0 (str (tak l p).1.t) [] [], (tak l p).1.x, 0)
    else if (tak l p).1.k = 1 ∨ (tak l p).1.k = 3 then
      if d = 32 then bad 21
      else if (tak l (tak l p).1.x).2 = 0 ∧ (tak l (tak l p).1.x).1.k = (tak l p).1.k + 1 then (.mk (kindOf ((tak l p).1.k + 1)) 0 nil_ [] [], (tak l (tak l p).1.x).1.x, 0)
      else pits f l (tak l p).1.x (d + 1) ((tak l p).1.k + 1) [] []
    else bad 20
/-- The items that stand from a place on, of a list or an object that ends with a sign, behind others. -/
def pits : Nat → List UInt8 → Nat → Nat → Nat → List ByteArray → List J → R
  | 0, _, _, _, _, _, _ => bad 20
  | f + 1, l, p, d, e, ks, js =>
    if e = 2 then
      if (tak l p).2 ≠ 0 then bad (tak l p).2
      else if (tak l p).1.k ≠ 10 then bad 20
      else if (ks.any fun k => decide (k = str (tak l p).1.t)) = true then bad 23
      else if (tak l (tak l p).1.x).2 ≠ 0 then bad (tak l (tak l p).1.x).2
      else if (tak l (tak l p).1.x).1.k ≠ 5 then bad 20
      else if (pval f l (tak l (tak l p).1.x).1.x d).2.2 ≠ 0 then bad (pval f l (tak l (tak l p).1.x).1.x d).2.2
      else if (tak l (pval f l (tak l (tak l p).1.x).1.x d).2.1).2 ≠ 0 then bad (tak l (pval f l (tak l (tak l p).1.x).1.x d).2.1).2
      else if (tak l (pval f l (tak l (tak l p).1.x).1.x d).2.1).1.k = e then
        (.mk (kindOf e) 0 nil_ (js ++ [(pval f l (tak l (tak l p).1.x).1.x d).1]) (ks ++ [str (tak l p).1.t]), (tak l (pval f l (tak l (tak l p).1.x).1.x d).2.1).1.x, 0)
      else if (tak l (pval f l (tak l (tak l p).1.x).1.x d).2.1).1.k ≠ 6 then bad 20
      else pits f l (tak l (pval f l (tak l (tak l p).1.x).1.x d).2.1).1.x d e (ks ++ [str (tak l p).1.t]) (js ++ [(pval f l (tak l (tak l p).1.x).1.x d).1])
    else
      if (pval f l p d).2.2 ≠ 0 then bad (pval f l p d).2.2
      else if (tak l (pval f l p d).2.1).2 ≠ 0 then bad (tak l (pval f l p d).2.1).2
      else if (tak l (pval f l p d).2.1).1.k = e then (.mk (kindOf e) 0 nil_ (js ++ [(pval f l p d).1]) ks, (tak l (pval f l p d).2.1).1.x, 0)
      else if (tak l (pval f l p d).2.1).1.k ≠ 6 then bad 20
      else pits f l (tak l (pval f l p d).2.1).1.x d e ks (js ++ [(pval f l p d).1])
end
/-- Which tree bytes are, and the error. -/
def parse (l : List UInt8) : J × Nat :=
  if 20000 < l.length then (J.zero, 3)
  else if (pval (2 * l.length + 3) l 0 0).2.2 ≠ 0 then (J.zero, (pval (2 * l.length + 3) l 0 0).2.2)
  else if (tak l (pval (2 * l.length + 3) l 0 0).2.1).2 ≠ 0 then (J.zero, (tak l (pval (2 * l.length + 3) l 0 0).2.1).2)
  else if (tak l (pval (2 * l.length + 3) l 0 0).2.1).1.k ≠ 11 then (J.zero, 20)
  else ((pval (2 * l.length + 3) l 0 0).1, 0)

/-- The words from a place on; behind the end none; where there is no word, one of the kind 0 with the error. -/
def wlF : Nat → List UInt8 → Nat → List Wd
  | 0, _, _ => []
  | f + 1, l, p => if (tak l p).2 ≠ 0 then [⟨0, ((tak l p).2 : Int), [], 0, 0⟩] else if (tak l p).1.k = 11 then [(tak l p).1] else (tak l p).1 :: wlF f l (tak l p).1.x
def wl (l : List UInt8) (p : Nat) : List Wd := wlF (l.length + 1 - p) l p
theorem wlF_fuel : ∀ (f g : Nat) (l : List UInt8) (p : Nat), p ≤ l.length → l.length < f + p → l.length < g + p → wlF f l p = wlF g l p
  | 0, _, l, p, hp, h, _ => absurd h (by omega)
  | _ + 1, 0, l, p, hp, _, h => absurd h (by omega)
  | f + 1, g + 1, l, p, hp, h1, h2 => by
    unfold wlF
    split
    · rfl
    · rename_i he
      split
      · rfl
      · rename_i hk
        have m := tak_more hp (by omega) hk
        rw [wlF_fuel f g l _ m.2.1 (by omega) (by omega)]
theorem wl_bad {l : List UInt8} {p : Nat} (hp : p ≤ l.length) (h : (tak l p).2 ≠ 0) : wl l p = [⟨0, ((tak l p).2 : Int), [], 0, 0⟩] := by
  unfold wl; rw [show l.length + 1 - p = (l.length - p) + 1 by omega]; unfold wlF; rw [if_pos h]
theorem wl_end {l : List UInt8} {p : Nat} (hp : p ≤ l.length) (h : (tak l p).2 = 0) (hk : (tak l p).1.k = 11) : wl l p = [(tak l p).1] := by
  unfold wl; rw [show l.length + 1 - p = (l.length - p) + 1 by omega]; unfold wlF; rw [if_neg (by omega), if_pos hk]
theorem wl_go {l : List UInt8} {p : Nat} (hp : p ≤ l.length) (h : (tak l p).2 = 0) (hk : (tak l p).1.k ≠ 11) : wl l p = (tak l p).1 :: wl l (tak l p).1.x := by
  have m := tak_more hp h hk
  unfold wl; rw [show l.length + 1 - p = (l.length - p) + 1 by omega, wlF, if_neg (by omega), if_neg hk]
  rw [wlF_fuel _ (l.length + 1 - (tak l p).1.x) l _ m.2.1 (by omega) (by omega)]
/-- Some words stand from a place on. -/
def At (ws : List Wd) (l : List UInt8) (i p : Nat) : Prop := p ≤ l.length ∧ ws.drop i = wl l p
theorem wl_pos {l : List UInt8} {p : Nat} (hp : p ≤ l.length) : wl l p ≠ [] := by
  by_cases h : (tak l p).2 = 0
  · by_cases hk : (tak l p).1.k = 11
    · rw [wl_end hp h hk]; simp
    · rw [wl_go hp h hk]; simp
  · rw [wl_bad hp h]; simp
theorem At.lt {ws : List Wd} {l : List UInt8} {i p : Nat} (h : At ws l i p) : i < ws.length := by
  rcases Nat.lt_or_ge i ws.length with g | g
  · exact g
  · have := h.2; rw [List.drop_eq_nil_of_le g] at this; exact absurd this.symm (wl_pos h.1)
/-- The word there. -/
def wd (r : Wd × Nat) : Wd := if r.2 = 0 then r.1 else ⟨0, (r.2 : Int), [], 0, 0⟩
theorem At.word {ws : List Wd} {l : List UInt8} {i p : Nat} (h : At ws l i p) : ws[i]'h.lt = wd (tak l p) := by
  have e := h.2
  rw [List.drop_eq_getElem_cons h.lt] at e
  unfold wd
  by_cases g : (tak l p).2 = 0
  · rw [if_pos g]
    by_cases hk : (tak l p).1.k = 11
    · rw [wl_end h.1 g hk] at e; exact (List.cons.inj e).1
    · rw [wl_go h.1 g hk] at e; exact (List.cons.inj e).1
  · rw [if_neg g]; rw [wl_bad h.1 g] at e; exact (List.cons.inj e).1
theorem At.next {ws : List Wd} {l : List UInt8} {i p : Nat} (h : At ws l i p) (g : (tak l p).2 = 0) (hk : (tak l p).1.k ≠ 11) : At ws l (i + 1) (tak l p).1.x ∧ p < (tak l p).1.x := by
  have e := h.2
  rw [List.drop_eq_getElem_cons h.lt, wl_go h.1 g hk] at e
  have m := tak_more h.1 g hk
  exact ⟨⟨m.2.1, (List.cons.inj e).2⟩, m.1⟩
end Go.Proofs.YtnfhikgfcdcpoaaDoor.Jp
