/- Plain mathematics of layer 10: kids, the order in which nodes are met, names. -/
import Derived.Test.YtnfhikgfcdcpoaaDoorSch
namespace Go.Proofs.YtnfhikgfcdcpoaaDoor

/-- Has a node of that kind a name? -/
def named (k : Int) : Bool := decide (k = 9 ∨ k = 10 ∨ k = 14)
/-- A node's kids. -/
def Nd.kids (n : Nd) : List Int := if n.k = 9 then n.fs.map Fd.ty else if n.k = 11 ∨ n.k = 12 then [n.items] else if n.k = 13 then n.br else []
/-- The kind of the node at a place; 0. -/
def Sc.kind (s : Sc) (i : Int) : Int := if 0 ≤ i then ((s.nodes[i.toNat]?).map Nd.k).getD 0 else 0
def Sc.kidsAt (s : Sc) (i : Nat) : List Int := ((s.nodes[i]?).map Nd.kids).getD []
mutual
/-- From a node that is the next one, which one is the next then. -/
def met (s : Sc) : Nat → Nat → Option Nat
  | 0, _ => none
  | f + 1, at_ => if s.nodes.length ≤ at_ then none else metK s f (s.kidsAt at_) (at_ + 1)
/-- .. behind some kids. -/
def metK (s : Sc) : Nat → List Int → Nat → Option Nat
  | _, [], next => some next
  | f, k :: r, next => if k < 0 ∨ (next : Int) < k ∨ (k < (next : Int) ∧ named (s.kind k) = false) then none
    else if k = (next : Int) then (match met s f next with
      | none => none
      | some nx => metK s f r nx)
    else metK s f r next
end
/-- Do the nodes stand in order, none deeper than 32? -/
def Sc.ordered (s : Sc) : Prop := 1 ≤ s.nodes.length ∧ s.nodes.length ≤ 200 ∧ s.root = 0 ∧ met s 33 0 = some s.nodes.length

/-- What is told of the nodes from a place on, up to another. -/
def Good (s : Sc) (a b : Nat) : Prop := (∀ j, a ≤ j → j < b → ∀ k ∈ s.kidsAt j, 0 ≤ k ∧ k < (b : Int) ∧ (k ≤ (j : Int) → named (s.kind k) = true)) ∧ ∀ i, a < i → i < b → ∃ j, a ≤ j ∧ j < i ∧ (i : Int) ∈ s.kidsAt j
mutual
theorem met_good (s : Sc) : ∀ (f a b : Nat), met s f a = some b → a < b ∧ b ≤ s.nodes.length ∧ Good s a b
  | 0, _, _, h => by unfold met at h; cases h
  | f + 1, a, b, h => by
    unfold met at h
    by_cases h0 : s.nodes.length ≤ a
    · rw [if_pos h0] at h; cases h
    · rw [if_neg h0] at h
      obtain ⟨h1, h2, h3, h4, h5⟩ := metK_good s f (s.kidsAt a) a (a + 1) b h (by omega) (by omega) (fun k hk => hk) (fun j h1 h2 => by omega) (fun i h1 h2 => by omega)
      refine ⟨by omega, h2, fun j hj hb k hk => ?_, h5⟩
      rcases Nat.eq_or_lt_of_le hj with e | e
      · subst e; exact h3 k hk
      · exact h4 j e hb k hk
/-- .. behind some kids of the node a: the nodes behind it, up to the next one, are good. -/
theorem metK_good (s : Sc) : ∀ (f : Nat) (l : List Int) (a next b : Nat), metK s f l next = some b → a < next → next ≤ s.nodes.length → (∀ k ∈ l, k ∈ s.kidsAt a) →
    (∀ j, a < j → j < next → ∀ k ∈ s.kidsAt j, 0 ≤ k ∧ k < (next : Int) ∧ (k ≤ (j : Int) → named (s.kind k) = true)) →
    (∀ i, a < i → i < next → ∃ j, a ≤ j ∧ j < i ∧ (i : Int) ∈ s.kidsAt j) →
    next ≤ b ∧ b ≤ s.nodes.length ∧ (∀ k ∈ l, 0 ≤ k ∧ k < (b : Int) ∧ (k ≤ (a : Int) → named (s.kind k) = true)) ∧
      (∀ j, a < j → j < b → ∀ k ∈ s.kidsAt j, 0 ≤ k ∧ k < (b : Int) ∧ (k ≤ (j : Int) → named (s.kind k) = true)) ∧
      (∀ i, a < i → i < b → ∃ j, a ≤ j ∧ j < i ∧ (i : Int) ∈ s.kidsAt j)
  | f, [], a, next, b, h, ha, hn, _, hg, hi => by
    unfold metK at h
    simp only [Option.some.injEq] at h
    subst h
    exact ⟨Nat.le_refl _, hn, fun k hk => by simp at hk, hg, hi⟩
  | f, k :: r, a, next, b, h, ha, hn, hl, hg, hi => by
    unfold metK at h
    by_cases h0 : k < 0 ∨ (next : Int) < k ∨ (k < (next : Int) ∧ named (s.kind k) = false)
    · rw [if_pos h0] at h; cases h
    · rw [if_neg h0] at h
      have hk0 : 0 ≤ k := by omega
      by_cases h1 : k = (next : Int)
      · rw [if_pos h1] at h
        rcases hm : met s f next with _ | nx
        · rw [hm] at h; cases h
        · rw [hm] at h
          obtain ⟨g1, g2, g3, g4⟩ := met_good s f next nx hm
          have step := metK_good s f r a nx b h (by omega) g2 (fun k hk => hl k (by simp [hk])) (fun j h1 h2 k hk => by
            rcases Nat.lt_or_ge j next with g | g
            · have := hg j h1 g k hk; exact ⟨this.1, by omega, this.2.2⟩
            · exact g3 j g h2 k hk) (fun i h3 h2 => by
            rcases Nat.lt_trichotomy i next with g | g | g
            · exact hi i h3 g
            · subst g
              exact ⟨a, Nat.le_refl _, ha, by rw [← h1]; exact hl k (by simp)⟩
            · obtain ⟨j, e1, e2, e3⟩ := g4 i g h2
              exact ⟨j, by omega, e2, e3⟩)
          obtain ⟨s1, s2, s3, s4, s5⟩ := step
          refine ⟨by omega, s2, fun q hq => ?_, s4, s5⟩
          rcases List.mem_cons.1 hq with e | e
          · subst e; exact ⟨hk0, by omega, fun hh => by omega⟩
          · exact s3 q e
      · rw [if_neg h1] at h
        obtain ⟨s1, s2, s3, s4, s5⟩ := metK_good s f r a next b h ha hn (fun k hk => hl k (by simp [hk])) hg hi
        refine ⟨s1, s2, fun q hq => ?_, s4, s5⟩
        rcases List.mem_cons.1 hq with e | e
        · subst e
          have nk : named (s.kind q) = true := by
            rcases hq : named (s.kind q) with _ | _
            · exact absurd (.inr (.inr ⟨by omega, hq⟩)) h0
            · rfl
          exact ⟨hk0, by omega, fun _ => nk⟩
        · exact s3 q e
end
/-- Of nodes that stand in order each but the first is a kid of one ahead of it; each kid is a node, and one that does not stand behind has a name. -/
theorem ordered_good {s : Sc} (h : s.ordered) : Good s 0 s.nodes.length := (met_good s _ _ _ h.2.2.2).2.2
/-- The place of the first node of a name. -/
def Sc.find (s : Sc) (t : ByteArray) : Option Nat := s.nodes.findIdx? fun n => named n.k && n.name == t
end Go.Proofs.YtnfhikgfcdcpoaaDoor
