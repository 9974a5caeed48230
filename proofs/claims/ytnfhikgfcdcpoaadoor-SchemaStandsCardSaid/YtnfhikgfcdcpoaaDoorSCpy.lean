/- A copy whose numbers and texts are written over: what stands all the same. (Program-free.) -/
import Derived.Test.YtnfhikgfcdcpoaaDoorSch
import Derived.Below
namespace Go.Proofs.YtnfhikgfcdcpoaaDoor
open Go.RowKit Mem

/-- Of the same kind: numbers and texts may differ. -/
def Alike (v u : Value) : Prop := (∃ k n m, v = .int k n ∧ u = .int k m) ∨ (∃ s t, v = .string s ∧ u = .string t) ∨ u = v
/-- w' is w, but for numbers and texts in the blocks that S has. -/
structure Sim (S : Nat → Prop) (w w' : World) : Prop where
  os : w'.os = w.os
  tape : w'.tape = w.tape
  output : w'.output = w.output
  size : w'.heap.size = w.heap.size
  out : ∀ k, ¬ S k → w'.heap[k]? = w.heap[k]?
  fro : ∀ p, w'.frozen? p = w.frozen? p
  like : ∀ (g i : Nat) v, w.cell? ⟨g, i, none⟩ = some v → ∃ u, w'.cell? ⟨g, i, none⟩ = some u ∧ Alike v u
section
variable {S : Nat → Prop} {w w' : World}
theorem Sim.refl : Sim S w w := ⟨rfl, rfl, rfl, rfl, fun _ _ => rfl, fun _ => rfl, fun _ _ v h => ⟨v, h, .inr (.inr rfl)⟩⟩
theorem Sim.below {B : Nat} (h : Sim S w w') (hB : ∀ k, S k → B ≤ k) : Below B w w' :=
  ⟨h.os, h.tape, h.output, by rw [h.size]; exact Nat.le_refl _, fun k hk => h.out k fun hS => absurd (hB k hS) (by omega)⟩
theorem Sim.cell (h : Sim S w w') {p : Addr} (hp : ¬ S p.block) : w'.cell? p = w.cell? p := World.cell?_of_block (w := w) (h.out _ hp)
theorem Sim.lies {T : Nat → Prop} (h : Sim S w w') (hT : ∀ k, T k → ¬ S k) {d : D} {cs : List Value} (hl : Lies w T d cs) : Lies w' T d cs := hl.keep (fun _ hp => h.cell (hT _ hp)) fun _ h => h
theorem Sim.int (h : Sim S w w') {g i : Nat} {k : IntKind} {n : Int} (hc : w.cell? ⟨g, i, none⟩ = some (.int k n)) : ∃ m, w'.cell? ⟨g, i, none⟩ = some (.int k m) := by
  obtain ⟨u, hu, ⟨k', n', m, e, rfl⟩ | ⟨s, t, e, rfl⟩ | rfl⟩ := h.like _ _ _ hc
  · obtain ⟨rfl, rfl⟩ := Value.int.inj e; exact ⟨m, hu⟩
  · cases e
  · exact ⟨n, hu⟩
theorem Sim.str (h : Sim S w w') {g i : Nat} {s : ByteArray} (hc : w.cell? ⟨g, i, none⟩ = some (.string s)) : ∃ t, w'.cell? ⟨g, i, none⟩ = some (.string t) := by
  obtain ⟨u, hu, ⟨k', n', m, e, rfl⟩ | ⟨s, t, e, rfl⟩ | rfl⟩ := h.like _ _ _ hc
  · cases e
  · exact ⟨t, hu⟩
  · exact ⟨s, hu⟩
theorem Sim.slice (h : Sim S w w') {g i : Nat} {A : Option Addr} {n c : Nat} (hc : w.cell? ⟨g, i, none⟩ = some (.slice A n c)) : w'.cell? ⟨g, i, none⟩ = some (.slice A n c) := by
  obtain ⟨u, hu, ⟨k', n', m, e, rfl⟩ | ⟨s, t, e, rfl⟩ | rfl⟩ := h.like _ _ _ hc
  · cases e
  · cases e
  · exact hu
theorem Alike.trans {a b c : Value} (h : Alike a b) (g : Alike b c) : Alike a c := by
  rcases h with ⟨k, n, m, rfl, rfl⟩ | ⟨s, t, rfl, rfl⟩ | rfl
  · rcases g with ⟨k', n', m', e, rfl⟩ | ⟨s, t, e, rfl⟩ | rfl
    · obtain ⟨rfl, rfl⟩ := Value.int.inj e; exact .inl ⟨_, _, _, rfl, rfl⟩
    · cases e
    · exact .inl ⟨_, _, _, rfl, rfl⟩
  · rcases g with ⟨k', n', m', e, rfl⟩ | ⟨s', t', e, rfl⟩ | rfl
    · cases e
    · exact .inr (.inl ⟨_, _, rfl, rfl⟩)
    · exact .inr (.inl ⟨_, _, rfl, rfl⟩)
  · exact g
theorem Sim.set (h : Sim S w w') {g i : Nat} (hg : S g) {v x : Value} (hc : w'.cell? ⟨g, i, none⟩ = some v) (ha : Alike v x) : Sim S w (w'.setCell ⟨g, i, none⟩ x) where
  os := h.os
  tape := h.tape
  output := h.output
  size := by rw [← h.size]; simp [World.setCell]
  out := fun k hk => (Below.heap_setCell _ _ _ _ (fun e => hk (by rw [e]; exact hg))).trans (h.out k hk)
  fro := fun p => (World.frozen?_setCell _ _ _ _).trans (h.fro p)
  like := fun a j u hu => by
    obtain ⟨y, hy, hl⟩ := h.like _ _ _ hu
    rw [cell_set]
    by_cases e : g = a ∧ i = j
    · obtain ⟨rfl, rfl⟩ := e
      rw [if_pos ⟨rfl, rfl⟩, hc]
      rw [hc] at hy
      obtain rfl := Option.some.inj hy
      exact ⟨x, rfl, hl.trans ha⟩
    · rw [if_neg e]
      exact ⟨y, hy, hl⟩
theorem Sim.set_int (h : Sim S w w') {g i : Nat} (hg : S g) {k : IntKind} {n : Int} (hc : w.cell? ⟨g, i, none⟩ = some (.int k n)) (x : Int) : Sim S w (w'.setCell ⟨g, i, none⟩ (.int k x)) := by
  obtain ⟨m, hm⟩ := h.int hc
  exact h.set hg hm (.inl ⟨_, _, _, rfl, rfl⟩)
theorem Sim.set_str (h : Sim S w w') {g i : Nat} (hg : S g) {s : ByteArray} (hc : w.cell? ⟨g, i, none⟩ = some (.string s)) (x : ByteArray) : Sim S w (w'.setCell ⟨g, i, none⟩ (.string x)) := by
  obtain ⟨m, hm⟩ := h.str hc
  exact h.set hg hm (.inr (.inl ⟨_, _, rfl, rfl⟩))
/-- The k-th text of a row. -/
theorem strs_at {A : Option Addr} {l : List ByteArray} (h : FlS w S A (l.map Value.string)) {k : Nat} (hk : k < l.length) : ∃ g off, A = some ⟨g, off, none⟩ ∧ S g ∧ w.cell? ⟨g, off + k, none⟩ = some (.string (l[k]'hk)) := by
  rcases h with h | ⟨g, off, rfl, hg, hc⟩
  · rw [List.map_eq_nil_iff.1 h] at hk; exact absurd hk (Nat.not_lt_zero _)
  · refine ⟨g, off, rfl, hg, ?_⟩
    rw [hc k (by simpa using hk), List.getElem?_map, List.getElem?_eq_getElem hk]
    rfl
end
end Go.Proofs.YtnfhikgfcdcpoaaDoor
