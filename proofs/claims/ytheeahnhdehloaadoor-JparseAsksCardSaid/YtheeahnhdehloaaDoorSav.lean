/- A call that turns two blocks at most, and lays new ones (program-free). -/
import Derived.Test.YtheeahnhdehloaaDoorJT
import Derived.Test.YtheeahnhdehloaaDoorRec
namespace Go.Proofs.YtheeahnhdehloaaDoor.Mem
open Go.RowKit

/-- Of the blocks below B just g and h may turn. -/
structure Sav (g h B : Nat) (w w' : World) : Prop where
  os : w'.os = w.os
  tape : w'.tape = w.tape
  output : w'.output = w.output
  size : w.heap.size ≤ w'.heap.size
  block : ∀ k, k < B → k ≠ g → k ≠ h → w'.heap[k]? = w.heap[k]?
section
variable {g h B B' : Nat} {a b c w w' : World}
theorem Sav.refl (g h B : Nat) (w : World) : Sav g h B w w := ⟨rfl, rfl, rfl, Nat.le_refl _, fun _ _ _ _ => rfl⟩
theorem Sav.trans (s : Sav g h B a b) (k : Sav g h B b c) : Sav g h B a c :=
  ⟨k.os.trans s.os, k.tape.trans s.tape, k.output.trans s.output, Nat.le_trans s.size k.size, fun i h1 h2 h3 => (k.block i h1 h2 h3).trans (s.block i h1 h2 h3)⟩
theorem Sav.mono (s : Sav g h B a b) (hB : B' ≤ B) : Sav g h B' a b := ⟨s.os, s.tape, s.output, s.size, fun i h1 => s.block i (Nat.lt_of_lt_of_le h1 hB)⟩
theorem Sav.more {e : Nat} (s : Sav g g B a b) : Sav g e B a b := ⟨s.os, s.tape, s.output, s.size, fun i h1 h2 _ => s.block i h1 h2 h2⟩
theorem Sav.of (s : Below B a b) : Sav g h B a b := ⟨s.os, s.tape, s.output, s.size, fun i h1 _ _ => s.block i h1⟩
/-- The second block lies above. -/
theorem Sav.less (s : Sav g h B a b) (hB : B' ≤ B) (hh : B' ≤ h) : Sav g g B' a b := ⟨s.os, s.tape, s.output, s.size, fun i h1 h2 _ => s.block i (by omega) h2 (by omega)⟩
theorem Sav.bel (s : Sav g h B a b) (hg : B' ≤ g) (hh : B' ≤ h) (hB : B' ≤ B) : Below B' a b := ⟨s.os, s.tape, s.output, s.size, fun i h1 => s.block i (by omega) (by omega) (by omega)⟩
theorem Sav.call (k : Below B' b c) (hB : B ≤ B') (s : Sav g h B a b) : Sav g h B a c := s.trans (Sav.of (k.mono hB))
theorem Sav.next (k : Sav g h B' b c) (hB : B ≤ B') (s : Sav g h B a b) : Sav g h B a c := s.trans (k.mono hB)
theorem Sav.next1 (k : Sav g g B' b c) (hB : B ≤ B') (s : Sav g h B a b) : Sav g h B a c := s.trans (k.mono hB).more
theorem Sav.drewN (s : Sav g h B a b) (n : Nat) : Sav g h B a (b.drewN n) := ⟨s.os, s.tape, s.output, s.size, s.block⟩
theorem Sav.drew (s : Sav g h B a b) : Sav g h B a b.drew := ⟨s.os, s.tape, s.output, s.size, s.block⟩
theorem Sav.alloc (s : Sav g h B a b) (hB : B ≤ b.heap.size) (o : Obj) : Sav g h B a (b.alloc o) := s.trans (Sav.of ((Below.refl _ _).alloc hB o))
theorem Sav.set (s : Sav g h B a b) {p : Addr} (hp : p.block = g ∨ p.block = h ∨ B ≤ p.block) (u : Value) : Sav g h B a (b.setCell p u) :=
  ⟨s.os, s.tape, s.output, by simp [World.setCell]; exact s.size, fun i h1 h2 h3 => (Below.heap_setCell _ _ _ _ (by intro e; subst e; omega)).trans (s.block i h1 h2 h3)⟩
theorem Sav.heap (s : Sav g h B a b) {k : Nat} (h1 : k < B) (h2 : k ≠ g) (h3 : k ≠ h) : b.heap[k]? = a.heap[k]? := s.block k h1 h2 h3
theorem Sav.cell (s : Sav g h B a b) {p : Addr} (h1 : p.block < B) (h2 : p.block ≠ g) (h3 : p.block ≠ h) : b.cell? p = a.cell? p := World.cell?_of_block (w := a) (s.block _ h1 h2 h3)
theorem Sav.frozen (s : Sav g h B a b) {p : Addr} (h1 : p.block < B) (h2 : p.block ≠ g) (h3 : p.block ≠ h) : b.frozen? p = a.frozen? p := World.frozen?_of_block (w := a) (s.block _ h1 h2 h3)
theorem Blk.sav {t : TypeId} {cs : Array Value} {k : Nat} (x : Blk a k t cs) (s : Sav g h B a b) (h1 : k < B) (h2 : k ≠ g) (h3 : k ≠ h) : Blk b k t cs := (s.block k h1 h2 h3).trans x
theorem Sav.keeps (s : Sav g h B a b) {S : Nat → Prop} (hS : ∀ k, S k → k < B ∧ k ≠ g ∧ k ≠ h) : KeepS S a b := fun _ hp => s.cell (hS _ hp).1 (hS _ hp).2.1 (hS _ hp).2.2
end
end Go.Proofs.YtheeahnhdehloaaDoor.Mem
