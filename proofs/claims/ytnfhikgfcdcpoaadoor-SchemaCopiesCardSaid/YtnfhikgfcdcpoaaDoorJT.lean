/- Trees of JSON: what they are, and how they lie in memory. -/
import Derived.Test.YtnfhikgfcdcpoaaDoorRec
namespace Go.Proofs.YtnfhikgfcdcpoaaDoor
open Go.RowKit Mem

/-- A tree: its kind, its number, its text, its items, its keys. -/
inductive J where
  | mk (k : Int) (n : Int) (t : ByteArray) (its : List J) (ks : List ByteArray)
namespace J
def k : J → Int | mk k _ _ _ _ => k
def n : J → Int | mk _ n _ _ _ => n
def t : J → ByteArray | mk _ _ t _ _ => t
def its : J → List J | mk _ _ _ i _ => i
def ks : J → List ByteArray | mk _ _ _ _ s => s
theorem eta (j : J) : mk j.k j.n j.t j.its j.ks = j := by cases j; rfl
def zero : J := mk 0 0 ⟨#[]⟩ [] []
/-- Are two alike? -/
noncomputable def same (a b : J) : Bool := @decide (a = b) (Classical.propDecidable _)
theorem same_refl (a : J) : same a a = true := by unfold same; simp
theorem same_yes {a b : J} (h : a = b) : same a b = true := by subst h; exact same_refl a
theorem same_no {a b : J} (h : a ≠ b) : same a b = false := by unfold same; simpa using h
theorem same_iff {a b : J} : same a b = true ↔ a = b := by unfold same; simp
/-- What a tree's parts are is smaller. -/
theorem lt_its {j : J} {i : Nat} (h : i < j.its.length) : SizeOf.sizeOf (j.its[i]'h) < SizeOf.sizeOf j := by
  cases j with
  | mk k n t its ks =>
    have := List.sizeOf_lt_of_mem (List.getElem_mem h)
    simp only [J.mk.sizeOf_spec]
    simp only [J.its] at this ⊢
    omega
end J

/-- A place and a list of cells, in a block that S has. -/
def FlS (w : World) (S : Nat → Prop) (A : Option Addr) (xs : List Value) : Prop := xs = [] ∨ ∃ b off, A = some ⟨b, off, none⟩ ∧ S b ∧ ∀ k, k < xs.length → w.cell? ⟨b, off + k, none⟩ = xs[k]?
theorem Fl.s {w : World} {B : Nat} {A : Option Addr} {xs : List Value} (h : Fl w B A xs) : FlS w (· < B) A xs := h
theorem FlS.fl {w : World} {B : Nat} {A : Option Addr} {xs : List Value} (h : FlS w (· < B) A xs) : Fl w B A xs := h
mutual
/-- Five cells that are a tree, whose parts lie in blocks that S has. -/
def TreeS (w : World) (S : Nat → Prop) : J → List Value → Prop
  | .mk k n s its ks, cs => ∃ A3 c3 A4 c4, cs = [.int .i64 k, .int .i64 n, .string s, .slice A3 its.length c3, .slice A4 ks.length c4] ∧ (its.length ≤ c3 ∧ its.length ≤ maxLen) ∧ (ks.length ≤ c4 ∧ ks.length ≤ maxLen) ∧
      RowS w S its A3 ∧ FlS w S A4 (ks.map Value.string)
/-- A place from which trees stand, one behind the other. -/
def RowS (w : World) (S : Nat → Prop) : List J → Option Addr → Prop
  | [], _ => True
  | j :: r, A => ∃ b off cs, A = some ⟨b, off, none⟩ ∧ S b ∧ (∀ i, i < 5 → w.cell? ⟨b, off + i, none⟩ = cs[i]?) ∧ TreeS w S j cs ∧ RowS w S r (some ⟨b, off + 5, none⟩)
end
abbrev TreeC (w : World) (B : Nat) (j : J) (cs : List Value) : Prop := TreeS w (· < B) j cs
abbrev RowT (w : World) (B : Nat) (l : List J) (A : Option Addr) : Prop := RowS w (· < B) l A

/-- The cells of these blocks stay. -/
def KeepS (S : Nat → Prop) (w w' : World) : Prop := ∀ p : Addr, S p.block → w'.cell? p = w.cell? p
theorem Below.keeps {B : Nat} {w w' : World} (h : Below B w w') : KeepS (· < B) w w' := fun _ hp => h.cell hp
theorem FlS.keep {w w' : World} {S S' : Nat → Prop} (hk : KeepS S w w') (hS : ∀ b, S b → S' b) {A : Option Addr} {xs : List Value} (h : FlS w S A xs) : FlS w' S' A xs := by
  rcases h with h | ⟨b, off, e, hb, hc⟩
  · exact .inl h
  · exact .inr ⟨b, off, e, hS b hb, fun k hl => (hk _ hb).trans (hc k hl)⟩
mutual
theorem TreeS.keep {w w' : World} {S S' : Nat → Prop} (hk : KeepS S w w') (hS : ∀ b, S b → S' b) : ∀ {j : J} {cs : List Value}, TreeS w S j cs → TreeS w' S' j cs
  | .mk k n s its ks, cs, h => by
    unfold TreeS at h ⊢
    obtain ⟨A3, c3, A4, c4, e, h1, h2, h3, h4⟩ := h
    exact ⟨A3, c3, A4, c4, e, h1, h2, RowS.keep hk hS h3, h4.keep hk hS⟩
theorem RowS.keep {w w' : World} {S S' : Nat → Prop} (hk : KeepS S w w') (hS : ∀ b, S b → S' b) : ∀ {l : List J} {A : Option Addr}, RowS w S l A → RowS w' S' l A
  | [], A, _ => by unfold RowS; trivial
  | j :: r, A, h => by
    unfold RowS at h ⊢
    obtain ⟨b, off, cs, e, hb, hc, h1, h2⟩ := h
    exact ⟨b, off, cs, e, hS b hb, fun i hi => (hk _ hb).trans (hc i hi), TreeS.keep hk hS h1, RowS.keep hk hS h2⟩
end
section
variable {w w' : World} {B B' : Nat} {j : J} {cs : List Value} {l : List J} {A : Option Addr}
theorem TreeS.below (h : TreeC w B j cs) (hb : Below B w w') : TreeC w' B j cs := TreeS.keep (Below.keeps hb) (fun _ h => h) h
theorem TreeS.more (h : TreeC w B j cs) (hB : B ≤ B') : TreeC w B' j cs := TreeS.keep (fun _ _ => rfl) (fun _ h => Nat.lt_of_lt_of_le h hB) h
theorem TreeS.drewN {S : Nat → Prop} (h : TreeS w S j cs) (m : Nat) : TreeS (w.drewN m) S j cs := TreeS.keep (w := w) (w' := w.drewN m) (fun _ _ => rfl) (fun _ h => h) h
theorem TreeS.alloc (h : TreeC w B j cs) (hB : B ≤ w.heap.size) (o : Obj) : TreeC (w.alloc o) B j cs := TreeS.keep (fun p hp => World.cell?_alloc_lt w o p (Nat.lt_of_lt_of_le hp hB)) (fun _ h => h) h
theorem RowS.below (h : RowT w B l A) (hb : Below B w w') : RowT w' B l A := RowS.keep (Below.keeps hb) (fun _ h => h) h
theorem RowS.more (h : RowT w B l A) (hB : B ≤ B') : RowT w B' l A := RowS.keep (fun _ _ => rfl) (fun _ h => Nat.lt_of_lt_of_le h hB) h
end
/-- A tree's cells, as the walks read them. -/
theorem TreeS.out {w : World} {S : Nat → Prop} {j : J} {cs : List Value} (h : TreeS w S j cs) : ∃ A3 c3 A4 c4, cs = [.int .i64 j.k, .int .i64 j.n, .string j.t, .slice A3 j.its.length c3, .slice A4 j.ks.length c4] ∧ (j.its.length ≤ c3 ∧ j.its.length ≤ maxLen) ∧ (j.ks.length ≤ c4 ∧ j.ks.length ≤ maxLen) ∧
    RowS w S j.its A3 ∧ FlS w S A4 (j.ks.map Value.string) := by
  cases j; unfold TreeS at h; exact h
theorem TreeS.mk_ {w : World} {S : Nat → Prop} {k n : Int} {s : ByteArray} {its : List J} {ks : List ByteArray} {A3 A4 : Option Addr} {c3 c4 : Nat} (h1 : its.length ≤ c3 ∧ its.length ≤ maxLen) (h2 : ks.length ≤ c4 ∧ ks.length ≤ maxLen) (h3 : RowS w S its A3) (h4 : FlS w S A4 (ks.map Value.string)) :
    TreeS w S (.mk k n s its ks) [.int .i64 k, .int .i64 n, .string s, .slice A3 its.length c3, .slice A4 ks.length c4] := by
  unfold TreeS; exact ⟨A3, c3, A4, c4, rfl, h1, h2, h3, h4⟩
theorem RowS.nil_ (w : World) (S : Nat → Prop) (A : Option Addr) : RowS w S [] A := by unfold RowS; trivial
theorem TreeS.leaf (w : World) (S : Nat → Prop) (k n : Int) (s : ByteArray) : TreeS w S (.mk k n s [] []) [.int .i64 k, .int .i64 n, .string s, .slice none 0 0, .slice none 0 0] :=
  TreeS.mk_ ⟨Nat.le_refl _, Nat.zero_le _⟩ ⟨Nat.le_refl _, Nat.zero_le _⟩ (RowS.nil_ _ _ _) (.inl rfl)
theorem TreeS.zero_ (w : World) (S : Nat → Prop) : TreeS w S J.zero [.int .i64 0, .int .i64 0, .string ⟨#[]⟩, .slice none 0 0, .slice none 0 0] := TreeS.leaf w S 0 0 ⟨#[]⟩
/-- The cells of the i-th one. -/
theorem RowS.at_ {w : World} {S : Nat → Prop} : ∀ {l : List J} {A : Option Addr} (_ : RowS w S l A) {i : Nat} (hi : i < l.length), ∃ b off cs, A = some ⟨b, off, none⟩ ∧ S b ∧ (∀ k, k < 5 → w.cell? ⟨b, off + i * 5 + k, none⟩ = cs[k]?) ∧ TreeS w S (l[i]'hi) cs
  | [], _, _, i, hi => absurd hi (Nat.not_lt_zero _)
  | j :: r, A, h, i, hi => by
    unfold RowS at h
    obtain ⟨b, off, cs, rfl, hb, hc, h1, h2⟩ := h
    cases i with
    | zero => exact ⟨b, off, cs, rfl, hb, fun k hk => by rw [Nat.zero_mul, Nat.add_zero]; exact hc k hk, h1⟩
    | succ i =>
      obtain ⟨b', off', cs', e, hb', hc', h'⟩ := RowS.at_ h2 (i := i) (by simpa using hi)
      simp only [Option.some.injEq, Addr.mk.injEq, and_true] at e
      obtain ⟨rfl, rfl⟩ := e
      exact ⟨b, off, cs', rfl, hb, fun k hk => by rw [show off + (i + 1) * 5 + k = off + 5 + i * 5 + k by omega]; exact hc' k hk, h'⟩
/-- The same, cell by cell. -/
theorem RowS.cells {w : World} {S : Nat → Prop} {l : List J} {A : Option Addr} (h : RowS w S l A) {i : Nat} (hi : i < l.length) : ∃ b off A3 c3 A4 c4, A = some ⟨b, off, none⟩ ∧ S b ∧
    w.cell? ⟨b, off + i * 5, none⟩ = some (.int .i64 (l[i]'hi).k) ∧ w.cell? ⟨b, off + i * 5 + 1, none⟩ = some (.int .i64 (l[i]'hi).n) ∧ w.cell? ⟨b, off + i * 5 + 2, none⟩ = some (.string (l[i]'hi).t) ∧
    w.cell? ⟨b, off + i * 5 + 3, none⟩ = some (.slice A3 (l[i]'hi).its.length c3) ∧ w.cell? ⟨b, off + i * 5 + 4, none⟩ = some (.slice A4 (l[i]'hi).ks.length c4) ∧
    TreeS w S (l[i]'hi) [.int .i64 (l[i]'hi).k, .int .i64 (l[i]'hi).n, .string (l[i]'hi).t, .slice A3 (l[i]'hi).its.length c3, .slice A4 (l[i]'hi).ks.length c4] := by
  obtain ⟨b, off, cs, e, hb, hc, ht⟩ := h.at_ hi
  obtain ⟨A3, c3, A4, c4, e2, _⟩ := ht.out
  subst e2
  exact ⟨b, off, A3, c3, A4, c4, e, hb, hc 0 (by omega), hc 1 (by omega), hc 2 (by omega), hc 3 (by omega), hc 4 (by omega), ht⟩
/-- One more behind. -/
theorem RowS.snoc {w : World} {S : Nat → Prop} {j : J} {cs : List Value} {b off : Nat} (hb : S b) (ht : TreeS w S j cs) : ∀ {l : List J} {o : Nat}, RowS w S l (some ⟨b, o, none⟩) → off = o + l.length * 5 → (∀ i, i < 5 → w.cell? ⟨b, off + i, none⟩ = cs[i]?) → RowS w S (l ++ [j]) (some ⟨b, o, none⟩)
  | [], o, _, e, hc => by
    obtain rfl : off = o := by simpa using e
    show RowS w S [j] _
    unfold RowS
    exact ⟨b, off, cs, rfl, hb, hc, ht, RowS.nil_ _ _ _⟩
  | x :: r, o, h, e, hc => by
    unfold RowS at h
    obtain ⟨b', o', cs', e', hb', hc', h1, h2⟩ := h
    simp only [Option.some.injEq, Addr.mk.injEq, and_true] at e'
    obtain ⟨rfl, rfl⟩ := e'
    show RowS w S (x :: (r ++ [j])) _
    unfold RowS
    exact ⟨b, o, cs', rfl, hb, hc', h1, RowS.snoc hb ht h2 (by simp at e; omega) hc⟩
theorem fl_str {w : World} {S : Nat → Prop} {A : Option Addr} {ks : List ByteArray} (h : FlS w S A (ks.map Value.string)) {i : Nat} (hi : i < ks.length) : ∃ b off, A = some ⟨b, off, none⟩ ∧ S b ∧ w.cell? ⟨b, off + i, none⟩ = some (.string (ks[i]'hi)) := by
  rcases h with h | ⟨b, off, e, hb, hc⟩
  · simp only [List.map_eq_nil_iff] at h; subst h; exact absurd hi (Nat.not_lt_zero _)
  · exact ⟨b, off, e, hb, by rw [hc i (by simpa using hi)]; simp⟩

/-- Trees, each with its five cells. -/
def TreesS (w : World) (S : Nat → Prop) : List J → List (List Value) → Prop
  | [], [] => True
  | j :: r, cs :: q => TreeS w S j cs ∧ TreesS w S r q
  | _, _ => False
theorem TreesS.len {w : World} {S : Nat → Prop} : ∀ {l : List J} {q : List (List Value)}, TreesS w S l q → q.length = l.length
  | [], [], _ => rfl
  | _ :: _, _ :: _, h => by simp [TreesS.len h.2]
  | [], _ :: _, h => h.elim
  | _ :: _, [], h => h.elim
theorem TreesS.keep {w w' : World} {S S' : Nat → Prop} (hk : KeepS S w w') (hS : ∀ b, S b → S' b) : ∀ {l : List J} {q : List (List Value)}, TreesS w S l q → TreesS w' S' l q
  | [], [], _ => trivial
  | _ :: _, _ :: _, h => ⟨h.1.keep hk hS, TreesS.keep hk hS h.2⟩
  | [], _ :: _, h => h.elim
  | _ :: _, [], h => h.elim
theorem TreesS.snoc {w : World} {S : Nat → Prop} {j : J} {cs : List Value} (ht : TreeS w S j cs) : ∀ {l : List J} {q : List (List Value)}, TreesS w S l q → TreesS w S (l ++ [j]) (q ++ [cs])
  | [], [], _ => ⟨ht, trivial⟩
  | _ :: _, _ :: _, h => ⟨h.1, TreesS.snoc ht h.2⟩
  | [], _ :: _, h => h.elim
  | _ :: _, [], h => h.elim
theorem TreeS.five {w : World} {S : Nat → Prop} {j : J} {cs : List Value} (h : TreeS w S j cs) : cs.length = 5 := by obtain ⟨_, _, _, _, e, _⟩ := h.out; rw [e]; rfl
/-- Cells that stand one behind the other are a row of trees. -/
theorem TreesS.row {w : World} {S : Nat → Prop} {b : Nat} (hb : S b) : ∀ {l : List J} {q : List (List Value)} {off : Nat}, TreesS w S l q → (∀ k, k < q.flatten.length → w.cell? ⟨b, off + k, none⟩ = q.flatten[k]?) → RowS w S l (some ⟨b, off, none⟩)
  | [], [], _, _, _ => RowS.nil_ _ _ _
  | j :: r, cs :: q, off, h, hc => by
    have five := h.1.five
    unfold RowS
    refine ⟨b, off, cs, rfl, hb, fun i hi => ?_, h.1, TreesS.row hb h.2 fun k hk => ?_⟩
    · rw [hc i (by rw [List.flatten_cons, List.length_append, five]; omega), List.flatten_cons, List.getElem?_append_left (by omega)]
    · have := hc (5 + k) (by rw [List.flatten_cons, List.length_append, five]; omega)
      rw [List.flatten_cons, List.getElem?_append_right (by omega), five, show 5 + k - 5 = k by omega] at this
      rw [← this, show off + (5 + k) = off + 5 + k by omega]
  | [], _ :: _, _, h, _ => h.elim
  | _ :: _, [], _, h, _ => h.elim
theorem TreesS.flat {w : World} {S : Nat → Prop} : ∀ {l : List J} {q : List (List Value)}, TreesS w S l q → q.flatten.length = l.length * 5
  | [], [], _ => rfl
  | _ :: _, _ :: _, h => by rw [List.flatten_cons, List.length_append, h.1.five, TreesS.flat h.2, List.length_cons]; omega
  | [], _ :: _, h => h.elim
  | _ :: _, [], h => h.elim
end Go.Proofs.YtnfhikgfcdcpoaaDoor
/- A call that turns two blocks at most, and lays new ones (program-free). -/
namespace Go.Proofs.YtnfhikgfcdcpoaaDoor.Mem
open Go.RowKit

/-- Of the blocks below B just g and h may turn. -/
structure Sav (g h B : Nat) (w w' : World) : Prop where
  os : w'.os = w.os
  tape : w'.tape = w.tape
  output : w'.output = w.output
  size : w.heap.size ≤ w'.heap.size
  block : ∀ k, k < B → k ≠ g → k ≠ h → w'.heap[k]? = w.heap[k]?
section
variable {g h B B' : Nat} {a b c w w' : World}
theorem Sav.refl (g h B : Nat) (w : World) : Sav g h B w w := ⟨rfl, rfl, rfl, Nat.le_refl _, fun _ _ _ _ => rfl⟩
theorem Sav.trans (s : Sav g h B a b) (k : Sav g h B b c) : Sav g h B a c :=
  ⟨k.os.trans s.os, k.tape.trans s.tape, k.output.trans s.output, Nat.le_trans s.size k.size, fun i h1 h2 h3 => (k.block i h1 h2 h3).trans (s.block i h1 h2 h3)⟩
theorem Sav.mono (s : Sav g h B a b) (hB : B' ≤ B) : Sav g h B' a b := ⟨s.os, s.tape, s.output, s.size, fun i h1 => s.block i (Nat.lt_of_lt_of_le h1 hB)⟩
theorem Sav.more {e : Nat} (s : Sav g g B a b) : Sav g e B a b := ⟨s.os, s.tape, s.output, s.size, fun i h1 h2 _ => s.block i h1 h2 h2⟩
theorem Sav.of (s : Below B a b) : Sav g h B a b := ⟨s.os, s.tape, s.output, s.size, fun i h1 _ _ => s.block i h1⟩
/-- The second block lies above. -/
theorem Sav.less (s : Sav g h B a b) (hB : B' ≤ B) (hh : B' ≤ h) : Sav g g B' a b := ⟨s.os, s.tape, s.output, s.size, fun i h1 h2 _ => s.block i (by omega) h2 (by omega)⟩
theorem Sav.bel (s : Sav g h B a b) (hg : B' ≤ g) (hh : B' ≤ h) (hB : B' ≤ B) : Below B' a b := ⟨s.os, s.tape, s.output, s.size, fun i h1 => s.block i (by omega) (by omega) (by omega)⟩
theorem Sav.call (k : Below B' b c) (hB : B ≤ B') (s : Sav g h B a b) : Sav g h B a c := s.trans (Sav.of (k.mono hB))
theorem Sav.next (k : Sav g h B' b c) (hB : B ≤ B') (s : Sav g h B a b) : Sav g h B a c := s.trans (k.mono hB)
theorem Sav.next1 (k : Sav g g B' b c) (hB : B ≤ B') (s : Sav g h B a b) : Sav g h B a c := s.trans (k.mono hB).more
theorem Sav.drewN (s : Sav g h B a b) (n : Nat) : Sav g h B a (b.drewN n) := ⟨s.os, s.tape, s.output, s.size, s.block⟩
theorem Sav.drew (s : Sav g h B a b) : Sav g h B a b.drew := ⟨s.os, s.tape, s.output, s.size, s.block⟩
theorem Sav.alloc (s : Sav g h B a b) (hB : B ≤ b.heap.size) (o : Obj) : Sav g h B a (b.alloc o) := s.trans (Sav.of ((Below.refl _ _).alloc hB o))
theorem Sav.set (s : Sav g h B a b) {p : Addr} (hp : p.block = g ∨ p.block = h ∨ B ≤ p.block) (u : Value) : Sav g h B a (b.setCell p u) :=
  ⟨s.os, s.tape, s.output, by simp [World.setCell]; exact s.size, fun i h1 h2 h3 => (Below.heap_setCell _ _ _ _ (by intro e; subst e; omega)).trans (s.block i h1 h2 h3)⟩
theorem Sav.heap (s : Sav g h B a b) {k : Nat} (h1 : k < B) (h2 : k ≠ g) (h3 : k ≠ h) : b.heap[k]? = a.heap[k]? := s.block k h1 h2 h3
theorem Sav.cell (s : Sav g h B a b) {p : Addr} (h1 : p.block < B) (h2 : p.block ≠ g) (h3 : p.block ≠ h) : b.cell? p = a.cell? p := World.cell?_of_block (w := a) (s.block _ h1 h2 h3)
theorem Sav.frozen (s : Sav g h B a b) {p : Addr} (h1 : p.block < B) (h2 : p.block ≠ g) (h3 : p.block ≠ h) : b.frozen? p = a.frozen? p := World.frozen?_of_block (w := a) (s.block _ h1 h2 h3)
theorem Blk.sav {t : TypeId} {cs : Array Value} {k : Nat} (x : Blk a k t cs) (s : Sav g h B a b) (h1 : k < B) (h2 : k ≠ g) (h3 : k ≠ h) : Blk b k t cs := (s.block k h1 h2 h3).trans x
theorem Sav.keeps (s : Sav g h B a b) {S : Nat → Prop} (hS : ∀ k, S k → k < B ∧ k ≠ g ∧ k ≠ h) : KeepS S a b := fun _ hp => s.cell (hS _ hp).1 (hS _ hp).2.1 (hS _ hp).2.2
end
end Go.Proofs.YtnfhikgfcdcpoaaDoor.Mem
