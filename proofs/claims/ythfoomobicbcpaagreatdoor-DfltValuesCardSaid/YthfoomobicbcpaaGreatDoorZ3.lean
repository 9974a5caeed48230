/- Joined by tools/bundle.py: JT Sch JTIn SchIn. -/
import Derived.Deep.Slices
import Derived.KernelRfl
import Derived.Test.YthfoomobicbcpaaGreatDoorZ1
import Derived.Test.YthfoomobicbcpaaGreatDoorZ2
import Derived.Test.YthfoomobicbcpaaGreatDoorZ0
set_option maxRecDepth 100000
set_option maxHeartbeats 16000000
namespace Go.Proofs.YthfoomobicbcpaaGreatDoor
open Go.RowKit Mem
inductive J where
 | mk (k : Int) (n : Int) (t : ByteArray) (its : List J) (ks : List ByteArray)
namespace J
def k : J → Int | mk k _ _ _ _ => k
def n : J → Int | mk _ n _ _ _ => n
def t : J → ByteArray | mk _ _ t _ _ => t
def its : J → List J | mk _ _ _ i _ => i
def ks : J → List ByteArray | mk _ _ _ _ s => s
def zero : J := mk 0 0 ⟨#[]⟩ [] []
noncomputable def same (a b : J) : Bool := @decide (a = b) (Classical.propDecidable _)
theorem same_refl (a : J) : same a a = true := by unfold same; simp
theorem same_yes {a b : J} (h : a = b) : same a b = true := by subst h; exact same_refl a
theorem same_no {a b : J} (h : a ≠ b) : same a b = false := by unfold same; simpa using h
theorem same_iff {a b : J} : same a b = true ↔ a = b := by unfold same; simp
theorem lt_its {j : J} {i : Nat} (h : i < j.its.length) : SizeOf.sizeOf (j.its[i]'h) < SizeOf.sizeOf j := by
 cases j with
 | mk k n t its ks =>
  have := List.sizeOf_lt_of_mem (List.getElem_mem h)
  simp only [J.mk.sizeOf_spec]
  simp only [J.its] at this ⊢
  omega
end J
def FlS (w : World) (S : Nat → Prop) (A : Option Addr) (xs : List Value) : Prop := xs = [] ∨ ∃ b off, A = some ⟨b, off, none⟩ ∧ S b ∧ ∀ k, k < xs.length → w.cell? ⟨b, off + k, none⟩ = xs[k]?
theorem FlS.fl {w : World} {B : Nat} {A : Option Addr} {xs : List Value} (h : FlS w (· < B) A xs) : Fl w B A xs := h
mutual
/-- Five cells that are a tree, whose parts lie in blocks that S has. -/
def TreeS (w : World) (S : Nat → Prop) : J → List Value → Prop
 | .mk k n s its ks, cs => ∃ A3 c3 A4 c4, cs = [.int .i64 k, .int .i64 n, .string s, .slice A3 its.length c3, .slice A4 ks.length c4] ∧ (its.length ≤ c3 ∧ its.length ≤ maxLen) ∧ (ks.length ≤ c4 ∧ ks.length ≤ maxLen) ∧
  RowS w S its A3 ∧ FlS w S A4 (ks.map Value.string)
/-- A place from which trees stand, one behind the other. -/
def RowS (w : World) (S : Nat → Prop) : List J → Option Addr → Prop
 | [], _ => True
 | j :: r, A => ∃ b off cs, A = some ⟨b, off, none⟩ ∧ S b ∧ (∀ i, i < 5 → w.cell? ⟨b, off + i, none⟩ = cs[i]?) ∧ TreeS w S j cs ∧ RowS w S r (some ⟨b, off + 5, none⟩)
end
abbrev TreeC (w : World) (B : Nat) (j : J) (cs : List Value) : Prop := TreeS w (· < B) j cs
abbrev RowT (w : World) (B : Nat) (l : List J) (A : Option Addr) : Prop := RowS w (· < B) l A
def KeepS (S : Nat → Prop) (w w' : World) : Prop := ∀ p : Addr, S p.block → w'.cell? p = w.cell? p
theorem Below.keeps {B : Nat} {w w' : World} (h : Below B w w') : KeepS (· < B) w w' := fun _ hp => h.cell hp
theorem FlS.keep {w w' : World} {S S' : Nat → Prop} (hk : KeepS S w w') (hS : ∀ b, S b → S' b) {A : Option Addr} {xs : List Value} (h : FlS w S A xs) : FlS w' S' A xs := by
 rcases h with h | ⟨b, off, e, hb, hc⟩
 · exact .inl h
 · exact .inr ⟨b, off, e, hS b hb, fun k hl => (hk _ hb).trans (hc k hl)⟩
mutual
theorem TreeS.keep {w w' : World} {S S' : Nat → Prop} (hk : KeepS S w w') (hS : ∀ b, S b → S' b) : ∀ {j : J} {cs : List Value}, TreeS w S j cs → TreeS w' S' j cs
 | .mk k n s its ks, cs, h => by
  unfold TreeS at h ⊢
  obtain ⟨A3, c3, A4, c4, e, h1, h2, h3, h4⟩ := h
  exact ⟨A3, c3, A4, c4, e, h1, h2, RowS.keep hk hS h3, h4.keep hk hS⟩
theorem RowS.keep {w w' : World} {S S' : Nat → Prop} (hk : KeepS S w w') (hS : ∀ b, S b → S' b) : ∀ {l : List J} {A : Option Addr}, RowS w S l A → RowS w' S' l A
 | [], A, _ => by unfold RowS; trivial
 | j :: r, A, h => by
  unfold RowS at h ⊢
  obtain ⟨b, off, cs, e, hb, hc, h1, h2⟩ := h
  exact ⟨b, off, cs, e, hS b hb, fun i hi => (hk _ hb).trans (hc i hi), TreeS.keep hk hS h1, RowS.keep hk hS h2⟩
end
section
variable {w w' : World} {B B' : Nat} {j : J} {cs : List Value} {l : List J} {A : Option Addr}
theorem TreeS.below (h : TreeC w B j cs) (hb : Below B w w') : TreeC w' B j cs := TreeS.keep (Below.keeps hb) (fun _ h => h) h
theorem TreeS.more (h : TreeC w B j cs) (hB : B ≤ B') : TreeC w B' j cs := TreeS.keep (fun _ _ => rfl) (fun _ h => Nat.lt_of_lt_of_le h hB) h
theorem TreeS.drewN {S : Nat → Prop} (h : TreeS w S j cs) (m : Nat) : TreeS (w.drewN m) S j cs := TreeS.keep (w := w) (w' := w.drewN m) (fun _ _ => rfl) (fun _ h => h) h
theorem TreeS.alloc (h : TreeC w B j cs) (hB : B ≤ w.heap.size) (o : Obj) : TreeC (w.alloc o) B j cs := TreeS.keep (fun p hp => World.cell?_alloc_lt w o p (Nat.lt_of_lt_of_le hp hB)) (fun _ h => h) h
theorem RowS.below (h : RowT w B l A) (hb : Below B w w') : RowT w' B l A := RowS.keep (Below.keeps hb) (fun _ h => h) h
theorem RowS.more (h : RowT w B l A) (hB : B ≤ B') : RowT w B' l A := RowS.keep (fun _ _ => rfl) (fun _ h => Nat.lt_of_lt_of_le h hB) h
end
theorem TreeS.out {w : World} {S : Nat → Prop} {j : J} {cs : List Value} (h : TreeS w S j cs) : ∃ A3 c3 A4 c4, cs = [.int .i64 j.k, .int .i64 j.n, .string j.t, .slice A3 j.its.length c3, .slice A4 j.ks.length c4] ∧ (j.its.length ≤ c3 ∧ j.its.length ≤ maxLen) ∧ (j.ks.length ≤ c4 ∧ j.ks.length ≤ maxLen) ∧
 RowS w S j.its A3 ∧ FlS w S A4 (j.ks.map Value.string) := by
 cases j; unfold TreeS at h; exact h
theorem TreeS.mk_ {w : World} {S : Nat → Prop} {k n : Int} {s : ByteArray} {its : List J} {ks : List ByteArray} {A3 A4 : Option Addr} {c3 c4 : Nat} (h1 : its.length ≤ c3 ∧ its.length ≤ maxLen) (h2 : ks.length ≤ c4 ∧ ks.length ≤ maxLen) (h3 : RowS w S its A3) (h4 : FlS w S A4 (ks.map Value.string)) :
 TreeS w S (.mk k n s its ks) [.int .i64 k, .int .i64 n, .string s, .slice A3 its.length c3, .slice A4 ks.length c4] := by
 unfold TreeS; exact ⟨A3, c3, A4, c4, rfl, h1, h2, h3, h4⟩
theorem RowS.nil_ (w : World) (S : Nat → Prop) (A : Option Addr) : RowS w S [] A := by unfold RowS; trivial
theorem TreeS.leaf (w : World) (S : Nat → Prop) (k n : Int) (s : ByteArray) : TreeS w S (.mk k n s [] []) [.int .i64 k, .int .i64 n, .string s, .slice none 0 0, .slice none 0 0] :=
 TreeS.mk_ ⟨Nat.le_refl _, Nat.zero_le _⟩ ⟨Nat.le_refl _, Nat.zero_le _⟩ (RowS.nil_ _ _ _) (.inl rfl)
theorem TreeS.zero_ (w : World) (S : Nat → Prop) : TreeS w S J.zero [.int .i64 0, .int .i64 0, .string ⟨#[]⟩, .slice none 0 0, .slice none 0 0] := TreeS.leaf w S 0 0 ⟨#[]⟩
theorem RowS.at_ {w : World} {S : Nat → Prop} : ∀ {l : List J} {A : Option Addr} (_ : RowS w S l A) {i : Nat} (hi : i < l.length), ∃ b off cs, A = some ⟨b, off, none⟩ ∧ S b ∧ (∀ k, k < 5 → w.cell? ⟨b, off + i * 5 + k, none⟩ = cs[k]?) ∧ TreeS w S (l[i]'hi) cs
 | [], _, _, i, hi => absurd hi (Nat.not_lt_zero _)
 | j :: r, A, h, i, hi => by
  unfold RowS at h
  obtain ⟨b, off, cs, rfl, hb, hc, h1, h2⟩ := h
  cases i with
  | zero => exact ⟨b, off, cs, rfl, hb, fun k hk => by rw [Nat.zero_mul, Nat.add_zero]; exact hc k hk, h1⟩
  | succ i =>
   obtain ⟨b', off', cs', e, hb', hc', h'⟩ := RowS.at_ h2 (i := i) (by simpa using hi)
   simp only [Option.some.injEq, Addr.mk.injEq, and_true] at e
   obtain ⟨rfl, rfl⟩ := e
   exact ⟨b, off, cs', rfl, hb, fun k hk => by rw [show off + (i + 1) * 5 + k = off + 5 + i * 5 + k by omega]; exact hc' k hk, h'⟩
theorem RowS.cells {w : World} {S : Nat → Prop} {l : List J} {A : Option Addr} (h : RowS w S l A) {i : Nat} (hi : i < l.length) : ∃ b off A3 c3 A4 c4, A = some ⟨b, off, none⟩ ∧ S b ∧
 w.cell? ⟨b, off + i * 5, none⟩ = some (.int .i64 (l[i]'hi).k) ∧ w.cell? ⟨b, off + i * 5 + 1, none⟩ = some (.int .i64 (l[i]'hi).n) ∧ w.cell? ⟨b, off + i * 5 + 2, none⟩ = some (.string (l[i]'hi).t) ∧
 w.cell? ⟨b, off + i * 5 + 3, none⟩ = some (.slice A3 (l[i]'hi).its.length c3) ∧ w.cell? ⟨b, off + i * 5 + 4, none⟩ = some (.slice A4 (l[i]'hi).ks.length c4) ∧
 TreeS w S (l[i]'hi) [.int .i64 (l[i]'hi).k, .int .i64 (l[i]'hi).n, .string (l[i]'hi).t, .slice A3 (l[i]'hi).its.length c3, .slice A4 (l[i]'hi).ks.length c4] := by
 obtain ⟨b, off, cs, e, hb, hc, ht⟩ := h.at_ hi
 obtain ⟨A3, c3, A4, c4, e2, _⟩ := ht.out
 subst e2
 exact ⟨b, off, A3, c3, A4, c4, e, hb, hc 0 (by omega), hc 1 (by omega), hc 2 (by omega), hc 3 (by omega), hc 4 (by omega), ht⟩
theorem RowS.snoc {w : World} {S : Nat → Prop} {j : J} {cs : List Value} {b off : Nat} (hb : S b) (ht : TreeS w S j cs) : ∀ {l : List J} {o : Nat}, RowS w S l (some ⟨b, o, none⟩) → off = o + l.length * 5 → (∀ i, i < 5 → w.cell? ⟨b, off + i, none⟩ = cs[i]?) → RowS w S (l ++ [j]) (some ⟨b, o, none⟩)
 | [], o, _, e, hc => by
  obtain rfl : off = o := by simpa using e
  show RowS w S [j] _
  unfold RowS
  exact ⟨b, off, cs, rfl, hb, hc, ht, RowS.nil_ _ _ _⟩
 | x :: r, o, h, e, hc => by
  unfold RowS at h
  obtain ⟨b', o', cs', e', hb', hc', h1, h2⟩ := h
  simp only [Option.some.injEq, Addr.mk.injEq, and_true] at e'
  obtain ⟨rfl, rfl⟩ := e'
  show RowS w S (x :: (r ++ [j])) _
  unfold RowS
  exact ⟨b, o, cs', rfl, hb, hc', h1, RowS.snoc hb ht h2 (by simp at e; omega) hc⟩
theorem fl_str {w : World} {S : Nat → Prop} {A : Option Addr} {ks : List ByteArray} (h : FlS w S A (ks.map Value.string)) {i : Nat} (hi : i < ks.length) : ∃ b off, A = some ⟨b, off, none⟩ ∧ S b ∧ w.cell? ⟨b, off + i, none⟩ = some (.string (ks[i]'hi)) := by
 rcases h with h | ⟨b, off, e, hb, hc⟩
 · simp only [List.map_eq_nil_iff] at h; subst h; exact absurd hi (Nat.not_lt_zero _)
 · exact ⟨b, off, e, hb, by rw [hc i (by simpa using hi)]; simp⟩
def TreesS (w : World) (S : Nat → Prop) : List J → List (List Value) → Prop
 | [], [] => True
 | j :: r, cs :: q => TreeS w S j cs ∧ TreesS w S r q
 | _, _ => False
theorem TreeS.five {w : World} {S : Nat → Prop} {j : J} {cs : List Value} (h : TreeS w S j cs) : cs.length = 5 := by obtain ⟨_, _, _, _, e, _⟩ := h.out; rw [e]; rfl
end Go.Proofs.YthfoomobicbcpaaGreatDoor
namespace Go.Proofs.YthfoomobicbcpaaGreatDoor.Mem
open Go.RowKit
structure Sav (g h B : Nat) (w w' : World) : Prop where
 os : w'.os = w.os
 tape : w'.tape = w.tape
 output : w'.output = w.output
 size : w.heap.size ≤ w'.heap.size
 block : ∀ k, k < B → k ≠ g → k ≠ h → w'.heap[k]? = w.heap[k]?
section
variable {g h B B' : Nat} {a b c w w' : World}
theorem Sav.refl (g h B : Nat) (w : World) : Sav g h B w w := ⟨rfl, rfl, rfl, Nat.le_refl _, fun _ _ _ _ => rfl⟩
theorem Sav.trans (s : Sav g h B a b) (k : Sav g h B b c) : Sav g h B a c :=
 ⟨k.os.trans s.os, k.tape.trans s.tape, k.output.trans s.output, Nat.le_trans s.size k.size, fun i h1 h2 h3 => (k.block i h1 h2 h3).trans (s.block i h1 h2 h3)⟩
theorem Sav.mono (s : Sav g h B a b) (hB : B' ≤ B) : Sav g h B' a b := ⟨s.os, s.tape, s.output, s.size, fun i h1 => s.block i (Nat.lt_of_lt_of_le h1 hB)⟩
theorem Sav.of (s : Below B a b) : Sav g h B a b := ⟨s.os, s.tape, s.output, s.size, fun i h1 _ _ => s.block i h1⟩
theorem Sav.bel (s : Sav g h B a b) (hg : B' ≤ g) (hh : B' ≤ h) (hB : B' ≤ B) : Below B' a b := ⟨s.os, s.tape, s.output, s.size, fun i h1 => s.block i (by omega) (by omega) (by omega)⟩
theorem Sav.drewN (s : Sav g h B a b) (n : Nat) : Sav g h B a (b.drewN n) := ⟨s.os, s.tape, s.output, s.size, s.block⟩
theorem Sav.drew (s : Sav g h B a b) : Sav g h B a b.drew := ⟨s.os, s.tape, s.output, s.size, s.block⟩
theorem Sav.alloc (s : Sav g h B a b) (hB : B ≤ b.heap.size) (o : Obj) : Sav g h B a (b.alloc o) := s.trans (Sav.of ((Below.refl _ _).alloc hB o))
theorem Sav.set (s : Sav g h B a b) {p : Addr} (hp : p.block = g ∨ p.block = h ∨ B ≤ p.block) (u : Value) : Sav g h B a (b.setCell p u) :=
 ⟨s.os, s.tape, s.output, by simp [World.setCell]; exact s.size, fun i h1 h2 h3 => (Below.heap_setCell _ _ _ _ (by intro e; subst e; omega)).trans (s.block i h1 h2 h3)⟩
theorem Sav.heap (s : Sav g h B a b) {k : Nat} (h1 : k < B) (h2 : k ≠ g) (h3 : k ≠ h) : b.heap[k]? = a.heap[k]? := s.block k h1 h2 h3
theorem Sav.cell (s : Sav g h B a b) {p : Addr} (h1 : p.block < B) (h2 : p.block ≠ g) (h3 : p.block ≠ h) : b.cell? p = a.cell? p := World.cell?_of_block (w := a) (s.block _ h1 h2 h3)
theorem Blk.sav {t : TypeId} {cs : Array Value} {k : Nat} (x : Blk a k t cs) (s : Sav g h B a b) (h1 : k < B) (h2 : k ≠ g) (h3 : k ≠ h) : Blk b k t cs := (s.block k h1 h2 h3).trans x
theorem Sav.keeps (s : Sav g h B a b) {S : Nat → Prop} (hS : ∀ k, S k → k < B ∧ k ≠ g ∧ k ≠ h) : KeepS S a b := fun _ hp => s.cell (hS _ hp).1 (hS _ hp).2.1 (hS _ hp).2.2
end
end Go.Proofs.YthfoomobicbcpaaGreatDoor.Mem
namespace Go.Proofs.YthfoomobicbcpaaGreatDoor
open Go.RowKit Mem
mutual
/-- A tree as a datum. -/
def J.enc : J → D
 | .mk k n t its ks => .ag [.i .i64 k, .i .i64 n, .s t, .sl 5 (J.encs its), .sl 1 (ks.map D.s)]
def J.encs : List J → List D
 | [] => []
 | j :: r => J.enc j :: J.encs r
end
theorem J.encs_map : ∀ (l : List J), J.encs l = l.map J.enc
 | [] => by unfold J.encs; rfl
 | j :: r => by unfold J.encs; rw [J.encs_map r]; rfl
theorem J.encs_len (l : List J) : (J.encs l).length = l.length := by rw [J.encs_map, List.length_map]
theorem row_strs {w : World} {S : Nat → Prop} : ∀ {l : List ByteArray} {A : Option Addr}, RowD w S 1 (l.map D.s) A ↔ FlS w S A (l.map Value.string)
 | [], A => ⟨fun _ => .inl rfl, fun _ => RowD.nil_ _ _ _ _⟩
 | t :: r, A => by
  constructor
  · intro h
    have one := fun i (hi : i < (t :: r).length) => h.at_ (i := i) (by simpa using hi)
    obtain ⟨g, off, cs, rfl, hg, _⟩ := one 0 (by simp)
    refine .inr ⟨g, off, rfl, hg, fun k hk => ?_⟩
    have hk' : k < (t :: r).length := by simpa using hk
    obtain ⟨g', off', cs', e, _, hl, hc, hd⟩ := one k hk'
    simp only [Option.some.injEq, Addr.mk.injEq, and_true] at e
    obtain ⟨rfl, rfl⟩ := e
    have := hc 0 (by omega)
    rw [List.getElem_map] at hd
    rw [lies_s.1 hd] at this
    rw [Nat.mul_one, Nat.add_zero] at this
    rw [this, List.getElem?_map, List.getElem?_eq_getElem hk']
    rfl
  · intro h
    rcases h with h | ⟨g, off, rfl, hg, hc⟩
    · simp at h
    · have := RowD.of (w := w) (S := S) (n := 1) (g := g) (off := off) hg (t :: r).length (fun i => D.s ((t :: r).getD i ⟨#[]⟩)) (fun i => [.string ((t :: r).getD i ⟨#[]⟩)]) (fun i hi => by
       refine ⟨rfl, fun j hj => ?_, lies_s.2 rfl⟩
       obtain rfl : j = 0 := by omega
       rw [Nat.mul_one, Nat.add_zero, hc i (by simpa using hi), List.getElem?_map, List.getElem?_eq_getElem hi]
       simp [List.getD, List.getElem?_eq_getElem hi])
      have e : (List.range (t :: r).length).map (fun i => D.s ((t :: r).getD i ⟨#[]⟩)) = (t :: r).map D.s := by
       apply List.ext_getElem
       · simp
       · intro i h1 h2
         have hi : i < (t :: r).length := by simpa using h1
         rw [List.getElem_map, List.getElem_map, List.getElem_range, List.getD, List.getElem?_eq_getElem hi]
         rfl
      rw [e] at this
      exact this
section
variable {w : World} {S : Nat → Prop}
mutual
theorem tree_lies : ∀ {j : J} {cs : List Value}, Lies w S j.enc cs ↔ TreeS w S j cs
 | .mk k n t its ks, cs => by
  unfold J.enc TreeS
  rw [lies_ag]
  simp only [liesA_cons, liesA_nil, lies_i, lies_s, lies_sl, J.encs_len, List.length_map]
  constructor
  · rintro ⟨_, _, rfl, rfl, _, _, rfl, rfl, _, _, rfl, rfl, _, _, rfl, ⟨A3, c3, rfl, h1, h2, h3⟩, _, _, rfl, ⟨A4, c4, rfl, h4, h5, h6⟩, rfl⟩
    exact ⟨A3, c3, A4, c4, rfl, ⟨h1, h2⟩, ⟨h4, h5⟩, rows_lies.1 h3, row_strs.1 h6⟩
  · rintro ⟨A3, c3, A4, c4, rfl, ⟨h1, h2⟩, ⟨h4, h5⟩, h3, h6⟩
    exact ⟨[_], _, rfl, rfl, [_], _, rfl, rfl, [_], _, rfl, rfl, [_], _, rfl, ⟨A3, c3, rfl, h1, h2, rows_lies.2 h3⟩, [_], [], rfl, ⟨A4, c4, rfl, h4, h5, row_strs.2 h6⟩, rfl⟩
theorem rows_lies : ∀ {l : List J} {A : Option Addr}, RowD w S 5 (J.encs l) A ↔ RowS w S l A
 | [], A => by unfold J.encs RowD RowS; exact Iff.rfl
 | j :: r, A => by
  unfold J.encs RowD RowS
  constructor
  · rintro ⟨g, off, cs, rfl, hg, hl, hc, h1, h2⟩
    exact ⟨g, off, cs, rfl, hg, hc, tree_lies.1 h1, rows_lies.1 h2⟩
  · rintro ⟨g, off, cs, rfl, hg, hc, h1, h2⟩
    exact ⟨g, off, cs, rfl, hg, h1.five, hc, tree_lies.2 h1, rows_lies.2 h2⟩
end
end
structure Fd where
 name : ByteArray
 al : List ByteArray
 ty : Int
 has : Bool
 df : J
structure Nd where
 k : Int
 name : ByteArray
 al : List ByteArray
 fs : List Fd
 sy : List ByteArray
 has : Bool
 df : ByteArray
 size : Int
 items : Int
 br : List Int
structure Sc where
 nodes : List Nd
 root : Int
def Fd.enc (f : Fd) : D := .ag [.s f.name, .sl 1 (f.al.map D.s), .i .i64 f.ty, .b f.has, f.df.enc]
def Nd.enc (n : Nd) : D := .ag [.i .i64 n.k, .s n.name, .sl 1 (n.al.map D.s), .sl 9 (n.fs.map Fd.enc), .sl 1 (n.sy.map D.s), .b n.has, .s n.df, .i .i64 n.size, .i .i64 n.items, .sl 1 (n.br.map (D.i .i64))]
def Sc.enc (s : Sc) : D := .ag [.sl 10 (s.nodes.map Nd.enc), .i .i64 s.root]
section
variable {w : World} {S : Nat → Prop}
def Len (n c : Nat) : Prop := n ≤ c ∧ n ≤ maxLen
theorem Fd.out {f : Fd} {cs : List Value} : Lies w S f.enc cs ↔ ∃ A1 c1 B3 d3 B4 d4, cs = [.string f.name, .slice A1 f.al.length c1, .int .i64 f.ty, .bool f.has, .int .i64 f.df.k, .int .i64 f.df.n, .string f.df.t, .slice B3 f.df.its.length d3, .slice B4 f.df.ks.length d4] ∧
 Len f.al.length c1 ∧ FlS w S A1 (f.al.map Value.string) ∧ TreeS w S f.df [.int .i64 f.df.k, .int .i64 f.df.n, .string f.df.t, .slice B3 f.df.its.length d3, .slice B4 f.df.ks.length d4] := by
 unfold Fd.enc
 rw [lies_ag]
 simp only [liesA_cons, liesA_nil, lies_i, lies_s, lies_b, lies_sl, List.length_map, tree_lies, row_strs]
 constructor
 · rintro ⟨_, _, rfl, rfl, _, _, rfl, ⟨A1, c1, rfl, h1, h2, h3⟩, _, _, rfl, rfl, _, _, rfl, rfl, cs, _, rfl, ht, rfl⟩
   obtain ⟨B3, d3, B4, d4, e, _⟩ := ht.out
   subst e
   exact ⟨A1, c1, B3, d3, B4, d4, rfl, ⟨h1, h2⟩, h3, ht⟩
 · rintro ⟨A1, c1, B3, d3, B4, d4, rfl, ⟨h1, h2⟩, h3, ht⟩
   exact ⟨[_], _, rfl, rfl, [_], _, rfl, ⟨A1, c1, rfl, h1, h2, h3⟩, [_], _, rfl, rfl, [_], _, rfl, rfl, _, [], rfl, ht, rfl⟩
theorem Nd.out {n : Nd} {cs : List Value} : Lies w S n.enc cs ↔ ∃ A2 c2 A3 c3 A4 c4 A9 c9, cs = [.int .i64 n.k, .string n.name, .slice A2 n.al.length c2, .slice A3 n.fs.length c3, .slice A4 n.sy.length c4, .bool n.has, .string n.df, .int .i64 n.size, .int .i64 n.items, .slice A9 n.br.length c9] ∧
 Len n.al.length c2 ∧ FlS w S A2 (n.al.map Value.string) ∧ Len n.fs.length c3 ∧ RowD w S 9 (n.fs.map Fd.enc) A3 ∧ Len n.sy.length c4 ∧ FlS w S A4 (n.sy.map Value.string) ∧ Len n.br.length c9 ∧ RowD w S 1 (n.br.map (D.i .i64)) A9 := by
 unfold Nd.enc
 rw [lies_ag]
 simp only [liesA_cons, liesA_nil, lies_i, lies_s, lies_b, lies_sl, List.length_map, row_strs]
 constructor
 · rintro ⟨_, _, rfl, rfl, _, _, rfl, rfl, _, _, rfl, ⟨A2, c2, rfl, h1, h2, h3⟩, _, _, rfl, ⟨A3, c3, rfl, h4, h5, h6⟩, _, _, rfl, ⟨A4, c4, rfl, h7, h8, h9⟩, _, _, rfl, rfl, _, _, rfl, rfl, _, _, rfl, rfl, _, _, rfl, rfl, _, _, rfl, ⟨A9, c9, rfl, ha, hb, hc⟩, rfl⟩
   exact ⟨A2, c2, A3, c3, A4, c4, A9, c9, rfl, ⟨h1, h2⟩, h3, ⟨h4, h5⟩, h6, ⟨h7, h8⟩, h9, ⟨ha, hb⟩, hc⟩
 · rintro ⟨A2, c2, A3, c3, A4, c4, A9, c9, rfl, ⟨h1, h2⟩, h3, ⟨h4, h5⟩, h6, ⟨h7, h8⟩, h9, ⟨ha, hb⟩, hc⟩
   exact ⟨[_], _, rfl, rfl, [_], _, rfl, rfl, [_], _, rfl, ⟨A2, c2, rfl, h1, h2, h3⟩, [_], _, rfl, ⟨A3, c3, rfl, h4, h5, h6⟩, [_], _, rfl, ⟨A4, c4, rfl, h7, h8, h9⟩, [_], _, rfl, rfl, [_], _, rfl, rfl, [_], _, rfl, rfl, [_], _, rfl, rfl, [_], [], rfl, ⟨A9, c9, rfl, ha, hb, hc⟩, rfl⟩
theorem Sc.out {s : Sc} {cs : List Value} : Lies w S s.enc cs ↔ ∃ A c, cs = [.slice A s.nodes.length c, .int .i64 s.root] ∧ Len s.nodes.length c ∧ RowD w S 10 (s.nodes.map Nd.enc) A := by
 unfold Sc.enc
 rw [lies_ag]
 simp only [liesA_cons, liesA_nil, lies_i, lies_sl, List.length_map]
 constructor
 · rintro ⟨_, _, rfl, ⟨A, c, rfl, h1, h2, h3⟩, _, _, rfl, rfl, rfl⟩
   exact ⟨A, c, rfl, ⟨h1, h2⟩, h3⟩
 · rintro ⟨A, c, rfl, ⟨h1, h2⟩, h3⟩
   exact ⟨[_], _, rfl, ⟨A, c, rfl, h1, h2, h3⟩, [_], [], rfl, rfl, rfl⟩
theorem nodes_at {l : List Nd} {A : Option Addr} (h : RowD w S 10 (l.map Nd.enc) A) {i : Nat} (hi : i < l.length) : ∃ g off A2 c2 A3 c3 A4 c4 A9 c9, A = some ⟨g, off, none⟩ ∧ S g ∧
 (w.cell? ⟨g, off + i * 10, none⟩ = some (.int .i64 (l[i]'hi).k) ∧ w.cell? ⟨g, off + i * 10 + 1, none⟩ = some (.string (l[i]'hi).name) ∧ w.cell? ⟨g, off + i * 10 + 2, none⟩ = some (.slice A2 (l[i]'hi).al.length c2) ∧
  w.cell? ⟨g, off + i * 10 + 3, none⟩ = some (.slice A3 (l[i]'hi).fs.length c3) ∧ w.cell? ⟨g, off + i * 10 + 4, none⟩ = some (.slice A4 (l[i]'hi).sy.length c4) ∧ w.cell? ⟨g, off + i * 10 + 5, none⟩ = some (.bool (l[i]'hi).has) ∧
  w.cell? ⟨g, off + i * 10 + 6, none⟩ = some (.string (l[i]'hi).df) ∧ w.cell? ⟨g, off + i * 10 + 7, none⟩ = some (.int .i64 (l[i]'hi).size) ∧ w.cell? ⟨g, off + i * 10 + 8, none⟩ = some (.int .i64 (l[i]'hi).items) ∧ w.cell? ⟨g, off + i * 10 + 9, none⟩ = some (.slice A9 (l[i]'hi).br.length c9)) ∧
 Lies w S (l[i]'hi).enc [.int .i64 (l[i]'hi).k, .string (l[i]'hi).name, .slice A2 (l[i]'hi).al.length c2, .slice A3 (l[i]'hi).fs.length c3, .slice A4 (l[i]'hi).sy.length c4, .bool (l[i]'hi).has, .string (l[i]'hi).df, .int .i64 (l[i]'hi).size, .int .i64 (l[i]'hi).items, .slice A9 (l[i]'hi).br.length c9] := by
 obtain ⟨g, off, cs, e, hg, hl, hc, hd⟩ := h.at_ (i := i) (by simpa using hi)
 rw [List.getElem_map] at hd
 obtain ⟨A2, c2, A3, c3, A4, c4, A9, c9, rfl, _⟩ := Nd.out.1 hd
 exact ⟨g, off, A2, c2, A3, c3, A4, c4, A9, c9, e, hg, ⟨hc 0 (by omega), hc 1 (by omega), hc 2 (by omega), hc 3 (by omega), hc 4 (by omega), hc 5 (by omega), hc 6 (by omega), hc 7 (by omega), hc 8 (by omega), hc 9 (by omega)⟩, hd⟩
theorem fields_at {l : List Fd} {A : Option Addr} (h : RowD w S 9 (l.map Fd.enc) A) {i : Nat} (hi : i < l.length) : ∃ g off A1 c1 B3 d3 B4 d4, A = some ⟨g, off, none⟩ ∧ S g ∧
 (w.cell? ⟨g, off + i * 9, none⟩ = some (.string (l[i]'hi).name) ∧ w.cell? ⟨g, off + i * 9 + 1, none⟩ = some (.slice A1 (l[i]'hi).al.length c1) ∧ w.cell? ⟨g, off + i * 9 + 2, none⟩ = some (.int .i64 (l[i]'hi).ty) ∧ w.cell? ⟨g, off + i * 9 + 3, none⟩ = some (.bool (l[i]'hi).has) ∧
  w.cell? ⟨g, off + i * 9 + 4, none⟩ = some (.int .i64 (l[i]'hi).df.k) ∧ w.cell? ⟨g, off + i * 9 + 5, none⟩ = some (.int .i64 (l[i]'hi).df.n) ∧ w.cell? ⟨g, off + i * 9 + 6, none⟩ = some (.string (l[i]'hi).df.t) ∧
  w.cell? ⟨g, off + i * 9 + 7, none⟩ = some (.slice B3 (l[i]'hi).df.its.length d3) ∧ w.cell? ⟨g, off + i * 9 + 8, none⟩ = some (.slice B4 (l[i]'hi).df.ks.length d4)) ∧
 Len (l[i]'hi).al.length c1 ∧ FlS w S A1 ((l[i]'hi).al.map Value.string) ∧ TreeS w S (l[i]'hi).df [.int .i64 (l[i]'hi).df.k, .int .i64 (l[i]'hi).df.n, .string (l[i]'hi).df.t, .slice B3 (l[i]'hi).df.its.length d3, .slice B4 (l[i]'hi).df.ks.length d4] := by
 obtain ⟨g, off, cs, e, hg, hl, hc, hd⟩ := h.at_ (i := i) (by simpa using hi)
 rw [List.getElem_map] at hd
 obtain ⟨A1, c1, B3, d3, B4, d4, rfl, h1, h2, h3⟩ := Fd.out.1 hd
 exact ⟨g, off, A1, c1, B3, d3, B4, d4, e, hg, ⟨hc 0 (by omega), hc 1 (by omega), hc 2 (by omega), hc 3 (by omega), hc 4 (by omega), hc 5 (by omega), hc 6 (by omega), hc 7 (by omega), hc 8 (by omega)⟩, h1, h2, h3⟩
theorem ints_at {l : List Int} {A : Option Addr} (h : RowD w S 1 (l.map (D.i .i64)) A) {i : Nat} (hi : i < l.length) : ∃ g off, A = some ⟨g, off, none⟩ ∧ S g ∧ w.cell? ⟨g, off + i, none⟩ = some (.int .i64 (l[i]'hi)) := by
 obtain ⟨g, off, cs, e, hg, hl, hc, hd⟩ := h.at_ (i := i) (by simpa using hi)
 rw [List.getElem_map] at hd
 rw [lies_i.1 hd] at hc
 have := hc 0 (by omega)
 rw [Nat.mul_one, Nat.add_zero] at this
 exact ⟨g, off, e, hg, this⟩
end
end Go.Proofs.YthfoomobicbcpaaGreatDoor
namespace Go.Proofs.YthfoomobicbcpaaGreatDoor
open Go.ChangeShapes Go.WideShapes Go.ChangeAt Go.RowKit Mem
mutual
/-- Numbers of 64 bits. -/
def J.rng : J → Prop
 | .mk _ n _ its _ => -9223372036854775808 ≤ n ∧ n ≤ 9223372036854775807 ∧ J.rngs its
def J.rngs : List J → Prop
 | [] => True
 | j :: r => J.rng j ∧ J.rngs r
end
theorem J.rngs_nil : J.rngs [] := by unfold J.rngs; trivial
theorem J.rngs_snoc {l : List J} {j : J} (h : J.rngs l) (hj : j.rng) : J.rngs (l ++ [j]) := by
 induction l with
 | nil => unfold J.rngs; exact ⟨hj, J.rngs_nil⟩
 | cons x r ih => unfold J.rngs at h; rw [List.cons_append]; unfold J.rngs; exact ⟨h.1, ih h.2⟩
theorem rows_of {w : World} {B b off : Nat} (hb : b < B) : ∀ (n : Nat), (∀ i, i < n → ∃ cs j, (∀ k, k < 5 → w.cell? ⟨b, off + i * 5 + k, none⟩ = cs[k]?) ∧ TreeC w B j cs ∧ j.rng) → ∃ its : List J, its.length = n ∧ RowT w B its (some ⟨b, off, none⟩) ∧ J.rngs its
 | 0, _ => ⟨[], rfl, RowS.nil_ _ _ _, J.rngs_nil⟩
 | n + 1, h => by
  obtain ⟨its, hl, hr, hg⟩ := rows_of hb n (fun i hi => h i (by omega))
  obtain ⟨cs, j, hc, ht, hj⟩ := h n (by omega)
  exact ⟨its ++ [j], by simp [hl], RowS.snoc (S := (· < B)) hb ht (off := off + n * 5) hr (by rw [hl]) hc, J.rngs_snoc hg hj⟩
theorem strs_of {w : World} {b off : Nat} : ∀ (n : Nat), (∀ i, i < n → ∃ s : ByteArray, w.cell? ⟨b, off + i, none⟩ = some (.string s)) → ∃ ks : List ByteArray, ks.length = n ∧ ∀ i, i < n → w.cell? ⟨b, off + i, none⟩ = (ks.map Value.string)[i]?
 | 0, _ => ⟨[], rfl, fun i hi => absurd hi (Nat.not_lt_zero _)⟩
 | n + 1, h => by
  obtain ⟨ks, hl, hk⟩ := strs_of n (fun i hi => h i (by omega))
  obtain ⟨s, hs⟩ := h n (by omega)
  refine ⟨ks ++ [s], by simp [hl], fun i hi => ?_⟩
  rcases Nat.lt_or_ge i n with g | g
  · rw [hk i g, List.map_append, List.getElem?_append_left (by simpa [hl] using g)]
  · obtain rfl : i = n := by omega
    rw [hs, List.map_append, List.getElem?_append_right (by simp [hl])]
    simp [hl]
variable {H : Type} {enc : TypeId × Value → H} {w : World} {sp : Nat → Bool} {held : Bool}
def fieldsOf (P : Program) (t : TypeId) : Option (Array (Nat × TypeId)) := match P.underlying t with
 | some (.struct fs) => some (fs.map fun f => (f.offset, f.type))
 | _ => none
theorem fields_of {P : Program} {t : TypeId} {L : Array (Nat × TypeId)} (h : fieldsOf P t = some L) : ∃ fs, P.underlying t = some (.struct fs) ∧ fs.size = L.size ∧ ∀ (i : Nat) (f : Field), fs[i]? = some f → L[i]? = some (f.offset, f.type) := by
 unfold fieldsOf at h
 split at h
 · rename_i fs hu
   simp only [Option.some.injEq] at h
   subst h
   exact ⟨fs, hu, by simp, fun i f hf => by rw [Array.getElem?_map, hf]; rfl⟩
 · cases h
theorem slice_elem {P : Program} {t e : TypeId} {fuel : Nat} {cs : List Value} {x : DataW H × List MemPlace} {base : Nat} (ht : P.underlying t = some (.slice e)) (h : DataW.trod enc P w base sp held fuel t cs = some x) :
 cs = [.slice none 0 0] ∨ ∃ a len cap n, fuel = n + 1 ∧ cs = [.slice (some a) len cap] ∧ len ≤ cap ∧ cap ≤ maxLen ∧ ∀ i, i < len → ∃ cs' y, w.cells? base (a.add (i * P.cellsOf e)) (P.cellsOf e) = some cs' ∧ DataW.trod enc P w base sp held n e cs' = some y := by
 rcases DataW.trod_slice ht h with ⟨e, _⟩ | ⟨a, len, cap, elems, rest, n, hf, hc, _, _, hl, hm, hlen, hel, _⟩
 · exact .inl e
 · refine .inr ⟨a, len, cap, n, hf, hc, hl, hm, fun i hi => ?_⟩
   have := hel i hi
   rw [List.getElem?_eq_getElem (by omega)] at this
   obtain ⟨cs', h1, h2⟩ := Option.bind_eq_some_iff.1 this
   exact ⟨cs', _, h1, h2⟩
theorem tree_of_trod : ∀ (N fuel : Nat), fuel ≤ N → ∀ {cs : List Value} {x : DataW H × List MemPlace}, DataW.trod enc Tryz.prog w 0 sp held fuel 25 cs = some x → ∃ j, TreeC w w.heap.size j cs ∧ j.rng
 | 0, 0, _, _, _, h => by simp [DataW.trod] at h
 | N + 1, fuel, hf, cs, x, h => by
  obtain ⟨fs, hu, hsz, hfs⟩ := fields_of (P := Tryz.prog) (t := 25) (L := #[(0, 3), (1, 2), (2, 9), (3, 22), (4, 23)]) (by kernel_rfl)
  obtain ⟨xs, m, rfl, rfl, hl, hxl, hall⟩ := DataW.trod_struct hu h
  rw [hsz] at hxl
  have fld : ∀ i, i < 5 → ∃ f, fs[i]? = some f := fun i hi => ⟨fs[i]'(by rw [hsz]; exact hi), by simp [hsz, hi]⟩
  obtain ⟨f0, g0⟩ := fld 0 (by omega); obtain ⟨f1, g1⟩ := fld 1 (by omega); obtain ⟨f2, g2⟩ := fld 2 (by omega); obtain ⟨f3, g3⟩ := fld 3 (by omega); obtain ⟨f4, g4⟩ := fld 4 (by omega)
  have p0 := hfs 0 f0 g0; have p1 := hfs 1 f1 g1; have p2 := hfs 2 f2 g2; have p3 := hfs 3 f3 g3; have p4 := hfs 4 f4 g4
  simp only [List.getElem?_toArray, List.getElem?_cons_zero, List.getElem?_cons_succ, Option.some.injEq, Prod.mk.injEq] at p0 p1 p2 p3 p4
  obtain ⟨o0, t0⟩ := p0; obtain ⟨o1, t1⟩ := p1; obtain ⟨o2, t2⟩ := p2; obtain ⟨o3, t3⟩ := p3; obtain ⟨o4, t4⟩ := p4
  have ci : Tryz.prog.cellsOf 3 = 1 := by kernel_rfl
  have ci64 : Tryz.prog.cellsOf 2 = 1 := by kernel_rfl
  have cstr : Tryz.prog.cellsOf 9 = 1 := by kernel_rfl
  have csj : Tryz.prog.cellsOf 22 = 1 := by kernel_rfl
  have css : Tryz.prog.cellsOf 23 = 1 := by kernel_rfl
  have cj : Tryz.prog.cellsOf 25 = 5 := by kernel_rfl
  rw [cj] at hl
  match cs, hl with
  | [v0, v1, v2, v3, v4], _ =>
   have a0 := hall 0 f0 g0; have a1 := hall 1 f1 g1; have a2 := hall 2 f2 g2; have a3 := hall 3 f3 g3; have a4 := hall 4 f4 g4
   simp only [← o0, ← o1, ← o2, ← o3, ← o4, ← t0, ← t1, ← t2, ← t3, ← t4, ci, ci64, cstr, csj, css, List.drop_zero, List.drop_succ_cons, List.take_succ_cons, List.take_zero] at a0 a1 a2 a3 a4
   have get : ∀ i, i < 5 → ∃ y, xs[i]? = some y := fun i hi => ⟨xs[i]'(by rw [hxl]; exact hi), List.getElem?_eq_getElem _⟩
   obtain ⟨y0, e0⟩ := get 0 (by omega); obtain ⟨y1, e1⟩ := get 1 (by omega); obtain ⟨y2, e2⟩ := get 2 (by omega); obtain ⟨y3, e3⟩ := get 3 (by omega); obtain ⟨y4, e4⟩ := get 4 (by omega)
   rw [e0] at a0; rw [e1] at a1; rw [e2] at a2; rw [e3] at a3; rw [e4] at a4
   obtain ⟨k, hk, _⟩ := DataW.trod_int (by kernel_rfl : Tryz.prog.underlying 3 = some (.int .i64)) a0
   obtain ⟨n, hn, _, hwf⟩ := DataW.trod_int (by kernel_rfl : Tryz.prog.underlying 2 = some (.int .i64)) a1
   obtain ⟨s, hs, _⟩ := DataW.trod_string strT a2
   simp only [List.cons.injEq, and_true] at hk hn hs
   subst hk hn hs
   have items : ∃ A3 c3 its, v3 = .slice A3 (List.length its) c3 ∧ (its.length ≤ c3 ∧ its.length ≤ maxLen) ∧ RowT w w.heap.size its A3 ∧ J.rngs its := by
    rcases slice_elem (by kernel_rfl : Tryz.prog.underlying 22 = some (.slice 25)) a3 with e | ⟨a, len, cap, n', hfu, e, hlc, hcm, hx⟩
    · simp only [List.cons.injEq, and_true] at e
      exact ⟨none, 0, [], e, ⟨Nat.le_refl _, Nat.zero_le _⟩, RowS.nil_ _ _ _, J.rngs_nil⟩
    · simp only [List.cons.injEq, and_true] at e
      by_cases h0 : len = 0
      · subst h0
        exact ⟨some a, cap, [], e, ⟨Nat.zero_le _, Nat.zero_le _⟩, RowS.nil_ _ _ _, J.rngs_nil⟩
      · rw [cj] at hx
        obtain ⟨b, off, spot⟩ := a
        have c0 : ∃ v, w.cell? ⟨b, off, spot⟩ = some v := by
         obtain ⟨cs', _, h1, _⟩ := hx 0 (by omega)
         obtain ⟨_, hlen, hcell⟩ := World.cells?_some h1
         have := hcell 0 (by omega)
         rw [Nat.zero_mul, show ((⟨b, off, spot⟩ : Addr).add 0).add 0 = ⟨b, off, spot⟩ by cases spot <;> rfl] at this
         exact ⟨cs'[0]'(by omega), by rw [this]; exact List.getElem?_eq_getElem _⟩
        obtain ⟨v, hv⟩ := c0
        obtain rfl : spot = none := World.cell?_spot hv
        have hbl : b < w.heap.size := World.block_lt_of_cell? _ _ hv
        obtain ⟨its, hil, hr, hg⟩ := rows_of (w := w) (B := w.heap.size) (b := b) (off := off) hbl len (fun i hi => by
         obtain ⟨cs', _, h1, h2⟩ := hx i (by omega)
         obtain ⟨_, hlen, hcell⟩ := World.cells?_some h1
         obtain ⟨j, hj, hjr⟩ := tree_of_trod N n' (by omega) h2
         refine ⟨cs', j, fun k hk => ?_, hj, hjr⟩
         have := hcell k (by omega)
         rw [Mem.add_plain, Mem.add_plain] at this
         exact this)
        exact ⟨some ⟨b, off, none⟩, cap, its, by rw [hil]; exact e, ⟨by omega, by omega⟩, hr, hg⟩
   have keys : ∃ A4 c4 ks, v4 = .slice A4 (List.length ks) c4 ∧ (ks.length ≤ c4 ∧ ks.length ≤ maxLen) ∧ Fl w w.heap.size A4 (ks.map Value.string) := by
    rcases slice_elem (by kernel_rfl : Tryz.prog.underlying 23 = some (.slice 9)) a4 with e | ⟨a, len, cap, n', hfu, e, hlc, hcm, hx⟩
    · simp only [List.cons.injEq, and_true] at e
      exact ⟨none, 0, [], e, ⟨Nat.le_refl _, Nat.zero_le _⟩, .inl rfl⟩
    · simp only [List.cons.injEq, and_true] at e
      by_cases h0 : len = 0
      · subst h0
        exact ⟨some a, cap, [], e, ⟨Nat.zero_le _, Nat.zero_le _⟩, .inl rfl⟩
      · rw [cstr] at hx
        have each : ∀ i, i < len → ∃ s : ByteArray, w.cell? (a.add i) = some (.string s) := fun i hi => by
         obtain ⟨cs', _, h1, h2⟩ := hx i (by omega)
         obtain ⟨_, hlen, hcell⟩ := World.cells?_some h1
         obtain ⟨s, hs, _⟩ := DataW.trod_string strT h2
         have := hcell 0 (by omega)
         rw [hs, Nat.mul_one] at this
         exact ⟨s, by rw [← show (a.add i).add 0 = a.add i by cases a with | mk b o sp => cases sp <;> rfl]; exact this⟩
        obtain ⟨b, off, spot⟩ := a
        obtain ⟨s0, hs0⟩ := each 0 (by omega)
        rw [show (⟨b, off, spot⟩ : Addr).add 0 = ⟨b, off, spot⟩ by cases spot <;> rfl] at hs0
        obtain rfl : spot = none := World.cell?_spot hs0
        have hbl : b < w.heap.size := World.block_lt_of_cell? _ _ hs0
        obtain ⟨ks, hkl, hk⟩ := strs_of (w := w) (b := b) (off := off) len (fun i hi => by
         obtain ⟨s, hs⟩ := each i hi
         rw [Mem.add_plain] at hs
         exact ⟨s, hs⟩)
        exact ⟨some ⟨b, off, none⟩, cap, ks, by rw [hkl]; exact e, ⟨by omega, by omega⟩, .inr ⟨b, off, rfl, hbl, fun i hi => hk i (by simpa [hkl] using hi)⟩⟩
   obtain ⟨A3, c3, its, rfl, h3, hr, hg⟩ := items
   obtain ⟨A4, c4, ks, rfl, h4, hk⟩ := keys
   refine ⟨.mk k n s its ks, TreeS.mk_ h3 h4 hr hk, ?_⟩
   unfold J.rng
   have := fit_i64 hwf
   exact ⟨this.1, this.2, hg⟩
section
variable {P : Program}
theorem typed_int {d : D} {t : TypeId} {k : IntKind} (h : Typed P d t) (hu : P.underlying t = some (.int k)) : ∃ n, d = .i k n ∧ (Lit.int k n).wf = true := by
 cases d with
 | i k' n =>
  unfold Typed at h
  rw [hu] at h
  obtain ⟨h1, h2⟩ := h
  simp only [Option.some.injEq] at h1
  injection h1 with h1
  subst h1
  exact ⟨n, rfl, h2⟩
 | b x => unfold Typed at h; rw [hu] at h; cases h
 | s x => unfold Typed at h; rw [hu] at h; cases h
 | ag fs => unfold Typed at h; obtain ⟨_, h, _⟩ := h; rw [hu] at h; cases h
 | sl n l => unfold Typed at h; obtain ⟨_, h, _⟩ := h; rw [hu] at h; cases h
theorem typed_bool {d : D} {t : TypeId} (h : Typed P d t) (hu : P.underlying t = some .bool) : ∃ x, d = .b x := by
 cases d with
 | i k' n => unfold Typed at h; rw [hu] at h; cases h.1
 | b x => exact ⟨x, rfl⟩
 | s x => unfold Typed at h; rw [hu] at h; cases h
 | ag fs => unfold Typed at h; obtain ⟨_, h, _⟩ := h; rw [hu] at h; cases h
 | sl n l => unfold Typed at h; obtain ⟨_, h, _⟩ := h; rw [hu] at h; cases h
theorem typed_str {d : D} {t : TypeId} (h : Typed P d t) (hu : P.underlying t = some .string) : ∃ x, d = .s x := by
 cases d with
 | i k' n => unfold Typed at h; rw [hu] at h; cases h.1
 | b x => unfold Typed at h; rw [hu] at h; cases h
 | s x => exact ⟨x, rfl⟩
 | ag fs => unfold Typed at h; obtain ⟨_, h, _⟩ := h; rw [hu] at h; cases h
 | sl n l => unfold Typed at h; obtain ⟨_, h, _⟩ := h; rw [hu] at h; cases h
theorem typed_slice {d : D} {t e : TypeId} (h : Typed P d t) (hu : P.underlying t = some (.slice e)) : ∃ l, d = .sl (P.cellsOf e) l ∧ TypedR P l e := by
 cases d with
 | i k' n => unfold Typed at h; rw [hu] at h; cases h.1
 | b x => unfold Typed at h; rw [hu] at h; cases h
 | s x => unfold Typed at h; rw [hu] at h; cases h
 | ag fs => unfold Typed at h; obtain ⟨_, h, _⟩ := h; rw [hu] at h; cases h
 | sl n l =>
  unfold Typed at h
  obtain ⟨e', h1, h2, h3⟩ := h
  rw [hu] at h1
  simp only [Option.some.injEq] at h1
  injection h1 with h1
  subst h1; subst h2
  exact ⟨l, rfl, h3⟩
theorem typed_struct {d : D} {t : TypeId} {ts : List TypeId} (h : Typed P d t) (hu : (fieldsOf P t).map (fun L => L.toList.map (·.2)) = some ts) : ∃ ds, d = .ag ds ∧ TypedA P ds ts := by
 unfold fieldsOf at hu
 cases d with
 | i k' n => unfold Typed at h; rw [h.1] at hu; cases hu
 | b x => unfold Typed at h; rw [h] at hu; cases hu
 | s x => unfold Typed at h; rw [h] at hu; cases hu
 | ag ds =>
  unfold Typed at h
  obtain ⟨fs, h1, h2⟩ := h
  rw [h1] at hu
  simp only [Option.map_some, Array.toList_map, List.map_map, Option.some.injEq] at hu
  refine ⟨ds, rfl, ?_⟩
  rw [← hu]
  exact h2
 | sl n l => unfold Typed at h; obtain ⟨_, h, _⟩ := h; rw [h] at hu; cases hu
theorem typedA_cons {ds : List D} {t : TypeId} {q : List TypeId} (h : TypedA P ds (t :: q)) : ∃ d r, ds = d :: r ∧ Typed P d t ∧ TypedA P r q := by
 cases ds with
 | nil => unfold TypedA at h; cases h
 | cons d r =>
  unfold TypedA at h
  obtain ⟨t', q', e, h1, h2⟩ := h
  injection e with e1 e2
  subst e1; subst e2
  exact ⟨d, r, rfl, h1, h2⟩
theorem typedA_nil {ds : List D} (h : TypedA P ds []) : ds = [] := by
 cases ds with
 | nil => rfl
 | cons d r => unfold TypedA at h; obtain ⟨t', q', e, _⟩ := h; cases e
theorem typedR_map {α : Type} {Q : α → Prop} {f : α → D} {t : TypeId} : ∀ {l : List D}, (∀ d ∈ l, Typed P d t → ∃ x, d = f x ∧ Q x) → TypedR P l t → ∃ xs : List α, l = xs.map f ∧ ∀ x ∈ xs, Q x
 | [], _, _ => ⟨[], rfl, fun _ h => by cases h⟩
 | d :: r, hf, h => by
  unfold TypedR at h
  obtain ⟨x, rfl, hx⟩ := hf d (by simp) h.1
  obtain ⟨xs, rfl, hq⟩ := typedR_map (fun d hd => hf d (by simp [hd])) h.2
  refine ⟨x :: xs, rfl, fun y hy => ?_⟩
  rcases List.mem_cons.1 hy with e | e
  · subst e; exact hx
  · exact hq y e
end
theorem rngs_of {l : List J} (h : ∀ j ∈ l, j.rng) : J.rngs l := by
 induction l with
 | nil => exact J.rngs_nil
 | cons x r ih => unfold J.rngs; exact ⟨h x (by simp), ih fun j hj => h j (by simp [hj])⟩
def I64 (n : Int) : Prop := -9223372036854775808 ≤ n ∧ n ≤ 9223372036854775807
def Fd.rng (f : Fd) : Prop := I64 f.ty ∧ f.df.rng
def Nd.rng (n : Nd) : Prop := I64 n.k ∧ I64 n.size ∧ I64 n.items ∧ (∀ b ∈ n.br, I64 b) ∧ ∀ f ∈ n.fs, f.rng
def Sc.rng (s : Sc) : Prop := I64 s.root ∧ ∀ n ∈ s.nodes, n.rng
theorem strs_typed {d : D} {t : TypeId} (h : Typed Tryz.prog d t) (hu : Tryz.prog.underlying t = some (.slice 9)) : ∃ l : List ByteArray, d = .sl 1 (l.map D.s) := by
 obtain ⟨l, rfl, hl⟩ := typed_slice h hu
 obtain ⟨xs, rfl, _⟩ := typedR_map (Q := fun _ => True) (f := D.s) (fun d _ hd => by
  obtain ⟨x, rfl⟩ := typed_str hd strT
  exact ⟨x, rfl, trivial⟩) hl
 exact ⟨xs, by rw [show Tryz.prog.cellsOf 9 = 1 by kernel_rfl]⟩
theorem json_typed : ∀ (N : Nat) (d : D), SizeOf.sizeOf d ≤ N → Typed Tryz.prog d 25 → ∃ j : J, d = j.enc ∧ j.rng
 | 0, d, h, _ => by cases d <;> simp at h
 | N + 1, d, hN, h => by
  obtain ⟨ds, rfl, ha⟩ := typed_struct (ts := [3, 2, 9, 22, 23]) h (by kernel_rfl)
  obtain ⟨d0, r, rfl, h0, ha⟩ := typedA_cons ha
  obtain ⟨d1, r, rfl, h1, ha⟩ := typedA_cons ha
  obtain ⟨d2, r, rfl, h2, ha⟩ := typedA_cons ha
  obtain ⟨d3, r, rfl, h3, ha⟩ := typedA_cons ha
  obtain ⟨d4, r, rfl, h4, ha⟩ := typedA_cons ha
  obtain rfl := typedA_nil ha
  obtain ⟨k, rfl, _⟩ := typed_int h0 (by kernel_rfl : Tryz.prog.underlying 3 = some (.int .i64))
  obtain ⟨n, rfl, hn⟩ := typed_int h1 (by kernel_rfl : Tryz.prog.underlying 2 = some (.int .i64))
  obtain ⟨t, rfl⟩ := typed_str h2 strT
  obtain ⟨l, rfl, hl⟩ := typed_slice h3 (by kernel_rfl : Tryz.prog.underlying 22 = some (.slice 25))
  obtain ⟨ks, rfl⟩ := strs_typed h4 (by kernel_rfl)
  obtain ⟨its, rfl, hr⟩ := typedR_map (Q := J.rng) (f := J.enc) (fun d hd ht => json_typed N d (by
   have := List.sizeOf_lt_of_mem hd
   simp only [D.ag.sizeOf_spec, D.sl.sizeOf_spec, List.cons.sizeOf_spec] at hN
   omega) ht) hl
  refine ⟨.mk k n t its ks, ?_, ?_⟩
  · unfold J.enc
    rw [show Tryz.prog.cellsOf 25 = 5 by kernel_rfl, J.encs_map]
  · unfold J.rng
    have := fit_i64 hn
    exact ⟨this.1, this.2, rngs_of hr⟩
theorem field_typed {d : D} (h : Typed Tryz.prog d 61) : ∃ f : Fd, d = f.enc ∧ f.rng := by
 obtain ⟨ds, rfl, ha⟩ := typed_struct (ts := [9, 23, 3, 4, 25]) h (by kernel_rfl)
 obtain ⟨d0, r, rfl, h0, ha⟩ := typedA_cons ha
 obtain ⟨d1, r, rfl, h1, ha⟩ := typedA_cons ha
 obtain ⟨d2, r, rfl, h2, ha⟩ := typedA_cons ha
 obtain ⟨d3, r, rfl, h3, ha⟩ := typedA_cons ha
 obtain ⟨d4, r, rfl, h4, ha⟩ := typedA_cons ha
 obtain rfl := typedA_nil ha
 obtain ⟨nm, rfl⟩ := typed_str h0 strT
 obtain ⟨al, rfl⟩ := strs_typed h1 (by kernel_rfl)
 obtain ⟨ty, rfl, ht⟩ := typed_int h2 (by kernel_rfl : Tryz.prog.underlying 3 = some (.int .i64))
 obtain ⟨hs, rfl⟩ := typed_bool h3 (by kernel_rfl)
 obtain ⟨j, rfl, hj⟩ := json_typed _ _ (Nat.le_refl _) h4
 exact ⟨⟨nm, al, ty, hs, j⟩, rfl, fit_i64 ht, hj⟩
theorem node_typed {d : D} (h : Typed Tryz.prog d 59) : ∃ n : Nd, d = n.enc ∧ n.rng := by
 obtain ⟨ds, rfl, ha⟩ := typed_struct (ts := [3, 9, 23, 56, 23, 4, 9, 3, 3, 57]) h (by kernel_rfl)
 obtain ⟨d0, r, rfl, h0, ha⟩ := typedA_cons ha
 obtain ⟨d1, r, rfl, h1, ha⟩ := typedA_cons ha
 obtain ⟨d2, r, rfl, h2, ha⟩ := typedA_cons ha
 obtain ⟨d3, r, rfl, h3, ha⟩ := typedA_cons ha
 obtain ⟨d4, r, rfl, h4, ha⟩ := typedA_cons ha
 obtain ⟨d5, r, rfl, h5, ha⟩ := typedA_cons ha
 obtain ⟨d6, r, rfl, h6, ha⟩ := typedA_cons ha
 obtain ⟨d7, r, rfl, h7, ha⟩ := typedA_cons ha
 obtain ⟨d8, r, rfl, h8, ha⟩ := typedA_cons ha
 obtain ⟨d9, r, rfl, h9, ha⟩ := typedA_cons ha
 obtain rfl := typedA_nil ha
 have it : Tryz.prog.underlying 3 = some (.int .i64) := by kernel_rfl
 obtain ⟨k, rfl, hk⟩ := typed_int h0 it
 obtain ⟨nm, rfl⟩ := typed_str h1 strT
 obtain ⟨al, rfl⟩ := strs_typed h2 (by kernel_rfl)
 obtain ⟨l3, rfl, hl3⟩ := typed_slice h3 (by kernel_rfl : Tryz.prog.underlying 56 = some (.slice 61))
 obtain ⟨fs, rfl, hfs⟩ := typedR_map (Q := Fd.rng) (f := Fd.enc) (fun d _ hd => field_typed hd) hl3
 obtain ⟨sy, rfl⟩ := strs_typed h4 (by kernel_rfl)
 obtain ⟨hs, rfl⟩ := typed_bool h5 (by kernel_rfl)
 obtain ⟨df, rfl⟩ := typed_str h6 strT
 obtain ⟨sz, rfl, hsz⟩ := typed_int h7 it
 obtain ⟨im, rfl, him⟩ := typed_int h8 it
 obtain ⟨l9, rfl, hl9⟩ := typed_slice h9 (by kernel_rfl : Tryz.prog.underlying 57 = some (.slice 3))
 obtain ⟨br, rfl, hbr⟩ := typedR_map (Q := I64) (f := D.i .i64) (fun d _ hd => by
  obtain ⟨n, rfl, hn⟩ := typed_int hd it
  exact ⟨n, rfl, fit_i64 hn⟩) hl9
 refine ⟨⟨k, nm, al, fs, sy, hs, df, sz, im, br⟩, ?_, fit_i64 hk, fit_i64 hsz, fit_i64 him, hbr, hfs⟩
 unfold Nd.enc
 rw [show Tryz.prog.cellsOf 61 = 9 by kernel_rfl, show Tryz.prog.cellsOf 3 = 1 by kernel_rfl]
theorem schema_typed {d : D} (h : Typed Tryz.prog d 30) : ∃ s : Sc, d = s.enc ∧ s.rng := by
 obtain ⟨ds, rfl, ha⟩ := typed_struct (ts := [28, 3]) h (by kernel_rfl)
 obtain ⟨d0, r, rfl, h0, ha⟩ := typedA_cons ha
 obtain ⟨d1, r, rfl, h1, ha⟩ := typedA_cons ha
 obtain rfl := typedA_nil ha
 obtain ⟨l, rfl, hl⟩ := typed_slice h0 (by kernel_rfl : Tryz.prog.underlying 28 = some (.slice 59))
 obtain ⟨ns, rfl, hns⟩ := typedR_map (Q := Nd.rng) (f := Nd.enc) (fun d _ hd => node_typed hd) hl
 obtain ⟨rt, rfl, hrt⟩ := typed_int h1 (by kernel_rfl : Tryz.prog.underlying 3 = some (.int .i64))
 refine ⟨⟨ns, rt⟩, ?_, fit_i64 hrt, hns⟩
 unfold Sc.enc
 rw [show Tryz.prog.cellsOf 59 = 10 by kernel_rfl]
theorem schema_of_trod {H : Type} {enc : TypeId × Value → H} {w : World} {sp : Nat → Bool} {held : Bool} {fuel : Nat} {cs : List Value} {x : DataW H × List MemPlace} (h : DataW.trod enc Tryz.prog w 0 sp held fuel 30 cs = some x) :
 ∃ s : Sc, Lies w (· < w.heap.size) s.enc cs ∧ s.rng := by
 obtain ⟨d, h1, h2, _⟩ := lies_of_trod [30, 28, 3, 59, 9, 23, 56, 61, 4, 25, 2, 22, 57] (by kernel_rfl) fuel fuel (Nat.le_refl _) (by simp) h
 obtain ⟨s, rfl, hs⟩ := schema_typed h2
 exact ⟨s, h1, hs⟩
end Go.Proofs.YthfoomobicbcpaaGreatDoor
