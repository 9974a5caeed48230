/- Blocks of a few cells, known whole: what a call finds again in a block of its own behind a call (program-free). -/
import Derived.Test.YtbogafecgakgiaaDoorMem
import Derived.Laws.CopyOwn
import Derived.Laws.MakeOwn
import Derived.Deep.OwnRows
namespace Go.Proofs.YtbogafecgakgiaaDoor.Mem
open Go.RowKit

theorem bel_call {B B' : Nat} {w a b : World} (h : Below B' a b) (hle : B ≤ B') (k : Below B w a) : Below B w b := k.trans (h.mono hle)
theorem Bys.now {w W : World} {A : Option Addr} {l : List UInt8} (h : Bys w w.heap.size A l) (b : Below w.heap.size w W) : Bys W W.heap.size A l := (h.below b).more b.size
theorem Bys.one {w : World} {B : Nat} {A : Option Addr} {x : UInt8} (h : Bys w B A [x]) : ∃ b off, A = some ⟨b, off, none⟩ ∧ b < B ∧ w.cell? ⟨b, off, none⟩ = some (.int .u8 ((x.toNat : Nat) : Int)) := by
  rcases h with h | ⟨b, off, rfl, hb, hc⟩
  · cases h
  · exact ⟨b, off, rfl, hb, hc 0 (by simp)⟩
theorem Blk.frozen {w : World} {g : Nat} {t : TypeId} {cs : Array Value} (h : Blk w g t cs) (i : Nat) : w.frozen? ⟨g, i, none⟩ = false := by
  unfold Blk at h; simp [World.frozen?, h]
theorem Blk.past {w : World} {g : Nat} {t : TypeId} {cs : Array Value} (h : Blk w g t cs) {p : Addr} (hp : p.block ≠ g) (u : Value) : Blk (w.setCell p u) g t cs :=
  (Below.heap_setCell _ _ _ _ (fun e => hp e.symm)).trans h
theorem Blk.set {w : World} {g : Nat} {t : TypeId} {cs : Array Value} (h : Blk w g t cs) (i : Nat) (u : Value) : Blk (w.setCell ⟨g, i, none⟩ u) g t (cs.setIfInBounds i u) := by
  unfold Blk at h ⊢; simp [World.setCell, Array.getElem?_modify, h]
/-- What a cell reads behind a store, whatever was known of it. -/
theorem cell_set (w : World) (g i h j : Nat) (u : Value) : (w.setCell ⟨g, i, none⟩ u).cell? ⟨h, j, none⟩ = if g = h ∧ i = j then (w.cell? ⟨g, i, none⟩).map (fun _ => u) else w.cell? ⟨h, j, none⟩ := by
  split
  · rename_i e
    obtain ⟨rfl, rfl⟩ := e
    cases hc : w.cell? ⟨g, i, none⟩ with
    | none =>
      have : (w.setCell ⟨g, i, none⟩ u).cell? ⟨g, i, none⟩ = none := by
        unfold World.cell? at hc ⊢
        simp only [World.setCell, Array.getElem?_modify, if_true]
        cases hg : w.heap[g]? with
        | none => rfl
        | some o => cases o <;> simp_all
      rw [this]; rfl
    | some v => exact World.cell?_setCell_same _ _ _ hc
  · rename_i e
    exact World.cell?_setCell_other _ _ _ _ (by intro k; injection k; omega)
theorem bys_of_blk {w : World} {g B : Nat} {t : TypeId} {l : List UInt8} {cs : Array Value} (h : Blk w g t cs) (hg : g < B) (hc : cs = (cels l).toArray) : Bys w B (some ⟨g, 0, none⟩) l := by
  refine .inr ⟨g, 0, rfl, hg, fun k hk => ?_⟩
  rw [Nat.zero_add, h.cell, hc, List.getElem?_toArray, cels_at hk]
theorem Bys.apart {w : World} {B g off : Nat} {l : List UInt8} (h : Bys w B (some ⟨g, off, none⟩) l) {p : Addr} (hp : p.block ≠ g) (u : Value) : Bys (w.setCell p u) B (some ⟨g, off, none⟩) l := by
  rcases h with h | ⟨b, o, e, hb, hc⟩
  · exact .inl h
  · simp only [Option.some.injEq, Addr.mk.injEq, and_true] at e
    obtain ⟨rfl, rfl⟩ := e
    exact .inr ⟨_, _, rfl, hb, fun k hk => (World.cell?_setCell_other _ _ _ _ (by intro e; subst e; exact hp rfl)).trans (hc k hk)⟩
/-- Bytes in memory that a call made: no block below B. -/
def NewBys (B : Nat) (w : World) (A : Option Addr) (l : List UInt8) : Prop := Bys w w.heap.size A l ∧ (l = [] ∨ ∃ b off, A = some ⟨b, off, none⟩ ∧ B ≤ b)
theorem NewBys.nil (B : Nat) (w : World) (A : Option Addr) : NewBys B w A [] := ⟨Bys.nil _ _ _, .inl rfl⟩
theorem NewBys.less {B B' : Nat} {w : World} {A : Option Addr} {l : List UInt8} (h : NewBys B w A l) (hB : B' ≤ B) : NewBys B' w A l :=
  ⟨h.1, h.2.imp id fun ⟨b, off, e, k⟩ => ⟨b, off, e, by omega⟩⟩
theorem NewBys.now {B : Nat} {w w' : World} {A : Option Addr} {l : List UInt8} (h : NewBys B w A l) (b : Below w.heap.size w w') : NewBys B w' A l := ⟨h.1.now b, h.2⟩
theorem NewBys.alloc {B : Nat} {w : World} {A : Option Addr} {l : List UInt8} (h : NewBys B w A l) (o : Obj) : NewBys B (w.alloc o) A l := h.now ((Below.refl _ _).alloc (Nat.le_refl _) _)
theorem NewBys.drew {B : Nat} {w : World} {A : Option Addr} {l : List UInt8} (h : NewBys B w A l) : NewBys B w.drew A l := h
theorem NewBys.set {B : Nat} {w : World} {A : Option Addr} {l : List UInt8} (h : NewBys B w A l) {p : Addr} (hp : p.block < B) (u : Value) : NewBys B (w.setCell p u) A l := by
  refine ⟨Bys.more (B := w.heap.size) ?_ (by simp [World.setCell]), h.2⟩
  rcases h.2 with rfl | ⟨b, off, rfl, hb⟩
  · exact Bys.nil _ _ _
  · exact h.1.apart (by omega) u
theorem NewBys.mk' {B g off : Nat} {w : World} {l : List UInt8} (h : Bys w w.heap.size (some ⟨g, off, none⟩) l) (hg : B ≤ g) : NewBys B w (some ⟨g, off, none⟩) l := ⟨h, .inr ⟨g, off, rfl, hg⟩⟩
theorem Own.new {w : World} {base : Nat} {e : TypeId} {v : Value} {l : List UInt8} (h : Own w base e v l) : ∃ A c, v = .slice A l.length c ∧ l.length ≤ c ∧ NewBys base w A l := by
  obtain ⟨A, c, rfl, hy, hc⟩ := h.room
  refine ⟨A, c, rfl, hc, hy, ?_⟩
  rcases h.2 with ⟨e, h0⟩ | ⟨g, cap, cur, e, hg, _⟩
  · exact .inl (List.length_eq_zero_iff.1 h0)
  · injection e with e _ _
    exact .inr ⟨g, 0, e, hg⟩
/-- A call that turns one block, g, and lays new ones. -/
structure Save (g : Nat) (w w' : World) : Prop where
  bel : Below g w w'
  rest : ∀ b, g < b → b < w.heap.size → w'.heap[b]? = w.heap[b]?
theorem Save.refl (g : Nat) (w : World) : Save g w w := ⟨Below.refl _ _, fun _ _ _ => rfl⟩
theorem Save.trans {g : Nat} {a b c : World} (h : Save g a b) (k : Save g b c) : Save g a c :=
  ⟨h.bel.trans k.bel, fun i hi hs => (k.rest i hi (Nat.lt_of_lt_of_le hs h.bel.size)).trans (h.rest i hi hs)⟩
theorem Save.of {g : Nat} {w w' : World} (h : Below w.heap.size w w') (hg : g ≤ w.heap.size) : Save g w w' := ⟨h.mono hg, fun b _ hb => h.block b hb⟩
theorem Save.call {g : Nat} {w a b : World} (h : Below a.heap.size a b) (hg : g ≤ a.heap.size) (k : Save g w a) : Save g w b := k.trans (Save.of h hg)
theorem Save.next {g : Nat} {w a b : World} (h : Save g a b) (k : Save g w a) : Save g w b := k.trans h
theorem Save.drewN {g : Nat} {w w' : World} (h : Save g w w') (n : Nat) : Save g w (w'.drewN n) := ⟨bel_drewN h.bel n, h.rest⟩
theorem Save.drew {g : Nat} {w w' : World} (h : Save g w w') : Save g w w'.drew := ⟨h.bel.drew, h.rest⟩
theorem Save.set {g : Nat} {w w' : World} (h : Save g w w') (i : Nat) (u : Value) : Save g w (w'.setCell ⟨g, i, none⟩ u) :=
  ⟨h.bel.setCell (Nat.le_refl _) u, fun b hb hs => (Below.heap_setCell _ _ _ _ (by intro e; have e' : b = g := e; omega)).trans (h.rest b hb hs)⟩
theorem Save.alloc {g : Nat} {w w' : World} (h : Save g w w') (hg : g ≤ w'.heap.size) (o : Obj) : Save g w (w'.alloc o) := Save.call ((Below.refl _ _).alloc (Nat.le_refl _) o) hg h
theorem Save.size {g : Nat} {w w' : World} (h : Save g w w') : w.heap.size ≤ w'.heap.size := h.bel.size
theorem Save.block {g : Nat} {w w' : World} (h : Save g w w') {b : Nat} (hb : b < w.heap.size) (hn : b ≠ g) : w'.heap[b]? = w.heap[b]? := by
  by_cases k : b < g
  · exact h.bel.block b k
  · exact h.rest b (by omega) hb
theorem Save.cell {g : Nat} {w w' : World} (h : Save g w w') {p : Addr} (hp : p.block < w.heap.size) (hn : p.block ≠ g) : w'.cell? p = w.cell? p := World.cell?_of_block (w := w) (h.block hp hn)
theorem Save.frozen {g : Nat} {w w' : World} (h : Save g w w') {p : Addr} (hp : p.block < w.heap.size) (hn : p.block ≠ g) : w'.frozen? p = w.frozen? p := World.frozen?_of_block (w := w) (h.block hp hn)
theorem Save.bys {g B : Nat} {w w' : World} {A : Option Addr} {l : List UInt8} (h : Save g w w') (y : Bys w B A l) (hB : B ≤ g) : Bys w' B A l := y.below (h.bel.mono hB)
/-- The bytes copied into a row that was just made for them. -/
theorem wpList_copy_new {P : Program} {t e : TypeId} (hu : U8 P t e) {ops : Array Oper} {rest : List Oper} {o : Oper} {a : Act} {Q : Exit → Act → World → Prop} (hgd : o.guard = none) (d s : Operand)
    (ho : o.op = .call { callee := .builtin .copy, args := #[d, s], argTypes := #[t, t] }) (w0 : World) (g n : Nat) (X : List UInt8) (hn : X.length = n) (A : Option Addr) (c : Nat) (z : Value)
    (hd : a.eval d = .slice (some ⟨g, 0, none⟩) n n) (hs : a.eval s = .slice A n c) (hg : g = w0.heap.size) (hX : Bys w0 w0.heap.size A X)
    (h : ∀ w', Bys w' w'.heap.size (some ⟨g, 0, none⟩) X → Below w0.heap.size w0 w' → wpList P ops Q rest (a.put o.dst (goInt n)) w') : wpList P ops Q (o :: rest) a (w0.alloc (.cells (madeCells #[z] n) e)) := by
  subst hg hn
  have cl : (cels X).length = X.length := cels_len X
  have ml : (madeCells #[z] X.length).toList.length = X.length := by rw [Array.length_toList, size_madeCells]
  refine wpList_copy_splice hgd d s t t ho e hu.sl ?_ (some ⟨w0.heap.size, 0, none⟩) A X.length X.length X.length c hd hs w0.heap.size 0 (madeCells #[z] X.length).toList e (by rw [Array.toArray_toList]; exact heap_alloc_new w0 _) (cels X) (by simp [cl]) ?_ (by omega) (cels_one X)
    w0.heap.size w0 ((Below.refl _ _).alloc (Nat.le_refl _) _) (Nat.le_refl _) ?_
  · have := hu.info
    cases hi : P.info? e with
    | none => rw [hi] at this; simp at this
    | some i => rw [hi] at this; simp at this; simp [this.2.1]
  · intro hp
    rcases hX with rfl | ⟨b, off, rfl, hb, hc⟩
    · simp [cels] at hp
    · refine ⟨rfl, _, rfl, fun j v hj => ?_⟩
      have jl : j < X.length := by rw [← cl]; exact (List.getElem?_eq_some_iff.1 hj).1
      rw [cels_at jl] at hj
      rw [add_plain, World.cell?_alloc_lt _ _ _ hb, hc j jl, hj]
  · intro w' hw hb'
    rw [cl]
    have hz : splice (madeCells #[z] X.length).toList 0 (cels X) = cels X := by
      unfold splice
      rw [List.take_zero, List.nil_append, Nat.zero_add, cl, List.drop_eq_nil_of_le (by omega), List.append_nil]
    have hw' := hw.out
    rw [hz] at hw'
    refine h w' (bys_of_blk (cs := (cels X).toArray) hw' (Blk.lt hw') rfl) hb'
theorem Blk.newat {w : World} {g : Nat} {t : TypeId} {cs : Array Value} (e : g = w.heap.size) : Blk (w.alloc (.cells cs t)) g t cs := e ▸ Blk.new w t cs

/-- A block of 1 cell. -/
def B1 (w : World) (g : Nat) (t : TypeId) (x0 : Value) : Prop := Blk w g t #[x0]
theorem B1.newat {w : World} {g : Nat} {t : TypeId} {x0 : Value} (e : g = w.heap.size) : B1 (w.alloc (.cells #[x0] t)) g t x0 := Blk.newat e
theorem B1.alloc {w : World} {g : Nat} {t : TypeId} {x0 : Value} (h : B1 w g t x0) (o : Obj) : B1 (w.alloc o) g t x0 := Blk.alloc h o
theorem B1.past {w : World} {g : Nat} {t : TypeId} {x0 : Value} (h : B1 w g t x0) {p : Addr} (hp : p.block ≠ g) (u : Value) : B1 (w.setCell p u) g t x0 := Blk.past h hp u
theorem B1.drewN {w : World} {g : Nat} {t : TypeId} {x0 : Value} (h : B1 w g t x0) (k : Nat) : B1 (w.drewN k) g t x0 := h
theorem B1.drew {w : World} {g : Nat} {t : TypeId} {x0 : Value} (h : B1 w g t x0) : B1 w.drew g t x0 := h
theorem B1.below {w : World} {g : Nat} {t : TypeId} {x0 : Value} {B : Nat} {w' : World} (h : B1 w g t x0) (hb : Below B w w') (hg : g < B) : B1 w' g t x0 := Blk.below h hb hg
theorem B1.lt {w : World} {g : Nat} {t : TypeId} {x0 : Value} (h : B1 w g t x0) : g < w.heap.size := Blk.lt h
theorem B1.set0 {w : World} {g : Nat} {t : TypeId} {x0 : Value} (h : B1 w g t x0) (u : Value) : B1 (w.setCell ⟨g, 0, none⟩ u) g t u := Blk.set h 0 u
theorem B1.c0 {w : World} {g : Nat} {t : TypeId} {x0 : Value} (h : B1 w g t x0) : w.cell? ⟨g, 0, none⟩ = some x0 := Blk.cell h 0
theorem B1.facts {w : World} {g : Nat} {t : TypeId} {x0 : Value} (h : B1 w g t x0) : w.cell? ⟨g, 0, none⟩ = some x0 ∧ w.frozen? ⟨g, 0, none⟩ = false := ⟨h.c0, Blk.frozen h 0⟩
/-- A block of 2 cells. -/
def B2 (w : World) (g : Nat) (t : TypeId) (x0 x1 : Value) : Prop := Blk w g t #[x0, x1]
theorem B2.newat {w : World} {g : Nat} {t : TypeId} {x0 x1 : Value} (e : g = w.heap.size) : B2 (w.alloc (.cells #[x0, x1] t)) g t x0 x1 := Blk.newat e
theorem B2.alloc {w : World} {g : Nat} {t : TypeId} {x0 x1 : Value} (h : B2 w g t x0 x1) (o : Obj) : B2 (w.alloc o) g t x0 x1 := Blk.alloc h o
theorem B2.past {w : World} {g : Nat} {t : TypeId} {x0 x1 : Value} (h : B2 w g t x0 x1) {p : Addr} (hp : p.block ≠ g) (u : Value) : B2 (w.setCell p u) g t x0 x1 := Blk.past h hp u
theorem B2.drewN {w : World} {g : Nat} {t : TypeId} {x0 x1 : Value} (h : B2 w g t x0 x1) (k : Nat) : B2 (w.drewN k) g t x0 x1 := h
theorem B2.drew {w : World} {g : Nat} {t : TypeId} {x0 x1 : Value} (h : B2 w g t x0 x1) : B2 w.drew g t x0 x1 := h
theorem B2.below {w : World} {g : Nat} {t : TypeId} {x0 x1 : Value} {B : Nat} {w' : World} (h : B2 w g t x0 x1) (hb : Below B w w') (hg : g < B) : B2 w' g t x0 x1 := Blk.below h hb hg
theorem B2.lt {w : World} {g : Nat} {t : TypeId} {x0 x1 : Value} (h : B2 w g t x0 x1) : g < w.heap.size := Blk.lt h
theorem B2.set0 {w : World} {g : Nat} {t : TypeId} {x0 x1 : Value} (h : B2 w g t x0 x1) (u : Value) : B2 (w.setCell ⟨g, 0, none⟩ u) g t u x1 := Blk.set h 0 u
theorem B2.c0 {w : World} {g : Nat} {t : TypeId} {x0 x1 : Value} (h : B2 w g t x0 x1) : w.cell? ⟨g, 0, none⟩ = some x0 := Blk.cell h 0
theorem B2.set1 {w : World} {g : Nat} {t : TypeId} {x0 x1 : Value} (h : B2 w g t x0 x1) (u : Value) : B2 (w.setCell ⟨g, 1, none⟩ u) g t x0 u := Blk.set h 1 u
theorem B2.c1 {w : World} {g : Nat} {t : TypeId} {x0 x1 : Value} (h : B2 w g t x0 x1) : w.cell? ⟨g, 1, none⟩ = some x1 := Blk.cell h 1
theorem B2.facts {w : World} {g : Nat} {t : TypeId} {x0 x1 : Value} (h : B2 w g t x0 x1) : w.cell? ⟨g, 0, none⟩ = some x0 ∧ w.cell? ⟨g, 1, none⟩ = some x1 ∧ w.frozen? ⟨g, 0, none⟩ = false ∧ w.frozen? ⟨g, 1, none⟩ = false := ⟨h.c0, h.c1, Blk.frozen h 0, Blk.frozen h 1⟩
/-- A block of 3 cells. -/
def B3 (w : World) (g : Nat) (t : TypeId) (x0 x1 x2 : Value) : Prop := Blk w g t #[x0, x1, x2]
theorem B3.newat {w : World} {g : Nat} {t : TypeId} {x0 x1 x2 : Value} (e : g = w.heap.size) : B3 (w.alloc (.cells #[x0, x1, x2] t)) g t x0 x1 x2 := Blk.newat e
theorem B3.alloc {w : World} {g : Nat} {t : TypeId} {x0 x1 x2 : Value} (h : B3 w g t x0 x1 x2) (o : Obj) : B3 (w.alloc o) g t x0 x1 x2 := Blk.alloc h o
theorem B3.past {w : World} {g : Nat} {t : TypeId} {x0 x1 x2 : Value} (h : B3 w g t x0 x1 x2) {p : Addr} (hp : p.block ≠ g) (u : Value) : B3 (w.setCell p u) g t x0 x1 x2 := Blk.past h hp u
theorem B3.drewN {w : World} {g : Nat} {t : TypeId} {x0 x1 x2 : Value} (h : B3 w g t x0 x1 x2) (k : Nat) : B3 (w.drewN k) g t x0 x1 x2 := h
theorem B3.drew {w : World} {g : Nat} {t : TypeId} {x0 x1 x2 : Value} (h : B3 w g t x0 x1 x2) : B3 w.drew g t x0 x1 x2 := h
theorem B3.below {w : World} {g : Nat} {t : TypeId} {x0 x1 x2 : Value} {B : Nat} {w' : World} (h : B3 w g t x0 x1 x2) (hb : Below B w w') (hg : g < B) : B3 w' g t x0 x1 x2 := Blk.below h hb hg
theorem B3.lt {w : World} {g : Nat} {t : TypeId} {x0 x1 x2 : Value} (h : B3 w g t x0 x1 x2) : g < w.heap.size := Blk.lt h
theorem B3.set0 {w : World} {g : Nat} {t : TypeId} {x0 x1 x2 : Value} (h : B3 w g t x0 x1 x2) (u : Value) : B3 (w.setCell ⟨g, 0, none⟩ u) g t u x1 x2 := Blk.set h 0 u
theorem B3.c0 {w : World} {g : Nat} {t : TypeId} {x0 x1 x2 : Value} (h : B3 w g t x0 x1 x2) : w.cell? ⟨g, 0, none⟩ = some x0 := Blk.cell h 0
theorem B3.set1 {w : World} {g : Nat} {t : TypeId} {x0 x1 x2 : Value} (h : B3 w g t x0 x1 x2) (u : Value) : B3 (w.setCell ⟨g, 1, none⟩ u) g t x0 u x2 := Blk.set h 1 u
theorem B3.c1 {w : World} {g : Nat} {t : TypeId} {x0 x1 x2 : Value} (h : B3 w g t x0 x1 x2) : w.cell? ⟨g, 1, none⟩ = some x1 := Blk.cell h 1
theorem B3.set2 {w : World} {g : Nat} {t : TypeId} {x0 x1 x2 : Value} (h : B3 w g t x0 x1 x2) (u : Value) : B3 (w.setCell ⟨g, 2, none⟩ u) g t x0 x1 u := Blk.set h 2 u
theorem B3.c2 {w : World} {g : Nat} {t : TypeId} {x0 x1 x2 : Value} (h : B3 w g t x0 x1 x2) : w.cell? ⟨g, 2, none⟩ = some x2 := Blk.cell h 2
theorem B3.facts {w : World} {g : Nat} {t : TypeId} {x0 x1 x2 : Value} (h : B3 w g t x0 x1 x2) : w.cell? ⟨g, 0, none⟩ = some x0 ∧ w.cell? ⟨g, 1, none⟩ = some x1 ∧ w.cell? ⟨g, 2, none⟩ = some x2 ∧ w.frozen? ⟨g, 0, none⟩ = false ∧ w.frozen? ⟨g, 1, none⟩ = false ∧ w.frozen? ⟨g, 2, none⟩ = false := ⟨h.c0, h.c1, h.c2, Blk.frozen h 0, Blk.frozen h 1, Blk.frozen h 2⟩
/-- A block of 4 cells. -/
def B4 (w : World) (g : Nat) (t : TypeId) (x0 x1 x2 x3 : Value) : Prop := Blk w g t #[x0, x1, x2, x3]
theorem B4.newat {w : World} {g : Nat} {t : TypeId} {x0 x1 x2 x3 : Value} (e : g = w.heap.size) : B4 (w.alloc (.cells #[x0, x1, x2, x3] t)) g t x0 x1 x2 x3 := Blk.newat e
theorem B4.alloc {w : World} {g : Nat} {t : TypeId} {x0 x1 x2 x3 : Value} (h : B4 w g t x0 x1 x2 x3) (o : Obj) : B4 (w.alloc o) g t x0 x1 x2 x3 := Blk.alloc h o
theorem B4.past {w : World} {g : Nat} {t : TypeId} {x0 x1 x2 x3 : Value} (h : B4 w g t x0 x1 x2 x3) {p : Addr} (hp : p.block ≠ g) (u : Value) : B4 (w.setCell p u) g t x0 x1 x2 x3 := Blk.past h hp u
theorem B4.drewN {w : World} {g : Nat} {t : TypeId} {x0 x1 x2 x3 : Value} (h : B4 w g t x0 x1 x2 x3) (k : Nat) : B4 (w.drewN k) g t x0 x1 x2 x3 := h
theorem B4.drew {w : World} {g : Nat} {t : TypeId} {x0 x1 x2 x3 : Value} (h : B4 w g t x0 x1 x2 x3) : B4 w.drew g t x0 x1 x2 x3 := h
theorem B4.below {w : World} {g : Nat} {t : TypeId} {x0 x1 x2 x3 : Value} {B : Nat} {w' : World} (h : B4 w g t x0 x1 x2 x3) (hb : Below B w w') (hg : g < B) : B4 w' g t x0 x1 x2 x3 := Blk.below h hb hg
theorem B4.lt {w : World} {g : Nat} {t : TypeId} {x0 x1 x2 x3 : Value} (h : B4 w g t x0 x1 x2 x3) : g < w.heap.size := Blk.lt h
theorem B4.set0 {w : World} {g : Nat} {t : TypeId} {x0 x1 x2 x3 : Value} (h : B4 w g t x0 x1 x2 x3) (u : Value) : B4 (w.setCell ⟨g, 0, none⟩ u) g t u x1 x2 x3 := Blk.set h 0 u
theorem B4.c0 {w : World} {g : Nat} {t : TypeId} {x0 x1 x2 x3 : Value} (h : B4 w g t x0 x1 x2 x3) : w.cell? ⟨g, 0, none⟩ = some x0 := Blk.cell h 0
theorem B4.set1 {w : World} {g : Nat} {t : TypeId} {x0 x1 x2 x3 : Value} (h : B4 w g t x0 x1 x2 x3) (u : Value) : B4 (w.setCell ⟨g, 1, none⟩ u) g t x0 u x2 x3 := Blk.set h 1 u
theorem B4.c1 {w : World} {g : Nat} {t : TypeId} {x0 x1 x2 x3 : Value} (h : B4 w g t x0 x1 x2 x3) : w.cell? ⟨g, 1, none⟩ = some x1 := Blk.cell h 1
theorem B4.set2 {w : World} {g : Nat} {t : TypeId} {x0 x1 x2 x3 : Value} (h : B4 w g t x0 x1 x2 x3) (u : Value) : B4 (w.setCell ⟨g, 2, none⟩ u) g t x0 x1 u x3 := Blk.set h 2 u
theorem B4.c2 {w : World} {g : Nat} {t : TypeId} {x0 x1 x2 x3 : Value} (h : B4 w g t x0 x1 x2 x3) : w.cell? ⟨g, 2, none⟩ = some x2 := Blk.cell h 2
theorem B4.set3 {w : World} {g : Nat} {t : TypeId} {x0 x1 x2 x3 : Value} (h : B4 w g t x0 x1 x2 x3) (u : Value) : B4 (w.setCell ⟨g, 3, none⟩ u) g t x0 x1 x2 u := Blk.set h 3 u
theorem B4.c3 {w : World} {g : Nat} {t : TypeId} {x0 x1 x2 x3 : Value} (h : B4 w g t x0 x1 x2 x3) : w.cell? ⟨g, 3, none⟩ = some x3 := Blk.cell h 3
theorem B4.facts {w : World} {g : Nat} {t : TypeId} {x0 x1 x2 x3 : Value} (h : B4 w g t x0 x1 x2 x3) : w.cell? ⟨g, 0, none⟩ = some x0 ∧ w.cell? ⟨g, 1, none⟩ = some x1 ∧ w.cell? ⟨g, 2, none⟩ = some x2 ∧ w.cell? ⟨g, 3, none⟩ = some x3 ∧ w.frozen? ⟨g, 0, none⟩ = false ∧ w.frozen? ⟨g, 1, none⟩ = false ∧ w.frozen? ⟨g, 2, none⟩ = false ∧ w.frozen? ⟨g, 3, none⟩ = false := ⟨h.c0, h.c1, h.c2, h.c3, Blk.frozen h 0, Blk.frozen h 1, Blk.frozen h 2, Blk.frozen h 3⟩
/-- A block of 5 cells. -/
def B5 (w : World) (g : Nat) (t : TypeId) (x0 x1 x2 x3 x4 : Value) : Prop := Blk w g t #[x0, x1, x2, x3, x4]
theorem B5.newat {w : World} {g : Nat} {t : TypeId} {x0 x1 x2 x3 x4 : Value} (e : g = w.heap.size) : B5 (w.alloc (.cells #[x0, x1, x2, x3, x4] t)) g t x0 x1 x2 x3 x4 := Blk.newat e
theorem B5.alloc {w : World} {g : Nat} {t : TypeId} {x0 x1 x2 x3 x4 : Value} (h : B5 w g t x0 x1 x2 x3 x4) (o : Obj) : B5 (w.alloc o) g t x0 x1 x2 x3 x4 := Blk.alloc h o
theorem B5.past {w : World} {g : Nat} {t : TypeId} {x0 x1 x2 x3 x4 : Value} (h : B5 w g t x0 x1 x2 x3 x4) {p : Addr} (hp : p.block ≠ g) (u : Value) : B5 (w.setCell p u) g t x0 x1 x2 x3 x4 := Blk.past h hp u
theorem B5.drewN {w : World} {g : Nat} {t : TypeId} {x0 x1 x2 x3 x4 : Value} (h : B5 w g t x0 x1 x2 x3 x4) (k : Nat) : B5 (w.drewN k) g t x0 x1 x2 x3 x4 := h
theorem B5.drew {w : World} {g : Nat} {t : TypeId} {x0 x1 x2 x3 x4 : Value} (h : B5 w g t x0 x1 x2 x3 x4) : B5 w.drew g t x0 x1 x2 x3 x4 := h
theorem B5.below {w : World} {g : Nat} {t : TypeId} {x0 x1 x2 x3 x4 : Value} {B : Nat} {w' : World} (h : B5 w g t x0 x1 x2 x3 x4) (hb : Below B w w') (hg : g < B) : B5 w' g t x0 x1 x2 x3 x4 := Blk.below h hb hg
theorem B5.lt {w : World} {g : Nat} {t : TypeId} {x0 x1 x2 x3 x4 : Value} (h : B5 w g t x0 x1 x2 x3 x4) : g < w.heap.size := Blk.lt h
theorem B5.set0 {w : World} {g : Nat} {t : TypeId} {x0 x1 x2 x3 x4 : Value} (h : B5 w g t x0 x1 x2 x3 x4) (u : Value) : B5 (w.setCell ⟨g, 0, none⟩ u) g t u x1 x2 x3 x4 := Blk.set h 0 u
theorem B5.c0 {w : World} {g : Nat} {t : TypeId} {x0 x1 x2 x3 x4 : Value} (h : B5 w g t x0 x1 x2 x3 x4) : w.cell? ⟨g, 0, none⟩ = some x0 := Blk.cell h 0
theorem B5.set1 {w : World} {g : Nat} {t : TypeId} {x0 x1 x2 x3 x4 : Value} (h : B5 w g t x0 x1 x2 x3 x4) (u : Value) : B5 (w.setCell ⟨g, 1, none⟩ u) g t x0 u x2 x3 x4 := Blk.set h 1 u
theorem B5.c1 {w : World} {g : Nat} {t : TypeId} {x0 x1 x2 x3 x4 : Value} (h : B5 w g t x0 x1 x2 x3 x4) : w.cell? ⟨g, 1, none⟩ = some x1 := Blk.cell h 1
theorem B5.set2 {w : World} {g : Nat} {t : TypeId} {x0 x1 x2 x3 x4 : Value} (h : B5 w g t x0 x1 x2 x3 x4) (u : Value) : B5 (w.setCell ⟨g, 2, none⟩ u) g t x0 x1 u x3 x4 := Blk.set h 2 u
theorem B5.c2 {w : World} {g : Nat} {t : TypeId} {x0 x1 x2 x3 x4 : Value} (h : B5 w g t x0 x1 x2 x3 x4) : w.cell? ⟨g, 2, none⟩ = some x2 := Blk.cell h 2
theorem B5.set3 {w : World} {g : Nat} {t : TypeId} {x0 x1 x2 x3 x4 : Value} (h : B5 w g t x0 x1 x2 x3 x4) (u : Value) : B5 (w.setCell ⟨g, 3, none⟩ u) g t x0 x1 x2 u x4 := Blk.set h 3 u
theorem B5.c3 {w : World} {g : Nat} {t : TypeId} {x0 x1 x2 x3 x4 : Value} (h : B5 w g t x0 x1 x2 x3 x4) : w.cell? ⟨g, 3, none⟩ = some x3 := Blk.cell h 3
theorem B5.set4 {w : World} {g : Nat} {t : TypeId} {x0 x1 x2 x3 x4 : Value} (h : B5 w g t x0 x1 x2 x3 x4) (u : Value) : B5 (w.setCell ⟨g, 4, none⟩ u) g t x0 x1 x2 x3 u := Blk.set h 4 u
theorem B5.c4 {w : World} {g : Nat} {t : TypeId} {x0 x1 x2 x3 x4 : Value} (h : B5 w g t x0 x1 x2 x3 x4) : w.cell? ⟨g, 4, none⟩ = some x4 := Blk.cell h 4
theorem B5.facts {w : World} {g : Nat} {t : TypeId} {x0 x1 x2 x3 x4 : Value} (h : B5 w g t x0 x1 x2 x3 x4) : w.cell? ⟨g, 0, none⟩ = some x0 ∧ w.cell? ⟨g, 1, none⟩ = some x1 ∧ w.cell? ⟨g, 2, none⟩ = some x2 ∧ w.cell? ⟨g, 3, none⟩ = some x3 ∧ w.cell? ⟨g, 4, none⟩ = some x4 ∧ w.frozen? ⟨g, 0, none⟩ = false ∧ w.frozen? ⟨g, 1, none⟩ = false ∧ w.frozen? ⟨g, 2, none⟩ = false ∧ w.frozen? ⟨g, 3, none⟩ = false ∧ w.frozen? ⟨g, 4, none⟩ = false := ⟨h.c0, h.c1, h.c2, h.c3, h.c4, Blk.frozen h 0, Blk.frozen h 1, Blk.frozen h 2, Blk.frozen h 3, Blk.frozen h 4⟩
/-- A block of 6 cells. -/
def B6 (w : World) (g : Nat) (t : TypeId) (x0 x1 x2 x3 x4 x5 : Value) : Prop := Blk w g t #[x0, x1, x2, x3, x4, x5]
theorem B6.newat {w : World} {g : Nat} {t : TypeId} {x0 x1 x2 x3 x4 x5 : Value} (e : g = w.heap.size) : B6 (w.alloc (.cells #[x0, x1, x2, x3, x4, x5] t)) g t x0 x1 x2 x3 x4 x5 := Blk.newat e
theorem B6.alloc {w : World} {g : Nat} {t : TypeId} {x0 x1 x2 x3 x4 x5 : Value} (h : B6 w g t x0 x1 x2 x3 x4 x5) (o : Obj) : B6 (w.alloc o) g t x0 x1 x2 x3 x4 x5 := Blk.alloc h o
theorem B6.past {w : World} {g : Nat} {t : TypeId} {x0 x1 x2 x3 x4 x5 : Value} (h : B6 w g t x0 x1 x2 x3 x4 x5) {p : Addr} (hp : p.block ≠ g) (u : Value) : B6 (w.setCell p u) g t x0 x1 x2 x3 x4 x5 := Blk.past h hp u
theorem B6.drewN {w : World} {g : Nat} {t : TypeId} {x0 x1 x2 x3 x4 x5 : Value} (h : B6 w g t x0 x1 x2 x3 x4 x5) (k : Nat) : B6 (w.drewN k) g t x0 x1 x2 x3 x4 x5 := h
theorem B6.drew {w : World} {g : Nat} {t : TypeId} {x0 x1 x2 x3 x4 x5 : Value} (h : B6 w g t x0 x1 x2 x3 x4 x5) : B6 w.drew g t x0 x1 x2 x3 x4 x5 := h
theorem B6.below {w : World} {g : Nat} {t : TypeId} {x0 x1 x2 x3 x4 x5 : Value} {B : Nat} {w' : World} (h : B6 w g t x0 x1 x2 x3 x4 x5) (hb : Below B w w') (hg : g < B) : B6 w' g t x0 x1 x2 x3 x4 x5 := Blk.below h hb hg
theorem B6.lt {w : World} {g : Nat} {t : TypeId} {x0 x1 x2 x3 x4 x5 : Value} (h : B6 w g t x0 x1 x2 x3 x4 x5) : g < w.heap.size := Blk.lt h
theorem B6.set0 {w : World} {g : Nat} {t : TypeId} {x0 x1 x2 x3 x4 x5 : Value} (h : B6 w g t x0 x1 x2 x3 x4 x5) (u : Value) : B6 (w.setCell ⟨g, 0, none⟩ u) g t u x1 x2 x3 x4 x5 := Blk.set h 0 u
theorem B6.c0 {w : World} {g : Nat} {t : TypeId} {x0 x1 x2 x3 x4 x5 : Value} (h : B6 w g t x0 x1 x2 x3 x4 x5) : w.cell? ⟨g, 0, none⟩ = some x0 := Blk.cell h 0
theorem B6.set1 {w : World} {g : Nat} {t : TypeId} {x0 x1 x2 x3 x4 x5 : Value} (h : B6 w g t x0 x1 x2 x3 x4 x5) (u : Value) : B6 (w.setCell ⟨g, 1, none⟩ u) g t x0 u x2 x3 x4 x5 := Blk.set h 1 u
theorem B6.c1 {w : World} {g : Nat} {t : TypeId} {x0 x1 x2 x3 x4 x5 : Value} (h : B6 w g t x0 x1 x2 x3 x4 x5) : w.cell? ⟨g, 1, none⟩ = some x1 := Blk.cell h 1
theorem B6.set2 {w : World} {g : Nat} {t : TypeId} {x0 x1 x2 x3 x4 x5 : Value} (h : B6 w g t x0 x1 x2 x3 x4 x5) (u : Value) : B6 (w.setCell ⟨g, 2, none⟩ u) g t x0 x1 u x3 x4 x5 := Blk.set h 2 u
theorem B6.c2 {w : World} {g : Nat} {t : TypeId} {x0 x1 x2 x3 x4 x5 : Value} (h : B6 w g t x0 x1 x2 x3 x4 x5) : w.cell? ⟨g, 2, none⟩ = some x2 := Blk.cell h 2
theorem B6.set3 {w : World} {g : Nat} {t : TypeId} {x0 x1 x2 x3 x4 x5 : Value} (h : B6 w g t x0 x1 x2 x3 x4 x5) (u : Value) : B6 (w.setCell ⟨g, 3, none⟩ u) g t x0 x1 x2 u x4 x5 := Blk.set h 3 u
theorem B6.c3 {w : World} {g : Nat} {t : TypeId} {x0 x1 x2 x3 x4 x5 : Value} (h : B6 w g t x0 x1 x2 x3 x4 x5) : w.cell? ⟨g, 3, none⟩ = some x3 := Blk.cell h 3
theorem B6.set4 {w : World} {g : Nat} {t : TypeId} {x0 x1 x2 x3 x4 x5 : Value} (h : B6 w g t x0 x1 x2 x3 x4 x5) (u : Value) : B6 (w.setCell ⟨g, 4, none⟩ u) g t x0 x1 x2 x3 u x5 := Blk.set h 4 u
theorem B6.c4 {w : World} {g : Nat} {t : TypeId} {x0 x1 x2 x3 x4 x5 : Value} (h : B6 w g t x0 x1 x2 x3 x4 x5) : w.cell? ⟨g, 4, none⟩ = some x4 := Blk.cell h 4
theorem B6.set5 {w : World} {g : Nat} {t : TypeId} {x0 x1 x2 x3 x4 x5 : Value} (h : B6 w g t x0 x1 x2 x3 x4 x5) (u : Value) : B6 (w.setCell ⟨g, 5, none⟩ u) g t x0 x1 x2 x3 x4 u := Blk.set h 5 u
theorem B6.c5 {w : World} {g : Nat} {t : TypeId} {x0 x1 x2 x3 x4 x5 : Value} (h : B6 w g t x0 x1 x2 x3 x4 x5) : w.cell? ⟨g, 5, none⟩ = some x5 := Blk.cell h 5
theorem B6.facts {w : World} {g : Nat} {t : TypeId} {x0 x1 x2 x3 x4 x5 : Value} (h : B6 w g t x0 x1 x2 x3 x4 x5) : w.cell? ⟨g, 0, none⟩ = some x0 ∧ w.cell? ⟨g, 1, none⟩ = some x1 ∧ w.cell? ⟨g, 2, none⟩ = some x2 ∧ w.cell? ⟨g, 3, none⟩ = some x3 ∧ w.cell? ⟨g, 4, none⟩ = some x4 ∧ w.cell? ⟨g, 5, none⟩ = some x5 ∧ w.frozen? ⟨g, 0, none⟩ = false ∧ w.frozen? ⟨g, 1, none⟩ = false ∧ w.frozen? ⟨g, 2, none⟩ = false ∧ w.frozen? ⟨g, 3, none⟩ = false ∧ w.frozen? ⟨g, 4, none⟩ = false ∧ w.frozen? ⟨g, 5, none⟩ = false := ⟨h.c0, h.c1, h.c2, h.c3, h.c4, h.c5, Blk.frozen h 0, Blk.frozen h 1, Blk.frozen h 2, Blk.frozen h 3, Blk.frozen h 4, Blk.frozen h 5⟩
end Go.Proofs.YtbogafecgakgiaaDoor.Mem
