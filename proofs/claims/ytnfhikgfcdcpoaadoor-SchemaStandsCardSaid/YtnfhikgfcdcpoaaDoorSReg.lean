/- Two copies made, two boxes laid, each copy put into its box: in whatever order. (Program-free.) -/
import Derived.Test.YtnfhikgfcdcpoaaDoorSCpy
import Derived.Test.YtnfhikgfcdcpoaaDoorRegI
namespace Go.Proofs.YtnfhikgfcdcpoaaDoor
open Go.RowKit Mem

/-- The cells of some blocks are as they were. -/
def Kept (l h : Nat) (w w' : World) : Prop := ∀ p : Addr, l ≤ p.block → p.block < h → w'.cell? p = w.cell? p ∧ w'.frozen? p = w.frozen? p
theorem Kept.below {w w' : World} {B l h : Nat} (b : Below B w w') (hB : h ≤ B) : Kept l h w w' := fun _ _ h2 => ⟨b.cell (Nat.lt_of_lt_of_le h2 hB), b.frozen (Nat.lt_of_lt_of_le h2 hB)⟩
theorem Kept.set {w : World} {l h g i : Nat} (hg : g < l ∨ h ≤ g) (v : Value) : Kept l h w (w.setCell ⟨g, i, none⟩ v) := fun p h1 h2 =>
  ⟨World.cell?_setCell_other w _ _ _ (fun e => by subst e; simp at h1 h2; omega), World.frozen?_setCell _ _ _ _⟩
theorem Kept.trans {a b c : World} {l h : Nat} (k : Kept l h a b) (m : Kept l h b c) : Kept l h a c := fun p h1 h2 => ⟨((m p h1 h2).1).trans (k p h1 h2).1, ((m p h1 h2).2).trans (k p h1 h2).2⟩
/-- A value that is a schema, in blocks from one on, up to another, none of them frozen. -/
def Cp (sc : Sc) (w : World) (l h : Nat) (v : Value) : Prop :=
  ∃ A c, ∃ S : Nat → Prop, v = .agg #[.slice A sc.nodes.length c, .int .i64 sc.root] ∧ (∀ b, S b → l ≤ b ∧ b < h) ∧ Lies w S sc.enc [.slice A sc.nodes.length c, .int .i64 sc.root] ∧ ∀ p : Addr, S p.block → w.frozen? p = false
theorem Cp.keep {sc : Sc} {w w' : World} {l h : Nat} {v : Value} (k : Kept l h w w') (c : Cp sc w l h v) : Cp sc w' l h v := by
  obtain ⟨A, c, S, rfl, hS, hl, hf⟩ := c
  exact ⟨A, c, S, rfl, hS, hl.keep (fun p hp => (k p (hS _ hp).1 (hS _ hp).2).1) fun _ h => h, fun p hp => (k p (hS _ hp).1 (hS _ hp).2).2.trans (hf p hp)⟩
/-- A box of two cells. -/
def Bx (w : World) (l h : Nat) (v : Value) : Prop :=
  v = .pointer (some ⟨l, 0, none⟩) ∧ h = l + 1 ∧ (∃ x, w.cell? ⟨l, 0, none⟩ = some x) ∧ (∃ x, w.cell? ⟨l, 1, none⟩ = some x) ∧ w.frozen? ⟨l, 0, none⟩ = false ∧ w.frozen? ⟨l, 1, none⟩ = false
theorem Bx.keep {w w' : World} {l h : Nat} {v : Value} (k : Kept l h w w') (c : Bx w l h v) : Bx w' l h v := by
  obtain ⟨rfl, rfl, ⟨x, hx⟩, ⟨y, hy⟩, f0, f1⟩ := c
  have k0 := k ⟨l, 0, none⟩ (Nat.le_refl _) (Nat.lt_succ_self _)
  have k1 := k ⟨l, 1, none⟩ (Nat.le_refl _) (Nat.lt_succ_self _)
  exact ⟨rfl, rfl, ⟨x, k0.1.trans hx⟩, ⟨y, k1.1.trans hy⟩, k0.2.trans f0, k1.2.trans f1⟩
/-- The box holds the value. -/
def Hd (w : World) (l : Nat) (v : Value) : Prop := ∃ x y, v = .agg #[x, y] ∧ w.cell? ⟨l, 0, none⟩ = some x ∧ w.cell? ⟨l, 1, none⟩ = some y
theorem Hd.keep {w w' : World} {l h : Nat} {v : Value} (k : Kept l h w w') (hl : l < h) (c : Hd w l v) : Hd w' l v := by
  obtain ⟨x, y, rfl, h0, h1⟩ := c
  exact ⟨x, y, rfl, (k ⟨l, 0, none⟩ (Nat.le_refl _) hl).1.trans h0, (k ⟨l, 1, none⟩ (Nat.le_refl _) hl).1.trans h1⟩
/-- One copy and its box: which of the three is done. -/
structure Side (sc : Sc) (base : Nat) (w : World) (bc bb bs : Bool) (vc vb : Value) (lc hc lb hb : Nat) : Prop where
  cp : bc = true → Cp sc w lc hc vc ∧ base ≤ lc
  bx : bb = true → Bx w lb hb vb ∧ base ≤ lb
  hd : bs = true → bc = true ∧ bb = true ∧ Hd w lb vc
  szc : hc ≤ w.heap.size
  szb : hb ≤ w.heap.size
  ap : hc ≤ lb ∨ hb ≤ lc
section
variable {sc : Sc} {base : Nat} {w w' : World} {bc bb bs : Bool} {vc vb : Value} {lc hc lb hb : Nat}
theorem Side.keep (s : Side sc base w bc bb bs vc vb lc hc lb hb) (kc : Kept lc hc w w') (kb : Kept lb hb w w') (hz : w.heap.size ≤ w'.heap.size) : Side sc base w' bc bb bs vc vb lc hc lb hb where
  cp := fun h => ⟨(s.cp h).1.keep kc, (s.cp h).2⟩
  bx := fun h => ⟨(s.bx h).1.keep kb, (s.bx h).2⟩
  hd := fun h => by
    obtain ⟨h1, h2, h3⟩ := s.hd h
    have := (s.bx h2).1.2.1
    exact ⟨h1, h2, h3.keep kb (by omega)⟩
  szc := Nat.le_trans s.szc hz
  szb := Nat.le_trans s.szb hz
  ap := s.ap
/-- The copy is made. -/
theorem Side.copy (s : Side sc base w false bb bs vc vb lc hc lb hb) (b : Below w.heap.size w w') (hB : base ≤ w.heap.size) {v : Value} (c : Cp sc w' w.heap.size w'.heap.size v) : Side sc base w' true bb bs v vb w.heap.size w'.heap.size lb hb where
  cp := fun _ => ⟨c, hB⟩
  bx := fun h => ⟨(s.bx h).1.keep (Kept.below b s.szb), (s.bx h).2⟩
  hd := fun h => by have := (s.hd h).1; cases this
  szc := Nat.le_refl _
  szb := Nat.le_trans s.szb b.size
  ap := .inr s.szb
/-- The box is laid. -/
theorem Side.box (s : Side sc base w bc false bs vc vb lc hc lb hb) (hB : base ≤ w.heap.size) (T : TypeId) (x y : Value) :
    Side sc base (w.alloc (.cells #[x, y] T)) bc true bs vc (.pointer (some ⟨w.heap.size, 0, none⟩)) lc hc w.heap.size (w.heap.size + 1) where
  cp := fun h => ⟨(s.cp h).1.keep (Kept.below ((Below.refl w.heap.size w).alloc (Nat.le_refl _) _) s.szc), (s.cp h).2⟩
  bx := fun _ => ⟨⟨rfl, rfl, ⟨x, by rw [cell_of_row _ _ _ _ _ _ (heap_alloc_new w _)]; rfl⟩, ⟨y, by rw [cell_of_row _ _ _ _ _ _ (heap_alloc_new w _)]; rfl⟩, by unfold World.frozen?; rw [heap_alloc_new]; simp, by unfold World.frozen?; rw [heap_alloc_new]; simp⟩, hB⟩
  hd := fun h => by have := (s.hd h).2.1; cases this
  szc := by simp; exact Nat.le_succ_of_le s.szc
  szb := by simp
  ap := .inl s.szc
/-- The copy is put into its box. -/
theorem Side.put (s : Side sc base w true true bs vc vb lc hc lb hb) {x y : Value} (hv : vc = .agg #[x, y]) : Side sc base ((w.setCell ⟨lb, 0, none⟩ x).setCell ⟨lb, 1, none⟩ y) true true true vc vb lc hc lb hb := by
  obtain ⟨⟨rfl, rfl, ⟨x0, hx⟩, ⟨y0, hy⟩, f0, f1⟩, hB⟩ := s.bx rfl
  have ap := s.ap
  have k : Kept lc hc w ((w.setCell ⟨lb, 0, none⟩ x).setCell ⟨lb, 1, none⟩ y) := (Kept.set (by omega) x).trans (Kept.set (by omega) y)
  have hz : ((w.setCell ⟨lb, 0, none⟩ x).setCell ⟨lb, 1, none⟩ y).heap.size = w.heap.size := by simp [World.setCell]
  have e0 : ((w.setCell ⟨lb, 0, none⟩ x).setCell ⟨lb, 1, none⟩ y).cell? ⟨lb, 0, none⟩ = some x := by
    rw [cell_set, if_neg (by simp), cell_set, if_pos ⟨rfl, rfl⟩, hx]; rfl
  have e1 : ((w.setCell ⟨lb, 0, none⟩ x).setCell ⟨lb, 1, none⟩ y).cell? ⟨lb, 1, none⟩ = some y := by
    rw [cell_set, if_pos ⟨rfl, rfl⟩, cell_set, if_neg (by simp), hy]; rfl
  refine ⟨fun _ => ⟨(s.cp rfl).1.keep k, (s.cp rfl).2⟩, fun _ => ⟨⟨rfl, rfl, ⟨x, e0⟩, ⟨y, e1⟩, ?_, ?_⟩, hB⟩, fun _ => ⟨rfl, rfl, x, y, hv, e0, e1⟩, by rw [hz]; exact s.szc, by rw [hz]; exact s.szb, s.ap⟩
  · rw [World.frozen?_setCell, World.frozen?_setCell]; exact f0
  · rw [World.frozen?_setCell, World.frozen?_setCell]; exact f1
end
/-- Two of them, apart. -/
structure Sides (sc : Sc) (base : Nat) (w0 w : World) (bc bb bs : Bool) (vc vb : Value) (lc hc lb hb : Nat) (dc db ds : Bool) (uc ub : Value) (mc kc mb kb : Nat) : Prop where
  bel : Below base w0 w
  one : Side sc base w bc bb bs vc vb lc hc lb hb
  two : Side sc base w dc db ds uc ub mc kc mb kb
  cc : hc ≤ mc ∨ kc ≤ lc
  cb : hc ≤ mb ∨ kb ≤ lc
  bc_ : hb ≤ mc ∨ kc ≤ lb
  bb_ : hb ≤ mb ∨ kb ≤ lb
section
variable {sc : Sc} {base : Nat} {w0 w w' : World} {bc bb bs : Bool} {vc vb : Value} {lc hc lb hb : Nat} {dc db ds : Bool} {uc ub : Value} {mc kc mb kb : Nat}
theorem Sides.swap (s : Sides sc base w0 w bc bb bs vc vb lc hc lb hb dc db ds uc ub mc kc mb kb) : Sides sc base w0 w dc db ds uc ub mc kc mb kb bc bb bs vc vb lc hc lb hb :=
  ⟨s.bel, s.two, s.one, s.cc.symm, s.bc_.symm, s.cb.symm, s.bb_.symm⟩
theorem Sides.copy (s : Sides sc base w0 w false bb bs vc vb lc hc lb hb dc db ds uc ub mc kc mb kb) (hB : base ≤ w0.heap.size) (b : Below w.heap.size w w') {v : Value} (c : Cp sc w' w.heap.size w'.heap.size v) :
    Sides sc base w0 w' true bb bs v vb w.heap.size w'.heap.size lb hb dc db ds uc ub mc kc mb kb where
  bel := s.bel.trans (b.mono (Nat.le_trans hB s.bel.size))
  one := s.one.copy b (Nat.le_trans hB s.bel.size) c
  two := s.two.keep (Kept.below b s.two.szc) (Kept.below b s.two.szb) b.size
  cc := .inr s.two.szc
  cb := .inr s.two.szb
  bc_ := s.bc_
  bb_ := s.bb_
theorem Sides.box (s : Sides sc base w0 w bc false bs vc vb lc hc lb hb dc db ds uc ub mc kc mb kb) (hB : base ≤ w0.heap.size) (T : TypeId) (x y : Value) :
    Sides sc base w0 (w.alloc (.cells #[x, y] T)) bc true bs vc (.pointer (some ⟨w.heap.size, 0, none⟩)) lc hc w.heap.size (w.heap.size + 1) dc db ds uc ub mc kc mb kb where
  bel := s.bel.alloc (Nat.le_trans hB s.bel.size) _
  one := s.one.box (Nat.le_trans hB s.bel.size) T x y
  two := s.two.keep (Kept.below ((Below.refl w.heap.size w).alloc (Nat.le_refl _) _) s.two.szc) (Kept.below ((Below.refl w.heap.size w).alloc (Nat.le_refl _) _) s.two.szb) (by simp)
  cc := s.cc
  cb := s.cb
  bc_ := .inr s.two.szc
  bb_ := .inr s.two.szb
theorem Sides.put (s : Sides sc base w0 w true true bs vc vb lc hc lb hb dc db ds uc ub mc kc mb kb) {x y : Value} (hv : vc = .agg #[x, y]) :
    Sides sc base w0 ((w.setCell ⟨lb, 0, none⟩ x).setCell ⟨lb, 1, none⟩ y) true true true vc vb lc hc lb hb dc db ds uc ub mc kc mb kb := by
  have hk := (s.one.bx rfl).1.2.1
  have hB := (s.one.bx rfl).2
  have a1 := s.bc_; have a2 := s.bb_
  have hz : ((w.setCell ⟨lb, 0, none⟩ x).setCell ⟨lb, 1, none⟩ y).heap.size = w.heap.size := by simp [World.setCell]
  exact ⟨(s.bel.setCell hB x).setCell hB y, s.one.put hv, s.two.keep ((Kept.set (by omega) x).trans (Kept.set (by omega) y)) ((Kept.set (by omega) x).trans (Kept.set (by omega) y)) (by rw [hz]; exact Nat.le_refl _), s.cc, s.cb, s.bc_, s.bb_⟩
end
end Go.Proofs.YtnfhikgfcdcpoaaDoor
