/- Plain data in memory: integers, truths, texts, structs and slices of them, as deep as they are. (Program-free.) -/
import Derived.Test.YtnfhikgfcdcpoaaDoorRec
import Derived.Deep.Slices
import Derived.LaidLaws
namespace Go.Proofs.YtnfhikgfcdcpoaaDoor
open Go.RowKit Mem

/-- A datum: a number, a truth, a text; a struct's fields; a slice's elements, each of n cells. -/
inductive D where
  | i (k : IntKind) (n : Int)
  | b (x : Bool)
  | s (t : ByteArray)
  | ag (fs : List D)
  | sl (n : Nat) (items : List D)
mutual
/-- Cells that are a datum, whose parts lie in blocks that S has. -/
def Lies (w : World) (S : Nat → Prop) : D → List Value → Prop
  | .i k n, cs => cs = [.int k n]
  | .b x, cs => cs = [.bool x]
  | .s t, cs => cs = [.string t]
  | .ag fs, cs => LiesA w S fs cs
  | .sl n items, cs => ∃ A c, cs = [.slice A items.length c] ∧ items.length ≤ c ∧ items.length ≤ maxLen ∧ RowD w S n items A
/-- Fields, one behind the other. -/
def LiesA (w : World) (S : Nat → Prop) : List D → List Value → Prop
  | [], cs => cs = []
  | d :: r, cs => ∃ c1 c2, cs = c1 ++ c2 ∧ Lies w S d c1 ∧ LiesA w S r c2
/-- A place from which data stand, each of n cells. -/
def RowD (w : World) (S : Nat → Prop) (n : Nat) : List D → Option Addr → Prop
  | [], _ => True
  | d :: r, A => ∃ g off cs, A = some ⟨g, off, none⟩ ∧ S g ∧ cs.length = n ∧ (∀ j, j < n → w.cell? ⟨g, off + j, none⟩ = cs[j]?) ∧ Lies w S d cs ∧ RowD w S n r (some ⟨g, off + n, none⟩)
end
section
variable {w w' : World} {S S' : Nat → Prop}
mutual
theorem Lies.keep (hk : ∀ p : Addr, S p.block → w'.cell? p = w.cell? p) (hS : ∀ g, S g → S' g) : ∀ {d : D} {cs : List Value}, Lies w S d cs → Lies w' S' d cs
  | .i _ _, cs, h => by unfold Lies at h ⊢; exact h
  | .b _, cs, h => by unfold Lies at h ⊢; exact h
  | .s _, cs, h => by unfold Lies at h ⊢; exact h
  | .ag fs, cs, h => by unfold Lies at h ⊢; exact LiesA.keep hk hS h
  | .sl n items, cs, h => by
    unfold Lies at h ⊢
    obtain ⟨A, c, e, h1, h2, h3⟩ := h
    exact ⟨A, c, e, h1, h2, RowD.keep hk hS h3⟩
theorem LiesA.keep (hk : ∀ p : Addr, S p.block → w'.cell? p = w.cell? p) (hS : ∀ g, S g → S' g) : ∀ {fs : List D} {cs : List Value}, LiesA w S fs cs → LiesA w' S' fs cs
  | [], cs, h => by unfold LiesA at h ⊢; exact h
  | d :: r, cs, h => by
    unfold LiesA at h ⊢
    obtain ⟨c1, c2, e, h1, h2⟩ := h
    exact ⟨c1, c2, e, Lies.keep hk hS h1, LiesA.keep hk hS h2⟩
theorem RowD.keep (hk : ∀ p : Addr, S p.block → w'.cell? p = w.cell? p) (hS : ∀ g, S g → S' g) {n : Nat} : ∀ {l : List D} {A : Option Addr}, RowD w S n l A → RowD w' S' n l A
  | [], A, _ => by unfold RowD; trivial
  | d :: r, A, h => by
    unfold RowD at h ⊢
    obtain ⟨g, off, cs, e, hg, hl, hc, h1, h2⟩ := h
    exact ⟨g, off, cs, e, hS g hg, hl, fun j hj => (hk _ hg).trans (hc j hj), Lies.keep hk hS h1, RowD.keep hk hS h2⟩
end
end
section
variable {w w' : World} {B B' : Nat} {d : D} {cs : List Value} {l : List D} {A : Option Addr} {n : Nat}
theorem Lies.below (h : Lies w (· < B) d cs) (hb : Below B w w') : Lies w' (· < B) d cs := h.keep (fun _ hp => hb.cell hp) fun _ h => h
theorem Lies.more (h : Lies w (· < B) d cs) (hB : B ≤ B') : Lies w (· < B') d cs := h.keep (fun _ _ => rfl) fun _ h => Nat.lt_of_lt_of_le h hB
theorem Lies.on (h : Lies w (· < w.heap.size) d cs) (hb : Below w.heap.size w w') : Lies w' (· < w'.heap.size) d cs := (h.below hb).more hb.size
theorem RowD.below (h : RowD w (· < B) n l A) (hb : Below B w w') : RowD w' (· < B) n l A := h.keep (fun _ hp => hb.cell hp) fun _ h => h
theorem RowD.more (h : RowD w (· < B) n l A) (hB : B ≤ B') : RowD w (· < B') n l A := h.keep (fun _ _ => rfl) fun _ h => Nat.lt_of_lt_of_le h hB
theorem RowD.on (h : RowD w (· < w.heap.size) n l A) (hb : Below w.heap.size w w') : RowD w' (· < w'.heap.size) n l A := (h.below hb).more hb.size
theorem RowD.nil_ (w : World) (S : Nat → Prop) (n : Nat) (A : Option Addr) : RowD w S n [] A := by unfold RowD; trivial
end
section
variable {w : World} {S : Nat → Prop}
/-- The cells of the i-th one. -/
theorem RowD.at_ {n : Nat} : ∀ {l : List D} {A : Option Addr} (_ : RowD w S n l A) {i : Nat} (hi : i < l.length), ∃ g off cs, A = some ⟨g, off, none⟩ ∧ S g ∧ cs.length = n ∧ (∀ j, j < n → w.cell? ⟨g, off + i * n + j, none⟩ = cs[j]?) ∧ Lies w S (l[i]'hi) cs
  | [], _, _, i, hi => absurd hi (Nat.not_lt_zero _)
  | d :: r, A, h, i, hi => by
    unfold RowD at h
    obtain ⟨g, off, cs, rfl, hg, hl, hc, h1, h2⟩ := h
    cases i with
    | zero => exact ⟨g, off, cs, rfl, hg, hl, fun j hj => by rw [Nat.zero_mul, Nat.add_zero]; exact hc j hj, h1⟩
    | succ i =>
      obtain ⟨g', off', cs', e, hg', hl', hc', h'⟩ := RowD.at_ h2 (i := i) (by simpa using hi)
      simp only [Option.some.injEq, Addr.mk.injEq, and_true] at e
      obtain ⟨rfl, rfl⟩ := e
      exact ⟨g, off, cs', rfl, hg, hl', fun j hj => by rw [show off + (i + 1) * n + j = off + n + i * n + j by rw [Nat.succ_mul]; omega]; exact hc' j hj, h'⟩
/-- One more behind. -/
theorem RowD.snoc {n : Nat} {d : D} {cs : List Value} {g off : Nat} (hg : S g) (hl : cs.length = n) (hd : Lies w S d cs) : ∀ {l : List D} {o : Nat}, RowD w S n l (some ⟨g, o, none⟩) → off = o + l.length * n → (∀ j, j < n → w.cell? ⟨g, off + j, none⟩ = cs[j]?) → RowD w S n (l ++ [d]) (some ⟨g, o, none⟩)
  | [], o, _, e, hc => by
    obtain rfl : off = o := by simpa using e
    show RowD w S n [d] _
    unfold RowD
    exact ⟨g, off, cs, rfl, hg, hl, hc, hd, RowD.nil_ _ _ _ _⟩
  | x :: r, o, h, e, hc => by
    unfold RowD at h
    obtain ⟨g', o', cs', e', hg', hl', hc', h1, h2⟩ := h
    simp only [Option.some.injEq, Addr.mk.injEq, and_true] at e'
    obtain ⟨rfl, rfl⟩ := e'
    show RowD w S n (x :: (r ++ [d])) _
    unfold RowD
    exact ⟨g, o, cs', rfl, hg, hl', hc', h1, RowD.snoc hg hl hd h2 (by rw [List.length_cons, Nat.succ_mul] at e; omega) hc⟩
/-- Data whose cells are told, one by one, are a row. -/
theorem RowD.of {n g off : Nat} (hg : S g) : ∀ (m : Nat) (f : Nat → D) (F : Nat → List Value), (∀ i, i < m → (F i).length = n ∧ (∀ j, j < n → w.cell? ⟨g, off + i * n + j, none⟩ = (F i)[j]?) ∧ Lies w S (f i) (F i)) → RowD w S n ((List.range m).map f) (some ⟨g, off, none⟩)
  | 0, _, _, _ => RowD.nil_ _ _ _ _
  | m + 1, f, F, h => by
    rw [List.range_succ, List.map_append, List.map_cons, List.map_nil]
    obtain ⟨h1, h2, h3⟩ := h m (by omega)
    exact RowD.snoc hg h1 h3 (RowD.of hg m f F fun i hi => h i (by omega)) (by simp) h2

theorem lies_i {k : IntKind} {n : Int} {cs : List Value} : Lies w S (.i k n) cs ↔ cs = [.int k n] := by unfold Lies; exact Iff.rfl
theorem lies_b {x : Bool} {cs : List Value} : Lies w S (.b x) cs ↔ cs = [.bool x] := by unfold Lies; exact Iff.rfl
theorem lies_s {t : ByteArray} {cs : List Value} : Lies w S (.s t) cs ↔ cs = [.string t] := by unfold Lies; exact Iff.rfl
theorem lies_ag {fs : List D} {cs : List Value} : Lies w S (.ag fs) cs ↔ LiesA w S fs cs := by unfold Lies; exact Iff.rfl
theorem lies_sl {n : Nat} {l : List D} {cs : List Value} : Lies w S (.sl n l) cs ↔ ∃ A c, cs = [.slice A l.length c] ∧ l.length ≤ c ∧ l.length ≤ maxLen ∧ RowD w S n l A := by
  conv => lhs; unfold Lies
theorem liesA_nil {cs : List Value} : LiesA w S [] cs ↔ cs = [] := by unfold LiesA; exact Iff.rfl
theorem liesA_cons {d : D} {r : List D} {cs : List Value} : LiesA w S (d :: r) cs ↔ ∃ c1 c2, cs = c1 ++ c2 ∧ Lies w S d c1 ∧ LiesA w S r c2 := by
  conv => lhs; unfold LiesA
end

/-! From what came in (as a row's condition reads it) to how it lies. -/
section
variable {H : Type} {enc : TypeId × Value → H} {P : Program} {w : World} {sp : Nat → Bool} {held : Bool}
mutual
/-- A datum has a type. -/
def Typed (P : Program) : D → TypeId → Prop
  | .i k n, t => P.underlying t = some (.int k) ∧ (Lit.int k n).wf = true
  | .b _, t => P.underlying t = some .bool
  | .s _, t => P.underlying t = some .string
  | .ag ds, t => ∃ fs, P.underlying t = some (.struct fs) ∧ TypedA P ds (fs.toList.map fun f => f.type)
  | .sl n items, t => ∃ e, P.underlying t = some (.slice e) ∧ n = P.cellsOf e ∧ TypedR P items e
def TypedA (P : Program) : List D → List TypeId → Prop
  | [], ts => ts = []
  | d :: r, ts => ∃ t q, ts = t :: q ∧ Typed P d t ∧ TypedA P r q
def TypedR (P : Program) : List D → TypeId → Prop
  | [], _ => True
  | d :: r, t => Typed P d t ∧ TypedR P r t
end
theorem TypedR.snoc {d : D} {t : TypeId} (hd : Typed P d t) : ∀ {l : List D}, TypedR P l t → TypedR P (l ++ [d]) t
  | [], _ => by show TypedR P [d] t; unfold TypedR TypedR; exact ⟨hd, trivial⟩
  | x :: r, h => by
    unfold TypedR at h
    show TypedR P (x :: (r ++ [d])) t
    unfold TypedR
    exact ⟨h.1, TypedR.snoc hd h.2⟩
theorem TypedR.at_ {t : TypeId} : ∀ {l : List D} (_ : TypedR P l t) {i : Nat} (hi : i < l.length), Typed P (l[i]'hi) t
  | [], _, i, hi => absurd hi (Nat.not_lt_zero _)
  | d :: r, h, i, hi => by
    unfold TypedR at h
    cases i with
    | zero => exact h.1
    | succ i => exact TypedR.at_ h.2 (i := i) (by simpa using hi)
/-- A set of types of plain data: integers, truths, texts, structs whose fields stand one behind the other, slices, of types of the set. -/
def plainSet (P : Program) (G : List TypeId) : Bool := G.all fun t => decide (1 ≤ P.cellsOf t) && match P.underlying t with
  | some .bool => P.cellsOf t == 1
  | some (.int _) => P.cellsOf t == 1
  | some .string => P.cellsOf t == 1
  | some (.slice e) => P.cellsOf t == 1 && G.contains e
  | some (.struct fs) => (fs.toList.all fun f => G.contains f.type) && P.cellsOf t == (fs.toList.map fun x => P.cellsOf x.type).sum &&
      (List.range fs.size).all fun i => match fs[i]? with
        | some x => x.offset == ((fs.toList.take i).map fun x => P.cellsOf x.type).sum
        | none => true
  | _ => false
/-- Fields that each lie, one behind the other, lie. -/
theorem liesA_of {w : World} {S : Nat → Prop} {cs : List Value} : ∀ (ts : List TypeId) (o : Nat), cs.length = o + (ts.map P.cellsOf).sum →
    (∀ i t, ts[i]? = some t → ∃ d, Lies w S d ((cs.drop (o + ((ts.take i).map P.cellsOf).sum)).take (P.cellsOf t)) ∧ Typed P d t) → ∃ ds, LiesA w S ds (cs.drop o) ∧ TypedA P ds ts
  | [], o, hl, _ => ⟨[], by unfold LiesA; simp at hl; simp [List.drop_eq_nil_of_le (Nat.le_of_eq hl)], by unfold TypedA; rfl⟩
  | t :: q, o, hl, h => by
    obtain ⟨d, h1, h2⟩ := h 0 t rfl
    simp only [List.take_zero, List.map_nil, List.sum_nil, Nat.add_zero] at h1
    obtain ⟨ds, h3, h4⟩ := liesA_of (cs := cs) q (o + P.cellsOf t) (by simp at hl; omega) (fun i u hu => by
      have := h (i + 1) u (by simpa using hu)
      simp only [List.take_succ_cons, List.map_cons, List.sum_cons] at this
      rw [Nat.add_assoc]; exact this)
    refine ⟨d :: ds, ?_, by unfold TypedA; exact ⟨t, q, rfl, h2, h4⟩⟩
    unfold LiesA
    exact ⟨_, _, (by rw [← List.drop_drop, List.take_append_drop] : cs.drop o = (cs.drop o).take (P.cellsOf t) ++ cs.drop (o + P.cellsOf t)), h1, h3⟩
theorem cells_slice {t e : TypeId} {fuel : Nat} {cs : List Value} {x : DataW H × List MemPlace} {base : Nat} (ht : P.underlying t = some (.slice e)) (h : DataW.trod enc P w base sp held fuel t cs = some x) :
    cs = [.slice none 0 0] ∨ ∃ a len cap n, fuel = n + 1 ∧ cs = [.slice (some a) len cap] ∧ len ≤ cap ∧ cap ≤ maxLen ∧ ∀ i, i < len → ∃ cs' y, w.cells? base (a.add (i * P.cellsOf e)) (P.cellsOf e) = some cs' ∧ DataW.trod enc P w base sp held n e cs' = some y := by
  rcases DataW.trod_slice ht h with ⟨e, _⟩ | ⟨a, len, cap, elems, rest, n, hf, hc, _, _, hl, hm, hlen, hel, _⟩
  · exact .inl e
  · refine .inr ⟨a, len, cap, n, hf, hc, hl, hm, fun i hi => ?_⟩
    have := hel i hi
    rw [List.getElem?_eq_getElem (by omega)] at this
    obtain ⟨cs', h1, h2⟩ := Option.bind_eq_some_iff.1 this
    exact ⟨cs', _, h1, h2⟩
theorem lies_of_trod (G : List TypeId) (hG : plainSet P G = true) : ∀ (N fuel : Nat), fuel ≤ N → ∀ {t : TypeId} {cs : List Value} {x : DataW H × List MemPlace}, t ∈ G → DataW.trod enc P w 0 sp held fuel t cs = some x →
    ∃ d, Lies w (· < w.heap.size) d cs ∧ Typed P d t ∧ cs.length = P.cellsOf t
  | 0, 0, _, _, _, _, _, h => by simp [DataW.trod] at h
  | N + 1, fuel, hf, t, cs, x, ht, h => by
    have g := List.all_eq_true.1 hG t ht
    rw [Bool.and_eq_true, decide_eq_true_eq] at g
    obtain ⟨gp, g⟩ := g
    split at g
    · rename_i hu
      have g1 : P.cellsOf t = 1 := by simpa using g
      cases fuel with
      | zero => simp [DataW.trod] at h
      | succ n =>
        unfold DataW.trod at h
        rw [hu] at h
        split at h
        all_goals first
          | cases h
          | skip
        all_goals simp_all
        rename_i b
        exact ⟨.b b, by unfold Lies; rfl, by unfold Typed; exact hu⟩
    · rename_i k hu
      have g1 : P.cellsOf t = 1 := by simpa using g
      obtain ⟨z, rfl, _, hw⟩ := DataW.trod_int hu h
      exact ⟨.i k z, by unfold Lies; rfl, by unfold Typed; exact ⟨hu, hw⟩, by rw [g1]; rfl⟩
    · rename_i hu
      have g1 : P.cellsOf t = 1 := by simpa using g
      obtain ⟨z, rfl, _⟩ := DataW.trod_string hu h
      exact ⟨.s z, by unfold Lies; rfl, by unfold Typed; exact hu, by rw [g1]; rfl⟩
    · rename_i e hu
      simp only [Bool.and_eq_true, beq_iff_eq, List.contains_iff_mem] at g
      obtain ⟨g1, ge⟩ := g
      rcases cells_slice hu h with rfl | ⟨a, len, cap, n, hfu, rfl, hlc, hcm, hx⟩
      · exact ⟨.sl (P.cellsOf e) [], by unfold Lies; exact ⟨none, 0, rfl, Nat.le_refl _, Nat.zero_le _, RowD.nil_ _ _ _ _⟩, by unfold Typed; exact ⟨e, hu, rfl, by unfold TypedR; trivial⟩, by rw [g1]; rfl⟩
      · obtain ⟨b, off, spot⟩ := a
        by_cases hp : spot = none ∧ b < w.heap.size
        · obtain ⟨rfl, hbl⟩ := hp
          have key : ∀ m, m ≤ len → ∃ l : List D, l.length = m ∧ RowD w (· < w.heap.size) (P.cellsOf e) l (some ⟨b, off, none⟩) ∧ TypedR P l e := by
            intro m
            induction m with
            | zero => exact fun _ => ⟨[], rfl, RowD.nil_ _ _ _ _, by unfold TypedR; trivial⟩
            | succ m ih =>
              intro hm
              obtain ⟨l, hl, hr, htr⟩ := ih (by omega)
              obtain ⟨cs', _, h1, h2⟩ := hx m (by omega)
              obtain ⟨d, hd, htd, hcl⟩ := lies_of_trod G hG N n (by omega) ge h2
              obtain ⟨_, hlen, hcell⟩ := World.cells?_some h1
              refine ⟨l ++ [d], by simp [hl], RowD.snoc (S := (· < w.heap.size)) hbl hcl hd hr (off := off + m * P.cellsOf e) (by rw [hl]) (fun j hj => ?_), htr.snoc htd⟩
              have := hcell j (by omega)
              rw [Mem.add_plain, Mem.add_plain] at this
              exact this
          obtain ⟨l, hl, hr, htr⟩ := key len (Nat.le_refl _)
          exact ⟨.sl (P.cellsOf e) l, by unfold Lies; exact ⟨_, cap, by rw [hl], by omega, by omega, hr⟩, by unfold Typed; exact ⟨e, hu, rfl, htr⟩, by rw [g1]; rfl⟩
        · have e0 : len = 0 := by
            rcases Nat.eq_zero_or_pos len with e0 | e0
            · exact e0
            · exfalso
              have e1 : 1 ≤ P.cellsOf e := by
                have := List.all_eq_true.1 hG e ge
                rw [Bool.and_eq_true, decide_eq_true_eq] at this
                exact this.1
              obtain ⟨cs', _, h1, _⟩ := hx 0 e0
              obtain ⟨_, hlen, hcell⟩ := World.cells?_some h1
              have := hcell 0 e1
              rw [Nat.zero_mul, show ((⟨b, off, spot⟩ : Addr).add 0).add 0 = ⟨b, off, spot⟩ by cases spot <;> rfl] at this
              have hv : ∃ v, w.cell? ⟨b, off, spot⟩ = some v := ⟨cs'[0]'(by omega), by rw [this]; exact List.getElem?_eq_getElem _⟩
              obtain ⟨v, hv⟩ := hv
              obtain rfl : spot = none := World.cell?_spot hv
              exact hp ⟨rfl, World.block_lt_of_cell? _ _ hv⟩
          subst e0
          exact ⟨.sl (P.cellsOf e) [], by unfold Lies; exact ⟨_, cap, rfl, Nat.zero_le _, Nat.zero_le _, RowD.nil_ _ _ _ _⟩, by unfold Typed; exact ⟨e, hu, rfl, by unfold TypedR; trivial⟩, by rw [g1]; rfl⟩
    · rename_i fs hu
      simp only [Bool.and_eq_true, beq_iff_eq, List.all_eq_true, List.contains_iff_mem] at g
      obtain ⟨⟨gf, hc⟩, ho⟩ := g
      obtain ⟨xs, m, hfm, rfl, hl, hn, hall⟩ := DataW.trod_struct hu h
      obtain ⟨ds, h1, h2⟩ := liesA_of (P := P) (w := w) (S := (· < w.heap.size)) (cs := cs) (fs.toList.map fun f => f.type) 0 (by rw [hl, hc, List.map_map]; simp; rfl) (fun i u hi => by
        rw [List.getElem?_map] at hi
        obtain ⟨f, hf', rfl⟩ := Option.map_eq_some_iff.1 hi
        have hi' : i < fs.size := by have := (List.getElem?_eq_some_iff.1 hf').1; simpa using this
        have hfa : fs[i]? = some f := by rw [← Array.getElem?_toList]; exact hf'
        have := hall i f hfa
        obtain ⟨y, hy⟩ : ∃ y, xs[i]? = some y := ⟨xs[i]'(by omega), List.getElem?_eq_getElem _⟩
        rw [hy] at this
        have o := ho i (List.mem_range.2 hi')
        rw [hfa] at o
        simp only [beq_iff_eq] at o
        rw [Nat.zero_add, ← List.map_take, List.map_map]
        have o2 : f.offset = (List.map (P.cellsOf ∘ fun f => f.type) (List.take i fs.toList)).sum := o
        rw [← o2]
        obtain ⟨d, hd, htd, _⟩ := lies_of_trod G hG N m (by omega) (gf f (List.mem_of_getElem? hf')) this
        exact ⟨d, hd, htd⟩)
      rw [List.drop_zero] at h1
      exact ⟨.ag ds, by unfold Lies; exact h1, by unfold Typed; exact ⟨fs, hu, h2⟩, hl⟩
    · cases g
end
end Go.Proofs.YtnfhikgfcdcpoaaDoor
