/- Rows of numbers and of texts: appended onto, and as plain data. (Program-free.) -/
import Derived.Test.YtnfhikgfcdcpoaaDoorSch
import Derived.OwnWalk
import Derived.Test.YtnfhikgfcdcpoaaDoorBase
namespace Go.Proofs.YtnfhikgfcdcpoaaDoor.Mem
open Go Go.RowKit

section
variable {P : Program} (w : World) {t e : TypeId} {s : Nat} {z : Value} {y : Nat}
/-- append onto a slice of the call's own, of a row that stands in memory, or of none. -/
theorem run_appRs (hu : RecT P t e s z y) (base : Nat) (ty : TypeId) (v : Value) (n : Nat) (xs : List Value) (hown : OwnR w base e s v n xs) (B : Nat) (A : Option Addr) (m c : Nat) (news : List Value) (hl : news.length = m * s)
    (hr : Fl w B A news) (h1 : ∀ u ∈ news, u.oneCell' = true) (hlen : n + m ≤ 1000000000) (hbase : base ≤ w.heap.size) :
    ∃ v' w', (Builtin.append_ #[t, t] ty #[v, .slice A m c]).run P w = .ok v' w' ∧ OwnR w' base e s v' (n + m) (xs ++ news) ∧ Below base w w' := by
  obtain ⟨i, hi, hzz⟩ := Option.map_eq_some_iff.1 hu.info
  simp only [Prod.mk.injEq] at hzz
  obtain ⟨hz, hsz, hby⟩ := hzz
  have step : ∀ ad : Addr, (∀ j u, news[j]? = some u → w.cell? (ad.add j) = some u) → ∃ v' w', (Builtin.append_ #[t, t] ty #[v, .slice (some ad) m c]).run P w = .ok v' w' ∧ OwnR w' base e s v' (n + m) (xs ++ news) ∧ Below base w w' := by
    intro ad hc
    obtain ⟨v', w', h2, h3, h4, _⟩ := run_appR (P := P) w hu base ty v n xs hown ad m c news hl hc h1 hlen hbase
    exact ⟨v', w', h2, h3, h4⟩
  rcases hr with h | ⟨b, off, rfl, _, hc⟩
  · subst h
    have hm : m = 0 := by
      rcases Nat.eq_zero_or_pos m with h | h
      · exact h
      · have := Nat.mul_pos h hu.pos; simp at hl; omega
    subst hm
    cases A with
    | none =>
      refine ⟨v, w, ?_, by simpa using hown, Below.refl _ _⟩
      rcases hown.2 with ⟨rfl, rfl, hn⟩ | ⟨g, cap, cur, rfl, _, _, hnc, _⟩
      · simp [Builtin.append_, run_underlying hu.sl, sizeOf, typeInfo, hi, Builtin.lenOf, Builtin.firstCells]
      · simp [Builtin.append_, run_underlying hu.sl, sizeOf, typeInfo, hi, Builtin.lenOf, Builtin.firstCells, hnc, storeCells]
    | some ad => exact step ad (by intro j u hj; simp at hj)
  · refine step _ (fun j u hj => ?_)
    have hj' : j < news.length := (List.getElem?_eq_some_iff.1 hj).1
    rw [add_plain, hc j hj']
    exact hj
theorem wpList_appRs (hu : RecT P t e s z y) {ops : Array Oper} {rest : List Oper} {o : Oper} {a : Act} {Q : Exit → Act → World → Prop} (hgd : o.guard = none) (sO x : Operand)
    (ho : o.op = .call { callee := .builtin .append, args := #[sO, x], argTypes := #[t, t] })
    (base : Nat) (v : Value) (n : Nat) (xs : List Value) (hs : a.eval sO = v) (hown : OwnR w base e s v n xs) (B : Nat) (A : Option Addr) (m c : Nat) (news : List Value) (hx : a.eval x = .slice A m c) (hl : news.length = m * s)
    (hr : Fl w B A news) (h1 : ∀ u ∈ news, u.oneCell' = true) (hlen : n + m ≤ 1000000000) (hbase : base ≤ w.heap.size)
    (h : ∀ v' w', OwnR w' base e s v' (n + m) (xs ++ news) → Below base w w' → wpList P ops Q rest (a.put o.dst v') w') : wpList P ops Q (o :: rest) a w :=
  wpList_plain hgd fun _ hK => by
    obtain ⟨v', w', hrun, h2, h3⟩ := run_appRs (P := P) w hu base o.type v n xs hown B A m c news hl hr h1 hlen hbase
    unfold Oper.wp execOp
    simp only [ho, resolve, invoke, builtin, Sem.run_bind, Sem.run_pure, Result.andThen_ok, List.map_toArray, List.map_cons, List.map_nil, hs, hx, hrun]
    exact hK _ _ (h v' w' h2 h3)
end
end Go.Proofs.YtnfhikgfcdcpoaaDoor.Mem
namespace Go.Proofs.YtnfhikgfcdcpoaaDoor
open Go.RowKit Mem
/-- A row of the call's own, as a slice: its blocks are new. -/
theorem own_new {w : World} {base : Nat} {e : TypeId} {s : Nat} {v : Value} {n : Nat} {xs : List Value} (h : OwnR w base e s v n xs) : ∃ A c, v = .slice A n c ∧ n ≤ c ∧ FlS w (fun b => base ≤ b ∧ b < w.heap.size) A xs := by
  obtain ⟨A, c, rfl, hc, hf⟩ := h.fl
  refine ⟨A, c, rfl, hc, ?_⟩
  rcases hf with hf | ⟨b, off, rfl, hb, hf⟩
  · exact .inl hf
  · exact .inr ⟨b, off, rfl, ⟨(h.base_le (g := b) rfl).1, hb⟩, hf⟩
theorem row_of {α : Type} {w : World} {S : Nat → Prop} (d : α → D) (v : α → Value) (hd : ∀ x, Lies w S (d x) [v x]) {l : List α} {A : Option Addr} (h : FlS w S A (l.map v)) : RowD w S 1 (l.map d) A := by
  rcases l with _ | ⟨x0, r⟩
  · exact RowD.nil_ _ _ _ _
  · rcases h with h | ⟨g, off, rfl, hg, hc⟩
    · simp at h
    · have := RowD.of (w := w) (S := S) (n := 1) (g := g) (off := off) hg (x0 :: r).length (fun i => d ((x0 :: r).getD i x0)) (fun i => [v ((x0 :: r).getD i x0)]) (fun i hi => by
        refine ⟨rfl, fun j hj => ?_, hd _⟩
        obtain rfl : j = 0 := by omega
        rw [Nat.mul_one, Nat.add_zero, hc i (by simpa using hi), List.getElem?_map, List.getElem?_eq_getElem hi]
        simp [List.getD, List.getElem?_eq_getElem hi])
      have e : (List.range (x0 :: r).length).map (fun i => d ((x0 :: r).getD i x0)) = (x0 :: r).map d := by
        apply List.ext_getElem
        · simp
        · intro i h1 h2
          have hi : i < (x0 :: r).length := by simpa using h1
          rw [List.getElem_map, List.getElem_map, List.getElem_range, List.getD, List.getElem?_eq_getElem hi]
          rfl
      rw [e] at this
      exact this
theorem row_ints {w : World} {S : Nat → Prop} {l : List Int} {A : Option Addr} (h : FlS w S A (l.map (Value.int .i64))) : RowD w S 1 (l.map (D.i .i64)) A := row_of (D.i .i64) (Value.int .i64) (fun _ => lies_i.2 rfl) h
theorem ints_fl {w : World} {S : Nat → Prop} {l : List Int} {A : Option Addr} (h : RowD w S 1 (l.map (D.i .i64)) A) : FlS w S A (l.map (Value.int .i64)) := by
  rcases l with _ | ⟨x0, r⟩
  · exact .inl rfl
  · obtain ⟨g, off, rfl, hg, _⟩ := ints_at h (i := 0) (by simp)
    refine .inr ⟨g, off, rfl, hg, fun k hk => ?_⟩
    have hk' : k < (x0 :: r).length := by simpa using hk
    obtain ⟨g', off', e, _, hc⟩ := ints_at h hk'
    simp only [Option.some.injEq, Addr.mk.injEq, and_true] at e
    obtain ⟨rfl, rfl⟩ := e
    rw [hc, List.getElem?_map, List.getElem?_eq_getElem hk']
    rfl
theorem fls_fl {w : World} {S : Nat → Prop} {B : Nat} {A : Option Addr} {xs : List Value} (h : FlS w S A xs) (hS : ∀ b, S b → b < B) : Fl w B A xs := by
  rcases h with h | ⟨g, off, rfl, hg, hc⟩
  · exact .inl h
  · exact .inr ⟨g, off, rfl, hS g hg, hc⟩
end Go.Proofs.YtnfhikgfcdcpoaaDoor
/- Rows that a call makes with room ahead, and kids as a row of the call's own. -/
namespace Go.Proofs.YtnfhikgfcdcpoaaDoor.Mem
open Go Go.RowKit

section
variable {P : Program} (w : World) {t e : TypeId} {s : Nat} {z : Value} {y : Nat}
/-- A literal of no element. -/
theorem own_litR (e : TypeId) (s : Nat) {base : Nat} (hb : base ≤ w.heap.size) : OwnR (w.alloc (.cells #[] e)) base e s (.slice (some ⟨w.heap.size, 0, none⟩) 0 0) 0 [] :=
  ⟨by simp, .inr ⟨w.heap.size, 0, #[], rfl, hb, heap_alloc_new w _, Nat.le_refl _, Nat.zero_le _, by simp, by simp⟩⟩
/-- 'make([]T, 0, n)'. -/
theorem wpList_mkR0 (hu : RecT P t e s z y) {ops : Array Oper} {rest : List Oper} {o : Oper} {a : Act} {Q : Exit → Act → World → Prop} (hgd : o.guard = none) (l c : Operand)
    (ho : o.op = .makeSlice t l c) (base : Nat) (C : Int) (n : Nat) (hl : a.eval l = .int .i64 0) (hc : a.eval c = .int .i64 C) (hC : C = (n : Int)) (hn : n ≤ 1000000000) (hbase : base ≤ w.heap.size)
    (h : ∀ v' w', OwnR w' base e s v' 0 [] → Below base w w' → wpList P ops Q rest (a.put o.dst v') w') : wpList P ops Q (o :: rest) a w := by
  obtain ⟨i, hi, hz, hs, hy⟩ := info_parts hu.info
  refine wpList_make_own w hgd l c t ho base e i z s hu.sl hi hz hs .i64 .i64 C n hl hc hC ?_ (by unfold maxLen; omega) hbase fun w' r1 r2 => h _ w' r1 ((Below.refl _ _).grown r2 hbase (fun _ h => by simp at h))
  rw [hy]
  have := Nat.mul_le_mul hu.by_ hn
  omega
/-- 'make([]T, n)'. -/
theorem wpList_mkRn (hu : RecT P t e s z y) {ops : Array Oper} {rest : List Oper} {o : Oper} {a : Act} {Q : Exit → Act → World → Prop} (hgd : o.guard = none) (l c : Operand)
    (ho : o.op = .makeSlice t l c) (base : Nat) (L C : Int) (n : Nat) (hl : a.eval l = .int .i64 L) (hc : a.eval c = .int .i64 C) (hL : L = (n : Int)) (hC : C = (n : Int)) (hn : n ≤ 1000000000) (hbase : base ≤ w.heap.size)
    (h : ∀ w', OwnR w' base e s (.slice (some ⟨w.heap.size, 0, none⟩) n n) n (madeCells z.cells (n * s)).toList → Below base w w' → wpList P ops Q rest (a.put o.dst (.slice (some ⟨w.heap.size, 0, none⟩) n n)) w') : wpList P ops Q (o :: rest) a w := by
  obtain ⟨i, hi, hz, hs, hy⟩ := info_parts hu.info
  refine wpList_make_full w hgd l c t ho base e i z s hu.sl hi hz hs .i64 .i64 L C n hl hc hL hC ?_ (by unfold maxLen; omega) hbase fun w' r1 r2 => h w' r1 ((Below.refl _ _).grown r2 hbase (fun _ h => by simp at h))
  rw [hy]
  have := Nat.mul_le_mul hu.by_ hn
  omega
end
end Go.Proofs.YtnfhikgfcdcpoaaDoor.Mem
namespace Go.Proofs.YtnfhikgfcdcpoaaDoor
open Go.ChangeShapes Go.WideShapes Go.ChangeAt Go.RowKit Mem

theorem intT : RecT Tryd.prog 31 3 1 (.int .i64 0) 8 := ⟨by kernel_rfl, by kernel_rfl, rfl, by decide, by decide⟩
theorem textT : RecT Tryd.prog 29 9 1 (.string ⟨#[]⟩) 16 := ⟨by kernel_rfl, by kernel_rfl, rfl, by decide, by decide⟩

/-- Kids, as a row of the call's own. -/
def KidsA (l : List Int) (w : World) (e : Ending) (w' : World) : Prop :=
  ∃ A c, e = .returned (.slice A l.length c) ∧ Len l.length c ∧ RowD w' (fun b => w.heap.size ≤ b ∧ b < w'.heap.size) 1 (l.map (D.i .i64)) A ∧ Below w.heap.size w w'
theorem kids_ret {l : List Int} {n : Nat} {base : Nat} {v : Value} {w w' : World} {xs : List Value} (h : OwnR w' base 3 1 v n xs) (hb : w.heap.size ≤ base) (hx : xs = l.map (Value.int .i64)) (hn : n = l.length) (hl : l.length ≤ 1000000000) (bl : Below w.heap.size w w') :
    KidsA l w (.returned v) w' := by
  obtain ⟨A, c, rfl, hc, hf⟩ := own_new h
  subst hx hn
  refine ⟨A, c, rfl, ⟨hc, by unfold maxLen; omega⟩, row_ints ?_, bl⟩
  rcases hf with hf | ⟨g, o, e, ⟨h1, h2⟩, h3⟩
  · exact .inl hf
  · exact .inr ⟨g, o, e, ⟨Nat.le_trans hb h1, h2⟩, h3⟩

end Go.Proofs.YtnfhikgfcdcpoaaDoor
/- Rows of plain data that a call gathers, one by one, each with parts in blocks of its own. (Program-free.) -/
namespace Go.Proofs.YtnfhikgfcdcpoaaDoor
open Go.RowKit Mem

/-- Cells that are data, one behind the other, each of s cells. -/
def ElsS (w : World) (S : Nat → Prop) (s : Nat) : List D → List Value → Prop
  | [], xs => xs = []
  | d :: r, xs => ∃ c1 c2, xs = c1 ++ c2 ∧ c1.length = s ∧ Lies w S d c1 ∧ ElsS w S s r c2
section
variable {w w' : World} {S S' : Nat → Prop} {s : Nat}
theorem ElsS.keep (hk : ∀ p : Addr, S p.block → w'.cell? p = w.cell? p) (hS : ∀ g, S g → S' g) : ∀ {ds : List D} {xs : List Value}, ElsS w S s ds xs → ElsS w' S' s ds xs
  | [], _, h => h
  | _ :: _, _, ⟨c1, c2, e, h1, h2, h3⟩ => ⟨c1, c2, e, h1, h2.keep hk hS, ElsS.keep hk hS h3⟩
theorem ElsS.snoc {d : D} {c : List Value} (hl : c.length = s) (hd : Lies w S d c) : ∀ {ds : List D} {xs : List Value}, ElsS w S s ds xs → ElsS w S s (ds ++ [d]) (xs ++ c)
  | [], xs, h => by
    have e : xs = [] := h
    subst e
    exact ⟨c, [], by simp, hl, hd, rfl⟩
  | x :: r, xs, ⟨c1, c2, e, h1, h2, h3⟩ => ⟨c1, c2 ++ c, by rw [e, List.append_assoc], h1, h2, ElsS.snoc hl hd h3⟩
theorem ElsS.row {g : Nat} (hg : S g) : ∀ {ds : List D} {xs : List Value} {off : Nat}, ElsS w S s ds xs → (∀ k, k < xs.length → w.cell? ⟨g, off + k, none⟩ = xs[k]?) → RowD w S s ds (some ⟨g, off, none⟩)
  | [], _, _, _, _ => RowD.nil_ _ _ _ _
  | d :: r, xs, off, ⟨c1, c2, e, h1, h2, h3⟩, hc => by
    subst e
    unfold RowD
    refine ⟨g, off, c1, rfl, hg, h1, fun j hj => ?_, h2, ElsS.row hg h3 fun k hk => ?_⟩
    · rw [hc j (by rw [List.length_append]; omega), List.getElem?_append_left (by omega)]
    · rw [show off + s + k = off + (s + k) by omega, hc (s + k) (by rw [List.length_append]; omega), List.getElem?_append_right (by omega), show s + k - c1.length = k by omega]
end
/-- Unfrozen blocks. -/
def Unf (w : World) (S : Nat → Prop) : Prop := ∀ p : Addr, S p.block → w.frozen? p = false
/-- A datum whose parts lie in unfrozen blocks from one on. -/
def NewD (w : World) (l : Nat) (d : D) (cs : List Value) : Prop := ∃ S : Nat → Prop, (∀ b, S b → l ≤ b ∧ b < w.heap.size) ∧ Lies w S d cs ∧ Unf w S
/-- A row of data in unfrozen blocks from one on. -/
def NewR (w : World) (l s : Nat) (ds : List D) (A : Option Addr) : Prop := ∃ S : Nat → Prop, (∀ b, S b → l ≤ b ∧ b < w.heap.size) ∧ RowD w S s ds A ∧ Unf w S
section
variable {w w' : World} {l l' s : Nat} {d : D} {cs : List Value} {ds : List D} {A : Option Addr}
theorem Unf.below {S : Nat → Prop} (h : Unf w S) (hS : ∀ b, S b → b < w.heap.size) (hb : Below w.heap.size w w') : Unf w' S := fun p hp => (hb.frozen (hS _ hp)).trans (h p hp)
theorem NewD.below (h : NewD w l d cs) (hb : Below w.heap.size w w') : NewD w' l d cs := by
  obtain ⟨S, h1, h2, h3⟩ := h
  exact ⟨S, fun b hs => ⟨(h1 b hs).1, Nat.lt_of_lt_of_le (h1 b hs).2 hb.size⟩, h2.keep (fun p hp => hb.cell (h1 _ hp).2) fun _ h => h, h3.below (fun b hs => (h1 b hs).2) hb⟩
theorem NewR.below (h : NewR w l s ds A) (hb : Below w.heap.size w w') : NewR w' l s ds A := by
  obtain ⟨S, h1, h2, h3⟩ := h
  exact ⟨S, fun b hs => ⟨(h1 b hs).1, Nat.lt_of_lt_of_le (h1 b hs).2 hb.size⟩, h2.keep (fun p hp => hb.cell (h1 _ hp).2) fun _ h => h, h3.below (fun b hs => (h1 b hs).2) hb⟩
theorem NewD.less (h : NewD w l d cs) (hl : l' ≤ l) : NewD w l' d cs := by
  obtain ⟨S, h1, h2⟩ := h
  exact ⟨S, fun b hs => ⟨Nat.le_trans hl (h1 b hs).1, (h1 b hs).2⟩, h2⟩
theorem NewR.less (h : NewR w l s ds A) (hl : l' ≤ l) : NewR w l' s ds A := by
  obtain ⟨S, h1, h2⟩ := h
  exact ⟨S, fun b hs => ⟨Nat.le_trans hl (h1 b hs).1, (h1 b hs).2⟩, h2⟩
/-- A store ahead of it. -/
theorem NewD.set (h : NewD w l d cs) {g i : Nat} (hg : g < l) (v : Value) : NewD (w.setCell ⟨g, i, none⟩ v) l d cs := by
  obtain ⟨S, h1, h2, h3⟩ := h
  refine ⟨S, fun b hs => ⟨(h1 b hs).1, by simp [World.setCell]; exact (h1 b hs).2⟩, h2.keep (fun p hp => World.cell?_setCell_other w _ _ _ (fun e => ?_)) fun _ h => h, fun p hp => (World.frozen?_setCell _ _ _ _).trans (h3 p hp)⟩
  subst e; have := (h1 _ hp).1; simp at this; omega
theorem NewR.set (h : NewR w l s ds A) {g i : Nat} (hg : g < l) (v : Value) : NewR (w.setCell ⟨g, i, none⟩ v) l s ds A := by
  obtain ⟨S, h1, h2, h3⟩ := h
  refine ⟨S, fun b hs => ⟨(h1 b hs).1, by simp [World.setCell]; exact (h1 b hs).2⟩, h2.keep (fun p hp => World.cell?_setCell_other w _ _ _ (fun e => ?_)) fun _ h => h, fun p hp => (World.frozen?_setCell _ _ _ _).trans (h3 p hp)⟩
  subst e; have := (h1 _ hp).1; simp at this; omega
theorem NewR.nil_ (w : World) (l s : Nat) (A : Option Addr) : NewR w l s [] A := ⟨fun _ => False, fun _ h => h.elim, RowD.nil_ _ _ _ _, fun _ h => h.elim⟩
end
/-- What is gathered. -/
def GatS (w : World) (base : Nat) (e : TypeId) (s : Nat) (v : Value) (ds : List D) : Prop :=
  ∃ (S : Nat → Prop) (xs : List Value), OwnR w base e s v ds.length xs ∧ ElsS w S s ds xs ∧ (∀ b, S b → base ≤ b ∧ b < w.heap.size ∧ some b ≠ v.ownBlock) ∧ Unf w S
section
variable {w w' : World} {base : Nat} {e : TypeId} {s : Nat} {v : Value} {ds : List D}
theorem GatS.none_ (w : World) (base : Nat) (e : TypeId) (s : Nat) : GatS w base e s (.slice none 0 0) [] :=
  ⟨fun _ => False, [], OwnR.none_ _ _ _ _, rfl, fun _ h => h.elim, fun _ h => h.elim⟩
theorem GatS.below (h : GatS w base e s v ds) (hb : Below w.heap.size w w') : GatS w' base e s v ds := by
  obtain ⟨S, xs, h1, h2, h3, h4⟩ := h
  exact ⟨S, xs, h1.below hb, h2.keep (fun p hp => hb.cell (h3 _ hp).2.1) fun _ h => h, fun b hs => ⟨(h3 b hs).1, Nat.lt_of_lt_of_le (h3 b hs).2.1 hb.size, (h3 b hs).2.2⟩, h4.below (fun b hs => (h3 b hs).2.1) hb⟩
theorem GatS.done (h : GatS w base e s v ds) : ∃ A c, v = .slice A ds.length c ∧ ds.length ≤ c ∧ NewR w base s ds A := by
  obtain ⟨S, xs, h1, h2, h3, h4⟩ := h
  obtain ⟨A, c, ev, hc, hf⟩ := h1.fl
  refine ⟨A, c, ev, hc, ?_⟩
  rcases h1.2 with ⟨e0, hn⟩ | ⟨g, cap, cur, e1, hg, hh, _⟩
  · obtain rfl : ds = [] := List.length_eq_zero_iff.1 hn
    exact NewR.nil_ _ _ _ _
  · have eA : A = some ⟨g, 0, none⟩ := by rw [ev] at e1; injection e1
    subst eA
    have hgs : g < w.heap.size := (Array.getElem?_eq_some_iff.1 hh).1
    refine ⟨fun b => S b ∨ b = g, fun b hs => ?_, ?_, fun p hp => ?_⟩
    · rcases hs with hs | rfl
      · exact ⟨(h3 b hs).1, (h3 b hs).2.1⟩
      · exact ⟨hg, hgs⟩
    · refine ElsS.row (.inr rfl) (h2.keep (fun _ _ => rfl) fun _ h => .inl h) fun k hk => ?_
      rcases hf with hf | ⟨b, off, e2, _, hf⟩
      · rw [hf] at hk; exact absurd hk (Nat.not_lt_zero _)
      · simp only [Option.some.injEq, Addr.mk.injEq, and_true] at e2
        obtain ⟨rfl, rfl⟩ := e2
        exact hf k hk
    · rcases hp with hp | hp
      · exact h4 p hp
      · unfold World.frozen?; rw [hp, hh]; simp
end
section
open Go
variable {P : Program} (w : World) {t e : TypeId} {s : Nat} {z : Value} {y : Nat}
/-- The step of a walk at an append of one datum, which the walk has laid into a block of its own. -/
theorem wpList_gat (hu : RecT P t e s z y) {ops : Array Oper} {rest : List Oper} {o : Oper} {a : Act} {Q : Exit → Act → World → Prop} (hgd : o.guard = none) (sO x : Operand)
    (ho : o.op = .call { callee := .builtin .append, args := #[sO, x], argTypes := #[t, t] })
    (base : Nat) (v : Value) (ds : List D) (hs : a.eval sO = v) (w0 : World) (hg : GatS w0 base e s v ds) (h0 : Below w0.heap.size w0 w) (c : Nat) (cs : Array Value) (hx : a.eval x = .slice (some ⟨w.heap.size, 0, none⟩) 1 c) (hl : cs.size = s)
    (h1 : ∀ u ∈ cs.toList, u.oneCell' = true) (hlen : ds.length + 1 ≤ 1000000000) (hbase : base ≤ w0.heap.size) (d : D) (hd : NewD w w0.heap.size d cs.toList)
    (h : ∀ v' w', GatS w' base e s v' (ds ++ [d]) → Below base w w' → wpList P ops Q rest (a.put o.dst v') w') : wpList P ops Q (o :: rest) a (w.alloc (.cells cs e)) := by
  obtain ⟨S, xs, k1, k2, k3, k4⟩ := hg.below h0
  obtain ⟨S1, m1, m2, m3⟩ := hd
  have ow : ∀ g, v.ownBlock = some g → g < w0.heap.size := fun g e0 => by
    obtain ⟨S', xs', q1, _⟩ := hg
    exact (q1.base_le e0.symm).2
  refine wpList_appRg1 w hu hgd _ rfl sO x ho base v ds.length xs hs k1 c cs hx hl h1 hlen (Nat.le_trans hbase h0.size) fun v' w' r1 r2 r3 r4 => h v' w' ⟨fun b => S b ∨ S1 b, xs ++ cs.toList, by simpa using r1, ?_, fun b hs => ?_, fun p hp => ?_⟩ r2
  · refine ElsS.snoc (by simpa using hl) (m2.keep (fun p hp => ?_) fun _ h => .inr h) (k2.keep (fun p hp => ?_) fun _ h => .inl h)
    · have a1 := m1 _ hp
      exact World.cell?_of_block (r3.block _ a1.2 (fun e0 => by have := ow _ e0.symm; omega))
    · have a1 := k3 _ hp
      exact World.cell?_of_block (r3.block _ a1.2.1 a1.2.2)
  · rcases hs with hs | hs
    · have a1 := k3 b hs
      exact ⟨a1.1, Nat.lt_of_lt_of_le a1.2.1 r3.size, ne_own a1.2.2 r4 (by omega)⟩
    · have a1 := m1 b hs
      exact ⟨Nat.le_trans hbase a1.1, Nat.lt_of_lt_of_le a1.2 r3.size, ne_own (fun e0 => by have := ow _ e0.symm; omega) r4 (by omega)⟩
  · rcases hp with hp | hp
    · have a1 := k3 _ hp
      exact (World.frozen?_of_block (r3.block _ a1.2.1 a1.2.2)).trans (k4 p hp)
    · have a1 := m1 _ hp
      exact (World.frozen?_of_block (r3.block _ a1.2 (fun e0 => by have := ow _ e0.symm; omega))).trans (m3 p hp)
end
end Go.Proofs.YtnfhikgfcdcpoaaDoor
