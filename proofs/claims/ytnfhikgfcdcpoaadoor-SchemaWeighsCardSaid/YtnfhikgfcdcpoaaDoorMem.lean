/- Bytes in memory: a slice of bytes that reads as a list; one that is the call's own and is appended to; the string of it. -/
import Derived.Below
import Derived.Maps.AppendAt
import Derived.Deep.AppendLies
import Derived.RegionTactic
import Derived.OwnWalk
import Derived.Laws.OwnMore
import Derived.Laws.BytesArg
import Derived.Deep.Draws
import Derived.Lib.Hide
namespace Go.Proofs.YtnfhikgfcdcpoaaDoor.Mem
open Go.RowKit

theorem bel_drewN {B : Nat} {a w : World} (h : Below B a w) (n : Nat) : Below B a (w.drewN n) := ⟨h.os, h.tape, h.output, h.size, h.block⟩

/-- A block that is known whole. -/
def Blk (w : World) (g : Nat) (t : TypeId) (cs : Array Value) : Prop := w.heap[g]? = some (.cells cs t (0, 0))
theorem Blk.lt {w : World} {g : Nat} {t : TypeId} {cs : Array Value} (h : Blk w g t cs) : g < w.heap.size := by
  rcases Nat.lt_or_ge g w.heap.size with hlt | hge
  · exact hlt
  · unfold Blk at h; rw [Array.getElem?_eq_none hge] at h; cases h
theorem Blk.cell {w : World} {g : Nat} {t : TypeId} {cs : Array Value} (h : Blk w g t cs) (i : Nat) : w.cell? ⟨g, i, none⟩ = cs[i]? := cell_of_row w g i cs t (0, 0) h
theorem Blk.new (w : World) (t : TypeId) (cs : Array Value) : Blk (w.alloc (.cells cs t)) w.heap.size t cs := heap_alloc_new w _
theorem Blk.alloc {w : World} {g : Nat} {t : TypeId} {cs : Array Value} (h : Blk w g t cs) (o : Obj) : Blk (w.alloc o) g t cs := (Below.heap_alloc w o g h.lt).trans h
theorem Blk.below {w w' : World} {g B : Nat} {t : TypeId} {cs : Array Value} (h : Blk w g t cs) (hb : Below B w w') (hg : g < B) : Blk w' g t cs := (hb.block g hg).trans h
theorem Blk.drewN {w : World} {g : Nat} {t : TypeId} {cs : Array Value} (h : Blk w g t cs) (k : Nat) : Blk (w.drewN k) g t cs := h

/-- A byte as a cell's value. -/
def cel (x : UInt8) : Value := .int .u8 ((x.toNat : Nat) : Int)
def cels (l : List UInt8) : List Value := l.map cel
theorem cels_len (l : List UInt8) : (cels l).length = l.length := by simp [cels]
theorem cels_app (l m : List UInt8) : cels (l ++ m) = cels l ++ cels m := by simp [cels]
theorem cel_one (x : UInt8) : (cel x).oneCell' = true := rfl
theorem cels_one (l : List UInt8) : ∀ u ∈ cels l, u.oneCell' = true := by
  intro u hu
  obtain ⟨x, _, rfl⟩ := List.mem_map.1 hu
  rfl
theorem cels_at {l : List UInt8} {k : Nat} (h : k < l.length) : (cels l)[k]? = some (cel (l.getD k 0)) := by
  unfold cels
  simp [List.getElem?_eq_getElem h, List.getD]

/-- What the program says of its bytes: t is the type of slices of e, e that of bytes. -/
structure U8 (P : Program) (t e : TypeId) : Prop where
  sl : P.underlying t = some (.slice e)
  el : P.underlying e = some (.int .u8)
  info : (P.info? e).map (fun i => (i.zero, i.size, i.bytes)) = some (some (.int .u8 0), 1, 1)

/-- A place and a list of bytes: from there on the cells hold them; all below block B. Of no byte the place may be whatever. -/
def Bys (w : World) (B : Nat) (A : Option Addr) (l : List UInt8) : Prop :=
  l = [] ∨ ∃ b off, A = some ⟨b, off, none⟩ ∧ b < B ∧ ∀ k, k < l.length → w.cell? ⟨b, off + k, none⟩ = some (cel (l.getD k 0))

theorem add_plain (b off k : Nat) : (⟨b, off, none⟩ : Addr).add k = ⟨b, off + k, none⟩ := by unfold Addr.add; split <;> simp_all

section
variable {w w' : World} {B B' : Nat} {A : Option Addr} {l : List UInt8}

theorem Bys.keep (h : Bys w B A l) (hk : ∀ p : Addr, p.block < B → w'.cell? p = w.cell? p) : Bys w' B A l := by
  rcases h with h | ⟨b, off, rfl, hb, hc⟩
  · exact .inl h
  · exact .inr ⟨b, off, rfl, hb, fun k hl => (hk _ hb).trans (hc k hl)⟩
theorem Bys.more (h : Bys w B A l) (hB : B ≤ B') : Bys w B' A l := by
  rcases h with h | ⟨b, off, rfl, hb, hc⟩
  · exact .inl h
  · exact .inr ⟨b, off, rfl, by omega, hc⟩
theorem Bys.below (h : Bys w B A l) (hb : Below B w w') : Bys w' B A l := h.keep fun _ hp => hb.cell hp
theorem Bys.nil (w : World) (B : Nat) (A : Option Addr) : Bys w B A [] := .inl rfl
theorem Bys.drewN (h : Bys w B A l) (n : Nat) : Bys (w.drewN n) B A l := h
theorem Bys.drew (h : Bys w B A l) : Bys w.drew B A l := h
theorem Bys.alloc (h : Bys w B A l) (hB : B ≤ w.heap.size) (o : Obj) : Bys (w.alloc o) B A l := h.keep fun p hp => World.cell?_alloc_lt w o p (by omega)
theorem Bys.setCell (h : Bys w B A l) {p : Addr} (hB : B ≤ p.block) (u : Value) : Bys (w.setCell p u) B A l :=
  h.keep fun q hq => World.cell?_setCell_other w p q u (fun e => by subst e; omega)
theorem Bys.tail {b off : Nat} (h : Bys w B (some ⟨b, off, none⟩) l) (k : Nat) : Bys w B (some ⟨b, off + k, none⟩) (l.drop k) := by
  by_cases hk : k < l.length
  · rcases h with h | ⟨b', off', e, hb, hc⟩
    · subst h; simp at hk
    · simp only [Option.some.injEq, Addr.mk.injEq, and_true] at e
      obtain ⟨rfl, rfl⟩ := e
      refine .inr ⟨_, _, rfl, hb, fun j hj => ?_⟩
      have := hc (k + j) (by simp at hj; omega)
      rw [show off + k + j = off + (k + j) by omega, this]
      simp [List.getD, List.getElem?_drop]
  · exact .inl (List.drop_eq_nil_of_le (by omega))
theorem Bys.front (h : Bys w B A l) (k : Nat) : Bys w B A (l.take k) := by
  rcases h with h | ⟨b, off, rfl, hb, hc⟩
  · subst h; exact .inl (by simp)
  · refine .inr ⟨b, off, rfl, hb, fun j hj => ?_⟩
    have hj1 : j < k ∧ j < l.length := by rw [List.length_take] at hj; omega
    rw [hc j hj1.2]
    simp [List.getD, hj1.1]

/-- A slice from place k on: the model keeps the place where nothing of the room is left. -/
theorem Bys.cut (h : Bys w B A l) (k c : Nat) (hc : l.length ≤ c) : Bys w B (if c = k then A else A.map (·.add k)) (l.drop k) := by
  by_cases hk : k < l.length
  · rw [if_neg (by omega)]
    rcases h with h | ⟨b, off, rfl, hb, hx⟩
    · subst h; simp at hk
    · show Bys w B (some ((⟨b, off, none⟩ : Addr).add k)) (l.drop k)
      rw [add_plain]
      exact Bys.tail (.inr ⟨b, off, rfl, hb, hx⟩) k
  · exact .inl (List.drop_eq_nil_of_le (by omega))

theorem nums_str (l : List UInt8) : strOfNums (l.map fun x => ((x.toNat : Nat) : Int)) = ⟨l.toArray⟩ := by
  unfold strOfNums
  congr 2
  rw [List.map_map]
  conv => rhs; rw [← List.map_id l]
  apply List.map_congr_left
  intro x _
  simp

/-- The string of a slice of bytes. -/
theorem Bys.str {P : Program} {t e s : TypeId} (hu : U8 P t e) (hs : P.underlying s = some .string) (h : Bys w B A l) (c : Nat) :
    (convert t s (.slice A l.length c)).run P w = .ok (.string ⟨l.toArray⟩) w := by
  rcases h with h | ⟨b, off, rfl, hb, hc⟩
  · subst h
    cases A with
    | none => exact run_convert_bytes_nil w t e hu.sl hu.el 0 c s hs
    | some ad =>
      rw [run_convert_bytes_string w t s e _ _ c hu.sl hu.el hs, run_bytesToString w ad _ c [] (by
        have := run_loadCells_list (P := P) w ad [] (fun j v hj => by simp at hj)
        simpa using this)]
      rfl
  · rw [run_convert_bytes_arg w t e hu.sl hu.el b off l.length c (l.map fun x => ((x.toNat : Nat) : Int)) (by simp) (fun i hi => by
      rw [hc i hi]
      simp [cel, List.getD, List.getElem?_eq_getElem hi]) s hs, nums_str]
end

/-- A slice of bytes that the call made: from block 'base' on. -/
def Own (w : World) (base : Nat) (e : TypeId) (v : Value) (l : List UInt8) : Prop := w.ownsRow base e 1 v l.length (cels l)

section
variable {w w' : World} {base : Nat} {e : TypeId} {v : Value} {l : List UInt8}

theorem Own.none_ (w : World) (base : Nat) (e : TypeId) : Own w base e (.slice none 0 0) [] := World.ownsRow_nil w base e 1
theorem Own.alloc (h : Own w base e v l) (o : Obj) : Own (w.alloc o) base e v l := World.ownsRow.alloc h o
theorem Own.drewN (h : Own w base e v l) (n : Nat) : Own (w.drewN n) base e v l := h
theorem Own.drew (h : Own w base e v l) : Own w.drew base e v l := h
theorem Own.less {base' : Nat} (h : Own w base e v l) (hb : base' ≤ base) : Own w base' e v l := by
  obtain ⟨h1, h2⟩ := h
  refine ⟨h1, ?_⟩
  rcases h2 with h2 | ⟨g, cap, cur, hv, hg, r⟩
  · exact .inl h2
  · exact .inr ⟨g, cap, cur, hv, by omega, r⟩
/-- It stays while nothing below B is written, and it lies there. -/
theorem Own.below (h : Own w base e v l) (hb : Below w.heap.size w w') : Own w' base e v l := by
  obtain ⟨h1, h2⟩ := h
  refine ⟨h1, ?_⟩
  rcases h2 with h2 | ⟨g, cap, cur, hv, hg, hh, r⟩
  · exact .inl h2
  · exact .inr ⟨g, cap, cur, hv, hg, by rw [hb.block g (Array.getElem?_eq_some_iff.1 hh).1]; exact hh, r⟩
/-- As a place and a list. -/
theorem Own.bys (h : Own w base e v l) : ∃ A c, v = .slice A l.length c ∧ Bys w w.heap.size A l := by
  by_cases hl : l = []
  · subst hl
    rcases h.2 with ⟨rfl, _⟩ | ⟨g, cap, cur, rfl, _⟩
    · exact ⟨_, _, rfl, .inl rfl⟩
    · exact ⟨_, _, rfl, .inl rfl⟩
  · have hp : 0 < l.length := List.length_pos_iff.2 hl
    obtain ⟨g, cap, hv, _, hlt⟩ := World.ownsRow.form h hp
    subst hv
    refine ⟨_, _, rfl, .inr ⟨g, 0, rfl, hlt, fun k hk => ?_⟩⟩
    have := World.ownsRow.cellAt h k (by omega)
    rw [show 0 + k = k by omega, this, cels_at hk]
end

theorem Own.room {w : World} {base : Nat} {e : TypeId} {v : Value} {l : List UInt8} (h : Own w base e v l) : ∃ A c, v = .slice A l.length c ∧ Bys w w.heap.size A l ∧ l.length ≤ c := by
  obtain ⟨A, c, rfl, hy⟩ := h.bys
  refine ⟨A, c, rfl, hy, ?_⟩
  rcases h.2 with ⟨e, h0⟩ | ⟨g, cap, cur, e, _, _, hc, _⟩
  · omega
  · injection e with _ _ e
    omega

theorem Own.room1 {w : World} {base : Nat} {e : TypeId} {v : Value} {l : List UInt8} (h : Own w base e v l) (hl : l ≠ []) : ∃ g c, v = .slice (some ⟨g, 0, none⟩) l.length c ∧ Bys w w.heap.size (some ⟨g, 0, none⟩) l ∧ l.length ≤ c := by
  obtain ⟨A, c, rfl, hy, hc⟩ := h.room
  rcases h.2 with ⟨e, h0⟩ | ⟨g, cap, cur, e, _⟩
  · exact absurd (List.length_eq_zero_iff.1 h0) hl
  · injection e with e _ _
    subst e
    exact ⟨g, c, rfl, hy, hc⟩

section
variable {P : Program} (w : World)

/-- append onto a slice of the call's own, of a slice that reads as a list. -/
theorem run_app {t e : TypeId} (hu : U8 P t e) (base : Nat) (ty : TypeId) (v : Value) (l : List UInt8) (hown : Own w base e v l) (B : Nat) (A : Option Addr) (c : Nat) (m : List UInt8) (hr : Bys w B A m)
    (hlen : l.length + m.length ≤ 140000000000) (hbase : base ≤ w.heap.size) :
    ∃ v' w', (Builtin.append_ #[t, t] ty #[v, .slice A m.length c]).run P w = .ok v' w' ∧ Own w' base e v' (l ++ m) ∧ Below base w w' := by
  obtain ⟨i, hi, hzz⟩ := Option.map_eq_some_iff.1 hu.info
  simp only [Prod.mk.injEq] at hzz
  obtain ⟨hz, hsz, hby⟩ := hzz
  have fin : ∀ v' w', w'.ownsRow base e 1 v' (l.length + m.length) (cels l ++ cels m) → w.grownBy w' v.ownBlock → Own w' base e v' (l ++ m) ∧ Below base w w' := by
    intro v' w' h2 h3
    refine ⟨by unfold Own; rw [List.length_append, cels_app]; exact h2, (Below.refl _ _).grown h3 hbase (fun k hk => (World.ownsRow.lt hown k hk).1)⟩
  have big : l.length + m.length ≤ maxLen := by unfold maxLen; omega
  have step : ∀ ad : Addr, (∀ j u, (cels m)[j]? = some u → w.cell? (ad.add j) = some u) → ∃ v' w', (Builtin.append_ #[t, t] ty #[v, .slice (some ad) m.length c]).run P w = .ok v' w' ∧ Own w' base e v' (l ++ m) ∧ Below base w w' := by
    intro ad hc
    obtain ⟨v', w', hrun, h2, h3, _⟩ := run_append_own_at (P := P) w base t ty e i _ 1 1 hu.sl hi hz hsz hby rfl (by omega) v l.length (cels l) hown ad m.length c (cels m) (by rw [cels_len]; omega) hc (cels_one m) big (by omega) hbase
    exact ⟨v', w', hrun, fin v' w' h2 h3⟩
  rcases hr with h | ⟨b, off, rfl, _, hc⟩
  · subst h
    cases A with
    | none =>
      refine ⟨v, w, ?_, by simpa using hown, Below.refl _ _⟩
      rcases hown.2 with ⟨rfl, hn⟩ | ⟨g, cap, cur, rfl, _, _, hnc, _⟩
      · simp [Builtin.append_, run_underlying hu.sl, sizeOf, typeInfo, hi, Builtin.lenOf, Builtin.firstCells]
      · simp [Builtin.append_, run_underlying hu.sl, sizeOf, typeInfo, hi, Builtin.lenOf, Builtin.firstCells, hnc, storeCells]
    | some ad => exact step ad (by intro j u hj; simp [cels] at hj)
  · refine step _ (fun j u hj => ?_)
    have hj' : j < m.length := by
      have := (List.getElem?_eq_some_iff.1 hj).1
      rwa [cels_len] at this
    rw [cels_at hj'] at hj
    rw [add_plain, hc j hj']
    exact hj

theorem wp_app {t e : TypeId} (hu : U8 P t e) {o : Oper} {a : Act} {K : Act → World → Prop} {Q : Exit → Act → World → Prop} (s x : Operand)
    (ho : o.op = .call { callee := .builtin .append, args := #[s, x], argTypes := #[t, t] })
    (base : Nat) (v : Value) (l : List UInt8) (hs : a.eval s = v) (hown : Own w base e v l) (B : Nat) (A : Option Addr) (c : Nat) (m : List UInt8) (hx : a.eval x = .slice A m.length c) (hr : Bys w B A m)
    (hlen : l.length + m.length ≤ 140000000000) (hbase : base ≤ w.heap.size)
    (h : ∀ v' w', Own w' base e v' (l ++ m) → Below base w w' → K (a.put o.dst v') w') : o.wp P a w K Q := by
  obtain ⟨v', w', hrun, h2, h3⟩ := run_app (P := P) w hu base o.type v l hown B A c m hr hlen hbase
  unfold Oper.wp execOp
  simp only [ho, resolve, invoke, builtin, Sem.run_bind, Sem.run_pure, Result.andThen_ok, List.map_toArray, List.map_cons, List.map_nil, hs, hx, hrun]
  exact h v' w' h2 h3

/-- The step of a walk at an append of several bytes. -/
theorem wpList_app {t e : TypeId} (hu : U8 P t e) {ops : Array Oper} {rest : List Oper} {o : Oper} {a : Act} {Q : Exit → Act → World → Prop} (hgd : o.guard = none) (s x : Operand)
    (ho : o.op = .call { callee := .builtin .append, args := #[s, x], argTypes := #[t, t] })
    (base : Nat) (v : Value) (l : List UInt8) (hs : a.eval s = v) (hown : Own w base e v l) (B : Nat) (A : Option Addr) (c : Nat) (m : List UInt8) (hx : a.eval x = .slice A m.length c) (hr : Bys w B A m)
    (hlen : l.length + m.length ≤ 140000000000) (hbase : base ≤ w.heap.size)
    (h : ∀ v' w', Own w' base e v' (l ++ m) → Below base w w' → wpList P ops Q rest (a.put o.dst v') w') : wpList P ops Q (o :: rest) a w :=
  wpList_plain hgd fun _ hK => wp_app w hu s x ho base v l hs hown B A c m hx hr hlen hbase fun v' w' h2 h3 => hK _ _ (h v' w' h2 h3)

/-- .. in a region that draws its order. -/
theorem step_app {t e : TypeId} (hu : U8 P t e) {ops : Array Oper} {o : Oper} {a : Act} {K : Act → World → Prop} {Q : Exit → Act → World → Prop} {E : Prop} (hw : Region.wanted o (yielded ops a.tmps) = true) (s x : Operand)
    (ho : o.op = .call { callee := .builtin .append, args := #[s, x], argTypes := #[t, t] })
    (base : Nat) (v : Value) (l : List UInt8) (hs : a.eval s = v) (hown : Own w base e v l) (B : Nat) (A : Option Addr) (c : Nat) (m : List UInt8) (hx : a.eval x = .slice A m.length c) (hr : Bys w B A m)
    (hlen : l.length + m.length ≤ 140000000000) (hbase : base ≤ w.heap.size)
    (h : ∀ v' w', Own w' base e v' (l ++ m) → Below base w w' → K (a.put o.dst v') w') : if Region.wanted o (yielded ops a.tmps) = true then Oper.wp P o a w K Q else E := by
  rw [if_pos hw]
  exact wp_app w hu s x ho base v l hs hown B A c m hx hr hlen hbase h

theorem new_cell (x : Value) (t : TypeId) : (w.alloc (.cells #[x] t)).cell? ⟨w.heap.size, 0, none⟩ = some x := by
  simp
/-- The step at an append of one byte, which the walk has laid into a block of its own. -/
theorem wpList_app1 {t e : TypeId} (hu : U8 P t e) {ops : Array Oper} {rest : List Oper} {o : Oper} {a : Act} {Q : Exit → Act → World → Prop} (hgd : o.guard = none) (s x : Operand)
    (ho : o.op = .call { callee := .builtin .append, args := #[s, x], argTypes := #[t, t] })
    (base : Nat) (v : Value) (l : List UInt8) (hs : a.eval s = v) (hown : Own w base e v l) (c : Nat) (n : Int) (n0 : 0 ≤ n) (n1 : n ≤ 255) (hx : a.eval x = .slice (some ⟨w.heap.size, 0, none⟩) 1 c)
    (hlen : l.length < 140000000000) (hbase : base ≤ w.heap.size)
    (h : ∀ v' w', Own w' base e v' (l ++ [UInt8.ofNat n.toNat]) → Below base w w' → wpList P ops Q rest (a.put o.dst v') w') : wpList P ops Q (o :: rest) a (w.alloc (.cells #[.int .u8 n] e)) := by
  have hn : ((UInt8.ofNat n.toNat).toNat : Int) = n := by
    rw [UInt8.toNat_ofNat_of_lt' (by show n.toNat < 256; omega)]; omega
  refine wpList_app _ hu hgd s x ho base v l hs (hown.alloc _) (w.heap.size + 1) (some ⟨w.heap.size, 0, none⟩) c [UInt8.ofNat n.toNat] (by simpa using hx) (.inr ⟨_, 0, rfl, by omega, fun k hk => ?_⟩) (by simp; omega) (by simp; omega)
    (fun v' w' h1 h2 => h v' w' h1 (((Below.refl _ _).alloc hbase _).trans h2))
  obtain rfl : k = 0 := by simp at hk; omega
  show (w.alloc _).cell? ⟨w.heap.size, 0 + 0, none⟩ = some (.int .u8 ((UInt8.ofNat n.toNat).toNat : Int))
  rw [hn]
  exact new_cell w _ _
/-- .. with the slot written out. -/
theorem step_appd {t e : TypeId} (hu : U8 P t e) {ops : Array Oper} {o : Oper} {a : Act} {K : Act → World → Prop} {Q : Exit → Act → World → Prop} {E : Prop} (hw : Region.wanted o (yielded ops a.tmps) = true) (d : Option Tmp) (hd : o.dst = d) (s x : Operand)
    (ho : o.op = .call { callee := .builtin .append, args := #[s, x], argTypes := #[t, t] })
    (base : Nat) (v : Value) (l : List UInt8) (hs : a.eval s = v) (hown : Own w base e v l) (B : Nat) (A : Option Addr) (c : Nat) (m : List UInt8) (hx : a.eval x = .slice A m.length c) (hr : Bys w B A m)
    (hlen : l.length + m.length ≤ 140000000000) (hbase : base ≤ w.heap.size)
    (h : ∀ v' w', Own w' base e v' (l ++ m) → Below base w w' → K (a.put d v') w') : if Region.wanted o (yielded ops a.tmps) = true then Oper.wp P o a w K Q else E :=
  step_app w hu hw s x ho base v l hs hown B A c m hx hr hlen hbase (fun v' w' h1 h2 => hd ▸ h v' w' h1 h2)
/-- .. of one byte, in a region that draws its order. -/
theorem step_app1 {t e : TypeId} (hu : U8 P t e) {ops : Array Oper} {o : Oper} {a : Act} {K : Act → World → Prop} {Q : Exit → Act → World → Prop} {E : Prop} (hw : Region.wanted o (yielded ops a.tmps) = true) (d : Option Tmp) (hd : o.dst = d) (s x : Operand)
    (ho : o.op = .call { callee := .builtin .append, args := #[s, x], argTypes := #[t, t] })
    (base : Nat) (v : Value) (l : List UInt8) (hs : a.eval s = v) (hown : Own w base e v l) (c : Nat) (n : Int) (n0 : 0 ≤ n) (n1 : n ≤ 255) (hx : a.eval x = .slice (some ⟨w.heap.size, 0, none⟩) 1 c)
    (hlen : l.length < 140000000000) (hbase : base ≤ w.heap.size)
    (h : ∀ v' w', Own w' base e v' (l ++ [UInt8.ofNat n.toNat]) → Below base w w' → K (a.put d v') w') : if Region.wanted o (yielded ops a.tmps) = true then Oper.wp P o a (w.alloc (.cells #[.int .u8 n] e)).drew K Q else E := by
  have hn : ((UInt8.ofNat n.toNat).toNat : Int) = n := by
    rw [UInt8.toNat_ofNat_of_lt' (by show n.toNat < 256; omega)]; omega
  refine step_app _ hu hw s x ho base v l hs (hown.alloc _).drew (w.heap.size + 1) (some ⟨w.heap.size, 0, none⟩) c [UInt8.ofNat n.toNat] (by simpa using hx) (.inr ⟨_, 0, rfl, by omega, fun k hk => ?_⟩) (by simp; omega) (by simp; omega)
    (fun v' w' h1 h2 => hd ▸ h v' w' h1 ((((Below.refl _ _).alloc hbase _).drew).trans h2))
  obtain rfl : k = 0 := by simp at hk; omega
  show (w.alloc _).cell? ⟨w.heap.size, 0 + 0, none⟩ = some (.int .u8 ((UInt8.ofNat n.toNat).toNat : Int))
  rw [hn]
  exact new_cell w _ _
/-- .. of bytes that the walk has laid into a block of their own. -/
theorem wpList_appL {t e : TypeId} (hu : U8 P t e) {ops : Array Oper} {rest : List Oper} {o : Oper} {a : Act} {Q : Exit → Act → World → Prop} (hgd : o.guard = none) (s x : Operand)
    (ho : o.op = .call { callee := .builtin .append, args := #[s, x], argTypes := #[t, t] })
    (base : Nat) (v : Value) (l : List UInt8) (hs : a.eval s = v) (hown : Own w base e v l) (c : Nat) (cs : Array Value) (m : List UInt8) (hm : cs = (cels m).toArray) (n : Nat) (hn : m.length = n) (hx : a.eval x = .slice (some ⟨w.heap.size, 0, none⟩) n c)
    (hlen : l.length + m.length ≤ 140000000000) (hbase : base ≤ w.heap.size)
    (h : ∀ v' w', Own w' base e v' (l ++ m) → Below base w w' → wpList P ops Q rest (a.put o.dst v') w') : wpList P ops Q (o :: rest) a (w.alloc (.cells cs e)) := by
  subst hm
  refine wpList_app _ hu hgd s x ho base v l hs (hown.alloc _) (w.heap.size + 1) (some ⟨w.heap.size, 0, none⟩) c m (by rw [hn]; exact hx) (.inr ⟨_, 0, rfl, by omega, fun k hk => ?_⟩) hlen (by simp; omega)
    (fun v' w' h1 h2 => h v' w' h1 (((Below.refl _ _).alloc hbase _).trans h2))
  rw [(Blk.new w e _).cell, show 0 + k = k by omega]
  simpa using cels_at hk
/-- .. in a region that draws its order. -/
theorem step_appL {t e : TypeId} (hu : U8 P t e) {ops : Array Oper} {o : Oper} {a : Act} {K : Act → World → Prop} {Q : Exit → Act → World → Prop} {E : Prop} (hw : Region.wanted o (yielded ops a.tmps) = true) (d : Option Tmp) (hd : o.dst = d) (s x : Operand)
    (ho : o.op = .call { callee := .builtin .append, args := #[s, x], argTypes := #[t, t] })
    (base : Nat) (v : Value) (l : List UInt8) (hs : a.eval s = v) (hown : Own w base e v l) (c : Nat) (cs : Array Value) (m : List UInt8) (hm : cs = (cels m).toArray) (n : Nat) (hn : m.length = n) (hx : a.eval x = .slice (some ⟨w.heap.size, 0, none⟩) n c)
    (hlen : l.length + m.length ≤ 140000000000) (hbase : base ≤ w.heap.size)
    (h : ∀ v' w', Own w' base e v' (l ++ m) → Below base w w' → K (a.put d v') w') : if Region.wanted o (yielded ops a.tmps) = true then Oper.wp P o a (w.alloc (.cells cs e)).drew K Q else E := by
  subst hm
  refine step_app _ hu hw s x ho base v l hs (hown.alloc _).drew (w.heap.size + 1) (some ⟨w.heap.size, 0, none⟩) c m (by rw [hn]; exact hx) (.inr ⟨_, 0, rfl, by omega, fun k hk => ?_⟩) hlen (by simp; omega)
    (fun v' w' h1 h2 => hd ▸ h v' w' h1 ((((Below.refl _ _).alloc hbase _).drew).trans h2))
  show (w.alloc _).cell? ⟨w.heap.size, 0 + k, none⟩ = _
  rw [(Blk.new w e _).cell, show 0 + k = k by omega]
  simpa using cels_at hk
end
end Go.Proofs.YtnfhikgfcdcpoaaDoor.Mem
