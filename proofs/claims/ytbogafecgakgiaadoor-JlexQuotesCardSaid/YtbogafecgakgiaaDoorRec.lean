/- Records in memory: a slice that reads as a list of cells; one that is the call's own and is appended to. -/
import Derived.Test.YtbogafecgakgiaaDoorMem
namespace Go.Proofs.YtbogafecgakgiaaDoor.Mem
open Go.RowKit

/-- What the program says of its records: t is the type of slices of e, that of records of s cells and y bytes; z is their zero. -/
structure RecT (P : Program) (t e : TypeId) (s : Nat) (z : Value) (y : Nat) : Prop where
  sl : P.underlying t = some (.slice e)
  info : (P.info? e).map (fun i => (i.zero, i.size, i.bytes)) = some (some z, s, y)
  zs : z.cells.size = s
  pos : 0 < s
  by_ : y ≤ 1000

/-- A place and a list of cells: from there on they stand; all below block B. Of no cell the place may be whatever. -/
def Fl (w : World) (B : Nat) (A : Option Addr) (xs : List Value) : Prop :=
  xs = [] ∨ ∃ b off, A = some ⟨b, off, none⟩ ∧ b < B ∧ ∀ k, k < xs.length → w.cell? ⟨b, off + k, none⟩ = xs[k]?

section
variable {w w' : World} {B B' : Nat} {A : Option Addr} {xs : List Value}
theorem Fl.keep (h : Fl w B A xs) (hk : ∀ p : Addr, p.block < B → w'.cell? p = w.cell? p) : Fl w' B A xs := by
  rcases h with h | ⟨b, off, rfl, hb, hc⟩
  · exact .inl h
  · exact .inr ⟨b, off, rfl, hb, fun k hl => (hk _ hb).trans (hc k hl)⟩
theorem Fl.more (h : Fl w B A xs) (hB : B ≤ B') : Fl w B' A xs := by
  rcases h with h | ⟨b, off, rfl, hb, hc⟩
  · exact .inl h
  · exact .inr ⟨b, off, rfl, by omega, hc⟩
theorem Fl.below (h : Fl w B A xs) (hb : Below B w w') : Fl w' B A xs := h.keep fun _ hp => hb.cell hp
theorem Fl.drewN (h : Fl w B A xs) (n : Nat) : Fl (w.drewN n) B A xs := h
theorem Fl.drew (h : Fl w B A xs) : Fl w.drew B A xs := h
theorem Fl.alloc (h : Fl w B A xs) (hB : B ≤ w.heap.size) (o : Obj) : Fl (w.alloc o) B A xs := h.keep fun p hp => World.cell?_alloc_lt w o p (by omega)
theorem Fl.setCell (h : Fl w B A xs) {p : Addr} (hB : B ≤ p.block) (u : Value) : Fl (w.setCell p u) B A xs :=
  h.keep fun q hq => World.cell?_setCell_other w p q u (fun e => by subst e; omega)
theorem Fl.cell (h : Fl w B A xs) {k : Nat} (hk : k < xs.length) : ∃ b off, A = some ⟨b, off, none⟩ ∧ b < B ∧ w.cell? ⟨b, off + k, none⟩ = xs[k]? := by
  rcases h with h | ⟨b, off, rfl, hb, hc⟩
  · subst h; simp at hk
  · exact ⟨b, off, rfl, hb, hc k hk⟩
end

/-- A slice of n records that the call made: from block 'base' on. -/
def OwnR (w : World) (base : Nat) (e : TypeId) (s : Nat) (v : Value) (n : Nat) (xs : List Value) : Prop := w.ownsRow base e s v n xs

section
variable {w w' : World} {base : Nat} {e : TypeId} {s : Nat} {v : Value} {n : Nat} {xs : List Value}
theorem OwnR.none_ (w : World) (base : Nat) (e : TypeId) (s : Nat) : OwnR w base e s (.slice none 0 0) 0 [] := World.ownsRow_nil w base e s
theorem OwnR.alloc (h : OwnR w base e s v n xs) (o : Obj) : OwnR (w.alloc o) base e s v n xs := World.ownsRow.alloc h o
theorem OwnR.drewN (h : OwnR w base e s v n xs) (k : Nat) : OwnR (w.drewN k) base e s v n xs := h
theorem OwnR.drew (h : OwnR w base e s v n xs) : OwnR w.drew base e s v n xs := h
theorem OwnR.less {base' : Nat} (h : OwnR w base e s v n xs) (hb : base' ≤ base) : OwnR w base' e s v n xs := by
  obtain ⟨h1, h2⟩ := h
  refine ⟨h1, ?_⟩
  rcases h2 with h2 | ⟨g, cap, cur, hv, hg, r⟩
  · exact .inl h2
  · exact .inr ⟨g, cap, cur, hv, by omega, r⟩
theorem OwnR.below (h : OwnR w base e s v n xs) (hb : Below w.heap.size w w') : OwnR w' base e s v n xs := by
  obtain ⟨h1, h2⟩ := h
  refine ⟨h1, ?_⟩
  rcases h2 with h2 | ⟨g, cap, cur, hv, hg, hh, r⟩
  · exact .inl h2
  · exact .inr ⟨g, cap, cur, hv, hg, by rw [hb.block g (Array.getElem?_eq_some_iff.1 hh).1]; exact hh, r⟩
/-- As a place and a list of cells. -/
theorem OwnR.fl (h : OwnR w base e s v n xs) : ∃ A c, v = .slice A n c ∧ n ≤ c ∧ Fl w w.heap.size A xs := by
  by_cases hl : n = 0
  · subst hl
    have hx : xs = [] := List.length_eq_zero_iff.1 (by have := h.1; simpa using this)
    rcases h.2 with ⟨rfl, _⟩ | ⟨g, cap, cur, rfl, _⟩
    · exact ⟨_, _, rfl, Nat.zero_le _, .inl hx⟩
    · exact ⟨_, _, rfl, Nat.zero_le _, .inl hx⟩
  · obtain ⟨g, cap, hv, _, hlt⟩ := World.ownsRow.form h (Nat.pos_of_ne_zero hl)
    subst hv
    refine ⟨_, _, rfl, ?_, .inr ⟨g, 0, rfl, hlt, fun k hk => ?_⟩⟩
    · rcases h.2 with ⟨e, h0⟩ | ⟨g, cap, cur, e, _, _, hc, _⟩
      · omega
      · injection e with _ _ e
        omega
    · rw [show 0 + k = k by omega]
      exact World.ownsRow.cellAt h k (by rw [← h.1]; exact hk)
end

theorem grown_next {a b c : World} {row : Option Nat} (h : a.grownBy b none) (k : b.grownBy c row) : a.grownBy c row :=
  ⟨k.os.trans h.os, k.tape.trans h.tape, k.output.trans h.output, Nat.le_trans h.size k.size, fun j hj hr => (k.block j (Nat.lt_of_lt_of_le hj h.size) hr).trans (h.block j hj (by simp))⟩
theorem OwnR.apart {w : World} {base : Nat} {e : TypeId} {s : Nat} {v : Value} {n : Nat} {xs : List Value} (h : OwnR w base e s v n xs) {g : Nat} (hg : w.heap.size ≤ g) : some g ≠ v.ownBlock := fun e => by
  have := (World.ownsRow.lt h g e.symm).2; omega
section
variable {P : Program} (w : World) {t e : TypeId} {s : Nat} {z : Value} {y : Nat}
/-- append onto a slice of the call's own, of records that stand in memory. -/
theorem run_appR (hu : RecT P t e s z y) (base : Nat) (ty : TypeId) (v : Value) (n : Nat) (xs : List Value) (hown : OwnR w base e s v n xs) (ad : Addr) (m c : Nat) (news : List Value) (hl : news.length = m * s)
    (hnews : ∀ j u, news[j]? = some u → w.cell? (ad.add j) = some u) (h1 : ∀ u ∈ news, u.oneCell' = true) (hlen : n + m ≤ 1000000000) (hbase : base ≤ w.heap.size) :
    ∃ v' w', (Builtin.append_ #[t, t] ty #[v, .slice (some ad) m c]).run P w = .ok v' w' ∧ OwnR w' base e s v' (n + m) (xs ++ news) ∧ Below base w w' ∧ w.grownBy w' v.ownBlock := by
  obtain ⟨i, hi, hzz⟩ := Option.map_eq_some_iff.1 hu.info
  simp only [Prod.mk.injEq] at hzz
  obtain ⟨hz, hsz, hby⟩ := hzz
  have hb : (n + m) * y ≤ 1000000000 * 1000 := Nat.mul_le_mul hlen hu.by_
  obtain ⟨v', w', hrun, h2, h3, _⟩ := run_append_own_at (P := P) w base t ty e i z s y hu.sl hi hz hsz hby hu.zs hu.pos v n xs hown ad m c news hl hnews h1 (by unfold maxLen; omega) (by omega) hbase
  exact ⟨v', w', hrun, h2, (Below.refl _ _).grown h3 hbase (fun k hk => (World.ownsRow.lt hown k hk).1), h3⟩
theorem wp_appR (hu : RecT P t e s z y) {o : Oper} {a : Act} {K : Act → World → Prop} {Q : Exit → Act → World → Prop} (sO x : Operand)
    (ho : o.op = .call { callee := .builtin .append, args := #[sO, x], argTypes := #[t, t] })
    (base : Nat) (v : Value) (n : Nat) (xs : List Value) (hs : a.eval sO = v) (hown : OwnR w base e s v n xs) (ad : Addr) (m c : Nat) (news : List Value) (hx : a.eval x = .slice (some ad) m c) (hl : news.length = m * s)
    (hnews : ∀ j u, news[j]? = some u → w.cell? (ad.add j) = some u) (h1 : ∀ u ∈ news, u.oneCell' = true) (hlen : n + m ≤ 1000000000) (hbase : base ≤ w.heap.size)
    (h : ∀ v' w', OwnR w' base e s v' (n + m) (xs ++ news) → Below base w w' → w.grownBy w' v.ownBlock → K (a.put o.dst v') w') : o.wp P a w K Q := by
  obtain ⟨v', w', hrun, h2, h3, h4⟩ := run_appR (P := P) w hu base o.type v n xs hown ad m c news hl hnews h1 hlen hbase
  unfold Oper.wp execOp
  simp only [ho, resolve, invoke, builtin, Sem.run_bind, Sem.run_pure, Result.andThen_ok, List.map_toArray, List.map_cons, List.map_nil, hs, hx, hrun]
  exact h v' w' h2 h3 h4
/-- The step of a walk at an append of one record, which the walk has laid into a block of its own. -/
theorem wpList_appR1 (hu : RecT P t e s z y) {ops : Array Oper} {rest : List Oper} {o : Oper} {a : Act} {Q : Exit → Act → World → Prop} (hgd : o.guard = none) (sO x : Operand)
    (ho : o.op = .call { callee := .builtin .append, args := #[sO, x], argTypes := #[t, t] })
    (base : Nat) (v : Value) (n : Nat) (xs : List Value) (hs : a.eval sO = v) (hown : OwnR w base e s v n xs) (c : Nat) (cs : Array Value) (hx : a.eval x = .slice (some ⟨w.heap.size, 0, none⟩) 1 c) (hl : cs.size = s)
    (h1 : ∀ u ∈ cs.toList, u.oneCell' = true) (hlen : n + 1 ≤ 1000000000) (hbase : base ≤ w.heap.size)
    (h : ∀ v' w', OwnR w' base e s v' (n + 1) (xs ++ cs.toList) → Below base w w' → w.grownBy w' v.ownBlock → wpList P ops Q rest (a.put o.dst v') w') : wpList P ops Q (o :: rest) a (w.alloc (.cells cs e)) := by
  refine wpList_plain hgd fun _ hK => wp_appR _ hu sO x ho base v n xs hs (hown.alloc _) ⟨w.heap.size, 0, none⟩ 1 c cs.toList hx (by simp [hl]) (fun j u hj => ?_) h1 hlen (by simp; omega) fun v' w' h2 h3 h4 => hK _ _ (h v' w' h2 (((Below.refl _ _).alloc hbase _).trans h3) (grown_next (World.grownBy_alloc w _ none) h4))
  rw [add_plain, (Blk.new w e cs).cell, show 0 + j = j by omega]
  simpa using hj
end
end Go.Proofs.YtbogafecgakgiaaDoor.Mem
