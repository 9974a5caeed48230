/- Joined by tools/bundle.py: Rec. -/
import Derived.Laws.CopyOwn
import Derived.Laws.MakeOwn
import Derived.Deep.OwnRows
import Derived.Test.YtlpmcohbbffbfaaDoorQ1
namespace Go.Proofs.YtlpmcohbbffbfaaDoor.Mem
open Go.RowKit
structure RecT (P : Program) (t e : TypeId) (s : Nat) (z : Value) (y : Nat) : Prop where
  sl : P.underlying t = some (.slice e)
  info : (P.info? e).map (fun i => (i.zero, i.size, i.bytes)) = some (some z, s, y)
  zs : z.cells.size = s
  pos : 0 < s
  by_ : y ≤ 1000
def Fl (w : World) (B : Nat) (A : Option Addr) (xs : List Value) : Prop :=
  xs = [] ∨ ∃ b off, A = some ⟨b, off, none⟩ ∧ b < B ∧ ∀ k, k < xs.length → w.cell? ⟨b, off + k, none⟩ = xs[k]?
section
variable {w w' : World} {B B' : Nat} {A : Option Addr} {xs : List Value}
theorem Fl.keep (h : Fl w B A xs) (hk : ∀ p : Addr, p.block < B → w'.cell? p = w.cell? p) : Fl w' B A xs := by
  rcases h with h | ⟨b, off, rfl, hb, hc⟩
  · exact .inl h
  · exact .inr ⟨b, off, rfl, hb, fun k hl => (hk _ hb).trans (hc k hl)⟩
theorem Fl.more (h : Fl w B A xs) (hB : B ≤ B') : Fl w B' A xs := by
  rcases h with h | ⟨b, off, rfl, hb, hc⟩
  · exact .inl h
  · exact .inr ⟨b, off, rfl, by omega, hc⟩
theorem Fl.below (h : Fl w B A xs) (hb : Below B w w') : Fl w' B A xs := h.keep fun _ hp => hb.cell hp
theorem Fl.drewN (h : Fl w B A xs) (n : Nat) : Fl (w.drewN n) B A xs := h
theorem Fl.drew (h : Fl w B A xs) : Fl w.drew B A xs := h
theorem Fl.alloc (h : Fl w B A xs) (hB : B ≤ w.heap.size) (o : Obj) : Fl (w.alloc o) B A xs := h.keep fun p hp => World.cell?_alloc_lt w o p (by omega)
theorem Fl.setCell (h : Fl w B A xs) {p : Addr} (hB : B ≤ p.block) (u : Value) : Fl (w.setCell p u) B A xs :=
  h.keep fun q hq => World.cell?_setCell_other w p q u (fun e => by subst e; omega)
theorem Fl.cell (h : Fl w B A xs) {k : Nat} (hk : k < xs.length) : ∃ b off, A = some ⟨b, off, none⟩ ∧ b < B ∧ w.cell? ⟨b, off + k, none⟩ = xs[k]? := by
  rcases h with h | ⟨b, off, rfl, hb, hc⟩
  · subst h; simp at hk
  · exact ⟨b, off, rfl, hb, hc k hk⟩
end
def OwnR (w : World) (base : Nat) (e : TypeId) (s : Nat) (v : Value) (n : Nat) (xs : List Value) : Prop := w.ownsRow base e s v n xs
section
variable {w w' : World} {base : Nat} {e : TypeId} {s : Nat} {v : Value} {n : Nat} {xs : List Value}
theorem OwnR.none_ (w : World) (base : Nat) (e : TypeId) (s : Nat) : OwnR w base e s (.slice none 0 0) 0 [] := World.ownsRow_nil w base e s
theorem OwnR.alloc (h : OwnR w base e s v n xs) (o : Obj) : OwnR (w.alloc o) base e s v n xs := World.ownsRow.alloc h o
theorem OwnR.drewN (h : OwnR w base e s v n xs) (k : Nat) : OwnR (w.drewN k) base e s v n xs := h
theorem OwnR.drew (h : OwnR w base e s v n xs) : OwnR w.drew base e s v n xs := h
theorem OwnR.less {base' : Nat} (h : OwnR w base e s v n xs) (hb : base' ≤ base) : OwnR w base' e s v n xs := by
  obtain ⟨h1, h2⟩ := h
  refine ⟨h1, ?_⟩
  rcases h2 with h2 | ⟨g, cap, cur, hv, hg, r⟩
  · exact .inl h2
  · exact .inr ⟨g, cap, cur, hv, by omega, r⟩
theorem OwnR.below (h : OwnR w base e s v n xs) (hb : Below w.heap.size w w') : OwnR w' base e s v n xs := by
  obtain ⟨h1, h2⟩ := h
  refine ⟨h1, ?_⟩
  rcases h2 with h2 | ⟨g, cap, cur, hv, hg, hh, r⟩
  · exact .inl h2
  · exact .inr ⟨g, cap, cur, hv, hg, by rw [hb.block g (Array.getElem?_eq_some_iff.1 hh).1]; exact hh, r⟩
theorem OwnR.fl (h : OwnR w base e s v n xs) : ∃ A c, v = .slice A n c ∧ n ≤ c ∧ Fl w w.heap.size A xs := by
  by_cases hl : n = 0
  · subst hl
    have hx : xs = [] := List.length_eq_zero_iff.1 (by have := h.1; simpa using this)
    rcases h.2 with ⟨rfl, _⟩ | ⟨g, cap, cur, rfl, _⟩
    · exact ⟨_, _, rfl, Nat.zero_le _, .inl hx⟩
    · exact ⟨_, _, rfl, Nat.zero_le _, .inl hx⟩
  · obtain ⟨g, cap, hv, _, hlt⟩ := World.ownsRow.form h (Nat.pos_of_ne_zero hl)
    subst hv
    refine ⟨_, _, rfl, ?_, .inr ⟨g, 0, rfl, hlt, fun k hk => ?_⟩⟩
    · rcases h.2 with ⟨e, h0⟩ | ⟨g, cap, cur, e, _, _, hc, _⟩
      · omega
      · injection e with _ _ e
        omega
    · rw [show 0 + k = k by omega]
      exact World.ownsRow.cellAt h k (by rw [← h.1]; exact hk)
end
theorem grown_next {a b c : World} {row : Option Nat} (h : a.grownBy b none) (k : b.grownBy c row) : a.grownBy c row :=
  ⟨k.os.trans h.os, k.tape.trans h.tape, k.output.trans h.output, Nat.le_trans h.size k.size, fun j hj hr => (k.block j (Nat.lt_of_lt_of_le hj h.size) hr).trans (h.block j hj (by simp))⟩
theorem OwnR.apart {w : World} {base : Nat} {e : TypeId} {s : Nat} {v : Value} {n : Nat} {xs : List Value} (h : OwnR w base e s v n xs) {g : Nat} (hg : w.heap.size ≤ g) : some g ≠ v.ownBlock := fun e => by
  have := (World.ownsRow.lt h g e.symm).2; omega
section
variable {P : Program} (w : World) {t e : TypeId} {s : Nat} {z : Value} {y : Nat}
theorem run_appR (hu : RecT P t e s z y) (base : Nat) (ty : TypeId) (v : Value) (n : Nat) (xs : List Value) (hown : OwnR w base e s v n xs) (ad : Addr) (m c : Nat) (news : List Value) (hl : news.length = m * s)
    (hnews : ∀ j u, news[j]? = some u → w.cell? (ad.add j) = some u) (h1 : ∀ u ∈ news, u.oneCell' = true) (hlen : n + m ≤ 1000000000) (hbase : base ≤ w.heap.size) :
    ∃ v' w', (Builtin.append_ #[t, t] ty #[v, .slice (some ad) m c]).run P w = .ok v' w' ∧ OwnR w' base e s v' (n + m) (xs ++ news) ∧ Below base w w' ∧ w.grownBy w' v.ownBlock := by
  obtain ⟨i, hi, hzz⟩ := Option.map_eq_some_iff.1 hu.info
  simp only [Prod.mk.injEq] at hzz
  obtain ⟨hz, hsz, hby⟩ := hzz
  have hb : (n + m) * y ≤ 1000000000 * 1000 := Nat.mul_le_mul hlen hu.by_
  obtain ⟨v', w', hrun, h2, h3, _⟩ := run_append_own_at (P := P) w base t ty e i z s y hu.sl hi hz hsz hby hu.zs hu.pos v n xs hown ad m c news hl hnews h1 (by unfold maxLen; omega) (by omega) hbase
  exact ⟨v', w', hrun, h2, (Below.refl _ _).grown h3 hbase (fun k hk => (World.ownsRow.lt hown k hk).1), h3⟩
theorem wp_appR (hu : RecT P t e s z y) {o : Oper} {a : Act} {K : Act → World → Prop} {Q : Exit → Act → World → Prop} (sO x : Operand)
    (ho : o.op = .call { callee := .builtin .append, args := #[sO, x], argTypes := #[t, t] })
    (base : Nat) (v : Value) (n : Nat) (xs : List Value) (hs : a.eval sO = v) (hown : OwnR w base e s v n xs) (ad : Addr) (m c : Nat) (news : List Value) (hx : a.eval x = .slice (some ad) m c) (hl : news.length = m * s)
    (hnews : ∀ j u, news[j]? = some u → w.cell? (ad.add j) = some u) (h1 : ∀ u ∈ news, u.oneCell' = true) (hlen : n + m ≤ 1000000000) (hbase : base ≤ w.heap.size)
    (h : ∀ v' w', OwnR w' base e s v' (n + m) (xs ++ news) → Below base w w' → w.grownBy w' v.ownBlock → K (a.put o.dst v') w') : o.wp P a w K Q := by
  obtain ⟨v', w', hrun, h2, h3, h4⟩ := run_appR (P := P) w hu base o.type v n xs hown ad m c news hl hnews h1 hlen hbase
  unfold Oper.wp execOp
  simp only [ho, resolve, invoke, builtin, Sem.run_bind, Sem.run_pure, Result.andThen_ok, List.map_toArray, List.map_cons, List.map_nil, hs, hx, hrun]
  exact h v' w' h2 h3 h4
theorem wpList_appR1 (hu : RecT P t e s z y) {ops : Array Oper} {rest : List Oper} {o : Oper} {a : Act} {Q : Exit → Act → World → Prop} (hgd : o.guard = none) (sO x : Operand)
    (ho : o.op = .call { callee := .builtin .append, args := #[sO, x], argTypes := #[t, t] })
    (base : Nat) (v : Value) (n : Nat) (xs : List Value) (hs : a.eval sO = v) (hown : OwnR w base e s v n xs) (c : Nat) (cs : Array Value) (hx : a.eval x = .slice (some ⟨w.heap.size, 0, none⟩) 1 c) (hl : cs.size = s)
    (h1 : ∀ u ∈ cs.toList, u.oneCell' = true) (hlen : n + 1 ≤ 1000000000) (hbase : base ≤ w.heap.size)
    (h : ∀ v' w', OwnR w' base e s v' (n + 1) (xs ++ cs.toList) → Below base w w' → w.grownBy w' v.ownBlock → wpList P ops Q rest (a.put o.dst v') w') : wpList P ops Q (o :: rest) a (w.alloc (.cells cs e)) := by
  refine wpList_plain hgd fun _ hK => wp_appR _ hu sO x ho base v n xs hs (hown.alloc _) ⟨w.heap.size, 0, none⟩ 1 c cs.toList hx (by simp [hl]) (fun j u hj => ?_) h1 hlen (by simp; omega) fun v' w' h2 h3 h4 => hK _ _ (h v' w' h2 (((Below.refl _ _).alloc hbase _).trans h3) (grown_next (World.grownBy_alloc w _ none) h4))
  rw [add_plain, (Blk.new w e cs).cell, show 0 + j = j by omega]
  simpa using hj
end
end Go.Proofs.YtlpmcohbbffbfaaDoor.Mem
namespace Go.Proofs.YtlpmcohbbffbfaaDoor.Mem
open Go.RowKit
theorem OwnR.keepb {w w' : World} {base : Nat} {e : TypeId} {s : Nat} {v : Value} {n : Nat} {xs : List Value} (h : OwnR w base e s v n xs) (hk : ∀ g, some g = v.ownBlock → w'.heap[g]? = w.heap[g]?) : OwnR w' base e s v n xs := by
  obtain ⟨h1, h2⟩ := h
  refine ⟨h1, ?_⟩
  rcases h2 with h2 | ⟨g, cap, cur, hv, hg, hh, r⟩
  · exact .inl h2
  · refine .inr ⟨g, cap, cur, hv, hg, ?_, r⟩
    rw [hk g (by subst hv; rfl)]; exact hh
theorem OwnR.base_le {w : World} {base : Nat} {e : TypeId} {s : Nat} {v : Value} {n : Nat} {xs : List Value} (h : OwnR w base e s v n xs) {g : Nat} (hg : some g = v.ownBlock) : base ≤ g ∧ g < w.heap.size := World.ownsRow.lt h g hg.symm
theorem OwnR.set {w : World} {base : Nat} {e : TypeId} {s : Nat} {v : Value} {n : Nat} {xs : List Value} (h : OwnR w base e s v n xs) {p : Addr} (hp : p.block < base) (u : Value) : OwnR (w.setCell p u) base e s v n xs :=
  h.keepb fun g hg => Below.heap_setCell _ _ _ _ (fun e => by have := (h.base_le hg).1; omega)
theorem ne_own {v v' : Value} {g n : Nat} (h : some g ≠ v.ownBlock) (k : v'.ownBlock = v.ownBlock ∨ v'.ownBlock = some n) (hg : g < n) : some g ≠ v'.ownBlock := by
  rcases k with k | k <;> rw [k]
  · exact h
  · intro e; injection e; omega
section
variable {P : Program} (w : World) {t e : TypeId} {s : Nat} {z : Value} {y : Nat}
theorem run_appRg (hu : RecT P t e s z y) (base : Nat) (ty : TypeId) (v : Value) (n : Nat) (xs : List Value) (hown : OwnR w base e s v n xs) (ad : Addr) (m c : Nat) (news : List Value) (hl : news.length = m * s)
    (hnews : ∀ j u, news[j]? = some u → w.cell? (ad.add j) = some u) (h1 : ∀ u ∈ news, u.oneCell' = true) (hlen : n + m ≤ 1000000000) (hbase : base ≤ w.heap.size) :
    ∃ v' w', (Builtin.append_ #[t, t] ty #[v, .slice (some ad) m c]).run P w = .ok v' w' ∧ OwnR w' base e s v' (n + m) (xs ++ news) ∧ Below base w w' ∧ w.grownBy w' v.ownBlock ∧ (v'.ownBlock = v.ownBlock ∨ v'.ownBlock = some w.heap.size) := by
  obtain ⟨i, hi, hzz⟩ := Option.map_eq_some_iff.1 hu.info
  simp only [Prod.mk.injEq] at hzz
  obtain ⟨hz, hsz, hby⟩ := hzz
  have hb : (n + m) * y ≤ 1000000000 * 1000 := Nat.mul_le_mul hlen hu.by_
  obtain ⟨v', w', hrun, h2, h3, _, h4⟩ := run_append_own_at (P := P) w base t ty e i z s y hu.sl hi hz hsz hby hu.zs hu.pos v n xs hown ad m c news hl hnews h1 (by unfold maxLen; omega) (by omega) hbase
  exact ⟨v', w', hrun, h2, (Below.refl _ _).grown h3 hbase (fun k hk => (World.ownsRow.lt hown k hk).1), h3, h4⟩
theorem wp_appRg (hu : RecT P t e s z y) {o : Oper} {a : Act} {K : Act → World → Prop} {Q : Exit → Act → World → Prop} (d : Option Tmp) (hd : o.dst = d) (sO x : Operand)
    (ho : o.op = .call { callee := .builtin .append, args := #[sO, x], argTypes := #[t, t] })
    (base : Nat) (v : Value) (n : Nat) (xs : List Value) (hs : a.eval sO = v) (hown : OwnR w base e s v n xs) (ad : Addr) (m c : Nat) (news : List Value) (hx : a.eval x = .slice (some ad) m c) (hl : news.length = m * s)
    (hnews : ∀ j u, news[j]? = some u → w.cell? (ad.add j) = some u) (h1 : ∀ u ∈ news, u.oneCell' = true) (hlen : n + m ≤ 1000000000) (hbase : base ≤ w.heap.size)
    (h : ∀ v' w', OwnR w' base e s v' (n + m) (xs ++ news) → Below base w w' → w.grownBy w' v.ownBlock → (v'.ownBlock = v.ownBlock ∨ v'.ownBlock = some w.heap.size) → K (a.put d v') w') : o.wp P a w K Q := by
  obtain ⟨v', w', hrun, h2, h3, h4, h5⟩ := run_appRg (P := P) w hu base o.type v n xs hown ad m c news hl hnews h1 hlen hbase
  unfold Oper.wp execOp
  simp only [ho, resolve, invoke, builtin, Sem.run_bind, Sem.run_pure, Result.andThen_ok, List.map_toArray, List.map_cons, List.map_nil, hs, hx, hrun]
  have := h v' w' h2 h3 h4 h5
  rw [← hd] at this
  exact this
theorem wpList_appRg1 (hu : RecT P t e s z y) {ops : Array Oper} {rest : List Oper} {o : Oper} {a : Act} {Q : Exit → Act → World → Prop} (hgd : o.guard = none) (d : Option Tmp) (hd : o.dst = d) (sO x : Operand)
    (ho : o.op = .call { callee := .builtin .append, args := #[sO, x], argTypes := #[t, t] })
    (base : Nat) (v : Value) (n : Nat) (xs : List Value) (hs : a.eval sO = v) (hown : OwnR w base e s v n xs) (c : Nat) (cs : Array Value) (hx : a.eval x = .slice (some ⟨w.heap.size, 0, none⟩) 1 c) (hl : cs.size = s)
    (h1 : ∀ u ∈ cs.toList, u.oneCell' = true) (hlen : n + 1 ≤ 1000000000) (hbase : base ≤ w.heap.size)
    (h : ∀ v' w', OwnR w' base e s v' (n + 1) (xs ++ cs.toList) → Below base w w' → w.grownBy w' v.ownBlock → (v'.ownBlock = v.ownBlock ∨ v'.ownBlock = some (w.heap.size + 1)) → wpList P ops Q rest (a.put d v') w') : wpList P ops Q (o :: rest) a (w.alloc (.cells cs e)) := by
  refine wpList_plain hgd fun _ hK => wp_appRg _ hu _ rfl sO x ho base v n xs hs (hown.alloc _) ⟨w.heap.size, 0, none⟩ 1 c cs.toList hx (by simp [hl]) (fun j u hj => ?_) h1 hlen (by simp; omega) fun v' w' h2 h3 h4 h5 => hK _ _ ?_
  · rw [add_plain, (Blk.new w e cs).cell, show 0 + j = j by omega]
    simpa using hj
  · have := h v' w' h2 (((Below.refl _ _).alloc hbase _).trans h3) (grown_next (World.grownBy_alloc w _ none) h4) (h5.imp id fun e => e.trans (by simp))
    rw [← hd] at this
    exact this
end
end Go.Proofs.YtlpmcohbbffbfaaDoor.Mem
namespace Go.Proofs.YtlpmcohbbffbfaaDoor.Mem
open Go.RowKit
theorem bel_call {B B' : Nat} {w a b : World} (h : Below B' a b) (hle : B ≤ B') (k : Below B w a) : Below B w b := k.trans (h.mono hle)
theorem Bys.now {w W : World} {A : Option Addr} {l : List UInt8} (h : Bys w w.heap.size A l) (b : Below w.heap.size w W) : Bys W W.heap.size A l := (h.below b).more b.size
theorem Bys.one {w : World} {B : Nat} {A : Option Addr} {x : UInt8} (h : Bys w B A [x]) : ∃ b off, A = some ⟨b, off, none⟩ ∧ b < B ∧ w.cell? ⟨b, off, none⟩ = some (.int .u8 ((x.toNat : Nat) : Int)) := by
  rcases h with h | ⟨b, off, rfl, hb, hc⟩
  · cases h
  · exact ⟨b, off, rfl, hb, hc 0 (by simp)⟩
theorem Blk.frozen {w : World} {g : Nat} {t : TypeId} {cs : Array Value} (h : Blk w g t cs) (i : Nat) : w.frozen? ⟨g, i, none⟩ = false := by
  unfold Blk at h; simp [World.frozen?, h]
theorem Blk.past {w : World} {g : Nat} {t : TypeId} {cs : Array Value} (h : Blk w g t cs) {p : Addr} (hp : p.block ≠ g) (u : Value) : Blk (w.setCell p u) g t cs :=
  (Below.heap_setCell _ _ _ _ (fun e => hp e.symm)).trans h
theorem Blk.set {w : World} {g : Nat} {t : TypeId} {cs : Array Value} (h : Blk w g t cs) (i : Nat) (u : Value) : Blk (w.setCell ⟨g, i, none⟩ u) g t (cs.setIfInBounds i u) := by
  unfold Blk at h ⊢; simp [World.setCell, Array.getElem?_modify, h]
theorem cell_set (w : World) (g i h j : Nat) (u : Value) : (w.setCell ⟨g, i, none⟩ u).cell? ⟨h, j, none⟩ = if g = h ∧ i = j then (w.cell? ⟨g, i, none⟩).map (fun _ => u) else w.cell? ⟨h, j, none⟩ := by
  split
  · rename_i e
    obtain ⟨rfl, rfl⟩ := e
    cases hc : w.cell? ⟨g, i, none⟩ with
    | none =>
      have : (w.setCell ⟨g, i, none⟩ u).cell? ⟨g, i, none⟩ = none := by
        unfold World.cell? at hc ⊢
        simp only [World.setCell, Array.getElem?_modify, if_true]
        cases hg : w.heap[g]? with
        | none => rfl
        | some o => cases o <;> simp_all
      rw [this]; rfl
    | some v => exact World.cell?_setCell_same _ _ _ hc
  · rename_i e
    exact World.cell?_setCell_other _ _ _ _ (by intro k; injection k; omega)
theorem Bys.apart {w : World} {B g off : Nat} {l : List UInt8} (h : Bys w B (some ⟨g, off, none⟩) l) {p : Addr} (hp : p.block ≠ g) (u : Value) : Bys (w.setCell p u) B (some ⟨g, off, none⟩) l := by
  rcases h with h | ⟨b, o, e, hb, hc⟩
  · exact .inl h
  · simp only [Option.some.injEq, Addr.mk.injEq, and_true] at e
    obtain ⟨rfl, rfl⟩ := e
    exact .inr ⟨_, _, rfl, hb, fun k hk => (World.cell?_setCell_other _ _ _ _ (by intro e; subst e; exact hp rfl)).trans (hc k hk)⟩
def NewBys (B : Nat) (w : World) (A : Option Addr) (l : List UInt8) : Prop := Bys w w.heap.size A l ∧ (l = [] ∨ ∃ b off, A = some ⟨b, off, none⟩ ∧ B ≤ b)
theorem NewBys.nil (B : Nat) (w : World) (A : Option Addr) : NewBys B w A [] := ⟨Bys.nil _ _ _, .inl rfl⟩
theorem NewBys.less {B B' : Nat} {w : World} {A : Option Addr} {l : List UInt8} (h : NewBys B w A l) (hB : B' ≤ B) : NewBys B' w A l :=
  ⟨h.1, h.2.imp id fun ⟨b, off, e, k⟩ => ⟨b, off, e, by omega⟩⟩
theorem NewBys.now {B : Nat} {w w' : World} {A : Option Addr} {l : List UInt8} (h : NewBys B w A l) (b : Below w.heap.size w w') : NewBys B w' A l := ⟨h.1.now b, h.2⟩
theorem NewBys.alloc {B : Nat} {w : World} {A : Option Addr} {l : List UInt8} (h : NewBys B w A l) (o : Obj) : NewBys B (w.alloc o) A l := h.now ((Below.refl _ _).alloc (Nat.le_refl _) _)
theorem NewBys.drew {B : Nat} {w : World} {A : Option Addr} {l : List UInt8} (h : NewBys B w A l) : NewBys B w.drew A l := h
theorem NewBys.set {B : Nat} {w : World} {A : Option Addr} {l : List UInt8} (h : NewBys B w A l) {p : Addr} (hp : p.block < B) (u : Value) : NewBys B (w.setCell p u) A l := by
  refine ⟨Bys.more (B := w.heap.size) ?_ (by simp [World.setCell]), h.2⟩
  rcases h.2 with rfl | ⟨b, off, rfl, hb⟩
  · exact Bys.nil _ _ _
  · exact h.1.apart (by omega) u
theorem Own.new {w : World} {base : Nat} {e : TypeId} {v : Value} {l : List UInt8} (h : Own w base e v l) : ∃ A c, v = .slice A l.length c ∧ l.length ≤ c ∧ NewBys base w A l := by
  obtain ⟨A, c, rfl, hy, hc⟩ := h.room
  refine ⟨A, c, rfl, hc, hy, ?_⟩
  rcases h.2 with ⟨e, h0⟩ | ⟨g, cap, cur, e, hg, _⟩
  · exact .inl (List.length_eq_zero_iff.1 h0)
  · injection e with e _ _
    exact .inr ⟨g, 0, e, hg⟩
structure Save (g : Nat) (w w' : World) : Prop where
  bel : Below g w w'
  rest : ∀ b, g < b → b < w.heap.size → w'.heap[b]? = w.heap[b]?
theorem Save.refl (g : Nat) (w : World) : Save g w w := ⟨Below.refl _ _, fun _ _ _ => rfl⟩
theorem Save.trans {g : Nat} {a b c : World} (h : Save g a b) (k : Save g b c) : Save g a c :=
  ⟨h.bel.trans k.bel, fun i hi hs => (k.rest i hi (Nat.lt_of_lt_of_le hs h.bel.size)).trans (h.rest i hi hs)⟩
theorem Save.of {g : Nat} {w w' : World} (h : Below w.heap.size w w') (hg : g ≤ w.heap.size) : Save g w w' := ⟨h.mono hg, fun b _ hb => h.block b hb⟩
theorem Save.call {g : Nat} {w a b : World} (h : Below a.heap.size a b) (hg : g ≤ a.heap.size) (k : Save g w a) : Save g w b := k.trans (Save.of h hg)
theorem Save.next {g : Nat} {w a b : World} (h : Save g a b) (k : Save g w a) : Save g w b := k.trans h
theorem Save.drewN {g : Nat} {w w' : World} (h : Save g w w') (n : Nat) : Save g w (w'.drewN n) := ⟨bel_drewN h.bel n, h.rest⟩
theorem Save.drew {g : Nat} {w w' : World} (h : Save g w w') : Save g w w'.drew := ⟨h.bel.drew, h.rest⟩
theorem Save.set {g : Nat} {w w' : World} (h : Save g w w') (i : Nat) (u : Value) : Save g w (w'.setCell ⟨g, i, none⟩ u) :=
  ⟨h.bel.setCell (Nat.le_refl _) u, fun b hb hs => (Below.heap_setCell _ _ _ _ (by intro e; have e' : b = g := e; omega)).trans (h.rest b hb hs)⟩
theorem Save.alloc {g : Nat} {w w' : World} (h : Save g w w') (hg : g ≤ w'.heap.size) (o : Obj) : Save g w (w'.alloc o) := Save.call ((Below.refl _ _).alloc (Nat.le_refl _) o) hg h
theorem Save.size {g : Nat} {w w' : World} (h : Save g w w') : w.heap.size ≤ w'.heap.size := h.bel.size
theorem Save.block {g : Nat} {w w' : World} (h : Save g w w') {b : Nat} (hb : b < w.heap.size) (hn : b ≠ g) : w'.heap[b]? = w.heap[b]? := by
  by_cases k : b < g
  · exact h.bel.block b k
  · exact h.rest b (by omega) hb
theorem Save.cell {g : Nat} {w w' : World} (h : Save g w w') {p : Addr} (hp : p.block < w.heap.size) (hn : p.block ≠ g) : w'.cell? p = w.cell? p := World.cell?_of_block (w := w) (h.block hp hn)
theorem Save.frozen {g : Nat} {w w' : World} (h : Save g w w') {p : Addr} (hp : p.block < w.heap.size) (hn : p.block ≠ g) : w'.frozen? p = w.frozen? p := World.frozen?_of_block (w := w) (h.block hp hn)
theorem Save.bys {g B : Nat} {w w' : World} {A : Option Addr} {l : List UInt8} (h : Save g w w') (y : Bys w B A l) (hB : B ≤ g) : Bys w' B A l := y.below (h.bel.mono hB)
theorem Blk.newat {w : World} {g : Nat} {t : TypeId} {cs : Array Value} (e : g = w.heap.size) : Blk (w.alloc (.cells cs t)) g t cs := e ▸ Blk.new w t cs
def B1 (w : World) (g : Nat) (t : TypeId) (x0 : Value) : Prop := Blk w g t #[x0]
theorem B1.newat {w : World} {g : Nat} {t : TypeId} {x0 : Value} (e : g = w.heap.size) : B1 (w.alloc (.cells #[x0] t)) g t x0 := Blk.newat e
theorem B1.alloc {w : World} {g : Nat} {t : TypeId} {x0 : Value} (h : B1 w g t x0) (o : Obj) : B1 (w.alloc o) g t x0 := Blk.alloc h o
theorem B1.past {w : World} {g : Nat} {t : TypeId} {x0 : Value} (h : B1 w g t x0) {p : Addr} (hp : p.block ≠ g) (u : Value) : B1 (w.setCell p u) g t x0 := Blk.past h hp u
theorem B1.drewN {w : World} {g : Nat} {t : TypeId} {x0 : Value} (h : B1 w g t x0) (k : Nat) : B1 (w.drewN k) g t x0 := h
theorem B1.drew {w : World} {g : Nat} {t : TypeId} {x0 : Value} (h : B1 w g t x0) : B1 w.drew g t x0 := h
theorem B1.below {w : World} {g : Nat} {t : TypeId} {x0 : Value} {B : Nat} {w' : World} (h : B1 w g t x0) (hb : Below B w w') (hg : g < B) : B1 w' g t x0 := Blk.below h hb hg
theorem B1.lt {w : World} {g : Nat} {t : TypeId} {x0 : Value} (h : B1 w g t x0) : g < w.heap.size := Blk.lt h
theorem B1.c0 {w : World} {g : Nat} {t : TypeId} {x0 : Value} (h : B1 w g t x0) : w.cell? ⟨g, 0, none⟩ = some x0 := Blk.cell h 0
theorem B1.facts {w : World} {g : Nat} {t : TypeId} {x0 : Value} (h : B1 w g t x0) : w.cell? ⟨g, 0, none⟩ = some x0 ∧ w.frozen? ⟨g, 0, none⟩ = false := ⟨h.c0, Blk.frozen h 0⟩
def B2 (w : World) (g : Nat) (t : TypeId) (x0 x1 : Value) : Prop := Blk w g t #[x0, x1]
theorem B2.newat {w : World} {g : Nat} {t : TypeId} {x0 x1 : Value} (e : g = w.heap.size) : B2 (w.alloc (.cells #[x0, x1] t)) g t x0 x1 := Blk.newat e
theorem B2.alloc {w : World} {g : Nat} {t : TypeId} {x0 x1 : Value} (h : B2 w g t x0 x1) (o : Obj) : B2 (w.alloc o) g t x0 x1 := Blk.alloc h o
theorem B2.past {w : World} {g : Nat} {t : TypeId} {x0 x1 : Value} (h : B2 w g t x0 x1) {p : Addr} (hp : p.block ≠ g) (u : Value) : B2 (w.setCell p u) g t x0 x1 := Blk.past h hp u
theorem B2.drewN {w : World} {g : Nat} {t : TypeId} {x0 x1 : Value} (h : B2 w g t x0 x1) (k : Nat) : B2 (w.drewN k) g t x0 x1 := h
theorem B2.drew {w : World} {g : Nat} {t : TypeId} {x0 x1 : Value} (h : B2 w g t x0 x1) : B2 w.drew g t x0 x1 := h
theorem B2.below {w : World} {g : Nat} {t : TypeId} {x0 x1 : Value} {B : Nat} {w' : World} (h : B2 w g t x0 x1) (hb : Below B w w') (hg : g < B) : B2 w' g t x0 x1 := Blk.below h hb hg
theorem B2.lt {w : World} {g : Nat} {t : TypeId} {x0 x1 : Value} (h : B2 w g t x0 x1) : g < w.heap.size := Blk.lt h
theorem B2.c0 {w : World} {g : Nat} {t : TypeId} {x0 x1 : Value} (h : B2 w g t x0 x1) : w.cell? ⟨g, 0, none⟩ = some x0 := Blk.cell h 0
theorem B2.set1 {w : World} {g : Nat} {t : TypeId} {x0 x1 : Value} (h : B2 w g t x0 x1) (u : Value) : B2 (w.setCell ⟨g, 1, none⟩ u) g t x0 u := Blk.set h 1 u
theorem B2.c1 {w : World} {g : Nat} {t : TypeId} {x0 x1 : Value} (h : B2 w g t x0 x1) : w.cell? ⟨g, 1, none⟩ = some x1 := Blk.cell h 1
theorem B2.facts {w : World} {g : Nat} {t : TypeId} {x0 x1 : Value} (h : B2 w g t x0 x1) : w.cell? ⟨g, 0, none⟩ = some x0 ∧ w.cell? ⟨g, 1, none⟩ = some x1 ∧ w.frozen? ⟨g, 0, none⟩ = false ∧ w.frozen? ⟨g, 1, none⟩ = false := ⟨h.c0, h.c1, Blk.frozen h 0, Blk.frozen h 1⟩
def B3 (w : World) (g : Nat) (t : TypeId) (x0 x1 x2 : Value) : Prop := Blk w g t #[x0, x1, x2]
theorem B3.newat {w : World} {g : Nat} {t : TypeId} {x0 x1 x2 : Value} (e : g = w.heap.size) : B3 (w.alloc (.cells #[x0, x1, x2] t)) g t x0 x1 x2 := Blk.newat e
theorem B3.alloc {w : World} {g : Nat} {t : TypeId} {x0 x1 x2 : Value} (h : B3 w g t x0 x1 x2) (o : Obj) : B3 (w.alloc o) g t x0 x1 x2 := Blk.alloc h o
theorem B3.past {w : World} {g : Nat} {t : TypeId} {x0 x1 x2 : Value} (h : B3 w g t x0 x1 x2) {p : Addr} (hp : p.block ≠ g) (u : Value) : B3 (w.setCell p u) g t x0 x1 x2 := Blk.past h hp u
theorem B3.drewN {w : World} {g : Nat} {t : TypeId} {x0 x1 x2 : Value} (h : B3 w g t x0 x1 x2) (k : Nat) : B3 (w.drewN k) g t x0 x1 x2 := h
theorem B3.drew {w : World} {g : Nat} {t : TypeId} {x0 x1 x2 : Value} (h : B3 w g t x0 x1 x2) : B3 w.drew g t x0 x1 x2 := h
theorem B3.below {w : World} {g : Nat} {t : TypeId} {x0 x1 x2 : Value} {B : Nat} {w' : World} (h : B3 w g t x0 x1 x2) (hb : Below B w w') (hg : g < B) : B3 w' g t x0 x1 x2 := Blk.below h hb hg
theorem B3.lt {w : World} {g : Nat} {t : TypeId} {x0 x1 x2 : Value} (h : B3 w g t x0 x1 x2) : g < w.heap.size := Blk.lt h
theorem B3.c0 {w : World} {g : Nat} {t : TypeId} {x0 x1 x2 : Value} (h : B3 w g t x0 x1 x2) : w.cell? ⟨g, 0, none⟩ = some x0 := Blk.cell h 0
theorem B3.set1 {w : World} {g : Nat} {t : TypeId} {x0 x1 x2 : Value} (h : B3 w g t x0 x1 x2) (u : Value) : B3 (w.setCell ⟨g, 1, none⟩ u) g t x0 u x2 := Blk.set h 1 u
theorem B3.c1 {w : World} {g : Nat} {t : TypeId} {x0 x1 x2 : Value} (h : B3 w g t x0 x1 x2) : w.cell? ⟨g, 1, none⟩ = some x1 := Blk.cell h 1
theorem B3.set2 {w : World} {g : Nat} {t : TypeId} {x0 x1 x2 : Value} (h : B3 w g t x0 x1 x2) (u : Value) : B3 (w.setCell ⟨g, 2, none⟩ u) g t x0 x1 u := Blk.set h 2 u
theorem B3.c2 {w : World} {g : Nat} {t : TypeId} {x0 x1 x2 : Value} (h : B3 w g t x0 x1 x2) : w.cell? ⟨g, 2, none⟩ = some x2 := Blk.cell h 2
theorem B3.facts {w : World} {g : Nat} {t : TypeId} {x0 x1 x2 : Value} (h : B3 w g t x0 x1 x2) : w.cell? ⟨g, 0, none⟩ = some x0 ∧ w.cell? ⟨g, 1, none⟩ = some x1 ∧ w.cell? ⟨g, 2, none⟩ = some x2 ∧ w.frozen? ⟨g, 0, none⟩ = false ∧ w.frozen? ⟨g, 1, none⟩ = false ∧ w.frozen? ⟨g, 2, none⟩ = false := ⟨h.c0, h.c1, h.c2, Blk.frozen h 0, Blk.frozen h 1, Blk.frozen h 2⟩
def B4 (w : World) (g : Nat) (t : TypeId) (x0 x1 x2 x3 : Value) : Prop := Blk w g t #[x0, x1, x2, x3]
theorem B4.newat {w : World} {g : Nat} {t : TypeId} {x0 x1 x2 x3 : Value} (e : g = w.heap.size) : B4 (w.alloc (.cells #[x0, x1, x2, x3] t)) g t x0 x1 x2 x3 := Blk.newat e
theorem B4.alloc {w : World} {g : Nat} {t : TypeId} {x0 x1 x2 x3 : Value} (h : B4 w g t x0 x1 x2 x3) (o : Obj) : B4 (w.alloc o) g t x0 x1 x2 x3 := Blk.alloc h o
theorem B4.past {w : World} {g : Nat} {t : TypeId} {x0 x1 x2 x3 : Value} (h : B4 w g t x0 x1 x2 x3) {p : Addr} (hp : p.block ≠ g) (u : Value) : B4 (w.setCell p u) g t x0 x1 x2 x3 := Blk.past h hp u
theorem B4.drewN {w : World} {g : Nat} {t : TypeId} {x0 x1 x2 x3 : Value} (h : B4 w g t x0 x1 x2 x3) (k : Nat) : B4 (w.drewN k) g t x0 x1 x2 x3 := h
theorem B4.drew {w : World} {g : Nat} {t : TypeId} {x0 x1 x2 x3 : Value} (h : B4 w g t x0 x1 x2 x3) : B4 w.drew g t x0 x1 x2 x3 := h
theorem B4.below {w : World} {g : Nat} {t : TypeId} {x0 x1 x2 x3 : Value} {B : Nat} {w' : World} (h : B4 w g t x0 x1 x2 x3) (hb : Below B w w') (hg : g < B) : B4 w' g t x0 x1 x2 x3 := Blk.below h hb hg
theorem B4.lt {w : World} {g : Nat} {t : TypeId} {x0 x1 x2 x3 : Value} (h : B4 w g t x0 x1 x2 x3) : g < w.heap.size := Blk.lt h
theorem B4.c0 {w : World} {g : Nat} {t : TypeId} {x0 x1 x2 x3 : Value} (h : B4 w g t x0 x1 x2 x3) : w.cell? ⟨g, 0, none⟩ = some x0 := Blk.cell h 0
theorem B4.set1 {w : World} {g : Nat} {t : TypeId} {x0 x1 x2 x3 : Value} (h : B4 w g t x0 x1 x2 x3) (u : Value) : B4 (w.setCell ⟨g, 1, none⟩ u) g t x0 u x2 x3 := Blk.set h 1 u
theorem B4.c1 {w : World} {g : Nat} {t : TypeId} {x0 x1 x2 x3 : Value} (h : B4 w g t x0 x1 x2 x3) : w.cell? ⟨g, 1, none⟩ = some x1 := Blk.cell h 1
theorem B4.set2 {w : World} {g : Nat} {t : TypeId} {x0 x1 x2 x3 : Value} (h : B4 w g t x0 x1 x2 x3) (u : Value) : B4 (w.setCell ⟨g, 2, none⟩ u) g t x0 x1 u x3 := Blk.set h 2 u
theorem B4.c2 {w : World} {g : Nat} {t : TypeId} {x0 x1 x2 x3 : Value} (h : B4 w g t x0 x1 x2 x3) : w.cell? ⟨g, 2, none⟩ = some x2 := Blk.cell h 2
theorem B4.set3 {w : World} {g : Nat} {t : TypeId} {x0 x1 x2 x3 : Value} (h : B4 w g t x0 x1 x2 x3) (u : Value) : B4 (w.setCell ⟨g, 3, none⟩ u) g t x0 x1 x2 u := Blk.set h 3 u
theorem B4.c3 {w : World} {g : Nat} {t : TypeId} {x0 x1 x2 x3 : Value} (h : B4 w g t x0 x1 x2 x3) : w.cell? ⟨g, 3, none⟩ = some x3 := Blk.cell h 3
theorem B4.facts {w : World} {g : Nat} {t : TypeId} {x0 x1 x2 x3 : Value} (h : B4 w g t x0 x1 x2 x3) : w.cell? ⟨g, 0, none⟩ = some x0 ∧ w.cell? ⟨g, 1, none⟩ = some x1 ∧ w.cell? ⟨g, 2, none⟩ = some x2 ∧ w.cell? ⟨g, 3, none⟩ = some x3 ∧ w.frozen? ⟨g, 0, none⟩ = false ∧ w.frozen? ⟨g, 1, none⟩ = false ∧ w.frozen? ⟨g, 2, none⟩ = false ∧ w.frozen? ⟨g, 3, none⟩ = false := ⟨h.c0, h.c1, h.c2, h.c3, Blk.frozen h 0, Blk.frozen h 1, Blk.frozen h 2, Blk.frozen h 3⟩
def B5 (w : World) (g : Nat) (t : TypeId) (x0 x1 x2 x3 x4 : Value) : Prop := Blk w g t #[x0, x1, x2, x3, x4]
theorem B5.newat {w : World} {g : Nat} {t : TypeId} {x0 x1 x2 x3 x4 : Value} (e : g = w.heap.size) : B5 (w.alloc (.cells #[x0, x1, x2, x3, x4] t)) g t x0 x1 x2 x3 x4 := Blk.newat e
theorem B5.alloc {w : World} {g : Nat} {t : TypeId} {x0 x1 x2 x3 x4 : Value} (h : B5 w g t x0 x1 x2 x3 x4) (o : Obj) : B5 (w.alloc o) g t x0 x1 x2 x3 x4 := Blk.alloc h o
theorem B5.past {w : World} {g : Nat} {t : TypeId} {x0 x1 x2 x3 x4 : Value} (h : B5 w g t x0 x1 x2 x3 x4) {p : Addr} (hp : p.block ≠ g) (u : Value) : B5 (w.setCell p u) g t x0 x1 x2 x3 x4 := Blk.past h hp u
theorem B5.drewN {w : World} {g : Nat} {t : TypeId} {x0 x1 x2 x3 x4 : Value} (h : B5 w g t x0 x1 x2 x3 x4) (k : Nat) : B5 (w.drewN k) g t x0 x1 x2 x3 x4 := h
theorem B5.drew {w : World} {g : Nat} {t : TypeId} {x0 x1 x2 x3 x4 : Value} (h : B5 w g t x0 x1 x2 x3 x4) : B5 w.drew g t x0 x1 x2 x3 x4 := h
theorem B5.below {w : World} {g : Nat} {t : TypeId} {x0 x1 x2 x3 x4 : Value} {B : Nat} {w' : World} (h : B5 w g t x0 x1 x2 x3 x4) (hb : Below B w w') (hg : g < B) : B5 w' g t x0 x1 x2 x3 x4 := Blk.below h hb hg
theorem B5.lt {w : World} {g : Nat} {t : TypeId} {x0 x1 x2 x3 x4 : Value} (h : B5 w g t x0 x1 x2 x3 x4) : g < w.heap.size := Blk.lt h
theorem B5.c0 {w : World} {g : Nat} {t : TypeId} {x0 x1 x2 x3 x4 : Value} (h : B5 w g t x0 x1 x2 x3 x4) : w.cell? ⟨g, 0, none⟩ = some x0 := Blk.cell h 0
theorem B5.set1 {w : World} {g : Nat} {t : TypeId} {x0 x1 x2 x3 x4 : Value} (h : B5 w g t x0 x1 x2 x3 x4) (u : Value) : B5 (w.setCell ⟨g, 1, none⟩ u) g t x0 u x2 x3 x4 := Blk.set h 1 u
theorem B5.c1 {w : World} {g : Nat} {t : TypeId} {x0 x1 x2 x3 x4 : Value} (h : B5 w g t x0 x1 x2 x3 x4) : w.cell? ⟨g, 1, none⟩ = some x1 := Blk.cell h 1
theorem B5.set2 {w : World} {g : Nat} {t : TypeId} {x0 x1 x2 x3 x4 : Value} (h : B5 w g t x0 x1 x2 x3 x4) (u : Value) : B5 (w.setCell ⟨g, 2, none⟩ u) g t x0 x1 u x3 x4 := Blk.set h 2 u
theorem B5.c2 {w : World} {g : Nat} {t : TypeId} {x0 x1 x2 x3 x4 : Value} (h : B5 w g t x0 x1 x2 x3 x4) : w.cell? ⟨g, 2, none⟩ = some x2 := Blk.cell h 2
theorem B5.set3 {w : World} {g : Nat} {t : TypeId} {x0 x1 x2 x3 x4 : Value} (h : B5 w g t x0 x1 x2 x3 x4) (u : Value) : B5 (w.setCell ⟨g, 3, none⟩ u) g t x0 x1 x2 u x4 := Blk.set h 3 u
theorem B5.c3 {w : World} {g : Nat} {t : TypeId} {x0 x1 x2 x3 x4 : Value} (h : B5 w g t x0 x1 x2 x3 x4) : w.cell? ⟨g, 3, none⟩ = some x3 := Blk.cell h 3
theorem B5.set4 {w : World} {g : Nat} {t : TypeId} {x0 x1 x2 x3 x4 : Value} (h : B5 w g t x0 x1 x2 x3 x4) (u : Value) : B5 (w.setCell ⟨g, 4, none⟩ u) g t x0 x1 x2 x3 u := Blk.set h 4 u
theorem B5.c4 {w : World} {g : Nat} {t : TypeId} {x0 x1 x2 x3 x4 : Value} (h : B5 w g t x0 x1 x2 x3 x4) : w.cell? ⟨g, 4, none⟩ = some x4 := Blk.cell h 4
theorem B5.facts {w : World} {g : Nat} {t : TypeId} {x0 x1 x2 x3 x4 : Value} (h : B5 w g t x0 x1 x2 x3 x4) : w.cell? ⟨g, 0, none⟩ = some x0 ∧ w.cell? ⟨g, 1, none⟩ = some x1 ∧ w.cell? ⟨g, 2, none⟩ = some x2 ∧ w.cell? ⟨g, 3, none⟩ = some x3 ∧ w.cell? ⟨g, 4, none⟩ = some x4 ∧ w.frozen? ⟨g, 0, none⟩ = false ∧ w.frozen? ⟨g, 1, none⟩ = false ∧ w.frozen? ⟨g, 2, none⟩ = false ∧ w.frozen? ⟨g, 3, none⟩ = false ∧ w.frozen? ⟨g, 4, none⟩ = false := ⟨h.c0, h.c1, h.c2, h.c3, h.c4, Blk.frozen h 0, Blk.frozen h 1, Blk.frozen h 2, Blk.frozen h 3, Blk.frozen h 4⟩
def B6 (w : World) (g : Nat) (t : TypeId) (x0 x1 x2 x3 x4 x5 : Value) : Prop := Blk w g t #[x0, x1, x2, x3, x4, x5]
theorem B6.newat {w : World} {g : Nat} {t : TypeId} {x0 x1 x2 x3 x4 x5 : Value} (e : g = w.heap.size) : B6 (w.alloc (.cells #[x0, x1, x2, x3, x4, x5] t)) g t x0 x1 x2 x3 x4 x5 := Blk.newat e
theorem B6.alloc {w : World} {g : Nat} {t : TypeId} {x0 x1 x2 x3 x4 x5 : Value} (h : B6 w g t x0 x1 x2 x3 x4 x5) (o : Obj) : B6 (w.alloc o) g t x0 x1 x2 x3 x4 x5 := Blk.alloc h o
theorem B6.past {w : World} {g : Nat} {t : TypeId} {x0 x1 x2 x3 x4 x5 : Value} (h : B6 w g t x0 x1 x2 x3 x4 x5) {p : Addr} (hp : p.block ≠ g) (u : Value) : B6 (w.setCell p u) g t x0 x1 x2 x3 x4 x5 := Blk.past h hp u
theorem B6.drewN {w : World} {g : Nat} {t : TypeId} {x0 x1 x2 x3 x4 x5 : Value} (h : B6 w g t x0 x1 x2 x3 x4 x5) (k : Nat) : B6 (w.drewN k) g t x0 x1 x2 x3 x4 x5 := h
theorem B6.drew {w : World} {g : Nat} {t : TypeId} {x0 x1 x2 x3 x4 x5 : Value} (h : B6 w g t x0 x1 x2 x3 x4 x5) : B6 w.drew g t x0 x1 x2 x3 x4 x5 := h
theorem B6.below {w : World} {g : Nat} {t : TypeId} {x0 x1 x2 x3 x4 x5 : Value} {B : Nat} {w' : World} (h : B6 w g t x0 x1 x2 x3 x4 x5) (hb : Below B w w') (hg : g < B) : B6 w' g t x0 x1 x2 x3 x4 x5 := Blk.below h hb hg
theorem B6.lt {w : World} {g : Nat} {t : TypeId} {x0 x1 x2 x3 x4 x5 : Value} (h : B6 w g t x0 x1 x2 x3 x4 x5) : g < w.heap.size := Blk.lt h
theorem B6.c0 {w : World} {g : Nat} {t : TypeId} {x0 x1 x2 x3 x4 x5 : Value} (h : B6 w g t x0 x1 x2 x3 x4 x5) : w.cell? ⟨g, 0, none⟩ = some x0 := Blk.cell h 0
theorem B6.set1 {w : World} {g : Nat} {t : TypeId} {x0 x1 x2 x3 x4 x5 : Value} (h : B6 w g t x0 x1 x2 x3 x4 x5) (u : Value) : B6 (w.setCell ⟨g, 1, none⟩ u) g t x0 u x2 x3 x4 x5 := Blk.set h 1 u
theorem B6.c1 {w : World} {g : Nat} {t : TypeId} {x0 x1 x2 x3 x4 x5 : Value} (h : B6 w g t x0 x1 x2 x3 x4 x5) : w.cell? ⟨g, 1, none⟩ = some x1 := Blk.cell h 1
theorem B6.set2 {w : World} {g : Nat} {t : TypeId} {x0 x1 x2 x3 x4 x5 : Value} (h : B6 w g t x0 x1 x2 x3 x4 x5) (u : Value) : B6 (w.setCell ⟨g, 2, none⟩ u) g t x0 x1 u x3 x4 x5 := Blk.set h 2 u
theorem B6.c2 {w : World} {g : Nat} {t : TypeId} {x0 x1 x2 x3 x4 x5 : Value} (h : B6 w g t x0 x1 x2 x3 x4 x5) : w.cell? ⟨g, 2, none⟩ = some x2 := Blk.cell h 2
theorem B6.set3 {w : World} {g : Nat} {t : TypeId} {x0 x1 x2 x3 x4 x5 : Value} (h : B6 w g t x0 x1 x2 x3 x4 x5) (u : Value) : B6 (w.setCell ⟨g, 3, none⟩ u) g t x0 x1 x2 u x4 x5 := Blk.set h 3 u
theorem B6.c3 {w : World} {g : Nat} {t : TypeId} {x0 x1 x2 x3 x4 x5 : Value} (h : B6 w g t x0 x1 x2 x3 x4 x5) : w.cell? ⟨g, 3, none⟩ = some x3 := Blk.cell h 3
theorem B6.set4 {w : World} {g : Nat} {t : TypeId} {x0 x1 x2 x3 x4 x5 : Value} (h : B6 w g t x0 x1 x2 x3 x4 x5) (u : Value) : B6 (w.setCell ⟨g, 4, none⟩ u) g t x0 x1 x2 x3 u x5 := Blk.set h 4 u
theorem B6.c4 {w : World} {g : Nat} {t : TypeId} {x0 x1 x2 x3 x4 x5 : Value} (h : B6 w g t x0 x1 x2 x3 x4 x5) : w.cell? ⟨g, 4, none⟩ = some x4 := Blk.cell h 4
theorem B6.set5 {w : World} {g : Nat} {t : TypeId} {x0 x1 x2 x3 x4 x5 : Value} (h : B6 w g t x0 x1 x2 x3 x4 x5) (u : Value) : B6 (w.setCell ⟨g, 5, none⟩ u) g t x0 x1 x2 x3 x4 u := Blk.set h 5 u
theorem B6.c5 {w : World} {g : Nat} {t : TypeId} {x0 x1 x2 x3 x4 x5 : Value} (h : B6 w g t x0 x1 x2 x3 x4 x5) : w.cell? ⟨g, 5, none⟩ = some x5 := Blk.cell h 5
theorem B6.facts {w : World} {g : Nat} {t : TypeId} {x0 x1 x2 x3 x4 x5 : Value} (h : B6 w g t x0 x1 x2 x3 x4 x5) : w.cell? ⟨g, 0, none⟩ = some x0 ∧ w.cell? ⟨g, 1, none⟩ = some x1 ∧ w.cell? ⟨g, 2, none⟩ = some x2 ∧ w.cell? ⟨g, 3, none⟩ = some x3 ∧ w.cell? ⟨g, 4, none⟩ = some x4 ∧ w.cell? ⟨g, 5, none⟩ = some x5 ∧ w.frozen? ⟨g, 0, none⟩ = false ∧ w.frozen? ⟨g, 1, none⟩ = false ∧ w.frozen? ⟨g, 2, none⟩ = false ∧ w.frozen? ⟨g, 3, none⟩ = false ∧ w.frozen? ⟨g, 4, none⟩ = false ∧ w.frozen? ⟨g, 5, none⟩ = false := ⟨h.c0, h.c1, h.c2, h.c3, h.c4, h.c5, Blk.frozen h 0, Blk.frozen h 1, Blk.frozen h 2, Blk.frozen h 3, Blk.frozen h 4, Blk.frozen h 5⟩
end Go.Proofs.YtlpmcohbbffbfaaDoor.Mem
namespace Go.Proofs.YtlpmcohbbffbfaaDoor.Mem
open Go.RowKit
def B9 (w : World) (g : Nat) (t : TypeId) (x0 x1 x2 x3 x4 x5 x6 x7 x8 : Value) : Prop := Blk w g t #[x0, x1, x2, x3, x4, x5, x6, x7, x8]
theorem B9.newat {w : World} {g : Nat} {t : TypeId} {x0 x1 x2 x3 x4 x5 x6 x7 x8 : Value} (e : g = w.heap.size) : B9 (w.alloc (.cells #[x0, x1, x2, x3, x4, x5, x6, x7, x8] t)) g t x0 x1 x2 x3 x4 x5 x6 x7 x8 := Blk.newat e
theorem B9.alloc {w : World} {g : Nat} {t : TypeId} {x0 x1 x2 x3 x4 x5 x6 x7 x8 : Value} (h : B9 w g t x0 x1 x2 x3 x4 x5 x6 x7 x8) (o : Obj) : B9 (w.alloc o) g t x0 x1 x2 x3 x4 x5 x6 x7 x8 := Blk.alloc h o
theorem B9.past {w : World} {g : Nat} {t : TypeId} {x0 x1 x2 x3 x4 x5 x6 x7 x8 : Value} (h : B9 w g t x0 x1 x2 x3 x4 x5 x6 x7 x8) {p : Addr} (hp : p.block ≠ g) (u : Value) : B9 (w.setCell p u) g t x0 x1 x2 x3 x4 x5 x6 x7 x8 := Blk.past h hp u
theorem B9.drewN {w : World} {g : Nat} {t : TypeId} {x0 x1 x2 x3 x4 x5 x6 x7 x8 : Value} (h : B9 w g t x0 x1 x2 x3 x4 x5 x6 x7 x8) (k : Nat) : B9 (w.drewN k) g t x0 x1 x2 x3 x4 x5 x6 x7 x8 := h
theorem B9.drew {w : World} {g : Nat} {t : TypeId} {x0 x1 x2 x3 x4 x5 x6 x7 x8 : Value} (h : B9 w g t x0 x1 x2 x3 x4 x5 x6 x7 x8) : B9 w.drew g t x0 x1 x2 x3 x4 x5 x6 x7 x8 := h
theorem B9.below {w : World} {g : Nat} {t : TypeId} {x0 x1 x2 x3 x4 x5 x6 x7 x8 : Value} {B : Nat} {w' : World} (h : B9 w g t x0 x1 x2 x3 x4 x5 x6 x7 x8) (hb : Below B w w') (hg : g < B) : B9 w' g t x0 x1 x2 x3 x4 x5 x6 x7 x8 := Blk.below h hb hg
theorem B9.lt {w : World} {g : Nat} {t : TypeId} {x0 x1 x2 x3 x4 x5 x6 x7 x8 : Value} (h : B9 w g t x0 x1 x2 x3 x4 x5 x6 x7 x8) : g < w.heap.size := Blk.lt h
theorem B9.set1 {w : World} {g : Nat} {t : TypeId} {x0 x1 x2 x3 x4 x5 x6 x7 x8 : Value} (h : B9 w g t x0 x1 x2 x3 x4 x5 x6 x7 x8) (u : Value) : B9 (w.setCell ⟨g, 1, none⟩ u) g t x0 u x2 x3 x4 x5 x6 x7 x8 := Blk.set h 1 u
theorem B9.set2 {w : World} {g : Nat} {t : TypeId} {x0 x1 x2 x3 x4 x5 x6 x7 x8 : Value} (h : B9 w g t x0 x1 x2 x3 x4 x5 x6 x7 x8) (u : Value) : B9 (w.setCell ⟨g, 2, none⟩ u) g t x0 x1 u x3 x4 x5 x6 x7 x8 := Blk.set h 2 u
theorem B9.set3 {w : World} {g : Nat} {t : TypeId} {x0 x1 x2 x3 x4 x5 x6 x7 x8 : Value} (h : B9 w g t x0 x1 x2 x3 x4 x5 x6 x7 x8) (u : Value) : B9 (w.setCell ⟨g, 3, none⟩ u) g t x0 x1 x2 u x4 x5 x6 x7 x8 := Blk.set h 3 u
theorem B9.set4 {w : World} {g : Nat} {t : TypeId} {x0 x1 x2 x3 x4 x5 x6 x7 x8 : Value} (h : B9 w g t x0 x1 x2 x3 x4 x5 x6 x7 x8) (u : Value) : B9 (w.setCell ⟨g, 4, none⟩ u) g t x0 x1 x2 x3 u x5 x6 x7 x8 := Blk.set h 4 u
theorem B9.set5 {w : World} {g : Nat} {t : TypeId} {x0 x1 x2 x3 x4 x5 x6 x7 x8 : Value} (h : B9 w g t x0 x1 x2 x3 x4 x5 x6 x7 x8) (u : Value) : B9 (w.setCell ⟨g, 5, none⟩ u) g t x0 x1 x2 x3 x4 u x6 x7 x8 := Blk.set h 5 u
theorem B9.facts {w : World} {g : Nat} {t : TypeId} {x0 x1 x2 x3 x4 x5 x6 x7 x8 : Value} (h : B9 w g t x0 x1 x2 x3 x4 x5 x6 x7 x8) : w.cell? ⟨g, 0, none⟩ = some x0 ∧ w.cell? ⟨g, 1, none⟩ = some x1 ∧ w.cell? ⟨g, 2, none⟩ = some x2 ∧ w.cell? ⟨g, 3, none⟩ = some x3 ∧ w.cell? ⟨g, 4, none⟩ = some x4 ∧ w.cell? ⟨g, 5, none⟩ = some x5 ∧ w.cell? ⟨g, 6, none⟩ = some x6 ∧ w.cell? ⟨g, 7, none⟩ = some x7 ∧ w.cell? ⟨g, 8, none⟩ = some x8 ∧ w.frozen? ⟨g, 0, none⟩ = false ∧ w.frozen? ⟨g, 1, none⟩ = false ∧ w.frozen? ⟨g, 2, none⟩ = false ∧ w.frozen? ⟨g, 3, none⟩ = false ∧ w.frozen? ⟨g, 4, none⟩ = false ∧ w.frozen? ⟨g, 5, none⟩ = false ∧ w.frozen? ⟨g, 6, none⟩ = false ∧ w.frozen? ⟨g, 7, none⟩ = false ∧ w.frozen? ⟨g, 8, none⟩ = false := ⟨Blk.cell h 0, Blk.cell h 1, Blk.cell h 2, Blk.cell h 3, Blk.cell h 4, Blk.cell h 5, Blk.cell h 6, Blk.cell h 7, Blk.cell h 8, Blk.frozen h 0, Blk.frozen h 1, Blk.frozen h 2, Blk.frozen h 3, Blk.frozen h 4, Blk.frozen h 5, Blk.frozen h 6, Blk.frozen h 7, Blk.frozen h 8⟩
def B10 (w : World) (g : Nat) (t : TypeId) (x0 x1 x2 x3 x4 x5 x6 x7 x8 x9 : Value) : Prop := Blk w g t #[x0, x1, x2, x3, x4, x5, x6, x7, x8, x9]
theorem B10.newat {w : World} {g : Nat} {t : TypeId} {x0 x1 x2 x3 x4 x5 x6 x7 x8 x9 : Value} (e : g = w.heap.size) : B10 (w.alloc (.cells #[x0, x1, x2, x3, x4, x5, x6, x7, x8, x9] t)) g t x0 x1 x2 x3 x4 x5 x6 x7 x8 x9 := Blk.newat e
theorem B10.alloc {w : World} {g : Nat} {t : TypeId} {x0 x1 x2 x3 x4 x5 x6 x7 x8 x9 : Value} (h : B10 w g t x0 x1 x2 x3 x4 x5 x6 x7 x8 x9) (o : Obj) : B10 (w.alloc o) g t x0 x1 x2 x3 x4 x5 x6 x7 x8 x9 := Blk.alloc h o
theorem B10.past {w : World} {g : Nat} {t : TypeId} {x0 x1 x2 x3 x4 x5 x6 x7 x8 x9 : Value} (h : B10 w g t x0 x1 x2 x3 x4 x5 x6 x7 x8 x9) {p : Addr} (hp : p.block ≠ g) (u : Value) : B10 (w.setCell p u) g t x0 x1 x2 x3 x4 x5 x6 x7 x8 x9 := Blk.past h hp u
theorem B10.drewN {w : World} {g : Nat} {t : TypeId} {x0 x1 x2 x3 x4 x5 x6 x7 x8 x9 : Value} (h : B10 w g t x0 x1 x2 x3 x4 x5 x6 x7 x8 x9) (k : Nat) : B10 (w.drewN k) g t x0 x1 x2 x3 x4 x5 x6 x7 x8 x9 := h
theorem B10.drew {w : World} {g : Nat} {t : TypeId} {x0 x1 x2 x3 x4 x5 x6 x7 x8 x9 : Value} (h : B10 w g t x0 x1 x2 x3 x4 x5 x6 x7 x8 x9) : B10 w.drew g t x0 x1 x2 x3 x4 x5 x6 x7 x8 x9 := h
theorem B10.below {w : World} {g : Nat} {t : TypeId} {x0 x1 x2 x3 x4 x5 x6 x7 x8 x9 : Value} {B : Nat} {w' : World} (h : B10 w g t x0 x1 x2 x3 x4 x5 x6 x7 x8 x9) (hb : Below B w w') (hg : g < B) : B10 w' g t x0 x1 x2 x3 x4 x5 x6 x7 x8 x9 := Blk.below h hb hg
theorem B10.lt {w : World} {g : Nat} {t : TypeId} {x0 x1 x2 x3 x4 x5 x6 x7 x8 x9 : Value} (h : B10 w g t x0 x1 x2 x3 x4 x5 x6 x7 x8 x9) : g < w.heap.size := Blk.lt h
theorem B10.set1 {w : World} {g : Nat} {t : TypeId} {x0 x1 x2 x3 x4 x5 x6 x7 x8 x9 : Value} (h : B10 w g t x0 x1 x2 x3 x4 x5 x6 x7 x8 x9) (u : Value) : B10 (w.setCell ⟨g, 1, none⟩ u) g t x0 u x2 x3 x4 x5 x6 x7 x8 x9 := Blk.set h 1 u
theorem B10.set2 {w : World} {g : Nat} {t : TypeId} {x0 x1 x2 x3 x4 x5 x6 x7 x8 x9 : Value} (h : B10 w g t x0 x1 x2 x3 x4 x5 x6 x7 x8 x9) (u : Value) : B10 (w.setCell ⟨g, 2, none⟩ u) g t x0 x1 u x3 x4 x5 x6 x7 x8 x9 := Blk.set h 2 u
theorem B10.set3 {w : World} {g : Nat} {t : TypeId} {x0 x1 x2 x3 x4 x5 x6 x7 x8 x9 : Value} (h : B10 w g t x0 x1 x2 x3 x4 x5 x6 x7 x8 x9) (u : Value) : B10 (w.setCell ⟨g, 3, none⟩ u) g t x0 x1 x2 u x4 x5 x6 x7 x8 x9 := Blk.set h 3 u
theorem B10.set4 {w : World} {g : Nat} {t : TypeId} {x0 x1 x2 x3 x4 x5 x6 x7 x8 x9 : Value} (h : B10 w g t x0 x1 x2 x3 x4 x5 x6 x7 x8 x9) (u : Value) : B10 (w.setCell ⟨g, 4, none⟩ u) g t x0 x1 x2 x3 u x5 x6 x7 x8 x9 := Blk.set h 4 u
theorem B10.set5 {w : World} {g : Nat} {t : TypeId} {x0 x1 x2 x3 x4 x5 x6 x7 x8 x9 : Value} (h : B10 w g t x0 x1 x2 x3 x4 x5 x6 x7 x8 x9) (u : Value) : B10 (w.setCell ⟨g, 5, none⟩ u) g t x0 x1 x2 x3 x4 u x6 x7 x8 x9 := Blk.set h 5 u
theorem B10.facts {w : World} {g : Nat} {t : TypeId} {x0 x1 x2 x3 x4 x5 x6 x7 x8 x9 : Value} (h : B10 w g t x0 x1 x2 x3 x4 x5 x6 x7 x8 x9) : w.cell? ⟨g, 0, none⟩ = some x0 ∧ w.cell? ⟨g, 1, none⟩ = some x1 ∧ w.cell? ⟨g, 2, none⟩ = some x2 ∧ w.cell? ⟨g, 3, none⟩ = some x3 ∧ w.cell? ⟨g, 4, none⟩ = some x4 ∧ w.cell? ⟨g, 5, none⟩ = some x5 ∧ w.cell? ⟨g, 6, none⟩ = some x6 ∧ w.cell? ⟨g, 7, none⟩ = some x7 ∧ w.cell? ⟨g, 8, none⟩ = some x8 ∧ w.cell? ⟨g, 9, none⟩ = some x9 ∧ w.frozen? ⟨g, 0, none⟩ = false ∧ w.frozen? ⟨g, 1, none⟩ = false ∧ w.frozen? ⟨g, 2, none⟩ = false ∧ w.frozen? ⟨g, 3, none⟩ = false ∧ w.frozen? ⟨g, 4, none⟩ = false ∧ w.frozen? ⟨g, 5, none⟩ = false ∧ w.frozen? ⟨g, 6, none⟩ = false ∧ w.frozen? ⟨g, 7, none⟩ = false ∧ w.frozen? ⟨g, 8, none⟩ = false ∧ w.frozen? ⟨g, 9, none⟩ = false := ⟨Blk.cell h 0, Blk.cell h 1, Blk.cell h 2, Blk.cell h 3, Blk.cell h 4, Blk.cell h 5, Blk.cell h 6, Blk.cell h 7, Blk.cell h 8, Blk.cell h 9, Blk.frozen h 0, Blk.frozen h 1, Blk.frozen h 2, Blk.frozen h 3, Blk.frozen h 4, Blk.frozen h 5, Blk.frozen h 6, Blk.frozen h 7, Blk.frozen h 8, Blk.frozen h 9⟩
end Go.Proofs.YtlpmcohbbffbfaaDoor.Mem
