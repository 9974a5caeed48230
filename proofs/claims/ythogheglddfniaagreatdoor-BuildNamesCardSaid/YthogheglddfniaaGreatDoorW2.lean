/- Joined by tools/bundle.py: Rec Dat JT. -/
import Derived.Laws.CopyOwn
import Derived.Laws.MakeOwn
import Derived.Deep.OwnRows
import Derived.Deep.Slices
import Derived.LaidLaws
import Derived.Test.YthogheglddfniaaGreatDoorW1
import Derived.Test.YthogheglddfniaaGreatDoorW0
set_option maxRecDepth 100000
set_option maxHeartbeats 16000000
namespace Go.Proofs.YthogheglddfniaaGreatDoor.Mem
open Go.RowKit
structure RecT (P : Program) (t e : TypeId) (s : Nat) (z : Value) (y : Nat) : Prop where
 sl : P.underlying t = some (.slice e)
 info : (P.info? e).map (fun i => (i.zero, i.size, i.bytes)) = some (some z, s, y)
 zs : z.cells.size = s
 pos : 0 < s
 by_ : y ≤ 1000
def Fl (w : World) (B : Nat) (A : Option Addr) (xs : List Value) : Prop :=
 xs = [] ∨ ∃ b off, A = some ⟨b, off, none⟩ ∧ b < B ∧ ∀ k, k < xs.length → w.cell? ⟨b, off + k, none⟩ = xs[k]?
section
variable {w w' : World} {B B' : Nat} {A : Option Addr} {xs : List Value}
theorem Fl.keep (h : Fl w B A xs) (hk : ∀ p : Addr, p.block < B → w'.cell? p = w.cell? p) : Fl w' B A xs := by
 rcases h with h | ⟨b, off, rfl, hb, hc⟩
 · exact .inl h
 · exact .inr ⟨b, off, rfl, hb, fun k hl => (hk _ hb).trans (hc k hl)⟩
theorem Fl.below (h : Fl w B A xs) (hb : Below B w w') : Fl w' B A xs := h.keep fun _ hp => hb.cell hp
end
def OwnR (w : World) (base : Nat) (e : TypeId) (s : Nat) (v : Value) (n : Nat) (xs : List Value) : Prop := w.ownsRow base e s v n xs
section
variable {w w' : World} {base : Nat} {e : TypeId} {s : Nat} {v : Value} {n : Nat} {xs : List Value}
theorem OwnR.none_ (w : World) (base : Nat) (e : TypeId) (s : Nat) : OwnR w base e s (.slice none 0 0) 0 [] := World.ownsRow_nil w base e s
theorem OwnR.alloc (h : OwnR w base e s v n xs) (o : Obj) : OwnR (w.alloc o) base e s v n xs := World.ownsRow.alloc h o
theorem OwnR.drew (h : OwnR w base e s v n xs) : OwnR w.drew base e s v n xs := h
theorem OwnR.less {base' : Nat} (h : OwnR w base e s v n xs) (hb : base' ≤ base) : OwnR w base' e s v n xs := by
 obtain ⟨h1, h2⟩ := h
 refine ⟨h1, ?_⟩
 rcases h2 with h2 | ⟨g, cap, cur, hv, hg, r⟩
 · exact .inl h2
 · exact .inr ⟨g, cap, cur, hv, by omega, r⟩
theorem OwnR.below (h : OwnR w base e s v n xs) (hb : Below w.heap.size w w') : OwnR w' base e s v n xs := by
 obtain ⟨h1, h2⟩ := h
 refine ⟨h1, ?_⟩
 rcases h2 with h2 | ⟨g, cap, cur, hv, hg, hh, r⟩
 · exact .inl h2
 · exact .inr ⟨g, cap, cur, hv, hg, by rw [hb.block g (Array.getElem?_eq_some_iff.1 hh).1]; exact hh, r⟩
theorem OwnR.fl (h : OwnR w base e s v n xs) : ∃ A c, v = .slice A n c ∧ n ≤ c ∧ Fl w w.heap.size A xs := by
 by_cases hl : n = 0
 · subst hl
   have hx : xs = [] := List.length_eq_zero_iff.1 (by have := h.1; simpa using this)
   rcases h.2 with ⟨rfl, _⟩ | ⟨g, cap, cur, rfl, _⟩
   · exact ⟨_, _, rfl, Nat.zero_le _, .inl hx⟩
   · exact ⟨_, _, rfl, Nat.zero_le _, .inl hx⟩
 · obtain ⟨g, cap, hv, _, hlt⟩ := World.ownsRow.form h (Nat.pos_of_ne_zero hl)
   subst hv
   refine ⟨_, _, rfl, ?_, .inr ⟨g, 0, rfl, hlt, fun k hk => ?_⟩⟩
   · rcases h.2 with ⟨e, h0⟩ | ⟨g, cap, cur, e, _, _, hc, _⟩
     · omega
     · injection e with _ _ e
       omega
   · rw [show 0 + k = k by omega]
     exact World.ownsRow.cellAt h k (by rw [← h.1]; exact hk)
end
theorem grown_next {a b c : World} {row : Option Nat} (h : a.grownBy b none) (k : b.grownBy c row) : a.grownBy c row :=
 ⟨k.os.trans h.os, k.tape.trans h.tape, k.output.trans h.output, Nat.le_trans h.size k.size, fun j hj hr => (k.block j (Nat.lt_of_lt_of_le hj h.size) hr).trans (h.block j hj (by simp))⟩
section
variable {P : Program} (w : World) {t e : TypeId} {s : Nat} {z : Value} {y : Nat}
theorem run_appR (hu : RecT P t e s z y) (base : Nat) (ty : TypeId) (v : Value) (n : Nat) (xs : List Value) (hown : OwnR w base e s v n xs) (ad : Addr) (m c : Nat) (news : List Value) (hl : news.length = m * s)
 (hnews : ∀ j u, news[j]? = some u → w.cell? (ad.add j) = some u) (h1 : ∀ u ∈ news, u.oneCell' = true) (hlen : n + m ≤ 1000000000) (hbase : base ≤ w.heap.size) :
 ∃ v' w', (Builtin.append_ #[t, t] ty #[v, .slice (some ad) m c]).run P w = .ok v' w' ∧ OwnR w' base e s v' (n + m) (xs ++ news) ∧ Below base w w' ∧ w.grownBy w' v.ownBlock := by
 obtain ⟨i, hi, hzz⟩ := Option.map_eq_some_iff.1 hu.info
 simp only [Prod.mk.injEq] at hzz
 obtain ⟨hz, hsz, hby⟩ := hzz
 have hb : (n + m) * y ≤ 1000000000 * 1000 := Nat.mul_le_mul hlen hu.by_
 obtain ⟨v', w', hrun, h2, h3, _⟩ := run_append_own_at (P := P) w base t ty e i z s y hu.sl hi hz hsz hby hu.zs hu.pos v n xs hown ad m c news hl hnews h1 (by unfold maxLen; omega) (by omega) hbase
 exact ⟨v', w', hrun, h2, (Below.refl _ _).grown h3 hbase (fun k hk => (World.ownsRow.lt hown k hk).1), h3⟩
theorem wp_appR (hu : RecT P t e s z y) {o : Oper} {a : Act} {K : Act → World → Prop} {Q : Exit → Act → World → Prop} (sO x : Operand)
 (ho : o.op = .call { callee := .builtin .append, args := #[sO, x], argTypes := #[t, t] })
 (base : Nat) (v : Value) (n : Nat) (xs : List Value) (hs : a.eval sO = v) (hown : OwnR w base e s v n xs) (ad : Addr) (m c : Nat) (news : List Value) (hx : a.eval x = .slice (some ad) m c) (hl : news.length = m * s)
 (hnews : ∀ j u, news[j]? = some u → w.cell? (ad.add j) = some u) (h1 : ∀ u ∈ news, u.oneCell' = true) (hlen : n + m ≤ 1000000000) (hbase : base ≤ w.heap.size)
 (h : ∀ v' w', OwnR w' base e s v' (n + m) (xs ++ news) → Below base w w' → w.grownBy w' v.ownBlock → K (a.put o.dst v') w') : o.wp P a w K Q := by
 obtain ⟨v', w', hrun, h2, h3, h4⟩ := run_appR (P := P) w hu base o.type v n xs hown ad m c news hl hnews h1 hlen hbase
 unfold Oper.wp execOp
 simp only [ho, resolve, invoke, builtin, Sem.run_bind, Sem.run_pure, Result.andThen_ok, List.map_toArray, List.map_cons, List.map_nil, hs, hx, hrun]
 exact h v' w' h2 h3 h4
theorem wpList_appR1 (hu : RecT P t e s z y) {ops : Array Oper} {rest : List Oper} {o : Oper} {a : Act} {Q : Exit → Act → World → Prop} (hgd : o.guard = none) (sO x : Operand)
 (ho : o.op = .call { callee := .builtin .append, args := #[sO, x], argTypes := #[t, t] })
 (base : Nat) (v : Value) (n : Nat) (xs : List Value) (hs : a.eval sO = v) (hown : OwnR w base e s v n xs) (c : Nat) (cs : Array Value) (hx : a.eval x = .slice (some ⟨w.heap.size, 0, none⟩) 1 c) (hl : cs.size = s)
 (h1 : ∀ u ∈ cs.toList, u.oneCell' = true) (hlen : n + 1 ≤ 1000000000) (hbase : base ≤ w.heap.size)
 (h : ∀ v' w', OwnR w' base e s v' (n + 1) (xs ++ cs.toList) → Below base w w' → w.grownBy w' v.ownBlock → wpList P ops Q rest (a.put o.dst v') w') : wpList P ops Q (o :: rest) a (w.alloc (.cells cs e)) := by
 refine wpList_plain hgd fun _ hK => wp_appR _ hu sO x ho base v n xs hs (hown.alloc _) ⟨w.heap.size, 0, none⟩ 1 c cs.toList hx (by simp [hl]) (fun j u hj => ?_) h1 hlen (by simp; omega) fun v' w' h2 h3 h4 => hK _ _ (h v' w' h2 (((Below.refl _ _).alloc hbase _).trans h3) (grown_next (World.grownBy_alloc w _ none) h4))
 rw [add_plain, (Blk.new w e cs).cell, show 0 + j = j by omega]
 simpa using hj
end
end Go.Proofs.YthogheglddfniaaGreatDoor.Mem
namespace Go.Proofs.YthogheglddfniaaGreatDoor.Mem
open Go.RowKit
theorem OwnR.keepb {w w' : World} {base : Nat} {e : TypeId} {s : Nat} {v : Value} {n : Nat} {xs : List Value} (h : OwnR w base e s v n xs) (hk : ∀ g, some g = v.ownBlock → w'.heap[g]? = w.heap[g]?) : OwnR w' base e s v n xs := by
 obtain ⟨h1, h2⟩ := h
 refine ⟨h1, ?_⟩
 rcases h2 with h2 | ⟨g, cap, cur, hv, hg, hh, r⟩
 · exact .inl h2
 · refine .inr ⟨g, cap, cur, hv, hg, ?_, r⟩
   rw [hk g (by subst hv; rfl)]; exact hh
theorem OwnR.base_le {w : World} {base : Nat} {e : TypeId} {s : Nat} {v : Value} {n : Nat} {xs : List Value} (h : OwnR w base e s v n xs) {g : Nat} (hg : some g = v.ownBlock) : base ≤ g ∧ g < w.heap.size := World.ownsRow.lt h g hg.symm
theorem OwnR.set {w : World} {base : Nat} {e : TypeId} {s : Nat} {v : Value} {n : Nat} {xs : List Value} (h : OwnR w base e s v n xs) {p : Addr} (hp : p.block < base) (u : Value) : OwnR (w.setCell p u) base e s v n xs :=
 h.keepb fun g hg => Below.heap_setCell _ _ _ _ (fun e => by have := (h.base_le hg).1; omega)
theorem ne_own {v v' : Value} {g n : Nat} (h : some g ≠ v.ownBlock) (k : v'.ownBlock = v.ownBlock ∨ v'.ownBlock = some n) (hg : g < n) : some g ≠ v'.ownBlock := by
 rcases k with k | k <;> rw [k]
 · exact h
 · intro e; injection e; omega
section
variable {P : Program} (w : World) {t e : TypeId} {s : Nat} {z : Value} {y : Nat}
theorem run_appRg (hu : RecT P t e s z y) (base : Nat) (ty : TypeId) (v : Value) (n : Nat) (xs : List Value) (hown : OwnR w base e s v n xs) (ad : Addr) (m c : Nat) (news : List Value) (hl : news.length = m * s)
 (hnews : ∀ j u, news[j]? = some u → w.cell? (ad.add j) = some u) (h1 : ∀ u ∈ news, u.oneCell' = true) (hlen : n + m ≤ 1000000000) (hbase : base ≤ w.heap.size) :
 ∃ v' w', (Builtin.append_ #[t, t] ty #[v, .slice (some ad) m c]).run P w = .ok v' w' ∧ OwnR w' base e s v' (n + m) (xs ++ news) ∧ Below base w w' ∧ w.grownBy w' v.ownBlock ∧ (v'.ownBlock = v.ownBlock ∨ v'.ownBlock = some w.heap.size) := by
 obtain ⟨i, hi, hzz⟩ := Option.map_eq_some_iff.1 hu.info
 simp only [Prod.mk.injEq] at hzz
 obtain ⟨hz, hsz, hby⟩ := hzz
 have hb : (n + m) * y ≤ 1000000000 * 1000 := Nat.mul_le_mul hlen hu.by_
 obtain ⟨v', w', hrun, h2, h3, _, h4⟩ := run_append_own_at (P := P) w base t ty e i z s y hu.sl hi hz hsz hby hu.zs hu.pos v n xs hown ad m c news hl hnews h1 (by unfold maxLen; omega) (by omega) hbase
 exact ⟨v', w', hrun, h2, (Below.refl _ _).grown h3 hbase (fun k hk => (World.ownsRow.lt hown k hk).1), h3, h4⟩
theorem wp_appRg (hu : RecT P t e s z y) {o : Oper} {a : Act} {K : Act → World → Prop} {Q : Exit → Act → World → Prop} (d : Option Tmp) (hd : o.dst = d) (sO x : Operand)
 (ho : o.op = .call { callee := .builtin .append, args := #[sO, x], argTypes := #[t, t] })
 (base : Nat) (v : Value) (n : Nat) (xs : List Value) (hs : a.eval sO = v) (hown : OwnR w base e s v n xs) (ad : Addr) (m c : Nat) (news : List Value) (hx : a.eval x = .slice (some ad) m c) (hl : news.length = m * s)
 (hnews : ∀ j u, news[j]? = some u → w.cell? (ad.add j) = some u) (h1 : ∀ u ∈ news, u.oneCell' = true) (hlen : n + m ≤ 1000000000) (hbase : base ≤ w.heap.size)
 (h : ∀ v' w', OwnR w' base e s v' (n + m) (xs ++ news) → Below base w w' → w.grownBy w' v.ownBlock → (v'.ownBlock = v.ownBlock ∨ v'.ownBlock = some w.heap.size) → K (a.put d v') w') : o.wp P a w K Q := by
 obtain ⟨v', w', hrun, h2, h3, h4, h5⟩ := run_appRg (P := P) w hu base o.type v n xs hown ad m c news hl hnews h1 hlen hbase
 unfold Oper.wp execOp
 simp only [ho, resolve, invoke, builtin, Sem.run_bind, Sem.run_pure, Result.andThen_ok, List.map_toArray, List.map_cons, List.map_nil, hs, hx, hrun]
 have := h v' w' h2 h3 h4 h5
 rw [← hd] at this
 exact this
theorem wpList_appRg1 (hu : RecT P t e s z y) {ops : Array Oper} {rest : List Oper} {o : Oper} {a : Act} {Q : Exit → Act → World → Prop} (hgd : o.guard = none) (d : Option Tmp) (hd : o.dst = d) (sO x : Operand)
 (ho : o.op = .call { callee := .builtin .append, args := #[sO, x], argTypes := #[t, t] })
 (base : Nat) (v : Value) (n : Nat) (xs : List Value) (hs : a.eval sO = v) (hown : OwnR w base e s v n xs) (c : Nat) (cs : Array Value) (hx : a.eval x = .slice (some ⟨w.heap.size, 0, none⟩) 1 c) (hl : cs.size = s)
 (h1 : ∀ u ∈ cs.toList, u.oneCell' = true) (hlen : n + 1 ≤ 1000000000) (hbase : base ≤ w.heap.size)
 (h : ∀ v' w', OwnR w' base e s v' (n + 1) (xs ++ cs.toList) → Below base w w' → w.grownBy w' v.ownBlock → (v'.ownBlock = v.ownBlock ∨ v'.ownBlock = some (w.heap.size + 1)) → wpList P ops Q rest (a.put d v') w') : wpList P ops Q (o :: rest) a (w.alloc (.cells cs e)) := by
 refine wpList_plain hgd fun _ hK => wp_appRg _ hu _ rfl sO x ho base v n xs hs (hown.alloc _) ⟨w.heap.size, 0, none⟩ 1 c cs.toList hx (by simp [hl]) (fun j u hj => ?_) h1 hlen (by simp; omega) fun v' w' h2 h3 h4 h5 => hK _ _ ?_
 · rw [add_plain, (Blk.new w e cs).cell, show 0 + j = j by omega]
   simpa using hj
 · have := h v' w' h2 (((Below.refl _ _).alloc hbase _).trans h3) (grown_next (World.grownBy_alloc w _ none) h4) (h5.imp id fun e => e.trans (by simp))
   rw [← hd] at this
   exact this
theorem step_appRg1 (hu : RecT P t e s z y) {ops : Array Oper} {o : Oper} {a : Act} {K : Act → World → Prop} {Q : Exit → Act → World → Prop} {E : Prop} (hw : Region.wanted o (yielded ops a.tmps) = true) (d : Option Tmp) (hd : o.dst = d) (sO x : Operand)
 (ho : o.op = .call { callee := .builtin .append, args := #[sO, x], argTypes := #[t, t] })
 (base : Nat) (v : Value) (n : Nat) (xs : List Value) (hs : a.eval sO = v) (hown : OwnR w base e s v n xs) (c : Nat) (cs : Array Value) (hx : a.eval x = .slice (some ⟨w.heap.size, 0, none⟩) 1 c) (hl : cs.size = s)
 (h1 : ∀ u ∈ cs.toList, u.oneCell' = true) (hlen : n + 1 ≤ 1000000000) (hbase : base ≤ w.heap.size)
 (h : ∀ v' w', OwnR w' base e s v' (n + 1) (xs ++ cs.toList) → Below base w w' → w.grownBy w' v.ownBlock → (v'.ownBlock = v.ownBlock ∨ v'.ownBlock = some (w.heap.size + 1)) → K (a.put d v') w') : if Region.wanted o (yielded ops a.tmps) = true then Oper.wp P o a (w.alloc (.cells cs e)).drew K Q else E := by
 rw [if_pos hw]
 refine wp_appRg _ hu d hd sO x ho base v n xs hs (hown.alloc _).drew ⟨w.heap.size, 0, none⟩ 1 c cs.toList hx (by simp [hl]) (fun j u hj => ?_) h1 hlen (by simp; omega) fun v' w' h2 h3 h4 h5 =>
  h v' w' h2 (((Below.refl _ _).alloc hbase _).drew.trans h3) (grown_next (b := (w.alloc (.cells cs e)).drew) (have a := World.grownBy_alloc w (.cells cs e) none; ⟨a.os, a.tape, a.output, a.size, a.block⟩) h4) (h5.imp id fun e => e.trans (by simp))
 show (w.alloc _).cell? _ = _
 rw [add_plain, (Blk.new w e cs).cell, show 0 + j = j by omega]
 simpa using hj
end
end Go.Proofs.YthogheglddfniaaGreatDoor.Mem
namespace Go.Proofs.YthogheglddfniaaGreatDoor.Mem
open Go.RowKit
theorem bel_call {B B' : Nat} {w a b : World} (h : Below B' a b) (hle : B ≤ B') (k : Below B w a) : Below B w b := k.trans (h.mono hle)
theorem Blk.frozen {w : World} {g : Nat} {t : TypeId} {cs : Array Value} (h : Blk w g t cs) (i : Nat) : w.frozen? ⟨g, i, none⟩ = false := by
 unfold Blk at h; simp [World.frozen?, h]
theorem Blk.past {w : World} {g : Nat} {t : TypeId} {cs : Array Value} (h : Blk w g t cs) {p : Addr} (hp : p.block ≠ g) (u : Value) : Blk (w.setCell p u) g t cs :=
 (Below.heap_setCell _ _ _ _ (fun e => hp e.symm)).trans h
theorem Blk.set {w : World} {g : Nat} {t : TypeId} {cs : Array Value} (h : Blk w g t cs) (i : Nat) (u : Value) : Blk (w.setCell ⟨g, i, none⟩ u) g t (cs.setIfInBounds i u) := by
 unfold Blk at h ⊢; simp [World.setCell, Array.getElem?_modify, h]
theorem cell_set (w : World) (g i h j : Nat) (u : Value) : (w.setCell ⟨g, i, none⟩ u).cell? ⟨h, j, none⟩ = if g = h ∧ i = j then (w.cell? ⟨g, i, none⟩).map (fun _ => u) else w.cell? ⟨h, j, none⟩ := by
 split
 · rename_i e
   obtain ⟨rfl, rfl⟩ := e
   cases hc : w.cell? ⟨g, i, none⟩ with
   | none =>
    have : (w.setCell ⟨g, i, none⟩ u).cell? ⟨g, i, none⟩ = none := by
     unfold World.cell? at hc ⊢
     simp only [World.setCell, Array.getElem?_modify, if_true]
     cases hg : w.heap[g]? with
     | none => rfl
     | some o => cases o <;> simp_all
    rw [this]; rfl
   | some v => exact World.cell?_setCell_same _ _ _ hc
 · rename_i e
   exact World.cell?_setCell_other _ _ _ _ (by intro k; injection k; omega)
structure Save (g : Nat) (w w' : World) : Prop where
 bel : Below g w w'
 rest : ∀ b, g < b → b < w.heap.size → w'.heap[b]? = w.heap[b]?
theorem Save.refl (g : Nat) (w : World) : Save g w w := ⟨Below.refl _ _, fun _ _ _ => rfl⟩
theorem Save.trans {g : Nat} {a b c : World} (h : Save g a b) (k : Save g b c) : Save g a c :=
 ⟨h.bel.trans k.bel, fun i hi hs => (k.rest i hi (Nat.lt_of_lt_of_le hs h.bel.size)).trans (h.rest i hi hs)⟩
theorem Save.of {g : Nat} {w w' : World} (h : Below w.heap.size w w') (hg : g ≤ w.heap.size) : Save g w w' := ⟨h.mono hg, fun b _ hb => h.block b hb⟩
theorem Save.call {g : Nat} {w a b : World} (h : Below a.heap.size a b) (hg : g ≤ a.heap.size) (k : Save g w a) : Save g w b := k.trans (Save.of h hg)
theorem Save.set {g : Nat} {w w' : World} (h : Save g w w') (i : Nat) (u : Value) : Save g w (w'.setCell ⟨g, i, none⟩ u) :=
 ⟨h.bel.setCell (Nat.le_refl _) u, fun b hb hs => (Below.heap_setCell _ _ _ _ (by intro e; have e' : b = g := e; omega)).trans (h.rest b hb hs)⟩
theorem Save.block {g : Nat} {w w' : World} (h : Save g w w') {b : Nat} (hb : b < w.heap.size) (hn : b ≠ g) : w'.heap[b]? = w.heap[b]? := by
 by_cases k : b < g
 · exact h.bel.block b k
 · exact h.rest b (by omega) hb
theorem Save.cell {g : Nat} {w w' : World} (h : Save g w w') {p : Addr} (hp : p.block < w.heap.size) (hn : p.block ≠ g) : w'.cell? p = w.cell? p := World.cell?_of_block (w := w) (h.block hp hn)
theorem Blk.newat {w : World} {g : Nat} {t : TypeId} {cs : Array Value} (e : g = w.heap.size) : Blk (w.alloc (.cells cs t)) g t cs := e ▸ Blk.new w t cs
def B1 (w : World) (g : Nat) (t : TypeId) (x0 : Value) : Prop := Blk w g t #[x0]
def B2 (w : World) (g : Nat) (t : TypeId) (x0 x1 : Value) : Prop := Blk w g t #[x0, x1]
theorem B2.newat {w : World} {g : Nat} {t : TypeId} {x0 x1 : Value} (e : g = w.heap.size) : B2 (w.alloc (.cells #[x0, x1] t)) g t x0 x1 := Blk.newat e
theorem B2.alloc {w : World} {g : Nat} {t : TypeId} {x0 x1 : Value} (h : B2 w g t x0 x1) (o : Obj) : B2 (w.alloc o) g t x0 x1 := Blk.alloc h o
theorem B2.past {w : World} {g : Nat} {t : TypeId} {x0 x1 : Value} (h : B2 w g t x0 x1) {p : Addr} (hp : p.block ≠ g) (u : Value) : B2 (w.setCell p u) g t x0 x1 := Blk.past h hp u
theorem B2.drew {w : World} {g : Nat} {t : TypeId} {x0 x1 : Value} (h : B2 w g t x0 x1) : B2 w.drew g t x0 x1 := h
theorem B2.below {w : World} {g : Nat} {t : TypeId} {x0 x1 : Value} {B : Nat} {w' : World} (h : B2 w g t x0 x1) (hb : Below B w w') (hg : g < B) : B2 w' g t x0 x1 := Blk.below h hb hg
theorem B2.lt {w : World} {g : Nat} {t : TypeId} {x0 x1 : Value} (h : B2 w g t x0 x1) : g < w.heap.size := Blk.lt h
theorem B2.c0 {w : World} {g : Nat} {t : TypeId} {x0 x1 : Value} (h : B2 w g t x0 x1) : w.cell? ⟨g, 0, none⟩ = some x0 := Blk.cell h 0
theorem B2.set1 {w : World} {g : Nat} {t : TypeId} {x0 x1 : Value} (h : B2 w g t x0 x1) (u : Value) : B2 (w.setCell ⟨g, 1, none⟩ u) g t x0 u := Blk.set h 1 u
theorem B2.c1 {w : World} {g : Nat} {t : TypeId} {x0 x1 : Value} (h : B2 w g t x0 x1) : w.cell? ⟨g, 1, none⟩ = some x1 := Blk.cell h 1
theorem B2.facts {w : World} {g : Nat} {t : TypeId} {x0 x1 : Value} (h : B2 w g t x0 x1) : w.cell? ⟨g, 0, none⟩ = some x0 ∧ w.cell? ⟨g, 1, none⟩ = some x1 ∧ w.frozen? ⟨g, 0, none⟩ = false ∧ w.frozen? ⟨g, 1, none⟩ = false := ⟨h.c0, h.c1, Blk.frozen h 0, Blk.frozen h 1⟩
def B3 (w : World) (g : Nat) (t : TypeId) (x0 x1 x2 : Value) : Prop := Blk w g t #[x0, x1, x2]
theorem B3.newat {w : World} {g : Nat} {t : TypeId} {x0 x1 x2 : Value} (e : g = w.heap.size) : B3 (w.alloc (.cells #[x0, x1, x2] t)) g t x0 x1 x2 := Blk.newat e
theorem B3.below {w : World} {g : Nat} {t : TypeId} {x0 x1 x2 : Value} {B : Nat} {w' : World} (h : B3 w g t x0 x1 x2) (hb : Below B w w') (hg : g < B) : B3 w' g t x0 x1 x2 := Blk.below h hb hg
theorem B3.lt {w : World} {g : Nat} {t : TypeId} {x0 x1 x2 : Value} (h : B3 w g t x0 x1 x2) : g < w.heap.size := Blk.lt h
theorem B3.c0 {w : World} {g : Nat} {t : TypeId} {x0 x1 x2 : Value} (h : B3 w g t x0 x1 x2) : w.cell? ⟨g, 0, none⟩ = some x0 := Blk.cell h 0
theorem B3.set1 {w : World} {g : Nat} {t : TypeId} {x0 x1 x2 : Value} (h : B3 w g t x0 x1 x2) (u : Value) : B3 (w.setCell ⟨g, 1, none⟩ u) g t x0 u x2 := Blk.set h 1 u
theorem B3.c1 {w : World} {g : Nat} {t : TypeId} {x0 x1 x2 : Value} (h : B3 w g t x0 x1 x2) : w.cell? ⟨g, 1, none⟩ = some x1 := Blk.cell h 1
theorem B3.set2 {w : World} {g : Nat} {t : TypeId} {x0 x1 x2 : Value} (h : B3 w g t x0 x1 x2) (u : Value) : B3 (w.setCell ⟨g, 2, none⟩ u) g t x0 x1 u := Blk.set h 2 u
theorem B3.c2 {w : World} {g : Nat} {t : TypeId} {x0 x1 x2 : Value} (h : B3 w g t x0 x1 x2) : w.cell? ⟨g, 2, none⟩ = some x2 := Blk.cell h 2
theorem B3.facts {w : World} {g : Nat} {t : TypeId} {x0 x1 x2 : Value} (h : B3 w g t x0 x1 x2) : w.cell? ⟨g, 0, none⟩ = some x0 ∧ w.cell? ⟨g, 1, none⟩ = some x1 ∧ w.cell? ⟨g, 2, none⟩ = some x2 ∧ w.frozen? ⟨g, 0, none⟩ = false ∧ w.frozen? ⟨g, 1, none⟩ = false ∧ w.frozen? ⟨g, 2, none⟩ = false := ⟨h.c0, h.c1, h.c2, Blk.frozen h 0, Blk.frozen h 1, Blk.frozen h 2⟩
def B4 (w : World) (g : Nat) (t : TypeId) (x0 x1 x2 x3 : Value) : Prop := Blk w g t #[x0, x1, x2, x3]
def B5 (w : World) (g : Nat) (t : TypeId) (x0 x1 x2 x3 x4 : Value) : Prop := Blk w g t #[x0, x1, x2, x3, x4]
theorem B5.newat {w : World} {g : Nat} {t : TypeId} {x0 x1 x2 x3 x4 : Value} (e : g = w.heap.size) : B5 (w.alloc (.cells #[x0, x1, x2, x3, x4] t)) g t x0 x1 x2 x3 x4 := Blk.newat e
theorem B5.alloc {w : World} {g : Nat} {t : TypeId} {x0 x1 x2 x3 x4 : Value} (h : B5 w g t x0 x1 x2 x3 x4) (o : Obj) : B5 (w.alloc o) g t x0 x1 x2 x3 x4 := Blk.alloc h o
theorem B5.past {w : World} {g : Nat} {t : TypeId} {x0 x1 x2 x3 x4 : Value} (h : B5 w g t x0 x1 x2 x3 x4) {p : Addr} (hp : p.block ≠ g) (u : Value) : B5 (w.setCell p u) g t x0 x1 x2 x3 x4 := Blk.past h hp u
theorem B5.drew {w : World} {g : Nat} {t : TypeId} {x0 x1 x2 x3 x4 : Value} (h : B5 w g t x0 x1 x2 x3 x4) : B5 w.drew g t x0 x1 x2 x3 x4 := h
theorem B5.below {w : World} {g : Nat} {t : TypeId} {x0 x1 x2 x3 x4 : Value} {B : Nat} {w' : World} (h : B5 w g t x0 x1 x2 x3 x4) (hb : Below B w w') (hg : g < B) : B5 w' g t x0 x1 x2 x3 x4 := Blk.below h hb hg
theorem B5.lt {w : World} {g : Nat} {t : TypeId} {x0 x1 x2 x3 x4 : Value} (h : B5 w g t x0 x1 x2 x3 x4) : g < w.heap.size := Blk.lt h
theorem B5.set0 {w : World} {g : Nat} {t : TypeId} {x0 x1 x2 x3 x4 : Value} (h : B5 w g t x0 x1 x2 x3 x4) (u : Value) : B5 (w.setCell ⟨g, 0, none⟩ u) g t u x1 x2 x3 x4 := Blk.set h 0 u
theorem B5.c0 {w : World} {g : Nat} {t : TypeId} {x0 x1 x2 x3 x4 : Value} (h : B5 w g t x0 x1 x2 x3 x4) : w.cell? ⟨g, 0, none⟩ = some x0 := Blk.cell h 0
theorem B5.set1 {w : World} {g : Nat} {t : TypeId} {x0 x1 x2 x3 x4 : Value} (h : B5 w g t x0 x1 x2 x3 x4) (u : Value) : B5 (w.setCell ⟨g, 1, none⟩ u) g t x0 u x2 x3 x4 := Blk.set h 1 u
theorem B5.c1 {w : World} {g : Nat} {t : TypeId} {x0 x1 x2 x3 x4 : Value} (h : B5 w g t x0 x1 x2 x3 x4) : w.cell? ⟨g, 1, none⟩ = some x1 := Blk.cell h 1
theorem B5.set2 {w : World} {g : Nat} {t : TypeId} {x0 x1 x2 x3 x4 : Value} (h : B5 w g t x0 x1 x2 x3 x4) (u : Value) : B5 (w.setCell ⟨g, 2, none⟩ u) g t x0 x1 u x3 x4 := Blk.set h 2 u
theorem B5.c2 {w : World} {g : Nat} {t : TypeId} {x0 x1 x2 x3 x4 : Value} (h : B5 w g t x0 x1 x2 x3 x4) : w.cell? ⟨g, 2, none⟩ = some x2 := Blk.cell h 2
theorem B5.set3 {w : World} {g : Nat} {t : TypeId} {x0 x1 x2 x3 x4 : Value} (h : B5 w g t x0 x1 x2 x3 x4) (u : Value) : B5 (w.setCell ⟨g, 3, none⟩ u) g t x0 x1 x2 u x4 := Blk.set h 3 u
theorem B5.c3 {w : World} {g : Nat} {t : TypeId} {x0 x1 x2 x3 x4 : Value} (h : B5 w g t x0 x1 x2 x3 x4) : w.cell? ⟨g, 3, none⟩ = some x3 := Blk.cell h 3
theorem B5.set4 {w : World} {g : Nat} {t : TypeId} {x0 x1 x2 x3 x4 : Value} (h : B5 w g t x0 x1 x2 x3 x4) (u : Value) : B5 (w.setCell ⟨g, 4, none⟩ u) g t x0 x1 x2 x3 u := Blk.set h 4 u
theorem B5.c4 {w : World} {g : Nat} {t : TypeId} {x0 x1 x2 x3 x4 : Value} (h : B5 w g t x0 x1 x2 x3 x4) : w.cell? ⟨g, 4, none⟩ = some x4 := Blk.cell h 4
theorem B5.facts {w : World} {g : Nat} {t : TypeId} {x0 x1 x2 x3 x4 : Value} (h : B5 w g t x0 x1 x2 x3 x4) : w.cell? ⟨g, 0, none⟩ = some x0 ∧ w.cell? ⟨g, 1, none⟩ = some x1 ∧ w.cell? ⟨g, 2, none⟩ = some x2 ∧ w.cell? ⟨g, 3, none⟩ = some x3 ∧ w.cell? ⟨g, 4, none⟩ = some x4 ∧ w.frozen? ⟨g, 0, none⟩ = false ∧ w.frozen? ⟨g, 1, none⟩ = false ∧ w.frozen? ⟨g, 2, none⟩ = false ∧ w.frozen? ⟨g, 3, none⟩ = false ∧ w.frozen? ⟨g, 4, none⟩ = false := ⟨h.c0, h.c1, h.c2, h.c3, h.c4, Blk.frozen h 0, Blk.frozen h 1, Blk.frozen h 2, Blk.frozen h 3, Blk.frozen h 4⟩
def B6 (w : World) (g : Nat) (t : TypeId) (x0 x1 x2 x3 x4 x5 : Value) : Prop := Blk w g t #[x0, x1, x2, x3, x4, x5]
end Go.Proofs.YthogheglddfniaaGreatDoor.Mem
namespace Go.Proofs.YthogheglddfniaaGreatDoor.Mem
open Go.RowKit
def B9 (w : World) (g : Nat) (t : TypeId) (x0 x1 x2 x3 x4 x5 x6 x7 x8 : Value) : Prop := Blk w g t #[x0, x1, x2, x3, x4, x5, x6, x7, x8]
theorem B9.newat {w : World} {g : Nat} {t : TypeId} {x0 x1 x2 x3 x4 x5 x6 x7 x8 : Value} (e : g = w.heap.size) : B9 (w.alloc (.cells #[x0, x1, x2, x3, x4, x5, x6, x7, x8] t)) g t x0 x1 x2 x3 x4 x5 x6 x7 x8 := Blk.newat e
theorem B9.alloc {w : World} {g : Nat} {t : TypeId} {x0 x1 x2 x3 x4 x5 x6 x7 x8 : Value} (h : B9 w g t x0 x1 x2 x3 x4 x5 x6 x7 x8) (o : Obj) : B9 (w.alloc o) g t x0 x1 x2 x3 x4 x5 x6 x7 x8 := Blk.alloc h o
theorem B9.past {w : World} {g : Nat} {t : TypeId} {x0 x1 x2 x3 x4 x5 x6 x7 x8 : Value} (h : B9 w g t x0 x1 x2 x3 x4 x5 x6 x7 x8) {p : Addr} (hp : p.block ≠ g) (u : Value) : B9 (w.setCell p u) g t x0 x1 x2 x3 x4 x5 x6 x7 x8 := Blk.past h hp u
theorem B9.drew {w : World} {g : Nat} {t : TypeId} {x0 x1 x2 x3 x4 x5 x6 x7 x8 : Value} (h : B9 w g t x0 x1 x2 x3 x4 x5 x6 x7 x8) : B9 w.drew g t x0 x1 x2 x3 x4 x5 x6 x7 x8 := h
theorem B9.below {w : World} {g : Nat} {t : TypeId} {x0 x1 x2 x3 x4 x5 x6 x7 x8 : Value} {B : Nat} {w' : World} (h : B9 w g t x0 x1 x2 x3 x4 x5 x6 x7 x8) (hb : Below B w w') (hg : g < B) : B9 w' g t x0 x1 x2 x3 x4 x5 x6 x7 x8 := Blk.below h hb hg
theorem B9.lt {w : World} {g : Nat} {t : TypeId} {x0 x1 x2 x3 x4 x5 x6 x7 x8 : Value} (h : B9 w g t x0 x1 x2 x3 x4 x5 x6 x7 x8) : g < w.heap.size := Blk.lt h
theorem B9.set0 {w : World} {g : Nat} {t : TypeId} {x0 x1 x2 x3 x4 x5 x6 x7 x8 : Value} (h : B9 w g t x0 x1 x2 x3 x4 x5 x6 x7 x8) (u : Value) : B9 (w.setCell ⟨g, 0, none⟩ u) g t u x1 x2 x3 x4 x5 x6 x7 x8 := Blk.set h 0 u
theorem B9.set1 {w : World} {g : Nat} {t : TypeId} {x0 x1 x2 x3 x4 x5 x6 x7 x8 : Value} (h : B9 w g t x0 x1 x2 x3 x4 x5 x6 x7 x8) (u : Value) : B9 (w.setCell ⟨g, 1, none⟩ u) g t x0 u x2 x3 x4 x5 x6 x7 x8 := Blk.set h 1 u
theorem B9.set2 {w : World} {g : Nat} {t : TypeId} {x0 x1 x2 x3 x4 x5 x6 x7 x8 : Value} (h : B9 w g t x0 x1 x2 x3 x4 x5 x6 x7 x8) (u : Value) : B9 (w.setCell ⟨g, 2, none⟩ u) g t x0 x1 u x3 x4 x5 x6 x7 x8 := Blk.set h 2 u
theorem B9.set3 {w : World} {g : Nat} {t : TypeId} {x0 x1 x2 x3 x4 x5 x6 x7 x8 : Value} (h : B9 w g t x0 x1 x2 x3 x4 x5 x6 x7 x8) (u : Value) : B9 (w.setCell ⟨g, 3, none⟩ u) g t x0 x1 x2 u x4 x5 x6 x7 x8 := Blk.set h 3 u
theorem B9.set4 {w : World} {g : Nat} {t : TypeId} {x0 x1 x2 x3 x4 x5 x6 x7 x8 : Value} (h : B9 w g t x0 x1 x2 x3 x4 x5 x6 x7 x8) (u : Value) : B9 (w.setCell ⟨g, 4, none⟩ u) g t x0 x1 x2 x3 u x5 x6 x7 x8 := Blk.set h 4 u
theorem B9.set5 {w : World} {g : Nat} {t : TypeId} {x0 x1 x2 x3 x4 x5 x6 x7 x8 : Value} (h : B9 w g t x0 x1 x2 x3 x4 x5 x6 x7 x8) (u : Value) : B9 (w.setCell ⟨g, 5, none⟩ u) g t x0 x1 x2 x3 x4 u x6 x7 x8 := Blk.set h 5 u
theorem B9.set6 {w : World} {g : Nat} {t : TypeId} {x0 x1 x2 x3 x4 x5 x6 x7 x8 : Value} (h : B9 w g t x0 x1 x2 x3 x4 x5 x6 x7 x8) (u : Value) : B9 (w.setCell ⟨g, 6, none⟩ u) g t x0 x1 x2 x3 x4 x5 u x7 x8 := Blk.set h 6 u
theorem B9.set7 {w : World} {g : Nat} {t : TypeId} {x0 x1 x2 x3 x4 x5 x6 x7 x8 : Value} (h : B9 w g t x0 x1 x2 x3 x4 x5 x6 x7 x8) (u : Value) : B9 (w.setCell ⟨g, 7, none⟩ u) g t x0 x1 x2 x3 x4 x5 x6 u x8 := Blk.set h 7 u
theorem B9.set8 {w : World} {g : Nat} {t : TypeId} {x0 x1 x2 x3 x4 x5 x6 x7 x8 : Value} (h : B9 w g t x0 x1 x2 x3 x4 x5 x6 x7 x8) (u : Value) : B9 (w.setCell ⟨g, 8, none⟩ u) g t x0 x1 x2 x3 x4 x5 x6 x7 u := Blk.set h 8 u
theorem B9.facts {w : World} {g : Nat} {t : TypeId} {x0 x1 x2 x3 x4 x5 x6 x7 x8 : Value} (h : B9 w g t x0 x1 x2 x3 x4 x5 x6 x7 x8) : w.cell? ⟨g, 0, none⟩ = some x0 ∧ w.cell? ⟨g, 1, none⟩ = some x1 ∧ w.cell? ⟨g, 2, none⟩ = some x2 ∧ w.cell? ⟨g, 3, none⟩ = some x3 ∧ w.cell? ⟨g, 4, none⟩ = some x4 ∧ w.cell? ⟨g, 5, none⟩ = some x5 ∧ w.cell? ⟨g, 6, none⟩ = some x6 ∧ w.cell? ⟨g, 7, none⟩ = some x7 ∧ w.cell? ⟨g, 8, none⟩ = some x8 ∧ w.frozen? ⟨g, 0, none⟩ = false ∧ w.frozen? ⟨g, 1, none⟩ = false ∧ w.frozen? ⟨g, 2, none⟩ = false ∧ w.frozen? ⟨g, 3, none⟩ = false ∧ w.frozen? ⟨g, 4, none⟩ = false ∧ w.frozen? ⟨g, 5, none⟩ = false ∧ w.frozen? ⟨g, 6, none⟩ = false ∧ w.frozen? ⟨g, 7, none⟩ = false ∧ w.frozen? ⟨g, 8, none⟩ = false := ⟨Blk.cell h 0, Blk.cell h 1, Blk.cell h 2, Blk.cell h 3, Blk.cell h 4, Blk.cell h 5, Blk.cell h 6, Blk.cell h 7, Blk.cell h 8, Blk.frozen h 0, Blk.frozen h 1, Blk.frozen h 2, Blk.frozen h 3, Blk.frozen h 4, Blk.frozen h 5, Blk.frozen h 6, Blk.frozen h 7, Blk.frozen h 8⟩
def B10 (w : World) (g : Nat) (t : TypeId) (x0 x1 x2 x3 x4 x5 x6 x7 x8 x9 : Value) : Prop := Blk w g t #[x0, x1, x2, x3, x4, x5, x6, x7, x8, x9]
theorem B10.newat {w : World} {g : Nat} {t : TypeId} {x0 x1 x2 x3 x4 x5 x6 x7 x8 x9 : Value} (e : g = w.heap.size) : B10 (w.alloc (.cells #[x0, x1, x2, x3, x4, x5, x6, x7, x8, x9] t)) g t x0 x1 x2 x3 x4 x5 x6 x7 x8 x9 := Blk.newat e
theorem B10.alloc {w : World} {g : Nat} {t : TypeId} {x0 x1 x2 x3 x4 x5 x6 x7 x8 x9 : Value} (h : B10 w g t x0 x1 x2 x3 x4 x5 x6 x7 x8 x9) (o : Obj) : B10 (w.alloc o) g t x0 x1 x2 x3 x4 x5 x6 x7 x8 x9 := Blk.alloc h o
theorem B10.past {w : World} {g : Nat} {t : TypeId} {x0 x1 x2 x3 x4 x5 x6 x7 x8 x9 : Value} (h : B10 w g t x0 x1 x2 x3 x4 x5 x6 x7 x8 x9) {p : Addr} (hp : p.block ≠ g) (u : Value) : B10 (w.setCell p u) g t x0 x1 x2 x3 x4 x5 x6 x7 x8 x9 := Blk.past h hp u
theorem B10.drew {w : World} {g : Nat} {t : TypeId} {x0 x1 x2 x3 x4 x5 x6 x7 x8 x9 : Value} (h : B10 w g t x0 x1 x2 x3 x4 x5 x6 x7 x8 x9) : B10 w.drew g t x0 x1 x2 x3 x4 x5 x6 x7 x8 x9 := h
theorem B10.below {w : World} {g : Nat} {t : TypeId} {x0 x1 x2 x3 x4 x5 x6 x7 x8 x9 : Value} {B : Nat} {w' : World} (h : B10 w g t x0 x1 x2 x3 x4 x5 x6 x7 x8 x9) (hb : Below B w w') (hg : g < B) : B10 w' g t x0 x1 x2 x3 x4 x5 x6 x7 x8 x9 := Blk.below h hb hg
theorem B10.lt {w : World} {g : Nat} {t : TypeId} {x0 x1 x2 x3 x4 x5 x6 x7 x8 x9 : Value} (h : B10 w g t x0 x1 x2 x3 x4 x5 x6 x7 x8 x9) : g < w.heap.size := Blk.lt h
theorem B10.set1 {w : World} {g : Nat} {t : TypeId} {x0 x1 x2 x3 x4 x5 x6 x7 x8 x9 : Value} (h : B10 w g t x0 x1 x2 x3 x4 x5 x6 x7 x8 x9) (u : Value) : B10 (w.setCell ⟨g, 1, none⟩ u) g t x0 u x2 x3 x4 x5 x6 x7 x8 x9 := Blk.set h 1 u
theorem B10.set2 {w : World} {g : Nat} {t : TypeId} {x0 x1 x2 x3 x4 x5 x6 x7 x8 x9 : Value} (h : B10 w g t x0 x1 x2 x3 x4 x5 x6 x7 x8 x9) (u : Value) : B10 (w.setCell ⟨g, 2, none⟩ u) g t x0 x1 u x3 x4 x5 x6 x7 x8 x9 := Blk.set h 2 u
theorem B10.set3 {w : World} {g : Nat} {t : TypeId} {x0 x1 x2 x3 x4 x5 x6 x7 x8 x9 : Value} (h : B10 w g t x0 x1 x2 x3 x4 x5 x6 x7 x8 x9) (u : Value) : B10 (w.setCell ⟨g, 3, none⟩ u) g t x0 x1 x2 u x4 x5 x6 x7 x8 x9 := Blk.set h 3 u
theorem B10.set4 {w : World} {g : Nat} {t : TypeId} {x0 x1 x2 x3 x4 x5 x6 x7 x8 x9 : Value} (h : B10 w g t x0 x1 x2 x3 x4 x5 x6 x7 x8 x9) (u : Value) : B10 (w.setCell ⟨g, 4, none⟩ u) g t x0 x1 x2 x3 u x5 x6 x7 x8 x9 := Blk.set h 4 u
theorem B10.set5 {w : World} {g : Nat} {t : TypeId} {x0 x1 x2 x3 x4 x5 x6 x7 x8 x9 : Value} (h : B10 w g t x0 x1 x2 x3 x4 x5 x6 x7 x8 x9) (u : Value) : B10 (w.setCell ⟨g, 5, none⟩ u) g t x0 x1 x2 x3 x4 u x6 x7 x8 x9 := Blk.set h 5 u
theorem B10.set6 {w : World} {g : Nat} {t : TypeId} {x0 x1 x2 x3 x4 x5 x6 x7 x8 x9 : Value} (h : B10 w g t x0 x1 x2 x3 x4 x5 x6 x7 x8 x9) (u : Value) : B10 (w.setCell ⟨g, 6, none⟩ u) g t x0 x1 x2 x3 x4 x5 u x7 x8 x9 := Blk.set h 6 u
theorem B10.set7 {w : World} {g : Nat} {t : TypeId} {x0 x1 x2 x3 x4 x5 x6 x7 x8 x9 : Value} (h : B10 w g t x0 x1 x2 x3 x4 x5 x6 x7 x8 x9) (u : Value) : B10 (w.setCell ⟨g, 7, none⟩ u) g t x0 x1 x2 x3 x4 x5 x6 u x8 x9 := Blk.set h 7 u
theorem B10.facts {w : World} {g : Nat} {t : TypeId} {x0 x1 x2 x3 x4 x5 x6 x7 x8 x9 : Value} (h : B10 w g t x0 x1 x2 x3 x4 x5 x6 x7 x8 x9) : w.cell? ⟨g, 0, none⟩ = some x0 ∧ w.cell? ⟨g, 1, none⟩ = some x1 ∧ w.cell? ⟨g, 2, none⟩ = some x2 ∧ w.cell? ⟨g, 3, none⟩ = some x3 ∧ w.cell? ⟨g, 4, none⟩ = some x4 ∧ w.cell? ⟨g, 5, none⟩ = some x5 ∧ w.cell? ⟨g, 6, none⟩ = some x6 ∧ w.cell? ⟨g, 7, none⟩ = some x7 ∧ w.cell? ⟨g, 8, none⟩ = some x8 ∧ w.cell? ⟨g, 9, none⟩ = some x9 ∧ w.frozen? ⟨g, 0, none⟩ = false ∧ w.frozen? ⟨g, 1, none⟩ = false ∧ w.frozen? ⟨g, 2, none⟩ = false ∧ w.frozen? ⟨g, 3, none⟩ = false ∧ w.frozen? ⟨g, 4, none⟩ = false ∧ w.frozen? ⟨g, 5, none⟩ = false ∧ w.frozen? ⟨g, 6, none⟩ = false ∧ w.frozen? ⟨g, 7, none⟩ = false ∧ w.frozen? ⟨g, 8, none⟩ = false ∧ w.frozen? ⟨g, 9, none⟩ = false := ⟨Blk.cell h 0, Blk.cell h 1, Blk.cell h 2, Blk.cell h 3, Blk.cell h 4, Blk.cell h 5, Blk.cell h 6, Blk.cell h 7, Blk.cell h 8, Blk.cell h 9, Blk.frozen h 0, Blk.frozen h 1, Blk.frozen h 2, Blk.frozen h 3, Blk.frozen h 4, Blk.frozen h 5, Blk.frozen h 6, Blk.frozen h 7, Blk.frozen h 8, Blk.frozen h 9⟩
end Go.Proofs.YthogheglddfniaaGreatDoor.Mem
namespace Go.Proofs.YthogheglddfniaaGreatDoor
open Go.RowKit Mem
inductive D where
 | i (k : IntKind) (n : Int)
 | b (x : Bool)
 | s (t : ByteArray)
 | ag (fs : List D)
 | sl (n : Nat) (items : List D)
mutual
/-- Cells that are a datum, whose parts lie in blocks that S has. -/
def Lies (w : World) (S : Nat → Prop) : D → List Value → Prop
 | .i k n, cs => cs = [.int k n]
 | .b x, cs => cs = [.bool x]
 | .s t, cs => cs = [.string t]
 | .ag fs, cs => LiesA w S fs cs
 | .sl n items, cs => ∃ A c, cs = [.slice A items.length c] ∧ items.length ≤ c ∧ items.length ≤ maxLen ∧ RowD w S n items A
/-- Fields, one behind the other. -/
def LiesA (w : World) (S : Nat → Prop) : List D → List Value → Prop
 | [], cs => cs = []
 | d :: r, cs => ∃ c1 c2, cs = c1 ++ c2 ∧ Lies w S d c1 ∧ LiesA w S r c2
/-- A place from which data stand, each of n cells. -/
def RowD (w : World) (S : Nat → Prop) (n : Nat) : List D → Option Addr → Prop
 | [], _ => True
 | d :: r, A => ∃ g off cs, A = some ⟨g, off, none⟩ ∧ S g ∧ cs.length = n ∧ (∀ j, j < n → w.cell? ⟨g, off + j, none⟩ = cs[j]?) ∧ Lies w S d cs ∧ RowD w S n r (some ⟨g, off + n, none⟩)
end
section
variable {w w' : World} {S S' : Nat → Prop}
mutual
theorem Lies.keep (hk : ∀ p : Addr, S p.block → w'.cell? p = w.cell? p) (hS : ∀ g, S g → S' g) : ∀ {d : D} {cs : List Value}, Lies w S d cs → Lies w' S' d cs
 | .i _ _, cs, h => by unfold Lies at h ⊢; exact h
 | .b _, cs, h => by unfold Lies at h ⊢; exact h
 | .s _, cs, h => by unfold Lies at h ⊢; exact h
 | .ag fs, cs, h => by unfold Lies at h ⊢; exact LiesA.keep hk hS h
 | .sl n items, cs, h => by
  unfold Lies at h ⊢
  obtain ⟨A, c, e, h1, h2, h3⟩ := h
  exact ⟨A, c, e, h1, h2, RowD.keep hk hS h3⟩
theorem LiesA.keep (hk : ∀ p : Addr, S p.block → w'.cell? p = w.cell? p) (hS : ∀ g, S g → S' g) : ∀ {fs : List D} {cs : List Value}, LiesA w S fs cs → LiesA w' S' fs cs
 | [], cs, h => by unfold LiesA at h ⊢; exact h
 | d :: r, cs, h => by
  unfold LiesA at h ⊢
  obtain ⟨c1, c2, e, h1, h2⟩ := h
  exact ⟨c1, c2, e, Lies.keep hk hS h1, LiesA.keep hk hS h2⟩
theorem RowD.keep (hk : ∀ p : Addr, S p.block → w'.cell? p = w.cell? p) (hS : ∀ g, S g → S' g) {n : Nat} : ∀ {l : List D} {A : Option Addr}, RowD w S n l A → RowD w' S' n l A
 | [], A, _ => by unfold RowD; trivial
 | d :: r, A, h => by
  unfold RowD at h ⊢
  obtain ⟨g, off, cs, e, hg, hl, hc, h1, h2⟩ := h
  exact ⟨g, off, cs, e, hS g hg, hl, fun j hj => (hk _ hg).trans (hc j hj), Lies.keep hk hS h1, RowD.keep hk hS h2⟩
end
end
section
variable {w w' : World} {B B' : Nat} {d : D} {cs : List Value} {l : List D} {A : Option Addr} {n : Nat}
theorem Lies.below (h : Lies w (· < B) d cs) (hb : Below B w w') : Lies w' (· < B) d cs := h.keep (fun _ hp => hb.cell hp) fun _ h => h
theorem Lies.more (h : Lies w (· < B) d cs) (hB : B ≤ B') : Lies w (· < B') d cs := h.keep (fun _ _ => rfl) fun _ h => Nat.lt_of_lt_of_le h hB
theorem Lies.on (h : Lies w (· < w.heap.size) d cs) (hb : Below w.heap.size w w') : Lies w' (· < w'.heap.size) d cs := (h.below hb).more hb.size
theorem RowD.below (h : RowD w (· < B) n l A) (hb : Below B w w') : RowD w' (· < B) n l A := h.keep (fun _ hp => hb.cell hp) fun _ h => h
theorem RowD.more (h : RowD w (· < B) n l A) (hB : B ≤ B') : RowD w (· < B') n l A := h.keep (fun _ _ => rfl) fun _ h => Nat.lt_of_lt_of_le h hB
theorem RowD.on (h : RowD w (· < w.heap.size) n l A) (hb : Below w.heap.size w w') : RowD w' (· < w'.heap.size) n l A := (h.below hb).more hb.size
theorem RowD.nil_ (w : World) (S : Nat → Prop) (n : Nat) (A : Option Addr) : RowD w S n [] A := by unfold RowD; trivial
end
section
variable {w : World} {S : Nat → Prop}
theorem RowD.at_ {n : Nat} : ∀ {l : List D} {A : Option Addr} (_ : RowD w S n l A) {i : Nat} (hi : i < l.length), ∃ g off cs, A = some ⟨g, off, none⟩ ∧ S g ∧ cs.length = n ∧ (∀ j, j < n → w.cell? ⟨g, off + i * n + j, none⟩ = cs[j]?) ∧ Lies w S (l[i]'hi) cs
 | [], _, _, i, hi => absurd hi (Nat.not_lt_zero _)
 | d :: r, A, h, i, hi => by
  unfold RowD at h
  obtain ⟨g, off, cs, rfl, hg, hl, hc, h1, h2⟩ := h
  cases i with
  | zero => exact ⟨g, off, cs, rfl, hg, hl, fun j hj => by rw [Nat.zero_mul, Nat.add_zero]; exact hc j hj, h1⟩
  | succ i =>
   obtain ⟨g', off', cs', e, hg', hl', hc', h'⟩ := RowD.at_ h2 (i := i) (by simpa using hi)
   simp only [Option.some.injEq, Addr.mk.injEq, and_true] at e
   obtain ⟨rfl, rfl⟩ := e
   exact ⟨g, off, cs', rfl, hg, hl', fun j hj => by rw [show off + (i + 1) * n + j = off + n + i * n + j by rw [Nat.succ_mul]; omega]; exact hc' j hj, h'⟩
theorem RowD.snoc {n : Nat} {d : D} {cs : List Value} {g off : Nat} (hg : S g) (hl : cs.length = n) (hd : Lies w S d cs) : ∀ {l : List D} {o : Nat}, RowD w S n l (some ⟨g, o, none⟩) → off = o + l.length * n → (∀ j, j < n → w.cell? ⟨g, off + j, none⟩ = cs[j]?) → RowD w S n (l ++ [d]) (some ⟨g, o, none⟩)
 | [], o, _, e, hc => by
  obtain rfl : off = o := by simpa using e
  show RowD w S n [d] _
  unfold RowD
  exact ⟨g, off, cs, rfl, hg, hl, hc, hd, RowD.nil_ _ _ _ _⟩
 | x :: r, o, h, e, hc => by
  unfold RowD at h
  obtain ⟨g', o', cs', e', hg', hl', hc', h1, h2⟩ := h
  simp only [Option.some.injEq, Addr.mk.injEq, and_true] at e'
  obtain ⟨rfl, rfl⟩ := e'
  show RowD w S n (x :: (r ++ [d])) _
  unfold RowD
  exact ⟨g, o, cs', rfl, hg, hl', hc', h1, RowD.snoc hg hl hd h2 (by rw [List.length_cons, Nat.succ_mul] at e; omega) hc⟩
theorem RowD.of {n g off : Nat} (hg : S g) : ∀ (m : Nat) (f : Nat → D) (F : Nat → List Value), (∀ i, i < m → (F i).length = n ∧ (∀ j, j < n → w.cell? ⟨g, off + i * n + j, none⟩ = (F i)[j]?) ∧ Lies w S (f i) (F i)) → RowD w S n ((List.range m).map f) (some ⟨g, off, none⟩)
 | 0, _, _, _ => RowD.nil_ _ _ _ _
 | m + 1, f, F, h => by
  rw [List.range_succ, List.map_append, List.map_cons, List.map_nil]
  obtain ⟨h1, h2, h3⟩ := h m (by omega)
  exact RowD.snoc hg h1 h3 (RowD.of hg m f F fun i hi => h i (by omega)) (by simp) h2
theorem lies_i {k : IntKind} {n : Int} {cs : List Value} : Lies w S (.i k n) cs ↔ cs = [.int k n] := by unfold Lies; exact Iff.rfl
theorem lies_b {x : Bool} {cs : List Value} : Lies w S (.b x) cs ↔ cs = [.bool x] := by unfold Lies; exact Iff.rfl
theorem lies_s {t : ByteArray} {cs : List Value} : Lies w S (.s t) cs ↔ cs = [.string t] := by unfold Lies; exact Iff.rfl
theorem lies_ag {fs : List D} {cs : List Value} : Lies w S (.ag fs) cs ↔ LiesA w S fs cs := by unfold Lies; exact Iff.rfl
theorem lies_sl {n : Nat} {l : List D} {cs : List Value} : Lies w S (.sl n l) cs ↔ ∃ A c, cs = [.slice A l.length c] ∧ l.length ≤ c ∧ l.length ≤ maxLen ∧ RowD w S n l A := by
 conv => lhs; unfold Lies
theorem liesA_nil {cs : List Value} : LiesA w S [] cs ↔ cs = [] := by unfold LiesA; exact Iff.rfl
theorem liesA_cons {d : D} {r : List D} {cs : List Value} : LiesA w S (d :: r) cs ↔ ∃ c1 c2, cs = c1 ++ c2 ∧ Lies w S d c1 ∧ LiesA w S r c2 := by
 conv => lhs; unfold LiesA
end
inductive J where
 | mk (k : Int) (n : Int) (t : ByteArray) (its : List J) (ks : List ByteArray)
namespace J
def k : J → Int | mk k _ _ _ _ => k
def n : J → Int | mk _ n _ _ _ => n
def t : J → ByteArray | mk _ _ t _ _ => t
def its : J → List J | mk _ _ _ i _ => i
def ks : J → List ByteArray | mk _ _ _ _ s => s
def zero : J := mk 0 0 ⟨#[]⟩ [] []
noncomputable def same (a b : J) : Bool := @decide (a = b) (Classical.propDecidable _)
theorem same_refl (a : J) : same a a = true := by unfold same; simp
theorem same_yes {a b : J} (h : a = b) : same a b = true := by subst h; exact same_refl a
theorem same_no {a b : J} (h : a ≠ b) : same a b = false := by unfold same; simpa using h
theorem lt_its {j : J} {i : Nat} (h : i < j.its.length) : SizeOf.sizeOf (j.its[i]'h) < SizeOf.sizeOf j := by
 cases j with
 | mk k n t its ks =>
  have := List.sizeOf_lt_of_mem (List.getElem_mem h)
  simp only [J.mk.sizeOf_spec]
  simp only [J.its] at this ⊢
  omega
end J
def FlS (w : World) (S : Nat → Prop) (A : Option Addr) (xs : List Value) : Prop := xs = [] ∨ ∃ b off, A = some ⟨b, off, none⟩ ∧ S b ∧ ∀ k, k < xs.length → w.cell? ⟨b, off + k, none⟩ = xs[k]?
mutual
/-- Five cells that are a tree, whose parts lie in blocks that S has. -/
def TreeS (w : World) (S : Nat → Prop) : J → List Value → Prop
 | .mk k n s its ks, cs => ∃ A3 c3 A4 c4, cs = [.int .i64 k, .int .i64 n, .string s, .slice A3 its.length c3, .slice A4 ks.length c4] ∧ (its.length ≤ c3 ∧ its.length ≤ maxLen) ∧ (ks.length ≤ c4 ∧ ks.length ≤ maxLen) ∧
  RowS w S its A3 ∧ FlS w S A4 (ks.map Value.string)
/-- A place from which trees stand, one behind the other. -/
def RowS (w : World) (S : Nat → Prop) : List J → Option Addr → Prop
 | [], _ => True
 | j :: r, A => ∃ b off cs, A = some ⟨b, off, none⟩ ∧ S b ∧ (∀ i, i < 5 → w.cell? ⟨b, off + i, none⟩ = cs[i]?) ∧ TreeS w S j cs ∧ RowS w S r (some ⟨b, off + 5, none⟩)
end
abbrev TreeC (w : World) (B : Nat) (j : J) (cs : List Value) : Prop := TreeS w (· < B) j cs
abbrev RowT (w : World) (B : Nat) (l : List J) (A : Option Addr) : Prop := RowS w (· < B) l A
def KeepS (S : Nat → Prop) (w w' : World) : Prop := ∀ p : Addr, S p.block → w'.cell? p = w.cell? p
theorem Below.keeps {B : Nat} {w w' : World} (h : Below B w w') : KeepS (· < B) w w' := fun _ hp => h.cell hp
theorem FlS.keep {w w' : World} {S S' : Nat → Prop} (hk : KeepS S w w') (hS : ∀ b, S b → S' b) {A : Option Addr} {xs : List Value} (h : FlS w S A xs) : FlS w' S' A xs := by
 rcases h with h | ⟨b, off, e, hb, hc⟩
 · exact .inl h
 · exact .inr ⟨b, off, e, hS b hb, fun k hl => (hk _ hb).trans (hc k hl)⟩
mutual
theorem TreeS.keep {w w' : World} {S S' : Nat → Prop} (hk : KeepS S w w') (hS : ∀ b, S b → S' b) : ∀ {j : J} {cs : List Value}, TreeS w S j cs → TreeS w' S' j cs
 | .mk k n s its ks, cs, h => by
  unfold TreeS at h ⊢
  obtain ⟨A3, c3, A4, c4, e, h1, h2, h3, h4⟩ := h
  exact ⟨A3, c3, A4, c4, e, h1, h2, RowS.keep hk hS h3, h4.keep hk hS⟩
theorem RowS.keep {w w' : World} {S S' : Nat → Prop} (hk : KeepS S w w') (hS : ∀ b, S b → S' b) : ∀ {l : List J} {A : Option Addr}, RowS w S l A → RowS w' S' l A
 | [], A, _ => by unfold RowS; trivial
 | j :: r, A, h => by
  unfold RowS at h ⊢
  obtain ⟨b, off, cs, e, hb, hc, h1, h2⟩ := h
  exact ⟨b, off, cs, e, hS b hb, fun i hi => (hk _ hb).trans (hc i hi), TreeS.keep hk hS h1, RowS.keep hk hS h2⟩
end
section
variable {w w' : World} {B B' : Nat} {j : J} {cs : List Value} {l : List J} {A : Option Addr}
theorem TreeS.below (h : TreeC w B j cs) (hb : Below B w w') : TreeC w' B j cs := TreeS.keep (Below.keeps hb) (fun _ h => h) h
theorem TreeS.more (h : TreeC w B j cs) (hB : B ≤ B') : TreeC w B' j cs := TreeS.keep (fun _ _ => rfl) (fun _ h => Nat.lt_of_lt_of_le h hB) h
theorem TreeS.alloc (h : TreeC w B j cs) (hB : B ≤ w.heap.size) (o : Obj) : TreeC (w.alloc o) B j cs := TreeS.keep (fun p hp => World.cell?_alloc_lt w o p (Nat.lt_of_lt_of_le hp hB)) (fun _ h => h) h
theorem RowS.below (h : RowT w B l A) (hb : Below B w w') : RowT w' B l A := RowS.keep (Below.keeps hb) (fun _ h => h) h
theorem RowS.more (h : RowT w B l A) (hB : B ≤ B') : RowT w B' l A := RowS.keep (fun _ _ => rfl) (fun _ h => Nat.lt_of_lt_of_le h hB) h
end
theorem TreeS.out {w : World} {S : Nat → Prop} {j : J} {cs : List Value} (h : TreeS w S j cs) : ∃ A3 c3 A4 c4, cs = [.int .i64 j.k, .int .i64 j.n, .string j.t, .slice A3 j.its.length c3, .slice A4 j.ks.length c4] ∧ (j.its.length ≤ c3 ∧ j.its.length ≤ maxLen) ∧ (j.ks.length ≤ c4 ∧ j.ks.length ≤ maxLen) ∧
 RowS w S j.its A3 ∧ FlS w S A4 (j.ks.map Value.string) := by
 cases j; unfold TreeS at h; exact h
theorem TreeS.mk_ {w : World} {S : Nat → Prop} {k n : Int} {s : ByteArray} {its : List J} {ks : List ByteArray} {A3 A4 : Option Addr} {c3 c4 : Nat} (h1 : its.length ≤ c3 ∧ its.length ≤ maxLen) (h2 : ks.length ≤ c4 ∧ ks.length ≤ maxLen) (h3 : RowS w S its A3) (h4 : FlS w S A4 (ks.map Value.string)) :
 TreeS w S (.mk k n s its ks) [.int .i64 k, .int .i64 n, .string s, .slice A3 its.length c3, .slice A4 ks.length c4] := by
 unfold TreeS; exact ⟨A3, c3, A4, c4, rfl, h1, h2, h3, h4⟩
theorem RowS.nil_ (w : World) (S : Nat → Prop) (A : Option Addr) : RowS w S [] A := by unfold RowS; trivial
theorem TreeS.leaf (w : World) (S : Nat → Prop) (k n : Int) (s : ByteArray) : TreeS w S (.mk k n s [] []) [.int .i64 k, .int .i64 n, .string s, .slice none 0 0, .slice none 0 0] :=
 TreeS.mk_ ⟨Nat.le_refl _, Nat.zero_le _⟩ ⟨Nat.le_refl _, Nat.zero_le _⟩ (RowS.nil_ _ _ _) (.inl rfl)
theorem TreeS.zero_ (w : World) (S : Nat → Prop) : TreeS w S J.zero [.int .i64 0, .int .i64 0, .string ⟨#[]⟩, .slice none 0 0, .slice none 0 0] := TreeS.leaf w S 0 0 ⟨#[]⟩
theorem RowS.at_ {w : World} {S : Nat → Prop} : ∀ {l : List J} {A : Option Addr} (_ : RowS w S l A) {i : Nat} (hi : i < l.length), ∃ b off cs, A = some ⟨b, off, none⟩ ∧ S b ∧ (∀ k, k < 5 → w.cell? ⟨b, off + i * 5 + k, none⟩ = cs[k]?) ∧ TreeS w S (l[i]'hi) cs
 | [], _, _, i, hi => absurd hi (Nat.not_lt_zero _)
 | j :: r, A, h, i, hi => by
  unfold RowS at h
  obtain ⟨b, off, cs, rfl, hb, hc, h1, h2⟩ := h
  cases i with
  | zero => exact ⟨b, off, cs, rfl, hb, fun k hk => by rw [Nat.zero_mul, Nat.add_zero]; exact hc k hk, h1⟩
  | succ i =>
   obtain ⟨b', off', cs', e, hb', hc', h'⟩ := RowS.at_ h2 (i := i) (by simpa using hi)
   simp only [Option.some.injEq, Addr.mk.injEq, and_true] at e
   obtain ⟨rfl, rfl⟩ := e
   exact ⟨b, off, cs', rfl, hb, fun k hk => by rw [show off + (i + 1) * 5 + k = off + 5 + i * 5 + k by omega]; exact hc' k hk, h'⟩
theorem RowS.cells {w : World} {S : Nat → Prop} {l : List J} {A : Option Addr} (h : RowS w S l A) {i : Nat} (hi : i < l.length) : ∃ b off A3 c3 A4 c4, A = some ⟨b, off, none⟩ ∧ S b ∧
 w.cell? ⟨b, off + i * 5, none⟩ = some (.int .i64 (l[i]'hi).k) ∧ w.cell? ⟨b, off + i * 5 + 1, none⟩ = some (.int .i64 (l[i]'hi).n) ∧ w.cell? ⟨b, off + i * 5 + 2, none⟩ = some (.string (l[i]'hi).t) ∧
 w.cell? ⟨b, off + i * 5 + 3, none⟩ = some (.slice A3 (l[i]'hi).its.length c3) ∧ w.cell? ⟨b, off + i * 5 + 4, none⟩ = some (.slice A4 (l[i]'hi).ks.length c4) ∧
 TreeS w S (l[i]'hi) [.int .i64 (l[i]'hi).k, .int .i64 (l[i]'hi).n, .string (l[i]'hi).t, .slice A3 (l[i]'hi).its.length c3, .slice A4 (l[i]'hi).ks.length c4] := by
 obtain ⟨b, off, cs, e, hb, hc, ht⟩ := h.at_ hi
 obtain ⟨A3, c3, A4, c4, e2, _⟩ := ht.out
 subst e2
 exact ⟨b, off, A3, c3, A4, c4, e, hb, hc 0 (by omega), hc 1 (by omega), hc 2 (by omega), hc 3 (by omega), hc 4 (by omega), ht⟩
theorem fl_str {w : World} {S : Nat → Prop} {A : Option Addr} {ks : List ByteArray} (h : FlS w S A (ks.map Value.string)) {i : Nat} (hi : i < ks.length) : ∃ b off, A = some ⟨b, off, none⟩ ∧ S b ∧ w.cell? ⟨b, off + i, none⟩ = some (.string (ks[i]'hi)) := by
 rcases h with h | ⟨b, off, e, hb, hc⟩
 · simp only [List.map_eq_nil_iff] at h; subst h; exact absurd hi (Nat.not_lt_zero _)
 · exact ⟨b, off, e, hb, by rw [hc i (by simpa using hi)]; simp⟩
def TreesS (w : World) (S : Nat → Prop) : List J → List (List Value) → Prop
 | [], [] => True
 | j :: r, cs :: q => TreeS w S j cs ∧ TreesS w S r q
 | _, _ => False
theorem TreesS.len {w : World} {S : Nat → Prop} : ∀ {l : List J} {q : List (List Value)}, TreesS w S l q → q.length = l.length
 | [], [], _ => rfl
 | _ :: _, _ :: _, h => by simp [TreesS.len h.2]
 | [], _ :: _, h => h.elim
 | _ :: _, [], h => h.elim
theorem TreesS.keep {w w' : World} {S S' : Nat → Prop} (hk : KeepS S w w') (hS : ∀ b, S b → S' b) : ∀ {l : List J} {q : List (List Value)}, TreesS w S l q → TreesS w' S' l q
 | [], [], _ => trivial
 | _ :: _, _ :: _, h => ⟨h.1.keep hk hS, TreesS.keep hk hS h.2⟩
 | [], _ :: _, h => h.elim
 | _ :: _, [], h => h.elim
theorem TreesS.snoc {w : World} {S : Nat → Prop} {j : J} {cs : List Value} (ht : TreeS w S j cs) : ∀ {l : List J} {q : List (List Value)}, TreesS w S l q → TreesS w S (l ++ [j]) (q ++ [cs])
 | [], [], _ => ⟨ht, trivial⟩
 | _ :: _, _ :: _, h => ⟨h.1, TreesS.snoc ht h.2⟩
 | [], _ :: _, h => h.elim
 | _ :: _, [], h => h.elim
theorem TreeS.five {w : World} {S : Nat → Prop} {j : J} {cs : List Value} (h : TreeS w S j cs) : cs.length = 5 := by obtain ⟨_, _, _, _, e, _⟩ := h.out; rw [e]; rfl
theorem TreesS.row {w : World} {S : Nat → Prop} {b : Nat} (hb : S b) : ∀ {l : List J} {q : List (List Value)} {off : Nat}, TreesS w S l q → (∀ k, k < q.flatten.length → w.cell? ⟨b, off + k, none⟩ = q.flatten[k]?) → RowS w S l (some ⟨b, off, none⟩)
 | [], [], _, _, _ => RowS.nil_ _ _ _
 | j :: r, cs :: q, off, h, hc => by
  have five := h.1.five
  unfold RowS
  refine ⟨b, off, cs, rfl, hb, fun i hi => ?_, h.1, TreesS.row hb h.2 fun k hk => ?_⟩
  · rw [hc i (by rw [List.flatten_cons, List.length_append, five]; omega), List.flatten_cons, List.getElem?_append_left (by omega)]
  · have := hc (5 + k) (by rw [List.flatten_cons, List.length_append, five]; omega)
    rw [List.flatten_cons, List.getElem?_append_right (by omega), five, show 5 + k - 5 = k by omega] at this
    rw [← this, show off + (5 + k) = off + 5 + k by omega]
 | [], _ :: _, _, h, _ => h.elim
 | _ :: _, [], _, h, _ => h.elim
theorem TreesS.flat {w : World} {S : Nat → Prop} : ∀ {l : List J} {q : List (List Value)}, TreesS w S l q → q.flatten.length = l.length * 5
 | [], [], _ => rfl
 | _ :: _, _ :: _, h => by rw [List.flatten_cons, List.length_append, h.1.five, TreesS.flat h.2, List.length_cons]; omega
 | [], _ :: _, h => h.elim
 | _ :: _, [], h => h.elim
end Go.Proofs.YthogheglddfniaaGreatDoor
namespace Go.Proofs.YthogheglddfniaaGreatDoor.Mem
open Go.RowKit
structure Sav (g h B : Nat) (w w' : World) : Prop where
 os : w'.os = w.os
 tape : w'.tape = w.tape
 output : w'.output = w.output
 size : w.heap.size ≤ w'.heap.size
 block : ∀ k, k < B → k ≠ g → k ≠ h → w'.heap[k]? = w.heap[k]?
section
variable {g h B B' : Nat} {a b c w w' : World}
theorem Sav.refl (g h B : Nat) (w : World) : Sav g h B w w := ⟨rfl, rfl, rfl, Nat.le_refl _, fun _ _ _ _ => rfl⟩
theorem Sav.trans (s : Sav g h B a b) (k : Sav g h B b c) : Sav g h B a c :=
 ⟨k.os.trans s.os, k.tape.trans s.tape, k.output.trans s.output, Nat.le_trans s.size k.size, fun i h1 h2 h3 => (k.block i h1 h2 h3).trans (s.block i h1 h2 h3)⟩
theorem Sav.mono (s : Sav g h B a b) (hB : B' ≤ B) : Sav g h B' a b := ⟨s.os, s.tape, s.output, s.size, fun i h1 => s.block i (Nat.lt_of_lt_of_le h1 hB)⟩
theorem Sav.more {e : Nat} (s : Sav g g B a b) : Sav g e B a b := ⟨s.os, s.tape, s.output, s.size, fun i h1 h2 _ => s.block i h1 h2 h2⟩
theorem Sav.of (s : Below B a b) : Sav g h B a b := ⟨s.os, s.tape, s.output, s.size, fun i h1 _ _ => s.block i h1⟩
theorem Sav.less (s : Sav g h B a b) (hB : B' ≤ B) (hh : B' ≤ h) : Sav g g B' a b := ⟨s.os, s.tape, s.output, s.size, fun i h1 h2 _ => s.block i (by omega) h2 (by omega)⟩
theorem Sav.bel (s : Sav g h B a b) (hg : B' ≤ g) (hh : B' ≤ h) (hB : B' ≤ B) : Below B' a b := ⟨s.os, s.tape, s.output, s.size, fun i h1 => s.block i (by omega) (by omega) (by omega)⟩
theorem Sav.call (k : Below B' b c) (hB : B ≤ B') (s : Sav g h B a b) : Sav g h B a c := s.trans (Sav.of (k.mono hB))
theorem Sav.next (k : Sav g h B' b c) (hB : B ≤ B') (s : Sav g h B a b) : Sav g h B a c := s.trans (k.mono hB)
theorem Sav.next1 (k : Sav g g B' b c) (hB : B ≤ B') (s : Sav g h B a b) : Sav g h B a c := s.trans (k.mono hB).more
theorem Sav.drewN (s : Sav g h B a b) (n : Nat) : Sav g h B a (b.drewN n) := ⟨s.os, s.tape, s.output, s.size, s.block⟩
theorem Sav.drew (s : Sav g h B a b) : Sav g h B a b.drew := ⟨s.os, s.tape, s.output, s.size, s.block⟩
theorem Sav.alloc (s : Sav g h B a b) (hB : B ≤ b.heap.size) (o : Obj) : Sav g h B a (b.alloc o) := s.trans (Sav.of ((Below.refl _ _).alloc hB o))
theorem Sav.set (s : Sav g h B a b) {p : Addr} (hp : p.block = g ∨ p.block = h ∨ B ≤ p.block) (u : Value) : Sav g h B a (b.setCell p u) :=
 ⟨s.os, s.tape, s.output, by simp [World.setCell]; exact s.size, fun i h1 h2 h3 => (Below.heap_setCell _ _ _ _ (by intro e; subst e; omega)).trans (s.block i h1 h2 h3)⟩
theorem Sav.cell (s : Sav g h B a b) {p : Addr} (h1 : p.block < B) (h2 : p.block ≠ g) (h3 : p.block ≠ h) : b.cell? p = a.cell? p := World.cell?_of_block (w := a) (s.block _ h1 h2 h3)
theorem Sav.frozen (s : Sav g h B a b) {p : Addr} (h1 : p.block < B) (h2 : p.block ≠ g) (h3 : p.block ≠ h) : b.frozen? p = a.frozen? p := World.frozen?_of_block (w := a) (s.block _ h1 h2 h3)
theorem Blk.sav {t : TypeId} {cs : Array Value} {k : Nat} (x : Blk a k t cs) (s : Sav g h B a b) (h1 : k < B) (h2 : k ≠ g) (h3 : k ≠ h) : Blk b k t cs := (s.block k h1 h2 h3).trans x
theorem Sav.keeps (s : Sav g h B a b) {S : Nat → Prop} (hS : ∀ k, S k → k < B ∧ k ≠ g ∧ k ≠ h) : KeepS S a b := fun _ hp => s.cell (hS _ hp).1 (hS _ hp).2.1 (hS _ hp).2.2
end
end Go.Proofs.YthogheglddfniaaGreatDoor.Mem
