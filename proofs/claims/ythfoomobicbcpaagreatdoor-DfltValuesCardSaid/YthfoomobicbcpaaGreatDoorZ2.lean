/- Joined by tools/bundle.py: Rec Dat. -/
import Derived.Laws.CopyOwn
import Derived.Laws.MakeOwn
import Derived.Deep.OwnRows
import Derived.Deep.Slices
import Derived.LaidLaws
import Derived.Test.YthfoomobicbcpaaGreatDoorZ1
import Derived.Test.YthfoomobicbcpaaGreatDoorZ0
set_option maxRecDepth 100000
set_option maxHeartbeats 16000000
namespace Go.Proofs.YthfoomobicbcpaaGreatDoor.Mem
open Go.RowKit
structure RecT (P : Program) (t e : TypeId) (s : Nat) (z : Value) (y : Nat) : Prop where
 sl : P.underlying t = some (.slice e)
 info : (P.info? e).map (fun i => (i.zero, i.size, i.bytes)) = some (some z, s, y)
 zs : z.cells.size = s
 pos : 0 < s
 by_ : y ≤ 1000
def Fl (w : World) (B : Nat) (A : Option Addr) (xs : List Value) : Prop :=
 xs = [] ∨ ∃ b off, A = some ⟨b, off, none⟩ ∧ b < B ∧ ∀ k, k < xs.length → w.cell? ⟨b, off + k, none⟩ = xs[k]?
section
variable {w w' : World} {B B' : Nat} {A : Option Addr} {xs : List Value}
theorem Fl.keep (h : Fl w B A xs) (hk : ∀ p : Addr, p.block < B → w'.cell? p = w.cell? p) : Fl w' B A xs := by
 rcases h with h | ⟨b, off, rfl, hb, hc⟩
 · exact .inl h
 · exact .inr ⟨b, off, rfl, hb, fun k hl => (hk _ hb).trans (hc k hl)⟩
theorem Fl.below (h : Fl w B A xs) (hb : Below B w w') : Fl w' B A xs := h.keep fun _ hp => hb.cell hp
theorem Fl.alloc (h : Fl w B A xs) (hB : B ≤ w.heap.size) (o : Obj) : Fl (w.alloc o) B A xs := h.keep fun p hp => World.cell?_alloc_lt w o p (by omega)
theorem Fl.cell (h : Fl w B A xs) {k : Nat} (hk : k < xs.length) : ∃ b off, A = some ⟨b, off, none⟩ ∧ b < B ∧ w.cell? ⟨b, off + k, none⟩ = xs[k]? := by
 rcases h with h | ⟨b, off, rfl, hb, hc⟩
 · subst h; simp at hk
 · exact ⟨b, off, rfl, hb, hc k hk⟩
end
def OwnR (w : World) (base : Nat) (e : TypeId) (s : Nat) (v : Value) (n : Nat) (xs : List Value) : Prop := w.ownsRow base e s v n xs
section
variable {w w' : World} {base : Nat} {e : TypeId} {s : Nat} {v : Value} {n : Nat} {xs : List Value}
theorem OwnR.none_ (w : World) (base : Nat) (e : TypeId) (s : Nat) : OwnR w base e s (.slice none 0 0) 0 [] := World.ownsRow_nil w base e s
theorem OwnR.alloc (h : OwnR w base e s v n xs) (o : Obj) : OwnR (w.alloc o) base e s v n xs := World.ownsRow.alloc h o
theorem OwnR.below (h : OwnR w base e s v n xs) (hb : Below w.heap.size w w') : OwnR w' base e s v n xs := by
 obtain ⟨h1, h2⟩ := h
 refine ⟨h1, ?_⟩
 rcases h2 with h2 | ⟨g, cap, cur, hv, hg, hh, r⟩
 · exact .inl h2
 · exact .inr ⟨g, cap, cur, hv, hg, by rw [hb.block g (Array.getElem?_eq_some_iff.1 hh).1]; exact hh, r⟩
theorem OwnR.fl (h : OwnR w base e s v n xs) : ∃ A c, v = .slice A n c ∧ n ≤ c ∧ Fl w w.heap.size A xs := by
 by_cases hl : n = 0
 · subst hl
   have hx : xs = [] := List.length_eq_zero_iff.1 (by have := h.1; simpa using this)
   rcases h.2 with ⟨rfl, _⟩ | ⟨g, cap, cur, rfl, _⟩
   · exact ⟨_, _, rfl, Nat.zero_le _, .inl hx⟩
   · exact ⟨_, _, rfl, Nat.zero_le _, .inl hx⟩
 · obtain ⟨g, cap, hv, _, hlt⟩ := World.ownsRow.form h (Nat.pos_of_ne_zero hl)
   subst hv
   refine ⟨_, _, rfl, ?_, .inr ⟨g, 0, rfl, hlt, fun k hk => ?_⟩⟩
   · rcases h.2 with ⟨e, h0⟩ | ⟨g, cap, cur, e, _, _, hc, _⟩
     · omega
     · injection e with _ _ e
       omega
   · rw [show 0 + k = k by omega]
     exact World.ownsRow.cellAt h k (by rw [← h.1]; exact hk)
end
theorem grown_next {a b c : World} {row : Option Nat} (h : a.grownBy b none) (k : b.grownBy c row) : a.grownBy c row :=
 ⟨k.os.trans h.os, k.tape.trans h.tape, k.output.trans h.output, Nat.le_trans h.size k.size, fun j hj hr => (k.block j (Nat.lt_of_lt_of_le hj h.size) hr).trans (h.block j hj (by simp))⟩
section
variable {P : Program} (w : World) {t e : TypeId} {s : Nat} {z : Value} {y : Nat}
theorem run_appR (hu : RecT P t e s z y) (base : Nat) (ty : TypeId) (v : Value) (n : Nat) (xs : List Value) (hown : OwnR w base e s v n xs) (ad : Addr) (m c : Nat) (news : List Value) (hl : news.length = m * s)
 (hnews : ∀ j u, news[j]? = some u → w.cell? (ad.add j) = some u) (h1 : ∀ u ∈ news, u.oneCell' = true) (hlen : n + m ≤ 1000000000) (hbase : base ≤ w.heap.size) :
 ∃ v' w', (Builtin.append_ #[t, t] ty #[v, .slice (some ad) m c]).run P w = .ok v' w' ∧ OwnR w' base e s v' (n + m) (xs ++ news) ∧ Below base w w' ∧ w.grownBy w' v.ownBlock := by
 obtain ⟨i, hi, hzz⟩ := Option.map_eq_some_iff.1 hu.info
 simp only [Prod.mk.injEq] at hzz
 obtain ⟨hz, hsz, hby⟩ := hzz
 have hb : (n + m) * y ≤ 1000000000 * 1000 := Nat.mul_le_mul hlen hu.by_
 obtain ⟨v', w', hrun, h2, h3, _⟩ := run_append_own_at (P := P) w base t ty e i z s y hu.sl hi hz hsz hby hu.zs hu.pos v n xs hown ad m c news hl hnews h1 (by unfold maxLen; omega) (by omega) hbase
 exact ⟨v', w', hrun, h2, (Below.refl _ _).grown h3 hbase (fun k hk => (World.ownsRow.lt hown k hk).1), h3⟩
theorem wp_appR (hu : RecT P t e s z y) {o : Oper} {a : Act} {K : Act → World → Prop} {Q : Exit → Act → World → Prop} (sO x : Operand)
 (ho : o.op = .call { callee := .builtin .append, args := #[sO, x], argTypes := #[t, t] })
 (base : Nat) (v : Value) (n : Nat) (xs : List Value) (hs : a.eval sO = v) (hown : OwnR w base e s v n xs) (ad : Addr) (m c : Nat) (news : List Value) (hx : a.eval x = .slice (some ad) m c) (hl : news.length = m * s)
 (hnews : ∀ j u, news[j]? = some u → w.cell? (ad.add j) = some u) (h1 : ∀ u ∈ news, u.oneCell' = true) (hlen : n + m ≤ 1000000000) (hbase : base ≤ w.heap.size)
 (h : ∀ v' w', OwnR w' base e s v' (n + m) (xs ++ news) → Below base w w' → w.grownBy w' v.ownBlock → K (a.put o.dst v') w') : o.wp P a w K Q := by
 obtain ⟨v', w', hrun, h2, h3, h4⟩ := run_appR (P := P) w hu base o.type v n xs hown ad m c news hl hnews h1 hlen hbase
 unfold Oper.wp execOp
 simp only [ho, resolve, invoke, builtin, Sem.run_bind, Sem.run_pure, Result.andThen_ok, List.map_toArray, List.map_cons, List.map_nil, hs, hx, hrun]
 exact h v' w' h2 h3 h4
theorem wpList_appR1 (hu : RecT P t e s z y) {ops : Array Oper} {rest : List Oper} {o : Oper} {a : Act} {Q : Exit → Act → World → Prop} (hgd : o.guard = none) (sO x : Operand)
 (ho : o.op = .call { callee := .builtin .append, args := #[sO, x], argTypes := #[t, t] })
 (base : Nat) (v : Value) (n : Nat) (xs : List Value) (hs : a.eval sO = v) (hown : OwnR w base e s v n xs) (c : Nat) (cs : Array Value) (hx : a.eval x = .slice (some ⟨w.heap.size, 0, none⟩) 1 c) (hl : cs.size = s)
 (h1 : ∀ u ∈ cs.toList, u.oneCell' = true) (hlen : n + 1 ≤ 1000000000) (hbase : base ≤ w.heap.size)
 (h : ∀ v' w', OwnR w' base e s v' (n + 1) (xs ++ cs.toList) → Below base w w' → w.grownBy w' v.ownBlock → wpList P ops Q rest (a.put o.dst v') w') : wpList P ops Q (o :: rest) a (w.alloc (.cells cs e)) := by
 refine wpList_plain hgd fun _ hK => wp_appR _ hu sO x ho base v n xs hs (hown.alloc _) ⟨w.heap.size, 0, none⟩ 1 c cs.toList hx (by simp [hl]) (fun j u hj => ?_) h1 hlen (by simp; omega) fun v' w' h2 h3 h4 => hK _ _ (h v' w' h2 (((Below.refl _ _).alloc hbase _).trans h3) (grown_next (World.grownBy_alloc w _ none) h4))
 rw [add_plain, (Blk.new w e cs).cell, show 0 + j = j by omega]
 simpa using hj
end
end Go.Proofs.YthfoomobicbcpaaGreatDoor.Mem
namespace Go.Proofs.YthfoomobicbcpaaGreatDoor.Mem
open Go.RowKit
theorem OwnR.keepb {w w' : World} {base : Nat} {e : TypeId} {s : Nat} {v : Value} {n : Nat} {xs : List Value} (h : OwnR w base e s v n xs) (hk : ∀ g, some g = v.ownBlock → w'.heap[g]? = w.heap[g]?) : OwnR w' base e s v n xs := by
 obtain ⟨h1, h2⟩ := h
 refine ⟨h1, ?_⟩
 rcases h2 with h2 | ⟨g, cap, cur, hv, hg, hh, r⟩
 · exact .inl h2
 · refine .inr ⟨g, cap, cur, hv, hg, ?_, r⟩
   rw [hk g (by subst hv; rfl)]; exact hh
theorem OwnR.base_le {w : World} {base : Nat} {e : TypeId} {s : Nat} {v : Value} {n : Nat} {xs : List Value} (h : OwnR w base e s v n xs) {g : Nat} (hg : some g = v.ownBlock) : base ≤ g ∧ g < w.heap.size := World.ownsRow.lt h g hg.symm
theorem ne_own {v v' : Value} {g n : Nat} (h : some g ≠ v.ownBlock) (k : v'.ownBlock = v.ownBlock ∨ v'.ownBlock = some n) (hg : g < n) : some g ≠ v'.ownBlock := by
 rcases k with k | k <;> rw [k]
 · exact h
 · intro e; injection e; omega
section
variable {P : Program} (w : World) {t e : TypeId} {s : Nat} {z : Value} {y : Nat}
theorem run_appRg (hu : RecT P t e s z y) (base : Nat) (ty : TypeId) (v : Value) (n : Nat) (xs : List Value) (hown : OwnR w base e s v n xs) (ad : Addr) (m c : Nat) (news : List Value) (hl : news.length = m * s)
 (hnews : ∀ j u, news[j]? = some u → w.cell? (ad.add j) = some u) (h1 : ∀ u ∈ news, u.oneCell' = true) (hlen : n + m ≤ 1000000000) (hbase : base ≤ w.heap.size) :
 ∃ v' w', (Builtin.append_ #[t, t] ty #[v, .slice (some ad) m c]).run P w = .ok v' w' ∧ OwnR w' base e s v' (n + m) (xs ++ news) ∧ Below base w w' ∧ w.grownBy w' v.ownBlock ∧ (v'.ownBlock = v.ownBlock ∨ v'.ownBlock = some w.heap.size) := by
 obtain ⟨i, hi, hzz⟩ := Option.map_eq_some_iff.1 hu.info
 simp only [Prod.mk.injEq] at hzz
 obtain ⟨hz, hsz, hby⟩ := hzz
 have hb : (n + m) * y ≤ 1000000000 * 1000 := Nat.mul_le_mul hlen hu.by_
 obtain ⟨v', w', hrun, h2, h3, _, h4⟩ := run_append_own_at (P := P) w base t ty e i z s y hu.sl hi hz hsz hby hu.zs hu.pos v n xs hown ad m c news hl hnews h1 (by unfold maxLen; omega) (by omega) hbase
 exact ⟨v', w', hrun, h2, (Below.refl _ _).grown h3 hbase (fun k hk => (World.ownsRow.lt hown k hk).1), h3, h4⟩
theorem wp_appRg (hu : RecT P t e s z y) {o : Oper} {a : Act} {K : Act → World → Prop} {Q : Exit → Act → World → Prop} (d : Option Tmp) (hd : o.dst = d) (sO x : Operand)
 (ho : o.op = .call { callee := .builtin .append, args := #[sO, x], argTypes := #[t, t] })
 (base : Nat) (v : Value) (n : Nat) (xs : List Value) (hs : a.eval sO = v) (hown : OwnR w base e s v n xs) (ad : Addr) (m c : Nat) (news : List Value) (hx : a.eval x = .slice (some ad) m c) (hl : news.length = m * s)
 (hnews : ∀ j u, news[j]? = some u → w.cell? (ad.add j) = some u) (h1 : ∀ u ∈ news, u.oneCell' = true) (hlen : n + m ≤ 1000000000) (hbase : base ≤ w.heap.size)
 (h : ∀ v' w', OwnR w' base e s v' (n + m) (xs ++ news) → Below base w w' → w.grownBy w' v.ownBlock → (v'.ownBlock = v.ownBlock ∨ v'.ownBlock = some w.heap.size) → K (a.put d v') w') : o.wp P a w K Q := by
 obtain ⟨v', w', hrun, h2, h3, h4, h5⟩ := run_appRg (P := P) w hu base o.type v n xs hown ad m c news hl hnews h1 hlen hbase
 unfold Oper.wp execOp
 simp only [ho, resolve, invoke, builtin, Sem.run_bind, Sem.run_pure, Result.andThen_ok, List.map_toArray, List.map_cons, List.map_nil, hs, hx, hrun]
 have := h v' w' h2 h3 h4 h5
 rw [← hd] at this
 exact this
theorem wpList_appRg1 (hu : RecT P t e s z y) {ops : Array Oper} {rest : List Oper} {o : Oper} {a : Act} {Q : Exit → Act → World → Prop} (hgd : o.guard = none) (d : Option Tmp) (hd : o.dst = d) (sO x : Operand)
 (ho : o.op = .call { callee := .builtin .append, args := #[sO, x], argTypes := #[t, t] })
 (base : Nat) (v : Value) (n : Nat) (xs : List Value) (hs : a.eval sO = v) (hown : OwnR w base e s v n xs) (c : Nat) (cs : Array Value) (hx : a.eval x = .slice (some ⟨w.heap.size, 0, none⟩) 1 c) (hl : cs.size = s)
 (h1 : ∀ u ∈ cs.toList, u.oneCell' = true) (hlen : n + 1 ≤ 1000000000) (hbase : base ≤ w.heap.size)
 (h : ∀ v' w', OwnR w' base e s v' (n + 1) (xs ++ cs.toList) → Below base w w' → w.grownBy w' v.ownBlock → (v'.ownBlock = v.ownBlock ∨ v'.ownBlock = some (w.heap.size + 1)) → wpList P ops Q rest (a.put d v') w') : wpList P ops Q (o :: rest) a (w.alloc (.cells cs e)) := by
 refine wpList_plain hgd fun _ hK => wp_appRg _ hu _ rfl sO x ho base v n xs hs (hown.alloc _) ⟨w.heap.size, 0, none⟩ 1 c cs.toList hx (by simp [hl]) (fun j u hj => ?_) h1 hlen (by simp; omega) fun v' w' h2 h3 h4 h5 => hK _ _ ?_
 · rw [add_plain, (Blk.new w e cs).cell, show 0 + j = j by omega]
   simpa using hj
 · have := h v' w' h2 (((Below.refl _ _).alloc hbase _).trans h3) (grown_next (World.grownBy_alloc w _ none) h4) (h5.imp id fun e => e.trans (by simp))
   rw [← hd] at this
   exact this
end
end Go.Proofs.YthfoomobicbcpaaGreatDoor.Mem
namespace Go.Proofs.YthfoomobicbcpaaGreatDoor.Mem
open Go.RowKit
theorem bel_call {B B' : Nat} {w a b : World} (h : Below B' a b) (hle : B ≤ B') (k : Below B w a) : Below B w b := k.trans (h.mono hle)
theorem Blk.frozen {w : World} {g : Nat} {t : TypeId} {cs : Array Value} (h : Blk w g t cs) (i : Nat) : w.frozen? ⟨g, i, none⟩ = false := by
 unfold Blk at h; simp [World.frozen?, h]
theorem Blk.past {w : World} {g : Nat} {t : TypeId} {cs : Array Value} (h : Blk w g t cs) {p : Addr} (hp : p.block ≠ g) (u : Value) : Blk (w.setCell p u) g t cs :=
 (Below.heap_setCell _ _ _ _ (fun e => hp e.symm)).trans h
theorem Blk.set {w : World} {g : Nat} {t : TypeId} {cs : Array Value} (h : Blk w g t cs) (i : Nat) (u : Value) : Blk (w.setCell ⟨g, i, none⟩ u) g t (cs.setIfInBounds i u) := by
 unfold Blk at h ⊢; simp [World.setCell, Array.getElem?_modify, h]
theorem cell_set (w : World) (g i h j : Nat) (u : Value) : (w.setCell ⟨g, i, none⟩ u).cell? ⟨h, j, none⟩ = if g = h ∧ i = j then (w.cell? ⟨g, i, none⟩).map (fun _ => u) else w.cell? ⟨h, j, none⟩ := by
 split
 · rename_i e
   obtain ⟨rfl, rfl⟩ := e
   cases hc : w.cell? ⟨g, i, none⟩ with
   | none =>
    have : (w.setCell ⟨g, i, none⟩ u).cell? ⟨g, i, none⟩ = none := by
     unfold World.cell? at hc ⊢
     simp only [World.setCell, Array.getElem?_modify, if_true]
     cases hg : w.heap[g]? with
     | none => rfl
     | some o => cases o <;> simp_all
    rw [this]; rfl
   | some v => exact World.cell?_setCell_same _ _ _ hc
 · rename_i e
   exact World.cell?_setCell_other _ _ _ _ (by intro k; injection k; omega)
structure Save (g : Nat) (w w' : World) : Prop where
 bel : Below g w w'
 rest : ∀ b, g < b → b < w.heap.size → w'.heap[b]? = w.heap[b]?
theorem Save.refl (g : Nat) (w : World) : Save g w w := ⟨Below.refl _ _, fun _ _ _ => rfl⟩
theorem Save.trans {g : Nat} {a b c : World} (h : Save g a b) (k : Save g b c) : Save g a c :=
 ⟨h.bel.trans k.bel, fun i hi hs => (k.rest i hi (Nat.lt_of_lt_of_le hs h.bel.size)).trans (h.rest i hi hs)⟩
theorem Save.of {g : Nat} {w w' : World} (h : Below w.heap.size w w') (hg : g ≤ w.heap.size) : Save g w w' := ⟨h.mono hg, fun b _ hb => h.block b hb⟩
theorem Save.call {g : Nat} {w a b : World} (h : Below a.heap.size a b) (hg : g ≤ a.heap.size) (k : Save g w a) : Save g w b := k.trans (Save.of h hg)
theorem Save.drew {g : Nat} {w w' : World} (h : Save g w w') : Save g w w'.drew := ⟨h.bel.drew, h.rest⟩
theorem Save.set {g : Nat} {w w' : World} (h : Save g w w') (i : Nat) (u : Value) : Save g w (w'.setCell ⟨g, i, none⟩ u) :=
 ⟨h.bel.setCell (Nat.le_refl _) u, fun b hb hs => (Below.heap_setCell _ _ _ _ (by intro e; have e' : b = g := e; omega)).trans (h.rest b hb hs)⟩
theorem Save.alloc {g : Nat} {w w' : World} (h : Save g w w') (hg : g ≤ w'.heap.size) (o : Obj) : Save g w (w'.alloc o) := Save.call ((Below.refl _ _).alloc (Nat.le_refl _) o) hg h
theorem Save.size {g : Nat} {w w' : World} (h : Save g w w') : w.heap.size ≤ w'.heap.size := h.bel.size
theorem Save.block {g : Nat} {w w' : World} (h : Save g w w') {b : Nat} (hb : b < w.heap.size) (hn : b ≠ g) : w'.heap[b]? = w.heap[b]? := by
 by_cases k : b < g
 · exact h.bel.block b k
 · exact h.rest b (by omega) hb
theorem Save.cell {g : Nat} {w w' : World} (h : Save g w w') {p : Addr} (hp : p.block < w.heap.size) (hn : p.block ≠ g) : w'.cell? p = w.cell? p := World.cell?_of_block (w := w) (h.block hp hn)
theorem Save.frozen {g : Nat} {w w' : World} (h : Save g w w') {p : Addr} (hp : p.block < w.heap.size) (hn : p.block ≠ g) : w'.frozen? p = w.frozen? p := World.frozen?_of_block (w := w) (h.block hp hn)
theorem Blk.newat {w : World} {g : Nat} {t : TypeId} {cs : Array Value} (e : g = w.heap.size) : Blk (w.alloc (.cells cs t)) g t cs := e ▸ Blk.new w t cs
def B1 (w : World) (g : Nat) (t : TypeId) (x0 : Value) : Prop := Blk w g t #[x0]
theorem B1.newat {w : World} {g : Nat} {t : TypeId} {x0 : Value} (e : g = w.heap.size) : B1 (w.alloc (.cells #[x0] t)) g t x0 := Blk.newat e
theorem B1.alloc {w : World} {g : Nat} {t : TypeId} {x0 : Value} (h : B1 w g t x0) (o : Obj) : B1 (w.alloc o) g t x0 := Blk.alloc h o
theorem B1.below {w : World} {g : Nat} {t : TypeId} {x0 : Value} {B : Nat} {w' : World} (h : B1 w g t x0) (hb : Below B w w') (hg : g < B) : B1 w' g t x0 := Blk.below h hb hg
theorem B1.lt {w : World} {g : Nat} {t : TypeId} {x0 : Value} (h : B1 w g t x0) : g < w.heap.size := Blk.lt h
theorem B1.c0 {w : World} {g : Nat} {t : TypeId} {x0 : Value} (h : B1 w g t x0) : w.cell? ⟨g, 0, none⟩ = some x0 := Blk.cell h 0
theorem B1.facts {w : World} {g : Nat} {t : TypeId} {x0 : Value} (h : B1 w g t x0) : w.cell? ⟨g, 0, none⟩ = some x0 ∧ w.frozen? ⟨g, 0, none⟩ = false := ⟨h.c0, Blk.frozen h 0⟩
def B2 (w : World) (g : Nat) (t : TypeId) (x0 x1 : Value) : Prop := Blk w g t #[x0, x1]
theorem B2.newat {w : World} {g : Nat} {t : TypeId} {x0 x1 : Value} (e : g = w.heap.size) : B2 (w.alloc (.cells #[x0, x1] t)) g t x0 x1 := Blk.newat e
theorem B2.alloc {w : World} {g : Nat} {t : TypeId} {x0 x1 : Value} (h : B2 w g t x0 x1) (o : Obj) : B2 (w.alloc o) g t x0 x1 := Blk.alloc h o
theorem B2.past {w : World} {g : Nat} {t : TypeId} {x0 x1 : Value} (h : B2 w g t x0 x1) {p : Addr} (hp : p.block ≠ g) (u : Value) : B2 (w.setCell p u) g t x0 x1 := Blk.past h hp u
theorem B2.drewN {w : World} {g : Nat} {t : TypeId} {x0 x1 : Value} (h : B2 w g t x0 x1) (k : Nat) : B2 (w.drewN k) g t x0 x1 := h
theorem B2.drew {w : World} {g : Nat} {t : TypeId} {x0 x1 : Value} (h : B2 w g t x0 x1) : B2 w.drew g t x0 x1 := h
theorem B2.below {w : World} {g : Nat} {t : TypeId} {x0 x1 : Value} {B : Nat} {w' : World} (h : B2 w g t x0 x1) (hb : Below B w w') (hg : g < B) : B2 w' g t x0 x1 := Blk.below h hb hg
theorem B2.lt {w : World} {g : Nat} {t : TypeId} {x0 x1 : Value} (h : B2 w g t x0 x1) : g < w.heap.size := Blk.lt h
theorem B2.c0 {w : World} {g : Nat} {t : TypeId} {x0 x1 : Value} (h : B2 w g t x0 x1) : w.cell? ⟨g, 0, none⟩ = some x0 := Blk.cell h 0
theorem B2.set1 {w : World} {g : Nat} {t : TypeId} {x0 x1 : Value} (h : B2 w g t x0 x1) (u : Value) : B2 (w.setCell ⟨g, 1, none⟩ u) g t x0 u := Blk.set h 1 u
theorem B2.c1 {w : World} {g : Nat} {t : TypeId} {x0 x1 : Value} (h : B2 w g t x0 x1) : w.cell? ⟨g, 1, none⟩ = some x1 := Blk.cell h 1
theorem B2.facts {w : World} {g : Nat} {t : TypeId} {x0 x1 : Value} (h : B2 w g t x0 x1) : w.cell? ⟨g, 0, none⟩ = some x0 ∧ w.cell? ⟨g, 1, none⟩ = some x1 ∧ w.frozen? ⟨g, 0, none⟩ = false ∧ w.frozen? ⟨g, 1, none⟩ = false := ⟨h.c0, h.c1, Blk.frozen h 0, Blk.frozen h 1⟩
def B3 (w : World) (g : Nat) (t : TypeId) (x0 x1 x2 : Value) : Prop := Blk w g t #[x0, x1, x2]
theorem B3.newat {w : World} {g : Nat} {t : TypeId} {x0 x1 x2 : Value} (e : g = w.heap.size) : B3 (w.alloc (.cells #[x0, x1, x2] t)) g t x0 x1 x2 := Blk.newat e
theorem B3.alloc {w : World} {g : Nat} {t : TypeId} {x0 x1 x2 : Value} (h : B3 w g t x0 x1 x2) (o : Obj) : B3 (w.alloc o) g t x0 x1 x2 := Blk.alloc h o
theorem B3.drew {w : World} {g : Nat} {t : TypeId} {x0 x1 x2 : Value} (h : B3 w g t x0 x1 x2) : B3 w.drew g t x0 x1 x2 := h
theorem B3.below {w : World} {g : Nat} {t : TypeId} {x0 x1 x2 : Value} {B : Nat} {w' : World} (h : B3 w g t x0 x1 x2) (hb : Below B w w') (hg : g < B) : B3 w' g t x0 x1 x2 := Blk.below h hb hg
theorem B3.lt {w : World} {g : Nat} {t : TypeId} {x0 x1 x2 : Value} (h : B3 w g t x0 x1 x2) : g < w.heap.size := Blk.lt h
theorem B3.c0 {w : World} {g : Nat} {t : TypeId} {x0 x1 x2 : Value} (h : B3 w g t x0 x1 x2) : w.cell? ⟨g, 0, none⟩ = some x0 := Blk.cell h 0
theorem B3.set1 {w : World} {g : Nat} {t : TypeId} {x0 x1 x2 : Value} (h : B3 w g t x0 x1 x2) (u : Value) : B3 (w.setCell ⟨g, 1, none⟩ u) g t x0 u x2 := Blk.set h 1 u
theorem B3.c1 {w : World} {g : Nat} {t : TypeId} {x0 x1 x2 : Value} (h : B3 w g t x0 x1 x2) : w.cell? ⟨g, 1, none⟩ = some x1 := Blk.cell h 1
theorem B3.set2 {w : World} {g : Nat} {t : TypeId} {x0 x1 x2 : Value} (h : B3 w g t x0 x1 x2) (u : Value) : B3 (w.setCell ⟨g, 2, none⟩ u) g t x0 x1 u := Blk.set h 2 u
theorem B3.c2 {w : World} {g : Nat} {t : TypeId} {x0 x1 x2 : Value} (h : B3 w g t x0 x1 x2) : w.cell? ⟨g, 2, none⟩ = some x2 := Blk.cell h 2
theorem B3.facts {w : World} {g : Nat} {t : TypeId} {x0 x1 x2 : Value} (h : B3 w g t x0 x1 x2) : w.cell? ⟨g, 0, none⟩ = some x0 ∧ w.cell? ⟨g, 1, none⟩ = some x1 ∧ w.cell? ⟨g, 2, none⟩ = some x2 ∧ w.frozen? ⟨g, 0, none⟩ = false ∧ w.frozen? ⟨g, 1, none⟩ = false ∧ w.frozen? ⟨g, 2, none⟩ = false := ⟨h.c0, h.c1, h.c2, Blk.frozen h 0, Blk.frozen h 1, Blk.frozen h 2⟩
def B4 (w : World) (g : Nat) (t : TypeId) (x0 x1 x2 x3 : Value) : Prop := Blk w g t #[x0, x1, x2, x3]
theorem B4.newat {w : World} {g : Nat} {t : TypeId} {x0 x1 x2 x3 : Value} (e : g = w.heap.size) : B4 (w.alloc (.cells #[x0, x1, x2, x3] t)) g t x0 x1 x2 x3 := Blk.newat e
theorem B4.alloc {w : World} {g : Nat} {t : TypeId} {x0 x1 x2 x3 : Value} (h : B4 w g t x0 x1 x2 x3) (o : Obj) : B4 (w.alloc o) g t x0 x1 x2 x3 := Blk.alloc h o
theorem B4.below {w : World} {g : Nat} {t : TypeId} {x0 x1 x2 x3 : Value} {B : Nat} {w' : World} (h : B4 w g t x0 x1 x2 x3) (hb : Below B w w') (hg : g < B) : B4 w' g t x0 x1 x2 x3 := Blk.below h hb hg
theorem B4.lt {w : World} {g : Nat} {t : TypeId} {x0 x1 x2 x3 : Value} (h : B4 w g t x0 x1 x2 x3) : g < w.heap.size := Blk.lt h
theorem B4.c0 {w : World} {g : Nat} {t : TypeId} {x0 x1 x2 x3 : Value} (h : B4 w g t x0 x1 x2 x3) : w.cell? ⟨g, 0, none⟩ = some x0 := Blk.cell h 0
theorem B4.c1 {w : World} {g : Nat} {t : TypeId} {x0 x1 x2 x3 : Value} (h : B4 w g t x0 x1 x2 x3) : w.cell? ⟨g, 1, none⟩ = some x1 := Blk.cell h 1
theorem B4.c2 {w : World} {g : Nat} {t : TypeId} {x0 x1 x2 x3 : Value} (h : B4 w g t x0 x1 x2 x3) : w.cell? ⟨g, 2, none⟩ = some x2 := Blk.cell h 2
theorem B4.c3 {w : World} {g : Nat} {t : TypeId} {x0 x1 x2 x3 : Value} (h : B4 w g t x0 x1 x2 x3) : w.cell? ⟨g, 3, none⟩ = some x3 := Blk.cell h 3
theorem B4.facts {w : World} {g : Nat} {t : TypeId} {x0 x1 x2 x3 : Value} (h : B4 w g t x0 x1 x2 x3) : w.cell? ⟨g, 0, none⟩ = some x0 ∧ w.cell? ⟨g, 1, none⟩ = some x1 ∧ w.cell? ⟨g, 2, none⟩ = some x2 ∧ w.cell? ⟨g, 3, none⟩ = some x3 ∧ w.frozen? ⟨g, 0, none⟩ = false ∧ w.frozen? ⟨g, 1, none⟩ = false ∧ w.frozen? ⟨g, 2, none⟩ = false ∧ w.frozen? ⟨g, 3, none⟩ = false := ⟨h.c0, h.c1, h.c2, h.c3, Blk.frozen h 0, Blk.frozen h 1, Blk.frozen h 2, Blk.frozen h 3⟩
def B5 (w : World) (g : Nat) (t : TypeId) (x0 x1 x2 x3 x4 : Value) : Prop := Blk w g t #[x0, x1, x2, x3, x4]
theorem B5.newat {w : World} {g : Nat} {t : TypeId} {x0 x1 x2 x3 x4 : Value} (e : g = w.heap.size) : B5 (w.alloc (.cells #[x0, x1, x2, x3, x4] t)) g t x0 x1 x2 x3 x4 := Blk.newat e
theorem B5.alloc {w : World} {g : Nat} {t : TypeId} {x0 x1 x2 x3 x4 : Value} (h : B5 w g t x0 x1 x2 x3 x4) (o : Obj) : B5 (w.alloc o) g t x0 x1 x2 x3 x4 := Blk.alloc h o
theorem B5.past {w : World} {g : Nat} {t : TypeId} {x0 x1 x2 x3 x4 : Value} (h : B5 w g t x0 x1 x2 x3 x4) {p : Addr} (hp : p.block ≠ g) (u : Value) : B5 (w.setCell p u) g t x0 x1 x2 x3 x4 := Blk.past h hp u
theorem B5.drewN {w : World} {g : Nat} {t : TypeId} {x0 x1 x2 x3 x4 : Value} (h : B5 w g t x0 x1 x2 x3 x4) (k : Nat) : B5 (w.drewN k) g t x0 x1 x2 x3 x4 := h
theorem B5.drew {w : World} {g : Nat} {t : TypeId} {x0 x1 x2 x3 x4 : Value} (h : B5 w g t x0 x1 x2 x3 x4) : B5 w.drew g t x0 x1 x2 x3 x4 := h
theorem B5.below {w : World} {g : Nat} {t : TypeId} {x0 x1 x2 x3 x4 : Value} {B : Nat} {w' : World} (h : B5 w g t x0 x1 x2 x3 x4) (hb : Below B w w') (hg : g < B) : B5 w' g t x0 x1 x2 x3 x4 := Blk.below h hb hg
theorem B5.lt {w : World} {g : Nat} {t : TypeId} {x0 x1 x2 x3 x4 : Value} (h : B5 w g t x0 x1 x2 x3 x4) : g < w.heap.size := Blk.lt h
theorem B5.c0 {w : World} {g : Nat} {t : TypeId} {x0 x1 x2 x3 x4 : Value} (h : B5 w g t x0 x1 x2 x3 x4) : w.cell? ⟨g, 0, none⟩ = some x0 := Blk.cell h 0
theorem B5.set1 {w : World} {g : Nat} {t : TypeId} {x0 x1 x2 x3 x4 : Value} (h : B5 w g t x0 x1 x2 x3 x4) (u : Value) : B5 (w.setCell ⟨g, 1, none⟩ u) g t x0 u x2 x3 x4 := Blk.set h 1 u
theorem B5.c1 {w : World} {g : Nat} {t : TypeId} {x0 x1 x2 x3 x4 : Value} (h : B5 w g t x0 x1 x2 x3 x4) : w.cell? ⟨g, 1, none⟩ = some x1 := Blk.cell h 1
theorem B5.c2 {w : World} {g : Nat} {t : TypeId} {x0 x1 x2 x3 x4 : Value} (h : B5 w g t x0 x1 x2 x3 x4) : w.cell? ⟨g, 2, none⟩ = some x2 := Blk.cell h 2
theorem B5.c3 {w : World} {g : Nat} {t : TypeId} {x0 x1 x2 x3 x4 : Value} (h : B5 w g t x0 x1 x2 x3 x4) : w.cell? ⟨g, 3, none⟩ = some x3 := Blk.cell h 3
theorem B5.c4 {w : World} {g : Nat} {t : TypeId} {x0 x1 x2 x3 x4 : Value} (h : B5 w g t x0 x1 x2 x3 x4) : w.cell? ⟨g, 4, none⟩ = some x4 := Blk.cell h 4
theorem B5.facts {w : World} {g : Nat} {t : TypeId} {x0 x1 x2 x3 x4 : Value} (h : B5 w g t x0 x1 x2 x3 x4) : w.cell? ⟨g, 0, none⟩ = some x0 ∧ w.cell? ⟨g, 1, none⟩ = some x1 ∧ w.cell? ⟨g, 2, none⟩ = some x2 ∧ w.cell? ⟨g, 3, none⟩ = some x3 ∧ w.cell? ⟨g, 4, none⟩ = some x4 ∧ w.frozen? ⟨g, 0, none⟩ = false ∧ w.frozen? ⟨g, 1, none⟩ = false ∧ w.frozen? ⟨g, 2, none⟩ = false ∧ w.frozen? ⟨g, 3, none⟩ = false ∧ w.frozen? ⟨g, 4, none⟩ = false := ⟨h.c0, h.c1, h.c2, h.c3, h.c4, Blk.frozen h 0, Blk.frozen h 1, Blk.frozen h 2, Blk.frozen h 3, Blk.frozen h 4⟩
def B6 (w : World) (g : Nat) (t : TypeId) (x0 x1 x2 x3 x4 x5 : Value) : Prop := Blk w g t #[x0, x1, x2, x3, x4, x5]
theorem B6.newat {w : World} {g : Nat} {t : TypeId} {x0 x1 x2 x3 x4 x5 : Value} (e : g = w.heap.size) : B6 (w.alloc (.cells #[x0, x1, x2, x3, x4, x5] t)) g t x0 x1 x2 x3 x4 x5 := Blk.newat e
theorem B6.alloc {w : World} {g : Nat} {t : TypeId} {x0 x1 x2 x3 x4 x5 : Value} (h : B6 w g t x0 x1 x2 x3 x4 x5) (o : Obj) : B6 (w.alloc o) g t x0 x1 x2 x3 x4 x5 := Blk.alloc h o
theorem B6.past {w : World} {g : Nat} {t : TypeId} {x0 x1 x2 x3 x4 x5 : Value} (h : B6 w g t x0 x1 x2 x3 x4 x5) {p : Addr} (hp : p.block ≠ g) (u : Value) : B6 (w.setCell p u) g t x0 x1 x2 x3 x4 x5 := Blk.past h hp u
theorem B6.drewN {w : World} {g : Nat} {t : TypeId} {x0 x1 x2 x3 x4 x5 : Value} (h : B6 w g t x0 x1 x2 x3 x4 x5) (k : Nat) : B6 (w.drewN k) g t x0 x1 x2 x3 x4 x5 := h
theorem B6.drew {w : World} {g : Nat} {t : TypeId} {x0 x1 x2 x3 x4 x5 : Value} (h : B6 w g t x0 x1 x2 x3 x4 x5) : B6 w.drew g t x0 x1 x2 x3 x4 x5 := h
theorem B6.below {w : World} {g : Nat} {t : TypeId} {x0 x1 x2 x3 x4 x5 : Value} {B : Nat} {w' : World} (h : B6 w g t x0 x1 x2 x3 x4 x5) (hb : Below B w w') (hg : g < B) : B6 w' g t x0 x1 x2 x3 x4 x5 := Blk.below h hb hg
theorem B6.lt {w : World} {g : Nat} {t : TypeId} {x0 x1 x2 x3 x4 x5 : Value} (h : B6 w g t x0 x1 x2 x3 x4 x5) : g < w.heap.size := Blk.lt h
theorem B6.c0 {w : World} {g : Nat} {t : TypeId} {x0 x1 x2 x3 x4 x5 : Value} (h : B6 w g t x0 x1 x2 x3 x4 x5) : w.cell? ⟨g, 0, none⟩ = some x0 := Blk.cell h 0
theorem B6.set1 {w : World} {g : Nat} {t : TypeId} {x0 x1 x2 x3 x4 x5 : Value} (h : B6 w g t x0 x1 x2 x3 x4 x5) (u : Value) : B6 (w.setCell ⟨g, 1, none⟩ u) g t x0 u x2 x3 x4 x5 := Blk.set h 1 u
theorem B6.c1 {w : World} {g : Nat} {t : TypeId} {x0 x1 x2 x3 x4 x5 : Value} (h : B6 w g t x0 x1 x2 x3 x4 x5) : w.cell? ⟨g, 1, none⟩ = some x1 := Blk.cell h 1
theorem B6.c2 {w : World} {g : Nat} {t : TypeId} {x0 x1 x2 x3 x4 x5 : Value} (h : B6 w g t x0 x1 x2 x3 x4 x5) : w.cell? ⟨g, 2, none⟩ = some x2 := Blk.cell h 2
theorem B6.c3 {w : World} {g : Nat} {t : TypeId} {x0 x1 x2 x3 x4 x5 : Value} (h : B6 w g t x0 x1 x2 x3 x4 x5) : w.cell? ⟨g, 3, none⟩ = some x3 := Blk.cell h 3
theorem B6.c4 {w : World} {g : Nat} {t : TypeId} {x0 x1 x2 x3 x4 x5 : Value} (h : B6 w g t x0 x1 x2 x3 x4 x5) : w.cell? ⟨g, 4, none⟩ = some x4 := Blk.cell h 4
theorem B6.set5 {w : World} {g : Nat} {t : TypeId} {x0 x1 x2 x3 x4 x5 : Value} (h : B6 w g t x0 x1 x2 x3 x4 x5) (u : Value) : B6 (w.setCell ⟨g, 5, none⟩ u) g t x0 x1 x2 x3 x4 u := Blk.set h 5 u
theorem B6.c5 {w : World} {g : Nat} {t : TypeId} {x0 x1 x2 x3 x4 x5 : Value} (h : B6 w g t x0 x1 x2 x3 x4 x5) : w.cell? ⟨g, 5, none⟩ = some x5 := Blk.cell h 5
theorem B6.facts {w : World} {g : Nat} {t : TypeId} {x0 x1 x2 x3 x4 x5 : Value} (h : B6 w g t x0 x1 x2 x3 x4 x5) : w.cell? ⟨g, 0, none⟩ = some x0 ∧ w.cell? ⟨g, 1, none⟩ = some x1 ∧ w.cell? ⟨g, 2, none⟩ = some x2 ∧ w.cell? ⟨g, 3, none⟩ = some x3 ∧ w.cell? ⟨g, 4, none⟩ = some x4 ∧ w.cell? ⟨g, 5, none⟩ = some x5 ∧ w.frozen? ⟨g, 0, none⟩ = false ∧ w.frozen? ⟨g, 1, none⟩ = false ∧ w.frozen? ⟨g, 2, none⟩ = false ∧ w.frozen? ⟨g, 3, none⟩ = false ∧ w.frozen? ⟨g, 4, none⟩ = false ∧ w.frozen? ⟨g, 5, none⟩ = false := ⟨h.c0, h.c1, h.c2, h.c3, h.c4, h.c5, Blk.frozen h 0, Blk.frozen h 1, Blk.frozen h 2, Blk.frozen h 3, Blk.frozen h 4, Blk.frozen h 5⟩
end Go.Proofs.YthfoomobicbcpaaGreatDoor.Mem
namespace Go.Proofs.YthfoomobicbcpaaGreatDoor.Mem
open Go.RowKit
def B9 (w : World) (g : Nat) (t : TypeId) (x0 x1 x2 x3 x4 x5 x6 x7 x8 : Value) : Prop := Blk w g t #[x0, x1, x2, x3, x4, x5, x6, x7, x8]
theorem B9.newat {w : World} {g : Nat} {t : TypeId} {x0 x1 x2 x3 x4 x5 x6 x7 x8 : Value} (e : g = w.heap.size) : B9 (w.alloc (.cells #[x0, x1, x2, x3, x4, x5, x6, x7, x8] t)) g t x0 x1 x2 x3 x4 x5 x6 x7 x8 := Blk.newat e
theorem B9.alloc {w : World} {g : Nat} {t : TypeId} {x0 x1 x2 x3 x4 x5 x6 x7 x8 : Value} (h : B9 w g t x0 x1 x2 x3 x4 x5 x6 x7 x8) (o : Obj) : B9 (w.alloc o) g t x0 x1 x2 x3 x4 x5 x6 x7 x8 := Blk.alloc h o
theorem B9.drew {w : World} {g : Nat} {t : TypeId} {x0 x1 x2 x3 x4 x5 x6 x7 x8 : Value} (h : B9 w g t x0 x1 x2 x3 x4 x5 x6 x7 x8) : B9 w.drew g t x0 x1 x2 x3 x4 x5 x6 x7 x8 := h
theorem B9.below {w : World} {g : Nat} {t : TypeId} {x0 x1 x2 x3 x4 x5 x6 x7 x8 : Value} {B : Nat} {w' : World} (h : B9 w g t x0 x1 x2 x3 x4 x5 x6 x7 x8) (hb : Below B w w') (hg : g < B) : B9 w' g t x0 x1 x2 x3 x4 x5 x6 x7 x8 := Blk.below h hb hg
theorem B9.lt {w : World} {g : Nat} {t : TypeId} {x0 x1 x2 x3 x4 x5 x6 x7 x8 : Value} (h : B9 w g t x0 x1 x2 x3 x4 x5 x6 x7 x8) : g < w.heap.size := Blk.lt h
theorem B9.facts {w : World} {g : Nat} {t : TypeId} {x0 x1 x2 x3 x4 x5 x6 x7 x8 : Value} (h : B9 w g t x0 x1 x2 x3 x4 x5 x6 x7 x8) : w.cell? ⟨g, 0, none⟩ = some x0 ∧ w.cell? ⟨g, 1, none⟩ = some x1 ∧ w.cell? ⟨g, 2, none⟩ = some x2 ∧ w.cell? ⟨g, 3, none⟩ = some x3 ∧ w.cell? ⟨g, 4, none⟩ = some x4 ∧ w.cell? ⟨g, 5, none⟩ = some x5 ∧ w.cell? ⟨g, 6, none⟩ = some x6 ∧ w.cell? ⟨g, 7, none⟩ = some x7 ∧ w.cell? ⟨g, 8, none⟩ = some x8 ∧ w.frozen? ⟨g, 0, none⟩ = false ∧ w.frozen? ⟨g, 1, none⟩ = false ∧ w.frozen? ⟨g, 2, none⟩ = false ∧ w.frozen? ⟨g, 3, none⟩ = false ∧ w.frozen? ⟨g, 4, none⟩ = false ∧ w.frozen? ⟨g, 5, none⟩ = false ∧ w.frozen? ⟨g, 6, none⟩ = false ∧ w.frozen? ⟨g, 7, none⟩ = false ∧ w.frozen? ⟨g, 8, none⟩ = false := ⟨Blk.cell h 0, Blk.cell h 1, Blk.cell h 2, Blk.cell h 3, Blk.cell h 4, Blk.cell h 5, Blk.cell h 6, Blk.cell h 7, Blk.cell h 8, Blk.frozen h 0, Blk.frozen h 1, Blk.frozen h 2, Blk.frozen h 3, Blk.frozen h 4, Blk.frozen h 5, Blk.frozen h 6, Blk.frozen h 7, Blk.frozen h 8⟩
def B10 (w : World) (g : Nat) (t : TypeId) (x0 x1 x2 x3 x4 x5 x6 x7 x8 x9 : Value) : Prop := Blk w g t #[x0, x1, x2, x3, x4, x5, x6, x7, x8, x9]
theorem B10.newat {w : World} {g : Nat} {t : TypeId} {x0 x1 x2 x3 x4 x5 x6 x7 x8 x9 : Value} (e : g = w.heap.size) : B10 (w.alloc (.cells #[x0, x1, x2, x3, x4, x5, x6, x7, x8, x9] t)) g t x0 x1 x2 x3 x4 x5 x6 x7 x8 x9 := Blk.newat e
theorem B10.alloc {w : World} {g : Nat} {t : TypeId} {x0 x1 x2 x3 x4 x5 x6 x7 x8 x9 : Value} (h : B10 w g t x0 x1 x2 x3 x4 x5 x6 x7 x8 x9) (o : Obj) : B10 (w.alloc o) g t x0 x1 x2 x3 x4 x5 x6 x7 x8 x9 := Blk.alloc h o
theorem B10.past {w : World} {g : Nat} {t : TypeId} {x0 x1 x2 x3 x4 x5 x6 x7 x8 x9 : Value} (h : B10 w g t x0 x1 x2 x3 x4 x5 x6 x7 x8 x9) {p : Addr} (hp : p.block ≠ g) (u : Value) : B10 (w.setCell p u) g t x0 x1 x2 x3 x4 x5 x6 x7 x8 x9 := Blk.past h hp u
theorem B10.drewN {w : World} {g : Nat} {t : TypeId} {x0 x1 x2 x3 x4 x5 x6 x7 x8 x9 : Value} (h : B10 w g t x0 x1 x2 x3 x4 x5 x6 x7 x8 x9) (k : Nat) : B10 (w.drewN k) g t x0 x1 x2 x3 x4 x5 x6 x7 x8 x9 := h
theorem B10.drew {w : World} {g : Nat} {t : TypeId} {x0 x1 x2 x3 x4 x5 x6 x7 x8 x9 : Value} (h : B10 w g t x0 x1 x2 x3 x4 x5 x6 x7 x8 x9) : B10 w.drew g t x0 x1 x2 x3 x4 x5 x6 x7 x8 x9 := h
theorem B10.below {w : World} {g : Nat} {t : TypeId} {x0 x1 x2 x3 x4 x5 x6 x7 x8 x9 : Value} {B : Nat} {w' : World} (h : B10 w g t x0 x1 x2 x3 x4 x5 x6 x7 x8 x9) (hb : Below B w w') (hg : g < B) : B10 w' g t x0 x1 x2 x3 x4 x5 x6 x7 x8 x9 := Blk.below h hb hg
theorem B10.lt {w : World} {g : Nat} {t : TypeId} {x0 x1 x2 x3 x4 x5 x6 x7 x8 x9 : Value} (h : B10 w g t x0 x1 x2 x3 x4 x5 x6 x7 x8 x9) : g < w.heap.size := Blk.lt h
theorem B10.set1 {w : World} {g : Nat} {t : TypeId} {x0 x1 x2 x3 x4 x5 x6 x7 x8 x9 : Value} (h : B10 w g t x0 x1 x2 x3 x4 x5 x6 x7 x8 x9) (u : Value) : B10 (w.setCell ⟨g, 1, none⟩ u) g t x0 u x2 x3 x4 x5 x6 x7 x8 x9 := Blk.set h 1 u
theorem B10.set2 {w : World} {g : Nat} {t : TypeId} {x0 x1 x2 x3 x4 x5 x6 x7 x8 x9 : Value} (h : B10 w g t x0 x1 x2 x3 x4 x5 x6 x7 x8 x9) (u : Value) : B10 (w.setCell ⟨g, 2, none⟩ u) g t x0 x1 u x3 x4 x5 x6 x7 x8 x9 := Blk.set h 2 u
theorem B10.set5 {w : World} {g : Nat} {t : TypeId} {x0 x1 x2 x3 x4 x5 x6 x7 x8 x9 : Value} (h : B10 w g t x0 x1 x2 x3 x4 x5 x6 x7 x8 x9) (u : Value) : B10 (w.setCell ⟨g, 5, none⟩ u) g t x0 x1 x2 x3 x4 u x6 x7 x8 x9 := Blk.set h 5 u
theorem B10.facts {w : World} {g : Nat} {t : TypeId} {x0 x1 x2 x3 x4 x5 x6 x7 x8 x9 : Value} (h : B10 w g t x0 x1 x2 x3 x4 x5 x6 x7 x8 x9) : w.cell? ⟨g, 0, none⟩ = some x0 ∧ w.cell? ⟨g, 1, none⟩ = some x1 ∧ w.cell? ⟨g, 2, none⟩ = some x2 ∧ w.cell? ⟨g, 3, none⟩ = some x3 ∧ w.cell? ⟨g, 4, none⟩ = some x4 ∧ w.cell? ⟨g, 5, none⟩ = some x5 ∧ w.cell? ⟨g, 6, none⟩ = some x6 ∧ w.cell? ⟨g, 7, none⟩ = some x7 ∧ w.cell? ⟨g, 8, none⟩ = some x8 ∧ w.cell? ⟨g, 9, none⟩ = some x9 ∧ w.frozen? ⟨g, 0, none⟩ = false ∧ w.frozen? ⟨g, 1, none⟩ = false ∧ w.frozen? ⟨g, 2, none⟩ = false ∧ w.frozen? ⟨g, 3, none⟩ = false ∧ w.frozen? ⟨g, 4, none⟩ = false ∧ w.frozen? ⟨g, 5, none⟩ = false ∧ w.frozen? ⟨g, 6, none⟩ = false ∧ w.frozen? ⟨g, 7, none⟩ = false ∧ w.frozen? ⟨g, 8, none⟩ = false ∧ w.frozen? ⟨g, 9, none⟩ = false := ⟨Blk.cell h 0, Blk.cell h 1, Blk.cell h 2, Blk.cell h 3, Blk.cell h 4, Blk.cell h 5, Blk.cell h 6, Blk.cell h 7, Blk.cell h 8, Blk.cell h 9, Blk.frozen h 0, Blk.frozen h 1, Blk.frozen h 2, Blk.frozen h 3, Blk.frozen h 4, Blk.frozen h 5, Blk.frozen h 6, Blk.frozen h 7, Blk.frozen h 8, Blk.frozen h 9⟩
end Go.Proofs.YthfoomobicbcpaaGreatDoor.Mem
namespace Go.Proofs.YthfoomobicbcpaaGreatDoor
open Go.RowKit Mem
inductive D where
 | i (k : IntKind) (n : Int)
 | b (x : Bool)
 | s (t : ByteArray)
 | ag (fs : List D)
 | sl (n : Nat) (items : List D)
mutual
/-- Cells that are a datum, whose parts lie in blocks that S has. -/
def Lies (w : World) (S : Nat → Prop) : D → List Value → Prop
 | .i k n, cs => cs = [.int k n]
 | .b x, cs => cs = [.bool x]
 | .s t, cs => cs = [.string t]
 | .ag fs, cs => LiesA w S fs cs
 | .sl n items, cs => ∃ A c, cs = [.slice A items.length c] ∧ items.length ≤ c ∧ items.length ≤ maxLen ∧ RowD w S n items A
/-- Fields, one behind the other. -/
def LiesA (w : World) (S : Nat → Prop) : List D → List Value → Prop
 | [], cs => cs = []
 | d :: r, cs => ∃ c1 c2, cs = c1 ++ c2 ∧ Lies w S d c1 ∧ LiesA w S r c2
/-- A place from which data stand, each of n cells. -/
def RowD (w : World) (S : Nat → Prop) (n : Nat) : List D → Option Addr → Prop
 | [], _ => True
 | d :: r, A => ∃ g off cs, A = some ⟨g, off, none⟩ ∧ S g ∧ cs.length = n ∧ (∀ j, j < n → w.cell? ⟨g, off + j, none⟩ = cs[j]?) ∧ Lies w S d cs ∧ RowD w S n r (some ⟨g, off + n, none⟩)
end
section
variable {w w' : World} {S S' : Nat → Prop}
mutual
theorem Lies.keep (hk : ∀ p : Addr, S p.block → w'.cell? p = w.cell? p) (hS : ∀ g, S g → S' g) : ∀ {d : D} {cs : List Value}, Lies w S d cs → Lies w' S' d cs
 | .i _ _, cs, h => by unfold Lies at h ⊢; exact h
 | .b _, cs, h => by unfold Lies at h ⊢; exact h
 | .s _, cs, h => by unfold Lies at h ⊢; exact h
 | .ag fs, cs, h => by unfold Lies at h ⊢; exact LiesA.keep hk hS h
 | .sl n items, cs, h => by
  unfold Lies at h ⊢
  obtain ⟨A, c, e, h1, h2, h3⟩ := h
  exact ⟨A, c, e, h1, h2, RowD.keep hk hS h3⟩
theorem LiesA.keep (hk : ∀ p : Addr, S p.block → w'.cell? p = w.cell? p) (hS : ∀ g, S g → S' g) : ∀ {fs : List D} {cs : List Value}, LiesA w S fs cs → LiesA w' S' fs cs
 | [], cs, h => by unfold LiesA at h ⊢; exact h
 | d :: r, cs, h => by
  unfold LiesA at h ⊢
  obtain ⟨c1, c2, e, h1, h2⟩ := h
  exact ⟨c1, c2, e, Lies.keep hk hS h1, LiesA.keep hk hS h2⟩
theorem RowD.keep (hk : ∀ p : Addr, S p.block → w'.cell? p = w.cell? p) (hS : ∀ g, S g → S' g) {n : Nat} : ∀ {l : List D} {A : Option Addr}, RowD w S n l A → RowD w' S' n l A
 | [], A, _ => by unfold RowD; trivial
 | d :: r, A, h => by
  unfold RowD at h ⊢
  obtain ⟨g, off, cs, e, hg, hl, hc, h1, h2⟩ := h
  exact ⟨g, off, cs, e, hS g hg, hl, fun j hj => (hk _ hg).trans (hc j hj), Lies.keep hk hS h1, RowD.keep hk hS h2⟩
end
end
section
variable {w w' : World} {B B' : Nat} {d : D} {cs : List Value} {l : List D} {A : Option Addr} {n : Nat}
theorem Lies.below (h : Lies w (· < B) d cs) (hb : Below B w w') : Lies w' (· < B) d cs := h.keep (fun _ hp => hb.cell hp) fun _ h => h
theorem Lies.more (h : Lies w (· < B) d cs) (hB : B ≤ B') : Lies w (· < B') d cs := h.keep (fun _ _ => rfl) fun _ h => Nat.lt_of_lt_of_le h hB
theorem Lies.on (h : Lies w (· < w.heap.size) d cs) (hb : Below w.heap.size w w') : Lies w' (· < w'.heap.size) d cs := (h.below hb).more hb.size
theorem RowD.below (h : RowD w (· < B) n l A) (hb : Below B w w') : RowD w' (· < B) n l A := h.keep (fun _ hp => hb.cell hp) fun _ h => h
theorem RowD.more (h : RowD w (· < B) n l A) (hB : B ≤ B') : RowD w (· < B') n l A := h.keep (fun _ _ => rfl) fun _ h => Nat.lt_of_lt_of_le h hB
theorem RowD.on (h : RowD w (· < w.heap.size) n l A) (hb : Below w.heap.size w w') : RowD w' (· < w'.heap.size) n l A := (h.below hb).more hb.size
theorem RowD.nil_ (w : World) (S : Nat → Prop) (n : Nat) (A : Option Addr) : RowD w S n [] A := by unfold RowD; trivial
end
section
variable {w : World} {S : Nat → Prop}
theorem RowD.at_ {n : Nat} : ∀ {l : List D} {A : Option Addr} (_ : RowD w S n l A) {i : Nat} (hi : i < l.length), ∃ g off cs, A = some ⟨g, off, none⟩ ∧ S g ∧ cs.length = n ∧ (∀ j, j < n → w.cell? ⟨g, off + i * n + j, none⟩ = cs[j]?) ∧ Lies w S (l[i]'hi) cs
 | [], _, _, i, hi => absurd hi (Nat.not_lt_zero _)
 | d :: r, A, h, i, hi => by
  unfold RowD at h
  obtain ⟨g, off, cs, rfl, hg, hl, hc, h1, h2⟩ := h
  cases i with
  | zero => exact ⟨g, off, cs, rfl, hg, hl, fun j hj => by rw [Nat.zero_mul, Nat.add_zero]; exact hc j hj, h1⟩
  | succ i =>
   obtain ⟨g', off', cs', e, hg', hl', hc', h'⟩ := RowD.at_ h2 (i := i) (by simpa using hi)
   simp only [Option.some.injEq, Addr.mk.injEq, and_true] at e
   obtain ⟨rfl, rfl⟩ := e
   exact ⟨g, off, cs', rfl, hg, hl', fun j hj => by rw [show off + (i + 1) * n + j = off + n + i * n + j by rw [Nat.succ_mul]; omega]; exact hc' j hj, h'⟩
theorem RowD.snoc {n : Nat} {d : D} {cs : List Value} {g off : Nat} (hg : S g) (hl : cs.length = n) (hd : Lies w S d cs) : ∀ {l : List D} {o : Nat}, RowD w S n l (some ⟨g, o, none⟩) → off = o + l.length * n → (∀ j, j < n → w.cell? ⟨g, off + j, none⟩ = cs[j]?) → RowD w S n (l ++ [d]) (some ⟨g, o, none⟩)
 | [], o, _, e, hc => by
  obtain rfl : off = o := by simpa using e
  show RowD w S n [d] _
  unfold RowD
  exact ⟨g, off, cs, rfl, hg, hl, hc, hd, RowD.nil_ _ _ _ _⟩
 | x :: r, o, h, e, hc => by
  unfold RowD at h
  obtain ⟨g', o', cs', e', hg', hl', hc', h1, h2⟩ := h
  simp only [Option.some.injEq, Addr.mk.injEq, and_true] at e'
  obtain ⟨rfl, rfl⟩ := e'
  show RowD w S n (x :: (r ++ [d])) _
  unfold RowD
  exact ⟨g, o, cs', rfl, hg, hl', hc', h1, RowD.snoc hg hl hd h2 (by rw [List.length_cons, Nat.succ_mul] at e; omega) hc⟩
theorem RowD.of {n g off : Nat} (hg : S g) : ∀ (m : Nat) (f : Nat → D) (F : Nat → List Value), (∀ i, i < m → (F i).length = n ∧ (∀ j, j < n → w.cell? ⟨g, off + i * n + j, none⟩ = (F i)[j]?) ∧ Lies w S (f i) (F i)) → RowD w S n ((List.range m).map f) (some ⟨g, off, none⟩)
 | 0, _, _, _ => RowD.nil_ _ _ _ _
 | m + 1, f, F, h => by
  rw [List.range_succ, List.map_append, List.map_cons, List.map_nil]
  obtain ⟨h1, h2, h3⟩ := h m (by omega)
  exact RowD.snoc hg h1 h3 (RowD.of hg m f F fun i hi => h i (by omega)) (by simp) h2
theorem lies_i {k : IntKind} {n : Int} {cs : List Value} : Lies w S (.i k n) cs ↔ cs = [.int k n] := by unfold Lies; exact Iff.rfl
theorem lies_b {x : Bool} {cs : List Value} : Lies w S (.b x) cs ↔ cs = [.bool x] := by unfold Lies; exact Iff.rfl
theorem lies_s {t : ByteArray} {cs : List Value} : Lies w S (.s t) cs ↔ cs = [.string t] := by unfold Lies; exact Iff.rfl
theorem lies_ag {fs : List D} {cs : List Value} : Lies w S (.ag fs) cs ↔ LiesA w S fs cs := by unfold Lies; exact Iff.rfl
theorem lies_sl {n : Nat} {l : List D} {cs : List Value} : Lies w S (.sl n l) cs ↔ ∃ A c, cs = [.slice A l.length c] ∧ l.length ≤ c ∧ l.length ≤ maxLen ∧ RowD w S n l A := by
 conv => lhs; unfold Lies
theorem liesA_nil {cs : List Value} : LiesA w S [] cs ↔ cs = [] := by unfold LiesA; exact Iff.rfl
theorem liesA_cons {d : D} {r : List D} {cs : List Value} : LiesA w S (d :: r) cs ↔ ∃ c1 c2, cs = c1 ++ c2 ∧ Lies w S d c1 ∧ LiesA w S r c2 := by
 conv => lhs; unfold LiesA
end
section
variable {H : Type} {enc : TypeId × Value → H} {P : Program} {w : World} {sp : Nat → Bool} {held : Bool}
mutual
/-- A datum has a type. -/
def Typed (P : Program) : D → TypeId → Prop
 | .i k n, t => P.underlying t = some (.int k) ∧ (Lit.int k n).wf = true
 | .b _, t => P.underlying t = some .bool
 | .s _, t => P.underlying t = some .string
 | .ag ds, t => ∃ fs, P.underlying t = some (.struct fs) ∧ TypedA P ds (fs.toList.map fun f => f.type)
 | .sl n items, t => ∃ e, P.underlying t = some (.slice e) ∧ n = P.cellsOf e ∧ TypedR P items e
def TypedA (P : Program) : List D → List TypeId → Prop
 | [], ts => ts = []
 | d :: r, ts => ∃ t q, ts = t :: q ∧ Typed P d t ∧ TypedA P r q
def TypedR (P : Program) : List D → TypeId → Prop
 | [], _ => True
 | d :: r, t => Typed P d t ∧ TypedR P r t
end
theorem TypedR.snoc {d : D} {t : TypeId} (hd : Typed P d t) : ∀ {l : List D}, TypedR P l t → TypedR P (l ++ [d]) t
 | [], _ => by show TypedR P [d] t; unfold TypedR TypedR; exact ⟨hd, trivial⟩
 | x :: r, h => by
  unfold TypedR at h
  show TypedR P (x :: (r ++ [d])) t
  unfold TypedR
  exact ⟨h.1, TypedR.snoc hd h.2⟩
def plainSet (P : Program) (G : List TypeId) : Bool := G.all fun t => decide (1 ≤ P.cellsOf t) && match P.underlying t with
 | some .bool => P.cellsOf t == 1
 | some (.int _) => P.cellsOf t == 1
 | some .string => P.cellsOf t == 1
 | some (.slice e) => P.cellsOf t == 1 && G.contains e
 | some (.struct fs) => (fs.toList.all fun f => G.contains f.type) && P.cellsOf t == (fs.toList.map fun x => P.cellsOf x.type).sum &&
  (List.range fs.size).all fun i => match fs[i]? with
   | some x => x.offset == ((fs.toList.take i).map fun x => P.cellsOf x.type).sum
   | none => true
 | _ => false
theorem liesA_of {w : World} {S : Nat → Prop} {cs : List Value} : ∀ (ts : List TypeId) (o : Nat), cs.length = o + (ts.map P.cellsOf).sum →
 (∀ i t, ts[i]? = some t → ∃ d, Lies w S d ((cs.drop (o + ((ts.take i).map P.cellsOf).sum)).take (P.cellsOf t)) ∧ Typed P d t) → ∃ ds, LiesA w S ds (cs.drop o) ∧ TypedA P ds ts
 | [], o, hl, _ => ⟨[], by unfold LiesA; simp at hl; simp [List.drop_eq_nil_of_le (Nat.le_of_eq hl)], by unfold TypedA; rfl⟩
 | t :: q, o, hl, h => by
  obtain ⟨d, h1, h2⟩ := h 0 t rfl
  simp only [List.take_zero, List.map_nil, List.sum_nil, Nat.add_zero] at h1
  obtain ⟨ds, h3, h4⟩ := liesA_of (cs := cs) q (o + P.cellsOf t) (by simp at hl; omega) (fun i u hu => by
   have := h (i + 1) u (by simpa using hu)
   simp only [List.take_succ_cons, List.map_cons, List.sum_cons] at this
   rw [Nat.add_assoc]; exact this)
  refine ⟨d :: ds, ?_, by unfold TypedA; exact ⟨t, q, rfl, h2, h4⟩⟩
  unfold LiesA
  exact ⟨_, _, (by rw [← List.drop_drop, List.take_append_drop] : cs.drop o = (cs.drop o).take (P.cellsOf t) ++ cs.drop (o + P.cellsOf t)), h1, h3⟩
theorem cells_slice {t e : TypeId} {fuel : Nat} {cs : List Value} {x : DataW H × List MemPlace} {base : Nat} (ht : P.underlying t = some (.slice e)) (h : DataW.trod enc P w base sp held fuel t cs = some x) :
 cs = [.slice none 0 0] ∨ ∃ a len cap n, fuel = n + 1 ∧ cs = [.slice (some a) len cap] ∧ len ≤ cap ∧ cap ≤ maxLen ∧ ∀ i, i < len → ∃ cs' y, w.cells? base (a.add (i * P.cellsOf e)) (P.cellsOf e) = some cs' ∧ DataW.trod enc P w base sp held n e cs' = some y := by
 rcases DataW.trod_slice ht h with ⟨e, _⟩ | ⟨a, len, cap, elems, rest, n, hf, hc, _, _, hl, hm, hlen, hel, _⟩
 · exact .inl e
 · refine .inr ⟨a, len, cap, n, hf, hc, hl, hm, fun i hi => ?_⟩
   have := hel i hi
   rw [List.getElem?_eq_getElem (by omega)] at this
   obtain ⟨cs', h1, h2⟩ := Option.bind_eq_some_iff.1 this
   exact ⟨cs', _, h1, h2⟩
theorem lies_of_trod (G : List TypeId) (hG : plainSet P G = true) : ∀ (N fuel : Nat), fuel ≤ N → ∀ {t : TypeId} {cs : List Value} {x : DataW H × List MemPlace}, t ∈ G → DataW.trod enc P w 0 sp held fuel t cs = some x →
 ∃ d, Lies w (· < w.heap.size) d cs ∧ Typed P d t ∧ cs.length = P.cellsOf t
 | 0, 0, _, _, _, _, _, h => by simp [DataW.trod] at h
 | N + 1, fuel, hf, t, cs, x, ht, h => by
  have g := List.all_eq_true.1 hG t ht
  rw [Bool.and_eq_true, decide_eq_true_eq] at g
  obtain ⟨gp, g⟩ := g
  split at g
  · rename_i hu
    have g1 : P.cellsOf t = 1 := by simpa using g
    cases fuel with
    | zero => simp [DataW.trod] at h
    | succ n =>
     unfold DataW.trod at h
     rw [hu] at h
     split at h
     all_goals first
      | cases h
      | skip
     all_goals simp_all
     rename_i b
     exact ⟨.b b, by unfold Lies; rfl, by unfold Typed; exact hu⟩
  · rename_i k hu
    have g1 : P.cellsOf t = 1 := by simpa using g
    obtain ⟨z, rfl, _, hw⟩ := DataW.trod_int hu h
    exact ⟨.i k z, by unfold Lies; rfl, by unfold Typed; exact ⟨hu, hw⟩, by rw [g1]; rfl⟩
  · rename_i hu
    have g1 : P.cellsOf t = 1 := by simpa using g
    obtain ⟨z, rfl, _⟩ := DataW.trod_string hu h
    exact ⟨.s z, by unfold Lies; rfl, by unfold Typed; exact hu, by rw [g1]; rfl⟩
  · rename_i e hu
    simp only [Bool.and_eq_true, beq_iff_eq, List.contains_iff_mem] at g
    obtain ⟨g1, ge⟩ := g
    rcases cells_slice hu h with rfl | ⟨a, len, cap, n, hfu, rfl, hlc, hcm, hx⟩
    · exact ⟨.sl (P.cellsOf e) [], by unfold Lies; exact ⟨none, 0, rfl, Nat.le_refl _, Nat.zero_le _, RowD.nil_ _ _ _ _⟩, by unfold Typed; exact ⟨e, hu, rfl, by unfold TypedR; trivial⟩, by rw [g1]; rfl⟩
    · obtain ⟨b, off, spot⟩ := a
      by_cases hp : spot = none ∧ b < w.heap.size
      · obtain ⟨rfl, hbl⟩ := hp
        have key : ∀ m, m ≤ len → ∃ l : List D, l.length = m ∧ RowD w (· < w.heap.size) (P.cellsOf e) l (some ⟨b, off, none⟩) ∧ TypedR P l e := by
         intro m
         induction m with
         | zero => exact fun _ => ⟨[], rfl, RowD.nil_ _ _ _ _, by unfold TypedR; trivial⟩
         | succ m ih =>
          intro hm
          obtain ⟨l, hl, hr, htr⟩ := ih (by omega)
          obtain ⟨cs', _, h1, h2⟩ := hx m (by omega)
          obtain ⟨d, hd, htd, hcl⟩ := lies_of_trod G hG N n (by omega) ge h2
          obtain ⟨_, hlen, hcell⟩ := World.cells?_some h1
          refine ⟨l ++ [d], by simp [hl], RowD.snoc (S := (· < w.heap.size)) hbl hcl hd hr (off := off + m * P.cellsOf e) (by rw [hl]) (fun j hj => ?_), htr.snoc htd⟩
          have := hcell j (by omega)
          rw [Mem.add_plain, Mem.add_plain] at this
          exact this
        obtain ⟨l, hl, hr, htr⟩ := key len (Nat.le_refl _)
        exact ⟨.sl (P.cellsOf e) l, by unfold Lies; exact ⟨_, cap, by rw [hl], by omega, by omega, hr⟩, by unfold Typed; exact ⟨e, hu, rfl, htr⟩, by rw [g1]; rfl⟩
      · have e0 : len = 0 := by
         rcases Nat.eq_zero_or_pos len with e0 | e0
         · exact e0
         · exfalso
           have e1 : 1 ≤ P.cellsOf e := by
            have := List.all_eq_true.1 hG e ge
            rw [Bool.and_eq_true, decide_eq_true_eq] at this
            exact this.1
           obtain ⟨cs', _, h1, _⟩ := hx 0 e0
           obtain ⟨_, hlen, hcell⟩ := World.cells?_some h1
           have := hcell 0 e1
           rw [Nat.zero_mul, show ((⟨b, off, spot⟩ : Addr).add 0).add 0 = ⟨b, off, spot⟩ by cases spot <;> rfl] at this
           have hv : ∃ v, w.cell? ⟨b, off, spot⟩ = some v := ⟨cs'[0]'(by omega), by rw [this]; exact List.getElem?_eq_getElem _⟩
           obtain ⟨v, hv⟩ := hv
           obtain rfl : spot = none := World.cell?_spot hv
           exact hp ⟨rfl, World.block_lt_of_cell? _ _ hv⟩
        subst e0
        exact ⟨.sl (P.cellsOf e) [], by unfold Lies; exact ⟨_, cap, rfl, Nat.zero_le _, Nat.zero_le _, RowD.nil_ _ _ _ _⟩, by unfold Typed; exact ⟨e, hu, rfl, by unfold TypedR; trivial⟩, by rw [g1]; rfl⟩
  · rename_i fs hu
    simp only [Bool.and_eq_true, beq_iff_eq, List.all_eq_true, List.contains_iff_mem] at g
    obtain ⟨⟨gf, hc⟩, ho⟩ := g
    obtain ⟨xs, m, hfm, rfl, hl, hn, hall⟩ := DataW.trod_struct hu h
    obtain ⟨ds, h1, h2⟩ := liesA_of (P := P) (w := w) (S := (· < w.heap.size)) (cs := cs) (fs.toList.map fun f => f.type) 0 (by rw [hl, hc, List.map_map]; simp; rfl) (fun i u hi => by
     rw [List.getElem?_map] at hi
     obtain ⟨f, hf', rfl⟩ := Option.map_eq_some_iff.1 hi
     have hi' : i < fs.size := by have := (List.getElem?_eq_some_iff.1 hf').1; simpa using this
     have hfa : fs[i]? = some f := by rw [← Array.getElem?_toList]; exact hf'
     have := hall i f hfa
     obtain ⟨y, hy⟩ : ∃ y, xs[i]? = some y := ⟨xs[i]'(by omega), List.getElem?_eq_getElem _⟩
     rw [hy] at this
     have o := ho i (List.mem_range.2 hi')
     rw [hfa] at o
     simp only [beq_iff_eq] at o
     rw [Nat.zero_add, ← List.map_take, List.map_map]
     have o2 : f.offset = (List.map (P.cellsOf ∘ fun f => f.type) (List.take i fs.toList)).sum := o
     rw [← o2]
     obtain ⟨d, hd, htd, _⟩ := lies_of_trod G hG N m (by omega) (gf f (List.mem_of_getElem? hf')) this
     exact ⟨d, hd, htd⟩)
    rw [List.drop_zero] at h1
    exact ⟨.ag ds, by unfold Lies; exact h1, by unfold Typed; exact ⟨fs, hu, h2⟩, hl⟩
  · cases g
end
end Go.Proofs.YthfoomobicbcpaaGreatDoor
