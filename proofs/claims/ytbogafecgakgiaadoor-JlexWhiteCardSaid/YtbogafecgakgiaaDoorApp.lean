/- Append of bytes onto a row of the call's own, with what stays: every other block. (Program-free.) -/
import Derived.Test.YtbogafecgakgiaaDoorMem
namespace Go.Proofs.YtbogafecgakgiaaDoor.Mem
open Go.RowKit

section
variable {P : Program} (w : World)
theorem run_appg {t e : TypeId} (hu : U8 P t e) (base : Nat) (ty : TypeId) (v : Value) (l : List UInt8) (hown : Own w base e v l) (B : Nat) (A : Option Addr) (c : Nat) (m : List UInt8) (hr : Bys w B A m)
    (hlen : l.length + m.length ≤ 140000000000) (hbase : base ≤ w.heap.size) :
    ∃ v' w', (Builtin.append_ #[t, t] ty #[v, .slice A m.length c]).run P w = .ok v' w' ∧ Own w' base e v' (l ++ m) ∧ Below base w w' ∧ w.grownBy w' v.ownBlock ∧ (v'.ownBlock = v.ownBlock ∨ v'.ownBlock = some w.heap.size) := by
  obtain ⟨i, hi, hzz⟩ := Option.map_eq_some_iff.1 hu.info
  simp only [Prod.mk.injEq] at hzz
  obtain ⟨hz, hsz, hby⟩ := hzz
  have fin : ∀ v' w', w'.ownsRow base e 1 v' (l.length + m.length) (cels l ++ cels m) → w.grownBy w' v.ownBlock → (v'.ownBlock = v.ownBlock ∨ v'.ownBlock = some w.heap.size) → Own w' base e v' (l ++ m) ∧ Below base w w' ∧ w.grownBy w' v.ownBlock ∧ (v'.ownBlock = v.ownBlock ∨ v'.ownBlock = some w.heap.size) := by
    intro v' w' h2 h3 h4
    refine ⟨by unfold Own; rw [List.length_append, cels_app]; exact h2, (Below.refl _ _).grown h3 hbase (fun k hk => (World.ownsRow.lt hown k hk).1), h3, h4⟩
  have big : l.length + m.length ≤ maxLen := by unfold maxLen; omega
  have step : ∀ ad : Addr, (∀ j u, (cels m)[j]? = some u → w.cell? (ad.add j) = some u) → ∃ v' w', (Builtin.append_ #[t, t] ty #[v, .slice (some ad) m.length c]).run P w = .ok v' w' ∧ Own w' base e v' (l ++ m) ∧ Below base w w' ∧ w.grownBy w' v.ownBlock ∧ (v'.ownBlock = v.ownBlock ∨ v'.ownBlock = some w.heap.size) := by
    intro ad hc
    obtain ⟨v', w', hrun, h2, h3, _, h4⟩ := run_append_own_at (P := P) w base t ty e i _ 1 1 hu.sl hi hz hsz hby rfl (by omega) v l.length (cels l) hown ad m.length c (cels m) (by rw [cels_len]; omega) hc (cels_one m) big (by omega) hbase
    exact ⟨v', w', hrun, fin v' w' h2 h3 h4⟩
  rcases hr with h | ⟨b, off, rfl, _, hc⟩
  · subst h
    cases A with
    | none =>
      refine ⟨v, w, ?_, by simpa using hown, Below.refl _ _, World.grownBy.refl _ _, .inl rfl⟩
      rcases hown.2 with ⟨rfl, hn⟩ | ⟨g, cap, cur, rfl, _, _, hnc, _⟩
      · simp [Builtin.append_, run_underlying hu.sl, sizeOf, typeInfo, hi, Builtin.lenOf, Builtin.firstCells]
      · simp [Builtin.append_, run_underlying hu.sl, sizeOf, typeInfo, hi, Builtin.lenOf, Builtin.firstCells, hnc, storeCells]
    | some ad => exact step ad (by intro j u hj; simp [cels] at hj)
  · refine step _ (fun j u hj => ?_)
    have hj' : j < m.length := by
      have := (List.getElem?_eq_some_iff.1 hj).1
      rwa [cels_len] at this
    rw [cels_at hj'] at hj
    rw [add_plain, hc j hj']
    exact hj
theorem Own.apart {w : World} {base : Nat} {e : TypeId} {v : Value} {l : List UInt8} (h : Own w base e v l) {g : Nat} (hg : w.heap.size ≤ g) : some g ≠ v.ownBlock := fun e => by
  have := (World.ownsRow.lt h g e.symm).2; omega
theorem step_appdg {t e : TypeId} (hu : U8 P t e) {ops : Array Oper} {o : Oper} {a : Act} {K : Act → World → Prop} {Q : Exit → Act → World → Prop} {E : Prop} (hw : Region.wanted o (yielded ops a.tmps) = true) (d : Option Tmp) (hd : o.dst = d) (s x : Operand)
    (ho : o.op = .call { callee := .builtin .append, args := #[s, x], argTypes := #[t, t] })
    (base : Nat) (v : Value) (l : List UInt8) (hs : a.eval s = v) (hown : Own w base e v l) (B : Nat) (A : Option Addr) (c : Nat) (m : List UInt8) (hx : a.eval x = .slice A m.length c) (hr : Bys w B A m)
    (hlen : l.length + m.length ≤ 140000000000) (hbase : base ≤ w.heap.size)
    (h : ∀ v' w', Own w' base e v' (l ++ m) → Below base w w' → w.grownBy w' v.ownBlock → (v'.ownBlock = v.ownBlock ∨ v'.ownBlock = some w.heap.size) → K (a.put d v') w') : if Region.wanted o (yielded ops a.tmps) = true then Oper.wp P o a w K Q else E := by
  rw [if_pos hw]
  obtain ⟨v', w', hrun, h2, h3, h4, h5⟩ := run_appg (P := P) w hu base o.type v l hown B A c m hr hlen hbase
  unfold Oper.wp execOp
  simp only [ho, resolve, invoke, builtin, Sem.run_bind, Sem.run_pure, Result.andThen_ok, List.map_toArray, List.map_cons, List.map_nil, hs, hx, hrun]
  have := h v' w' h2 h3 h4 h5
  rw [← hd] at this
  exact this
/-- .. of bytes that stand in a block that the walk has just laid, in a region that draws its order. -/
theorem step_appLg {t e : TypeId} (hu : U8 P t e) {ops : Array Oper} {o : Oper} {a : Act} {K : Act → World → Prop} {Q : Exit → Act → World → Prop} {E : Prop} (hw : Region.wanted o (yielded ops a.tmps) = true) (d : Option Tmp) (hd : o.dst = d) (s x : Operand)
    (ho : o.op = .call { callee := .builtin .append, args := #[s, x], argTypes := #[t, t] })
    (base : Nat) (v : Value) (l : List UInt8) (hs : a.eval s = v) (hown : Own w base e v l) (c : Nat) (cs : Array Value) (m : List UInt8) (hm : cs = (cels m).toArray) (n : Nat) (hn : m.length = n) (hx : a.eval x = .slice (some ⟨w.heap.size, 0, none⟩) n c)
    (hlen : l.length + m.length ≤ 140000000000) (hbase : base ≤ w.heap.size)
    (h : ∀ v' w', Own w' base e v' (l ++ m) → Below base w w' → (w.alloc (.cells cs e)).drew.grownBy w' v.ownBlock → (v'.ownBlock = v.ownBlock ∨ v'.ownBlock = some (w.heap.size + 1)) → K (a.put d v') w') : if Region.wanted o (yielded ops a.tmps) = true then Oper.wp P o a (w.alloc (.cells cs e)).drew K Q else E := by
  subst hm
  refine step_appdg _ hu hw d hd s x ho base v l hs (hown.alloc _).drew (w.heap.size + 1) (some ⟨w.heap.size, 0, none⟩) c m (by rw [hn]; exact hx) (.inr ⟨_, 0, rfl, by omega, fun k hk => ?_⟩) hlen (by simp; omega)
    (fun v' w' h1 h2 h3 h4 => h v' w' h1 ((((Below.refl _ _).alloc hbase _).drew).trans h2) h3 (h4.imp id fun e => e.trans (by simp)))
  show (w.alloc _).cell? _ = _
  rw [(Blk.new w e _).cell, show 0 + k = k by omega]
  simpa using cels_at hk
end
end Go.Proofs.YtbogafecgakgiaaDoor.Mem
