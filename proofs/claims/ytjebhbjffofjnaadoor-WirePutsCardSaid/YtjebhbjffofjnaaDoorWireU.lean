/- Layer 4: what is put; the walk. -/
import Derived.Test.YtjebhbjffofjnaaDoorWireF
import Derived.Deep.RegionHeldLaw
namespace Go.Proofs.YtjebhbjffofjnaaDoor
open Go.ChangeShapes Go.WideShapes Go.ChangeAt Go.RowKit Mem

section
variable {P : Program} (w : World)
/-- append onto a slice of the call's own: no block but that slice's own turns. -/
theorem run_app_keep {t e : TypeId} (hu : U8 P t e) (base : Nat) (ty : TypeId) (v : Value) (l : List UInt8) (hown : Own w base e v l) (B b off : Nat) (c : Nat) (m : List UInt8) (hr : Bys w B (some ⟨b, off, none⟩) m) (hm : m ≠ [])
    (hlen : l.length + m.length ≤ 140000000000) (hbase : base ≤ w.heap.size) :
    ∃ v' w', (Builtin.append_ #[t, t] ty #[v, .slice (some ⟨b, off, none⟩) m.length c]).run P w = .ok v' w' ∧ Own w' base e v' (l ++ m) ∧ Below base w w' ∧ ∀ k, k < w.heap.size → v.ownBlock ≠ some k → w'.heap[k]? = w.heap[k]? := by
  obtain ⟨i, hi, hzz⟩ := Option.map_eq_some_iff.1 hu.info
  simp only [Prod.mk.injEq] at hzz
  obtain ⟨hz, hsz, hby⟩ := hzz
  have big : l.length + m.length ≤ maxLen := by unfold maxLen; omega
  rcases hr with h | ⟨b', off', e', _, hc⟩
  · exact absurd h hm
  · simp only [Option.some.injEq, Addr.mk.injEq, and_true] at e'
    obtain ⟨rfl, rfl⟩ := e'
    have hc' : ∀ j u, (cels m)[j]? = some u → w.cell? ((⟨b, off, none⟩ : Addr).add j) = some u := by
      intro j u hj
      have hj' : j < m.length := by
        have := (List.getElem?_eq_some_iff.1 hj).1
        rwa [cels_len] at this
      rw [cels_at hj'] at hj
      rw [Mem.add_plain, hc j hj']
      exact hj
    obtain ⟨v', w', hrun, h2, h3, _⟩ := run_append_own_at (P := P) w base t ty e i _ 1 1 hu.sl hi hz hsz hby rfl (by omega) v l.length (cels l) hown ⟨b, off, none⟩ m.length c (cels m) (by rw [cels_len]; omega) hc' (cels_one m) big (by omega) hbase
    exact ⟨v', w', hrun, by unfold Own; rw [List.length_append, cels_app]; exact h2, (Below.refl _ _).grown h3 hbase (fun k hk => (World.ownsRow.lt hown k hk).1), fun k hk hn => h3.block k hk (fun e => hn e.symm)⟩
theorem wpList_app_keep {t e : TypeId} (hu : U8 P t e) {ops : Array Oper} {rest : List Oper} {o : Oper} {a : Act} {Q : Exit → Act → World → Prop} (hgd : o.guard = none) (s x : Operand)
    (ho : o.op = .call { callee := .builtin .append, args := #[s, x], argTypes := #[t, t] })
    (base : Nat) (v : Value) (l : List UInt8) (hs : a.eval s = v) (hown : Own w base e v l) (B b off : Nat) (c : Nat) (m : List UInt8) (hx : a.eval x = .slice (some ⟨b, off, none⟩) m.length c) (hr : Bys w B (some ⟨b, off, none⟩) m) (hm : m ≠ [])
    (hlen : l.length + m.length ≤ 140000000000) (hbase : base ≤ w.heap.size)
    (h : ∀ v' w', Own w' base e v' (l ++ m) → Below base w w' → (∀ k, k < w.heap.size → v.ownBlock ≠ some k → w'.heap[k]? = w.heap[k]?) → wpList P ops Q rest (a.put o.dst v') w') : wpList P ops Q (o :: rest) a w :=
  wpList_plain hgd fun K hK => by
    obtain ⟨v', w', hrun, h2, h3, h4⟩ := run_app_keep (P := P) w hu base o.type v l hown B b off c m hr hm hlen hbase
    unfold Oper.wp execOp
    simp only [ho, resolve, invoke, builtin, Sem.run_bind, Sem.run_pure, Result.andThen_ok, List.map_toArray, List.map_cons, List.map_nil, hs, hx, hrun]
    exact hK _ _ (h v' w' h2 h3 h4)
end
theorem own_block {w : World} {base : Nat} {e : TypeId} {v : Value} {l : List UInt8} (h : Own w base e v l) {k : Nat} (hk : w.heap.size ≤ k) : v.ownBlock ≠ some k := by
  intro e
  have := (World.ownsRow.lt h k e).2
  omega
/-- PutBoolean: no block but the slice's own turns. -/
theorem PutBoolean_keep (n : Int) (base : Nat) (v : Value) (l : List UInt8) (w : World) (hb : base ≤ w.heap.size) (hown : Own w base 5 v l) (hl : l.length ≤ 100000000) :
    Calls Tryd.prog 11 #[v, .int .i64 n] w (fun x w' => ∃ v', x = .returned v' ∧ Own w' base 5 v' (l ++ [tr n]) ∧ Below base w w' ∧ ∀ k, k < w.heap.size → v.ownBlock ≠ some k → w'.heap[k]? = w.heap[k]?) := by
  by_cases h : n = 0
  · have e : tr n = 0 := by unfold tr; rw [if_pos h]
    rw [e]
    subst h
    have l0 : Bys (w.alloc (.cells #[.int .u8 0] 5)) (w.alloc (.cells #[.int .u8 0] 5)).heap.size (some ⟨w.heap.size, 0, none⟩) [0] := lit_bys w [0]
    go_enter Tryd.func11, Tryd.ntmps11
    go_wp2_with (at_builtin; refine wpList_app_keep _ byteT rfl (.tmp 10) (.tmp 11) rfl base _ l rfl (hown.alloc _) _ w.heap.size 0 1 [0] rfl l0 (by simp) (by simp; omega) (by simp; omega) ?_; intro v' w1 o1 b1 k1)
    go_ret
    exact ⟨_, rfl, o1, ((Below.refl _ _).alloc hb _).trans b1, fun k hk hn => (k1 k (by simp; omega) hn).trans (Below.heap_alloc _ _ _ hk)⟩
  · have e : tr n = 1 := by unfold tr; rw [if_neg h]
    rw [e]
    have q : (n == 0) = false := by simpa using h
    have l0 : Bys (w.alloc (.cells #[.int .u8 1] 5)) (w.alloc (.cells #[.int .u8 1] 5)).heap.size (some ⟨w.heap.size, 0, none⟩) [1] := lit_bys w [1]
    go_enter Tryd.func11, Tryd.ntmps11
    go_wp2_with (at_builtin; refine wpList_app_keep _ byteT rfl (.tmp 7) (.tmp 8) rfl base _ l rfl (hown.alloc _) _ w.heap.size 0 1 [1] rfl l0 (by simp) (by simp; omega) (by simp; omega) ?_; intro v' w1 o1 b1 k1)
    go_ret
    exact ⟨_, rfl, o1, ((Below.refl _ _).alloc hb _).trans b1, fun k hk hn => (k1 k (by simp; omega) hn).trans (Below.heap_alloc _ _ _ hk)⟩
end Go.Proofs.YtjebhbjffofjnaaDoor
