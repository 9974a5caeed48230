/- The document's own answers for layer 7: all words. -/
import Derived.Test.YtjebkedlfhapjaaDoorJPar
import Derived.Test.YtjebkedlfhapjaaDoorJRefF
import Derived.Test.YtjebkedlfhapjaaDoorRec
namespace Go.Proofs.YtjebkedlfhapjaaDoor
open Go.ChangeShapes Go.WideShapes Go.ChangeAt Go.RowKit Mem

/-- What the loop knows. -/
def WlAt (l : List UInt8) (d : List Jx.Wd) (p : Nat) : Prop := p ≤ l.length ∧ d.length ≤ p ∧ d ++ Jp.wl l p = Jp.wl l 0
theorem WlAt.start (l : List UInt8) : WlAt l [] 0 := ⟨Nat.zero_le _, Nat.le_refl _, rfl⟩
theorem WlAt.bad {l : List UInt8} {d : List Jx.Wd} {p : Nat} (h : WlAt l d p) (he : (Jx.tak l p).2 ≠ 0) : Jp.wl l 0 = d ++ [⟨0, ((Jx.tak l p).2 : Int), [], 0, 0⟩] := by rw [← h.2.2, Jp.wl_bad h.1 he]
theorem WlAt.done {l : List UInt8} {d : List Jx.Wd} {p : Nat} (h : WlAt l d p) (he : (Jx.tak l p).2 = 0) (hk : (Jx.tak l p).1.k = 11) : Jp.wl l 0 = d ++ [(Jx.tak l p).1] := by rw [← h.2.2, Jp.wl_end h.1 he hk]
theorem WlAt.go {l : List UInt8} {d : List Jx.Wd} {p : Nat} (h : WlAt l d p) (he : (Jx.tak l p).2 = 0) (hk : (Jx.tak l p).1.k ≠ 11) : WlAt l (d ++ [(Jx.tak l p).1]) (Jx.tak l p).1.x ∧ p < (Jx.tak l p).1.x := by
  have m := Jx.tak_more h.1 he hk
  refine ⟨⟨m.2.1, by have := h.2.1; simp; omega, ?_⟩, m.1⟩
  rw [← h.2.2, Jp.wl_go h.1 he hk]; simp

end Go.Proofs.YtjebkedlfhapjaaDoor
/- The document's own answers for layer 7: a value. -/
namespace Go.Proofs.YtjebkedlfhapjaaDoor
open Go.ChangeShapes Go.WideShapes Go.ChangeAt Go.RowKit Mem

/-- From one block on, below another. -/
def Btw (a b : Nat) : Nat → Prop := fun x => a ≤ x ∧ x < b
theorem KeepS.refl (S : Nat → Prop) (w : World) : KeepS S w w := fun _ _ => rfl
theorem KeepS.trans {S : Nat → Prop} {a b c : World} (h : KeepS S a b) (k : KeepS S b c) : KeepS S a c := fun p hp => (k p hp).trans (h p hp)
theorem KeepS.set {S : Nat → Prop} {w w' : World} (h : KeepS S w w') {g : Nat} (hg : ∀ b, S b → b ≠ g) (i : Nat) (u : Value) : KeepS S w (w'.setCell ⟨g, i, none⟩ u) := fun p hp =>
  (World.cell?_setCell_other _ _ _ _ (fun e => hg _ hp (by subst e; rfl))).trans (h p hp)
/-- A tree that a call made, where it ends, the error. -/
def Pv (r : Jp.R) (ws : List Jx.Wd) (l : List UInt8) (i0 p0 : Nat) (w : World) (e : Ending) (w' : World) : Prop :=
  ∃ A3 c3 A4 c4 z, e = .returned (.tuple #[.agg #[.int .i64 r.1.k, .int .i64 r.1.n, .string r.1.t, .slice A3 r.1.its.length c3, .slice A4 r.1.ks.length c4], .int .i64 z, .int .i64 (r.2.2 : Int)]) ∧
    TreeS w' (Btw w.heap.size w'.heap.size) r.1 [.int .i64 r.1.k, .int .i64 r.1.n, .string r.1.t, .slice A3 r.1.its.length c3, .slice A4 r.1.ks.length c4] ∧
    (r.2.2 = 0 → ∃ i : Nat, z = (i : Int) ∧ i0 < i ∧ p0 < r.2.1 ∧ Jp.At ws l i r.2.1) ∧ Below w.heap.size w w'
theorem pv_bad {r : Jp.R} {ws : List Jx.Wd} {l : List UInt8} {w w' : World} {er i0 p0 : Nat} {z y : Int} (h : r = Jp.bad er) (he : er ≠ 0) (hy : y = (er : Int)) (hb : Below w.heap.size w w') :
    Pv r ws l i0 p0 w (.returned (.tuple #[.agg #[.int .i64 0, .int .i64 0, .string ⟨#[]⟩, .slice none 0 0, .slice none 0 0], .int .i64 z, .int .i64 y])) w' := by
  subst h; subst hy
  exact ⟨none, 0, none, 0, z, rfl, TreeS.zero_ _ _, fun h => absurd h he, hb⟩
theorem pv_leaf {r : Jp.R} {ws : List Jx.Wd} {l : List UInt8} {w w' : World} {k n z : Int} {s : ByteArray} {i q i0 p0 : Nat} (h : r = (.mk k n s [] [], q, 0)) (hz : z = (i : Int)) (ha : Jp.At ws l i q) (hl : i0 < i) (hp : p0 < q) (hb : Below w.heap.size w w') :
    Pv r ws l i0 p0 w (.returned (.tuple #[.agg #[.int .i64 k, .int .i64 n, .string s, .slice none 0 0, .slice none 0 0], .int .i64 z, .int .i64 0])) w' := by
  subst h
  exact ⟨none, 0, none, 0, z, rfl, TreeS.leaf _ _ _ _ _, fun _ => ⟨i, hz, hl, hp, ha⟩, hb⟩
/-- A tree in a result's block, and two numbers. -/
theorem post_j3 {fn : Func} {R : Ending → World → Prop} {a : Act} {w : World} {t u v : Tmp} {g : Nat} {x0 x1 x2 x3 x4 : Value} (hf : fn.results = #[.cell t 25, .tmp u, .tmp v]) (hd : a.defers = [])
    (hg : a.tmps.getD t undef = .pointer (some ⟨g, 0, none⟩)) (h0 : w.cell? ⟨g, 0, none⟩ = some x0) (h1 : w.cell? ⟨g, 1, none⟩ = some x1) (h2 : w.cell? ⟨g, 2, none⟩ = some x2) (h3 : w.cell? ⟨g, 3, none⟩ = some x3) (h4 : w.cell? ⟨g, 4, none⟩ = some x4)
    (hR : R (.returned (.tuple #[.agg #[x0, x1, x2, x3, x4], a.tmps.getD u undef, a.tmps.getD v undef])) w) : bodyPost Tryd.prog fn R .ret a w := by
  refine bodyPost_ret ?_ hd hR
  rw [Array.getD_eq_getD_getElem?] at hg
  simp [results, hf, hg, go_sem, h0, h1, h2, h3, h4]
theorem tak_k {l : List UInt8} {p : Nat} (hp : p ≤ l.length) (h : (Jx.tak l p).2 = 0) : 1 ≤ (Jx.tak l p).1.k := by
  rcases Jx.tak_ways l p hp with e | e | e | ⟨w, q, h0, hq, hw, ho, e⟩
  · rw [e]; show 1 ≤ 11; omega
  · rw [e] at h; cases h
  · rw [e] at h; cases h
  · rw [e]; obtain ⟨_, _, _, h4, _⟩ := ho; exact h4


end Go.Proofs.YtjebkedlfhapjaaDoor
/- What stands while a list's, or an object's, items are gathered. -/
namespace Go.Proofs.YtjebkedlfhapjaaDoor
open Go.ChangeShapes Go.WideShapes Go.ChangeAt Go.RowKit Mem

theorem jrecT : RecT Tryd.prog 22 25 5 (.agg #[.int .i64 0, .int .i64 0, .string ⟨#[]⟩, .slice none 0 0, .slice none 0 0]) 80 := ⟨by kernel_rfl, by kernel_rfl, rfl, by decide, by decide⟩
theorem srecT : RecT Tryd.prog 23 9 1 (.string ⟨#[]⟩) 16 := ⟨by kernel_rfl, by kernel_rfl, rfl, by decide, by decide⟩

/-- A row of the call's own as a place and a list of cells, in blocks of the call's own. -/
theorem ownR_fls {w : World} {base : Nat} {e : TypeId} {s : Nat} {v : Value} {n : Nat} {xs : List Value} (h : OwnR w base e s v n xs) : ∃ A c, v = .slice A n c ∧ n ≤ c ∧ FlS w (Btw base w.heap.size) A xs := by
  by_cases hl : n = 0
  · subst hl
    have hx : xs = [] := List.length_eq_zero_iff.1 (by have := h.1; simpa using this)
    rcases h.2 with ⟨rfl, _⟩ | ⟨g, cap, cur, rfl, _⟩
    · exact ⟨_, _, rfl, Nat.zero_le _, .inl hx⟩
    · exact ⟨_, _, rfl, Nat.zero_le _, .inl hx⟩
  · obtain ⟨g, cap, hv, hbg, hlt⟩ := World.ownsRow.form h (Nat.pos_of_ne_zero hl)
    subst hv
    refine ⟨_, _, rfl, ?_, .inr ⟨g, 0, rfl, ⟨hbg, hlt⟩, fun k hk => ?_⟩⟩
    · rcases h.2 with ⟨e, h0⟩ | ⟨g, cap, cur, e, _, _, hc, _⟩
      · omega
      · injection e with _ _ e
        omega
    · rw [show 0 + k = k by omega]
      exact World.ownsRow.cellAt h k (by rw [← h.1]; exact hk)
/-- A row of trees of the call's own is a row of trees. -/
theorem trees_fl {w : World} {S S' : Nat → Prop} {l : List J} {q : List (List Value)} {A : Option Addr} (h : TreesS w S l q) (hf : FlS w S' A q.flatten) (hS : ∀ b, S b → S' b) : RowS w S' l A := by
  have h' := TreesS.keep (w := w) (w' := w) (fun _ _ => rfl) hS h
  rcases hf with hf | ⟨b, off, rfl, hb, hc⟩
  · have := h.flat
    rw [hf] at this
    cases l with
    | nil => exact RowS.nil_ _ _ _
    | cons x r => simp at this
  · exact h'.row hb hc

def Free (w wr : World) (v3 v4 : Value) : Nat → Prop := fun b => w.heap.size + 2 ≤ b ∧ b < wr.heap.size ∧ some b ≠ v3.ownBlock ∧ some b ≠ v4.ownBlock
structure St (w wr : World) (kind : Int) (ks : List ByteArray) (js : List J) (css : List (List Value)) (v3 v4 : Value) : Prop where
  o3 : OwnR wr (w.heap.size + 2) 25 5 v3 js.length css.flatten
  o4 : OwnR wr (w.heap.size + 2) 9 1 v4 ks.length (ks.map Value.string)
  tr : TreesS wr (Free w wr v3 v4) js css
  ap : ∀ g, some g = v3.ownBlock → some g ≠ v4.ownBlock
  bk : B5 wr (w.heap.size + 1) 25 (.int .i64 kind) (.int .i64 0) (.string ⟨#[]⟩) v3 v4
  bl : Below (w.heap.size + 1) (w.alloc (.cells #[.int .i64 0, .int .i64 0, .string ⟨#[]⟩, .slice none 0 0, .slice none 0 0] 25)) wr
section
variable {w wr w' : World} {kind : Int} {ks : List ByteArray} {js : List J} {css : List (List Value)} {v3 v4 v3' v4' : Value}
theorem St.lt (h : St w wr kind ks js css v3 v4) : w.heap.size + 2 ≤ wr.heap.size := h.bk.lt
theorem St.below (h : St w wr kind ks js css v3 v4) (hb : Below wr.heap.size wr w') : St w w' kind ks js css v3 v4 where
  o3 := h.o3.below hb
  o4 := h.o4.below hb
  tr := h.tr.keep (fun p hp => hb.cell hp.2.1) (fun b hb' => ⟨hb'.1, Nat.lt_of_lt_of_le hb'.2.1 hb.size, hb'.2.2⟩)
  ap := h.ap
  bk := h.bk.below hb h.bk.lt
  bl := h.bl.trans (hb.mono (by have := h.lt; omega))
theorem St.drewN (h : St w wr kind ks js css v3 v4) (m : Nat) : St w (wr.drewN m) kind ks js css v3 v4 := h.below (bel_drewN (Below.refl _ _) m)
theorem St.alloc (h : St w wr kind ks js css v3 v4) (o : Obj) : St w (wr.alloc o) kind ks js css v3 v4 := h.below ((Below.refl _ _).alloc (Nat.le_refl _) o)
theorem own_lt {base : Nat} {e : TypeId} {s : Nat} {v : Value} {n : Nat} {xs : List Value} (h : OwnR wr base e s v n xs) (g : Nat) (hg : some g = v.ownBlock) : g < wr.heap.size := (h.base_le hg).2
/-- A key more. -/
theorem St.key (h : St w wr kind ks js css v3 v4) {k : ByteArray} (o4' : OwnR w' (w.heap.size + 2) 9 1 v4' (ks.length + 1) (ks.map Value.string ++ [.string k])) (hg : wr.grownBy w' v4.ownBlock)
    (hbl : Below (w.heap.size + 2) wr w') (ob : v4'.ownBlock = v4.ownBlock ∨ ∃ n, v4'.ownBlock = some n ∧ wr.heap.size ≤ n) : St w (w'.setCell ⟨w.heap.size + 1, 4, none⟩ v4') kind (ks ++ [k]) js css v3 v4' := by
  have hne : ∀ g, g < wr.heap.size → some g ≠ v4.ownBlock → some g ≠ v4'.ownBlock := fun g hl hn => by
    rcases ob with e | ⟨n, e, hle⟩
    · rw [e]; exact hn
    · rw [e]; intro hh; injection hh; omega
  refine ⟨?_, ?_, ?_, ?_, ?_, ?_⟩
  · exact (h.o3.keepb (w' := w') fun g hg' => hg.block g (own_lt h.o3 g hg') (h.ap g hg')).set (by show w.heap.size + 1 < w.heap.size + 2; omega) _
  · have := o4'.set (p := ⟨w.heap.size + 1, 4, none⟩) (by show w.heap.size + 1 < w.heap.size + 2; omega) v4'
    rw [List.length_append, List.map_append]; exact this
  · refine h.tr.keep (fun p hp => ?_) (fun b hb => ⟨hb.1, by have := hg.size; simp [World.setCell]; have := hb.2.1; omega, hb.2.2.1, hne b hb.2.1 hb.2.2.2⟩)
    exact (World.cell?_setCell_other _ _ _ _ (fun e => by have h1 := hp.1; have h2 := congrArg Addr.block e; simp only at h2; omega)).trans (World.cell?_of_block (hg.block p.block hp.2.1 hp.2.2.2))
  · exact fun g hg' => hne g (own_lt h.o3 g hg') (h.ap g hg')
  · exact B5.set4 (h.bk.below hbl (by omega)) v4'
  · exact (h.bl.trans (hbl.mono (by omega))).setCell (by show w.heap.size + 1 ≤ w.heap.size + 1; omega) _
/-- An item more. -/
theorem St.item (h : St w wr kind ks js css v3 v4) {j : J} {cs : List Value} (o3' : OwnR w' (w.heap.size + 2) 25 5 v3' (js.length + 1) (css.flatten ++ cs)) (hg : wr.grownBy w' v3.ownBlock)
    (hbl : Below (w.heap.size + 2) wr w') (ob : v3'.ownBlock = v3.ownBlock ∨ ∃ n, v3'.ownBlock = some n ∧ wr.heap.size ≤ n) (ht : TreeS wr (Free w wr v3 v4) j cs) : St w (w'.setCell ⟨w.heap.size + 1, 3, none⟩ v3') kind ks (js ++ [j]) (css ++ [cs]) v3' v4 := by
  have hne : ∀ g, g < wr.heap.size → some g ≠ v3.ownBlock → some g ≠ v3'.ownBlock := fun g hl hn => by
    rcases ob with e | ⟨n, e, hle⟩
    · rw [e]; exact hn
    · rw [e]; intro hh; injection hh; omega
  have hne4 : ∀ g, some g = v4.ownBlock → some g ≠ v3.ownBlock := fun g hg' hn => h.ap g hn hg'
  refine ⟨?_, ?_, ?_, ?_, ?_, ?_⟩
  · have := o3'.set (p := ⟨w.heap.size + 1, 3, none⟩) (by show w.heap.size + 1 < w.heap.size + 2; omega) v3'
    rw [List.length_append, List.flatten_append]; simpa using this
  · exact (h.o4.keepb (w' := w') fun g hg' => hg.block g (own_lt h.o4 g hg') (hne4 g hg')).set (by show w.heap.size + 1 < w.heap.size + 2; omega) _
  · refine TreesS.keep (fun p hp => ?_) (fun b hb => ⟨hb.1, by have := hg.size; simp [World.setCell]; have := hb.2.1; omega, hne b hb.2.1 hb.2.2.1, hb.2.2.2⟩) (h.tr.snoc ht)
    exact (World.cell?_setCell_other _ _ _ _ (fun e => by have h1 := hp.1; have h2 := congrArg Addr.block e; simp only at h2; omega)).trans (World.cell?_of_block (hg.block p.block hp.2.1 hp.2.2.1))
  · intro g hg' e
    rcases ob with e' | ⟨n, e', hle⟩
    · exact h.ap g (hg'.trans e') e
    · have := own_lt h.o4 g e
      rw [e'] at hg'; injection hg'; omega
  · exact B5.set3 (h.bk.below hbl (by omega)) v3'
  · exact (h.bl.trans (hbl.mono (by omega))).setCell (by show w.heap.size + 1 ≤ w.heap.size + 1; omega) _
/-- What was gathered, as a tree. -/
theorem St.tree (h : St w wr kind ks js css v3 v4) (hj : js.length ≤ 1000000000) (hk : ks.length ≤ 1000000000) : ∃ A3 c3 A4 c4, v3 = .slice A3 js.length c3 ∧ v4 = .slice A4 ks.length c4 ∧
    TreeS wr (Btw (w.heap.size + 2) wr.heap.size) (.mk kind 0 ⟨#[]⟩ js ks) [.int .i64 kind, .int .i64 0, .string ⟨#[]⟩, .slice A3 js.length c3, .slice A4 ks.length c4] := by
  obtain ⟨A3, c3, e3, h3, f3⟩ := ownR_fls h.o3
  obtain ⟨A4, c4, e4, h4, f4⟩ := ownR_fls h.o4
  exact ⟨A3, c3, A4, c4, e3, e4, TreeS.mk_ ⟨h3, by unfold maxLen; omega⟩ ⟨h4, by unfold maxLen; omega⟩ (trees_fl h.tr f3 (fun b hb => ⟨hb.1, hb.2.1⟩)) f4⟩
theorem St.start (kind : Int) (e : wr = (w.alloc (.cells #[.int .i64 0, .int .i64 0, .string ⟨#[]⟩, .slice none 0 0, .slice none 0 0] 25)).alloc (.cells #[.int .i64 kind, .int .i64 0, .string ⟨#[]⟩, .slice none 0 0, .slice none 0 0] 25)) :
    St w wr kind [] [] [] (.slice none 0 0) (.slice none 0 0) := by
  subst e
  refine ⟨OwnR.none_ _ _ _ _, OwnR.none_ _ _ _ _, trivial, fun g hg => ?_, B5.newat (by simp), (Below.refl _ _).alloc (by simp) _⟩
  simp [Value.ownBlock] at hg
end
end Go.Proofs.YtjebkedlfhapjaaDoor
/- The document's own answers for layer 7: Parse. -/
namespace Go.Proofs.YtjebkedlfhapjaaDoor
open Go.ChangeShapes Go.WideShapes Go.ChangeAt Go.RowKit Mem

theorem wl_len (l : List UInt8) : ∀ (n p : Nat), p ≤ l.length → l.length - p ≤ n → (Jp.wl l p).length + p ≤ l.length + 1 := by
  intro n
  induction n with
  | zero =>
    intro p hp hn
    by_cases h : (Jx.tak l p).2 = 0
    · by_cases hk : (Jx.tak l p).1.k = 11
      · rw [Jp.wl_end hp h hk]; simp; omega
      · have m := Jx.tak_more hp h hk
        omega
    · rw [Jp.wl_bad hp h]; simp; omega
  | succ n ih =>
    intro p hp hn
    by_cases h : (Jx.tak l p).2 = 0
    · by_cases hk : (Jx.tak l p).1.k = 11
      · rw [Jp.wl_end hp h hk]; simp; omega
      · have m := Jx.tak_more hp h hk
        rw [Jp.wl_go hp h hk]
        have := ih _ m.2.1 (by omega)
        simp; omega
    · rw [Jp.wl_bad hp h]; simp; omega

/-- A tree in a result's block, and a number. -/
theorem post_j2 {fn : Func} {R : Ending → World → Prop} {a : Act} {w : World} {t u : Tmp} {g : Nat} {x0 x1 x2 x3 x4 : Value} (hf : fn.results = #[.cell t 25, .tmp u]) (hd : a.defers = [])
    (hg : a.tmps.getD t undef = .pointer (some ⟨g, 0, none⟩)) (h0 : w.cell? ⟨g, 0, none⟩ = some x0) (h1 : w.cell? ⟨g, 1, none⟩ = some x1) (h2 : w.cell? ⟨g, 2, none⟩ = some x2) (h3 : w.cell? ⟨g, 3, none⟩ = some x3) (h4 : w.cell? ⟨g, 4, none⟩ = some x4)
    (hR : R (.returned (.tuple #[.agg #[x0, x1, x2, x3, x4], a.tmps.getD u undef])) w) : bodyPost Tryd.prog fn R .ret a w := by
  refine bodyPost_ret ?_ hd hR
  rw [Array.getD_eq_getD_getElem?] at hg
  simp [results, hf, hg, go_sem, h0, h1, h2, h3, h4]
/-- What Parse answers: a tree in blocks of the call's own, and a number. -/
def Prs (r : J × Nat) (w : World) (e : Ending) (w' : World) : Prop :=
  ∃ A3 c3 A4 c4, e = .returned (.tuple #[.agg #[.int .i64 r.1.k, .int .i64 r.1.n, .string r.1.t, .slice A3 r.1.its.length c3, .slice A4 r.1.ks.length c4], .int .i64 (r.2 : Int)]) ∧
    TreeS w' (Btw w.heap.size w'.heap.size) r.1 [.int .i64 r.1.k, .int .i64 r.1.n, .string r.1.t, .slice A3 r.1.its.length c3, .slice A4 r.1.ks.length c4] ∧ Below w.heap.size w w'
theorem prs_bad {r : J × Nat} {w w' : World} {er : Nat} {y : Int} (h : r = (J.zero, er)) (hy : y = (er : Int)) (hb : Below w.heap.size w w') :
    Prs r w (.returned (.tuple #[.agg #[.int .i64 0, .int .i64 0, .string ⟨#[]⟩, .slice none 0 0, .slice none 0 0], .int .i64 y])) w' := by
  subst h; subst hy
  exact ⟨none, 0, none, 0, rfl, TreeS.zero_ _ _, hb⟩
theorem prs_ok {r : J × Nat} {w wr w' : World} {j : J} {B : Nat} {A3 A4 : Option Addr} {c3 c4 : Nat} (h : r = (j, 0)) (ht : TreeS wr (Btw B wr.heap.size) j [.int .i64 j.k, .int .i64 j.n, .string j.t, .slice A3 j.its.length c3, .slice A4 j.ks.length c4])
    (hB : w.heap.size ≤ B) (hk : KeepS (Btw B wr.heap.size) wr w') (hs : wr.heap.size ≤ w'.heap.size) (hb : Below w.heap.size w w') :
    Prs r w (.returned (.tuple #[.agg #[.int .i64 j.k, .int .i64 j.n, .string j.t, .slice A3 j.its.length c3, .slice A4 j.ks.length c4], .int .i64 0])) w' := by
  subst h
  exact ⟨A3, c3, A4, c4, rfl, ht.keep hk (fun b hb => ⟨Nat.le_trans hB hb.1, Nat.lt_of_lt_of_le hb.2 hs⟩), hb⟩

end Go.Proofs.YtjebkedlfhapjaaDoor
