/- Layer 8, the code's own calls: what keeps the bytes that are put; numbers, texts, keys. -/
import Derived.Test.YtjebkedlfhapjaaDoorKShelf
import Derived.Test.YtjebkedlfhapjaaDoorKMath
import Derived.Test.YtjebkedlfhapjaaDoorJlexQ
import Derived.Test.YtjebkedlfhapjaaDoorUtf
import Derived.Test.YtjebkedlfhapjaaDoorJTSame
import Derived.Lib.AppendStr
namespace Go.Proofs.YtjebkedlfhapjaaDoor.Mem
open Go.RowKit

section
variable {P : Program} (w : World)
/-- append of a string onto a row of the call's own, with what stays, and where the row lies then. -/
theorem run_app_str {t e u : TypeId} (hu : U8 P t e) (hs : P.underlying u = some .string) (base : Nat) (ty : TypeId) (v : Value) (l : List UInt8) (hown : Own w base e v l) (s : ByteArray) (hlen : l.length + s.size ≤ 140000000000) (hbase : base ≤ w.heap.size) :
    ∃ v' w', (Builtin.append_ #[t, u] ty #[v, .string s]).run P w = .ok v' w' ∧ Own w' base e v' (l ++ s.data.toList) ∧ w.grownBy w' v.ownBlock ∧ (v'.ownBlock = v.ownBlock ∨ v'.ownBlock = some w.heap.size) := by
  obtain ⟨i, hi, hzz⟩ := Option.map_eq_some_iff.1 hu.info
  simp only [Prod.mk.injEq] at hzz
  obtain ⟨hz, hsz, hby⟩ := hzz
  obtain ⟨v', w', hr, ho, hg, hn⟩ := Lib.run_append_own_string (P := P) w base t u ty e i hu.sl hs hi hz hsz hby v l.length (cels l) hown s (by unfold maxLen; omega) (by omega) hbase
  have ln : s.data.toList.length = s.size := by rw [Array.length_toList]; rfl
  refine ⟨v', w', hr, ?_, hg, ?_⟩
  · unfold Own
    rw [List.length_append, ln, cels_app]
    exact ho
  · rcases hown.2 with ⟨rfl, h0⟩ | ⟨g, cap, cur, rfl, hbg, hgg, hnc, hcm, hcs, htk⟩
    · by_cases hm : s.size = 0
      · exact .inl (by rw [hn.2 ⟨rfl, hm⟩])
      · have hr2 := run_append_nil_string (P := P) w t u ty e i (.int .u8 0) hu.sl hs hi hz s (by omega) (by omega) (by rw [hby]; omega)
        rw [hr2] at hr
        injection hr with hv _
        exact .inr (by rw [← hv]; rfl)
    · by_cases hroom : l.length + s.size ≤ cap
      · have hr2 := Lib.run_append_room_string (P := P) w t u ty e i hu.sl hs hi hsz g l.length cap cur hgg s hroom (by omega)
        rw [hr2] at hr
        injection hr with hv _
        exact .inl (by rw [← hv]; rfl)
      · have holds : ∀ j u, (cels l)[j]? = some u → w.cell? ((⟨g, 0, none⟩ : Addr).add j) = some u := World.ownsRow.cells hown (g := g) rfl
        have hr2 := Lib.run_append_grow_string (P := P) w t u ty e i (.int .u8 0) hu.sl hs hi hz ⟨g, 0, none⟩ l.length cap (cels l) (by rw [hsz, cels_len, Nat.mul_one]) holds s (by omega) (by omega) (by rw [hby]; exact growslice_fits (by omega) (by omega))
        rw [hr2] at hr
        injection hr with hv _
        exact .inr (by rw [← hv]; rfl)
/-- The step of a walk at an append of a string. -/
theorem wpList_app_str {t e u : TypeId} (hu : U8 P t e) (hst : P.underlying u = some .string) {ops : Array Oper} {rest : List Oper} {o : Oper} {a : Act} {Q : Exit → Act → World → Prop} (hgd : o.guard = none) (sl x : Operand)
    (ho : o.op = .call { callee := .builtin .append, args := #[sl, x], argTypes := #[t, u] })
    (base : Nat) (v : Value) (l : List UInt8) (hs : a.eval sl = v) (hown : Own w base e v l) (s : ByteArray) (hx : a.eval x = .string s)
    (hlen : l.length + s.size ≤ 140000000000) (hbase : base ≤ w.heap.size)
    (h : ∀ v' w', Own w' base e v' (l ++ s.data.toList) → w.grownBy w' v.ownBlock → (v'.ownBlock = v.ownBlock ∨ v'.ownBlock = some w.heap.size) → wpList P ops Q rest (a.put o.dst v') w') : wpList P ops Q (o :: rest) a w := by
  refine wpList_plain hgd fun K hK => ?_
  obtain ⟨v', w', hr, h2, h3, h4⟩ := run_app_str (P := P) w hu hst base o.type v l hown s hlen hbase
  unfold Oper.wp execOp
  simp only [ho, resolve, invoke, builtin, Sem.run_bind, Sem.run_pure, Result.andThen_ok, List.map_toArray, List.map_cons, List.map_nil, hs, hx, hr]
  exact hK _ _ (h v' w' h2 h3 h4)
end
theorem Own.setCell {w : World} {base : Nat} {e : TypeId} {v : Value} {l : List UInt8} (h : Own w base e v l) {p : Addr} (hp : p.block < base) (u : Value) : Own (w.setCell p u) base e v l := by
  obtain ⟨h1, h2⟩ := h
  refine ⟨h1, ?_⟩
  rcases h2 with h2 | ⟨g, cap, cur, hv, hg, hh, r⟩
  · exact .inl h2
  · exact .inr ⟨g, cap, cur, hv, hg, (Below.heap_setCell _ _ _ _ (by intro e; omega)).trans hh, r⟩
/-- Two such calls, one behind the other: the row may be another then. -/
theorem Sav.go {g r r1 : Nat} {w w1 w2 : World} (s1 : Sav g r w.heap.size w w1) (hr : r1 = r ∨ w.heap.size ≤ r1) (s2 : Sav g r1 w1.heap.size w1 w2) : Sav g r w.heap.size w w2 :=
  ⟨s2.os.trans s1.os, s2.tape.trans s1.tape, s2.output.trans s1.output, Nat.le_trans s1.size s2.size, fun k h1 h2 h3 => (s2.block k (Nat.lt_of_lt_of_le h1 s1.size) h2 (by rcases hr with rfl | h; exact h3; omega)).trans (s1.block k h1 h2 h3)⟩
end Go.Proofs.YtjebkedlfhapjaaDoor.Mem
namespace Go.Proofs.YtjebkedlfhapjaaDoor
open Go.ChangeShapes Go.WideShapes Go.ChangeAt Go.RowKit Mem

/-- What the closure keeps: in block g a slice of bytes of the call's own; its row lies in block r, if there is one. -/
def Snk (w : World) (g r : Nat) (l : List UInt8) : Prop := ∃ v, Blk w g 28 #[v] ∧ Own w (g + 1) 5 v l ∧ (∀ h, v.ownBlock = some h → h = r) ∧ r < w.heap.size ∧ l.length ≤ 20000
theorem Snk.below {w w' : World} {g r : Nat} {l : List UInt8} (h : Snk w g r l) (b : Below w.heap.size w w') : Snk w' g r l := by
  obtain ⟨v, hb, ho, hr, hlt, hl⟩ := h
  exact ⟨v, hb.below b hb.lt, ho.below b, hr, Nat.lt_of_lt_of_le hlt b.size, hl⟩
theorem Snk.lt {w : World} {g r : Nat} {l : List UInt8} (h : Snk w g r l) : g < w.heap.size := by
  obtain ⟨v, hb, _⟩ := h; exact hb.lt
theorem Snk.rlt {w : World} {g r : Nat} {l : List UInt8} (h : Snk w g r l) : r < w.heap.size := by
  obtain ⟨v, _, _, _, hlt, _⟩ := h; exact hlt
theorem Snk.len {w : World} {g r : Nat} {l : List UInt8} (h : Snk w g r l) : l.length ≤ 20000 := by
  obtain ⟨v, _, _, _, _, hl⟩ := h; exact hl
/-- What a call that puts m answers: it stands behind what was there, or there is no room for it. -/
def Put (g r : Nat) (l m : List UInt8) (w : World) (e : Ending) (w' : World) : Prop :=
  (l.length + m.length ≤ 20000 ∧ e = .returned (.bool true) ∧ ∃ r', Snk w' g r' (l ++ m) ∧ (r' = r ∨ w.heap.size ≤ r') ∧ Sav g r w.heap.size w w') ∨
  (20000 < l.length + m.length ∧ e = .returned (.bool false) ∧ Sav g r w.heap.size w w')
section
variable {g r : Nat} {l m m2 : List UInt8} {w w1 w' : World} {e : Ending}
theorem Put.after (b : Below w.heap.size w w1) (h : Put g r l m w1 e w') : Put g r l m w e w' := by
  have s := b.size
  rcases h with ⟨h1, h2, r', h3, h4, h5⟩ | ⟨h1, h2, h3⟩
  · exact .inl ⟨h1, h2, r', h3, by omega, Sav.trans (Sav.of b) (h5.mono s)⟩
  · exact .inr ⟨h1, h2, Sav.trans (Sav.of b) (h3.mono s)⟩
theorem Put.step {r1 : Nat} (sv : Sav g r w.heap.size w w1) (hr : r1 = r ∨ w.heap.size ≤ r1) (h : Put g r1 (l ++ m) m2 w1 e w') : Put g r l (m ++ m2) w e w' := by
  have s := sv.size
  rcases h with ⟨h1, h2, r', h3, h4, h5⟩ | ⟨h1, h2, h3⟩
  · exact .inl ⟨by simpa [Nat.add_assoc] using h1, h2, r', by rw [← List.append_assoc]; exact h3, by omega, sv.go hr h5⟩
  · exact .inr ⟨by simpa [Nat.add_assoc] using h1, h2, sv.go hr h3⟩
theorem Put.fail (hgt : 20000 < l.length + m.length) (sv : Sav g r w.heap.size w w') : Put g r l (m ++ m2) w (.returned (.bool false)) w' :=
  .inr ⟨by rw [List.length_append]; omega, rfl, sv⟩
theorem put_ok {r : Nat} {v v5 : Value} {w5 : World} (hb : Blk w g 28 #[v]) (ho : Own w (g + 1) 5 v l) (hr : ∀ h, v.ownBlock = some h → h = r) (hlt : r < w.heap.size) (q : l.length + m.length ≤ 20000)
    (o5 : Own w5 (g + 1) 5 v5 (l ++ m)) (g5 : w.grownBy w5 v.ownBlock) (l5 : v5.ownBlock = v.ownBlock ∨ v5.ownBlock = some w.heap.size) : Put g r l m w (.returned (.bool true)) (w5.setCell ⟨g, 0, none⟩ v5) := by
  have ne : ∀ h, v.ownBlock = some h → g + 1 ≤ h := fun h e => (World.ownsRow.lt ho h e).1
  have hb5 : Blk w5 g 28 #[v] := (g5.block g hb.lt (fun e => by have := ne g e.symm; omega)).trans hb
  have sv : Sav g r w.heap.size w w5 := ⟨g5.os, g5.tape, g5.output, g5.size, fun k h1 h2 h3 => g5.block k h1 (fun e => h3 (hr k e.symm))⟩
  have sz : w.heap.size ≤ w5.heap.size := g5.size
  have se : (w5.setCell ⟨g, 0, none⟩ v5).heap.size = w5.heap.size := by simp [World.setCell]
  refine .inl ⟨q, rfl, (if v5.ownBlock = v.ownBlock then r else w.heap.size), ⟨v5, by simpa using hb5.set 0 v5, o5.setCell (by show g < g + 1; omega) v5, ?_, ?_, by rw [List.length_append]; exact q⟩, ?_, sv.set (.inl rfl) v5⟩
  · intro h e
    by_cases c : v5.ownBlock = v.ownBlock
    · rw [if_pos c]; exact hr h (c ▸ e)
    · rw [if_neg c]
      have := (l5.resolve_left c).symm.trans e
      exact (Option.some.inj this).symm
  · by_cases c : v5.ownBlock = v.ownBlock
    · rw [if_pos c, se]; omega
    · rw [if_neg c, se]
      exact (World.ownsRow.lt o5 _ (l5.resolve_left c)).2
  · by_cases c : v5.ownBlock = v.ownBlock
    · rw [if_pos c]; exact .inl rfl
    · rw [if_neg c]; exact .inr (Nat.le_refl _)
end

set_option maxRecDepth 100000 in
set_option maxHeartbeats 2000000 in
theorem put_any (g r : Nat) (l : List UInt8) (s : ByteArray) (m : List UInt8) (hm : m = s.data.toList) (w : World) (h : Snk w g r l) :
    Calls Tryd.prog 19 #[.string s, .pointer (some ⟨g, 0, none⟩)] w (Put g r l m w) := by
  have CS := cell_set
  obtain ⟨v, hb, ho, hr, hlt, hl⟩ := h
  have hg := hb.lt
  have ml : m.length = s.size := by rw [hm, Array.length_toList]; rfl
  obtain ⟨A, c, hv, hy, hc⟩ := ho.room
  have c0 : w.cell? ⟨g, 0, none⟩ = some (.slice A l.length c) := by rw [← hv]; exact hb.cell 0
  have f0 := hb.frozen 0
  by_cases q : l.length + m.length ≤ 20000
  · have q1 : ¬ (20000 : Int) - (l.length : Int) < (s.size : Int) := by omega
    have OW := Lib.hid ho
    have OK : Hid (∀ (v5 : Value) (w5 : World), Own w5 (g + 1) 5 v5 (l ++ m) → w.grownBy w5 v.ownBlock → (v5.ownBlock = v.ownBlock ∨ v5.ownBlock = some w.heap.size) → w5.cell? ⟨g, 0, none⟩ = some (.slice A l.length c) ∧ w5.frozen? ⟨g, 0, none⟩ = false ∧ Put g r l m w (.returned (.bool true)) (w5.setCell ⟨g, 0, none⟩ v5)) := fun v5 w5 o5 g5 l5 => by
      have hb5 : Blk w5 g 28 #[v] := (g5.block g hg (fun e => by have := (World.ownsRow.lt ho g e.symm).1; omega)).trans hb
      exact ⟨by rw [← hv]; exact hb5.cell 0, hb5.frozen 0, put_ok hb ho hr hlt q o5 g5 l5⟩
    subst hm hv
    clear ho hb hr hlt q hy
    go_enter Tryd.func19, Tryd.ntmps19
    go_wp2_with (first
      | (at_builtin; refine wpList_app_str _ byteT strT rfl (.tmp 10) (.tmp 11) rfl (g + 1) _ l rfl OW.out s rfl (by omega) (by omega) ?_; intro v5 w5 o5 g5 l5; obtain ⟨A5, k5, rfl, _⟩ := o5.room; obtain ⟨c5, f5, p5⟩ := OK.out _ w5 o5 g5 l5; have P5 := Lib.hid p5; clear p5)
      | fail)
    go_ret
    have p5 := P5.out
    rw [show (l ++ s.data.toList).length = l.length + s.size by rw [List.length_append, Array.length_toList]; rfl] at p5
    exact p5
  · have q1 : (20000 : Int) - (l.length : Int) < (s.size : Int) := by omega
    have Q := Lib.hid q
    clear ho hb hr hlt q hy hm hv
    go_enter Tryd.func19, Tryd.ntmps19
    go_wp2_with fail
    go_ret
    exact .inr ⟨by have := Q.out; omega, rfl, Sav.refl _ _ _ _⟩

theorem qb_bounds : ∀ (s : List UInt8), s.length ≤ (Jx.qb s).length ∧ (Jx.qb s).length ≤ 6 * s.length
  | [] => by simp [Jx.qb_nil]
  | x :: r => by
    have := qb_bounds r
    have := Jx.qc_len x
    rw [Jx.qb_cons, List.length_append, List.length_cons]; omega
theorem quo_bounds (s : ByteArray) : s.size + 2 ≤ (Jx.quo s.data.toList).length ∧ (Jx.quo s.data.toList).length ≤ 6 * s.size + 2 := by
  have := qb_bounds s.data.toList
  have ln : s.data.toList.length = s.size := by rw [Array.length_toList]; rfl
  unfold Jx.quo
  rw [List.length_cons, List.length_append, List.length_singleton]; omega

set_option maxRecDepth 100000 in
set_option maxHeartbeats 2000000 in
theorem ptext_any (g r : Nat) (l : List UInt8) (s : ByteArray) (w : World) (h : Snk w g r l) :
    Calls Tryd.prog 34 #[(.func (.func 19) #[] #[.pointer (some ⟨g, 0, none⟩)]), .string s] w (Put g r l (Jx.quo s.data.toList) w) := by
  have ql := quo_bounds s
  by_cases q : s.size ≤ 20000
  · have qu := jQuote_any s w.heap.size (.slice none 0 0) [] w (by omega) (Nat.le_refl _) (Own.none_ _ _ _) (by simp)
    rw [List.nil_append] at qu
    obtain ⟨E, hE⟩ : ∃ E, E = Jx.quo s.data.toList := ⟨_, rfl⟩
    rw [← hE] at qu ql ⊢
    have PU : Hid (∀ W, Below w.heap.size w W → Calls Tryd.prog 19 #[.string ⟨E.toArray⟩, .pointer (some ⟨g, 0, none⟩)] W (Put g r l E w)) := fun W b =>
      (put_any g r l ⟨E.toArray⟩ E (by simp) W (h.below b)).mono fun e w' hp => hp.after b
    have QU := Lib.hid qu
    have q1 : (s.size : Int) ≤ 20000 := by omega
    have el : E.length ≤ 200000 := by omega
    clear qu hE h ql
    go_enter Tryd.func34, Tryd.ntmps34
    go_wp2_with fail
    with_reducible refine QU.out.mono ?_
    rintro e w2 ⟨v2, rfl, o2, b2⟩
    obtain ⟨A2, c2, rfl, y2, hc2⟩ := o2.room
    have cv := y2.str byteT strT c2
    clear o2 y2
    go_wp2_with fail
    with_reducible refine (PU.out w2 b2).mono ?_
    rintro e w3 (⟨h1, rfl, h3⟩ | ⟨h1, rfl, h3⟩)
    · have H := Lib.hid h3
      clear h3
      go_wp2_with fail
      go_ret
      exact .inl ⟨h1, rfl, H.out⟩
    · have H := Lib.hid h3
      clear h3
      go_wp2_with fail
      go_ret
      exact .inr ⟨h1, rfl, H.out⟩
  · have q1 : ¬ (s.size : Int) ≤ 20000 := by omega
    have LN : Hid (20000 < l.length + (Jx.quo s.data.toList).length) := by show _ < _; omega
    clear ql h q
    go_enter Tryd.func34, Tryd.ntmps34
    go_wp2_with fail
    go_ret
    exact .inr ⟨LN.out, rfl, Sav.refl _ _ _ _⟩

set_option maxRecDepth 100000 in
set_option maxHeartbeats 2000000 in
theorem pkey_any (g r : Nat) (l : List UInt8) (s : ByteArray) (w : World) (h : Snk w g r l) :
    Calls Tryd.prog 50 #[(.func (.func 19) #[] #[.pointer (some ⟨g, 0, none⟩)]), .string s] w (Put g r l (Jx.quo s.data.toList ++ [58]) w) := by
  have TX := Lib.hid (ptext_any g r l s w h)
  obtain ⟨E, hE⟩ : ∃ E, E = Jx.quo s.data.toList := ⟨_, rfl⟩
  rw [← hE] at TX ⊢
  clear hE h
  go_enter Tryd.func50, Tryd.ntmps50
  go_wp2_with fail
  with_reducible refine TX.out.mono ?_
  rintro e w2 (⟨h1, rfl, r2, S2, hr2, v2⟩ | ⟨h1, rfl, v2⟩)
  · have PC := Lib.hid (put_any g r2 _ ⟨#[58]⟩ [58] rfl w2 S2)
    have V2 := Lib.hid v2
    have HR := Lib.hid hr2
    clear S2 hr2 v2
    go_wp2_with fail
    with_reducible refine PC.out.mono ?_
    rintro e w3 (⟨h3, rfl, h4⟩ | ⟨h3, rfl, h4⟩)
    · have H := Lib.hid h4
      clear h4
      go_wp2_with fail
      go_ret
      exact Put.step V2.out HR.out (.inl ⟨h3, rfl, H.out⟩)
    · have H := Lib.hid h4
      clear h4
      go_wp2_with fail
      go_ret
      exact Put.step V2.out HR.out (.inr ⟨h3, rfl, H.out⟩)
  · have V2 := Lib.hid v2
    clear v2
    go_wp2_with fail
    go_ret
    exact Put.fail h1 V2.out

theorem itoa_nm (n : Int) : Lib.itoa n = Jx.nm n := by
  have dd : ∀ u, Lib.decDigits u = Jx.dig u := by
    intro u
    induction u using Nat.strongRecOn with
    | _ u ih =>
      by_cases h : u < 10
      · rw [Lib.decDigits, dif_pos h, Jx.dig_lt h]
      · rw [Lib.decDigits, dif_neg h, Jx.dig_ge (by omega), ih (u / 10) (by omega)]
  unfold Lib.itoa Jx.nm
  rw [dd, dd]
  by_cases h : n < 0
  · rw [if_pos h, if_pos h]
  · rw [if_neg h, if_neg h, show n.toNat = n.natAbs by omega]

set_option maxRecDepth 100000 in
set_option maxHeartbeats 2000000 in
theorem jNumber_any (n : Int) (h1 : -9223372036854775808 ≤ n) (h2 : n ≤ 9223372036854775807) (base : Nat) (v : Value) (l : List UInt8) (w : World) (hL : Laid w) (ht : 5 < base) (hb : base ≤ w.heap.size) (hown : Own w base 5 v l) (hl : l.length ≤ 100000000) :
    Calls Tryd.prog 13 #[v, .int .i64 n] w (Made base (l ++ Jx.nm n) w) := by
  have AP : Hid (Calls Tryd.prog 25 #[v, .int .i64 n, .int .i64 10] w (Made base (l ++ Jx.nm n) w)) := by
    refine (Tryd.strconv_AppendInt_10 base l.length n h1 h2 v (cels l) w hown hb (by omega) (fun w' b => (hL.below b ht).pow)).mono ?_
    rintro e w' ⟨v', rfl, ho, hbl, _⟩
    refine ⟨v', rfl, ?_, hbl⟩
    rw [itoa_nm] at ho
    unfold Own
    rw [List.length_append, cels_app]
    exact ho
  clear hL hown
  go_enter Tryd.func13, Tryd.ntmps13
  go_wp2_with fail
  with_reducible refine AP.out.mono ?_
  rintro e w2 ⟨v2, rfl, o2, b2⟩
  go_wp2_with fail
  go_ret
  exact ⟨v2, rfl, o2, b2⟩
end Go.Proofs.YtjebkedlfhapjaaDoor
/- Layer 8, the code's own calls: the items of a list, and of an object. (Written by tools/genkitems.py.) -/
namespace Go.Proofs.YtjebkedlfhapjaaDoor
open Go.ChangeShapes Go.WideShapes Go.ChangeAt Go.RowKit Mem

/-- Behind calls that have put q. -/
def At8 (g r : Nat) (l q : List UInt8) (w w' : World) (r' : Nat) : Prop := Snk w' g r' (l ++ q) ∧ (r' = r ∨ w.heap.size ≤ r') ∧ Sav g r w.heap.size w w'
section
variable {g r r1 r2 : Nat} {l q m M : List UInt8} {w wr W w' : World}
theorem At8.step (a : At8 g r l q w wr r1) (b : Below wr.heap.size wr W) (S2 : Snk w' g r2 ((l ++ q) ++ m)) (hr2 : r2 = r1 ∨ W.heap.size ≤ r2) (v : Sav g r1 W.heap.size W w') : At8 g r l (q ++ m) w w' r2 := by
  obtain ⟨sn, hr, sv⟩ := a
  have s1 := sv.size
  have s2 := b.size
  refine ⟨by rw [← List.append_assoc]; exact S2, by omega, ?_⟩
  exact sv.go hr (Sav.trans (Sav.of b) (v.mono s2))
theorem At8.fail (a : At8 g r l q w wr r1) (b : Below wr.heap.size wr W) (v : Sav g r1 W.heap.size W w') (h : 20000 < (l ++ q).length + m.length) (hle : q.length + m.length ≤ M.length) : Put g r l M w (.returned (.bool false)) w' := by
  obtain ⟨sn, hr, sv⟩ := a
  exact .inr ⟨by rw [List.length_append] at h; omega, rfl, sv.go hr (Sav.trans (Sav.of b) (v.mono b.size))⟩
theorem At8.done (a : At8 g r l q w wr r1) : Put g r l q w (.returned (.bool true)) wr := by
  obtain ⟨sn, hr, sv⟩ := a
  exact .inl ⟨by have := sn.len; rw [List.length_append] at this; exact this, rfl, r1, sn, hr, sv⟩
theorem At8.start (h : Snk w g r l) : At8 g r l [] w w r := ⟨by rw [List.append_nil]; exact h, .inl rfl, Sav.refl _ _ _ _⟩
end

theorem isE_take {its : List J} {j : Nat} (h : j < its.length) : (true && (its.take j).isEmpty) = decide (j = 0) := by
  cases its with
  | nil => simp at h
  | cons x r =>
    cases j with
    | zero => rfl
    | succ j => simp
theorem prts_at5 {its : List J} {j : Nat} (h : j < its.length) : Jp.prts false true (its.take (j + 1)) [] = Jp.prts false true (its.take j) [] ++ ((if j = 0 then [] else [44]) ++ Jp.prt (its[j]'h)) := by
  have a := Jp.prts_app false [its[j]'h] [] (fun _ => rfl) (its.take j) [] true (fun e => by cases e) (fun _ => rfl)
  rw [← List.take_succ_eq_append_getElem h, List.append_nil, isE_take h, Jp.prts_cons, Jp.prts_nil, List.append_nil] at a
  rw [a]
  by_cases h0 : j = 0
  · simp [h0]
  · simp [h0]
theorem prts_at6 {its : List J} {ks : List ByteArray} {j : Nat} (h : j < its.length) (h2 : j < ks.length) : Jp.prts true true (its.take (j + 1)) (ks.take (j + 1)) = Jp.prts true true (its.take j) (ks.take j) ++ ((if j = 0 then [] else [44]) ++ ((Jx.quo (ks[j]'h2).data.toList ++ [58]) ++ Jp.prt (its[j]'h))) := by
  have a := Jp.prts_app true [its[j]'h] [ks[j]'h2] (fun e => by cases e) (its.take j) (ks.take j) true (fun _ => by rw [List.length_take, List.length_take]; omega) (fun e => by cases e)
  rw [← List.take_succ_eq_append_getElem h, ← List.take_succ_eq_append_getElem h2, isE_take h, Jp.prts_cons, Jp.prts_nil, List.append_nil] at a
  rw [a]
  by_cases h0 : j = 0
  · simp [h0]
  · simp [h0]
theorem prts_le5 {its : List J} {j : Nat} : (Jp.prts false true (its.take j) []).length ≤ (Jp.prts false true its []).length := by
  have a := Jp.prts_app false (its.drop j) [] (fun _ => rfl) (its.take j) [] true (fun e => by cases e) (fun _ => rfl)
  rw [List.take_append_drop, List.append_nil] at a
  rw [a, List.length_append]; omega
theorem prts_le6 {its : List J} {ks : List ByteArray} {j : Nat} (h : ks.length = its.length) : (Jp.prts true true (its.take j) (ks.take j)).length ≤ (Jp.prts true true its ks).length := by
  have a := Jp.prts_app true (its.drop j) (ks.drop j) (fun e => by cases e) (its.take j) (ks.take j) true (fun _ => by rw [List.length_take, List.length_take, h]) (fun e => by cases e)
  rw [List.take_append_drop, List.take_append_drop] at a
  rw [a, List.length_append]; omega

/-- What 'tree' keeps, at a tree. -/
def TreeP (t : J) : Prop := ∀ (B g r : Nat) (l : List UInt8) (w : World) (A3 A4 : Option Addr) (c3 c4 : Nat), Laid w → 5 < B → B ≤ g → B ≤ r → Snk w g r l →
  TreeC w B t [.int .i64 t.k, .int .i64 t.n, .string t.t, .slice A3 t.its.length c3, .slice A4 t.ks.length c4] →
  Calls Tryd.prog 20 #[(.func (.func 19) #[] #[.pointer (some ⟨g, 0, none⟩)]), .agg #[.int .i64 t.k, .int .i64 t.n, .string t.t, .slice A3 t.its.length c3, .slice A4 t.ks.length c4]] w (Put g r l (Jp.prt t) w)

set_option maxRecDepth 100000 in
set_option maxHeartbeats 4000000 in
theorem items_5 (n : Int) (s : ByteArray) (its : List J) (ks : List ByteArray) (ih : ∀ i (h : i < its.length), TreeP (its[i]'h)) (B g r : Nat) (l : List UInt8) (w : World) (A3 A4 : Option Addr) (c3 c4 : Nat) (hL : Laid w) (hB : 5 < B) (hBg : B ≤ g) (hBr : B ≤ r) (sn : Snk w g r l)
    (ht : TreeC w B (.mk 5 n s its ks) [.int .i64 5, .int .i64 n, .string s, .slice A3 its.length c3, .slice A4 ks.length c4]) :
    Calls Tryd.prog 35 #[(.func (.func 19) #[] #[.pointer (some ⟨g, 0, none⟩)]), .agg #[.int .i64 5, .int .i64 n, .string s, .slice A3 its.length c3, .slice A4 ks.length c4]] w (Put g r l (Jp.prts false true its []) w) := by
  have CS := cell_set
  obtain ⟨_, _, _, _, e, hc3, hc4, rt, ft⟩ := ht.out
  simp only [J.k, J.n, J.t, J.its, J.ks, List.cons.injEq, Value.slice.injEq, true_and, and_true] at e hc3 hc4 rt ft
  obtain ⟨⟨rfl, rfl⟩, rfl, rfl⟩ := e
  have hb3 := hc3.2
  have hb4 := hc4.2
  unfold maxLen at hb3 hb4
  have gl := sn.lt
  have rl := sn.rlt
  obtain ⟨P, hP⟩ : ∃ P : Nat → List UInt8, P = fun j => Jp.prts false true (its.take j) [] := ⟨_, rfl⟩
  have P0 : Hid (P 0 = []) := by show _ = _; rw [hP]; exact Jp.prts_nil _ _ _
  have PN : P its.length = Jp.prts false true its [] := by rw [hP]; show Jp.prts false true (its.take its.length) [] = _; rw [List.take_length]
  have PS : Hid (∀ j (h : j < its.length) , P (j + 1) = P j ++ ((if j = 0 then [] else [44]) ++ Jp.prt (its[j]'h))) := fun j h => by rw [hP]; exact prts_at5 h
  have PL : Hid (∀ j, (P j).length ≤ (P its.length).length) := fun j => by rw [PN, hP]; exact prts_le5
  rw [← PN]
  have RT := Lib.hid rt; have FT := Lib.hid ft; have IH := Lib.hid ih; have LW := Lib.hid hL
  clear PN hP rt ft ih hL ht hc3 hc4
  obtain ⟨ni, hni⟩ : ∃ m, m = its.length := ⟨_, rfl⟩
  obtain ⟨nk, hnk⟩ : ∃ m, m = ks.length := ⟨_, rfl⟩
  have HNI := Lib.hid hni
  rw [← hni] at hb3 PL ⊢
  rw [← hnk] at hb4 ⊢
  clear hni hnk
  have W1 : Below w.heap.size w (w.alloc (.cells #[.int .i64 5, .int .i64 n, .string s, .slice A3 ni c3, .slice A4 nk c4] 25)) := (Below.refl _ _).alloc (Nat.le_refl _) _
  have gz1 : (w.alloc (.cells #[.int .i64 5, .int .i64 n, .string s, .slice A3 ni c3, .slice A4 nk c4] 25)).heap.size = w.heap.size + 1 := by simp
  have GZ1 := Lib.hid gz1
  have A0 := Lib.hid (At8.start (sn.below W1))
  have nwg : w.heap.size ≠ g := by omega
  have nwr : w.heap.size ≠ r := by omega
  clear gz1 sn
  go_enter Tryd.func35, Tryd.ntmps35
  go_wp2_with fail
  go_loopw [10] (fun t wr => ∃ (j r' : Nat), j ≤ ni ∧ t = .int .i64 (j : Int) ∧ Hid (At8 g r l (P j) (w.alloc (.cells #[.int .i64 5, .int .i64 n, .string s, .slice A3 ni c3, .slice A4 nk c4] 25)) wr r')) (fun t _ => ni - (intOf t).toNat)
  case atStart => exact ⟨0, r, Nat.zero_le _, rfl, by show At8 _ _ _ _ _ _ _; rw [P0.out]; exact A0.out⟩
  case round =>
    obtain ⟨m, r', hm, rfl, AT⟩ := hrel
    obtain ⟨sn, hr', sv⟩ := AT.out
    rw [GZ1.out] at hr' sv
    have sq := sv.size
    rw [GZ1.out] at sq
    have bq : Below B w wr := (W1.mono (by omega)).trans (sv.bel hBg hBr (by omega))
    have hOwn := Nat.lt_of_lt_of_le (n := w.heap.size) (by first | exact Nat.le_refl _ | assumption | (simp; done) | (simp; omega) | omega) (Mem.Sav.size sv)
    have hOwn1 := Nat.ne_of_gt hOwn
    have hOwn2 := Nat.ne_of_lt hOwn
    have hOwn := (Mem.Sav.cell sv (p := ⟨w.heap.size, 0, none⟩) (by first | exact Nat.le_refl _ | assumption | (simp; done) | (simp; omega) | omega) (by first | assumption | (simp; done) | (simp; omega) | omega) (by first | assumption | (simp; done) | (simp; omega) | omega)).trans (by go_simp; rfl)
    have hOwn := (Mem.Sav.cell sv (p := ⟨w.heap.size, 1, none⟩) (by first | exact Nat.le_refl _ | assumption | (simp; done) | (simp; omega) | omega) (by first | assumption | (simp; done) | (simp; omega) | omega) (by first | assumption | (simp; done) | (simp; omega) | omega)).trans (by go_simp; rfl)
    have hOwn := (Mem.Sav.cell sv (p := ⟨w.heap.size, 2, none⟩) (by first | exact Nat.le_refl _ | assumption | (simp; done) | (simp; omega) | omega) (by first | assumption | (simp; done) | (simp; omega) | omega) (by first | assumption | (simp; done) | (simp; omega) | omega)).trans (by go_simp; rfl)
    have hOwn := (Mem.Sav.cell sv (p := ⟨w.heap.size, 3, none⟩) (by first | exact Nat.le_refl _ | assumption | (simp; done) | (simp; omega) | omega) (by first | assumption | (simp; done) | (simp; omega) | omega) (by first | assumption | (simp; done) | (simp; omega) | omega)).trans (by go_simp; rfl)
    have hOwn := (Mem.Sav.cell sv (p := ⟨w.heap.size, 4, none⟩) (by first | exact Nat.le_refl _ | assumption | (simp; done) | (simp; omega) | omega) (by first | assumption | (simp; done) | (simp; omega) | omega) (by first | assumption | (simp; done) | (simp; omega) | omega)).trans (by go_simp; rfl)
    have hOwn := (Mem.Sav.frozen sv (p := ⟨w.heap.size, 0, none⟩) (by first | exact Nat.le_refl _ | assumption | (simp; done) | (simp; omega) | omega) (by first | assumption | (simp; done) | (simp; omega) | omega) (by first | assumption | (simp; done) | (simp; omega) | omega)).trans (by go_simp; rfl)
    have hOwn := (Mem.Sav.frozen sv (p := ⟨w.heap.size, 1, none⟩) (by first | exact Nat.le_refl _ | assumption | (simp; done) | (simp; omega) | omega) (by first | assumption | (simp; done) | (simp; omega) | omega) (by first | assumption | (simp; done) | (simp; omega) | omega)).trans (by go_simp; rfl)
    have hOwn := (Mem.Sav.frozen sv (p := ⟨w.heap.size, 2, none⟩) (by first | exact Nat.le_refl _ | assumption | (simp; done) | (simp; omega) | omega) (by first | assumption | (simp; done) | (simp; omega) | omega) (by first | assumption | (simp; done) | (simp; omega) | omega)).trans (by go_simp; rfl)
    have hOwn := (Mem.Sav.frozen sv (p := ⟨w.heap.size, 3, none⟩) (by first | exact Nat.le_refl _ | assumption | (simp; done) | (simp; omega) | omega) (by first | assumption | (simp; done) | (simp; omega) | omega) (by first | assumption | (simp; done) | (simp; omega) | omega)).trans (by go_simp; rfl)
    have hOwn := (Mem.Sav.frozen sv (p := ⟨w.heap.size, 4, none⟩) (by first | exact Nat.le_refl _ | assumption | (simp; done) | (simp; omega) | omega) (by first | assumption | (simp; done) | (simp; omega) | omega) (by first | assumption | (simp; done) | (simp; omega) | omega)).trans (by go_simp; rfl)
    by_cases hmk : m < ni
    · have h1 : m < its.length := by rw [← HNI.out]; exact hmk
      obtain ⟨b1, o1, X3, x3, X4, x4, e1, hb1, y0, y1, y2, y3, y4, ty⟩ := (RT.out.below bq).cells h1
      have TY := Lib.hid ty
      have PS1 := PS.out m h1
      have LE : Hid ((P (m + 1)).length ≤ (P ni).length) := PL.out (m + 1)
      have TP := Lib.hid (IH.out m h1)
      generalize its[m]'h1 = T at *
      subst e1
      have lb1 : b1 < B := hb1
      have nb1 : b1 ≠ wr.heap.size := by omega
      have ng : wr.heap.size ≠ g := by omega
      have nr : wr.heap.size ≠ r' := by have := sn.rlt; omega
      have nr0 : w.heap.size ≠ r' := by omega
      have hBr' : B ≤ r' := by omega
      have SN := Lib.hid sn
      clear ty h1  sv sn
      by_cases m0 : m = 0
      · rw [if_pos m0, List.nil_append] at PS1
        subst m0
        have EQ : Hid (_ = P (0 + 1)) := PS1.symm
        simp only [Nat.zero_mul, Nat.add_zero] at y0 y1 y2 y3 y4 
        clear PS1
        have TR : Hid (∀ W, Below wr.heap.size wr W → Calls Tryd.prog 20 #[(.func (.func 19) #[] #[.pointer (some ⟨g, 0, none⟩)]), .agg #[.int .i64 T.k, .int .i64 T.n, .string T.t, .slice X3 T.its.length x3, .slice X4 T.ks.length x4]] W (Put g r' (l ++ P 0) (Jp.prt T) W)) := fun W b =>
          TP.out B g r' _ W X3 X4 x3 x4 ((LW.out.below bq hB).below b (by omega)) hB hBg hBr' (SN.out.below b) (TY.out.below (b.mono (by omega)))
        go_wp2_with fail
        with_reducible refine (TR.out _ (by (repeat' (first | with_reducible assumption | with_reducible exact Below.refl _ _ | (with_reducible refine Below.alloc ?_ ?_ _; rotate_left; focus ((first | exact Nat.le_refl _ | (simp; done) | (simp; omega) | omega | fail))) | (with_reducible refine Below.setCell ?_ ?_ _; rotate_left; focus ((first | exact Nat.le_refl _ | (simp; done) | (simp; omega) | omega | fail))) | with_reducible refine Mem.bel_drewN ?_ _ | with_reducible refine Below.drew ?_ | (with_reducible refine Mem.bel_call (by with_reducible assumption) ?_ ?_; focus ((first | exact Nat.le_refl _ | (simp; done) | (simp; omega) | omega | fail))) | fail)))).mono ?_
        rintro e w2 (⟨h2, rfl, r2, S2, hr2, v2⟩ | ⟨h2, rfl, v2⟩)
        · have AE := AT.out.step (by (repeat' (first | with_reducible assumption | with_reducible exact Below.refl _ _ | (with_reducible refine Below.alloc ?_ ?_ _; rotate_left; focus ((first | exact Nat.le_refl _ | (simp; done) | (simp; omega) | omega | fail))) | (with_reducible refine Below.setCell ?_ ?_ _; rotate_left; focus ((first | exact Nat.le_refl _ | (simp; done) | (simp; omega) | omega | fail))) | with_reducible refine Mem.bel_drewN ?_ _ | with_reducible refine Below.drew ?_ | (with_reducible refine Mem.bel_call (by with_reducible assumption) ?_ ?_; focus ((first | exact Nat.le_refl _ | (simp; done) | (simp; omega) | omega | fail))) | fail))) S2 hr2 v2
          rw [EQ.out] at AE
          have A2 := Lib.hid AE
          clear AE S2 hr2 v2
          go_wp2_with fail
          go_roundw
          case rel => exact ⟨0 + 1, r2, by omega, by go_num, A2⟩
          case measure => simp [intOf]; omega
        · have FA := Lib.hid (Put.after W1 (AT.out.fail (by (repeat' (first | with_reducible assumption | with_reducible exact Below.refl _ _ | (with_reducible refine Below.alloc ?_ ?_ _; rotate_left; focus ((first | exact Nat.le_refl _ | (simp; done) | (simp; omega) | omega | fail))) | (with_reducible refine Below.setCell ?_ ?_ _; rotate_left; focus ((first | exact Nat.le_refl _ | (simp; done) | (simp; omega) | omega | fail))) | with_reducible refine Mem.bel_drewN ?_ _ | with_reducible refine Below.drew ?_ | (with_reducible refine Mem.bel_call (by with_reducible assumption) ?_ ?_; focus ((first | exact Nat.le_refl _ | (simp; done) | (simp; omega) | omega | fail))) | fail))) v2 h2 (M := P ni) (by have := LE.out; rw [← EQ.out] at this; simp only [List.length_append] at this ⊢; omega)))
          clear v2
          go_wp2_with fail
          go_ret
          exact FA.out
      · rw [if_neg m0] at PS1
        have EQ : Hid (_ = P (m + 1)) := PS1.symm
        have q0 : (0 : Int) < (m : Int) := by omega
        clear PS1
        have PC : Hid (∀ W, Below wr.heap.size wr W → Calls Tryd.prog 19 #[.string ⟨#[44]⟩, .pointer (some ⟨g, 0, none⟩)] W (Put g r' (l ++ P m) [44] W)) := fun W b => put_any g r' _ ⟨#[44]⟩ [44] rfl W (SN.out.below b)
        rw [← List.append_assoc] at EQ
        go_wp2_with fail
        with_reducible refine (PC.out _ (by (repeat' (first | with_reducible assumption | with_reducible exact Below.refl _ _ | (with_reducible refine Below.alloc ?_ ?_ _; rotate_left; focus ((first | exact Nat.le_refl _ | (simp; done) | (simp; omega) | omega | fail))) | (with_reducible refine Below.setCell ?_ ?_ _; rotate_left; focus ((first | exact Nat.le_refl _ | (simp; done) | (simp; omega) | omega | fail))) | with_reducible refine Mem.bel_drewN ?_ _ | with_reducible refine Below.drew ?_ | (with_reducible refine Mem.bel_call (by with_reducible assumption) ?_ ?_; focus ((first | exact Nat.le_refl _ | (simp; done) | (simp; omega) | omega | fail))) | fail)))).mono ?_
        rintro e w2 (⟨h2, rfl, r2, S2, hr2, v2⟩ | ⟨h2, rfl, v2⟩)
        · have A2 := Lib.hid (AT.out.step (by (repeat' (first | with_reducible assumption | with_reducible exact Below.refl _ _ | (with_reducible refine Below.alloc ?_ ?_ _; rotate_left; focus ((first | exact Nat.le_refl _ | (simp; done) | (simp; omega) | omega | fail))) | (with_reducible refine Below.setCell ?_ ?_ _; rotate_left; focus ((first | exact Nat.le_refl _ | (simp; done) | (simp; omega) | omega | fail))) | with_reducible refine Mem.bel_drewN ?_ _ | with_reducible refine Below.drew ?_ | (with_reducible refine Mem.bel_call (by with_reducible assumption) ?_ ?_; focus ((first | exact Nat.le_refl _ | (simp; done) | (simp; omega) | omega | fail))) | fail))) S2 hr2 v2)
          have z2 := v2.size
          simp at z2 hr2
          have b2 := v2.bel (B' := B) hBg hBr' (by simp; omega)
          have br2 : Below B wr w2 := by (repeat' (first | with_reducible assumption | with_reducible exact Below.refl _ _ | (with_reducible refine Below.alloc ?_ ?_ _; rotate_left; focus ((first | exact Nat.le_refl _ | (simp; done) | (simp; omega) | omega | fail))) | (with_reducible refine Below.setCell ?_ ?_ _; rotate_left; focus ((first | exact Nat.le_refl _ | (simp; done) | (simp; omega) | omega | fail))) | with_reducible refine Mem.bel_drewN ?_ _ | with_reducible refine Below.drew ?_ | (with_reducible refine Mem.bel_call (by with_reducible assumption) ?_ ?_; focus ((first | exact Nat.le_refl _ | (simp; done) | (simp; omega) | omega | fail))) | fail))
          have bw2 : Below B w w2 := bq.trans br2
          have n2 : wr.heap.size ≠ r2 := by omega
          have n20 : w.heap.size ≠ r2 := by omega
          have hBr2 : B ≤ r2 := by omega
          have hOwn := Nat.lt_of_lt_of_le (n := wr.heap.size) (by first | exact Nat.le_refl _ | assumption | (simp; done) | (simp; omega) | omega) (Mem.Sav.size v2)
          have hOwn1 := Nat.ne_of_gt hOwn
          have hOwn2 := Nat.ne_of_lt hOwn
          have hOwn := (Mem.Sav.cell v2 (p := ⟨wr.heap.size, 0, none⟩) (by first | exact Nat.le_refl _ | assumption | (simp; done) | (simp; omega) | omega) (by first | assumption | (simp; done) | (simp; omega) | omega) (by first | assumption | (simp; done) | (simp; omega) | omega)).trans (by go_simp; rfl)
          have hOwn := (Mem.Sav.cell v2 (p := ⟨wr.heap.size, 1, none⟩) (by first | exact Nat.le_refl _ | assumption | (simp; done) | (simp; omega) | omega) (by first | assumption | (simp; done) | (simp; omega) | omega) (by first | assumption | (simp; done) | (simp; omega) | omega)).trans (by go_simp; rfl)
          have hOwn := (Mem.Sav.cell v2 (p := ⟨wr.heap.size, 2, none⟩) (by first | exact Nat.le_refl _ | assumption | (simp; done) | (simp; omega) | omega) (by first | assumption | (simp; done) | (simp; omega) | omega) (by first | assumption | (simp; done) | (simp; omega) | omega)).trans (by go_simp; rfl)
          have hOwn := (Mem.Sav.cell v2 (p := ⟨wr.heap.size, 3, none⟩) (by first | exact Nat.le_refl _ | assumption | (simp; done) | (simp; omega) | omega) (by first | assumption | (simp; done) | (simp; omega) | omega) (by first | assumption | (simp; done) | (simp; omega) | omega)).trans (by go_simp; rfl)
          have hOwn := (Mem.Sav.cell v2 (p := ⟨wr.heap.size, 4, none⟩) (by first | exact Nat.le_refl _ | assumption | (simp; done) | (simp; omega) | omega) (by first | assumption | (simp; done) | (simp; omega) | omega) (by first | assumption | (simp; done) | (simp; omega) | omega)).trans (by go_simp; rfl)
          have hOwn := (Mem.Sav.frozen v2 (p := ⟨wr.heap.size, 0, none⟩) (by first | exact Nat.le_refl _ | assumption | (simp; done) | (simp; omega) | omega) (by first | assumption | (simp; done) | (simp; omega) | omega) (by first | assumption | (simp; done) | (simp; omega) | omega)).trans (by go_simp; rfl)
          have hOwn := (Mem.Sav.frozen v2 (p := ⟨wr.heap.size, 1, none⟩) (by first | exact Nat.le_refl _ | assumption | (simp; done) | (simp; omega) | omega) (by first | assumption | (simp; done) | (simp; omega) | omega) (by first | assumption | (simp; done) | (simp; omega) | omega)).trans (by go_simp; rfl)
          have hOwn := (Mem.Sav.frozen v2 (p := ⟨wr.heap.size, 2, none⟩) (by first | exact Nat.le_refl _ | assumption | (simp; done) | (simp; omega) | omega) (by first | assumption | (simp; done) | (simp; omega) | omega) (by first | assumption | (simp; done) | (simp; omega) | omega)).trans (by go_simp; rfl)
          have hOwn := (Mem.Sav.frozen v2 (p := ⟨wr.heap.size, 3, none⟩) (by first | exact Nat.le_refl _ | assumption | (simp; done) | (simp; omega) | omega) (by first | assumption | (simp; done) | (simp; omega) | omega) (by first | assumption | (simp; done) | (simp; omega) | omega)).trans (by go_simp; rfl)
          have hOwn := (Mem.Sav.frozen v2 (p := ⟨wr.heap.size, 4, none⟩) (by first | exact Nat.le_refl _ | assumption | (simp; done) | (simp; omega) | omega) (by first | assumption | (simp; done) | (simp; omega) | omega) (by first | assumption | (simp; done) | (simp; omega) | omega)).trans (by go_simp; rfl)
          have hOwn := Nat.lt_of_lt_of_le (n := w.heap.size) (by first | exact Nat.le_refl _ | assumption | (simp; done) | (simp; omega) | omega) (Mem.Sav.size v2)
          have hOwn1 := Nat.ne_of_gt hOwn
          have hOwn2 := Nat.ne_of_lt hOwn
          have hOwn := (Mem.Sav.cell v2 (p := ⟨w.heap.size, 0, none⟩) (by first | exact Nat.le_refl _ | assumption | (simp; done) | (simp; omega) | omega) (by first | assumption | (simp; done) | (simp; omega) | omega) (by first | assumption | (simp; done) | (simp; omega) | omega)).trans (by go_simp; rfl)
          have hOwn := (Mem.Sav.cell v2 (p := ⟨w.heap.size, 1, none⟩) (by first | exact Nat.le_refl _ | assumption | (simp; done) | (simp; omega) | omega) (by first | assumption | (simp; done) | (simp; omega) | omega) (by first | assumption | (simp; done) | (simp; omega) | omega)).trans (by go_simp; rfl)
          have hOwn := (Mem.Sav.cell v2 (p := ⟨w.heap.size, 2, none⟩) (by first | exact Nat.le_refl _ | assumption | (simp; done) | (simp; omega) | omega) (by first | assumption | (simp; done) | (simp; omega) | omega) (by first | assumption | (simp; done) | (simp; omega) | omega)).trans (by go_simp; rfl)
          have hOwn := (Mem.Sav.cell v2 (p := ⟨w.heap.size, 3, none⟩) (by first | exact Nat.le_refl _ | assumption | (simp; done) | (simp; omega) | omega) (by first | assumption | (simp; done) | (simp; omega) | omega) (by first | assumption | (simp; done) | (simp; omega) | omega)).trans (by go_simp; rfl)
          have hOwn := (Mem.Sav.cell v2 (p := ⟨w.heap.size, 4, none⟩) (by first | exact Nat.le_refl _ | assumption | (simp; done) | (simp; omega) | omega) (by first | assumption | (simp; done) | (simp; omega) | omega) (by first | assumption | (simp; done) | (simp; omega) | omega)).trans (by go_simp; rfl)
          have hOwn := (Mem.Sav.frozen v2 (p := ⟨w.heap.size, 0, none⟩) (by first | exact Nat.le_refl _ | assumption | (simp; done) | (simp; omega) | omega) (by first | assumption | (simp; done) | (simp; omega) | omega) (by first | assumption | (simp; done) | (simp; omega) | omega)).trans (by go_simp; rfl)
          have hOwn := (Mem.Sav.frozen v2 (p := ⟨w.heap.size, 1, none⟩) (by first | exact Nat.le_refl _ | assumption | (simp; done) | (simp; omega) | omega) (by first | assumption | (simp; done) | (simp; omega) | omega) (by first | assumption | (simp; done) | (simp; omega) | omega)).trans (by go_simp; rfl)
          have hOwn := (Mem.Sav.frozen v2 (p := ⟨w.heap.size, 2, none⟩) (by first | exact Nat.le_refl _ | assumption | (simp; done) | (simp; omega) | omega) (by first | assumption | (simp; done) | (simp; omega) | omega) (by first | assumption | (simp; done) | (simp; omega) | omega)).trans (by go_simp; rfl)
          have hOwn := (Mem.Sav.frozen v2 (p := ⟨w.heap.size, 3, none⟩) (by first | exact Nat.le_refl _ | assumption | (simp; done) | (simp; omega) | omega) (by first | assumption | (simp; done) | (simp; omega) | omega) (by first | assumption | (simp; done) | (simp; omega) | omega)).trans (by go_simp; rfl)
          have hOwn := (Mem.Sav.frozen v2 (p := ⟨w.heap.size, 4, none⟩) (by first | exact Nat.le_refl _ | assumption | (simp; done) | (simp; omega) | omega) (by first | assumption | (simp; done) | (simp; omega) | omega) (by first | assumption | (simp; done) | (simp; omega) | omega)).trans (by go_simp; rfl)
          clear S2 v2
          have TR := Lib.hid (TP.out B g r2 _ w2 X3 X4 x3 x4 (LW.out.below bw2 hB) hB hBg hBr2 A2.out.1 (TY.out.below br2))
          go_wp2_with fail
          with_reducible refine TR.out.mono ?_
          rintro e w3 (⟨h3, rfl, r3, S3, hr3, v3⟩ | ⟨h3, rfl, v3⟩)
          · have AE := A2.out.step (Below.refl _ _) S3 hr3 v3
            rw [EQ.out] at AE
            have A3 := Lib.hid AE
            clear AE S3 hr3 v3
            go_wp2_with fail
            go_roundw
            case rel => exact ⟨m + 1, r3, by omega, by go_num, A3⟩
            case measure => simp [intOf]; omega
          · have FA := Lib.hid (Put.after W1 (A2.out.fail (Below.refl _ _) v3 h3 (M := P ni) (by have := LE.out; rw [← EQ.out] at this; simp only [List.length_append, List.length_cons, List.length_nil] at this ⊢; omega)))
            clear v3
            go_wp2_with fail
            go_ret
            exact FA.out
        · have FA := Lib.hid (Put.after W1 (AT.out.fail (by (repeat' (first | with_reducible assumption | with_reducible exact Below.refl _ _ | (with_reducible refine Below.alloc ?_ ?_ _; rotate_left; focus ((first | exact Nat.le_refl _ | (simp; done) | (simp; omega) | omega | fail))) | (with_reducible refine Below.setCell ?_ ?_ _; rotate_left; focus ((first | exact Nat.le_refl _ | (simp; done) | (simp; omega) | omega | fail))) | with_reducible refine Mem.bel_drewN ?_ _ | with_reducible refine Below.drew ?_ | (with_reducible refine Mem.bel_call (by with_reducible assumption) ?_ ?_; focus ((first | exact Nat.le_refl _ | (simp; done) | (simp; omega) | omega | fail))) | fail))) v2 h2 (M := P ni) (by have := LE.out; rw [← EQ.out] at this; simp only [List.length_append, List.length_cons, List.length_nil] at this ⊢; omega)))
          clear v2
          go_wp2_with fail
          go_ret
          exact FA.out
    · obtain rfl : m = ni := by omega
      have FA := Lib.hid (Put.after W1 AT.out.done)
      clear hmk sn
      go_wp2_with fail
      go_ret
      exact FA.out

set_option maxRecDepth 100000 in
set_option maxHeartbeats 4000000 in
theorem items_6 (n : Int) (s : ByteArray) (its : List J) (ks : List ByteArray) (hlen : ks.length = its.length) (ih : ∀ i (h : i < its.length), TreeP (its[i]'h)) (B g r : Nat) (l : List UInt8) (w : World) (A3 A4 : Option Addr) (c3 c4 : Nat) (hL : Laid w) (hB : 5 < B) (hBg : B ≤ g) (hBr : B ≤ r) (sn : Snk w g r l)
    (ht : TreeC w B (.mk 6 n s its ks) [.int .i64 6, .int .i64 n, .string s, .slice A3 its.length c3, .slice A4 ks.length c4]) :
    Calls Tryd.prog 35 #[(.func (.func 19) #[] #[.pointer (some ⟨g, 0, none⟩)]), .agg #[.int .i64 6, .int .i64 n, .string s, .slice A3 its.length c3, .slice A4 ks.length c4]] w (Put g r l (Jp.prts true true its ks) w) := by
  have CS := cell_set
  obtain ⟨_, _, _, _, e, hc3, hc4, rt, ft⟩ := ht.out
  simp only [J.k, J.n, J.t, J.its, J.ks, List.cons.injEq, Value.slice.injEq, true_and, and_true] at e hc3 hc4 rt ft
  obtain ⟨⟨rfl, rfl⟩, rfl, rfl⟩ := e
  have hb3 := hc3.2
  have hb4 := hc4.2
  unfold maxLen at hb3 hb4
  have gl := sn.lt
  have rl := sn.rlt
  obtain ⟨P, hP⟩ : ∃ P : Nat → List UInt8, P = fun j => Jp.prts true true (its.take j) (ks.take j) := ⟨_, rfl⟩
  have P0 : Hid (P 0 = []) := by show _ = _; rw [hP]; exact Jp.prts_nil _ _ _
  have PN : P its.length = Jp.prts true true its ks := by rw [hP]; show Jp.prts true true (its.take its.length) (ks.take its.length) = _; rw [List.take_length, ← hlen, List.take_length]
  have PS : Hid (∀ j (h : j < its.length) (h2 : j < ks.length) , P (j + 1) = P j ++ ((if j = 0 then [] else [44]) ++ ((Jx.quo (ks[j]'h2).data.toList ++ [58]) ++ Jp.prt (its[j]'h)))) := fun j h h2 => by rw [hP]; exact prts_at6 h h2
  have PL : Hid (∀ j, (P j).length ≤ (P its.length).length) := fun j => by rw [PN, hP]; exact prts_le6 hlen
  rw [← PN]
  have RT := Lib.hid rt; have FT := Lib.hid ft; have IH := Lib.hid ih; have LW := Lib.hid hL
  clear PN hP rt ft ih hL ht hc3 hc4
  obtain ⟨ni, hni⟩ : ∃ m, m = its.length := ⟨_, rfl⟩
  obtain ⟨nk, hnk⟩ : ∃ m, m = ks.length := ⟨_, rfl⟩
  have HNI := Lib.hid hni
  have HNK : Hid (ks.length = its.length) := hlen
  have lnk : nk = ni := by omega
  rw [← hni] at hb3 PL ⊢
  rw [← hnk] at hb4 ⊢
  clear hni hnk hlen
  obtain rfl := lnk.symm
  have W1 : Below w.heap.size w (w.alloc (.cells #[.int .i64 6, .int .i64 n, .string s, .slice A3 ni c3, .slice A4 ni c4] 25)) := (Below.refl _ _).alloc (Nat.le_refl _) _
  have gz1 : (w.alloc (.cells #[.int .i64 6, .int .i64 n, .string s, .slice A3 ni c3, .slice A4 ni c4] 25)).heap.size = w.heap.size + 1 := by simp
  have GZ1 := Lib.hid gz1
  have A0 := Lib.hid (At8.start (sn.below W1))
  have nwg : w.heap.size ≠ g := by omega
  have nwr : w.heap.size ≠ r := by omega
  clear gz1 sn
  go_enter Tryd.func35, Tryd.ntmps35
  go_wp2_with fail
  go_loopw [10] (fun t wr => ∃ (j r' : Nat), j ≤ ni ∧ t = .int .i64 (j : Int) ∧ Hid (At8 g r l (P j) (w.alloc (.cells #[.int .i64 6, .int .i64 n, .string s, .slice A3 ni c3, .slice A4 ni c4] 25)) wr r')) (fun t _ => ni - (intOf t).toNat)
  case atStart => exact ⟨0, r, Nat.zero_le _, rfl, by show At8 _ _ _ _ _ _ _; rw [P0.out]; exact A0.out⟩
  case round =>
    obtain ⟨m, r', hm, rfl, AT⟩ := hrel
    obtain ⟨sn, hr', sv⟩ := AT.out
    rw [GZ1.out] at hr' sv
    have sq := sv.size
    rw [GZ1.out] at sq
    have bq : Below B w wr := (W1.mono (by omega)).trans (sv.bel hBg hBr (by omega))
    have hOwn := Nat.lt_of_lt_of_le (n := w.heap.size) (by first | exact Nat.le_refl _ | assumption | (simp; done) | (simp; omega) | omega) (Mem.Sav.size sv)
    have hOwn1 := Nat.ne_of_gt hOwn
    have hOwn2 := Nat.ne_of_lt hOwn
    have hOwn := (Mem.Sav.cell sv (p := ⟨w.heap.size, 0, none⟩) (by first | exact Nat.le_refl _ | assumption | (simp; done) | (simp; omega) | omega) (by first | assumption | (simp; done) | (simp; omega) | omega) (by first | assumption | (simp; done) | (simp; omega) | omega)).trans (by go_simp; rfl)
    have hOwn := (Mem.Sav.cell sv (p := ⟨w.heap.size, 1, none⟩) (by first | exact Nat.le_refl _ | assumption | (simp; done) | (simp; omega) | omega) (by first | assumption | (simp; done) | (simp; omega) | omega) (by first | assumption | (simp; done) | (simp; omega) | omega)).trans (by go_simp; rfl)
    have hOwn := (Mem.Sav.cell sv (p := ⟨w.heap.size, 2, none⟩) (by first | exact Nat.le_refl _ | assumption | (simp; done) | (simp; omega) | omega) (by first | assumption | (simp; done) | (simp; omega) | omega) (by first | assumption | (simp; done) | (simp; omega) | omega)).trans (by go_simp; rfl)
    have hOwn := (Mem.Sav.cell sv (p := ⟨w.heap.size, 3, none⟩) (by first | exact Nat.le_refl _ | assumption | (simp; done) | (simp; omega) | omega) (by first | assumption | (simp; done) | (simp; omega) | omega) (by first | assumption | (simp; done) | (simp; omega) | omega)).trans (by go_simp; rfl)
    have hOwn := (Mem.Sav.cell sv (p := ⟨w.heap.size, 4, none⟩) (by first | exact Nat.le_refl _ | assumption | (simp; done) | (simp; omega) | omega) (by first | assumption | (simp; done) | (simp; omega) | omega) (by first | assumption | (simp; done) | (simp; omega) | omega)).trans (by go_simp; rfl)
    have hOwn := (Mem.Sav.frozen sv (p := ⟨w.heap.size, 0, none⟩) (by first | exact Nat.le_refl _ | assumption | (simp; done) | (simp; omega) | omega) (by first | assumption | (simp; done) | (simp; omega) | omega) (by first | assumption | (simp; done) | (simp; omega) | omega)).trans (by go_simp; rfl)
    have hOwn := (Mem.Sav.frozen sv (p := ⟨w.heap.size, 1, none⟩) (by first | exact Nat.le_refl _ | assumption | (simp; done) | (simp; omega) | omega) (by first | assumption | (simp; done) | (simp; omega) | omega) (by first | assumption | (simp; done) | (simp; omega) | omega)).trans (by go_simp; rfl)
    have hOwn := (Mem.Sav.frozen sv (p := ⟨w.heap.size, 2, none⟩) (by first | exact Nat.le_refl _ | assumption | (simp; done) | (simp; omega) | omega) (by first | assumption | (simp; done) | (simp; omega) | omega) (by first | assumption | (simp; done) | (simp; omega) | omega)).trans (by go_simp; rfl)
    have hOwn := (Mem.Sav.frozen sv (p := ⟨w.heap.size, 3, none⟩) (by first | exact Nat.le_refl _ | assumption | (simp; done) | (simp; omega) | omega) (by first | assumption | (simp; done) | (simp; omega) | omega) (by first | assumption | (simp; done) | (simp; omega) | omega)).trans (by go_simp; rfl)
    have hOwn := (Mem.Sav.frozen sv (p := ⟨w.heap.size, 4, none⟩) (by first | exact Nat.le_refl _ | assumption | (simp; done) | (simp; omega) | omega) (by first | assumption | (simp; done) | (simp; omega) | omega) (by first | assumption | (simp; done) | (simp; omega) | omega)).trans (by go_simp; rfl)
    by_cases hmk : m < ni
    · have h1 : m < its.length := by rw [← HNI.out]; exact hmk
      obtain ⟨b1, o1, X3, x3, X4, x4, e1, hb1, y0, y1, y2, y3, y4, ty⟩ := (RT.out.below bq).cells h1
      have TY := Lib.hid ty
      have h2 : m < ks.length := by rw [HNK.out]; exact h1
      obtain ⟨b8, o8, e8, hb8, z0⟩ := fl_str FT.out h2
      have z0' := Lib.hid z0
      have zq := (bq.cell (p := ⟨b8, o8 + m, none⟩) hb8).trans z0
      have PS1 := PS.out m h1 h2
      have LE : Hid ((P (m + 1)).length ≤ (P ni).length) := PL.out (m + 1)
      have TP := Lib.hid (IH.out m h1)
      generalize ks[m]'h2 = Y at *
      generalize its[m]'h1 = T at *
      subst e1
      subst e8
      have lb1 : b1 < B := hb1
      have nb1 : b1 ≠ wr.heap.size := by omega
      have lb8 : b8 < B := hb8
      have nb8 : b8 < wr.heap.size := by omega
      have ng : wr.heap.size ≠ g := by omega
      have nr : wr.heap.size ≠ r' := by have := sn.rlt; omega
      have nr0 : w.heap.size ≠ r' := by omega
      have hBr' : B ≤ r' := by omega
      have SN := Lib.hid sn
      clear ty h1 h2 z0 sv sn
      by_cases m0 : m = 0
      · rw [if_pos m0, List.nil_append] at PS1
        subst m0
        have EQ : Hid (_ = P (0 + 1)) := PS1.symm
        simp only [Nat.zero_mul, Nat.add_zero] at y0 y1 y2 y3 y4 zq
        clear PS1
        have KC : Hid (∀ W, Below wr.heap.size wr W → Calls Tryd.prog 50 #[(.func (.func 19) #[] #[.pointer (some ⟨g, 0, none⟩)]), .string Y] W (Put g r' (l ++ P 0) (Jx.quo Y.data.toList ++ [58]) W)) := fun W b => pkey_any g r' _ Y W (SN.out.below b)
        rw [← List.append_assoc] at EQ
        go_wp2_with fail
        with_reducible refine (KC.out _ (by (repeat' (first | with_reducible assumption | with_reducible exact Below.refl _ _ | (with_reducible refine Below.alloc ?_ ?_ _; rotate_left; focus ((first | exact Nat.le_refl _ | (simp; done) | (simp; omega) | omega | fail))) | (with_reducible refine Below.setCell ?_ ?_ _; rotate_left; focus ((first | exact Nat.le_refl _ | (simp; done) | (simp; omega) | omega | fail))) | with_reducible refine Mem.bel_drewN ?_ _ | with_reducible refine Below.drew ?_ | (with_reducible refine Mem.bel_call (by with_reducible assumption) ?_ ?_; focus ((first | exact Nat.le_refl _ | (simp; done) | (simp; omega) | omega | fail))) | fail)))).mono ?_
        rintro e w2 (⟨h2, rfl, r2, S2, hr2, v2⟩ | ⟨h2, rfl, v2⟩)
        · have A2 := Lib.hid (AT.out.step (by (repeat' (first | with_reducible assumption | with_reducible exact Below.refl _ _ | (with_reducible refine Below.alloc ?_ ?_ _; rotate_left; focus ((first | exact Nat.le_refl _ | (simp; done) | (simp; omega) | omega | fail))) | (with_reducible refine Below.setCell ?_ ?_ _; rotate_left; focus ((first | exact Nat.le_refl _ | (simp; done) | (simp; omega) | omega | fail))) | with_reducible refine Mem.bel_drewN ?_ _ | with_reducible refine Below.drew ?_ | (with_reducible refine Mem.bel_call (by with_reducible assumption) ?_ ?_; focus ((first | exact Nat.le_refl _ | (simp; done) | (simp; omega) | omega | fail))) | fail))) S2 hr2 v2)
          have z2 := v2.size
          simp at z2 hr2
          have b2 := v2.bel (B' := B) hBg hBr' (by simp; omega)
          have br2 : Below B wr w2 := by (repeat' (first | with_reducible assumption | with_reducible exact Below.refl _ _ | (with_reducible refine Below.alloc ?_ ?_ _; rotate_left; focus ((first | exact Nat.le_refl _ | (simp; done) | (simp; omega) | omega | fail))) | (with_reducible refine Below.setCell ?_ ?_ _; rotate_left; focus ((first | exact Nat.le_refl _ | (simp; done) | (simp; omega) | omega | fail))) | with_reducible refine Mem.bel_drewN ?_ _ | with_reducible refine Below.drew ?_ | (with_reducible refine Mem.bel_call (by with_reducible assumption) ?_ ?_; focus ((first | exact Nat.le_refl _ | (simp; done) | (simp; omega) | omega | fail))) | fail))
          have bw2 : Below B w w2 := bq.trans br2
          have TR := Lib.hid (TP.out B g r2 _ w2 X3 X4 x3 x4 (LW.out.below bw2 hB) hB hBg (by omega) A2.out.1 (TY.out.below br2))
          have n2 : wr.heap.size ≠ r2 := by omega
          have n20 : w.heap.size ≠ r2 := by omega
          have hOwn := Nat.lt_of_lt_of_le (n := wr.heap.size) (by first | exact Nat.le_refl _ | assumption | (simp; done) | (simp; omega) | omega) (Mem.Sav.size v2)
          have hOwn1 := Nat.ne_of_gt hOwn
          have hOwn2 := Nat.ne_of_lt hOwn
          have hOwn := (Mem.Sav.cell v2 (p := ⟨wr.heap.size, 0, none⟩) (by first | exact Nat.le_refl _ | assumption | (simp; done) | (simp; omega) | omega) (by first | assumption | (simp; done) | (simp; omega) | omega) (by first | assumption | (simp; done) | (simp; omega) | omega)).trans (by go_simp; rfl)
          have hOwn := (Mem.Sav.cell v2 (p := ⟨wr.heap.size, 1, none⟩) (by first | exact Nat.le_refl _ | assumption | (simp; done) | (simp; omega) | omega) (by first | assumption | (simp; done) | (simp; omega) | omega) (by first | assumption | (simp; done) | (simp; omega) | omega)).trans (by go_simp; rfl)
          have hOwn := (Mem.Sav.cell v2 (p := ⟨wr.heap.size, 2, none⟩) (by first | exact Nat.le_refl _ | assumption | (simp; done) | (simp; omega) | omega) (by first | assumption | (simp; done) | (simp; omega) | omega) (by first | assumption | (simp; done) | (simp; omega) | omega)).trans (by go_simp; rfl)
          have hOwn := (Mem.Sav.cell v2 (p := ⟨wr.heap.size, 3, none⟩) (by first | exact Nat.le_refl _ | assumption | (simp; done) | (simp; omega) | omega) (by first | assumption | (simp; done) | (simp; omega) | omega) (by first | assumption | (simp; done) | (simp; omega) | omega)).trans (by go_simp; rfl)
          have hOwn := (Mem.Sav.cell v2 (p := ⟨wr.heap.size, 4, none⟩) (by first | exact Nat.le_refl _ | assumption | (simp; done) | (simp; omega) | omega) (by first | assumption | (simp; done) | (simp; omega) | omega) (by first | assumption | (simp; done) | (simp; omega) | omega)).trans (by go_simp; rfl)
          have hOwn := (Mem.Sav.frozen v2 (p := ⟨wr.heap.size, 0, none⟩) (by first | exact Nat.le_refl _ | assumption | (simp; done) | (simp; omega) | omega) (by first | assumption | (simp; done) | (simp; omega) | omega) (by first | assumption | (simp; done) | (simp; omega) | omega)).trans (by go_simp; rfl)
          have hOwn := (Mem.Sav.frozen v2 (p := ⟨wr.heap.size, 1, none⟩) (by first | exact Nat.le_refl _ | assumption | (simp; done) | (simp; omega) | omega) (by first | assumption | (simp; done) | (simp; omega) | omega) (by first | assumption | (simp; done) | (simp; omega) | omega)).trans (by go_simp; rfl)
          have hOwn := (Mem.Sav.frozen v2 (p := ⟨wr.heap.size, 2, none⟩) (by first | exact Nat.le_refl _ | assumption | (simp; done) | (simp; omega) | omega) (by first | assumption | (simp; done) | (simp; omega) | omega) (by first | assumption | (simp; done) | (simp; omega) | omega)).trans (by go_simp; rfl)
          have hOwn := (Mem.Sav.frozen v2 (p := ⟨wr.heap.size, 3, none⟩) (by first | exact Nat.le_refl _ | assumption | (simp; done) | (simp; omega) | omega) (by first | assumption | (simp; done) | (simp; omega) | omega) (by first | assumption | (simp; done) | (simp; omega) | omega)).trans (by go_simp; rfl)
          have hOwn := (Mem.Sav.frozen v2 (p := ⟨wr.heap.size, 4, none⟩) (by first | exact Nat.le_refl _ | assumption | (simp; done) | (simp; omega) | omega) (by first | assumption | (simp; done) | (simp; omega) | omega) (by first | assumption | (simp; done) | (simp; omega) | omega)).trans (by go_simp; rfl)
          clear S2 v2
          go_wp2_with fail
          with_reducible refine TR.out.mono ?_
          rintro e w3 (⟨h3, rfl, r3, S3, hr3, v3⟩ | ⟨h3, rfl, v3⟩)
          · have AE := A2.out.step (Below.refl _ _) S3 hr3 v3
            rw [EQ.out] at AE
            have A3 := Lib.hid AE
            clear AE S3 hr3 v3
            go_wp2_with fail
            go_roundw
            case rel => exact ⟨0 + 1, r3, by omega, by go_num, A3⟩
            case measure => simp [intOf]; omega
          · have FA := Lib.hid (Put.after W1 (A2.out.fail (Below.refl _ _) v3 h3 (M := P ni) (by have := LE.out; rw [← EQ.out] at this; simp only [List.length_append, List.length_cons, List.length_nil] at this ⊢; omega)))
            clear v3
            go_wp2_with fail
            go_ret
            exact FA.out
        · have FA := Lib.hid (Put.after W1 (AT.out.fail (by (repeat' (first | with_reducible assumption | with_reducible exact Below.refl _ _ | (with_reducible refine Below.alloc ?_ ?_ _; rotate_left; focus ((first | exact Nat.le_refl _ | (simp; done) | (simp; omega) | omega | fail))) | (with_reducible refine Below.setCell ?_ ?_ _; rotate_left; focus ((first | exact Nat.le_refl _ | (simp; done) | (simp; omega) | omega | fail))) | with_reducible refine Mem.bel_drewN ?_ _ | with_reducible refine Below.drew ?_ | (with_reducible refine Mem.bel_call (by with_reducible assumption) ?_ ?_; focus ((first | exact Nat.le_refl _ | (simp; done) | (simp; omega) | omega | fail))) | fail))) v2 h2 (M := P ni) (by have := LE.out; rw [← EQ.out] at this; simp only [List.length_append, List.length_cons, List.length_nil] at this ⊢; omega)))
          clear v2
          go_wp2_with fail
          go_ret
          exact FA.out
      · rw [if_neg m0] at PS1
        have EQ : Hid (_ = P (m + 1)) := PS1.symm
        have q0 : (0 : Int) < (m : Int) := by omega
        clear PS1
        have PC : Hid (∀ W, Below wr.heap.size wr W → Calls Tryd.prog 19 #[.string ⟨#[44]⟩, .pointer (some ⟨g, 0, none⟩)] W (Put g r' (l ++ P m) [44] W)) := fun W b => put_any g r' _ ⟨#[44]⟩ [44] rfl W (SN.out.below b)
        rw [← List.append_assoc] at EQ
        go_wp2_with fail
        with_reducible refine (PC.out _ (by (repeat' (first | with_reducible assumption | with_reducible exact Below.refl _ _ | (with_reducible refine Below.alloc ?_ ?_ _; rotate_left; focus ((first | exact Nat.le_refl _ | (simp; done) | (simp; omega) | omega | fail))) | (with_reducible refine Below.setCell ?_ ?_ _; rotate_left; focus ((first | exact Nat.le_refl _ | (simp; done) | (simp; omega) | omega | fail))) | with_reducible refine Mem.bel_drewN ?_ _ | with_reducible refine Below.drew ?_ | (with_reducible refine Mem.bel_call (by with_reducible assumption) ?_ ?_; focus ((first | exact Nat.le_refl _ | (simp; done) | (simp; omega) | omega | fail))) | fail)))).mono ?_
        rintro e w2 (⟨h2, rfl, r2, S2, hr2, v2⟩ | ⟨h2, rfl, v2⟩)
        · have A2 := Lib.hid (AT.out.step (by (repeat' (first | with_reducible assumption | with_reducible exact Below.refl _ _ | (with_reducible refine Below.alloc ?_ ?_ _; rotate_left; focus ((first | exact Nat.le_refl _ | (simp; done) | (simp; omega) | omega | fail))) | (with_reducible refine Below.setCell ?_ ?_ _; rotate_left; focus ((first | exact Nat.le_refl _ | (simp; done) | (simp; omega) | omega | fail))) | with_reducible refine Mem.bel_drewN ?_ _ | with_reducible refine Below.drew ?_ | (with_reducible refine Mem.bel_call (by with_reducible assumption) ?_ ?_; focus ((first | exact Nat.le_refl _ | (simp; done) | (simp; omega) | omega | fail))) | fail))) S2 hr2 v2)
          have z2 := v2.size
          simp at z2 hr2
          have b2 := v2.bel (B' := B) hBg hBr' (by simp; omega)
          have br2 : Below B wr w2 := by (repeat' (first | with_reducible assumption | with_reducible exact Below.refl _ _ | (with_reducible refine Below.alloc ?_ ?_ _; rotate_left; focus ((first | exact Nat.le_refl _ | (simp; done) | (simp; omega) | omega | fail))) | (with_reducible refine Below.setCell ?_ ?_ _; rotate_left; focus ((first | exact Nat.le_refl _ | (simp; done) | (simp; omega) | omega | fail))) | with_reducible refine Mem.bel_drewN ?_ _ | with_reducible refine Below.drew ?_ | (with_reducible refine Mem.bel_call (by with_reducible assumption) ?_ ?_; focus ((first | exact Nat.le_refl _ | (simp; done) | (simp; omega) | omega | fail))) | fail))
          have bw2 : Below B w w2 := bq.trans br2
          have n2 : wr.heap.size ≠ r2 := by omega
          have n20 : w.heap.size ≠ r2 := by omega
          have hBr2 : B ≤ r2 := by omega
          have hOwn := Nat.lt_of_lt_of_le (n := wr.heap.size) (by first | exact Nat.le_refl _ | assumption | (simp; done) | (simp; omega) | omega) (Mem.Sav.size v2)
          have hOwn1 := Nat.ne_of_gt hOwn
          have hOwn2 := Nat.ne_of_lt hOwn
          have hOwn := (Mem.Sav.cell v2 (p := ⟨wr.heap.size, 0, none⟩) (by first | exact Nat.le_refl _ | assumption | (simp; done) | (simp; omega) | omega) (by first | assumption | (simp; done) | (simp; omega) | omega) (by first | assumption | (simp; done) | (simp; omega) | omega)).trans (by go_simp; rfl)
          have hOwn := (Mem.Sav.cell v2 (p := ⟨wr.heap.size, 1, none⟩) (by first | exact Nat.le_refl _ | assumption | (simp; done) | (simp; omega) | omega) (by first | assumption | (simp; done) | (simp; omega) | omega) (by first | assumption | (simp; done) | (simp; omega) | omega)).trans (by go_simp; rfl)
          have hOwn := (Mem.Sav.cell v2 (p := ⟨wr.heap.size, 2, none⟩) (by first | exact Nat.le_refl _ | assumption | (simp; done) | (simp; omega) | omega) (by first | assumption | (simp; done) | (simp; omega) | omega) (by first | assumption | (simp; done) | (simp; omega) | omega)).trans (by go_simp; rfl)
          have hOwn := (Mem.Sav.cell v2 (p := ⟨wr.heap.size, 3, none⟩) (by first | exact Nat.le_refl _ | assumption | (simp; done) | (simp; omega) | omega) (by first | assumption | (simp; done) | (simp; omega) | omega) (by first | assumption | (simp; done) | (simp; omega) | omega)).trans (by go_simp; rfl)
          have hOwn := (Mem.Sav.cell v2 (p := ⟨wr.heap.size, 4, none⟩) (by first | exact Nat.le_refl _ | assumption | (simp; done) | (simp; omega) | omega) (by first | assumption | (simp; done) | (simp; omega) | omega) (by first | assumption | (simp; done) | (simp; omega) | omega)).trans (by go_simp; rfl)
          have hOwn := (Mem.Sav.frozen v2 (p := ⟨wr.heap.size, 0, none⟩) (by first | exact Nat.le_refl _ | assumption | (simp; done) | (simp; omega) | omega) (by first | assumption | (simp; done) | (simp; omega) | omega) (by first | assumption | (simp; done) | (simp; omega) | omega)).trans (by go_simp; rfl)
          have hOwn := (Mem.Sav.frozen v2 (p := ⟨wr.heap.size, 1, none⟩) (by first | exact Nat.le_refl _ | assumption | (simp; done) | (simp; omega) | omega) (by first | assumption | (simp; done) | (simp; omega) | omega) (by first | assumption | (simp; done) | (simp; omega) | omega)).trans (by go_simp; rfl)
          have hOwn := (Mem.Sav.frozen v2 (p := ⟨wr.heap.size, 2, none⟩) (by first | exact Nat.le_refl _ | assumption | (simp; done) | (simp; omega) | omega) (by first | assumption | (simp; done) | (simp; omega) | omega) (by first | assumption | (simp; done) | (simp; omega) | omega)).trans (by go_simp; rfl)
          have hOwn := (Mem.Sav.frozen v2 (p := ⟨wr.heap.size, 3, none⟩) (by first | exact Nat.le_refl _ | assumption | (simp; done) | (simp; omega) | omega) (by first | assumption | (simp; done) | (simp; omega) | omega) (by first | assumption | (simp; done) | (simp; omega) | omega)).trans (by go_simp; rfl)
          have hOwn := (Mem.Sav.frozen v2 (p := ⟨wr.heap.size, 4, none⟩) (by first | exact Nat.le_refl _ | assumption | (simp; done) | (simp; omega) | omega) (by first | assumption | (simp; done) | (simp; omega) | omega) (by first | assumption | (simp; done) | (simp; omega) | omega)).trans (by go_simp; rfl)
          have hOwn := Nat.lt_of_lt_of_le (n := w.heap.size) (by first | exact Nat.le_refl _ | assumption | (simp; done) | (simp; omega) | omega) (Mem.Sav.size v2)
          have hOwn1 := Nat.ne_of_gt hOwn
          have hOwn2 := Nat.ne_of_lt hOwn
          have hOwn := (Mem.Sav.cell v2 (p := ⟨w.heap.size, 0, none⟩) (by first | exact Nat.le_refl _ | assumption | (simp; done) | (simp; omega) | omega) (by first | assumption | (simp; done) | (simp; omega) | omega) (by first | assumption | (simp; done) | (simp; omega) | omega)).trans (by go_simp; rfl)
          have hOwn := (Mem.Sav.cell v2 (p := ⟨w.heap.size, 1, none⟩) (by first | exact Nat.le_refl _ | assumption | (simp; done) | (simp; omega) | omega) (by first | assumption | (simp; done) | (simp; omega) | omega) (by first | assumption | (simp; done) | (simp; omega) | omega)).trans (by go_simp; rfl)
          have hOwn := (Mem.Sav.cell v2 (p := ⟨w.heap.size, 2, none⟩) (by first | exact Nat.le_refl _ | assumption | (simp; done) | (simp; omega) | omega) (by first | assumption | (simp; done) | (simp; omega) | omega) (by first | assumption | (simp; done) | (simp; omega) | omega)).trans (by go_simp; rfl)
          have hOwn := (Mem.Sav.cell v2 (p := ⟨w.heap.size, 3, none⟩) (by first | exact Nat.le_refl _ | assumption | (simp; done) | (simp; omega) | omega) (by first | assumption | (simp; done) | (simp; omega) | omega) (by first | assumption | (simp; done) | (simp; omega) | omega)).trans (by go_simp; rfl)
          have hOwn := (Mem.Sav.cell v2 (p := ⟨w.heap.size, 4, none⟩) (by first | exact Nat.le_refl _ | assumption | (simp; done) | (simp; omega) | omega) (by first | assumption | (simp; done) | (simp; omega) | omega) (by first | assumption | (simp; done) | (simp; omega) | omega)).trans (by go_simp; rfl)
          have hOwn := (Mem.Sav.frozen v2 (p := ⟨w.heap.size, 0, none⟩) (by first | exact Nat.le_refl _ | assumption | (simp; done) | (simp; omega) | omega) (by first | assumption | (simp; done) | (simp; omega) | omega) (by first | assumption | (simp; done) | (simp; omega) | omega)).trans (by go_simp; rfl)
          have hOwn := (Mem.Sav.frozen v2 (p := ⟨w.heap.size, 1, none⟩) (by first | exact Nat.le_refl _ | assumption | (simp; done) | (simp; omega) | omega) (by first | assumption | (simp; done) | (simp; omega) | omega) (by first | assumption | (simp; done) | (simp; omega) | omega)).trans (by go_simp; rfl)
          have hOwn := (Mem.Sav.frozen v2 (p := ⟨w.heap.size, 2, none⟩) (by first | exact Nat.le_refl _ | assumption | (simp; done) | (simp; omega) | omega) (by first | assumption | (simp; done) | (simp; omega) | omega) (by first | assumption | (simp; done) | (simp; omega) | omega)).trans (by go_simp; rfl)
          have hOwn := (Mem.Sav.frozen v2 (p := ⟨w.heap.size, 3, none⟩) (by first | exact Nat.le_refl _ | assumption | (simp; done) | (simp; omega) | omega) (by first | assumption | (simp; done) | (simp; omega) | omega) (by first | assumption | (simp; done) | (simp; omega) | omega)).trans (by go_simp; rfl)
          have hOwn := (Mem.Sav.frozen v2 (p := ⟨w.heap.size, 4, none⟩) (by first | exact Nat.le_refl _ | assumption | (simp; done) | (simp; omega) | omega) (by first | assumption | (simp; done) | (simp; omega) | omega) (by first | assumption | (simp; done) | (simp; omega) | omega)).trans (by go_simp; rfl)
          have zq2 := (bw2.cell (p := ⟨b8, o8 + m, none⟩) hb8).trans z0'.out
          clear S2 v2
          have KC := Lib.hid (pkey_any g r2 _ Y w2 A2.out.1)
          rw [← List.append_assoc] at EQ
          go_wp2_with fail
          with_reducible refine KC.out.mono ?_
          rintro e w3 (⟨h3, rfl, r3, S3, hr3, v3⟩ | ⟨h3, rfl, v3⟩)
          · have A3' := Lib.hid (A2.out.step (Below.refl _ _) S3 hr3 v3)
            have z3 := v3.size
            have b3 := v3.bel (B' := B) hBg hBr2 (by omega)
            have bw3 : Below B w w3 := bw2.trans b3
            have br3 : Below B wr w3 := br2.trans b3
            have n3 : wr.heap.size ≠ r3 := by omega
            have n30 : w.heap.size ≠ r3 := by omega
            have TR := Lib.hid (TP.out B g r3 _ w3 X3 X4 x3 x4 (LW.out.below bw3 hB) hB hBg (by omega) A3'.out.1 (TY.out.below br3))
            have hOwn := Nat.lt_of_lt_of_le (n := wr.heap.size) (by first | exact Nat.le_refl _ | assumption | (simp; done) | (simp; omega) | omega) (Mem.Sav.size v3)
            have hOwn1 := Nat.ne_of_gt hOwn
            have hOwn2 := Nat.ne_of_lt hOwn
            have hOwn := (Mem.Sav.cell v3 (p := ⟨wr.heap.size, 0, none⟩) (by first | exact Nat.le_refl _ | assumption | (simp; done) | (simp; omega) | omega) (by first | assumption | (simp; done) | (simp; omega) | omega) (by first | assumption | (simp; done) | (simp; omega) | omega)).trans (by go_simp; rfl)
            have hOwn := (Mem.Sav.cell v3 (p := ⟨wr.heap.size, 1, none⟩) (by first | exact Nat.le_refl _ | assumption | (simp; done) | (simp; omega) | omega) (by first | assumption | (simp; done) | (simp; omega) | omega) (by first | assumption | (simp; done) | (simp; omega) | omega)).trans (by go_simp; rfl)
            have hOwn := (Mem.Sav.cell v3 (p := ⟨wr.heap.size, 2, none⟩) (by first | exact Nat.le_refl _ | assumption | (simp; done) | (simp; omega) | omega) (by first | assumption | (simp; done) | (simp; omega) | omega) (by first | assumption | (simp; done) | (simp; omega) | omega)).trans (by go_simp; rfl)
            have hOwn := (Mem.Sav.cell v3 (p := ⟨wr.heap.size, 3, none⟩) (by first | exact Nat.le_refl _ | assumption | (simp; done) | (simp; omega) | omega) (by first | assumption | (simp; done) | (simp; omega) | omega) (by first | assumption | (simp; done) | (simp; omega) | omega)).trans (by go_simp; rfl)
            have hOwn := (Mem.Sav.cell v3 (p := ⟨wr.heap.size, 4, none⟩) (by first | exact Nat.le_refl _ | assumption | (simp; done) | (simp; omega) | omega) (by first | assumption | (simp; done) | (simp; omega) | omega) (by first | assumption | (simp; done) | (simp; omega) | omega)).trans (by go_simp; rfl)
            have hOwn := (Mem.Sav.frozen v3 (p := ⟨wr.heap.size, 0, none⟩) (by first | exact Nat.le_refl _ | assumption | (simp; done) | (simp; omega) | omega) (by first | assumption | (simp; done) | (simp; omega) | omega) (by first | assumption | (simp; done) | (simp; omega) | omega)).trans (by go_simp; rfl)
            have hOwn := (Mem.Sav.frozen v3 (p := ⟨wr.heap.size, 1, none⟩) (by first | exact Nat.le_refl _ | assumption | (simp; done) | (simp; omega) | omega) (by first | assumption | (simp; done) | (simp; omega) | omega) (by first | assumption | (simp; done) | (simp; omega) | omega)).trans (by go_simp; rfl)
            have hOwn := (Mem.Sav.frozen v3 (p := ⟨wr.heap.size, 2, none⟩) (by first | exact Nat.le_refl _ | assumption | (simp; done) | (simp; omega) | omega) (by first | assumption | (simp; done) | (simp; omega) | omega) (by first | assumption | (simp; done) | (simp; omega) | omega)).trans (by go_simp; rfl)
            have hOwn := (Mem.Sav.frozen v3 (p := ⟨wr.heap.size, 3, none⟩) (by first | exact Nat.le_refl _ | assumption | (simp; done) | (simp; omega) | omega) (by first | assumption | (simp; done) | (simp; omega) | omega) (by first | assumption | (simp; done) | (simp; omega) | omega)).trans (by go_simp; rfl)
            have hOwn := (Mem.Sav.frozen v3 (p := ⟨wr.heap.size, 4, none⟩) (by first | exact Nat.le_refl _ | assumption | (simp; done) | (simp; omega) | omega) (by first | assumption | (simp; done) | (simp; omega) | omega) (by first | assumption | (simp; done) | (simp; omega) | omega)).trans (by go_simp; rfl)
            clear S3 v3
            go_wp2_with fail
            with_reducible refine TR.out.mono ?_
            rintro e w4 (⟨h4, rfl, r4, S4, hr4, v4⟩ | ⟨h4, rfl, v4⟩)
            · have AE := A3'.out.step (Below.refl _ _) S4 hr4 v4
              rw [EQ.out] at AE
              have A4 := Lib.hid AE
              clear AE S4 hr4 v4
              go_wp2_with fail
              go_roundw
              case rel => exact ⟨m + 1, r4, by omega, by go_num, A4⟩
              case measure => simp [intOf]; omega
            · have FA := Lib.hid (Put.after W1 (A3'.out.fail (Below.refl _ _) v4 h4 (M := P ni) (by have := LE.out; rw [← EQ.out] at this; simp only [List.length_append, List.length_cons, List.length_nil] at this ⊢; omega)))
              clear v4
              go_wp2_with fail
              go_ret
              exact FA.out
          · have FA := Lib.hid (Put.after W1 (A2.out.fail (Below.refl _ _) v3 h3 (M := P ni) (by have := LE.out; rw [← EQ.out] at this; simp only [List.length_append, List.length_cons, List.length_nil] at this ⊢; omega)))
            clear v3
            go_wp2_with fail
            go_ret
            exact FA.out
        · have FA := Lib.hid (Put.after W1 (AT.out.fail (by (repeat' (first | with_reducible assumption | with_reducible exact Below.refl _ _ | (with_reducible refine Below.alloc ?_ ?_ _; rotate_left; focus ((first | exact Nat.le_refl _ | (simp; done) | (simp; omega) | omega | fail))) | (with_reducible refine Below.setCell ?_ ?_ _; rotate_left; focus ((first | exact Nat.le_refl _ | (simp; done) | (simp; omega) | omega | fail))) | with_reducible refine Mem.bel_drewN ?_ _ | with_reducible refine Below.drew ?_ | (with_reducible refine Mem.bel_call (by with_reducible assumption) ?_ ?_; focus ((first | exact Nat.le_refl _ | (simp; done) | (simp; omega) | omega | fail))) | fail))) v2 h2 (M := P ni) (by have := LE.out; rw [← EQ.out] at this; simp only [List.length_append, List.length_cons, List.length_nil] at this ⊢; omega)))
          clear v2
          go_wp2_with fail
          go_ret
          exact FA.out
    · obtain rfl : m = ni := by omega
      have FA := Lib.hid (Put.after W1 AT.out.done)
      clear hmk sn
      go_wp2_with fail
      go_ret
      exact FA.out

end Go.Proofs.YtjebkedlfhapjaaDoor
