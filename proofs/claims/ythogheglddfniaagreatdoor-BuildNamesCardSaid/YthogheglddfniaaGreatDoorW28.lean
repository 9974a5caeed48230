/- Joined by tools/bundle.py: JCOne JCKey. -/
import Derived.Deep.RegionLaw
import Derived.Deep.Cut
import Derived.Laws.EntriesVeiled
import Derived.Test.YthogheglddfniaaGreatDoorW25
import Derived.Test.YthogheglddfniaaGreatDoorW0
set_option maxRecDepth 100000
set_option maxHeartbeats 16000000
namespace Go.Proofs.YthogheglddfniaaGreatDoor
open Go.ChangeShapes Go.WideShapes Go.ChangeAt Go.RowKit Mem
def One (r : Jp.R) (kn : List ByteArray) (l : List UInt8) (A : Option Addr) (c g gj N : Nat) (kind : Int) (ks : List ByteArray) (js : List J) (w : World) (e : Ending) (w' : World) : Prop :=
 ∃ ks' js' css' v3' v4' q, e = .returned (.int .i64 (r.2.2 : Int)) ∧ StC gj N w' kind ks' js' css' v3' v4' ∧ (r.2.2 = 0 → ks' = kn ∧ js' = js ++ [r.1] ∧ q = r.2.1) ∧ js'.length ≤ js.length + 1 ∧ ks'.length ≤ ks.length + 1 ∧
  q ≤ l.length ∧ Cur w' g A l.length c q ∧ Sav g gj N w w'
theorem one_ret {r : Jp.R} {kn : List ByteArray} {l : List UInt8} {A : Option Addr} {c g gj N q : Nat} {kind : Int} {ks : List ByteArray} {js : List J} {w w' : World} {ks' : List ByteArray} {js' : List J} {css' : List (List Value)} {v3' v4' : Value} {y : Int} (hy : y = (r.2.2 : Int))
 (st : StC gj N w' kind ks' js' css' v3' v4') (h : r.2.2 = 0 → ks' = kn ∧ js' = js ++ [r.1] ∧ q = r.2.1) (h1 : js'.length ≤ js.length + 1) (h2 : ks'.length ≤ ks.length + 1) (hq : q ≤ l.length) (hc : Cur w' g A l.length c q) (hv : Sav g gj N w w') :
 One r kn l A c g gj N kind ks js w (.returned (.int .i64 y)) w' := by
 subst hy; exact ⟨ks', js', css', v3', v4', q, rfl, st, h, h1, h2, hq, hc, hv⟩
structure Cap (g gj N b1 b2 d : Nat) (w : World) : Prop where
 c1 : w.cell? ⟨b1, 0, none⟩ = some (wv g)
 c2 : w.cell? ⟨b2, 0, none⟩ = some (.int .i64 (d : Int))
 l1 : b1 < N
 l2 : b2 < N
 n1 : b1 ≠ g
 n2 : b2 ≠ g
 n3 : b1 ≠ gj
 n4 : b2 ≠ gj
theorem Cap.sav {g gj N b1 b2 d B : Nat} {w w' : World} (h : Cap g gj N b1 b2 d w) (s : Sav g gj B w w') (hB : N ≤ B) : Cap g gj N b1 b2 d w' :=
 ⟨(s.cell (p := ⟨b1, 0, none⟩) (Nat.lt_of_lt_of_le h.l1 hB) h.n1 h.n3).trans h.c1, (s.cell (p := ⟨b2, 0, none⟩) (Nat.lt_of_lt_of_le h.l2 hB) h.n2 h.n4).trans h.c2, h.l1, h.l2, h.n1, h.n2, h.n3, h.n4⟩
theorem last5_own {w : World} {base g cap n : Nat} {xs : List Value} {z0 z1 z2 z3 z4 : Value} (h : OwnR w base 25 5 (.slice (some ⟨g, 0, none⟩) (n + 1) cap) (n + 1) (xs ++ [z0, z1, z2, z3, z4])) (hx : xs.length = n * 5) :
 w.cell? ⟨g, n * 5, none⟩ = some z0 ∧ w.cell? ⟨g, n * 5 + 1, none⟩ = some z1 ∧ w.cell? ⟨g, n * 5 + 2, none⟩ = some z2 ∧ w.cell? ⟨g, n * 5 + 3, none⟩ = some z3 ∧ w.cell? ⟨g, n * 5 + 4, none⟩ = some z4 ∧
 w.frozen? ⟨g, n * 5, none⟩ = false ∧ w.frozen? ⟨g, n * 5 + 1, none⟩ = false ∧ w.frozen? ⟨g, n * 5 + 2, none⟩ = false ∧ w.frozen? ⟨g, n * 5 + 3, none⟩ = false ∧ w.frozen? ⟨g, n * 5 + 4, none⟩ = false := by
 have c := fun i (hi : i < 5) => World.ownsRow.cellAt h (n * 5 + i) (by omega)
 have e : ∀ i, (xs ++ [z0, z1, z2, z3, z4])[n * 5 + i]? = [z0, z1, z2, z3, z4][i]? := fun i => by rw [List.getElem?_append_right (by omega), hx, show n * 5 + i - n * 5 = i by omega]
 exact ⟨(c 0 (by omega)).trans (e 0), (c 1 (by omega)).trans (e 1), (c 2 (by omega)).trans (e 2), (c 3 (by omega)).trans (e 3), (c 4 (by omega)).trans (e 4), World.ownsRow.frozenAt h _, World.ownsRow.frozenAt h _, World.ownsRow.frozenAt h _, World.ownsRow.frozenAt h _, World.ownsRow.frozenAt h _⟩
theorem own_ob {g n c m k : Nat} {o : Option Nat} (h : (Value.slice (some ⟨g, 0, none⟩) n c).ownBlock = o ∨ (Value.slice (some ⟨g, 0, none⟩) n c).ownBlock = some (m + 1)) (hm : k ≤ m + 1) : some g = o ∨ k ≤ g := by
 rcases h with h | h
 · exact .inl h
 · exact .inr (by have e : g = m + 1 := by injection h
                  omega)
theorem one_list (f : Nat) (hV : CVal f) (l : List UInt8) (A : Option Addr) (c g p d : Nat) (w : World) (gj N b1 b2 : Nat) (kind : Int) (ks : List ByteArray) (js : List J) (css : List (List Value)) (v3 v4 : Value)
 (C : Cx l A c g w) (he : (Jx.tak l p).2 = 0) (hcur : Cur w g A l.length c (Jx.tak l p).1.x) (hp : p ≤ l.length) (hf : 2 * (l.length + 1 - p) < f) (hd : d ≤ 32)
 (st : StC gj N w kind ks js css v3 v4) (cap : Cap g gj N b1 b2 d w) (hgN : g < N) (hgj : g ≠ gj) (hj : js.length ≤ 100000000) :
 Calls Tryz.prog 153 #[wval (Jx.tak l p).1, .pointer (some ⟨b1, 0, none⟩), .pointer (some ⟨b2, 0, none⟩), .pointer (some ⟨gj, 0, none⟩)] w (One (Jp.pval f l p d) ks l A c g gj N kind ks js w) := by
 have CS := cell_set
 have hg := hcur.lt
 have hN := st.le
 have hjN := st.lt
 obtain ⟨⟨⟨K, n, T, a, x⟩, er⟩, hr⟩ : ∃ r, r = Jx.tak l p := ⟨_, rfl⟩
 have W1 : Sav g g w.heap.size w (w.alloc (.cells #[.int .i64 (K : Int), .int .i64 n, .string ⟨T.toArray⟩, .int .i64 (a : Int), .int .i64 (x : Int)] 118)) := by (repeat' (first | with_reducible assumption | with_reducible exact Mem.Sav.refl _ _ _ _ | with_reducible refine Mem.Sav.drewN ?_ _ | with_reducible refine Mem.Sav.drew ?_ | (with_reducible refine Mem.Sav.set ?_ ?_ _; rotate_left; focus (first | (simp; done) | (simp; omega) | (dsimp only; omega) | omega | fail)) | (with_reducible refine Mem.Sav.alloc ?_ ?_ _; rotate_left; focus (first | exact Nat.le_refl _ | assumption | (simp; done) | (simp; omega) | omega | fail)) | (with_reducible refine Mem.Sav.call (by with_reducible assumption) ?_ ?_; focus (first | exact Nat.le_refl _ | assumption | (simp; done) | (simp; omega) | omega | fail)) | (with_reducible refine Mem.Sav.next (by with_reducible assumption) ?_ ?_; focus (first | exact Nat.le_refl _ | assumption | (simp; done) | (simp; omega) | omega | fail)) | (with_reducible refine Mem.Sav.next1 (by with_reducible assumption) ?_ ?_; focus (first | exact Nat.le_refl _ | assumption | (simp; done) | (simp; omega) | omega | fail)) | fail))
 have vc := hV l A c g p d _ (C.sav W1 (Nat.le_of_lt hg) (Nat.le_refl _)) he (hcur.alloc _) hp hf hd
 rw [← hr] at vc hcur ⊢
 simp only [wval] at vc hcur ⊢
 obtain ⟨R, hR⟩ : ∃ R, R = Jp.pval f l p d := ⟨_, rfl⟩
 rw [← hR] at vc ⊢
 obtain ⟨D3, e3, rfl, hle3, _⟩ := ownR_fls st.o3
 have VC := Lib.hid vc
 have ST := Lib.hid st
 have c1 := cap.c1; have c2 := cap.c2; have l1 := cap.l1; have l2 := cap.l2
 have lb1 : b1 < w.heap.size := by omega
 have lb2 : b2 < w.heap.size := by omega
 have nb1 : b1 ≠ w.heap.size := by omega
 have nb2 : b2 ≠ w.heap.size := by omega
 clear hr hR hV vc C he cap
 go_enter Tryz.func153, Tryz.ntmps153
 go_wp2_with fail
 with_reducible refine VC.out.mono ?_
 rintro e w5 ⟨j, A3, c3, A4, c4, q, rfl, tr, hj2, hq, t5, s5⟩
 have z5 := s5.size
 simp at z5
 go_wp2_with fail
 obtain ⟨w6, hw6⟩ : ∃ w6, w6 = w5.alloc (.cells #[.int .i64 j.k, .int .i64 j.n, .string j.t, .slice A3 j.its.length c3, .slice A4 j.ks.length c4] 25) := ⟨_, rfl⟩
 have st1 := (ST.out.alloc (.cells #[.int .i64 (K : Int), .int .i64 n, .string ⟨T.toArray⟩, .int .i64 (a : Int), .int .i64 (x : Int)] 118)).sav s5 hgN hgN hgj hgj
 have st6 := st1.alloc (.cells #[.int .i64 j.k, .int .i64 j.n, .string j.t, .slice A3 j.its.length c3, .slice A4 j.ks.length c4] 25)
 have tr6 : TreeS (w5.alloc (.cells #[.int .i64 j.k, .int .i64 j.n, .string j.t, .slice A3 j.its.length c3, .slice A4 j.ks.length c4] 25)) (FreeC N (w5.alloc (.cells #[.int .i64 j.k, .int .i64 j.n, .string j.t, .slice A3 j.its.length c3, .slice A4 j.ks.length c4] 25)) (.slice D3 js.length e3) v4) j [.int .i64 j.k, .int .i64 j.n, .string j.t, .slice A3 j.its.length c3, .slice A4 j.ks.length c4] :=
  tr.keep (fun p hp => World.cell?_alloc_lt _ _ p hp.2) (fun b hb => ⟨by have := hb.1; simp at this; omega, by have := hb.2; simp; omega, fun e => by have := own_lt ST.out.o3 b e; have := hb.1; simp at this; omega, fun e => by have := own_lt ST.out.o4 b e; have := hb.1; simp at this; omega⟩)
 have sv6 : Sav g gj N w (w5.alloc (.cells #[.int .i64 j.k, .int .i64 j.n, .string j.t, .slice A3 j.its.length c3, .slice A4 j.ks.length c4] 25)) := ((W1.mono hN).more.trans (s5.mono (by simp; omega)).more).alloc (by omega) _
 have t6 := t5.alloc (.cells #[.int .i64 j.k, .int .i64 j.n, .string j.t, .slice A3 j.its.length c3, .slice A4 j.ks.length c4] 25)
 have y0 : w6.cell? ⟨w5.heap.size, 0, none⟩ = some (.int .i64 j.k) := by rw [hw6]; go_simp
 have y1 : w6.cell? ⟨w5.heap.size, 1, none⟩ = some (.int .i64 j.n) := by rw [hw6]; go_simp
 have y2 : w6.cell? ⟨w5.heap.size, 2, none⟩ = some (.string j.t) := by rw [hw6]; go_simp
 have y3 : w6.cell? ⟨w5.heap.size, 3, none⟩ = some (.slice A3 j.its.length c3) := by rw [hw6]; go_simp
 have y4 : w6.cell? ⟨w5.heap.size, 4, none⟩ = some (.slice A4 j.ks.length c4) := by rw [hw6]; go_simp
 have z6 : w6.heap.size = w5.heap.size + 1 := by rw [hw6]; simp
 rw [← hw6] at st6 tr6 sv6 t6 ⊢
 clear hw6
 obtain ⟨k0, k1, k2, k3, k4, r0, r1, r2, r3, r4⟩ := st6.bk.facts
 have ST6 := Lib.hid st6
 have Z6 := Lib.hid z6
 have hap : some w5.heap.size ≠ (Value.slice D3 js.length e3).ownBlock := fun e => by have := own_lt st1.o3 _ e; omega
 have HAP := Lib.hid hap
 have lj6 : gj < w6.heap.size := by omega
 have l66 : w5.heap.size < w6.heap.size := by omega
 have five := Lib.hid st6.tr.flat
 have lt1 : (js.length : Int) < (js.length : Int) + 1 := by omega
 clear z6 hap
 go_region_law
  (first | (refine step_appRg1 _ jrecT (by rfl) (some 20) rfl (.tmp 16) (.tmp 19) rfl N _ js.length css.flatten rfl (by first | exact ST6.out.o3 | exact ST6.out.o3.drewN _) 1 _ (by first | rfl | simp [Act.eval]) (by rfl) (by simp [Value.oneCell']) (by omega) (by first | omega | (simp; omega)) ?_; intro v3' w7 o3' b7 g7 ob7; obtain ⟨g9, cap9, rfl, hb9, hl9⟩ := World.ownsRow.form o3' (Nat.succ_pos _); obtain ⟨q0, q1, q2, q3, q4, u0, u1, u2, u3, u4⟩ := last5_own o3' five.out; have s0 := g7.cell y0 HAP.out; have s1 := g7.cell y1 HAP.out; have s2 := g7.cell y2 HAP.out; have s3 := g7.cell y3 HAP.out; have s4 := g7.cell y4 HAP.out; have bk7 := B5.below st6.bk b7 hjN; obtain ⟨m0, m1, m2, m3, m4, f0, f1, f2, f3, f4⟩ := bk7.facts; have hg7 := g7.size; have ng := Nat.ne_of_gt (Nat.lt_of_lt_of_le hjN hb9); have ng2 := Nat.ne_of_lt (Nat.lt_of_lt_of_le hjN hb9)))
 all_goals (
  have g8 : w6.grownBy w7 (Value.slice D3 js.length e3).ownBlock := ⟨g7.os, g7.tape, g7.output, g7.size, g7.block⟩
  have b8 : Below N w6 w7 := ⟨b7.os, b7.tape, b7.output, b7.size, b7.block⟩
  have o8 := own_ob ob7 (show w6.heap.size ≤ _ from Nat.le_succ _)
  have st8 := StC.item5 ST6.out o3' g8 b8 o8 tr6
  have t8 := t6.below b8 hgN
  have s8 := sv6.trans (Sav.of b8)
  clear y0 y1 y2 y3 y4 q0 q1 q2 q3 q4 u0 u1 u2 u3 u4 s0 s1 s2 s3 s4 m0 m1 m2 m3 m4 f0 f1 f2 f3 f4 k0 k1 k2 k3 k4 r0 r1 r2 r3 r4 o3' b7 g7 ob7
  go_wp2_with fail
  try rw [Mem.comm5 ng2]
  go_ret
  exact one_ret (q := q) (by rfl) st8 (fun e => by obtain ⟨h1, h2⟩ := hj2 e; exact ⟨rfl, by rw [h1], h2⟩) (by simp) (by omega) hq (by (repeat' (first | with_reducible assumption | with_reducible refine Cur.drewN ?_ _ | with_reducible refine Cur.drew ?_ | with_reducible refine Cur.alloc ?_ _ | (with_reducible refine Cur.past ?_ ?_ _; rotate_left; focus (first | assumption | (simp; done) | (simp; omega) | (dsimp only; omega) | omega | fail)) | with_reducible refine Cur.go (p := q) ?_ | fail))) (by (repeat' (first | with_reducible assumption | with_reducible exact Mem.Sav.refl _ _ _ _ | with_reducible refine Mem.Sav.drewN ?_ _ | with_reducible refine Mem.Sav.drew ?_ | (with_reducible refine Mem.Sav.set ?_ ?_ _; rotate_left; focus (first | (simp; done) | (simp; omega) | (dsimp only; omega) | omega | fail)) | (with_reducible refine Mem.Sav.alloc ?_ ?_ _; rotate_left; focus (first | exact Nat.le_refl _ | assumption | (simp; done) | (simp; omega) | omega | fail)) | (with_reducible refine Mem.Sav.call (by with_reducible assumption) ?_ ?_; focus (first | exact Nat.le_refl _ | assumption | (simp; done) | (simp; omega) | omega | fail)) | (with_reducible refine Mem.Sav.next (by with_reducible assumption) ?_ ?_; focus (first | exact Nat.le_refl _ | assumption | (simp; done) | (simp; omega) | omega | fail)) | (with_reducible refine Mem.Sav.next1 (by with_reducible assumption) ?_ ?_; focus (first | exact Nat.le_refl _ | assumption | (simp; done) | (simp; omega) | omega | fail)) | fail))))
end Go.Proofs.YthogheglddfniaaGreatDoor
namespace Go.Proofs.YthogheglddfniaaGreatDoor
open Go.ChangeShapes Go.WideShapes Go.ChangeAt Go.RowKit Mem
abbrev WB (w : World) (Q : Nat) (x : Jx.Wd) : Prop := B5 w Q 118 (.int .i64 (x.k : Int)) (.int .i64 x.n) (.string ⟨x.t.toArray⟩) (.int .i64 (x.a : Int)) (.int .i64 (x.x : Int))
structure PsI (l : List UInt8) (A : Option Addr) (c g gj Q : Nat) (kind : Int) (w : World) (x : Jx.Wd) (q : Nat) (ks : List ByteArray) (js : List J) (css : List (List Value)) (v3 v4 : Value) (W : World) : Prop where
 st : StC gj (Q + 1) W kind ks js css v3 v4
 cur : Cur W g A l.length c q
 wb : WB W Q x
 sv : Sav g gj w.heap.size w W
section
variable {l : List UInt8} {A : Option Addr} {c g gj Q q q' : Nat} {kind : Int} {w W W' : World} {x : Jx.Wd} {ks ks' : List ByteArray} {js js' : List J} {css css' : List (List Value)} {v3 v4 v3' v4' : Value}
theorem PsI.call (h : PsI l A c g gj Q kind w x q ks js css v3 v4 W) (hgQ : g < Q) (hgj : g ≠ gj) (hc : Cur W' g A l.length c q') (s : Sav g g W.heap.size W W') : PsI l A c g gj Q kind w x q' ks js css v3 v4 W' :=
 ⟨h.st.sav s (by omega) (by omega) hgj hgj, hc, Blk.sav h.wb s (B5.lt h.wb) (by omega) (by omega), h.sv.trans (s.mono h.sv.size).more⟩
theorem PsI.one (h : PsI l A c g gj Q kind w x q ks js css v3 v4 W) (hgQ : g < Q) (hjQ : gj < Q) (hw : w.heap.size ≤ Q) (hst : StC gj (Q + 1) W' kind ks' js' css' v3' v4') (hc : Cur W' g A l.length c q') (s : Sav g gj (Q + 1) W W') : PsI l A c g gj Q kind w x q' ks' js' css' v3' v4' W' :=
 ⟨hst, hc, Blk.sav h.wb s (by omega) (by omega) (by omega), h.sv.trans (s.mono (by omega))⟩
theorem PsI.put (h : PsI l A c g gj Q kind w x q ks js css v3 v4 W) (y : Jx.Wd) (hgQ : g < Q) (hjQ : gj < Q) (hw : w.heap.size ≤ Q) {z0 z1 z2 z3 z4 : Value} (e0 : z0 = .int .i64 (y.k : Int)) (e1 : z1 = .int .i64 y.n) (e2 : z2 = .string ⟨y.t.toArray⟩) (e3 : z3 = .int .i64 (y.a : Int)) (e4 : z4 = .int .i64 (y.x : Int)) :
 PsI l A c g gj Q kind w y q ks js css v3 v4 (((((W.setCell ⟨Q, 0, none⟩ z0).setCell ⟨Q, 1, none⟩ z1).setCell ⟨Q, 2, none⟩ z2).setCell ⟨Q, 3, none⟩ z3).setCell ⟨Q, 4, none⟩ z4) := by
 subst e0 e1 e2 e3 e4
 refine ⟨?_, ?_, ?_, ?_⟩
 · refine h.st.keep (fun b hb _ => ?_) (by simp [World.setCell])
   have : b ≠ Q := by rcases hb with rfl | hb <;> omega
   rw [Below.heap_setCell _ _ _ _ this, Below.heap_setCell _ _ _ _ this, Below.heap_setCell _ _ _ _ this, Below.heap_setCell _ _ _ _ this, Below.heap_setCell _ _ _ _ this]
 · have hq : Q ≠ g := by omega
   exact ((((h.cur.past (q := ⟨Q, 0, none⟩) hq _).past (q := ⟨Q, 1, none⟩) hq _).past (q := ⟨Q, 2, none⟩) hq _).past (q := ⟨Q, 3, none⟩) hq _).past (q := ⟨Q, 4, none⟩) hq _
 · exact B5.set4 (B5.set3 (B5.set2 (B5.set1 (B5.set0 h.wb _) _) _) _) _
 · exact ((((h.sv.set (p := ⟨Q, 0, none⟩) (.inr (.inr hw)) _).set (p := ⟨Q, 1, none⟩) (.inr (.inr hw)) _).set (p := ⟨Q, 2, none⟩) (.inr (.inr hw)) _).set (p := ⟨Q, 3, none⟩) (.inr (.inr hw)) _).set (p := ⟨Q, 4, none⟩) (.inr (.inr hw)) _
end
theorem Cap.more {g gj N N' b1 b2 d : Nat} {w : World} (h : Cap g gj N b1 b2 d w) (hN : N ≤ N') : Cap g gj N' b1 b2 d w := ⟨h.c1, h.c2, Nat.lt_of_lt_of_le h.l1 hN, Nat.lt_of_lt_of_le h.l2 hN, h.n1, h.n2, h.n3, h.n4⟩
def Pts (r : Jp.R) (l : List UInt8) (A : Option Addr) (c g gj : Nat) (kind : Int) (w : World) (e : Ending) (w' : World) : Prop :=
 ∃ N ks js css v3 v4 q, e = .returned (.int .i64 (r.2.2 : Int)) ∧ StC gj N w' kind ks js css v3 v4 ∧ w.heap.size ≤ N ∧ (r.2.2 = 0 → r.1 = .mk kind 0 Jp.nil_ js ks ∧ q = r.2.1) ∧ q ≤ l.length ∧ js.length ≤ 100000001 ∧ ks.length ≤ 100000001 ∧ Cur w' g A l.length c q ∧ Sav g gj w.heap.size w w'
theorem pts_ret {r : Jp.R} {l : List UInt8} {A : Option Addr} {c g gj Q q : Nat} {kind y : Int} {w w' : World} {x : Jx.Wd} {ks : List ByteArray} {js : List J} {css : List (List Value)} {v3 v4 : Value} (hy : y = (r.2.2 : Int)) (h : PsI l A c g gj Q kind w x q ks js css v3 v4 w') (hw : w.heap.size ≤ Q)
 (hr : r.2.2 = 0 → r.1 = .mk kind 0 Jp.nil_ js ks ∧ q = r.2.1) (hq : q ≤ l.length) (hj : js.length ≤ 100000001) (hk : ks.length ≤ 100000001) : Pts r l A c g gj kind w (.returned (.int .i64 y)) w' := by
 subst hy; exact ⟨Q + 1, ks, js, css, v3, v4, q, rfl, h.st, by omega, hr, hq, hj, hk, h.cur, h.sv⟩
theorem pts_bad {r : Jp.R} {er : Nat} {l : List UInt8} {A : Option Addr} {c g gj Q q : Nat} {kind y : Int} {w w' : World} {x : Jx.Wd} {ks : List ByteArray} {js : List J} {css : List (List Value)} {v3 v4 : Value} (he : r = Jp.bad er) (h0 : er ≠ 0) (hy : y = (er : Int)) (h : PsI l A c g gj Q kind w x q ks js css v3 v4 w') (hw : w.heap.size ≤ Q)
 (hq : q ≤ l.length) (hj : js.length ≤ 100000001) (hk : ks.length ≤ 100000001) : Pts r l A c g gj kind w (.returned (.int .i64 y)) w' :=
 pts_ret (by rw [he]; exact hy) h hw (fun e => by rw [he] at e; exact absurd e h0) hq hj hk
theorem one_key (f : Nat) (hV : CNxt f) (l : List UInt8) (A : Option Addr) (c g p d : Nat) (w : World) (gj N b1 b2 : Nat) (kind : Int) (ks : List ByteArray) (js : List J) (css : List (List Value)) (v3 v4 : Value)
 (C : Cx l A c g w) (he : (Jx.tak l p).2 = 0) (hcur : Cur w g A l.length c (Jx.tak l p).1.x) (hp : p ≤ l.length) (hf : 2 * (l.length + 1 - p) < f) (hd : d ≤ 32)
 (st : StC gj N w kind ks js css v3 v4) (cap : Cap g gj N b1 b2 d w) (hgN : g < N) (hgj : g ≠ gj) (hj : js.length ≤ 100000000) (hk : ks.length ≤ 100000000) :
 Calls Tryz.prog 154 #[wval (Jx.tak l p).1, .pointer (some ⟨gj, 0, none⟩), .pointer (some ⟨b1, 0, none⟩), .pointer (some ⟨b2, 0, none⟩)] w (One (Jp.kv f l p d ks) (ks ++ [Jp.str (Jx.tak l p).1.t]) l A c g gj N kind ks js w) := by
 have CS := cell_set
 have hg := hcur.lt
 have hN := st.le
 have hjN := st.lt
 have fine := (Jx.tak_fine l p hp).1.2.1
 have more := Jx.tak_more hp he
 obtain ⟨R, hR⟩ : ∃ R, R = Jp.kv f l p d ks := ⟨_, rfl⟩
 rw [← hR]
 unfold Jp.kv at hR
 obtain ⟨⟨⟨K, n, T, a, x⟩, er⟩, hr⟩ : ∃ r, r = Jx.tak l p := ⟨_, rfl⟩
 rw [← hr] at hcur hR he fine more ⊢
 simp only [wval, Jp.str] at hcur hR he fine more ⊢
 subst he
 have W1 : Sav g g w.heap.size w (w.alloc (.cells #[.int .i64 (K : Int), .int .i64 n, .string ⟨T.toArray⟩, .int .i64 (a : Int), .int .i64 (x : Int)] 118)) := by (repeat' (first | with_reducible assumption | with_reducible exact Mem.Sav.refl _ _ _ _ | with_reducible refine Mem.Sav.drewN ?_ _ | with_reducible refine Mem.Sav.drew ?_ | (with_reducible refine Mem.Sav.set ?_ ?_ _; rotate_left; focus (first | (simp; done) | (simp; omega) | (dsimp only; omega) | omega | fail)) | (with_reducible refine Mem.Sav.alloc ?_ ?_ _; rotate_left; focus (first | exact Nat.le_refl _ | assumption | (simp; done) | (simp; omega) | omega | fail)) | (with_reducible refine Mem.Sav.call (by with_reducible assumption) ?_ ?_; focus (first | exact Nat.le_refl _ | assumption | (simp; done) | (simp; omega) | omega | fail)) | (with_reducible refine Mem.Sav.next (by with_reducible assumption) ?_ ?_; focus (first | exact Nat.le_refl _ | assumption | (simp; done) | (simp; omega) | omega | fail)) | (with_reducible refine Mem.Sav.next1 (by with_reducible assumption) ?_ ?_; focus (first | exact Nat.le_refl _ | assumption | (simp; done) | (simp; omega) | omega | fail)) | fail))
 have C1 := C.sav W1 (Nat.le_of_lt hg) (Nat.le_refl _)
 have t1 := hcur.alloc (.cells #[.int .i64 (K : Int), .int .i64 n, .string ⟨T.toArray⟩, .int .i64 (a : Int), .int .i64 (x : Int)] 118)
 have st1 := st.alloc (.cells #[.int .i64 (K : Int), .int .i64 n, .string ⟨T.toArray⟩, .int .i64 (a : Int), .int .i64 (x : Int)] 118)
 obtain ⟨D3, e3, rfl, hle3, _⟩ := ownR_fls st.o3
 obtain ⟨D4, e4, rfl, hle4, fl4⟩ := ownR_fls st1.o4
 have c1 := cap.c1; have c2 := cap.c2; have l1 := cap.l1; have l2 := cap.l2
 have n1 := cap.n1; have n2 := cap.n2; have n3 := cap.n3; have n4 := cap.n4
 have lb1 : b1 < w.heap.size := by omega
 have lb2 : b2 < w.heap.size := by omega
 have nb1 : b1 ≠ w.heap.size := by omega
 have nb2 : b2 ≠ w.heap.size := by omega
 have lgj : gj < w.heap.size := by omega
 have lgj1 : gj ≠ w.heap.size := by omega
 have nwg : w.heap.size ≠ g := by omega
 have sw1 : Sav g gj N w (w.alloc (.cells #[.int .i64 (K : Int), .int .i64 n, .string ⟨T.toArray⟩, .int .i64 (a : Int), .int .i64 (x : Int)] 118)) := (W1.mono hN).more
 obtain ⟨k0, k1, k2, k3, k4, r0, r1, r2, r3, r4⟩ := st.bk.facts
 have cn := contains_any _ D4 e4 ks ⟨T.toArray⟩ _ fl4 (by unfold maxLen; omega)
 by_cases hK : K = 10
 · rw [if_neg (by omega)] at hR
   have px := more (by omega)
   have hKI : (K : Int) = 10 := by omega
   rw [hKI] at st1 C1 t1 cn W1 sw1 ⊢
   have ST := Lib.hid st
   have ST1 := Lib.hid st1
   have CC := Lib.hid C1
   clear st st1 C C1 cap hr fl4 hKI
   by_cases han : (place7 ks ⟨T.toArray⟩).isSome = true
   · rw [if_pos han] at hR
     rw [han] at cn
     have CN := Lib.hid cn
     have Z := Lib.hid hR
     clear cn hR han more hV
     go_enter Tryz.func154, Tryz.ntmps154
     go_wp2_with fail
     with_reducible refine CN.out.mono ?_
     rintro e w2 ⟨rfl, rfl⟩
     go_wp2_with fail
     go_ret
     exact one_ret (q := x) (by rw [Z.out]; rfl) ST1.out (fun e => by rw [Z.out] at e; exact absurd e (by decide)) (by omega) (by omega) fine t1 sw1
   · rw [if_neg han] at hR
     have hanf : (place7 ks ⟨T.toArray⟩).isSome = false := by simpa using han
     rw [hanf] at cn
     have CN := Lib.hid cn
     have js1 := just_any l A c g x 5 _ CC.out t1 fine
     unfold Jst at js1
     rw [show ((5 : Nat) : Int) = 5 from rfl] at js1
     have fine2 := mov_le fine
     have more2 := Jx.tak_more fine
     have hm : mov l x = if (Jx.tak l x).2 = 0 then (Jx.tak l x).1.x else x := rfl
     obtain ⟨m, hmm⟩ : ∃ m, m = mov l x := ⟨_, rfl⟩
     rw [← hmm] at js1 fine2 hm
     by_cases hju : jus (Jx.tak l x) 5 = 0
     · have h2 : (Jx.tak l x).2 = 0 := by
        unfold jus at hju
        by_cases h : (Jx.tak l x).2 = 0
        · exact h
        · rw [if_pos h] at hju; exact hju
       have h5 : (Jx.tak l x).1.k = 5 := by
        unfold jus at hju
        rw [if_neg (by omega)] at hju
        by_cases h : (Jx.tak l x).1.k = 5
        · exact h
        · rw [if_neg h] at hju; cases hju
       rw [hju] at js1
       rw [if_neg (by omega), if_neg (by omega)] at hR
       rw [if_pos h2] at hm
       rw [← hm] at hR
       have lt2 := (more2 h2 (by omega)).1
       rw [← hm] at lt2
       have JS := Lib.hid js1
       have NX := Lib.hid (fun W C h => hV l A c g m d W C h fine2 (by omega) hd)
       rw [← hR] at NX
       clear cn js1 hR han hanf more hV hju h2 h5 hm more2 hmm
       go_enter Tryz.func154, Tryz.ntmps154
       go_wp2_with fail
       with_reducible refine CN.out.mono ?_
       rintro e w2 ⟨rfl, rfl⟩
       go_wp2_with fail
       with_reducible refine JS.out.mono ?_
       rintro e w2 ⟨rfl, t2, s2⟩
       have z2 := s2.size
       simp at z2
       have st2 := ST1.out.sav s2 hgN hgN hgj hgj
       have C2 := CC.out.sav s2 (by simp; omega) (Nat.le_refl _)
       have c2b := (s2.cell (p := ⟨b1, 0, none⟩) (by simp; omega) n1 n1).trans (by go_simp; rfl)
       have c2c := (s2.cell (p := ⟨b2, 0, none⟩) (by simp; omega) n2 n2).trans (by go_simp; rfl)
       have hOwn := Nat.lt_of_lt_of_le (n := w.heap.size) sdd (Mem.Sav.size s2)
       have hOwn1 := Nat.ne_of_gt hOwn
       have hOwn2 := Nat.ne_of_lt hOwn
       have hOwn := (Mem.Sav.cell s2 (p := ⟨w.heap.size, 0, none⟩) sdd (by first | assumption | (simp; done) | (simp; omega) | omega) (by first | assumption | (simp; done) | (simp; omega) | omega)).trans (by go_simp; rfl)
       have hOwn := (Mem.Sav.cell s2 (p := ⟨w.heap.size, 1, none⟩) sdd (by first | assumption | (simp; done) | (simp; omega) | omega) (by first | assumption | (simp; done) | (simp; omega) | omega)).trans (by go_simp; rfl)
       have hOwn := (Mem.Sav.cell s2 (p := ⟨w.heap.size, 2, none⟩) sdd (by first | assumption | (simp; done) | (simp; omega) | omega) (by first | assumption | (simp; done) | (simp; omega) | omega)).trans (by go_simp; rfl)
       have hOwn := (Mem.Sav.cell s2 (p := ⟨w.heap.size, 3, none⟩) sdd (by first | assumption | (simp; done) | (simp; omega) | omega) (by first | assumption | (simp; done) | (simp; omega) | omega)).trans (by go_simp; rfl)
       have hOwn := (Mem.Sav.cell s2 (p := ⟨w.heap.size, 4, none⟩) sdd (by first | assumption | (simp; done) | (simp; omega) | omega) (by first | assumption | (simp; done) | (simp; omega) | omega)).trans (by go_simp; rfl)
       have hOwn := (Mem.Sav.frozen s2 (p := ⟨w.heap.size, 0, none⟩) sdd (by first | assumption | (simp; done) | (simp; omega) | omega) (by first | assumption | (simp; done) | (simp; omega) | omega)).trans (by go_simp; rfl)
       have hOwn := (Mem.Sav.frozen s2 (p := ⟨w.heap.size, 1, none⟩) sdd (by first | assumption | (simp; done) | (simp; omega) | omega) (by first | assumption | (simp; done) | (simp; omega) | omega)).trans (by go_simp; rfl)
       have hOwn := (Mem.Sav.frozen s2 (p := ⟨w.heap.size, 2, none⟩) sdd (by first | assumption | (simp; done) | (simp; omega) | omega) (by first | assumption | (simp; done) | (simp; omega) | omega)).trans (by go_simp; rfl)
       have hOwn := (Mem.Sav.frozen s2 (p := ⟨w.heap.size, 3, none⟩) sdd (by first | assumption | (simp; done) | (simp; omega) | omega) (by first | assumption | (simp; done) | (simp; omega) | omega)).trans (by go_simp; rfl)
       have hOwn := (Mem.Sav.frozen s2 (p := ⟨w.heap.size, 4, none⟩) sdd (by first | assumption | (simp; done) | (simp; omega) | omega) (by first | assumption | (simp; done) | (simp; omega) | omega)).trans (by go_simp; rfl)
       have sw2 : Sav g gj N w w2 := sw1.trans ((s2.mono (by simp; omega)).more)
       go_wp2_with fail
       with_reducible refine (NX.out _ C2 t2).mono ?_
       rintro e w3 ⟨j, A3, c3, A4, c4, q, rfl, tr, hj2, hq, t3, s3⟩
       have z3 := s3.size
       have st3 := st2.sav s3 hgN hgN hgj hgj
       have hOwn := Nat.lt_of_lt_of_le (n := w.heap.size) sdd (Mem.Sav.size s3)
       have hOwn1 := Nat.ne_of_gt hOwn
       have hOwn2 := Nat.ne_of_lt hOwn
       have hOwn := (Mem.Sav.cell s3 (p := ⟨w.heap.size, 0, none⟩) sdd (by first | assumption | (simp; done) | (simp; omega) | omega) (by first | assumption | (simp; done) | (simp; omega) | omega)).trans (by go_simp; rfl)
       have hOwn := (Mem.Sav.cell s3 (p := ⟨w.heap.size, 1, none⟩) sdd (by first | assumption | (simp; done) | (simp; omega) | omega) (by first | assumption | (simp; done) | (simp; omega) | omega)).trans (by go_simp; rfl)
       have hOwn := (Mem.Sav.cell s3 (p := ⟨w.heap.size, 2, none⟩) sdd (by first | assumption | (simp; done) | (simp; omega) | omega) (by first | assumption | (simp; done) | (simp; omega) | omega)).trans (by go_simp; rfl)
       have hOwn := (Mem.Sav.cell s3 (p := ⟨w.heap.size, 3, none⟩) sdd (by first | assumption | (simp; done) | (simp; omega) | omega) (by first | assumption | (simp; done) | (simp; omega) | omega)).trans (by go_simp; rfl)
       have hOwn := (Mem.Sav.cell s3 (p := ⟨w.heap.size, 4, none⟩) sdd (by first | assumption | (simp; done) | (simp; omega) | omega) (by first | assumption | (simp; done) | (simp; omega) | omega)).trans (by go_simp; rfl)
       have hOwn := (Mem.Sav.frozen s3 (p := ⟨w.heap.size, 0, none⟩) sdd (by first | assumption | (simp; done) | (simp; omega) | omega) (by first | assumption | (simp; done) | (simp; omega) | omega)).trans (by go_simp; rfl)
       have hOwn := (Mem.Sav.frozen s3 (p := ⟨w.heap.size, 1, none⟩) sdd (by first | assumption | (simp; done) | (simp; omega) | omega) (by first | assumption | (simp; done) | (simp; omega) | omega)).trans (by go_simp; rfl)
       have hOwn := (Mem.Sav.frozen s3 (p := ⟨w.heap.size, 2, none⟩) sdd (by first | assumption | (simp; done) | (simp; omega) | omega) (by first | assumption | (simp; done) | (simp; omega) | omega)).trans (by go_simp; rfl)
       have hOwn := (Mem.Sav.frozen s3 (p := ⟨w.heap.size, 3, none⟩) sdd (by first | assumption | (simp; done) | (simp; omega) | omega) (by first | assumption | (simp; done) | (simp; omega) | omega)).trans (by go_simp; rfl)
       have hOwn := (Mem.Sav.frozen s3 (p := ⟨w.heap.size, 4, none⟩) sdd (by first | assumption | (simp; done) | (simp; omega) | omega) (by first | assumption | (simp; done) | (simp; omega) | omega)).trans (by go_simp; rfl)
       have sw3 : Sav g gj N w w3 := sw2.trans ((s3.mono (by omega)).more)
       have st4 := st3.alloc (.cells #[.int .i64 j.k, .int .i64 j.n, .string j.t, .slice A3 j.its.length c3, .slice A4 j.ks.length c4] 25)
       have tr4 : TreeS (w3.alloc (.cells #[.int .i64 j.k, .int .i64 j.n, .string j.t, .slice A3 j.its.length c3, .slice A4 j.ks.length c4] 25)) (Btw w2.heap.size w3.heap.size) j [.int .i64 j.k, .int .i64 j.n, .string j.t, .slice A3 j.its.length c3, .slice A4 j.ks.length c4] := tr.keep (fun p hp => World.cell?_alloc_lt _ _ p hp.2) (fun b hb => hb)
       have t4 := t3.alloc (.cells #[.int .i64 j.k, .int .i64 j.n, .string j.t, .slice A3 j.its.length c3, .slice A4 j.ks.length c4] 25)
       have sw4 : Sav g gj N w (w3.alloc (.cells #[.int .i64 j.k, .int .i64 j.n, .string j.t, .slice A3 j.its.length c3, .slice A4 j.ks.length c4] 25)) := sw3.alloc (by omega) _
       have hap4 : some w3.heap.size ≠ (Value.slice D4 ks.length e4).ownBlock := fun e => by have := own_lt st3.o4 _ e; omega
       have hap3 : some w3.heap.size ≠ (Value.slice D3 js.length e3).ownBlock := fun e => by have := own_lt st3.o3 _ e; omega
       have HAP3 := Lib.hid hap3
       have HAP4 := Lib.hid hap4
       obtain ⟨k0, k1, k2, k3, k4, r0, r1, r2, r3, r4⟩ := st4.bk.facts
       have ST4 := Lib.hid st4
       have lg3 : gj < w3.heap.size := by omega
       have lw3 : w.heap.size < w3.heap.size := by omega
       have ngw : gj ≠ w3.heap.size := by omega
       clear hap3 hap4
       go_wp2_with (at_builtin; go_loud (refine wpList_appRg1 _ srecT rfl _ rfl (.tmp 31) (.tmp 34) rfl N _ ks.length (ks.map Value.string) rfl ST4.out.o4 1 _ (by simp; rfl) rfl (by simp [Value.oneCell']) (by omega) (by simp; omega) ?_; intro v4' w5 o4' b5 g5 ob5; obtain ⟨E4, y4, rfl, hle5, _⟩ := ownR_fls o4'; have bk5 := B5.below ST4.out.bk b5 hjN; obtain ⟨m0, m1, m2, m3, m4, f0, f1, f2, f3, f4⟩ := bk5.facts; have y0 := g5.cell (a := ⟨w3.heap.size, 0, none⟩) (by go_simp; rfl) HAP4.out; have y1 := g5.cell (a := ⟨w3.heap.size, 1, none⟩) (by go_simp; rfl) HAP4.out; have y2 := g5.cell (a := ⟨w3.heap.size, 2, none⟩) (by go_simp; rfl) HAP4.out; have y3 := g5.cell (a := ⟨w3.heap.size, 3, none⟩) (by go_simp; rfl) HAP4.out; have y4' := g5.cell (a := ⟨w3.heap.size, 4, none⟩) (by go_simp; rfl) HAP4.out))
       have st6 := StC.key ST4.out (k := ⟨T.toArray⟩) o4' g5 b5 (ob5.imp id fun e => ⟨_, e, by simp⟩)
       have t6 := (t4.below b5 hgN).past (q := ⟨gj, 4, none⟩) (by show gj ≠ g; omega) (.slice E4 (ks.length + 1) y4)
       have sv6 := (sw4.trans (Sav.of b5)).set (p := ⟨gj, 4, none⟩) (.inr (.inl rfl)) (.slice E4 (ks.length + 1) y4)
       have hsz := g5.size
       have hapE : some w3.heap.size ≠ (Value.slice E4 (ks.length + 1) y4).ownBlock := fun e => by
        rcases ob5 with o | o
        · exact HAP4.out (e.trans o)
        · rw [o] at e; injection e with e; simp at e <;> omega
       have tr6 : TreeS (w5.setCell ⟨gj, 4, none⟩ (.slice E4 (ks.length + 1) y4)) (FreeC N (w5.setCell ⟨gj, 4, none⟩ (.slice E4 (ks.length + 1) y4)) (.slice D3 js.length e3) (.slice E4 (ks.length + 1) y4)) j [.int .i64 j.k, .int .i64 j.n, .string j.t, .slice A3 j.its.length c3, .slice A4 j.ks.length c4] := by
        refine tr4.keep (fun p hp => ?_) (fun b hb => ⟨by have := hb.1; omega, by have := hb.2; simp [World.setCell]; simp at hsz; omega, fun e => by have := own_lt st2.o3 b e; have := hb.1; omega, fun e => ?_⟩)
        · have hne : some p.block ≠ (Value.slice D4 ks.length e4).ownBlock := fun e => by have := own_lt st2.o4 _ e; have := hp.1; omega
          exact (World.cell?_setCell_other _ _ _ _ (fun e => by have h1 := hp.1; have h2 := congrArg Addr.block e; simp only at h2; omega)).trans (World.cell?_of_block (g5.block p.block (by have := hp.2; simp; omega) hne))
        · rcases ob5 with o | o
          · have := own_lt st2.o4 b (e.trans o); have := hb.1; omega
          · rw [o] at e; injection e with e; have := hb.2; simp at e; omega
       have l63 : w3.heap.size < (w5.setCell ⟨gj, 4, none⟩ (.slice E4 (ks.length + 1) y4)).heap.size := by simp [World.setCell]; simp at hsz; omega
       have v0 : (w5.setCell ⟨gj, 4, none⟩ (.slice E4 (ks.length + 1) y4)).cell? ⟨w3.heap.size, 0, none⟩ = some (.int .i64 j.k) := by go_simp
       have v1 : (w5.setCell ⟨gj, 4, none⟩ (.slice E4 (ks.length + 1) y4)).cell? ⟨w3.heap.size, 1, none⟩ = some (.int .i64 j.n) := by go_simp
       have v2 : (w5.setCell ⟨gj, 4, none⟩ (.slice E4 (ks.length + 1) y4)).cell? ⟨w3.heap.size, 2, none⟩ = some (.string j.t) := by go_simp
       have v3 : (w5.setCell ⟨gj, 4, none⟩ (.slice E4 (ks.length + 1) y4)).cell? ⟨w3.heap.size, 3, none⟩ = some (.slice A3 j.its.length c3) := by go_simp
       have v4 : (w5.setCell ⟨gj, 4, none⟩ (.slice E4 (ks.length + 1) y4)).cell? ⟨w3.heap.size, 4, none⟩ = some (.slice A4 j.ks.length c4) := by go_simp
       obtain ⟨w6, hw6⟩ : ∃ w6, w6 = w5.setCell ⟨gj, 4, none⟩ (.slice E4 (ks.length + 1) y4) := ⟨_, rfl⟩
       rw [← hw6] at st6 t6 sv6 tr6 l63 v0 v1 v2 v3 v4 ⊢
       have ST6 := Lib.hid st6
       have five := Lib.hid st6.tr.flat
       have lt1 : (js.length : Int) < (js.length : Int) + 1 := by omega
       have lj6 : gj < w6.heap.size := by omega
       clear hw6 y0 y1 y2 y3 y4' m0 m1 m2 m3 m4 f0 f1 f2 f3 f4 o4' g5 ob5 bk5 k0 k1 k2 k3 k4 r0 r1 r2 r3 r4 hOwn hOwn1 hOwn2 c2b c2c c1 c2 tr tr4 hsz
       obtain ⟨k0, k1, k2, k3, k4, r0, r1, r2, r3, r4⟩ := st6.bk.facts
       go_region_law
        (first | (refine step_appRg1 _ jrecT (by rfl) (some 42) rfl (.tmp 38) (.tmp 41) rfl N _ js.length css.flatten rfl (by first | exact ST6.out.o3 | exact ST6.out.o3.drewN _) 1 _ (by first | rfl | simp [Act.eval]) (by rfl) (by simp [Value.oneCell']) (by omega) (by first | omega | (simp; omega)) ?_; intro v3' w7 o3' b7 g7 ob7; obtain ⟨g9, cap9, rfl, hb9, hl9⟩ := World.ownsRow.form o3' (Nat.succ_pos _); obtain ⟨q0, q1, q2, q3, q4, u0, u1, u2, u3, u4⟩ := last5_own o3' five.out; have s0 := g7.cell v0 HAP3.out; have s1 := g7.cell v1 HAP3.out; have s2 := g7.cell v2 HAP3.out; have s3 := g7.cell v3 HAP3.out; have s4 := g7.cell v4 HAP3.out; have bk7 := B5.below st6.bk b7 hjN; obtain ⟨m0, m1, m2, m3, m4, f0, f1, f2, f3, f4⟩ := bk7.facts; have hg7 := g7.size; have ng := Nat.ne_of_gt (Nat.lt_of_lt_of_le hjN hb9); have ng2 := Nat.ne_of_lt (Nat.lt_of_lt_of_le hjN hb9)))
       all_goals (
        have g8 : w6.grownBy w7 (Value.slice D3 js.length e3).ownBlock := ⟨g7.os, g7.tape, g7.output, g7.size, g7.block⟩
        have b8 : Below N w6 w7 := ⟨b7.os, b7.tape, b7.output, b7.size, b7.block⟩
        have o8 := own_ob ob7 (show w6.heap.size ≤ _ from Nat.le_succ _)
        have st8 := StC.item5 ST6.out o3' g8 b8 o8 tr6
        have t8 := t6.below b8 hgN
        have s8 := sv6.trans (Sav.of b8)
        clear v0 v1 v2 v3 v4 q0 q1 q2 q3 q4 u0 u1 u2 u3 u4 s0 s1 s2 s3 s4 m0 m1 m2 m3 m4 f0 f1 f2 f3 f4 k0 k1 k2 k3 k4 r0 r1 r2 r3 r4 o3' b7 g7 ob7
        go_wp2_with fail
        try rw [Mem.comm5 ng2]
        go_ret
        exact one_ret (q := q) (by rfl) st8 (fun e => by obtain ⟨h1, h2⟩ := hj2 e; exact ⟨rfl, by rw [h1], h2⟩) (by simp) (by simp) hq (by (repeat' (first | with_reducible assumption | with_reducible refine Cur.drewN ?_ _ | with_reducible refine Cur.drew ?_ | with_reducible refine Cur.alloc ?_ _ | (with_reducible refine Cur.past ?_ ?_ _; rotate_left; focus (first | assumption | (simp; done) | (simp; omega) | (dsimp only; omega) | omega | fail)) | with_reducible refine Cur.go (p := q) ?_ | fail))) (by (repeat' (first | with_reducible assumption | with_reducible exact Mem.Sav.refl _ _ _ _ | with_reducible refine Mem.Sav.drewN ?_ _ | with_reducible refine Mem.Sav.drew ?_ | (with_reducible refine Mem.Sav.set ?_ ?_ _; rotate_left; focus (first | (simp; done) | (simp; omega) | (dsimp only; omega) | omega | fail)) | (with_reducible refine Mem.Sav.alloc ?_ ?_ _; rotate_left; focus (first | exact Nat.le_refl _ | assumption | (simp; done) | (simp; omega) | omega | fail)) | (with_reducible refine Mem.Sav.call (by with_reducible assumption) ?_ ?_; focus (first | exact Nat.le_refl _ | assumption | (simp; done) | (simp; omega) | omega | fail)) | (with_reducible refine Mem.Sav.next (by with_reducible assumption) ?_ ?_; focus (first | exact Nat.le_refl _ | assumption | (simp; done) | (simp; omega) | omega | fail)) | (with_reducible refine Mem.Sav.next1 (by with_reducible assumption) ?_ ?_; focus (first | exact Nat.le_refl _ | assumption | (simp; done) | (simp; omega) | omega | fail)) | fail))))
     · have JSH := Lib.hid js1
       have Z : Hid (R.2.2 = jus (Jx.tak l x) 5) := by
        show _ = _
        unfold jus at hju ⊢
        by_cases h2 : (Jx.tak l x).2 = 0
        · rw [if_neg (by omega)] at hju ⊢
          rw [if_neg (by omega)] at hR
          by_cases h5 : (Jx.tak l x).1.k = 5
          · rw [if_pos h5] at hju; exact absurd rfl hju
          · rw [if_neg h5]; rw [if_pos h5] at hR; rw [hR]; rfl
        · rw [if_pos h2] at hju ⊢
          rw [if_pos h2] at hR; rw [hR]; rfl
       obtain ⟨ju, hjue⟩ : ∃ ju, ju = jus (Jx.tak l x) 5 := ⟨_, rfl⟩
       rw [← hjue] at js1 Z hju
       have JS := Lib.hid js1
       have qj : ((ju : Int) != 0) = true := by rw [bne_iff_ne]; omega
       have HJ := Lib.hid hju
       clear cn js1 hR han hanf more hV hju more2 hmm hjue JSH
       go_enter Tryz.func154, Tryz.ntmps154
       go_wp2_with fail
       with_reducible refine CN.out.mono ?_
       rintro e w2 ⟨rfl, rfl⟩
       go_wp2_with fail
       with_reducible refine JS.out.mono ?_
       rintro e w2 ⟨rfl, t2, s2⟩
       have st2 := ST1.out.sav s2 hgN hgN hgj hgj
       have sw2 : Sav g gj N w w2 := sw1.trans ((s2.mono (by simp; omega)).more)
       go_wp2_with fail
       go_ret
       exact one_ret (q := m) (by rw [Z.out]) st2 (fun e => by rw [Z.out] at e; exact absurd e HJ.out) (by omega) (by omega) fine2 t2 sw2
 · rw [if_pos hK] at hR
   have Z := Lib.hid hR
   have q10 : ((K : Int) != 10) = true := by rw [bne_iff_ne]; omega
   have ST1 := Lib.hid st1
   clear st st1 C C1 cap hr fl4 hR hV cn more hK
   go_enter Tryz.func154, Tryz.ntmps154
   go_wp2_with fail
   go_ret
   exact one_ret (q := x) (by rw [Z.out]; rfl) ST1.out (fun e => by rw [Z.out] at e; exact absurd e (by decide)) (by omega) (by omega) fine t1 sw1
end Go.Proofs.YthogheglddfniaaGreatDoor
