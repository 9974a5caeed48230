/- Joined by tools/bundle.py: JC JCSt. -/
import Derived.Deep.RegionHeldLaw
import Derived.Test.YthogheglddfniaaGreatDoorW2
import Derived.Test.YthogheglddfniaaGreatDoorW4
import Derived.Test.YthogheglddfniaaGreatDoorW8
import Derived.Test.YthogheglddfniaaGreatDoorW24
import Derived.Test.YthogheglddfniaaGreatDoorW0
set_option maxRecDepth 100000
set_option maxHeartbeats 16000000
namespace Go.Proofs.YthogheglddfniaaGreatDoor
open Go.ChangeShapes Go.WideShapes Go.ChangeAt Go.RowKit Mem
structure Cx (l : List UInt8) (A : Option Addr) (c g : Nat) (w : World) : Prop where
 laid : Laid w
 top : 5 < g
 bys : Bys w g A l
 len : l.length ≤ 100000000
 cap : l.length ≤ c
theorem Cx.sav {l : List UInt8} {A : Option Addr} {c g h B : Nat} {w w' : World} (x : Cx l A c g w) (s : Sav g h B w w') (hB : g ≤ B) (hh : g ≤ h) : Cx l A c g w' :=
 have b := s.bel (Nat.le_refl _) hh hB
 ⟨x.laid.below b x.top, x.top, x.bys.below b, x.len, x.cap⟩
def Cur (w : World) (g : Nat) (A : Option Addr) (n c p : Nat) : Prop := B2 w g 72 (.slice A n c) (.int .i64 (p : Int))
theorem Cur.lt {w : World} {g n c p : Nat} {A : Option Addr} (h : Cur w g A n c p) : g < w.heap.size := B2.lt h
theorem Cur.alloc {w : World} {g n c p : Nat} {A : Option Addr} (h : Cur w g A n c p) (o : Obj) : Cur (w.alloc o) g A n c p := B2.alloc h o
theorem Cur.past {w : World} {g n c p : Nat} {A : Option Addr} (h : Cur w g A n c p) {q : Addr} (hq : q.block ≠ g) (u : Value) : Cur (w.setCell q u) g A n c p := B2.past h hq u
theorem Cur.drewN {w : World} {g n c p : Nat} {A : Option Addr} (h : Cur w g A n c p) (k : Nat) : Cur (w.drewN k) g A n c p := h
theorem Cur.drew {w : World} {g n c p : Nat} {A : Option Addr} (h : Cur w g A n c p) : Cur w.drew g A n c p := h
theorem Cur.below {w w' : World} {g n c p B : Nat} {A : Option Addr} (h : Cur w g A n c p) (b : Below B w w') (hg : g < B) : Cur w' g A n c p := B2.below h b hg
theorem Cur.go {w : World} {g n c p x : Nat} {A : Option Addr} (h : Cur w g A n c p) : Cur (w.setCell ⟨g, 1, none⟩ (.int .i64 (x : Int))) g A n c x := B2.set1 h _
abbrev wv (g : Nat) : Value := .func (.func 40) #[.pointer (some ⟨g, 0, none⟩)] #[]
def mov (l : List UInt8) (p : Nat) : Nat := if (Jx.tak l p).2 = 0 then (Jx.tak l p).1.x else p
theorem mov_le {l : List UInt8} {p : Nat} (hp : p ≤ l.length) : mov l p ≤ l.length := by
 unfold mov
 split
 · exact (Jx.tak_fine l p hp).1.2.1
 · exact hp
def Stp (l : List UInt8) (A : Option Addr) (c g p : Nat) (w : World) (e : Ending) (w' : World) : Prop :=
 e = .returned (.tuple #[wval (Jx.tak l p).1, .int .i64 ((Jx.tak l p).2 : Int)]) ∧ Cur w' g A l.length c (mov l p) ∧ Sav g g w.heap.size w w'
theorem stp_ret {l : List UInt8} {A : Option Addr} {c g p q : Nat} {w w' : World} {r : Jx.Wd × Nat} {y0 y1 y3 y4 y5 : Int} {y2 : ByteArray} (hr : Jx.tak l p = r) (h0 : y0 = (r.1.k : Int)) (h1 : y1 = r.1.n) (h2 : y2 = ⟨r.1.t.toArray⟩) (h3 : y3 = (r.1.a : Int)) (h4 : y4 = (r.1.x : Int)) (h5 : y5 = (r.2 : Int))
 (hq : q = if r.2 = 0 then r.1.x else p) (hc : Cur w' g A l.length c q) (hs : Sav g g w.heap.size w w') : Stp l A c g p w (.returned (.tuple #[.agg #[.int .i64 y0, .int .i64 y1, .string y2, .int .i64 y3, .int .i64 y4], .int .i64 y5])) w' := by
 subst hr; subst h0; subst h1; subst h2; subst h3; subst h4; subst h5; subst hq
 exact ⟨rfl, hc, hs⟩
theorem step_any (l : List UInt8) (A : Option Addr) (c g p : Nat) (w : World) (C : Cx l A c g w) (hcur : Cur w g A l.length c p) (hp : p ≤ l.length) :
 Calls Tryz.prog 40 #[.pointer (some ⟨g, 0, none⟩)] w (Stp l A c g p w) := by
 have CS := cell_set
 have hg := hcur.lt
 have tk := fun W (h : Below w.heap.size w W) => jTake_good A c l p W (C.laid.below h C.laid.top) ((C.bys.below (h.mono (Nat.le_of_lt hg))).more (by have := h.size; omega)) C.len C.cap hp
 obtain ⟨⟨⟨K, n, T, a, x⟩, er⟩, hr⟩ : ∃ r, r = Jx.tak l p := ⟨_, rfl⟩
 rw [← hr] at tk
 have TK := Lib.hid tk
 have HR := Lib.hid hr.symm
 have HC := Lib.hid hcur
 obtain ⟨c0, c1, z0, z1⟩ := B2.facts hcur
 have hpl := Nat.le_trans hp C.len
 clear tk hr hcur C
 have gn : g ≠ w.heap.size := by omega
 have gn1 : g ≠ w.heap.size + 1 := by omega
 have gn2 : w.heap.size ≠ g := by omega
 have gn3 : w.heap.size + 1 ≠ g := by omega
 by_cases he : er = 0
 · subst he
   go_enter Tryz.func40, Tryz.ntmps40
   go_wp2_with fail
   go_region_held_law (fun w' => w'.cell? ⟨g, 0, none⟩ = some (.slice A l.length c) ∧ w'.cell? ⟨g, 1, none⟩ = some (.int .i64 (p : Int))) (exact ⟨(by first | with_reducible assumption | (go_simp; done)), (by first | with_reducible assumption | (go_simp; done))⟩)
    (first | (go_at_call 81; refine (TK.out _ bqq).mono ?_; intro e w1 h1; obtain ⟨rfl, b1⟩ := tkW_out h1; clear h1; have gsz := b1.size; simp at gsz; have t1 : Cur w1 g A l.length c p := Cur.below (by first | exact HC.out | exact HC.out.alloc _ | exact (HC.out.alloc _).alloc _) b1 (by first | (simp; done) | (simp; omega) | omega); have bb : Below w.heap.size w w1 := bqq; have gl1 := Cur.lt t1; have gl2 := Nat.ne_of_gt gl1; have gl3 := Nat.ne_of_lt gl1; obtain ⟨k0, k1, k2, k3⟩ := B2.facts t1; (have hOwn := Nat.lt_of_lt_of_le (n := w.heap.size) sdd (Below.size b1); have hOwn1 := Nat.ne_of_gt hOwn; have hOwn2 := Nat.ne_of_lt hOwn; have hOwn := ocl b1 w.heap.size 0; have hOwn := ocl b1 w.heap.size 1; have hOwn := ocl b1 w.heap.size 2; have hOwn := ocl b1 w.heap.size 3; have hOwn := ocl b1 w.heap.size 4; have hOwn := ofr b1 w.heap.size 0; have hOwn := ofr b1 w.heap.size 1; have hOwn := ofr b1 w.heap.size 2; have hOwn := ofr b1 w.heap.size 3; have hOwn := ofr b1 w.heap.size 4); (have hOwn := Nat.lt_of_lt_of_le (n := (w.heap.size + 1)) sdd (Below.size b1); have hOwn1 := Nat.ne_of_gt hOwn; have hOwn2 := Nat.ne_of_lt hOwn; have hOwn := ocl b1 ((w.heap.size + 1)) 0; have hOwn := ocl b1 ((w.heap.size + 1)) 1; have hOwn := ocl b1 ((w.heap.size + 1)) 2; have hOwn := ocl b1 ((w.heap.size + 1)) 3; have hOwn := ocl b1 ((w.heap.size + 1)) 4; have hOwn := ofr b1 ((w.heap.size + 1)) 0; have hOwn := ofr b1 ((w.heap.size + 1)) 1; have hOwn := ofr b1 ((w.heap.size + 1)) 2; have hOwn := ofr b1 ((w.heap.size + 1)) 3; have hOwn := ofr b1 ((w.heap.size + 1)) 4)) | (go_at_call 81; refine (TK.out _ bqq).mono ?_; intro e w1 h1; obtain ⟨rfl, b1⟩ := tkW_out h1; clear h1; have gsz := b1.size; simp at gsz; have t1 : Cur w1 g A l.length c p := Cur.below (by first | exact HC.out | exact HC.out.alloc _ | exact (HC.out.alloc _).alloc _) b1 (by first | (simp; done) | (simp; omega) | omega); have bb : Below w.heap.size w w1 := bqq; have gl1 := Cur.lt t1; have gl2 := Nat.ne_of_gt gl1; have gl3 := Nat.ne_of_lt gl1; obtain ⟨k0, k1, k2, k3⟩ := B2.facts t1; (have hOwn := Nat.lt_of_lt_of_le (n := w.heap.size) sdd (Below.size b1); have hOwn1 := Nat.ne_of_gt hOwn; have hOwn2 := Nat.ne_of_lt hOwn; have hOwn := ocl b1 w.heap.size 0; have hOwn := ocl b1 w.heap.size 1; have hOwn := ocl b1 w.heap.size 2; have hOwn := ocl b1 w.heap.size 3; have hOwn := ocl b1 w.heap.size 4; have hOwn := ofr b1 w.heap.size 0; have hOwn := ofr b1 w.heap.size 1; have hOwn := ofr b1 w.heap.size 2; have hOwn := ofr b1 w.heap.size 3; have hOwn := ofr b1 w.heap.size 4)))
   all_goals
    go_wp2_with fail
    try simp only [Exit.inBlock, Exit.then]
    refine post_rj (x0 := .int .i64 (K : Int)) (x1 := .int .i64 n) (x2 := .string ⟨T.toArray⟩) (x3 := .int .i64 (a : Int)) (x4 := .int .i64 (x : Int)) rfl rfl rfl (by go_simp) (by go_simp) (by go_simp) (by go_simp) (by go_simp) ?_
    exact stp_ret (q := x) HR.out rfl rfl rfl rfl rfl rfl rfl (by (repeat' (first | with_reducible assumption | with_reducible refine Cur.drewN ?_ _ | with_reducible refine Cur.drew ?_ | with_reducible refine Cur.alloc ?_ _ | (with_reducible refine Cur.past ?_ ?_ _; rotate_left; focus (first | assumption | (simp; done) | (simp; omega) | (dsimp only; omega) | omega | fail)) | with_reducible refine Cur.go (p := p) ?_ | fail))) (by (repeat' (first | with_reducible assumption | with_reducible exact Mem.Sav.refl _ _ _ _ | with_reducible refine Mem.Sav.drewN ?_ _ | with_reducible refine Mem.Sav.drew ?_ | (with_reducible refine Mem.Sav.set ?_ ?_ _; rotate_left; focus (first | (simp; done) | (simp; omega) | (dsimp only; omega) | omega | fail)) | (with_reducible refine Mem.Sav.alloc ?_ ?_ _; rotate_left; focus (first | exact Nat.le_refl _ | assumption | (simp; done) | (simp; omega) | omega | fail)) | (with_reducible refine Mem.Sav.call (by with_reducible assumption) ?_ ?_; focus (first | exact Nat.le_refl _ | assumption | (simp; done) | (simp; omega) | omega | fail)) | (with_reducible refine Mem.Sav.next (by with_reducible assumption) ?_ ?_; focus (first | exact Nat.le_refl _ | assumption | (simp; done) | (simp; omega) | omega | fail)) | (with_reducible refine Mem.Sav.next1 (by with_reducible assumption) ?_ ?_; focus (first | exact Nat.le_refl _ | assumption | (simp; done) | (simp; omega) | omega | fail)) | fail)))
 · have qe : ((er : Int) == 0) = false := by rw [beq_eq_false_iff_ne]; omega
   go_enter Tryz.func40, Tryz.ntmps40
   go_wp2_with fail
   go_region_held_law (fun w' => w'.cell? ⟨g, 0, none⟩ = some (.slice A l.length c) ∧ w'.cell? ⟨g, 1, none⟩ = some (.int .i64 (p : Int))) (exact ⟨(by first | with_reducible assumption | (go_simp; done)), (by first | with_reducible assumption | (go_simp; done))⟩)
    (first | (go_at_call 81; refine (TK.out _ bqq).mono ?_; intro e w1 h1; obtain ⟨rfl, b1⟩ := tkW_out h1; clear h1; have gsz := b1.size; simp at gsz; have t1 : Cur w1 g A l.length c p := Cur.below (by first | exact HC.out | exact HC.out.alloc _ | exact (HC.out.alloc _).alloc _) b1 (by first | (simp; done) | (simp; omega) | omega); have bb : Below w.heap.size w w1 := bqq; have gl1 := Cur.lt t1; have gl2 := Nat.ne_of_gt gl1; have gl3 := Nat.ne_of_lt gl1; obtain ⟨k0, k1, k2, k3⟩ := B2.facts t1; (have hOwn := Nat.lt_of_lt_of_le (n := w.heap.size) sdd (Below.size b1); have hOwn1 := Nat.ne_of_gt hOwn; have hOwn2 := Nat.ne_of_lt hOwn; have hOwn := ocl b1 w.heap.size 0; have hOwn := ocl b1 w.heap.size 1; have hOwn := ocl b1 w.heap.size 2; have hOwn := ocl b1 w.heap.size 3; have hOwn := ocl b1 w.heap.size 4; have hOwn := ofr b1 w.heap.size 0; have hOwn := ofr b1 w.heap.size 1; have hOwn := ofr b1 w.heap.size 2; have hOwn := ofr b1 w.heap.size 3; have hOwn := ofr b1 w.heap.size 4); (have hOwn := Nat.lt_of_lt_of_le (n := (w.heap.size + 1)) sdd (Below.size b1); have hOwn1 := Nat.ne_of_gt hOwn; have hOwn2 := Nat.ne_of_lt hOwn; have hOwn := ocl b1 ((w.heap.size + 1)) 0; have hOwn := ocl b1 ((w.heap.size + 1)) 1; have hOwn := ocl b1 ((w.heap.size + 1)) 2; have hOwn := ocl b1 ((w.heap.size + 1)) 3; have hOwn := ocl b1 ((w.heap.size + 1)) 4; have hOwn := ofr b1 ((w.heap.size + 1)) 0; have hOwn := ofr b1 ((w.heap.size + 1)) 1; have hOwn := ofr b1 ((w.heap.size + 1)) 2; have hOwn := ofr b1 ((w.heap.size + 1)) 3; have hOwn := ofr b1 ((w.heap.size + 1)) 4)) | (go_at_call 81; refine (TK.out _ bqq).mono ?_; intro e w1 h1; obtain ⟨rfl, b1⟩ := tkW_out h1; clear h1; have gsz := b1.size; simp at gsz; have t1 : Cur w1 g A l.length c p := Cur.below (by first | exact HC.out | exact HC.out.alloc _ | exact (HC.out.alloc _).alloc _) b1 (by first | (simp; done) | (simp; omega) | omega); have bb : Below w.heap.size w w1 := bqq; have gl1 := Cur.lt t1; have gl2 := Nat.ne_of_gt gl1; have gl3 := Nat.ne_of_lt gl1; obtain ⟨k0, k1, k2, k3⟩ := B2.facts t1; (have hOwn := Nat.lt_of_lt_of_le (n := w.heap.size) sdd (Below.size b1); have hOwn1 := Nat.ne_of_gt hOwn; have hOwn2 := Nat.ne_of_lt hOwn; have hOwn := ocl b1 w.heap.size 0; have hOwn := ocl b1 w.heap.size 1; have hOwn := ocl b1 w.heap.size 2; have hOwn := ocl b1 w.heap.size 3; have hOwn := ocl b1 w.heap.size 4; have hOwn := ofr b1 w.heap.size 0; have hOwn := ofr b1 w.heap.size 1; have hOwn := ofr b1 w.heap.size 2; have hOwn := ofr b1 w.heap.size 3; have hOwn := ofr b1 w.heap.size 4)))
   all_goals
    go_wp2_with fail
    try simp only [Exit.inBlock, Exit.then]
    refine post_rj (x0 := .int .i64 (K : Int)) (x1 := .int .i64 n) (x2 := .string ⟨T.toArray⟩) (x3 := .int .i64 (a : Int)) (x4 := .int .i64 (x : Int)) rfl rfl rfl (by go_simp) (by go_simp) (by go_simp) (by go_simp) (by go_simp) ?_
    exact stp_ret (q := p) HR.out rfl rfl rfl rfl rfl rfl (by rw [if_neg he]) (by (repeat' (first | with_reducible assumption | with_reducible refine Cur.drewN ?_ _ | with_reducible refine Cur.drew ?_ | with_reducible refine Cur.alloc ?_ _ | (with_reducible refine Cur.past ?_ ?_ _; rotate_left; focus (first | assumption | (simp; done) | (simp; omega) | (dsimp only; omega) | omega | fail)) | with_reducible refine Cur.go (p := p) ?_ | fail))) (by (repeat' (first | with_reducible assumption | with_reducible exact Mem.Sav.refl _ _ _ _ | with_reducible refine Mem.Sav.drewN ?_ _ | with_reducible refine Mem.Sav.drew ?_ | (with_reducible refine Mem.Sav.set ?_ ?_ _; rotate_left; focus (first | (simp; done) | (simp; omega) | (dsimp only; omega) | omega | fail)) | (with_reducible refine Mem.Sav.alloc ?_ ?_ _; rotate_left; focus (first | exact Nat.le_refl _ | assumption | (simp; done) | (simp; omega) | omega | fail)) | (with_reducible refine Mem.Sav.call (by with_reducible assumption) ?_ ?_; focus (first | exact Nat.le_refl _ | assumption | (simp; done) | (simp; omega) | omega | fail)) | (with_reducible refine Mem.Sav.next (by with_reducible assumption) ?_ ?_; focus (first | exact Nat.le_refl _ | assumption | (simp; done) | (simp; omega) | omega | fail)) | (with_reducible refine Mem.Sav.next1 (by with_reducible assumption) ?_ ?_; focus (first | exact Nat.le_refl _ | assumption | (simp; done) | (simp; omega) | omega | fail)) | fail)))
end Go.Proofs.YthogheglddfniaaGreatDoor
namespace Go.Proofs.YthogheglddfniaaGreatDoor
open Go.ChangeShapes Go.WideShapes Go.ChangeAt Go.RowKit Mem
def Cv (r : Jp.R) (l : List UInt8) (A : Option Addr) (c g : Nat) (w : World) (e : Ending) (w' : World) : Prop :=
 ∃ j A3 c3 A4 c4 q, e = .returned (.tuple #[.agg #[.int .i64 (J.k j), .int .i64 j.n, .string j.t, .slice A3 j.its.length c3, .slice A4 j.ks.length c4], .int .i64 (r.2.2 : Int)]) ∧
  TreeS w' (Btw w.heap.size w'.heap.size) j [.int .i64 j.k, .int .i64 j.n, .string j.t, .slice A3 j.its.length c3, .slice A4 j.ks.length c4] ∧
  (r.2.2 = 0 → j = r.1 ∧ q = r.2.1) ∧ q ≤ l.length ∧ Cur w' g A l.length c q ∧ Sav g g w.heap.size w w'
theorem cv_ret {r : Jp.R} {l : List UInt8} {A A3 A4 : Option Addr} {c g B c3 c4 q : Nat} {w wr w' : World} {j : J} {y : Int} (hy : y = (r.2.2 : Int))
 (ht : TreeS wr (Btw B wr.heap.size) j [.int .i64 j.k, .int .i64 j.n, .string j.t, .slice A3 j.its.length c3, .slice A4 j.ks.length c4]) (hB : w.heap.size ≤ B) (hk : KeepS (Btw B wr.heap.size) wr w') (hs : wr.heap.size ≤ w'.heap.size)
 (hj : r.2.2 = 0 → j = r.1 ∧ q = r.2.1) (hq : q ≤ l.length) (hc : Cur w' g A l.length c q) (hv : Sav g g w.heap.size w w') :
 Cv r l A c g w (.returned (.tuple #[.agg #[.int .i64 j.k, .int .i64 j.n, .string j.t, .slice A3 j.its.length c3, .slice A4 j.ks.length c4], .int .i64 y])) w' := by
 subst hy
 exact ⟨j, A3, c3, A4, c4, q, rfl, ht.keep hk (fun b hb => ⟨Nat.le_trans hB hb.1, Nat.lt_of_lt_of_le hb.2 hs⟩), hj, hq, hc, hv⟩
theorem cv_leaf {r : Jp.R} {l : List UInt8} {A : Option Addr} {c g q er : Nat} {w w' : World} {k n y : Int} {s : ByteArray} (h : r.2.2 = er) (hy : y = (er : Int)) (hj : er = 0 → r = (.mk k n s [] [], q, 0)) (hq : q ≤ l.length) (hc : Cur w' g A l.length c q) (hv : Sav g g w.heap.size w w') :
 Cv r l A c g w (.returned (.tuple #[.agg #[.int .i64 k, .int .i64 n, .string s, .slice none 0 0, .slice none 0 0], .int .i64 y])) w' := by
 subst hy; subst h
 exact ⟨.mk k n s [] [], none, 0, none, 0, q, rfl, TreeS.leaf _ _ _ _ _, fun e => by rw [hj e]; exact ⟨rfl, rfl⟩, hq, hc, hv⟩
theorem cv_bad {r : Jp.R} {l : List UInt8} {A : Option Addr} {c g q er : Nat} {w w' : World} {y : Int} (h : r = Jp.bad er) (he : er ≠ 0) (hy : y = (er : Int)) (hq : q ≤ l.length) (hc : Cur w' g A l.length c q) (hv : Sav g g w.heap.size w w') :
 Cv r l A c g w (.returned (.tuple #[.agg #[.int .i64 0, .int .i64 0, .string ⟨#[]⟩, .slice none 0 0, .slice none 0 0], .int .i64 y])) w' :=
 cv_leaf (er := er) (by rw [h]; rfl) hy (fun e => absurd e he) hq hc hv
def jus (r : Jx.Wd × Nat) (k : Nat) : Nat := if r.2 ≠ 0 then r.2 else if r.1.k = k then 0 else 20
def Jst (l : List UInt8) (A : Option Addr) (c g p k : Nat) (w : World) (e : Ending) (w' : World) : Prop :=
 e = .returned (.int .i64 (jus (Jx.tak l p) k : Int)) ∧ Cur w' g A l.length c (mov l p) ∧ Sav g g w.heap.size w w'
theorem jst_ret {l : List UInt8} {A : Option Addr} {c g p k q : Nat} {w w' : World} {y : Int} (hy : y = (jus (Jx.tak l p) k : Int)) (hq : mov l p = q) (hc : Cur w' g A l.length c q) (hs : Sav g g w.heap.size w w') : Jst l A c g p k w (.returned (.int .i64 y)) w' := by
 subst hy; subst hq; exact ⟨rfl, hc, hs⟩
theorem just_any (l : List UInt8) (A : Option Addr) (c g p k : Nat) (w : World) (C : Cx l A c g w) (hcur : Cur w g A l.length c p) (hp : p ≤ l.length) :
 Calls Tryz.prog 42 #[wv g, .int .i64 (k : Int)] w (Jst l A c g p k w) := by
 have CS := cell_set
 have hg := hcur.lt
 have st := step_any l A c g p w C hcur hp
 unfold Stp at st
 obtain ⟨m, hm⟩ : ∃ m, m = mov l p := ⟨_, rfl⟩
 obtain ⟨⟨⟨K, n, T, a, x⟩, er⟩, hr⟩ : ∃ r, r = Jx.tak l p := ⟨_, rfl⟩
 rw [← hr, ← hm] at st
 simp only [wval] at st
 have ST := Lib.hid st
 have HR := Lib.hid hr.symm
 have HM := Lib.hid hm.symm
 clear st hr hm hcur C
 by_cases he : er = 0
 · subst he
   by_cases hk : K = k
   · subst hk
     go_enter Tryz.func42, Tryz.ntmps42
     go_wp2_with fail
     with_reducible refine ST.out.mono ?_
     rintro e w2 ⟨rfl, t2, s2⟩
     have z2 := s2.size
     go_wp2_with fail
     go_ret
     exact jst_ret (by rw [HR.out]; simp [jus]) HM.out (by (repeat' (first | with_reducible assumption | with_reducible refine Cur.drewN ?_ _ | with_reducible refine Cur.drew ?_ | with_reducible refine Cur.alloc ?_ _ | (with_reducible refine Cur.past ?_ ?_ _; rotate_left; focus (first | assumption | (simp; done) | (simp; omega) | (dsimp only; omega) | omega | fail)) | with_reducible refine Cur.go (p := m) ?_ | fail))) (by (repeat' (first | with_reducible assumption | with_reducible exact Mem.Sav.refl _ _ _ _ | with_reducible refine Mem.Sav.drewN ?_ _ | with_reducible refine Mem.Sav.drew ?_ | (with_reducible refine Mem.Sav.set ?_ ?_ _; rotate_left; focus (first | (simp; done) | (simp; omega) | (dsimp only; omega) | omega | fail)) | (with_reducible refine Mem.Sav.alloc ?_ ?_ _; rotate_left; focus (first | exact Nat.le_refl _ | assumption | (simp; done) | (simp; omega) | omega | fail)) | (with_reducible refine Mem.Sav.call (by with_reducible assumption) ?_ ?_; focus (first | exact Nat.le_refl _ | assumption | (simp; done) | (simp; omega) | omega | fail)) | (with_reducible refine Mem.Sav.next (by with_reducible assumption) ?_ ?_; focus (first | exact Nat.le_refl _ | assumption | (simp; done) | (simp; omega) | omega | fail)) | (with_reducible refine Mem.Sav.next1 (by with_reducible assumption) ?_ ?_; focus (first | exact Nat.le_refl _ | assumption | (simp; done) | (simp; omega) | omega | fail)) | fail)))
   · have qk : ((K : Int) != (k : Int)) = true := by rw [bne_iff_ne]; omega
     go_enter Tryz.func42, Tryz.ntmps42
     go_wp2_with fail
     with_reducible refine ST.out.mono ?_
     rintro e w2 ⟨rfl, t2, s2⟩
     have z2 := s2.size
     go_wp2_with fail
     go_ret
     exact jst_ret (by rw [HR.out]; unfold jus; rw [if_neg (by simp), if_neg hk]; rfl) HM.out (by (repeat' (first | with_reducible assumption | with_reducible refine Cur.drewN ?_ _ | with_reducible refine Cur.drew ?_ | with_reducible refine Cur.alloc ?_ _ | (with_reducible refine Cur.past ?_ ?_ _; rotate_left; focus (first | assumption | (simp; done) | (simp; omega) | (dsimp only; omega) | omega | fail)) | with_reducible refine Cur.go (p := m) ?_ | fail))) (by (repeat' (first | with_reducible assumption | with_reducible exact Mem.Sav.refl _ _ _ _ | with_reducible refine Mem.Sav.drewN ?_ _ | with_reducible refine Mem.Sav.drew ?_ | (with_reducible refine Mem.Sav.set ?_ ?_ _; rotate_left; focus (first | (simp; done) | (simp; omega) | (dsimp only; omega) | omega | fail)) | (with_reducible refine Mem.Sav.alloc ?_ ?_ _; rotate_left; focus (first | exact Nat.le_refl _ | assumption | (simp; done) | (simp; omega) | omega | fail)) | (with_reducible refine Mem.Sav.call (by with_reducible assumption) ?_ ?_; focus (first | exact Nat.le_refl _ | assumption | (simp; done) | (simp; omega) | omega | fail)) | (with_reducible refine Mem.Sav.next (by with_reducible assumption) ?_ ?_; focus (first | exact Nat.le_refl _ | assumption | (simp; done) | (simp; omega) | omega | fail)) | (with_reducible refine Mem.Sav.next1 (by with_reducible assumption) ?_ ?_; focus (first | exact Nat.le_refl _ | assumption | (simp; done) | (simp; omega) | omega | fail)) | fail)))
 · have qe : ((er : Int) == 0) = false := by rw [beq_eq_false_iff_ne]; omega
   go_enter Tryz.func42, Tryz.ntmps42
   go_wp2_with fail
   with_reducible refine ST.out.mono ?_
   rintro e w2 ⟨rfl, t2, s2⟩
   have z2 := s2.size
   go_wp2_with fail
   go_ret
   exact jst_ret (by rw [HR.out]; unfold jus; rw [if_pos he]) HM.out (by (repeat' (first | with_reducible assumption | with_reducible refine Cur.drewN ?_ _ | with_reducible refine Cur.drew ?_ | with_reducible refine Cur.alloc ?_ _ | (with_reducible refine Cur.past ?_ ?_ _; rotate_left; focus (first | assumption | (simp; done) | (simp; omega) | (dsimp only; omega) | omega | fail)) | with_reducible refine Cur.go (p := m) ?_ | fail))) (by (repeat' (first | with_reducible assumption | with_reducible exact Mem.Sav.refl _ _ _ _ | with_reducible refine Mem.Sav.drewN ?_ _ | with_reducible refine Mem.Sav.drew ?_ | (with_reducible refine Mem.Sav.set ?_ ?_ _; rotate_left; focus (first | (simp; done) | (simp; omega) | (dsimp only; omega) | omega | fail)) | (with_reducible refine Mem.Sav.alloc ?_ ?_ _; rotate_left; focus (first | exact Nat.le_refl _ | assumption | (simp; done) | (simp; omega) | omega | fail)) | (with_reducible refine Mem.Sav.call (by with_reducible assumption) ?_ ?_; focus (first | exact Nat.le_refl _ | assumption | (simp; done) | (simp; omega) | omega | fail)) | (with_reducible refine Mem.Sav.next (by with_reducible assumption) ?_ ?_; focus (first | exact Nat.le_refl _ | assumption | (simp; done) | (simp; omega) | omega | fail)) | (with_reducible refine Mem.Sav.next1 (by with_reducible assumption) ?_ ?_; focus (first | exact Nat.le_refl _ | assumption | (simp; done) | (simp; omega) | omega | fail)) | fail)))
def CVal (f : Nat) : Prop := ∀ (l : List UInt8) (A : Option Addr) (c g p d : Nat) (w : World), Cx l A c g w → (Jx.tak l p).2 = 0 → Cur w g A l.length c (Jx.tak l p).1.x → p ≤ l.length → 2 * (l.length + 1 - p) < f → d ≤ 32 →
 Calls Tryz.prog 82 #[wv g, wval (Jx.tak l p).1, .int .i64 (d : Int)] w (Cv (Jp.pval f l p d) l A c g w)
def CNxt (f : Nat) : Prop := ∀ (l : List UInt8) (A : Option Addr) (c g p d : Nat) (w : World), Cx l A c g w → Cur w g A l.length c p → p ≤ l.length → 2 * (l.length + 1 - p) < f → d ≤ 32 →
 Calls Tryz.prog 41 #[wv g, .int .i64 (d : Int)] w (Cv (Jp.pval f l p d) l A c g w)
theorem next_step (f : Nat) (hV : CVal f) : CNxt f := by
 intro l A c g p d w C hcur hp hf hd
 have CS := cell_set
 have hg := hcur.lt
 have W0 : Sav g g w.heap.size w (w.alloc (.cells #[.int .i64 0, .int .i64 0, .string ⟨#[]⟩, .slice none 0 0, .slice none 0 0] 25)) := by (repeat' (first | with_reducible assumption | with_reducible exact Mem.Sav.refl _ _ _ _ | with_reducible refine Mem.Sav.drewN ?_ _ | with_reducible refine Mem.Sav.drew ?_ | (with_reducible refine Mem.Sav.set ?_ ?_ _; rotate_left; focus (first | (simp; done) | (simp; omega) | (dsimp only; omega) | omega | fail)) | (with_reducible refine Mem.Sav.alloc ?_ ?_ _; rotate_left; focus (first | exact Nat.le_refl _ | assumption | (simp; done) | (simp; omega) | omega | fail)) | (with_reducible refine Mem.Sav.call (by with_reducible assumption) ?_ ?_; focus (first | exact Nat.le_refl _ | assumption | (simp; done) | (simp; omega) | omega | fail)) | (with_reducible refine Mem.Sav.next (by with_reducible assumption) ?_ ?_; focus (first | exact Nat.le_refl _ | assumption | (simp; done) | (simp; omega) | omega | fail)) | (with_reducible refine Mem.Sav.next1 (by with_reducible assumption) ?_ ?_; focus (first | exact Nat.le_refl _ | assumption | (simp; done) | (simp; omega) | omega | fail)) | fail))
 have C0 := C.sav W0 (Nat.le_of_lt hg) (Nat.le_refl _)
 have st := step_any l A c g p _ C0 (hcur.alloc _) hp
 have gn : w.heap.size ≠ g := by omega
 obtain ⟨R, hR⟩ : ∃ R, R = Jp.pval f l p d := ⟨_, rfl⟩
 have vc := fun W C e h => hV l A c g p d W C e h hp hf hd
 obtain ⟨f, rfl⟩ : ∃ k, f = k + 1 := ⟨f - 1, by omega⟩
 have ml := mov_le hp
 rw [← hR] at vc ⊢
 unfold Jp.pval at hR
 unfold Stp at st
 obtain ⟨m, hm⟩ : ∃ m, m = mov l p := ⟨_, rfl⟩
 have hm2 := hm
 unfold mov at hm2
 rw [← hm] at ml
 obtain ⟨⟨⟨K, n, T, a, x⟩, er⟩, hr⟩ : ∃ r, r = Jx.tak l p := ⟨_, rfl⟩
 rw [← hr] at hR hm2
 rw [← hr, ← hm] at st
 rw [← hr] at vc
 simp only [wval] at st vc
 have ST := Lib.hid st
 have CC := Lib.hid C0
 by_cases he : er = 0
 · subst he
   obtain rfl : m = x := hm2
   have VC := Lib.hid (fun W C h => vc W C rfl h)
   clear st hr hm hcur C C0 vc hV hR
   go_enter Tryz.func41, Tryz.ntmps41
   go_wp2_with fail
   with_reducible refine ST.out.mono ?_
   rintro e w2 ⟨rfl, t2, s2⟩
   have z2 := s2.size
   simp at z2
   have hOwn := Nat.lt_of_lt_of_le (n := w.heap.size) sdd (Mem.Sav.size s2)
   have hOwn1 := Nat.ne_of_gt hOwn
   have hOwn2 := Nat.ne_of_lt hOwn
   have hOwn := (Mem.Sav.cell s2 (p := ⟨w.heap.size, 0, none⟩) sdd (by first | assumption | (simp; done) | (simp; omega) | omega) (by first | assumption | (simp; done) | (simp; omega) | omega)).trans (by go_simp; rfl)
   have hOwn := (Mem.Sav.cell s2 (p := ⟨w.heap.size, 1, none⟩) sdd (by first | assumption | (simp; done) | (simp; omega) | omega) (by first | assumption | (simp; done) | (simp; omega) | omega)).trans (by go_simp; rfl)
   have hOwn := (Mem.Sav.cell s2 (p := ⟨w.heap.size, 2, none⟩) sdd (by first | assumption | (simp; done) | (simp; omega) | omega) (by first | assumption | (simp; done) | (simp; omega) | omega)).trans (by go_simp; rfl)
   have hOwn := (Mem.Sav.cell s2 (p := ⟨w.heap.size, 3, none⟩) sdd (by first | assumption | (simp; done) | (simp; omega) | omega) (by first | assumption | (simp; done) | (simp; omega) | omega)).trans (by go_simp; rfl)
   have hOwn := (Mem.Sav.cell s2 (p := ⟨w.heap.size, 4, none⟩) sdd (by first | assumption | (simp; done) | (simp; omega) | omega) (by first | assumption | (simp; done) | (simp; omega) | omega)).trans (by go_simp; rfl)
   have hOwn := (Mem.Sav.frozen s2 (p := ⟨w.heap.size, 0, none⟩) sdd (by first | assumption | (simp; done) | (simp; omega) | omega) (by first | assumption | (simp; done) | (simp; omega) | omega)).trans (by go_simp; rfl)
   have hOwn := (Mem.Sav.frozen s2 (p := ⟨w.heap.size, 1, none⟩) sdd (by first | assumption | (simp; done) | (simp; omega) | omega) (by first | assumption | (simp; done) | (simp; omega) | omega)).trans (by go_simp; rfl)
   have hOwn := (Mem.Sav.frozen s2 (p := ⟨w.heap.size, 2, none⟩) sdd (by first | assumption | (simp; done) | (simp; omega) | omega) (by first | assumption | (simp; done) | (simp; omega) | omega)).trans (by go_simp; rfl)
   have hOwn := (Mem.Sav.frozen s2 (p := ⟨w.heap.size, 3, none⟩) sdd (by first | assumption | (simp; done) | (simp; omega) | omega) (by first | assumption | (simp; done) | (simp; omega) | omega)).trans (by go_simp; rfl)
   have hOwn := (Mem.Sav.frozen s2 (p := ⟨w.heap.size, 4, none⟩) sdd (by first | assumption | (simp; done) | (simp; omega) | omega) (by first | assumption | (simp; done) | (simp; omega) | omega)).trans (by go_simp; rfl)
   go_wp2_with fail
   have c2 := (CC.out.sav s2 (by simp; omega) (Nat.le_refl _)).sav (show Sav g g w2.heap.size w2 (w2.alloc (.cells #[.int .i64 (K : Int), .int .i64 n, .string ⟨T.toArray⟩, .int .i64 (a : Int), .int .i64 (m : Int)] 118)) by (repeat' (first | with_reducible assumption | with_reducible exact Mem.Sav.refl _ _ _ _ | with_reducible refine Mem.Sav.drewN ?_ _ | with_reducible refine Mem.Sav.drew ?_ | (with_reducible refine Mem.Sav.set ?_ ?_ _; rotate_left; focus (first | (simp; done) | (simp; omega) | (dsimp only; omega) | omega | fail)) | (with_reducible refine Mem.Sav.alloc ?_ ?_ _; rotate_left; focus (first | exact Nat.le_refl _ | assumption | (simp; done) | (simp; omega) | omega | fail)) | (with_reducible refine Mem.Sav.call (by with_reducible assumption) ?_ ?_; focus (first | exact Nat.le_refl _ | assumption | (simp; done) | (simp; omega) | omega | fail)) | (with_reducible refine Mem.Sav.next (by with_reducible assumption) ?_ ?_; focus (first | exact Nat.le_refl _ | assumption | (simp; done) | (simp; omega) | omega | fail)) | (with_reducible refine Mem.Sav.next1 (by with_reducible assumption) ?_ ?_; focus (first | exact Nat.le_refl _ | assumption | (simp; done) | (simp; omega) | omega | fail)) | fail))) (Nat.le_of_lt t2.lt) (Nat.le_refl _)
   with_reducible refine (VC.out _ c2 (by (repeat' (first | with_reducible assumption | with_reducible refine Cur.drewN ?_ _ | with_reducible refine Cur.drew ?_ | with_reducible refine Cur.alloc ?_ _ | (with_reducible refine Cur.past ?_ ?_ _; rotate_left; focus (first | assumption | (simp; done) | (simp; omega) | (dsimp only; omega) | omega | fail)) | with_reducible refine Cur.go (p := m) ?_ | fail)))).mono ?_
   rintro e w5 ⟨j, A3, c3, A4, c4, q, rfl, tr, hj, hq, t5, s5⟩
   have hOwn := Nat.lt_of_lt_of_le (n := w.heap.size) sdd (Mem.Sav.size s5)
   have hOwn1 := Nat.ne_of_gt hOwn
   have hOwn2 := Nat.ne_of_lt hOwn
   have hOwn := (Mem.Sav.cell s5 (p := ⟨w.heap.size, 0, none⟩) sdd (by first | assumption | (simp; done) | (simp; omega) | omega) (by first | assumption | (simp; done) | (simp; omega) | omega)).trans (by go_simp; rfl)
   have hOwn := (Mem.Sav.cell s5 (p := ⟨w.heap.size, 1, none⟩) sdd (by first | assumption | (simp; done) | (simp; omega) | omega) (by first | assumption | (simp; done) | (simp; omega) | omega)).trans (by go_simp; rfl)
   have hOwn := (Mem.Sav.cell s5 (p := ⟨w.heap.size, 2, none⟩) sdd (by first | assumption | (simp; done) | (simp; omega) | omega) (by first | assumption | (simp; done) | (simp; omega) | omega)).trans (by go_simp; rfl)
   have hOwn := (Mem.Sav.cell s5 (p := ⟨w.heap.size, 3, none⟩) sdd (by first | assumption | (simp; done) | (simp; omega) | omega) (by first | assumption | (simp; done) | (simp; omega) | omega)).trans (by go_simp; rfl)
   have hOwn := (Mem.Sav.cell s5 (p := ⟨w.heap.size, 4, none⟩) sdd (by first | assumption | (simp; done) | (simp; omega) | omega) (by first | assumption | (simp; done) | (simp; omega) | omega)).trans (by go_simp; rfl)
   have hOwn := (Mem.Sav.frozen s5 (p := ⟨w.heap.size, 0, none⟩) sdd (by first | assumption | (simp; done) | (simp; omega) | omega) (by first | assumption | (simp; done) | (simp; omega) | omega)).trans (by go_simp; rfl)
   have hOwn := (Mem.Sav.frozen s5 (p := ⟨w.heap.size, 1, none⟩) sdd (by first | assumption | (simp; done) | (simp; omega) | omega) (by first | assumption | (simp; done) | (simp; omega) | omega)).trans (by go_simp; rfl)
   have hOwn := (Mem.Sav.frozen s5 (p := ⟨w.heap.size, 2, none⟩) sdd (by first | assumption | (simp; done) | (simp; omega) | omega) (by first | assumption | (simp; done) | (simp; omega) | omega)).trans (by go_simp; rfl)
   have hOwn := (Mem.Sav.frozen s5 (p := ⟨w.heap.size, 3, none⟩) sdd (by first | assumption | (simp; done) | (simp; omega) | omega) (by first | assumption | (simp; done) | (simp; omega) | omega)).trans (by go_simp; rfl)
   have hOwn := (Mem.Sav.frozen s5 (p := ⟨w.heap.size, 4, none⟩) sdd (by first | assumption | (simp; done) | (simp; omega) | omega) (by first | assumption | (simp; done) | (simp; omega) | omega)).trans (by go_simp; rfl)
   go_wp2_with fail
   try simp only [Exit.inBlock, Exit.then]
   refine post_j2 (x0 := .int .i64 j.k) (x1 := .int .i64 j.n) (x2 := .string j.t) (x3 := (.slice A3 j.its.length c3)) (x4 := (.slice A4 j.ks.length c4)) rfl rfl rfl (by go_simp) (by go_simp) (by go_simp) (by go_simp) (by go_simp) ?_
   refine cv_ret rfl tr (by simp; omega) ?_ (by simp) hj hq (by (repeat' (first | with_reducible assumption | with_reducible refine Cur.drewN ?_ _ | with_reducible refine Cur.drew ?_ | with_reducible refine Cur.alloc ?_ _ | (with_reducible refine Cur.past ?_ ?_ _; rotate_left; focus (first | assumption | (simp; done) | (simp; omega) | (dsimp only; omega) | omega | fail)) | with_reducible refine Cur.go (p := q) ?_ | fail))) (by (repeat' (first | with_reducible assumption | with_reducible exact Mem.Sav.refl _ _ _ _ | with_reducible refine Mem.Sav.drewN ?_ _ | with_reducible refine Mem.Sav.drew ?_ | (with_reducible refine Mem.Sav.set ?_ ?_ _; rotate_left; focus (first | (simp; done) | (simp; omega) | (dsimp only; omega) | omega | fail)) | (with_reducible refine Mem.Sav.alloc ?_ ?_ _; rotate_left; focus (first | exact Nat.le_refl _ | assumption | (simp; done) | (simp; omega) | omega | fail)) | (with_reducible refine Mem.Sav.call (by with_reducible assumption) ?_ ?_; focus (first | exact Nat.le_refl _ | assumption | (simp; done) | (simp; omega) | omega | fail)) | (with_reducible refine Mem.Sav.next (by with_reducible assumption) ?_ ?_; focus (first | exact Nat.le_refl _ | assumption | (simp; done) | (simp; omega) | omega | fail)) | (with_reducible refine Mem.Sav.next1 (by with_reducible assumption) ?_ ?_; focus (first | exact Nat.le_refl _ | assumption | (simp; done) | (simp; omega) | omega | fail)) | fail)))
   have HG : ∀ b, Btw (w2.alloc (.cells #[.int .i64 (K : Int), .int .i64 n, .string ⟨T.toArray⟩, .int .i64 (a : Int), .int .i64 (m : Int)] 118)).heap.size w5.heap.size b → b ≠ w.heap.size := fun b hb => by have := hb.1; simp at this; omega
   repeat (with_reducible refine KeepS.set ?_ HG _ _)
   with_reducible exact KeepS.refl _ _
 · have qe : ((er : Int) != 0) = true := by rw [bne_iff_ne]; omega
   rw [if_pos he] at hR
   have Z := Lib.hid hR
   clear st hr hm hm2 hcur C C0 vc hV hR
   go_enter Tryz.func41, Tryz.ntmps41
   go_wp2_with fail
   with_reducible refine ST.out.mono ?_
   rintro e w2 ⟨rfl, t2, s2⟩
   have z2 := s2.size
   simp at z2
   have hOwn := Nat.lt_of_lt_of_le (n := w.heap.size) sdd (Mem.Sav.size s2)
   have hOwn1 := Nat.ne_of_gt hOwn
   have hOwn2 := Nat.ne_of_lt hOwn
   have hOwn := (Mem.Sav.cell s2 (p := ⟨w.heap.size, 0, none⟩) sdd (by first | assumption | (simp; done) | (simp; omega) | omega) (by first | assumption | (simp; done) | (simp; omega) | omega)).trans (by go_simp; rfl)
   have hOwn := (Mem.Sav.cell s2 (p := ⟨w.heap.size, 1, none⟩) sdd (by first | assumption | (simp; done) | (simp; omega) | omega) (by first | assumption | (simp; done) | (simp; omega) | omega)).trans (by go_simp; rfl)
   have hOwn := (Mem.Sav.cell s2 (p := ⟨w.heap.size, 2, none⟩) sdd (by first | assumption | (simp; done) | (simp; omega) | omega) (by first | assumption | (simp; done) | (simp; omega) | omega)).trans (by go_simp; rfl)
   have hOwn := (Mem.Sav.cell s2 (p := ⟨w.heap.size, 3, none⟩) sdd (by first | assumption | (simp; done) | (simp; omega) | omega) (by first | assumption | (simp; done) | (simp; omega) | omega)).trans (by go_simp; rfl)
   have hOwn := (Mem.Sav.cell s2 (p := ⟨w.heap.size, 4, none⟩) sdd (by first | assumption | (simp; done) | (simp; omega) | omega) (by first | assumption | (simp; done) | (simp; omega) | omega)).trans (by go_simp; rfl)
   have hOwn := (Mem.Sav.frozen s2 (p := ⟨w.heap.size, 0, none⟩) sdd (by first | assumption | (simp; done) | (simp; omega) | omega) (by first | assumption | (simp; done) | (simp; omega) | omega)).trans (by go_simp; rfl)
   have hOwn := (Mem.Sav.frozen s2 (p := ⟨w.heap.size, 1, none⟩) sdd (by first | assumption | (simp; done) | (simp; omega) | omega) (by first | assumption | (simp; done) | (simp; omega) | omega)).trans (by go_simp; rfl)
   have hOwn := (Mem.Sav.frozen s2 (p := ⟨w.heap.size, 2, none⟩) sdd (by first | assumption | (simp; done) | (simp; omega) | omega) (by first | assumption | (simp; done) | (simp; omega) | omega)).trans (by go_simp; rfl)
   have hOwn := (Mem.Sav.frozen s2 (p := ⟨w.heap.size, 3, none⟩) sdd (by first | assumption | (simp; done) | (simp; omega) | omega) (by first | assumption | (simp; done) | (simp; omega) | omega)).trans (by go_simp; rfl)
   have hOwn := (Mem.Sav.frozen s2 (p := ⟨w.heap.size, 4, none⟩) sdd (by first | assumption | (simp; done) | (simp; omega) | omega) (by first | assumption | (simp; done) | (simp; omega) | omega)).trans (by go_simp; rfl)
   go_wp2_with fail
   try simp only [Exit.inBlock, Exit.then]
   refine post_j2 (x0 := .int .i64 0) (x1 := .int .i64 0) (x2 := .string ⟨#[]⟩) (x3 := (.slice none 0 0)) (x4 := (.slice none 0 0)) rfl rfl rfl (by go_simp) (by go_simp) (by go_simp) (by go_simp) (by go_simp) ?_
   exact cv_bad Z.out he rfl ml (by (repeat' (first | with_reducible assumption | with_reducible refine Cur.drewN ?_ _ | with_reducible refine Cur.drew ?_ | with_reducible refine Cur.alloc ?_ _ | (with_reducible refine Cur.past ?_ ?_ _; rotate_left; focus (first | assumption | (simp; done) | (simp; omega) | (dsimp only; omega) | omega | fail)) | with_reducible refine Cur.go (p := m) ?_ | fail))) (by (repeat' (first | with_reducible assumption | with_reducible exact Mem.Sav.refl _ _ _ _ | with_reducible refine Mem.Sav.drewN ?_ _ | with_reducible refine Mem.Sav.drew ?_ | (with_reducible refine Mem.Sav.set ?_ ?_ _; rotate_left; focus (first | (simp; done) | (simp; omega) | (dsimp only; omega) | omega | fail)) | (with_reducible refine Mem.Sav.alloc ?_ ?_ _; rotate_left; focus (first | exact Nat.le_refl _ | assumption | (simp; done) | (simp; omega) | omega | fail)) | (with_reducible refine Mem.Sav.call (by with_reducible assumption) ?_ ?_; focus (first | exact Nat.le_refl _ | assumption | (simp; done) | (simp; omega) | omega | fail)) | (with_reducible refine Mem.Sav.next (by with_reducible assumption) ?_ ?_; focus (first | exact Nat.le_refl _ | assumption | (simp; done) | (simp; omega) | omega | fail)) | (with_reducible refine Mem.Sav.next1 (by with_reducible assumption) ?_ ?_; focus (first | exact Nat.le_refl _ | assumption | (simp; done) | (simp; omega) | omega | fail)) | fail)))
end Go.Proofs.YthogheglddfniaaGreatDoor
namespace Go.Proofs.YthogheglddfniaaGreatDoor.Jp
open Jx
def kv (f : Nat) (l : List UInt8) (p d : Nat) (ks : List ByteArray) : R :=
 if (tak l p).1.k ≠ 10 then bad 20
 else if (place7 ks (str (tak l p).1.t)).isSome = true then bad 23
 else if (tak l (tak l p).1.x).2 ≠ 0 then bad (tak l (tak l p).1.x).2
 else if (tak l (tak l p).1.x).1.k ≠ 5 then bad 20
 else pval f l (tak l (tak l p).1.x).1.x d
def nxt (r : R) (kn : List ByteArray) (e g : Nat) (l : List UInt8) (d : Nat) (js : List J) : R :=
 if r.2.2 ≠ 0 then bad r.2.2
 else if (tak l r.2.1).2 ≠ 0 then bad (tak l r.2.1).2
 else if (tak l r.2.1).1.k = e then (.mk (kindOf e) 0 nil_ (js ++ [r.1]) kn, (tak l r.2.1).1.x, 0)
 else if (tak l r.2.1).1.k ≠ 6 then bad 20
 else pits g l (tak l r.2.1).1.x d e kn (js ++ [r.1])
theorem pits_4 (g : Nat) (l : List UInt8) (p d : Nat) (ks : List ByteArray) (js : List J) : pits (g + 1) l p d 4 ks js = nxt (pval g l p d) ks 4 g l d js := by
 rw [pits, if_neg (by decide)]; rfl
theorem pits_2 (g : Nat) (l : List UInt8) (p d : Nat) (ks : List ByteArray) (js : List J) (h : (tak l p).2 = 0) : pits (g + 1) l p d 2 ks js = nxt (kv g l p d ks) (ks ++ [str (tak l p).1.t]) 2 g l d js := by
 rw [pits, if_pos rfl, if_neg (by omega), place7_any]
 unfold nxt
 obtain ⟨r, hr⟩ : ∃ r, r = kv g l p d ks := ⟨_, rfl⟩
 rw [← hr]
 unfold kv at hr
 by_cases h1 : (tak l p).1.k = 10
 · rw [if_neg (fun h => h h1)] at hr ⊢
   by_cases h2 : (place7 ks (str (tak l p).1.t)).isSome = true
   · rw [if_pos h2] at hr ⊢; subst hr; rfl
   · rw [if_neg h2] at hr ⊢
     by_cases h3 : (tak l (tak l p).1.x).2 = 0
     · rw [if_neg (fun h => h h3)] at hr ⊢
       by_cases h4 : (tak l (tak l p).1.x).1.k = 5
       · rw [if_neg (fun h => h h4)] at hr ⊢
         rw [← hr]
       · rw [if_pos h4] at hr ⊢; subst hr; rfl
     · rw [if_pos h3] at hr ⊢; rw [hr, if_pos (show (bad (tak l (tak l p).1.x).2).2.2 ≠ 0 from h3)]; rfl
 · rw [if_pos h1] at hr ⊢; subst hr; rfl
theorem pits_bad (g : Nat) (l : List UInt8) (p d e : Nat) (ks : List ByteArray) (js : List J) (he : e = 2 ∨ e = 4) (h : (tak l p).2 ≠ 0) : pits (g + 2) l p d e ks js = bad (tak l p).2 := by
 rcases he with rfl | rfl
 · rw [pits, if_pos rfl, if_pos h]
 · rw [pits_4]
   unfold nxt pval
   rw [if_pos h, if_pos (show (bad (tak l p).2).2.2 ≠ 0 from h)]; rfl
theorem fine_x {l : List UInt8} {p : Nat} (hp : p ≤ l.length) : (tak l p).1.x ≤ l.length := (tak_fine l p hp).1.2.1
theorem nxt_pos {r : R} {kn : List ByteArray} {e g : Nat} {l : List UInt8} {d : Nat} {js : List J} {p : Nat} (he : e = 2 ∨ e = 4) (hr : r.2.2 = 0 → p < r.2.1 ∧ r.2.1 ≤ l.length)
 (hi : ∀ p d kn js, p ≤ l.length → (pits g l p d e kn js).2.2 = 0 → p < (pits g l p d e kn js).2.1 ∧ (pits g l p d e kn js).2.1 ≤ l.length) (h : (nxt r kn e g l d js).2.2 = 0) : p < (nxt r kn e g l d js).2.1 ∧ (nxt r kn e g l d js).2.1 ≤ l.length := by
 unfold nxt at h ⊢
 by_cases h1 : r.2.2 = 0
 · rw [if_neg (by omega)] at h ⊢
   obtain ⟨a, b⟩ := hr h1
   by_cases h2 : (tak l r.2.1).2 = 0
   · rw [if_neg (by omega)] at h ⊢
     have fx := fine_x b
     by_cases h3 : (tak l r.2.1).1.k = e
     · rw [if_pos h3] at h ⊢
       have m := (tak_more b h2 (by omega)).1
       exact ⟨show p < (tak l r.2.1).1.x by omega, fx⟩
     · rw [if_neg h3] at h ⊢
       by_cases h4 : (tak l r.2.1).1.k = 6
       · rw [if_neg (by omega)] at h ⊢
         have m := (tak_more b h2 (by omega)).1
         have := hi _ _ _ _ fx h
         exact ⟨by omega, this.2⟩
       · rw [if_pos h4] at h; cases h
   · rw [if_pos h2] at h; exact absurd h h2
 · rw [if_pos h1] at h; exact absurd h h1
theorem pos (f : Nat) : (∀ (l : List UInt8) (p d : Nat), p ≤ l.length → (pval f l p d).2.2 = 0 → p < (pval f l p d).2.1 ∧ (pval f l p d).2.1 ≤ l.length) ∧
 (∀ (l : List UInt8) (e : Nat), (e = 2 ∨ e = 4) → ∀ (p d : Nat) (ks : List ByteArray) (js : List J), p ≤ l.length → (pits f l p d e ks js).2.2 = 0 → p < (pits f l p d e ks js).2.1 ∧ (pits f l p d e ks js).2.1 ≤ l.length) := by
 induction f with
 | zero =>
  refine ⟨fun l p d _ h => ?_, fun l e _ p d ks js _ h => ?_⟩
  · unfold pval at h; cases h
  · unfold pits at h; cases h
 | succ f ih =>
  refine ⟨fun l p d hp h => ?_, fun l e he p d ks js hp h => ?_⟩
  · unfold pval at h ⊢
    by_cases h0 : (tak l p).2 = 0
    · rw [if_neg (by omega)] at h ⊢
      have fx := fine_x hp
      by_cases h7 : (tak l p).1.k = 7
      · rw [if_pos h7] at h ⊢
        exact ⟨(tak_more hp h0 (by omega)).1, fx⟩
      · rw [if_neg h7] at h ⊢
        by_cases h8 : (tak l p).1.k = 8
        · rw [if_pos h8] at h ⊢
          exact ⟨(tak_more hp h0 (by omega)).1, fx⟩
        · rw [if_neg h8] at h ⊢
          by_cases h9 : (tak l p).1.k = 9
          · rw [if_pos h9] at h ⊢
            exact ⟨(tak_more hp h0 (by omega)).1, fx⟩
          · rw [if_neg h9] at h ⊢
            by_cases h10 : (tak l p).1.k = 10
            · rw [if_pos h10] at h ⊢
              exact ⟨(tak_more hp h0 (by omega)).1, fx⟩
            · rw [if_neg h10] at h ⊢
              by_cases h13 : (tak l p).1.k = 1 ∨ (tak l p).1.k = 3
              · rw [if_pos h13] at h ⊢
                have m := (tak_more hp h0 (by omega)).1
                by_cases hd : d = 32
                · rw [if_pos hd] at h; cases h
                · rw [if_neg hd] at h ⊢
                  by_cases hz : (tak l (tak l p).1.x).2 = 0 ∧ (tak l (tak l p).1.x).1.k = (tak l p).1.k + 1
                  · rw [if_pos hz] at h ⊢
                    have m2 := (tak_more fx hz.1 (by omega)).1
                    exact ⟨show p < (tak l (tak l p).1.x).1.x by omega, fine_x fx⟩
                  · rw [if_neg hz] at h ⊢
                    have := ih.2 l ((tak l p).1.k + 1) (by omega) _ _ _ _ fx h
                    exact ⟨by omega, this.2⟩
              · rw [if_neg h13] at h; cases h
    · rw [if_pos h0] at h; exact absurd h h0
  · rcases he with rfl | rfl
    · by_cases h0 : (tak l p).2 = 0
      · rw [pits_2 f l p d ks js h0] at h ⊢
        refine nxt_pos (.inl rfl) (fun hr => ?_) (ih.2 l 2 (.inl rfl)) h
        unfold kv at hr ⊢
        by_cases h1 : (tak l p).1.k = 10
        · rw [if_neg (by omega)] at hr ⊢
          have m := (tak_more hp h0 (by omega)).1
          have fx := fine_x hp
          by_cases h2 : (place7 ks (str (tak l p).1.t)).isSome = true
          · rw [if_pos h2] at hr; cases hr
          · rw [if_neg h2] at hr ⊢
            by_cases h3 : (tak l (tak l p).1.x).2 = 0
            · rw [if_neg (by omega)] at hr ⊢
              by_cases h4 : (tak l (tak l p).1.x).1.k = 5
              · rw [if_neg (by omega)] at hr ⊢
                have m2 := (tak_more fx h3 (by omega)).1
                have := ih.1 l _ d (fine_x fx) hr
                exact ⟨by omega, this.2⟩
              · rw [if_pos h4] at hr; cases hr
            · rw [if_pos h3] at hr; exact absurd hr h3
        · rw [if_pos h1] at hr; cases hr
      · rw [pits, if_pos rfl, if_pos h0] at h; exact absurd h h0
    · rw [pits_4] at h ⊢
      exact nxt_pos (.inr rfl) (fun hr => ih.1 l p d hp hr) (ih.2 l 4 (.inr rfl)) h
theorem kv_pos {f : Nat} {l : List UInt8} {p d : Nat} {ks : List ByteArray} (hp : p ≤ l.length) (h0 : (tak l p).2 = 0) (hr : (kv f l p d ks).2.2 = 0) : p < (kv f l p d ks).2.1 ∧ (kv f l p d ks).2.1 ≤ l.length := by
 unfold kv at hr ⊢
 by_cases h1 : (tak l p).1.k = 10
 · rw [if_neg (by omega)] at hr ⊢
   have m := (tak_more hp h0 (by omega)).1
   have fx := fine_x hp
   by_cases h2 : (place7 ks (str (tak l p).1.t)).isSome = true
   · rw [if_pos h2] at hr; cases hr
   · rw [if_neg h2] at hr ⊢
     by_cases h3 : (tak l (tak l p).1.x).2 = 0
     · rw [if_neg (by omega)] at hr ⊢
       by_cases h4 : (tak l (tak l p).1.x).1.k = 5
       · rw [if_neg (by omega)] at hr ⊢
         have m2 := (tak_more fx h3 (by omega)).1
         have := (pos f).1 l _ d (fine_x fx) hr
         exact ⟨by omega, this.2⟩
       · rw [if_pos h4] at hr; cases hr
     · rw [if_pos h3] at hr; exact absurd hr h3
 · rw [if_pos h1] at hr; cases hr
end Go.Proofs.YthogheglddfniaaGreatDoor.Jp
namespace Go.Proofs.YthogheglddfniaaGreatDoor
open Go.ChangeShapes Go.WideShapes Go.ChangeAt Go.RowKit Mem
theorem Mem.OwnR.put5 {w : World} {base g cap n : Nat} {e : TypeId} {xs : List Value} {z0 z1 z2 z3 z4 : Value} (h : OwnR w base e 5 (.slice (some ⟨g, 0, none⟩) (n + 1) cap) (n + 1) (xs ++ [z0, z1, z2, z3, z4])) (hx : xs.length = n * 5) (x0 x1 x2 x3 x4 : Value) :
 OwnR (((((w.setCell ⟨g, n * 5, none⟩ x0).setCell ⟨g, n * 5 + 1, none⟩ x1).setCell ⟨g, n * 5 + 2, none⟩ x2).setCell ⟨g, n * 5 + 3, none⟩ x3).setCell ⟨g, n * 5 + 4, none⟩ x4) base e 5 (.slice (some ⟨g, 0, none⟩) (n + 1) cap) (n + 1) (xs ++ [x0, x1, x2, x3, x4]) := by
 have s0 := (World.ownsRow.stored h (n * 5) x0).1
 have s1 := (World.ownsRow.stored s0 (n * 5 + 1) x1).1
 have s2 := (World.ownsRow.stored s1 (n * 5 + 2) x2).1
 have s3 := (World.ownsRow.stored s2 (n * 5 + 3) x3).1
 have s4 := (World.ownsRow.stored s3 (n * 5 + 4) x4).1
 have e : (((((xs ++ [z0, z1, z2, z3, z4]).set (n * 5) x0).set (n * 5 + 1) x1).set (n * 5 + 2) x2).set (n * 5 + 3) x3).set (n * 5 + 4) x4 = xs ++ [x0, x1, x2, x3, x4] := by
  rw [← hx]
  simp
 rw [e] at s4
 exact s4
theorem Mem.setCell_comm (w : World) (a b : Addr) (u v : Value) (h : a.block ≠ b.block) : (w.setCell a u).setCell b v = (w.setCell b v).setCell a u := by
 unfold World.setCell
 congr 1
 apply Array.ext_getElem?
 intro i
 simp only [Array.getElem?_modify]
 by_cases h1 : a.block = i
 · have h2 : b.block ≠ i := fun e => h (h1.trans e.symm)
   simp [h1, h2]
 · simp [h1]
theorem Mem.comm5 {w : World} {g gj i : Nat} {x0 x1 x2 x3 x4 v : Value} (h : gj ≠ g) : (((((w.setCell ⟨gj, 3, none⟩ v).setCell ⟨g, i, none⟩ x0).setCell ⟨g, i + 1, none⟩ x1).setCell ⟨g, i + 2, none⟩ x2).setCell ⟨g, i + 3, none⟩ x3).setCell ⟨g, i + 4, none⟩ x4 =
 (((((w.setCell ⟨g, i, none⟩ x0).setCell ⟨g, i + 1, none⟩ x1).setCell ⟨g, i + 2, none⟩ x2).setCell ⟨g, i + 3, none⟩ x3).setCell ⟨g, i + 4, none⟩ x4).setCell ⟨gj, 3, none⟩ v := by
 rw [setCell_comm w ⟨gj, 3, none⟩ ⟨g, i, none⟩ v x0 h, setCell_comm _ ⟨gj, 3, none⟩ ⟨g, i + 1, none⟩ v x1 h, setCell_comm _ ⟨gj, 3, none⟩ ⟨g, i + 2, none⟩ v x2 h, setCell_comm _ ⟨gj, 3, none⟩ ⟨g, i + 3, none⟩ v x3 h, setCell_comm _ ⟨gj, 3, none⟩ ⟨g, i + 4, none⟩ v x4 h]
def FreeC (N : Nat) (w : World) (v3 v4 : Value) : Nat → Prop := fun b => N ≤ b ∧ b < w.heap.size ∧ some b ≠ v3.ownBlock ∧ some b ≠ v4.ownBlock
structure StC (gj N : Nat) (w : World) (kind : Int) (ks : List ByteArray) (js : List J) (css : List (List Value)) (v3 v4 : Value) : Prop where
 o3 : OwnR w N 25 5 v3 js.length css.flatten
 o4 : OwnR w N 9 1 v4 ks.length (ks.map Value.string)
 tr : TreesS w (FreeC N w v3 v4) js css
 ap : ∀ g, some g = v3.ownBlock → some g ≠ v4.ownBlock
 bk : B5 w gj 25 (.int .i64 kind) (.int .i64 0) (.string ⟨#[]⟩) v3 v4
 lt : gj < N
 le : N ≤ w.heap.size
section
variable {gj N : Nat} {w w' : World} {kind : Int} {ks : List ByteArray} {js : List J} {css : List (List Value)} {v3 v4 v3' v4' : Value}
theorem StC.keep (h : StC gj N w kind ks js css v3 v4) (hk : ∀ b, (b = gj ∨ N ≤ b) → b < w.heap.size → w'.heap[b]? = w.heap[b]?) (hs : w.heap.size ≤ w'.heap.size) : StC gj N w' kind ks js css v3 v4 where
 o3 := h.o3.keepb (fun g hg => hk g (.inr (h.o3.base_le hg).1) (h.o3.base_le hg).2)
 o4 := h.o4.keepb (fun g hg => hk g (.inr (h.o4.base_le hg).1) (h.o4.base_le hg).2)
 tr := h.tr.keep (fun p hp => World.cell?_of_block (w := w) (hk p.block (.inr hp.1) hp.2.1)) (fun _ hb => ⟨hb.1, Nat.lt_of_lt_of_le hb.2.1 hs, hb.2.2⟩)
 ap := h.ap
 bk := (hk gj (.inl rfl) h.bk.lt).trans h.bk
 lt := h.lt
 le := Nat.le_trans h.le hs
theorem StC.sav {a b : Nat} (h : StC gj N w kind ks js css v3 v4) (s : Sav a b w.heap.size w w') (ha : a < N) (hb : b < N) (ha' : a ≠ gj) (hb' : b ≠ gj) : StC gj N w' kind ks js css v3 v4 :=
 h.keep (fun k hk hl => s.block k hl (by omega) (by omega)) s.size
theorem StC.below (h : StC gj N w kind ks js css v3 v4) (s : Below w.heap.size w w') : StC gj N w' kind ks js css v3 v4 := h.keep (fun k _ hl => s.block k hl) s.size
theorem StC.alloc (h : StC gj N w kind ks js css v3 v4) (o : Obj) : StC gj N (w.alloc o) kind ks js css v3 v4 := h.below ((Below.refl _ _).alloc (Nat.le_refl _) o)
theorem StC.key (h : StC gj N w kind ks js css v3 v4) {k : ByteArray} (o4' : OwnR w' N 9 1 v4' (ks.length + 1) (ks.map Value.string ++ [.string k])) (hg : w.grownBy w' v4.ownBlock)
 (hbl : Below N w w') (ob : v4'.ownBlock = v4.ownBlock ∨ ∃ n, v4'.ownBlock = some n ∧ w.heap.size ≤ n) : StC gj N (w'.setCell ⟨gj, 4, none⟩ v4') kind (ks ++ [k]) js css v3 v4' := by
 have hlt := h.lt
 have hne : ∀ g, g < w.heap.size → some g ≠ v4.ownBlock → some g ≠ v4'.ownBlock := fun g hl hn => by
  rcases ob with e | ⟨n, e, hle⟩
  · rw [e]; exact hn
  · rw [e]; intro hh; injection hh; omega
 refine ⟨?_, ?_, ?_, ?_, ?_, h.lt, Nat.le_trans h.le (by simp [World.setCell]; exact hg.size)⟩
 · exact (h.o3.keepb (w' := w') fun g hg' => hg.block g (own_lt h.o3 g hg') (h.ap g hg')).set (by show gj < N; omega) _
 · have := o4'.set (p := ⟨gj, 4, none⟩) (by show gj < N; omega) v4'
   rw [List.length_append, List.map_append]; exact this
 · refine h.tr.keep (fun p hp => ?_) (fun b hb => ⟨hb.1, by have := hg.size; simp [World.setCell]; have := hb.2.1; omega, hb.2.2.1, hne b hb.2.1 hb.2.2.2⟩)
   exact (World.cell?_setCell_other _ _ _ _ (fun e => by have h1 := hp.1; have h2 := congrArg Addr.block e; simp only at h2; omega)).trans (World.cell?_of_block (hg.block p.block hp.2.1 hp.2.2.2))
 · exact fun g hg' => hne g (own_lt h.o3 g hg') (h.ap g hg')
 · exact B5.set4 (h.bk.below hbl hlt) v4'
theorem StC.item5 {g cap : Nat} {j : J} {z0 z1 z2 z3 z4 x0 x1 x2 x3 x4 : Value} (h : StC gj N w kind ks js css v3 v4) (o3' : OwnR w' N 25 5 (.slice (some ⟨g, 0, none⟩) (js.length + 1) cap) (js.length + 1) (css.flatten ++ [z0, z1, z2, z3, z4])) (hg : w.grownBy w' v3.ownBlock)
 (hbl : Below N w w') (ob : some g = v3.ownBlock ∨ w.heap.size ≤ g) (ht : TreeS w (FreeC N w v3 v4) j [x0, x1, x2, x3, x4]) :
 StC gj N ((((((w'.setCell ⟨g, js.length * 5, none⟩ x0).setCell ⟨g, js.length * 5 + 1, none⟩ x1).setCell ⟨g, js.length * 5 + 2, none⟩ x2).setCell ⟨g, js.length * 5 + 3, none⟩ x3).setCell ⟨g, js.length * 5 + 4, none⟩ x4).setCell ⟨gj, 3, none⟩ (.slice (some ⟨g, 0, none⟩) (js.length + 1) cap))
  kind ks (js ++ [j]) (css ++ [[x0, x1, x2, x3, x4]]) (.slice (some ⟨g, 0, none⟩) (js.length + 1) cap) v4 := by
 have hlt := h.lt
 have hN : N ≤ g := (o3'.base_le (g := g) rfl).1
 have five : css.flatten.length = js.length * 5 := h.tr.flat
 have hne : ∀ k, k < w.heap.size → some k ≠ v3.ownBlock → k ≠ g := fun k hl hn e => by
  subst e
  rcases ob with e | e
  · exact hn e
  · omega
 have rest : ∀ k, k ≠ g → k ≠ gj → ((((((w'.setCell ⟨g, js.length * 5, none⟩ x0).setCell ⟨g, js.length * 5 + 1, none⟩ x1).setCell ⟨g, js.length * 5 + 2, none⟩ x2).setCell ⟨g, js.length * 5 + 3, none⟩ x3).setCell ⟨g, js.length * 5 + 4, none⟩ x4).setCell ⟨gj, 3, none⟩ (.slice (some ⟨g, 0, none⟩) (js.length + 1) cap)).heap[k]? = w'.heap[k]? := fun k h1 h2 => by
  rw [Below.heap_setCell _ _ _ _ h2, Below.heap_setCell _ _ _ _ h1, Below.heap_setCell _ _ _ _ h1, Below.heap_setCell _ _ _ _ h1, Below.heap_setCell _ _ _ _ h1, Below.heap_setCell _ _ _ _ h1]
 have sz : ((((((w'.setCell ⟨g, js.length * 5, none⟩ x0).setCell ⟨g, js.length * 5 + 1, none⟩ x1).setCell ⟨g, js.length * 5 + 2, none⟩ x2).setCell ⟨g, js.length * 5 + 3, none⟩ x3).setCell ⟨g, js.length * 5 + 4, none⟩ x4).setCell ⟨gj, 3, none⟩ (.slice (some ⟨g, 0, none⟩) (js.length + 1) cap)).heap.size = w'.heap.size := by simp [World.setCell]
 have bk5 : B5 (((((w'.setCell ⟨g, js.length * 5, none⟩ x0).setCell ⟨g, js.length * 5 + 1, none⟩ x1).setCell ⟨g, js.length * 5 + 2, none⟩ x2).setCell ⟨g, js.length * 5 + 3, none⟩ x3).setCell ⟨g, js.length * 5 + 4, none⟩ x4) gj 25 (.int .i64 kind) (.int .i64 0) (.string ⟨#[]⟩) v3 v4 := by
  have hn : g ≠ gj := by omega
  exact (((((h.bk.below hbl hlt).past hn _).past hn _).past hn _).past hn _).past hn _
 have o3'' := (Mem.OwnR.put5 o3' five x0 x1 x2 x3 x4).set (p := ⟨gj, 3, none⟩) (by show gj < N; omega) (.slice (some ⟨g, 0, none⟩) (js.length + 1) cap)
 have bk6 := B5.set3 bk5 (.slice (some ⟨g, 0, none⟩) (js.length + 1) cap)
 generalize ((((((w'.setCell ⟨g, js.length * 5, none⟩ x0).setCell ⟨g, js.length * 5 + 1, none⟩ x1).setCell ⟨g, js.length * 5 + 2, none⟩ x2).setCell ⟨g, js.length * 5 + 3, none⟩ x3).setCell ⟨g, js.length * 5 + 4, none⟩ x4).setCell ⟨gj, 3, none⟩ (.slice (some ⟨g, 0, none⟩) (js.length + 1) cap)) = W at *
 have hne4 : ∀ k, some k = v4.ownBlock → some k ≠ v3.ownBlock := fun k hg' hn => h.ap k hn hg'
 refine ⟨?_, ?_, ?_, ?_, bk6, h.lt, by rw [sz]; exact Nat.le_trans h.le hg.size⟩
 · rw [List.length_append, List.flatten_append]; simpa using o3''
 · exact h.o4.keepb fun k hk => (rest k (hne k (own_lt h.o4 k hk) (hne4 k hk)) (by have := (h.o4.base_le hk).1; omega)).trans (hg.block k (own_lt h.o4 k hk) (hne4 k hk))
 · refine TreesS.keep (fun p hp => ?_) (fun b hb => ⟨hb.1, by rw [sz]; exact Nat.lt_of_lt_of_le hb.2.1 hg.size, ?_, hb.2.2.2⟩) (h.tr.snoc ht)
   · exact World.cell?_of_block ((rest p.block (hne _ hp.2.1 hp.2.2.1) (by have := hp.1; omega)).trans (hg.block p.block hp.2.1 hp.2.2.1))
   · intro e
     exact hne b hb.2.1 hb.2.2.1 (by injection e)
 · intro k hk e
   have e2 : k = g := by injection hk
   subst e2
   rcases ob with o | o
   · exact h.ap k o e
   · have := own_lt h.o4 k e
     omega
theorem StC.tree (h : StC gj N w kind ks js css v3 v4) (hj : js.length ≤ 1000000000) (hk : ks.length ≤ 1000000000) : ∃ A3 c3 A4 c4, v3 = .slice A3 js.length c3 ∧ v4 = .slice A4 ks.length c4 ∧
 TreeS w (Btw N w.heap.size) (.mk kind 0 ⟨#[]⟩ js ks) [.int .i64 kind, .int .i64 0, .string ⟨#[]⟩, .slice A3 js.length c3, .slice A4 ks.length c4] := by
 obtain ⟨A3, c3, e3, h3, f3⟩ := ownR_fls h.o3
 obtain ⟨A4, c4, e4, h4, f4⟩ := ownR_fls h.o4
 exact ⟨A3, c3, A4, c4, e3, e4, TreeS.mk_ ⟨h3, by unfold maxLen; omega⟩ ⟨h4, by unfold maxLen; omega⟩ (trees_fl h.tr f3 (fun b hb => ⟨hb.1, hb.2.1⟩)) f4⟩
theorem StC.start (bk : B5 w gj 25 (.int .i64 kind) (.int .i64 0) (.string ⟨#[]⟩) (.slice none 0 0) (.slice none 0 0)) (lt : gj < N) (le : N ≤ w.heap.size) : StC gj N w kind [] [] [] (.slice none 0 0) (.slice none 0 0) :=
 ⟨OwnR.none_ _ _ _ _, OwnR.none_ _ _ _ _, trivial, fun g hg => by simp [Value.ownBlock] at hg, bk, lt, le⟩
end
end Go.Proofs.YthogheglddfniaaGreatDoor
