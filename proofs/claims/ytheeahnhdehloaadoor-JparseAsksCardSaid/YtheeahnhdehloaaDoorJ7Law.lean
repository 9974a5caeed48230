/- Layer 7: the items of an object by their keys: the code's Get, and the document's. -/
import Derived.Test.YtheeahnhdehloaaDoorJCSt
import Derived.Test.YtheeahnhdehloaaDoorJTPar
import Derived.Test.YtheeahnhdehloaaDoorJTSame
import Derived.Test.YtheeahnhdehloaaDoorJCLst
import Derived.Lib.SlBytesConst
namespace Go.Proofs.YtheeahnhdehloaaDoor
open Go.ChangeShapes Go.WideShapes Go.ChangeAt Go.RowKit Mem

/-- The item of a key. -/
def J.get (j : J) (k : ByteArray) : Option J := if j.k = 6 then (place7 j.ks k).bind fun i => j.its[i]? else none
def gotten (o : Option J) : J := o.getD J.zero
/-- What Get answers: a tree in any blocks, and whether there is one. -/
def Got (o : Option J) (w : World) (e : Ending) (w' : World) : Prop :=
  ∃ A3 c3 A4 c4, e = .returned (.tuple #[.agg #[.int .i64 (gotten o).k, .int .i64 (gotten o).n, .string (gotten o).t, .slice A3 (gotten o).its.length c3, .slice A4 (gotten o).ks.length c4], .bool o.isSome]) ∧
    TreeC w' w.heap.size (gotten o) [.int .i64 (gotten o).k, .int .i64 (gotten o).n, .string (gotten o).t, .slice A3 (gotten o).its.length c3, .slice A4 (gotten o).ks.length c4] ∧ Below w.heap.size w w'
theorem got_none {o : Option J} {w w' : World} {b : Bool} (h : o = none) (hb : b = false) (hw : Below w.heap.size w w') : Got o w (.returned (.tuple #[.agg #[.int .i64 0, .int .i64 0, .string ⟨#[]⟩, .slice none 0 0, .slice none 0 0], .bool b])) w' := by
  subst h; subst hb
  exact ⟨none, 0, none, 0, rfl, TreeS.zero_ _ _, hw⟩
theorem got_some {o : Option J} {j : J} {w w' : World} {A3 A4 : Option Addr} {c3 c4 : Nat} {b : Bool} (h : o = some j) (hb : b = true) (ht : TreeC w w.heap.size j [.int .i64 j.k, .int .i64 j.n, .string j.t, .slice A3 j.its.length c3, .slice A4 j.ks.length c4]) (hw : Below w.heap.size w w') :
    Got o w (.returned (.tuple #[.agg #[.int .i64 j.k, .int .i64 j.n, .string j.t, .slice A3 j.its.length c3, .slice A4 j.ks.length c4], .bool b])) w' := by
  subst h; subst hb
  exact ⟨A3, c3, A4, c4, rfl, ht.below hw, hw⟩
/-- A tree in a result's block, and a truth. -/
theorem post_jb {fn : Func} {R : Ending → World → Prop} {a : Act} {w : World} {t u : Tmp} {g : Nat} {x0 x1 x2 x3 x4 : Value} (hf : fn.results = #[.cell t 27, .tmp u]) (hd : a.defers = [])
    (hg : a.tmps.getD t undef = .pointer (some ⟨g, 0, none⟩)) (h0 : w.cell? ⟨g, 0, none⟩ = some x0) (h1 : w.cell? ⟨g, 1, none⟩ = some x1) (h2 : w.cell? ⟨g, 2, none⟩ = some x2) (h3 : w.cell? ⟨g, 3, none⟩ = some x3) (h4 : w.cell? ⟨g, 4, none⟩ = some x4)
    (hR : R (.returned (.tuple #[.agg #[x0, x1, x2, x3, x4], a.tmps.getD u undef])) w) : bodyPost Tryd.prog fn R .ret a w := post_j2 hf hd hg h0 h1 h2 h3 h4 hR

set_option maxRecDepth 100000 in
set_option maxHeartbeats 2000000 in
theorem get_any (j : J) (key : ByteArray) (w : World) (A3 A4 : Option Addr) (c3 c4 : Nat) (ht : TreeC w w.heap.size j [.int .i64 j.k, .int .i64 j.n, .string j.t, .slice A3 j.its.length c3, .slice A4 j.ks.length c4]) :
    Calls Tryd.prog 11 #[.agg #[.int .i64 j.k, .int .i64 j.n, .string j.t, .slice A3 j.its.length c3, .slice A4 j.ks.length c4], .string key] w (Got (j.get key) w) := by
  have CS := cell_set
  obtain ⟨_, _, _, _, e, hc3, hc4, rt, ft⟩ := ht.out
  simp only [List.cons.injEq, Value.slice.injEq, true_and, and_true] at e
  obtain ⟨⟨rfl, rfl⟩, rfl, rfl⟩ := e
  have W2 : Below w.heap.size w ((w.alloc (.cells #[.int .i64 j.k, .int .i64 j.n, .string j.t, .slice A3 j.its.length c3, .slice A4 j.ks.length c4] 27)).alloc (.cells #[.int .i64 0, .int .i64 0, .string ⟨#[]⟩, .slice none 0 0, .slice none 0 0] 27)) := by (repeat' (first | with_reducible assumption | with_reducible exact Below.refl _ _ | (with_reducible refine Below.alloc ?_ ?_ _; rotate_left; focus ((first | exact Nat.le_refl _ | (simp; done) | (simp; omega) | omega | fail))) | (with_reducible refine Below.setCell ?_ ?_ _; rotate_left; focus ((first | exact Nat.le_refl _ | (simp; done) | (simp; omega) | omega | fail))) | with_reducible refine Mem.bel_drewN ?_ _ | with_reducible refine Below.drew ?_ | (with_reducible refine Mem.bel_call (by with_reducible assumption) ?_ ?_; focus ((first | exact Nat.le_refl _ | (simp; done) | (simp; omega) | omega | fail))) | fail))
  have ix := index_any (· < w.heap.size) A4 c4 j.ks key _ (FlS.keep (Below.keeps W2) (fun _ h => h) ft) hc4.2
  unfold Idx at ix
  obtain ⟨o, ho⟩ : ∃ o, o = place7 j.ks key := ⟨_, rfl⟩
  obtain ⟨R, hR⟩ : ∃ R, R = j.get key := ⟨_, rfl⟩
  rw [← ho] at ix
  rw [← hR]
  unfold J.get at hR
  rw [← ho] at hR
  have IX := Lib.hid ix
  have hl3 := hc3.2
  have HO := Lib.hid ho
  clear ix ho
  by_cases hk : j.k = 6
  · rw [if_pos hk] at hR
    have qk : (j.k != 6) = false := by rw [bne_eq_false_iff_eq]; exact hk
    cases o with
    | none =>
      have Z : Hid (R = none) := hR.trans rfl
      have q1 : num7 none < 0 := by decide
      have ix := IX.out
      have IX2 := Lib.hid ix
      clear hR hk ht rt ft hc3 hc4 hl3 IX ix HO
      generalize j.k = jk at *
      go_enter Tryd.func11, Tryd.ntmps11
      go_wp2_with fail
      with_reducible refine IX2.out.mono ?_
      rintro e w3 ⟨rfl, rfl⟩
      go_wp2_with fail
      try simp only [Exit.inBlock, Exit.then]
      refine post_jb (x0 := .int .i64 0) (x1 := .int .i64 0) (x2 := .string ⟨#[]⟩) (x3 := .slice none 0 0) (x4 := .slice none 0 0) rfl rfl rfl (by go_simp) (by go_simp) (by go_simp) (by go_simp) (by go_simp) ?_
      exact got_none Z.out rfl (by (repeat' (first | with_reducible assumption | with_reducible exact Below.refl _ _ | (with_reducible refine Below.alloc ?_ ?_ _; rotate_left; focus ((first | exact Nat.le_refl _ | (simp; done) | (simp; omega) | omega | fail))) | (with_reducible refine Below.setCell ?_ ?_ _; rotate_left; focus ((first | exact Nat.le_refl _ | (simp; done) | (simp; omega) | omega | fail))) | with_reducible refine Mem.bel_drewN ?_ _ | with_reducible refine Below.drew ?_ | (with_reducible refine Mem.bel_call (by with_reducible assumption) ?_ ?_; focus ((first | exact Nat.le_refl _ | (simp; done) | (simp; omega) | omega | fail))) | fail)))
    | some i =>
      have hik := place7_lt HO.out.symm
      have ix := IX.out
      rw [show num7 (some i) = (i : Int) from rfl] at ix
      have IX2 := Lib.hid ix
      have hb4 := hc4.2
      unfold maxLen at hb4 hl3
      by_cases hi : i < j.its.length
      · have Z : Hid (R = some (j.its[i]'hi)) := hR.trans (by show j.its[i]? = _; exact List.getElem?_eq_getElem hi)
        obtain ⟨b1, o1, X3, x3, X4, x4, e1, hb1, y0, y1, y2, y3, y4, ty⟩ := RowS.cells rt hi
        generalize j.its[i]'hi = T at *
        obtain ⟨ni, hni⟩ : ∃ n, n = j.its.length := ⟨_, rfl⟩
        have hin : i < ni := by omega
        rw [← hni] at IX2 hl3 W2 ⊢
        subst e1
        have TY := Lib.hid ty
        clear hR hk ht rt ft hc3 hc4 IX ix HO hi hni ty
        generalize j.k = jk at *
        have lb1 : b1 < w.heap.size := hb1
        have nb0 : b1 ≠ w.heap.size := by omega
        have nb1 : b1 ≠ w.heap.size + 1 := by omega
        have q2 : ¬ (ni : Int) ≤ (i : Int) := by omega
        have q3 : ¬ (i : Int) < 0 := by omega
        go_enter Tryd.func11, Tryd.ntmps11
        go_wp2_with fail
        with_reducible refine IX2.out.mono ?_
        rintro e w3 ⟨rfl, rfl⟩
        go_wp2_with fail
        try simp only [Exit.inBlock, Exit.then]
        refine post_jb (x0 := .int .i64 T.k) (x1 := .int .i64 T.n) (x2 := .string T.t) (x3 := .slice X3 T.its.length x3) (x4 := .slice X4 T.ks.length x4) rfl rfl rfl (by go_simp) (by go_simp) (by go_simp) (by go_simp) (by go_simp) ?_
        exact got_some Z.out rfl TY.out (by (repeat' (first | with_reducible assumption | with_reducible exact Below.refl _ _ | (with_reducible refine Below.alloc ?_ ?_ _; rotate_left; focus ((first | exact Nat.le_refl _ | (simp; done) | (simp; omega) | omega | fail))) | (with_reducible refine Below.setCell ?_ ?_ _; rotate_left; focus ((first | exact Nat.le_refl _ | (simp; done) | (simp; omega) | omega | fail))) | with_reducible refine Mem.bel_drewN ?_ _ | with_reducible refine Below.drew ?_ | (with_reducible refine Mem.bel_call (by with_reducible assumption) ?_ ?_; focus ((first | exact Nat.le_refl _ | (simp; done) | (simp; omega) | omega | fail))) | fail)))
      · have Z : Hid (R = none) := hR.trans (by show j.its[i]? = _; exact List.getElem?_eq_none (by omega))
        obtain ⟨ni, hni⟩ : ∃ n, n = j.its.length := ⟨_, rfl⟩
        have hin : ni ≤ i := by omega
        rw [← hni] at IX2 hl3 W2 ⊢
        clear hR hk ht rt ft hc3 hc4 IX ix HO hi hni
        generalize j.k = jk at *
        have q2 : (ni : Int) ≤ (i : Int) := by omega
        have q3 : ¬ (i : Int) < 0 := by omega
        go_enter Tryd.func11, Tryd.ntmps11
        go_wp2_with fail
        with_reducible refine IX2.out.mono ?_
        rintro e w3 ⟨rfl, rfl⟩
        go_wp2_with fail
        try simp only [Exit.inBlock, Exit.then]
        refine post_jb (x0 := .int .i64 0) (x1 := .int .i64 0) (x2 := .string ⟨#[]⟩) (x3 := .slice none 0 0) (x4 := .slice none 0 0) rfl rfl rfl (by go_simp) (by go_simp) (by go_simp) (by go_simp) (by go_simp) ?_
        exact got_none Z.out rfl (by (repeat' (first | with_reducible assumption | with_reducible exact Below.refl _ _ | (with_reducible refine Below.alloc ?_ ?_ _; rotate_left; focus ((first | exact Nat.le_refl _ | (simp; done) | (simp; omega) | omega | fail))) | (with_reducible refine Below.setCell ?_ ?_ _; rotate_left; focus ((first | exact Nat.le_refl _ | (simp; done) | (simp; omega) | omega | fail))) | with_reducible refine Mem.bel_drewN ?_ _ | with_reducible refine Below.drew ?_ | (with_reducible refine Mem.bel_call (by with_reducible assumption) ?_ ?_; focus ((first | exact Nat.le_refl _ | (simp; done) | (simp; omega) | omega | fail))) | fail)))
  · rw [if_neg hk] at hR
    have qk : (j.k != 6) = true := by rw [bne_iff_ne]; exact hk
    have Z := Lib.hid hR
    clear hR hk ht rt ft hc3 hc4 hl3
    go_enter Tryd.func11, Tryd.ntmps11
    go_wp2_with fail
    with_reducible refine IX.out.mono ?_
    rintro e w3 ⟨rfl, rfl⟩
    go_wp2_with fail
    try simp only [Exit.inBlock, Exit.then]
    refine post_jb (x0 := .int .i64 0) (x1 := .int .i64 0) (x2 := .string ⟨#[]⟩) (x3 := .slice none 0 0) (x4 := .slice none 0 0) rfl rfl rfl (by go_simp) (by go_simp) (by go_simp) (by go_simp) (by go_simp) ?_
    exact got_none Z.out rfl (by (repeat' (first | with_reducible assumption | with_reducible exact Below.refl _ _ | (with_reducible refine Below.alloc ?_ ?_ _; rotate_left; focus ((first | exact Nat.le_refl _ | (simp; done) | (simp; omega) | omega | fail))) | (with_reducible refine Below.setCell ?_ ?_ _; rotate_left; focus ((first | exact Nat.le_refl _ | (simp; done) | (simp; omega) | omega | fail))) | with_reducible refine Mem.bel_drewN ?_ _ | with_reducible refine Below.drew ?_ | (with_reducible refine Mem.bel_call (by with_reducible assumption) ?_ ?_; focus ((first | exact Nat.le_refl _ | (simp; done) | (simp; omega) | omega | fail))) | fail)))
end Go.Proofs.YtheeahnhdehloaaDoor
/- Layer 7, the code's own calls: Deep. -/
namespace Go.Proofs.YtheeahnhdehloaaDoor
open Go.ChangeShapes Go.WideShapes Go.ChangeAt Go.RowKit Mem

set_option maxRecDepth 100000 in
set_option maxHeartbeats 4000000 in
theorem deep_at : ∀ (N : Nat) (t : J), SizeOf.sizeOf t ≤ N → t.deep ≤ 1000000 → ∀ (w : World) (A3 A4 : Option Addr) (c3 c4 : Nat),
    TreeC w w.heap.size t [.int .i64 t.k, .int .i64 t.n, .string t.t, .slice A3 t.its.length c3, .slice A4 t.ks.length c4] →
    Calls Tryd.prog 14 #[.agg #[.int .i64 t.k, .int .i64 t.n, .string t.t, .slice A3 t.its.length c3, .slice A4 t.ks.length c4]] w (Num_ t.deep w)
  | 0, t, h => by cases t; simp at h
  | N + 1, .mk k n s its ks, hN => by
    intro hD w A3 A4 c3 c4 ht
    have CS := cell_set
    obtain ⟨_, _, _, _, e, hc3, hc4, rt, ft⟩ := ht.out
    simp only [J.k, J.n, J.t, J.its, J.ks, List.cons.injEq, Value.slice.injEq, true_and, and_true] at e hc3 hc4 rt ft
    obtain ⟨⟨rfl, rfl⟩, rfl, rfl⟩ := e
    have din := J.deep_in (j := .mk k n s its ks); have dout := J.deep_out (j := .mk k n s its ks)
    simp only [J.k, J.n, J.t, J.its, J.ks] at din dout ⊢
    by_cases hk : k = 5 ∨ k = 6
    · have d1 := din hk
      rw [d1] at hD ⊢
      have q5 : (k != 5) = true ∧ (k != 6) = false ∨ (k != 5) = false := by rcases hk with rfl | rfl <;> simp
      have RT := Lib.hid rt
      obtain ⟨ni, hni⟩ : ∃ m, m = its.length := ⟨_, rfl⟩
      have HNI := Lib.hid hni
      have ni0 : ni ≤ 9223372036854775807 := by have := hc3.2; unfold maxLen at this; omega
      have IH : Hid (∀ (i : Nat) (h1 : i < its.length) (W : World) (A3 A4 : Option Addr) (c3 c4 : Nat),
          TreeC W W.heap.size (its[i]'h1) [.int .i64 (its[i]'h1).k, .int .i64 (its[i]'h1).n, .string (its[i]'h1).t, .slice A3 (its[i]'h1).its.length c3, .slice A4 (its[i]'h1).ks.length c4] →
          Calls Tryd.prog 14 #[.agg #[.int .i64 (its[i]'h1).k, .int .i64 (its[i]'h1).n, .string (its[i]'h1).t, .slice A3 (its[i]'h1).its.length c3, .slice A4 (its[i]'h1).ks.length c4]] W (Num_ (its[i]'h1).deep W)) := fun i h1 W A3 A4 c3 c4 a =>
        deep_at N (its[i]'h1) (by have := J.lt_its (j := .mk k n s its ks) (i := i) h1; simp only [J.its] at this; omega) (by have := J.deep_at h1; omega) W A3 A4 c3 c4 a
      have DS := Lib.hid (fun i h => J.deeps_take (l := its) (i := i) h)
      have DL := Lib.hid (fun i => J.deeps_le its i)
      have DP := Lib.hid (fun i => J.deeps_pos (its.take i))
      have DA : Hid (J.deeps (its.take ni) = J.deeps its) := by show _ = _; rw [hni, List.take_length]
      obtain ⟨DI, hDI⟩ : ∃ d, d = J.deeps its := ⟨_, rfl⟩
      rw [← hDI] at DL DA hD ⊢
      obtain ⟨F, hF⟩ : ∃ F : Nat → Nat, F = fun i => J.deeps (its.take i) - 1 := ⟨_, rfl⟩
      have F0 : Hid (F 0 = 0) := by show _ = _; rw [hF]; rfl
      have FS : Hid (∀ i (h : i < its.length), F (i + 1) = max (F i) (its[i]'h).deep) := fun i h => by have := DS.out i h; have := DP.out i; rw [hF]; simp only; omega
      have FL : Hid (∀ i, F i + 1 ≤ DI) := fun i => by have := DL.out i; have := DP.out i; rw [hF]; simp only; omega
      have FA : Hid (F ni + 1 = DI) := by have := DA.out; have := DP.out ni; show _ = _; rw [hF]; simp only; omega
      rw [← HNI.out]
      clear DS DL DA DP hF hDI hni ht rt ft hN d1 din dout hk
      have G0 : Below w.heap.size w (w.alloc (.cells #[.int .i64 k, .int .i64 n, .string s, .slice A3 ni c3, .slice A4 ks.length c4] 27)) := (Below.refl _ _).alloc (Nat.le_refl _) _
      have gz0 : (w.alloc (.cells #[.int .i64 k, .int .i64 n, .string s, .slice A3 ni c3, .slice A4 ks.length c4] 27)).heap.size = w.heap.size + 1 := by simp
      have GZ0 := Lib.hid gz0
      clear gz0 hc3 hc4
      rcases q5 with ⟨q5, q6⟩ | q5
      all_goals
        go_enter Tryd.func14, Tryd.ntmps14
        go_wp2_with fail
        go_loopw [3, 17] (fun m t wr => ∃ p : Nat, p ≤ ni ∧ t = .int .i64 (p : Int) ∧ m = .int .i64 (F p : Int) ∧ Below (w.heap.size + 1) (w.alloc (.cells #[.int .i64 k, .int .i64 n, .string s, .slice A3 ni c3, .slice A4 ks.length c4] 27)) wr) (fun _ t _ => ni - (intOf t).toNat)
        case atStart => exact ⟨0, by omega, rfl, by rw [F0.out]; rfl, Below.refl _ _⟩
        case round =>
          obtain ⟨p, hp, rfl, rfl, bl⟩ := hrel
          have gsz := bl.size
          rw [GZ0.out] at gsz
          have gsz2 : w.heap.size ≤ wr.heap.size := by omega
          have blw := G0.trans (bl.mono (by omega))
          have hOwn := Nat.lt_of_lt_of_le (n := w.heap.size) (by first | exact Nat.le_refl _ | assumption | (simp; done) | (simp; omega) | omega) (Below.size bl)
          have hOwn1 := Nat.ne_of_gt hOwn
          have hOwn2 := Nat.ne_of_lt hOwn
          have hOwn := (Below.cell bl (p := ⟨w.heap.size, 0, none⟩) (by first | exact Nat.le_refl _ | assumption | (simp; done) | (simp; omega) | omega)).trans (by go_simp; rfl)
          have hOwn := (Below.cell bl (p := ⟨w.heap.size, 1, none⟩) (by first | exact Nat.le_refl _ | assumption | (simp; done) | (simp; omega) | omega)).trans (by go_simp; rfl)
          have hOwn := (Below.cell bl (p := ⟨w.heap.size, 2, none⟩) (by first | exact Nat.le_refl _ | assumption | (simp; done) | (simp; omega) | omega)).trans (by go_simp; rfl)
          have hOwn := (Below.cell bl (p := ⟨w.heap.size, 3, none⟩) (by first | exact Nat.le_refl _ | assumption | (simp; done) | (simp; omega) | omega)).trans (by go_simp; rfl)
          have hOwn := (Below.cell bl (p := ⟨w.heap.size, 4, none⟩) (by first | exact Nat.le_refl _ | assumption | (simp; done) | (simp; omega) | omega)).trans (by go_simp; rfl)
          have hOwn := (Below.frozen bl (p := ⟨w.heap.size, 0, none⟩) (by first | exact Nat.le_refl _ | assumption | (simp; done) | (simp; omega) | omega)).trans (by go_simp; rfl)
          have hOwn := (Below.frozen bl (p := ⟨w.heap.size, 1, none⟩) (by first | exact Nat.le_refl _ | assumption | (simp; done) | (simp; omega) | omega)).trans (by go_simp; rfl)
          have hOwn := (Below.frozen bl (p := ⟨w.heap.size, 2, none⟩) (by first | exact Nat.le_refl _ | assumption | (simp; done) | (simp; omega) | omega)).trans (by go_simp; rfl)
          have hOwn := (Below.frozen bl (p := ⟨w.heap.size, 3, none⟩) (by first | exact Nat.le_refl _ | assumption | (simp; done) | (simp; omega) | omega)).trans (by go_simp; rfl)
          have hOwn := (Below.frozen bl (p := ⟨w.heap.size, 4, none⟩) (by first | exact Nat.le_refl _ | assumption | (simp; done) | (simp; omega) | omega)).trans (by go_simp; rfl)
          by_cases hpn : p < ni
          · have h1 : p < its.length := by rw [← HNI.out]; exact hpn
            obtain ⟨b1, o1, X3, x3, X4, x4, e1, hb1, y0, y1, y2, y3, y4, ty⟩ := (RT.out.below blw).cells h1
            have I2 := Lib.hid (fun W a => IH.out p h1 W X3 X4 x3 x4 a)
            have fs := FS.out p h1
            have fl := FL.out (p + 1)
            generalize its[p]'h1 = T at *
            subst e1
            have TY := Lib.hid (ty.more gsz2)
            obtain ⟨dT, hdT⟩ : ∃ d, d = T.deep := ⟨_, rfl⟩
            rw [← hdT] at fs I2
            have FS1 := Lib.hid fs
            have lb1 : b1 < wr.heap.size := by omega
            clear ty h1 hdT fs fl
            go_wp2_with fail
            with_reducible refine (I2.out _ ((TY.out.alloc (Nat.le_refl _) _).more (by simp))).mono ?_
            rintro e w3 ⟨rfl, b3⟩
            have b4 : Below (w.heap.size + 1) (w.alloc (.cells #[.int .i64 k, .int .i64 n, .string s, .slice (some ⟨b1, o1, none⟩) ni c3, .slice A4 ks.length c4] 27)) w3 := (bl.alloc gsz _).trans (b3.mono (by simp; omega))
            go_wp2_with fail
            go_roundw
            case rel => exact ⟨p + 1, by omega, by go_num, by rw [FS1.out]; congr 1; split <;> omega, b4⟩
            case measure => simp [intOf]; omega
          · obtain rfl : p = ni := by omega
            have Z := Lib.hid FA.out
            have hDp : F p + 1 ≤ 1000000 := by have := Z.out; omega
            clear hpn
            go_wp2_with fail
            go_ret
            exact num_ret (by rw [← Z.out]; push_cast; omega) blw
    · have d0 := dout hk
      have q5 : (k != 5) = true := by rw [bne_iff_ne]; omega
      have q6 : (k != 6) = true := by rw [bne_iff_ne]; omega
      have Z := Lib.hid d0
      clear ht rt ft din dout hk
      go_enter Tryd.func14, Tryd.ntmps14
      go_wp2_with fail
      go_ret
      exact num_ret (by rw [Z.out]; rfl) (by (repeat' (first | with_reducible assumption | with_reducible exact Below.refl _ _ | (with_reducible refine Below.alloc ?_ ?_ _; rotate_left; focus ((first | exact Nat.le_refl _ | (simp; done) | (simp; omega) | omega | fail))) | (with_reducible refine Below.setCell ?_ ?_ _; rotate_left; focus ((first | exact Nat.le_refl _ | (simp; done) | (simp; omega) | omega | fail))) | with_reducible refine Mem.bel_drewN ?_ _ | with_reducible refine Below.drew ?_ | (with_reducible refine Mem.bel_call (by with_reducible assumption) ?_ ?_; focus ((first | exact Nat.le_refl _ | (simp; done) | (simp; omega) | omega | fail))) | fail)))
end Go.Proofs.YtheeahnhdehloaaDoor
/- The laws of layer 7, walked: the chapter's example. -/
namespace Go.Proofs.YtheeahnhdehloaaDoor
open Go.ChangeShapes Go.WideShapes Go.ChangeAt Go.RowKit Mem

theorem mark_bys7 (w : World) (l : List UInt8) (fr : Nat × Nat) : Bys (w.alloc (.cells (cels l).toArray 5 fr)) (w.alloc (.cells (cels l).toArray 5 fr)).heap.size (some ⟨w.heap.size, 0, none⟩) l := by
  refine .inr ⟨w.heap.size, 0, rfl, by simp, fun k hk => ?_⟩
  rw [Nat.zero_add, World.cell?_alloc_mark, List.getElem?_toArray, cels_at hk]
def t7x : J := .mk 5 0 ⟨#[]⟩ [.mk 3 1 ⟨#[]⟩ [] [], .mk 2 1 ⟨#[]⟩ [] []] []
def t7a : J := .mk 6 0 ⟨#[]⟩ [t7x] [⟨#[97]⟩]
theorem ex7a : Jp.parse [123, 34, 97, 34, 58, 32, 91, 49, 44, 32, 116, 114, 117, 101, 93, 125] = (t7a, 0) := by kernel_rfl
theorem ex7b : Jp.parse [123, 34, 97, 34, 58, 32, 49, 44, 32, 34, 97, 34, 58, 32, 50, 125] = (J.zero, 23) := by kernel_rfl
theorem ex7g : t7a.get ⟨#[97]⟩ = some t7x := by kernel_rfl
theorem ex7d : t7a.deep = 2 := by kernel_rfl
theorem btw_c {w : World} {B : Nat} {j : J} {cs : List Value} (h : TreeS w (Btw B w.heap.size) j cs) : TreeC w w.heap.size j cs := h.keep (fun _ _ => rfl) (fun _ hb => hb.2)

set_option maxRecDepth 100000 in
set_option maxHeartbeats 4000000 in
theorem works7_any (w : World) (hL : Laid w) : Calls Tryd.prog 6 #[] w (Yes w.heap.size w) := by
  have CS := cell_set
  have top := hL.top
  have cvb := fun w C n c => Lib.run_convert_bytes_const (P := Tryd.prog) w 22 5 C n c byteT.sl byteT.el
  have pa := parse_any (some ⟨w.heap.size, 0, none⟩) 16 [123, 34, 97, 34, 58, 32, 91, 49, 44, 32, 116, 114, 117, 101, 93, 125] (w.alloc (.cells #[.int .u8 123, .int .u8 34, .int .u8 97, .int .u8 34, .int .u8 58, .int .u8 32, .int .u8 91, .int .u8 49, .int .u8 44, .int .u8 32, .int .u8 116, .int .u8 114, .int .u8 117, .int .u8 101, .int .u8 93, .int .u8 125] 5 (16, 17))) (hL.alloc _)
    (mark_bys7 w [123, 34, 97, 34, 58, 32, 91, 49, 44, 32, 116, 114, 117, 101, 93, 125] (16, 17)) (by decide) (by decide)
  rw [ex7a] at pa
  have PA := Lib.hid pa
  have PB : Hid (∀ (W : World) (g : Nat), g = W.heap.size → Laid W → Calls Tryd.prog 7 #[.slice (some ⟨g, 0, none⟩) 16 16] (W.alloc (.cells #[.int .u8 123, .int .u8 34, .int .u8 97, .int .u8 34, .int .u8 58, .int .u8 32, .int .u8 49, .int .u8 44, .int .u8 32, .int .u8 34, .int .u8 97, .int .u8 34, .int .u8 58, .int .u8 32, .int .u8 50, .int .u8 125] 5 (16, 17))) (Prs (J.zero, 23) (W.alloc (.cells #[.int .u8 123, .int .u8 34, .int .u8 97, .int .u8 34, .int .u8 58, .int .u8 32, .int .u8 49, .int .u8 44, .int .u8 32, .int .u8 34, .int .u8 97, .int .u8 34, .int .u8 58, .int .u8 32, .int .u8 50, .int .u8 125] 5 (16, 17))))) := fun W g hg h => by
    have pb := parse_any (some ⟨W.heap.size, 0, none⟩) 16 [123, 34, 97, 34, 58, 32, 49, 44, 32, 34, 97, 34, 58, 32, 50, 125] (W.alloc (.cells #[.int .u8 123, .int .u8 34, .int .u8 97, .int .u8 34, .int .u8 58, .int .u8 32, .int .u8 49, .int .u8 44, .int .u8 32, .int .u8 34, .int .u8 97, .int .u8 34, .int .u8 58, .int .u8 32, .int .u8 50, .int .u8 125] 5 (16, 17))) (h.alloc _)
      (mark_bys7 W [123, 34, 97, 34, 58, 32, 49, 44, 32, 34, 97, 34, 58, 32, 50, 125] (16, 17)) (by decide) (by decide)
    rw [ex7b] at pb
    subst hg
    exact pb
  have GA := Lib.hid (fun W A3 A4 c3 c4 h => by
    have g := get_any t7a ⟨#[97]⟩ W A3 A4 c3 c4 h
    rw [ex7g] at g
    exact g)
  have DA := Lib.hid (fun W A3 A4 c3 c4 h => by
    have g := deep_at _ t7a (Nat.le_refl _) (by rw [ex7d]; decide) W A3 A4 c3 c4 h
    rw [ex7d] at g
    exact g)
  have cv1 := cvb w #[.int .u8 123, .int .u8 34, .int .u8 97, .int .u8 34, .int .u8 58, .int .u8 32, .int .u8 91, .int .u8 49, .int .u8 44, .int .u8 32, .int .u8 116, .int .u8 114, .int .u8 117, .int .u8 101, .int .u8 93, .int .u8 125] 16 16
  have CV2 : Hid (∀ (W : World) (g : Nat), g = W.heap.size → (convert 22 22 (.slice (some ⟨g, 0, none⟩) 16 16)).run Tryd.prog (W.alloc (.cells #[.int .u8 123, .int .u8 34, .int .u8 97, .int .u8 34, .int .u8 58, .int .u8 32, .int .u8 49, .int .u8 44, .int .u8 32, .int .u8 34, .int .u8 97, .int .u8 34, .int .u8 58, .int .u8 32, .int .u8 50, .int .u8 125] 5)) = .ok (.slice (some ⟨g, 0, none⟩) 16 16) (W.alloc (.cells #[.int .u8 123, .int .u8 34, .int .u8 97, .int .u8 34, .int .u8 58, .int .u8 32, .int .u8 49, .int .u8 44, .int .u8 32, .int .u8 34, .int .u8 97, .int .u8 34, .int .u8 58, .int .u8 32, .int .u8 50, .int .u8 125] 5 (16, 17)))) := fun W g hg => by subst hg; exact cvb W #[.int .u8 123, .int .u8 34, .int .u8 97, .int .u8 34, .int .u8 58, .int .u8 32, .int .u8 49, .int .u8 44, .int .u8 32, .int .u8 34, .int .u8 97, .int .u8 34, .int .u8 58, .int .u8 32, .int .u8 50, .int .u8 125] 16 16
  clear pa cvb
  go_enter Tryd.func6, Tryd.ntmps6
  go_wp2_with fail
  refine PA.out.mono ?_
  rintro e w1 ⟨A3, c3, A4, c4, rfl, tr, b1⟩
  simp only [t7a, J.k, J.n, J.t, J.its, J.ks, List.length_cons, List.length_nil, Nat.zero_add] at tr ⊢
  have bw1 : Below w.heap.size w w1 := by (repeat' (first | with_reducible assumption | with_reducible exact Below.refl _ _ | (with_reducible refine Below.alloc ?_ ?_ _; rotate_left; focus ((first | exact Nat.le_refl _ | (simp; done) | (simp; omega) | omega | fail))) | (with_reducible refine Below.setCell ?_ ?_ _; rotate_left; focus ((first | exact Nat.le_refl _ | (simp; done) | (simp; omega) | omega | fail))) | with_reducible refine Mem.bel_drewN ?_ _ | with_reducible refine Below.drew ?_ | (with_reducible refine Mem.bel_call (by with_reducible assumption) ?_ ?_; focus ((first | exact Nat.le_refl _ | (simp; done) | (simp; omega) | omega | fail))) | fail))
  have s1 := bw1.size
  have L1 := hL.below bw1 top
  have tr1 := (btw_c tr).alloc (Nat.le_refl _) (.cells #[.int .i64 6, .int .i64 0, .string ⟨#[]⟩, .slice A3 1 c3, .slice A4 1 c4] 27)
  have TR1 := Lib.hid tr1
  clear tr tr1
  go_wp2_with fail
  refine (GA.out _ A3 A4 c3 c4 (TR1.out.more (by simp))).mono ?_
  rintro e w3 ⟨X3, y3, X4, y4, rfl, tx, b3⟩
  simp only [gotten, Option.getD_some, t7x, J.k, J.n, J.t, J.its, J.ks, List.length_cons, List.length_nil, Nat.zero_add, Nat.reduceAdd, Option.isSome_some] at tx ⊢
  have bw3 : Below w.heap.size w w3 := by (repeat' (first | with_reducible assumption | with_reducible exact Below.refl _ _ | (with_reducible refine Below.alloc ?_ ?_ _; rotate_left; focus ((first | exact Nat.le_refl _ | (simp; done) | (simp; omega) | omega | fail))) | (with_reducible refine Below.setCell ?_ ?_ _; rotate_left; focus ((first | exact Nat.le_refl _ | (simp; done) | (simp; omega) | omega | fail))) | with_reducible refine Mem.bel_drewN ?_ _ | with_reducible refine Below.drew ?_ | (with_reducible refine Mem.bel_call (by with_reducible assumption) ?_ ?_; focus ((first | exact Nat.le_refl _ | (simp; done) | (simp; omega) | omega | fail))) | fail))
  have s3 := b3.size
  simp at s3
  have L3 := hL.below bw3 top
  obtain ⟨_, _, _, _, e, _, _, rx, _⟩ := tx.out
  simp only [J.k, J.n, J.t, J.its, J.ks, List.length_cons, List.length_nil, List.cons.injEq, Value.slice.injEq, true_and, and_true] at e rx
  obtain ⟨⟨rfl, rfl⟩, rfl, rfl⟩ := e
  obtain ⟨bx, ox, _, _, _, _, ex, hbx, _, z1, _, _, _, _⟩ := RowS.cells rx (i := 0) (by simp)
  obtain ⟨by_, oy, _, _, _, _, ey, hby, z2, _, _, _, _, _⟩ := RowS.cells rx (i := 1) (by simp)
  subst ex
  simp only [Option.some.injEq, Addr.mk.injEq, and_true] at ey
  obtain ⟨rfl, rfl⟩ := ey
  simp only [List.getElem_cons_zero, List.getElem_cons_succ, J.k, J.n, Nat.zero_mul, Nat.one_mul, Nat.add_zero] at z1 z2
  have hOwn := Nat.lt_of_lt_of_le (n := w1.heap.size) (by first | exact Nat.le_refl _ | assumption | (simp; done) | (simp; omega) | omega) (Below.size b3)
  have hOwn1 := Nat.ne_of_gt hOwn
  have hOwn2 := Nat.ne_of_lt hOwn
  have hOwn := (Below.cell b3 (p := ⟨w1.heap.size, 0, none⟩) (by first | exact Nat.le_refl _ | assumption | (simp; done) | (simp; omega) | omega)).trans (by go_simp; rfl)
  have hOwn := (Below.cell b3 (p := ⟨w1.heap.size, 1, none⟩) (by first | exact Nat.le_refl _ | assumption | (simp; done) | (simp; omega) | omega)).trans (by go_simp; rfl)
  have hOwn := (Below.cell b3 (p := ⟨w1.heap.size, 2, none⟩) (by first | exact Nat.le_refl _ | assumption | (simp; done) | (simp; omega) | omega)).trans (by go_simp; rfl)
  have hOwn := (Below.cell b3 (p := ⟨w1.heap.size, 3, none⟩) (by first | exact Nat.le_refl _ | assumption | (simp; done) | (simp; omega) | omega)).trans (by go_simp; rfl)
  have hOwn := (Below.cell b3 (p := ⟨w1.heap.size, 4, none⟩) (by first | exact Nat.le_refl _ | assumption | (simp; done) | (simp; omega) | omega)).trans (by go_simp; rfl)
  have hOwn := (Below.frozen b3 (p := ⟨w1.heap.size, 0, none⟩) (by first | exact Nat.le_refl _ | assumption | (simp; done) | (simp; omega) | omega)).trans (by go_simp; rfl)
  have hOwn := (Below.frozen b3 (p := ⟨w1.heap.size, 1, none⟩) (by first | exact Nat.le_refl _ | assumption | (simp; done) | (simp; omega) | omega)).trans (by go_simp; rfl)
  have hOwn := (Below.frozen b3 (p := ⟨w1.heap.size, 2, none⟩) (by first | exact Nat.le_refl _ | assumption | (simp; done) | (simp; omega) | omega)).trans (by go_simp; rfl)
  have hOwn := (Below.frozen b3 (p := ⟨w1.heap.size, 3, none⟩) (by first | exact Nat.le_refl _ | assumption | (simp; done) | (simp; omega) | omega)).trans (by go_simp; rfl)
  have hOwn := (Below.frozen b3 (p := ⟨w1.heap.size, 4, none⟩) (by first | exact Nat.le_refl _ | assumption | (simp; done) | (simp; omega) | omega)).trans (by go_simp; rfl)
  have lbx : bx < w3.heap.size := by simp at hbx; omega
  have cv2 := CV2.out (w3.alloc (.cells #[.int .i64 5, .int .i64 0, .string ⟨#[]⟩, .slice (some ⟨bx, ox, none⟩) 2 y3, .slice X4 0 y4] 27)) (w3.heap.size + 1) (by simp)
  have TR3 := Lib.hid (TR1.out.below (b3.mono (by simp)))
  have Z1 := Lib.hid z1
  have Z2 := Lib.hid z2
  clear z1 z2 rx tx
  go_wp2_with fail
  refine (PB.out _ _ (by simp) (L3.alloc _)).mono ?_
  rintro e w6 ⟨P3, q3, P4, q4, rfl, tz, b6⟩
  simp only [J.zero, J.k, J.n, J.t, J.its, J.ks, List.length_nil] at tz ⊢
  have b36 : Below w3.heap.size w3 w6 := (((Below.refl _ _).alloc (Nat.le_refl _) _).alloc (by simp) _).trans (b6.mono (by simp; omega))
  have bw6 : Below w.heap.size w w6 := bw3.trans (b36.mono (by omega))
  have s6 := b6.size
  simp at s6
  have z1 := (b6.cell (p := ⟨bx, ox + 1, none⟩) (by simp; omega)).trans (by go_simp; exact Z1.out)
  have z2 := (b6.cell (p := ⟨bx, ox + 5, none⟩) (by simp; omega)).trans (by go_simp; exact Z2.out)
  have hOwn := Nat.lt_of_lt_of_le (n := w1.heap.size) (by first | exact Nat.le_refl _ | assumption | (simp; done) | (simp; omega) | omega) (Below.size b6)
  have hOwn1 := Nat.ne_of_gt hOwn
  have hOwn2 := Nat.ne_of_lt hOwn
  have hOwn := (Below.cell b6 (p := ⟨w1.heap.size, 0, none⟩) (by first | exact Nat.le_refl _ | assumption | (simp; done) | (simp; omega) | omega)).trans (by go_simp; rfl)
  have hOwn := (Below.cell b6 (p := ⟨w1.heap.size, 1, none⟩) (by first | exact Nat.le_refl _ | assumption | (simp; done) | (simp; omega) | omega)).trans (by go_simp; rfl)
  have hOwn := (Below.cell b6 (p := ⟨w1.heap.size, 2, none⟩) (by first | exact Nat.le_refl _ | assumption | (simp; done) | (simp; omega) | omega)).trans (by go_simp; rfl)
  have hOwn := (Below.cell b6 (p := ⟨w1.heap.size, 3, none⟩) (by first | exact Nat.le_refl _ | assumption | (simp; done) | (simp; omega) | omega)).trans (by go_simp; rfl)
  have hOwn := (Below.cell b6 (p := ⟨w1.heap.size, 4, none⟩) (by first | exact Nat.le_refl _ | assumption | (simp; done) | (simp; omega) | omega)).trans (by go_simp; rfl)
  have hOwn := (Below.frozen b6 (p := ⟨w1.heap.size, 0, none⟩) (by first | exact Nat.le_refl _ | assumption | (simp; done) | (simp; omega) | omega)).trans (by go_simp; rfl)
  have hOwn := (Below.frozen b6 (p := ⟨w1.heap.size, 1, none⟩) (by first | exact Nat.le_refl _ | assumption | (simp; done) | (simp; omega) | omega)).trans (by go_simp; rfl)
  have hOwn := (Below.frozen b6 (p := ⟨w1.heap.size, 2, none⟩) (by first | exact Nat.le_refl _ | assumption | (simp; done) | (simp; omega) | omega)).trans (by go_simp; rfl)
  have hOwn := (Below.frozen b6 (p := ⟨w1.heap.size, 3, none⟩) (by first | exact Nat.le_refl _ | assumption | (simp; done) | (simp; omega) | omega)).trans (by go_simp; rfl)
  have hOwn := (Below.frozen b6 (p := ⟨w1.heap.size, 4, none⟩) (by first | exact Nat.le_refl _ | assumption | (simp; done) | (simp; omega) | omega)).trans (by go_simp; rfl)
  have hOwn := Nat.lt_of_lt_of_le (n := w3.heap.size) (by first | exact Nat.le_refl _ | assumption | (simp; done) | (simp; omega) | omega) (Below.size b6)
  have hOwn1 := Nat.ne_of_gt hOwn
  have hOwn2 := Nat.ne_of_lt hOwn
  have hOwn := (Below.cell b6 (p := ⟨w3.heap.size, 0, none⟩) (by first | exact Nat.le_refl _ | assumption | (simp; done) | (simp; omega) | omega)).trans (by go_simp; rfl)
  have hOwn := (Below.cell b6 (p := ⟨w3.heap.size, 1, none⟩) (by first | exact Nat.le_refl _ | assumption | (simp; done) | (simp; omega) | omega)).trans (by go_simp; rfl)
  have hOwn := (Below.cell b6 (p := ⟨w3.heap.size, 2, none⟩) (by first | exact Nat.le_refl _ | assumption | (simp; done) | (simp; omega) | omega)).trans (by go_simp; rfl)
  have hOwn := (Below.cell b6 (p := ⟨w3.heap.size, 3, none⟩) (by first | exact Nat.le_refl _ | assumption | (simp; done) | (simp; omega) | omega)).trans (by go_simp; rfl)
  have hOwn := (Below.cell b6 (p := ⟨w3.heap.size, 4, none⟩) (by first | exact Nat.le_refl _ | assumption | (simp; done) | (simp; omega) | omega)).trans (by go_simp; rfl)
  have hOwn := (Below.frozen b6 (p := ⟨w3.heap.size, 0, none⟩) (by first | exact Nat.le_refl _ | assumption | (simp; done) | (simp; omega) | omega)).trans (by go_simp; rfl)
  have hOwn := (Below.frozen b6 (p := ⟨w3.heap.size, 1, none⟩) (by first | exact Nat.le_refl _ | assumption | (simp; done) | (simp; omega) | omega)).trans (by go_simp; rfl)
  have hOwn := (Below.frozen b6 (p := ⟨w3.heap.size, 2, none⟩) (by first | exact Nat.le_refl _ | assumption | (simp; done) | (simp; omega) | omega)).trans (by go_simp; rfl)
  have hOwn := (Below.frozen b6 (p := ⟨w3.heap.size, 3, none⟩) (by first | exact Nat.le_refl _ | assumption | (simp; done) | (simp; omega) | omega)).trans (by go_simp; rfl)
  have hOwn := (Below.frozen b6 (p := ⟨w3.heap.size, 4, none⟩) (by first | exact Nat.le_refl _ | assumption | (simp; done) | (simp; omega) | omega)).trans (by go_simp; rfl)
  have lbx6 : bx < w6.heap.size := by omega
  have DD := Lib.hid (fun W h => DA.out W A3 A4 c3 c4 h)
  have TR6 := Lib.hid (fun W (h : Below w6.heap.size w6 W) => ((TR3.out.more (show w1.heap.size ≤ w3.heap.size by omega)).below b36).below (h.mono (by omega)))
  clear tz
  go_wp2_with fail
  refine (DD.out _ ((TR6.out _ (by (repeat' (first | with_reducible assumption | with_reducible exact Below.refl _ _ | (with_reducible refine Below.alloc ?_ ?_ _; rotate_left; focus ((first | exact Nat.le_refl _ | (simp; done) | (simp; omega) | omega | fail))) | (with_reducible refine Below.setCell ?_ ?_ _; rotate_left; focus ((first | exact Nat.le_refl _ | (simp; done) | (simp; omega) | omega | fail))) | with_reducible refine Mem.bel_drewN ?_ _ | with_reducible refine Below.drew ?_ | (with_reducible refine Mem.bel_call (by with_reducible assumption) ?_ ?_; focus ((first | exact Nat.le_refl _ | (simp; done) | (simp; omega) | omega | fail))) | fail)))).more (by simp; omega))).mono ?_
  rintro e w8 ⟨rfl, b8⟩
  have bw8 : Below w.heap.size w w8 := by (repeat' (first | with_reducible assumption | with_reducible exact Below.refl _ _ | (with_reducible refine Below.alloc ?_ ?_ _; rotate_left; focus ((first | exact Nat.le_refl _ | (simp; done) | (simp; omega) | omega | fail))) | (with_reducible refine Below.setCell ?_ ?_ _; rotate_left; focus ((first | exact Nat.le_refl _ | (simp; done) | (simp; omega) | omega | fail))) | with_reducible refine Mem.bel_drewN ?_ _ | with_reducible refine Below.drew ?_ | (with_reducible refine Mem.bel_call (by with_reducible assumption) ?_ ?_; focus ((first | exact Nat.le_refl _ | (simp; done) | (simp; omega) | omega | fail))) | fail))
  go_wp2_with fail
  go_ret
  exact ⟨rfl, bw8⟩
end Go.Proofs.YtheeahnhdehloaaDoor
