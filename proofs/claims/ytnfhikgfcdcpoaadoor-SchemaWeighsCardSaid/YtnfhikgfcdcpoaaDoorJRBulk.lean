/- Layer 7, the document's own answers: Bulk, and what is too great. -/
import Derived.Test.YtnfhikgfcdcpoaaDoorJTSame
import Derived.Test.YtnfhikgfcdcpoaaDoorJWt
import Derived.Deep.LoopGhost
namespace Go.Proofs.YtnfhikgfcdcpoaaDoor
open Go.ChangeShapes Go.WideShapes Go.ChangeAt Go.RowKit Mem

/-- What Bulk answers, asked with 2000: if it is not more, the tree is not deep, and has so many parts and bytes. -/
def Bul (t : J) (D : Nat) (w : World) (e : Ending) (w' : World) : Prop := ∃ n : Nat, e = .returned (.int .i64 (n : Int)) ∧ n ≤ 4001 + 2000 * (61 - D) ∧ (n ≤ 2000 → t.deep + D ≤ 61 ∧ t.wt = n) ∧ Below w.heap.size w w'
theorem bul_ret {t : J} {D n : Nat} {z : Int} {w w' : World} (hz : z = (n : Int)) (h : n ≤ 4001 + 2000 * (61 - D)) (hd : n ≤ 2000 → t.deep + D ≤ 61 ∧ t.wt = n) (hb : Below w.heap.size w w') : Bul t D w (.returned (.int .i64 z)) w' := by subst hz; exact ⟨n, rfl, h, hd, hb⟩

set_option maxRecDepth 100000 in
set_option maxHeartbeats 8000000 in
theorem bulk_at : ∀ (N : Nat) (t : J), SizeOf.sizeOf t ≤ N → ∀ (D : Nat) (w : World) (A3 A4 : Option Addr) (c3 c4 : Nat), D ≤ 61 →
    TreeC w w.heap.size t [.int .i64 t.k, .int .i64 t.n, .string t.t, .slice A3 t.its.length c3, .slice A4 t.ks.length c4] →
    Calls Tryd.prog 29 #[.agg #[.int .i64 t.k, .int .i64 t.n, .string t.t, .slice A3 t.its.length c3, .slice A4 t.ks.length c4], .int .i64 2000, .int .i64 (D : Int)] w (Bul t D w)
  | 0, t, h => by cases t; simp at h
  | N + 1, .mk k n s its ks, hN => by
    intro D w A3 A4 c3 c4 hD ht
    have CS := cell_set
    obtain ⟨_, _, _, _, e, hc3, hc4, rt, ft⟩ := ht.out
    simp only [J.k, J.n, J.t, J.its, J.ks, List.cons.injEq, Value.slice.injEq, true_and, and_true] at e hc3 hc4 rt ft
    obtain ⟨⟨rfl, rfl⟩, rfl, rfl⟩ := e
    have db : ∀ M, 1 ≤ M → (∀ i (g : i < its.length), (its[i]'g).deep + 1 ≤ M) → (J.mk k n s its ks).deep ≤ M := fun M hM h => J.deep_bound (j := .mk k n s its ks) hM h
    have wt : (J.mk k n s its ks).wt = 1 + s.size + kwt ks + J.wts its := by unfold J.wt; rfl
    have KT := Lib.hid (fun i (h : i < ks.length) => kwt_take h)
    have WT := Lib.hid (fun i (h : i < its.length) => J.wts_take h)
    have KA : Hid (kwt (ks.take ks.length) = kwt ks) := by show _ = _; rw [List.take_length]
    have WA : Hid (J.wts (its.take its.length) = J.wts its) := by show _ = _; rw [List.take_length]
    obtain ⟨KW, hKW⟩ : ∃ f : Nat → Nat, f = fun i => kwt (ks.take i) := ⟨_, rfl⟩
    obtain ⟨JW, hJW⟩ : ∃ f : Nat → Nat, f = fun i => J.wts (its.take i) := ⟨_, rfl⟩
    have KT' : Hid (∀ i (h : i < ks.length), KW (i + 1) = KW i + 1 + (ks[i]'h).size) := fun i h => by rw [hKW]; exact KT.out i h
    have WT' : Hid (∀ i (h : i < its.length), JW (i + 1) = JW i + (its[i]'h).wt) := fun i h => by rw [hJW]; exact WT.out i h
    have K0 : Hid (KW 0 = 0) := by show _ = _; rw [hKW]; rfl
    have J0 : Hid (JW 0 = 0) := by show _ = _; rw [hJW]; rfl
    have KA' : Hid (KW ks.length = kwt ks) := by show _ = _; rw [hKW]; exact KA.out
    have WA' : Hid (JW its.length = J.wts its) := by show _ = _; rw [hJW]; exact WA.out
    clear KT WT KA WA hKW hJW
    obtain ⟨T, hT⟩ : ∃ T, T = J.mk k n s its ks := ⟨_, rfl⟩
    rw [← hT] at wt
    have WT0 := Lib.hid wt
    clear wt
    simp only [J.k, J.n, J.t, J.its, J.ks]
    rw [← hT] at db ⊢
    have IH : Hid (∀ (i : Nat) (h1 : i < its.length) (W : World) (A3 A4 : Option Addr) (c3 c4 : Nat), D + 1 ≤ 61 →
        TreeC W W.heap.size (its[i]'h1) [.int .i64 (its[i]'h1).k, .int .i64 (its[i]'h1).n, .string (its[i]'h1).t, .slice A3 (its[i]'h1).its.length c3, .slice A4 (its[i]'h1).ks.length c4] →
        Calls Tryd.prog 29 #[.agg #[.int .i64 (its[i]'h1).k, .int .i64 (its[i]'h1).n, .string (its[i]'h1).t, .slice A3 (its[i]'h1).its.length c3, .slice A4 (its[i]'h1).ks.length c4], .int .i64 2000, .int .i64 ((D : Int) + 1)] W (Bul (its[i]'h1) (D + 1) W)) := fun i h1 W A3 A4 c3 c4 hd a =>
      bulk_at N (its[i]'h1) (by have := J.lt_its (j := .mk k n s its ks) (i := i) h1; simp only [J.its] at this; omega) (D + 1) W A3 A4 c3 c4 hd a
    have RT := Lib.hid rt; have FT := Lib.hid ft; have DB := Lib.hid db
    have hb4 := hc4.2
    have hb3 := hc3.2
    unfold maxLen at hb4 hb3
    obtain ⟨ni, hni⟩ : ∃ m, m = its.length := ⟨_, rfl⟩
    obtain ⟨nk, hnk⟩ : ∃ m, m = ks.length := ⟨_, rfl⟩
    have HNI := Lib.hid hni; have HNK := Lib.hid hnk
    rw [← hni] at hb3 ⊢
    rw [← hnk] at hb4 ⊢
    clear ht rt ft hN db hc3 hc4 hni hnk hT
    rw [← HNI.out] at WA'
    rw [← HNK.out] at KA'
    by_cases g1 : (60 : Int) < (D : Int)
    · go_enter Tryd.func29, Tryd.ntmps29
      go_wp2_with fail
      go_ret
      exact bul_ret (n := 2001) (by rfl) (by omega) (fun h => by omega) (by (repeat' (first | with_reducible assumption | with_reducible exact Below.refl _ _ | (with_reducible refine Below.alloc ?_ ?_ _; rotate_left; focus ((first | exact Nat.le_refl _ | (simp; done) | (simp; omega) | omega | fail))) | (with_reducible refine Below.setCell ?_ ?_ _; rotate_left; focus ((first | exact Nat.le_refl _ | (simp; done) | (simp; omega) | omega | fail))) | with_reducible refine Mem.bel_drewN ?_ _ | with_reducible refine Below.drew ?_ | (with_reducible refine Mem.bel_call (by with_reducible assumption) ?_ ?_; focus ((first | exact Nat.le_refl _ | (simp; done) | (simp; omega) | omega | fail))) | fail)))
    · by_cases g2 : (2000 : Int) < (s.size : Int)
      · go_enter Tryd.func29, Tryd.ntmps29
        go_wp2_with fail
        go_ret
        exact bul_ret (n := 2001) (by rfl) (by omega) (fun h => by omega) (by (repeat' (first | with_reducible assumption | with_reducible exact Below.refl _ _ | (with_reducible refine Below.alloc ?_ ?_ _; rotate_left; focus ((first | exact Nat.le_refl _ | (simp; done) | (simp; omega) | omega | fail))) | (with_reducible refine Below.setCell ?_ ?_ _; rotate_left; focus ((first | exact Nat.le_refl _ | (simp; done) | (simp; omega) | omega | fail))) | with_reducible refine Mem.bel_drewN ?_ _ | with_reducible refine Below.drew ?_ | (with_reducible refine Mem.bel_call (by with_reducible assumption) ?_ ?_; focus ((first | exact Nat.le_refl _ | (simp; done) | (simp; omega) | omega | fail))) | fail)))
      · by_cases g3 : (2000 : Int) < (nk : Int)
        · go_enter Tryd.func29, Tryd.ntmps29
          go_wp2_with fail
          go_ret
          exact bul_ret (n := 2001) (by rfl) (by omega) (fun h => by omega) (by (repeat' (first | with_reducible assumption | with_reducible exact Below.refl _ _ | (with_reducible refine Below.alloc ?_ ?_ _; rotate_left; focus ((first | exact Nat.le_refl _ | (simp; done) | (simp; omega) | omega | fail))) | (with_reducible refine Below.setCell ?_ ?_ _; rotate_left; focus ((first | exact Nat.le_refl _ | (simp; done) | (simp; omega) | omega | fail))) | with_reducible refine Mem.bel_drewN ?_ _ | with_reducible refine Below.drew ?_ | (with_reducible refine Mem.bel_call (by with_reducible assumption) ?_ ?_; focus ((first | exact Nat.le_refl _ | (simp; done) | (simp; omega) | omega | fail))) | fail)))
        · by_cases g4 : (2000 : Int) < (ni : Int)
          · go_enter Tryd.func29, Tryd.ntmps29
            go_wp2_with fail
            go_ret
            exact bul_ret (n := 2001) (by rfl) (by omega) (fun h => by omega) (by (repeat' (first | with_reducible assumption | with_reducible exact Below.refl _ _ | (with_reducible refine Below.alloc ?_ ?_ _; rotate_left; focus ((first | exact Nat.le_refl _ | (simp; done) | (simp; omega) | omega | fail))) | (with_reducible refine Below.setCell ?_ ?_ _; rotate_left; focus ((first | exact Nat.le_refl _ | (simp; done) | (simp; omega) | omega | fail))) | with_reducible refine Mem.bel_drewN ?_ _ | with_reducible refine Below.drew ?_ | (with_reducible refine Mem.bel_call (by with_reducible assumption) ?_ ?_; focus ((first | exact Nat.le_refl _ | (simp; done) | (simp; omega) | omega | fail))) | fail)))
          · have hD2 : D ≤ 60 := by omega
            have G0 : Below w.heap.size w (w.alloc (.cells #[.int .i64 k, .int .i64 n, .string s, .slice A3 ni c3, .slice A4 nk c4] 36)) := (Below.refl _ _).alloc (Nat.le_refl _) _
            have gz0 : (w.alloc (.cells #[.int .i64 k, .int .i64 n, .string s, .slice A3 ni c3, .slice A4 nk c4] 36)).heap.size = w.heap.size + 1 := by simp
            have GZ0 := Lib.hid gz0
            clear gz0
            go_enter Tryd.func29, Tryd.ntmps29
            go_wp2_with fail
            go_loopw [7, 8] (fun m t wr => ∃ i v : Nat, i ≤ nk ∧ v ≤ 4001 ∧ Hid (v = 1 + s.size + KW i) ∧ t = .int .i64 (i : Int) ∧ m = .int .i64 (v : Int) ∧ wr = (w.alloc (.cells #[.int .i64 k, .int .i64 n, .string s, .slice A3 ni c3, .slice A4 nk c4] 36))) (fun _ t _ => nk - (intOf t).toNat)
            case atStart => exact ⟨0, 1 + s.size, Nat.zero_le _, by omega, (by show _ = _; rw [K0.out, Nat.add_zero]), rfl, by push_cast; rfl, by first | rfl | trivial⟩
            case round =>
              obtain ⟨i, v, hik, hv, HVV, rfl, rfl, rfl⟩ := hrel
              by_cases h1 : i < nk ∧ v ≤ 2000
              · obtain ⟨h1, h2⟩ := h1
                have h1' : i < ks.length := by rw [← HNK.out]; exact h1
                obtain ⟨b8, o8, e8, hb8, z0⟩ := fl_str FT.out h1'
                have q2 : (v : Int) ≤ 2000 := by omega
                have HV2 : Hid (v + 1 + (ks[i]'h1').size = 1 + s.size + KW (i + 1)) := by
                  show _ = _
                  have := HVV.out; have := KT'.out i h1'; omega
                clear HVV
                generalize ks[i]'h1' = Y at *
                subst e8
                have lb8 : b8 < w.heap.size := hb8
                by_cases hy : (2000 : Int) < (Y.size : Int)
                · go_wp2_with fail
                  go_ret
                  exact bul_ret (n := 2001) (by rfl) (by omega) (fun h => by omega) (by (repeat' (first | with_reducible assumption | with_reducible exact Below.refl _ _ | (with_reducible refine Below.alloc ?_ ?_ _; rotate_left; focus ((first | exact Nat.le_refl _ | (simp; done) | (simp; omega) | omega | fail))) | (with_reducible refine Below.setCell ?_ ?_ _; rotate_left; focus ((first | exact Nat.le_refl _ | (simp; done) | (simp; omega) | omega | fail))) | with_reducible refine Mem.bel_drewN ?_ _ | with_reducible refine Below.drew ?_ | (with_reducible refine Mem.bel_call (by with_reducible assumption) ?_ ?_; focus ((first | exact Nat.le_refl _ | (simp; done) | (simp; omega) | omega | fail))) | fail)))
                · go_wp2_with fail
                  go_roundw
                  case rel => exact ⟨i + 1, v + 1 + Y.size, by omega, by omega, HV2, by go_num, by push_cast; rfl, by first | rfl | trivial⟩
                  case measure => simp [intOf]; omega
              · have h2 : ¬ (i : Int) < (nk : Int) ∨ (i : Int) < (nk : Int) ∧ ¬ (v : Int) ≤ 2000 := by omega
                have HV3 : Hid (v ≤ 2000 → v = 1 + s.size + kwt ks) := fun hv2 => by
                  have e : i = nk := by omega
                  have := HVV.out; have := KA'.out
                  rw [e] at *; omega
                clear h1 HVV
                rcases h2 with h2 | ⟨h2, h3⟩
                all_goals
                  go_wp2_with fail
                  go_loopw [7, 9] (fun m t wr => ∃ p u : Nat, p ≤ ni ∧ u ≤ 4001 + 2000 * (61 - D) ∧ t = .int .i64 (p : Int) ∧ m = .int .i64 (u : Int) ∧ Hid (∀ j (h : j < its.length), j < p → u ≤ 2000 → (its[j]'h).deep + D + 1 ≤ 61) ∧ Hid (u ≤ 2000 → u = 1 + s.size + kwt ks + JW p) ∧ Below (w.heap.size + 1) (w.alloc (.cells #[.int .i64 k, .int .i64 n, .string s, .slice A3 ni c3, .slice A4 nk c4] 36)) wr) (fun _ t _ => ni - (intOf t).toNat)
                  case atStart => exact ⟨0, v, Nat.zero_le _, by omega, rfl, rfl, fun _ _ h => absurd h (Nat.not_lt_zero _), (fun h => by have := HV3.out h; have := J0.out; omega), Below.refl _ _⟩
                  case round =>
                    obtain ⟨p, u, hp, hu, rfl, rfl, HE, HU, bl⟩ := hrel
                    have gsz := bl.size
                    rw [GZ0.out] at gsz
                    have gsz2 : w.heap.size ≤ wr.heap.size := by omega
                    have blw := G0.trans (bl.mono (by omega))
                    have hOwn := Nat.lt_of_lt_of_le (n := w.heap.size) (by first | exact Nat.le_refl _ | assumption | (simp; done) | (simp; omega) | omega) (Below.size bl)
                    have hOwn1 := Nat.ne_of_gt hOwn
                    have hOwn2 := Nat.ne_of_lt hOwn
                    have hOwn := (Below.cell bl (p := ⟨w.heap.size, 0, none⟩) (by first | exact Nat.le_refl _ | assumption | (simp; done) | (simp; omega) | omega)).trans (by go_simp; rfl)
                    have hOwn := (Below.cell bl (p := ⟨w.heap.size, 1, none⟩) (by first | exact Nat.le_refl _ | assumption | (simp; done) | (simp; omega) | omega)).trans (by go_simp; rfl)
                    have hOwn := (Below.cell bl (p := ⟨w.heap.size, 2, none⟩) (by first | exact Nat.le_refl _ | assumption | (simp; done) | (simp; omega) | omega)).trans (by go_simp; rfl)
                    have hOwn := (Below.cell bl (p := ⟨w.heap.size, 3, none⟩) (by first | exact Nat.le_refl _ | assumption | (simp; done) | (simp; omega) | omega)).trans (by go_simp; rfl)
                    have hOwn := (Below.cell bl (p := ⟨w.heap.size, 4, none⟩) (by first | exact Nat.le_refl _ | assumption | (simp; done) | (simp; omega) | omega)).trans (by go_simp; rfl)
                    have hOwn := (Below.frozen bl (p := ⟨w.heap.size, 0, none⟩) (by first | exact Nat.le_refl _ | assumption | (simp; done) | (simp; omega) | omega)).trans (by go_simp; rfl)
                    have hOwn := (Below.frozen bl (p := ⟨w.heap.size, 1, none⟩) (by first | exact Nat.le_refl _ | assumption | (simp; done) | (simp; omega) | omega)).trans (by go_simp; rfl)
                    have hOwn := (Below.frozen bl (p := ⟨w.heap.size, 2, none⟩) (by first | exact Nat.le_refl _ | assumption | (simp; done) | (simp; omega) | omega)).trans (by go_simp; rfl)
                    have hOwn := (Below.frozen bl (p := ⟨w.heap.size, 3, none⟩) (by first | exact Nat.le_refl _ | assumption | (simp; done) | (simp; omega) | omega)).trans (by go_simp; rfl)
                    have hOwn := (Below.frozen bl (p := ⟨w.heap.size, 4, none⟩) (by first | exact Nat.le_refl _ | assumption | (simp; done) | (simp; omega) | omega)).trans (by go_simp; rfl)
                    by_cases h4 : p < ni ∧ u ≤ 2000
                    · obtain ⟨h4, h5⟩ := h4
                      have h1' : p < its.length := by rw [← HNI.out]; exact h4
                      obtain ⟨b1, o1, X3, x3, X4, x4, e1, hb1, y0, y1, y2, y3, y4, ty⟩ := (RT.out.below blw).cells h1'
                      have I2 := Lib.hid (fun W a => IH.out p h1' W X3 X4 x3 x4 (by omega) a)
                      have he := HE.out
                      have q5 : (u : Int) ≤ 2000 := by omega
                      have HE2 : Hid (∀ n', (n' ≤ 2000 → (its[p]'h1').deep + (D + 1) ≤ 61) → ∀ j (h : j < its.length), j < p + 1 → u + n' ≤ 2000 → (its[j]'h).deep + D + 1 ≤ 61) := fun n' hn j h hj hs => by
                        rcases Nat.lt_or_ge j p with g | g
                        · exact he j h g (by omega)
                        · obtain rfl : j = p := by omega
                          have := hn (by omega); omega
                      have HU2 : Hid (∀ n', (n' ≤ 2000 → (its[p]'h1').wt = n') → u + n' ≤ 2000 → u + n' = 1 + s.size + kwt ks + JW (p + 1)) := fun n' hn hs => by
                        have := HU.out h5; have := WT'.out p h1'; have := hn (by omega); omega
                      clear HU
                      generalize its[p]'h1' = T' at *
                      subst e1
                      have TY := Lib.hid (ty.more gsz2)
                      clear ty h1' he
                      go_wp2_with fail
                      with_reducible refine (I2.out _ TY.out).mono ?_
                      rintro e w3 ⟨n', rfl, hn1, hn2, b3⟩
                      have HN2 := Lib.hid (HE2.out n' (fun h => (hn2 h).1))
                      have HN3 := Lib.hid (HU2.out n' (fun h => (hn2 h).2))
                      clear hn2
                      go_wp2_with fail
                      go_roundw
                      case rel => exact ⟨p + 1, u + n', by omega, by omega, by go_num, by push_cast; rfl, HN2, HN3, bl.trans (b3.mono gsz)⟩
                      case measure => simp [intOf]; omega
                    · have h5 : ¬ (p : Int) < (ni : Int) ∨ (p : Int) < (ni : Int) ∧ ¬ (u : Int) ≤ 2000 := by omega
                      have fin : u ≤ 2000 → T.deep + D ≤ 61 ∧ T.wt = u := fun hu2 => by
                        have e := HU.out hu2
                        have wt := WT0.out
                        have pe : p = ni := by omega
                        have wa := WA'.out
                        rw [pe] at e
                        refine ⟨?_, by omega⟩
                        have := DB.out (61 - D) (by omega) (fun i g => by have := HE.out i g (by rw [← HNI.out] at g; omega) hu2; omega)
                        omega
                      have FIN := Lib.hid fin
                      clear fin h4 HE HU
                      rcases h5 with h5 | ⟨h5, h6⟩
                      all_goals
                        go_wp2_with fail
                        go_ret
                        exact bul_ret (n := u) (by rfl) hu FIN.out (by (repeat' (first | with_reducible assumption | with_reducible exact Below.refl _ _ | (with_reducible refine Below.alloc ?_ ?_ _; rotate_left; focus ((first | exact Nat.le_refl _ | (simp; done) | (simp; omega) | omega | fail))) | (with_reducible refine Below.setCell ?_ ?_ _; rotate_left; focus ((first | exact Nat.le_refl _ | (simp; done) | (simp; omega) | omega | fail))) | with_reducible refine Mem.bel_drewN ?_ _ | with_reducible refine Below.drew ?_ | (with_reducible refine Mem.bel_call (by with_reducible assumption) ?_ ?_; focus ((first | exact Nat.le_refl _ | (simp; done) | (simp; omega) | omega | fail))) | fail)))
theorem bulk_any (t : J) (D : Nat) (w : World) (A3 A4 : Option Addr) (c3 c4 : Nat) (hD : D ≤ 61) (ht : TreeC w w.heap.size t [.int .i64 t.k, .int .i64 t.n, .string t.t, .slice A3 t.its.length c3, .slice A4 t.ks.length c4]) :
    Calls Tryd.prog 29 #[.agg #[.int .i64 t.k, .int .i64 t.n, .string t.t, .slice A3 t.its.length c3, .slice A4 t.ks.length c4], .int .i64 2000, .int .i64 (D : Int)] w (Bul t D w) := bulk_at _ t (Nat.le_refl _) D w A3 A4 c3 c4 hD ht
end Go.Proofs.YtnfhikgfcdcpoaaDoor
/- Layer 7, the document's own answers: what is too great. -/
namespace Go.Proofs.YtnfhikgfcdcpoaaDoor
open Go.ChangeShapes Go.WideShapes Go.ChangeAt Go.RowKit Mem

end Go.Proofs.YtnfhikgfcdcpoaaDoor
