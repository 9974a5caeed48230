/- Joined by tools/bundle.py: JRB25 SBulk VEx NamR R11C. -/
import Derived.Deep.LoopGhost
import Derived.Deep.RegionHeldLaw
import Derived.BigQuiet
import Derived.Test.YtlpmcohbbffbfaaDoorQ1
import Derived.Test.YtlpmcohbbffbfaaDoorQ3
import Derived.Test.YtlpmcohbbffbfaaDoorQ4
import Derived.Test.YtlpmcohbbffbfaaDoorQ5
namespace Go.Proofs.YtlpmcohbbffbfaaDoor
open Go.ChangeShapes Go.WideShapes Go.ChangeAt Go.RowKit Mem
def Bul25 (t : J) (D : Nat) (w : World) (e : Ending) (w' : World) : Prop := ∃ n : Nat, e = .returned (.int .i64 (n : Int)) ∧ n ≤ 5001 + 2500 * (61 - D) ∧ (n ≤ 2500 → t.deep + D ≤ 61 ∧ t.wt = n) ∧ Below w.heap.size w w'
theorem bul25_ret {t : J} {D n : Nat} {z : Int} {w w' : World} (hz : z = (n : Int)) (h : n ≤ 5001 + 2500 * (61 - D)) (hd : n ≤ 2500 → t.deep + D ≤ 61 ∧ t.wt = n) (hb : Below w.heap.size w w') : Bul25 t D w (.returned (.int .i64 z)) w' := by subst hz; exact ⟨n, rfl, h, hd, hb⟩
set_option maxRecDepth 100000 in
set_option maxHeartbeats 8000000 in
theorem bulk25_at : ∀ (N : Nat) (t : J), SizeOf.sizeOf t ≤ N → ∀ (D : Nat) (w : World) (A3 A4 : Option Addr) (c3 c4 : Nat), D ≤ 61 →
    TreeC w w.heap.size t [.int .i64 t.k, .int .i64 t.n, .string t.t, .slice A3 t.its.length c3, .slice A4 t.ks.length c4] →
    Calls Tryd.prog 38 #[.agg #[.int .i64 t.k, .int .i64 t.n, .string t.t, .slice A3 t.its.length c3, .slice A4 t.ks.length c4], .int .i64 2500, .int .i64 (D : Int)] w (Bul25 t D w)
  | 0, t, h => by cases t; simp at h
  | N + 1, .mk k n s its ks, hN => by
    intro D w A3 A4 c3 c4 hD ht
    have CS := cell_set
    obtain ⟨_, _, _, _, e, hc3, hc4, rt, ft⟩ := ht.out
    simp only [J.k, J.n, J.t, J.its, J.ks, List.cons.injEq, Value.slice.injEq, true_and, and_true] at e hc3 hc4 rt ft
    obtain ⟨⟨rfl, rfl⟩, rfl, rfl⟩ := e
    have db : ∀ M, 1 ≤ M → (∀ i (g : i < its.length), (its[i]'g).deep + 1 ≤ M) → (J.mk k n s its ks).deep ≤ M := fun M hM h => J.deep_bound (j := .mk k n s its ks) hM h
    have wt : (J.mk k n s its ks).wt = 1 + s.size + kwt ks + J.wts its := by unfold J.wt; rfl
    have KT := Lib.hid (fun i (h : i < ks.length) => kwt_take h)
    have WT := Lib.hid (fun i (h : i < its.length) => J.wts_take h)
    have KA : Hid (kwt (ks.take ks.length) = kwt ks) := by show _ = _; rw [List.take_length]
    have WA : Hid (J.wts (its.take its.length) = J.wts its) := by show _ = _; rw [List.take_length]
    obtain ⟨KW, hKW⟩ : ∃ f : Nat → Nat, f = fun i => kwt (ks.take i) := ⟨_, rfl⟩
    obtain ⟨JW, hJW⟩ : ∃ f : Nat → Nat, f = fun i => J.wts (its.take i) := ⟨_, rfl⟩
    have KT' : Hid (∀ i (h : i < ks.length), KW (i + 1) = KW i + 1 + (ks[i]'h).size) := fun i h => by rw [hKW]; exact KT.out i h
    have WT' : Hid (∀ i (h : i < its.length), JW (i + 1) = JW i + (its[i]'h).wt) := fun i h => by rw [hJW]; exact WT.out i h
    have K0 : Hid (KW 0 = 0) := by show _ = _; rw [hKW]; rfl
    have J0 : Hid (JW 0 = 0) := by show _ = _; rw [hJW]; rfl
    have KA' : Hid (KW ks.length = kwt ks) := by show _ = _; rw [hKW]; exact KA.out
    have WA' : Hid (JW its.length = J.wts its) := by show _ = _; rw [hJW]; exact WA.out
    clear KT WT KA WA hKW hJW
    obtain ⟨T, hT⟩ : ∃ T, T = J.mk k n s its ks := ⟨_, rfl⟩
    rw [← hT] at wt
    have WT0 := Lib.hid wt
    clear wt
    simp only [J.k, J.n, J.t, J.its, J.ks]
    rw [← hT] at db ⊢
    have IH : Hid (∀ (i : Nat) (h1 : i < its.length) (W : World) (A3 A4 : Option Addr) (c3 c4 : Nat), D + 1 ≤ 61 →
        TreeC W W.heap.size (its[i]'h1) [.int .i64 (its[i]'h1).k, .int .i64 (its[i]'h1).n, .string (its[i]'h1).t, .slice A3 (its[i]'h1).its.length c3, .slice A4 (its[i]'h1).ks.length c4] →
        Calls Tryd.prog 38 #[.agg #[.int .i64 (its[i]'h1).k, .int .i64 (its[i]'h1).n, .string (its[i]'h1).t, .slice A3 (its[i]'h1).its.length c3, .slice A4 (its[i]'h1).ks.length c4], .int .i64 2500, .int .i64 ((D : Int) + 1)] W (Bul25 (its[i]'h1) (D + 1) W)) := fun i h1 W A3 A4 c3 c4 hd a =>
      bulk25_at N (its[i]'h1) (by have := J.lt_its (j := .mk k n s its ks) (i := i) h1; simp only [J.its] at this; omega) (D + 1) W A3 A4 c3 c4 hd a
    have RT := Lib.hid rt; have FT := Lib.hid ft; have DB := Lib.hid db
    have hb4 := hc4.2
    have hb3 := hc3.2
    unfold maxLen at hb4 hb3
    obtain ⟨ni, hni⟩ : ∃ m, m = its.length := ⟨_, rfl⟩
    obtain ⟨nk, hnk⟩ : ∃ m, m = ks.length := ⟨_, rfl⟩
    have HNI := Lib.hid hni; have HNK := Lib.hid hnk
    rw [← hni] at hb3 ⊢
    rw [← hnk] at hb4 ⊢
    clear ht rt ft hN db hc3 hc4 hni hnk hT
    rw [← HNI.out] at WA'
    rw [← HNK.out] at KA'
    by_cases g1 : (60 : Int) < (D : Int)
    · go_enter Tryd.func38, Tryd.ntmps38
      go_wp2_with fail
      go_ret
      exact bul25_ret (n := 2501) (by rfl) (by omega) (fun h => by omega) (by (repeat' (first | with_reducible assumption | with_reducible exact Below.refl _ _ | (with_reducible refine Below.alloc ?_ ?_ _; rotate_left; focus ((first | exact Nat.le_refl _ | (simp; done) | (simp; omega) | omega | fail))) | (with_reducible refine Below.setCell ?_ ?_ _; rotate_left; focus ((first | exact Nat.le_refl _ | (simp; done) | (simp; omega) | omega | fail))) | with_reducible refine Mem.bel_drewN ?_ _ | with_reducible refine Below.drew ?_ | (with_reducible refine Mem.bel_call (by with_reducible assumption) ?_ ?_; focus ((first | exact Nat.le_refl _ | (simp; done) | (simp; omega) | omega | fail))) | fail)))
    · by_cases g2 : (2500 : Int) < (s.size : Int)
      · go_enter Tryd.func38, Tryd.ntmps38
        go_wp2_with fail
        go_ret
        exact bul25_ret (n := 2501) (by rfl) (by omega) (fun h => by omega) (by (repeat' (first | with_reducible assumption | with_reducible exact Below.refl _ _ | (with_reducible refine Below.alloc ?_ ?_ _; rotate_left; focus ((first | exact Nat.le_refl _ | (simp; done) | (simp; omega) | omega | fail))) | (with_reducible refine Below.setCell ?_ ?_ _; rotate_left; focus ((first | exact Nat.le_refl _ | (simp; done) | (simp; omega) | omega | fail))) | with_reducible refine Mem.bel_drewN ?_ _ | with_reducible refine Below.drew ?_ | (with_reducible refine Mem.bel_call (by with_reducible assumption) ?_ ?_; focus ((first | exact Nat.le_refl _ | (simp; done) | (simp; omega) | omega | fail))) | fail)))
      · by_cases g3 : (2500 : Int) < (nk : Int)
        · go_enter Tryd.func38, Tryd.ntmps38
          go_wp2_with fail
          go_ret
          exact bul25_ret (n := 2501) (by rfl) (by omega) (fun h => by omega) (by (repeat' (first | with_reducible assumption | with_reducible exact Below.refl _ _ | (with_reducible refine Below.alloc ?_ ?_ _; rotate_left; focus ((first | exact Nat.le_refl _ | (simp; done) | (simp; omega) | omega | fail))) | (with_reducible refine Below.setCell ?_ ?_ _; rotate_left; focus ((first | exact Nat.le_refl _ | (simp; done) | (simp; omega) | omega | fail))) | with_reducible refine Mem.bel_drewN ?_ _ | with_reducible refine Below.drew ?_ | (with_reducible refine Mem.bel_call (by with_reducible assumption) ?_ ?_; focus ((first | exact Nat.le_refl _ | (simp; done) | (simp; omega) | omega | fail))) | fail)))
        · by_cases g4 : (2500 : Int) < (ni : Int)
          · go_enter Tryd.func38, Tryd.ntmps38
            go_wp2_with fail
            go_ret
            exact bul25_ret (n := 2501) (by rfl) (by omega) (fun h => by omega) (by (repeat' (first | with_reducible assumption | with_reducible exact Below.refl _ _ | (with_reducible refine Below.alloc ?_ ?_ _; rotate_left; focus ((first | exact Nat.le_refl _ | (simp; done) | (simp; omega) | omega | fail))) | (with_reducible refine Below.setCell ?_ ?_ _; rotate_left; focus ((first | exact Nat.le_refl _ | (simp; done) | (simp; omega) | omega | fail))) | with_reducible refine Mem.bel_drewN ?_ _ | with_reducible refine Below.drew ?_ | (with_reducible refine Mem.bel_call (by with_reducible assumption) ?_ ?_; focus ((first | exact Nat.le_refl _ | (simp; done) | (simp; omega) | omega | fail))) | fail)))
          · have hD2 : D ≤ 60 := by omega
            have G0 : Below w.heap.size w (w.alloc (.cells #[.int .i64 k, .int .i64 n, .string s, .slice A3 ni c3, .slice A4 nk c4] 60)) := (Below.refl _ _).alloc (Nat.le_refl _) _
            have gz0 : (w.alloc (.cells #[.int .i64 k, .int .i64 n, .string s, .slice A3 ni c3, .slice A4 nk c4] 60)).heap.size = w.heap.size + 1 := by simp
            have GZ0 := Lib.hid gz0
            clear gz0
            go_enter Tryd.func38, Tryd.ntmps38
            go_wp2_with fail
            go_loopw [7, 8] (fun m t wr => ∃ i v : Nat, i ≤ nk ∧ v ≤ 5001 ∧ Hid (v = 1 + s.size + KW i) ∧ t = .int .i64 (i : Int) ∧ m = .int .i64 (v : Int) ∧ wr = (w.alloc (.cells #[.int .i64 k, .int .i64 n, .string s, .slice A3 ni c3, .slice A4 nk c4] 60))) (fun _ t _ => nk - (intOf t).toNat)
            case atStart => exact ⟨0, 1 + s.size, Nat.zero_le _, by omega, (by show _ = _; rw [K0.out, Nat.add_zero]), rfl, by push_cast; rfl, by first | rfl | trivial⟩
            case round =>
              obtain ⟨i, v, hik, hv, HVV, rfl, rfl, rfl⟩ := hrel
              by_cases h1 : i < nk ∧ v ≤ 2500
              · obtain ⟨h1, h2⟩ := h1
                have h1' : i < ks.length := by rw [← HNK.out]; exact h1
                obtain ⟨b8, o8, e8, hb8, z0⟩ := fl_str FT.out h1'
                have q2 : (v : Int) ≤ 2500 := by omega
                have HV2 : Hid (v + 1 + (ks[i]'h1').size = 1 + s.size + KW (i + 1)) := by
                  show _ = _
                  have := HVV.out; have := KT'.out i h1'; omega
                clear HVV
                generalize ks[i]'h1' = Y at *
                subst e8
                have lb8 : b8 < w.heap.size := hb8
                by_cases hy : (2500 : Int) < (Y.size : Int)
                · go_wp2_with fail
                  go_ret
                  exact bul25_ret (n := 2501) (by rfl) (by omega) (fun h => by omega) (by (repeat' (first | with_reducible assumption | with_reducible exact Below.refl _ _ | (with_reducible refine Below.alloc ?_ ?_ _; rotate_left; focus ((first | exact Nat.le_refl _ | (simp; done) | (simp; omega) | omega | fail))) | (with_reducible refine Below.setCell ?_ ?_ _; rotate_left; focus ((first | exact Nat.le_refl _ | (simp; done) | (simp; omega) | omega | fail))) | with_reducible refine Mem.bel_drewN ?_ _ | with_reducible refine Below.drew ?_ | (with_reducible refine Mem.bel_call (by with_reducible assumption) ?_ ?_; focus ((first | exact Nat.le_refl _ | (simp; done) | (simp; omega) | omega | fail))) | fail)))
                · go_wp2_with fail
                  go_roundw
                  case rel => exact ⟨i + 1, v + 1 + Y.size, by omega, by omega, HV2, by go_num, by push_cast; rfl, by first | rfl | trivial⟩
                  case measure => simp [intOf]; omega
              · have h2 : ¬ (i : Int) < (nk : Int) ∨ (i : Int) < (nk : Int) ∧ ¬ (v : Int) ≤ 2500 := by omega
                have HV3 : Hid (v ≤ 2500 → v = 1 + s.size + kwt ks) := fun hv2 => by
                  have e : i = nk := by omega
                  have := HVV.out; have := KA'.out
                  rw [e] at *; omega
                clear h1 HVV
                rcases h2 with h2 | ⟨h2, h3⟩
                all_goals
                  go_wp2_with fail
                  go_loopw [7, 9] (fun m t wr => ∃ p u : Nat, p ≤ ni ∧ u ≤ 5001 + 2500 * (61 - D) ∧ t = .int .i64 (p : Int) ∧ m = .int .i64 (u : Int) ∧ Hid (∀ j (h : j < its.length), j < p → u ≤ 2500 → (its[j]'h).deep + D + 1 ≤ 61) ∧ Hid (u ≤ 2500 → u = 1 + s.size + kwt ks + JW p) ∧ Below (w.heap.size + 1) (w.alloc (.cells #[.int .i64 k, .int .i64 n, .string s, .slice A3 ni c3, .slice A4 nk c4] 60)) wr) (fun _ t _ => ni - (intOf t).toNat)
                  case atStart => exact ⟨0, v, Nat.zero_le _, by omega, rfl, rfl, fun _ _ h => absurd h (Nat.not_lt_zero _), (fun h => by have := HV3.out h; have := J0.out; omega), Below.refl _ _⟩
                  case round =>
                    obtain ⟨p, u, hp, hu, rfl, rfl, HE, HU, bl⟩ := hrel
                    have gsz := bl.size
                    rw [GZ0.out] at gsz
                    have gsz2 : w.heap.size ≤ wr.heap.size := by omega
                    have blw := G0.trans (bl.mono (by omega))
                    have hOwn := Nat.lt_of_lt_of_le (n := w.heap.size) (by first | exact Nat.le_refl _ | assumption | (simp; done) | (simp; omega) | omega) (Below.size bl)
                    have hOwn1 := Nat.ne_of_gt hOwn
                    have hOwn2 := Nat.ne_of_lt hOwn
                    have hOwn := (Below.cell bl (p := ⟨w.heap.size, 0, none⟩) (by first | exact Nat.le_refl _ | assumption | (simp; done) | (simp; omega) | omega)).trans (by go_simp; rfl)
                    have hOwn := (Below.cell bl (p := ⟨w.heap.size, 1, none⟩) (by first | exact Nat.le_refl _ | assumption | (simp; done) | (simp; omega) | omega)).trans (by go_simp; rfl)
                    have hOwn := (Below.cell bl (p := ⟨w.heap.size, 2, none⟩) (by first | exact Nat.le_refl _ | assumption | (simp; done) | (simp; omega) | omega)).trans (by go_simp; rfl)
                    have hOwn := (Below.cell bl (p := ⟨w.heap.size, 3, none⟩) (by first | exact Nat.le_refl _ | assumption | (simp; done) | (simp; omega) | omega)).trans (by go_simp; rfl)
                    have hOwn := (Below.cell bl (p := ⟨w.heap.size, 4, none⟩) (by first | exact Nat.le_refl _ | assumption | (simp; done) | (simp; omega) | omega)).trans (by go_simp; rfl)
                    have hOwn := (Below.frozen bl (p := ⟨w.heap.size, 0, none⟩) (by first | exact Nat.le_refl _ | assumption | (simp; done) | (simp; omega) | omega)).trans (by go_simp; rfl)
                    have hOwn := (Below.frozen bl (p := ⟨w.heap.size, 1, none⟩) (by first | exact Nat.le_refl _ | assumption | (simp; done) | (simp; omega) | omega)).trans (by go_simp; rfl)
                    have hOwn := (Below.frozen bl (p := ⟨w.heap.size, 2, none⟩) (by first | exact Nat.le_refl _ | assumption | (simp; done) | (simp; omega) | omega)).trans (by go_simp; rfl)
                    have hOwn := (Below.frozen bl (p := ⟨w.heap.size, 3, none⟩) (by first | exact Nat.le_refl _ | assumption | (simp; done) | (simp; omega) | omega)).trans (by go_simp; rfl)
                    have hOwn := (Below.frozen bl (p := ⟨w.heap.size, 4, none⟩) (by first | exact Nat.le_refl _ | assumption | (simp; done) | (simp; omega) | omega)).trans (by go_simp; rfl)
                    by_cases h4 : p < ni ∧ u ≤ 2500
                    · obtain ⟨h4, h5⟩ := h4
                      have h1' : p < its.length := by rw [← HNI.out]; exact h4
                      obtain ⟨b1, o1, X3, x3, X4, x4, e1, hb1, y0, y1, y2, y3, y4, ty⟩ := (RT.out.below blw).cells h1'
                      have I2 := Lib.hid (fun W a => IH.out p h1' W X3 X4 x3 x4 (by omega) a)
                      have he := HE.out
                      have q5 : (u : Int) ≤ 2500 := by omega
                      have HE2 : Hid (∀ n', (n' ≤ 2500 → (its[p]'h1').deep + (D + 1) ≤ 61) → ∀ j (h : j < its.length), j < p + 1 → u + n' ≤ 2500 → (its[j]'h).deep + D + 1 ≤ 61) := fun n' hn j h hj hs => by
                        rcases Nat.lt_or_ge j p with g | g
                        · exact he j h g (by omega)
                        · obtain rfl : j = p := by omega
                          have := hn (by omega); omega
                      have HU2 : Hid (∀ n', (n' ≤ 2500 → (its[p]'h1').wt = n') → u + n' ≤ 2500 → u + n' = 1 + s.size + kwt ks + JW (p + 1)) := fun n' hn hs => by
                        have := HU.out h5; have := WT'.out p h1'; have := hn (by omega); omega
                      clear HU
                      generalize its[p]'h1' = T' at *
                      subst e1
                      have TY := Lib.hid (ty.more gsz2)
                      clear ty h1' he
                      go_wp2_with fail
                      with_reducible refine (I2.out _ TY.out).mono ?_
                      rintro e w3 ⟨n', rfl, hn1, hn2, b3⟩
                      have HN2 := Lib.hid (HE2.out n' (fun h => (hn2 h).1))
                      have HN3 := Lib.hid (HU2.out n' (fun h => (hn2 h).2))
                      clear hn2
                      go_wp2_with fail
                      go_roundw
                      case rel => exact ⟨p + 1, u + n', by omega, by omega, by go_num, by push_cast; rfl, HN2, HN3, bl.trans (b3.mono gsz)⟩
                      case measure => simp [intOf]; omega
                    · have h5 : ¬ (p : Int) < (ni : Int) ∨ (p : Int) < (ni : Int) ∧ ¬ (u : Int) ≤ 2500 := by omega
                      have fin : u ≤ 2500 → T.deep + D ≤ 61 ∧ T.wt = u := fun hu2 => by
                        have e := HU.out hu2
                        have wt := WT0.out
                        have pe : p = ni := by omega
                        have wa := WA'.out
                        rw [pe] at e
                        refine ⟨?_, by omega⟩
                        have := DB.out (61 - D) (by omega) (fun i g => by have := HE.out i g (by rw [← HNI.out] at g; omega) hu2; omega)
                        omega
                      have FIN := Lib.hid fin
                      clear fin h4 HE HU
                      rcases h5 with h5 | ⟨h5, h6⟩
                      all_goals
                        go_wp2_with fail
                        go_ret
                        exact bul25_ret (n := u) (by rfl) hu FIN.out (by (repeat' (first | with_reducible assumption | with_reducible exact Below.refl _ _ | (with_reducible refine Below.alloc ?_ ?_ _; rotate_left; focus ((first | exact Nat.le_refl _ | (simp; done) | (simp; omega) | omega | fail))) | (with_reducible refine Below.setCell ?_ ?_ _; rotate_left; focus ((first | exact Nat.le_refl _ | (simp; done) | (simp; omega) | omega | fail))) | with_reducible refine Mem.bel_drewN ?_ _ | with_reducible refine Below.drew ?_ | (with_reducible refine Mem.bel_call (by with_reducible assumption) ?_ ?_; focus ((first | exact Nat.le_refl _ | (simp; done) | (simp; omega) | omega | fail))) | fail)))
theorem bulk25_any (t : J) (D : Nat) (w : World) (A3 A4 : Option Addr) (c3 c4 : Nat) (hD : D ≤ 61) (ht : TreeC w w.heap.size t [.int .i64 t.k, .int .i64 t.n, .string t.t, .slice A3 t.its.length c3, .slice A4 t.ks.length c4]) :
    Calls Tryd.prog 38 #[.agg #[.int .i64 t.k, .int .i64 t.n, .string t.t, .slice A3 t.its.length c3, .slice A4 t.ks.length c4], .int .i64 2500, .int .i64 (D : Int)] w (Bul25 t D w) := bulk25_at _ t (Nat.le_refl _) D w A3 A4 c3 c4 hD ht
end Go.Proofs.YtlpmcohbbffbfaaDoor
namespace Go.Proofs.YtlpmcohbbffbfaaDoor
open Go.ChangeShapes Go.WideShapes Go.ChangeAt Go.RowKit Mem
def txF : List ByteArray → Nat → Nat
  | [], n => n
  | t :: r, n => if n ≤ 2500 then (if 2500 < t.size then 2501 else txF r (n + t.size)) else n
def tx (l : List ByteArray) : Nat := if 2500 < l.length then 2501 else txF l l.length
theorem txF_le : ∀ (l : List ByteArray) (n : Nat), n ≤ 5000 → txF l n ≤ 5000
  | [], n, h => h
  | t :: r, n, h => by
    unfold txF
    split
    · split
      · omega
      · exact txF_le r _ (by omega)
    · exact h
theorem tx_le (l : List ByteArray) : tx l ≤ 5000 := by
  unfold tx
  split
  · omega
  · exact txF_le _ _ (by omega)
def sizes (l : List ByteArray) : Nat := (l.map fun t => t.size).sum
theorem txF_ge : ∀ (l : List ByteArray) (n : Nat), txF l n ≤ 2500 → txF l n = n + sizes l
  | [], n, h => by simp [txF, sizes]
  | t :: r, n, h => by
    unfold txF at h ⊢
    by_cases h1 : n ≤ 2500
    · rw [if_pos h1] at h ⊢
      by_cases h2 : 2500 < t.size
      · rw [if_pos h2] at h; omega
      · rw [if_neg h2] at h ⊢
        rw [txF_ge r _ h]
        simp [sizes]; omega
    · rw [if_neg h1] at h; omega
theorem kwt_sizes : ∀ (l : List ByteArray), kwt l = l.length + sizes l
  | [] => rfl
  | t :: r => by
    unfold kwt
    rw [kwt_sizes r]
    simp [sizes]; omega
theorem tx_ge {l : List ByteArray} (h : tx l ≤ 2500) : kwt l = tx l := by
  unfold tx at h ⊢
  by_cases h1 : 2500 < l.length
  · rw [if_pos h1] at h; omega
  · rw [if_neg h1] at h ⊢
    rw [txF_ge _ _ h, kwt_sizes]
set_option maxRecDepth 100000 in
set_option maxHeartbeats 2000000 in
theorem rtexts10_any (A : Option Addr) (c : Nat) (ks : List ByteArray) (w : World) (h : FlS w (· < w.heap.size) A (ks.map Value.string)) (hl : ks.length ≤ maxLen) :
    Calls Tryd.prog 37 #[.slice A ks.length c, .int .i64 2500] w (fun e w' => e = .returned (.int .i64 (tx ks : Nat)) ∧ w = w') := by
  have F := Lib.hid h
  obtain ⟨R, hR⟩ : ∃ R, R = tx ks := ⟨_, rfl⟩
  rw [← hR]
  unfold tx at hR
  have hb : ks.length ≤ 9223372036854775807 := by unfold maxLen at hl; exact hl
  have NX : Hid (∀ i (h : i < ks.length) n, txF (ks.drop i) n = if n ≤ 2500 then (if 2500 < (ks[i]'h).size then 2501 else txF (ks.drop (i + 1)) (n + (ks[i]'h).size)) else n) := fun i h n => by
    rw [List.drop_eq_getElem_cons h, txF]
  obtain ⟨nk, hnk⟩ : ∃ m, m = ks.length := ⟨_, rfl⟩
  have HNK := Lib.hid hnk
  rw [← hnk] at hR hb ⊢
  clear h hl
  by_cases h1 : 2500 < nk
  · have q : (2500 : Int) < (nk : Int) := by omega
    rw [if_pos h1] at hR
    have Z := Lib.hid hR
    clear hR hnk
    go_enter Tryd.func37, Tryd.ntmps37
    go_wp2_with fail
    go_ret
    exact ⟨by rw [Z.out]; rfl, rfl⟩
  · have q : ¬ (2500 : Int) < (nk : Int) := by omega
    rw [if_neg h1] at hR
    have Z : Hid (R = txF (ks.drop 0) nk) := hR
    have DN : Hid (ks.drop nk = []) := by show _ = _; rw [hnk, List.drop_length]
    have hk : nk ≤ 2500 := by omega
    clear hR hnk h1
    go_enter Tryd.func37, Tryd.ntmps37
    go_wp2_with fail
    go_loopw [5, 6] (fun m t wr => ∃ i n : Nat, i ≤ nk ∧ n ≤ 5000 ∧ t = .int .i64 (i : Int) ∧ m = .int .i64 (n : Int) ∧ Hid (R = txF (ks.drop i) n) ∧ wr = w) (fun _ t _ => nk - (intOf t).toNat)
    case atStart => exact ⟨0, nk, Nat.zero_le _, by omega, rfl, rfl, Z.out, rfl⟩
    case round =>
      obtain ⟨i, n, hi, hn, rfl, rfl, HE, rfl⟩ := hrel
      by_cases hik : i < nk
      · have h1 : i < ks.length := by rw [← HNK.out]; exact hik
        obtain ⟨b8, o8, e8, hb8, z0⟩ := fl_str F.out h1
        have nx := HE.out.trans (NX.out i h1 n)
        generalize ks[i]'h1 = Y at *
        subst e8
        clear h1
        by_cases hn2 : n ≤ 2500
        · have qn : (n : Int) ≤ 2500 := by omega
          rw [if_pos hn2] at nx
          by_cases hy : 2500 < Y.size
          · rw [if_pos hy] at nx
            have qy : (2500 : Int) < (Y.size : Int) := by omega
            have Z2 := Lib.hid nx
            clear nx HE
            go_wp2_with fail
            go_ret
            exact ⟨by rw [Z2.out]; rfl, by first | rfl | trivial⟩
          · rw [if_neg hy] at nx
            have qy : ¬ (2500 : Int) < (Y.size : Int) := by omega
            have Z2 := Lib.hid nx
            clear nx HE
            go_wp2_with fail
            go_roundw
            case rel => exact ⟨i + 1, n + Y.size, by omega, by omega, by go_num, by push_cast; rfl, Z2, by first | rfl | trivial⟩
            case measure => simp [intOf]; omega
        · have qn : ¬ (n : Int) ≤ 2500 := by omega
          rw [if_neg hn2] at nx
          have Z2 := Lib.hid nx
          clear nx HE
          go_wp2_with fail
          go_ret
          exact ⟨by rw [Z2.out]; rfl, by first | rfl | trivial⟩
      · obtain rfl : i = nk := by omega
        have he := HE.out
        rw [DN.out] at he
        unfold txF at he
        have Z2 := Lib.hid he
        clear he HE hik
        go_wp2_with fail
        go_ret
        exact ⟨by rw [Z2.out]; rfl, by first | rfl | trivial⟩
def Fd.sm (f : Fd) : Prop := f.name.size ≤ 2500 ∧ kwt f.al ≤ 2500 ∧ f.df.wt ≤ 2500 ∧ f.df.deep ≤ 61
def AllF (l : List Fd) (n : Nat) : Prop := ∀ i (h : i < l.length), i < n → (l[i]'h).sm
def Nd.sm (n : Nd) : Prop := n.name.size ≤ 2500 ∧ n.fs.length ≤ 2500 ∧ n.br.length ≤ 2500 ∧ n.df.size ≤ 2500 ∧ kwt n.al ≤ 2500 ∧ kwt n.sy ≤ 2500 ∧ ∀ i (h : i < n.fs.length), (n.fs[i]'h).sm
def Sc.sm (s : Sc) : Prop := s.nodes.length ≤ 2500 ∧ ∀ i (h : i < s.nodes.length), (s.nodes[i]'h).sm
def BulS (s : Sc) (w : World) (e : Ending) (w' : World) : Prop := ∃ n : Nat, e = .returned (.int .i64 (n : Int)) ∧ (n ≤ 2500 → s.sm) ∧ Below w.heap.size w w'
theorem wrap_in {z : Int} (h1 : -9223372036854775808 ≤ z) (h2 : z ≤ 9223372036854775807) : IntKind.i64.wrap z = z := by rw [IntKind.wrap_i64]; omega
theorem wrap3 (a b c d : Nat) (h : a + b + c + d ≤ 1000000) : Value.int .i64 (IntKind.i64.wrap (IntKind.i64.wrap (IntKind.i64.wrap ((a : Int) + (b : Int)) + (c : Int)) + (d : Int))) = Value.int .i64 (((a + b + c + d : Nat)) : Int) := by
  rw [wrap_in (z := (a : Int) + (b : Int)) (by omega) (by omega), wrap_in (z := (a : Int) + (b : Int) + (c : Int)) (by omega) (by omega), wrap_in (by omega) (by omega)]
  push_cast; rfl
theorem buls_ret {s : Sc} {n : Nat} {z : Int} {w w' : World} (hz : z = (n : Int)) (h : n ≤ 2500 → s.sm) (hb : Below w.heap.size w w') : BulS s w (.returned (.int .i64 z)) w' := by subst hz; exact ⟨n, rfl, h, hb⟩
set_option maxRecDepth 100000 in
set_option maxHeartbeats 8000000 in
theorem sbulk_any (sc : Sc) (w : World) (A : Option Addr) (c : Nat) (hs : Lies w (· < w.heap.size) sc.enc [.slice A sc.nodes.length c, .int .i64 sc.root]) :
    Calls Tryd.prog 26 #[.agg #[.slice A sc.nodes.length c, .int .i64 sc.root], .int .i64 2500] w (BulS sc w) := by
  have CS := cell_set
  obtain ⟨_, _, e, hl, rd⟩ := Sc.out.1 hs
  simp only [List.cons.injEq, Value.slice.injEq, true_and, and_true] at e
  obtain ⟨rfl, rfl⟩ := e
  have hb := hl.2
  unfold maxLen at hb
  obtain ⟨nn, hnn⟩ : ∃ m, m = sc.nodes.length := ⟨_, rfl⟩
  have HNN := Lib.hid hnn
  rw [← hnn] at hb ⊢
  have RD := Lib.hid rd
  clear hs rd hl hnn
  generalize sc.root = rt at *
  have W1 : Below w.heap.size w (w.alloc (.cells #[.slice A nn c, .int .i64 rt] 35)) := (Below.refl _ _).alloc (Nat.le_refl _) _
  have gz1 : (w.alloc (.cells #[.slice A nn c, .int .i64 rt] 35)).heap.size = w.heap.size + 1 := by simp
  have GZ1 := Lib.hid gz1
  clear gz1
  by_cases h0 : 2500 < nn
  · have q0 : (2500 : Int) < (nn : Int) := by omega
    go_enter Tryd.func26, Tryd.ntmps26
    go_wp2_with fail
    go_ret
    exact buls_ret (n := 2501) (by rfl) (fun h => by omega) W1
  · have q0 : ¬ (2500 : Int) < (nn : Int) := by omega
    have n0 : nn ≤ 2500 := by omega
    go_enter Tryd.func26, Tryd.ntmps26
    go_wp2_with fail
    go_loopw [5, 6] (fun m t wr => ∃ i n : Nat, i ≤ nn ∧ n ≤ 200000 ∧ t = .int .i64 (i : Int) ∧ m = .int .i64 (n : Int) ∧ Hid (n ≤ 2500 → ∀ m (h : m < sc.nodes.length), m < i → (sc.nodes[m]'h).sm) ∧ Below (w.heap.size + 1) (w.alloc (.cells #[.slice A nn c, .int .i64 rt] 35)) wr) (fun _ t _ => nn - (intOf t).toNat)
    case atStart => exact ⟨0, nn, Nat.zero_le _, by omega, rfl, rfl, fun _ _ _ h => absurd h (Nat.not_lt_zero _), Below.refl _ _⟩
    case round =>
      obtain ⟨i, n, hi, hn, rfl, rfl, HE, bl⟩ := hrel
      obtain ⟨wo, hwo⟩ : ∃ x, x = wr := ⟨_, rfl⟩
      subst hwo
      have gsz := bl.size
      rw [GZ1.out] at gsz
      have gsz2 : w.heap.size ≤ wo.heap.size := by omega
      have blw : Below w.heap.size w wo := W1.trans (bl.mono (by omega))
      have hOwn := Nat.lt_of_lt_of_le (n := w.heap.size) (by first | exact Nat.le_refl _ | assumption | (simp; done) | (simp; omega) | omega) (Below.size bl)
      have hOwn1 := Nat.ne_of_gt hOwn
      have hOwn2 := Nat.ne_of_lt hOwn
      have hOwn := (Below.cell bl (p := ⟨w.heap.size, 0, none⟩) (by first | exact Nat.le_refl _ | assumption | (simp; done) | (simp; omega) | omega)).trans (by go_simp; rfl)
      have hOwn := (Below.cell bl (p := ⟨w.heap.size, 1, none⟩) (by first | exact Nat.le_refl _ | assumption | (simp; done) | (simp; omega) | omega)).trans (by go_simp; rfl)
      have hOwn := (Below.frozen bl (p := ⟨w.heap.size, 0, none⟩) (by first | exact Nat.le_refl _ | assumption | (simp; done) | (simp; omega) | omega)).trans (by go_simp; rfl)
      have hOwn := (Below.frozen bl (p := ⟨w.heap.size, 1, none⟩) (by first | exact Nat.le_refl _ | assumption | (simp; done) | (simp; omega) | omega)).trans (by go_simp; rfl)
      by_cases hin : i < nn ∧ n ≤ 2500
      · obtain ⟨hin, hn2⟩ := hin
        have h1 : i < sc.nodes.length := by rw [← HNN.out]; exact hin
        have qn : (n : Int) ≤ 2500 := by omega
        obtain ⟨b1, o1, A2, c2, A3, c3, A4, c4, A9, c9, e1, hb1, ⟨y0, y1, y2, y3, y4, y5, y6, y7, y8, y9⟩, ly⟩ := nodes_at (RD.out.below blw) h1
        obtain ⟨_, _, _, _, _, _, _, _, e, l2, f2, l3, r3, l4, f4, l9, r9⟩ := Nd.out.1 ly
        simp only [List.cons.injEq, Value.slice.injEq, true_and, and_true] at e
        obtain ⟨⟨rfl, rfl⟩, ⟨rfl, rfl⟩, ⟨rfl, rfl⟩, rfl, rfl⟩ := e
        have HX : Hid (∀ n', n' ≤ 2500 → n ≤ n' → (n' ≤ 2500 → (sc.nodes[i]'h1).sm) → ∀ m (h : m < sc.nodes.length), m < i + 1 → (sc.nodes[m]'h).sm) := fun n' h2 h3 h4 m h hm => by
          rcases Nat.lt_or_ge m i with g | g
          · exact HE.out (by omega) m h g
          · obtain rfl : m = i := by omega
            exact h4 h2
        have HA : Hid (n ≤ 2500 → (∀ m (h : m < sc.nodes.length), m < nn → (sc.nodes[m]'h).sm) → sc.sm) := fun _ h => ⟨by rw [← HNN.out]; exact n0, fun m hm => h m hm (by rw [HNN.out]; exact hm)⟩
        clear HA
        generalize sc.nodes[i]'h1 = T at *
        subst e1
        have lb1 : b1 < w.heap.size := hb1
        have t2 := Lib.hid (fun W (b : Below w.heap.size wo W) => rtexts10_any A2 c2 T.al W ((f2.keep (Below.keeps b) (fun _ h => h)).keep (fun _ _ => rfl) fun _ h => Nat.lt_of_lt_of_le h (Nat.le_trans gsz2 b.size)) l2.2)
        have t4 := Lib.hid (fun W (b : Below w.heap.size wo W) => rtexts10_any A4 c4 T.sy W ((f4.keep (Below.keeps b) (fun _ h => h)).keep (fun _ _ => rfl) fun _ h => Nat.lt_of_lt_of_le h (Nat.le_trans gsz2 b.size)) l4.2)
        have R3 := Lib.hid r3
        have x2 := tx_le T.al
        have x4 := tx_le T.sy
        have k2 := Lib.hid (@tx_ge T.al)
        have k4 := Lib.hid (@tx_ge T.sy)
        have b3 := l3.2; have b9 := l9.2
        unfold maxLen at b3 b9
        have SMT : Hid (T.name.size ≤ 2500 → T.fs.length ≤ 2500 → T.br.length ≤ 2500 → T.df.size ≤ 2500 → kwt T.al ≤ 2500 → kwt T.sy ≤ 2500 → AllF T.fs T.fs.length → T.sm) := fun a b c d e f g => ⟨a, b, c, d, e, f, fun i h => g i h h⟩
        obtain ⟨X2, hX2⟩ : ∃ x, x = tx T.al := ⟨_, rfl⟩
        obtain ⟨X4, hX4⟩ : ∃ x, x = tx T.sy := ⟨_, rfl⟩
        rw [← hX2] at x2 t2 k2
        rw [← hX4] at x4 t4 k4
        obtain ⟨nf, hnf⟩ : ∃ m, m = T.fs.length := ⟨_, rfl⟩
        have HNF := Lib.hid hnf
        rw [← hnf] at b3 SMT y3
        clear ly f2 f4 l2 l3 l4 l9 r9 r3 h1 hX2 hX4 hnf
        by_cases g1 : 2500 < T.name.size
        · have q1 : (2500 : Int) < (T.name.size : Int) := by omega
          go_wp2_with fail
          go_ret
          exact buls_ret (n := 2501) (by rfl) (fun h => by omega) (by (repeat' (first | with_reducible assumption | with_reducible exact Below.refl _ _ | (with_reducible refine Below.alloc ?_ ?_ _; rotate_left; focus ((first | exact Nat.le_refl _ | (simp; done) | (simp; omega) | omega | fail))) | (with_reducible refine Below.setCell ?_ ?_ _; rotate_left; focus ((first | exact Nat.le_refl _ | (simp; done) | (simp; omega) | omega | fail))) | with_reducible refine Mem.bel_drewN ?_ _ | with_reducible refine Below.drew ?_ | (with_reducible refine Mem.bel_call (by with_reducible assumption) ?_ ?_; focus ((first | exact Nat.le_refl _ | (simp; done) | (simp; omega) | omega | fail))) | fail)))
        · have q1 : ¬ (2500 : Int) < (T.name.size : Int) := by omega
          by_cases g2 : 2500 < nf
          · have q2 : (2500 : Int) < (nf : Int) := by omega
            go_wp2_with fail
            go_ret
            exact buls_ret (n := 2501) (by rfl) (fun h => by omega) (by (repeat' (first | with_reducible assumption | with_reducible exact Below.refl _ _ | (with_reducible refine Below.alloc ?_ ?_ _; rotate_left; focus ((first | exact Nat.le_refl _ | (simp; done) | (simp; omega) | omega | fail))) | (with_reducible refine Below.setCell ?_ ?_ _; rotate_left; focus ((first | exact Nat.le_refl _ | (simp; done) | (simp; omega) | omega | fail))) | with_reducible refine Mem.bel_drewN ?_ _ | with_reducible refine Below.drew ?_ | (with_reducible refine Mem.bel_call (by with_reducible assumption) ?_ ?_; focus ((first | exact Nat.le_refl _ | (simp; done) | (simp; omega) | omega | fail))) | fail)))
          · have q2 : ¬ (2500 : Int) < (nf : Int) := by omega
            by_cases g3 : 2500 < T.br.length
            · have q3 : (2500 : Int) < (T.br.length : Int) := by omega
              go_wp2_with fail
              go_ret
              exact buls_ret (n := 2501) (by rfl) (fun h => by omega) (by (repeat' (first | with_reducible assumption | with_reducible exact Below.refl _ _ | (with_reducible refine Below.alloc ?_ ?_ _; rotate_left; focus ((first | exact Nat.le_refl _ | (simp; done) | (simp; omega) | omega | fail))) | (with_reducible refine Below.setCell ?_ ?_ _; rotate_left; focus ((first | exact Nat.le_refl _ | (simp; done) | (simp; omega) | omega | fail))) | with_reducible refine Mem.bel_drewN ?_ _ | with_reducible refine Below.drew ?_ | (with_reducible refine Mem.bel_call (by with_reducible assumption) ?_ ?_; focus ((first | exact Nat.le_refl _ | (simp; done) | (simp; omega) | omega | fail))) | fail)))
            · have q3 : ¬ (2500 : Int) < (T.br.length : Int) := by omega
              by_cases g4 : 2500 < T.df.size
              · have q4 : (2500 : Int) < (T.df.size : Int) := by omega
                go_wp2_with fail
                go_ret
                exact buls_ret (n := 2501) (by rfl) (fun h => by omega) (by (repeat' (first | with_reducible assumption | with_reducible exact Below.refl _ _ | (with_reducible refine Below.alloc ?_ ?_ _; rotate_left; focus ((first | exact Nat.le_refl _ | (simp; done) | (simp; omega) | omega | fail))) | (with_reducible refine Below.setCell ?_ ?_ _; rotate_left; focus ((first | exact Nat.le_refl _ | (simp; done) | (simp; omega) | omega | fail))) | with_reducible refine Mem.bel_drewN ?_ _ | with_reducible refine Below.drew ?_ | (with_reducible refine Mem.bel_call (by with_reducible assumption) ?_ ?_; focus ((first | exact Nat.le_refl _ | (simp; done) | (simp; omega) | omega | fail))) | fail)))
              · have q4 : ¬ (2500 : Int) < (T.df.size : Int) := by omega
                obtain ⟨nm, hnm⟩ : ∃ m, m = T.name.size := ⟨_, rfl⟩
                obtain ⟨nb, hnb⟩ : ∃ m, m = T.br.length := ⟨_, rfl⟩
                obtain ⟨nd, hnd⟩ : ∃ m, m = T.df.size := ⟨_, rfl⟩
                have p1 : T.name.size ≤ 2500 := by omega
                have p2 : nf ≤ 2500 := by omega
                have p3 : T.br.length ≤ 2500 := by omega
                have p4 : T.df.size ≤ 2500 := by omega
                have SM2 : Hid (X2 ≤ 2500 → X4 ≤ 2500 → AllF T.fs nf → T.sm) := fun a b g => SMT.out (by omega) p2 (by omega) (by omega) (by rw [k2.out a]; exact a) (by rw [k4.out b]; exact b) g
                have wn : Below wo.heap.size wo (wo.alloc (.cells #[.int .i64 T.k, .string T.name, .slice A2 T.al.length c2, .slice A3 nf c3, .slice A4 T.sy.length c4, .bool T.has, .string T.df, .int .i64 T.size, .int .i64 T.items, .slice A9 T.br.length c9] 40)) := (Below.refl _ _).alloc (Nat.le_refl _) _
                have TQ2 : Hid (∀ k, Calls Tryd.prog 37 #[.slice A2 T.al.length c2, .int .i64 2500] ((wo.alloc (.cells #[.int .i64 T.k, .string T.name, .slice A2 T.al.length c2, .slice A3 nf c3, .slice A4 T.sy.length c4, .bool T.has, .string T.df, .int .i64 T.size, .int .i64 T.items, .slice A9 T.br.length c9] 40)).drewN k) (fun x w' => x = .returned (.int .i64 (X2 : Int)) ∧ w' = (wo.alloc (.cells #[.int .i64 T.k, .string T.name, .slice A2 T.al.length c2, .slice A3 nf c3, .slice A4 T.sy.length c4, .bool T.has, .string T.df, .int .i64 T.size, .int .i64 T.items, .slice A9 T.br.length c9] 40)).drewN k)) := fun k => (t2.out _ (bel_drewN (wn.mono gsz2) k)).mono fun _ _ h => ⟨h.1, h.2.symm⟩
                have TQ4 : Hid (∀ k, Calls Tryd.prog 37 #[.slice A4 T.sy.length c4, .int .i64 2500] ((wo.alloc (.cells #[.int .i64 T.k, .string T.name, .slice A2 T.al.length c2, .slice A3 nf c3, .slice A4 T.sy.length c4, .bool T.has, .string T.df, .int .i64 T.size, .int .i64 T.items, .slice A9 T.br.length c9] 40)).drewN k) (fun x w' => x = .returned (.int .i64 (X4 : Int)) ∧ w' = (wo.alloc (.cells #[.int .i64 T.k, .string T.name, .slice A2 T.al.length c2, .slice A3 nf c3, .slice A4 T.sy.length c4, .bool T.has, .string T.df, .int .i64 T.size, .int .i64 T.items, .slice A9 T.br.length c9] 40)).drewN k)) := fun k => (t4.out _ (bel_drewN (wn.mono gsz2) k)).mono fun _ _ h => ⟨h.1, h.2.symm⟩
                clear SMT k2 k4 wn hnm hnb hnd nm nb nd
                go_wp2_with fail
                go_quiet ((first | (go_at_call 37; with_reducible exact Calls.quiet_of_same (TQ2.out _)) | (go_at_call 37; with_reducible exact Calls.quiet_of_same (TQ4.out _))))
                have gzn : (wo.alloc (.cells #[.int .i64 T.k, .string T.name, .slice A2 T.al.length c2, .slice A3 nf c3, .slice A4 T.sy.length c4, .bool T.has, .string T.df, .int .i64 T.size, .int .i64 T.items, .slice A9 T.br.length c9] 40)).heap.size = wo.heap.size + 1 := by simp
                have GZN := Lib.hid gzn
                have B2 : Below w.heap.size wo (wo.alloc (.cells #[.int .i64 T.k, .string T.name, .slice A2 T.al.length c2, .slice A3 nf c3, .slice A4 T.sy.length c4, .bool T.has, .string T.df, .int .i64 T.size, .int .i64 T.items, .slice A9 T.br.length c9] 40)) := (Below.refl _ _).alloc gsz2 _
                clear gzn TQ2 TQ4
                go_wp2_with fail
                go_loopw [5, 8] (fun m t wr => ∃ p u : Nat, p ≤ nf ∧ u ≤ 200000 ∧ t = .int .i64 (p : Int) ∧ m = .int .i64 (u : Int) ∧ Hid (X2 + X4 ≤ u ∧ n ≤ u ∧ (u ≤ 2500 → AllF T.fs p)) ∧ Below (wo.heap.size + 1) (wo.alloc (.cells #[.int .i64 T.k, .string T.name, .slice A2 T.al.length c2, .slice A3 nf c3, .slice A4 T.sy.length c4, .bool T.has, .string T.df, .int .i64 T.size, .int .i64 T.items, .slice A9 T.br.length c9] 40)) wr) (fun _ t _ => nf - (intOf t).toNat)
                case atStart => exact ⟨0, n + T.name.size + nf + T.br.length + T.df.size + X2 + X4, Nat.zero_le _, by omega, rfl, by push_cast; rfl, ⟨by omega, by omega, fun _ _ _ h => absurd h (Nat.not_lt_zero _)⟩, bel_drewN (Below.refl _ _) _⟩
                case round =>
                  obtain ⟨p, u, hp, hu, rfl, rfl, HU, bq⟩ := hrel
                  have zq := bq.size
                  rw [GZN.out] at zq
                  have bqw : Below w.heap.size wo wr := B2.trans (bq.mono (by omega))
                  have bww : Below w.heap.size w wr := blw.trans bqw
                  have hOwn := Nat.lt_of_lt_of_le (n := wo.heap.size) (by first | exact Nat.le_refl _ | assumption | (simp; done) | (simp; omega) | omega) (Below.size bq)
                  have hOwn1 := Nat.ne_of_gt hOwn
                  have hOwn2 := Nat.ne_of_lt hOwn
                  have hOwn := (Below.cell bq (p := ⟨wo.heap.size, 0, none⟩) (by first | exact Nat.le_refl _ | assumption | (simp; done) | (simp; omega) | omega)).trans (by go_simp; rfl)
                  have hOwn := (Below.cell bq (p := ⟨wo.heap.size, 1, none⟩) (by first | exact Nat.le_refl _ | assumption | (simp; done) | (simp; omega) | omega)).trans (by go_simp; rfl)
                  have hOwn := (Below.cell bq (p := ⟨wo.heap.size, 2, none⟩) (by first | exact Nat.le_refl _ | assumption | (simp; done) | (simp; omega) | omega)).trans (by go_simp; rfl)
                  have hOwn := (Below.cell bq (p := ⟨wo.heap.size, 3, none⟩) (by first | exact Nat.le_refl _ | assumption | (simp; done) | (simp; omega) | omega)).trans (by go_simp; rfl)
                  have hOwn := (Below.cell bq (p := ⟨wo.heap.size, 4, none⟩) (by first | exact Nat.le_refl _ | assumption | (simp; done) | (simp; omega) | omega)).trans (by go_simp; rfl)
                  have hOwn := (Below.cell bq (p := ⟨wo.heap.size, 5, none⟩) (by first | exact Nat.le_refl _ | assumption | (simp; done) | (simp; omega) | omega)).trans (by go_simp; rfl)
                  have hOwn := (Below.cell bq (p := ⟨wo.heap.size, 6, none⟩) (by first | exact Nat.le_refl _ | assumption | (simp; done) | (simp; omega) | omega)).trans (by go_simp; rfl)
                  have hOwn := (Below.cell bq (p := ⟨wo.heap.size, 7, none⟩) (by first | exact Nat.le_refl _ | assumption | (simp; done) | (simp; omega) | omega)).trans (by go_simp; rfl)
                  have hOwn := (Below.cell bq (p := ⟨wo.heap.size, 8, none⟩) (by first | exact Nat.le_refl _ | assumption | (simp; done) | (simp; omega) | omega)).trans (by go_simp; rfl)
                  have hOwn := (Below.cell bq (p := ⟨wo.heap.size, 9, none⟩) (by first | exact Nat.le_refl _ | assumption | (simp; done) | (simp; omega) | omega)).trans (by go_simp; rfl)
                  have hOwn := (Below.frozen bq (p := ⟨wo.heap.size, 0, none⟩) (by first | exact Nat.le_refl _ | assumption | (simp; done) | (simp; omega) | omega)).trans (by go_simp; rfl)
                  have hOwn := (Below.frozen bq (p := ⟨wo.heap.size, 1, none⟩) (by first | exact Nat.le_refl _ | assumption | (simp; done) | (simp; omega) | omega)).trans (by go_simp; rfl)
                  have hOwn := (Below.frozen bq (p := ⟨wo.heap.size, 2, none⟩) (by first | exact Nat.le_refl _ | assumption | (simp; done) | (simp; omega) | omega)).trans (by go_simp; rfl)
                  have hOwn := (Below.frozen bq (p := ⟨wo.heap.size, 3, none⟩) (by first | exact Nat.le_refl _ | assumption | (simp; done) | (simp; omega) | omega)).trans (by go_simp; rfl)
                  have hOwn := (Below.frozen bq (p := ⟨wo.heap.size, 4, none⟩) (by first | exact Nat.le_refl _ | assumption | (simp; done) | (simp; omega) | omega)).trans (by go_simp; rfl)
                  have hOwn := (Below.frozen bq (p := ⟨wo.heap.size, 5, none⟩) (by first | exact Nat.le_refl _ | assumption | (simp; done) | (simp; omega) | omega)).trans (by go_simp; rfl)
                  have hOwn := (Below.frozen bq (p := ⟨wo.heap.size, 6, none⟩) (by first | exact Nat.le_refl _ | assumption | (simp; done) | (simp; omega) | omega)).trans (by go_simp; rfl)
                  have hOwn := (Below.frozen bq (p := ⟨wo.heap.size, 7, none⟩) (by first | exact Nat.le_refl _ | assumption | (simp; done) | (simp; omega) | omega)).trans (by go_simp; rfl)
                  have hOwn := (Below.frozen bq (p := ⟨wo.heap.size, 8, none⟩) (by first | exact Nat.le_refl _ | assumption | (simp; done) | (simp; omega) | omega)).trans (by go_simp; rfl)
                  have hOwn := (Below.frozen bq (p := ⟨wo.heap.size, 9, none⟩) (by first | exact Nat.le_refl _ | assumption | (simp; done) | (simp; omega) | omega)).trans (by go_simp; rfl)
                  by_cases hpn : p < nf ∧ u ≤ 2500
                  · obtain ⟨hpf, hu2⟩ := hpn
                    have h2 : p < T.fs.length := by rw [← HNF.out]; exact hpf
                    have qu : (u : Int) ≤ 2500 := by omega
                    obtain ⟨b5, o5, X1, x1, X3, x3, X5, x5, e5, hb5, ⟨z0, z1, z2, z3, z4, z5, z6, z7, z8⟩, l1, f1, tj⟩ := fields_at (R3.out.below bqw) h2
                    have TF := Lib.hid (fun W (b : Below w.heap.size wr W) => rtexts10_any X1 x1 (T.fs[p]'h2).al W ((f1.keep (Below.keeps b) (fun _ h => h)).keep (fun _ _ => rfl) fun _ h => Nat.lt_of_lt_of_le h (Nat.le_trans bww.size b.size)) l1.2)
                    have BK := Lib.hid (fun W (b : Below w.heap.size wr W) => bulk25_any (T.fs[p]'h2).df 0 W X3 X5 x3 x5 (by omega) ((tj.below b).more (Nat.le_trans bww.size b.size)))
                    rw [show ((0 : Nat) : Int) = 0 from rfl] at BK
                    have h6 := HU.out
                    have AF : Hid ((T.fs[p]'h2).sm → AllF T.fs p → AllF T.fs (p + 1)) := fun a b j hj hq => by
                      rcases Nat.lt_or_ge j p with g | g
                      · exact b j hj g
                      · obtain rfl : j = p := by omega
                        exact a
                    have xf := tx_le (T.fs[p]'h2).al
                    have kf := Lib.hid (@tx_ge (T.fs[p]'h2).al)
                    generalize T.fs[p]'h2 = F at *
                    subst e5
                    have lb5 : b5 < w.heap.size := hb5
                    obtain ⟨XF, hXF⟩ : ∃ x, x = tx F.al := ⟨_, rfl⟩
                    rw [← hXF] at xf kf TF
                    have m3 : wr.cell? ⟨wo.heap.size, 3, none⟩ = some (.slice (some ⟨b5, o5, none⟩) nf c3) := (bq.cell (p := ⟨wo.heap.size, 3, none⟩) (by show wo.heap.size < wo.heap.size + 1; omega)).trans (by go_simp)
                    by_cases g6 : 2500 < F.name.size
                    · have q6 : (2500 : Int) < (F.name.size : Int) := by omega
                      clear hXF h2 tj f1 l1 AF kf TF BK
                      go_wp2_with fail
                      go_ret
                      exact buls_ret (n := 2501) (by rfl) (fun h => by omega) (by (repeat' (first | with_reducible assumption | with_reducible exact Below.refl _ _ | (with_reducible refine Below.alloc ?_ ?_ _; rotate_left; focus ((first | exact Nat.le_refl _ | (simp; done) | (simp; omega) | omega | fail))) | (with_reducible refine Below.setCell ?_ ?_ _; rotate_left; focus ((first | exact Nat.le_refl _ | (simp; done) | (simp; omega) | omega | fail))) | with_reducible refine Mem.bel_drewN ?_ _ | with_reducible refine Below.drew ?_ | (with_reducible refine Mem.bel_call (by with_reducible assumption) ?_ ?_; focus ((first | exact Nat.le_refl _ | (simp; done) | (simp; omega) | omega | fail))) | fail)))
                    · have q6 : ¬ (2500 : Int) < (F.name.size : Int) := by omega
                      have p6 : F.name.size ≤ 2500 := by omega
                      have FSM : Hid (∀ n3 : Nat, (n3 ≤ 2500 → F.df.deep + 0 ≤ 61 ∧ F.df.wt = n3) → X2 + X4 ≤ u + F.name.size + XF + n3 ∧ n ≤ u + F.name.size + XF + n3 ∧ (u + F.name.size + XF + n3 ≤ 2500 → AllF T.fs (p + 1))) := fun n3 h3 => by
                        refine ⟨by omega, by omega, fun hs => AF.out ⟨p6, ?_, ?_, ?_⟩ (h6.2.2 hu2)⟩
                        · rw [kf.out (by omega)]; omega
                        · have := h3 (by omega); omega
                        · have := h3 (by omega); omega
                      have bend : Below (wo.heap.size + 1) (wo.alloc (.cells #[.int .i64 T.k, .string T.name, .slice A2 T.al.length c2, .slice (some ⟨b5, o5, none⟩) nf c3, .slice A4 T.sy.length c4, .bool T.has, .string T.df, .int .i64 T.size, .int .i64 T.items, .slice A9 T.br.length c9] 40)) wr := bq
                      clear hXF h2 tj f1 l1 AF kf HU h6 SM2 HX HE R3 RD
                      go_wp2_with fail
                      have bqz : Below w.heap.size wr wr := Below.refl _ _
                      go_region_held_law (fun w' => w'.cell? ⟨wo.heap.size, 3, none⟩ = some (.slice (some ⟨b5, o5, none⟩) nf c3) ∧ w'.cell? ⟨b5, o5 + p * 9, none⟩ = some (.string F.name) ∧ w'.cell? ⟨b5, o5 + p * 9 + 1, none⟩ = some (.slice X1 F.al.length x1) ∧ w'.cell? ⟨b5, o5 + p * 9 + 4, none⟩ = some (.int .i64 F.df.k) ∧ w'.cell? ⟨b5, o5 + p * 9 + 5, none⟩ = some (.int .i64 F.df.n) ∧ w'.cell? ⟨b5, o5 + p * 9 + 6, none⟩ = some (.string F.df.t) ∧ w'.cell? ⟨b5, o5 + p * 9 + 7, none⟩ = some (.slice X3 F.df.its.length x3) ∧ w'.cell? ⟨b5, o5 + p * 9 + 8, none⟩ = some (.slice X5 F.df.ks.length x5))
                        (exact ⟨(by first | with_reducible assumption | (go_simp; done)), (by first | with_reducible assumption | (go_simp; done)), (by first | with_reducible assumption | (go_simp; done)), (by first | with_reducible assumption | (go_simp; done)), (by first | with_reducible assumption | (go_simp; done)), (by first | with_reducible assumption | (go_simp; done)), (by first | with_reducible assumption | (go_simp; done)), (by first | with_reducible assumption | (go_simp; done))⟩)
                        (first
                          | (go_at_call 37; with_reducible refine (TF.out _ (by (repeat' (first | with_reducible assumption | with_reducible exact Below.refl _ _ | (with_reducible refine Below.alloc ?_ ?_ _; rotate_left; focus ((first | exact Nat.le_refl _ | (simp; done) | (simp; omega) | omega | fail))) | (with_reducible refine Below.setCell ?_ ?_ _; rotate_left; focus ((first | exact Nat.le_refl _ | (simp; done) | (simp; omega) | omega | fail))) | with_reducible refine Mem.bel_drewN ?_ _ | with_reducible refine Below.drew ?_ | (with_reducible refine Mem.bel_call (by with_reducible assumption) ?_ ?_; focus ((first | exact Nat.le_refl _ | (simp; done) | (simp; omega) | omega | fail))) | fail)))).mono ?_; rintro e w' ⟨rfl, rfl⟩)
                          | (go_at_call 38; refine (BK.out _ (bel_drewN (n := 1) bqz)).mono ?_; rintro e w3 ⟨n3, rfl, hn3, hd3, b3⟩; have FS3 := Lib.hid (FSM.out n3 hd3); clear hd3; have k0 := (Below.cell b3 (p := ⟨wo.heap.size, 3, none⟩) (by show wo.heap.size < wr.heap.size; omega)).trans m3; have k1 := (Below.cell b3 (p := ⟨b5, o5 + p * 9, none⟩) (by show b5 < wr.heap.size; omega)).trans z0; have k2 := (Below.cell b3 (p := ⟨b5, o5 + p * 9 + 1, none⟩) (by show b5 < wr.heap.size; omega)).trans z1; have k3 := (Below.cell b3 (p := ⟨b5, o5 + p * 9 + 4, none⟩) (by show b5 < wr.heap.size; omega)).trans z4; have k4 := (Below.cell b3 (p := ⟨b5, o5 + p * 9 + 5, none⟩) (by show b5 < wr.heap.size; omega)).trans z5; have k5 := (Below.cell b3 (p := ⟨b5, o5 + p * 9 + 6, none⟩) (by show b5 < wr.heap.size; omega)).trans z6; have k6 := (Below.cell b3 (p := ⟨b5, o5 + p * 9 + 7, none⟩) (by show b5 < wr.heap.size; omega)).trans z7; have k7 := (Below.cell b3 (p := ⟨b5, o5 + p * 9 + 8, none⟩) (by show b5 < wr.heap.size; omega)).trans z8))
                      all_goals
                        go_wp2_with fail
                        go_roundw
                        case rel => exact ⟨p + 1, u + F.name.size + XF + n3, by omega, by omega, by go_num, (by first | exact wrap3 _ _ _ _ (by omega) | (push_cast; rfl)), FS3, (bel_drewN bend _).trans (b3.mono zq)⟩
                        case measure => simp [intOf]; omega
                  · have h5 : ¬ (p : Int) < (nf : Int) ∨ (p : Int) < (nf : Int) ∧ ¬ (u : Int) ≤ 2500 := by omega
                    have h6 := HU.out
                    have REL : Hid (u ≤ 2500 → ∀ m (h : m < sc.nodes.length), m < i + 1 → (sc.nodes[m]'h).sm) := fun hu2 => HX.out u hu2 h6.2.1 (fun _ => SM2.out (by omega) (by omega) (by
                      have pe : p = nf := by omega
                      rw [← pe]; exact h6.2.2 hu2))
                    clear h6 HU HX SM2 hpn
                    have bend : Below (w.heap.size + 1) (w.alloc (.cells #[.slice (some ⟨b1, o1, none⟩) nn c, .int .i64 rt] 35)) wr := bl.trans (((Below.refl _ _).alloc gsz _).trans (bq.mono (by omega)))
                    rcases h5 with h5 | ⟨h5, h7⟩
                    all_goals
                      go_wp2_with fail
                      go_roundw
                      case rel => exact ⟨i + 1, u, by omega, by omega, by go_num, rfl, REL, bend⟩
                      case measure => simp [intOf]; omega
      · have h5 : ¬ (i : Int) < (nn : Int) ∨ (i : Int) < (nn : Int) ∧ ¬ (n : Int) ≤ 2500 := by omega
        have FIN : Hid (n ≤ 2500 → sc.sm) := fun hn2 => ⟨by rw [← HNN.out]; exact n0, fun m hm => HE.out hn2 m hm (by rw [← HNN.out] at hm; omega)⟩
        clear hin HE
        rcases h5 with h5 | ⟨h5, h6⟩
        all_goals
          go_wp2_with fail
          go_ret
          exact buls_ret (n := n) (by rfl) FIN.out (by (repeat' (first | with_reducible assumption | with_reducible exact Below.refl _ _ | (with_reducible refine Below.alloc ?_ ?_ _; rotate_left; focus ((first | exact Nat.le_refl _ | (simp; done) | (simp; omega) | omega | fail))) | (with_reducible refine Below.setCell ?_ ?_ _; rotate_left; focus ((first | exact Nat.le_refl _ | (simp; done) | (simp; omega) | omega | fail))) | with_reducible refine Mem.bel_drewN ?_ _ | with_reducible refine Below.drew ?_ | (with_reducible refine Mem.bel_call (by with_reducible assumption) ?_ ?_; focus ((first | exact Nat.le_refl _ | (simp; done) | (simp; omega) | omega | fail))) | fail)))
end Go.Proofs.YtlpmcohbbffbfaaDoor
namespace Go.Proofs.YtlpmcohbbffbfaaDoor
open Go.ChangeShapes Go.WideShapes Go.ChangeAt Go.RowKit Mem
def lays (w : World) : List Obj → World
  | [] => w
  | o :: r => lays (w.alloc o) r
theorem lays_size : ∀ (os : List Obj) (w : World), (lays w os).heap.size = w.heap.size + os.length
  | [], _ => rfl
  | o :: r, w => by unfold lays; rw [lays_size r]; simp; omega
theorem lays_below : ∀ (os : List Obj) (w : World), Below w.heap.size w (lays w os)
  | [], _ => Below.refl _ _
  | o :: r, w => by
    unfold lays
    exact ((Below.refl w.heap.size w).alloc (Nat.le_refl _) o).trans ((lays_below r (w.alloc o)).mono (by simp))
theorem lays_at : ∀ (os : List Obj) (w : World) {i : Nat} (h : i < os.length), (lays w os).heap[w.heap.size + i]? = some (os[i]'h)
  | [], _, _, h => absurd h (Nat.not_lt_zero _)
  | o :: r, w, i, h => by
    unfold lays
    cases i with
    | zero => rw [(lays_below r (w.alloc o)).block _ (by simp)]; exact heap_alloc_new w o
    | succ i =>
      have := lays_at r (w.alloc o) (i := i) (by simpa using h)
      rw [show (w.alloc o).heap.size + i = w.heap.size + (i + 1) by simp; omega] at this
      exact this
def nd11 : Nd := ⟨11, ⟨#[]⟩, [], [], [], false, ⟨#[]⟩, 0, 1, []⟩
def ex11 : Sc := ⟨[nd11, Nd.z 3], 0⟩
theorem ex11_met : met ex11 33 0 = some 2 := by
  simp [met, metK, Sc.kidsAt, Sc.kind, Nd.kids, ex11, nd11, Nd.z, named]
theorem ex11_right : ex11.right := by
  refine ⟨⟨by decide, by decide, rfl, ex11_met⟩, ?_, ?_, by decide⟩
  · intro n hn
    unfold ex11 at hn
    simp only [List.mem_cons, List.not_mem_nil, or_false] at hn
    rcases hn with rfl | rfl
    · exact (ok_11 rfl).2 rfl
    · exact (ok_prim (by decide)).2 rfl
  · intro i hi
    have h9 : ex11.kind (i : Int) ≠ 9 := by
      obtain rfl | rfl : i = 0 ∨ i = 1 := by have : ex11.nodes.length = 2 := rfl; omega
      · decide
      · decide
    rw [Sc.wt_fix, if_neg h9]; decide
theorem ex11_sm : ex11.sm := by
  have key : ∀ n ∈ ex11.nodes, n.sm := by
    intro n hn
    unfold ex11 at hn
    simp only [List.mem_cons, List.not_mem_nil, or_false] at hn
    rcases hn with rfl | rfl
    · exact ⟨by decide, by decide, by decide, by decide, by decide, by decide, fun i h => absurd h (Nat.not_lt_zero _)⟩
    · exact ⟨by decide, by decide, by decide, by decide, by decide, by decide, fun i h => absurd h (Nat.not_lt_zero _)⟩
  exact ⟨by decide, fun i h => key _ (List.getElem_mem h)⟩
def one11 : V := .mk 3 1 0 [] [] []
def long11 : V := .mk 4 1 0 [] [] []
def v11 : V := .mk 11 0 0 [] [one11, one11] []
def w11 : V := .mk 11 0 0 [] [one11, long11] []
theorem one_is : V.is ex11 one11 1 := by
  have := V.is_leaf (s := ex11) (p := 1) (by decide) (k := 3) (n := 1) (bt := 0) (bs := []) (its := []) (ks := []) (fun h => absurd h (by decide)) rfl (by decide)
  exact this.2 ⟨by unfold VJust; decide, (fun h => absurd h (by decide)), (fun _ => by decide), (fun h => absurd h (by decide)), (fun h => absurd h (by decide)), (fun h => absurd h (by decide)), (fun h => absurd h (by decide)), (fun h => absurd h (by decide))⟩
theorem v11_is : V.is ex11 v11 0 := by
  have := V.is_11 (s := ex11) (p := 0) (by decide) (n := 0) (bt := 0) (bs := []) (its := [one11, one11]) (ks := []) rfl
  refine this.2 ⟨by unfold VJust; decide, by decide, fun i h => ?_⟩
  have e : ([one11, one11] : List V)[i]'h = one11 := by
    obtain rfl | rfl : i = 0 ∨ i = 1 := by simp at h; omega
    · rfl
    · rfl
  rw [e]
  exact one_is
theorem w11_not : ¬ V.is ex11 w11 0 := by
  have := V.is_11 (s := ex11) (p := 0) (by decide) (n := 0) (bt := 0) (bs := []) (its := [one11, long11]) (ks := []) rfl
  intro h
  have g := (this.1 h).2.2 1 (by decide)
  exact V.is_not (s := ex11) (p := 1) (by decide) (k := 4) (by decide) g
end Go.Proofs.YtlpmcohbbffbfaaDoor
namespace Go.Proofs.YtlpmcohbbffbfaaDoor
open Go.ChangeShapes Go.WideShapes Go.ChangeAt Go.RowKit Mem
def sst (l : List UInt8) : ByteArray := ⟨l.toArray⟩
theorem sst_out (s : ByteArray) : sst s.data.toList = s := by unfold sst; simp
theorem sst_in (l : List UInt8) : (sst l).data.toList = l := by unfold sst; simp
theorem len_str (s : ByteArray) : s.data.toList.length = s.size := by rw [Array.length_toList]; rfl
theorem idx_str (s : ByteArray) (j : Nat) (h : j < s.size) (W : World) : (Instr.index 9 (.string s) (.int .i64 (j : Int))).run Tryd.prog W = .ok (.int .u8 ((Jx.byt s.data.toList j : Nat) : Int)) W := by
  rw [run_index_string _ _ _ _ _ strT, dif_pos ⟨by omega, by omega⟩]
  congr 2
  unfold Jx.byt
  have e : s.data.toList.getD j 0 = s[j]'h := by
    rw [List.getD, List.getElem?_eq_getElem (by rw [len_str]; exact h)]
    simp
    rfl
  rw [e]
  rfl
def Pure (v : Value) (w : World) (e : Ending) (w' : World) : Prop := e = .returned v ∧ w = w'
theorem pure_ret {v v' : Value} {w : World} (h : v = v') : Pure v w (.returned v') w := by subst h; exact ⟨rfl, rfl⟩
theorem simple_iff {l : List UInt8} : Nm.simple l = true ↔ l.length ≠ 0 ∧ l.length ≤ 100 ∧ Nm.lt (Jx.byt l 0) = true ∧ ∀ j, j < l.length → Nm.ch (Jx.byt l j) = true := by
  unfold Nm.simple Nm.chs
  simp only [Bool.and_eq_true, decide_eq_true_eq, List.all_eq_true]
  constructor
  · rintro ⟨⟨⟨h1, h2⟩, h3⟩, h4⟩
    refine ⟨h1, h2, h3, fun j hj => ?_⟩
    have := h4 _ (List.getElem_mem hj)
    unfold Jx.byt
    rw [List.getD, List.getElem?_eq_getElem hj]
    exact this
  · rintro ⟨h1, h2, h3, h4⟩
    refine ⟨⟨⟨h1, h2⟩, h3⟩, fun x hx => ?_⟩
    obtain ⟨j, hj, rfl⟩ := List.getElem_of_mem hx
    have := h4 j hj
    unfold Jx.byt at this
    rw [List.getD, List.getElem?_eq_getElem hj] at this
    exact this
theorem simple_no {l : List UInt8} (h : ¬ (l.length ≠ 0 ∧ l.length ≤ 100 ∧ Nm.lt (Jx.byt l 0) = true ∧ ∀ j, j < l.length → Nm.ch (Jx.byt l j) = true)) : Nm.simple l = false := by
  rcases hs : Nm.simple l with _ | _
  · rfl
  · exact absurd (simple_iff.1 hs) h
end Go.Proofs.YtlpmcohbbffbfaaDoor
namespace Go.Proofs.YtlpmcohbbffbfaaDoor
open Go.ChangeShapes Go.WideShapes Go.ChangeAt Go.RowKit Mem
noncomputable def V.same (a b : V) : Bool := @decide (a = b) (Classical.propDecidable _)
theorem V.same_yes {a b : V} (h : a = b) : V.same a b = true := by unfold V.same; simpa using h
theorem V.same_no {a b : V} (h : a ≠ b) : V.same a b = false := by unfold V.same; simpa using h
theorem V.same_iff {a b : V} : V.same a b = true ↔ a = b := by unfold V.same; simp
theorem bytes_inj {a b : List UInt8} (h : (⟨a.toArray⟩ : ByteArray) = ⟨b.toArray⟩) : a = b := by
  have := ByteArray.mk.inj h
  simpa using congrArg Array.toList this
end Go.Proofs.YtlpmcohbbffbfaaDoor
