/- The document's own answers for layer 7, at every tree: Same. -/
import Derived.Test.YtnfhikgfcdcpoaaDoorJT
import Derived.Test.YtnfhikgfcdcpoaaDoorBase
import Derived.Test.YtnfhikgfcdcpoaaDoorRec
import Derived.Deep.RegionHeldLaw
namespace Go.Proofs.YtnfhikgfcdcpoaaDoor
open Go.ChangeShapes Go.WideShapes Go.ChangeAt Go.RowKit Mem

theorem str_beq (a b : ByteArray) : (a.toList == b.toList) = decide (a = b) := by
  rw [Bool.eq_iff_iff, beq_iff_eq, decide_eq_true_eq, ByteArray.toList_eq, ByteArray.toList_eq]
  constructor
  · intro h; exact ByteArray.ext (Array.toList_inj.1 h)
  · intro h; rw [h]
theorem str_bne (a b : ByteArray) : (a.toList != b.toList) = !decide (a = b) := by unfold bne; rw [str_beq]
/-- A world but for what it draws. -/
def Drewn7 (W w : World) : Prop := ∃ n, w = W.drewN n
def Told (b : Bool) (w : World) (e : Ending) (w' : World) : Prop := e = .returned (.bool b) ∧ Below w.heap.size w w'
theorem told_ret {b c : Bool} {w w' : World} (h : b = c) (hb : Below w.heap.size w w') : Told b w (.returned (.bool c)) w' := by subst h; exact ⟨rfl, hb⟩

set_option maxRecDepth 100000 in
set_option maxHeartbeats 4000000 in
theorem rsame_at : ∀ (N : Nat) (t u : J), SizeOf.sizeOf t ≤ N → ∀ (w : World) (A3 A4 D3 D4 : Option Addr) (c3 c4 d3 d4 : Nat),
    TreeC w w.heap.size t [.int .i64 t.k, .int .i64 t.n, .string t.t, .slice A3 t.its.length c3, .slice A4 t.ks.length c4] →
    TreeC w w.heap.size u [.int .i64 u.k, .int .i64 u.n, .string u.t, .slice D3 u.its.length d3, .slice D4 u.ks.length d4] →
    Calls Tryd.prog 37 #[.agg #[.int .i64 t.k, .int .i64 t.n, .string t.t, .slice A3 t.its.length c3, .slice A4 t.ks.length c4], .agg #[.int .i64 u.k, .int .i64 u.n, .string u.t, .slice D3 u.its.length d3, .slice D4 u.ks.length d4]] w (Told (J.same t u) w)
  | 0, t, _, h => by cases t; simp at h
  | N + 1, .mk k n s its ks, .mk k' n' s' its' ks', hN => by
    intro w A3 A4 D3 D4 c3 c4 d3 d4 ht hu
    have CS := cell_set
    simp only [J.k, J.n, J.t, J.its, J.ks] at ht hu ⊢
    obtain ⟨_, _, _, _, e, hc3, hc4, rt, ft⟩ := ht.out
    simp only [J.k, J.n, J.t, J.its, J.ks, List.cons.injEq, Value.slice.injEq, true_and, and_true] at e hc3 hc4 rt ft
    obtain ⟨⟨rfl, rfl⟩, rfl, rfl⟩ := e
    obtain ⟨_, _, _, _, e, hd3, hd4, ru, fu⟩ := hu.out
    simp only [J.k, J.n, J.t, J.its, J.ks, List.cons.injEq, Value.slice.injEq, true_and, and_true] at e hd3 hd4 ru fu
    obtain ⟨⟨rfl, rfl⟩, rfl, rfl⟩ := e
    by_cases hk : k = k'
    · subst hk
      by_cases hn : n = n'
      · subst hn
        have sb := str_bne s s'
        by_cases hs : s = s'
        · subst hs
          have sb1 : (s.toList != s.toList) = false := by rw [sb]; simp
          by_cases hlk : ks.length = ks'.length
          · have q4 : ((ks.length : Int) != (ks'.length : Int)) = false := by rw [bne_eq_false_iff_eq]; omega
            by_cases hli : its.length = its'.length
            · have q5 : ((its.length : Int) != (its'.length : Int)) = false := by rw [bne_eq_false_iff_eq]; omega
              have FT := Lib.hid ft; have FU := Lib.hid fu; have RT := Lib.hid rt; have RU := Lib.hid ru
              obtain ⟨nk, hnk⟩ : ∃ m, m = ks.length := ⟨_, rfl⟩
              obtain ⟨ni, hni⟩ : ∃ m, m = its.length := ⟨_, rfl⟩
              have HLK : Hid (ks'.length = nk) := hlk.symm.trans hnk.symm
              have HLI : Hid (its'.length = ni) := hli.symm.trans hni.symm
              have IH : Hid (∀ (i : Nat) (h1 : i < its.length) (u : J) (W : World) (A3 A4 D3 D4 : Option Addr) (c3 c4 d3 d4 : Nat),
                  TreeC W W.heap.size (its[i]'h1) [.int .i64 (its[i]'h1).k, .int .i64 (its[i]'h1).n, .string (its[i]'h1).t, .slice A3 (its[i]'h1).its.length c3, .slice A4 (its[i]'h1).ks.length c4] →
                  TreeC W W.heap.size u [.int .i64 u.k, .int .i64 u.n, .string u.t, .slice D3 u.its.length d3, .slice D4 u.ks.length d4] →
                  Calls Tryd.prog 37 #[.agg #[.int .i64 (its[i]'h1).k, .int .i64 (its[i]'h1).n, .string (its[i]'h1).t, .slice A3 (its[i]'h1).its.length c3, .slice A4 (its[i]'h1).ks.length c4], .agg #[.int .i64 u.k, .int .i64 u.n, .string u.t, .slice D3 u.its.length d3, .slice D4 u.ks.length d4]] W (Told (J.same (its[i]'h1) u) W)) := fun i h1 u W A3 A4 D3 D4 c3 c4 d3 d4 a b =>
                rsame_at N (its[i]'h1) u (by have := J.lt_its (j := .mk k n s its ks) (i := i) h1; simp only [J.its] at this; omega) W A3 A4 D3 D4 c3 c4 d3 d4 a b
              have NOK : Hid (ks ≠ ks' → J.same (.mk k n s its ks) (.mk k n s its' ks') = false) := fun h => J.same_no fun e => h (congrArg J.ks e)
              have NOI : Hid (its ≠ its' → J.same (.mk k n s its ks) (.mk k n s its' ks') = false) := fun h => J.same_no fun e => h (congrArg J.its e)
              have YES : Hid (its = its' → ks = ks' → J.same (.mk k n s its ks) (.mk k n s its' ks') = true) := fun h1 h2 => by subst h1 h2; exact J.same_refl _
              generalize J.same (.mk k n s its ks) (.mk k n s its' ks') = R at *
              have HNK := Lib.hid hnk; have HNI := Lib.hid hni
              rw [← HNK.out, HLK.out] at q4
              rw [← HNI.out, HLI.out] at q5
              rw [← HNK.out, ← HNI.out, HLK.out, HLI.out]
              have nk0 : nk ≤ 9223372036854775807 := by have := hc4.2; unfold maxLen at this; omega
              have ni0 : ni ≤ 9223372036854775807 := by have := hc3.2; unfold maxLen at this; omega
              clear hnk hni ht hu rt ru ft fu hN hlk hli sb hc3 hc4 hd3 hd4
              go_enter Tryd.func37, Tryd.ntmps37
              go_wp2_with fail
              go_loopw [5] (fun t wr => ∃ i : Nat, i ≤ nk ∧ t = .int .i64 (i : Int) ∧ Hid (∀ j (h1 : j < ks.length) (h2 : j < ks'.length), j < i → ks[j]'h1 = ks'[j]'h2) ∧ Drewn7 ((w.alloc (.cells #[.int .i64 k, .int .i64 n, .string s, .slice A3 ni c3, .slice A4 nk c4] 36)).alloc (.cells #[.int .i64 k, .int .i64 n, .string s, .slice D3 ni d3, .slice D4 nk d4] 36)) wr) (fun t _ => nk - (intOf t).toNat)
              case atStart => exact ⟨0, by omega, rfl, fun _ _ _ h => absurd h (Nat.not_lt_zero _), ⟨0, rfl⟩⟩
              case round =>
                obtain ⟨i, hi, rfl, HE, ⟨nd, rfl⟩⟩ := hrel
                by_cases hik : i < nk
                · have h1 : i < ks.length := by rw [← HNK.out]; exact hik
                  have h2 : i < ks'.length := by rw [HLK.out]; exact hik
                  obtain ⟨b1, o1, e1, hb1, x1⟩ := fl_str FT.out h1
                  obtain ⟨b2, o2, e2, hb2, x2⟩ := fl_str FU.out h2
                  have he := HE.out
                  by_cases hx : ks[i]'h1 = ks'[i]'h2
                  · have HE2 : Hid (∀ j (h1 : j < ks.length) (h2 : j < ks'.length), j < i + 1 → ks[j]'h1 = ks'[j]'h2) := fun j g1 g2 hj => by
                      rcases Nat.lt_or_ge j i with g | g
                      · exact he j g1 g2 g
                      · obtain rfl : j = i := by omega
                        exact hx
                    rw [← hx] at x2
                    generalize ks[i]'h1 = X at *
                    have sx : (X.toList != X.toList) = false := by rw [str_bne]; simp
                    subst e1 e2
                    clear he hx h1 h2
                    go_wp2_with fail
                    go_quiet (fail)
                    go_wp2_with fail
                    go_roundw
                    case rel => exact ⟨i + 1, by omega, by go_num, HE2, ⟨_, rfl⟩⟩
                    case measure => simp [intOf]; omega
                  · have Z := Lib.hid (NOK.out (fun e => hx (by subst e; rfl)))
                    have sx : ((ks[i]'h1).toList != (ks'[i]'h2).toList) = true := by rw [str_bne]; simpa using hx
                    have sx2 : ((ks[i]'h1).toList == (ks'[i]'h2).toList) = false := by rw [str_beq]; simpa using hx
                    generalize ks[i]'h1 = X at *
                    generalize ks'[i]'h2 = Y at *
                    subst e1 e2
                    clear he hx h1 h2
                    go_wp2_with fail
                    go_quiet (fail)
                    go_wp2_with fail
                    go_ret
                    exact told_ret Z.out (by (repeat' (first | with_reducible assumption | with_reducible exact Below.refl _ _ | (with_reducible refine Below.alloc ?_ ?_ _; rotate_left; focus ((first | exact Nat.le_refl _ | (simp; done) | (simp; omega) | omega | fail))) | (with_reducible refine Below.setCell ?_ ?_ _; rotate_left; focus ((first | exact Nat.le_refl _ | (simp; done) | (simp; omega) | omega | fail))) | with_reducible refine Mem.bel_drewN ?_ _ | with_reducible refine Below.drew ?_ | (with_reducible refine Mem.bel_call (by with_reducible assumption) ?_ ?_; focus ((first | exact Nat.le_refl _ | (simp; done) | (simp; omega) | omega | fail))) | fail)))
                · obtain rfl : i = nk := by omega
                  have EK : Hid (ks = ks') := List.ext_getElem (by rw [← HNK.out, HLK.out]) fun j g1 g2 => HE.out j g1 g2 (by rw [HNK.out]; exact g1)
                  clear HE hik
                  have G0 : Below w.heap.size w ((w.alloc (.cells #[.int .i64 k, .int .i64 n, .string s, .slice A3 ni c3, .slice A4 i c4] 36)).alloc (.cells #[.int .i64 k, .int .i64 n, .string s, .slice D3 ni d3, .slice D4 i d4] 36)) := ((Below.refl _ _).alloc (Nat.le_refl _) _).alloc (by simp) _
                  have gz0 : ((w.alloc (.cells #[.int .i64 k, .int .i64 n, .string s, .slice A3 ni c3, .slice A4 i c4] 36)).alloc (.cells #[.int .i64 k, .int .i64 n, .string s, .slice D3 ni d3, .slice D4 i d4] 36)).heap.size = w.heap.size + 2 := by simp
                  have GZ0 := Lib.hid gz0
                  clear gz0
                  go_wp2_with fail
                  go_loopw [6] (fun t wr => ∃ p : Nat, p ≤ ni ∧ t = .int .i64 (p : Int) ∧ Hid (∀ j (h1 : j < its.length) (h2 : j < its'.length), j < p → its[j]'h1 = its'[j]'h2) ∧ Below (w.heap.size + 2) ((w.alloc (.cells #[.int .i64 k, .int .i64 n, .string s, .slice A3 ni c3, .slice A4 i c4] 36)).alloc (.cells #[.int .i64 k, .int .i64 n, .string s, .slice D3 ni d3, .slice D4 i d4] 36)) wr) (fun t _ => ni - (intOf t).toNat)
                  case atStart => exact ⟨0, by omega, rfl, fun _ _ _ h => absurd h (Nat.not_lt_zero _), bel_drewN (Below.refl _ _) nd⟩
                  case round =>
                    obtain ⟨p, hp, rfl, HE, bl⟩ := hrel
                    have gsz := bl.size
                    rw [GZ0.out] at gsz
                    have gsz2 : w.heap.size ≤ wr.heap.size := by omega
                    have blw := G0.trans (bl.mono (by omega))
                    have hOwn := Nat.lt_of_lt_of_le (n := w.heap.size) (by first | exact Nat.le_refl _ | assumption | (simp; done) | (simp; omega) | omega) (Below.size bl)
                    have hOwn1 := Nat.ne_of_gt hOwn
                    have hOwn2 := Nat.ne_of_lt hOwn
                    have hOwn := (Below.cell bl (p := ⟨w.heap.size, 0, none⟩) (by first | exact Nat.le_refl _ | assumption | (simp; done) | (simp; omega) | omega)).trans (by go_simp; rfl)
                    have hOwn := (Below.cell bl (p := ⟨w.heap.size, 1, none⟩) (by first | exact Nat.le_refl _ | assumption | (simp; done) | (simp; omega) | omega)).trans (by go_simp; rfl)
                    have hOwn := (Below.cell bl (p := ⟨w.heap.size, 2, none⟩) (by first | exact Nat.le_refl _ | assumption | (simp; done) | (simp; omega) | omega)).trans (by go_simp; rfl)
                    have hOwn := (Below.cell bl (p := ⟨w.heap.size, 3, none⟩) (by first | exact Nat.le_refl _ | assumption | (simp; done) | (simp; omega) | omega)).trans (by go_simp; rfl)
                    have hOwn := (Below.cell bl (p := ⟨w.heap.size, 4, none⟩) (by first | exact Nat.le_refl _ | assumption | (simp; done) | (simp; omega) | omega)).trans (by go_simp; rfl)
                    have hOwn := (Below.frozen bl (p := ⟨w.heap.size, 0, none⟩) (by first | exact Nat.le_refl _ | assumption | (simp; done) | (simp; omega) | omega)).trans (by go_simp; rfl)
                    have hOwn := (Below.frozen bl (p := ⟨w.heap.size, 1, none⟩) (by first | exact Nat.le_refl _ | assumption | (simp; done) | (simp; omega) | omega)).trans (by go_simp; rfl)
                    have hOwn := (Below.frozen bl (p := ⟨w.heap.size, 2, none⟩) (by first | exact Nat.le_refl _ | assumption | (simp; done) | (simp; omega) | omega)).trans (by go_simp; rfl)
                    have hOwn := (Below.frozen bl (p := ⟨w.heap.size, 3, none⟩) (by first | exact Nat.le_refl _ | assumption | (simp; done) | (simp; omega) | omega)).trans (by go_simp; rfl)
                    have hOwn := (Below.frozen bl (p := ⟨w.heap.size, 4, none⟩) (by first | exact Nat.le_refl _ | assumption | (simp; done) | (simp; omega) | omega)).trans (by go_simp; rfl)
                    have m1 : wr.cell? ⟨w.heap.size, 3, none⟩ = some (.slice A3 ni c3) := (bl.cell (p := ⟨w.heap.size, 3, none⟩) (by show w.heap.size < w.heap.size + 2; omega)).trans (by go_simp)
                    have m2 : wr.cell? ⟨w.heap.size + 1, 3, none⟩ = some (.slice D3 ni d3) := (bl.cell (p := ⟨w.heap.size + 1, 3, none⟩) (by show w.heap.size + 1 < w.heap.size + 2; omega)).trans (by go_simp)
                    have hOwn := Nat.lt_of_lt_of_le (n := (w.heap.size + 1)) (by first | exact Nat.le_refl _ | assumption | (simp; done) | (simp; omega) | omega) (Below.size bl)
                    have hOwn1 := Nat.ne_of_gt hOwn
                    have hOwn2 := Nat.ne_of_lt hOwn
                    have hOwn := (Below.cell bl (p := ⟨(w.heap.size + 1), 0, none⟩) (by first | exact Nat.le_refl _ | assumption | (simp; done) | (simp; omega) | omega)).trans (by go_simp; rfl)
                    have hOwn := (Below.cell bl (p := ⟨(w.heap.size + 1), 1, none⟩) (by first | exact Nat.le_refl _ | assumption | (simp; done) | (simp; omega) | omega)).trans (by go_simp; rfl)
                    have hOwn := (Below.cell bl (p := ⟨(w.heap.size + 1), 2, none⟩) (by first | exact Nat.le_refl _ | assumption | (simp; done) | (simp; omega) | omega)).trans (by go_simp; rfl)
                    have hOwn := (Below.cell bl (p := ⟨(w.heap.size + 1), 3, none⟩) (by first | exact Nat.le_refl _ | assumption | (simp; done) | (simp; omega) | omega)).trans (by go_simp; rfl)
                    have hOwn := (Below.cell bl (p := ⟨(w.heap.size + 1), 4, none⟩) (by first | exact Nat.le_refl _ | assumption | (simp; done) | (simp; omega) | omega)).trans (by go_simp; rfl)
                    have hOwn := (Below.frozen bl (p := ⟨(w.heap.size + 1), 0, none⟩) (by first | exact Nat.le_refl _ | assumption | (simp; done) | (simp; omega) | omega)).trans (by go_simp; rfl)
                    have hOwn := (Below.frozen bl (p := ⟨(w.heap.size + 1), 1, none⟩) (by first | exact Nat.le_refl _ | assumption | (simp; done) | (simp; omega) | omega)).trans (by go_simp; rfl)
                    have hOwn := (Below.frozen bl (p := ⟨(w.heap.size + 1), 2, none⟩) (by first | exact Nat.le_refl _ | assumption | (simp; done) | (simp; omega) | omega)).trans (by go_simp; rfl)
                    have hOwn := (Below.frozen bl (p := ⟨(w.heap.size + 1), 3, none⟩) (by first | exact Nat.le_refl _ | assumption | (simp; done) | (simp; omega) | omega)).trans (by go_simp; rfl)
                    have hOwn := (Below.frozen bl (p := ⟨(w.heap.size + 1), 4, none⟩) (by first | exact Nat.le_refl _ | assumption | (simp; done) | (simp; omega) | omega)).trans (by go_simp; rfl)
                    by_cases hpn : p < ni
                    · have h1 : p < its.length := by rw [← HNI.out]; exact hpn
                      have h2 : p < its'.length := by rw [HLI.out]; exact hpn
                      obtain ⟨b1, o1, X3, x3, X4, x4, e1, hb1, y0, y1, y2, y3, y4, ty⟩ := (RT.out.below blw).cells h1
                      obtain ⟨b2, o2, Z3, z3, Z4, z4, e2, hb2, v0, v1, v2, v3, v4, tv⟩ := (RU.out.below blw).cells h2
                      have IHp := Lib.hid (fun u => IH.out p h1 u)
                      have he := HE.out
                      by_cases hx : its[p]'h1 = its'[p]'h2
                      · have HE2 : Hid (∀ j (h1 : j < its.length) (h2 : j < its'.length), j < p + 1 → its[j]'h1 = its'[j]'h2) := fun j g1 g2 hj => by
                          rcases Nat.lt_or_ge j p with g | g
                          · exact he j g1 g2 g
                          · obtain rfl : j = p := by omega
                            exact hx
                        rw [← hx] at v0 v1 v2 v3 v4 tv
                        have I2 := Lib.hid (fun W a b => (IHp.out (its[p]'h1) W X3 X4 Z3 Z4 x3 x4 z3 z4 a b))
                        rw [J.same_refl] at I2
                        generalize its[p]'h1 = T at *
                        subst e1 e2
                        have TY := Lib.hid ty; have TV := Lib.hid tv
                        clear he hx h1 h2 ty tv IHp
                        go_wp2_with fail
                        go_region_held_law (fun w' => w'.cell? ⟨w.heap.size, 3, none⟩ = some (.slice (some ⟨b1, o1, none⟩) ni c3) ∧ w'.cell? ⟨w.heap.size + 1, 3, none⟩ = some (.slice (some ⟨b2, o2, none⟩) ni d3) ∧ w'.cell? ⟨b1, o1 + p * 5, none⟩ = some (.int .i64 T.k) ∧ w'.cell? ⟨b1, o1 + p * 5 + 1, none⟩ = some (.int .i64 T.n) ∧ w'.cell? ⟨b1, o1 + p * 5 + 2, none⟩ = some (.string T.t) ∧ w'.cell? ⟨b1, o1 + p * 5 + 3, none⟩ = some (.slice X3 T.its.length x3) ∧ w'.cell? ⟨b1, o1 + p * 5 + 4, none⟩ = some (.slice X4 T.ks.length x4) ∧ w'.cell? ⟨b2, o2 + p * 5, none⟩ = some (.int .i64 T.k) ∧ w'.cell? ⟨b2, o2 + p * 5 + 1, none⟩ = some (.int .i64 T.n) ∧ w'.cell? ⟨b2, o2 + p * 5 + 2, none⟩ = some (.string T.t) ∧ w'.cell? ⟨b2, o2 + p * 5 + 3, none⟩ = some (.slice Z3 T.its.length z3) ∧ w'.cell? ⟨b2, o2 + p * 5 + 4, none⟩ = some (.slice Z4 T.ks.length z4))
                          (exact ⟨(by first | with_reducible assumption | (go_simp; done)), (by first | with_reducible assumption | (go_simp; done)), (by first | with_reducible assumption | (go_simp; done)), (by first | with_reducible assumption | (go_simp; done)), (by first | with_reducible assumption | (go_simp; done)), (by first | with_reducible assumption | (go_simp; done)), (by first | with_reducible assumption | (go_simp; done)), (by first | with_reducible assumption | (go_simp; done)), (by first | with_reducible assumption | (go_simp; done)), (by first | with_reducible assumption | (go_simp; done)), (by first | with_reducible assumption | (go_simp; done)), (by first | with_reducible assumption | (go_simp; done))⟩)
                          (first | (go_at_call 37; refine (I2.out _ ((TY.out.more gsz2).drewN _) ((TV.out.more gsz2).drewN _)).mono ?_; rintro e w3 ⟨rfl, b3⟩; have k0 := (Below.cell b3 (p := ⟨w.heap.size, 3, none⟩) (by show w.heap.size < wr.heap.size; omega)).trans m1; have k1 := (Below.cell b3 (p := ⟨w.heap.size + 1, 3, none⟩) (by show w.heap.size + 1 < wr.heap.size; omega)).trans m2; have k2 := (Below.cell b3 (p := ⟨b1, o1 + p * 5, none⟩) (by show b1 < wr.heap.size; omega)).trans y0; have k3 := (Below.cell b3 (p := ⟨b1, o1 + p * 5 + 1, none⟩) (by show b1 < wr.heap.size; omega)).trans y1; have k4 := (Below.cell b3 (p := ⟨b1, o1 + p * 5 + 2, none⟩) (by show b1 < wr.heap.size; omega)).trans y2; have k5 := (Below.cell b3 (p := ⟨b1, o1 + p * 5 + 3, none⟩) (by show b1 < wr.heap.size; omega)).trans y3; have k6 := (Below.cell b3 (p := ⟨b1, o1 + p * 5 + 4, none⟩) (by show b1 < wr.heap.size; omega)).trans y4; have k7 := (Below.cell b3 (p := ⟨b2, o2 + p * 5, none⟩) (by show b2 < wr.heap.size; omega)).trans v0; have k8 := (Below.cell b3 (p := ⟨b2, o2 + p * 5 + 1, none⟩) (by show b2 < wr.heap.size; omega)).trans v1; have k9 := (Below.cell b3 (p := ⟨b2, o2 + p * 5 + 2, none⟩) (by show b2 < wr.heap.size; omega)).trans v2; have k10 := (Below.cell b3 (p := ⟨b2, o2 + p * 5 + 3, none⟩) (by show b2 < wr.heap.size; omega)).trans v3; have k11 := (Below.cell b3 (p := ⟨b2, o2 + p * 5 + 4, none⟩) (by show b2 < wr.heap.size; omega)).trans v4))
                        all_goals
                          go_wp2_with fail
                          go_roundw
                          case rel => exact ⟨p + 1, by omega, by go_num, HE2, (bel_drewN bl _).trans (b3.mono gsz)⟩
                          case measure => simp [intOf]; omega
                      · have Z := Lib.hid (NOI.out (fun e => hx (by subst e; rfl)))
                        have I2 := Lib.hid (fun W a b => (IHp.out (its'[p]'h2) W X3 X4 Z3 Z4 x3 x4 z3 z4 a b))
                        rw [J.same_no hx] at I2
                        generalize its[p]'h1 = T at *
                        generalize its'[p]'h2 = U at *
                        subst e1 e2
                        have TY := Lib.hid ty; have TV := Lib.hid tv
                        clear he hx h1 h2 ty tv IHp
                        go_wp2_with fail
                        go_region_held_law (fun w' => w'.cell? ⟨w.heap.size, 3, none⟩ = some (.slice (some ⟨b1, o1, none⟩) ni c3) ∧ w'.cell? ⟨w.heap.size + 1, 3, none⟩ = some (.slice (some ⟨b2, o2, none⟩) ni d3) ∧ w'.cell? ⟨b1, o1 + p * 5, none⟩ = some (.int .i64 T.k) ∧ w'.cell? ⟨b1, o1 + p * 5 + 1, none⟩ = some (.int .i64 T.n) ∧ w'.cell? ⟨b1, o1 + p * 5 + 2, none⟩ = some (.string T.t) ∧ w'.cell? ⟨b1, o1 + p * 5 + 3, none⟩ = some (.slice X3 T.its.length x3) ∧ w'.cell? ⟨b1, o1 + p * 5 + 4, none⟩ = some (.slice X4 T.ks.length x4) ∧ w'.cell? ⟨b2, o2 + p * 5, none⟩ = some (.int .i64 U.k) ∧ w'.cell? ⟨b2, o2 + p * 5 + 1, none⟩ = some (.int .i64 U.n) ∧ w'.cell? ⟨b2, o2 + p * 5 + 2, none⟩ = some (.string U.t) ∧ w'.cell? ⟨b2, o2 + p * 5 + 3, none⟩ = some (.slice Z3 U.its.length z3) ∧ w'.cell? ⟨b2, o2 + p * 5 + 4, none⟩ = some (.slice Z4 U.ks.length z4))
                          (exact ⟨(by first | with_reducible assumption | (go_simp; done)), (by first | with_reducible assumption | (go_simp; done)), (by first | with_reducible assumption | (go_simp; done)), (by first | with_reducible assumption | (go_simp; done)), (by first | with_reducible assumption | (go_simp; done)), (by first | with_reducible assumption | (go_simp; done)), (by first | with_reducible assumption | (go_simp; done)), (by first | with_reducible assumption | (go_simp; done)), (by first | with_reducible assumption | (go_simp; done)), (by first | with_reducible assumption | (go_simp; done)), (by first | with_reducible assumption | (go_simp; done)), (by first | with_reducible assumption | (go_simp; done))⟩)
                          (first | (go_at_call 37; refine (I2.out _ ((TY.out.more gsz2).drewN _) ((TV.out.more gsz2).drewN _)).mono ?_; rintro e w3 ⟨rfl, b3⟩; have k0 := (Below.cell b3 (p := ⟨w.heap.size, 3, none⟩) (by show w.heap.size < wr.heap.size; omega)).trans m1; have k1 := (Below.cell b3 (p := ⟨w.heap.size + 1, 3, none⟩) (by show w.heap.size + 1 < wr.heap.size; omega)).trans m2; have k2 := (Below.cell b3 (p := ⟨b1, o1 + p * 5, none⟩) (by show b1 < wr.heap.size; omega)).trans y0; have k3 := (Below.cell b3 (p := ⟨b1, o1 + p * 5 + 1, none⟩) (by show b1 < wr.heap.size; omega)).trans y1; have k4 := (Below.cell b3 (p := ⟨b1, o1 + p * 5 + 2, none⟩) (by show b1 < wr.heap.size; omega)).trans y2; have k5 := (Below.cell b3 (p := ⟨b1, o1 + p * 5 + 3, none⟩) (by show b1 < wr.heap.size; omega)).trans y3; have k6 := (Below.cell b3 (p := ⟨b1, o1 + p * 5 + 4, none⟩) (by show b1 < wr.heap.size; omega)).trans y4; have k7 := (Below.cell b3 (p := ⟨b2, o2 + p * 5, none⟩) (by show b2 < wr.heap.size; omega)).trans v0; have k8 := (Below.cell b3 (p := ⟨b2, o2 + p * 5 + 1, none⟩) (by show b2 < wr.heap.size; omega)).trans v1; have k9 := (Below.cell b3 (p := ⟨b2, o2 + p * 5 + 2, none⟩) (by show b2 < wr.heap.size; omega)).trans v2; have k10 := (Below.cell b3 (p := ⟨b2, o2 + p * 5 + 3, none⟩) (by show b2 < wr.heap.size; omega)).trans v3; have k11 := (Below.cell b3 (p := ⟨b2, o2 + p * 5 + 4, none⟩) (by show b2 < wr.heap.size; omega)).trans v4))
                        all_goals
                          go_wp2_with fail
                          go_ret
                          exact told_ret Z.out ((bel_drewN blw _).trans (b3.mono (by have := blw.size; exact this)))
                    · obtain rfl : p = ni := by omega
                      have EI : its = its' := List.ext_getElem (by rw [← HNI.out, HLI.out]) fun j g1 g2 => HE.out j g1 g2 (by rw [HNI.out]; exact g1)
                      have Z := Lib.hid (YES.out EI EK.out)
                      clear HE hpn EI
                      go_wp2_with fail
                      go_ret
                      exact told_ret Z.out blw
            · have q5 : ((its.length : Int) != (its'.length : Int)) = true := by rw [bne_iff_ne]; omega
              have Z := Lib.hid (J.same_no (a := .mk k n s its ks) (b := .mk k n s its' ks') (fun e => hli (congrArg (fun x => x.its.length) e)))
              clear hlk hli ht hu rt ft ru fu sb
              go_enter Tryd.func37, Tryd.ntmps37
              go_wp2_with fail
              go_ret
              exact told_ret Z.out (by (repeat' (first | with_reducible assumption | with_reducible exact Below.refl _ _ | (with_reducible refine Below.alloc ?_ ?_ _; rotate_left; focus ((first | exact Nat.le_refl _ | (simp; done) | (simp; omega) | omega | fail))) | (with_reducible refine Below.setCell ?_ ?_ _; rotate_left; focus ((first | exact Nat.le_refl _ | (simp; done) | (simp; omega) | omega | fail))) | with_reducible refine Mem.bel_drewN ?_ _ | with_reducible refine Below.drew ?_ | (with_reducible refine Mem.bel_call (by with_reducible assumption) ?_ ?_; focus ((first | exact Nat.le_refl _ | (simp; done) | (simp; omega) | omega | fail))) | fail)))
          · have q4 : ((ks.length : Int) != (ks'.length : Int)) = true := by rw [bne_iff_ne]; omega
            have Z := Lib.hid (J.same_no (a := .mk k n s its ks) (b := .mk k n s its' ks') (fun e => hlk (congrArg (fun x => x.ks.length) e)))
            clear hlk ht hu rt ft ru fu sb
            go_enter Tryd.func37, Tryd.ntmps37
            go_wp2_with fail
            go_ret
            exact told_ret Z.out (by (repeat' (first | with_reducible assumption | with_reducible exact Below.refl _ _ | (with_reducible refine Below.alloc ?_ ?_ _; rotate_left; focus ((first | exact Nat.le_refl _ | (simp; done) | (simp; omega) | omega | fail))) | (with_reducible refine Below.setCell ?_ ?_ _; rotate_left; focus ((first | exact Nat.le_refl _ | (simp; done) | (simp; omega) | omega | fail))) | with_reducible refine Mem.bel_drewN ?_ _ | with_reducible refine Below.drew ?_ | (with_reducible refine Mem.bel_call (by with_reducible assumption) ?_ ?_; focus ((first | exact Nat.le_refl _ | (simp; done) | (simp; omega) | omega | fail))) | fail)))
        · have sb1 : (s.toList != s'.toList) = true := by rw [sb]; simpa using hs
          have sb2 : (s.toList == s'.toList) = false := by rw [str_beq]; simpa using hs
          have Z := Lib.hid (J.same_no (a := .mk k n s its ks) (b := .mk k n s' its' ks') (fun e => hs (congrArg J.t e)))
          clear hs ht hu rt ft ru fu sb
          go_enter Tryd.func37, Tryd.ntmps37
          go_wp2_with fail
          go_ret
          exact told_ret Z.out (by (repeat' (first | with_reducible assumption | with_reducible exact Below.refl _ _ | (with_reducible refine Below.alloc ?_ ?_ _; rotate_left; focus ((first | exact Nat.le_refl _ | (simp; done) | (simp; omega) | omega | fail))) | (with_reducible refine Below.setCell ?_ ?_ _; rotate_left; focus ((first | exact Nat.le_refl _ | (simp; done) | (simp; omega) | omega | fail))) | with_reducible refine Mem.bel_drewN ?_ _ | with_reducible refine Below.drew ?_ | (with_reducible refine Mem.bel_call (by with_reducible assumption) ?_ ?_; focus ((first | exact Nat.le_refl _ | (simp; done) | (simp; omega) | omega | fail))) | fail)))
      · have q1 : (k != k) = false := by simp
        have q2 : (n != n') = true := by simpa using hn
        have Z := Lib.hid (J.same_no (a := .mk k n s its ks) (b := .mk k n' s' its' ks') (fun e => hn (congrArg J.n e)))
        clear hn ht hu rt ft ru fu
        go_enter Tryd.func37, Tryd.ntmps37
        go_wp2_with fail
        go_ret
        exact told_ret Z.out (by (repeat' (first | with_reducible assumption | with_reducible exact Below.refl _ _ | (with_reducible refine Below.alloc ?_ ?_ _; rotate_left; focus ((first | exact Nat.le_refl _ | (simp; done) | (simp; omega) | omega | fail))) | (with_reducible refine Below.setCell ?_ ?_ _; rotate_left; focus ((first | exact Nat.le_refl _ | (simp; done) | (simp; omega) | omega | fail))) | with_reducible refine Mem.bel_drewN ?_ _ | with_reducible refine Below.drew ?_ | (with_reducible refine Mem.bel_call (by with_reducible assumption) ?_ ?_; focus ((first | exact Nat.le_refl _ | (simp; done) | (simp; omega) | omega | fail))) | fail)))
    · have q1 : (k != k') = true := by simpa using hk
      have Z := Lib.hid (J.same_no (a := .mk k n s its ks) (b := .mk k' n' s' its' ks') (fun e => hk (congrArg J.k e)))
      clear hk ht hu rt ft ru fu
      go_enter Tryd.func37, Tryd.ntmps37
      go_wp2_with fail
      go_ret
      exact told_ret Z.out (by (repeat' (first | with_reducible assumption | with_reducible exact Below.refl _ _ | (with_reducible refine Below.alloc ?_ ?_ _; rotate_left; focus ((first | exact Nat.le_refl _ | (simp; done) | (simp; omega) | omega | fail))) | (with_reducible refine Below.setCell ?_ ?_ _; rotate_left; focus ((first | exact Nat.le_refl _ | (simp; done) | (simp; omega) | omega | fail))) | with_reducible refine Mem.bel_drewN ?_ _ | with_reducible refine Below.drew ?_ | (with_reducible refine Mem.bel_call (by with_reducible assumption) ?_ ?_; focus ((first | exact Nat.le_refl _ | (simp; done) | (simp; omega) | omega | fail))) | fail)))

theorem rsame_any (t u : J) (w : World) (A3 A4 D3 D4 : Option Addr) (c3 c4 d3 d4 : Nat)
    (ht : TreeC w w.heap.size t [.int .i64 t.k, .int .i64 t.n, .string t.t, .slice A3 t.its.length c3, .slice A4 t.ks.length c4])
    (hu : TreeC w w.heap.size u [.int .i64 u.k, .int .i64 u.n, .string u.t, .slice D3 u.its.length d3, .slice D4 u.ks.length d4]) :
    Calls Tryd.prog 37 #[.agg #[.int .i64 t.k, .int .i64 t.n, .string t.t, .slice A3 t.its.length c3, .slice A4 t.ks.length c4], .agg #[.int .i64 u.k, .int .i64 u.n, .string u.t, .slice D3 u.its.length d3, .slice D4 u.ks.length d4]] w (Told (J.same t u) w) :=
  rsame_at _ t u (Nat.le_refl _) w A3 A4 D3 D4 c3 c4 d3 d4 ht hu
end Go.Proofs.YtnfhikgfcdcpoaaDoor
/- The document's own answers for layer 7, at every tree: Deep, Get, Bulk. -/
namespace Go.Proofs.YtnfhikgfcdcpoaaDoor
open Go.ChangeShapes Go.WideShapes Go.ChangeAt Go.RowKit Mem

mutual
/-- How deep a tree is. -/
def J.deep : J → Nat
  | .mk k _ _ its _ => if k = 5 ∨ k = 6 then J.deeps its else 0
/-- One more than the deepest of some trees; 1 at least. -/
def J.deeps : List J → Nat
  | [] => 1
  | j :: r => max (J.deep j + 1) (J.deeps r)
end
theorem J.deep_in {j : J} (h : j.k = 5 ∨ j.k = 6) : j.deep = J.deeps j.its := by cases j; unfold J.deep; exact if_pos h
theorem J.deep_out {j : J} (h : ¬ (j.k = 5 ∨ j.k = 6)) : j.deep = 0 := by cases j; unfold J.deep; exact if_neg h
theorem J.deeps_snoc (l : List J) (j : J) : J.deeps (l ++ [j]) = max (J.deeps l) (j.deep + 1) := by
  induction l with
  | nil => simp only [List.nil_append, J.deeps]; omega
  | cons x r ih => simp only [List.cons_append, J.deeps, ih]; omega
theorem J.deeps_take {l : List J} {i : Nat} (h : i < l.length) : J.deeps (l.take (i + 1)) = max (J.deeps (l.take i)) ((l[i]'h).deep + 1) := by
  rw [List.take_succ_eq_append_getElem h, J.deeps_snoc]
theorem J.deeps_le (l : List J) (i : Nat) : J.deeps (l.take i) ≤ J.deeps l := by
  induction l generalizing i with
  | nil => simp
  | cons x r ih =>
    cases i with
    | zero => simp only [List.take_zero, J.deeps]; have := ih 0; simp only [List.take_zero, J.deeps] at this; omega
    | succ i => simp only [List.take_succ_cons, J.deeps]; have := ih i; omega
theorem J.deeps_pos (l : List J) : 1 ≤ J.deeps l := by
  cases l with
  | nil => exact Nat.le_refl _
  | cons x r => simp only [J.deeps]; omega
theorem J.deep_at {l : List J} {i : Nat} (h : i < l.length) : (l[i]'h).deep + 1 ≤ J.deeps l := by
  have := J.deeps_take h; have := J.deeps_le l (i + 1); omega

def Num_ (n : Nat) (w : World) (e : Ending) (w' : World) : Prop := e = .returned (.int .i64 (n : Int)) ∧ Below w.heap.size w w'
theorem num_ret {n : Nat} {z : Int} {w w' : World} (h : z = (n : Int)) (hb : Below w.heap.size w w') : Num_ n w (.returned (.int .i64 z)) w' := by subst h; exact ⟨rfl, hb⟩
end Go.Proofs.YtnfhikgfcdcpoaaDoor
