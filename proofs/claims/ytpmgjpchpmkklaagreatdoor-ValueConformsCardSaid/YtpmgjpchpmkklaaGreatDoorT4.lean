/- Joined by tools/bundle.py: JTSame JWt VMath SWt JNum. -/
import Derived.Deep.RegionHeldLaw
import Derived.Test.YtpmgjpchpmkklaaGreatDoorT1
import Derived.Test.YtpmgjpchpmkklaaGreatDoorT2
import Derived.Test.YtpmgjpchpmkklaaGreatDoorT3
import Derived.Test.YtpmgjpchpmkklaaGreatDoorT0
set_option maxRecDepth 100000
set_option maxHeartbeats 16000000
namespace Go.Proofs.YtpmgjpchpmkklaaGreatDoor
open Go.ChangeShapes Go.WideShapes Go.ChangeAt Go.RowKit Mem
theorem str_beq (a b : ByteArray) : (a.toList == b.toList) = decide (a = b) := by
 rw [Bool.eq_iff_iff, beq_iff_eq, decide_eq_true_eq, ByteArray.toList_eq, ByteArray.toList_eq]
 constructor
 · intro h; exact ByteArray.ext (Array.toList_inj.1 h)
 · intro h; rw [h]
theorem str_bne (a b : ByteArray) : (a.toList != b.toList) = !decide (a = b) := by unfold bne; rw [str_beq]
def Drewn7 (W w : World) : Prop := ∃ n, w = W.drewN n
def Told (b : Bool) (w : World) (e : Ending) (w' : World) : Prop := e = .returned (.bool b) ∧ Below w.heap.size w w'
theorem told_ret {b c : Bool} {w w' : World} (h : b = c) (hb : Below w.heap.size w w') : Told b w (.returned (.bool c)) w' := by subst h; exact ⟨rfl, hb⟩
theorem rsame_at : ∀ (N : Nat) (t u : J), SizeOf.sizeOf t ≤ N → ∀ (w : World) (A3 A4 D3 D4 : Option Addr) (c3 c4 d3 d4 : Nat),
 TreeC w w.heap.size t [.int .i64 t.k, .int .i64 t.n, .string t.t, .slice A3 t.its.length c3, .slice A4 t.ks.length c4] →
 TreeC w w.heap.size u [.int .i64 u.k, .int .i64 u.n, .string u.t, .slice D3 u.its.length d3, .slice D4 u.ks.length d4] →
 Calls Tryz.prog 57 #[.agg #[.int .i64 t.k, .int .i64 t.n, .string t.t, .slice A3 t.its.length c3, .slice A4 t.ks.length c4], .agg #[.int .i64 u.k, .int .i64 u.n, .string u.t, .slice D3 u.its.length d3, .slice D4 u.ks.length d4]] w (Told (J.same t u) w)
 | 0, t, _, h => by cases t; simp at h
 | N + 1, .mk k n s its ks, .mk k' n' s' its' ks', hN => by
  intro w A3 A4 D3 D4 c3 c4 d3 d4 ht hu
  have CS := cell_set
  simp only [J.k, J.n, J.t, J.its, J.ks] at ht hu ⊢
  obtain ⟨_, _, _, _, e, hc3, hc4, rt, ft⟩ := ht.out
  simp only [J.k, J.n, J.t, J.its, J.ks, List.cons.injEq, Value.slice.injEq, true_and, and_true] at e hc3 hc4 rt ft
  obtain ⟨⟨rfl, rfl⟩, rfl, rfl⟩ := e
  obtain ⟨_, _, _, _, e, hd3, hd4, ru, fu⟩ := hu.out
  simp only [J.k, J.n, J.t, J.its, J.ks, List.cons.injEq, Value.slice.injEq, true_and, and_true] at e hd3 hd4 ru fu
  obtain ⟨⟨rfl, rfl⟩, rfl, rfl⟩ := e
  by_cases hk : k = k'
  · subst hk
    by_cases hn : n = n'
    · subst hn
      have sb := str_bne s s'
      by_cases hs : s = s'
      · subst hs
        have sb1 : (s.toList != s.toList) = false := by rw [sb]; simp
        by_cases hlk : ks.length = ks'.length
        · have q4 : ((ks.length : Int) != (ks'.length : Int)) = false := by rw [bne_eq_false_iff_eq]; omega
          by_cases hli : its.length = its'.length
          · have q5 : ((its.length : Int) != (its'.length : Int)) = false := by rw [bne_eq_false_iff_eq]; omega
            have FT := Lib.hid ft; have FU := Lib.hid fu; have RT := Lib.hid rt; have RU := Lib.hid ru
            obtain ⟨nk, hnk⟩ : ∃ m, m = ks.length := ⟨_, rfl⟩
            obtain ⟨ni, hni⟩ : ∃ m, m = its.length := ⟨_, rfl⟩
            have HLK : Hid (ks'.length = nk) := hlk.symm.trans hnk.symm
            have HLI : Hid (its'.length = ni) := hli.symm.trans hni.symm
            have IH : Hid (∀ (i : Nat) (h1 : i < its.length) (u : J) (W : World) (A3 A4 D3 D4 : Option Addr) (c3 c4 d3 d4 : Nat),
             TreeC W W.heap.size (its[i]'h1) [.int .i64 (its[i]'h1).k, .int .i64 (its[i]'h1).n, .string (its[i]'h1).t, .slice A3 (its[i]'h1).its.length c3, .slice A4 (its[i]'h1).ks.length c4] →
             TreeC W W.heap.size u [.int .i64 u.k, .int .i64 u.n, .string u.t, .slice D3 u.its.length d3, .slice D4 u.ks.length d4] →
             Calls Tryz.prog 57 #[.agg #[.int .i64 (its[i]'h1).k, .int .i64 (its[i]'h1).n, .string (its[i]'h1).t, .slice A3 (its[i]'h1).its.length c3, .slice A4 (its[i]'h1).ks.length c4], .agg #[.int .i64 u.k, .int .i64 u.n, .string u.t, .slice D3 u.its.length d3, .slice D4 u.ks.length d4]] W (Told (J.same (its[i]'h1) u) W)) := fun i h1 u W A3 A4 D3 D4 c3 c4 d3 d4 a b =>
             rsame_at N (its[i]'h1) u (by have := J.lt_its (j := .mk k n s its ks) (i := i) h1; simp only [J.its] at this; omega) W A3 A4 D3 D4 c3 c4 d3 d4 a b
            have NOK : Hid (ks ≠ ks' → J.same (.mk k n s its ks) (.mk k n s its' ks') = false) := fun h => J.same_no fun e => h (congrArg J.ks e)
            have NOI : Hid (its ≠ its' → J.same (.mk k n s its ks) (.mk k n s its' ks') = false) := fun h => J.same_no fun e => h (congrArg J.its e)
            have YES : Hid (its = its' → ks = ks' → J.same (.mk k n s its ks) (.mk k n s its' ks') = true) := fun h1 h2 => by subst h1 h2; exact J.same_refl _
            generalize J.same (.mk k n s its ks) (.mk k n s its' ks') = R at *
            have HNK := Lib.hid hnk; have HNI := Lib.hid hni
            rw [← HNK.out, HLK.out] at q4
            rw [← HNI.out, HLI.out] at q5
            rw [← HNK.out, ← HNI.out, HLK.out, HLI.out]
            have nk0 : nk ≤ 9223372036854775807 := by have := hc4.2; unfold maxLen at this; omega
            have ni0 : ni ≤ 9223372036854775807 := by have := hc3.2; unfold maxLen at this; omega
            clear hnk hni ht hu rt ru ft fu hN hlk hli sb hc3 hc4 hd3 hd4
            go_enter Tryz.func57, Tryz.ntmps57
            go_wp2_with fail
            go_loopw [5] (fun t wr => ∃ i : Nat, i ≤ nk ∧ t = .int .i64 (i : Int) ∧ Hid (∀ j (h1 : j < ks.length) (h2 : j < ks'.length), j < i → ks[j]'h1 = ks'[j]'h2) ∧ Drewn7 ((w.alloc (.cells #[.int .i64 k, .int .i64 n, .string s, .slice A3 ni c3, .slice A4 nk c4] 49)).alloc (.cells #[.int .i64 k, .int .i64 n, .string s, .slice D3 ni d3, .slice D4 nk d4] 49)) wr) (fun t _ => nk - (intOf t).toNat)
            case atStart => exact ⟨0, by omega, rfl, fun _ _ _ h => absurd h (Nat.not_lt_zero _), ⟨0, rfl⟩⟩
            case round =>
             obtain ⟨i, hi, rfl, HE, ⟨nd, rfl⟩⟩ := hrel
             by_cases hik : i < nk
             · have h1 : i < ks.length := by rw [← HNK.out]; exact hik
               have h2 : i < ks'.length := by rw [HLK.out]; exact hik
               obtain ⟨b1, o1, e1, hb1, x1⟩ := fl_str FT.out h1
               obtain ⟨b2, o2, e2, hb2, x2⟩ := fl_str FU.out h2
               have he := HE.out
               by_cases hx : ks[i]'h1 = ks'[i]'h2
               · have HE2 : Hid (∀ j (h1 : j < ks.length) (h2 : j < ks'.length), j < i + 1 → ks[j]'h1 = ks'[j]'h2) := fun j g1 g2 hj => by
                  rcases Nat.lt_or_ge j i with g | g
                  · exact he j g1 g2 g
                  · obtain rfl : j = i := by omega
                    exact hx
                 rw [← hx] at x2
                 generalize ks[i]'h1 = X at *
                 have sx : (X.toList != X.toList) = false := by rw [str_bne]; simp
                 subst e1 e2
                 clear he hx h1 h2
                 go_wp2_with fail
                 go_quiet (fail)
                 go_wp2_with fail
                 go_roundw
                 case rel => exact ⟨i + 1, by omega, by go_num, HE2, ⟨_, rfl⟩⟩
                 case measure => simp [intOf]; omega
               · have Z := Lib.hid (NOK.out (fun e => hx (by subst e; rfl)))
                 have sx : ((ks[i]'h1).toList != (ks'[i]'h2).toList) = true := by rw [str_bne]; simpa using hx
                 have sx2 : ((ks[i]'h1).toList == (ks'[i]'h2).toList) = false := by rw [str_beq]; simpa using hx
                 generalize ks[i]'h1 = X at *
                 generalize ks'[i]'h2 = Y at *
                 subst e1 e2
                 clear he hx h1 h2
                 go_wp2_with fail
                 go_quiet (fail)
                 go_wp2_with fail
                 go_ret
                 exact told_ret Z.out bqq
             · obtain rfl : i = nk := by omega
               have EK : Hid (ks = ks') := List.ext_getElem (by rw [← HNK.out, HLK.out]) fun j g1 g2 => HE.out j g1 g2 (by rw [HNK.out]; exact g1)
               clear HE hik
               have G0 : Below w.heap.size w ((w.alloc (.cells #[.int .i64 k, .int .i64 n, .string s, .slice A3 ni c3, .slice A4 i c4] 49)).alloc (.cells #[.int .i64 k, .int .i64 n, .string s, .slice D3 ni d3, .slice D4 i d4] 49)) := ((Below.refl _ _).alloc (Nat.le_refl _) _).alloc (by simp) _
               have gz0 : ((w.alloc (.cells #[.int .i64 k, .int .i64 n, .string s, .slice A3 ni c3, .slice A4 i c4] 49)).alloc (.cells #[.int .i64 k, .int .i64 n, .string s, .slice D3 ni d3, .slice D4 i d4] 49)).heap.size = w.heap.size + 2 := by simp
               have GZ0 := Lib.hid gz0
               clear gz0
               go_wp2_with fail
               go_loopw [6] (fun t wr => ∃ p : Nat, p ≤ ni ∧ t = .int .i64 (p : Int) ∧ Hid (∀ j (h1 : j < its.length) (h2 : j < its'.length), j < p → its[j]'h1 = its'[j]'h2) ∧ Below (w.heap.size + 2) ((w.alloc (.cells #[.int .i64 k, .int .i64 n, .string s, .slice A3 ni c3, .slice A4 i c4] 49)).alloc (.cells #[.int .i64 k, .int .i64 n, .string s, .slice D3 ni d3, .slice D4 i d4] 49)) wr) (fun t _ => ni - (intOf t).toNat)
               case atStart => exact ⟨0, by omega, rfl, fun _ _ _ h => absurd h (Nat.not_lt_zero _), bel_drewN (Below.refl _ _) nd⟩
               case round =>
                obtain ⟨p, hp, rfl, HE, bl⟩ := hrel
                have gsz := bl.size
                rw [GZ0.out] at gsz
                have gsz2 : w.heap.size ≤ wr.heap.size := by omega
                have blw := G0.trans (bl.mono (by omega))
                have hOwn := Nat.lt_of_lt_of_le (n := w.heap.size) sdd (Below.size bl)
                have hOwn1 := Nat.ne_of_gt hOwn
                have hOwn2 := Nat.ne_of_lt hOwn
                have hOwn := ocl bl w.heap.size 0
                have hOwn := ocl bl w.heap.size 1
                have hOwn := ocl bl w.heap.size 2
                have hOwn := ocl bl w.heap.size 3
                have hOwn := ocl bl w.heap.size 4
                have hOwn := ofr bl w.heap.size 0
                have hOwn := ofr bl w.heap.size 1
                have hOwn := ofr bl w.heap.size 2
                have hOwn := ofr bl w.heap.size 3
                have hOwn := ofr bl w.heap.size 4
                have m1 : wr.cell? ⟨w.heap.size, 3, none⟩ = some (.slice A3 ni c3) := (bl.cell (p := ⟨w.heap.size, 3, none⟩) (by show w.heap.size < w.heap.size + 2; omega)).trans (by go_simp)
                have m2 : wr.cell? ⟨w.heap.size + 1, 3, none⟩ = some (.slice D3 ni d3) := (bl.cell (p := ⟨w.heap.size + 1, 3, none⟩) (by show w.heap.size + 1 < w.heap.size + 2; omega)).trans (by go_simp)
                have hOwn := Nat.lt_of_lt_of_le (n := (w.heap.size + 1)) sdd (Below.size bl)
                have hOwn1 := Nat.ne_of_gt hOwn
                have hOwn2 := Nat.ne_of_lt hOwn
                have hOwn := ocl bl ((w.heap.size + 1)) 0
                have hOwn := ocl bl ((w.heap.size + 1)) 1
                have hOwn := ocl bl ((w.heap.size + 1)) 2
                have hOwn := ocl bl ((w.heap.size + 1)) 3
                have hOwn := ocl bl ((w.heap.size + 1)) 4
                have hOwn := ofr bl ((w.heap.size + 1)) 0
                have hOwn := ofr bl ((w.heap.size + 1)) 1
                have hOwn := ofr bl ((w.heap.size + 1)) 2
                have hOwn := ofr bl ((w.heap.size + 1)) 3
                have hOwn := ofr bl ((w.heap.size + 1)) 4
                by_cases hpn : p < ni
                · have h1 : p < its.length := by rw [← HNI.out]; exact hpn
                  have h2 : p < its'.length := by rw [HLI.out]; exact hpn
                  obtain ⟨b1, o1, X3, x3, X4, x4, e1, hb1, y0, y1, y2, y3, y4, ty⟩ := (RT.out.below blw).cells h1
                  obtain ⟨b2, o2, Z3, z3, Z4, z4, e2, hb2, v0, v1, v2, v3, v4, tv⟩ := (RU.out.below blw).cells h2
                  have IHp := Lib.hid (fun u => IH.out p h1 u)
                  have he := HE.out
                  by_cases hx : its[p]'h1 = its'[p]'h2
                  · have HE2 : Hid (∀ j (h1 : j < its.length) (h2 : j < its'.length), j < p + 1 → its[j]'h1 = its'[j]'h2) := fun j g1 g2 hj => by
                     rcases Nat.lt_or_ge j p with g | g
                     · exact he j g1 g2 g
                     · obtain rfl : j = p := by omega
                       exact hx
                    rw [← hx] at v0 v1 v2 v3 v4 tv
                    have I2 := Lib.hid (fun W a b => (IHp.out (its[p]'h1) W X3 X4 Z3 Z4 x3 x4 z3 z4 a b))
                    rw [J.same_refl] at I2
                    generalize its[p]'h1 = T at *
                    subst e1 e2
                    have TY := Lib.hid ty; have TV := Lib.hid tv
                    clear he hx h1 h2 ty tv IHp
                    go_wp2_with fail
                    go_region_held_law (fun w' => w'.cell? ⟨w.heap.size, 3, none⟩ = some (.slice (some ⟨b1, o1, none⟩) ni c3) ∧ w'.cell? ⟨w.heap.size + 1, 3, none⟩ = some (.slice (some ⟨b2, o2, none⟩) ni d3) ∧ w'.cell? ⟨b1, o1 + p * 5, none⟩ = some (.int .i64 T.k) ∧ w'.cell? ⟨b1, o1 + p * 5 + 1, none⟩ = some (.int .i64 T.n) ∧ w'.cell? ⟨b1, o1 + p * 5 + 2, none⟩ = some (.string T.t) ∧ w'.cell? ⟨b1, o1 + p * 5 + 3, none⟩ = some (.slice X3 T.its.length x3) ∧ w'.cell? ⟨b1, o1 + p * 5 + 4, none⟩ = some (.slice X4 T.ks.length x4) ∧ w'.cell? ⟨b2, o2 + p * 5, none⟩ = some (.int .i64 T.k) ∧ w'.cell? ⟨b2, o2 + p * 5 + 1, none⟩ = some (.int .i64 T.n) ∧ w'.cell? ⟨b2, o2 + p * 5 + 2, none⟩ = some (.string T.t) ∧ w'.cell? ⟨b2, o2 + p * 5 + 3, none⟩ = some (.slice Z3 T.its.length z3) ∧ w'.cell? ⟨b2, o2 + p * 5 + 4, none⟩ = some (.slice Z4 T.ks.length z4))
                     (exact ⟨(by first | with_reducible assumption | (go_simp; done)), (by first | with_reducible assumption | (go_simp; done)), (by first | with_reducible assumption | (go_simp; done)), (by first | with_reducible assumption | (go_simp; done)), (by first | with_reducible assumption | (go_simp; done)), (by first | with_reducible assumption | (go_simp; done)), (by first | with_reducible assumption | (go_simp; done)), (by first | with_reducible assumption | (go_simp; done)), (by first | with_reducible assumption | (go_simp; done)), (by first | with_reducible assumption | (go_simp; done)), (by first | with_reducible assumption | (go_simp; done)), (by first | with_reducible assumption | (go_simp; done))⟩)
                     (first | (go_at_call 57; refine (I2.out _ ((TY.out.more gsz2).drewN _) ((TV.out.more gsz2).drewN _)).mono ?_; rintro e w3 ⟨rfl, b3⟩; have k0 := (Below.cell b3 (p := ⟨w.heap.size, 3, none⟩) (by show w.heap.size < wr.heap.size; omega)).trans m1; have k1 := (Below.cell b3 (p := ⟨w.heap.size + 1, 3, none⟩) (by show w.heap.size + 1 < wr.heap.size; omega)).trans m2; have k2 := (Below.cell b3 (p := ⟨b1, o1 + p * 5, none⟩) (by show b1 < wr.heap.size; omega)).trans y0; have k3 := (Below.cell b3 (p := ⟨b1, o1 + p * 5 + 1, none⟩) (by show b1 < wr.heap.size; omega)).trans y1; have k4 := (Below.cell b3 (p := ⟨b1, o1 + p * 5 + 2, none⟩) (by show b1 < wr.heap.size; omega)).trans y2; have k5 := (Below.cell b3 (p := ⟨b1, o1 + p * 5 + 3, none⟩) (by show b1 < wr.heap.size; omega)).trans y3; have k6 := (Below.cell b3 (p := ⟨b1, o1 + p * 5 + 4, none⟩) (by show b1 < wr.heap.size; omega)).trans y4; have k7 := (Below.cell b3 (p := ⟨b2, o2 + p * 5, none⟩) (by show b2 < wr.heap.size; omega)).trans v0; have k8 := (Below.cell b3 (p := ⟨b2, o2 + p * 5 + 1, none⟩) (by show b2 < wr.heap.size; omega)).trans v1; have k9 := (Below.cell b3 (p := ⟨b2, o2 + p * 5 + 2, none⟩) (by show b2 < wr.heap.size; omega)).trans v2; have k10 := (Below.cell b3 (p := ⟨b2, o2 + p * 5 + 3, none⟩) (by show b2 < wr.heap.size; omega)).trans v3; have k11 := (Below.cell b3 (p := ⟨b2, o2 + p * 5 + 4, none⟩) (by show b2 < wr.heap.size; omega)).trans v4))
                    all_goals
                     go_wp2_with fail
                     go_roundw
                     case rel => exact ⟨p + 1, by omega, by go_num, HE2, (bel_drewN bl _).trans (b3.mono gsz)⟩
                     case measure => simp [intOf]; omega
                  · have Z := Lib.hid (NOI.out (fun e => hx (by subst e; rfl)))
                    have I2 := Lib.hid (fun W a b => (IHp.out (its'[p]'h2) W X3 X4 Z3 Z4 x3 x4 z3 z4 a b))
                    rw [J.same_no hx] at I2
                    generalize its[p]'h1 = T at *
                    generalize its'[p]'h2 = U at *
                    subst e1 e2
                    have TY := Lib.hid ty; have TV := Lib.hid tv
                    clear he hx h1 h2 ty tv IHp
                    go_wp2_with fail
                    go_region_held_law (fun w' => w'.cell? ⟨w.heap.size, 3, none⟩ = some (.slice (some ⟨b1, o1, none⟩) ni c3) ∧ w'.cell? ⟨w.heap.size + 1, 3, none⟩ = some (.slice (some ⟨b2, o2, none⟩) ni d3) ∧ w'.cell? ⟨b1, o1 + p * 5, none⟩ = some (.int .i64 T.k) ∧ w'.cell? ⟨b1, o1 + p * 5 + 1, none⟩ = some (.int .i64 T.n) ∧ w'.cell? ⟨b1, o1 + p * 5 + 2, none⟩ = some (.string T.t) ∧ w'.cell? ⟨b1, o1 + p * 5 + 3, none⟩ = some (.slice X3 T.its.length x3) ∧ w'.cell? ⟨b1, o1 + p * 5 + 4, none⟩ = some (.slice X4 T.ks.length x4) ∧ w'.cell? ⟨b2, o2 + p * 5, none⟩ = some (.int .i64 U.k) ∧ w'.cell? ⟨b2, o2 + p * 5 + 1, none⟩ = some (.int .i64 U.n) ∧ w'.cell? ⟨b2, o2 + p * 5 + 2, none⟩ = some (.string U.t) ∧ w'.cell? ⟨b2, o2 + p * 5 + 3, none⟩ = some (.slice Z3 U.its.length z3) ∧ w'.cell? ⟨b2, o2 + p * 5 + 4, none⟩ = some (.slice Z4 U.ks.length z4))
                     (exact ⟨(by first | with_reducible assumption | (go_simp; done)), (by first | with_reducible assumption | (go_simp; done)), (by first | with_reducible assumption | (go_simp; done)), (by first | with_reducible assumption | (go_simp; done)), (by first | with_reducible assumption | (go_simp; done)), (by first | with_reducible assumption | (go_simp; done)), (by first | with_reducible assumption | (go_simp; done)), (by first | with_reducible assumption | (go_simp; done)), (by first | with_reducible assumption | (go_simp; done)), (by first | with_reducible assumption | (go_simp; done)), (by first | with_reducible assumption | (go_simp; done)), (by first | with_reducible assumption | (go_simp; done))⟩)
                     (first | (go_at_call 57; refine (I2.out _ ((TY.out.more gsz2).drewN _) ((TV.out.more gsz2).drewN _)).mono ?_; rintro e w3 ⟨rfl, b3⟩; have k0 := (Below.cell b3 (p := ⟨w.heap.size, 3, none⟩) (by show w.heap.size < wr.heap.size; omega)).trans m1; have k1 := (Below.cell b3 (p := ⟨w.heap.size + 1, 3, none⟩) (by show w.heap.size + 1 < wr.heap.size; omega)).trans m2; have k2 := (Below.cell b3 (p := ⟨b1, o1 + p * 5, none⟩) (by show b1 < wr.heap.size; omega)).trans y0; have k3 := (Below.cell b3 (p := ⟨b1, o1 + p * 5 + 1, none⟩) (by show b1 < wr.heap.size; omega)).trans y1; have k4 := (Below.cell b3 (p := ⟨b1, o1 + p * 5 + 2, none⟩) (by show b1 < wr.heap.size; omega)).trans y2; have k5 := (Below.cell b3 (p := ⟨b1, o1 + p * 5 + 3, none⟩) (by show b1 < wr.heap.size; omega)).trans y3; have k6 := (Below.cell b3 (p := ⟨b1, o1 + p * 5 + 4, none⟩) (by show b1 < wr.heap.size; omega)).trans y4; have k7 := (Below.cell b3 (p := ⟨b2, o2 + p * 5, none⟩) (by show b2 < wr.heap.size; omega)).trans v0; have k8 := (Below.cell b3 (p := ⟨b2, o2 + p * 5 + 1, none⟩) (by show b2 < wr.heap.size; omega)).trans v1; have k9 := (Below.cell b3 (p := ⟨b2, o2 + p * 5 + 2, none⟩) (by show b2 < wr.heap.size; omega)).trans v2; have k10 := (Below.cell b3 (p := ⟨b2, o2 + p * 5 + 3, none⟩) (by show b2 < wr.heap.size; omega)).trans v3; have k11 := (Below.cell b3 (p := ⟨b2, o2 + p * 5 + 4, none⟩) (by show b2 < wr.heap.size; omega)).trans v4))
                    all_goals
                     go_wp2_with fail
                     go_ret
                     exact told_ret Z.out ((bel_drewN blw _).trans (b3.mono (by have := blw.size; exact this)))
                · obtain rfl : p = ni := by omega
                  have EI : its = its' := List.ext_getElem (by rw [← HNI.out, HLI.out]) fun j g1 g2 => HE.out j g1 g2 (by rw [HNI.out]; exact g1)
                  have Z := Lib.hid (YES.out EI EK.out)
                  clear HE hpn EI
                  go_wp2_with fail
                  go_ret
                  exact told_ret Z.out blw
          · have q5 : ((its.length : Int) != (its'.length : Int)) = true := by rw [bne_iff_ne]; omega
            have Z := Lib.hid (J.same_no (a := .mk k n s its ks) (b := .mk k n s its' ks') (fun e => hli (congrArg (fun x => x.its.length) e)))
            clear hlk hli ht hu rt ft ru fu sb
            go_enter Tryz.func57, Tryz.ntmps57
            go_wp2_with fail
            go_ret
            exact told_ret Z.out bqq
        · have q4 : ((ks.length : Int) != (ks'.length : Int)) = true := by rw [bne_iff_ne]; omega
          have Z := Lib.hid (J.same_no (a := .mk k n s its ks) (b := .mk k n s its' ks') (fun e => hlk (congrArg (fun x => x.ks.length) e)))
          clear hlk ht hu rt ft ru fu sb
          go_enter Tryz.func57, Tryz.ntmps57
          go_wp2_with fail
          go_ret
          exact told_ret Z.out bqq
      · have sb1 : (s.toList != s'.toList) = true := by rw [sb]; simpa using hs
        have sb2 : (s.toList == s'.toList) = false := by rw [str_beq]; simpa using hs
        have Z := Lib.hid (J.same_no (a := .mk k n s its ks) (b := .mk k n s' its' ks') (fun e => hs (congrArg J.t e)))
        clear hs ht hu rt ft ru fu sb
        go_enter Tryz.func57, Tryz.ntmps57
        go_wp2_with fail
        go_ret
        exact told_ret Z.out bqq
    · have q1 : (k != k) = false := by simp
      have q2 : (n != n') = true := by simpa using hn
      have Z := Lib.hid (J.same_no (a := .mk k n s its ks) (b := .mk k n' s' its' ks') (fun e => hn (congrArg J.n e)))
      clear hn ht hu rt ft ru fu
      go_enter Tryz.func57, Tryz.ntmps57
      go_wp2_with fail
      go_ret
      exact told_ret Z.out bqq
  · have q1 : (k != k') = true := by simpa using hk
    have Z := Lib.hid (J.same_no (a := .mk k n s its ks) (b := .mk k' n' s' its' ks') (fun e => hk (congrArg J.k e)))
    clear hk ht hu rt ft ru fu
    go_enter Tryz.func57, Tryz.ntmps57
    go_wp2_with fail
    go_ret
    exact told_ret Z.out bqq
theorem rsame_any (t u : J) (w : World) (A3 A4 D3 D4 : Option Addr) (c3 c4 d3 d4 : Nat)
 (ht : TreeC w w.heap.size t [.int .i64 t.k, .int .i64 t.n, .string t.t, .slice A3 t.its.length c3, .slice A4 t.ks.length c4])
 (hu : TreeC w w.heap.size u [.int .i64 u.k, .int .i64 u.n, .string u.t, .slice D3 u.its.length d3, .slice D4 u.ks.length d4]) :
 Calls Tryz.prog 57 #[.agg #[.int .i64 t.k, .int .i64 t.n, .string t.t, .slice A3 t.its.length c3, .slice A4 t.ks.length c4], .agg #[.int .i64 u.k, .int .i64 u.n, .string u.t, .slice D3 u.its.length d3, .slice D4 u.ks.length d4]] w (Told (J.same t u) w) :=
 rsame_at _ t u (Nat.le_refl _) w A3 A4 D3 D4 c3 c4 d3 d4 ht hu
end Go.Proofs.YtpmgjpchpmkklaaGreatDoor
namespace Go.Proofs.YtpmgjpchpmkklaaGreatDoor
open Go.ChangeShapes Go.WideShapes Go.ChangeAt Go.RowKit Mem
mutual
/-- How deep a tree is. -/
def J.deep : J → Nat
 | .mk k _ _ its _ => if k = 5 ∨ k = 6 then J.deeps its else 0
/-- One more than the deepest of some trees; 1 at least. -/
def J.deeps : List J → Nat
 | [] => 1
 | j :: r => max (J.deep j + 1) (J.deeps r)
end
theorem J.deep_in {j : J} (h : j.k = 5 ∨ j.k = 6) : j.deep = J.deeps j.its := by cases j; unfold J.deep; exact if_pos h
theorem J.deep_out {j : J} (h : ¬ (j.k = 5 ∨ j.k = 6)) : j.deep = 0 := by cases j; unfold J.deep; exact if_neg h
theorem J.deeps_snoc (l : List J) (j : J) : J.deeps (l ++ [j]) = max (J.deeps l) (j.deep + 1) := by
 induction l with
 | nil => simp only [List.nil_append, J.deeps]; omega
 | cons x r ih => simp only [List.cons_append, J.deeps, ih]; omega
theorem J.deeps_take {l : List J} {i : Nat} (h : i < l.length) : J.deeps (l.take (i + 1)) = max (J.deeps (l.take i)) ((l[i]'h).deep + 1) := by
 rw [List.take_succ_eq_append_getElem h, J.deeps_snoc]
theorem J.deeps_le (l : List J) (i : Nat) : J.deeps (l.take i) ≤ J.deeps l := by
 induction l generalizing i with
 | nil => simp
 | cons x r ih =>
  cases i with
  | zero => simp only [List.take_zero, J.deeps]; have := ih 0; simp only [List.take_zero, J.deeps] at this; omega
  | succ i => simp only [List.take_succ_cons, J.deeps]; have := ih i; omega
theorem J.deeps_pos (l : List J) : 1 ≤ J.deeps l := by
 cases l with
 | nil => exact Nat.le_refl _
 | cons x r => simp only [J.deeps]; omega
theorem J.deep_at {l : List J} {i : Nat} (h : i < l.length) : (l[i]'h).deep + 1 ≤ J.deeps l := by
 have := J.deeps_take h; have := J.deeps_le l (i + 1); omega
def Num_ (n : Nat) (w : World) (e : Ending) (w' : World) : Prop := e = .returned (.int .i64 (n : Int)) ∧ Below w.heap.size w w'
theorem num_ret {n : Nat} {z : Int} {w w' : World} (h : z = (n : Int)) (hb : Below w.heap.size w w') : Num_ n w (.returned (.int .i64 z)) w' := by subst h; exact ⟨rfl, hb⟩
theorem rdeep_at : ∀ (N : Nat) (t : J), SizeOf.sizeOf t ≤ N → t.deep ≤ 1000000 → ∀ (w : World) (A3 A4 : Option Addr) (c3 c4 : Nat),
 TreeC w w.heap.size t [.int .i64 t.k, .int .i64 t.n, .string t.t, .slice A3 t.its.length c3, .slice A4 t.ks.length c4] →
 Calls Tryz.prog 79 #[.agg #[.int .i64 t.k, .int .i64 t.n, .string t.t, .slice A3 t.its.length c3, .slice A4 t.ks.length c4]] w (Num_ t.deep w)
 | 0, t, h => by cases t; simp at h
 | N + 1, .mk k n s its ks, hN => by
  intro hD w A3 A4 c3 c4 ht
  have CS := cell_set
  obtain ⟨_, _, _, _, e, hc3, hc4, rt, ft⟩ := ht.out
  simp only [J.k, J.n, J.t, J.its, J.ks, List.cons.injEq, Value.slice.injEq, true_and, and_true] at e hc3 hc4 rt ft
  obtain ⟨⟨rfl, rfl⟩, rfl, rfl⟩ := e
  have din := J.deep_in (j := .mk k n s its ks); have dout := J.deep_out (j := .mk k n s its ks)
  simp only [J.k, J.n, J.t, J.its, J.ks] at din dout ⊢
  by_cases hk : k = 5 ∨ k = 6
  · have d1 := din hk
    rw [d1] at hD ⊢
    have q : ((k != 5) && (k != 6)) = false := by rcases hk with rfl | rfl <;> rfl
    have q5 : (k != 5) = true ∧ (k != 6) = false ∨ (k != 5) = false := by rcases hk with rfl | rfl <;> simp
    have RT := Lib.hid rt
    obtain ⟨ni, hni⟩ : ∃ m, m = its.length := ⟨_, rfl⟩
    have HNI := Lib.hid hni
    have ni0 : ni ≤ 9223372036854775807 := by have := hc3.2; unfold maxLen at this; omega
    have IH : Hid (∀ (i : Nat) (h1 : i < its.length) (W : World) (A3 A4 : Option Addr) (c3 c4 : Nat),
     TreeC W W.heap.size (its[i]'h1) [.int .i64 (its[i]'h1).k, .int .i64 (its[i]'h1).n, .string (its[i]'h1).t, .slice A3 (its[i]'h1).its.length c3, .slice A4 (its[i]'h1).ks.length c4] →
     Calls Tryz.prog 79 #[.agg #[.int .i64 (its[i]'h1).k, .int .i64 (its[i]'h1).n, .string (its[i]'h1).t, .slice A3 (its[i]'h1).its.length c3, .slice A4 (its[i]'h1).ks.length c4]] W (Num_ (its[i]'h1).deep W)) := fun i h1 W A3 A4 c3 c4 a =>
     rdeep_at N (its[i]'h1) (by have := J.lt_its (j := .mk k n s its ks) (i := i) h1; simp only [J.its] at this; omega) (by have := J.deep_at h1; omega) W A3 A4 c3 c4 a
    have DS := Lib.hid (fun i h => J.deeps_take (l := its) (i := i) h)
    have DL := Lib.hid (fun i => J.deeps_le its i)
    have DA : Hid (J.deeps (its.take ni) = J.deeps its) := by show _ = _; rw [hni, List.take_length]
    obtain ⟨DI, hDI⟩ : ∃ d, d = J.deeps its := ⟨_, rfl⟩
    rw [← hDI] at DL DA hD ⊢
    obtain ⟨F, hF⟩ : ∃ F : Nat → Nat, F = fun i => J.deeps (its.take i) := ⟨_, rfl⟩
    have F0 : Hid (F 0 = 1) := by show _ = _; rw [hF]; rfl
    have FS : Hid (∀ i (h : i < its.length), F (i + 1) = max (F i) ((its[i]'h).deep + 1)) := fun i h => by rw [hF]; exact DS.out i h
    have FL : Hid (∀ i, F i ≤ DI) := fun i => by rw [hF]; exact DL.out i
    have FA : Hid (F ni = DI) := by show _ = _; rw [hF]; exact DA.out
    rw [← HNI.out]
    clear DS DL DA hF hDI hni ht rt ft hN d1 din dout hk
    have G0 : Below w.heap.size w (w.alloc (.cells #[.int .i64 k, .int .i64 n, .string s, .slice A3 ni c3, .slice A4 ks.length c4] 49)) := (Below.refl _ _).alloc (Nat.le_refl _) _
    have gz0 : (w.alloc (.cells #[.int .i64 k, .int .i64 n, .string s, .slice A3 ni c3, .slice A4 ks.length c4] 49)).heap.size = w.heap.size + 1 := by simp
    have GZ0 := Lib.hid gz0
    clear gz0 hc3 hc4
    rcases q5 with ⟨q5, q6⟩ | q5
    all_goals
     go_enter Tryz.func79, Tryz.ntmps79
     go_wp2_with fail
     go_loopw [3, 4] (fun m t wr => ∃ p : Nat, p ≤ ni ∧ t = .int .i64 (p : Int) ∧ m = .int .i64 (F p : Int) ∧ Below (w.heap.size + 1) (w.alloc (.cells #[.int .i64 k, .int .i64 n, .string s, .slice A3 ni c3, .slice A4 ks.length c4] 49)) wr) (fun _ t _ => ni - (intOf t).toNat)
     case atStart => exact ⟨0, by omega, rfl, by rw [F0.out]; rfl, Below.refl _ _⟩
     case round =>
      obtain ⟨p, hp, rfl, rfl, bl⟩ := hrel
      have gsz := bl.size
      rw [GZ0.out] at gsz
      have gsz2 : w.heap.size ≤ wr.heap.size := by omega
      have blw := G0.trans (bl.mono (by omega))
      have hOwn := Nat.lt_of_lt_of_le (n := w.heap.size) sdd (Below.size bl)
      have hOwn1 := Nat.ne_of_gt hOwn
      have hOwn2 := Nat.ne_of_lt hOwn
      have hOwn := ocl bl w.heap.size 0
      have hOwn := ocl bl w.heap.size 1
      have hOwn := ocl bl w.heap.size 2
      have hOwn := ocl bl w.heap.size 3
      have hOwn := ocl bl w.heap.size 4
      have hOwn := ofr bl w.heap.size 0
      have hOwn := ofr bl w.heap.size 1
      have hOwn := ofr bl w.heap.size 2
      have hOwn := ofr bl w.heap.size 3
      have hOwn := ofr bl w.heap.size 4
      by_cases hpn : p < ni
      · have h1 : p < its.length := by rw [← HNI.out]; exact hpn
        obtain ⟨b1, o1, X3, x3, X4, x4, e1, hb1, y0, y1, y2, y3, y4, ty⟩ := (RT.out.below blw).cells h1
        have I2 := Lib.hid (fun W a => IH.out p h1 W X3 X4 x3 x4 a)
        have fs := FS.out p h1
        have fl := FL.out (p + 1)
        generalize its[p]'h1 = T at *
        subst e1
        have TY := Lib.hid ty
        obtain ⟨dT, hdT⟩ : ∃ d, d = T.deep := ⟨_, rfl⟩
        rw [← hdT] at fs I2
        clear ty h1 hdT
        by_cases hm : F p < dT + 1
        · have FS1 : Hid (F (p + 1) = dT + 1) := by show _ = _; omega
          have hd1 : dT ≤ 1000000 := by omega
          have qm : (F p : Int) < (dT : Int) + 1 := by omega
          clear fs fl hm
          go_wp2_with fail
          with_reducible refine (I2.out _ (TY.out.more gsz2)).mono ?_
          rintro e w3 ⟨rfl, b3⟩
          go_wp2_with fail
          go_roundw
          case rel => exact ⟨p + 1, by omega, by go_num, by rw [FS1.out]; congr 1, bl.trans (b3.mono gsz)⟩
          case measure => simp [intOf]; omega
        · have FS1 : Hid (F (p + 1) = F p) := by show _ = _; omega
          have hd1 : dT ≤ 1000000 := by omega
          have qm : ¬ (F p : Int) < (dT : Int) + 1 := by omega
          clear fs fl hm
          go_wp2_with fail
          with_reducible refine (I2.out _ (TY.out.more gsz2)).mono ?_
          rintro e w3 ⟨rfl, b3⟩
          go_wp2_with fail
          go_roundw
          case rel => exact ⟨p + 1, by omega, by go_num, by rw [FS1.out], bl.trans (b3.mono gsz)⟩
          case measure => simp [intOf]; omega
      · obtain rfl : p = ni := by omega
        have Z := Lib.hid FA.out
        clear hpn
        go_wp2_with fail
        go_ret
        exact num_ret (by rw [Z.out]) blw
  · have d0 := dout hk
    have q5 : (k != 5) = true := by rw [bne_iff_ne]; omega
    have q6 : (k != 6) = true := by rw [bne_iff_ne]; omega
    have Z := Lib.hid d0
    clear ht rt ft din dout hk
    go_enter Tryz.func79, Tryz.ntmps79
    go_wp2_with fail
    go_ret
    exact num_ret (by rw [Z.out]; rfl) bqq
end Go.Proofs.YtpmgjpchpmkklaaGreatDoor
namespace Go.Proofs.YtpmgjpchpmkklaaGreatDoor
theorem J.deeps_bound {M : Nat} (hM : 1 ≤ M) : ∀ {l : List J}, (∀ i (h : i < l.length), (l[i]'h).deep + 1 ≤ M) → J.deeps l ≤ M
 | [], _ => by unfold J.deeps; exact hM
 | j :: r, h => by
  unfold J.deeps
  have h0 := h 0 (by simp)
  have hr := J.deeps_bound hM (l := r) (fun i hi => by have := h (i + 1) (by simpa using hi); simpa using this)
  simp at h0
  omega
theorem J.deep_bound {j : J} {M : Nat} (hM : 1 ≤ M) (h : ∀ i (g : i < j.its.length), (j.its[i]'g).deep + 1 ≤ M) : j.deep ≤ M := by
 by_cases hk : j.k = 5 ∨ j.k = 6
 · rw [J.deep_in hk]; exact J.deeps_bound hM h
 · rw [J.deep_out hk]; omega
def kwt : List ByteArray → Nat
 | [] => 0
 | k :: r => 1 + k.size + kwt r
mutual
/-- How many parts and bytes a tree has. -/
def J.wt : J → Nat
 | .mk _ _ t its ks => 1 + t.size + kwt ks + J.wts its
def J.wts : List J → Nat
 | [] => 0
 | j :: r => J.wt j + J.wts r
end
theorem kwt_take : ∀ {l : List ByteArray} {i : Nat} (h : i < l.length), kwt (l.take (i + 1)) = kwt (l.take i) + 1 + (l[i]'h).size
 | [], _, h => absurd h (Nat.not_lt_zero _)
 | k :: r, 0, _ => by simp [kwt]
 | k :: r, i + 1, h => by
  have := kwt_take (l := r) (i := i) (by simpa using h)
  simp only [List.take_succ_cons, kwt, List.getElem_cons_succ]; omega
theorem J.wts_take : ∀ {l : List J} {i : Nat} (h : i < l.length), J.wts (l.take (i + 1)) = J.wts (l.take i) + (l[i]'h).wt
 | [], _, h => absurd h (Nat.not_lt_zero _)
 | k :: r, 0, _ => by simp [J.wts]
 | k :: r, i + 1, h => by
  have := J.wts_take (l := r) (i := i) (by simpa using h)
  simp only [List.take_succ_cons, J.wts, List.getElem_cons_succ]; omega
theorem kwt_at : ∀ {l : List ByteArray} {i : Nat} (h : i < l.length), (l[i]'h).size ≤ kwt l
 | [], _, h => absurd h (Nat.not_lt_zero _)
 | k :: r, 0, _ => by simp [kwt]; omega
 | k :: r, i + 1, h => by
  have := kwt_at (l := r) (i := i) (by simpa using h)
  simp only [kwt, List.getElem_cons_succ]; omega
theorem wts_at : ∀ {l : List J} {i : Nat} (h : i < l.length), (l[i]'h).wt ≤ J.wts l
 | [], _, h => absurd h (Nat.not_lt_zero _)
 | k :: r, 0, _ => by simp [J.wts]
 | k :: r, i + 1, h => by
  have := wts_at (l := r) (i := i) (by simpa using h)
  simp only [J.wts, List.getElem_cons_succ]; omega
def deepK (k : Int) : Prop := k = 9 ∨ k = 11 ∨ k = 12 ∨ k = 13
instance (k : Int) : Decidable (deepK k) := by unfold deepK; infer_instance
mutual
/-- How deep a value is. -/
def V.deep : V → Nat
 | .mk k _ _ _ its _ => if deepK k then V.deeps its + 1 else 0
/-- The deepest of some values; 0. -/
def V.deeps : List V → Nat
 | [] => 0
 | v :: r => max (V.deep v) (V.deeps r)
end
theorem V.deep_in {v : V} (h : deepK v.k) : v.deep = V.deeps v.its + 1 := by cases v; unfold V.deep; exact if_pos h
theorem V.deep_out {v : V} (h : ¬ deepK v.k) : v.deep = 0 := by cases v; unfold V.deep; exact if_neg h
theorem V.deeps_snoc (l : List V) (v : V) : V.deeps (l ++ [v]) = max (V.deeps l) v.deep := by
 induction l with
 | nil => simp only [List.nil_append, V.deeps]; omega
 | cons x r ih => simp only [List.cons_append, V.deeps, ih]; omega
theorem V.deeps_take {l : List V} {i : Nat} (h : i < l.length) : V.deeps (l.take (i + 1)) = max (V.deeps (l.take i)) (l[i]'h).deep := by
 rw [List.take_succ_eq_append_getElem h, V.deeps_snoc]
theorem V.deeps_le (l : List V) (i : Nat) : V.deeps (l.take i) ≤ V.deeps l := by
 induction l generalizing i with
 | nil => simp
 | cons x r ih =>
  cases i with
  | zero => simp [V.deeps]
  | succ i => simp only [List.take_succ_cons, V.deeps]; have := ih i; omega
theorem V.deeps_at {l : List V} {i : Nat} (h : i < l.length) : (l[i]'h).deep ≤ V.deeps l := by
 have h1 := V.deeps_take h
 have h2 := V.deeps_le l (i + 1)
 omega
mutual
/-- How many parts and bytes a value has. -/
def V.wt : V → Nat
 | .mk _ _ _ bs its ks => 1 + bs.length + kwt ks + V.wts its
def V.wts : List V → Nat
 | [] => 0
 | j :: r => V.wt j + V.wts r
end
theorem V.wts_take : ∀ {l : List V} {i : Nat} (h : i < l.length), V.wts (l.take (i + 1)) = V.wts (l.take i) + (l[i]'h).wt
 | [], _, h => absurd h (Nat.not_lt_zero _)
 | k :: r, 0, _ => by simp [V.wts]
 | k :: r, i + 1, h => by
  have := V.wts_take (l := r) (i := i) (by simpa using h)
  simp only [List.take_succ_cons, V.wts, List.getElem_cons_succ]; omega
theorem vwts_at : ∀ {l : List V} {i : Nat} (h : i < l.length), (l[i]'h).wt ≤ V.wts l
 | [], _, h => absurd h (Nat.not_lt_zero _)
 | k :: r, 0, _ => by simp [V.wts]
 | k :: r, i + 1, h => by
  have := vwts_at (l := r) (i := i) (by simpa using h)
  simp only [V.wts, List.getElem_cons_succ]; omega
theorem vwts_len : ∀ (l : List V), l.length ≤ V.wts l
 | [] => Nat.zero_le _
 | .mk _ _ _ _ _ _ :: r => by have := vwts_len r; simp only [List.length_cons, V.wts, V.wt]; omega
def Sc.node (s : Sc) (a : Int) : Nd := (s.nodes[a.toNat]?).getD ⟨0, ⟨#[]⟩, [], [], [], false, ⟨#[]⟩, 0, 0, []⟩
def VOwn (nd : Nd) (n bt : Int) (bs : List UInt8) (m : Nat) (ks : List ByteArray) : Prop :=
 (if nd.k = 2 then n = 0 ∨ n = 1 else if nd.k = 3 then -2147483648 ≤ n ∧ n ≤ 2147483647 else if nd.k = 4 then True else if nd.k = 10 then 0 ≤ n ∧ n < (nd.sy.length : Int) else if nd.k = 13 then 0 ≤ n ∧ n < (nd.br.length : Int) else n = 0) ∧
 (if nd.k = 5 then bt < 4294967296 else if nd.k = 6 then True else bt = 0) ∧
 (if nd.k = 7 then True else if nd.k = 8 then (Num.cU bs).isSome = true else if nd.k = 14 then (bs.length : Int) = nd.size else bs = []) ∧
 (if nd.k = 12 then ks.length = m ∧ ∀ x ∈ ks, x.size ≤ 20000 ∧ (Num.cU x.data.toList).isSome = true else ks = [])
def VKids (nd : Nd) (n : Int) (m : Nat) : List Int := if nd.k = 9 then nd.fs.map Fd.ty else if nd.k = 11 ∨ nd.k = 12 then List.replicate m nd.items else if nd.k = 13 then (nd.br[n.toNat]?).toList else []
mutual
/-- Is a value one of a node? -/
def V.is (s : Sc) : V → Int → Prop
 | .mk k n bt bs its ks, a => 0 ≤ a ∧ a < (s.nodes.length : Int) ∧ k = (s.node a).k ∧ bs.length ≤ 20000 ∧ its.length ≤ 300 ∧ VOwn (s.node a) n bt bs its.length ks ∧ V.all s its (VKids (s.node a) n its.length)
def V.all (s : Sc) : List V → List Int → Prop
 | [], ts => ts = []
 | v :: r, ts => ∃ t q, ts = t :: q ∧ V.is s v t ∧ V.all s r q
end
theorem V.all_iff {s : Sc} : ∀ {l : List V} {ts : List Int}, V.all s l ts ↔ ts.length = l.length ∧ ∀ i (h : i < l.length) (g : i < ts.length), V.is s (l[i]'h) (ts[i]'g)
 | [], ts => by
  unfold V.all
  constructor
  · rintro rfl; exact ⟨rfl, fun i h => absurd h (Nat.not_lt_zero _)⟩
  · rintro ⟨h, _⟩; exact List.length_eq_zero_iff.1 h
 | v :: r, ts => by
  unfold V.all
  constructor
  · rintro ⟨t, q, rfl, h1, h2⟩
    obtain ⟨h3, h4⟩ := V.all_iff.1 h2
    refine ⟨by simp [h3], fun i h g => ?_⟩
    cases i with
    | zero => exact h1
    | succ i => exact h4 i (by simpa using h) (by simpa using g)
  · rintro ⟨h1, h2⟩
    cases ts with
    | nil => simp at h1
    | cons t q => exact ⟨t, q, rfl, h2 0 (by simp) (by simp), V.all_iff.2 ⟨by simpa using h1, fun i h g => h2 (i + 1) (by simpa using h) (by simpa using g)⟩⟩
def capF (W : Nat → Nat) : List Int → Nat → Nat
 | [], w => w
 | k :: r, w => capF W r (min (w + W k.toNat) 1001)
def wtR (s : Sc) : Nat → Nat → Nat
 | 0, _ => 1
 | r + 1, i => if s.kind i = 9 then capF (wtR s r) (s.kidsAt i) 1 else 1
theorem capF_mono {W V : Nat → Nat} (h : ∀ i, W i ≤ V i) : ∀ (l : List Int) (a b : Nat), a ≤ b → capF W l a ≤ capF V l b
 | [], _, _, hab => hab
 | k :: r, a, b, hab => by
  unfold capF
  exact capF_mono h r _ _ (by have := h k.toNat; omega)
theorem capF_le (W : Nat → Nat) : ∀ (l : List Int) (a : Nat), a ≤ 1001 → capF W l a ≤ 1001
 | [], _, h => h
 | k :: r, a, h => by
  unfold capF
  exact capF_le W r _ (by omega)
theorem capF_ge (W : Nat → Nat) : ∀ (l : List Int) (a : Nat), min a 1001 ≤ capF W l a
 | [], a => by unfold capF; omega
 | k :: r, a => by
  unfold capF
  have := capF_ge W r (min (a + W k.toNat) 1001)
  omega
theorem wtR_le (s : Sc) : ∀ (r i : Nat), wtR s r i ≤ 1001
 | 0, _ => by unfold wtR; omega
 | r + 1, i => by
  unfold wtR
  split
  · exact capF_le _ _ _ (by omega)
  · omega
theorem wtR_pos (s : Sc) : ∀ (r i : Nat), 1 ≤ wtR s r i
 | 0, _ => by unfold wtR; omega
 | r + 1, i => by
  unfold wtR
  split
  · have := capF_ge (wtR s r) (s.kidsAt i) 1; omega
  · omega
theorem wtR_mono (s : Sc) : ∀ (r i : Nat), wtR s r i ≤ wtR s (r + 1) i
 | 0, i => by have := wtR_pos s 1 i; unfold wtR at this ⊢; exact this
 | r + 1, i => by
  rw [wtR, wtR]
  split
  · exact capF_mono (wtR_mono s r) _ _ _ (Nat.le_refl _)
  · omega
theorem wtR_out {s : Sc} {i : Nat} (h : s.nodes.length ≤ i) : ∀ r, wtR s r i = 1
 | 0 => by unfold wtR; rfl
 | r + 1 => by
  unfold wtR
  have : s.kind i ≠ 9 := by
   unfold Sc.kind
   rw [if_pos (by omega), Int.toNat_natCast, List.getElem?_eq_none h]
   decide
  rw [if_neg this]
def sumN (W : Nat → Nat) : Nat → Nat
 | 0 => 0
 | n + 1 => sumN W n + W n
theorem sumN_le {W V : Nat → Nat} (h : ∀ i, W i ≤ V i) : ∀ n, sumN W n ≤ sumN V n
 | 0 => Nat.le_refl _
 | n + 1 => by unfold sumN; have := sumN_le h n; have := h n; omega
theorem sumN_lt {W V : Nat → Nat} (h : ∀ i, W i ≤ V i) : ∀ {n i : Nat}, i < n → W i < V i → sumN W n < sumN V n
 | 0, _, hi, _ => absurd hi (Nat.not_lt_zero _)
 | n + 1, i, hi, hl => by
  unfold sumN
  rcases Nat.lt_or_ge i n with g | g
  · have := sumN_lt h g hl; have := h n; omega
  · obtain rfl : i = n := by omega
    have := sumN_le h i; omega
theorem sumN_bound {W : Nat → Nat} {M : Nat} (h : ∀ i, W i ≤ M) : ∀ n, sumN W n ≤ M * n
 | 0 => Nat.zero_le _
 | n + 1 => by unfold sumN; have := sumN_bound h n; have := h n; rw [Nat.mul_succ]; omega
theorem wtR_stays {s : Sc} {r : Nat} (h : wtR s (r + 1) = wtR s r) : ∀ k, wtR s (r + k) = wtR s r
 | 0 => rfl
 | k + 1 => by
  have ih := wtR_stays h k
  funext i
  show wtR s (r + k + 1) i = _
  rw [wtR, ih, ← h, wtR]
  rw [h]
theorem wtR_stable (s : Sc) : ∃ r, r ≤ 1001 * s.nodes.length ∧ wtR s (r + 1) = wtR s r := by
 by_cases h : ∃ r, r ≤ 1001 * s.nodes.length ∧ wtR s (r + 1) = wtR s r
 · exact h
 · exfalso
   have grow : ∀ r, r ≤ 1001 * s.nodes.length → sumN (wtR s r) s.nodes.length < sumN (wtR s (r + 1)) s.nodes.length := fun r hr => by
    have ne : wtR s (r + 1) ≠ wtR s r := fun e => h ⟨r, hr, e⟩
    have : ∃ i, i < s.nodes.length ∧ wtR s r i < wtR s (r + 1) i := by
     apply Classical.byContradiction
     intro hn
     apply ne
     funext i
     have m := wtR_mono s r i
     rcases Nat.lt_or_ge i s.nodes.length with g | g
     · rcases Nat.lt_or_ge (wtR s r i) (wtR s (r + 1) i) with g2 | g2
       · exact absurd ⟨i, g, g2⟩ hn
       · omega
     · rw [wtR_out g, wtR_out g]
    obtain ⟨i, hi, hl⟩ := this
    exact sumN_lt (wtR_mono s r) hi hl
   have least : ∀ r, r ≤ 1001 * s.nodes.length + 1 → r ≤ sumN (wtR s r) s.nodes.length := by
    intro r
    induction r with
    | zero => exact fun _ => Nat.zero_le _
    | succ r ih => intro hr; have := ih (by omega); have := grow r (by omega); omega
   have a := least (1001 * s.nodes.length + 1) (Nat.le_refl _)
   have b := sumN_bound (wtR_le s (1001 * s.nodes.length + 1)) s.nodes.length
   omega
def Sc.wt (s : Sc) (i : Nat) : Nat := wtR s (1001 * s.nodes.length) i
theorem Sc.wt_fix (s : Sc) (i : Nat) : s.wt i = if s.kind i = 9 then capF s.wt (s.kidsAt i) 1 else 1 := by
 obtain ⟨r, hr, he⟩ := wtR_stable s
 have e1 : wtR s (1001 * s.nodes.length) = wtR s r := by
  have := wtR_stays he (1001 * s.nodes.length - r)
  rwa [show r + (1001 * s.nodes.length - r) = 1001 * s.nodes.length by omega] at this
 have e2 : s.wt = wtR s r := e1
 rw [e2, ← he, wtR, he]
theorem Sc.wt_le (s : Sc) (i : Nat) : 1 ≤ s.wt i ∧ s.wt i ≤ 1001 := ⟨wtR_pos _ _ _, wtR_le _ _ _⟩
theorem capF_snoc (W : Nat → Nat) (k : Int) : ∀ (l : List Int) (w : Nat), capF W (l ++ [k]) w = min (capF W l w + W k.toNat) 1001
 | [], w => rfl
 | x :: r, w => by
  rw [List.cons_append]
  unfold capF
  exact capF_snoc W k r _
end Go.Proofs.YtpmgjpchpmkklaaGreatDoor
namespace Go.Proofs.YtpmgjpchpmkklaaGreatDoor
def meetM (s : Sc) (f m : Nat) (p : Int) : Option Nat := if p < 0 ∨ (m : Int) < p ∨ (p < (m : Int) ∧ named (s.kind p) = false) then none else if p = (m : Int) then met s f m else some m
theorem metK_cons (s : Sc) (f m : Nat) (k : Int) (r : List Int) : metK s f (k :: r) m = (meetM s f m k).bind (metK s f r) := by
 rw [metK]
 unfold meetM
 split
 · rfl
 · split
   · cases met s f m <;> rfl
   · rfl
theorem metK_some {s : Sc} {f m m' : Nat} {k : Int} {r : List Int} (h : meetM s f m k = some m') : metK s f (k :: r) m = metK s f r m' := by rw [metK_cons, h]; rfl
theorem metK_none {s : Sc} {f m : Nat} {k : Int} {r : List Int} (h : meetM s f m k = none) : metK s f (k :: r) m = none := by rw [metK_cons, h]; rfl
theorem meetM_le {s : Sc} {f m m' : Nat} {p : Int} (hm : m ≤ s.nodes.length) (h : meetM s f m p = some m') : m' ≤ s.nodes.length := by
 unfold meetM at h
 split at h
 · cases h
 · split at h
   · exact (met_good s f m m' h).2.1
   · injection h with h; omega
theorem met_in {s : Sc} {f m : Nat} (h : m < s.nodes.length) : met s (f + 1) m = metK s f (s.kidsAt m) (m + 1) := by rw [met, if_neg (by omega)]
theorem met_out {s : Sc} {f m : Nat} (h : s.nodes.length ≤ m) : met s f m = none := by
 cases f with
 | zero => rw [met]
 | succ f => rw [met, if_pos h]
def Sc.edge (s : Sc) (i j : Nat) : Prop := s.kind i = 9 ∧ (j : Int) ∈ s.kidsAt i
inductive Sc.path (s : Sc) : Nat → Nat → Prop where
 | one {i j : Nat} (h : s.edge i j) : Sc.path s i j
 | more {i j k : Nat} (h : Sc.path s i j) (e : s.edge j k) : Sc.path s i k
theorem capF_in (W : Nat → Nat) : ∀ (l : List Int) (a : Nat) (k : Int), k ∈ l → min (a + W k.toNat) 1001 ≤ capF W l a
 | [], _, _, h => by simp at h
 | q :: r, a, k, h => by
  unfold capF
  rcases List.mem_cons.1 h with e | e
  · subst e
    have := capF_ge W r (min (a + W k.toNat) 1001); omega
  · have := capF_in W r (min (a + W q.toNat) 1001) k e; omega
theorem edge_wt {s : Sc} {i j : Nat} (h : s.edge i j) : min (1 + s.wt j) 1001 ≤ s.wt i := by
 rw [s.wt_fix i, if_pos h.1]
 have := capF_in s.wt (s.kidsAt i) 1 _ h.2
 simpa using this
theorem path_wt {s : Sc} {i j : Nat} (h : s.path i j) : min (1 + s.wt j) 1001 ≤ s.wt i := by
 induction h with
 | one h => exact edge_wt h
 | more h e ih => have := edge_wt e; omega
theorem path_self {s : Sc} {i : Nat} (h : s.path i i) : s.wt i = 1001 := by
 have := path_wt h; have := (s.wt_le i).2; omega
def Wok (s : Sc) (a : Nat) (W : List Nat) : Prop := ∀ i (h : i < W.length), W[i]'h = 0 ∨ W[i]'h = s.wt i ∨ (W[i]'h = 1001 ∧ s.path i a)
def Won (s : Sc) (W W' : List Nat) : Prop := W'.length = W.length ∧ ∀ i (h : i < W.length) (h' : i < W'.length), (W[i]'h ≠ 0 → W'[i]'h' = W[i]'h) ∧ (W[i]'h = 0 → W'[i]'h' = 0 ∨ W'[i]'h' = s.wt i)
theorem Won.refl (s : Sc) (W : List Nat) : Won s W W := ⟨rfl, fun _ _ _ => ⟨fun _ => rfl, fun h => .inl h⟩⟩
theorem Won.trans {s : Sc} {A B C : List Nat} (h : Won s A B) (k : Won s B C) : Won s A C := by
 refine ⟨k.1.trans h.1, fun i h1 h2 => ?_⟩
 have h3 : i < B.length := by rw [h.1]; exact h1
 obtain ⟨a1, a2⟩ := h.2 i h1 h3
 obtain ⟨b1, b2⟩ := k.2 i h3 h2
 constructor
 · intro e; rw [b1 (by rw [a1 e]; exact e), a1 e]
 · intro e
   rcases a2 e with g | g
   · exact b2 g
   · right
     rw [b1 (by rw [g]; have := (s.wt_le i).1; omega), g]
def zeros (W : List Nat) : Nat := W.countP (· == 0)
theorem zeros_won {s : Sc} : ∀ {W W' : List Nat}, Won s W W' → zeros W' ≤ zeros W
 | [], W', h => by
  have : W' = [] := List.length_eq_zero_iff.1 h.1
  subst this; exact Nat.le_refl _
 | x :: r, [], h => by have := h.1; simp at this
 | x :: r, y :: q, h => by
  have key : ∀ (A B : List Nat), A.length = B.length → (∀ i (h : i < A.length) (h' : i < B.length), A[i]'h ≠ 0 → B[i]'h' = A[i]'h) → zeros B ≤ zeros A := by
   intro A
   induction A with
   | nil => intro B e _; have : B = [] := List.length_eq_zero_iff.1 e.symm; subst this; exact Nat.le_refl _
   | cons a A ih =>
    intro B e hB
    cases B with
    | nil => simp at e
    | cons b B =>
     have h1 := ih B (by simpa using e) (fun i h1 h2 => hB (i + 1) (by simpa using h1) (by simpa using h2))
     have h0 := hB 0 (by simp) (by simp)
     simp only [List.getElem_cons_zero] at h0
     unfold zeros at h1 ⊢
     rw [List.countP_cons, List.countP_cons]
     by_cases ea : a = 0
     · subst ea; simp; split <;> omega
     · rw [h0 ea]; omega
  exact key _ _ h.1.symm fun i h1 h2 => (h.2 i h1 h2).1
theorem zeros_set {W : List Nat} {a v : Nat} (ha : a < W.length) (h0 : W[a]'ha = 0) (hv : v ≠ 0) : zeros (W.set a v) + 1 = zeros W := by
 induction W generalizing a with
 | nil => simp at ha
 | cons x r ih =>
  cases a with
  | zero =>
   simp only [List.getElem_cons_zero] at h0
   subst h0
   unfold zeros
   simp [hv]
  | succ a =>
   have := ih (a := a) (by simpa using ha) (by simpa using h0)
   unfold zeros at this ⊢
   rw [List.set_cons_succ, List.countP_cons, List.countP_cons]
   omega
theorem Wok.part {s : Sc} {a : Nat} {W : List Nat} (h : Wok s a W) (_ha : a < W.length) {k : Nat} (e : s.edge a k) : Wok s k (W.set a 1001) := by
 intro i hi
 rw [List.length_set] at hi
 rw [List.getElem_set]
 split
 · rename_i e2; subst e2
   exact .inr (.inr ⟨rfl, .one e⟩)
 · rcases h i hi with g | g | ⟨g1, g2⟩
   · exact .inl g
   · exact .inr (.inl g)
   · exact .inr (.inr ⟨g1, .more g2 e⟩)
theorem Wok.won {s : Sc} {a : Nat} {W W' : List Nat} (h : Wok s a W) (k : Won s W W') : Wok s a W' := by
 intro i hi
 have h1 : i < W.length := by rw [← k.1]; exact hi
 obtain ⟨k1, k2⟩ := k.2 i h1 hi
 by_cases e : W[i]'h1 = 0
 · rcases k2 e with g | g
   · exact .inl g
   · exact .inr (.inl g)
 · rw [k1 e]; exact h i h1
theorem Wok.self {s : Sc} {a : Nat} {W : List Nat} (h : Wok s a W) (ha : a < W.length) (h0 : W[a]'ha ≠ 0) : W[a]'ha = s.wt a := by
 rcases h a ha with g | g | ⟨g1, g2⟩
 · exact absurd g h0
 · exact g
 · rw [g1, path_self g2]
theorem Won.put {s : Sc} {a : Nat} {W W' : List Nat} (ha : a < W.length) (h0 : W[a]'ha = 0) (k : Won s (W.set a 1001) W') : Won s W (W'.set a (s.wt a)) := by
 have kl : W'.length = W.length := by rw [k.1, List.length_set]
 refine ⟨by rw [List.length_set, kl], fun i h1 h2 => ?_⟩
 rw [List.length_set] at h2
 rw [List.getElem_set]
 split
 · rename_i e; subst e
   exact ⟨fun g => absurd h0 g, fun _ => .inr rfl⟩
 · rename_i e
   have := k.2 i (by rw [List.length_set]; exact h1) h2
   rw [List.getElem_set, if_neg e] at this
   exact this
def Wfin (s : Sc) (W : List Nat) : Prop := ∀ i (h : i < W.length), W[i]'h = 0 ∨ W[i]'h = s.wt i
theorem Wfin.ok {s : Sc} {W : List Nat} (h : Wfin s W) (a : Nat) : Wok s a W := fun i hi => (h i hi).elim .inl fun g => .inr (.inl g)
theorem Wfin.won {s : Sc} {W W' : List Nat} (h : Wfin s W) (k : Won s W W') : Wfin s W' := by
 intro i hi
 have h1 : i < W.length := by rw [← k.1]; exact hi
 obtain ⟨k1, k2⟩ := k.2 i h1 hi
 by_cases e : W[i]'h1 = 0
 · exact k2 e
 · rw [k1 e]; exact h i h1
end Go.Proofs.YtpmgjpchpmkklaaGreatDoor
namespace Go.Proofs.YtpmgjpchpmkklaaGreatDoor.Jx
open Num
def isD (c : Nat) : Bool := decide (48 ≤ c ∧ c ≤ 57)
def isL (c : Nat) : Bool := decide ((48 ≤ c ∧ c ≤ 57) ∨ (97 ≤ c ∧ c ≤ 122) ∨ (65 ≤ c ∧ c ≤ 90))
def isW (c : Nat) : Bool := decide (c = 32 ∨ c = 9 ∨ c = 10 ∨ c = 13)
def byt (l : List UInt8) (i : Nat) : Nat := (l.getD i 0).toNat
theorem byt_lt (l : List UInt8) (i : Nat) : byt l i < 256 := (l.getD i 0).toNat_lt
theorem byt_drop (l : List UInt8) (p i : Nat) : byt (l.drop p) i = byt l (p + i) := by
 unfold byt; simp [List.getD, List.getElem?_drop]
def cnt (p : Nat → Bool) : List UInt8 → Nat
 | [] => 0
 | x :: r => if p x.toNat = true then cnt p r + 1 else 0
def val (d : List UInt8) : Nat := d.foldl (fun u x => u * 10 + (x.toNat - 48)) 0
def numR (m : Nat) (r : List UInt8) : Int × Nat × Nat :=
 if cnt isD r = 0 ∨ (byt r 0 = 48 ∧ 1 < cnt isD r) ∨ (isL (byt r (cnt isD r)) = true ∧ byt r (cnt isD r) ≠ 101 ∧ byt r (cnt isD r) ≠ 69) then (0, m + cnt isD r, 20)
 else if byt r (cnt isD r) = 46 ∨ isL (byt r (cnt isD r)) = true ∨ 9223372036854775808 < val (r.take (cnt isD r)) ∨ (val (r.take (cnt isD r)) = 9223372036854775808 ∧ m = 0) then (0, m + cnt isD r, 22)
 else (if m = 0 then (val (r.take (cnt isD r)) : Int) else -(val (r.take (cnt isD r)) : Int), m + cnt isD r, 0)
def num (l : List UInt8) : Int × Nat × Nat := if byt l 0 = 45 then numR 1 (l.drop 1) else numR 0 l
def hex (c : Nat) : Int := if 48 ≤ c ∧ c ≤ 57 then (c : Int) - 48 else if 65 ≤ c ∧ c ≤ 70 then (c : Int) - 55 else if 97 ≤ c ∧ c ≤ 102 then (c : Int) - 87 else -1
def four (l : List UInt8) : Int :=
 if hex (byt l 0) < 0 ∨ hex (byt l 1) < 0 ∨ hex (byt l 2) < 0 ∨ hex (byt l 3) < 0 then -1 else ((hex (byt l 0) * 16 + hex (byt l 1)) * 16 + hex (byt l 2)) * 16 + hex (byt l 3)
def esc (c : Nat) : Option Nat :=
 if c = 34 ∨ c = 47 ∨ c = 92 then some c else if c = 98 then some 8 else if c = 102 then some 12 else if c = 110 then some 10 else if c = 114 then some 13 else if c = 116 then some 9 else none
def uni (l : List UInt8) : Option (List UInt8 × Nat) :=
 if 55296 ≤ four l ∧ four l ≤ 56319 ∧ byt l 4 = 92 ∧ byt l 5 = 117 then
  if 56320 ≤ four (l.drop 6) ∧ four (l.drop 6) ≤ 57343 then some (ue (65536 + (four l - 55296) * 1024 + four (l.drop 6) - 56320).toNat, 12) else none
 else if isC (four l) then some (ue (four l).toNat, 6) else none
def item (l : List UInt8) : Option (List UInt8 × Nat) :=
 if byt l 0 = 92 then
  match esc (byt l 1) with
  | some v => some ([UInt8.ofNat v], 2)
  | none => if byt l 1 = 117 then uni (l.drop 2) else none
 else if (fst l).2.2 = 0 then some (l.take (fst l).2.1, (fst l).2.1) else none
def txtF : Nat → List UInt8 → Option (List UInt8 × Nat)
 | 0, _ => none
 | f + 1, l => if byt l 0 < 32 then none else if byt l 0 = 34 then some ([], 1) else
  match item l with
  | none => none
  | some (o, n) => (txtF f (l.drop n)).map fun r => (o ++ r.1, n + r.2)
def txt (l : List UInt8) : Option (List UInt8 × Nat) := txtF (l.length + 1) l
structure Wd where
 k : Nat
 n : Int
 t : List UInt8
 a : Nat
 x : Nat
def Wd.zero : Wd := ⟨0, 0, [], 0, 0⟩
def Wd.at_ (w : Wd) (q : Nat) : Wd := ⟨w.k, w.n, w.t, w.a + q, w.x + q⟩
def punct (c : Nat) : Nat := if c = 123 then 1 else if c = 125 then 2 else if c = 91 then 3 else if c = 93 then 4 else if c = 58 then 5 else if c = 44 then 6 else 0
def named (l s : List UInt8) : Bool := decide (l.take s.length = s) && !isL (byt l s.length)
def sT : List UInt8 := [116, 114, 117, 101]
def sF : List UInt8 := [102, 97, 108, 115, 101]
def sN : List UInt8 := [110, 117, 108, 108]
def word (l : List UInt8) : Wd × Nat :=
 if punct (byt l 0) ≠ 0 then (⟨punct (byt l 0), 0, [], 0, 1⟩, 0)
 else if byt l 0 = 34 then
  match txt (l.drop 1) with
  | none => (Wd.zero, 20)
  | some (s, k) => (⟨10, 0, s, 0, k + 1⟩, 0)
 else if byt l 0 = 45 ∨ isD (byt l 0) = true then
  if (num l).2.2 = 0 then (⟨9, (num l).1, [], 0, (num l).2.1⟩, 0) else (Wd.zero, (num l).2.2)
 else if named l sT = true then (⟨7, 1, [], 0, 4⟩, 0)
 else if named l sF = true then (⟨7, 0, [], 0, 5⟩, 0)
 else if named l sN = true then (⟨8, 0, [], 0, 4⟩, 0)
 else (Wd.zero, 20)
def tak (l : List UInt8) (p : Nat) : Wd × Nat :=
 if p + cnt isW (l.drop p) = l.length then (⟨11, 0, [], l.length, l.length⟩, 0)
 else if (word (l.drop (p + cnt isW (l.drop p)))).2 = 0 then ((word (l.drop (p + cnt isW (l.drop p)))).1.at_ (p + cnt isW (l.drop p)), 0)
 else (Wd.zero, (word (l.drop (p + cnt isW (l.drop p)))).2)
def allF : Nat → List UInt8 → Nat → List Wd × Nat
 | 0, _, _ => ([], 0)
 | f + 1, l, p => if (tak l p).2 ≠ 0 then ([], (tak l p).2) else if (tak l p).1.k = 11 then ([], 0)
  else if (allF f l (tak l p).1.x).2 ≠ 0 then ([], (allF f l (tak l p).1.x).2) else ((tak l p).1 :: (allF f l (tak l p).1.x).1, 0)
def all (l : List UInt8) (p : Nat) : List Wd × Nat := allF (l.length + 1 - p) l p
end Go.Proofs.YtpmgjpchpmkklaaGreatDoor.Jx
namespace Go.Proofs.YtpmgjpchpmkklaaGreatDoor.Jx
open Num
def Wd.ok (w : Wd) (len : Nat) : Prop := w.a = 0 ∧ 1 ≤ w.x ∧ w.x ≤ len ∧ 1 ≤ w.k ∧ w.k ≤ 10 ∧ -9223372036854775808 ≤ w.n ∧ w.n ≤ 9223372036854775807 ∧ w.t.length ≤ w.x
end Go.Proofs.YtpmgjpchpmkklaaGreatDoor.Jx
