/- Joined by tools/bundle.py: R10S R11D R11E. -/
import Derived.Deep.RegionHeldLaw
import Derived.Deep.CutRange
import Derived.Lib.SliceRun
import Derived.Test.YtpmgjpchpmkklaaGreatDoorT3
import Derived.Test.YtpmgjpchpmkklaaGreatDoorT4
import Derived.Test.YtpmgjpchpmkklaaGreatDoorT5
import Derived.Test.YtpmgjpchpmkklaaGreatDoorT16
import Derived.Test.YtpmgjpchpmkklaaGreatDoorT19
import Derived.Test.YtpmgjpchpmkklaaGreatDoorT20
import Derived.Test.YtpmgjpchpmkklaaGreatDoorT21
import Derived.Test.YtpmgjpchpmkklaaGreatDoorT23
import Derived.Test.YtpmgjpchpmkklaaGreatDoorT24
import Derived.Test.YtpmgjpchpmkklaaGreatDoorT0
set_option maxRecDepth 100000
set_option maxHeartbeats 16000000
namespace Go.Proofs.YtpmgjpchpmkklaaGreatDoor
open Go.ChangeShapes Go.WideShapes Go.ChangeAt Go.RowKit Mem
theorem rnode_any (s : Sc) (n : Nd) (hkid : ∀ b ∈ n.kids, 0 ≤ b ∧ b < (s.nodes.length : Int)) (hs : n.sm) (w : World) (A A2 A3 A4 A9 : Option Addr) (c c2 c3 c4 c9 : Nat) (hN : RowD w (· < w.heap.size) 10 (s.nodes.map Nd.enc) A)
 (h : Lies w (· < w.heap.size) n.enc [.int .i64 n.k, .string n.name, .slice A2 n.al.length c2, .slice A3 n.fs.length c3, .slice A4 n.sy.length c4, .bool n.has, .string n.df, .int .i64 n.size, .int .i64 n.items, .slice A9 n.br.length c9]) :
 Calls Tryz.prog 33 #[.agg #[.slice A s.nodes.length c, .int .i64 s.root], .agg #[.int .i64 n.k, .string n.name, .slice A2 n.al.length c2, .slice A3 n.fs.length c3, .slice A4 n.sy.length c4, .bool n.has, .string n.df, .int .i64 n.size, .int .i64 n.items, .slice A9 n.br.length c9]] w (Tells (n.ok s) w) := by
 by_cases h1 : 1 ≤ n.k ∧ n.k ≤ 8
 · exact rnode_prim s n h1 w A A2 A3 A4 A9 c c2 c3 c4 c9 h
 by_cases h2 : n.k < 1 ∨ 14 < n.k
 · exact rnode_other s n h2 w A A2 A3 A4 A9 c c2 c3 c4 c9
 by_cases k9 : n.k = 9
 · exact rnode_9 s n k9 hs w A A2 A3 A4 A9 c c2 c3 c4 c9 h
 by_cases k10 : n.k = 10
 · exact rnode_10 s n k10 hs w A A2 A3 A4 A9 c c2 c3 c4 c9 h
 by_cases k11 : n.k = 11
 · exact rnode_11 s n k11 w A A2 A3 A4 A9 c c2 c3 c4 c9 h
 by_cases k12 : n.k = 12
 · exact rnode_12 s n k12 w A A2 A3 A4 A9 c c2 c3 c4 c9 h
 by_cases k13 : n.k = 13
 · refine rnode_13 s n k13 (fun i hi => ?_) w A A2 A3 A4 A9 c c2 c3 c4 c9 hN h
   unfold Nd.kids at hkid
   rw [if_neg (by omega), if_neg (by omega), if_pos k13] at hkid
   rw [List.getD_eq_getElem?_getD, List.getElem?_eq_getElem hi]
   exact hkid _ (List.getElem_mem hi)
 · exact rnode_14 s n (by omega) hs w A A2 A3 A4 A9 c c2 c3 c4 c9 h
theorem rRightS_any (sc : Sc) (hs : sc.sm) (w : World) (A : Option Addr) (c : Nat) (h : Lies w (· < w.heap.size) sc.enc [.slice A sc.nodes.length c, .int .i64 sc.root]) :
 Calls Tryz.prog 14 #[.agg #[.slice A sc.nodes.length c, .int .i64 sc.root]] w (Tells sc.right w) := by
 have CS := cell_set
 have hlim : sc.lim := ⟨by have := hs.1; omega, fun i h => by have a := hs.2 i h; have b := a.2.1; have d := a.2.2.1; exact ⟨by omega, by omega⟩⟩
 have OR := Lib.hid (fun W (b : Below w.heap.size w W) => (rOrdered_any sc hlim W A c (h.on b)).mono fun _ _ g => told_tells g Sc.orderedb_iff)
 have WE := Lib.hid (fun (o : sc.ordered) W (b : Below w.heap.size w W) => rWeights_any sc hlim (ordered_inn o) W A c (h.on b))
 obtain ⟨_, _, e, la, ra⟩ := Sc.out.1 h
 simp only [List.cons.injEq, Value.slice.injEq, true_and, and_true] at e
 obtain ⟨rfl, rfl⟩ := e
 have n25 : sc.nodes.length ≤ 2500 := hs.1
 have RA := Lib.hid ra; have HS := Lib.hid hs
 have MY : Hid (∀ m r, m = sc.nodes.length → r = sc.root → sc.ordered → ∀ (i : Nat) (hi : i < sc.nodes.length) (W : World), Below w.heap.size w W → ∀ (X2 X3 X4 X9 : Option Addr) (x2 x3 x4 x9 : Nat), Lies W (· < W.heap.size) (sc.nodes[i]'hi).enc [.int .i64 (sc.nodes[i]'hi).k, .string (sc.nodes[i]'hi).name, .slice X2 (sc.nodes[i]'hi).al.length x2, .slice X3 (sc.nodes[i]'hi).fs.length x3, .slice X4 (sc.nodes[i]'hi).sy.length x4, .bool (sc.nodes[i]'hi).has, .string (sc.nodes[i]'hi).df, .int .i64 (sc.nodes[i]'hi).size, .int .i64 (sc.nodes[i]'hi).items, .slice X9 (sc.nodes[i]'hi).br.length x9] →
  Calls Tryz.prog 33 #[.agg #[.slice A m c, .int .i64 r], .agg #[.int .i64 (sc.nodes[i]'hi).k, .string (sc.nodes[i]'hi).name, .slice X2 (sc.nodes[i]'hi).al.length x2, .slice X3 (sc.nodes[i]'hi).fs.length x3, .slice X4 (sc.nodes[i]'hi).sy.length x4, .bool (sc.nodes[i]'hi).has, .string (sc.nodes[i]'hi).df, .int .i64 (sc.nodes[i]'hi).size, .int .i64 (sc.nodes[i]'hi).items, .slice X9 (sc.nodes[i]'hi).br.length x9]] W (Tells ((sc.nodes[i]'hi).ok sc) W)) := fun m r hm hr o i hi W b X2 X3 X4 X9 x2 x3 x4 x9 hh => by
  subst hm hr
  exact rnode_any sc _ (fun k hk => kids_in o i hi k (by unfold Sc.kidsAt; rw [List.getElem?_eq_getElem hi]; exact hk)) (hs.2 i hi) W A X2 X3 X4 X9 c x2 x3 x4 x9 ((RA.out.below b).more b.size) hh
 obtain ⟨Q, hQ⟩ : ∃ Q : Prop, Q = sc.right := ⟨_, rfl⟩
 have HQ : Hid (Q ↔ sc.ordered ∧ (∀ n ∈ sc.nodes, n.ok sc) ∧ (∀ i, i < sc.nodes.length → sc.wt i ≤ 1000) ∧ (nmsOf sc.nodes).Nodup) := by show _ ↔ _; rw [hQ]; exact Iff.rfl
 rw [← hQ]
 have H0 := Lib.hid (B2.newat (w := w) (t := 24) (x0 := .slice A sc.nodes.length c) (x1 := .int .i64 sc.root) rfl)
 have GZ : Hid ((w.alloc (.cells #[.slice A sc.nodes.length c, .int .i64 sc.root] 24)).heap.size = w.heap.size + 1) := by show _ = _; simp
 have W1 : Hid (Below w.heap.size w (w.alloc (.cells #[.slice A sc.nodes.length c, .int .i64 sc.root] 24))) := (Below.refl _ _).alloc (Nat.le_refl _) _
 obtain ⟨ns, hns⟩ : ∃ n, n = sc.nodes.length := ⟨_, rfl⟩
 have HNS := Lib.hid hns
 obtain ⟨rt, hrt⟩ : ∃ r, r = sc.root := ⟨_, rfl⟩
 have HRT := Lib.hid hrt
 rw [← hns] at n25 OR WE H0 GZ W1 ⊢
 rw [← hrt] at OR WE H0 GZ W1 ⊢
 clear h la ra hs hQ hns hlim hrt
 go_enter Tryz.func14, Tryz.ntmps14
 go_wp2_with fail
 with_reducible refine (OR.out _ W1.out).mono ?_
 rintro e w2 ⟨b, rfl, hb, b2⟩
 rw [GZ.out] at b2
 have h2 := Lib.hid (B2.below H0.out b2 (Nat.lt_succ_self _))
 obtain ⟨_, _, _, _⟩ := B2.facts h2.out
 have bw2 : Below w.heap.size w w2 := W1.out.trans (b2.mono (Nat.le_succ _))
 have HB1 := Lib.hid hb
 clear hb
 cases b with
 | false =>
  have Z : Hid (¬ Q) := fun q => by have := HB1.out.2 (HQ.out.1 q).1; simp at this
  go_wp2_with fail
  go_ret
  exact tells_no rfl Z.out bw2
 | true =>
  have ORD : Hid sc.ordered := HB1.out.1 (by first | rfl | trivial)
  have WEO := Lib.hid (WE.out ORD.out)
  have MYO := Lib.hid (MY.out ns rt HNS.out HRT.out ORD.out)
  clear WE MY OR HB1
  go_wp2_with fail
  with_reducible refine (WEO.out _ bw2).mono ?_
  rintro e w3 ⟨AW, cW, rfl, hcW, rW, b3⟩
  have LW : ((List.range ns).map fun i => ((sc.wt i : Nat) : Int)).length = ns := by rw [List.length_map, List.length_range]
  rw [LW]
  have h3 := Lib.hid (B2.below h2.out b3 h2.out.lt)
  obtain ⟨_, _, _, _⟩ := B2.facts h3.out
  have bw3 : Hid (Below w.heap.size w w3) := bw2.trans (b3.mono bw2.size)
  have lt3 := h3.out.lt
  have z3 := bw3.out.size
  have RW := Lib.hid rW
  clear rW LW hcW b3 H0 h2 b2 W1 WEO GZ
  go_wp2_with fail
  go_loopw [4, 5] (fun v t wr => ∃ j : Nat, j ≤ ns ∧ t = .int .i64 (j : Int) ∧ Hid (∀ i (h : i < sc.nodes.length), i < j → (sc.nodes[i]'h).ok sc ∧ sc.wt i ≤ 1000) ∧ Hid (GatS wr w3.heap.size 9 1 v ((nmsOf (sc.nodes.take j)).map D.s)) ∧ Hid (Below w3.heap.size w3 wr)) (fun _ t _ => ns - (intOf t).toNat)
  case atStart => exact ⟨0, Nat.zero_le _, rfl, (fun i h g => absurd g (Nat.not_lt_zero _)), GatS.none_ _ _ _ _, Below.refl _ _⟩
  case round =>
   obtain ⟨j, hj, rfl, HI, HG, bl⟩ := hrel
   have bl2 := bl.out
   have z := bl2.size
   have bw : Below w.heap.size w wr := bw3.out.trans (bl2.mono z3)
   have zlt : w.heap.size < wr.heap.size := by omega
   have hb := Lib.hid (B2.below h3.out bl2 lt3)
   obtain ⟨p0, p1, _, _⟩ := B2.facts hb.out
   by_cases hjn : j < ns
   · have h1 : j < sc.nodes.length := by rw [← HNS.out]; exact hjn
     have q : (j : Int) < (ns : Int) := by omega
     obtain ⟨gw, ow, eW, hgw, yw⟩ := ints_at (RW.out) (i := j) (by rw [List.length_map, List.length_range]; exact hjn)
     rw [List.getElem_map, List.getElem_range] at yw
     have yw := (bl2.cell (p := ⟨gw, ow + j, none⟩) hgw.2).trans yw
     have lgw : gw < wr.heap.size := Nat.lt_of_lt_of_le hgw.2 z
     obtain ⟨b1, o1, X2, x2, X3, x3, X4, x4, X9, x9, e1, hb1, ⟨y0, y1, y2, y3, y4, y5, y6, y7, y8, y9⟩, lx⟩ := nodes_at (RA.out.below bw) h1
     have lb1 : b1 < wr.heap.size := by omega
     have MC : Hid (∀ W, Below w.heap.size w W → Below wr.heap.size wr W → Calls Tryz.prog 33 #[.agg #[.slice A ns c, .int .i64 rt], .agg #[.int .i64 (sc.nodes[j]'h1).k, .string (sc.nodes[j]'h1).name, .slice X2 (sc.nodes[j]'h1).al.length x2, .slice X3 (sc.nodes[j]'h1).fs.length x3, .slice X4 (sc.nodes[j]'h1).sy.length x4, .bool (sc.nodes[j]'h1).has, .string (sc.nodes[j]'h1).df, .int .i64 (sc.nodes[j]'h1).size, .int .i64 (sc.nodes[j]'h1).items, .slice X9 (sc.nodes[j]'h1).br.length x9]] W (Tells ((sc.nodes[j]'h1).ok sc) W)) := fun W b1 b =>
      MYO.out j h1 W b1 X2 X3 X4 X9 x2 x3 x4 x9 (((lx.more bw.size).below b).more b.size)
     have TK : Hid (nmsOf (sc.nodes.take (j + 1)) = nmsOf (sc.nodes.take j) ++ (if named (sc.nodes[j]'h1).k = true then [(sc.nodes[j]'h1).name] else [])) := by
      show _ = _
      rw [List.take_succ_eq_append_getElem h1, nmsOf_snoc]
     have NOK : Hid (¬ ((sc.nodes[j]'h1).ok sc ∧ sc.wt j ≤ 1000) → ¬ Q) := fun e q => e ⟨(HQ.out.1 q).2.1 _ (List.getElem_mem h1), (HQ.out.1 q).2.2.1 j h1⟩
     have NX : Hid ((sc.nodes[j]'h1).ok sc → sc.wt j ≤ 1000 → ∀ i (h : i < sc.nodes.length), i < j + 1 → (sc.nodes[i]'h).ok sc ∧ sc.wt i ≤ 1000) := fun e e2 i h g => by
      rcases Nat.lt_or_ge i j with k | k
      · exact HI.out i h k
      · obtain rfl : i = j := by omega
        exact ⟨e, e2⟩
     generalize hT : sc.nodes[j]'h1 = T at *
     generalize T.ok sc = OK at *
     generalize hwj : sc.wt j = wj at *
     have NM := Lib.hid (rNamed_any T.k)
     have LJ : Hid (((nmsOf (sc.nodes.take j)).map D.s).length ≤ 2500) := by
      show _ ≤ _
      have a := nmsOf_len (sc.nodes.take j)
      have b : (sc.nodes.take j).length ≤ j := by rw [List.length_take]; omega
      rw [List.length_map]; omega
     have DR : Hid (Below w.heap.size w wr.drew ∧ Below wr.heap.size wr wr.drew) := ⟨bw.drew, (Below.refl _ _).drew⟩
     have BX0 : Hid (Below wr.heap.size wr wr.drew) := (Below.refl _ _).drew
     have BWR := Lib.hid bw
     have BL := Lib.hid bl2
     subst e1 eW
     clear h1 lx hT hwj HI hb1 hgw bl bl2 bw
     by_cases hok : OK
     rotate_left
     · have Z := Lib.hid (NOK.out (fun g => hok g.1))
       have N1 : Hid (∀ W, Below w.heap.size w W ∧ Below wr.heap.size wr W → Calls Tryz.prog 33 #[.agg #[.slice (some ⟨b1, o1, none⟩) ns c, .int .i64 rt], .agg #[.int .i64 T.k, .string T.name, .slice X2 T.al.length x2, .slice X3 T.fs.length x3, .slice X4 T.sy.length x4, .bool T.has, .string T.df, .int .i64 T.size, .int .i64 T.items, .slice X9 T.br.length x9]] W (fun e w' => e = .returned (.bool false) ∧ Below W.heap.size W w')) := fun W ⟨b, b'⟩ => (MC.out W b b').mono fun _ _ ⟨v, e, iv, bb⟩ => ⟨by rw [e]; cases v with
        | false => rfl
        | true => exact absurd (iv.1 rfl) hok, bb⟩
       clear NOK NX MC hok TK HG
       go_wp2_with fail
       first
       | go_region_with (first | (go_at_call 33; (with_reducible refine (N1.out _ DR.out).mono ?_); rintro e w4 ⟨rfl, b4'⟩; have k0_ := (Below.cell b4' (p := ⟨w.heap.size, 0, none⟩) (by show _ < wr.heap.size; omega)).trans p0; have k1_ := (Below.cell b4' (p := ⟨w.heap.size, 1, none⟩) (by show _ < wr.heap.size; omega)).trans p1; have k2_ := (Below.cell b4' (p := ⟨b1, o1 + j * 10, none⟩) (by show _ < wr.heap.size; omega)).trans y0; have k3_ := (Below.cell b4' (p := ⟨b1, o1 + j * 10 + 1, none⟩) (by show _ < wr.heap.size; omega)).trans y1; have k4_ := (Below.cell b4' (p := ⟨b1, o1 + j * 10 + 2, none⟩) (by show _ < wr.heap.size; omega)).trans y2; have k5_ := (Below.cell b4' (p := ⟨b1, o1 + j * 10 + 3, none⟩) (by show _ < wr.heap.size; omega)).trans y3; have k6_ := (Below.cell b4' (p := ⟨b1, o1 + j * 10 + 4, none⟩) (by show _ < wr.heap.size; omega)).trans y4; have k7_ := (Below.cell b4' (p := ⟨b1, o1 + j * 10 + 5, none⟩) (by show _ < wr.heap.size; omega)).trans y5; have k8_ := (Below.cell b4' (p := ⟨b1, o1 + j * 10 + 6, none⟩) (by show _ < wr.heap.size; omega)).trans y6; have k9_ := (Below.cell b4' (p := ⟨b1, o1 + j * 10 + 7, none⟩) (by show _ < wr.heap.size; omega)).trans y7; have k10_ := (Below.cell b4' (p := ⟨b1, o1 + j * 10 + 8, none⟩) (by show _ < wr.heap.size; omega)).trans y8; have k11_ := (Below.cell b4' (p := ⟨b1, o1 + j * 10 + 9, none⟩) (by show _ < wr.heap.size; omega)).trans y9; have k12_ := (Below.cell b4' (p := ⟨gw, ow + j, none⟩) (by show _ < wr.heap.size; omega)).trans yw; have B4 := Lib.hid ((BX0.out).trans (b4'.mono (by show _ ≤ wr.heap.size; omega)))))
       | fail
       all_goals
        have bw4 := BWR.out.trans (B4.out.mono (by omega))
        go_wp2_with fail
        go_ret
        exact tells_no rfl Z.out bw4
     have N1 : Hid (∀ W, Below w.heap.size w W ∧ Below wr.heap.size wr W → Calls Tryz.prog 33 #[.agg #[.slice (some ⟨b1, o1, none⟩) ns c, .int .i64 rt], .agg #[.int .i64 T.k, .string T.name, .slice X2 T.al.length x2, .slice X3 T.fs.length x3, .slice X4 T.sy.length x4, .bool T.has, .string T.df, .int .i64 T.size, .int .i64 T.items, .slice X9 T.br.length x9]] W (fun e w' => e = .returned (.bool true) ∧ Below W.heap.size W w')) := fun W ⟨b, b'⟩ => (MC.out W b b').mono fun _ _ ⟨v, e, iv, bb⟩ => ⟨by rw [e]; cases v with
      | true => rfl
      | false => exact absurd (iv.2 hok) (by simp), bb⟩
     by_cases hw : wj ≤ 1000
     rotate_left
     · have Z := Lib.hid (NOK.out (fun g => hw g.2))
       have q1 : (1000 : Int) < (wj : Int) := by omega
       have q2 : decide ((1000 : Int) < (wj : Int)) = true := by simpa using q1
       clear NOK NX MC hok hw TK HG
       go_wp2_with fail
       go_region_held_law (fun w' => w'.cell? ⟨w.heap.size, 0, none⟩ = some (.slice (some ⟨b1, o1, none⟩) ns c) ∧ w'.cell? ⟨w.heap.size, 1, none⟩ = some (.int .i64 rt) ∧ w'.cell? ⟨b1, o1 + j * 10, none⟩ = some (.int .i64 T.k) ∧ w'.cell? ⟨b1, o1 + j * 10 + 1, none⟩ = some (.string T.name) ∧ w'.cell? ⟨b1, o1 + j * 10 + 2, none⟩ = some (.slice X2 T.al.length x2) ∧ w'.cell? ⟨b1, o1 + j * 10 + 3, none⟩ = some (.slice X3 T.fs.length x3) ∧ w'.cell? ⟨b1, o1 + j * 10 + 4, none⟩ = some (.slice X4 T.sy.length x4) ∧ w'.cell? ⟨b1, o1 + j * 10 + 5, none⟩ = some (.bool T.has) ∧ w'.cell? ⟨b1, o1 + j * 10 + 6, none⟩ = some (.string T.df) ∧ w'.cell? ⟨b1, o1 + j * 10 + 7, none⟩ = some (.int .i64 T.size) ∧ w'.cell? ⟨b1, o1 + j * 10 + 8, none⟩ = some (.int .i64 T.items) ∧ w'.cell? ⟨b1, o1 + j * 10 + 9, none⟩ = some (.slice X9 T.br.length x9) ∧ w'.cell? ⟨gw, ow + j, none⟩ = some (.int .i64 (wj : Int)))
        (exact ⟨(by first | with_reducible assumption | (go_simp; done)), (by first | with_reducible assumption | (go_simp; done)), (by first | with_reducible assumption | (go_simp; done)), (by first | with_reducible assumption | (go_simp; done)), (by first | with_reducible assumption | (go_simp; done)), (by first | with_reducible assumption | (go_simp; done)), (by first | with_reducible assumption | (go_simp; done)), (by first | with_reducible assumption | (go_simp; done)), (by first | with_reducible assumption | (go_simp; done)), (by first | with_reducible assumption | (go_simp; done)), (by first | with_reducible assumption | (go_simp; done)), (by first | with_reducible assumption | (go_simp; done)), (by first | with_reducible assumption | (go_simp; done))⟩)
        (first
        | (go_at_call 33; (with_reducible refine (N1.out _ DR.out).mono ?_); rintro e w4 ⟨rfl, b4'⟩; have k0_ := (Below.cell b4' (p := ⟨w.heap.size, 0, none⟩) (by show _ < wr.heap.size; omega)).trans p0; have k1_ := (Below.cell b4' (p := ⟨w.heap.size, 1, none⟩) (by show _ < wr.heap.size; omega)).trans p1; have k2_ := (Below.cell b4' (p := ⟨b1, o1 + j * 10, none⟩) (by show _ < wr.heap.size; omega)).trans y0; have k3_ := (Below.cell b4' (p := ⟨b1, o1 + j * 10 + 1, none⟩) (by show _ < wr.heap.size; omega)).trans y1; have k4_ := (Below.cell b4' (p := ⟨b1, o1 + j * 10 + 2, none⟩) (by show _ < wr.heap.size; omega)).trans y2; have k5_ := (Below.cell b4' (p := ⟨b1, o1 + j * 10 + 3, none⟩) (by show _ < wr.heap.size; omega)).trans y3; have k6_ := (Below.cell b4' (p := ⟨b1, o1 + j * 10 + 4, none⟩) (by show _ < wr.heap.size; omega)).trans y4; have k7_ := (Below.cell b4' (p := ⟨b1, o1 + j * 10 + 5, none⟩) (by show _ < wr.heap.size; omega)).trans y5; have k8_ := (Below.cell b4' (p := ⟨b1, o1 + j * 10 + 6, none⟩) (by show _ < wr.heap.size; omega)).trans y6; have k9_ := (Below.cell b4' (p := ⟨b1, o1 + j * 10 + 7, none⟩) (by show _ < wr.heap.size; omega)).trans y7; have k10_ := (Below.cell b4' (p := ⟨b1, o1 + j * 10 + 8, none⟩) (by show _ < wr.heap.size; omega)).trans y8; have k11_ := (Below.cell b4' (p := ⟨b1, o1 + j * 10 + 9, none⟩) (by show _ < wr.heap.size; omega)).trans y9; have k12_ := (Below.cell b4' (p := ⟨gw, ow + j, none⟩) (by show _ < wr.heap.size; omega)).trans yw; have B4 := Lib.hid ((BX0.out).trans (b4'.mono (by show _ ≤ wr.heap.size; omega)))))
       all_goals
        have bw4 := BWR.out.trans (B4.out.mono (by omega))
        go_wp2_with fail
        go_ret
        exact tells_no rfl Z.out bw4
     have HI2 := Lib.hid (NX.out hok hw)
     have q1 : ¬ (1000 : Int) < (wj : Int) := by omega
     have q2 : decide ((1000 : Int) < (wj : Int)) = false := by simpa using q1
     clear NX NOK MC hok hw
     go_upto_region 8 with fail
     go_cut [32] from 11 to 48 (fun s32 wc => s32 = .bool false ∧ Hid (Below wr.heap.size wr wc))
     case first =>
      go_region_held_law (fun w' => w'.cell? ⟨w.heap.size, 0, none⟩ = some (.slice (some ⟨b1, o1, none⟩) ns c) ∧ w'.cell? ⟨w.heap.size, 1, none⟩ = some (.int .i64 rt) ∧ w'.cell? ⟨b1, o1 + j * 10, none⟩ = some (.int .i64 T.k) ∧ w'.cell? ⟨b1, o1 + j * 10 + 1, none⟩ = some (.string T.name) ∧ w'.cell? ⟨b1, o1 + j * 10 + 2, none⟩ = some (.slice X2 T.al.length x2) ∧ w'.cell? ⟨b1, o1 + j * 10 + 3, none⟩ = some (.slice X3 T.fs.length x3) ∧ w'.cell? ⟨b1, o1 + j * 10 + 4, none⟩ = some (.slice X4 T.sy.length x4) ∧ w'.cell? ⟨b1, o1 + j * 10 + 5, none⟩ = some (.bool T.has) ∧ w'.cell? ⟨b1, o1 + j * 10 + 6, none⟩ = some (.string T.df) ∧ w'.cell? ⟨b1, o1 + j * 10 + 7, none⟩ = some (.int .i64 T.size) ∧ w'.cell? ⟨b1, o1 + j * 10 + 8, none⟩ = some (.int .i64 T.items) ∧ w'.cell? ⟨b1, o1 + j * 10 + 9, none⟩ = some (.slice X9 T.br.length x9) ∧ w'.cell? ⟨gw, ow + j, none⟩ = some (.int .i64 (wj : Int)))
       (exact ⟨(by first | with_reducible assumption | (go_simp; done)), (by first | with_reducible assumption | (go_simp; done)), (by first | with_reducible assumption | (go_simp; done)), (by first | with_reducible assumption | (go_simp; done)), (by first | with_reducible assumption | (go_simp; done)), (by first | with_reducible assumption | (go_simp; done)), (by first | with_reducible assumption | (go_simp; done)), (by first | with_reducible assumption | (go_simp; done)), (by first | with_reducible assumption | (go_simp; done)), (by first | with_reducible assumption | (go_simp; done)), (by first | with_reducible assumption | (go_simp; done)), (by first | with_reducible assumption | (go_simp; done)), (by first | with_reducible assumption | (go_simp; done))⟩)
       (first
       | (go_at_call 33; (with_reducible refine (N1.out _ DR.out).mono ?_); rintro e w4 ⟨rfl, b4'⟩; have k0_ := (Below.cell b4' (p := ⟨w.heap.size, 0, none⟩) (by show _ < wr.heap.size; omega)).trans p0; have k1_ := (Below.cell b4' (p := ⟨w.heap.size, 1, none⟩) (by show _ < wr.heap.size; omega)).trans p1; have k2_ := (Below.cell b4' (p := ⟨b1, o1 + j * 10, none⟩) (by show _ < wr.heap.size; omega)).trans y0; have k3_ := (Below.cell b4' (p := ⟨b1, o1 + j * 10 + 1, none⟩) (by show _ < wr.heap.size; omega)).trans y1; have k4_ := (Below.cell b4' (p := ⟨b1, o1 + j * 10 + 2, none⟩) (by show _ < wr.heap.size; omega)).trans y2; have k5_ := (Below.cell b4' (p := ⟨b1, o1 + j * 10 + 3, none⟩) (by show _ < wr.heap.size; omega)).trans y3; have k6_ := (Below.cell b4' (p := ⟨b1, o1 + j * 10 + 4, none⟩) (by show _ < wr.heap.size; omega)).trans y4; have k7_ := (Below.cell b4' (p := ⟨b1, o1 + j * 10 + 5, none⟩) (by show _ < wr.heap.size; omega)).trans y5; have k8_ := (Below.cell b4' (p := ⟨b1, o1 + j * 10 + 6, none⟩) (by show _ < wr.heap.size; omega)).trans y6; have k9_ := (Below.cell b4' (p := ⟨b1, o1 + j * 10 + 7, none⟩) (by show _ < wr.heap.size; omega)).trans y7; have k10_ := (Below.cell b4' (p := ⟨b1, o1 + j * 10 + 8, none⟩) (by show _ < wr.heap.size; omega)).trans y8; have k11_ := (Below.cell b4' (p := ⟨b1, o1 + j * 10 + 9, none⟩) (by show _ < wr.heap.size; omega)).trans y9; have k12_ := (Below.cell b4' (p := ⟨gw, ow + j, none⟩) (by show _ < wr.heap.size; omega)).trans yw; have B4 := Lib.hid ((BX0.out).trans (b4'.mono (by show _ ≤ wr.heap.size; omega)))))
      all_goals
       go_wp2_with fail
       go_meet
       exact ⟨by first | rfl | (simp; omega), B4⟩
     obtain ⟨rfl, b4⟩ := hcut
     have kp0 := (b4.out.cell (p := ⟨w.heap.size, 0, none⟩) zlt).trans p0
     have ky0 := (b4.out.cell (p := ⟨b1, o1 + j * 10, none⟩) lb1).trans y0
     have ky1 := (b4.out.cell (p := ⟨b1, o1 + j * 10 + 1, none⟩) lb1).trans y1
     have bw4 : Below w.heap.size w wc := BWR.out.trans (b4.out.mono (by omega))
     have bl4 : Hid (Below w3.heap.size w3 wc) := BL.out.trans (b4.out.mono z)
     cases hnm : named T.k with
     | false =>
      rw [hnm] at NM TK
      have TK2 : Hid (nmsOf (sc.nodes.take (j + 1)) = nmsOf (sc.nodes.take j)) := by show _ = _; rw [TK.out, if_neg (by decide), List.append_nil]
      have HG2 := Lib.hid (HG.out.below b4.out)
      clear hnm TK HG
      go_wp2_with fail
      with_reducible refine (NM.out _).mono ?_
      rintro e w5 ⟨rfl, rfl⟩
      go_wp2_with fail
      go_roundw
      case rel => exact ⟨j + 1, by omega, by go_num, HI2, by rw [TK2.out]; exact HG2, bl4⟩
      case measure => simp [intOf]; omega
     | true =>
      rw [hnm] at NM TK
      have TK2 : Hid ((nmsOf (sc.nodes.take (j + 1))).map D.s = (nmsOf (sc.nodes.take j)).map D.s ++ [D.s T.name]) := by show _ = _; rw [TK.out, if_pos rfl, List.map_append]; rfl
      have ND : Hid (NewD wc wr.heap.size (D.s T.name) [.string T.name]) := ⟨fun _ => False, fun _ h => h.elim, lies_s.2 rfl, fun _ h => h.elim⟩
      clear hnm TK
      go_wp2_with fail
      with_reducible refine (NM.out _).mono ?_
      rintro e w5 ⟨rfl, rfl⟩
      go_wp2_with (at_builtin; refine wpList_gat _ textT rfl (.tmp 40) (.tmp 47) rfl w3.heap.size u4 _ rfl wr HG.out b4.out 1 #[.string T.name] rfl rfl (by simp [Value.oneCell']) (by have := LJ.out; omega) z _ ND.out ?_; intro v3 w6 g3 b5)
      go_roundw
      case rel => exact ⟨j + 1, by omega, by go_num, HI2, by rw [TK2.out]; exact g3, bl4.out.trans b5⟩
      case measure => simp [intOf]; omega
   · obtain rfl : j = ns := by omega
     have q : ¬ (j : Int) < (j : Int) := by omega
     have TK : sc.nodes.take j = sc.nodes := by rw [HNS.out, List.take_length]
     rw [TK] at HG
     obtain ⟨A', c', rfl, hc, S, hS, hr, _⟩ := HG.out.done
     have FL := row_strs.1 hr
     have LN : ((nmsOf sc.nodes).map D.s).length = (nmsOf sc.nodes).length := List.length_map ..
     have LN2 := nmsOf_len sc.nodes
     have CF := Lib.hid ((rOnce_any A' c' (nmsOf sc.nodes) wr (FlS.keep (fun _ _ => rfl) (fun g hg => (hS _ hg).2) FL) (by unfold maxLen; have := HNS.out; omega)).mono fun _ _ g => told_tells g (decide_eq_true_iff (p := (nmsOf sc.nodes).Nodup)))
     have QX : Hid (Q ↔ (nmsOf sc.nodes).Nodup) := HQ.out.trans ⟨fun q => q.2.2.2, fun q => ⟨ORD.out, fun n hn => by obtain ⟨i, hi, rfl⟩ := List.getElem_of_mem hn; exact (HI.out i hi (by rw [HNS.out]; exact hi)).1, fun i hi => (HI.out i hi (by rw [HNS.out]; exact hi)).2, q⟩⟩
     rw [LN]
     have BWR := Lib.hid bw
     clear LN LN2 FL hr hS HI HG TK MYO hc
     generalize (nmsOf sc.nodes).Nodup = O1 at *
     generalize (nmsOf sc.nodes).length = nn at *
     go_wp2_with fail
     with_reducible refine CF.out.mono ?_
     rintro e w4 ⟨b, rfl, hbb, b4⟩
     have bw4 : Below w.heap.size w w4 := BWR.out.trans (b4.mono (by omega))
     have HB2 := Lib.hid hbb
     clear hbb
     go_wp2_with fail
     go_ret
     exact ⟨b, rfl, HB2.out.trans QX.out.symm, bw4⟩
theorem rvtext_any (A : Option Addr) (c : Nat) (l : List UInt8) (w : World) (hb : Bys w w.heap.size A l) (hl : l.length ≤ 140000000000) (hc : l.length ≤ c) :
 Calls Tryz.prog 36 #[.slice A l.length c] w (Told (Num.cU l).isSome w) := by
 have r := rCount_any A c l w hb hl hc
 obtain ⟨z, hz⟩ : ∃ z, z = cntI l := ⟨_, rfl⟩
 have cp := cntI_pos l
 rw [← hz] at r cp
 have R := Lib.hid r
 have Z : Hid ((Num.cU l).isSome = decide ((0 : Int) ≤ z)) := cp.symm
 clear r cp hz
 by_cases h : (0 : Int) ≤ z
 all_goals
  go_enter Tryz.func36, Tryz.ntmps36
  go_wp2_with fail
  with_reducible refine R.out.mono ?_
  rintro e w2 ⟨rfl, b2⟩
  go_wp2_with fail
  go_ret
  exact told_ret (by first | (rw [Z.out]; done) | (rw [Z.out]; simpa using h)) b2
theorem ris_1 (p nn : Nat) (hp : p < nn) (rt n bt : Int) (nb ni nk : Nat) (A3 A4 A5 : Option Addr) (c3 c4 c5 : Nat) (nm df : ByteArray) (l2 l3 l4 l9 x2 x3 x4 x9 : Nat) (X2 X3 X4 X9 : Option Addr) (hs : Bool) (sz it : Int) (b1 o1 c : Nat) (w : World) (lb1 : b1 < w.heap.size)
 (y0 : w.cell? ⟨b1, o1 + p * 10, none⟩ = some (.int .i64 1)) (y1 : w.cell? ⟨b1, o1 + p * 10 + 1, none⟩ = some (.string nm)) (y2 : w.cell? ⟨b1, o1 + p * 10 + 2, none⟩ = some (.slice X2 l2 x2)) (y3 : w.cell? ⟨b1, o1 + p * 10 + 3, none⟩ = some (.slice X3 l3 x3)) (y4 : w.cell? ⟨b1, o1 + p * 10 + 4, none⟩ = some (.slice X4 l4 x4))
 (y5 : w.cell? ⟨b1, o1 + p * 10 + 5, none⟩ = some (.bool hs)) (y6 : w.cell? ⟨b1, o1 + p * 10 + 6, none⟩ = some (.string df)) (y7 : w.cell? ⟨b1, o1 + p * 10 + 7, none⟩ = some (.int .i64 sz)) (y8 : w.cell? ⟨b1, o1 + p * 10 + 8, none⟩ = some (.int .i64 it)) (y9 : w.cell? ⟨b1, o1 + p * 10 + 9, none⟩ = some (.slice X9 l9 x9)) (R : Prop) (hR : R ↔ nb ≤ 20000 ∧ ni ≤ 300 ∧ VJust 1 n bt nb ni nk) :
 Calls Tryz.prog 15 #[.agg #[.slice (some ⟨b1, o1, none⟩) nn c, .int .i64 rt], .int .i64 (p : Int), .agg #[.int .i64 1, .int .i64 n, .int .u64 bt, .slice A3 nb c3, .slice A4 ni c4, .slice A5 nk c5]] w (Tells R w) := by
 have CS := cell_set
 have q : (p : Int) < (nn : Int) := by omega
 have HR := Lib.hid hR
 have PJ : Hid (VJust 1 n bt nb ni nk ↔ n = 0 ∧ bt = 0 ∧ nb = 0 ∧ ni = 0 ∧ nk = 0) := by show _ ↔ _; unfold VJust; omega
 clear hR
 by_cases hb : (20000 : Int) < (nb : Int)
 · have qb : decide ((20000 : Int) < (nb : Int)) = true := by simpa using hb
   have Z : Hid (¬ R) := fun r => by have := (HR.out.1 r).1; omega
   clear hb HR PJ
   go_enter Tryz.func15, Tryz.ntmps15
   go_wp2_with fail
   go_ret
   exact tells_no (by first | rfl | (simp; omega)) Z.out bqq
 have qb : decide ((20000 : Int) < (nb : Int)) = false := by simpa using hb
 by_cases hi : (300 : Int) < (ni : Int)
 · have qi : decide ((300 : Int) < (ni : Int)) = true := by simpa using hi
   have Z : Hid (¬ R) := fun r => by have := (HR.out.1 r).2.1; omega
   clear hb hi HR PJ
   go_enter Tryz.func15, Tryz.ntmps15
   go_wp2_with fail
   go_ret
   exact tells_no (by first | rfl | (simp; omega)) Z.out bqq
 have qi : decide ((300 : Int) < (ni : Int)) = false := by simpa using hi
 have HB : Hid (nb ≤ 20000 ∧ ni ≤ 300) := ⟨by omega, by omega⟩
 clear hb hi
 by_cases g0 : n = 0
 rotate_left
 · have e0a : ((0 : Int) == n) = false := by rw [beq_eq_false_iff_ne]; omega
   have Z : Hid (¬ R) := fun r => g0 (PJ.out.1 (HR.out.1 r).2.2).1
   clear g0 HR PJ 
   go_enter Tryz.func15, Tryz.ntmps15
   go_wp2_with fail
   go_ret
   exact tells_no (by first | rfl | (simp; omega)) Z.out bqq
 have e0a : ((0 : Int) == n) = true := by rw [beq_iff_eq]; omega
 by_cases g1 : bt = 0
 rotate_left
 · have e1a : ((0 : Int) == bt) = false := by rw [beq_eq_false_iff_ne]; omega
   have Z : Hid (¬ R) := fun r => g1 (PJ.out.1 (HR.out.1 r).2.2).2.1
   clear g1 HR PJ g0
   go_enter Tryz.func15, Tryz.ntmps15
   go_wp2_with fail
   go_ret
   exact tells_no (by first | rfl | (simp; omega)) Z.out bqq
 have e1a : ((0 : Int) == bt) = true := by rw [beq_iff_eq]; omega
 by_cases g2 : nb = 0
 rotate_left
 · have e2a : ((0 : Int) == (nb : Int)) = false := by rw [beq_eq_false_iff_ne]; omega
   have Z : Hid (¬ R) := fun r => g2 (PJ.out.1 (HR.out.1 r).2.2).2.2.1
   clear g2 HR PJ g0 g1
   go_enter Tryz.func15, Tryz.ntmps15
   go_wp2_with fail
   go_ret
   exact tells_no (by first | rfl | (simp; omega)) Z.out bqq
 have e2a : ((0 : Int) == (nb : Int)) = true := by rw [beq_iff_eq]; omega
 by_cases g3 : ni = 0
 rotate_left
 · have e3a : ((0 : Int) == (ni : Int)) = false := by rw [beq_eq_false_iff_ne]; omega
   have Z : Hid (¬ R) := fun r => g3 (PJ.out.1 (HR.out.1 r).2.2).2.2.2.1
   clear g3 HR PJ g0 g1 g2
   go_enter Tryz.func15, Tryz.ntmps15
   go_wp2_with fail
   go_ret
   exact tells_no (by first | rfl | (simp; omega)) Z.out bqq
 have e3a : ((0 : Int) == (ni : Int)) = true := by rw [beq_iff_eq]; omega
 by_cases g4 : nk = 0
 rotate_left
 · have e4a : ((0 : Int) == (nk : Int)) = false := by rw [beq_eq_false_iff_ne]; omega
   have Z : Hid (¬ R) := fun r => g4 (PJ.out.1 (HR.out.1 r).2.2).2.2.2.2
   clear g4 HR PJ g0 g1 g2 g3
   go_enter Tryz.func15, Tryz.ntmps15
   go_wp2_with fail
   go_ret
   exact tells_no (by first | rfl | (simp; omega)) Z.out bqq
 have e4a : ((0 : Int) == (nk : Int)) = true := by rw [beq_iff_eq]; omega
 have Z : Hid R := HR.out.2 ⟨HB.out.1, HB.out.2, PJ.out.2 ⟨g0, g1, g2, g3, g4⟩⟩
 clear HR PJ g0 g1 g2 g3 g4
 go_enter Tryz.func15, Tryz.ntmps15
 go_wp2_with fail
 go_ret
 exact tells_yes (by first | rfl | (simp; omega)) Z.out bqq
theorem ris_2 (p nn : Nat) (hp : p < nn) (rt n bt : Int) (nb ni nk : Nat) (A3 A4 A5 : Option Addr) (c3 c4 c5 : Nat) (nm df : ByteArray) (l2 l3 l4 l9 x2 x3 x4 x9 : Nat) (X2 X3 X4 X9 : Option Addr) (hs : Bool) (sz it : Int) (b1 o1 c : Nat) (w : World) (lb1 : b1 < w.heap.size)
 (y0 : w.cell? ⟨b1, o1 + p * 10, none⟩ = some (.int .i64 2)) (y1 : w.cell? ⟨b1, o1 + p * 10 + 1, none⟩ = some (.string nm)) (y2 : w.cell? ⟨b1, o1 + p * 10 + 2, none⟩ = some (.slice X2 l2 x2)) (y3 : w.cell? ⟨b1, o1 + p * 10 + 3, none⟩ = some (.slice X3 l3 x3)) (y4 : w.cell? ⟨b1, o1 + p * 10 + 4, none⟩ = some (.slice X4 l4 x4))
 (y5 : w.cell? ⟨b1, o1 + p * 10 + 5, none⟩ = some (.bool hs)) (y6 : w.cell? ⟨b1, o1 + p * 10 + 6, none⟩ = some (.string df)) (y7 : w.cell? ⟨b1, o1 + p * 10 + 7, none⟩ = some (.int .i64 sz)) (y8 : w.cell? ⟨b1, o1 + p * 10 + 8, none⟩ = some (.int .i64 it)) (y9 : w.cell? ⟨b1, o1 + p * 10 + 9, none⟩ = some (.slice X9 l9 x9)) (R : Prop) (hR : R ↔ nb ≤ 20000 ∧ ni ≤ 300 ∧ (n = 0 ∨ n = 1) ∧ VJust 2 n bt nb ni nk) :
 Calls Tryz.prog 15 #[.agg #[.slice (some ⟨b1, o1, none⟩) nn c, .int .i64 rt], .int .i64 (p : Int), .agg #[.int .i64 2, .int .i64 n, .int .u64 bt, .slice A3 nb c3, .slice A4 ni c4, .slice A5 nk c5]] w (Tells R w) := by
 have CS := cell_set
 have q : (p : Int) < (nn : Int) := by omega
 have HR := Lib.hid hR
 have PJ : Hid (VJust 2 n bt nb ni nk ↔ bt = 0 ∧ nb = 0 ∧ ni = 0 ∧ nk = 0) := by show _ ↔ _; unfold VJust; omega
 clear hR
 by_cases hb : (20000 : Int) < (nb : Int)
 · have qb : decide ((20000 : Int) < (nb : Int)) = true := by simpa using hb
   have Z : Hid (¬ R) := fun r => by have := (HR.out.1 r).1; omega
   clear hb HR PJ
   go_enter Tryz.func15, Tryz.ntmps15
   go_wp2_with fail
   go_ret
   exact tells_no (by first | rfl | (simp; omega)) Z.out bqq
 have qb : decide ((20000 : Int) < (nb : Int)) = false := by simpa using hb
 by_cases hi : (300 : Int) < (ni : Int)
 · have qi : decide ((300 : Int) < (ni : Int)) = true := by simpa using hi
   have Z : Hid (¬ R) := fun r => by have := (HR.out.1 r).2.1; omega
   clear hb hi HR PJ
   go_enter Tryz.func15, Tryz.ntmps15
   go_wp2_with fail
   go_ret
   exact tells_no (by first | rfl | (simp; omega)) Z.out bqq
 have qi : decide ((300 : Int) < (ni : Int)) = false := by simpa using hi
 have HB : Hid (nb ≤ 20000 ∧ ni ≤ 300) := ⟨by omega, by omega⟩
 clear hb hi
 by_cases h2 : n = 0 ∨ n = 1
 rotate_left
 · have e0 : (n == 0) = false := by rw [beq_eq_false_iff_ne]; omega
   have e1 : (n == 1) = false := by rw [beq_eq_false_iff_ne]; omega
   have Z : Hid (¬ R) := fun r => h2 (HR.out.1 r).2.2.1
   clear h2 HR PJ
   go_enter Tryz.func15, Tryz.ntmps15
   go_wp2_with fail
   go_ret
   exact tells_no (by first | rfl | (simp; omega)) Z.out bqq
 have HC := Lib.hid h2
 by_cases h0 : n = 0
 · have e0 : (n == 0) = true := by rw [beq_iff_eq]; exact h0
   clear h2 h0
   by_cases g0 : bt = 0
   rotate_left
   · have e0a : ((0 : Int) == bt) = false := by rw [beq_eq_false_iff_ne]; omega
     have Z : Hid (¬ R) := fun r => g0 (PJ.out.1 (HR.out.1 r).2.2.2).1
     clear g0 HR PJ 
     go_enter Tryz.func15, Tryz.ntmps15
     go_wp2_with fail
     go_ret
     exact tells_no (by first | rfl | (simp; omega)) Z.out bqq
   have e0a : ((0 : Int) == bt) = true := by rw [beq_iff_eq]; omega
   by_cases g1 : nb = 0
   rotate_left
   · have e1a : ((0 : Int) == (nb : Int)) = false := by rw [beq_eq_false_iff_ne]; omega
     have Z : Hid (¬ R) := fun r => g1 (PJ.out.1 (HR.out.1 r).2.2.2).2.1
     clear g1 HR PJ g0
     go_enter Tryz.func15, Tryz.ntmps15
     go_wp2_with fail
     go_ret
     exact tells_no (by first | rfl | (simp; omega)) Z.out bqq
   have e1a : ((0 : Int) == (nb : Int)) = true := by rw [beq_iff_eq]; omega
   by_cases g2 : ni = 0
   rotate_left
   · have e2a : ((0 : Int) == (ni : Int)) = false := by rw [beq_eq_false_iff_ne]; omega
     have Z : Hid (¬ R) := fun r => g2 (PJ.out.1 (HR.out.1 r).2.2.2).2.2.1
     clear g2 HR PJ g0 g1
     go_enter Tryz.func15, Tryz.ntmps15
     go_wp2_with fail
     go_ret
     exact tells_no (by first | rfl | (simp; omega)) Z.out bqq
   have e2a : ((0 : Int) == (ni : Int)) = true := by rw [beq_iff_eq]; omega
   by_cases g3 : nk = 0
   rotate_left
   · have e3a : ((0 : Int) == (nk : Int)) = false := by rw [beq_eq_false_iff_ne]; omega
     have Z : Hid (¬ R) := fun r => g3 (PJ.out.1 (HR.out.1 r).2.2.2).2.2.2
     clear g3 HR PJ g0 g1 g2
     go_enter Tryz.func15, Tryz.ntmps15
     go_wp2_with fail
     go_ret
     exact tells_no (by first | rfl | (simp; omega)) Z.out bqq
   have e3a : ((0 : Int) == (nk : Int)) = true := by rw [beq_iff_eq]; omega
   have Z : Hid R := HR.out.2 ⟨HB.out.1, HB.out.2, HC.out, PJ.out.2 ⟨g0, g1, g2, g3⟩⟩
   clear HR PJ g0 g1 g2 g3
   go_enter Tryz.func15, Tryz.ntmps15
   go_wp2_with fail
   go_ret
   exact tells_yes (by first | rfl | (simp; omega)) Z.out bqq
 have e0 : (n == 0) = false := by rw [beq_eq_false_iff_ne]; exact h0
 have e1 : (n == 1) = true := by rw [beq_iff_eq]; omega
 clear h2 h0
 by_cases g0 : bt = 0
 rotate_left
 · have e0a : ((0 : Int) == bt) = false := by rw [beq_eq_false_iff_ne]; omega
   have Z : Hid (¬ R) := fun r => g0 (PJ.out.1 (HR.out.1 r).2.2.2).1
   clear g0 HR PJ 
   go_enter Tryz.func15, Tryz.ntmps15
   go_wp2_with fail
   go_ret
   exact tells_no (by first | rfl | (simp; omega)) Z.out bqq
 have e0a : ((0 : Int) == bt) = true := by rw [beq_iff_eq]; omega
 by_cases g1 : nb = 0
 rotate_left
 · have e1a : ((0 : Int) == (nb : Int)) = false := by rw [beq_eq_false_iff_ne]; omega
   have Z : Hid (¬ R) := fun r => g1 (PJ.out.1 (HR.out.1 r).2.2.2).2.1
   clear g1 HR PJ g0
   go_enter Tryz.func15, Tryz.ntmps15
   go_wp2_with fail
   go_ret
   exact tells_no (by first | rfl | (simp; omega)) Z.out bqq
 have e1a : ((0 : Int) == (nb : Int)) = true := by rw [beq_iff_eq]; omega
 by_cases g2 : ni = 0
 rotate_left
 · have e2a : ((0 : Int) == (ni : Int)) = false := by rw [beq_eq_false_iff_ne]; omega
   have Z : Hid (¬ R) := fun r => g2 (PJ.out.1 (HR.out.1 r).2.2.2).2.2.1
   clear g2 HR PJ g0 g1
   go_enter Tryz.func15, Tryz.ntmps15
   go_wp2_with fail
   go_ret
   exact tells_no (by first | rfl | (simp; omega)) Z.out bqq
 have e2a : ((0 : Int) == (ni : Int)) = true := by rw [beq_iff_eq]; omega
 by_cases g3 : nk = 0
 rotate_left
 · have e3a : ((0 : Int) == (nk : Int)) = false := by rw [beq_eq_false_iff_ne]; omega
   have Z : Hid (¬ R) := fun r => g3 (PJ.out.1 (HR.out.1 r).2.2.2).2.2.2
   clear g3 HR PJ g0 g1 g2
   go_enter Tryz.func15, Tryz.ntmps15
   go_wp2_with fail
   go_ret
   exact tells_no (by first | rfl | (simp; omega)) Z.out bqq
 have e3a : ((0 : Int) == (nk : Int)) = true := by rw [beq_iff_eq]; omega
 have Z : Hid R := HR.out.2 ⟨HB.out.1, HB.out.2, HC.out, PJ.out.2 ⟨g0, g1, g2, g3⟩⟩
 clear HR PJ g0 g1 g2 g3
 go_enter Tryz.func15, Tryz.ntmps15
 go_wp2_with fail
 go_ret
 exact tells_yes (by first | rfl | (simp; omega)) Z.out bqq
theorem ris_3 (p nn : Nat) (hp : p < nn) (rt n bt : Int) (nb ni nk : Nat) (A3 A4 A5 : Option Addr) (c3 c4 c5 : Nat) (nm df : ByteArray) (l2 l3 l4 l9 x2 x3 x4 x9 : Nat) (X2 X3 X4 X9 : Option Addr) (hs : Bool) (sz it : Int) (b1 o1 c : Nat) (w : World) (lb1 : b1 < w.heap.size)
 (y0 : w.cell? ⟨b1, o1 + p * 10, none⟩ = some (.int .i64 3)) (y1 : w.cell? ⟨b1, o1 + p * 10 + 1, none⟩ = some (.string nm)) (y2 : w.cell? ⟨b1, o1 + p * 10 + 2, none⟩ = some (.slice X2 l2 x2)) (y3 : w.cell? ⟨b1, o1 + p * 10 + 3, none⟩ = some (.slice X3 l3 x3)) (y4 : w.cell? ⟨b1, o1 + p * 10 + 4, none⟩ = some (.slice X4 l4 x4))
 (y5 : w.cell? ⟨b1, o1 + p * 10 + 5, none⟩ = some (.bool hs)) (y6 : w.cell? ⟨b1, o1 + p * 10 + 6, none⟩ = some (.string df)) (y7 : w.cell? ⟨b1, o1 + p * 10 + 7, none⟩ = some (.int .i64 sz)) (y8 : w.cell? ⟨b1, o1 + p * 10 + 8, none⟩ = some (.int .i64 it)) (y9 : w.cell? ⟨b1, o1 + p * 10 + 9, none⟩ = some (.slice X9 l9 x9)) (R : Prop) (hR : R ↔ nb ≤ 20000 ∧ ni ≤ 300 ∧ (-2147483648 ≤ n ∧ n ≤ 2147483647) ∧ VJust 3 n bt nb ni nk) :
 Calls Tryz.prog 15 #[.agg #[.slice (some ⟨b1, o1, none⟩) nn c, .int .i64 rt], .int .i64 (p : Int), .agg #[.int .i64 3, .int .i64 n, .int .u64 bt, .slice A3 nb c3, .slice A4 ni c4, .slice A5 nk c5]] w (Tells R w) := by
 have CS := cell_set
 have q : (p : Int) < (nn : Int) := by omega
 have HR := Lib.hid hR
 have PJ : Hid (VJust 3 n bt nb ni nk ↔ bt = 0 ∧ nb = 0 ∧ ni = 0 ∧ nk = 0) := by show _ ↔ _; unfold VJust; omega
 clear hR
 by_cases hb : (20000 : Int) < (nb : Int)
 · have qb : decide ((20000 : Int) < (nb : Int)) = true := by simpa using hb
   have Z : Hid (¬ R) := fun r => by have := (HR.out.1 r).1; omega
   clear hb HR PJ
   go_enter Tryz.func15, Tryz.ntmps15
   go_wp2_with fail
   go_ret
   exact tells_no (by first | rfl | (simp; omega)) Z.out bqq
 have qb : decide ((20000 : Int) < (nb : Int)) = false := by simpa using hb
 by_cases hi : (300 : Int) < (ni : Int)
 · have qi : decide ((300 : Int) < (ni : Int)) = true := by simpa using hi
   have Z : Hid (¬ R) := fun r => by have := (HR.out.1 r).2.1; omega
   clear hb hi HR PJ
   go_enter Tryz.func15, Tryz.ntmps15
   go_wp2_with fail
   go_ret
   exact tells_no (by first | rfl | (simp; omega)) Z.out bqq
 have qi : decide ((300 : Int) < (ni : Int)) = false := by simpa using hi
 have HB : Hid (nb ≤ 20000 ∧ ni ≤ 300) := ⟨by omega, by omega⟩
 clear hb hi
 by_cases h3 : -2147483648 ≤ n ∧ n ≤ 2147483647
 rotate_left
 · have ew : ¬ wrap64 (wrap32 n) = n := by unfold wrap64 wrap32; omega
   have e1 : (wrap64 (wrap32 n) == n) = false := by rw [beq_eq_false_iff_ne]; exact ew
   have Z : Hid (¬ R) := fun r => h3 (HR.out.1 r).2.2.1
   clear h3 HR PJ
   go_enter Tryz.func15, Tryz.ntmps15
   go_wp2_with fail
   go_ret
   exact tells_no (by first | rfl | (simp; omega)) Z.out bqq
 have HC := Lib.hid h3
 have e1 : wrap32 n = n := IntWalk.wrap32_in n h3
 have e2 : wrap64 n = n := IntWalk.wrap64_in n (by omega)
 clear h3
 by_cases g0 : bt = 0
 rotate_left
 · have e0a : ((0 : Int) == bt) = false := by rw [beq_eq_false_iff_ne]; omega
   have Z : Hid (¬ R) := fun r => g0 (PJ.out.1 (HR.out.1 r).2.2.2).1
   clear g0 HR PJ 
   go_enter Tryz.func15, Tryz.ntmps15
   go_wp2_with fail
   go_ret
   exact tells_no (by first | rfl | (simp; omega)) Z.out bqq
 have e0a : ((0 : Int) == bt) = true := by rw [beq_iff_eq]; omega
 by_cases g1 : nb = 0
 rotate_left
 · have e1a : ((0 : Int) == (nb : Int)) = false := by rw [beq_eq_false_iff_ne]; omega
   have Z : Hid (¬ R) := fun r => g1 (PJ.out.1 (HR.out.1 r).2.2.2).2.1
   clear g1 HR PJ g0
   go_enter Tryz.func15, Tryz.ntmps15
   go_wp2_with fail
   go_ret
   exact tells_no (by first | rfl | (simp; omega)) Z.out bqq
 have e1a : ((0 : Int) == (nb : Int)) = true := by rw [beq_iff_eq]; omega
 by_cases g2 : ni = 0
 rotate_left
 · have e2a : ((0 : Int) == (ni : Int)) = false := by rw [beq_eq_false_iff_ne]; omega
   have Z : Hid (¬ R) := fun r => g2 (PJ.out.1 (HR.out.1 r).2.2.2).2.2.1
   clear g2 HR PJ g0 g1
   go_enter Tryz.func15, Tryz.ntmps15
   go_wp2_with fail
   go_ret
   exact tells_no (by first | rfl | (simp; omega)) Z.out bqq
 have e2a : ((0 : Int) == (ni : Int)) = true := by rw [beq_iff_eq]; omega
 by_cases g3 : nk = 0
 rotate_left
 · have e3a : ((0 : Int) == (nk : Int)) = false := by rw [beq_eq_false_iff_ne]; omega
   have Z : Hid (¬ R) := fun r => g3 (PJ.out.1 (HR.out.1 r).2.2.2).2.2.2
   clear g3 HR PJ g0 g1 g2
   go_enter Tryz.func15, Tryz.ntmps15
   go_wp2_with fail
   go_ret
   exact tells_no (by first | rfl | (simp; omega)) Z.out bqq
 have e3a : ((0 : Int) == (nk : Int)) = true := by rw [beq_iff_eq]; omega
 have Z : Hid R := HR.out.2 ⟨HB.out.1, HB.out.2, HC.out, PJ.out.2 ⟨g0, g1, g2, g3⟩⟩
 clear HR PJ g0 g1 g2 g3
 go_enter Tryz.func15, Tryz.ntmps15
 go_wp2_with fail
 go_ret
 exact tells_yes (by first | rfl | (simp; omega)) Z.out bqq
theorem ris_4 (p nn : Nat) (hp : p < nn) (rt n bt : Int) (nb ni nk : Nat) (A3 A4 A5 : Option Addr) (c3 c4 c5 : Nat) (nm df : ByteArray) (l2 l3 l4 l9 x2 x3 x4 x9 : Nat) (X2 X3 X4 X9 : Option Addr) (hs : Bool) (sz it : Int) (b1 o1 c : Nat) (w : World) (lb1 : b1 < w.heap.size)
 (y0 : w.cell? ⟨b1, o1 + p * 10, none⟩ = some (.int .i64 4)) (y1 : w.cell? ⟨b1, o1 + p * 10 + 1, none⟩ = some (.string nm)) (y2 : w.cell? ⟨b1, o1 + p * 10 + 2, none⟩ = some (.slice X2 l2 x2)) (y3 : w.cell? ⟨b1, o1 + p * 10 + 3, none⟩ = some (.slice X3 l3 x3)) (y4 : w.cell? ⟨b1, o1 + p * 10 + 4, none⟩ = some (.slice X4 l4 x4))
 (y5 : w.cell? ⟨b1, o1 + p * 10 + 5, none⟩ = some (.bool hs)) (y6 : w.cell? ⟨b1, o1 + p * 10 + 6, none⟩ = some (.string df)) (y7 : w.cell? ⟨b1, o1 + p * 10 + 7, none⟩ = some (.int .i64 sz)) (y8 : w.cell? ⟨b1, o1 + p * 10 + 8, none⟩ = some (.int .i64 it)) (y9 : w.cell? ⟨b1, o1 + p * 10 + 9, none⟩ = some (.slice X9 l9 x9)) (R : Prop) (hR : R ↔ nb ≤ 20000 ∧ ni ≤ 300 ∧ VJust 4 n bt nb ni nk) :
 Calls Tryz.prog 15 #[.agg #[.slice (some ⟨b1, o1, none⟩) nn c, .int .i64 rt], .int .i64 (p : Int), .agg #[.int .i64 4, .int .i64 n, .int .u64 bt, .slice A3 nb c3, .slice A4 ni c4, .slice A5 nk c5]] w (Tells R w) := by
 have CS := cell_set
 have q : (p : Int) < (nn : Int) := by omega
 have HR := Lib.hid hR
 have PJ : Hid (VJust 4 n bt nb ni nk ↔ bt = 0 ∧ nb = 0 ∧ ni = 0 ∧ nk = 0) := by show _ ↔ _; unfold VJust; omega
 clear hR
 by_cases hb : (20000 : Int) < (nb : Int)
 · have qb : decide ((20000 : Int) < (nb : Int)) = true := by simpa using hb
   have Z : Hid (¬ R) := fun r => by have := (HR.out.1 r).1; omega
   clear hb HR PJ
   go_enter Tryz.func15, Tryz.ntmps15
   go_wp2_with fail
   go_ret
   exact tells_no (by first | rfl | (simp; omega)) Z.out bqq
 have qb : decide ((20000 : Int) < (nb : Int)) = false := by simpa using hb
 by_cases hi : (300 : Int) < (ni : Int)
 · have qi : decide ((300 : Int) < (ni : Int)) = true := by simpa using hi
   have Z : Hid (¬ R) := fun r => by have := (HR.out.1 r).2.1; omega
   clear hb hi HR PJ
   go_enter Tryz.func15, Tryz.ntmps15
   go_wp2_with fail
   go_ret
   exact tells_no (by first | rfl | (simp; omega)) Z.out bqq
 have qi : decide ((300 : Int) < (ni : Int)) = false := by simpa using hi
 have HB : Hid (nb ≤ 20000 ∧ ni ≤ 300) := ⟨by omega, by omega⟩
 clear hb hi
 by_cases g0 : bt = 0
 rotate_left
 · have e0a : ((0 : Int) == bt) = false := by rw [beq_eq_false_iff_ne]; omega
   have Z : Hid (¬ R) := fun r => g0 (PJ.out.1 (HR.out.1 r).2.2).1
   clear g0 HR PJ 
   go_enter Tryz.func15, Tryz.ntmps15
   go_wp2_with fail
   go_ret
   exact tells_no (by first | rfl | (simp; omega)) Z.out bqq
 have e0a : ((0 : Int) == bt) = true := by rw [beq_iff_eq]; omega
 by_cases g1 : nb = 0
 rotate_left
 · have e1a : ((0 : Int) == (nb : Int)) = false := by rw [beq_eq_false_iff_ne]; omega
   have Z : Hid (¬ R) := fun r => g1 (PJ.out.1 (HR.out.1 r).2.2).2.1
   clear g1 HR PJ g0
   go_enter Tryz.func15, Tryz.ntmps15
   go_wp2_with fail
   go_ret
   exact tells_no (by first | rfl | (simp; omega)) Z.out bqq
 have e1a : ((0 : Int) == (nb : Int)) = true := by rw [beq_iff_eq]; omega
 by_cases g2 : ni = 0
 rotate_left
 · have e2a : ((0 : Int) == (ni : Int)) = false := by rw [beq_eq_false_iff_ne]; omega
   have Z : Hid (¬ R) := fun r => g2 (PJ.out.1 (HR.out.1 r).2.2).2.2.1
   clear g2 HR PJ g0 g1
   go_enter Tryz.func15, Tryz.ntmps15
   go_wp2_with fail
   go_ret
   exact tells_no (by first | rfl | (simp; omega)) Z.out bqq
 have e2a : ((0 : Int) == (ni : Int)) = true := by rw [beq_iff_eq]; omega
 by_cases g3 : nk = 0
 rotate_left
 · have e3a : ((0 : Int) == (nk : Int)) = false := by rw [beq_eq_false_iff_ne]; omega
   have Z : Hid (¬ R) := fun r => g3 (PJ.out.1 (HR.out.1 r).2.2).2.2.2
   clear g3 HR PJ g0 g1 g2
   go_enter Tryz.func15, Tryz.ntmps15
   go_wp2_with fail
   go_ret
   exact tells_no (by first | rfl | (simp; omega)) Z.out bqq
 have e3a : ((0 : Int) == (nk : Int)) = true := by rw [beq_iff_eq]; omega
 have Z : Hid R := HR.out.2 ⟨HB.out.1, HB.out.2, PJ.out.2 ⟨g0, g1, g2, g3⟩⟩
 clear HR PJ g0 g1 g2 g3
 go_enter Tryz.func15, Tryz.ntmps15
 go_wp2_with fail
 go_ret
 exact tells_yes (by first | rfl | (simp; omega)) Z.out bqq
theorem ris_5 (p nn : Nat) (hp : p < nn) (rt n bt : Int) (nb ni nk : Nat) (A3 A4 A5 : Option Addr) (c3 c4 c5 : Nat) (nm df : ByteArray) (l2 l3 l4 l9 x2 x3 x4 x9 : Nat) (X2 X3 X4 X9 : Option Addr) (hs : Bool) (sz it : Int) (b1 o1 c : Nat) (w : World) (lb1 : b1 < w.heap.size)
 (y0 : w.cell? ⟨b1, o1 + p * 10, none⟩ = some (.int .i64 5)) (y1 : w.cell? ⟨b1, o1 + p * 10 + 1, none⟩ = some (.string nm)) (y2 : w.cell? ⟨b1, o1 + p * 10 + 2, none⟩ = some (.slice X2 l2 x2)) (y3 : w.cell? ⟨b1, o1 + p * 10 + 3, none⟩ = some (.slice X3 l3 x3)) (y4 : w.cell? ⟨b1, o1 + p * 10 + 4, none⟩ = some (.slice X4 l4 x4))
 (y5 : w.cell? ⟨b1, o1 + p * 10 + 5, none⟩ = some (.bool hs)) (y6 : w.cell? ⟨b1, o1 + p * 10 + 6, none⟩ = some (.string df)) (y7 : w.cell? ⟨b1, o1 + p * 10 + 7, none⟩ = some (.int .i64 sz)) (y8 : w.cell? ⟨b1, o1 + p * 10 + 8, none⟩ = some (.int .i64 it)) (y9 : w.cell? ⟨b1, o1 + p * 10 + 9, none⟩ = some (.slice X9 l9 x9)) (R : Prop) (hR : R ↔ nb ≤ 20000 ∧ ni ≤ 300 ∧ (bt ≤ 4294967295) ∧ VJust 5 n bt nb ni nk) :
 Calls Tryz.prog 15 #[.agg #[.slice (some ⟨b1, o1, none⟩) nn c, .int .i64 rt], .int .i64 (p : Int), .agg #[.int .i64 5, .int .i64 n, .int .u64 bt, .slice A3 nb c3, .slice A4 ni c4, .slice A5 nk c5]] w (Tells R w) := by
 have CS := cell_set
 have q : (p : Int) < (nn : Int) := by omega
 have HR := Lib.hid hR
 have PJ : Hid (VJust 5 n bt nb ni nk ↔ n = 0 ∧ nb = 0 ∧ ni = 0 ∧ nk = 0) := by show _ ↔ _; unfold VJust; omega
 clear hR
 by_cases hb : (20000 : Int) < (nb : Int)
 · have qb : decide ((20000 : Int) < (nb : Int)) = true := by simpa using hb
   have Z : Hid (¬ R) := fun r => by have := (HR.out.1 r).1; omega
   clear hb HR PJ
   go_enter Tryz.func15, Tryz.ntmps15
   go_wp2_with fail
   go_ret
   exact tells_no (by first | rfl | (simp; omega)) Z.out bqq
 have qb : decide ((20000 : Int) < (nb : Int)) = false := by simpa using hb
 by_cases hi : (300 : Int) < (ni : Int)
 · have qi : decide ((300 : Int) < (ni : Int)) = true := by simpa using hi
   have Z : Hid (¬ R) := fun r => by have := (HR.out.1 r).2.1; omega
   clear hb hi HR PJ
   go_enter Tryz.func15, Tryz.ntmps15
   go_wp2_with fail
   go_ret
   exact tells_no (by first | rfl | (simp; omega)) Z.out bqq
 have qi : decide ((300 : Int) < (ni : Int)) = false := by simpa using hi
 have HB : Hid (nb ≤ 20000 ∧ ni ≤ 300) := ⟨by omega, by omega⟩
 clear hb hi
 by_cases h5 : bt < 4294967296
 rotate_left
 · have Z : Hid (¬ R) := fun r => h5 (by have := (HR.out.1 r).2.2.1; omega)
   clear HR PJ
   go_enter Tryz.func15, Tryz.ntmps15
   go_wp2_with fail
   go_ret
   exact tells_no (by first | rfl | (simp; omega)) Z.out bqq
 have HC : Hid (bt ≤ 4294967295) := by show _ ≤ _; omega
 by_cases g0 : n = 0
 rotate_left
 · have e0a : ((0 : Int) == n) = false := by rw [beq_eq_false_iff_ne]; omega
   have Z : Hid (¬ R) := fun r => g0 (PJ.out.1 (HR.out.1 r).2.2.2).1
   clear g0 HR PJ 
   go_enter Tryz.func15, Tryz.ntmps15
   go_wp2_with fail
   go_ret
   exact tells_no (by first | rfl | (simp; omega)) Z.out bqq
 have e0a : ((0 : Int) == n) = true := by rw [beq_iff_eq]; omega
 by_cases g1 : nb = 0
 rotate_left
 · have e1a : ((0 : Int) == (nb : Int)) = false := by rw [beq_eq_false_iff_ne]; omega
   have Z : Hid (¬ R) := fun r => g1 (PJ.out.1 (HR.out.1 r).2.2.2).2.1
   clear g1 HR PJ g0
   go_enter Tryz.func15, Tryz.ntmps15
   go_wp2_with fail
   go_ret
   exact tells_no (by first | rfl | (simp; omega)) Z.out bqq
 have e1a : ((0 : Int) == (nb : Int)) = true := by rw [beq_iff_eq]; omega
 by_cases g2 : ni = 0
 rotate_left
 · have e2a : ((0 : Int) == (ni : Int)) = false := by rw [beq_eq_false_iff_ne]; omega
   have Z : Hid (¬ R) := fun r => g2 (PJ.out.1 (HR.out.1 r).2.2.2).2.2.1
   clear g2 HR PJ g0 g1
   go_enter Tryz.func15, Tryz.ntmps15
   go_wp2_with fail
   go_ret
   exact tells_no (by first | rfl | (simp; omega)) Z.out bqq
 have e2a : ((0 : Int) == (ni : Int)) = true := by rw [beq_iff_eq]; omega
 by_cases g3 : nk = 0
 rotate_left
 · have e3a : ((0 : Int) == (nk : Int)) = false := by rw [beq_eq_false_iff_ne]; omega
   have Z : Hid (¬ R) := fun r => g3 (PJ.out.1 (HR.out.1 r).2.2.2).2.2.2
   clear g3 HR PJ g0 g1 g2
   go_enter Tryz.func15, Tryz.ntmps15
   go_wp2_with fail
   go_ret
   exact tells_no (by first | rfl | (simp; omega)) Z.out bqq
 have e3a : ((0 : Int) == (nk : Int)) = true := by rw [beq_iff_eq]; omega
 have Z : Hid R := HR.out.2 ⟨HB.out.1, HB.out.2, HC.out, PJ.out.2 ⟨g0, g1, g2, g3⟩⟩
 clear HR PJ g0 g1 g2 g3
 go_enter Tryz.func15, Tryz.ntmps15
 go_wp2_with fail
 go_ret
 exact tells_yes (by first | rfl | (simp; omega)) Z.out bqq
end Go.Proofs.YtpmgjpchpmkklaaGreatDoor
