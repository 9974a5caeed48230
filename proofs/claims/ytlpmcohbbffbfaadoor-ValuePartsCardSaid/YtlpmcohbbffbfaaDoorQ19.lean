/- Joined by tools/bundle.py: SCode VCI R11B. -/
import Derived.Deep.LoopGhost
import Derived.Test.YtlpmcohbbffbfaaDoorQ4
import Derived.Test.YtlpmcohbbffbfaaDoorQ8
import Derived.Test.YtlpmcohbbffbfaaDoorQ10
import Derived.Test.YtlpmcohbbffbfaaDoorQ13
import Derived.Test.YtlpmcohbbffbfaaDoorQ14
import Derived.Test.YtlpmcohbbffbfaaDoorQ15
import Derived.Test.YtlpmcohbbffbfaaDoorQ18
namespace Go.Proofs.YtlpmcohbbffbfaaDoor
open Go.ChangeShapes Go.WideShapes Go.ChangeAt Go.RowKit Mem
def nmsOf (l : List Nd) : List ByteArray := (l.filter fun n => named n.k).map Nd.name
theorem nmsOf_len (l : List Nd) : (nmsOf l).length ≤ l.length := by unfold nmsOf; rw [List.length_map]; exact List.length_filter_le _ _
theorem nmsOf_in {l : List Nd} {t : ByteArray} (h : t ∈ nmsOf l) : ∃ n ∈ l, n.name = t := by
  unfold nmsOf at h
  obtain ⟨n, hn, e⟩ := List.mem_map.1 h
  exact ⟨n, (List.mem_filter.1 hn).1, e⟩
theorem nmsOf_snoc (l : List Nd) (n : Nd) : nmsOf (l ++ [n]) = nmsOf l ++ (if named n.k = true then [n.name] else []) := by
  unfold nmsOf
  rw [List.filter_append, List.map_append, List.filter_cons]
  split <;> simp_all
set_option maxRecDepth 100000 in
set_option maxHeartbeats 8000000 in
theorem sRightT_any (sc : Sc) (hs : sc.sm) (w : World) (hL0 : LaidN w) (A : Option Addr) (c : Nat) (h : Lies w (· < w.heap.size) sc.enc [.slice A sc.nodes.length c, .int .i64 sc.root]) :
    Calls Tryd.prog 13 #[.agg #[.slice A sc.nodes.length c, .int .i64 sc.root]] w (Tells sc.right w) := by
  have CS := cell_set
  have OR := Lib.hid (fun W b => sOrdered_any sc hs W A c (h.on b : Lies W (· < W.heap.size) sc.enc _))
  obtain ⟨_, _, e, la, ra⟩ := Sc.out.1 h
  simp only [List.cons.injEq, Value.slice.injEq, true_and, and_true] at e
  obtain ⟨rfl, rfl⟩ := e
  have n25 : sc.nodes.length ≤ 2500 := hs.1
  have RA := Lib.hid ra; have HL := Lib.hid hL0; have HS := Lib.hid hs
  have LT : Hid (sc.ordered → ∀ W, Below w.heap.size w W → Calls Tryd.prog 30 #[.slice A sc.nodes.length c] W (Tells (∀ i, i < sc.nodes.length → sc.wt i ≤ 1000) W)) := fun o W b => sLight_any sc hs (kids_in o) W A c ((RA.out.below b).more b.size)
  have MY : Hid (∀ m, m = sc.nodes.length → sc.ordered → ∀ (i : Nat) (hi : i < sc.nodes.length) (W : World), Below w.heap.size w W → ∀ (X2 X3 X4 X9 : Option Addr) (x2 x3 x4 x9 : Nat), Lies W (· < W.heap.size) (sc.nodes[i]'hi).enc [.int .i64 (sc.nodes[i]'hi).k, .string (sc.nodes[i]'hi).name, .slice X2 (sc.nodes[i]'hi).al.length x2, .slice X3 (sc.nodes[i]'hi).fs.length x3, .slice X4 (sc.nodes[i]'hi).sy.length x4, .bool (sc.nodes[i]'hi).has, .string (sc.nodes[i]'hi).df, .int .i64 (sc.nodes[i]'hi).size, .int .i64 (sc.nodes[i]'hi).items, .slice X9 (sc.nodes[i]'hi).br.length x9] →
      Calls Tryd.prog 28 #[.slice A m c, .agg #[.int .i64 (sc.nodes[i]'hi).k, .string (sc.nodes[i]'hi).name, .slice X2 (sc.nodes[i]'hi).al.length x2, .slice X3 (sc.nodes[i]'hi).fs.length x3, .slice X4 (sc.nodes[i]'hi).sy.length x4, .bool (sc.nodes[i]'hi).has, .string (sc.nodes[i]'hi).df, .int .i64 (sc.nodes[i]'hi).size, .int .i64 (sc.nodes[i]'hi).items, .slice X9 (sc.nodes[i]'hi).br.length x9]] W (Tells ((sc.nodes[i]'hi).ok sc) W)) := fun m hm o i hi W b X2 X3 X4 X9 x2 x3 x4 x9 hh => by
    subst hm
    exact may_any sc _ hs.1 (fun k hk => kids_in o i hi k (by unfold Sc.kidsAt; rw [List.getElem?_eq_getElem hi]; exact hk)) (hs.2 i hi) W (HL.out.below b) A X2 X3 X4 X9 c x2 x3 x4 x9 ((RA.out.below b).more b.size) hh
  obtain ⟨Q, hQ⟩ : ∃ Q : Prop, Q = sc.right := ⟨_, rfl⟩
  have HQ : Hid (Q ↔ sc.ordered ∧ (∀ n ∈ sc.nodes, n.ok sc) ∧ (∀ i, i < sc.nodes.length → sc.wt i ≤ 1000) ∧ (nmsOf sc.nodes).Nodup) := by show _ ↔ _; rw [hQ]; exact Iff.rfl
  rw [← hQ]
  have H0 := Lib.hid (B2.newat (w := w) (t := 35) (x0 := .slice A sc.nodes.length c) (x1 := .int .i64 sc.root) rfl)
  have GZ : Hid ((w.alloc (.cells #[.slice A sc.nodes.length c, .int .i64 sc.root] 35)).heap.size = w.heap.size + 1) := by show _ = _; simp
  have W1 : Hid (Below w.heap.size w (w.alloc (.cells #[.slice A sc.nodes.length c, .int .i64 sc.root] 35))) := (Below.refl _ _).alloc (Nat.le_refl _) _
  obtain ⟨ns, hns⟩ : ∃ n, n = sc.nodes.length := ⟨_, rfl⟩
  have HNS := Lib.hid hns
  generalize hrt : sc.root = rt at *
  rw [← hns] at n25 OR LT H0 GZ W1 ⊢
  clear h la ra hs hQ hL0 hns
  go_enter Tryd.func13, Tryd.ntmps13
  go_wp2_with fail
  with_reducible refine (OR.out _ W1.out).mono ?_
  rintro e w2 ⟨b, rfl, hb, b2⟩
  rw [GZ.out] at b2
  have h2 := Lib.hid (B2.below H0.out b2 (Nat.lt_succ_self _))
  obtain ⟨_, _, _, _⟩ := B2.facts h2.out
  have bw2 : Below w.heap.size w w2 := W1.out.trans (b2.mono (Nat.le_succ _))
  have HB1 := Lib.hid hb
  clear hb
  cases b with
  | false =>
    have Z : Hid (¬ Q) := fun q => by have := HB1.out.2 (HQ.out.1 q).1; simp at this
    go_wp2_with fail
    go_ret
    exact tells_no rfl Z.out bw2
  | true =>
    have ORD : Hid sc.ordered := HB1.out.1 (by first | rfl | trivial)
    have LTO := Lib.hid (LT.out ORD.out)
    have MYO := Lib.hid (MY.out ns HNS.out ORD.out)
    clear LT MY OR HB1
    go_wp2_with fail
    go_loopw [12, 3] (fun t v wr => ∃ j : Nat, j ≤ ns ∧ t = .int .i64 (j : Int) ∧ Hid (∀ i (h : i < sc.nodes.length), i < j → (sc.nodes[i]'h).ok sc) ∧ Hid (GatS wr (w.heap.size + 1) 9 1 v ((nmsOf (sc.nodes.take j)).map D.s)) ∧ Hid (Below (w.heap.size + 1) (w.alloc (.cells #[.slice A ns c, .int .i64 rt] 35)) wr)) (fun t _ _ => ns - (intOf t).toNat)
    case atStart => exact ⟨0, Nat.zero_le _, rfl, (fun i h g => absurd g (Nat.not_lt_zero _)), GatS.none_ _ _ _ _, b2⟩
    case round =>
      obtain ⟨j, hj, rfl, HI, HG, bl⟩ := hrel
      have bl2 := bl.out
      have z := bl2.size
      rw [GZ.out] at z
      have bw : Below w.heap.size w wr := W1.out.trans (bl2.mono (Nat.le_succ _))
      have zlt : w.heap.size < wr.heap.size := by omega
      have hb := Lib.hid (B2.below H0.out bl2 (Nat.lt_succ_self _))
      obtain ⟨_, _, _, _⟩ := B2.facts hb.out
      by_cases hjn : j < ns
      · have h1 : j < sc.nodes.length := by rw [← HNS.out]; exact hjn
        have q : (j : Int) < (ns : Int) := by omega
        obtain ⟨b1', o1, X2, x2, X3, x3, X4, x4, X9, x9, e1, hb1, ⟨y0, y1, y2, y3, y4, y5, y6, y7, y8, y9⟩, lx⟩ := nodes_at (RA.out.below bw) h1
        have lb1 : b1' < wr.heap.size := by omega
        have MC : Hid (∀ W, Below wr.heap.size wr W → Calls Tryd.prog 28 #[.slice A ns c, .agg #[.int .i64 (sc.nodes[j]'h1).k, .string (sc.nodes[j]'h1).name, .slice X2 (sc.nodes[j]'h1).al.length x2, .slice X3 (sc.nodes[j]'h1).fs.length x3, .slice X4 (sc.nodes[j]'h1).sy.length x4, .bool (sc.nodes[j]'h1).has, .string (sc.nodes[j]'h1).df, .int .i64 (sc.nodes[j]'h1).size, .int .i64 (sc.nodes[j]'h1).items, .slice X9 (sc.nodes[j]'h1).br.length x9]] W (Tells ((sc.nodes[j]'h1).ok sc) W)) := fun W b =>
          MYO.out j h1 W (bw.trans (b.mono (by omega))) X2 X3 X4 X9 x2 x3 x4 x9 (((lx.more (by omega : w.heap.size ≤ wr.heap.size)).below b).more b.size)
        have TK : Hid (nmsOf (sc.nodes.take (j + 1)) = nmsOf (sc.nodes.take j) ++ (if named (sc.nodes[j]'h1).k = true then [(sc.nodes[j]'h1).name] else [])) := by
          show _ = _
          rw [List.take_succ_eq_append_getElem h1, nmsOf_snoc]
        have NOK : Hid (¬ (sc.nodes[j]'h1).ok sc → ¬ Q) := fun e q => e ((HQ.out.1 q).2.1 _ (List.getElem_mem h1))
        have NX : Hid ((sc.nodes[j]'h1).ok sc → ∀ i (h : i < sc.nodes.length), i < j + 1 → (sc.nodes[i]'h).ok sc) := fun e i h g => by
          rcases Nat.lt_or_ge i j with k | k
          · exact HI.out i h k
          · obtain rfl : i = j := by omega
            exact e
        generalize hT : sc.nodes[j]'h1 = T at *
        generalize hO : T.ok sc = OK at *
        have NM := Lib.hid (sNamed_pure T.k)
        have N0 := Lib.hid (B10.newat (w := wr) (t := 40) (x0 := .int .i64 T.k) (x1 := .string T.name) (x2 := .slice X2 T.al.length x2) (x3 := .slice X3 T.fs.length x3) (x4 := .slice X4 T.sy.length x4) (x5 := .bool T.has) (x6 := .string T.df) (x7 := .int .i64 T.size) (x8 := .int .i64 T.items) (x9 := .slice X9 T.br.length x9) rfl)
        subst e1
        clear h1 lx hT hO HI
        go_wp2_with fail
        with_reducible refine (MC.out _ (by (repeat' (first | with_reducible assumption | with_reducible exact Below.refl _ _ | (with_reducible refine Below.alloc ?_ ?_ _; rotate_left; focus ((first | exact Nat.le_refl _ | (simp; done) | (simp; omega) | omega | fail))) | (with_reducible refine Below.setCell ?_ ?_ _; rotate_left; focus ((first | exact Nat.le_refl _ | (simp; done) | (simp; omega) | omega | fail))) | with_reducible refine Mem.bel_drewN ?_ _ | with_reducible refine Below.drew ?_ | (with_reducible refine Mem.bel_call (by with_reducible assumption) ?_ ?_; focus ((first | exact Nat.le_refl _ | (simp; done) | (simp; omega) | omega | fail))) | fail)))).mono ?_
        rintro e w3 ⟨b, rfl, hbb, b3⟩
        have n3 := Lib.hid (B10.below N0.out b3 (by simp))
        obtain ⟨_, _, _, _, _, _, _, _, _, _, _, _, _, _, _, _, _, _, _, _⟩ := B10.facts n3.out
        have bx3 : Below wr.heap.size wr w3 := by (repeat' (first | with_reducible assumption | with_reducible exact Below.refl _ _ | (with_reducible refine Below.alloc ?_ ?_ _; rotate_left; focus ((first | exact Nat.le_refl _ | (simp; done) | (simp; omega) | omega | fail))) | (with_reducible refine Below.setCell ?_ ?_ _; rotate_left; focus ((first | exact Nat.le_refl _ | (simp; done) | (simp; omega) | omega | fail))) | with_reducible refine Mem.bel_drewN ?_ _ | with_reducible refine Below.drew ?_ | (with_reducible refine Mem.bel_call (by with_reducible assumption) ?_ ?_; focus ((first | exact Nat.le_refl _ | (simp; done) | (simp; omega) | omega | fail))) | fail))
        have bw3 : Below w.heap.size w w3 := bw.trans (bx3.mono (by omega))
        have bl3 : Below (w.heap.size + 1) (w.alloc (.cells #[.slice (some ⟨b1', o1, none⟩) ns c, .int .i64 rt] 35)) w3 := bl2.trans (bx3.mono z)
        have HB2 := Lib.hid hbb
        clear hbb
        cases b with
        | false =>
          have Z : Hid (¬ Q) := NOK.out (fun o => by have := HB2.out.2 o; simp at this)
          go_wp2_with fail
          go_ret
          exact tells_no rfl Z.out bw3
        | true =>
          have HI2 := Lib.hid (NX.out (HB2.out.1 (by first | rfl | trivial)))
          clear HB2 NX NOK
          cases hnm : named T.k with
          | false =>
            rw [hnm] at NM TK
            have TK2 : Hid (nmsOf (sc.nodes.take (j + 1)) = nmsOf (sc.nodes.take j)) := by show _ = _; rw [TK.out, if_neg (by decide), List.append_nil]
            have HG2 := Lib.hid (HG.out.below bx3)
            clear hnm TK HG
            go_wp2_with fail
            with_reducible refine (NM.out _).mono ?_
            rintro e w4 ⟨rfl, rfl⟩
            go_wp2_with fail
            go_roundw
            case rel => exact ⟨j + 1, by omega, by go_num, HI2, by rw [TK2.out]; exact HG2, bl3⟩
            case measure => simp [intOf]; omega
          | true =>
            rw [hnm] at NM TK
            have TK2 : Hid ((nmsOf (sc.nodes.take (j + 1))).map D.s = (nmsOf (sc.nodes.take j)).map D.s ++ [D.s T.name]) := by show _ = _; rw [TK.out, if_pos rfl, List.map_append]; rfl
            have LJ : Hid (((nmsOf (sc.nodes.take j)).map D.s).length ≤ 2500) := by
              show _ ≤ _
              have a := nmsOf_len (sc.nodes.take j)
              have b : (sc.nodes.take j).length ≤ j := by rw [List.length_take]; omega
              rw [List.length_map]; omega
            have ND : Hid (NewD w3 wr.heap.size (D.s T.name) [.string T.name]) := ⟨fun _ => False, fun _ h => h.elim, lies_s.2 rfl, fun _ h => h.elim⟩
            clear hnm TK
            go_wp2_with fail
            with_reducible refine (NM.out _).mono ?_
            rintro e w4 ⟨rfl, rfl⟩
            go_wp2_with (at_builtin; refine wpList_gat _ textT rfl (.tmp 24) (.tmp 27) rfl (w.heap.size + 1) u3 _ rfl wr HG.out bx3 1 #[.string T.name] rfl rfl (by simp [Value.oneCell']) (by have := LJ.out; omega) z _ ND.out ?_; intro v3 w5 g3 b5)
            go_roundw
            case rel => exact ⟨j + 1, by omega, by go_num, HI2, by rw [TK2.out]; exact g3, bl3.trans b5⟩
            case measure => simp [intOf]; omega
      · obtain rfl : j = ns := by omega
        have q : ¬ (j : Int) < (j : Int) := by omega
        have TK : sc.nodes.take j = sc.nodes := by rw [HNS.out, List.take_length]
        rw [TK] at HG
        obtain ⟨A', c', rfl, hc, S, hS, hr, _⟩ := HG.out.done
        have FL := row_strs.1 hr
        have LN : ((nmsOf sc.nodes).map D.s).length = (nmsOf sc.nodes).length := List.length_map ..
        have LN2 := nmsOf_len sc.nodes
        have SZ : ∀ i (h : i < (nmsOf sc.nodes).length), ((nmsOf sc.nodes)[i]'h).size ≤ 2500 := fun i h => by
          obtain ⟨n, hn, e⟩ := nmsOf_in (List.getElem_mem h)
          obtain ⟨k, hk, rfl⟩ := List.getElem_of_mem hn
          rw [← e]; exact (HS.out.2 k hk).1
        have CF := Lib.hid ((differ_any A' c' (nmsOf sc.nodes) (nmsOf sc.nodes).length rfl wr (FlS.keep (fun _ _ => rfl) (fun g hg => (hS _ hg).2) FL) (by have := HNS.out; omega) (fun i h => by have := SZ i h; omega)).mono fun _ _ g => told_tells g nodupb_iff)
        have QX : Hid (Q ↔ (nmsOf sc.nodes).Nodup ∧ (∀ i, i < j → sc.wt i ≤ 1000)) := HQ.out.trans ⟨fun q => ⟨q.2.2.2, by rw [HNS.out]; exact q.2.2.1⟩, fun q => ⟨ORD.out, fun n hn => by obtain ⟨i, hi, rfl⟩ := List.getElem_of_mem hn; exact HI.out i hi (by rw [HNS.out]; exact hi), by rw [← HNS.out]; exact q.2, q.1⟩⟩
        have LTW := Lib.hid LTO.out
        rw [LN]
        clear SZ LN LN2 FL hr hS HI HG TK LTO MYO
        generalize (nmsOf sc.nodes).Nodup = O1 at *
        generalize (∀ i, i < j → sc.wt i ≤ 1000) = O2 at *
        generalize (nmsOf sc.nodes).length = nn at *
        go_wp2_with fail
        with_reducible refine CF.out.mono ?_
        rintro e w3 ⟨b, rfl, hbb, b3⟩
        have n3 := Lib.hid (B2.below hb.out b3 (by omega))
        obtain ⟨_, _, _, _⟩ := B2.facts n3.out
        have bw3 : Below w.heap.size w w3 := bw.trans (b3.mono (by omega))
        have HB2 := Lib.hid hbb
        clear hbb
        cases b with
        | false =>
          have Z : Hid (¬ Q) := fun q => by have := HB2.out.2 (QX.out.1 q).1; simp at this
          go_wp2_with fail
          go_ret
          exact tells_no rfl Z.out bw3
        | true =>
          have QY : Hid (Q ↔ O2) := QX.out.trans ⟨fun q => q.2, fun q => ⟨HB2.out.1 (by first | rfl | trivial), q⟩⟩
          go_wp2_with fail
          with_reducible refine (LTW.out _ bw3).mono ?_
          rintro e w4 ⟨b, rfl, hbb, b4⟩
          have bw4 : Below w.heap.size w w4 := bw3.trans (b4.mono bw3.size)
          have HB3 := Lib.hid hbb
          clear hbb
          go_wp2_with fail
          go_ret
          exact ⟨b, rfl, HB3.out.trans QY.out.symm, bw4⟩
end Go.Proofs.YtlpmcohbbffbfaaDoor
namespace Go.Proofs.YtlpmcohbbffbfaaDoor
open Go.ChangeShapes Go.WideShapes Go.ChangeAt Go.RowKit Mem
set_option maxRecDepth 100000 in
set_option maxHeartbeats 2000000 in
theorem vone_ne (p nn : Nat) (hp : p < nn) (K K' n bt : Int) (hK : K ≠ K') (nb ni nk : Nat) (A3 A4 A5 : Option Addr) (c3 c4 c5 : Nat) (nm df : ByteArray) (l2 l3 l4 l9 x2 x3 x4 x9 : Nat) (X2 X3 X4 X9 : Option Addr) (hs : Bool) (sz it : Int) (b1 o1 c : Nat) (w : World) (lb1 : b1 < w.heap.size)
    (y0 : w.cell? ⟨b1, o1 + p * 10, none⟩ = some (.int .i64 K')) (y1 : w.cell? ⟨b1, o1 + p * 10 + 1, none⟩ = some (.string nm)) (y2 : w.cell? ⟨b1, o1 + p * 10 + 2, none⟩ = some (.slice X2 l2 x2)) (y3 : w.cell? ⟨b1, o1 + p * 10 + 3, none⟩ = some (.slice X3 l3 x3)) (y4 : w.cell? ⟨b1, o1 + p * 10 + 4, none⟩ = some (.slice X4 l4 x4))
    (y5 : w.cell? ⟨b1, o1 + p * 10 + 5, none⟩ = some (.bool hs)) (y6 : w.cell? ⟨b1, o1 + p * 10 + 6, none⟩ = some (.string df)) (y7 : w.cell? ⟨b1, o1 + p * 10 + 7, none⟩ = some (.int .i64 sz)) (y8 : w.cell? ⟨b1, o1 + p * 10 + 8, none⟩ = some (.int .i64 it)) (y9 : w.cell? ⟨b1, o1 + p * 10 + 9, none⟩ = some (.slice X9 l9 x9)) :
    Calls Tryd.prog 32 #[.slice (some ⟨b1, o1, none⟩) nn c, .int .i64 (p : Int), .agg #[.int .i64 K, .int .i64 n, .int .u64 bt, .slice A3 nb c3, .slice A4 ni c4, .slice A5 nk c5]] w (Told false w) := by
  have CS := cell_set
  have q : (p : Int) < (nn : Int) := by omega
  have qk : (K != K') = true := by rw [bne_iff_ne]; exact hK
  have gb0 : b1 ≠ w.heap.size := by omega
  have gb1 : b1 ≠ w.heap.size + 1 := by omega
  clear hK
  go_enter Tryd.func32, Tryd.ntmps32
  go_wp2_with fail
  go_ret
  exact told_ret rfl (by (repeat' (first | with_reducible assumption | with_reducible exact Below.refl _ _ | (with_reducible refine Below.alloc ?_ ?_ _; rotate_left; focus ((first | exact Nat.le_refl _ | (simp; done) | (simp; omega) | omega | fail))) | (with_reducible refine Below.setCell ?_ ?_ _; rotate_left; focus ((first | exact Nat.le_refl _ | (simp; done) | (simp; omega) | omega | fail))) | with_reducible refine Mem.bel_drewN ?_ _ | with_reducible refine Below.drew ?_ | (with_reducible refine Mem.bel_call (by with_reducible assumption) ?_ ?_; focus ((first | exact Nat.le_refl _ | (simp; done) | (simp; omega) | omega | fail))) | fail)))
theorem ok_range {s : Sc} {n : Nd} (h : n.ok s) : 1 ≤ n.k ∧ n.k ≤ 14 ∧ (n.k = 9 → n.fs.length ≤ 300) ∧ (n.k = 14 → n.size ≤ 1000) := by
  refine ⟨h.1, h.2.1, fun hk => ?_, fun hk => ?_⟩
  · have := ((ok_9 hk).1 h).2.1.1.1
    rw [List.length_map] at this
    omega
  · exact ((ok_14 hk).1 h).2.1.2
set_option maxRecDepth 100000 in
set_option maxHeartbeats 4000000 in
theorem vone_step (s : Sc) (hs : s.right) (k n bt : Int) (bs : List UInt8) (its : List V) (ks : List ByteArray) (hw : V.wt (.mk k n bt bs its ks) ≤ 1000000) (IHs : ∀ i (h : i < its.length), OneC s (its[i]'h)) : OneC s (.mk k n bt bs its ks) := by
  intro a ha0 ha1 w A A3 A4 A5 c c3 c4 c5 hL ra ht
  obtain ⟨p, rfl⟩ : ∃ p : Nat, a = (p : Int) := ⟨a.toNat, by omega⟩
  have hp : p < s.nodes.length := by omega
  have nn200 : s.nodes.length ≤ 200 := hs.1.2.1
  have hok := hs.2.1 _ (List.getElem_mem hp)
  have hkid := kids_in hs.1 p hp
  have ek : s.kidsAt p = (s.nodes[p]'hp).kids := by unfold Sc.kidsAt; rw [List.getElem?_eq_getElem hp]; rfl
  rw [ek] at hkid
  obtain ⟨hk1, hk14, hf9, hs14⟩ := ok_range hok
  obtain ⟨_, _, _, _, _, _, e, l3, r3, l4, r4, l5, f5⟩ := V.out.1 ht
  simp only [V.k, V.n, V.bt, V.bs, V.its, V.ks, List.cons.injEq, Value.slice.injEq, true_and, and_true] at e l3 r3 l4 r4 l5 f5
  obtain ⟨⟨rfl, rfl⟩, ⟨rfl, rfl⟩, rfl, rfl⟩ := e
  simp only [V.k, V.n, V.bt, V.bs, V.its, V.ks]
  have hw' : 1 + bs.length + kwt ks + V.wts its ≤ 1000000 := by unfold V.wt at hw; exact hw
  have lks := kwt_len ks
  have lit := vwts_len its
  obtain ⟨b1, o1, X2, x2, X3, x3, X4, x4, X9, x9, rfl, lb1, ⟨y0, y1, y2, y3, y4, y5, y6, y7, y8, y9⟩, lx⟩ := nodes_at ra hp
  obtain ⟨_, _, _, _, _, _, _, _, e, _, _, len3, row3, _, _, len9, row9⟩ := Nd.out.1 lx
  simp only [List.cons.injEq, Value.slice.injEq, true_and, and_true] at e
  obtain ⟨⟨rfl, rfl⟩, ⟨rfl, rfl⟩, ⟨rfl, rfl⟩, rfl, rfl⟩ := e
  by_cases hne : k = (s.nodes[p]'hp).k
  rotate_left
  · exact (vone_ne p s.nodes.length hp k _ n bt hne _ _ _ A3 A4 A5 c3 c4 c5 _ _ _ _ _ _ x2 x3 x4 x9 X2 X3 X4 X9 _ _ _ b1 o1 c w lb1 y0 y1 y2 y3 y4 y5 y6 y7 y8 y9).mono fun _ _ h => told_tells h ⟨(fun e => by cases e), fun e => absurd e (V.is_not hp hne)⟩
  have RA : ∀ W, Below w.heap.size w W → RowD W (· < W.heap.size) 10 (s.nodes.map Nd.enc) (some ⟨b1, o1, none⟩) := fun W b => (ra.below b).more b.size
  have R4 : ∀ W, Below w.heap.size w W → RowD W (· < W.heap.size) 6 (its.map V.enc) A4 := fun W b => (r4.below b).more b.size
  have HLW : ∀ W, Below w.heap.size w W → Laid W := fun W b => hL.below b hL.top
  obtain h | h | h | h | h | h | h | h | h | h | h | h | h | h : (s.nodes[p]'hp).k = 1 ∨ (s.nodes[p]'hp).k = 2 ∨ (s.nodes[p]'hp).k = 3 ∨ (s.nodes[p]'hp).k = 4 ∨ (s.nodes[p]'hp).k = 5 ∨ (s.nodes[p]'hp).k = 6 ∨ (s.nodes[p]'hp).k = 7 ∨ (s.nodes[p]'hp).k = 8 ∨ (s.nodes[p]'hp).k = 9 ∨ (s.nodes[p]'hp).k = 10 ∨ (s.nodes[p]'hp).k = 11 ∨ (s.nodes[p]'hp).k = 12 ∨ (s.nodes[p]'hp).k = 13 ∨ (s.nodes[p]'hp).k = 14 := by omega
  · obtain rfl : k = 1 := hne.trans h
    rw [h] at y0
    have I := V.is_leaf hp (n := n) (bt := bt) (bs := bs) (its := its) (ks := ks) hs14 h.symm (by omega)
    exact vone_1 p _ hp n bt _ _ _ A3 A4 A5 c3 c4 c5 _ _ _ _ _ _ x2 x3 x4 x9 X2 X3 X4 X9 _ _ _ b1 o1 c w lb1 y0 y1 y2 y3 y4 y5 y6 y7 y8 y9 _ (by rw [I]; simp)
  · obtain rfl : k = 2 := hne.trans h
    rw [h] at y0
    have I := V.is_leaf hp (n := n) (bt := bt) (bs := bs) (its := its) (ks := ks) hs14 h.symm (by omega)
    exact vone_2 p _ hp n bt _ _ _ A3 A4 A5 c3 c4 c5 _ _ _ _ _ _ x2 x3 x4 x9 X2 X3 X4 X9 _ _ _ b1 o1 c w lb1 y0 y1 y2 y3 y4 y5 y6 y7 y8 y9 _ (by rw [I]; simp)
  · obtain rfl : k = 3 := hne.trans h
    rw [h] at y0
    have I := V.is_leaf hp (n := n) (bt := bt) (bs := bs) (its := its) (ks := ks) hs14 h.symm (by omega)
    exact vone_3 p _ hp n bt _ _ _ A3 A4 A5 c3 c4 c5 _ _ _ _ _ _ x2 x3 x4 x9 X2 X3 X4 X9 _ _ _ b1 o1 c w lb1 y0 y1 y2 y3 y4 y5 y6 y7 y8 y9 _ (by rw [I]; simp)
  · obtain rfl : k = 4 := hne.trans h
    rw [h] at y0
    have I := V.is_leaf hp (n := n) (bt := bt) (bs := bs) (its := its) (ks := ks) hs14 h.symm (by omega)
    exact vone_4 p _ hp n bt _ _ _ A3 A4 A5 c3 c4 c5 _ _ _ _ _ _ x2 x3 x4 x9 X2 X3 X4 X9 _ _ _ b1 o1 c w lb1 y0 y1 y2 y3 y4 y5 y6 y7 y8 y9 _ (by rw [I]; simp)
  · obtain rfl : k = 5 := hne.trans h
    rw [h] at y0
    have I := V.is_leaf hp (n := n) (bt := bt) (bs := bs) (its := its) (ks := ks) hs14 h.symm (by omega)
    exact vone_5 p _ hp n bt _ _ _ A3 A4 A5 c3 c4 c5 _ _ _ _ _ _ x2 x3 x4 x9 X2 X3 X4 X9 _ _ _ b1 o1 c w lb1 y0 y1 y2 y3 y4 y5 y6 y7 y8 y9 _ (by rw [I]; simp)
  · obtain rfl : k = 6 := hne.trans h
    rw [h] at y0
    have I := V.is_leaf hp (n := n) (bt := bt) (bs := bs) (its := its) (ks := ks) hs14 h.symm (by omega)
    exact vone_6 p _ hp n bt _ _ _ A3 A4 A5 c3 c4 c5 _ _ _ _ _ _ x2 x3 x4 x9 X2 X3 X4 X9 _ _ _ b1 o1 c w lb1 y0 y1 y2 y3 y4 y5 y6 y7 y8 y9 _ (by rw [I]; simp)
  · obtain rfl : k = 7 := hne.trans h
    rw [h] at y0
    have I := V.is_leaf hp (n := n) (bt := bt) (bs := bs) (its := its) (ks := ks) hs14 h.symm (by omega)
    exact vone_7 p _ hp n bt _ _ _ A3 A4 A5 c3 c4 c5 _ _ _ _ _ _ x2 x3 x4 x9 X2 X3 X4 X9 _ _ _ b1 o1 c w lb1 y0 y1 y2 y3 y4 y5 y6 y7 y8 y9 _ (by rw [I]; simp)
  · obtain rfl : k = 8 := hne.trans h
    rw [h] at y0
    have I := V.is_leaf hp (n := n) (bt := bt) (bs := bs) (its := its) (ks := ks) hs14 h.symm (by omega)
    exact vone_8 p _ hp n bt _ _ _ A3 A4 A5 c3 c4 c5 _ _ _ _ _ _ x2 x3 x4 x9 X2 X3 X4 X9 _ _ _ b1 o1 c w lb1 y0 y1 y2 y3 y4 y5 y6 y7 y8 y9 ((Num.cU bs).isSome = true) (Lib.hid (fun W b => (Right_any A3 c3 bs W (HLW W b) (((row_bys r3).below b).more b.size) (by omega) l3.1).mono fun _ _ g => told_tells ⟨g.1, g.2⟩ Iff.rfl)) _ (by rw [I]; simp)
  · obtain rfl : k = 9 := hne.trans h
    rw [h] at y0
    have hf : ∀ i (g : i < (s.nodes[p]'hp).fs.length), 0 ≤ ((s.nodes[p]'hp).fs[i]'g).ty ∧ ((s.nodes[p]'hp).fs[i]'g).ty < (s.nodes.length : Int) := fun i g => hkid _ (by unfold Nd.kids; rw [if_pos h]; exact List.mem_map.2 ⟨_, List.getElem_mem g, rfl⟩)
    have fl := hf9 h
    exact vone_9 p _ hp n bt _ _ _ A3 A4 A5 c3 c4 c5 _ _ _ _ _ _ x2 x3 x4 x9 X2 X3 X4 X9 _ _ _ b1 o1 c w lb1 y0 y1 y2 y3 y4 y5 y6 y7 y8 y9 _ (Lib.hid (fun W b => vrecord_any s (s.nodes[p]'hp).fs its IHs hf W (HLW W b) _ A4 X3 c c4 x3 (RA W b) ((row3.below b).more b.size) (R4 W b) (by omega) (by omega))) _ (V.is_9 hp h fl)
  · obtain rfl : k = 10 := hne.trans h
    rw [h] at y0
    have I := V.is_leaf hp (n := n) (bt := bt) (bs := bs) (its := its) (ks := ks) hs14 h.symm (by omega)
    exact vone_10 p _ hp n bt _ _ _ A3 A4 A5 c3 c4 c5 _ _ _ _ _ _ x2 x3 x4 x9 X2 X3 X4 X9 _ _ _ b1 o1 c w lb1 y0 y1 y2 y3 y4 y5 y6 y7 y8 y9 _ (by rw [I]; simp)
  · obtain rfl : k = 11 := hne.trans h
    rw [h] at y0
    have hi : 0 ≤ (s.nodes[p]'hp).items ∧ (s.nodes[p]'hp).items < (s.nodes.length : Int) := hkid _ (by unfold Nd.kids; rw [if_neg (by omega), if_pos (.inl h)]; exact List.mem_singleton.2 rfl)
    exact vone_11 p _ hp n bt _ _ _ A3 A4 A5 c3 c4 c5 _ _ _ _ _ _ x2 x3 x4 x9 X2 X3 X4 X9 _ _ _ b1 o1 c w lb1 y0 y1 y2 y3 y4 y5 y6 y7 y8 y9 _ (Lib.hid (fun W b => vlist_any s its IHs (s.nodes[p]'hp).items hi.1 hi.2 W (HLW W b) _ A4 c c4 (RA W b) (R4 W b) (by omega))) _ (V.is_11 hp h)
  · obtain rfl : k = 12 := hne.trans h
    rw [h] at y0
    have hi : 0 ≤ (s.nodes[p]'hp).items ∧ (s.nodes[p]'hp).items < (s.nodes.length : Int) := hkid _ (by unfold Nd.kids; rw [if_neg (by omega), if_pos (.inr h)]; exact List.mem_singleton.2 rfl)
    exact vone_12 p _ hp n bt _ _ _ A3 A4 A5 c3 c4 c5 _ _ _ _ _ _ x2 x3 x4 x9 X2 X3 X4 X9 _ _ _ b1 o1 c w lb1 y0 y1 y2 y3 y4 y5 y6 y7 y8 y9 _ _ (Lib.hid (fun W b => vlist_any s its IHs (s.nodes[p]'hp).items hi.1 hi.2 W (HLW W b) _ A4 c c4 (RA W b) (R4 W b) (by omega))) (Lib.hid (fun W b => vkeyed_any 12 n bt bs.length its.length ks A3 A4 A5 c3 c4 c5 W (HLW W b) (by omega) (FlS.keep (Below.keeps b) (fun _ h => Nat.lt_of_lt_of_le h b.size) f5))) _ (V.is_12 hp h)
  · obtain rfl : k = 13 := hne.trans h
    rw [h] at y0
    have hb : ∀ i (g : i < (s.nodes[p]'hp).br.length), 0 ≤ (s.nodes[p]'hp).br[i]'g ∧ (s.nodes[p]'hp).br[i]'g < (s.nodes.length : Int) := fun i g => hkid _ (by unfold Nd.kids; rw [if_neg (by omega), if_neg (by omega), if_pos h]; exact List.getElem_mem g)
    have hk0 : 0 ≤ n → n < ((s.nodes[p]'hp).br.length : Int) → ∃ b9 o9, X9 = some ⟨b9, o9, none⟩ ∧ b9 < w.heap.size ∧ w.cell? ⟨b9, o9 + n.toNat, none⟩ = some (.int .i64 ((s.nodes[p]'hp).br.getD n.toNat 0)) := fun q0 q1 => by
      obtain ⟨b9, o9, e, hg, hc⟩ := ints_at row9 (i := n.toNat) (by omega)
      exact ⟨b9, o9, e, hg, by rw [hc, List.getD_eq_getElem?_getD, List.getElem?_eq_getElem (by omega)]; rfl⟩
    by_cases l1 : its.length = 1
    · have h0 : 0 < its.length := by omega
      obtain ⟨b4, o4, Y3, z3, Y4, z4, Y5, z5, e4, lb4, ⟨u0, u1, u2, u3, u4, u5⟩, ty⟩ := values_at r4 h0
      rw [Nat.zero_mul, Nat.add_zero] at u0 u1 u2 u3 u4 u5
      exact vone_13 p _ hp n bt _ _ _ A3 A4 A5 c3 c4 c5 _ _ _ _ _ _ x2 x3 x4 x9 X2 X3 X4 X9 _ _ _ b1 o1 c w lb1 y0 y1 y2 y3 y4 y5 y6 y7 y8 y9 _ hk0 b4 o4 _ _ _ _ _ _ (fun _ => ⟨e4, lb4, u0, u1, u2, u3, u4, u5⟩) (∃ h : 0 < its.length, V.is s (its[0]'h) ((s.nodes[p]'hp).br.getD n.toNat 0)) (Lib.hid (fun q0 q1 _ W b => by
        have hr := hb n.toNat (by omega)
        have ge : (s.nodes[p]'hp).br.getD n.toNat 0 = (s.nodes[p]'hp).br[n.toNat]'(by omega) := by rw [List.getD_eq_getElem?_getD, List.getElem?_eq_getElem (by omega)]; rfl
        rw [← ge] at hr
        exact (IHs 0 h0 _ hr.1 hr.2 W _ Y3 Y4 Y5 c z3 z4 z5 (HLW W b) (RA W b) ((ty.below b).more b.size)).mono fun _ _ g => g.iff ⟨fun k => ⟨h0, k⟩, fun k => k.2⟩)) _ (V.is_13 hp h)
    · exact vone_13 p _ hp n bt _ _ _ A3 A4 A5 c3 c4 c5 _ _ _ _ _ _ x2 x3 x4 x9 X2 X3 X4 X9 _ _ _ b1 o1 c w lb1 y0 y1 y2 y3 y4 y5 y6 y7 y8 y9 _ hk0 0 0 undef undef undef undef undef undef (fun e => absurd e l1) (∃ h : 0 < its.length, V.is s (its[0]'h) ((s.nodes[p]'hp).br.getD n.toNat 0)) (Lib.hid (fun _ _ e => absurd e l1)) _ (V.is_13 hp h)
  · obtain rfl : k = 14 := hne.trans h
    rw [h] at y0
    have I := V.is_leaf hp (n := n) (bt := bt) (bs := bs) (its := its) (ks := ks) hs14 h.symm (by omega)
    exact vone_14 p _ hp n bt _ _ _ A3 A4 A5 c3 c4 c5 _ _ _ _ _ _ x2 x3 x4 x9 X2 X3 X4 X9 _ _ _ b1 o1 c w lb1 y0 y1 y2 y3 y4 y5 y6 y7 y8 y9 _ (by rw [I]; simp)
theorem vone_at (s : Sc) (hs : s.right) : ∀ (N : Nat) (t : V), SizeOf.sizeOf t ≤ N → t.wt ≤ 1000000 → OneC s t
  | 0, t, h, _ => by cases t; simp at h
  | N + 1, .mk k n bt bs its ks, hN, hw => vone_step s hs k n bt bs its ks hw fun i h => vone_at s hs N (its[i]'h) (by have := V.lt_its (v := .mk k n bt bs its ks) (i := i) h; simp only [V.its] at this; omega) (by have := vwts_at h; unfold V.wt at hw; omega)
theorem vone_any (s : Sc) (hs : s.right) (t : V) (hw : t.wt ≤ 1000000) : OneC s t := vone_at s hs _ t (Nat.le_refl _) hw
def Sc.conf (s : Sc) (t : V) (a : Int) : Prop := s.right ∧ V.is s t a
theorem V.is_in {s : Sc} {t : V} {a : Int} (h : V.is s t a) : 0 ≤ a ∧ a < (s.nodes.length : Int) := by cases t; unfold V.is at h; exact ⟨h.1, h.2.1⟩
set_option maxRecDepth 100000 in
set_option maxHeartbeats 4000000 in
theorem vConforms_any (s : Sc) (hs : s.sm) (t : V) (hw : t.wt ≤ 1000000) (a : Int) (w : World) (hL0 : LaidN w) (A A3 A4 A5 : Option Addr) (c c3 c4 c5 : Nat) (h : Lies w (· < w.heap.size) s.enc [.slice A s.nodes.length c, .int .i64 s.root]) (ht : Lies w (· < w.heap.size) t.enc [.int .i64 t.k, .int .i64 t.n, .int .u64 t.bt, .slice A3 t.bs.length c3, .slice A4 t.its.length c4, .slice A5 t.ks.length c5]) :
    Calls Tryd.prog 15 #[.agg #[.slice A s.nodes.length c, .int .i64 s.root], .int .i64 a, .agg #[.int .i64 t.k, .int .i64 t.n, .int .u64 t.bt, .slice A3 t.bs.length c3, .slice A4 t.its.length c4, .slice A5 t.ks.length c5]] w (Tells (s.conf t a) w) := by
  have CS := cell_set
  have SR := Lib.hid (fun W (b : Below w.heap.size w W) => sRightT_any s hs W (LaidN.below hL0 b) A c (h.on b))
  obtain ⟨_, _, e, la, ra⟩ := Sc.out.1 h
  simp only [List.cons.injEq, Value.slice.injEq, true_and, and_true] at e
  obtain ⟨rfl, rfl⟩ := e
  have ON := Lib.hid (fun (r : s.right) (q0 : 0 ≤ a) (q1 : a < (s.nodes.length : Int)) W (b : Below w.heap.size w W) => vone_any s r t hw a q0 q1 W A A3 A4 A5 c c3 c4 c5 (LaidN.below hL0 b) ((ra.below b).more b.size) (ht.on b))
  obtain ⟨Q, hQ⟩ : ∃ Q : Prop, Q = s.conf t a := ⟨_, rfl⟩
  have HQ : Hid (Q ↔ s.right ∧ V.is s t a) := by show _ ↔ _; rw [hQ]; exact Iff.rfl
  rw [← hQ]
  obtain ⟨nn, hnn⟩ : ∃ m, m = s.nodes.length := ⟨_, rfl⟩
  have AM := Lib.hid (among_pure a (nn : Int))
  have H0 := Lib.hid (B2.alloc (B2.newat (w := w) (t := 35) (x0 := .slice A nn c) (x1 := .int .i64 s.root) rfl) (.cells #[.int .i64 t.k, .int .i64 t.n, .int .u64 t.bt, .slice A3 t.bs.length c3, .slice A4 t.its.length c4, .slice A5 t.ks.length c5] 27))
  have N0 := Lib.hid (B6.newat (w := w.alloc (.cells #[.slice A nn c, .int .i64 s.root] 35)) (g := w.heap.size + 1) (t := 27) (x0 := .int .i64 t.k) (x1 := .int .i64 t.n) (x2 := .int .u64 t.bt) (x3 := .slice A3 t.bs.length c3) (x4 := .slice A4 t.its.length c4) (x5 := .slice A5 t.ks.length c5) (by simp))
  have W0 : Hid (Below w.heap.size w ((w.alloc (.cells #[.slice A nn c, .int .i64 s.root] 35)).alloc (.cells #[.int .i64 t.k, .int .i64 t.n, .int .u64 t.bt, .slice A3 t.bs.length c3, .slice A4 t.its.length c4, .slice A5 t.ks.length c5] 27))) := (((Below.refl _ _).alloc (Nat.le_refl _) _).alloc (by simp) _)
  have Z0 : Hid (((w.alloc (.cells #[.slice A nn c, .int .i64 s.root] 35)).alloc (.cells #[.int .i64 t.k, .int .i64 t.n, .int .u64 t.bt, .slice A3 t.bs.length c3, .slice A4 t.its.length c4, .slice A5 t.ks.length c5] 27)).heap.size = w.heap.size + 2) := by show _ = _; simp
  have HNN := Lib.hid hnn
  rw [← hnn] at SR ON ⊢
  generalize s.root = rt at *
  clear h la ra ht hQ hL0 hw hnn
  go_enter Tryd.func15, Tryd.ntmps15
  go_wp2_with fail
  with_reducible refine (SR.out _ W0.out).mono ?_
  rintro e w2 ⟨b, rfl, hbb, b2⟩
  rw [Z0.out] at b2
  have z2 := b2.size
  rw [Z0.out] at z2
  have bw2 : Below w.heap.size w w2 := W0.out.trans (b2.mono (Nat.le_add_right _ _))
  have h2 := Lib.hid (B2.below H0.out b2 (by omega))
  have n2 := Lib.hid (B6.below N0.out b2 (by omega))
  obtain ⟨_, _, _, _⟩ := B2.facts h2.out
  obtain ⟨_, _, _, _, _, _, _, _, _, _, _, _⟩ := B6.facts n2.out
  have HB := Lib.hid hbb
  clear hbb H0 N0 W0 Z0 b2 SR
  cases b with
  | false =>
    have Z : Hid (¬ Q) := fun r => by have := HB.out.2 (HQ.out.1 r).1; simp at this
    go_wp2_with fail
    go_ret
    exact tells_no rfl Z.out bw2
  | true =>
    have HR := Lib.hid (HB.out.1 (by first | rfl | trivial))
    clear HB
    by_cases ha : 0 ≤ a ∧ a < (nn : Int)
    rotate_left
    · rw [show decide (0 ≤ a ∧ a < (nn : Int)) = false by simpa using ha] at AM
      have Z : Hid (¬ Q) := fun r => ha (by rw [HNN.out]; exact V.is_in (HQ.out.1 r).2)
      clear ha ON
      go_wp2_with fail
      with_reducible refine (AM.out _).mono ?_
      rintro e w3 ⟨rfl, rfl⟩
      go_wp2_with fail
      go_ret
      exact tells_no rfl Z.out bw2
    rw [show decide (0 ≤ a ∧ a < (nn : Int)) = true by simpa using ha] at AM
    have ONE := Lib.hid (ON.out HR.out ha.1 ha.2)
    clear ha ON
    go_wp2_with fail
    with_reducible refine (AM.out _).mono ?_
    rintro e w3 ⟨rfl, rfl⟩
    go_wp2_with fail
    with_reducible refine (ONE.out _ bw2).mono ?_
    rintro e w4 ⟨b, rfl, hbb, b4⟩
    have Z : Hid (b = true ↔ Q) := hbb.trans ⟨fun k => HQ.out.2 ⟨HR.out, k⟩, fun r => (HQ.out.1 r).2⟩
    have bw4 : Below w.heap.size w w4 := bw2.trans (b4.mono bw2.size)
    clear hbb
    go_wp2_with fail
    go_ret
    exact ⟨b, rfl, Z.out, bw4⟩
end Go.Proofs.YtlpmcohbbffbfaaDoor
namespace Go.Proofs.YtlpmcohbbffbfaaDoor
open Go.ChangeShapes Go.WideShapes Go.ChangeAt Go.RowKit Mem
theorem V.deep_bound {v : V} {M : Nat} (hM : 1 ≤ M) (h : ∀ i (g : i < v.its.length), (v.its[i]'g).deep + 1 ≤ M) : v.deep ≤ M := by
  by_cases hk : deepK v.k
  · rw [V.deep_in hk]
    have key : ∀ l : List V, (∀ i (g : i < l.length), (l[i]'g).deep + 1 ≤ M) → V.deeps l + 1 ≤ M := by
      intro l
      induction l with
      | nil => intro _; unfold V.deeps; omega
      | cons x r ih =>
        intro h
        unfold V.deeps
        have h0 := h 0 (by simp)
        have hr := ih fun i hi => by have := h (i + 1) (by simpa using hi); simpa using this
        simp at h0
        omega
    exact key _ h
  · rw [V.deep_out hk]; omega
def VBul (t : V) (D : Nat) (w : World) (e : Ending) (w' : World) : Prop := ∃ n : Nat, e = .returned (.int .i64 (n : Int)) ∧ n ≤ 5001 + 2500 * (81 - D) ∧ (n ≤ 2500 → t.deep + D ≤ 81 ∧ t.wt = n) ∧ Below w.heap.size w w'
theorem vbul_ret {t : V} {D n : Nat} {z : Int} {w w' : World} (hz : z = (n : Int)) (h : n ≤ 5001 + 2500 * (81 - D)) (hd : n ≤ 2500 → t.deep + D ≤ 81 ∧ t.wt = n) (hb : Below w.heap.size w w') : VBul t D w (.returned (.int .i64 z)) w' := by subst hz; exact ⟨n, rfl, h, hd, hb⟩
set_option maxRecDepth 100000 in
set_option maxHeartbeats 8000000 in
theorem vbulk_at : ∀ (N : Nat) (t : V), SizeOf.sizeOf t ≤ N → ∀ (D : Nat) (w : World) (A2 A3 A4 : Option Addr) (c2 c3 c4 : Nat), D ≤ 81 →
    Lies w (· < w.heap.size) t.enc [.int .i64 t.k, .int .i64 t.n, .int .u64 t.bt, .slice A2 t.bs.length c2, .slice A3 t.its.length c3, .slice A4 t.ks.length c4] →
    Calls Tryd.prog 17 #[.agg #[.int .i64 t.k, .int .i64 t.n, .int .u64 t.bt, .slice A2 t.bs.length c2, .slice A3 t.its.length c3, .slice A4 t.ks.length c4], .int .i64 2500, .int .i64 (D : Int)] w (VBul t D w)
  | 0, t, h => by cases t; simp at h
  | N + 1, .mk k n bt bs its ks, hN => by
    intro D w A2 A3 A4 c2 c3 c4 hD ht
    have CS := cell_set
    obtain ⟨_, _, _, _, _, _, e, hc2, r2, hc3, rt, hc4, ft⟩ := V.out.1 ht
    simp only [V.k, V.n, V.bt, V.bs, V.its, V.ks, List.cons.injEq, Value.slice.injEq, true_and, and_true] at e hc2 r2 hc3 hc4 rt ft
    obtain ⟨⟨rfl, rfl⟩, ⟨rfl, rfl⟩, rfl, rfl⟩ := e
    obtain ⟨nb, hnb⟩ : ∃ m, m = bs.length := ⟨_, rfl⟩
    have db : ∀ M, 1 ≤ M → (∀ i (g : i < its.length), (its[i]'g).deep + 1 ≤ M) → (V.mk k n bt bs its ks).deep ≤ M := fun M hM h => V.deep_bound (v := .mk k n bt bs its ks) hM h
    have wt : (V.mk k n bt bs its ks).wt = 1 + nb + kwt ks + V.wts its := by unfold V.wt; rw [hnb]
    have KT := Lib.hid (fun i (h : i < ks.length) => kwt_take h)
    have WT := Lib.hid (fun i (h : i < its.length) => V.wts_take h)
    have KA : Hid (kwt (ks.take ks.length) = kwt ks) := by show _ = _; rw [List.take_length]
    have WA : Hid (V.wts (its.take its.length) = V.wts its) := by show _ = _; rw [List.take_length]
    obtain ⟨KW, hKW⟩ : ∃ f : Nat → Nat, f = fun i => kwt (ks.take i) := ⟨_, rfl⟩
    obtain ⟨JW, hJW⟩ : ∃ f : Nat → Nat, f = fun i => V.wts (its.take i) := ⟨_, rfl⟩
    have KT' : Hid (∀ i (h : i < ks.length), KW (i + 1) = KW i + 1 + (ks[i]'h).size) := fun i h => by rw [hKW]; exact KT.out i h
    have WT' : Hid (∀ i (h : i < its.length), JW (i + 1) = JW i + (its[i]'h).wt) := fun i h => by rw [hJW]; exact WT.out i h
    have K0 : Hid (KW 0 = 0) := by show _ = _; rw [hKW]; rfl
    have J0 : Hid (JW 0 = 0) := by show _ = _; rw [hJW]; rfl
    have KA' : Hid (KW ks.length = kwt ks) := by show _ = _; rw [hKW]; exact KA.out
    have WA' : Hid (JW its.length = V.wts its) := by show _ = _; rw [hJW]; exact WA.out
    clear KT WT KA WA hKW hJW
    obtain ⟨T, hT⟩ : ∃ T, T = V.mk k n bt bs its ks := ⟨_, rfl⟩
    rw [← hT] at wt
    have WT0 := Lib.hid wt
    clear wt
    simp only [V.k, V.n, V.bt, V.bs, V.its, V.ks]
    rw [← hnb]
    rw [← hT] at db ⊢
    have IH : Hid (∀ (i : Nat) (h1 : i < its.length) (W : World) (A2 A3 A4 : Option Addr) (c2 c3 c4 : Nat), D + 1 ≤ 81 →
        Lies W (· < W.heap.size) (its[i]'h1).enc [.int .i64 (its[i]'h1).k, .int .i64 (its[i]'h1).n, .int .u64 (its[i]'h1).bt, .slice A2 (its[i]'h1).bs.length c2, .slice A3 (its[i]'h1).its.length c3, .slice A4 (its[i]'h1).ks.length c4] →
        Calls Tryd.prog 17 #[.agg #[.int .i64 (its[i]'h1).k, .int .i64 (its[i]'h1).n, .int .u64 (its[i]'h1).bt, .slice A2 (its[i]'h1).bs.length c2, .slice A3 (its[i]'h1).its.length c3, .slice A4 (its[i]'h1).ks.length c4], .int .i64 2500, .int .i64 ((D : Int) + 1)] W (VBul (its[i]'h1) (D + 1) W)) := fun i h1 W A2 A3 A4 c2 c3 c4 hd a =>
      vbulk_at N (its[i]'h1) (by have := V.lt_its (v := .mk k n bt bs its ks) (i := i) h1; simp only [V.its] at this; omega) (D + 1) W A2 A3 A4 c2 c3 c4 hd a
    have RT := Lib.hid rt; have FT := Lib.hid ft; have DB := Lib.hid db
    have hb4 := hc4.2
    have hb3 := hc3.2
    unfold maxLen at hb4 hb3
    obtain ⟨ni, hni⟩ : ∃ m, m = its.length := ⟨_, rfl⟩
    obtain ⟨nk, hnk⟩ : ∃ m, m = ks.length := ⟨_, rfl⟩
    have HNI := Lib.hid hni; have HNK := Lib.hid hnk
    rw [← hni] at hb3 ⊢
    rw [← hnk] at hb4 ⊢
    have hb2 := hc2.2
    rw [← hnb] at hb2
    unfold maxLen at hb2
    clear ht r2 rt ft hN db hc2 hc3 hc4 hni hnk hnb hT
    rw [← HNI.out] at WA'
    rw [← HNK.out] at KA'
    by_cases g1 : (80 : Int) < (D : Int)
    · go_enter Tryd.func17, Tryd.ntmps17
      go_wp2_with fail
      go_ret
      exact vbul_ret (n := 2501) (by rfl) (by omega) (fun h => by omega) (by (repeat' (first | with_reducible assumption | with_reducible exact Below.refl _ _ | (with_reducible refine Below.alloc ?_ ?_ _; rotate_left; focus ((first | exact Nat.le_refl _ | (simp; done) | (simp; omega) | omega | fail))) | (with_reducible refine Below.setCell ?_ ?_ _; rotate_left; focus ((first | exact Nat.le_refl _ | (simp; done) | (simp; omega) | omega | fail))) | with_reducible refine Mem.bel_drewN ?_ _ | with_reducible refine Below.drew ?_ | (with_reducible refine Mem.bel_call (by with_reducible assumption) ?_ ?_; focus ((first | exact Nat.le_refl _ | (simp; done) | (simp; omega) | omega | fail))) | fail)))
    · by_cases g2 : (2500 : Int) < (nb : Int)
      · go_enter Tryd.func17, Tryd.ntmps17
        go_wp2_with fail
        go_ret
        exact vbul_ret (n := 2501) (by rfl) (by omega) (fun h => by omega) (by (repeat' (first | with_reducible assumption | with_reducible exact Below.refl _ _ | (with_reducible refine Below.alloc ?_ ?_ _; rotate_left; focus ((first | exact Nat.le_refl _ | (simp; done) | (simp; omega) | omega | fail))) | (with_reducible refine Below.setCell ?_ ?_ _; rotate_left; focus ((first | exact Nat.le_refl _ | (simp; done) | (simp; omega) | omega | fail))) | with_reducible refine Mem.bel_drewN ?_ _ | with_reducible refine Below.drew ?_ | (with_reducible refine Mem.bel_call (by with_reducible assumption) ?_ ?_; focus ((first | exact Nat.le_refl _ | (simp; done) | (simp; omega) | omega | fail))) | fail)))
      · by_cases g3 : (2500 : Int) < (ni : Int)
        · go_enter Tryd.func17, Tryd.ntmps17
          go_wp2_with fail
          go_ret
          exact vbul_ret (n := 2501) (by rfl) (by omega) (fun h => by omega) (by (repeat' (first | with_reducible assumption | with_reducible exact Below.refl _ _ | (with_reducible refine Below.alloc ?_ ?_ _; rotate_left; focus ((first | exact Nat.le_refl _ | (simp; done) | (simp; omega) | omega | fail))) | (with_reducible refine Below.setCell ?_ ?_ _; rotate_left; focus ((first | exact Nat.le_refl _ | (simp; done) | (simp; omega) | omega | fail))) | with_reducible refine Mem.bel_drewN ?_ _ | with_reducible refine Below.drew ?_ | (with_reducible refine Mem.bel_call (by with_reducible assumption) ?_ ?_; focus ((first | exact Nat.le_refl _ | (simp; done) | (simp; omega) | omega | fail))) | fail)))
        · by_cases g4 : (2500 : Int) < (nk : Int)
          · go_enter Tryd.func17, Tryd.ntmps17
            go_wp2_with fail
            go_ret
            exact vbul_ret (n := 2501) (by rfl) (by omega) (fun h => by omega) (by (repeat' (first | with_reducible assumption | with_reducible exact Below.refl _ _ | (with_reducible refine Below.alloc ?_ ?_ _; rotate_left; focus ((first | exact Nat.le_refl _ | (simp; done) | (simp; omega) | omega | fail))) | (with_reducible refine Below.setCell ?_ ?_ _; rotate_left; focus ((first | exact Nat.le_refl _ | (simp; done) | (simp; omega) | omega | fail))) | with_reducible refine Mem.bel_drewN ?_ _ | with_reducible refine Below.drew ?_ | (with_reducible refine Mem.bel_call (by with_reducible assumption) ?_ ?_; focus ((first | exact Nat.le_refl _ | (simp; done) | (simp; omega) | omega | fail))) | fail)))
          · have hD2 : D ≤ 80 := by omega
            have G0 : Below w.heap.size w (w.alloc (.cells #[.int .i64 k, .int .i64 n, .int .u64 bt, .slice A2 nb c2, .slice A3 ni c3, .slice A4 nk c4] 27)) := (Below.refl _ _).alloc (Nat.le_refl _) _
            have gz0 : (w.alloc (.cells #[.int .i64 k, .int .i64 n, .int .u64 bt, .slice A2 nb c2, .slice A3 ni c3, .slice A4 nk c4] 27)).heap.size = w.heap.size + 1 := by simp
            have GZ0 := Lib.hid gz0
            clear gz0
            go_enter Tryd.func17, Tryd.ntmps17
            go_wp2_with fail
            go_loopw [7, 8] (fun m t wr => ∃ i v : Nat, i ≤ nk ∧ v ≤ 5001 ∧ Hid (v = 1 + nb + KW i) ∧ t = .int .i64 (i : Int) ∧ m = .int .i64 (v : Int) ∧ wr = (w.alloc (.cells #[.int .i64 k, .int .i64 n, .int .u64 bt, .slice A2 nb c2, .slice A3 ni c3, .slice A4 nk c4] 27))) (fun _ t _ => nk - (intOf t).toNat)
            case atStart => exact ⟨0, 1 + nb, Nat.zero_le _, by omega, (by show _ = _; rw [K0.out, Nat.add_zero]), rfl, by push_cast; rfl, by first | rfl | trivial⟩
            case round =>
              obtain ⟨i, v, hik, hv, HVV, rfl, rfl, rfl⟩ := hrel
              by_cases h1 : i < nk ∧ v ≤ 2500
              · obtain ⟨h1, h2⟩ := h1
                have h1' : i < ks.length := by rw [← HNK.out]; exact h1
                obtain ⟨b8, o8, e8, hb8, z0⟩ := fl_str FT.out h1'
                have q2 : (v : Int) ≤ 2500 := by omega
                have HV2 : Hid (v + 1 + (ks[i]'h1').size = 1 + nb + KW (i + 1)) := by
                  show _ = _
                  have := HVV.out; have := KT'.out i h1'; omega
                clear HVV
                generalize ks[i]'h1' = Y at *
                subst e8
                have lb8 : b8 < w.heap.size := hb8
                by_cases hy : (2500 : Int) < (Y.size : Int)
                · go_wp2_with fail
                  go_ret
                  exact vbul_ret (n := 2501) (by rfl) (by omega) (fun h => by omega) (by (repeat' (first | with_reducible assumption | with_reducible exact Below.refl _ _ | (with_reducible refine Below.alloc ?_ ?_ _; rotate_left; focus ((first | exact Nat.le_refl _ | (simp; done) | (simp; omega) | omega | fail))) | (with_reducible refine Below.setCell ?_ ?_ _; rotate_left; focus ((first | exact Nat.le_refl _ | (simp; done) | (simp; omega) | omega | fail))) | with_reducible refine Mem.bel_drewN ?_ _ | with_reducible refine Below.drew ?_ | (with_reducible refine Mem.bel_call (by with_reducible assumption) ?_ ?_; focus ((first | exact Nat.le_refl _ | (simp; done) | (simp; omega) | omega | fail))) | fail)))
                · go_wp2_with fail
                  go_roundw
                  case rel => exact ⟨i + 1, v + 1 + Y.size, by omega, by omega, HV2, by go_num, by push_cast; rfl, by first | rfl | trivial⟩
                  case measure => simp [intOf]; omega
              · have h2 : ¬ (i : Int) < (nk : Int) ∨ (i : Int) < (nk : Int) ∧ ¬ (v : Int) ≤ 2500 := by omega
                have HV3 : Hid (v ≤ 2500 → v = 1 + nb + kwt ks) := fun hv2 => by
                  have e : i = nk := by omega
                  have := HVV.out; have := KA'.out
                  rw [e] at *; omega
                clear h1 HVV
                rcases h2 with h2 | ⟨h2, h3⟩
                all_goals
                  go_wp2_with fail
                  go_loopw [7, 9] (fun m t wr => ∃ p u : Nat, p ≤ ni ∧ u ≤ 5001 + 2500 * (81 - D) ∧ t = .int .i64 (p : Int) ∧ m = .int .i64 (u : Int) ∧ Hid (∀ j (h : j < its.length), j < p → u ≤ 2500 → (its[j]'h).deep + D + 1 ≤ 81) ∧ Hid (u ≤ 2500 → u = 1 + nb + kwt ks + JW p) ∧ Below (w.heap.size + 1) (w.alloc (.cells #[.int .i64 k, .int .i64 n, .int .u64 bt, .slice A2 nb c2, .slice A3 ni c3, .slice A4 nk c4] 27)) wr) (fun _ t _ => ni - (intOf t).toNat)
                  case atStart => exact ⟨0, v, Nat.zero_le _, by omega, rfl, rfl, fun _ _ h => absurd h (Nat.not_lt_zero _), (fun h => by have := HV3.out h; have := J0.out; omega), Below.refl _ _⟩
                  case round =>
                    obtain ⟨p, u, hp, hu, rfl, rfl, HE, HU, bl⟩ := hrel
                    have gsz := bl.size
                    rw [GZ0.out] at gsz
                    have gsz2 : w.heap.size ≤ wr.heap.size := by omega
                    have blw := G0.trans (bl.mono (by omega))
                    have hOwn := Nat.lt_of_lt_of_le (n := w.heap.size) (by first | exact Nat.le_refl _ | assumption | (simp; done) | (simp; omega) | omega) (Below.size bl)
                    have hOwn1 := Nat.ne_of_gt hOwn
                    have hOwn2 := Nat.ne_of_lt hOwn
                    have hOwn := (Below.cell bl (p := ⟨w.heap.size, 0, none⟩) (by first | exact Nat.le_refl _ | assumption | (simp; done) | (simp; omega) | omega)).trans (by go_simp; rfl)
                    have hOwn := (Below.cell bl (p := ⟨w.heap.size, 1, none⟩) (by first | exact Nat.le_refl _ | assumption | (simp; done) | (simp; omega) | omega)).trans (by go_simp; rfl)
                    have hOwn := (Below.cell bl (p := ⟨w.heap.size, 2, none⟩) (by first | exact Nat.le_refl _ | assumption | (simp; done) | (simp; omega) | omega)).trans (by go_simp; rfl)
                    have hOwn := (Below.cell bl (p := ⟨w.heap.size, 3, none⟩) (by first | exact Nat.le_refl _ | assumption | (simp; done) | (simp; omega) | omega)).trans (by go_simp; rfl)
                    have hOwn := (Below.cell bl (p := ⟨w.heap.size, 4, none⟩) (by first | exact Nat.le_refl _ | assumption | (simp; done) | (simp; omega) | omega)).trans (by go_simp; rfl)
                    have hOwn := (Below.cell bl (p := ⟨w.heap.size, 5, none⟩) (by first | exact Nat.le_refl _ | assumption | (simp; done) | (simp; omega) | omega)).trans (by go_simp; rfl)
                    have hOwn := (Below.frozen bl (p := ⟨w.heap.size, 0, none⟩) (by first | exact Nat.le_refl _ | assumption | (simp; done) | (simp; omega) | omega)).trans (by go_simp; rfl)
                    have hOwn := (Below.frozen bl (p := ⟨w.heap.size, 1, none⟩) (by first | exact Nat.le_refl _ | assumption | (simp; done) | (simp; omega) | omega)).trans (by go_simp; rfl)
                    have hOwn := (Below.frozen bl (p := ⟨w.heap.size, 2, none⟩) (by first | exact Nat.le_refl _ | assumption | (simp; done) | (simp; omega) | omega)).trans (by go_simp; rfl)
                    have hOwn := (Below.frozen bl (p := ⟨w.heap.size, 3, none⟩) (by first | exact Nat.le_refl _ | assumption | (simp; done) | (simp; omega) | omega)).trans (by go_simp; rfl)
                    have hOwn := (Below.frozen bl (p := ⟨w.heap.size, 4, none⟩) (by first | exact Nat.le_refl _ | assumption | (simp; done) | (simp; omega) | omega)).trans (by go_simp; rfl)
                    have hOwn := (Below.frozen bl (p := ⟨w.heap.size, 5, none⟩) (by first | exact Nat.le_refl _ | assumption | (simp; done) | (simp; omega) | omega)).trans (by go_simp; rfl)
                    by_cases h4 : p < ni ∧ u ≤ 2500
                    · obtain ⟨h4, h5⟩ := h4
                      have h1' : p < its.length := by rw [← HNI.out]; exact h4
                      obtain ⟨b1, o1, X2, x2, X3, x3, X4, x4, e1, hb1, ⟨y0, y1, y2, y3, y4, y5⟩, ty⟩ := values_at (RT.out.below blw) h1'
                      have I2 := Lib.hid (fun W a => IH.out p h1' W X2 X3 X4 x2 x3 x4 (by omega) a)
                      have he := HE.out
                      have q5 : (u : Int) ≤ 2500 := by omega
                      have HE2 : Hid (∀ n', (n' ≤ 2500 → (its[p]'h1').deep + (D + 1) ≤ 81) → ∀ j (h : j < its.length), j < p + 1 → u + n' ≤ 2500 → (its[j]'h).deep + D + 1 ≤ 81) := fun n' hn j h hj hs => by
                        rcases Nat.lt_or_ge j p with g | g
                        · exact he j h g (by omega)
                        · obtain rfl : j = p := by omega
                          have := hn (by omega); omega
                      have HU2 : Hid (∀ n', (n' ≤ 2500 → (its[p]'h1').wt = n') → u + n' ≤ 2500 → u + n' = 1 + nb + kwt ks + JW (p + 1)) := fun n' hn hs => by
                        have := HU.out h5; have := WT'.out p h1'; have := hn (by omega); omega
                      clear HU
                      generalize its[p]'h1' = T' at *
                      subst e1
                      have TY := Lib.hid (ty.more gsz2)
                      clear ty h1' he
                      go_wp2_with fail
                      with_reducible refine (I2.out _ TY.out).mono ?_
                      rintro e w3 ⟨n', rfl, hn1, hn2, b3⟩
                      have HN2 := Lib.hid (HE2.out n' (fun h => (hn2 h).1))
                      have HN3 := Lib.hid (HU2.out n' (fun h => (hn2 h).2))
                      clear hn2
                      go_wp2_with fail
                      go_roundw
                      case rel => exact ⟨p + 1, u + n', by omega, by omega, by go_num, by push_cast; rfl, HN2, HN3, bl.trans (b3.mono gsz)⟩
                      case measure => simp [intOf]; omega
                    · have h5 : ¬ (p : Int) < (ni : Int) ∨ (p : Int) < (ni : Int) ∧ ¬ (u : Int) ≤ 2500 := by omega
                      have fin : u ≤ 2500 → T.deep + D ≤ 81 ∧ T.wt = u := fun hu2 => by
                        have e := HU.out hu2
                        have wt := WT0.out
                        have pe : p = ni := by omega
                        have wa := WA'.out
                        rw [pe] at e
                        refine ⟨?_, by omega⟩
                        have := DB.out (81 - D) (by omega) (fun i g => by have := HE.out i g (by rw [← HNI.out] at g; omega) hu2; omega)
                        omega
                      have FIN := Lib.hid fin
                      clear fin h4 HE HU
                      rcases h5 with h5 | ⟨h5, h6⟩
                      all_goals
                        go_wp2_with fail
                        go_ret
                        exact vbul_ret (n := u) (by rfl) hu FIN.out (by (repeat' (first | with_reducible assumption | with_reducible exact Below.refl _ _ | (with_reducible refine Below.alloc ?_ ?_ _; rotate_left; focus ((first | exact Nat.le_refl _ | (simp; done) | (simp; omega) | omega | fail))) | (with_reducible refine Below.setCell ?_ ?_ _; rotate_left; focus ((first | exact Nat.le_refl _ | (simp; done) | (simp; omega) | omega | fail))) | with_reducible refine Mem.bel_drewN ?_ _ | with_reducible refine Below.drew ?_ | (with_reducible refine Mem.bel_call (by with_reducible assumption) ?_ ?_; focus ((first | exact Nat.le_refl _ | (simp; done) | (simp; omega) | omega | fail))) | fail)))
theorem vbulk_any (t : V) (D : Nat) (w : World) (A2 A3 A4 : Option Addr) (c2 c3 c4 : Nat) (hD : D ≤ 81) (ht : Lies w (· < w.heap.size) t.enc [.int .i64 t.k, .int .i64 t.n, .int .u64 t.bt, .slice A2 t.bs.length c2, .slice A3 t.its.length c3, .slice A4 t.ks.length c4]) :
    Calls Tryd.prog 17 #[.agg #[.int .i64 t.k, .int .i64 t.n, .int .u64 t.bt, .slice A2 t.bs.length c2, .slice A3 t.its.length c3, .slice A4 t.ks.length c4], .int .i64 2500, .int .i64 (D : Int)] w (VBul t D w) := vbulk_at _ t (Nat.le_refl _) D w A2 A3 A4 c2 c3 c4 hD ht
end Go.Proofs.YtlpmcohbbffbfaaDoor
