/- Joined by tools/bundle.py: R11L R11M. -/
import Derived.Test.YtpmgjpchpmkklaaGreatDoorT17
import Derived.Test.YtpmgjpchpmkklaaGreatDoorT25
import Derived.Test.YtpmgjpchpmkklaaGreatDoorT26
import Derived.Test.YtpmgjpchpmkklaaGreatDoorT27
import Derived.Test.YtpmgjpchpmkklaaGreatDoorT0
set_option maxRecDepth 100000
set_option maxHeartbeats 16000000
namespace Go.Proofs.YtpmgjpchpmkklaaGreatDoor
open Go.ChangeShapes Go.WideShapes Go.ChangeAt Go.RowKit Mem
theorem ris_ne (p nn : Nat) (hp : p < nn) (K K' n bt : Int) (hK : K ≠ K') (nb ni nk : Nat) (A3 A4 A5 : Option Addr) (c3 c4 c5 : Nat) (nm df : ByteArray) (rt : Int) (l2 l3 l4 l9 x2 x3 x4 x9 : Nat) (X2 X3 X4 X9 : Option Addr) (hs : Bool) (sz it : Int) (b1 o1 c : Nat) (w : World) (lb1 : b1 < w.heap.size)
 (y0 : w.cell? ⟨b1, o1 + p * 10, none⟩ = some (.int .i64 K')) (y1 : w.cell? ⟨b1, o1 + p * 10 + 1, none⟩ = some (.string nm)) (y2 : w.cell? ⟨b1, o1 + p * 10 + 2, none⟩ = some (.slice X2 l2 x2)) (y3 : w.cell? ⟨b1, o1 + p * 10 + 3, none⟩ = some (.slice X3 l3 x3)) (y4 : w.cell? ⟨b1, o1 + p * 10 + 4, none⟩ = some (.slice X4 l4 x4))
 (y5 : w.cell? ⟨b1, o1 + p * 10 + 5, none⟩ = some (.bool hs)) (y6 : w.cell? ⟨b1, o1 + p * 10 + 6, none⟩ = some (.string df)) (y7 : w.cell? ⟨b1, o1 + p * 10 + 7, none⟩ = some (.int .i64 sz)) (y8 : w.cell? ⟨b1, o1 + p * 10 + 8, none⟩ = some (.int .i64 it)) (y9 : w.cell? ⟨b1, o1 + p * 10 + 9, none⟩ = some (.slice X9 l9 x9)) :
 Calls Tryz.prog 15 #[.agg #[.slice (some ⟨b1, o1, none⟩) nn c, .int .i64 rt], .int .i64 (p : Int), .agg #[.int .i64 K, .int .i64 n, .int .u64 bt, .slice A3 nb c3, .slice A4 ni c4, .slice A5 nk c5]] w (Told false w) := by
 have CS := cell_set
 have q : (p : Int) < (nn : Int) := by omega
 have qk : (K != K') = true := by rw [bne_iff_ne]; exact hK
 clear hK
 go_enter Tryz.func15, Tryz.ntmps15
 go_wp2_with fail
 go_ret
 exact told_ret rfl bqq
def RisC (s : Sc) (t : V) : Prop := ∀ (p : Int), 0 ≤ p → p < (s.nodes.length : Int) → ∀ (w : World) (A A3 A4 A5 : Option Addr) (c c3 c4 c5 : Nat) (rt : Int), RowD w (· < w.heap.size) 10 (s.nodes.map Nd.enc) A → Lies w (· < w.heap.size) t.enc [.int .i64 t.k, .int .i64 t.n, .int .u64 t.bt, .slice A3 t.bs.length c3, .slice A4 t.its.length c4, .slice A5 t.ks.length c5] →
 Calls Tryz.prog 15 #[.agg #[.slice A s.nodes.length c, .int .i64 rt], .int .i64 p, .agg #[.int .i64 t.k, .int .i64 t.n, .int .u64 t.bt, .slice A3 t.bs.length c3, .slice A4 t.its.length c4, .slice A5 t.ks.length c5]] w (Tells (V.is s t p) w)
theorem ne_1_2 : ((1 : Int) = 2) = False := eq_false (by decide)
theorem ne_1_3 : ((1 : Int) = 3) = False := eq_false (by decide)
theorem ne_1_5 : ((1 : Int) = 5) = False := eq_false (by decide)
theorem ne_1_7 : ((1 : Int) = 7) = False := eq_false (by decide)
theorem ne_1_8 : ((1 : Int) = 8) = False := eq_false (by decide)
theorem ne_1_10 : ((1 : Int) = 10) = False := eq_false (by decide)
theorem ne_1_14 : ((1 : Int) = 14) = False := eq_false (by decide)
theorem ne_2_3 : ((2 : Int) = 3) = False := eq_false (by decide)
theorem ne_2_5 : ((2 : Int) = 5) = False := eq_false (by decide)
theorem ne_2_7 : ((2 : Int) = 7) = False := eq_false (by decide)
theorem ne_2_8 : ((2 : Int) = 8) = False := eq_false (by decide)
theorem ne_2_10 : ((2 : Int) = 10) = False := eq_false (by decide)
theorem ne_2_14 : ((2 : Int) = 14) = False := eq_false (by decide)
theorem ne_3_2 : ((3 : Int) = 2) = False := eq_false (by decide)
theorem ne_3_5 : ((3 : Int) = 5) = False := eq_false (by decide)
theorem ne_3_7 : ((3 : Int) = 7) = False := eq_false (by decide)
theorem ne_3_8 : ((3 : Int) = 8) = False := eq_false (by decide)
theorem ne_3_10 : ((3 : Int) = 10) = False := eq_false (by decide)
theorem ne_3_14 : ((3 : Int) = 14) = False := eq_false (by decide)
theorem ne_4_2 : ((4 : Int) = 2) = False := eq_false (by decide)
theorem ne_4_3 : ((4 : Int) = 3) = False := eq_false (by decide)
theorem ne_4_5 : ((4 : Int) = 5) = False := eq_false (by decide)
theorem ne_4_7 : ((4 : Int) = 7) = False := eq_false (by decide)
theorem ne_4_8 : ((4 : Int) = 8) = False := eq_false (by decide)
theorem ne_4_10 : ((4 : Int) = 10) = False := eq_false (by decide)
theorem ne_4_14 : ((4 : Int) = 14) = False := eq_false (by decide)
theorem ne_5_2 : ((5 : Int) = 2) = False := eq_false (by decide)
theorem ne_5_3 : ((5 : Int) = 3) = False := eq_false (by decide)
theorem ne_5_7 : ((5 : Int) = 7) = False := eq_false (by decide)
theorem ne_5_8 : ((5 : Int) = 8) = False := eq_false (by decide)
theorem ne_5_10 : ((5 : Int) = 10) = False := eq_false (by decide)
theorem ne_5_14 : ((5 : Int) = 14) = False := eq_false (by decide)
theorem ne_6_2 : ((6 : Int) = 2) = False := eq_false (by decide)
theorem ne_6_3 : ((6 : Int) = 3) = False := eq_false (by decide)
theorem ne_6_5 : ((6 : Int) = 5) = False := eq_false (by decide)
theorem ne_6_7 : ((6 : Int) = 7) = False := eq_false (by decide)
theorem ne_6_8 : ((6 : Int) = 8) = False := eq_false (by decide)
theorem ne_6_10 : ((6 : Int) = 10) = False := eq_false (by decide)
theorem ne_6_14 : ((6 : Int) = 14) = False := eq_false (by decide)
theorem ne_7_2 : ((7 : Int) = 2) = False := eq_false (by decide)
theorem ne_7_3 : ((7 : Int) = 3) = False := eq_false (by decide)
theorem ne_7_5 : ((7 : Int) = 5) = False := eq_false (by decide)
theorem ne_7_8 : ((7 : Int) = 8) = False := eq_false (by decide)
theorem ne_7_10 : ((7 : Int) = 10) = False := eq_false (by decide)
theorem ne_7_14 : ((7 : Int) = 14) = False := eq_false (by decide)
theorem ne_8_2 : ((8 : Int) = 2) = False := eq_false (by decide)
theorem ne_8_3 : ((8 : Int) = 3) = False := eq_false (by decide)
theorem ne_8_5 : ((8 : Int) = 5) = False := eq_false (by decide)
theorem ne_8_7 : ((8 : Int) = 7) = False := eq_false (by decide)
theorem ne_8_10 : ((8 : Int) = 10) = False := eq_false (by decide)
theorem ne_8_14 : ((8 : Int) = 14) = False := eq_false (by decide)
theorem ne_10_2 : ((10 : Int) = 2) = False := eq_false (by decide)
theorem ne_10_3 : ((10 : Int) = 3) = False := eq_false (by decide)
theorem ne_10_5 : ((10 : Int) = 5) = False := eq_false (by decide)
theorem ne_10_7 : ((10 : Int) = 7) = False := eq_false (by decide)
theorem ne_10_8 : ((10 : Int) = 8) = False := eq_false (by decide)
theorem ne_10_14 : ((10 : Int) = 14) = False := eq_false (by decide)
theorem ne_14_2 : ((14 : Int) = 2) = False := eq_false (by decide)
theorem ne_14_3 : ((14 : Int) = 3) = False := eq_false (by decide)
theorem ne_14_5 : ((14 : Int) = 5) = False := eq_false (by decide)
theorem ne_14_7 : ((14 : Int) = 7) = False := eq_false (by decide)
theorem ne_14_8 : ((14 : Int) = 8) = False := eq_false (by decide)
theorem ne_14_10 : ((14 : Int) = 10) = False := eq_false (by decide)
theorem ris_step (s : Sc) (hs : s.right) (k n bt : Int) (bs : List UInt8) (its : List V) (ks : List ByteArray) (hw : V.wt (.mk k n bt bs its ks) ≤ 1000000) (IHs : ∀ i (h : i < its.length), RisC s (its[i]'h)) : RisC s (.mk k n bt bs its ks) := by
 intro a ha0 ha1 w A A3 A4 A5 c c3 c4 c5 rt ra ht
 obtain ⟨p, rfl⟩ : ∃ p : Nat, a = (p : Int) := ⟨a.toNat, by omega⟩
 have hp : p < s.nodes.length := by omega
 have nn200 : s.nodes.length ≤ 200 := hs.1.2.1
 have hok := hs.2.1 _ (List.getElem_mem hp)
 have hkid := kids_in hs.1 p hp
 have ek : s.kidsAt p = (s.nodes[p]'hp).kids := by unfold Sc.kidsAt; rw [List.getElem?_eq_getElem hp]; rfl
 rw [ek] at hkid
 obtain ⟨hk1, hk14, hf9, hs14⟩ := ok_range hok
 obtain ⟨_, _, _, _, _, _, e, l3, r3, l4, r4, l5, f5⟩ := V.out.1 ht
 simp only [V.k, V.n, V.bt, V.bs, V.its, V.ks, List.cons.injEq, Value.slice.injEq, true_and, and_true] at e l3 r3 l4 r4 l5 f5
 obtain ⟨⟨rfl, rfl⟩, ⟨rfl, rfl⟩, rfl, rfl⟩ := e
 simp only [V.k, V.n, V.bt, V.bs, V.its, V.ks]
 have hw' : 1 + bs.length + kwt ks + V.wts its ≤ 1000000 := by unfold V.wt at hw; exact hw
 have lks := kwt_len ks
 have lit := vwts_len its
 obtain ⟨b1, o1, X2, x2, X3, x3, X4, x4, X9, x9, rfl, lb1, ⟨y0, y1, y2, y3, y4, y5, y6, y7, y8, y9⟩, lx⟩ := nodes_at ra hp
 obtain ⟨_, _, _, _, _, _, _, _, e, _, _, len3, row3, _, _, len9, row9⟩ := Nd.out.1 lx
 simp only [List.cons.injEq, Value.slice.injEq, true_and, and_true] at e
 obtain ⟨⟨rfl, rfl⟩, ⟨rfl, rfl⟩, ⟨rfl, rfl⟩, rfl, rfl⟩ := e
 by_cases hne : k = (s.nodes[p]'hp).k
 rotate_left
 · exact (ris_ne p s.nodes.length hp k _ n bt hne _ _ _ A3 A4 A5 c3 c4 c5 _ _ rt _ _ _ _ x2 x3 x4 x9 X2 X3 X4 X9 _ _ _ b1 o1 c w lb1 y0 y1 y2 y3 y4 y5 y6 y7 y8 y9).mono fun _ _ h => told_tells h ⟨(fun e => by cases e), fun e => absurd e (V.is_not hp hne)⟩
 have RA : ∀ W, Below w.heap.size w W → RowD W (· < W.heap.size) 10 (s.nodes.map Nd.enc) (some ⟨b1, o1, none⟩) := fun W b => (ra.below b).more b.size
 obtain h | h | h | h | h | h | h | h | h | h | h | h | h | h : (s.nodes[p]'hp).k = 1 ∨ (s.nodes[p]'hp).k = 2 ∨ (s.nodes[p]'hp).k = 3 ∨ (s.nodes[p]'hp).k = 4 ∨ (s.nodes[p]'hp).k = 5 ∨ (s.nodes[p]'hp).k = 6 ∨ (s.nodes[p]'hp).k = 7 ∨ (s.nodes[p]'hp).k = 8 ∨ (s.nodes[p]'hp).k = 9 ∨ (s.nodes[p]'hp).k = 10 ∨ (s.nodes[p]'hp).k = 11 ∨ (s.nodes[p]'hp).k = 12 ∨ (s.nodes[p]'hp).k = 13 ∨ (s.nodes[p]'hp).k = 14 := by omega
 · obtain rfl : k = 1 := hne.trans h
   rw [h] at y0
   have I := V.is_leaf hp (n := n) (bt := bt) (bs := bs) (its := its) (ks := ks) hs14 h.symm (by omega)
   simp only [ne_1_2, ne_1_3, ne_1_5, ne_1_7, ne_1_8, ne_1_10, ne_1_14, false_imp_iff, and_true] at I
   exact ris_1 p _ hp rt n bt _ _ _ A3 A4 A5 c3 c4 c5 _ _ _ _ _ _ x2 x3 x4 x9 X2 X3 X4 X9 _ _ _ b1 o1 c w lb1 y0 y1 y2 y3 y4 y5 y6 y7 y8 y9 _ (I.trans (by unfold VJust; omega))
 · obtain rfl : k = 2 := hne.trans h
   rw [h] at y0
   have I := V.is_leaf hp (n := n) (bt := bt) (bs := bs) (its := its) (ks := ks) hs14 h.symm (by omega)
   simp only [ne_2_3, ne_2_5, ne_2_7, ne_2_8, ne_2_10, ne_2_14, false_imp_iff, forall_const, and_true] at I
   exact ris_2 p _ hp rt n bt _ _ _ A3 A4 A5 c3 c4 c5 _ _ _ _ _ _ x2 x3 x4 x9 X2 X3 X4 X9 _ _ _ b1 o1 c w lb1 y0 y1 y2 y3 y4 y5 y6 y7 y8 y9 _ (I.trans (by unfold VJust; omega))
 · obtain rfl : k = 3 := hne.trans h
   rw [h] at y0
   have I := V.is_leaf hp (n := n) (bt := bt) (bs := bs) (its := its) (ks := ks) hs14 h.symm (by omega)
   simp only [ne_3_2, ne_3_5, ne_3_7, ne_3_8, ne_3_10, ne_3_14, false_imp_iff, forall_const, true_and, and_true] at I
   exact ris_3 p _ hp rt n bt _ _ _ A3 A4 A5 c3 c4 c5 _ _ _ _ _ _ x2 x3 x4 x9 X2 X3 X4 X9 _ _ _ b1 o1 c w lb1 y0 y1 y2 y3 y4 y5 y6 y7 y8 y9 _ (I.trans (by unfold VJust; omega))
 · obtain rfl : k = 4 := hne.trans h
   rw [h] at y0
   have I := V.is_leaf hp (n := n) (bt := bt) (bs := bs) (its := its) (ks := ks) hs14 h.symm (by omega)
   simp only [ne_4_2, ne_4_3, ne_4_5, ne_4_7, ne_4_8, ne_4_10, ne_4_14, false_imp_iff, and_true] at I
   exact ris_4 p _ hp rt n bt _ _ _ A3 A4 A5 c3 c4 c5 _ _ _ _ _ _ x2 x3 x4 x9 X2 X3 X4 X9 _ _ _ b1 o1 c w lb1 y0 y1 y2 y3 y4 y5 y6 y7 y8 y9 _ (I.trans (by unfold VJust; omega))
 · obtain rfl : k = 5 := hne.trans h
   rw [h] at y0
   have I := V.is_leaf hp (n := n) (bt := bt) (bs := bs) (its := its) (ks := ks) hs14 h.symm (by omega)
   simp only [ne_5_2, ne_5_3, ne_5_7, ne_5_8, ne_5_10, ne_5_14, false_imp_iff, forall_const, true_and, and_true] at I
   exact ris_5 p _ hp rt n bt _ _ _ A3 A4 A5 c3 c4 c5 _ _ _ _ _ _ x2 x3 x4 x9 X2 X3 X4 X9 _ _ _ b1 o1 c w lb1 y0 y1 y2 y3 y4 y5 y6 y7 y8 y9 _ (I.trans (by unfold VJust; omega))
 · obtain rfl : k = 6 := hne.trans h
   rw [h] at y0
   have I := V.is_leaf hp (n := n) (bt := bt) (bs := bs) (its := its) (ks := ks) hs14 h.symm (by omega)
   simp only [ne_6_2, ne_6_3, ne_6_5, ne_6_7, ne_6_8, ne_6_10, ne_6_14, false_imp_iff, and_true] at I
   exact ris_6 p _ hp rt n bt _ _ _ A3 A4 A5 c3 c4 c5 _ _ _ _ _ _ x2 x3 x4 x9 X2 X3 X4 X9 _ _ _ b1 o1 c w lb1 y0 y1 y2 y3 y4 y5 y6 y7 y8 y9 _ (I.trans (by unfold VJust; omega))
 · obtain rfl : k = 7 := hne.trans h
   rw [h] at y0
   have I := V.is_leaf hp (n := n) (bt := bt) (bs := bs) (its := its) (ks := ks) hs14 h.symm (by omega)
   simp only [ne_7_2, ne_7_3, ne_7_5, ne_7_8, ne_7_10, ne_7_14, false_imp_iff, forall_const, true_and, and_true] at I
   exact ris_7 p _ hp rt n bt _ _ _ A3 A4 A5 c3 c4 c5 _ _ _ _ _ _ x2 x3 x4 x9 X2 X3 X4 X9 _ _ _ b1 o1 c w lb1 y0 y1 y2 y3 y4 y5 y6 y7 y8 y9 _ (I.trans (by unfold VJust; omega))
 · obtain rfl : k = 8 := hne.trans h
   rw [h] at y0
   have I := V.is_leaf hp (n := n) (bt := bt) (bs := bs) (its := its) (ks := ks) hs14 h.symm (by omega)
   simp only [ne_8_2, ne_8_3, ne_8_5, ne_8_7, ne_8_10, ne_8_14, false_imp_iff, forall_const, true_and, and_true] at I
   exact ris_8 p _ hp rt n bt _ _ _ A3 A4 A5 c3 c4 c5 _ _ _ _ _ _ x2 x3 x4 x9 X2 X3 X4 X9 _ _ _ b1 o1 c w lb1 y0 y1 y2 y3 y4 y5 y6 y7 y8 y9 ((Num.cU bs).isSome = true) (Lib.hid (fun W b => (rvtext_any A3 c3 bs W (((row_bys r3).below b).more b.size) (by omega) l3.1).mono fun _ _ g => told_tells ⟨g.1, g.2⟩ Iff.rfl)) _ (I.trans ⟨fun ⟨j, g, b⟩ => ⟨b, by unfold VJust at j; omega, g, j⟩, fun ⟨b, _, g, j⟩ => ⟨j, g, b⟩⟩)
 · obtain rfl : k = 9 := hne.trans h
   rw [h] at y0
   have hf : ∀ i (g : i < (s.nodes[p]'hp).fs.length), 0 ≤ ((s.nodes[p]'hp).fs[i]'g).ty ∧ ((s.nodes[p]'hp).fs[i]'g).ty < (s.nodes.length : Int) := fun i g => hkid _ (by unfold Nd.kids; rw [if_pos h]; exact List.mem_map.2 ⟨_, List.getElem_mem g, rfl⟩)
   have fl := hf9 h
   have I := V.is_9 hp (n := n) (bt := bt) (bs := bs) (its := its) (ks := ks) h fl
   exact ris_9 p _ hp rt n bt _ _ _ A3 A4 A5 c3 c4 c5 _ _ _ _ _ _ x2 x3 x4 x9 X2 X3 X4 X9 _ _ _ b1 o1 c w lb1 y0 y1 y2 y3 y4 y5 y6 y7 y8 y9 (fun j => ∀ (hj : j < its.length) (hg : j < (s.nodes[p]'hp).fs.length), V.is s (its[j]'hj) ((s.nodes[p]'hp).fs[j]'hg).ty) (Lib.hid (fun j hj hg => by
    obtain ⟨b4, o4, Y3, z3, Y4, z4, Y5, z5, e4, lb4, ⟨u0, u1, u2, u3, u4, u5⟩, ty⟩ := values_at r4 hj
    obtain ⟨bf, of_, Z1, z1, Z3, z3', Z4, z4', e2, lbf, ⟨v0, v1, v2, v3, v4, v5, v6, v7, v8⟩, _⟩ := fields_at row3 hg
    exact ⟨_, bf, of_, b4, o4, _, _, _, _, _, _, e2, lbf, v2, e4, lb4, u0, u1, u2, u3, u4, u5, fun W b => (IHs j hj _ (hf j hg).1 (hf j hg).2 W _ Y3 Y4 Y5 c z3 z4 z5 rt (RA W b) ((ty.below b).more b.size)).mono fun _ _ g => g.iff ⟨fun k _ _ => k, fun k => k hj hg⟩⟩)) (by omega) _ (I.trans ⟨fun ⟨j, e, g⟩ => ⟨by unfold VJust at j; omega, by omega, ⟨e, fun i _ h2 h3 => g i h2 h3⟩, j⟩, fun ⟨_, _, ⟨e, g⟩, j⟩ => ⟨j, e, fun i h2 h3 => g i h2 h2 h3⟩⟩)
 · obtain rfl : k = 10 := hne.trans h
   rw [h] at y0
   have I := V.is_leaf hp (n := n) (bt := bt) (bs := bs) (its := its) (ks := ks) hs14 h.symm (by omega)
   simp only [ne_10_2, ne_10_3, ne_10_5, ne_10_7, ne_10_8, ne_10_14, false_imp_iff, forall_const, true_and, and_true] at I
   exact ris_10 p _ hp rt n bt _ _ _ A3 A4 A5 c3 c4 c5 _ _ _ _ _ _ x2 x3 x4 x9 X2 X3 X4 X9 _ _ _ b1 o1 c w lb1 y0 y1 y2 y3 y4 y5 y6 y7 y8 y9 _ (I.trans (by unfold VJust; omega))
 · obtain rfl : k = 11 := hne.trans h
   rw [h] at y0
   have hi : 0 ≤ (s.nodes[p]'hp).items ∧ (s.nodes[p]'hp).items < (s.nodes.length : Int) := hkid _ (by unfold Nd.kids; rw [if_neg (by omega), if_pos (.inl h)]; exact List.mem_singleton.2 rfl)
   have I := V.is_11 hp (n := n) (bt := bt) (bs := bs) (its := its) (ks := ks) h
   exact ris_11 p _ hp rt n bt _ _ _ A3 A4 A5 c3 c4 c5 _ _ _ _ _ _ x2 x3 x4 x9 X2 X3 X4 X9 _ _ _ b1 o1 c w lb1 y0 y1 y2 y3 y4 y5 y6 y7 y8 y9 (fun j => ∀ (hj : j < its.length), V.is s (its[j]'hj) (s.nodes[p]'hp).items) (Lib.hid (fun j hj => by
    obtain ⟨b4, o4, Y3, z3, Y4, z4, Y5, z5, e4, lb4, ⟨u0, u1, u2, u3, u4, u5⟩, ty⟩ := values_at r4 hj
    exact ⟨b4, o4, _, _, _, _, _, _, e4, lb4, u0, u1, u2, u3, u4, u5, fun W b => (IHs j hj _ hi.1 hi.2 W _ Y3 Y4 Y5 c z3 z4 z5 rt (RA W b) ((ty.below b).more b.size)).mono fun _ _ g => g.iff ⟨fun k _ => k, fun k => k hj⟩⟩)) (by omega) _ (I.trans ⟨fun ⟨j, e, g⟩ => ⟨by unfold VJust at j; omega, e, fun i _ h2 => g i h2, j⟩, fun ⟨_, e, g, j⟩ => ⟨j, e, fun i h2 => g i h2 h2⟩⟩)
 · obtain rfl : k = 12 := hne.trans h
   rw [h] at y0
   have hi : 0 ≤ (s.nodes[p]'hp).items ∧ (s.nodes[p]'hp).items < (s.nodes.length : Int) := hkid _ (by unfold Nd.kids; rw [if_neg (by omega), if_pos (.inr h)]; exact List.mem_singleton.2 rfl)
   have I := V.is_12 hp (n := n) (bt := bt) (bs := bs) (its := its) (ks := ks) h
   exact ris_12 p _ hp rt n bt _ _ _ A3 A4 A5 c3 c4 c5 _ _ _ _ _ _ x2 x3 x4 x9 X2 X3 X4 X9 _ _ _ b1 o1 c w lb1 y0 y1 y2 y3 y4 y5 y6 y7 y8 y9 (fun j => ∀ (hj : j < its.length), V.is s (its[j]'hj) (s.nodes[p]'hp).items) (Lib.hid (fun j hj => by
    obtain ⟨b4, o4, Y3, z3, Y4, z4, Y5, z5, e4, lb4, ⟨u0, u1, u2, u3, u4, u5⟩, ty⟩ := values_at r4 hj
    exact ⟨b4, o4, _, _, _, _, _, _, e4, lb4, u0, u1, u2, u3, u4, u5, fun W b => (IHs j hj _ hi.1 hi.2 W _ Y3 Y4 Y5 c z3 z4 z5 rt (RA W b) ((ty.below b).more b.size)).mono fun _ _ g => g.iff ⟨fun k _ => k, fun k => k hj⟩⟩)) (fun j => ∀ (hj : j < ks.length), (ks[j]'hj).size ≤ 20000 ∧ (Num.cU (ks[j]'hj).data.toList).isSome = true) (Lib.hid (fun j hj => by
    obtain ⟨b5, o5, e5, lb5, u⟩ := fl_str f5 hj
    exact ⟨b5, o5, _, e5, lb5, u, ⟨fun k => k hj, fun k _ => k⟩⟩)) (by omega) (by omega) _ (I.trans ⟨fun ⟨j, ⟨e, kk⟩, l, g⟩ => ⟨by unfold VJust at j; omega, l, ⟨⟨e, fun i _ h2 => kk i h2⟩, fun i _ h2 => g i h2⟩, j⟩, fun ⟨_, l, ⟨⟨e, kk⟩, g⟩, j⟩ => ⟨j, ⟨e, fun i h2 => kk i h2 h2⟩, l, fun i h2 => g i h2 h2⟩⟩)
 · obtain rfl : k = 13 := hne.trans h
   rw [h] at y0
   have I := V.is_13 hp (n := n) (bt := bt) (bs := bs) (its := its) (ks := ks) h
   have hb : ∀ i (g : i < (s.nodes[p]'hp).br.length), 0 ≤ (s.nodes[p]'hp).br[i]'g ∧ (s.nodes[p]'hp).br[i]'g < (s.nodes.length : Int) := fun i g => hkid _ (by unfold Nd.kids; rw [if_neg (by omega), if_neg (by omega), if_pos h]; exact List.getElem_mem g)
   have hk0 : 0 ≤ n → n < ((s.nodes[p]'hp).br.length : Int) → ∃ b9 o9, X9 = some ⟨b9, o9, none⟩ ∧ b9 < w.heap.size ∧ w.cell? ⟨b9, o9 + n.toNat, none⟩ = some (.int .i64 ((s.nodes[p]'hp).br.getD n.toNat 0)) := fun q0 q1 => by
    obtain ⟨b9, o9, e, hg, hc⟩ := ints_at row9 (i := n.toNat) (by omega)
    exact ⟨b9, o9, e, hg, by rw [hc, List.getD_eq_getElem?_getD, List.getElem?_eq_getElem (by omega)]; rfl⟩
   by_cases l1 : its.length = 1
   · have h0 : 0 < its.length := by omega
     obtain ⟨b4, o4, Y3, z3, Y4, z4, Y5, z5, e4, lb4, ⟨u0, u1, u2, u3, u4, u5⟩, ty⟩ := values_at r4 h0
     rw [Nat.zero_mul, Nat.add_zero] at u0 u1 u2 u3 u4 u5
     exact ris_13 p _ hp rt n bt _ _ _ A3 A4 A5 c3 c4 c5 _ _ _ _ _ _ x2 x3 x4 x9 X2 X3 X4 X9 _ _ _ b1 o1 c w lb1 y0 y1 y2 y3 y4 y5 y6 y7 y8 y9 _ hk0 b4 o4 _ _ _ _ _ _ (fun _ => ⟨e4, lb4, u0, u1, u2, u3, u4, u5⟩) (∃ h : 0 < its.length, V.is s (its[0]'h) ((s.nodes[p]'hp).br.getD n.toNat 0)) (Lib.hid (fun q0 q1 _ W b => by
      have hr := hb n.toNat (by omega)
      have ge : (s.nodes[p]'hp).br.getD n.toNat 0 = (s.nodes[p]'hp).br[n.toNat]'(by omega) := by rw [List.getD_eq_getElem?_getD, List.getElem?_eq_getElem (by omega)]; rfl
      rw [← ge] at hr
      exact (IHs 0 h0 _ hr.1 hr.2 W _ Y3 Y4 Y5 c z3 z4 z5 rt (RA W b) ((ty.below b).more b.size)).mono fun _ _ g => g.iff ⟨fun k => ⟨h0, k⟩, fun k => k.2⟩)) _ (I.trans ⟨fun ⟨j, r, l, g⟩ => ⟨by unfold VJust at j; omega, by omega, ⟨r, l, g⟩, j⟩, fun ⟨_, _, ⟨r, l, g⟩, j⟩ => ⟨j, r, l, g⟩⟩)
   · exact ris_13 p _ hp rt n bt _ _ _ A3 A4 A5 c3 c4 c5 _ _ _ _ _ _ x2 x3 x4 x9 X2 X3 X4 X9 _ _ _ b1 o1 c w lb1 y0 y1 y2 y3 y4 y5 y6 y7 y8 y9 _ hk0 0 0 undef undef undef undef undef undef (fun e => absurd e l1) (∃ h : 0 < its.length, V.is s (its[0]'h) ((s.nodes[p]'hp).br.getD n.toNat 0)) (Lib.hid (fun _ _ e => absurd e l1)) _ (I.trans ⟨fun ⟨j, r, l, g⟩ => ⟨by unfold VJust at j; omega, by omega, ⟨r, l, g⟩, j⟩, fun ⟨_, _, ⟨r, l, g⟩, j⟩ => ⟨j, r, l, g⟩⟩)
 · obtain rfl : k = 14 := hne.trans h
   rw [h] at y0
   have I := V.is_leaf hp (n := n) (bt := bt) (bs := bs) (its := its) (ks := ks) hs14 h.symm (by omega)
   simp only [ne_14_2, ne_14_3, ne_14_5, ne_14_7, ne_14_8, ne_14_10, false_imp_iff, forall_const, true_and] at I
   have z14 := hs14 h
   exact ris_14 p _ hp rt n bt _ _ _ A3 A4 A5 c3 c4 c5 _ _ _ _ _ _ x2 x3 x4 x9 X2 X3 X4 X9 _ _ _ b1 o1 c w lb1 y0 y1 y2 y3 y4 y5 y6 y7 y8 y9 _ (I.trans (by unfold VJust; omega))
theorem ris_at (s : Sc) (hs : s.right) : ∀ (N : Nat) (t : V), SizeOf.sizeOf t ≤ N → t.wt ≤ 1000000 → RisC s t
 | 0, t, h, _ => by cases t; simp at h
 | N + 1, .mk k n bt bs its ks, hN, hw => ris_step s hs k n bt bs its ks hw fun i h => ris_at s hs N (its[i]'h) (by have := V.lt_its (v := .mk k n bt bs its ks) (i := i) h; simp only [V.its] at this; omega) (by have := vwts_at h; unfold V.wt at hw; omega)
theorem ris_any (s : Sc) (hs : s.right) (t : V) (hw : t.wt ≤ 1000000) : RisC s t := ris_at s hs _ t (Nat.le_refl _) hw
theorem rConforms_any (s : Sc) (hs : s.sm) (t : V) (hw : t.wt ≤ 1000000) (a : Int) (w : World) (A A3 A4 A5 : Option Addr) (c c3 c4 c5 : Nat) (h : Lies w (· < w.heap.size) s.enc [.slice A s.nodes.length c, .int .i64 s.root]) (ht : Lies w (· < w.heap.size) t.enc [.int .i64 t.k, .int .i64 t.n, .int .u64 t.bt, .slice A3 t.bs.length c3, .slice A4 t.its.length c4, .slice A5 t.ks.length c5]) :
 Calls Tryz.prog 7 #[.agg #[.slice A s.nodes.length c, .int .i64 s.root], .int .i64 a, .agg #[.int .i64 t.k, .int .i64 t.n, .int .u64 t.bt, .slice A3 t.bs.length c3, .slice A4 t.its.length c4, .slice A5 t.ks.length c5]] w (Tells (s.conf t a) w) := by
 have CS := cell_set
 have SR := Lib.hid (fun W (b : Below w.heap.size w W) => rRightS_any s hs W A c (h.on b))
 obtain ⟨_, _, e, la, ra⟩ := Sc.out.1 h
 simp only [List.cons.injEq, Value.slice.injEq, true_and, and_true] at e
 obtain ⟨rfl, rfl⟩ := e
 have ON := Lib.hid (fun (r : s.right) (q0 : 0 ≤ a) (q1 : a < (s.nodes.length : Int)) W (b : Below w.heap.size w W) => ris_any s r t hw a q0 q1 W A A3 A4 A5 c c3 c4 c5 s.root ((ra.below b).more b.size) (ht.on b))
 obtain ⟨Q, hQ⟩ : ∃ Q : Prop, Q = s.conf t a := ⟨_, rfl⟩
 have HQ : Hid (Q ↔ s.right ∧ V.is s t a) := by show _ ↔ _; rw [hQ]; exact Iff.rfl
 rw [← hQ]
 obtain ⟨nn, hnn⟩ : ∃ m, m = s.nodes.length := ⟨_, rfl⟩
 obtain ⟨rt, hrt⟩ : ∃ m, m = s.root := ⟨_, rfl⟩
 have H0 := Lib.hid (B2.alloc (B2.newat (w := w) (t := 24) (x0 := .slice A nn c) (x1 := .int .i64 rt) rfl) (.cells #[.int .i64 t.k, .int .i64 t.n, .int .u64 t.bt, .slice A3 t.bs.length c3, .slice A4 t.its.length c4, .slice A5 t.ks.length c5] 30))
 have N0 := Lib.hid (B6.newat (w := w.alloc (.cells #[.slice A nn c, .int .i64 rt] 24)) (g := w.heap.size + 1) (t := 30) (x0 := .int .i64 t.k) (x1 := .int .i64 t.n) (x2 := .int .u64 t.bt) (x3 := .slice A3 t.bs.length c3) (x4 := .slice A4 t.its.length c4) (x5 := .slice A5 t.ks.length c5) (by simp))
 have W0 : Hid (Below w.heap.size w ((w.alloc (.cells #[.slice A nn c, .int .i64 rt] 24)).alloc (.cells #[.int .i64 t.k, .int .i64 t.n, .int .u64 t.bt, .slice A3 t.bs.length c3, .slice A4 t.its.length c4, .slice A5 t.ks.length c5] 30))) := (((Below.refl _ _).alloc (Nat.le_refl _) _).alloc (by simp) _)
 have Z0 : Hid (((w.alloc (.cells #[.slice A nn c, .int .i64 rt] 24)).alloc (.cells #[.int .i64 t.k, .int .i64 t.n, .int .u64 t.bt, .slice A3 t.bs.length c3, .slice A4 t.its.length c4, .slice A5 t.ks.length c5] 30)).heap.size = w.heap.size + 2) := by show _ = _; simp
 have HNN := Lib.hid hnn
 rw [← hnn] at SR ON ⊢
 rw [← hrt] at SR ON ⊢
 clear h la ra ht hQ hw hnn hrt
 go_enter Tryz.func7, Tryz.ntmps7
 go_wp2_with fail
 with_reducible refine (SR.out _ W0.out).mono ?_
 rintro e w2 ⟨b, rfl, hbb, b2⟩
 rw [Z0.out] at b2
 have z2 := b2.size
 rw [Z0.out] at z2
 have bw2 : Below w.heap.size w w2 := W0.out.trans (b2.mono (Nat.le_add_right _ _))
 have h2 := Lib.hid (B2.below H0.out b2 (by omega))
 have n2 := Lib.hid (B6.below N0.out b2 (by omega))
 obtain ⟨_, _, _, _⟩ := B2.facts h2.out
 obtain ⟨_, _, _, _, _, _, _, _, _, _, _, _⟩ := B6.facts n2.out
 have HB := Lib.hid hbb
 clear hbb H0 N0 W0 Z0 b2 SR
 cases b with
 | false =>
  have Z : Hid (¬ Q) := fun r => by have := HB.out.2 (HQ.out.1 r).1; simp at this
  go_wp2_with fail
  go_ret
  exact tells_no rfl Z.out bw2
 | true =>
  have HR := Lib.hid (HB.out.1 (by first | rfl | trivial))
  clear HB
  by_cases h0 : 0 ≤ a
  rotate_left
  · have Z : Hid (¬ Q) := fun r => h0 (V.is_in (HQ.out.1 r).2).1
    clear ON
    go_wp2_with fail
    go_ret
    exact tells_no (by simp) Z.out bw2
  by_cases h1 : a < (nn : Int)
  rotate_left
  · have Z : Hid (¬ Q) := fun r => h1 (by rw [HNN.out]; exact (V.is_in (HQ.out.1 r).2).2)
    clear ON
    go_wp2_with fail
    go_ret
    exact tells_no (by simp) Z.out bw2
  have ONE := Lib.hid (ON.out HR.out h0 h1)
  clear ON
  go_wp2_with fail
  with_reducible refine (ONE.out _ bw2).mono ?_
  rintro e w4 ⟨b, rfl, hbb, b4⟩
  have Z : Hid (b = true ↔ Q) := hbb.trans ⟨fun k => HQ.out.2 ⟨HR.out, k⟩, fun r => (HQ.out.1 r).2⟩
  have bw4 : Below w.heap.size w w4 := bw2.trans (b4.mono bw2.size)
  clear hbb
  go_wp2_with fail
  go_ret
  exact ⟨b, rfl, Z.out, bw4⟩
end Go.Proofs.YtpmgjpchpmkklaaGreatDoor
