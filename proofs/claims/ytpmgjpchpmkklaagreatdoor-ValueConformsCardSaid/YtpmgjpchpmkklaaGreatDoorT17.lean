/- Joined by tools/bundle.py: VCI R11B VWk SGrt. -/
import Derived.Deep.LoopGhost
import Derived.Deep.RegionHeldLaw
import Derived.Test.YtpmgjpchpmkklaaGreatDoorT4
import Derived.Test.YtpmgjpchpmkklaaGreatDoorT6
import Derived.Test.YtpmgjpchpmkklaaGreatDoorT7
import Derived.Test.YtpmgjpchpmkklaaGreatDoorT10
import Derived.Test.YtpmgjpchpmkklaaGreatDoorT12
import Derived.Test.YtpmgjpchpmkklaaGreatDoorT13
import Derived.Test.YtpmgjpchpmkklaaGreatDoorT16
import Derived.Test.YtpmgjpchpmkklaaGreatDoorT0
set_option maxRecDepth 100000
set_option maxHeartbeats 16000000
namespace Go.Proofs.YtpmgjpchpmkklaaGreatDoor
open Go.ChangeShapes Go.WideShapes Go.ChangeAt Go.RowKit Mem
theorem vone_ne (p nn : Nat) (hp : p < nn) (K K' n bt : Int) (hK : K ≠ K') (nb ni nk : Nat) (A3 A4 A5 : Option Addr) (c3 c4 c5 : Nat) (nm df : ByteArray) (l2 l3 l4 l9 x2 x3 x4 x9 : Nat) (X2 X3 X4 X9 : Option Addr) (hs : Bool) (sz it : Int) (b1 o1 c : Nat) (w : World) (lb1 : b1 < w.heap.size)
 (y0 : w.cell? ⟨b1, o1 + p * 10, none⟩ = some (.int .i64 K')) (y1 : w.cell? ⟨b1, o1 + p * 10 + 1, none⟩ = some (.string nm)) (y2 : w.cell? ⟨b1, o1 + p * 10 + 2, none⟩ = some (.slice X2 l2 x2)) (y3 : w.cell? ⟨b1, o1 + p * 10 + 3, none⟩ = some (.slice X3 l3 x3)) (y4 : w.cell? ⟨b1, o1 + p * 10 + 4, none⟩ = some (.slice X4 l4 x4))
 (y5 : w.cell? ⟨b1, o1 + p * 10 + 5, none⟩ = some (.bool hs)) (y6 : w.cell? ⟨b1, o1 + p * 10 + 6, none⟩ = some (.string df)) (y7 : w.cell? ⟨b1, o1 + p * 10 + 7, none⟩ = some (.int .i64 sz)) (y8 : w.cell? ⟨b1, o1 + p * 10 + 8, none⟩ = some (.int .i64 it)) (y9 : w.cell? ⟨b1, o1 + p * 10 + 9, none⟩ = some (.slice X9 l9 x9)) :
 Calls Tryz.prog 13 #[.slice (some ⟨b1, o1, none⟩) nn c, .int .i64 (p : Int), .agg #[.int .i64 K, .int .i64 n, .int .u64 bt, .slice A3 nb c3, .slice A4 ni c4, .slice A5 nk c5]] w (Told false w) := by
 have CS := cell_set
 have q : (p : Int) < (nn : Int) := by omega
 have qk : (K != K') = true := by rw [bne_iff_ne]; exact hK
 have gb0 : b1 ≠ w.heap.size := by omega
 have gb1 : b1 ≠ w.heap.size + 1 := by omega
 clear hK
 go_enter Tryz.func13, Tryz.ntmps13
 go_wp2_with fail
 go_ret
 exact told_ret rfl bqq
theorem ok_range {s : Sc} {n : Nd} (h : n.ok s) : 1 ≤ n.k ∧ n.k ≤ 14 ∧ (n.k = 9 → n.fs.length ≤ 300) ∧ (n.k = 14 → n.size ≤ 1000) := by
 refine ⟨h.1, h.2.1, fun hk => ?_, fun hk => ?_⟩
 · have := ((ok_9 hk).1 h).2.1.1.1
   rw [List.length_map] at this
   omega
 · exact ((ok_14 hk).1 h).2.1.2
theorem vone_step (s : Sc) (hs : s.right) (k n bt : Int) (bs : List UInt8) (its : List V) (ks : List ByteArray) (hw : V.wt (.mk k n bt bs its ks) ≤ 1000000) (IHs : ∀ i (h : i < its.length), OneC s (its[i]'h)) : OneC s (.mk k n bt bs its ks) := by
 intro a ha0 ha1 w A A3 A4 A5 c c3 c4 c5 hL ra ht
 obtain ⟨p, rfl⟩ : ∃ p : Nat, a = (p : Int) := ⟨a.toNat, by omega⟩
 have hp : p < s.nodes.length := by omega
 have nn200 : s.nodes.length ≤ 200 := hs.1.2.1
 have hok := hs.2.1 _ (List.getElem_mem hp)
 have hkid := kids_in hs.1 p hp
 have ek : s.kidsAt p = (s.nodes[p]'hp).kids := by unfold Sc.kidsAt; rw [List.getElem?_eq_getElem hp]; rfl
 rw [ek] at hkid
 obtain ⟨hk1, hk14, hf9, hs14⟩ := ok_range hok
 obtain ⟨_, _, _, _, _, _, e, l3, r3, l4, r4, l5, f5⟩ := V.out.1 ht
 simp only [V.k, V.n, V.bt, V.bs, V.its, V.ks, List.cons.injEq, Value.slice.injEq, true_and, and_true] at e l3 r3 l4 r4 l5 f5
 obtain ⟨⟨rfl, rfl⟩, ⟨rfl, rfl⟩, rfl, rfl⟩ := e
 simp only [V.k, V.n, V.bt, V.bs, V.its, V.ks]
 have hw' : 1 + bs.length + kwt ks + V.wts its ≤ 1000000 := by unfold V.wt at hw; exact hw
 have lks := kwt_len ks
 have lit := vwts_len its
 obtain ⟨b1, o1, X2, x2, X3, x3, X4, x4, X9, x9, rfl, lb1, ⟨y0, y1, y2, y3, y4, y5, y6, y7, y8, y9⟩, lx⟩ := nodes_at ra hp
 obtain ⟨_, _, _, _, _, _, _, _, e, _, _, len3, row3, _, _, len9, row9⟩ := Nd.out.1 lx
 simp only [List.cons.injEq, Value.slice.injEq, true_and, and_true] at e
 obtain ⟨⟨rfl, rfl⟩, ⟨rfl, rfl⟩, ⟨rfl, rfl⟩, rfl, rfl⟩ := e
 by_cases hne : k = (s.nodes[p]'hp).k
 rotate_left
 · exact (vone_ne p s.nodes.length hp k _ n bt hne _ _ _ A3 A4 A5 c3 c4 c5 _ _ _ _ _ _ x2 x3 x4 x9 X2 X3 X4 X9 _ _ _ b1 o1 c w lb1 y0 y1 y2 y3 y4 y5 y6 y7 y8 y9).mono fun _ _ h => told_tells h ⟨(fun e => by cases e), fun e => absurd e (V.is_not hp hne)⟩
 have RA : ∀ W, Below w.heap.size w W → RowD W (· < W.heap.size) 10 (s.nodes.map Nd.enc) (some ⟨b1, o1, none⟩) := fun W b => (ra.below b).more b.size
 have R4 : ∀ W, Below w.heap.size w W → RowD W (· < W.heap.size) 6 (its.map V.enc) A4 := fun W b => (r4.below b).more b.size
 have HLW : ∀ W, Below w.heap.size w W → Laid W := fun W b => hL.below b hL.top
 obtain h | h | h | h | h | h | h | h | h | h | h | h | h | h : (s.nodes[p]'hp).k = 1 ∨ (s.nodes[p]'hp).k = 2 ∨ (s.nodes[p]'hp).k = 3 ∨ (s.nodes[p]'hp).k = 4 ∨ (s.nodes[p]'hp).k = 5 ∨ (s.nodes[p]'hp).k = 6 ∨ (s.nodes[p]'hp).k = 7 ∨ (s.nodes[p]'hp).k = 8 ∨ (s.nodes[p]'hp).k = 9 ∨ (s.nodes[p]'hp).k = 10 ∨ (s.nodes[p]'hp).k = 11 ∨ (s.nodes[p]'hp).k = 12 ∨ (s.nodes[p]'hp).k = 13 ∨ (s.nodes[p]'hp).k = 14 := by omega
 · obtain rfl : k = 1 := hne.trans h
   rw [h] at y0
   have I := V.is_leaf hp (n := n) (bt := bt) (bs := bs) (its := its) (ks := ks) hs14 h.symm (by omega)
   exact vone_1 p _ hp n bt _ _ _ A3 A4 A5 c3 c4 c5 _ _ _ _ _ _ x2 x3 x4 x9 X2 X3 X4 X9 _ _ _ b1 o1 c w lb1 y0 y1 y2 y3 y4 y5 y6 y7 y8 y9 _ (by rw [I]; simp)
 · obtain rfl : k = 2 := hne.trans h
   rw [h] at y0
   have I := V.is_leaf hp (n := n) (bt := bt) (bs := bs) (its := its) (ks := ks) hs14 h.symm (by omega)
   exact vone_2 p _ hp n bt _ _ _ A3 A4 A5 c3 c4 c5 _ _ _ _ _ _ x2 x3 x4 x9 X2 X3 X4 X9 _ _ _ b1 o1 c w lb1 y0 y1 y2 y3 y4 y5 y6 y7 y8 y9 _ (by rw [I]; simp)
 · obtain rfl : k = 3 := hne.trans h
   rw [h] at y0
   have I := V.is_leaf hp (n := n) (bt := bt) (bs := bs) (its := its) (ks := ks) hs14 h.symm (by omega)
   exact vone_3 p _ hp n bt _ _ _ A3 A4 A5 c3 c4 c5 _ _ _ _ _ _ x2 x3 x4 x9 X2 X3 X4 X9 _ _ _ b1 o1 c w lb1 y0 y1 y2 y3 y4 y5 y6 y7 y8 y9 _ (by rw [I]; simp)
 · obtain rfl : k = 4 := hne.trans h
   rw [h] at y0
   have I := V.is_leaf hp (n := n) (bt := bt) (bs := bs) (its := its) (ks := ks) hs14 h.symm (by omega)
   exact vone_4 p _ hp n bt _ _ _ A3 A4 A5 c3 c4 c5 _ _ _ _ _ _ x2 x3 x4 x9 X2 X3 X4 X9 _ _ _ b1 o1 c w lb1 y0 y1 y2 y3 y4 y5 y6 y7 y8 y9 _ (by rw [I]; simp)
 · obtain rfl : k = 5 := hne.trans h
   rw [h] at y0
   have I := V.is_leaf hp (n := n) (bt := bt) (bs := bs) (its := its) (ks := ks) hs14 h.symm (by omega)
   exact vone_5 p _ hp n bt _ _ _ A3 A4 A5 c3 c4 c5 _ _ _ _ _ _ x2 x3 x4 x9 X2 X3 X4 X9 _ _ _ b1 o1 c w lb1 y0 y1 y2 y3 y4 y5 y6 y7 y8 y9 _ (by rw [I]; simp)
 · obtain rfl : k = 6 := hne.trans h
   rw [h] at y0
   have I := V.is_leaf hp (n := n) (bt := bt) (bs := bs) (its := its) (ks := ks) hs14 h.symm (by omega)
   exact vone_6 p _ hp n bt _ _ _ A3 A4 A5 c3 c4 c5 _ _ _ _ _ _ x2 x3 x4 x9 X2 X3 X4 X9 _ _ _ b1 o1 c w lb1 y0 y1 y2 y3 y4 y5 y6 y7 y8 y9 _ (by rw [I]; simp)
 · obtain rfl : k = 7 := hne.trans h
   rw [h] at y0
   have I := V.is_leaf hp (n := n) (bt := bt) (bs := bs) (its := its) (ks := ks) hs14 h.symm (by omega)
   exact vone_7 p _ hp n bt _ _ _ A3 A4 A5 c3 c4 c5 _ _ _ _ _ _ x2 x3 x4 x9 X2 X3 X4 X9 _ _ _ b1 o1 c w lb1 y0 y1 y2 y3 y4 y5 y6 y7 y8 y9 _ (by rw [I]; simp)
 · obtain rfl : k = 8 := hne.trans h
   rw [h] at y0
   have I := V.is_leaf hp (n := n) (bt := bt) (bs := bs) (its := its) (ks := ks) hs14 h.symm (by omega)
   exact vone_8 p _ hp n bt _ _ _ A3 A4 A5 c3 c4 c5 _ _ _ _ _ _ x2 x3 x4 x9 X2 X3 X4 X9 _ _ _ b1 o1 c w lb1 y0 y1 y2 y3 y4 y5 y6 y7 y8 y9 ((Num.cU bs).isSome = true) (Lib.hid (fun W b => (Right_any A3 c3 bs W (HLW W b) (((row_bys r3).below b).more b.size) (by omega) l3.1).mono fun _ _ g => told_tells ⟨g.1, g.2⟩ Iff.rfl)) _ (by rw [I]; simp)
 · obtain rfl : k = 9 := hne.trans h
   rw [h] at y0
   have hf : ∀ i (g : i < (s.nodes[p]'hp).fs.length), 0 ≤ ((s.nodes[p]'hp).fs[i]'g).ty ∧ ((s.nodes[p]'hp).fs[i]'g).ty < (s.nodes.length : Int) := fun i g => hkid _ (by unfold Nd.kids; rw [if_pos h]; exact List.mem_map.2 ⟨_, List.getElem_mem g, rfl⟩)
   have fl := hf9 h
   exact vone_9 p _ hp n bt _ _ _ A3 A4 A5 c3 c4 c5 _ _ _ _ _ _ x2 x3 x4 x9 X2 X3 X4 X9 _ _ _ b1 o1 c w lb1 y0 y1 y2 y3 y4 y5 y6 y7 y8 y9 _ (Lib.hid (fun W b => vrecord_any s (s.nodes[p]'hp).fs its IHs hf W (HLW W b) _ A4 X3 c c4 x3 (RA W b) ((row3.below b).more b.size) (R4 W b) (by omega) (by omega))) _ (V.is_9 hp h fl)
 · obtain rfl : k = 10 := hne.trans h
   rw [h] at y0
   have I := V.is_leaf hp (n := n) (bt := bt) (bs := bs) (its := its) (ks := ks) hs14 h.symm (by omega)
   exact vone_10 p _ hp n bt _ _ _ A3 A4 A5 c3 c4 c5 _ _ _ _ _ _ x2 x3 x4 x9 X2 X3 X4 X9 _ _ _ b1 o1 c w lb1 y0 y1 y2 y3 y4 y5 y6 y7 y8 y9 _ (by rw [I]; simp)
 · obtain rfl : k = 11 := hne.trans h
   rw [h] at y0
   have hi : 0 ≤ (s.nodes[p]'hp).items ∧ (s.nodes[p]'hp).items < (s.nodes.length : Int) := hkid _ (by unfold Nd.kids; rw [if_neg (by omega), if_pos (.inl h)]; exact List.mem_singleton.2 rfl)
   exact vone_11 p _ hp n bt _ _ _ A3 A4 A5 c3 c4 c5 _ _ _ _ _ _ x2 x3 x4 x9 X2 X3 X4 X9 _ _ _ b1 o1 c w lb1 y0 y1 y2 y3 y4 y5 y6 y7 y8 y9 _ (Lib.hid (fun W b => vlist_any s its IHs (s.nodes[p]'hp).items hi.1 hi.2 W (HLW W b) _ A4 c c4 (RA W b) (R4 W b) (by omega))) _ (V.is_11 hp h)
 · obtain rfl : k = 12 := hne.trans h
   rw [h] at y0
   have hi : 0 ≤ (s.nodes[p]'hp).items ∧ (s.nodes[p]'hp).items < (s.nodes.length : Int) := hkid _ (by unfold Nd.kids; rw [if_neg (by omega), if_pos (.inr h)]; exact List.mem_singleton.2 rfl)
   exact vone_12 p _ hp n bt _ _ _ A3 A4 A5 c3 c4 c5 _ _ _ _ _ _ x2 x3 x4 x9 X2 X3 X4 X9 _ _ _ b1 o1 c w lb1 y0 y1 y2 y3 y4 y5 y6 y7 y8 y9 _ _ (Lib.hid (fun W b => vlist_any s its IHs (s.nodes[p]'hp).items hi.1 hi.2 W (HLW W b) _ A4 c c4 (RA W b) (R4 W b) (by omega))) (Lib.hid (fun W b => vkeyed_any 12 n bt bs.length its.length ks A3 A4 A5 c3 c4 c5 W (HLW W b) (by omega) (FlS.keep (Below.keeps b) (fun _ h => Nat.lt_of_lt_of_le h b.size) f5))) _ (V.is_12 hp h)
 · obtain rfl : k = 13 := hne.trans h
   rw [h] at y0
   have hb : ∀ i (g : i < (s.nodes[p]'hp).br.length), 0 ≤ (s.nodes[p]'hp).br[i]'g ∧ (s.nodes[p]'hp).br[i]'g < (s.nodes.length : Int) := fun i g => hkid _ (by unfold Nd.kids; rw [if_neg (by omega), if_neg (by omega), if_pos h]; exact List.getElem_mem g)
   have hk0 : 0 ≤ n → n < ((s.nodes[p]'hp).br.length : Int) → ∃ b9 o9, X9 = some ⟨b9, o9, none⟩ ∧ b9 < w.heap.size ∧ w.cell? ⟨b9, o9 + n.toNat, none⟩ = some (.int .i64 ((s.nodes[p]'hp).br.getD n.toNat 0)) := fun q0 q1 => by
    obtain ⟨b9, o9, e, hg, hc⟩ := ints_at row9 (i := n.toNat) (by omega)
    exact ⟨b9, o9, e, hg, by rw [hc, List.getD_eq_getElem?_getD, List.getElem?_eq_getElem (by omega)]; rfl⟩
   by_cases l1 : its.length = 1
   · have h0 : 0 < its.length := by omega
     obtain ⟨b4, o4, Y3, z3, Y4, z4, Y5, z5, e4, lb4, ⟨u0, u1, u2, u3, u4, u5⟩, ty⟩ := values_at r4 h0
     rw [Nat.zero_mul, Nat.add_zero] at u0 u1 u2 u3 u4 u5
     exact vone_13 p _ hp n bt _ _ _ A3 A4 A5 c3 c4 c5 _ _ _ _ _ _ x2 x3 x4 x9 X2 X3 X4 X9 _ _ _ b1 o1 c w lb1 y0 y1 y2 y3 y4 y5 y6 y7 y8 y9 _ hk0 b4 o4 _ _ _ _ _ _ (fun _ => ⟨e4, lb4, u0, u1, u2, u3, u4, u5⟩) (∃ h : 0 < its.length, V.is s (its[0]'h) ((s.nodes[p]'hp).br.getD n.toNat 0)) (Lib.hid (fun q0 q1 _ W b => by
      have hr := hb n.toNat (by omega)
      have ge : (s.nodes[p]'hp).br.getD n.toNat 0 = (s.nodes[p]'hp).br[n.toNat]'(by omega) := by rw [List.getD_eq_getElem?_getD, List.getElem?_eq_getElem (by omega)]; rfl
      rw [← ge] at hr
      exact (IHs 0 h0 _ hr.1 hr.2 W _ Y3 Y4 Y5 c z3 z4 z5 (HLW W b) (RA W b) ((ty.below b).more b.size)).mono fun _ _ g => g.iff ⟨fun k => ⟨h0, k⟩, fun k => k.2⟩)) _ (V.is_13 hp h)
   · exact vone_13 p _ hp n bt _ _ _ A3 A4 A5 c3 c4 c5 _ _ _ _ _ _ x2 x3 x4 x9 X2 X3 X4 X9 _ _ _ b1 o1 c w lb1 y0 y1 y2 y3 y4 y5 y6 y7 y8 y9 _ hk0 0 0 undef undef undef undef undef undef (fun e => absurd e l1) (∃ h : 0 < its.length, V.is s (its[0]'h) ((s.nodes[p]'hp).br.getD n.toNat 0)) (Lib.hid (fun _ _ e => absurd e l1)) _ (V.is_13 hp h)
 · obtain rfl : k = 14 := hne.trans h
   rw [h] at y0
   have I := V.is_leaf hp (n := n) (bt := bt) (bs := bs) (its := its) (ks := ks) hs14 h.symm (by omega)
   exact vone_14 p _ hp n bt _ _ _ A3 A4 A5 c3 c4 c5 _ _ _ _ _ _ x2 x3 x4 x9 X2 X3 X4 X9 _ _ _ b1 o1 c w lb1 y0 y1 y2 y3 y4 y5 y6 y7 y8 y9 _ (by rw [I]; simp)
theorem vone_at (s : Sc) (hs : s.right) : ∀ (N : Nat) (t : V), SizeOf.sizeOf t ≤ N → t.wt ≤ 1000000 → OneC s t
 | 0, t, h, _ => by cases t; simp at h
 | N + 1, .mk k n bt bs its ks, hN, hw => vone_step s hs k n bt bs its ks hw fun i h => vone_at s hs N (its[i]'h) (by have := V.lt_its (v := .mk k n bt bs its ks) (i := i) h; simp only [V.its] at this; omega) (by have := vwts_at h; unfold V.wt at hw; omega)
theorem vone_any (s : Sc) (hs : s.right) (t : V) (hw : t.wt ≤ 1000000) : OneC s t := vone_at s hs _ t (Nat.le_refl _) hw
def Sc.conf (s : Sc) (t : V) (a : Int) : Prop := s.right ∧ V.is s t a
theorem V.is_in {s : Sc} {t : V} {a : Int} (h : V.is s t a) : 0 ≤ a ∧ a < (s.nodes.length : Int) := by cases t; unfold V.is at h; exact ⟨h.1, h.2.1⟩
theorem vConforms_any (s : Sc) (hs : s.sm) (t : V) (hw : t.wt ≤ 1000000) (a : Int) (w : World) (hL0 : LaidN w) (A A3 A4 A5 : Option Addr) (c c3 c4 c5 : Nat) (h : Lies w (· < w.heap.size) s.enc [.slice A s.nodes.length c, .int .i64 s.root]) (ht : Lies w (· < w.heap.size) t.enc [.int .i64 t.k, .int .i64 t.n, .int .u64 t.bt, .slice A3 t.bs.length c3, .slice A4 t.its.length c4, .slice A5 t.ks.length c5]) :
 Calls Tryz.prog 6 #[.agg #[.slice A s.nodes.length c, .int .i64 s.root], .int .i64 a, .agg #[.int .i64 t.k, .int .i64 t.n, .int .u64 t.bt, .slice A3 t.bs.length c3, .slice A4 t.its.length c4, .slice A5 t.ks.length c5]] w (Tells (s.conf t a) w) := by
 have CS := cell_set
 have SR := Lib.hid (fun W (b : Below w.heap.size w W) => sRightT_any s hs W (LaidN.below hL0 b) A c (h.on b))
 obtain ⟨_, _, e, la, ra⟩ := Sc.out.1 h
 simp only [List.cons.injEq, Value.slice.injEq, true_and, and_true] at e
 obtain ⟨rfl, rfl⟩ := e
 have ON := Lib.hid (fun (r : s.right) (q0 : 0 ≤ a) (q1 : a < (s.nodes.length : Int)) W (b : Below w.heap.size w W) => vone_any s r t hw a q0 q1 W A A3 A4 A5 c c3 c4 c5 (LaidN.below hL0 b) ((ra.below b).more b.size) (ht.on b))
 obtain ⟨Q, hQ⟩ : ∃ Q : Prop, Q = s.conf t a := ⟨_, rfl⟩
 have HQ : Hid (Q ↔ s.right ∧ V.is s t a) := by show _ ↔ _; rw [hQ]; exact Iff.rfl
 rw [← hQ]
 obtain ⟨nn, hnn⟩ : ∃ m, m = s.nodes.length := ⟨_, rfl⟩
 have AM := Lib.hid (among_pure a (nn : Int))
 have H0 := Lib.hid (B2.alloc (B2.newat (w := w) (t := 24) (x0 := .slice A nn c) (x1 := .int .i64 s.root) rfl) (.cells #[.int .i64 t.k, .int .i64 t.n, .int .u64 t.bt, .slice A3 t.bs.length c3, .slice A4 t.its.length c4, .slice A5 t.ks.length c5] 30))
 have N0 := Lib.hid (B6.newat (w := w.alloc (.cells #[.slice A nn c, .int .i64 s.root] 24)) (g := w.heap.size + 1) (t := 30) (x0 := .int .i64 t.k) (x1 := .int .i64 t.n) (x2 := .int .u64 t.bt) (x3 := .slice A3 t.bs.length c3) (x4 := .slice A4 t.its.length c4) (x5 := .slice A5 t.ks.length c5) (by simp))
 have W0 : Hid (Below w.heap.size w ((w.alloc (.cells #[.slice A nn c, .int .i64 s.root] 24)).alloc (.cells #[.int .i64 t.k, .int .i64 t.n, .int .u64 t.bt, .slice A3 t.bs.length c3, .slice A4 t.its.length c4, .slice A5 t.ks.length c5] 30))) := (((Below.refl _ _).alloc (Nat.le_refl _) _).alloc (by simp) _)
 have Z0 : Hid (((w.alloc (.cells #[.slice A nn c, .int .i64 s.root] 24)).alloc (.cells #[.int .i64 t.k, .int .i64 t.n, .int .u64 t.bt, .slice A3 t.bs.length c3, .slice A4 t.its.length c4, .slice A5 t.ks.length c5] 30)).heap.size = w.heap.size + 2) := by show _ = _; simp
 have HNN := Lib.hid hnn
 rw [← hnn] at SR ON ⊢
 generalize s.root = rt at *
 clear h la ra ht hQ hL0 hw hnn
 go_enter Tryz.func6, Tryz.ntmps6
 go_wp2_with fail
 with_reducible refine (SR.out _ W0.out).mono ?_
 rintro e w2 ⟨b, rfl, hbb, b2⟩
 rw [Z0.out] at b2
 have z2 := b2.size
 rw [Z0.out] at z2
 have bw2 : Below w.heap.size w w2 := W0.out.trans (b2.mono (Nat.le_add_right _ _))
 have h2 := Lib.hid (B2.below H0.out b2 (by omega))
 have n2 := Lib.hid (B6.below N0.out b2 (by omega))
 obtain ⟨_, _, _, _⟩ := B2.facts h2.out
 obtain ⟨_, _, _, _, _, _, _, _, _, _, _, _⟩ := B6.facts n2.out
 have HB := Lib.hid hbb
 clear hbb H0 N0 W0 Z0 b2 SR
 cases b with
 | false =>
  have Z : Hid (¬ Q) := fun r => by have := HB.out.2 (HQ.out.1 r).1; simp at this
  go_wp2_with fail
  go_ret
  exact tells_no rfl Z.out bw2
 | true =>
  have HR := Lib.hid (HB.out.1 (by first | rfl | trivial))
  clear HB
  by_cases ha : 0 ≤ a ∧ a < (nn : Int)
  rotate_left
  · rw [show decide (0 ≤ a ∧ a < (nn : Int)) = false by simpa using ha] at AM
    have Z : Hid (¬ Q) := fun r => ha (by rw [HNN.out]; exact V.is_in (HQ.out.1 r).2)
    clear ha ON
    go_wp2_with fail
    with_reducible refine (AM.out _).mono ?_
    rintro e w3 ⟨rfl, rfl⟩
    go_wp2_with fail
    go_ret
    exact tells_no rfl Z.out bw2
  rw [show decide (0 ≤ a ∧ a < (nn : Int)) = true by simpa using ha] at AM
  have ONE := Lib.hid (ON.out HR.out ha.1 ha.2)
  clear ha ON
  go_wp2_with fail
  with_reducible refine (AM.out _).mono ?_
  rintro e w3 ⟨rfl, rfl⟩
  go_wp2_with fail
  with_reducible refine (ONE.out _ bw2).mono ?_
  rintro e w4 ⟨b, rfl, hbb, b4⟩
  have Z : Hid (b = true ↔ Q) := hbb.trans ⟨fun k => HQ.out.2 ⟨HR.out, k⟩, fun r => (HQ.out.1 r).2⟩
  have bw4 : Below w.heap.size w w4 := bw2.trans (b4.mono bw2.size)
  clear hbb
  go_wp2_with fail
  go_ret
  exact ⟨b, rfl, Z.out, bw4⟩
theorem V.deep_bound {v : V} {M : Nat} (hM : 1 ≤ M) (h : ∀ i (g : i < v.its.length), (v.its[i]'g).deep + 1 ≤ M) : v.deep ≤ M := by
 by_cases hk : deepK v.k
 · rw [V.deep_in hk]
   have key : ∀ l : List V, (∀ i (g : i < l.length), (l[i]'g).deep + 1 ≤ M) → V.deeps l + 1 ≤ M := by
    intro l
    induction l with
    | nil => intro _; unfold V.deeps; omega
    | cons x r ih =>
     intro h
     unfold V.deeps
     have h0 := h 0 (by simp)
     have hr := ih fun i hi => by have := h (i + 1) (by simpa using hi); simpa using this
     simp at h0
     omega
   exact key _ h
 · rw [V.deep_out hk]; omega
def VBul (t : V) (D : Nat) (w : World) (e : Ending) (w' : World) : Prop := ∃ n : Nat, e = .returned (.int .i64 (n : Int)) ∧ n ≤ 5001 + 2500 * (81 - D) ∧ (n ≤ 2500 → t.deep + D ≤ 81 ∧ t.wt = n) ∧ Below w.heap.size w w'
theorem vbul_ret {t : V} {D n : Nat} {z : Int} {w w' : World} (hz : z = (n : Int)) (h : n ≤ 5001 + 2500 * (81 - D)) (hd : n ≤ 2500 → t.deep + D ≤ 81 ∧ t.wt = n) (hb : Below w.heap.size w w') : VBul t D w (.returned (.int .i64 z)) w' := by subst hz; exact ⟨n, rfl, h, hd, hb⟩
theorem vbulk_at : ∀ (N : Nat) (t : V), SizeOf.sizeOf t ≤ N → ∀ (D : Nat) (w : World) (A2 A3 A4 : Option Addr) (c2 c3 c4 : Nat), D ≤ 81 →
 Lies w (· < w.heap.size) t.enc [.int .i64 t.k, .int .i64 t.n, .int .u64 t.bt, .slice A2 t.bs.length c2, .slice A3 t.its.length c3, .slice A4 t.ks.length c4] →
 Calls Tryz.prog 10 #[.agg #[.int .i64 t.k, .int .i64 t.n, .int .u64 t.bt, .slice A2 t.bs.length c2, .slice A3 t.its.length c3, .slice A4 t.ks.length c4], .int .i64 2500, .int .i64 (D : Int)] w (VBul t D w)
 | 0, t, h => by cases t; simp at h
 | N + 1, .mk k n bt bs its ks, hN => by
  intro D w A2 A3 A4 c2 c3 c4 hD ht
  have CS := cell_set
  obtain ⟨_, _, _, _, _, _, e, hc2, r2, hc3, rt, hc4, ft⟩ := V.out.1 ht
  simp only [V.k, V.n, V.bt, V.bs, V.its, V.ks, List.cons.injEq, Value.slice.injEq, true_and, and_true] at e hc2 r2 hc3 hc4 rt ft
  obtain ⟨⟨rfl, rfl⟩, ⟨rfl, rfl⟩, rfl, rfl⟩ := e
  obtain ⟨nb, hnb⟩ : ∃ m, m = bs.length := ⟨_, rfl⟩
  have db : ∀ M, 1 ≤ M → (∀ i (g : i < its.length), (its[i]'g).deep + 1 ≤ M) → (V.mk k n bt bs its ks).deep ≤ M := fun M hM h => V.deep_bound (v := .mk k n bt bs its ks) hM h
  have wt : (V.mk k n bt bs its ks).wt = 1 + nb + kwt ks + V.wts its := by unfold V.wt; rw [hnb]
  have KT := Lib.hid (fun i (h : i < ks.length) => kwt_take h)
  have WT := Lib.hid (fun i (h : i < its.length) => V.wts_take h)
  have KA : Hid (kwt (ks.take ks.length) = kwt ks) := by show _ = _; rw [List.take_length]
  have WA : Hid (V.wts (its.take its.length) = V.wts its) := by show _ = _; rw [List.take_length]
  obtain ⟨KW, hKW⟩ : ∃ f : Nat → Nat, f = fun i => kwt (ks.take i) := ⟨_, rfl⟩
  obtain ⟨JW, hJW⟩ : ∃ f : Nat → Nat, f = fun i => V.wts (its.take i) := ⟨_, rfl⟩
  have KT' : Hid (∀ i (h : i < ks.length), KW (i + 1) = KW i + 1 + (ks[i]'h).size) := fun i h => by rw [hKW]; exact KT.out i h
  have WT' : Hid (∀ i (h : i < its.length), JW (i + 1) = JW i + (its[i]'h).wt) := fun i h => by rw [hJW]; exact WT.out i h
  have K0 : Hid (KW 0 = 0) := by show _ = _; rw [hKW]; rfl
  have J0 : Hid (JW 0 = 0) := by show _ = _; rw [hJW]; rfl
  have KA' : Hid (KW ks.length = kwt ks) := by show _ = _; rw [hKW]; exact KA.out
  have WA' : Hid (JW its.length = V.wts its) := by show _ = _; rw [hJW]; exact WA.out
  clear KT WT KA WA hKW hJW
  obtain ⟨T, hT⟩ : ∃ T, T = V.mk k n bt bs its ks := ⟨_, rfl⟩
  rw [← hT] at wt
  have WT0 := Lib.hid wt
  clear wt
  simp only [V.k, V.n, V.bt, V.bs, V.its, V.ks]
  rw [← hnb]
  rw [← hT] at db ⊢
  have IH : Hid (∀ (i : Nat) (h1 : i < its.length) (W : World) (A2 A3 A4 : Option Addr) (c2 c3 c4 : Nat), D + 1 ≤ 81 →
   Lies W (· < W.heap.size) (its[i]'h1).enc [.int .i64 (its[i]'h1).k, .int .i64 (its[i]'h1).n, .int .u64 (its[i]'h1).bt, .slice A2 (its[i]'h1).bs.length c2, .slice A3 (its[i]'h1).its.length c3, .slice A4 (its[i]'h1).ks.length c4] →
   Calls Tryz.prog 10 #[.agg #[.int .i64 (its[i]'h1).k, .int .i64 (its[i]'h1).n, .int .u64 (its[i]'h1).bt, .slice A2 (its[i]'h1).bs.length c2, .slice A3 (its[i]'h1).its.length c3, .slice A4 (its[i]'h1).ks.length c4], .int .i64 2500, .int .i64 ((D : Int) + 1)] W (VBul (its[i]'h1) (D + 1) W)) := fun i h1 W A2 A3 A4 c2 c3 c4 hd a =>
   vbulk_at N (its[i]'h1) (by have := V.lt_its (v := .mk k n bt bs its ks) (i := i) h1; simp only [V.its] at this; omega) (D + 1) W A2 A3 A4 c2 c3 c4 hd a
  have RT := Lib.hid rt; have FT := Lib.hid ft; have DB := Lib.hid db
  have hb4 := hc4.2
  have hb3 := hc3.2
  unfold maxLen at hb4 hb3
  obtain ⟨ni, hni⟩ : ∃ m, m = its.length := ⟨_, rfl⟩
  obtain ⟨nk, hnk⟩ : ∃ m, m = ks.length := ⟨_, rfl⟩
  have HNI := Lib.hid hni; have HNK := Lib.hid hnk
  rw [← hni] at hb3 ⊢
  rw [← hnk] at hb4 ⊢
  have hb2 := hc2.2
  rw [← hnb] at hb2
  unfold maxLen at hb2
  clear ht r2 rt ft hN db hc2 hc3 hc4 hni hnk hnb hT
  rw [← HNI.out] at WA'
  rw [← HNK.out] at KA'
  by_cases g1 : (80 : Int) < (D : Int)
  · go_enter Tryz.func10, Tryz.ntmps10
    go_wp2_with fail
    go_ret
    exact vbul_ret (n := 2501) (by rfl) (by omega) (fun h => by omega) bqq
  · by_cases g2 : (2500 : Int) < (nb : Int)
    · go_enter Tryz.func10, Tryz.ntmps10
      go_wp2_with fail
      go_ret
      exact vbul_ret (n := 2501) (by rfl) (by omega) (fun h => by omega) bqq
    · by_cases g3 : (2500 : Int) < (ni : Int)
      · go_enter Tryz.func10, Tryz.ntmps10
        go_wp2_with fail
        go_ret
        exact vbul_ret (n := 2501) (by rfl) (by omega) (fun h => by omega) bqq
      · by_cases g4 : (2500 : Int) < (nk : Int)
        · go_enter Tryz.func10, Tryz.ntmps10
          go_wp2_with fail
          go_ret
          exact vbul_ret (n := 2501) (by rfl) (by omega) (fun h => by omega) bqq
        · have hD2 : D ≤ 80 := by omega
          have G0 : Below w.heap.size w (w.alloc (.cells #[.int .i64 k, .int .i64 n, .int .u64 bt, .slice A2 nb c2, .slice A3 ni c3, .slice A4 nk c4] 30)) := (Below.refl _ _).alloc (Nat.le_refl _) _
          have gz0 : (w.alloc (.cells #[.int .i64 k, .int .i64 n, .int .u64 bt, .slice A2 nb c2, .slice A3 ni c3, .slice A4 nk c4] 30)).heap.size = w.heap.size + 1 := by simp
          have GZ0 := Lib.hid gz0
          clear gz0
          go_enter Tryz.func10, Tryz.ntmps10
          go_wp2_with fail
          go_loopw [7, 8] (fun m t wr => ∃ i v : Nat, i ≤ nk ∧ v ≤ 5001 ∧ Hid (v = 1 + nb + KW i) ∧ t = .int .i64 (i : Int) ∧ m = .int .i64 (v : Int) ∧ wr = (w.alloc (.cells #[.int .i64 k, .int .i64 n, .int .u64 bt, .slice A2 nb c2, .slice A3 ni c3, .slice A4 nk c4] 30))) (fun _ t _ => nk - (intOf t).toNat)
          case atStart => exact ⟨0, 1 + nb, Nat.zero_le _, by omega, (by show _ = _; rw [K0.out, Nat.add_zero]), rfl, by push_cast; rfl, by first | rfl | trivial⟩
          case round =>
           obtain ⟨i, v, hik, hv, HVV, rfl, rfl, rfl⟩ := hrel
           by_cases h1 : i < nk ∧ v ≤ 2500
           · obtain ⟨h1, h2⟩ := h1
             have h1' : i < ks.length := by rw [← HNK.out]; exact h1
             obtain ⟨b8, o8, e8, hb8, z0⟩ := fl_str FT.out h1'
             have q2 : (v : Int) ≤ 2500 := by omega
             have HV2 : Hid (v + 1 + (ks[i]'h1').size = 1 + nb + KW (i + 1)) := by
              show _ = _
              have := HVV.out; have := KT'.out i h1'; omega
             clear HVV
             generalize ks[i]'h1' = Y at *
             subst e8
             have lb8 : b8 < w.heap.size := hb8
             by_cases hy : (2500 : Int) < (Y.size : Int)
             · go_wp2_with fail
               go_ret
               exact vbul_ret (n := 2501) (by rfl) (by omega) (fun h => by omega) bqq
             · go_wp2_with fail
               go_roundw
               case rel => exact ⟨i + 1, v + 1 + Y.size, by omega, by omega, HV2, by go_num, by push_cast; rfl, by first | rfl | trivial⟩
               case measure => simp [intOf]; omega
           · have h2 : ¬ (i : Int) < (nk : Int) ∨ (i : Int) < (nk : Int) ∧ ¬ (v : Int) ≤ 2500 := by omega
             have HV3 : Hid (v ≤ 2500 → v = 1 + nb + kwt ks) := fun hv2 => by
              have e : i = nk := by omega
              have := HVV.out; have := KA'.out
              rw [e] at *; omega
             clear h1 HVV
             rcases h2 with h2 | ⟨h2, h3⟩
             all_goals
              go_wp2_with fail
              go_loopw [7, 9] (fun m t wr => ∃ p u : Nat, p ≤ ni ∧ u ≤ 5001 + 2500 * (81 - D) ∧ t = .int .i64 (p : Int) ∧ m = .int .i64 (u : Int) ∧ Hid (∀ j (h : j < its.length), j < p → u ≤ 2500 → (its[j]'h).deep + D + 1 ≤ 81) ∧ Hid (u ≤ 2500 → u = 1 + nb + kwt ks + JW p) ∧ Below (w.heap.size + 1) (w.alloc (.cells #[.int .i64 k, .int .i64 n, .int .u64 bt, .slice A2 nb c2, .slice A3 ni c3, .slice A4 nk c4] 30)) wr) (fun _ t _ => ni - (intOf t).toNat)
              case atStart => exact ⟨0, v, Nat.zero_le _, by omega, rfl, rfl, fun _ _ h => absurd h (Nat.not_lt_zero _), (fun h => by have := HV3.out h; have := J0.out; omega), Below.refl _ _⟩
              case round =>
               obtain ⟨p, u, hp, hu, rfl, rfl, HE, HU, bl⟩ := hrel
               have gsz := bl.size
               rw [GZ0.out] at gsz
               have gsz2 : w.heap.size ≤ wr.heap.size := by omega
               have blw := G0.trans (bl.mono (by omega))
               have hOwn := Nat.lt_of_lt_of_le (n := w.heap.size) sdd (Below.size bl)
               have hOwn1 := Nat.ne_of_gt hOwn
               have hOwn2 := Nat.ne_of_lt hOwn
               have hOwn := ocl bl w.heap.size 0
               have hOwn := ocl bl w.heap.size 1
               have hOwn := ocl bl w.heap.size 2
               have hOwn := ocl bl w.heap.size 3
               have hOwn := ocl bl w.heap.size 4
               have hOwn := ocl bl w.heap.size 5
               have hOwn := ofr bl w.heap.size 0
               have hOwn := ofr bl w.heap.size 1
               have hOwn := ofr bl w.heap.size 2
               have hOwn := ofr bl w.heap.size 3
               have hOwn := ofr bl w.heap.size 4
               have hOwn := ofr bl w.heap.size 5
               by_cases h4 : p < ni ∧ u ≤ 2500
               · obtain ⟨h4, h5⟩ := h4
                 have h1' : p < its.length := by rw [← HNI.out]; exact h4
                 obtain ⟨b1, o1, X2, x2, X3, x3, X4, x4, e1, hb1, ⟨y0, y1, y2, y3, y4, y5⟩, ty⟩ := values_at (RT.out.below blw) h1'
                 have I2 := Lib.hid (fun W a => IH.out p h1' W X2 X3 X4 x2 x3 x4 (by omega) a)
                 have he := HE.out
                 have q5 : (u : Int) ≤ 2500 := by omega
                 have HE2 : Hid (∀ n', (n' ≤ 2500 → (its[p]'h1').deep + (D + 1) ≤ 81) → ∀ j (h : j < its.length), j < p + 1 → u + n' ≤ 2500 → (its[j]'h).deep + D + 1 ≤ 81) := fun n' hn j h hj hs => by
                  rcases Nat.lt_or_ge j p with g | g
                  · exact he j h g (by omega)
                  · obtain rfl : j = p := by omega
                    have := hn (by omega); omega
                 have HU2 : Hid (∀ n', (n' ≤ 2500 → (its[p]'h1').wt = n') → u + n' ≤ 2500 → u + n' = 1 + nb + kwt ks + JW (p + 1)) := fun n' hn hs => by
                  have := HU.out h5; have := WT'.out p h1'; have := hn (by omega); omega
                 clear HU
                 generalize its[p]'h1' = T' at *
                 subst e1
                 have TY := Lib.hid (ty.more gsz2)
                 clear ty h1' he
                 go_wp2_with fail
                 with_reducible refine (I2.out _ TY.out).mono ?_
                 rintro e w3 ⟨n', rfl, hn1, hn2, b3⟩
                 have HN2 := Lib.hid (HE2.out n' (fun h => (hn2 h).1))
                 have HN3 := Lib.hid (HU2.out n' (fun h => (hn2 h).2))
                 clear hn2
                 go_wp2_with fail
                 go_roundw
                 case rel => exact ⟨p + 1, u + n', by omega, by omega, by go_num, by push_cast; rfl, HN2, HN3, bl.trans (b3.mono gsz)⟩
                 case measure => simp [intOf]; omega
               · have h5 : ¬ (p : Int) < (ni : Int) ∨ (p : Int) < (ni : Int) ∧ ¬ (u : Int) ≤ 2500 := by omega
                 have fin : u ≤ 2500 → T.deep + D ≤ 81 ∧ T.wt = u := fun hu2 => by
                  have e := HU.out hu2
                  have wt := WT0.out
                  have pe : p = ni := by omega
                  have wa := WA'.out
                  rw [pe] at e
                  refine ⟨?_, by omega⟩
                  have := DB.out (81 - D) (by omega) (fun i g => by have := HE.out i g (by rw [← HNI.out] at g; omega) hu2; omega)
                  omega
                 have FIN := Lib.hid fin
                 clear fin h4 HE HU
                 rcases h5 with h5 | ⟨h5, h6⟩
                 all_goals
                  go_wp2_with fail
                  go_ret
                  exact vbul_ret (n := u) (by rfl) hu FIN.out bqq
theorem vbulk_any (t : V) (D : Nat) (w : World) (A2 A3 A4 : Option Addr) (c2 c3 c4 : Nat) (hD : D ≤ 81) (ht : Lies w (· < w.heap.size) t.enc [.int .i64 t.k, .int .i64 t.n, .int .u64 t.bt, .slice A2 t.bs.length c2, .slice A3 t.its.length c3, .slice A4 t.ks.length c4]) :
 Calls Tryz.prog 10 #[.agg #[.int .i64 t.k, .int .i64 t.n, .int .u64 t.bt, .slice A2 t.bs.length c2, .slice A3 t.its.length c3, .slice A4 t.ks.length c4], .int .i64 2500, .int .i64 (D : Int)] w (VBul t D w) := vbulk_at _ t (Nat.le_refl _) D w A2 A3 A4 c2 c3 c4 hD ht
theorem leaf_lies {w : World} {S : Nat → Prop} (k n bt : Int) : Lies w S (V.mk k n bt [] [] []).enc [.int .i64 k, .int .i64 n, .int .u64 bt, .slice none 0 0, .slice none 0 0, .slice none 0 0] :=
 V.out.2 ⟨none, 0, none, 0, none, 0, rfl, ⟨Nat.le_refl _, Nat.zero_le _⟩, RowD.nil_ _ _ _ _, ⟨Nat.le_refl _, Nat.zero_le _⟩, RowD.nil_ _ _ _ _, ⟨Nat.le_refl _, Nat.zero_le _⟩, .inl rfl⟩
theorem row_two {w : World} {S : Nat → Prop} {s g : Nat} {a b : D} {c d : List Value} (hg : S g) (hc : c.length = s) (hd : d.length = s) (h1 : ∀ j, j < s → w.cell? ⟨g, j, none⟩ = c[j]?) (h2 : ∀ j, j < s → w.cell? ⟨g, s + j, none⟩ = d[j]?) (l1 : Lies w S a c) (l2 : Lies w S b d) : RowD w S s [a, b] (some ⟨g, 0, none⟩) := by
 unfold RowD
 refine ⟨g, 0, c, rfl, hg, hc, fun j hj => by rw [Nat.zero_add]; exact h1 j hj, l1, ?_⟩
 unfold RowD
 refine ⟨g, 0 + s, d, rfl, hg, hd, fun j hj => by rw [Nat.zero_add]; exact h2 j hj, l2, RowD.nil_ _ _ _ _⟩
def ex11W (w : World) : World := lays w [.cells #[.int .i64 11, .string ⟨#[]⟩, .slice none 0 0, .slice none 0 0, .slice none 0 0, .bool false, .string ⟨#[]⟩, .int .i64 0, .int .i64 1, .slice none 0 0, .int .i64 3, .string ⟨#[]⟩, .slice none 0 0, .slice none 0 0, .slice none 0 0, .bool false, .string ⟨#[]⟩, .int .i64 0, .int .i64 0, .slice none 0 0] 42, .cells #[.slice (some ⟨w.heap.size, 0, none⟩) 2 2, .int .i64 0] 24, .cells #[.int .i64 3, .int .i64 1, .int .u64 0, .slice none 0 0, .slice none 0 0, .slice none 0 0] 30, .cells #[.int .i64 4, .int .i64 1, .int .u64 0, .slice none 0 0, .slice none 0 0, .slice none 0 0] 30, .cells #[.int .i64 3, .int .i64 1, .int .u64 0, .slice none 0 0, .slice none 0 0, .slice none 0 0, .int .i64 3, .int .i64 1, .int .u64 0, .slice none 0 0, .slice none 0 0, .slice none 0 0] 30, .cells #[.int .i64 11, .int .i64 0, .int .u64 0, .slice none 0 0, .slice (some ⟨w.heap.size + 1 + 1 + 1 + 1, 0, none⟩) 2 2, .slice none 0 0] 30, .cells #[.int .i64 3, .int .i64 1, .int .u64 0, .slice none 0 0, .slice none 0 0, .slice none 0 0, .int .i64 4, .int .i64 1, .int .u64 0, .slice none 0 0, .slice none 0 0, .slice none 0 0] 30, .cells #[.int .i64 11, .int .i64 0, .int .u64 0, .slice none 0 0, .slice (some ⟨w.heap.size + 1 + 1 + 1 + 1 + 1 + 1, 0, none⟩) 2 2, .slice none 0 0] 30]
theorem ex11W_size (w : World) : (ex11W w).heap.size = w.heap.size + 8 := lays_size _ w
def Ex11S (w u : World) : Prop := u.cell? ⟨w.heap.size + 1, 0, none⟩ = some (.slice (some ⟨w.heap.size, 0, none⟩) 2 2) ∧ u.cell? ⟨w.heap.size + 1, 1, none⟩ = some (.int .i64 0) ∧ u.cell? ⟨w.heap.size + 1 + 1 + 1 + 1 + 1, 0, none⟩ = some (.int .i64 11) ∧ u.cell? ⟨w.heap.size + 1 + 1 + 1 + 1 + 1, 1, none⟩ = some (.int .i64 0) ∧ u.cell? ⟨w.heap.size + 1 + 1 + 1 + 1 + 1, 2, none⟩ = some (.int .u64 0) ∧ u.cell? ⟨w.heap.size + 1 + 1 + 1 + 1 + 1, 3, none⟩ = some (.slice none 0 0) ∧ u.cell? ⟨w.heap.size + 1 + 1 + 1 + 1 + 1, 4, none⟩ = some (.slice (some ⟨w.heap.size + 1 + 1 + 1 + 1, 0, none⟩) 2 2) ∧ u.cell? ⟨w.heap.size + 1 + 1 + 1 + 1 + 1, 5, none⟩ = some (.slice none 0 0) ∧ u.cell? ⟨w.heap.size + 1 + 1 + 1 + 1 + 1 + 1 + 1, 0, none⟩ = some (.int .i64 11) ∧ u.cell? ⟨w.heap.size + 1 + 1 + 1 + 1 + 1 + 1 + 1, 1, none⟩ = some (.int .i64 0) ∧ u.cell? ⟨w.heap.size + 1 + 1 + 1 + 1 + 1 + 1 + 1, 2, none⟩ = some (.int .u64 0) ∧ u.cell? ⟨w.heap.size + 1 + 1 + 1 + 1 + 1 + 1 + 1, 3, none⟩ = some (.slice none 0 0) ∧ u.cell? ⟨w.heap.size + 1 + 1 + 1 + 1 + 1 + 1 + 1, 4, none⟩ = some (.slice (some ⟨w.heap.size + 1 + 1 + 1 + 1 + 1 + 1, 0, none⟩) 2 2) ∧ u.cell? ⟨w.heap.size + 1 + 1 + 1 + 1 + 1 + 1 + 1, 5, none⟩ = some (.slice none 0 0)
theorem ex11W_cell (w : World) {i : Nat} (h : i < 8) (cs : Array Value) (t : TypeId) (e : [.cells #[.int .i64 11, .string ⟨#[]⟩, .slice none 0 0, .slice none 0 0, .slice none 0 0, .bool false, .string ⟨#[]⟩, .int .i64 0, .int .i64 1, .slice none 0 0, .int .i64 3, .string ⟨#[]⟩, .slice none 0 0, .slice none 0 0, .slice none 0 0, .bool false, .string ⟨#[]⟩, .int .i64 0, .int .i64 0, .slice none 0 0] 42, .cells #[.slice (some ⟨w.heap.size, 0, none⟩) 2 2, .int .i64 0] 24, .cells #[.int .i64 3, .int .i64 1, .int .u64 0, .slice none 0 0, .slice none 0 0, .slice none 0 0] 30, .cells #[.int .i64 4, .int .i64 1, .int .u64 0, .slice none 0 0, .slice none 0 0, .slice none 0 0] 30, .cells #[.int .i64 3, .int .i64 1, .int .u64 0, .slice none 0 0, .slice none 0 0, .slice none 0 0, .int .i64 3, .int .i64 1, .int .u64 0, .slice none 0 0, .slice none 0 0, .slice none 0 0] 30, .cells #[.int .i64 11, .int .i64 0, .int .u64 0, .slice none 0 0, .slice (some ⟨w.heap.size + 1 + 1 + 1 + 1, 0, none⟩) 2 2, .slice none 0 0] 30, .cells #[.int .i64 3, .int .i64 1, .int .u64 0, .slice none 0 0, .slice none 0 0, .slice none 0 0, .int .i64 4, .int .i64 1, .int .u64 0, .slice none 0 0, .slice none 0 0, .slice none 0 0] 30, .cells #[.int .i64 11, .int .i64 0, .int .u64 0, .slice none 0 0, .slice (some ⟨w.heap.size + 1 + 1 + 1 + 1 + 1 + 1, 0, none⟩) 2 2, .slice none 0 0] 30][i]'h = Obj.cells cs t (0, 0)) (j : Nat) : (ex11W w).cell? ⟨w.heap.size + i, j, none⟩ = cs[j]? := by
 refine cell_of_row _ _ _ _ t (0, 0) ?_
 have := lays_at [.cells #[.int .i64 11, .string ⟨#[]⟩, .slice none 0 0, .slice none 0 0, .slice none 0 0, .bool false, .string ⟨#[]⟩, .int .i64 0, .int .i64 1, .slice none 0 0, .int .i64 3, .string ⟨#[]⟩, .slice none 0 0, .slice none 0 0, .slice none 0 0, .bool false, .string ⟨#[]⟩, .int .i64 0, .int .i64 0, .slice none 0 0] 42, .cells #[.slice (some ⟨w.heap.size, 0, none⟩) 2 2, .int .i64 0] 24, .cells #[.int .i64 3, .int .i64 1, .int .u64 0, .slice none 0 0, .slice none 0 0, .slice none 0 0] 30, .cells #[.int .i64 4, .int .i64 1, .int .u64 0, .slice none 0 0, .slice none 0 0, .slice none 0 0] 30, .cells #[.int .i64 3, .int .i64 1, .int .u64 0, .slice none 0 0, .slice none 0 0, .slice none 0 0, .int .i64 3, .int .i64 1, .int .u64 0, .slice none 0 0, .slice none 0 0, .slice none 0 0] 30, .cells #[.int .i64 11, .int .i64 0, .int .u64 0, .slice none 0 0, .slice (some ⟨w.heap.size + 1 + 1 + 1 + 1, 0, none⟩) 2 2, .slice none 0 0] 30, .cells #[.int .i64 3, .int .i64 1, .int .u64 0, .slice none 0 0, .slice none 0 0, .slice none 0 0, .int .i64 4, .int .i64 1, .int .u64 0, .slice none 0 0, .slice none 0 0, .slice none 0 0] 30, .cells #[.int .i64 11, .int .i64 0, .int .u64 0, .slice none 0 0, .slice (some ⟨w.heap.size + 1 + 1 + 1 + 1 + 1 + 1, 0, none⟩) 2 2, .slice none 0 0] 30] w (i := i) h
 rw [e] at this
 exact this
theorem ex11S_of (w : World) {u : World} (b : Below (ex11W w).heap.size (ex11W w) u) : Ex11S w u := by
 have hS := ex11W_size w
 have key : ∀ (i : Nat) (h : i < 8) (cs : Array Value) (t : TypeId) (e : [.cells #[.int .i64 11, .string ⟨#[]⟩, .slice none 0 0, .slice none 0 0, .slice none 0 0, .bool false, .string ⟨#[]⟩, .int .i64 0, .int .i64 1, .slice none 0 0, .int .i64 3, .string ⟨#[]⟩, .slice none 0 0, .slice none 0 0, .slice none 0 0, .bool false, .string ⟨#[]⟩, .int .i64 0, .int .i64 0, .slice none 0 0] 42, .cells #[.slice (some ⟨w.heap.size, 0, none⟩) 2 2, .int .i64 0] 24, .cells #[.int .i64 3, .int .i64 1, .int .u64 0, .slice none 0 0, .slice none 0 0, .slice none 0 0] 30, .cells #[.int .i64 4, .int .i64 1, .int .u64 0, .slice none 0 0, .slice none 0 0, .slice none 0 0] 30, .cells #[.int .i64 3, .int .i64 1, .int .u64 0, .slice none 0 0, .slice none 0 0, .slice none 0 0, .int .i64 3, .int .i64 1, .int .u64 0, .slice none 0 0, .slice none 0 0, .slice none 0 0] 30, .cells #[.int .i64 11, .int .i64 0, .int .u64 0, .slice none 0 0, .slice (some ⟨w.heap.size + 1 + 1 + 1 + 1, 0, none⟩) 2 2, .slice none 0 0] 30, .cells #[.int .i64 3, .int .i64 1, .int .u64 0, .slice none 0 0, .slice none 0 0, .slice none 0 0, .int .i64 4, .int .i64 1, .int .u64 0, .slice none 0 0, .slice none 0 0, .slice none 0 0] 30, .cells #[.int .i64 11, .int .i64 0, .int .u64 0, .slice none 0 0, .slice (some ⟨w.heap.size + 1 + 1 + 1 + 1 + 1 + 1, 0, none⟩) 2 2, .slice none 0 0] 30][i]'h = Obj.cells cs t (0, 0)) (j : Nat), u.cell? ⟨w.heap.size + i, j, none⟩ = cs[j]? := fun i h cs t e j => (b.cell (p := ⟨w.heap.size + i, j, none⟩) (by rw [hS]; show _ + i < _ + 8; omega)).trans (ex11W_cell w h cs t e j)
 refine ⟨?_, ?_, ?_, ?_, ?_, ?_, ?_, ?_, ?_, ?_, ?_, ?_, ?_, ?_⟩
 · exact key 1 (by decide) _ _ rfl 0
 · exact key 1 (by decide) _ _ rfl 1
 · exact key 5 (by decide) _ _ rfl 0
 · exact key 5 (by decide) _ _ rfl 1
 · exact key 5 (by decide) _ _ rfl 2
 · exact key 5 (by decide) _ _ rfl 3
 · exact key 5 (by decide) _ _ rfl 4
 · exact key 5 (by decide) _ _ rfl 5
 · exact key 7 (by decide) _ _ rfl 0
 · exact key 7 (by decide) _ _ rfl 1
 · exact key 7 (by decide) _ _ rfl 2
 · exact key 7 (by decide) _ _ rfl 3
 · exact key 7 (by decide) _ _ rfl 4
 · exact key 7 (by decide) _ _ rfl 5
theorem ex11_lies (w : World) : Lies (ex11W w) (· < (ex11W w).heap.size) ex11.enc [.slice (some ⟨w.heap.size, 0, none⟩) 2 2, .int .i64 0] := by
 have hS := ex11W_size w
 have c0 := fun j => ex11W_cell w (i := 0) (by decide) _ _ rfl j
 refine Sc.out.2 ⟨_, 2, rfl, ⟨Nat.le_refl _, by unfold maxLen; decide⟩, ?_⟩
 have l1 : Lies (ex11W w) (· < (ex11W w).heap.size) nd11.enc [.int .i64 11, .string ⟨#[]⟩, .slice none 0 0, .slice none 0 0, .slice none 0 0, .bool false, .string ⟨#[]⟩, .int .i64 0, .int .i64 1, .slice none 0 0] :=
  Nd.out.2 ⟨none, 0, none, 0, none, 0, none, 0, rfl, ⟨Nat.le_refl _, Nat.zero_le _⟩, .inl rfl, ⟨Nat.le_refl _, Nat.zero_le _⟩, RowD.nil_ _ _ _ _, ⟨Nat.le_refl _, Nat.zero_le _⟩, .inl rfl, ⟨Nat.le_refl _, Nat.zero_le _⟩, RowD.nil_ _ _ _ _⟩
 refine row_two (by rw [hS]; omega) rfl rfl (fun j hj => ?_) (fun j hj => ?_) l1 z_lies
 · rw [show (⟨w.heap.size, j, none⟩ : Addr) = ⟨w.heap.size + 0, j, none⟩ from rfl, c0]
   obtain rfl | rfl | rfl | rfl | rfl | rfl | rfl | rfl | rfl | rfl : j = 0 ∨ j = 1 ∨ j = 2 ∨ j = 3 ∨ j = 4 ∨ j = 5 ∨ j = 6 ∨ j = 7 ∨ j = 8 ∨ j = 9 := by omega
   all_goals rfl
 · rw [show (⟨w.heap.size, 10 + j, none⟩ : Addr) = ⟨w.heap.size + 0, 10 + j, none⟩ from rfl, c0]
   obtain rfl | rfl | rfl | rfl | rfl | rfl | rfl | rfl | rfl | rfl : j = 0 ∨ j = 1 ∨ j = 2 ∨ j = 3 ∨ j = 4 ∨ j = 5 ∨ j = 6 ∨ j = 7 ∨ j = 8 ∨ j = 9 := by omega
   all_goals rfl
theorem v11_lies (w : World) : Lies (ex11W w) (· < (ex11W w).heap.size) v11.enc [.int .i64 11, .int .i64 0, .int .u64 0, .slice none 0 0, .slice (some ⟨w.heap.size + 1 + 1 + 1 + 1, 0, none⟩) 2 2, .slice none 0 0] := by
 have hS := ex11W_size w
 have c0 := fun j => ex11W_cell w (i := 4) (by decide) _ _ rfl j
 refine V.out.2 ⟨none, 0, _, 2, none, 0, rfl, ⟨Nat.le_refl _, Nat.zero_le _⟩, RowD.nil_ _ _ _ _, ⟨Nat.le_refl _, by unfold maxLen; decide⟩, ?_, ⟨Nat.le_refl _, Nat.zero_le _⟩, .inl rfl⟩
 refine row_two (by rw [hS]; show w.heap.size + 4 < _; omega) rfl rfl (fun j hj => ?_) (fun j hj => ?_) (leaf_lies 3 1 0) (leaf_lies 3 1 0)
 · rw [show (⟨w.heap.size + 1 + 1 + 1 + 1, j, none⟩ : Addr) = ⟨w.heap.size + 4, j, none⟩ from rfl, c0]
   obtain rfl | rfl | rfl | rfl | rfl | rfl : j = 0 ∨ j = 1 ∨ j = 2 ∨ j = 3 ∨ j = 4 ∨ j = 5 := by omega
   all_goals rfl
 · rw [show (⟨w.heap.size + 1 + 1 + 1 + 1, 6 + j, none⟩ : Addr) = ⟨w.heap.size + 4, 6 + j, none⟩ from rfl, c0]
   obtain rfl | rfl | rfl | rfl | rfl | rfl : j = 0 ∨ j = 1 ∨ j = 2 ∨ j = 3 ∨ j = 4 ∨ j = 5 := by omega
   all_goals rfl
theorem w11_lies (w : World) : Lies (ex11W w) (· < (ex11W w).heap.size) w11.enc [.int .i64 11, .int .i64 0, .int .u64 0, .slice none 0 0, .slice (some ⟨w.heap.size + 1 + 1 + 1 + 1 + 1 + 1, 0, none⟩) 2 2, .slice none 0 0] := by
 have hS := ex11W_size w
 have c0 := fun j => ex11W_cell w (i := 6) (by decide) _ _ rfl j
 refine V.out.2 ⟨none, 0, _, 2, none, 0, rfl, ⟨Nat.le_refl _, Nat.zero_le _⟩, RowD.nil_ _ _ _ _, ⟨Nat.le_refl _, by unfold maxLen; decide⟩, ?_, ⟨Nat.le_refl _, Nat.zero_le _⟩, .inl rfl⟩
 refine row_two (by rw [hS]; show w.heap.size + 6 < _; omega) rfl rfl (fun j hj => ?_) (fun j hj => ?_) (leaf_lies 3 1 0) (leaf_lies 4 1 0)
 · rw [show (⟨w.heap.size + 1 + 1 + 1 + 1 + 1 + 1, j, none⟩ : Addr) = ⟨w.heap.size + 6, j, none⟩ from rfl, c0]
   obtain rfl | rfl | rfl | rfl | rfl | rfl : j = 0 ∨ j = 1 ∨ j = 2 ∨ j = 3 ∨ j = 4 ∨ j = 5 := by omega
   all_goals rfl
 · rw [show (⟨w.heap.size + 1 + 1 + 1 + 1 + 1 + 1, 6 + j, none⟩ : Addr) = ⟨w.heap.size + 6, 6 + j, none⟩ from rfl, c0]
   obtain rfl | rfl | rfl | rfl | rfl | rfl : j = 0 ∨ j = 1 ∨ j = 2 ∨ j = 3 ∨ j = 4 ∨ j = 5 := by omega
   all_goals rfl
theorem works11_any (w : World) (hL : LaidN w) : Calls Tryz.prog 8 #[] w (Told true w) := by
 have CS := cell_set
 have eW : Hid (∀ W, W = ex11W w → Below w.heap.size w W ∧ LaidN W ∧ Lies W (· < W.heap.size) ex11.enc [.slice (some ⟨w.heap.size, 0, none⟩) 2 2, .int .i64 0] ∧ Lies W (· < W.heap.size) v11.enc [.int .i64 11, .int .i64 0, .int .u64 0, .slice none 0 0, .slice (some ⟨w.heap.size + 1 + 1 + 1 + 1, 0, none⟩) 2 2, .slice none 0 0] ∧ Lies W (· < W.heap.size) w11.enc [.int .i64 11, .int .i64 0, .int .u64 0, .slice none 0 0, .slice (some ⟨w.heap.size + 1 + 1 + 1 + 1 + 1 + 1, 0, none⟩) 2 2, .slice none 0 0] ∧ (∀ u, Below W.heap.size W u → Ex11S w u)) := fun W h => by
  subst h
  exact ⟨lays_below _ w, hL.below (lays_below _ w), ex11_lies w, v11_lies w, w11_lies w, fun u b => ex11S_of w b⟩
 go_enter Tryz.func8, Tryz.ntmps8
 go_wp2_with fail
 obtain ⟨W, hW⟩ : ∃ W, W = ex11W w := ⟨_, rfl⟩
 have HW := Lib.hid hW
 simp only [ex11W, lays] at hW
 rw [← hW]
 clear hW
 obtain ⟨b0, LW, ls, lv, lw, ST⟩ := eW.out W HW.out
 have CF1 : Hid (∀ U, Below W.heap.size W U → Calls Tryz.prog 6 #[.agg #[.slice (some ⟨w.heap.size, 0, none⟩) 2 2, .int .i64 0], .int .i64 0, .agg #[.int .i64 11, .int .i64 0, .int .u64 0, .slice none 0 0, .slice (some ⟨w.heap.size + 1 + 1 + 1 + 1, 0, none⟩) 2 2, .slice none 0 0]] U (fun e w' => e = .returned (.bool true) ∧ Below U.heap.size U w')) := fun U b =>
  (vConforms_any ex11 ex11_sm v11 (by decide) 0 U (LW.below b) _ none _ none 2 0 2 0 (ls.on b) (lv.on b)).mono fun _ _ ⟨x, h1, h2, h3⟩ => ⟨by rw [h1, h2.2 ⟨ex11_right, v11_is⟩], h3⟩
 have CF0 : Hid (∀ U, Below W.heap.size W U → Calls Tryz.prog 6 #[.agg #[.slice (some ⟨w.heap.size, 0, none⟩) 2 2, .int .i64 0], .int .i64 0, .agg #[.int .i64 11, .int .i64 0, .int .u64 0, .slice none 0 0, .slice (some ⟨w.heap.size + 1 + 1 + 1 + 1 + 1 + 1, 0, none⟩) 2 2, .slice none 0 0]] U (fun e w' => e = .returned (.bool false) ∧ Below U.heap.size U w')) := fun U b =>
  (vConforms_any ex11 ex11_sm w11 (by decide) 0 U (LW.below b) _ none _ none 2 0 2 0 (ls.on b) (lw.on b)).mono fun _ _ ⟨x, h1, h2, h3⟩ => ⟨by
   rw [h1]
   cases x with
   | false => rfl
   | true => exact absurd (h2.1 rfl).2 w11_not, h3⟩
 have CP : Hid (∀ U, Below W.heap.size W U → Calls Tryz.prog 17 #[.agg #[.int .i64 11, .int .i64 0, .int .u64 0, .slice none 0 0, .slice (some ⟨w.heap.size + 1 + 1 + 1 + 1, 0, none⟩) 2 2, .slice none 0 0]] U (fun e w' => ∃ B3 d3 B4 d4 B5 d5, e = .returned (.agg #[.int .i64 11, .int .i64 0, .int .u64 0, .slice B3 0 d3, .slice B4 2 d4, .slice B5 0 d5]) ∧ Lies w' (· < w'.heap.size) v11.enc [.int .i64 11, .int .i64 0, .int .u64 0, .slice B3 0 d3, .slice B4 2 d4, .slice B5 0 d5] ∧ Below U.heap.size U w')) := fun U b =>
  (copyV_any v11 U none _ none 0 2 0 (by decide) (lv.on b)).mono fun _ _ ⟨B3, d3, B4, d4, B5, d5, h1, ⟨S, h2, h3, _⟩, h4⟩ => ⟨B3, d3, B4, d4, B5, d5, h1, h3.keep (fun _ _ => rfl) fun k hk => (h2 k hk).2, h4⟩
 have SM : Hid (∀ U, Below W.heap.size W U → ∀ B3 d3 B4 d4 B5 d5, Lies U (· < U.heap.size) v11.enc [.int .i64 11, .int .i64 0, .int .u64 0, .slice B3 0 d3, .slice B4 2 d4, .slice B5 0 d5] → Calls Tryz.prog 16 #[.agg #[.int .i64 11, .int .i64 0, .int .u64 0, .slice none 0 0, .slice (some ⟨w.heap.size + 1 + 1 + 1 + 1, 0, none⟩) 2 2, .slice none 0 0], .agg #[.int .i64 11, .int .i64 0, .int .u64 0, .slice B3 0 d3, .slice B4 2 d4, .slice B5 0 d5]] U (Told true U)) := fun U b B3 d3 B4 d4 B5 d5 hb => by
  have := vSame_any v11 v11 U none _ none B3 B4 B5 0 2 0 d3 d4 d5 (lv.on b) hb
  rw [V.same_yes rfl] at this
  exact this
 have DP : Hid (∀ U, Below W.heap.size W U → Calls Tryz.prog 18 #[.agg #[.int .i64 11, .int .i64 0, .int .u64 0, .slice none 0 0, .slice (some ⟨w.heap.size + 1 + 1 + 1 + 1, 0, none⟩) 2 2, .slice none 0 0]] U (fun e w' => e = .returned (.int .i64 1) ∧ Below U.heap.size U w')) := fun U b =>
  vdeep_at _ v11 (Nat.le_refl _) (by decide) U none _ none 0 2 0 (lv.on b)
 unfold Told at SM
 have STH := Lib.hid ST
 clear ST ls lv lw eW
 have bW0 : Below W.heap.size W W := Below.refl _ _
 have bW : Below W.heap.size W W.drew := (Below.refl _ _).drew
 clear HW LW hL CS
 go_region_held_law (fun u => u.cell? ⟨w.heap.size + 1, 0, none⟩ = some (.slice (some ⟨w.heap.size, 0, none⟩) 2 2) ∧ u.cell? ⟨w.heap.size + 1, 1, none⟩ = some (.int .i64 0) ∧ u.cell? ⟨w.heap.size + 1 + 1 + 1 + 1 + 1, 0, none⟩ = some (.int .i64 11) ∧ u.cell? ⟨w.heap.size + 1 + 1 + 1 + 1 + 1, 1, none⟩ = some (.int .i64 0) ∧ u.cell? ⟨w.heap.size + 1 + 1 + 1 + 1 + 1, 2, none⟩ = some (.int .u64 0) ∧ u.cell? ⟨w.heap.size + 1 + 1 + 1 + 1 + 1, 3, none⟩ = some (.slice none 0 0) ∧ u.cell? ⟨w.heap.size + 1 + 1 + 1 + 1 + 1, 4, none⟩ = some (.slice (some ⟨w.heap.size + 1 + 1 + 1 + 1, 0, none⟩) 2 2) ∧ u.cell? ⟨w.heap.size + 1 + 1 + 1 + 1 + 1, 5, none⟩ = some (.slice none 0 0) ∧ u.cell? ⟨w.heap.size + 1 + 1 + 1 + 1 + 1 + 1 + 1, 0, none⟩ = some (.int .i64 11) ∧ u.cell? ⟨w.heap.size + 1 + 1 + 1 + 1 + 1 + 1 + 1, 1, none⟩ = some (.int .i64 0) ∧ u.cell? ⟨w.heap.size + 1 + 1 + 1 + 1 + 1 + 1 + 1, 2, none⟩ = some (.int .u64 0) ∧ u.cell? ⟨w.heap.size + 1 + 1 + 1 + 1 + 1 + 1 + 1, 3, none⟩ = some (.slice none 0 0) ∧ u.cell? ⟨w.heap.size + 1 + 1 + 1 + 1 + 1 + 1 + 1, 4, none⟩ = some (.slice (some ⟨w.heap.size + 1 + 1 + 1 + 1 + 1 + 1, 0, none⟩) 2 2) ∧ u.cell? ⟨w.heap.size + 1 + 1 + 1 + 1 + 1 + 1 + 1, 5, none⟩ = some (.slice none 0 0)) (exact STH.out _ (by assumption)) (first
  | (go_at_call 17; with_reducible refine (CP.out _ (by assumption)).mono ?_; rintro e u ⟨B3, d3, B4, d4, B5, d5, rfl, lc, bu⟩; have bu2 := Below.next (by assumption) bu)
  | (go_at_call 16; with_reducible refine (SM.out _ (by assumption) _ _ _ _ _ _ (by assumption)).mono ?_; rintro e u ⟨rfl, bu⟩; have bu2 := Below.next (by assumption) bu)
  | (go_at_call 18; with_reducible refine (DP.out _ (by assumption)).mono ?_; rintro e u ⟨rfl, bu⟩; have bu2 := Below.next (by assumption) bu)
  | (go_at_call 6; with_reducible refine (CF1.out _ (by assumption)).mono ?_; rintro e u ⟨rfl, bu⟩; have bu2 := Below.next (by assumption) bu)
  | (go_at_call 6; with_reducible refine (CF0.out _ (by assumption)).mono ?_; rintro e u ⟨rfl, bu⟩; have bu2 := Below.next (by assumption) bu))
 go_wp2_with fail
 go_ret
 exact ⟨rfl, Below.next b0 (by assumption)⟩
theorem vgreat_any (t : V) (w : World) (A3 A4 A5 : Option Addr) (c3 c4 c5 : Nat) (ht : Lies w (· < w.heap.size) t.enc [.int .i64 t.k, .int .i64 t.n, .int .u64 t.bt, .slice A3 t.bs.length c3, .slice A4 t.its.length c4, .slice A5 t.ks.length c5]) :
 Calls Tryz.prog 5 #[.agg #[.int .i64 t.k, .int .i64 t.n, .int .u64 t.bt, .slice A3 t.bs.length c3, .slice A4 t.its.length c4, .slice A5 t.ks.length c5]] w (fun e w' => ∃ b : Bool, e = .returned (.bool b) ∧ (b = false → t.wt ≤ 2500 ∧ t.deep ≤ 81) ∧ Below w.heap.size w w') := by
 have CS := cell_set
 have W1 : Below w.heap.size w (w.alloc (.cells #[.int .i64 t.k, .int .i64 t.n, .int .u64 t.bt, .slice A3 t.bs.length c3, .slice A4 t.its.length c4, .slice A5 t.ks.length c5] 30)) := (Below.refl _ _).alloc (Nat.le_refl _) _
 have B0 : Hid (Calls Tryz.prog 10 #[.agg #[.int .i64 t.k, .int .i64 t.n, .int .u64 t.bt, .slice A3 t.bs.length c3, .slice A4 t.its.length c4, .slice A5 t.ks.length c5], .int .i64 2500, .int .i64 0] (w.alloc (.cells #[.int .i64 t.k, .int .i64 t.n, .int .u64 t.bt, .slice A3 t.bs.length c3, .slice A4 t.its.length c4, .slice A5 t.ks.length c5] 30)) (VBul t 0 (w.alloc (.cells #[.int .i64 t.k, .int .i64 t.n, .int .u64 t.bt, .slice A3 t.bs.length c3, .slice A4 t.its.length c4, .slice A5 t.ks.length c5] 30)))) := vbulk_any t 0 _ A3 A4 A5 c3 c4 c5 (by decide) (ht.on W1)
 clear ht
 go_enter Tryz.func5, Tryz.ntmps5
 go_wp2_with fail
 with_reducible refine B0.out.mono ?_
 rintro e w3 ⟨n, rfl, _, hd, b3⟩
 have bw : Below w.heap.size w w3 := bqq
 have HD := Lib.hid hd
 clear hd
 by_cases h : (2500 : Int) < (n : Int)
 · have q : decide ((2500 : Int) < (n : Int)) = true := by simpa using h
   go_wp2_with fail
   go_ret
   exact ⟨true, rfl, (fun h => by cases h), bw⟩
 · have q : decide ((2500 : Int) < (n : Int)) = false := by simpa using h
   go_wp2_with fail
   go_ret
   exact ⟨false, by first | rfl | (rw [← q]; rfl), fun _ => by have := HD.out (by omega); omega, bw⟩
theorem sgreat_any (sc : Sc) (w : World) (A : Option Addr) (c : Nat) (hs : Lies w (· < w.heap.size) sc.enc [.slice A sc.nodes.length c, .int .i64 sc.root]) :
 Calls Tryz.prog 4 #[.agg #[.slice A sc.nodes.length c, .int .i64 sc.root]] w (fun e w' => ∃ b : Bool, e = .returned (.bool b) ∧ (b = false → sc.sm) ∧ Below w.heap.size w w') := by
 have CS := cell_set
 have W1 : Below w.heap.size w (w.alloc (.cells #[.slice A sc.nodes.length c, .int .i64 sc.root] 24)) := (Below.refl _ _).alloc (Nat.le_refl _) _
 have B0 := Lib.hid (sbulk_any sc _ A c (hs.on W1))
 clear hs
 go_enter Tryz.func4, Tryz.ntmps4
 go_wp2_with fail
 with_reducible refine B0.out.mono ?_
 rintro e w3 ⟨n, rfl, hd, b3⟩
 have bw : Below w.heap.size w w3 := bqq
 have HD := Lib.hid hd
 clear hd
 by_cases h : (2500 : Int) < (n : Int)
 · have q : decide ((2500 : Int) < (n : Int)) = true := by simpa using h
   go_wp2_with fail
   go_ret
   exact ⟨true, rfl, (fun h => by cases h), bw⟩
 · have q : decide ((2500 : Int) < (n : Int)) = false := by simpa using h
   go_wp2_with fail
   go_ret
   exact ⟨false, by first | rfl | (rw [← q]; rfl), fun _ => HD.out (by omega), bw⟩
end Go.Proofs.YtpmgjpchpmkklaaGreatDoor
