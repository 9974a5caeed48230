/- Joined by tools/bundle.py: VCH VCI SGrt. -/
import Derived.Deep.RegionHeldLaw
import Derived.Test.YthfoomobicbcpaaGreatDoorZ4
import Derived.Test.YthfoomobicbcpaaGreatDoorZ6
import Derived.Test.YthfoomobicbcpaaGreatDoorZ17
import Derived.Test.YthfoomobicbcpaaGreatDoorZ20
import Derived.Test.YthfoomobicbcpaaGreatDoorZ21
import Derived.Test.YthfoomobicbcpaaGreatDoorZ0
set_option maxRecDepth 100000
set_option maxHeartbeats 16000000
namespace Go.Proofs.YthfoomobicbcpaaGreatDoor
open Go.ChangeShapes Go.WideShapes Go.ChangeAt Go.RowKit Mem
theorem vone_13 (p nn : Nat) (hp : p < nn) (n bt : Int) (nb ni nk : Nat) (A3 A4 A5 : Option Addr) (c3 c4 c5 : Nat) (nm df : ByteArray) (l2 l3 l4 l9 x2 x3 x4 x9 : Nat) (X2 X3 X4 X9 : Option Addr) (hs : Bool) (sz it : Int) (b1 o1 c : Nat) (w : World) (lb1 : b1 < w.heap.size)
 (y0 : w.cell? ⟨b1, o1 + p * 10, none⟩ = some (.int .i64 13)) (y1 : w.cell? ⟨b1, o1 + p * 10 + 1, none⟩ = some (.string nm)) (y2 : w.cell? ⟨b1, o1 + p * 10 + 2, none⟩ = some (.slice X2 l2 x2)) (y3 : w.cell? ⟨b1, o1 + p * 10 + 3, none⟩ = some (.slice X3 l3 x3)) (y4 : w.cell? ⟨b1, o1 + p * 10 + 4, none⟩ = some (.slice X4 l4 x4))
 (y5 : w.cell? ⟨b1, o1 + p * 10 + 5, none⟩ = some (.bool hs)) (y6 : w.cell? ⟨b1, o1 + p * 10 + 6, none⟩ = some (.string df)) (y7 : w.cell? ⟨b1, o1 + p * 10 + 7, none⟩ = some (.int .i64 sz)) (y8 : w.cell? ⟨b1, o1 + p * 10 + 8, none⟩ = some (.int .i64 it)) (y9 : w.cell? ⟨b1, o1 + p * 10 + 9, none⟩ = some (.slice X9 l9 x9)) (k0 : Int) (hk0 : 0 ≤ n → n < (l9 : Int) → ∃ b9 o9, X9 = some ⟨b9, o9, none⟩ ∧ b9 < w.heap.size ∧ w.cell? ⟨b9, o9 + n.toNat, none⟩ = some (.int .i64 k0)) (b4 o4 : Nat) (t0 t1 t2 t3 t4 t5 : Value) (hz : ni = 1 → A4 = some ⟨b4, o4, none⟩ ∧ b4 < w.heap.size ∧ w.cell? ⟨b4, o4, none⟩ = some t0 ∧ w.cell? ⟨b4, o4 + 1, none⟩ = some t1 ∧ w.cell? ⟨b4, o4 + 2, none⟩ = some t2 ∧ w.cell? ⟨b4, o4 + 3, none⟩ = some t3 ∧ w.cell? ⟨b4, o4 + 4, none⟩ = some t4 ∧ w.cell? ⟨b4, o4 + 5, none⟩ = some t5) (Q : Prop) (RC : Hid (0 ≤ n → n < (l9 : Int) → ni = 1 → ∀ W, Below w.heap.size w W → Calls Tryz.prog 42 #[.slice (some ⟨b1, o1, none⟩) nn c, .int .i64 k0, .agg #[t0, t1, t2, t3, t4, t5]] W (Tells Q W))) (R : Prop) (hR : R ↔ VJust 13 n bt nb ni nk ∧ (0 ≤ n ∧ n < (l9 : Int)) ∧ ni = 1 ∧ Q) :
 Calls Tryz.prog 42 #[.slice (some ⟨b1, o1, none⟩) nn c, .int .i64 (p : Int), .agg #[.int .i64 13, .int .i64 n, .int .u64 bt, .slice A3 nb c3, .slice A4 ni c4, .slice A5 nk c5]] w (Tells R w) := by
 have CS := cell_set
 have q : (p : Int) < (nn : Int) := by omega
 have HR := Lib.hid hR
 have JU := Lib.hid (fun W => vjust_13 n bt nb ni nk A3 A4 A5 c3 c4 c5 W)
 have H0 := Lib.hid (B6.alloc (B6.newat (w := w) (t := 42) (x0 := .int .i64 13) (x1 := .int .i64 n) (x2 := .int .u64 bt) (x3 := .slice A3 nb c3) (x4 := .slice A4 ni c4) (x5 := .slice A5 nk c5) rfl) (.cells #[.int .i64 13, .string nm, .slice X2 l2 x2, .slice X3 l3 x3, .slice X4 l4 x4, .bool hs, .string df, .int .i64 sz, .int .i64 it, .slice X9 l9 x9] 59))
 have N0 := Lib.hid (B10.newat (w := w.alloc (.cells #[.int .i64 13, .int .i64 n, .int .u64 bt, .slice A3 nb c3, .slice A4 ni c4, .slice A5 nk c5] 42)) (g := w.heap.size + 1) (t := 59) (x0 := .int .i64 13) (x1 := .string nm) (x2 := .slice X2 l2 x2) (x3 := .slice X3 l3 x3) (x4 := .slice X4 l4 x4) (x5 := .bool hs) (x6 := .string df) (x7 := .int .i64 sz) (x8 := .int .i64 it) (x9 := .slice X9 l9 x9) (by simp))
 have W0 : Hid (Below w.heap.size w ((w.alloc (.cells #[.int .i64 13, .int .i64 n, .int .u64 bt, .slice A3 nb c3, .slice A4 ni c4, .slice A5 nk c5] 42)).alloc (.cells #[.int .i64 13, .string nm, .slice X2 l2 x2, .slice X3 l3 x3, .slice X4 l4 x4, .bool hs, .string df, .int .i64 sz, .int .i64 it, .slice X9 l9 x9] 59))) := (((Below.refl _ _).alloc (Nat.le_refl _) _).alloc (by simp) _)
 have Z0 : Hid (((w.alloc (.cells #[.int .i64 13, .int .i64 n, .int .u64 bt, .slice A3 nb c3, .slice A4 ni c4, .slice A5 nk c5] 42)).alloc (.cells #[.int .i64 13, .string nm, .slice X2 l2 x2, .slice X3 l3 x3, .slice X4 l4 x4, .bool hs, .string df, .int .i64 sz, .int .i64 it, .slice X9 l9 x9] 59)).heap.size = w.heap.size + 2) := by show _ = _; simp
 have gb0 : b1 ≠ w.heap.size := by omega
 have gb1 : b1 ≠ w.heap.size + 1 := by omega
 clear hR
 go_enter Tryz.func42, Tryz.ntmps42
 go_wp2_with fail
 with_reducible refine (JU.out _).mono ?_
 rintro e w2 ⟨b, rfl, hbb, b2⟩
 rw [Z0.out] at b2
 have z2 := b2.size
 rw [Z0.out] at z2
 have bw2 : Below w.heap.size w w2 := W0.out.trans (b2.mono (Nat.le_add_right _ _))
 have h2 := Lib.hid (B6.below H0.out b2 (by omega))
 have n2 := Lib.hid (B10.below N0.out b2 (by omega))
 obtain ⟨_, _, _, _, _, _, _, _, _, _, _, _⟩ := B6.facts h2.out
 obtain ⟨_, _, _, _, _, _, _, _, _, _, _, _, _, _, _, _, _, _, _, _⟩ := B10.facts n2.out
 have HB := Lib.hid hbb
 clear hbb y0 y1 y2 y3 y4 y5 y6 y7 y8 y9 H0 N0 W0 JU Z0 b2
 cases b with
 | false =>
  have Z : Hid (¬ R) := fun r => by have := HB.out.2 (HR.out.1 r).1; simp at this
  go_wp2_with fail
  go_ret
  exact tells_no rfl Z.out bw2
 | true =>
  have HJ := Lib.hid (HB.out.1 (by first | rfl | trivial))
  clear HB
  have AM := Lib.hid (among_pure n (l9 : Int))
  go_wp2_with fail
  by_cases ha : 0 ≤ n ∧ n < (l9 : Int)
  rotate_left
  · rw [show decide (0 ≤ n ∧ n < (l9 : Int)) = false by simpa using ha] at AM
    have Z : Hid (¬ R) := fun r => ha (HR.out.1 r).2.1
    clear ha hk0 hz RC
    go_quiet ((go_at_call 41; with_reducible exact Calls.quiet_of_same (AM.out _)))
    go_wp2_with fail
    go_ret
    exact tells_no rfl Z.out (bel_drewN bw2 _)
  rw [show decide (0 ≤ n ∧ n < (l9 : Int)) = true by simpa using ha] at AM
  by_cases hn1 : ni = 1
  rotate_left
  · have q1 : ((ni : Int) == 1) = false := by rw [beq_eq_false_iff_ne]; omega
    have Z : Hid (¬ R) := fun r => hn1 (HR.out.1 r).2.2.1
    clear ha hk0 hz RC hn1
    go_quiet ((go_at_call 41; with_reducible exact Calls.quiet_of_same (AM.out _)))
    go_wp2_with fail
    go_ret
    exact tells_no rfl Z.out (bel_drewN bw2 _)
  have q1 : ((ni : Int) == 1) = true := by rw [beq_iff_eq]; omega
  obtain ⟨b9, o9, rfl, lb9, u9⟩ := hk0 ha.1 ha.2
  obtain ⟨rfl, lb4, u0, u1, u2, u3, u4, u5⟩ := hz hn1
  have RC2 := Lib.hid (RC.out ha.1 ha.2 hn1)
  obtain ⟨na, hna⟩ : ∃ na : Nat, n = (na : Int) := ⟨n.toNat, by omega⟩
  subst hna
  have HA := Lib.hid ha
  have qn : (na : Int) < (l9 : Int) := ha.2
  have g9 : b9 ≠ w.heap.size := by omega
  have g9' : b9 ≠ w.heap.size + 1 := by omega
  have g4 : b4 ≠ w.heap.size := by omega
  have g4' : b4 ≠ w.heap.size + 1 := by omega
  rw [Int.toNat_natCast] at u9
  obtain ⟨z2a, z2b⟩ : w.heap.size < w2.heap.size ∧ w.heap.size + 1 < w2.heap.size := by omega
  have u9 := (bw2.cell (p := ⟨b9, o9 + na, none⟩) lb9).trans u9
  have u0 := (bw2.cell (p := ⟨b4, o4, none⟩) lb4).trans u0
  have u1 := (bw2.cell (p := ⟨b4, o4 + 1, none⟩) lb4).trans u1
  have u2 := (bw2.cell (p := ⟨b4, o4 + 2, none⟩) lb4).trans u2
  have u3 := (bw2.cell (p := ⟨b4, o4 + 3, none⟩) lb4).trans u3
  have u4 := (bw2.cell (p := ⟨b4, o4 + 4, none⟩) lb4).trans u4
  have u5 := (bw2.cell (p := ⟨b4, o4 + 5, none⟩) lb4).trans u5
  have i1 : ((1 : Nat) : Int) = 1 := rfl
  subst hn1
  clear ha RC
  obtain ⟨_, h1, _, _, h4, _, _, _, _, _, _, _⟩ := B6.facts h2.out
  obtain ⟨_, _, _, _, _, _, _, _, _, m9, _, _, _, _, _, _, _, _, _, _⟩ := B10.facts n2.out
  have lb4' : b4 < w2.heap.size := by omega
  have lb9' : b9 < w2.heap.size := by omega
  go_region_held_law (fun w' => w'.cell? ⟨w.heap.size, 1, none⟩ = some (.int .i64 (na : Int)) ∧ w'.cell? ⟨w.heap.size, 4, none⟩ = some (.slice (some ⟨b4, o4, none⟩) 1 c4) ∧ w'.cell? ⟨w.heap.size + 1, 9, none⟩ = some (.slice (some ⟨b9, o9, none⟩) l9 x9) ∧ w'.cell? ⟨b9, o9 + na, none⟩ = some (.int .i64 k0) ∧ w'.cell? ⟨b4, o4, none⟩ = some t0 ∧ w'.cell? ⟨b4, o4 + 1, none⟩ = some t1 ∧ w'.cell? ⟨b4, o4 + 2, none⟩ = some t2 ∧ w'.cell? ⟨b4, o4 + 3, none⟩ = some t3 ∧ w'.cell? ⟨b4, o4 + 4, none⟩ = some t4 ∧ w'.cell? ⟨b4, o4 + 5, none⟩ = some t5)
   (exact ⟨(by first | with_reducible assumption | (go_simp; done)), (by first | with_reducible assumption | (go_simp; done)), (by first | with_reducible assumption | (go_simp; done)), (by first | with_reducible assumption | (go_simp; done)), (by first | with_reducible assumption | (go_simp; done)), (by first | with_reducible assumption | (go_simp; done)), (by first | with_reducible assumption | (go_simp; done)), (by first | with_reducible assumption | (go_simp; done)), (by first | with_reducible assumption | (go_simp; done)), (by first | with_reducible assumption | (go_simp; done))⟩)
   (first
   | (go_at_call 42; (with_reducible refine (RC2.out _ bw2.drew).mono ?_); rintro e w4 ⟨b, rfl, hbb, b4'⟩; have HB := Lib.hid hbb; clear hbb; have k0_ := (Below.cell b4' (p := ⟨w.heap.size, 1, none⟩) (by show _ < w2.heap.size; omega)).trans h1; have k1_ := (Below.cell b4' (p := ⟨w.heap.size, 4, none⟩) (by show _ < w2.heap.size; omega)).trans h4; have k2_ := (Below.cell b4' (p := ⟨w.heap.size + 1, 9, none⟩) (by show _ < w2.heap.size; omega)).trans m9; have k3_ := (Below.cell b4' (p := ⟨b9, o9 + na, none⟩) (by show _ < w2.heap.size; omega)).trans u9; have k4_ := (Below.cell b4' (p := ⟨b4, o4, none⟩) (by show _ < w2.heap.size; omega)).trans u0; have k5_ := (Below.cell b4' (p := ⟨b4, o4 + 1, none⟩) (by show _ < w2.heap.size; omega)).trans u1; have k6_ := (Below.cell b4' (p := ⟨b4, o4 + 2, none⟩) (by show _ < w2.heap.size; omega)).trans u2; have k7_ := (Below.cell b4' (p := ⟨b4, o4 + 3, none⟩) (by show _ < w2.heap.size; omega)).trans u3; have k8_ := (Below.cell b4' (p := ⟨b4, o4 + 4, none⟩) (by show _ < w2.heap.size; omega)).trans u4; have k9_ := (Below.cell b4' (p := ⟨b4, o4 + 5, none⟩) (by show _ < w2.heap.size; omega)).trans u5; have b4 := Lib.hid (bw2.drew.trans (b4'.mono bw2.size)))
   | (go_at_call 41; (with_reducible refine (AM.out _).mono ?_); rintro e w3 ⟨rfl, rfl⟩))
  all_goals
   have Z : Hid (b = true ↔ R) := HB.out.trans ⟨fun k => HR.out.2 ⟨HJ.out, HA.out, (by first | rfl | trivial), k⟩, fun r => (HR.out.1 r).2.2.2⟩
   go_wp2_with fail
   go_ret
   exact ⟨b, rfl, Z.out, b4.out⟩
theorem vone_ne (p nn : Nat) (hp : p < nn) (K K' n bt : Int) (hK : K ≠ K') (nb ni nk : Nat) (A3 A4 A5 : Option Addr) (c3 c4 c5 : Nat) (nm df : ByteArray) (l2 l3 l4 l9 x2 x3 x4 x9 : Nat) (X2 X3 X4 X9 : Option Addr) (hs : Bool) (sz it : Int) (b1 o1 c : Nat) (w : World) (lb1 : b1 < w.heap.size)
 (y0 : w.cell? ⟨b1, o1 + p * 10, none⟩ = some (.int .i64 K')) (y1 : w.cell? ⟨b1, o1 + p * 10 + 1, none⟩ = some (.string nm)) (y2 : w.cell? ⟨b1, o1 + p * 10 + 2, none⟩ = some (.slice X2 l2 x2)) (y3 : w.cell? ⟨b1, o1 + p * 10 + 3, none⟩ = some (.slice X3 l3 x3)) (y4 : w.cell? ⟨b1, o1 + p * 10 + 4, none⟩ = some (.slice X4 l4 x4))
 (y5 : w.cell? ⟨b1, o1 + p * 10 + 5, none⟩ = some (.bool hs)) (y6 : w.cell? ⟨b1, o1 + p * 10 + 6, none⟩ = some (.string df)) (y7 : w.cell? ⟨b1, o1 + p * 10 + 7, none⟩ = some (.int .i64 sz)) (y8 : w.cell? ⟨b1, o1 + p * 10 + 8, none⟩ = some (.int .i64 it)) (y9 : w.cell? ⟨b1, o1 + p * 10 + 9, none⟩ = some (.slice X9 l9 x9)) :
 Calls Tryz.prog 42 #[.slice (some ⟨b1, o1, none⟩) nn c, .int .i64 (p : Int), .agg #[.int .i64 K, .int .i64 n, .int .u64 bt, .slice A3 nb c3, .slice A4 ni c4, .slice A5 nk c5]] w (Told false w) := by
 have CS := cell_set
 have q : (p : Int) < (nn : Int) := by omega
 have qk : (K != K') = true := by rw [bne_iff_ne]; exact hK
 have gb0 : b1 ≠ w.heap.size := by omega
 have gb1 : b1 ≠ w.heap.size + 1 := by omega
 clear hK
 go_enter Tryz.func42, Tryz.ntmps42
 go_wp2_with fail
 go_ret
 exact told_ret rfl bqq
theorem ok_range {s : Sc} {n : Nd} (h : n.ok s) : 1 ≤ n.k ∧ n.k ≤ 14 ∧ (n.k = 9 → n.fs.length ≤ 300) ∧ (n.k = 14 → n.size ≤ 1000) := by
 refine ⟨h.1, h.2.1, fun hk => ?_, fun hk => ?_⟩
 · have := ((ok_9 hk).1 h).2.1.1.1
   rw [List.length_map] at this
   omega
 · exact ((ok_14 hk).1 h).2.1.2
theorem vone_step (s : Sc) (hs : s.right) (k n bt : Int) (bs : List UInt8) (its : List V) (ks : List ByteArray) (hw : V.wt (.mk k n bt bs its ks) ≤ 10000000) (IHs : ∀ i (h : i < its.length), OneC s (its[i]'h)) : OneC s (.mk k n bt bs its ks) := by
 intro a ha0 ha1 w A A3 A4 A5 c c3 c4 c5 hL ra ht
 obtain ⟨p, rfl⟩ : ∃ p : Nat, a = (p : Int) := ⟨a.toNat, by omega⟩
 have hp : p < s.nodes.length := by omega
 have nn200 : s.nodes.length ≤ 200 := hs.1.2.1
 have hok := hs.2.1 _ (List.getElem_mem hp)
 have hkid := kids_in hs.1 p hp
 have ek : s.kidsAt p = (s.nodes[p]'hp).kids := by unfold Sc.kidsAt; rw [List.getElem?_eq_getElem hp]; rfl
 rw [ek] at hkid
 obtain ⟨hk1, hk14, hf9, hs14⟩ := ok_range hok
 obtain ⟨_, _, _, _, _, _, e, l3, r3, l4, r4, l5, f5⟩ := V.out.1 ht
 simp only [V.k, V.n, V.bt, V.bs, V.its, V.ks, List.cons.injEq, Value.slice.injEq, true_and, and_true] at e l3 r3 l4 r4 l5 f5
 obtain ⟨⟨rfl, rfl⟩, ⟨rfl, rfl⟩, rfl, rfl⟩ := e
 simp only [V.k, V.n, V.bt, V.bs, V.its, V.ks]
 have hw' : 1 + bs.length + kwt ks + V.wts its ≤ 10000000 := by unfold V.wt at hw; exact hw
 have lks := kwt_len ks
 have lit := vwts_len its
 obtain ⟨b1, o1, X2, x2, X3, x3, X4, x4, X9, x9, rfl, lb1, ⟨y0, y1, y2, y3, y4, y5, y6, y7, y8, y9⟩, lx⟩ := nodes_at ra hp
 obtain ⟨_, _, _, _, _, _, _, _, e, _, _, len3, row3, _, _, len9, row9⟩ := Nd.out.1 lx
 simp only [List.cons.injEq, Value.slice.injEq, true_and, and_true] at e
 obtain ⟨⟨rfl, rfl⟩, ⟨rfl, rfl⟩, ⟨rfl, rfl⟩, rfl, rfl⟩ := e
 by_cases hne : k = (s.nodes[p]'hp).k
 rotate_left
 · exact (vone_ne p s.nodes.length hp k _ n bt hne _ _ _ A3 A4 A5 c3 c4 c5 _ _ _ _ _ _ x2 x3 x4 x9 X2 X3 X4 X9 _ _ _ b1 o1 c w lb1 y0 y1 y2 y3 y4 y5 y6 y7 y8 y9).mono fun _ _ h => told_tells h ⟨(fun e => by cases e), fun e => absurd e (V.is_not hp hne)⟩
 have RA : ∀ W, Below w.heap.size w W → RowD W (· < W.heap.size) 10 (s.nodes.map Nd.enc) (some ⟨b1, o1, none⟩) := fun W b => (ra.below b).more b.size
 have R4 : ∀ W, Below w.heap.size w W → RowD W (· < W.heap.size) 6 (its.map V.enc) A4 := fun W b => (r4.below b).more b.size
 have HLW : ∀ W, Below w.heap.size w W → Laid W := fun W b => hL.below b hL.top
 obtain h | h | h | h | h | h | h | h | h | h | h | h | h | h : (s.nodes[p]'hp).k = 1 ∨ (s.nodes[p]'hp).k = 2 ∨ (s.nodes[p]'hp).k = 3 ∨ (s.nodes[p]'hp).k = 4 ∨ (s.nodes[p]'hp).k = 5 ∨ (s.nodes[p]'hp).k = 6 ∨ (s.nodes[p]'hp).k = 7 ∨ (s.nodes[p]'hp).k = 8 ∨ (s.nodes[p]'hp).k = 9 ∨ (s.nodes[p]'hp).k = 10 ∨ (s.nodes[p]'hp).k = 11 ∨ (s.nodes[p]'hp).k = 12 ∨ (s.nodes[p]'hp).k = 13 ∨ (s.nodes[p]'hp).k = 14 := by omega
 · obtain rfl : k = 1 := hne.trans h
   rw [h] at y0
   have I := V.is_leaf hp (n := n) (bt := bt) (bs := bs) (its := its) (ks := ks) hs14 h.symm (by omega)
   exact vone_1 p _ hp n bt _ _ _ A3 A4 A5 c3 c4 c5 _ _ _ _ _ _ x2 x3 x4 x9 X2 X3 X4 X9 _ _ _ b1 o1 c w lb1 y0 y1 y2 y3 y4 y5 y6 y7 y8 y9 _ (by rw [I]; simp)
 · obtain rfl : k = 2 := hne.trans h
   rw [h] at y0
   have I := V.is_leaf hp (n := n) (bt := bt) (bs := bs) (its := its) (ks := ks) hs14 h.symm (by omega)
   exact vone_2 p _ hp n bt _ _ _ A3 A4 A5 c3 c4 c5 _ _ _ _ _ _ x2 x3 x4 x9 X2 X3 X4 X9 _ _ _ b1 o1 c w lb1 y0 y1 y2 y3 y4 y5 y6 y7 y8 y9 _ (by rw [I]; simp)
 · obtain rfl : k = 3 := hne.trans h
   rw [h] at y0
   have I := V.is_leaf hp (n := n) (bt := bt) (bs := bs) (its := its) (ks := ks) hs14 h.symm (by omega)
   exact vone_3 p _ hp n bt _ _ _ A3 A4 A5 c3 c4 c5 _ _ _ _ _ _ x2 x3 x4 x9 X2 X3 X4 X9 _ _ _ b1 o1 c w lb1 y0 y1 y2 y3 y4 y5 y6 y7 y8 y9 _ (by rw [I]; simp)
 · obtain rfl : k = 4 := hne.trans h
   rw [h] at y0
   have I := V.is_leaf hp (n := n) (bt := bt) (bs := bs) (its := its) (ks := ks) hs14 h.symm (by omega)
   exact vone_4 p _ hp n bt _ _ _ A3 A4 A5 c3 c4 c5 _ _ _ _ _ _ x2 x3 x4 x9 X2 X3 X4 X9 _ _ _ b1 o1 c w lb1 y0 y1 y2 y3 y4 y5 y6 y7 y8 y9 _ (by rw [I]; simp)
 · obtain rfl : k = 5 := hne.trans h
   rw [h] at y0
   have I := V.is_leaf hp (n := n) (bt := bt) (bs := bs) (its := its) (ks := ks) hs14 h.symm (by omega)
   exact vone_5 p _ hp n bt _ _ _ A3 A4 A5 c3 c4 c5 _ _ _ _ _ _ x2 x3 x4 x9 X2 X3 X4 X9 _ _ _ b1 o1 c w lb1 y0 y1 y2 y3 y4 y5 y6 y7 y8 y9 _ (by rw [I]; simp)
 · obtain rfl : k = 6 := hne.trans h
   rw [h] at y0
   have I := V.is_leaf hp (n := n) (bt := bt) (bs := bs) (its := its) (ks := ks) hs14 h.symm (by omega)
   exact vone_6 p _ hp n bt _ _ _ A3 A4 A5 c3 c4 c5 _ _ _ _ _ _ x2 x3 x4 x9 X2 X3 X4 X9 _ _ _ b1 o1 c w lb1 y0 y1 y2 y3 y4 y5 y6 y7 y8 y9 _ (by rw [I]; simp)
 · obtain rfl : k = 7 := hne.trans h
   rw [h] at y0
   have I := V.is_leaf hp (n := n) (bt := bt) (bs := bs) (its := its) (ks := ks) hs14 h.symm (by omega)
   exact vone_7 p _ hp n bt _ _ _ A3 A4 A5 c3 c4 c5 _ _ _ _ _ _ x2 x3 x4 x9 X2 X3 X4 X9 _ _ _ b1 o1 c w lb1 y0 y1 y2 y3 y4 y5 y6 y7 y8 y9 _ (by rw [I]; simp)
 · obtain rfl : k = 8 := hne.trans h
   rw [h] at y0
   have I := V.is_leaf hp (n := n) (bt := bt) (bs := bs) (its := its) (ks := ks) hs14 h.symm (by omega)
   exact vone_8 p _ hp n bt _ _ _ A3 A4 A5 c3 c4 c5 _ _ _ _ _ _ x2 x3 x4 x9 X2 X3 X4 X9 _ _ _ b1 o1 c w lb1 y0 y1 y2 y3 y4 y5 y6 y7 y8 y9 ((Num.cU bs).isSome = true) (Lib.hid (fun W b => (Right_any A3 c3 bs W (HLW W b) (((row_bys r3).below b).more b.size) (by omega) l3.1).mono fun _ _ g => told_tells ⟨g.1, g.2⟩ Iff.rfl)) _ (by rw [I]; simp)
 · obtain rfl : k = 9 := hne.trans h
   rw [h] at y0
   have hf : ∀ i (g : i < (s.nodes[p]'hp).fs.length), 0 ≤ ((s.nodes[p]'hp).fs[i]'g).ty ∧ ((s.nodes[p]'hp).fs[i]'g).ty < (s.nodes.length : Int) := fun i g => hkid _ (by unfold Nd.kids; rw [if_pos h]; exact List.mem_map.2 ⟨_, List.getElem_mem g, rfl⟩)
   have fl := hf9 h
   exact vone_9 p _ hp n bt _ _ _ A3 A4 A5 c3 c4 c5 _ _ _ _ _ _ x2 x3 x4 x9 X2 X3 X4 X9 _ _ _ b1 o1 c w lb1 y0 y1 y2 y3 y4 y5 y6 y7 y8 y9 _ (Lib.hid (fun W b => vrecord_any s (s.nodes[p]'hp).fs its IHs hf W (HLW W b) _ A4 X3 c c4 x3 (RA W b) ((row3.below b).more b.size) (R4 W b) (by omega) (by omega))) _ (V.is_9 hp h fl)
 · obtain rfl : k = 10 := hne.trans h
   rw [h] at y0
   have I := V.is_leaf hp (n := n) (bt := bt) (bs := bs) (its := its) (ks := ks) hs14 h.symm (by omega)
   exact vone_10 p _ hp n bt _ _ _ A3 A4 A5 c3 c4 c5 _ _ _ _ _ _ x2 x3 x4 x9 X2 X3 X4 X9 _ _ _ b1 o1 c w lb1 y0 y1 y2 y3 y4 y5 y6 y7 y8 y9 _ (by rw [I]; simp)
 · obtain rfl : k = 11 := hne.trans h
   rw [h] at y0
   have hi : 0 ≤ (s.nodes[p]'hp).items ∧ (s.nodes[p]'hp).items < (s.nodes.length : Int) := hkid _ (by unfold Nd.kids; rw [if_neg (by omega), if_pos (.inl h)]; exact List.mem_singleton.2 rfl)
   exact vone_11 p _ hp n bt _ _ _ A3 A4 A5 c3 c4 c5 _ _ _ _ _ _ x2 x3 x4 x9 X2 X3 X4 X9 _ _ _ b1 o1 c w lb1 y0 y1 y2 y3 y4 y5 y6 y7 y8 y9 _ (Lib.hid (fun W b => vlist_any s its IHs (s.nodes[p]'hp).items hi.1 hi.2 W (HLW W b) _ A4 c c4 (RA W b) (R4 W b) (by omega))) _ (V.is_11 hp h)
 · obtain rfl : k = 12 := hne.trans h
   rw [h] at y0
   have hi : 0 ≤ (s.nodes[p]'hp).items ∧ (s.nodes[p]'hp).items < (s.nodes.length : Int) := hkid _ (by unfold Nd.kids; rw [if_neg (by omega), if_pos (.inr h)]; exact List.mem_singleton.2 rfl)
   exact vone_12 p _ hp n bt _ _ _ A3 A4 A5 c3 c4 c5 _ _ _ _ _ _ x2 x3 x4 x9 X2 X3 X4 X9 _ _ _ b1 o1 c w lb1 y0 y1 y2 y3 y4 y5 y6 y7 y8 y9 _ _ (Lib.hid (fun W b => vlist_any s its IHs (s.nodes[p]'hp).items hi.1 hi.2 W (HLW W b) _ A4 c c4 (RA W b) (R4 W b) (by omega))) (Lib.hid (fun W b => vkeyed_any 12 n bt bs.length its.length ks A3 A4 A5 c3 c4 c5 W (HLW W b) (by omega) (FlS.keep (Below.keeps b) (fun _ h => Nat.lt_of_lt_of_le h b.size) f5))) _ (V.is_12 hp h)
 · obtain rfl : k = 13 := hne.trans h
   rw [h] at y0
   have hb : ∀ i (g : i < (s.nodes[p]'hp).br.length), 0 ≤ (s.nodes[p]'hp).br[i]'g ∧ (s.nodes[p]'hp).br[i]'g < (s.nodes.length : Int) := fun i g => hkid _ (by unfold Nd.kids; rw [if_neg (by omega), if_neg (by omega), if_pos h]; exact List.getElem_mem g)
   have hk0 : 0 ≤ n → n < ((s.nodes[p]'hp).br.length : Int) → ∃ b9 o9, X9 = some ⟨b9, o9, none⟩ ∧ b9 < w.heap.size ∧ w.cell? ⟨b9, o9 + n.toNat, none⟩ = some (.int .i64 ((s.nodes[p]'hp).br.getD n.toNat 0)) := fun q0 q1 => by
    obtain ⟨b9, o9, e, hg, hc⟩ := ints_at row9 (i := n.toNat) (by omega)
    exact ⟨b9, o9, e, hg, by rw [hc, List.getD_eq_getElem?_getD, List.getElem?_eq_getElem (by omega)]; rfl⟩
   by_cases l1 : its.length = 1
   · have h0 : 0 < its.length := by omega
     obtain ⟨b4, o4, Y3, z3, Y4, z4, Y5, z5, e4, lb4, ⟨u0, u1, u2, u3, u4, u5⟩, ty⟩ := values_at r4 h0
     rw [Nat.zero_mul, Nat.add_zero] at u0 u1 u2 u3 u4 u5
     exact vone_13 p _ hp n bt _ _ _ A3 A4 A5 c3 c4 c5 _ _ _ _ _ _ x2 x3 x4 x9 X2 X3 X4 X9 _ _ _ b1 o1 c w lb1 y0 y1 y2 y3 y4 y5 y6 y7 y8 y9 _ hk0 b4 o4 _ _ _ _ _ _ (fun _ => ⟨e4, lb4, u0, u1, u2, u3, u4, u5⟩) (∃ h : 0 < its.length, V.is s (its[0]'h) ((s.nodes[p]'hp).br.getD n.toNat 0)) (Lib.hid (fun q0 q1 _ W b => by
      have hr := hb n.toNat (by omega)
      have ge : (s.nodes[p]'hp).br.getD n.toNat 0 = (s.nodes[p]'hp).br[n.toNat]'(by omega) := by rw [List.getD_eq_getElem?_getD, List.getElem?_eq_getElem (by omega)]; rfl
      rw [← ge] at hr
      exact (IHs 0 h0 _ hr.1 hr.2 W _ Y3 Y4 Y5 c z3 z4 z5 (HLW W b) (RA W b) ((ty.below b).more b.size)).mono fun _ _ g => g.iff ⟨fun k => ⟨h0, k⟩, fun k => k.2⟩)) _ (V.is_13 hp h)
   · exact vone_13 p _ hp n bt _ _ _ A3 A4 A5 c3 c4 c5 _ _ _ _ _ _ x2 x3 x4 x9 X2 X3 X4 X9 _ _ _ b1 o1 c w lb1 y0 y1 y2 y3 y4 y5 y6 y7 y8 y9 _ hk0 0 0 undef undef undef undef undef undef (fun e => absurd e l1) (∃ h : 0 < its.length, V.is s (its[0]'h) ((s.nodes[p]'hp).br.getD n.toNat 0)) (Lib.hid (fun _ _ e => absurd e l1)) _ (V.is_13 hp h)
 · obtain rfl : k = 14 := hne.trans h
   rw [h] at y0
   have I := V.is_leaf hp (n := n) (bt := bt) (bs := bs) (its := its) (ks := ks) hs14 h.symm (by omega)
   exact vone_14 p _ hp n bt _ _ _ A3 A4 A5 c3 c4 c5 _ _ _ _ _ _ x2 x3 x4 x9 X2 X3 X4 X9 _ _ _ b1 o1 c w lb1 y0 y1 y2 y3 y4 y5 y6 y7 y8 y9 _ (by rw [I]; simp)
theorem vone_at (s : Sc) (hs : s.right) : ∀ (N : Nat) (t : V), SizeOf.sizeOf t ≤ N → t.wt ≤ 10000000 → OneC s t
 | 0, t, h, _ => by cases t; simp at h
 | N + 1, .mk k n bt bs its ks, hN, hw => vone_step s hs k n bt bs its ks hw fun i h => vone_at s hs N (its[i]'h) (by have := V.lt_its (v := .mk k n bt bs its ks) (i := i) h; simp only [V.its] at this; omega) (by have := vwts_at h; unfold V.wt at hw; omega)
theorem vone_any (s : Sc) (hs : s.right) (t : V) (hw : t.wt ≤ 10000000) : OneC s t := vone_at s hs _ t (Nat.le_refl _) hw
def Sc.conf (s : Sc) (t : V) (a : Int) : Prop := s.right ∧ V.is s t a
theorem V.is_in {s : Sc} {t : V} {a : Int} (h : V.is s t a) : 0 ≤ a ∧ a < (s.nodes.length : Int) := by cases t; unfold V.is at h; exact ⟨h.1, h.2.1⟩
theorem vConforms_any (s : Sc) (hs : s.sm) (t : V) (hw : t.wt ≤ 10000000) (a : Int) (w : World) (hL0 : LaidN w) (A A3 A4 A5 : Option Addr) (c c3 c4 c5 : Nat) (h : Lies w (· < w.heap.size) s.enc [.slice A s.nodes.length c, .int .i64 s.root]) (ht : Lies w (· < w.heap.size) t.enc [.int .i64 t.k, .int .i64 t.n, .int .u64 t.bt, .slice A3 t.bs.length c3, .slice A4 t.its.length c4, .slice A5 t.ks.length c5]) :
 Calls Tryz.prog 21 #[.agg #[.slice A s.nodes.length c, .int .i64 s.root], .int .i64 a, .agg #[.int .i64 t.k, .int .i64 t.n, .int .u64 t.bt, .slice A3 t.bs.length c3, .slice A4 t.its.length c4, .slice A5 t.ks.length c5]] w (Tells (s.conf t a) w) := by
 have CS := cell_set
 have SR := Lib.hid (fun W (b : Below w.heap.size w W) => sRightT_any s hs W (LaidN.below hL0 b) A c (h.on b))
 obtain ⟨_, _, e, la, ra⟩ := Sc.out.1 h
 simp only [List.cons.injEq, Value.slice.injEq, true_and, and_true] at e
 obtain ⟨rfl, rfl⟩ := e
 have ON := Lib.hid (fun (r : s.right) (q0 : 0 ≤ a) (q1 : a < (s.nodes.length : Int)) W (b : Below w.heap.size w W) => vone_any s r t hw a q0 q1 W A A3 A4 A5 c c3 c4 c5 (LaidN.below hL0 b) ((ra.below b).more b.size) (ht.on b))
 obtain ⟨Q, hQ⟩ : ∃ Q : Prop, Q = s.conf t a := ⟨_, rfl⟩
 have HQ : Hid (Q ↔ s.right ∧ V.is s t a) := by show _ ↔ _; rw [hQ]; exact Iff.rfl
 rw [← hQ]
 obtain ⟨nn, hnn⟩ : ∃ m, m = s.nodes.length := ⟨_, rfl⟩
 have AM := Lib.hid (among_pure a (nn : Int))
 have H0 := Lib.hid (B2.alloc (B2.newat (w := w) (t := 30) (x0 := .slice A nn c) (x1 := .int .i64 s.root) rfl) (.cells #[.int .i64 t.k, .int .i64 t.n, .int .u64 t.bt, .slice A3 t.bs.length c3, .slice A4 t.its.length c4, .slice A5 t.ks.length c5] 42))
 have N0 := Lib.hid (B6.newat (w := w.alloc (.cells #[.slice A nn c, .int .i64 s.root] 30)) (g := w.heap.size + 1) (t := 42) (x0 := .int .i64 t.k) (x1 := .int .i64 t.n) (x2 := .int .u64 t.bt) (x3 := .slice A3 t.bs.length c3) (x4 := .slice A4 t.its.length c4) (x5 := .slice A5 t.ks.length c5) (by simp))
 have W0 : Hid (Below w.heap.size w ((w.alloc (.cells #[.slice A nn c, .int .i64 s.root] 30)).alloc (.cells #[.int .i64 t.k, .int .i64 t.n, .int .u64 t.bt, .slice A3 t.bs.length c3, .slice A4 t.its.length c4, .slice A5 t.ks.length c5] 42))) := (((Below.refl _ _).alloc (Nat.le_refl _) _).alloc (by simp) _)
 have Z0 : Hid (((w.alloc (.cells #[.slice A nn c, .int .i64 s.root] 30)).alloc (.cells #[.int .i64 t.k, .int .i64 t.n, .int .u64 t.bt, .slice A3 t.bs.length c3, .slice A4 t.its.length c4, .slice A5 t.ks.length c5] 42)).heap.size = w.heap.size + 2) := by show _ = _; simp
 have HNN := Lib.hid hnn
 rw [← hnn] at SR ON ⊢
 generalize s.root = rt at *
 clear h la ra ht hQ hL0 hw hnn
 go_enter Tryz.func21, Tryz.ntmps21
 go_wp2_with fail
 with_reducible refine (SR.out _ W0.out).mono ?_
 rintro e w2 ⟨b, rfl, hbb, b2⟩
 rw [Z0.out] at b2
 have z2 := b2.size
 rw [Z0.out] at z2
 have bw2 : Below w.heap.size w w2 := W0.out.trans (b2.mono (Nat.le_add_right _ _))
 have h2 := Lib.hid (B2.below H0.out b2 (by omega))
 have n2 := Lib.hid (B6.below N0.out b2 (by omega))
 obtain ⟨_, _, _, _⟩ := B2.facts h2.out
 obtain ⟨_, _, _, _, _, _, _, _, _, _, _, _⟩ := B6.facts n2.out
 have HB := Lib.hid hbb
 clear hbb H0 N0 W0 Z0 b2 SR
 cases b with
 | false =>
  have Z : Hid (¬ Q) := fun r => by have := HB.out.2 (HQ.out.1 r).1; simp at this
  go_wp2_with fail
  go_ret
  exact tells_no rfl Z.out bw2
 | true =>
  have HR := Lib.hid (HB.out.1 (by first | rfl | trivial))
  clear HB
  by_cases ha : 0 ≤ a ∧ a < (nn : Int)
  rotate_left
  · rw [show decide (0 ≤ a ∧ a < (nn : Int)) = false by simpa using ha] at AM
    have Z : Hid (¬ Q) := fun r => ha (by rw [HNN.out]; exact V.is_in (HQ.out.1 r).2)
    clear ha ON
    go_wp2_with fail
    with_reducible refine (AM.out _).mono ?_
    rintro e w3 ⟨rfl, rfl⟩
    go_wp2_with fail
    go_ret
    exact tells_no rfl Z.out bw2
  rw [show decide (0 ≤ a ∧ a < (nn : Int)) = true by simpa using ha] at AM
  have ONE := Lib.hid (ON.out HR.out ha.1 ha.2)
  clear ha ON
  go_wp2_with fail
  with_reducible refine (AM.out _).mono ?_
  rintro e w3 ⟨rfl, rfl⟩
  go_wp2_with fail
  with_reducible refine (ONE.out _ bw2).mono ?_
  rintro e w4 ⟨b, rfl, hbb, b4⟩
  have Z : Hid (b = true ↔ Q) := hbb.trans ⟨fun k => HQ.out.2 ⟨HR.out, k⟩, fun r => (HQ.out.1 r).2⟩
  have bw4 : Below w.heap.size w w4 := bw2.trans (b4.mono bw2.size)
  clear hbb
  go_wp2_with fail
  go_ret
  exact ⟨b, rfl, Z.out, bw4⟩
theorem sgreat_any (sc : Sc) (w : World) (A : Option Addr) (c : Nat) (hs : Lies w (· < w.heap.size) sc.enc [.slice A sc.nodes.length c, .int .i64 sc.root]) :
 Calls Tryz.prog 12 #[.agg #[.slice A sc.nodes.length c, .int .i64 sc.root]] w (fun e w' => ∃ b : Bool, e = .returned (.bool b) ∧ (b = false → sc.sm) ∧ Below w.heap.size w w') := by
 have CS := cell_set
 have W1 : Below w.heap.size w (w.alloc (.cells #[.slice A sc.nodes.length c, .int .i64 sc.root] 30)) := (Below.refl _ _).alloc (Nat.le_refl _) _
 have B0 := Lib.hid (sbulk_any sc _ A c (hs.on W1))
 clear hs
 go_enter Tryz.func12, Tryz.ntmps12
 go_wp2_with fail
 with_reducible refine B0.out.mono ?_
 rintro e w3 ⟨n, rfl, hd, b3⟩
 have bw : Below w.heap.size w w3 := bqq
 have HD := Lib.hid hd
 clear hd
 by_cases h : (2500 : Int) < (n : Int)
 · have q : decide ((2500 : Int) < (n : Int)) = true := by simpa using h
   go_wp2_with fail
   go_ret
   exact ⟨true, rfl, (fun h => by cases h), bw⟩
 · have q : decide ((2500 : Int) < (n : Int)) = false := by simpa using h
   go_wp2_with fail
   go_ret
   exact ⟨false, by first | rfl | (rw [← q]; rfl), fun _ => HD.out (by omega), bw⟩
end Go.Proofs.YthfoomobicbcpaaGreatDoor
