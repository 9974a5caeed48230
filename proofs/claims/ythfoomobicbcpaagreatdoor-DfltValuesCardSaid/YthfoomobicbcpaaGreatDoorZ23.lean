/- Joined by tools/bundle.py: DLaw. -/
import Derived.Test.YthfoomobicbcpaaGreatDoorZ5
import Derived.Test.YthfoomobicbcpaaGreatDoorZ18
import Derived.Test.YthfoomobicbcpaaGreatDoorZ19
import Derived.Test.YthfoomobicbcpaaGreatDoorZ22
import Derived.Test.YthfoomobicbcpaaGreatDoorZ0
set_option maxRecDepth 100000
set_option maxHeartbeats 16000000
namespace Go.Proofs.YthfoomobicbcpaaGreatDoor
open Go.ChangeShapes Go.WideShapes Go.ChangeAt Go.RowKit Mem
theorem dp_ok {v : V} {w : World} {e : Ending} {w' : World} (h : DP (.ok v) w e w') : Below w.heap.size w w' ∧ ∃ X3 X4 X5 x3 x4 x5, e = .returned (.tuple #[.agg #[.int .i64 v.k, .int .i64 v.n, .int .u64 v.bt, .slice X3 v.bs.length x3, .slice X4 v.its.length x4, .slice X5 v.ks.length x5], .int .i64 0]) ∧ Lies w' (New w w') v.enc [.int .i64 v.k, .int .i64 v.n, .int .u64 v.bt, .slice X3 v.bs.length x3, .slice X4 v.its.length x4, .slice X5 v.ks.length x5] := h
theorem dp_err {z : Int} {w : World} {e : Ending} {w' : World} (h : DP (.error z) w e w') : Below w.heap.size w w' ∧ ∃ X3 X4 X5 x3 x4 x5, e = .returned (.tuple #[.agg #[.int .i64 0, .int .i64 0, .int .u64 0, .slice X3 0 x3, .slice X4 0 x4, .slice X5 0 x5], .int .i64 z]) ∧ Lies w' (New w w') zV.enc [.int .i64 0, .int .i64 0, .int .u64 0, .slice X3 0 x3, .slice X4 0 x4, .slice X5 0 x5] := h
theorem ofR_is {s : Sc} (hm : s.sm) (hr : s.rng) (a : Int) {j : J} (hjr : j.rng) (hjw : j.wt ≤ 2500) : (∃ v, ofR s a j = .ok v ∧ s.conf v a ∧ v.deep ≤ 20 ∧ v.wt ≤ 2502000) ∨ ∃ z, ofR s a j = .error z ∧ z ≠ 0 := by
 by_cases h : s.right ∧ (0 ≤ a ∧ a < (s.nodes.length : Int)) ∧ j.rightb = true
 · rw [ofR_yes h]
   cases hd : dtold s a j with
   | none => exact .inr ⟨35, rfl, by decide⟩
   | some v =>
    obtain ⟨v1, v2, v3⟩ := dtold_ok ⟨h.1, hr, hm⟩ h.2.1.1 h.2.1.2 ⟨.inl (J.rightb_iff.1 h.2.2).2, hjr, hjw⟩ hd
    exact .inl ⟨v, rfl, ⟨h.1, v1⟩, v2, v3⟩
 · rw [ofR_no h]
   exact .inr ⟨2, rfl, by decide⟩
theorem tells_true {P : Program} {f : FuncId} {xs : Array Value} {Q : Prop} {w : World} (h : Calls P f xs w (Tells Q w)) (q : Q) : Calls P f xs w (fun e w' => e = .returned (.bool true) ∧ Below w.heap.size w w') := h.mono fun _ _ ⟨b, h1, h2, h3⟩ => ⟨by rw [h1, h2.2 q], h3⟩
theorem chk_zero {s : Sc} (h : chkZ s = 0) : s.right ∧ dfOk s := by
 by_cases r : s.right
 · by_cases d : dfOk s
   · exact ⟨r, d⟩
   · rw [chk_bad r d] at h; exact absurd h (by decide)
 · rw [chk_no r] at h; exact absurd h (by decide)
theorem dfltValues_walk (s : Sc) (a : Int) (j : J) (w : World) (A : Option Addr) (c : Nat) (A3 A4 : Option Addr) (c3 c4 : Nat) (hs : Lies w (· < w.heap.size) s.enc [.slice A s.nodes.length c, .int .i64 s.root]) (hr : s.rng) (ht : TreeC w w.heap.size j [.int .i64 j.k, .int .i64 j.n, .string j.t, .slice A3 j.its.length c3, .slice A4 j.ks.length c4]) (hjr : j.rng) (hL : LaidN w) :
 Calls Tryz.prog 6 #[.agg #[.slice A s.nodes.length c, .int .i64 s.root], .int .i64 a, .agg #[.int .i64 j.k, .int .i64 j.n, .string j.t, .slice A3 j.its.length c3, .slice A4 j.ks.length c4]] w (fun e w' => e = .returned (.bool true) ∧ Below w.heap.size w w') := by
 have CS := cell_set
 obtain ⟨_, _, e, la, ra⟩ := Sc.out.1 hs
 simp only [List.cons.injEq, Value.slice.injEq, true_and, and_true] at e
 obtain ⟨rfl, rfl⟩ := e
 obtain ⟨nn, hnn⟩ : ∃ m, m = s.nodes.length := ⟨_, rfl⟩
 obtain ⟨rt, hrt⟩ : ∃ m, m = s.root := ⟨_, rfl⟩
 obtain ⟨W, hW⟩ : ∃ W, W = ((w.alloc (.cells #[.slice A nn c, .int .i64 rt] 30)).alloc (.cells #[.int .i64 j.k, .int .i64 j.n, .string j.t, .slice A3 j.its.length c3, .slice A4 j.ks.length c4] 25)) := ⟨_, rfl⟩
 have ZS : Hid (W.heap.size = w.heap.size + 2) := by show _ = _; rw [hW]; simp
 have BW : Hid (Below w.heap.size w W) := by rw [hW]; exact ((Below.refl _ _).alloc (Nat.le_refl _) _).alloc (by simp) _
 have W2 : Hid (B2 W w.heap.size 30 (.slice A nn c) (.int .i64 rt)) := by rw [hW]; exact (B2.newat rfl).alloc _
 have W5 : Hid (B5 W (w.heap.size + 1) 25 (.int .i64 j.k) (.int .i64 j.n) (.string j.t) (.slice A3 j.its.length c3) (.slice A4 j.ks.length c4)) := by rw [hW]; exact B5.newat (by simp)
 have SBX : Hid (∀ U, Below W.heap.size W U → B2 U w.heap.size 30 (.slice A nn c) (.int .i64 rt)) := fun U b => B2.below W2.out b W2.out.lt
 have JBX : Hid (∀ U, Below W.heap.size W U → B5 U (w.heap.size + 1) 25 (.int .i64 j.k) (.int .i64 j.n) (.string j.t) (.slice A3 j.its.length c3) (.slice A4 j.ks.length c4)) := fun U b => B5.below W5.out b W5.out.lt
 have HT : Hid (∀ U, Below w.heap.size w U → TreeC U U.heap.size j [.int .i64 j.k, .int .i64 j.n, .string j.t, .slice A3 j.its.length c3, .slice A4 j.ks.length c4]) := fun U b => (ht.below b).more b.size
 have WK := Lib.hid (works13_any W (LaidN.below hL BW.out))
 have GS := Lib.hid (fun U (b : Below w.heap.size w U) => sgreat_any s U A c (hs.on b))
 have GJ := Lib.hid (fun U (b : Below w.heap.size w U) => great_any j U A3 A4 c3 c4 (HT.out U b))
 have CF : Hid (∀ (_ : s.sm) (v : V) (_ : v.wt ≤ 10000000) (k : Int) U (_ : Below w.heap.size w U) X3 X4 X5 x3 x4 x5, Lies U (· < U.heap.size) v.enc [.int .i64 v.k, .int .i64 v.n, .int .u64 v.bt, .slice X3 v.bs.length x3, .slice X4 v.its.length x4, .slice X5 v.ks.length x5] → Calls Tryz.prog 21 #[.agg #[.slice A nn c, .int .i64 rt], .int .i64 k, .agg #[.int .i64 v.k, .int .i64 v.n, .int .u64 v.bt, .slice X3 v.bs.length x3, .slice X4 v.its.length x4, .slice X5 v.ks.length x5]] U (Tells (s.conf v k) U)) := fun sm v hv k U b X3 X4 X5 x3 x4 x5 hx => by
  rw [hnn, hrt]
  exact vConforms_any s sm v hv k U (LaidN.below hL b) A X3 X4 X5 c x3 x4 x5 (hs.on b) hx
 have OF : Hid (s.sm → j.wt ≤ 2500 → j.deep ≤ 1000000 → ∀ U, Below w.heap.size w U → Calls Tryz.prog 14 #[.agg #[.slice A nn c, .int .i64 rt], .int .i64 a, .agg #[.int .i64 j.k, .int .i64 j.n, .string j.t, .slice A3 j.its.length c3, .slice A4 j.ks.length c4]] U (DP (ofR s a j) U)) := fun sm h1 h2 U b => by
  rw [hnn, hrt]
  exact of13_any sm hr a j hjr h1 h2 U (LaidN.below hL b) A A3 A4 c c3 c4 (hs.on b) (HT.out U b)
 have CK0 : Hid (s.sm → ∀ U, Below w.heap.size w U → Calls Tryz.prog 19 #[.agg #[.slice A nn c, .int .i64 rt]] U (ChP (chkZ s) U)) := fun sm U b => by
  rw [hnn, hrt]
  exact check13_any sm hr U (LaidN.below hL b) A c (hs.on b)
 have FL0 : Hid (s.sm → ∀ (i k : Int) U, Below w.heap.size w U → Calls Tryz.prog 17 #[.agg #[.slice A nn c, .int .i64 rt], .int .i64 i, .int .i64 k] U (DP (fldR s i k) U)) := fun sm i k U b => by
  rw [hnn, hrt]
  exact field13_any sm hr i k U (LaidN.below hL b) A c (hs.on b)
 have RA := Lib.hid ra
 have HRG := Lib.hid hr
 have HJR := Lib.hid hjr
 have nmax : nn ≤ 9223372036854775807 := by have := la.2; unfold maxLen at this; omega
 have HNN := Lib.hid hnn
 rw [← hnn] at GS ⊢
 rw [← hrt] at GS ⊢
 clear hs hr ht hjr hL la ra hnn hrt
 go_enter Tryz.func6, Tryz.ntmps6
 go_wp2_with fail
 rw [← hW]
 clear hW
 with_reducible refine WK.out.mono ?_
 rintro e w1 ⟨rfl, b1⟩
 have BWW1 : Hid (Below W.heap.size W w1) := b1
 have BW1 : Hid (Below w.heap.size w w1) := BW.out.trans (b1.mono BW.out.size)
 have S1 := Lib.hid (SBX.out w1 b1)
 have J1 := Lib.hid (JBX.out w1 b1)
 obtain ⟨_, _, _, _⟩ := B2.facts S1.out
 obtain ⟨_, _, _, _, _, _, _, _, _, _⟩ := B5.facts J1.out
 clear b1 WK W2 W5
 go_wp2_with fail
 with_reducible refine (GS.out _ BW1.out).mono ?_
 rintro e w2 ⟨b, rfl, hb, b2⟩
 have BWW2 : Hid (Below W.heap.size W w2) := BWW1.out.trans (b2.mono BWW1.out.size)
 have BW2 : Hid (Below w.heap.size w w2) := BW1.out.trans (b2.mono BW1.out.size)
 have S2 := Lib.hid (SBX.out w2 BWW2.out)
 have J2 := Lib.hid (JBX.out w2 BWW2.out)
 obtain ⟨_, _, _, _⟩ := B2.facts S2.out
 obtain ⟨_, _, _, _, _, _, _, _, _, _⟩ := B5.facts J2.out
 have HB := Lib.hid hb
 have bw2 := BW2.out
 clear hb b2 GS
 cases b with
 | true =>
  clear HB
  go_wp2_with fail
  go_ret
  exact ⟨rfl, bw2⟩
 | false =>
 have sm := HB.out rfl
 have HSM := Lib.hid sm
 have CK1 := Lib.hid (CK0.out sm)
 have FL := Lib.hid (FL0.out sm)
 have OF1 := Lib.hid (OF.out sm)
 clear HB CK0 FL0 OF sm
 go_wp2_with fail
 with_reducible refine (GJ.out _ BW2.out).mono ?_
 rintro e w3 ⟨b, rfl, hb, b3⟩
 have BWW3 : Hid (Below W.heap.size W w3) := BWW2.out.trans (b3.mono BWW2.out.size)
 have BW3 : Hid (Below w.heap.size w w3) := BW2.out.trans (b3.mono BW2.out.size)
 have S3 := Lib.hid (SBX.out w3 BWW3.out)
 have J3 := Lib.hid (JBX.out w3 BWW3.out)
 obtain ⟨_, _, _, _⟩ := B2.facts S3.out
 obtain ⟨_, _, _, _, _, _, _, _, _, _⟩ := B5.facts J3.out
 have HB := Lib.hid hb
 have bw3 := BW3.out
 clear hb b3 GJ bw2
 cases b with
 | true =>
  clear HB
  go_wp2_with fail
  go_ret
  exact ⟨rfl, bw3⟩
 | false =>
 obtain ⟨hjd, hjw⟩ := HB.out rfl
 have OF2 := Lib.hid (OF1.out (by omega) (by omega))
 have OI := ofR_is HSM.out HRG.out a HJR.out (show j.wt ≤ 2500 by omega)
 obtain ⟨z0, hz0⟩ : ∃ z, z = chkZ s := ⟨_, rfl⟩
 have HZ : Hid (z0 = 0 → s.right ∧ dfOk s) := fun h => chk_zero (hz0.symm.trans h)
 have CK : Hid (∀ U, Below w.heap.size w U → Calls Tryz.prog 19 #[.agg #[.slice A nn c, .int .i64 rt]] U (ChP z0 U)) := by rw [hz0]; exact CK1.out
 clear HB OF1 CK1 hjd hjw hz0
 rcases OI with ⟨v, ev, cf, vd, vw⟩ | ⟨z, ez, zn⟩
 · rw [ev] at OF2
   clear ev
   go_wp2_with fail
   with_reducible refine (OF2.out _ BW3.out).mono ?_
   rintro e w4 hp4
   obtain ⟨b4, X3, X4, X5, x3, x4, x5, rfl, hl4⟩ := dp_ok hp4
   have s4 := b4.size
   have BW4 : Hid (Below w.heap.size w w4) := BW3.out.trans (b4.mono BW3.out.size)
   have BWW4 : Hid (Below W.heap.size W w4) := BWW3.out.trans (b4.mono BWW3.out.size)
   obtain ⟨V4, hV4⟩ : ∃ U, U = w4.alloc (.cells #[.int .i64 v.k, .int .i64 v.n, .int .u64 v.bt, .slice X3 v.bs.length x3, .slice X4 v.its.length x4, .slice X5 v.ks.length x5] 42) := ⟨_, rfl⟩
   have BA4 : Hid (Below w4.heap.size w4 V4) := by rw [hV4]; exact (Below.refl _ _).alloc (Nat.le_refl _) _
   have VB4 : Hid (B6 V4 w4.heap.size 42 (.int .i64 v.k) (.int .i64 v.n) (.int .u64 v.bt) (.slice X3 v.bs.length x3) (.slice X4 v.its.length x4) (.slice X5 v.ks.length x5)) := by rw [hV4]; exact B6.newat rfl
   have BWV4 : Hid (Below w.heap.size w V4) := BW4.out.trans (BA4.out.mono BW4.out.size)
   have BWWV4 : Hid (Below W.heap.size W V4) := BWW4.out.trans (BA4.out.mono BWW4.out.size)
   have HL4 : Hid (Lies V4 (· < V4.heap.size) v.enc [.int .i64 v.k, .int .i64 v.n, .int .u64 v.bt, .slice X3 v.bs.length x3, .slice X4 v.its.length x4, .slice X5 v.ks.length x5]) := hl4.keep (fun p hp => BA4.out.cell hp.2) fun b hb => Nat.lt_of_lt_of_le hb.2 BA4.out.size
   have CF4 := Lib.hid (tells_true (CF.out HSM.out v (Nat.le_trans vw (by decide)) a V4 BWV4.out X3 X4 X5 x3 x4 x5 HL4.out) cf)
   have DP4 : Hid (∀ U, Below V4.heap.size V4 U → Calls Tryz.prog 22 #[.agg #[.int .i64 v.k, .int .i64 v.n, .int .u64 v.bt, .slice X3 v.bs.length x3, .slice X4 v.its.length x4, .slice X5 v.ks.length x5]] U (Num_ v.deep U)) := fun U b => vdeep_at _ v (Nat.le_refl _) (by omega) U X3 X4 X5 x3 x4 x5 (HL4.out.on b)
   have lw4 : w.heap.size < w4.heap.size := by have := BWW4.out.size; have := ZS.out; omega
   have lw4n : ¬ w.heap.size = w4.heap.size := by omega
   have S4 := Lib.hid (SBX.out w4 BWW4.out)
   obtain ⟨_, _, _, _⟩ := B2.facts S4.out
   have qd : ¬ (20 : Int) < (v.deep : Int) := by omega
   clear hp4 hl4 b4 OF2 cf vw
   unfold Num_ at DP4
   obtain ⟨dv, hdv⟩ : ∃ d, d = v.deep := ⟨_, rfl⟩
   rw [← hdv] at qd DP4 vd
   clear hdv
   go_wp2_with fail
   rw [← hV4]
   clear hV4
   with_reducible refine CF4.out.mono ?_
   rintro e w5 ⟨rfl, b5⟩
   have s5 := b5.size
   have VB5 := Lib.hid (B6.below VB4.out b5 VB4.out.lt)
   obtain ⟨_, _, _, _, _, _, _, _, _, _, _, _⟩ := B6.facts VB5.out
   have DP5 := Lib.hid (DP4.out w5 b5)
   have BW5 : Hid (Below w.heap.size w w5) := BWV4.out.trans (b5.mono BWV4.out.size)
   have BWW5 : Hid (Below W.heap.size W w5) := BWWV4.out.trans (b5.mono BWWV4.out.size)
   clear CF4 DP4 b5 VB4
   go_wp2_with fail
   with_reducible refine DP5.out.mono ?_
   rintro e w6 ⟨rfl, b6⟩
   have BW6 : Hid (Below w.heap.size w w6) := BW5.out.trans (b6.mono BW5.out.size)
   have BWW6 : Hid (Below W.heap.size W w6) := BWW5.out.trans (b6.mono BWW5.out.size)
   clear DP5 b6 VB5
   have S6 := Lib.hid (SBX.out w6 BWW6.out)
   obtain ⟨_, _, _, _⟩ := B2.facts S6.out
   have bw6 := BW6.out
   go_wp2_with fail
   with_reducible refine (CK.out _ BW6.out).mono ?_
   rintro e w7 ⟨rfl, b7⟩
   have s7 := b7.size
   have BW7 : Hid (Below w.heap.size w w7) := BW6.out.trans (b7.mono BW6.out.size)
   have BWW7 : Hid (Below W.heap.size W w7) := BWW6.out.trans (b7.mono BWW6.out.size)
   have S7 := Lib.hid (SBX.out w7 BWW7.out)
   obtain ⟨_, _, _, _⟩ := B2.facts S7.out
   have bw7 := BW7.out
   clear b7
   by_cases hz : z0 = 0
   rotate_left
   · have qz : (z0 != 0) = true := by rw [bne_iff_ne]; exact hz
     clear hz FL CF
     go_wp2_with fail
     go_ret
     exact ⟨rfl, bw7⟩
   obtain ⟨HQ, HD⟩ := HZ.out hz
   have qz : (z0 != 0) = false := by rw [bne_eq_false_iff_eq]; exact hz
   have HQH := Lib.hid HQ
   have HDH := Lib.hid HD
   clear hz HQ HD
   go_wp2_with fail
   go_loopw [9, 10, 11, 12, 13, 14, 60] (fun _ _ _ _ _ _ t wr => ∃ i : Nat, i ≤ nn ∧ t = .int .i64 (i : Int) ∧ Hid (Below w7.heap.size w7 wr)) (fun _ _ _ _ _ _ t _ => nn - (intOf t).toNat)
   case atStart => exact ⟨0, Nat.zero_le _, rfl, Below.refl _ _⟩
   case round =>
    obtain ⟨i, hi, rfl, HBL⟩ := hrel
    have bl := HBL.out
    have z := bl.size
    have bwr : Hid (Below w.heap.size w wr) := BW7.out.trans (bl.mono bw7.size)
    have bwwr : Hid (Below W.heap.size W wr) := BWW7.out.trans (bl.mono BWW7.out.size)
    by_cases hin : i < nn
    · have hp : i < s.nodes.length := by rw [← HNN.out]; exact hin
      have q : (i : Int) < (nn : Int) := by omega
      obtain ⟨g1, o1, Y2, y2, Y3, y3, Y4, y4, Y9, y9, e1, hg1, ⟨u0, u1, u2, u3, u4, u5, u6, u7, u8, u9⟩, hnd⟩ := nodes_at (RA.out.below bwr.out) hp
      obtain ⟨_, _, _, _, _, _, _, _, en, _, _, lf, rf, _, _, _, _⟩ := Nd.out.1 hnd
      simp only [List.cons.injEq, Value.slice.injEq, true_and, and_true] at en
      obtain ⟨-, ⟨rfl, rfl⟩, -, -⟩ := en
      have FX : Hid (∀ (q : Nat) (hq : q < (s.nodes[i]'hp).fs.length), ((((s.nodes[i]'hp).fs[q]'hq).has = true → ∃ v, fldR s (i : Int) (q : Int) = .ok v ∧ s.conf v ((s.nodes[i]'hp).fs[q]'hq).ty ∧ v.wt ≤ 2502000) ∧ (((s.nodes[i]'hp).fs[q]'hq).has = false → fldR s (i : Int) (q : Int) = .error 60))) := fun q hq => by
       refine ⟨fun hh => ?_, fun hh => ?_⟩
       · obtain ⟨v, hv⟩ := HDH.out i hp q hq hh
         obtain ⟨k9, hty, hjg⟩ := field_in ⟨HQH.out, HRG.out, HSM.out⟩ hp (List.getElem_mem hq)
         obtain ⟨v1, v2, v3⟩ := dtold_ok ⟨HQH.out, HRG.out, HSM.out⟩ hty.1 hty.2 hjg hv
         exact ⟨v, by rw [fldR_at HQH.out hp hq, if_pos hh, hv]; rfl, ⟨HQH.out, v1⟩, v3⟩
       · rw [fldR_at HQH.out hp hq, if_neg (by rw [hh]; decide)]
      generalize s.nodes[i]'hp = T at *
      obtain ⟨nf, hnf⟩ : ∃ m, m = T.fs.length := ⟨_, rfl⟩
      rw [← hnf] at u3 lf
      have lfm := lf.2
      unfold maxLen at lfm
      have lg1 : g1 < w.heap.size := hg1
      subst e1
      have HNF := Lib.hid hnf
      have RF := Lib.hid rf
      have S8 := Lib.hid (SBX.out wr bwwr.out)
      obtain ⟨_, _, _, _⟩ := B2.facts S8.out
      have BV : Hid (Below wr.heap.size wr (wr.alloc (.cells #[.int .i64 T.k, .string T.name, .slice Y2 T.al.length y2, .slice Y3 nf y3, .slice Y4 T.sy.length y4, .bool T.has, .string T.df, .int .i64 T.size, .int .i64 T.items, .slice Y9 T.br.length y9] 59))) := (Below.refl _ _).alloc (Nat.le_refl _) _
      clear hnd rf hnf hp
      go_wp2_with fail
      obtain ⟨V1, hV1⟩ : ∃ V, V = (wr.alloc (.cells #[.int .i64 T.k, .string T.name, .slice Y2 T.al.length y2, .slice Y3 nf y3, .slice Y4 T.sy.length y4, .bool T.has, .string T.df, .int .i64 T.size, .int .i64 T.items, .slice Y9 T.br.length y9] 59)) := ⟨_, rfl⟩
      rw [← hV1] at BV ⊢
      clear hV1
      have bV := BV.out.size
      have BWV : Hid (Below w.heap.size w V1) := bwr.out.trans (BV.out.mono bwr.out.size)
      have BWWV : Hid (Below W.heap.size W V1) := bwwr.out.trans (BV.out.mono bwwr.out.size)
      have BLV : Hid (Below w7.heap.size w7 V1) := bl.trans (BV.out.mono z)
      obtain ⟨wo, hwo⟩ : ∃ X, X = wr := ⟨_, rfl⟩
      subst hwo
      go_loopw [11, 12, 13, 14, 68] (fun _ _ _ _ t wr => ∃ k : Nat, k ≤ nf ∧ t = .int .i64 (k : Int) ∧ Hid (Below V1.heap.size V1 wr)) (fun _ _ _ _ t _ => nf - (intOf t).toNat)
      case atStart => exact ⟨0, Nat.zero_le _, rfl, Below.refl _ _⟩
      case round =>
       obtain ⟨k, hk, rfl, HBF⟩ := hrel
       have bf := HBF.out
       have zf := bf.size
       have bwf : Hid (Below w.heap.size w wr) := BWV.out.trans (bf.mono BWV.out.size)
       have bwwf : Hid (Below W.heap.size W wr) := BWWV.out.trans (bf.mono BWWV.out.size)
       by_cases hkn : k < nf
       · have hq : k < T.fs.length := by rw [← HNF.out]; exact hkn
         have qk : (k : Int) < (nf : Int) := by omega
         obtain ⟨g2, o2, B1, d1, D3, d3, D4, d4, e2, hg2, ⟨f0, f1, f2, f3, f4, f5, f6, f7, f8⟩, _, _, tx⟩ := fields_at (RF.out.keep (S' := (· < w.heap.size)) (fun p hp => ((BV.out.trans (bf.mono bV)).cell (by have : p.block < w.heap.size := hp; have := bwr.out.size; omega))) (fun _ h => h)) hq
         have FX1 := Lib.hid (FX.out k hq)
         generalize T.fs[k]'hq = F at *
         generalize F.has = tb at *
         subst e2
         have lg2 : g2 < w.heap.size := hg2
         have S9 := Lib.hid (SBX.out wr bwwf.out)
         obtain ⟨_, _, _, _⟩ := B2.facts S9.out
         have BA : Hid (Below wr.heap.size wr (wr.alloc (.cells #[.string F.name, .slice B1 F.al.length d1, .int .i64 F.ty, .bool tb, .int .i64 F.df.k, .int .i64 F.df.n, .string F.df.t, .slice D3 F.df.its.length d3, .slice D4 F.df.ks.length d4] 61))) := (Below.refl _ _).alloc (Nat.le_refl _) _
         have F9 : Hid (B9 (wr.alloc (.cells #[.string F.name, .slice B1 F.al.length d1, .int .i64 F.ty, .bool tb, .int .i64 F.df.k, .int .i64 F.df.n, .string F.df.t, .slice D3 F.df.its.length d3, .slice D4 F.df.ks.length d4] 61)) wr.heap.size 61 (.string F.name) (.slice B1 F.al.length d1) (.int .i64 F.ty) (.bool tb) (.int .i64 F.df.k) (.int .i64 F.df.n) (.string F.df.t) (.slice D3 F.df.its.length d3) (.slice D4 F.df.ks.length d4)) := B9.newat rfl
         have BWA : Hid (Below w.heap.size w (wr.alloc (.cells #[.string F.name, .slice B1 F.al.length d1, .int .i64 F.ty, .bool tb, .int .i64 F.df.k, .int .i64 F.df.n, .string F.df.t, .slice D3 F.df.its.length d3, .slice D4 F.df.ks.length d4] 61))) := bwf.out.trans (BA.out.mono bwf.out.size)
         have BWWA : Hid (Below W.heap.size W (wr.alloc (.cells #[.string F.name, .slice B1 F.al.length d1, .int .i64 F.ty, .bool tb, .int .i64 F.df.k, .int .i64 F.df.n, .string F.df.t, .slice D3 F.df.its.length d3, .slice D4 F.df.ks.length d4] 61))) := bwwf.out.trans (BA.out.mono bwwf.out.size)
         have BFA : Hid (Below V1.heap.size V1 (wr.alloc (.cells #[.string F.name, .slice B1 F.al.length d1, .int .i64 F.ty, .bool tb, .int .i64 F.df.k, .int .i64 F.df.n, .string F.df.t, .slice D3 F.df.its.length d3, .slice D4 F.df.ks.length d4] 61))) := bf.trans (BA.out.mono zf)
         have lww : w.heap.size < wr.heap.size := by have := bwwf.out.size; have := ZS.out; omega
         have lwn : ¬ w.heap.size = wr.heap.size := by omega
         have FL1 := Lib.hid (FL.out (i : Int) (k : Int) _ BWA.out)
         have zfa : (wr.alloc (.cells #[.string F.name, .slice B1 F.al.length d1, .int .i64 F.ty, .bool tb, .int .i64 F.df.k, .int .i64 F.df.n, .string F.df.t, .slice D3 F.df.its.length d3, .slice D4 F.df.ks.length d4] 61)).heap.size = wr.heap.size + 1 := by simp
         have ZFA := Lib.hid zfa
         clear tx hq zfa
         cases tb with
         | false =>
          have E := FX1.out.2 rfl
          rw [E] at FL1
          clear FX1 E
          go_wp2_with fail
          with_reducible refine FL1.out.mono ?_
          rintro e w8 hp8
          obtain ⟨b8, X3, X4, X5, x3, x4, x5, rfl, hl8⟩ := dp_err hp8
          have s8 := b8.size
          rw [ZFA.out] at s8
          have F10 := Lib.hid (B9.below F9.out b8 (by rw [ZFA.out]; omega))
          obtain ⟨_, _, _, _, _, _, _, _, _, _, _, _, _, _, _, _, _, _⟩ := B9.facts F10.out
          have lf10 := F10.out.lt
          have lf11 : ¬ wr.heap.size = w8.heap.size := by omega
          have BF8 : Hid (Below V1.heap.size V1 (w8.alloc (.cells #[.int .i64 0, .int .i64 0, .int .u64 0, .slice X3 0 x3, .slice X4 0 x4, .slice X5 0 x5] 42))) := (BFA.out.trans (b8.mono BFA.out.size)).trans ((Below.refl _ _).alloc (BFA.out.trans (b8.mono BFA.out.size)).size _)
          clear hp8 hl8 b8 FL1
          go_wp2_with fail
          go_roundw
          case rel => exact ⟨k + 1, by omega, by go_num, BF8.out⟩
          case measure => simp [intOf]; omega
         | true =>
          obtain ⟨v, E, cf, wv⟩ := FX1.out.1 rfl
          rw [E] at FL1
          clear FX1 E
          go_wp2_with fail
          with_reducible refine FL1.out.mono ?_
          rintro e w8 hp8
          obtain ⟨b8, X3, X4, X5, x3, x4, x5, rfl, hl8⟩ := dp_ok hp8
          have s8 := b8.size
          rw [ZFA.out] at s8
          have F10 := Lib.hid (B9.below F9.out b8 (by rw [ZFA.out]; omega))
          obtain ⟨_, _, _, _, _, _, _, _, _, _, _, _, _, _, _, _, _, _⟩ := B9.facts F10.out
          have lf10 := F10.out.lt
          have lf11 : ¬ wr.heap.size = w8.heap.size := by omega
          have BW8 : Hid (Below w.heap.size w w8) := BWA.out.trans (b8.mono BWA.out.size)
          have BWW8 : Hid (Below W.heap.size W w8) := BWWA.out.trans (b8.mono BWWA.out.size)
          obtain ⟨V8, hV8⟩ : ∃ U, U = w8.alloc (.cells #[.int .i64 v.k, .int .i64 v.n, .int .u64 v.bt, .slice X3 v.bs.length x3, .slice X4 v.its.length x4, .slice X5 v.ks.length x5] 42) := ⟨_, rfl⟩
          have BA8 : Hid (Below w8.heap.size w8 V8) := by rw [hV8]; exact (Below.refl _ _).alloc (Nat.le_refl _) _
          have BF8 : Hid (Below V1.heap.size V1 V8) := (BFA.out.trans (b8.mono BFA.out.size)).trans (BA8.out.mono (BFA.out.trans (b8.mono BFA.out.size)).size)
          have S10 := Lib.hid (SBX.out w8 BWW8.out)
          obtain ⟨_, _, _, _⟩ := B2.facts S10.out
          have lw8 : w.heap.size < w8.heap.size := by omega
          have lw8n : ¬ w.heap.size = w8.heap.size := by omega
          have BWV8 : Hid (Below w.heap.size w V8) := BW8.out.trans (BA8.out.mono BW8.out.size)
          have HL8 : Hid (Lies V8 (· < V8.heap.size) v.enc [.int .i64 v.k, .int .i64 v.n, .int .u64 v.bt, .slice X3 v.bs.length x3, .slice X4 v.its.length x4, .slice X5 v.ks.length x5]) := hl8.keep (fun p hp => BA8.out.cell hp.2) fun b hb => Nat.lt_of_lt_of_le hb.2 BA8.out.size
          have CF8 := Lib.hid (tells_true (CF.out HSM.out v (Nat.le_trans wv (by decide)) F.ty V8 BWV8.out X3 X4 X5 x3 x4 x5 HL8.out) cf)
          clear hp8 hl8 b8 FL1 cf wv
          go_wp2_with fail
          rw [← hV8]
          clear hV8
          with_reducible refine CF8.out.mono ?_
          rintro e w9 ⟨rfl, b9⟩
          have BF9 : Hid (Below V1.heap.size V1 w9) := BF8.out.trans (b9.mono BF8.out.size)
          clear CF8 b9
          go_wp2_with fail
          go_roundw
          case rel => exact ⟨k + 1, by omega, by go_num, BF9.out⟩
          case measure => simp [intOf]; omega
       · obtain rfl : k = nf := by omega
         have qk : ¬ (k : Int) < (k : Int) := by omega
         have BL2 : Hid (Below w7.heap.size w7 wr) := BLV.out.trans (bf.mono BLV.out.size)
         go_wp2_with fail
         go_roundw
         case rel => exact ⟨i + 1, by omega, by go_num, BL2.out⟩
         case measure => simp [intOf]; omega
    · obtain rfl : i = nn := by omega
      have q : ¬ (i : Int) < (i : Int) := by omega
      have bwr' := bwr.out
      go_wp2_with fail
      go_ret
      exact ⟨rfl, bwr'⟩
 · rw [ez] at OF2
   clear ez
   have qz1 : (z == 0) = false := by rw [beq_eq_false_iff_ne]; exact zn
   have qz2 : (z != 0) = true := by rw [bne_iff_ne]; exact zn
   clear zn
   go_wp2_with fail
   with_reducible refine (OF2.out _ BW3.out).mono ?_
   rintro e w4 hp4
   obtain ⟨b4, X3, X4, X5, x3, x4, x5, rfl, hl4⟩ := dp_err hp4
   have s4 := b4.size
   have BW4 : Hid (Below w.heap.size w w4) := BW3.out.trans (b4.mono BW3.out.size)
   have BWW4 : Hid (Below W.heap.size W w4) := BWW3.out.trans (b4.mono BWW3.out.size)
   obtain ⟨V4, hV4⟩ : ∃ U, U = w4.alloc (.cells #[.int .i64 0, .int .i64 0, .int .u64 0, .slice X3 0 x3, .slice X4 0 x4, .slice X5 0 x5] 42) := ⟨_, rfl⟩
   have BA4 : Hid (Below w4.heap.size w4 V4) := by rw [hV4]; exact (Below.refl _ _).alloc (Nat.le_refl _) _
   have BWV4 : Hid (Below w.heap.size w V4) := BW4.out.trans (BA4.out.mono BW4.out.size)
   have BWWV4 : Hid (Below W.heap.size W V4) := BWW4.out.trans (BA4.out.mono BWW4.out.size)
   have SM4 : Hid (Calls Tryz.prog 23 #[.agg #[.int .i64 0, .int .i64 0, .int .u64 0, .slice X3 0 x3, .slice X4 0 x4, .slice X5 0 x5], .agg #[.int .i64 0, .int .i64 0, .int .u64 0, .slice none 0 0, .slice none 0 0, .slice none 0 0]] V4 (Told true V4)) := by
    have := vSame_any zV zV V4 X3 X4 X5 none none none x3 x4 x5 0 0 0 (hl4.keep (fun p hp => BA4.out.cell hp.2) fun b hb => Nat.lt_of_lt_of_le hb.2 BA4.out.size) (leaf_in 0 0 0)
    rw [V.same_yes rfl] at this
    exact this
   clear hp4 hl4 b4 OF2
   unfold Told at SM4
   go_wp2_with fail
   rw [← hV4]
   clear hV4
   with_reducible refine SM4.out.mono ?_
   rintro e w6 ⟨rfl, b6⟩
   have BW6 : Hid (Below w.heap.size w w6) := BWV4.out.trans (b6.mono BWV4.out.size)
   have BWW6 : Hid (Below W.heap.size W w6) := BWWV4.out.trans (b6.mono BWWV4.out.size)
   clear SM4 b6
   have S6 := Lib.hid (SBX.out w6 BWW6.out)
   obtain ⟨_, _, _, _⟩ := B2.facts S6.out
   have bw6 := BW6.out
   go_wp2_with fail
   with_reducible refine (CK.out _ BW6.out).mono ?_
   rintro e w7 ⟨rfl, b7⟩
   have s7 := b7.size
   have BW7 : Hid (Below w.heap.size w w7) := BW6.out.trans (b7.mono BW6.out.size)
   have BWW7 : Hid (Below W.heap.size W w7) := BWW6.out.trans (b7.mono BWW6.out.size)
   have S7 := Lib.hid (SBX.out w7 BWW7.out)
   obtain ⟨_, _, _, _⟩ := B2.facts S7.out
   have bw7 := BW7.out
   clear b7
   by_cases hz : z0 = 0
   rotate_left
   · have qz : (z0 != 0) = true := by rw [bne_iff_ne]; exact hz
     clear hz FL CF
     go_wp2_with fail
     go_ret
     exact ⟨rfl, bw7⟩
   obtain ⟨HQ, HD⟩ := HZ.out hz
   have qz : (z0 != 0) = false := by rw [bne_eq_false_iff_eq]; exact hz
   have HQH := Lib.hid HQ
   have HDH := Lib.hid HD
   clear hz HQ HD
   go_wp2_with fail
   go_loopw [9, 10, 11, 12, 13, 14, 60] (fun _ _ _ _ _ _ t wr => ∃ i : Nat, i ≤ nn ∧ t = .int .i64 (i : Int) ∧ Hid (Below w7.heap.size w7 wr)) (fun _ _ _ _ _ _ t _ => nn - (intOf t).toNat)
   case atStart => exact ⟨0, Nat.zero_le _, rfl, Below.refl _ _⟩
   case round =>
    obtain ⟨i, hi, rfl, HBL⟩ := hrel
    have bl := HBL.out
    have z := bl.size
    have bwr : Hid (Below w.heap.size w wr) := BW7.out.trans (bl.mono bw7.size)
    have bwwr : Hid (Below W.heap.size W wr) := BWW7.out.trans (bl.mono BWW7.out.size)
    by_cases hin : i < nn
    · have hp : i < s.nodes.length := by rw [← HNN.out]; exact hin
      have q : (i : Int) < (nn : Int) := by omega
      obtain ⟨g1, o1, Y2, y2, Y3, y3, Y4, y4, Y9, y9, e1, hg1, ⟨u0, u1, u2, u3, u4, u5, u6, u7, u8, u9⟩, hnd⟩ := nodes_at (RA.out.below bwr.out) hp
      obtain ⟨_, _, _, _, _, _, _, _, en, _, _, lf, rf, _, _, _, _⟩ := Nd.out.1 hnd
      simp only [List.cons.injEq, Value.slice.injEq, true_and, and_true] at en
      obtain ⟨-, ⟨rfl, rfl⟩, -, -⟩ := en
      have FX : Hid (∀ (q : Nat) (hq : q < (s.nodes[i]'hp).fs.length), ((((s.nodes[i]'hp).fs[q]'hq).has = true → ∃ v, fldR s (i : Int) (q : Int) = .ok v ∧ s.conf v ((s.nodes[i]'hp).fs[q]'hq).ty ∧ v.wt ≤ 2502000) ∧ (((s.nodes[i]'hp).fs[q]'hq).has = false → fldR s (i : Int) (q : Int) = .error 60))) := fun q hq => by
       refine ⟨fun hh => ?_, fun hh => ?_⟩
       · obtain ⟨v, hv⟩ := HDH.out i hp q hq hh
         obtain ⟨k9, hty, hjg⟩ := field_in ⟨HQH.out, HRG.out, HSM.out⟩ hp (List.getElem_mem hq)
         obtain ⟨v1, v2, v3⟩ := dtold_ok ⟨HQH.out, HRG.out, HSM.out⟩ hty.1 hty.2 hjg hv
         exact ⟨v, by rw [fldR_at HQH.out hp hq, if_pos hh, hv]; rfl, ⟨HQH.out, v1⟩, v3⟩
       · rw [fldR_at HQH.out hp hq, if_neg (by rw [hh]; decide)]
      generalize s.nodes[i]'hp = T at *
      obtain ⟨nf, hnf⟩ : ∃ m, m = T.fs.length := ⟨_, rfl⟩
      rw [← hnf] at u3 lf
      have lfm := lf.2
      unfold maxLen at lfm
      have lg1 : g1 < w.heap.size := hg1
      subst e1
      have HNF := Lib.hid hnf
      have RF := Lib.hid rf
      have S8 := Lib.hid (SBX.out wr bwwr.out)
      obtain ⟨_, _, _, _⟩ := B2.facts S8.out
      have BV : Hid (Below wr.heap.size wr (wr.alloc (.cells #[.int .i64 T.k, .string T.name, .slice Y2 T.al.length y2, .slice Y3 nf y3, .slice Y4 T.sy.length y4, .bool T.has, .string T.df, .int .i64 T.size, .int .i64 T.items, .slice Y9 T.br.length y9] 59))) := (Below.refl _ _).alloc (Nat.le_refl _) _
      clear hnd rf hnf hp
      go_wp2_with fail
      obtain ⟨V1, hV1⟩ : ∃ V, V = (wr.alloc (.cells #[.int .i64 T.k, .string T.name, .slice Y2 T.al.length y2, .slice Y3 nf y3, .slice Y4 T.sy.length y4, .bool T.has, .string T.df, .int .i64 T.size, .int .i64 T.items, .slice Y9 T.br.length y9] 59)) := ⟨_, rfl⟩
      rw [← hV1] at BV ⊢
      clear hV1
      have bV := BV.out.size
      have BWV : Hid (Below w.heap.size w V1) := bwr.out.trans (BV.out.mono bwr.out.size)
      have BWWV : Hid (Below W.heap.size W V1) := bwwr.out.trans (BV.out.mono bwwr.out.size)
      have BLV : Hid (Below w7.heap.size w7 V1) := bl.trans (BV.out.mono z)
      obtain ⟨wo, hwo⟩ : ∃ X, X = wr := ⟨_, rfl⟩
      subst hwo
      go_loopw [11, 12, 13, 14, 68] (fun _ _ _ _ t wr => ∃ k : Nat, k ≤ nf ∧ t = .int .i64 (k : Int) ∧ Hid (Below V1.heap.size V1 wr)) (fun _ _ _ _ t _ => nf - (intOf t).toNat)
      case atStart => exact ⟨0, Nat.zero_le _, rfl, Below.refl _ _⟩
      case round =>
       obtain ⟨k, hk, rfl, HBF⟩ := hrel
       have bf := HBF.out
       have zf := bf.size
       have bwf : Hid (Below w.heap.size w wr) := BWV.out.trans (bf.mono BWV.out.size)
       have bwwf : Hid (Below W.heap.size W wr) := BWWV.out.trans (bf.mono BWWV.out.size)
       by_cases hkn : k < nf
       · have hq : k < T.fs.length := by rw [← HNF.out]; exact hkn
         have qk : (k : Int) < (nf : Int) := by omega
         obtain ⟨g2, o2, B1, d1, D3, d3, D4, d4, e2, hg2, ⟨f0, f1, f2, f3, f4, f5, f6, f7, f8⟩, _, _, tx⟩ := fields_at (RF.out.keep (S' := (· < w.heap.size)) (fun p hp => ((BV.out.trans (bf.mono bV)).cell (by have : p.block < w.heap.size := hp; have := bwr.out.size; omega))) (fun _ h => h)) hq
         have FX1 := Lib.hid (FX.out k hq)
         generalize T.fs[k]'hq = F at *
         generalize F.has = tb at *
         subst e2
         have lg2 : g2 < w.heap.size := hg2
         have S9 := Lib.hid (SBX.out wr bwwf.out)
         obtain ⟨_, _, _, _⟩ := B2.facts S9.out
         have BA : Hid (Below wr.heap.size wr (wr.alloc (.cells #[.string F.name, .slice B1 F.al.length d1, .int .i64 F.ty, .bool tb, .int .i64 F.df.k, .int .i64 F.df.n, .string F.df.t, .slice D3 F.df.its.length d3, .slice D4 F.df.ks.length d4] 61))) := (Below.refl _ _).alloc (Nat.le_refl _) _
         have F9 : Hid (B9 (wr.alloc (.cells #[.string F.name, .slice B1 F.al.length d1, .int .i64 F.ty, .bool tb, .int .i64 F.df.k, .int .i64 F.df.n, .string F.df.t, .slice D3 F.df.its.length d3, .slice D4 F.df.ks.length d4] 61)) wr.heap.size 61 (.string F.name) (.slice B1 F.al.length d1) (.int .i64 F.ty) (.bool tb) (.int .i64 F.df.k) (.int .i64 F.df.n) (.string F.df.t) (.slice D3 F.df.its.length d3) (.slice D4 F.df.ks.length d4)) := B9.newat rfl
         have BWA : Hid (Below w.heap.size w (wr.alloc (.cells #[.string F.name, .slice B1 F.al.length d1, .int .i64 F.ty, .bool tb, .int .i64 F.df.k, .int .i64 F.df.n, .string F.df.t, .slice D3 F.df.its.length d3, .slice D4 F.df.ks.length d4] 61))) := bwf.out.trans (BA.out.mono bwf.out.size)
         have BWWA : Hid (Below W.heap.size W (wr.alloc (.cells #[.string F.name, .slice B1 F.al.length d1, .int .i64 F.ty, .bool tb, .int .i64 F.df.k, .int .i64 F.df.n, .string F.df.t, .slice D3 F.df.its.length d3, .slice D4 F.df.ks.length d4] 61))) := bwwf.out.trans (BA.out.mono bwwf.out.size)
         have BFA : Hid (Below V1.heap.size V1 (wr.alloc (.cells #[.string F.name, .slice B1 F.al.length d1, .int .i64 F.ty, .bool tb, .int .i64 F.df.k, .int .i64 F.df.n, .string F.df.t, .slice D3 F.df.its.length d3, .slice D4 F.df.ks.length d4] 61))) := bf.trans (BA.out.mono zf)
         have lww : w.heap.size < wr.heap.size := by have := bwwf.out.size; have := ZS.out; omega
         have lwn : ¬ w.heap.size = wr.heap.size := by omega
         have FL1 := Lib.hid (FL.out (i : Int) (k : Int) _ BWA.out)
         have zfa : (wr.alloc (.cells #[.string F.name, .slice B1 F.al.length d1, .int .i64 F.ty, .bool tb, .int .i64 F.df.k, .int .i64 F.df.n, .string F.df.t, .slice D3 F.df.its.length d3, .slice D4 F.df.ks.length d4] 61)).heap.size = wr.heap.size + 1 := by simp
         have ZFA := Lib.hid zfa
         clear tx hq zfa
         cases tb with
         | false =>
          have E := FX1.out.2 rfl
          rw [E] at FL1
          clear FX1 E
          go_wp2_with fail
          with_reducible refine FL1.out.mono ?_
          rintro e w8 hp8
          obtain ⟨b8, X3, X4, X5, x3, x4, x5, rfl, hl8⟩ := dp_err hp8
          have s8 := b8.size
          rw [ZFA.out] at s8
          have F10 := Lib.hid (B9.below F9.out b8 (by rw [ZFA.out]; omega))
          obtain ⟨_, _, _, _, _, _, _, _, _, _, _, _, _, _, _, _, _, _⟩ := B9.facts F10.out
          have lf10 := F10.out.lt
          have lf11 : ¬ wr.heap.size = w8.heap.size := by omega
          have BF8 : Hid (Below V1.heap.size V1 (w8.alloc (.cells #[.int .i64 0, .int .i64 0, .int .u64 0, .slice X3 0 x3, .slice X4 0 x4, .slice X5 0 x5] 42))) := (BFA.out.trans (b8.mono BFA.out.size)).trans ((Below.refl _ _).alloc (BFA.out.trans (b8.mono BFA.out.size)).size _)
          clear hp8 hl8 b8 FL1
          go_wp2_with fail
          go_roundw
          case rel => exact ⟨k + 1, by omega, by go_num, BF8.out⟩
          case measure => simp [intOf]; omega
         | true =>
          obtain ⟨v, E, cf, wv⟩ := FX1.out.1 rfl
          rw [E] at FL1
          clear FX1 E
          go_wp2_with fail
          with_reducible refine FL1.out.mono ?_
          rintro e w8 hp8
          obtain ⟨b8, X3, X4, X5, x3, x4, x5, rfl, hl8⟩ := dp_ok hp8
          have s8 := b8.size
          rw [ZFA.out] at s8
          have F10 := Lib.hid (B9.below F9.out b8 (by rw [ZFA.out]; omega))
          obtain ⟨_, _, _, _, _, _, _, _, _, _, _, _, _, _, _, _, _, _⟩ := B9.facts F10.out
          have lf10 := F10.out.lt
          have lf11 : ¬ wr.heap.size = w8.heap.size := by omega
          have BW8 : Hid (Below w.heap.size w w8) := BWA.out.trans (b8.mono BWA.out.size)
          have BWW8 : Hid (Below W.heap.size W w8) := BWWA.out.trans (b8.mono BWWA.out.size)
          obtain ⟨V8, hV8⟩ : ∃ U, U = w8.alloc (.cells #[.int .i64 v.k, .int .i64 v.n, .int .u64 v.bt, .slice X3 v.bs.length x3, .slice X4 v.its.length x4, .slice X5 v.ks.length x5] 42) := ⟨_, rfl⟩
          have BA8 : Hid (Below w8.heap.size w8 V8) := by rw [hV8]; exact (Below.refl _ _).alloc (Nat.le_refl _) _
          have BF8 : Hid (Below V1.heap.size V1 V8) := (BFA.out.trans (b8.mono BFA.out.size)).trans (BA8.out.mono (BFA.out.trans (b8.mono BFA.out.size)).size)
          have S10 := Lib.hid (SBX.out w8 BWW8.out)
          obtain ⟨_, _, _, _⟩ := B2.facts S10.out
          have lw8 : w.heap.size < w8.heap.size := by omega
          have lw8n : ¬ w.heap.size = w8.heap.size := by omega
          have BWV8 : Hid (Below w.heap.size w V8) := BW8.out.trans (BA8.out.mono BW8.out.size)
          have HL8 : Hid (Lies V8 (· < V8.heap.size) v.enc [.int .i64 v.k, .int .i64 v.n, .int .u64 v.bt, .slice X3 v.bs.length x3, .slice X4 v.its.length x4, .slice X5 v.ks.length x5]) := hl8.keep (fun p hp => BA8.out.cell hp.2) fun b hb => Nat.lt_of_lt_of_le hb.2 BA8.out.size
          have CF8 := Lib.hid (tells_true (CF.out HSM.out v (Nat.le_trans wv (by decide)) F.ty V8 BWV8.out X3 X4 X5 x3 x4 x5 HL8.out) cf)
          clear hp8 hl8 b8 FL1 cf wv
          go_wp2_with fail
          rw [← hV8]
          clear hV8
          with_reducible refine CF8.out.mono ?_
          rintro e w9 ⟨rfl, b9⟩
          have BF9 : Hid (Below V1.heap.size V1 w9) := BF8.out.trans (b9.mono BF8.out.size)
          clear CF8 b9
          go_wp2_with fail
          go_roundw
          case rel => exact ⟨k + 1, by omega, by go_num, BF9.out⟩
          case measure => simp [intOf]; omega
       · obtain rfl : k = nf := by omega
         have qk : ¬ (k : Int) < (k : Int) := by omega
         have BL2 : Hid (Below w7.heap.size w7 wr) := BLV.out.trans (bf.mono BLV.out.size)
         go_wp2_with fail
         go_roundw
         case rel => exact ⟨i + 1, by omega, by go_num, BL2.out⟩
         case measure => simp [intOf]; omega
    · obtain rfl : i = nn := by omega
      have q : ¬ (i : Int) < (i : Int) := by omega
      have bwr' := bwr.out
      go_wp2_with fail
      go_ret
      exact ⟨rfl, bwr'⟩
end Go.Proofs.YthfoomobicbcpaaGreatDoor
