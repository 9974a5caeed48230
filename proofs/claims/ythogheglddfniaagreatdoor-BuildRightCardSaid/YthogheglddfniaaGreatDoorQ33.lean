/- Joined by tools/bundle.py: BLawB. -/
import Derived.BigQuiet
import Derived.Test.YthogheglddfniaaGreatDoorQ10
import Derived.Test.YthogheglddfniaaGreatDoorQ30
import Derived.Test.YthogheglddfniaaGreatDoorQ32
import Derived.Test.YthogheglddfniaaGreatDoorQ0
set_option maxRecDepth 100000
set_option maxHeartbeats 16000000
namespace Go.Proofs.YthogheglddfniaaGreatDoor
open Go.ChangeShapes Go.WideShapes Go.ChangeAt Go.RowKit Mem
def jList (j : J) : J := .mk 5 0 Jp.nil_ [j] []
theorem list_wt (j : J) : (jList j).wt <= j.wt + 20 := by
 have : Jp.nil_.size = 0 := rfl
 have e : (jList j).wt = 1 + Jp.nil_.size + kwt [] + J.wts [j] := by unfold jList; rw [J.wt]
 have e2 : J.wts [j] = j.wt := by rw [J.wts, J.wts]; omega
 have e3 : kwt [] = 0 := rfl
 omega
theorem list_deep (j : J) : (jList j).deep = j.deep + 1 := by
 rw [J.deep_in (.inl rfl)]
 show J.deeps [j] = _
 rw [J.deeps, J.deeps]
 omega
theorem list_tree {w : World} {S : Nat -> Prop} {j : J} {I : Nat} {A3 A4 : Option Addr} {c3 c4 : Nat} (hI : S I) (h : B5 w I 25 (.int .i64 j.k) (.int .i64 j.n) (.string j.t) (.slice A3 j.its.length c3) (.slice A4 j.ks.length c4)) (ht : TreeS w S j [.int .i64 j.k, .int .i64 j.n, .string j.t, .slice A3 j.its.length c3, .slice A4 j.ks.length c4]) : TreeS w S (jList j) [.int .i64 5, .int .i64 0, .string ⟨#[]⟩, .slice (some ⟨I, 0, none⟩) 1 1, .slice none 0 0] := by
 obtain ⟨c0, c1, c2, c3', c4', _⟩ := B5.facts h
 refine ⟨some ⟨I, 0, none⟩, 1, none, 0, rfl, ⟨nlr _, by show 1 <= maxLen; unfold maxLen; decide⟩, ⟨nlr _, Nat.zero_le _⟩, ⟨I, 0, _, rfl, hI, fun i hi => ?_, ht, trivial⟩, .inl rfl⟩
 obtain rfl | rfl | rfl | rfl | rfl : i = 0 ∨ i = 1 ∨ i = 2 ∨ i = 3 ∨ i = 4 := by omega
 · exact c0
 · exact c1
 · exact c2
 · exact c3'
 · exact c4'
theorem bbuild_sm {j : J} {ns : List Nd} (hw : j.wt <= 2500) (h : bbuild j = .ok ns) : (⟨ns, 0⟩ : Sc).sm /\ (⟨ns, 0⟩ : Sc).right /\ ns.length <= 200 := by
 obtain ⟨r, p, hb⟩ := built_right h
 have l : ns.length <= 200 := r.1.2.1
 exact ⟨right_sm ⟨l, r.2.1⟩ (bnode_df 2500 33 [] j ⟨#[]⟩ ns p hw hb), r, l⟩
theorem buildRight_walk (j : J) (w : World) (hL : LaidN w) (A3 A4 : Option Addr) (c3 c4 : Nat) (ht : TreeC w w.heap.size j [.int .i64 j.k, .int .i64 j.n, .string j.t, .slice A3 j.its.length c3, .slice A4 j.ks.length c4]) : Calls Tryz.prog 4 #[.agg #[.int .i64 j.k, .int .i64 j.n, .string j.t, .slice A3 j.its.length c3, .slice A4 j.ks.length c4]] w (fun e w' => e = .returned (.bool true) /\ Below w.heap.size w w') := by
 have CS := cell_set
 have HL := lhq (fun W (b : Below w.heap.size w W) => LaidN.below hL b)
 have HT : Hid (∀ W, Below w.heap.size w W -> TreeC W W.heap.size j [.int .i64 j.k, .int .i64 j.n, .string j.t, .slice A3 j.its.length c3, .slice A4 j.ks.length c4]) := fun W b => (ht.below b).more b.size
 have BN : Hid (Below w.heap.size w (w.alloc (.cells #[.int .i64 j.k, .int .i64 j.n, .string j.t, .slice A3 j.its.length c3, .slice A4 j.ks.length c4] 25))) := by show Below _ _ _; exact bqq
 have J0 : Hid (B5 (w.alloc (.cells #[.int .i64 j.k, .int .i64 j.n, .string j.t, .slice A3 j.its.length c3, .slice A4 j.ks.length c4] 25)) w.heap.size 25 (.int .i64 j.k) (.int .i64 j.n) (.string j.t) (.slice A3 j.its.length c3) (.slice A4 j.ks.length c4)) := B5.newat rfl
 have WK := lhq (works12_any _ (HL.out _ BN.out))
 have GR := lhq (fun W (b : Below w.heap.size w W) => great_any j W A3 A4 c3 c4 (HT.out W b))
 clear hL ht
 go_enter Tryz.func4, Tryz.ntmps4
 go_wp2_with fail
 with_reducible refine WK.out.mono ?_
 rintro e w1 ⟨rfl, b1⟩
 have bw1 : Below w.heap.size w w1 := BN.out.trans (b1.mono BN.out.size)
 have J1 := lhq (B5.below J0.out b1 J0.out.lt)
 have jl1 := J1.out.lt
 obtain ⟨_, _, _, _, _, _, _, _, _, _⟩ := B5.facts J1.out
 clear b1 WK J0 BN
 go_wp2_with fail
 with_reducible refine (GR.out _ bw1).mono ?_
 rintro e w2 ⟨b, rfl, hb, b2⟩
 have bw2 : Below w.heap.size w w2 := bw1.trans (b2.mono bw1.size)
 have J2 := lhq (B5.below J1.out b2 J1.out.lt)
 have jl2 := J2.out.lt
 have HB := lhq hb
 clear b2 GR J1 hb
 cases b with
 | true =>
  clear HB
  go_wp2_with fail
  go_ret
  exact ⟨rfl, bqq⟩
 | false =>
 obtain ⟨dj, wj⟩ := HB.out rfl
 have hw1 : j.wt <= 2500 := by omega
 have hw2 : (jList j).wt <= 2500 := by have := list_wt j; omega
 have hd2 : (jList j).deep <= 1000000 := by rw [list_deep]; omega
 have BA := lhq (fun W (b : Below w.heap.size w W) => build_any j hw1 omq W (HL.out W b) A3 A4 c3 c4 (HT.out W b) _ rfl)
 have BB := lhq (fun W (b : Below w.heap.size w W) I (hI : I < W.heap.size) h => build_any (jList j) hw2 hd2 W (HL.out W b) (some ⟨I, 0, none⟩) none 1 0 (list_tree hI h (HT.out W b)) _ rfl)
 change Hid (∀ W, Below w.heap.size w W -> ∀ I (hI : I < W.heap.size) (h : B5 W I 25 (.int .i64 j.k) (.int .i64 j.n) (.string j.t) (.slice A3 j.its.length c3) (.slice A4 j.ks.length c4)), Calls _ _ #[.agg #[.int .i64 5, .int .i64 0, .string ⟨#[]⟩, .slice (some ⟨I, 0, none⟩) 1 1, .slice none 0 0]] W _) at BB
 have DP := lhq (fun W (b : Below w.heap.size w W) => deep_at _ j (nlr _) omq W A3 A4 c3 c4 (HT.out W b))
 have SM := lhq (fun ns (h : bbuild j = .ok ns) => bbuild_sm hw1 h)
 have WB := lhq (fun ns (h : bbuild j = .ok ns) => wrap_built h Jp.nil_ rfl)
 change Hid (∀ ns, bbuild j = .ok ns -> ∃ n0 r, ns = n0 :: r /\ (if j.deep = 32 then bbuild (jList j) = .error 2 else if ns.length = 200 then bbuild (jList j) = .error 3 else if n0.k = 13 then bbuild (jList j) = .error 34 else bbuild (jList j) = .ok (wrapU ns))) at WB
 have BA2 := lhq (BA.out w2 bw2)
 generalize bbuild (jList j) = R2 at *
 obtain ⟨_, _, _, _, _, _, _, _, _, _⟩ := B5.facts J2.out
 clear hw1 hw2 hd2 dj wj HB BA
 go_wp2_with fail
 with_reducible refine BA2.out.mono ?_
 rintro e w3 ⟨b3, h3, h3'⟩
 have bw3 : Below w.heap.size w w3 := bw2.trans (b3.mono bw2.size)
 have J3 := lhq (B5.below J2.out b3 J2.out.lt)
 have jl3 := J3.out.lt
 clear BA2 J2
 cases hR : bbuild j with
 | error z =>
  obtain ⟨hz, rfl⟩ := h3 z hR
  have qz : (z != 0) = true := by rw [bne_iff_ne]; exact hz
  clear h3 h3' hz hR BB WB SM DP b3
  go_wp2_with fail
  go_ret
  exact ⟨rfl, bqq⟩
 | ok ns =>
 obtain ⟨A, c, rfl, nc⟩ := h3' ns hR
 obtain ⟨sm, sr, l200⟩ := SM.out ns hR
 obtain ⟨n0, r, hns, hw⟩ := WB.out ns hR
 have hn0 : 0 < ns.length := by rw [hns]; simp
 have hg0 : ns[0]'hn0 = n0 := by subst hns; rfl
 obtain ⟨n, hn⟩ : ∃ n, n = ns.length := ⟨_, rfl⟩
 have HN := lhq hn
 have W4 : Below w3.heap.size w3 (w3.alloc (.cells #[.slice A n c, .int .i64 0] 30)) := (Below.refl _ _).alloc (nlr _) _
 have SR := sRightX_any ⟨ns, 0⟩ sm (w3.alloc (.cells #[.slice A n c, .int .i64 0] 30)) (LaidN.below (HL.out w3 bw3) W4) A c ((nc.below W4).lies)
 dsimp only at SR
 obtain ⟨_, _, e, la, ra⟩ := Sc.out.1 nc.lies
 simp only [List.cons.injEq, Value.slice.injEq, true_and, and_true] at e
 obtain ⟨rfl, rfl⟩ := e
 dsimp only at ra
 obtain ⟨g0, o0, _, _, _, _, _, _, _, _, rfl, lg0, ⟨k00, k01, y2, y3, y4, y5, y6, y7, y8, y9⟩, yl⟩ := nodes_at ra (i := 0) hn0
 rw [hg0] at k00 k01
 replace k00 : w3.cell? ⟨g0, o0, none⟩ = some (.int .i64 n0.k) := by simpa using k00
 replace k01 : w3.cell? ⟨g0, o0 + 1, none⟩ = some (.string n0.name) := by simpa using k01
 rw [← hn] at SR hw ⊢
 have SR := lhq SR
 have HW := lhq hw
 have HSR := lhq sr
 have S4' : Hid (B2 (w3.alloc (.cells #[.slice (some ⟨g0, o0, none⟩) n c, .int .i64 0] 30)) w3.heap.size 30 (.slice (some ⟨g0, o0, none⟩) n c) (.int .i64 0)) := B2.newat rfl
 have BW4 : Hid (Below w.heap.size w (w3.alloc (.cells #[.slice (some ⟨g0, o0, none⟩) n c, .int .i64 0] 30))) := by show Below _ _ _; exact bqq
 have n1 : 0 < n := by omega
 have n200 : n <= 200 := by omega
 have HWR := lhq hns
 clear y2 y3 y4 y5 y6 y7 y8 y9 yl
 clear h3 h3' hR WB SM b3 hw sr sm la ra hn hn0 hg0 l200 nc W4
 have lS : w3.heap.size ≠ g0 := by omega
 have J4 := lhq (J3.out.alloc (.cells #[.slice (some ⟨g0, o0, none⟩) n c, .int .i64 0] 30))
 go_wp2_with fail
 with_reducible refine SR.out.mono ?_
 rintro e w5 ⟨b, rfl, hb, b5⟩
 obtain rfl : b = true := hb.2 HSR.out
 have bw5 : Below w.heap.size w w5 := BW4.out.trans (b5.mono BW4.out.size)
 have b35 : Below w3.heap.size w3 w5 := ((Below.refl w3.heap.size w3).alloc (nlr _) (.cells #[.slice (some ⟨g0, o0, none⟩) n c, .int .i64 0] 30)).trans (b5.mono smq)
 have S5 := lhq (B2.below S4'.out b5 S4'.out.lt)
 have J5 := lhq (B5.below J4.out b5 J4.out.lt)
 have k50 := (b35.cell (p := ⟨g0, o0, none⟩) lg0).trans k00
 have k51 := (b35.cell (p := ⟨g0, o0 + 1, none⟩) lg0).trans k01
 have sl5 := S5.out.lt
 have B6 : Hid (Below w.heap.size w (w5.alloc (.cells #[.int .i64 j.k, .int .i64 j.n, .string j.t, .slice A3 j.its.length c3, .slice A4 j.ks.length c4] 25))) := by show Below _ _ _; exact bqq
 have B56 : Hid (Below w5.heap.size w5 (w5.alloc (.cells #[.int .i64 j.k, .int .i64 j.n, .string j.t, .slice A3 j.its.length c3, .slice A4 j.ks.length c4] 25))) := (Below.refl _ _).alloc (nlr _) _
 have C6 := lhq (BB.out _ B6.out w5.heap.size smq (B5.newat rfl))
 have lg5 : g0 < w5.heap.size := by omega
 have HB35 := lhq b35
 obtain ⟨_, _, _, _, _, _, _, _, _, _⟩ := B5.facts J5.out
 clear hb b5 SR S4' J4 BB b35 HSR J3 k00 k01
 go_wp2_with fail
 with_reducible refine C6.out.mono ?_
 rintro e w6 ⟨b6, h6, h6'⟩
 have bw6 : Below w.heap.size w w6 := B6.out.trans (b6.mono B6.out.size)
 have b56 : Below w5.heap.size w5 w6 := B56.out.trans (b6.mono B56.out.size)
 have S6 := lhq (B2.below S5.out b56 S5.out.lt)
 have J6 := lhq (B5.below J5.out b56 J5.out.lt)
 have k60 := (b56.cell (p := ⟨g0, o0, none⟩) lg5).trans k50
 have k61 := (b56.cell (p := ⟨g0, o0 + 1, none⟩) lg5).trans k51
 have sl6 := S6.out.lt
 have jl6 := J6.out.lt
 have lg6 : g0 < w6.heap.size := by omega
 obtain ⟨K, hK⟩ : ∃ K, K = n0.k := ⟨_, rfl⟩
 obtain ⟨nm, hnm⟩ : ∃ s, s = n0.name := ⟨_, rfl⟩
 rw [← hK] at k60
 rw [← hnm] at k61
 have HK := lhq hK
 have HNM := lhq hnm
 have hw := HW.out
 rw [← hK] at hw
 obtain ⟨_, _, _, _⟩ := B2.facts S6.out
 have qn : (0 : Int) < (n : Int) := by omega
 have H6 := lhq h6
 have H6' := lhq h6'
 clear h6 h6' hK hnm HW C6 S5 J5 b6 B6 B56 k50 k51 HB35
 by_cases h32 : j.deep = 32
 · rw [if_pos h32] at hw
   obtain ⟨_, rfl⟩ := H6.out 2 hw
   have DPP := lhq (fun W (b : Below w6.heap.size w6 W) => DP.out W (bw6.trans (b.mono bw6.size)))
   rw [h32] at DPP
   obtain ⟨_, _, _, _, _, _, _, _, _, _⟩ := B5.facts J6.out
   clear hw h32 H6 H6' DP
   by_cases k13 : K = 13
   · have q13 : (K == 13) = true := by rw [beq_iff_eq]; exact k13
     clear k13
     go_wp2_with fail
     go_ret
     exact ⟨rfl, bqq⟩
   · have q13 : (K == 13) = false := by rw [beq_eq_false_iff_ne]; exact k13
     clear k13
     go_wp2_with fail
     with_reducible refine (DPP.out _ bqq).mono ?_
     rintro e w7 ⟨rfl, b7⟩
     go_wp2_with fail
     go_ret
     exact ⟨rfl, bqq⟩
 rw [if_neg h32] at hw
 by_cases h200 : n = 200
 · rw [if_pos h200] at hw
   obtain ⟨_, rfl⟩ := H6.out 3 hw
   have q200 : ((n : Int) == 200) = true := by rw [beq_iff_eq]; omega
   clear hw h32 H6 H6' DP h200
   by_cases k13 : K = 13
   · have q13 : (K == 13) = true := by rw [beq_iff_eq]; exact k13
     clear k13
     go_wp2_with fail
     go_ret
     exact ⟨rfl, bqq⟩
   · have q13 : (K == 13) = false := by rw [beq_eq_false_iff_ne]; exact k13
     clear k13
     go_wp2_with fail
     go_ret
     exact ⟨rfl, bqq⟩
 rw [if_neg h200] at hw
 by_cases k13 : K = 13
 · rw [if_pos k13] at hw
   obtain ⟨_, rfl⟩ := H6.out 34 hw
   have q13 : (K == 13) = true := by rw [beq_iff_eq]; exact k13
   clear hw h32 H6 H6' DP h200 k13
   go_wp2_with fail
   go_ret
   exact ⟨rfl, bqq⟩
 rw [if_neg k13] at hw
 obtain ⟨A', c', rfl, nc'⟩ := H6'.out _ hw
 have q13 : (K == 13) = false := by rw [beq_eq_false_iff_ne]; exact k13
 have lw : (wrapU ns).length = n + 1 := by unfold wrapU; rw [List.length_cons, List.length_map, HN.out]
 have hW0 : 0 < (wrapU ns).length := by omega
 have hW1 : 1 < (wrapU ns).length := by omega
 obtain ⟨_, _, e, la, ra⟩ := Sc.out.1 nc'.lies
 simp only [List.cons.injEq, Value.slice.injEq, true_and, and_true] at e
 obtain ⟨rfl, rfl⟩ := e
 dsimp only at ra
 obtain ⟨g1, o1, _, _, _, _, _, _, A9, c9, e1, lg1, ⟨t00, _, _, _, _, _, _, _, _, t09⟩, l0⟩ := nodes_at ra (i := 0) hW0
 obtain ⟨g1', o1', _, _, _, _, _, _, _, _, e1', _, ⟨t10, t11, _, _, _, _, _, _, _, _⟩, _⟩ := nodes_at ra (i := 1) hW1
 rw [e1] at e1'
 simp only [Option.some.injEq, Addr.mk.injEq, and_true] at e1'
 obtain ⟨rfl, rfl⟩ := e1'
 have z0 : (wrapU ns)[0]'hW0 = { Nd.z 13 with br := [1] } := rfl
 have z1 : (wrapU ns)[1]'hW1 = sh n0 := by have := HWR.out; subst this; rfl
 rw [z1] at t10 t11
 rw [z0] at t00 t09 l0
 obtain ⟨_, _, _, _, _, _, B9, d9, ee, _, _, _, _, _, _, _, r9⟩ := Nd.out.1 l0
 simp only [List.cons.injEq, Value.slice.injEq, true_and, and_true] at ee
 obtain ⟨_, _, _, rfl, rfl⟩ := ee
 obtain ⟨g9, o9, rfl, lg9, t9⟩ := ints_at r9 (i := 0) dcq
 replace t00 : w6.cell? ⟨g1, o1, none⟩ = some (.int .i64 13) := by simpa [Nd.z] using t00
 replace t09 : w6.cell? ⟨g1, o1 + 9, none⟩ = some (.slice (some ⟨g9, o9, none⟩) 1 c9) := by simpa using t09
 replace t10 : w6.cell? ⟨g1, o1 + 10, none⟩ = some (.int .i64 K) := by rw [HK.out]; simpa [sh] using t10
 replace t11 : w6.cell? ⟨g1, o1 + 11, none⟩ = some (.string nm) := by rw [HNM.out]; simpa [sh, Nat.add_assoc] using t11
 replace t9 : w6.cell? ⟨g9, o9, none⟩ = some (.int .i64 1) := by simpa using t9
 subst e1
 rw [lw]
 have wz : IntKind.i64.wrap ((n : Int) + 1) = (n : Int) + 1 := by rw [IntKind.wrap_i64]; omega
 have cz : ((n + 1 : Nat) : Int) = (n : Int) + 1 := by omega
 have q1 : (1 : Int) < (n : Int) + 1 := by omega
 have q0 : (0 : Int) < (n : Int) + 1 := by omega
 clear hw h32 H6 H6' DP h200 k13 nc' la ra z0 z1 r9 l0 lw HWR HK HNM HL HT
 go_wp2_with fail
 go_quiet (fail)
 go_wp2_with fail
 go_ret
 exact ⟨rfl, bqq⟩
end Go.Proofs.YthogheglddfniaaGreatDoor
