/- The walks of layer 5's statements. -/
import Derived.Test.YtcnalkbedcgknaaPromB
import Derived.Test.YtcnalkbedcgknaaFpB
import Derived.Test.YtcnalkbedcgknaaPromR
namespace Go.Proofs.Ytcnalkbedcgknaa
open Go.ChangeShapes Go.WideShapes Go.ChangeAt Go.RowKit

theorem Double_1 (w : World) : Calls Try.prog 7 #[.int .i64 1] w fun e w' => e = .returned (.int .u64 4607182418800017408) ∧ Grown w w' := by
  have h := Double_any 1 (by decide) (by decide) w
  rw [show Fp.fp 11 52 1023 1 = 4607182418800017408 by decide +kernel] at h
  exact h

theorem Float_1 (w : World) : Calls Try.prog 9 #[.int .i64 16777217] w fun e w' => e = .returned (.int .u32 1266679808) ∧ Grown w w' := by
  have h := Float_any 16777217 (by decide) (by decide) w
  rw [show Fp.fp 8 23 127 16777217 = 1266679808 by decide +kernel] at h
  exact h

theorem Wide_1 (w : World) : Calls Try.prog 14 #[.int .u32 1069547520] w fun e w' => e = .returned (.int .u64 4609434218613702656) ∧ Grown w w' := by
  have h := Wide_any 1069547520 (by decide) w
  rw [show Fp.wide 1069547520 = 4609434218613702656 by decide +kernel] at h
  exact h

theorem Whole_1 (w : World) : Calls Try.prog 12 #[.int .u64 13835058055282163712] w fun e w' => e = .returned (.tuple #[.int .i64 (-2), .bool true]) ∧ Grown w w' := by
  have h := Whole_any 13835058055282163712 (by decide) w
  rw [show Fp.hol 13835058055282163712 = -2 by decide +kernel, show Fp.hok 13835058055282163712 = true by decide +kernel] at h
  exact h

theorem Round_1 (w : World) : Calls Try.prog 16 #[.int .u64 6, .int .u64 2] w fun e w' => e = .returned (.int .u64 2) ∧ w = w' := by
  have h := Round_any 6 2 (by decide) (by decide) w
  rw [show Fp.rnd 6 2 = 2 by decide +kernel] at h
  exact h

theorem works_any (w : World) : Calls Try.prog 11 #[] w fun e w' => e = .returned (.bool true) ∧ Grown w w' := by
  go_enter Try.func11, Try.ntmps11
  go_wp2_with fail
  refine (Whole_1 _).mono ?_
  rintro e w1 ⟨rfl, g1⟩
  go_wp2_with fail
  refine (Double_1 _).mono ?_
  rintro e w2 ⟨rfl, g2⟩
  go_wp2_with fail
  refine (Float_1 _).mono ?_
  rintro e w3 ⟨rfl, g3⟩
  go_wp2_with fail
  refine (Wide_1 _).mono ?_
  rintro e w4 ⟨rfl, g4⟩
  go_wp2_with fail
  refine (Round_1 _).mono ?_
  rintro e w5 ⟨rfl, rfl⟩
  go_wp2_with fail
  all_goals go_ret
  exact ⟨rfl, grown_trans g1 (grown_trans g2 (grown_trans g3 g4))⟩

theorem fi64 {a : Int} (h : (Lit.int .i64 a).wf = true) : -9223372036854775808 ≤ a ∧ a ≤ 9223372036854775807 := by
  simpa [Lit.wf, IntKind.min, IntKind.max, IntKind.signed, IntKind.bits] using h
theorem fu64 {a : Int} (h : (Lit.int .u64 a).wf = true) : 0 ≤ a ∧ a ≤ 18446744073709551615 := by
  simpa [Lit.wf, IntKind.min, IntKind.max, IntKind.signed, IntKind.bits] using h
theorem fi32 {a : Int} (h : (Lit.int .i32 a).wf = true) : -2147483648 ≤ a ∧ a ≤ 2147483647 := by
  simpa [Lit.wf, IntKind.min, IntKind.max, IntKind.signed, IntKind.bits] using h
theorem fu32 {a : Int} (h : (Lit.int .u32 a).wf = true) : 0 ≤ a ∧ a ≤ 4294967295 := by
  simpa [Lit.wf, IntKind.min, IntKind.max, IntKind.signed, IntKind.bits] using h

theorem promoteNumbers_walk (n : Int) (hn : (Lit.int .i64 n).wf = true) (w : World) :
    Calls Try.prog 3 #[.int .i64 n] w fun e w' => e = .returned (.bool true) ∧ Grown w w' := by
  obtain ⟨h0, h1⟩ := fi64 hn
  have D := Lib.hid (Double_any n h0 h1)
  have F := Lib.hid (Float_any n h0 h1)
  have RD := Lib.hid (rDouble_any n h0 h1)
  have RF := Lib.hid (rFloat_any n h0 h1)
  clear hn
  generalize ((Fp.fp 11 52 1023 n : Nat) : Int) = X at *
  generalize ((Fp.fp 8 23 127 n : Nat) : Int) = Y at *
  go_enter Try.func3, Try.ntmps3
  go_wp2_with fail
  refine (D.out _).mono ?_
  rintro e w1 ⟨rfl, g1⟩
  go_wp2_with fail
  refine (RD.out _).mono ?_
  rintro e w2 ⟨rfl, rfl⟩
  go_wp2_with fail
  refine (F.out _).mono ?_
  rintro e w3 ⟨rfl, g3⟩
  go_wp2_with fail
  refine (RF.out _).mono ?_
  rintro e w4 ⟨rfl, rfl⟩
  go_wp2_with fail
  refine (works_any _).mono ?_
  rintro e w5 ⟨rfl, g5⟩
  go_wp2_with fail
  all_goals go_ret
  exact ⟨rfl, grown_trans g1 (grown_trans g3 g5)⟩

theorem order64_any (x : Nat) (hx : x < 18446744073709551616) (w : World) :
    Calls Try.prog 18 #[.int .u64 x] w fun e w' => e = .returned (.int .u64 (Fp.o64 x : Nat)) ∧ w = w' := by
  by_cases h : x / 9223372036854775808 = 1
  · have F : Hid (Fp.o64 x = 18446744073709551615 - x) := Lib.hid (by unfold Fp.o64; rw [if_pos h])
    have q : ((x : Int) / 9223372036854775808 == 1) = true := by rw [show (x : Int) / 9223372036854775808 = 1 by omega]; rfl
    go_enter Try.func18, Try.ntmps18
    go_wp2
    all_goals go_ret
    refine ⟨retInt ?_, rfl⟩
    rw [F.out]
    exact Fp.flip64 hx
  · have F : Hid (Fp.o64 x = x + 9223372036854775808) := Lib.hid (by unfold Fp.o64; rw [if_neg h])
    have q : ((x : Int) / 9223372036854775808 == 1) = false := by simp; omega
    go_enter Try.func18, Try.ntmps18
    go_wp2
    all_goals go_ret
    refine ⟨retInt ?_, rfl⟩
    rw [F.out]
    exact Fp.lift64 (by omega)

theorem order32_any (x : Nat) (hx : x < 4294967296) (w : World) :
    Calls Try.prog 19 #[.int .u32 x] w fun e w' => e = .returned (.int .u32 (Fp.o32 x : Nat)) ∧ w = w' := by
  by_cases h : x / 2147483648 = 1
  · have F : Hid (Fp.o32 x = 4294967295 - x) := Lib.hid (by unfold Fp.o32; rw [if_pos h])
    have q : ((x : Int) / 2147483648 == 1) = true := by rw [show (x : Int) / 2147483648 = 1 by omega]; rfl
    go_enter Try.func19, Try.ntmps19
    go_wp2
    all_goals go_ret
    refine ⟨retInt ?_, rfl⟩
    rw [F.out]
    exact Fp.flip32 hx
  · have F : Hid (Fp.o32 x = x + 2147483648) := Lib.hid (by unfold Fp.o32; rw [if_neg h])
    have q : ((x : Int) / 2147483648 == 1) = false := by simp; omega
    go_enter Try.func19, Try.ntmps19
    go_wp2
    all_goals go_ret
    refine ⟨retInt ?_, rfl⟩
    rw [F.out]
    exact Fp.lift32 (by omega)

theorem promoteRises_walk (n m : Int) (hn : (Lit.int .i64 n).wf = true) (hm : (Lit.int .i64 m).wf = true) (w : World) :
    Calls Try.prog 5 #[.int .i64 n, .int .i64 m] w fun e w' => e = .returned (.bool true) ∧ Grown w w' := by
  obtain ⟨n0, n1⟩ := fi64 hn
  obtain ⟨m0, m1⟩ := fi64 hm
  have Dn := Lib.hid (Double_any n n0 n1); have Dm := Lib.hid (Double_any m m0 m1)
  have Fn := Lib.hid (Float_any n n0 n1); have Fm := Lib.hid (Float_any m m0 m1)
  have On := Lib.hid (order64_any _ (Fp.fp_lt n n0 n1)); have Om := Lib.hid (order64_any _ (Fp.fp_lt m m0 m1))
  have Pn := Lib.hid (order32_any _ (Fp.fp32_lt n n0 n1)); have Pm := Lib.hid (order32_any _ (Fp.fp32_lt m m0 m1))
  clear hn hm
  by_cases h : m < n
  · have L1 := Fp.o64_mono m0 n1 (Int.le_of_lt h)
    have L2 := Fp.o32_mono m0 n1 (Int.le_of_lt h)
    have L3 := Int.ofNat_le.2 L1; have L4 := Int.ofNat_le.2 L2
    clear L1 L2
    generalize ((Fp.o64 (Fp.fp 11 52 1023 n) : Nat) : Int) = A at *
    generalize ((Fp.o64 (Fp.fp 11 52 1023 m) : Nat) : Int) = B at *
    generalize ((Fp.o32 (Fp.fp 8 23 127 n) : Nat) : Int) = C at *
    generalize ((Fp.o32 (Fp.fp 8 23 127 m) : Nat) : Int) = E at *
    go_enter Try.func5, Try.ntmps5
    go_wp2_with fail
    refine (works_any _).mono ?_
    rintro e w1 ⟨rfl, g1⟩
    go_wp2_with fail
    refine (Dm.out _).mono ?_
    rintro e w2 ⟨rfl, g2⟩
    go_wp2_with fail
    refine (Om.out _).mono ?_
    rintro e w3 ⟨rfl, rfl⟩
    go_wp2_with fail
    refine (Dn.out _).mono ?_
    rintro e w4 ⟨rfl, g4⟩
    go_wp2_with fail
    refine (On.out _).mono ?_
    rintro e w5 ⟨rfl, rfl⟩
    go_wp2_with fail
    refine (Fm.out _).mono ?_
    rintro e w6 ⟨rfl, g6⟩
    go_wp2_with fail
    refine (Pm.out _).mono ?_
    rintro e w7 ⟨rfl, rfl⟩
    go_wp2_with fail
    refine (Fn.out _).mono ?_
    rintro e w8 ⟨rfl, g8⟩
    go_wp2_with fail
    refine (Pn.out _).mono ?_
    rintro e w9 ⟨rfl, rfl⟩
    go_wp2_with fail
    all_goals go_ret
    exact ⟨rfl, grown_trans g1 (grown_trans g2 (grown_trans g4 (grown_trans g6 g8)))⟩
  · have L1 := Fp.o64_mono n0 m1 (Int.not_lt.1 h)
    have L2 := Fp.o32_mono n0 m1 (Int.not_lt.1 h)
    have L3 := Int.ofNat_le.2 L1; have L4 := Int.ofNat_le.2 L2
    clear L1 L2
    generalize ((Fp.o64 (Fp.fp 11 52 1023 n) : Nat) : Int) = A at *
    generalize ((Fp.o64 (Fp.fp 11 52 1023 m) : Nat) : Int) = B at *
    generalize ((Fp.o32 (Fp.fp 8 23 127 n) : Nat) : Int) = C at *
    generalize ((Fp.o32 (Fp.fp 8 23 127 m) : Nat) : Int) = E at *
    go_enter Try.func5, Try.ntmps5
    go_wp2_with fail
    refine (works_any _).mono ?_
    rintro e w1 ⟨rfl, g1⟩
    go_wp2_with fail
    refine (Dn.out _).mono ?_
    rintro e w2 ⟨rfl, g2⟩
    go_wp2_with fail
    refine (On.out _).mono ?_
    rintro e w3 ⟨rfl, rfl⟩
    go_wp2_with fail
    refine (Dm.out _).mono ?_
    rintro e w4 ⟨rfl, g4⟩
    go_wp2_with fail
    refine (Om.out _).mono ?_
    rintro e w5 ⟨rfl, rfl⟩
    go_wp2_with fail
    refine (Fn.out _).mono ?_
    rintro e w6 ⟨rfl, g6⟩
    go_wp2_with fail
    refine (Pn.out _).mono ?_
    rintro e w7 ⟨rfl, rfl⟩
    go_wp2_with fail
    refine (Fm.out _).mono ?_
    rintro e w8 ⟨rfl, g8⟩
    go_wp2_with fail
    refine (Pm.out _).mono ?_
    rintro e w9 ⟨rfl, rfl⟩
    go_wp2_with fail
    all_goals go_ret
    exact ⟨rfl, grown_trans g1 (grown_trans g2 (grown_trans g4 (grown_trans g6 g8)))⟩

theorem Double_at (n z : Int) (hz : z = n) (h0 : -9223372036854775808 ≤ n) (h1 : n ≤ 9223372036854775807) (w : World) :
    Calls Try.prog 7 #[.int .i64 z] w fun e w' => e = .returned (.int .u64 (Fp.fp 11 52 1023 n : Nat)) ∧ Grown w w' := by
  subst hz; exact Double_any z h0 h1 w
theorem Float_at (n z : Int) (hz : z = n) (h0 : -9223372036854775808 ≤ n) (h1 : n ≤ 9223372036854775807) (w : World) :
    Calls Try.prog 9 #[.int .i64 z] w fun e w' => e = .returned (.int .u32 (Fp.fp 8 23 127 n : Nat)) ∧ Grown w w' := by
  subst hz; exact Float_any z h0 h1 w

theorem promoteExact_walk (n l d : Int) (hn : (Lit.int .i32 n).wf = true) (hl : (Lit.int .i64 l).wf = true) (hd : (Lit.int .u64 d).wf = true) (w : World) :
    Calls Try.prog 6 #[.int .i32 n, .int .i64 l, .int .u64 d] w fun e w' => e = .returned (.bool true) ∧ Grown w w' := by
  obtain ⟨n0, n1⟩ := fi32 hn
  obtain ⟨l0, l1⟩ := fi64 hl
  obtain ⟨d0, d1⟩ := fu64 hd
  clear hn hl hd
  obtain ⟨d, rfl⟩ : ∃ x : Nat, d = (x : Int) := ⟨d.toNat, by omega⟩
  have F := Lib.hid (Float_at (n / 256)); have D := Lib.hid (Double_at (n / 256)); have W := Lib.hid (Wide_any _ (Fp.fp32_lt (n / 256) (by omega) (by omega)))
  rw [Fp.wide_fp (n / 256) (by omega) (by omega)] at W
  have D2 := Lib.hid (Double_at (l / 2048)); have H2 := Lib.hid (Whole_any _ (Fp.fp_lt (l / 2048) (by omega) (by omega)))
  obtain ⟨e1, e2⟩ := Fp.whole_fp (l / 2048) (by omega) (by omega)
  rw [e1, e2] at H2
  clear e1 e2
  cases hk : Fp.hok d
  · have H := Whole_any d (by omega)
    rw [hk, Fp.hol_not hk] at H
    have H := Lib.hid H
    clear hk
    generalize ((Fp.fp 8 23 127 (n / 256) : Nat) : Int) = X1 at *
    generalize ((Fp.fp 11 52 1023 (n / 256) : Nat) : Int) = X2 at *
    generalize ((Fp.fp 11 52 1023 (l / 2048) : Nat) : Int) = X3 at *
    go_enter Try.func6, Try.ntmps6
    go_wp2_with fail
    refine (works_any _).mono ?_
    rintro e w1 ⟨rfl, g1⟩
    go_wp2_with fail
    refine (F.out _ (by first | rfl | omega) (by omega) (by omega) _).mono ?_
    rintro e w2 ⟨rfl, g2⟩
    go_wp2_with fail
    refine (W.out _).mono ?_
    rintro e w3 ⟨rfl, g3⟩
    go_wp2_with fail
    refine (D.out _ (by first | rfl | omega) (by omega) (by omega) _).mono ?_
    rintro e w4 ⟨rfl, g4⟩
    go_wp2_with fail
    refine (D2.out _ (by first | rfl | omega) (by omega) (by omega) _).mono ?_
    rintro e w5 ⟨rfl, g5⟩
    go_wp2_with fail
    refine (H2.out _).mono ?_
    rintro e w6 ⟨rfl, g6⟩
    go_wp2_with fail
    refine (H.out _).mono ?_
    rintro e w7 ⟨rfl, g7⟩
    have g := grown_trans g1 (grown_trans g2 (grown_trans g3 (grown_trans g4 (grown_trans g5 (grown_trans g6 g7)))))
    clear g1 g2 g3 g4 g5 g6 g7
    go_wp2_with fail
    all_goals go_ret
    exact ⟨rfl, g⟩
  · obtain ⟨y0, y1⟩ := Fp.hol_fit (by omega) hk
    have H := Whole_any d (by omega)
    rw [hk] at H
    have H := Lib.hid H
    have D3 := Double_any (Fp.hol d) y0 y1
    by_cases h63 : d = 9223372036854775808
    · subst h63
      rw [show Fp.hol 9223372036854775808 = 0 by decide +kernel] at D3 H
      rw [show Fp.fp 11 52 1023 0 = 0 by decide +kernel] at D3
      have D3 := Lib.hid D3
      clear hk y0 y1
      generalize ((Fp.fp 8 23 127 (n / 256) : Nat) : Int) = X1 at *
      generalize ((Fp.fp 11 52 1023 (n / 256) : Nat) : Int) = X2 at *
      generalize ((Fp.fp 11 52 1023 (l / 2048) : Nat) : Int) = X3 at *
      go_enter Try.func6, Try.ntmps6
      go_wp2_with fail
      refine (works_any _).mono ?_
      rintro e w1 ⟨rfl, g1⟩
      go_wp2_with fail
      refine (F.out _ (by first | rfl | omega) (by omega) (by omega) _).mono ?_
      rintro e w2 ⟨rfl, g2⟩
      go_wp2_with fail
      refine (W.out _).mono ?_
      rintro e w3 ⟨rfl, g3⟩
      go_wp2_with fail
      refine (D.out _ (by first | rfl | omega) (by omega) (by omega) _).mono ?_
      rintro e w4 ⟨rfl, g4⟩
      go_wp2_with fail
      refine (D2.out _ (by first | rfl | omega) (by omega) (by omega) _).mono ?_
      rintro e w5 ⟨rfl, g5⟩
      go_wp2_with fail
      refine (H2.out _).mono ?_
      rintro e w6 ⟨rfl, g6⟩
      go_wp2_with fail
      refine (H.out _).mono ?_
      rintro e w7 ⟨rfl, g7⟩
      have g := grown_trans g1 (grown_trans g2 (grown_trans g3 (grown_trans g4 (grown_trans g5 (grown_trans g6 g7)))))
      clear g1 g2 g3 g4 g5 g6 g7
      go_wp2_with fail
      refine (D3.out _).mono ?_
      rintro e w8 ⟨rfl, g8⟩
      go_wp2_with fail
      all_goals go_ret
      exact ⟨rfl, grown_trans g g8⟩
    · rw [(Fp.fp_whole (by omega) hk).resolve_right h63] at D3
      have D3 := Lib.hid D3
      clear hk h63
      generalize Fp.hol d = Y at *
      generalize ((Fp.fp 8 23 127 (n / 256) : Nat) : Int) = X1 at *
      generalize ((Fp.fp 11 52 1023 (n / 256) : Nat) : Int) = X2 at *
      generalize ((Fp.fp 11 52 1023 (l / 2048) : Nat) : Int) = X3 at *
      go_enter Try.func6, Try.ntmps6
      go_wp2_with fail
      refine (works_any _).mono ?_
      rintro e w1 ⟨rfl, g1⟩
      go_wp2_with fail
      refine (F.out _ (by first | rfl | omega) (by omega) (by omega) _).mono ?_
      rintro e w2 ⟨rfl, g2⟩
      go_wp2_with fail
      refine (W.out _).mono ?_
      rintro e w3 ⟨rfl, g3⟩
      go_wp2_with fail
      refine (D.out _ (by first | rfl | omega) (by omega) (by omega) _).mono ?_
      rintro e w4 ⟨rfl, g4⟩
      go_wp2_with fail
      refine (D2.out _ (by first | rfl | omega) (by omega) (by omega) _).mono ?_
      rintro e w5 ⟨rfl, g5⟩
      go_wp2_with fail
      refine (H2.out _).mono ?_
      rintro e w6 ⟨rfl, g6⟩
      go_wp2_with fail
      refine (H.out _).mono ?_
      rintro e w7 ⟨rfl, g7⟩
      have g := grown_trans g1 (grown_trans g2 (grown_trans g3 (grown_trans g4 (grown_trans g5 (grown_trans g6 g7)))))
      clear g1 g2 g3 g4 g5 g6 g7
      go_wp2_with fail
      refine (D3.out _).mono ?_
      rintro e w8 ⟨rfl, g8⟩
      go_wp2_with fail
      all_goals go_ret
      exact ⟨rfl, grown_trans g g8⟩

end Go.Proofs.Ytcnalkbedcgknaa
