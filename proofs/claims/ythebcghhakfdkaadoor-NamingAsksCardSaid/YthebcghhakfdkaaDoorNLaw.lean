/- The laws of layer 9, walked. -/
import Derived.Test.YthebcghhakfdkaaDoorNCodeC
namespace Go.Proofs.YthebcghhakfdkaaDoor
open Go.ChangeShapes Go.WideShapes Go.ChangeAt Go.RowKit Mem

theorem ex9 : Nm.join [97, 46, 98] [99] = some [97, 46, 98, 46, 99] ∧ Nm.join [97] [120, 46, 121] = some [120, 46, 121] ∧ Nm.join [] [99] = some [99] ∧ Nm.space [97, 46, 98, 46, 99] = [97, 46, 98] ∧ Nm.last [97, 46, 98, 46, 99] = [99] ∧
    Nm.simple [95, 97, 49] = true ∧ Nm.full [97, 46, 46, 98] = false ∧ Nm.kind [109, 97, 112] = 12 := by decide

set_option maxRecDepth 100000 in
set_option maxHeartbeats 4000000 in
theorem works9_any (w : World) (hL : LaidN w) : Calls Tryd.prog 5 #[] w (Ans (.bool true) w) := by
  obtain ⟨x1, x2, x3, x4, x5, x6, x7, x8⟩ := ex9
  have J1 := Lib.hid (nJoin_any ⟨#[97, 46, 98]⟩ ⟨#[99]⟩ (by decide) (by decide))
  have J2 := Lib.hid (nJoin_any ⟨#[97]⟩ ⟨#[120, 46, 121]⟩ (by decide) (by decide))
  have RS := Lib.hid (nResolve_any ⟨#[99]⟩ ⟨#[]⟩ ⟨#[97]⟩ true (by decide) (by decide) (by decide))
  have SP := Lib.hid (nSpace_any ⟨#[97, 46, 98, 46, 99]⟩ (by decide))
  have LA := Lib.hid (nLast_any ⟨#[97, 46, 98, 46, 99]⟩ (by decide))
  have SM := Lib.hid (nSimple_any ⟨#[95, 97, 49]⟩ (by decide))
  have FU := Lib.hid (nFull_any ⟨#[97, 46, 46, 98]⟩ (by decide))
  have KI := Lib.hid (nKind_any ⟨#[109, 97, 112]⟩ (by decide))
  simp only [if_true, x1, x2, x3, x4, x5, x6, x7, x8, joined, Option.getD_some, Option.isSome_some] at J1 J2 RS SP LA SM FU KI
  unfold sst Ans at *
  clear x1 x2 x3 x4 x5 x6 x7 x8
  go_enter Tryd.func5, Tryd.ntmps5
  go_wp2_with fail
  refine (J1.out _ hL).mono ?_
  rintro e w1 ⟨rfl, b1⟩
  have L1 := hL.below b1
  go_wp2_with fail
  refine (J2.out _ L1).mono ?_
  rintro e w2 ⟨rfl, b2⟩
  have c2 := b1.trans (b2.mono b1.size)
  go_wp2_with fail
  refine (RS.out _ (hL.below c2)).mono ?_
  rintro e w3 ⟨rfl, b3⟩
  have c3 := c2.trans (b3.mono c2.size)
  go_wp2_with fail
  refine (SP.out _ (hL.below c3)).mono ?_
  rintro e w4 ⟨rfl, b4⟩
  have c4 := c3.trans (b4.mono c3.size)
  go_wp2_with fail
  refine (LA.out _ (hL.below c4)).mono ?_
  rintro e w5 ⟨rfl, b5⟩
  have c5 := c4.trans (b5.mono c4.size)
  go_wp2_with fail
  refine (SM.out _ (hL.below c5)).mono ?_
  rintro e w6 ⟨rfl, b6⟩
  have c6 := c5.trans (b6.mono c5.size)
  go_wp2_with fail
  refine (FU.out _ (hL.below c6)).mono ?_
  rintro e w7 ⟨rfl, b7⟩
  have c7 := c6.trans (b7.mono c6.size)
  go_wp2_with fail
  refine (KI.out _ (hL.below c7)).mono ?_
  rintro e w8 ⟨rfl, b8⟩
  have c8 := c7.trans (b8.mono c7.size)
  go_wp2_with fail
  go_ret
  exact ⟨rfl, c8⟩

set_option maxRecDepth 100000 in
set_option maxHeartbeats 8000000 in
theorem namingAsks_walk (s : ByteArray) (k : Int) (w : World) (wk : (Lit.int .i64 k).wf = true) (hL : LaidN w) :
    Calls Tryd.prog 3 #[.string s, .int .i64 k] w fun e w' => e = .returned (.bool true) ∧ Below w.heap.size w w' := by
  obtain ⟨k1, k2⟩ := fit_i64 wk
  have WK := Lib.hid works9_any
  unfold Ans at WK
  by_cases hbig : 1000 < s.size
  · have q : (1000 : Int) < (s.size : Int) := by omega
    go_enter Tryd.func3, Tryd.ntmps3
    go_wp2_with fail
    refine (WK.out _ hL).mono ?_
    rintro e w1 ⟨rfl, b1⟩
    go_wp2_with fail
    go_ret
    exact ⟨rfl, b1⟩
  · have q : ¬ (1000 : Int) < (s.size : Int) := by omega
    have A1 := Lib.hid (nSimple_any s (by omega)); have R1 := Lib.hid (rSimple_any s (by omega))
    have A2 := Lib.hid (nFull_any s (by omega)); have R2 := Lib.hid (rFull_any s (by omega))
    have A3 := Lib.hid (nSpace_any s (by omega)); have R3 := Lib.hid (rSpace_any s (by omega))
    have A4 := Lib.hid (nLast_any s (by omega)); have R4 := Lib.hid (rLast_any s (by omega))
    have A5 := Lib.hid (nKind_any s (by omega)); have R5 := Lib.hid (rKind_any s)
    have A6 := Lib.hid (nWord_any k k1 k2); have R6 := Lib.hid (rWord_any k)
    have ee : ∀ X : ByteArray, (X.toList == X.toList) = true := by simp
    unfold Ans at A1 A2 A3 A4 A5 A6
    unfold Pure at R1 R2 R3 R4 R5 R6
    generalize sst (Nm.space s.data.toList) = X3 at *
    generalize sst (Nm.last s.data.toList) = X4 at *
    generalize sst (Nm.word k) = X6 at *
    generalize Nm.simple s.data.toList = X1 at *
    generalize Nm.full s.data.toList = X2 at *
    generalize (Nm.kind s.data.toList : Nat) = X5 at *
    go_enter Tryd.func3, Tryd.ntmps3
    go_wp2_with fail
    refine (A1.out _ hL).mono ?_
    rintro e w1 ⟨rfl, b1⟩
    go_wp2_with fail
    refine (R1.out _).mono ?_
    rintro e w' ⟨rfl, rfl⟩
    go_wp2_with fail
    refine (A2.out _ (hL.below b1)).mono ?_
    rintro e w2 ⟨rfl, b2⟩
    have c2 := b1.trans (b2.mono b1.size)
    go_wp2_with fail
    refine (R2.out _).mono ?_
    rintro e w' ⟨rfl, rfl⟩
    go_wp2_with fail
    refine (A3.out _ (hL.below c2)).mono ?_
    rintro e w3 ⟨rfl, b3⟩
    have c3 := c2.trans (b3.mono c2.size)
    go_wp2_with fail
    refine (R3.out _).mono ?_
    rintro e w' ⟨rfl, rfl⟩
    go_wp2_with fail
    refine (A4.out _ (hL.below c3)).mono ?_
    rintro e w4 ⟨rfl, b4⟩
    have c4 := c3.trans (b4.mono c3.size)
    go_wp2_with fail
    refine (R4.out _).mono ?_
    rintro e w' ⟨rfl, rfl⟩
    go_wp2_with fail
    refine (A5.out _ (hL.below c4)).mono ?_
    rintro e w5 ⟨rfl, b5⟩
    have c5 := c4.trans (b5.mono c4.size)
    go_wp2_with fail
    refine (R5.out _).mono ?_
    rintro e w' ⟨rfl, rfl⟩
    go_wp2_with fail
    refine (A6.out _ (hL.below c5)).mono ?_
    rintro e w6 ⟨rfl, b6⟩
    have c6 := c5.trans (b6.mono c5.size)
    go_wp2_with fail
    refine (R6.out _).mono ?_
    rintro e w' ⟨rfl, rfl⟩
    go_wp2_with fail
    refine (WK.out _ (hL.below c6)).mono ?_
    rintro e w7 ⟨rfl, b7⟩
    go_wp2_with fail
    go_ret
    exact ⟨rfl, c6.trans (b7.mono c6.size)⟩
end Go.Proofs.YthebcghhakfdkaaDoor
