/- The calls of layer 1, and the document's own answers for it, at every input. -/
import Derived.Test.YtojbbofiphheaaaRows
import Derived.Test.YtojbbofiphheaaaNum
import Derived.WalkKit
import Derived.ProofKit
import Derived.OpenShut
import Derived.Deep.QuietTactic
import Derived.BigQuiet
import Derived.Lib.Hide
import Derived.WalkMore
import Derived.Deep.LoopGhost
namespace Go.Proofs.Ytojbbofiphheaaa
open Go.ChangeShapes Go.WideShapes Go.ChangeAt Go.RowKit

theorem retInt {k : IntKind} {a b : Int} (h : a = b) : Ending.returned (.int k a) = .returned (.int k b) := by rw [h]

theorem zig_any (n : Int) (h0 : -9223372036854775808 ≤ n) (h1 : n ≤ 9223372036854775807) (w : World) :
    Calls Try.prog 15 #[.int .i64 n] w fun e w' => e = .returned (.int .u64 (Num.zig n)) ∧ w = w' := by
  go_enter Try.func15, Try.ntmps15
  go_wp2
  go_ret
  exact ⟨retInt (Num.zig_code h0 h1), rfl⟩

theorem rzig_any (n : Int) (h0 : -9223372036854775808 ≤ n) (h1 : n ≤ 9223372036854775807) (w : World) :
    Calls Try.prog 16 #[.int .i64 n] w fun e w' => e = .returned (.int .u64 (Num.zig n)) ∧ w = w' := by
  by_cases h : 0 ≤ n
  · go_enter Try.func16, Try.ntmps16
    go_wp2
    go_ret
    exact ⟨retInt (by rw [Num.zig_pos h]), rfl⟩
  · have h' : n < 0 := by omega
    go_enter Try.func16, Try.ntmps16
    go_wp2
    go_ret
    exact ⟨retInt (by rw [Num.zig_neg h']; omega), rfl⟩

theorem zag_any (u : Int) (h0 : 0 ≤ u) (h1 : u ≤ 18446744073709551615) (w : World) :
    Calls Try.prog 20 #[.int .u64 u] w fun e w' => e = .returned (.int .i64 (Num.zag u)) ∧ w = w' := by
  go_enter Try.func20, Try.ntmps20
  go_wp2
  go_ret
  exact ⟨retInt (Num.zag_code h0 h1), rfl⟩

theorem rzag_any (u : Int) (h0 : 0 ≤ u) (h1 : u ≤ 18446744073709551615) (w : World) :
    Calls Try.prog 26 #[.int .u64 u] w fun e w' => e = .returned (.int .i64 (Num.zag u)) ∧ w = w' := by
  by_cases h : u % 2 = 0
  · go_enter Try.func26, Try.ntmps26
    go_wp2
    go_ret
    exact ⟨retInt (by rw [Num.zag_even h]), rfl⟩
  · have h' : u % 2 = 1 := by omega
    go_enter Try.func26, Try.ntmps26
    go_wp2
    go_ret
    exact ⟨retInt (by rw [Num.zag_odd h']), rfl⟩


theorem zag32_any (u : Int) (h0 : 0 ≤ u) (h1 : u ≤ 4294967295) (w : World) :
    Calls Try.prog 22 #[.int .u32 u] w fun e w' => e = .returned (.int .i32 (Num.zag u)) ∧ w = w' := by
  go_enter Try.func22, Try.ntmps22
  go_wp2
  go_ret
  exact ⟨retInt (Num.zag32_code h0 h1), rfl⟩


theorem bits_any (u : Int) (h0 : 0 ≤ u) (h1 : u ≤ 18446744073709551615) (w : World) :
    Calls Try.prog 23 #[.int .u64 u] w fun e w' => e = .returned (.int .i64 (Num.bl u)) ∧ w = w' := by
  have hb := Num.bl_hi h1
  go_enter Try.func23, Try.ntmps23
  go_wp2
  go_step3
  go_wp2
  go_step3
  go_wp2
  go_loop [0, 3] (fun a c => ∃ v n : Int, 0 ≤ v ∧ v ≤ u ∧ 0 ≤ n ∧ n + Num.bl v = Num.bl u ∧ a = .int .u64 v ∧ c = .int .i64 n) (fun a _ => (intOf a).toNat)
  case atStart => exact ⟨u, 0, h0, by omega, by omega, by omega, rfl, rfl⟩
  case round =>
    obtain ⟨v, n, g0, g1, g2, g3, rfl, rfl⟩ := hrel
    have g4 := Num.bl_lo v
    by_cases hv : v = 0
    · subst hv
      have G := Lib.hid g3; clear g3
      go_wp2
      go_ret
      exact ⟨retInt (by have := G.out; rw [Num.bl_zero] at this; omega), rfl⟩
    · have hv0 : (v == 0) = false := by simp [hv]
      have hv1 : 0 < v := by omega
      by_cases hv2 : 255 < v
      · have H := Lib.hid (Num.bl_8 hv2 (by omega)); have p := Num.bl_pos (u := v / 256) (by omega)
        have g5 : n + 8 ≤ 64 := by have := H.out; omega
        have G := Lib.hid g3
        clear g3 hv
        go_wp2
        go_round
        case rel => exact ⟨v / 256, n + 8, by omega, by omega, by omega, by have := H.out; have := G.out; omega, rfl, rfl⟩
        case measure => simp [intOf]; omega
      · have H := Lib.hid (Num.bl_step hv1 (by omega)); have p := Num.bl_pos hv1
        have g5 : n + 1 ≤ 64 := by omega
        have G := Lib.hid g3
        clear g3 hv
        go_wp2
        go_round
        case rel => exact ⟨v / 2, n + 1, by omega, by omega, by omega, by have := H.out; have := G.out; omega, rfl, rfl⟩
        case measure => simp [intOf]; omega

theorem width_any (n : Int) (h0 : -9223372036854775808 ≤ n) (h1 : n ≤ 9223372036854775807) (w : World) :
    Calls Try.prog 18 #[.int .i64 n] w fun e w' => e = .returned (.int .i64 (Num.width n)) ∧ w = w' := by
  have a0 := Num.zig_lo n
  have a1 := Num.zig_hi h0 h1
  have b0 := Num.bl_lo (Num.zig n)
  have b1 := Num.bl_hi a1
  go_enter Try.func18, Try.ntmps18
  go_wp2_with fail
  refine (zig_any _ h0 h1 _).mono ?_
  rintro e w' ⟨rfl, rfl⟩
  go_wp2_with fail
  refine (bits_any _ a0 a1 _).mono ?_
  rintro e w' ⟨rfl, rfl⟩
  go_wp2_with fail
  all_goals go_ret
  · exact ⟨retInt (by unfold Num.width Num.parts; omega), rfl⟩
  · exact ⟨retInt (by unfold Num.width Num.parts; omega), rfl⟩

theorem rwidth_any (n : Int) (h0 : -9223372036854775808 ≤ n) (h1 : n ≤ 9223372036854775807) (w : World) :
    Calls Try.prog 17 #[.int .i64 n] w fun e w' => e = .returned (.int .i64 (Num.width n)) ∧ w = w' := by
  have a0 := Num.zig_lo n
  have a1 := Num.zig_hi h0 h1
  have hw := Num.width_hi h0 h1
  go_enter Try.func17, Try.ntmps17
  go_wp2_with fail
  refine (rzig_any _ h0 h1 _).mono ?_
  rintro e w' ⟨rfl, rfl⟩
  go_wp2_with fail
  go_loop [3, 4] (fun a c => ∃ v k : Int, 0 ≤ v ∧ v ≤ Num.zig n ∧ 1 ≤ k ∧ k + Num.parts v = Num.width n + 1 ∧ a = .int .u64 v ∧ c = .int .i64 k) (fun a _ => (intOf a).toNat)
  case atStart => exact ⟨Num.zig n, 1, a0, by omega, by omega, by unfold Num.width; omega, rfl, rfl⟩
  case round =>
    obtain ⟨v, k, g0, g1, g2, g3, rfl, rfl⟩ := hrel
    have p := Num.parts_lo v
    have g5 : k ≤ 11 := by omega
    by_cases hv : 128 ≤ v
    · have H := Lib.hid (Num.parts_big (u := v) (by omega) (by omega))
      have G := Lib.hid g3
      clear g3
      go_wp2
      go_round
      case rel => exact ⟨v / 128, k + 1, by omega, by omega, by omega, by have := H.out; have := G.out; omega, rfl, rfl⟩
      case measure => simp [intOf]; omega
    · have H := Lib.hid (Num.parts_small (u := v) (by omega))
      have G := Lib.hid g3
      clear g3
      go_wp2
      go_ret
      exact ⟨retInt (by have := G.out; have := H.out; omega), rfl⟩

end Go.Proofs.Ytojbbofiphheaaa
