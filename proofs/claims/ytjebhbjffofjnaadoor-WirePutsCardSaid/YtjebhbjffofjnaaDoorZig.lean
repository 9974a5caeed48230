/- The calls of layer 1, and the document's own answers for it, at every input. -/
import Derived.Test.YtjebhbjffofjnaaDoorRows
import Derived.Test.YtjebhbjffofjnaaDoorNum
import Derived.WalkKit
import Derived.ProofKit
import Derived.OpenShut
import Derived.Deep.QuietTactic
import Derived.BigQuiet
import Derived.Lib.Hide
import Derived.WalkMore
import Derived.Deep.LoopGhost
namespace Go.Proofs.YtjebhbjffofjnaaDoor
open Go.ChangeShapes Go.WideShapes Go.ChangeAt Go.RowKit

theorem retInt {k : IntKind} {a b : Int} (h : a = b) : Ending.returned (.int k a) = .returned (.int k b) := by rw [h]

theorem zig_any (n : Int) (h0 : -9223372036854775808 ≤ n) (h1 : n ≤ 9223372036854775807) (w : World) :
    Calls Tryd.prog 38 #[.int .i64 n] w fun e w' => e = .returned (.int .u64 (Num.zig n)) ∧ w = w' := by
  go_enter Tryd.func38, Tryd.ntmps38
  go_wp2
  go_ret
  exact ⟨retInt (Num.zig_code h0 h1), rfl⟩

theorem rzig_any (n : Int) (h0 : -9223372036854775808 ≤ n) (h1 : n ≤ 9223372036854775807) (w : World) :
    Calls Tryd.prog 47 #[.int .i64 n] w fun e w' => e = .returned (.int .u64 (Num.zig n)) ∧ w = w' := by
  by_cases h : 0 ≤ n
  · go_enter Tryd.func47, Tryd.ntmps47
    go_wp2
    go_ret
    exact ⟨retInt (by rw [Num.zig_pos h]), rfl⟩
  · have h' : n < 0 := by omega
    go_enter Tryd.func47, Tryd.ntmps47
    go_wp2
    go_ret
    exact ⟨retInt (by rw [Num.zig_neg h']; omega), rfl⟩

theorem zag_any (u : Int) (h0 : 0 ≤ u) (h1 : u ≤ 18446744073709551615) (w : World) :
    Calls Tryd.prog 56 #[.int .u64 u] w fun e w' => e = .returned (.int .i64 (Num.zag u)) ∧ w = w' := by
  go_enter Tryd.func56, Tryd.ntmps56
  go_wp2
  go_ret
  exact ⟨retInt (Num.zag_code h0 h1), rfl⟩

theorem rzag_any (u : Int) (h0 : 0 ≤ u) (h1 : u ≤ 18446744073709551615) (w : World) :
    Calls Tryd.prog 59 #[.int .u64 u] w fun e w' => e = .returned (.int .i64 (Num.zag u)) ∧ w = w' := by
  by_cases h : u % 2 = 0
  · go_enter Tryd.func59, Tryd.ntmps59
    go_wp2
    go_ret
    exact ⟨retInt (by rw [Num.zag_even h]), rfl⟩
  · have h' : u % 2 = 1 := by omega
    go_enter Tryd.func59, Tryd.ntmps59
    go_wp2
    go_ret
    exact ⟨retInt (by rw [Num.zag_odd h']), rfl⟩


theorem zag32_any (u : Int) (h0 : 0 ≤ u) (h1 : u ≤ 4294967295) (w : World) :
    Calls Tryd.prog 55 #[.int .u32 u] w fun e w' => e = .returned (.int .i32 (Num.zag u)) ∧ w = w' := by
  go_enter Tryd.func55, Tryd.ntmps55
  go_wp2
  go_ret
  exact ⟨retInt (Num.zag32_code h0 h1), rfl⟩




theorem rwidth_any (n : Int) (h0 : -9223372036854775808 ≤ n) (h1 : n ≤ 9223372036854775807) (w : World) :
    Calls Tryd.prog 48 #[.int .i64 n] w fun e w' => e = .returned (.int .i64 (Num.width n)) ∧ w = w' := by
  have a0 := Num.zig_lo n
  have a1 := Num.zig_hi h0 h1
  have hw := Num.width_hi h0 h1
  go_enter Tryd.func48, Tryd.ntmps48
  go_wp2_with fail
  refine (rzig_any _ h0 h1 _).mono ?_
  rintro e w' ⟨rfl, rfl⟩
  go_wp2_with fail
  go_loop [3, 4] (fun a c => ∃ v k : Int, 0 ≤ v ∧ v ≤ Num.zig n ∧ 1 ≤ k ∧ k + Num.parts v = Num.width n + 1 ∧ a = .int .u64 v ∧ c = .int .i64 k) (fun a _ => (intOf a).toNat)
  case atStart => exact ⟨Num.zig n, 1, a0, by omega, by omega, by unfold Num.width; omega, rfl, rfl⟩
  case round =>
    obtain ⟨v, k, g0, g1, g2, g3, rfl, rfl⟩ := hrel
    have p := Num.parts_lo v
    have g5 : k ≤ 11 := by omega
    by_cases hv : 128 ≤ v
    · have H := Lib.hid (Num.parts_big (u := v) (by omega) (by omega))
      have G := Lib.hid g3
      clear g3
      go_wp2
      go_round
      case rel => exact ⟨v / 128, k + 1, by omega, by omega, by omega, by have := H.out; have := G.out; omega, rfl, rfl⟩
      case measure => simp [intOf]; omega
    · have H := Lib.hid (Num.parts_small (u := v) (by omega))
      have G := Lib.hid g3
      clear g3
      go_wp2
      go_ret
      exact ⟨retInt (by have := G.out; have := H.out; omega), rfl⟩

end Go.Proofs.YtjebhbjffofjnaaDoor
