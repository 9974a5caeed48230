/- The calls of layer 1, and the document's own answers for it, at every input. -/
import Derived.Test.YtcnalkbedcgknaaRows
import Derived.Test.YtcnalkbedcgknaaNum
import Derived.WalkKit
import Derived.ProofKit
import Derived.OpenShut
import Derived.Deep.QuietTactic
import Derived.BigQuiet
import Derived.Lib.Hide
import Derived.WalkMore
import Derived.Deep.LoopGhost
namespace Go.Proofs.Ytcnalkbedcgknaa
open Go.ChangeShapes Go.WideShapes Go.ChangeAt Go.RowKit

theorem retInt {k : IntKind} {a b : Int} (h : a = b) : Ending.returned (.int k a) = .returned (.int k b) := by rw [h]








theorem bits_any (u : Int) (h0 : 0 ≤ u) (h1 : u ≤ 18446744073709551615) (w : World) :
    Calls Try.prog 29 #[.int .u64 u] w fun e w' => e = .returned (.int .i64 (Num.bl u)) ∧ w = w' := by
  have hb := Num.bl_hi h1
  go_enter Try.func29, Try.ntmps29
  go_wp2
  go_step3
  go_wp2
  go_step3
  go_wp2
  go_loop [0, 3] (fun a c => ∃ v n : Int, 0 ≤ v ∧ v ≤ u ∧ 0 ≤ n ∧ n + Num.bl v = Num.bl u ∧ a = .int .u64 v ∧ c = .int .i64 n) (fun a _ => (intOf a).toNat)
  case atStart => exact ⟨u, 0, h0, by omega, by omega, by omega, rfl, rfl⟩
  case round =>
    obtain ⟨v, n, g0, g1, g2, g3, rfl, rfl⟩ := hrel
    have g4 := Num.bl_lo v
    by_cases hv : v = 0
    · subst hv
      have G := Lib.hid g3; clear g3
      go_wp2
      go_ret
      exact ⟨retInt (by have := G.out; rw [Num.bl_zero] at this; omega), rfl⟩
    · have hv0 : (v == 0) = false := by simp [hv]
      have hv1 : 0 < v := by omega
      by_cases hv2 : 255 < v
      · have H := Lib.hid (Num.bl_8 hv2 (by omega)); have p := Num.bl_pos (u := v / 256) (by omega)
        have g5 : n + 8 ≤ 64 := by have := H.out; omega
        have G := Lib.hid g3
        clear g3 hv
        go_wp2
        go_round
        case rel => exact ⟨v / 256, n + 8, by omega, by omega, by omega, by have := H.out; have := G.out; omega, rfl, rfl⟩
        case measure => simp [intOf]; omega
      · have H := Lib.hid (Num.bl_step hv1 (by omega)); have p := Num.bl_pos hv1
        have g5 : n + 1 ≤ 64 := by omega
        have G := Lib.hid g3
        clear g3 hv
        go_wp2
        go_round
        case rel => exact ⟨v / 2, n + 1, by omega, by omega, by omega, by have := H.out; have := G.out; omega, rfl, rfl⟩
        case measure => simp [intOf]; omega



end Go.Proofs.Ytcnalkbedcgknaa
