/- The document's own answers for layer 5, at every input. -/
import Derived.Test.YtcnalkbedcgknaaPromB
import Derived.Laws.Externs
import Derived.KernelRfl
namespace Go.Proofs.Ytcnalkbedcgknaa
open Go.ChangeShapes Go.WideShapes Go.ChangeAt Go.RowKit

theorem conv64 (n : Int) (w : World) : (convert 2 40 (.int .i64 n)).run Try.prog w = .ok (.float .f64 (FloatKind.f64.nearest n)) w := by
  simp [convert, go_sem, Conv.intToFloat]

theorem conv32 (n : Int) (w : World) : (convert 2 42 (.int .i64 n)).run Try.prog w = .ok (.float .f32 (FloatKind.f32.nearest n)) w := by
  simp [convert, go_sem, Conv.intToFloat]

theorem bits64 (b : Nat) (w : World) : (callFunc 21 #[.float .f64 b]).run Try.prog w = .ok (.value (.int .u64 b)) w :=
  (run_callFunc_extern (e := Extern.MathFloatBits.float64bits) Try.func21 (by kernel_rfl) (by kernel_rfl) (by kernel_rfl) (by kernel_rfl) _ w).trans (by rfl)

theorem bits32 (b : Nat) (w : World) : (callFunc 22 #[.float .f32 b]).run Try.prog w = .ok (.value (.int .u32 b)) w :=
  (run_callFunc_extern (e := Extern.MathFloatBits.float32bits) Try.func22 (by kernel_rfl) (by kernel_rfl) (by kernel_rfl) (by kernel_rfl) _ w).trans (by rfl)

theorem rDouble_any (n : Int) (h0 : -9223372036854775808 ≤ n) (h1 : n ≤ 9223372036854775807) (w : World) :
    Calls Try.prog 8 #[.int .i64 n] w fun e w' => e = .returned (.int .u64 (Fp.fp 11 52 1023 n : Nat)) ∧ w = w' := by
  have cv := conv64 n
  have bt := bits64 (FloatKind.f64.nearest n)
  have e := Lib.hid (Fp.near64 n h0 h1)
  generalize FloatKind.f64.nearest n = X at *
  go_enter Try.func8, Try.ntmps8
  go_wp2
  all_goals go_ret
  exact ⟨retInt (by rw [e.out]), rfl⟩

theorem rFloat_any (n : Int) (h0 : -9223372036854775808 ≤ n) (h1 : n ≤ 9223372036854775807) (w : World) :
    Calls Try.prog 10 #[.int .i64 n] w fun e w' => e = .returned (.int .u32 (Fp.fp 8 23 127 n : Nat)) ∧ w = w' := by
  have cv := conv32 n
  have bt := bits32 (FloatKind.f32.nearest n)
  have e := Lib.hid (Fp.near32 n h0 h1)
  generalize FloatKind.f32.nearest n = X at *
  go_enter Try.func10, Try.ntmps10
  go_wp2
  all_goals go_ret
  exact ⟨retInt (by rw [e.out]), rfl⟩
end Go.Proofs.Ytcnalkbedcgknaa
