/- The document's own answers for bits of layer 5, at every input. -/
import Derived.Test.YtcnalkbedcgknaaPromB
import Derived.Test.YtcnalkbedcgknaaFpW
import Derived.Laws.Externs
import Derived.KernelRfl
namespace Go.Proofs.Ytcnalkbedcgknaa
open Go.ChangeShapes Go.WideShapes Go.ChangeAt Go.RowKit

theorem wbits64 (b : Nat) (w : World) : (callFunc 21 #[.float .f64 b]).run Try.prog w = .ok (.value (.int .u64 b)) w :=
  (run_callFunc_extern (e := Extern.MathFloatBits.float64bits) Try.func21 (by kernel_rfl) (by kernel_rfl) (by kernel_rfl) (by kernel_rfl) _ w).trans (by rfl)
theorem from64 (b : Nat) (w : World) : (callFunc 24 #[.int .u64 b]).run Try.prog w = .ok (.value (.float .f64 b)) w :=
  (run_callFunc_extern (e := Extern.MathFloatBits.float64frombits) Try.func24 (by kernel_rfl) (by kernel_rfl) (by kernel_rfl) (by kernel_rfl) _ w).trans (by rfl)
theorem from32 (b : Nat) (w : World) : (callFunc 27 #[.int .u32 b]).run Try.prog w = .ok (.value (.float .f32 b)) w :=
  (run_callFunc_extern (e := Extern.MathFloatBits.float32frombits) Try.func27 (by kernel_rfl) (by kernel_rfl) (by kernel_rfl) (by kernel_rfl) _ w).trans (by rfl)

/-- Bits of 32 that are a number, made bits of 64. -/
theorem conv3264 (f : Nat) (hf : f < 4294967296) (h : f / 8388608 % 256 ≠ 255) (w : World) :
    (convert 42 40 (.float .f32 f)).run Try.prog w = .ok (.float .f64 (Fp.wide f)) w := by
  obtain ⟨m, i, e1, e2⟩ := Fp.wide_write f hf h
  have e3 := Fp.wide_finite f hf h
  have d1 : FloatKind.f32.decode f = .number (f / 2147483648 == 1) m i := e1
  have d2 : FloatKind.f64.encode (.number (f / 2147483648 == 1) m i) = Fp.wide f := e2
  have d3 : (FloatKind.f64.decode (Fp.wide f)).isInfinity = false := e3
  simp [convert, go_sem, Conv.floatToFloat, d1, d2, d3]

theorem rWide_any (f : Nat) (hf : f < 4294967296) (w : World) :
    Calls Try.prog 15 #[.int .u32 f] w fun e w' => e = .returned (.int .u64 (Fp.wide f : Nat)) ∧ w = w' := by
  by_cases h : f / 8388608 % 256 = 255
  · have q : ((f : Int) / 8388608 % 256 == 255) = true := by rw [show (f : Int) / 8388608 % 256 = 255 by omega]; rfl
    have F : Hid (Fp.wide f = f / 2147483648 * 9223372036854775808 + (2047 * 4503599627370496 + f % 8388608 * 536870912)) := Lib.hid (by unfold Fp.wide; rw [if_neg (by omega), if_pos h])
    go_enter Try.func15, Try.ntmps15
    go_wp2
    all_goals go_ret
    refine ⟨retInt ?_, rfl⟩
    rw [F.out]
    omega
  · have q : ((f : Int) / 8388608 % 256 == 255) = false := by simp; omega
    have a := from32 f
    have b := conv3264 f hf h
    have c := wbits64 (Fp.wide f)
    go_enter Try.func15, Try.ntmps15
    go_wp2
    all_goals go_ret
    exact ⟨rfl, rfl⟩

theorem trunc64 (d : Nat) (h : (Ieee.double.read d).isNaN = false) (w : World) : (callFunc 31 #[.float .f64 d]).run Try.prog w = .ok (.value (.float .f64 (Fp.cutd d))) w := by
  refine (run_callFunc_extern (e := Extern.MathFloor.toIntegral "math.archTrunc" .zero) Try.func31 (by kernel_rfl) (by kernel_rfl) (by kernel_rfl) (by kernel_rfl) _ w).trans ?_
  have e : Extern.MathFloor.toIntegral "math.archTrunc" .zero #[.float .f64 d] = Extern.MathFloor.toIntegral "math.archTrunc" .zero #[.float .f64 d] := rfl
  conv at e => rhs; whnf
  rw [e, show FloatKind.f64.decode d = Ieee.double.read d from rfl]
  unfold Fp.cutd
  cases hr : Ieee.double.read d with
  | nan s t => rw [hr] at h; cases h
  | number s m i => rfl
  | infinity s => rfl

theorem Trunc_any (d : Nat) (h : (Ieee.double.read d).isNaN = false) (w : World) :
    Calls Try.prog 25 #[.float .f64 d] w fun e w' => e = .returned (.float .f64 (Fp.cutd d)) ∧ w = w' := by
  have t := trunc64 d h
  clear h
  go_enter Try.func25, Try.ntmps25
  go_wp2
  all_goals go_ret
  exact ⟨rfl, rfl⟩

theorem lt_not_nan {d : Nat} (h : Fp.lt d = true) : (Ieee.double.read d).isNaN = false := by
  unfold Fp.lt Ieee.Format.order at h
  cases hr : Ieee.double.read d with
  | nan s t => rw [hr] at h; cases h
  | number s m i => rfl
  | infinity s => rfl

theorem hol64 (d : Nat) (hd : d < 18446744073709551616) (h : Fp.hok d = true) (w : World) : (convert 40 2 (.float .f64 d)).run Try.prog w = .ok (.int .i64 (Fp.hol d)) w := by
  obtain ⟨_, _, _, e⟩ := (Fp.refs_all d hd).1 h
  obtain ⟨y0, y1⟩ := Fp.hol_fit hd h
  have e1 : (FloatKind.f64.decode d).toInt .zero = some (Fp.hol d) := e
  have e2 : ¬ Fp.hol d < IntKind.i64.min := Int.not_lt.2 y0
  simp [convert, go_sem, Conv.floatToInt, e1, y1]; exact fun t => absurd t e2

theorem rWhole_any (d : Nat) (hd : d < 18446744073709551616) (w : World) :
    Calls Try.prog 13 #[.int .u64 d] w fun e w' => e = .returned (.tuple #[.int .i64 (Fp.hol d), .bool (Fp.hok d)]) ∧ w = w' := by
  have fr := from64 d
  have hg : ∀ w, (binOp .geq 40 (.float .f64 d) (.float .f64 14114281232179134464)).run Try.prog w = .ok (.bool (Fp.ge d)) w := fun w => by simp [binOp, Op.floatCmp]; rfl
  have hl : ∀ w, (binOp .lss 40 (.float .f64 d) (.float .f64 4890909195324358656)).run Try.prog w = .ok (.bool (Fp.lt d)) w := fun w => by simp [binOp, Op.floatCmp]; rfl
  have hs : ∀ w, (binOp .eql 40 (.float .f64 (Fp.cutd d)) (.float .f64 d)).run Try.prog w = .ok (.bool (Fp.same d)) w := fun w => by simp [binOp, Op.floatCmp]; rfl
  obtain ⟨R1, R2⟩ := Fp.refs_all d hd
  cases hk : Fp.hok d
  · have F := Lib.hid (Fp.hol_not hk)
    rcases R2 hk with r | ⟨r1, r2⟩ | ⟨r1, r2, r3⟩
    · rw [r] at hg
      clear R1 R2 hk r hl hs
      go_enter Try.func13, Try.ntmps13
      go_wp2
      all_goals go_ret2
      all_goals rw [F.out]
      all_goals exact ⟨rfl, rfl⟩
    · rw [r1] at hg; rw [r2] at hl
      clear R1 R2 hk r1 r2 hs
      go_enter Try.func13, Try.ntmps13
      go_wp2
      all_goals go_ret2
      all_goals rw [F.out]
      all_goals exact ⟨rfl, rfl⟩
    · have T := Lib.hid (Trunc_any d (lt_not_nan r2))
      rw [r1] at hg; rw [r2] at hl; rw [r3] at hs
      clear R1 R2 hk r1 r2 r3
      generalize Fp.cutd d = X at *
      go_enter Try.func13, Try.ntmps13
      go_wp2_with fail
      refine (T.out _).mono ?_
      rintro e w1 ⟨rfl, rfl⟩
      go_wp2_with fail
      all_goals go_ret2
      all_goals rw [F.out]
      all_goals exact ⟨rfl, rfl⟩
  · obtain ⟨r1, r2, r3, _⟩ := R1 hk
    have T := Lib.hid (Trunc_any d (lt_not_nan r2))
    have cv := hol64 d hd hk
    rw [r1] at hg; rw [r2] at hl; rw [r3] at hs
    clear R1 R2 hk r1 r2 r3
    generalize Fp.cutd d = X at *
    generalize Fp.hol d = Y at *
    go_enter Try.func13, Try.ntmps13
    go_wp2_with fail
    refine (T.out _).mono ?_
    rintro e w1 ⟨rfl, rfl⟩
    go_wp2_with fail
    all_goals go_ret2
    all_goals exact ⟨rfl, rfl⟩

end Go.Proofs.Ytcnalkbedcgknaa
