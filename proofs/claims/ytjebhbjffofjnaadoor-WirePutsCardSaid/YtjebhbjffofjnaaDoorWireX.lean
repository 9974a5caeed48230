/- Layer 4: the law of what is put. -/
import Derived.Test.YtjebhbjffofjnaaDoorWireV
import Derived.Test.YtjebhbjffofjnaaDoorWireW
namespace Go.Proofs.YtjebhbjffofjnaaDoor
open Go.ChangeShapes Go.WideShapes Go.ChangeAt Go.RowKit Mem

theorem wirePuts_walk (A : Option Addr) (l : List UInt8) (c : Nat) (n z sz : Int) (A4 : Option Addr) (x : List UInt8) (cap4 : Nat) (w : World)
    (_k0 : l.length ≤ c) (b0 : Bys w w.heap.size A l) (_hn : (Lit.int .i64 n).wf = true) (hz : (Lit.int .u64 z).wf = true) (_hs : (Lit.int .i64 sz).wf = true) (_k4 : x.length ≤ cap4) (b4 : Bys w w.heap.size A4 x) (hL : Laid w) :
    Calls Tryd.prog 4 #[.slice A l.length c, .int .i64 n, .int .u64 z, .int .i64 sz, .slice A4 x.length cap4] w (Yes w.heap.size w) := by
  obtain ⟨z0, z1⟩ : 0 ≤ z ∧ z ≤ 18446744073709551615 := by simpa [Lit.wf, IntKind.min, IntKind.max, IntKind.signed, IntKind.bits] using hz
  clear hz
  by_cases hbig : l.length ≤ 3000 ∧ x.length ≤ 3000
  · by_cases h : n = 0
    · subst h; exact wirePuts_zero A l c z sz A4 x cap4 w b0 z0 z1 b4 hbig.1 hbig.2 hL
    · exact wirePuts_one A l c z sz A4 x cap4 w b0 z0 z1 b4 n h hbig.1 hbig.2 hL
  · have WK := Lib.hid (works4_any w hL)
    by_cases h0 : l.length ≤ 3000
    · have q1 : ¬ (3000 : Int) < (l.length : Int) := by omega
      have q2 : (3000 : Int) < (x.length : Int) := by omega
      clear hbig
      go_enter Tryd.func4, Tryd.ntmps4
      go_wp2_with fail
      refine WK.out.mono ?_
      rintro e w1 ⟨rfl, h1⟩
      go_wp2_with fail
      go_ret
      exact ⟨rfl, h1⟩
    · have q1 : (3000 : Int) < (l.length : Int) := by omega
      clear hbig
      go_enter Tryd.func4, Tryd.ntmps4
      go_wp2_with fail
      refine WK.out.mono ?_
      rintro e w1 ⟨rfl, h1⟩
      go_wp2_with fail
      go_ret
      exact ⟨rfl, h1⟩
end Go.Proofs.YtjebhbjffofjnaaDoor
