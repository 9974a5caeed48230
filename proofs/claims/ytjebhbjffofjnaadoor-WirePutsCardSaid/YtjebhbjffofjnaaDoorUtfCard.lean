/- From a row's condition (the table of marks reads as listed) to what the walks of layer 3 ask. -/
import Derived.Test.YtjebhbjffofjnaaDoorUtf
import Derived.Lib.LaidTab
import Derived.LaidMore
namespace Go.Proofs.YtjebhbjffofjnaaDoor
open Go.ChangeShapes Go.WideShapes Go.ChangeAt Go.RowKit Mem

theorem laid_of {W : World} (h : laidMetH Tryd.prog [("avocet/utf.marks", Rows.laid_avocet_utf_marks)] W) : Laid W := by
  rw [MakeChecks.laidMetH_plain _ _ _ (by kernel_rfl)] at h
  have t : Lib.TabIs Tryd.prog W "avocet/utf.marks" .u8 [0, 0, 192, 224, 240] :=
    Lib.tabIs_of_head (g := 0) (t := 90) (e := 5) (n := 5) (by kernel_rfl) (by kernel_rfl) (by kernel_rfl) (by kernel_rfl) (by kernel_rfl) (by kernel_rfl) h
  have hc := fun i hi => t.cell (g := 0) (by kernel_rfl) i hi
  refine ⟨Nat.lt_of_le_of_lt (Nat.zero_le _) (World.block_lt_of_cell? _ _ (hc 0 (by decide))), fun n hn => ?_⟩
  obtain rfl | rfl | rfl | rfl | rfl : n = 0 ∨ n = 1 ∨ n = 2 ∨ n = 3 ∨ n = 4 := by omega
  · exact hc 0 (by decide)
  · exact hc 1 (by decide)
  · exact hc 2 (by decide)
  · exact hc 3 (by decide)
  · exact hc 4 (by decide)

end Go.Proofs.YtjebhbjffofjnaaDoor
