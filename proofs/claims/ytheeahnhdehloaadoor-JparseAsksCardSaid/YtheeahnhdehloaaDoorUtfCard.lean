/- From a row's condition (the listed tables read as listed) to what the walks ask. -/
import Derived.Test.YtheeahnhdehloaaDoorUtf
import Derived.Test.YtheeahnhdehloaaDoorTab
import Derived.LaidMore
import Derived.KernelRfl
namespace Go.Proofs.YtheeahnhdehloaaDoor
open Go.ChangeShapes Go.WideShapes Go.ChangeAt Go.RowKit Mem

theorem laid_of {W : World} (h : laidMetH Tryd.prog [("avocet/utf.marks", Rows.laid_avocet_utf_marks), ("avocet/jlex.spellings", Rows.laid_avocet_jlex_spellings)] W) : Laid W := by
  have m := Tab.cells_of_laidH (n := "avocet/utf.marks") (d := Rows.laid_avocet_utf_marks) (g := 0) (t := 87) 2 h (by kernel_rfl) (by simp) (by kernel_rfl) (by kernel_rfl) (by kernel_rfl)
  have s := Tab.cells_of_laidH (n := "avocet/jlex.spellings") (d := Rows.laid_avocet_jlex_spellings) (g := 1) (t := 99) 3 h (by kernel_rfl) (by simp) (by kernel_rfl) (by kernel_rfl) (by kernel_rfl)
  constructor
  · exact World.block_lt_of_cell? _ _ (s 0)
  · intro n hn
    rw [m n]
    obtain rfl | rfl | rfl | rfl | rfl : n = 0 ∨ n = 1 ∨ n = 2 ∨ n = 3 ∨ n = 4 := by omega
    all_goals rfl
  · intro n hn
    rw [s n]
    obtain rfl | rfl | rfl | rfl | rfl | rfl | rfl | rfl | rfl : n = 0 ∨ n = 1 ∨ n = 2 ∨ n = 3 ∨ n = 4 ∨ n = 5 ∨ n = 6 ∨ n = 7 ∨ n = 8 := by omega
    all_goals rfl

end Go.Proofs.YtheeahnhdehloaaDoor
