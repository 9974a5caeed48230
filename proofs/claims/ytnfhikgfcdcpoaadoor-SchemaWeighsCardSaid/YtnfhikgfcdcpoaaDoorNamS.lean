/- The document's own answers for layer 9: full names, their parts, names in spaces; words of kinds. -/
import Derived.Test.YtnfhikgfcdcpoaaDoorNamR
namespace Go.Proofs.YtnfhikgfcdcpoaaDoor
open Go.ChangeShapes Go.WideShapes Go.ChangeAt Go.RowKit Mem

def strSz : Value → Nat
  | .string s => s.size
  | _ => 0
/-- A text cut at a number. -/
theorem cut_l (s : ByteArray) (m : Nat) (z : Int) (hz : z = (m : Int)) (hm : m ≤ s.size) (W : World) : (Instr.slice 9 (.string s) (some (.int .i64 z)) none none).run Tryd.prog W = .ok (.string (sst (s.data.toList.drop m))) W := by
  subst hz
  rw [run_slice_string_l W _ s strT .i64 _ (by omega) (by omega)]
  rw [show ((m : Int)).toNat = m by omega, ext_l]
theorem cut_h (s : ByteArray) (m : Nat) (z : Int) (hz : z = (m : Int)) (hm : m ≤ s.size) (W : World) : (Instr.slice 9 (.string s) none (some (.int .i64 z)) none).run Tryd.prog W = .ok (.string (sst (s.data.toList.take m))) W := by
  subst hz
  rw [run_slice_string_h W _ s strT .i64 _ (by omega) (by omega)]
  rw [show ((m : Int)).toNat = m by omega, ext_h]




/-- What Join answers. -/
def joined (o : Option (List UInt8)) : Value := .tuple #[.string (sst (o.getD [])), .bool o.isSome]
theorem joined_no {o : Option (List UInt8)} (h : o = none) : joined o = .tuple #[.string ⟨#[]⟩, .bool false] := by subst h; rfl
theorem joined_yes {o : Option (List UInt8)} {l : List UInt8} {s : ByteArray} (h : o = some l) (hs : s = sst l) : joined o = .tuple #[.string s, .bool true] := by subst h; subst hs; rfl
theorem sum_str (a b : ByteArray) : a ++ (⟨#[46]⟩ : ByteArray) ++ b = sst (a.data.toList ++ 46 :: b.data.toList) := by
  unfold sst
  apply ByteArray.ext
  apply Array.ext'
  simp



end Go.Proofs.YtnfhikgfcdcpoaaDoor
