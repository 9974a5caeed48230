/- The document's own answers for layer 6, at every input: Take. -/
import Derived.Test.YtjebkedlfhapjaaDoorJRefB
import Derived.Test.YtjebkedlfhapjaaDoorJRefD
import Derived.Test.YtjebkedlfhapjaaDoorRec
import Derived.Test.YtjebkedlfhapjaaDoorJNum4
namespace Go.Proofs.YtjebkedlfhapjaaDoor
open Go.ChangeShapes Go.WideShapes Go.ChangeAt Go.RowKit Mem

/-- A word as the program has it. -/
def wval (x : Jx.Wd) : Value := .agg #[.int .i64 (x.k : Int), .int .i64 x.n, .string ⟨x.t.toArray⟩, .int .i64 (x.a : Int), .int .i64 (x.x : Int)]
def TkW (r : Jx.Wd × Nat) (w : World) (e : Ending) (w' : World) : Prop := e = .returned (.tuple #[wval r.1, .int .i64 (r.2 : Int)]) ∧ Below w.heap.size w w'
theorem tkW_ret {r : Jx.Wd × Nat} {k a x e : Nat} {n : Int} {t : List UInt8} {w w' : World} {y0 y1 y3 y4 y5 : Int} {y2 : ByteArray} (h : r = (⟨k, n, t, a, x⟩, e)) (h0 : y0 = (k : Int)) (h1 : y1 = n) (h2 : y2 = ⟨t.toArray⟩) (h3 : y3 = (a : Int)) (h4 : y4 = (x : Int)) (h5 : y5 = (e : Int))
    (hb : Below w.heap.size w w') : TkW r w (.returned (.tuple #[.agg #[.int .i64 y0, .int .i64 y1, .string y2, .int .i64 y3, .int .i64 y4], .int .i64 y5])) w' := by
  subst h; subst h0; subst h1; subst h2; subst h3; subst h4; subst h5; exact ⟨rfl, hb⟩
/-- A world but for what it draws. -/
def Drewn (W w : World) : Prop := ∃ n, w = W.drewN n
theorem bad_zero {e : Nat} : ((Jx.Wd.zero, e) : Jx.Wd × Nat) = (⟨0, 0, [], 0, 0⟩, e) := rfl



end Go.Proofs.YtjebkedlfhapjaaDoor
