/- Layer 7: the items of an object by their keys: the code's Get, and the document's. -/
import Derived.Test.YtjebkedlfhapjaaDoorJCSt
import Derived.Test.YtjebkedlfhapjaaDoorJTVal
import Derived.Test.YtjebkedlfhapjaaDoorJTSame
import Derived.Test.YtjebkedlfhapjaaDoorJCLst
import Derived.Lib.SlBytesConst
namespace Go.Proofs.YtjebkedlfhapjaaDoor
open Go.ChangeShapes Go.WideShapes Go.ChangeAt Go.RowKit Mem

/-- The item of a key. -/
def J.get (j : J) (k : ByteArray) : Option J := if j.k = 6 then (place7 j.ks k).bind fun i => j.its[i]? else none
def gotten (o : Option J) : J := o.getD J.zero
/-- What Get answers: a tree in any blocks, and whether there is one. -/
def Got (o : Option J) (w : World) (e : Ending) (w' : World) : Prop :=
  ∃ A3 c3 A4 c4, e = .returned (.tuple #[.agg #[.int .i64 (gotten o).k, .int .i64 (gotten o).n, .string (gotten o).t, .slice A3 (gotten o).its.length c3, .slice A4 (gotten o).ks.length c4], .bool o.isSome]) ∧
    TreeC w' w.heap.size (gotten o) [.int .i64 (gotten o).k, .int .i64 (gotten o).n, .string (gotten o).t, .slice A3 (gotten o).its.length c3, .slice A4 (gotten o).ks.length c4] ∧ Below w.heap.size w w'
theorem got_none {o : Option J} {w w' : World} {b : Bool} (h : o = none) (hb : b = false) (hw : Below w.heap.size w w') : Got o w (.returned (.tuple #[.agg #[.int .i64 0, .int .i64 0, .string ⟨#[]⟩, .slice none 0 0, .slice none 0 0], .bool b])) w' := by
  subst h; subst hb
  exact ⟨none, 0, none, 0, rfl, TreeS.zero_ _ _, hw⟩
theorem got_some {o : Option J} {j : J} {w w' : World} {A3 A4 : Option Addr} {c3 c4 : Nat} {b : Bool} (h : o = some j) (hb : b = true) (ht : TreeC w w.heap.size j [.int .i64 j.k, .int .i64 j.n, .string j.t, .slice A3 j.its.length c3, .slice A4 j.ks.length c4]) (hw : Below w.heap.size w w') :
    Got o w (.returned (.tuple #[.agg #[.int .i64 j.k, .int .i64 j.n, .string j.t, .slice A3 j.its.length c3, .slice A4 j.ks.length c4], .bool b])) w' := by
  subst h; subst hb
  exact ⟨A3, c3, A4, c4, rfl, ht.below hw, hw⟩
/-- A tree in a result's block, and a truth. -/
theorem post_jb {fn : Func} {R : Ending → World → Prop} {a : Act} {w : World} {t u : Tmp} {g : Nat} {x0 x1 x2 x3 x4 : Value} (hf : fn.results = #[.cell t 25, .tmp u]) (hd : a.defers = [])
    (hg : a.tmps.getD t undef = .pointer (some ⟨g, 0, none⟩)) (h0 : w.cell? ⟨g, 0, none⟩ = some x0) (h1 : w.cell? ⟨g, 1, none⟩ = some x1) (h2 : w.cell? ⟨g, 2, none⟩ = some x2) (h3 : w.cell? ⟨g, 3, none⟩ = some x3) (h4 : w.cell? ⟨g, 4, none⟩ = some x4)
    (hR : R (.returned (.tuple #[.agg #[x0, x1, x2, x3, x4], a.tmps.getD u undef])) w) : bodyPost Tryd.prog fn R .ret a w := post_j2 hf hd hg h0 h1 h2 h3 h4 hR

end Go.Proofs.YtjebkedlfhapjaaDoor
/- Layer 7, the code's own calls: Deep. -/
namespace Go.Proofs.YtjebkedlfhapjaaDoor
open Go.ChangeShapes Go.WideShapes Go.ChangeAt Go.RowKit Mem

end Go.Proofs.YtjebkedlfhapjaaDoor
/- The laws of layer 7, walked: the chapter's example. -/
namespace Go.Proofs.YtjebkedlfhapjaaDoor
open Go.ChangeShapes Go.WideShapes Go.ChangeAt Go.RowKit Mem

theorem mark_bys7 (w : World) (l : List UInt8) (fr : Nat × Nat) : Bys (w.alloc (.cells (cels l).toArray 5 fr)) (w.alloc (.cells (cels l).toArray 5 fr)).heap.size (some ⟨w.heap.size, 0, none⟩) l := by
  refine .inr ⟨w.heap.size, 0, rfl, by simp, fun k hk => ?_⟩
  rw [Nat.zero_add, World.cell?_alloc_mark, List.getElem?_toArray, cels_at hk]
def t7x : J := .mk 5 0 ⟨#[]⟩ [.mk 3 1 ⟨#[]⟩ [] [], .mk 2 1 ⟨#[]⟩ [] []] []
def t7a : J := .mk 6 0 ⟨#[]⟩ [t7x] [⟨#[97]⟩]
theorem ex7a : Jp.parse [123, 34, 97, 34, 58, 32, 91, 49, 44, 32, 116, 114, 117, 101, 93, 125] = (t7a, 0) := by kernel_rfl
theorem ex7b : Jp.parse [123, 34, 97, 34, 58, 32, 49, 44, 32, 34, 97, 34, 58, 32, 50, 125] = (J.zero, 23) := by kernel_rfl
theorem ex7g : t7a.get ⟨#[97]⟩ = some t7x := by kernel_rfl
theorem ex7d : t7a.deep = 2 := by kernel_rfl
theorem btw_c {w : World} {B : Nat} {j : J} {cs : List Value} (h : TreeS w (Btw B w.heap.size) j cs) : TreeC w w.heap.size j cs := h.keep (fun _ _ => rfl) (fun _ hb => hb.2)

end Go.Proofs.YtjebkedlfhapjaaDoor
