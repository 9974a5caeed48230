/- What all layers with bytes lean on: the types' facts, a slice of bytes that came in, one that a call made, the literals. -/
import Derived.Test.YtnfhikgfcdcpoaaDoorRows
import Derived.Test.YtnfhikgfcdcpoaaDoorMem
import Derived.WalkKit
import Derived.ProofKit
import Derived.OpenShut
import Derived.Outline
import Derived.LoopTactic
import Derived.Deep.QuietTactic
import Derived.BigQuiet
import Derived.Lib.Hide
import Derived.WalkMore
import Derived.Deep.LoopGhost
import Derived.IntWalk
import Derived.Lib.ConvBytes
namespace Go.Proofs.YtnfhikgfcdcpoaaDoor
open Go.ChangeShapes Go.WideShapes Go.ChangeAt Go.RowKit Mem

theorem byteT : U8 Tryd.prog 83 5 := ⟨by kernel_rfl, by kernel_rfl, by kernel_rfl⟩

theorem strT : Tryd.prog.underlying 9 = some .string := by kernel_rfl
theorem fit_i64 {a : Int} (h : (Lit.int .i64 a).wf = true) : -9223372036854775808 ≤ a ∧ a ≤ 9223372036854775807 := by
  simpa [Lit.wf, IntKind.min, IntKind.max, IntKind.signed, IntKind.bits] using h

theorem fit_i32 {a : Int} (h : (Lit.int .i32 a).wf = true) : -2147483648 ≤ a ∧ a ≤ 2147483647 := by
  simpa [Lit.wf, IntKind.min, IntKind.max, IntKind.signed, IntKind.bits] using h

/-- A list of bytes, and behind it others, in a row of the call's own. -/
def Made (base : Nat) (l : List UInt8) (w : World) (e : Ending) (w' : World) : Prop := ∃ v, e = .returned v ∧ Own w' base 5 v l ∧ Below base w w'

def Yes (base : Nat) (w : World) (e : Ending) (w' : World) : Prop := e = .returned (.bool true) ∧ Below base w w'

/-- Bytes that a call made, as a slice; and their string. -/
def Row (l : List UInt8) (n : Nat) (w : World) (e : Ending) (w' : World) : Prop :=
  ∃ A c, e = .returned (.slice A n c) ∧ l.length = n ∧ Bys w' w'.heap.size A l ∧ (convert 83 9 (.slice A n c)).run Tryd.prog w' = .ok (.string ⟨l.toArray⟩) w' ∧ Below w.heap.size w w'
theorem Made.row {l : List UInt8} {n : Nat} {w w' : World} {e : Ending} (h : Made w.heap.size l w e w') (hn : l.length = n) : Row l n w e w' := by
  obtain ⟨v, rfl, ho, hb⟩ := h
  obtain ⟨A, c, rfl, hy⟩ := ho.bys
  subst hn
  exact ⟨A, c, rfl, rfl, hy, hy.str byteT strT c, hb⟩

theorem lit_bys (w : World) (l : List UInt8) : Bys (w.alloc (.cells (cels l).toArray 5)) (w.alloc (.cells (cels l).toArray 5)).heap.size (some ⟨w.heap.size, 0, none⟩) l := by
  refine .inr ⟨_, _, rfl, by simp, fun k hk => ?_⟩
  have h : (w.alloc (.cells (cels l).toArray 5)).heap[w.heap.size]? = some (.cells (cels l).toArray 5 (0, 0)) := heap_alloc_new w _
  rw [cell_of_row _ _ _ _ _ _ h, show 0 + k = k by omega]
  simpa using cels_at hk
theorem own_lit (w : World) {base : Nat} (hb : base ≤ w.heap.size) : Own (w.alloc (.cells #[] 5)) base 5 (.slice (some ⟨w.heap.size, 0, none⟩) 0 0) [] :=
  World.ownsRow_lit w #[] 0 hb (by decide) rfl

/-- A slice of bytes that came in. -/
theorem of_row {w : World} {a : Option Addr} {len cap : Nat} {zs : List Int}
    (h : (a = none ∧ len = 0 ∧ cap = 0 ∧ zs = []) ∨ ∃ x, a = some x ∧ len ≤ cap ∧ cap ≤ maxLen ∧ zs.length = cap ∧ (∀ i, i < zs.length → w.cell? (x.add i) = some (.int .u8 (zs.getD i 0))) ∧ ∀ n ∈ zs, (Lit.int .u8 n).wf = true) :
    ∃ l : List UInt8, l.length = len ∧ l.length ≤ cap ∧ Bys w w.heap.size a l := by
  rcases h with ⟨rfl, rfl, _, _⟩ | ⟨x, rfl, hl, hm, hz, hc, hw⟩
  · exact ⟨[], rfl, Nat.zero_le _, .inl rfl⟩
  · refine ⟨(zs.take len).map fun n => UInt8.ofNat n.toNat, by simp; omega, by simp; omega, ?_⟩
    by_cases h0 : len = 0
    · subst h0; exact .inl (by simp)
    · obtain ⟨b, off, spot⟩ := x
      have h1 := hc 0 (by omega)
      have hs : spot = none := by simpa [Addr.add] using World.cell?_spot h1
      subst hs
      refine .inr ⟨b, off, rfl, by simpa [Addr.add] using World.block_lt_of_cell? _ _ h1, fun k hk => ?_⟩
      have hk' : k < len := by simp at hk; omega
      have h2 := hc k (by omega)
      rw [Mem.add_plain] at h2
      rw [h2]
      have hmem : zs.getD k 0 ∈ zs := by simp [List.getD, List.getElem?_eq_getElem (show k < zs.length by omega)]
      have h3 := hw _ hmem
      have h4 : 0 ≤ zs.getD k 0 ∧ zs.getD k 0 ≤ 255 := by simpa [Lit.wf, IntKind.min, IntKind.max, IntKind.signed, IntKind.bits] using h3
      have h5 : ((zs.take len).map fun n => UInt8.ofNat n.toNat).getD k 0 = UInt8.ofNat (zs.getD k 0).toNat := by
        simp [List.getD, hk', List.getElem?_eq_getElem (show k < zs.length by omega)]
      rw [h5]
      unfold cel
      rw [UInt8.toNat_ofNat_of_lt' (by show (zs.getD k 0).toNat < 256; omega)]
      congr 2
      omega

theorem Below.next {w a b : World} (h : Below w.heap.size w a) (k : Below a.heap.size a b) : Below w.heap.size w b := h.trans (k.mono h.size)

end Go.Proofs.YtnfhikgfcdcpoaaDoor
/- The bytes of a string, as a conversion lays them. -/
namespace Go.Proofs.YtnfhikgfcdcpoaaDoor
open Go.ChangeShapes Go.WideShapes Go.ChangeAt Go.RowKit Mem

/-- The bytes of a string, as a conversion lays them. -/
def Laysb (s : ByteArray) (W W' : World) : Prop := Below W.heap.size W W' ∧ Bys W' W'.heap.size (some ⟨W.heap.size, 0, none⟩) s.data.toList
theorem conv_lays (s : ByteArray) (W : World) : ∃ c W', (convert 9 83 (.string s)).run Tryd.prog W = .ok (.slice (some ⟨W.heap.size, 0, none⟩) s.size c) W' ∧ s.size ≤ c ∧ Laysb s W W' := by
  refine ⟨_, _, Lib.run_convert_string_bytes W 9 83 5 s strT byteT.sl byteT.el, ?_, ?_, ?_⟩
  · exact grownCap_ge W s.size 0 _
  · exact ⟨rfl, rfl, rfl, by rw [Lib.bytesWorld_size]; omega, fun g hg => Lib.bytesWorld_at_old W 5 s g hg⟩
  · refine .inr ⟨_, 0, rfl, by rw [Lib.bytesWorld_size]; omega, fun k hk => ?_⟩
    rw [Nat.zero_add]
    exact Lib.bytesWorld_cell W 5 s k (by simpa using hk)
theorem conv_all (s : ByteArray) : ∃ (F : World → World) (G : World → Nat), (∀ W, (convert 9 83 (.string s)).run Tryd.prog W = .ok (.slice (some ⟨W.heap.size, 0, none⟩) s.size (G W)) (F W)) ∧ (∀ W, s.size ≤ G W) ∧ ∀ W, Laysb s W (F W) :=
  ⟨fun W => (conv_lays s W).choose_spec.choose, fun W => (conv_lays s W).choose, fun W => (conv_lays s W).choose_spec.choose_spec.1, fun W => (conv_lays s W).choose_spec.choose_spec.2.1, fun W => (conv_lays s W).choose_spec.choose_spec.2.2⟩
theorem bys_spot {w : World} {B g h : Nat} {l : List UInt8} (y : Bys w B (some ⟨g, 0, none⟩) l) (e : g = h) : Bys w B (some ⟨h, 0, none⟩) l := e ▸ y
end Go.Proofs.YtnfhikgfcdcpoaaDoor
