/- The document's own answers for layer 6, at every input: texts. -/
import Derived.Test.YtjebkedlfhapjaaDoorJRef
import Derived.Test.YtjebkedlfhapjaaDoorUtfR
namespace Go.Proofs.YtjebkedlfhapjaaDoor
open Go.ChangeShapes Go.WideShapes Go.ChangeAt Go.RowKit Mem

/-- A text, where it ends; or that it is none. -/
def Tx (r : Option (List UInt8 × Nat)) (k : Nat) (w : World) (e : Ending) (w' : World) : Prop :=
  (match r with
    | none => ∃ z : Int, e = .returned (.tuple #[.string ⟨#[]⟩, .int .i64 z, .bool false])
    | some (s, n) => e = .returned (.tuple #[.string ⟨s.toArray⟩, .int .i64 ((k + n : Nat) : Int), .bool true])) ∧ Below w.heap.size w w'
theorem tx_none {r : Option (List UInt8 × Nat)} {k : Nat} {w w' : World} {z : Int} (h : r = none) (hb : Below w.heap.size w w') : Tx r k w (.returned (.tuple #[.string ⟨#[]⟩, .int .i64 z, .bool false])) w' := by
  subst h; exact ⟨⟨z, rfl⟩, hb⟩
theorem tx_some {r : Option (List UInt8 × Nat)} {k : Nat} {w w' : World} {s : List UInt8} {n : Nat} {z : Int} (h : r = some (s, n)) (hz : z = ((k + n : Nat) : Int)) (hb : Below w.heap.size w w') :
    Tx r k w (.returned (.tuple #[.string ⟨s.toArray⟩, .int .i64 z, .bool true])) w' := by
  subst h; subst hz; exact ⟨rfl, hb⟩
/-- What the loop of a text knows: what it says so far, and where it goes on. -/
def TxAt (D : List UInt8) (q : Nat) (d : List UInt8) : Prop := q ≤ D.length ∧ d.length ≤ q ∧ Jx.txt D = (Jx.txt (D.drop q)).map fun r => (d ++ r.1, q + r.2)
theorem txAt_start (D : List UInt8) : TxAt D 0 [] := ⟨Nat.zero_le _, Nat.le_refl _, by
  rw [List.drop_zero]
  cases Jx.txt D with
  | none => rfl
  | some r => simp⟩
theorem TxAt.bad {D d : List UInt8} {q : Nat} (h : TxAt D q d) (k : Jx.byt (D.drop q) 0 < 32) : Jx.txt D = none := by rw [h.2.2, Jx.txt_bad k]; rfl
theorem TxAt.done {D d : List UInt8} {q : Nat} (h : TxAt D q d) (k : Jx.byt (D.drop q) 0 = 34) : Jx.txt D = some (d, q + 1) := by rw [h.2.2, Jx.txt_end k]; simp
theorem TxAt.no {D d : List UInt8} {q : Nat} (h : TxAt D q d) (k : Jx.byt (D.drop q) 0 ≠ 34) (i : Jx.item (D.drop q) = none) : Jx.txt D = none := by rw [h.2.2, Jx.txt_no k i]; rfl
theorem TxAt.go {D d o : List UInt8} {q n : Nat} (h : TxAt D q d) (k0 : 32 ≤ Jx.byt (D.drop q) 0) (k : Jx.byt (D.drop q) 0 ≠ 34) (i : Jx.item (D.drop q) = some (o, n)) : TxAt D (q + n) (d ++ o) ∧ 1 ≤ n := by
  have hn := Jx.item_len i
  rw [List.length_drop] at hn
  refine ⟨⟨by have := h.1; omega, by have := h.2.1; simp; omega, ?_⟩, hn.1⟩
  rw [h.2.2, Jx.txt_go k0 k i, Option.map_map, List.drop_drop]
  congr 1
  funext r
  simp; omega
theorem item_plain {l : List UInt8} {c n : Nat} (h : Jx.byt l 0 ≠ 92) (e : Num.fst l = (c, n, 0)) : Jx.item l = some (l.take n, n) := by unfold Jx.item; rw [if_neg h, e]; rfl
theorem item_bad {l : List UInt8} (h : Jx.byt l 0 ≠ 92) (e : (Num.fst l).2.2 ≠ 0) : Jx.item l = none := by unfold Jx.item; rw [if_neg h, if_neg e]
theorem item_esc {l : List UInt8} {v : Nat} (h : Jx.byt l 0 = 92) (e : Jx.esc (Jx.byt l 1) = some v) : Jx.item l = some ([UInt8.ofNat v], 2) := by unfold Jx.item; rw [if_pos h, e]
theorem item_none {l : List UInt8} (h : Jx.byt l 0 = 92) (e : Jx.esc (Jx.byt l 1) = none) (k : Jx.byt l 1 ≠ 117) : Jx.item l = none := by unfold Jx.item; rw [if_pos h, e]; simp only; rw [if_neg k]
theorem item_u {l : List UInt8} (h : Jx.byt l 0 = 92) (k : Jx.byt l 1 = 117) : Jx.item l = Jx.uni (l.drop 2) := by
  unfold Jx.item; rw [if_pos h, k, show Jx.esc 117 = none from rfl]; simp only; rw [if_pos trivial]
theorem uni_pair {l : List UInt8} (h1 : 55296 ≤ Jx.four l) (h2 : Jx.four l ≤ 56319) (h3 : Jx.byt l 4 = 92) (h4 : Jx.byt l 5 = 117) (h5 : 56320 ≤ Jx.four (l.drop 6)) (h6 : Jx.four (l.drop 6) ≤ 57343) :
    Jx.uni l = some (Num.ue (pair (Jx.four l) (Jx.four (l.drop 6))).toNat, 12) := by
  unfold Jx.uni; rw [if_pos ⟨h1, h2, h3, h4⟩, if_pos ⟨h5, h6⟩, pair_ok h1 h2 h5 h6]
theorem uni_pair0 {l : List UInt8} (h1 : 55296 ≤ Jx.four l) (h2 : Jx.four l ≤ 56319) (h3 : Jx.byt l 4 = 92) (h4 : Jx.byt l 5 = 117) (h5 : ¬ (56320 ≤ Jx.four (l.drop 6) ∧ Jx.four (l.drop 6) ≤ 57343)) : Jx.uni l = none := by
  unfold Jx.uni; rw [if_pos ⟨h1, h2, h3, h4⟩, if_neg h5]
theorem uni_one {l : List UInt8} (h : Num.isC (Jx.four l)) : Jx.uni l = some (Num.ue (Jx.four l).toNat, 6) := by
  have h' := h
  unfold Num.isC at h'
  unfold Jx.uni; rw [if_neg (by omega), if_pos h]
theorem uni_none {l : List UInt8} (h : ¬ Num.isC (Jx.four l)) (k : ¬ (55296 ≤ Jx.four l ∧ Jx.four l ≤ 56319 ∧ Jx.byt l 4 = 92 ∧ Jx.byt l 5 = 117)) : Jx.uni l = none := by
  unfold Jx.uni; rw [if_neg k, if_neg h]
theorem esc_ways (c : Nat) : c = 34 ∨ c = 47 ∨ c = 92 ∨ c = 98 ∨ c = 102 ∨ c = 110 ∨ c = 114 ∨ c = 116 ∨ (Jx.esc c = none ∧ c ≠ 34 ∧ c ≠ 47 ∧ c ≠ 92 ∧ c ≠ 98 ∧ c ≠ 102 ∧ c ≠ 110 ∧ c ≠ 114 ∧ c ≠ 116) := by
  by_cases h : c = 34 ∨ c = 47 ∨ c = 92 ∨ c = 98 ∨ c = 102 ∨ c = 110 ∨ c = 114 ∨ c = 116
  · omega
  · refine .inr (.inr (.inr (.inr (.inr (.inr (.inr (.inr ⟨?_, by omega⟩)))))))
    unfold Jx.esc
    rw [if_neg (by omega), if_neg (by omega), if_neg (by omega), if_neg (by omega), if_neg (by omega), if_neg (by omega)]

theorem TxAt.at {D d : List UInt8} {q q' : Nat} (h : TxAt D q d) (e : q = q') : TxAt D q' d := e ▸ h

end Go.Proofs.YtjebkedlfhapjaaDoor
