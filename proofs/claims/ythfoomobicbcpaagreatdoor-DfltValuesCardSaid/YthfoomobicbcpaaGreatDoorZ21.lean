/- Joined by tools/bundle.py: VCF VCG. -/
import Derived.Deep.RegionHeldLaw
import Derived.Test.YthfoomobicbcpaaGreatDoorZ20
import Derived.Test.YthfoomobicbcpaaGreatDoorZ0
set_option maxRecDepth 100000
set_option maxHeartbeats 16000000
namespace Go.Proofs.YthfoomobicbcpaaGreatDoor
open Go.ChangeShapes Go.WideShapes Go.ChangeAt Go.RowKit Mem
theorem vone_1 (p nn : Nat) (hp : p < nn) (n bt : Int) (nb ni nk : Nat) (A3 A4 A5 : Option Addr) (c3 c4 c5 : Nat) (nm df : ByteArray) (l2 l3 l4 l9 x2 x3 x4 x9 : Nat) (X2 X3 X4 X9 : Option Addr) (hs : Bool) (sz it : Int) (b1 o1 c : Nat) (w : World) (lb1 : b1 < w.heap.size)
 (y0 : w.cell? ⟨b1, o1 + p * 10, none⟩ = some (.int .i64 1)) (y1 : w.cell? ⟨b1, o1 + p * 10 + 1, none⟩ = some (.string nm)) (y2 : w.cell? ⟨b1, o1 + p * 10 + 2, none⟩ = some (.slice X2 l2 x2)) (y3 : w.cell? ⟨b1, o1 + p * 10 + 3, none⟩ = some (.slice X3 l3 x3)) (y4 : w.cell? ⟨b1, o1 + p * 10 + 4, none⟩ = some (.slice X4 l4 x4))
 (y5 : w.cell? ⟨b1, o1 + p * 10 + 5, none⟩ = some (.bool hs)) (y6 : w.cell? ⟨b1, o1 + p * 10 + 6, none⟩ = some (.string df)) (y7 : w.cell? ⟨b1, o1 + p * 10 + 7, none⟩ = some (.int .i64 sz)) (y8 : w.cell? ⟨b1, o1 + p * 10 + 8, none⟩ = some (.int .i64 it)) (y9 : w.cell? ⟨b1, o1 + p * 10 + 9, none⟩ = some (.slice X9 l9 x9)) (R : Prop) (hR : R ↔ VJust 1 n bt nb ni nk) :
 Calls Tryz.prog 42 #[.slice (some ⟨b1, o1, none⟩) nn c, .int .i64 (p : Int), .agg #[.int .i64 1, .int .i64 n, .int .u64 bt, .slice A3 nb c3, .slice A4 ni c4, .slice A5 nk c5]] w (Tells R w) := by
 have CS := cell_set
 have q : (p : Int) < (nn : Int) := by omega
 have HR := Lib.hid hR
 have JU := Lib.hid (fun W => vjust_1 n bt nb ni nk A3 A4 A5 c3 c4 c5 W)
 have H0 := Lib.hid (B6.alloc (B6.newat (w := w) (t := 42) (x0 := .int .i64 1) (x1 := .int .i64 n) (x2 := .int .u64 bt) (x3 := .slice A3 nb c3) (x4 := .slice A4 ni c4) (x5 := .slice A5 nk c5) rfl) (.cells #[.int .i64 1, .string nm, .slice X2 l2 x2, .slice X3 l3 x3, .slice X4 l4 x4, .bool hs, .string df, .int .i64 sz, .int .i64 it, .slice X9 l9 x9] 59))
 have N0 := Lib.hid (B10.newat (w := w.alloc (.cells #[.int .i64 1, .int .i64 n, .int .u64 bt, .slice A3 nb c3, .slice A4 ni c4, .slice A5 nk c5] 42)) (g := w.heap.size + 1) (t := 59) (x0 := .int .i64 1) (x1 := .string nm) (x2 := .slice X2 l2 x2) (x3 := .slice X3 l3 x3) (x4 := .slice X4 l4 x4) (x5 := .bool hs) (x6 := .string df) (x7 := .int .i64 sz) (x8 := .int .i64 it) (x9 := .slice X9 l9 x9) (by simp))
 have W0 : Hid (Below w.heap.size w ((w.alloc (.cells #[.int .i64 1, .int .i64 n, .int .u64 bt, .slice A3 nb c3, .slice A4 ni c4, .slice A5 nk c5] 42)).alloc (.cells #[.int .i64 1, .string nm, .slice X2 l2 x2, .slice X3 l3 x3, .slice X4 l4 x4, .bool hs, .string df, .int .i64 sz, .int .i64 it, .slice X9 l9 x9] 59))) := (((Below.refl _ _).alloc (Nat.le_refl _) _).alloc (by simp) _)
 have Z0 : Hid (((w.alloc (.cells #[.int .i64 1, .int .i64 n, .int .u64 bt, .slice A3 nb c3, .slice A4 ni c4, .slice A5 nk c5] 42)).alloc (.cells #[.int .i64 1, .string nm, .slice X2 l2 x2, .slice X3 l3 x3, .slice X4 l4 x4, .bool hs, .string df, .int .i64 sz, .int .i64 it, .slice X9 l9 x9] 59)).heap.size = w.heap.size + 2) := by show _ = _; simp
 have gb0 : b1 ≠ w.heap.size := by omega
 have gb1 : b1 ≠ w.heap.size + 1 := by omega
 clear hR
 go_enter Tryz.func42, Tryz.ntmps42
 go_wp2_with fail
 with_reducible refine (JU.out _).mono ?_
 rintro e w2 ⟨b, rfl, hbb, b2⟩
 rw [Z0.out] at b2
 have z2 := b2.size
 rw [Z0.out] at z2
 have bw2 : Below w.heap.size w w2 := W0.out.trans (b2.mono (Nat.le_add_right _ _))
 have h2 := Lib.hid (B6.below H0.out b2 (by omega))
 have n2 := Lib.hid (B10.below N0.out b2 (by omega))
 obtain ⟨_, _, _, _, _, _, _, _, _, _, _, _⟩ := B6.facts h2.out
 obtain ⟨_, _, _, _, _, _, _, _, _, _, _, _, _, _, _, _, _, _, _, _⟩ := B10.facts n2.out
 have HB := Lib.hid hbb
 clear hbb y0 y1 y2 y3 y4 y5 y6 y7 y8 y9 H0 N0 W0 JU Z0 b2
 cases b with
 | false =>
  have Z : Hid (¬ R) := fun r => by have := HB.out.2 (HR.out.1 r); simp at this
  go_wp2_with fail
  go_ret
  exact tells_no rfl Z.out bw2
 | true =>
  have HJ := Lib.hid (HB.out.1 (by first | rfl | trivial))
  clear HB
  have Z : Hid R := HR.out.2 HJ.out
  go_wp2_with fail
  go_ret
  exact tells_yes rfl Z.out bw2
theorem vone_2 (p nn : Nat) (hp : p < nn) (n bt : Int) (nb ni nk : Nat) (A3 A4 A5 : Option Addr) (c3 c4 c5 : Nat) (nm df : ByteArray) (l2 l3 l4 l9 x2 x3 x4 x9 : Nat) (X2 X3 X4 X9 : Option Addr) (hs : Bool) (sz it : Int) (b1 o1 c : Nat) (w : World) (lb1 : b1 < w.heap.size)
 (y0 : w.cell? ⟨b1, o1 + p * 10, none⟩ = some (.int .i64 2)) (y1 : w.cell? ⟨b1, o1 + p * 10 + 1, none⟩ = some (.string nm)) (y2 : w.cell? ⟨b1, o1 + p * 10 + 2, none⟩ = some (.slice X2 l2 x2)) (y3 : w.cell? ⟨b1, o1 + p * 10 + 3, none⟩ = some (.slice X3 l3 x3)) (y4 : w.cell? ⟨b1, o1 + p * 10 + 4, none⟩ = some (.slice X4 l4 x4))
 (y5 : w.cell? ⟨b1, o1 + p * 10 + 5, none⟩ = some (.bool hs)) (y6 : w.cell? ⟨b1, o1 + p * 10 + 6, none⟩ = some (.string df)) (y7 : w.cell? ⟨b1, o1 + p * 10 + 7, none⟩ = some (.int .i64 sz)) (y8 : w.cell? ⟨b1, o1 + p * 10 + 8, none⟩ = some (.int .i64 it)) (y9 : w.cell? ⟨b1, o1 + p * 10 + 9, none⟩ = some (.slice X9 l9 x9)) (R : Prop) (hR : R ↔ VJust 2 n bt nb ni nk ∧ (n = 0 ∨ n = 1)) :
 Calls Tryz.prog 42 #[.slice (some ⟨b1, o1, none⟩) nn c, .int .i64 (p : Int), .agg #[.int .i64 2, .int .i64 n, .int .u64 bt, .slice A3 nb c3, .slice A4 ni c4, .slice A5 nk c5]] w (Tells R w) := by
 have CS := cell_set
 have q : (p : Int) < (nn : Int) := by omega
 have HR := Lib.hid hR
 have JU := Lib.hid (fun W => vjust_2 n bt nb ni nk A3 A4 A5 c3 c4 c5 W)
 have H0 := Lib.hid (B6.alloc (B6.newat (w := w) (t := 42) (x0 := .int .i64 2) (x1 := .int .i64 n) (x2 := .int .u64 bt) (x3 := .slice A3 nb c3) (x4 := .slice A4 ni c4) (x5 := .slice A5 nk c5) rfl) (.cells #[.int .i64 2, .string nm, .slice X2 l2 x2, .slice X3 l3 x3, .slice X4 l4 x4, .bool hs, .string df, .int .i64 sz, .int .i64 it, .slice X9 l9 x9] 59))
 have N0 := Lib.hid (B10.newat (w := w.alloc (.cells #[.int .i64 2, .int .i64 n, .int .u64 bt, .slice A3 nb c3, .slice A4 ni c4, .slice A5 nk c5] 42)) (g := w.heap.size + 1) (t := 59) (x0 := .int .i64 2) (x1 := .string nm) (x2 := .slice X2 l2 x2) (x3 := .slice X3 l3 x3) (x4 := .slice X4 l4 x4) (x5 := .bool hs) (x6 := .string df) (x7 := .int .i64 sz) (x8 := .int .i64 it) (x9 := .slice X9 l9 x9) (by simp))
 have W0 : Hid (Below w.heap.size w ((w.alloc (.cells #[.int .i64 2, .int .i64 n, .int .u64 bt, .slice A3 nb c3, .slice A4 ni c4, .slice A5 nk c5] 42)).alloc (.cells #[.int .i64 2, .string nm, .slice X2 l2 x2, .slice X3 l3 x3, .slice X4 l4 x4, .bool hs, .string df, .int .i64 sz, .int .i64 it, .slice X9 l9 x9] 59))) := (((Below.refl _ _).alloc (Nat.le_refl _) _).alloc (by simp) _)
 have Z0 : Hid (((w.alloc (.cells #[.int .i64 2, .int .i64 n, .int .u64 bt, .slice A3 nb c3, .slice A4 ni c4, .slice A5 nk c5] 42)).alloc (.cells #[.int .i64 2, .string nm, .slice X2 l2 x2, .slice X3 l3 x3, .slice X4 l4 x4, .bool hs, .string df, .int .i64 sz, .int .i64 it, .slice X9 l9 x9] 59)).heap.size = w.heap.size + 2) := by show _ = _; simp
 have gb0 : b1 ≠ w.heap.size := by omega
 have gb1 : b1 ≠ w.heap.size + 1 := by omega
 clear hR
 go_enter Tryz.func42, Tryz.ntmps42
 go_wp2_with fail
 with_reducible refine (JU.out _).mono ?_
 rintro e w2 ⟨b, rfl, hbb, b2⟩
 rw [Z0.out] at b2
 have z2 := b2.size
 rw [Z0.out] at z2
 have bw2 : Below w.heap.size w w2 := W0.out.trans (b2.mono (Nat.le_add_right _ _))
 have h2 := Lib.hid (B6.below H0.out b2 (by omega))
 have n2 := Lib.hid (B10.below N0.out b2 (by omega))
 obtain ⟨_, _, _, _, _, _, _, _, _, _, _, _⟩ := B6.facts h2.out
 obtain ⟨_, _, _, _, _, _, _, _, _, _, _, _, _, _, _, _, _, _, _, _⟩ := B10.facts n2.out
 have HB := Lib.hid hbb
 clear hbb y0 y1 y2 y3 y4 y5 y6 y7 y8 y9 H0 N0 W0 JU Z0 b2
 cases b with
 | false =>
  have Z : Hid (¬ R) := fun r => by have := HB.out.2 (HR.out.1 r).1; simp at this
  go_wp2_with fail
  go_ret
  exact tells_no rfl Z.out bw2
 | true =>
  have HJ := Lib.hid (HB.out.1 (by first | rfl | trivial))
  clear HB
  by_cases h0 : n = 0
  · have q0 : (n == 0) = true := by rw [beq_iff_eq]; exact h0
    have Z : Hid R := HR.out.2 ⟨HJ.out, .inl h0⟩
    go_wp2_with fail
    go_ret
    exact tells_yes rfl Z.out bw2
  · have q0 : (n == 0) = false := by rw [beq_eq_false_iff_ne]; exact h0
    by_cases h1 : n = 1
    · have q1 : (n == 1) = true := by rw [beq_iff_eq]; exact h1
      have Z : Hid R := HR.out.2 ⟨HJ.out, .inr h1⟩
      go_wp2_with fail
      go_ret
      exact tells_yes rfl Z.out bw2
    · have q1 : (n == 1) = false := by rw [beq_eq_false_iff_ne]; exact h1
      have Z : Hid (¬ R) := fun r => by have := (HR.out.1 r).2; omega
      go_wp2_with fail
      go_ret
      exact tells_no (by first | rfl | (simp; omega)) Z.out bw2
theorem vone_3 (p nn : Nat) (hp : p < nn) (n bt : Int) (nb ni nk : Nat) (A3 A4 A5 : Option Addr) (c3 c4 c5 : Nat) (nm df : ByteArray) (l2 l3 l4 l9 x2 x3 x4 x9 : Nat) (X2 X3 X4 X9 : Option Addr) (hs : Bool) (sz it : Int) (b1 o1 c : Nat) (w : World) (lb1 : b1 < w.heap.size)
 (y0 : w.cell? ⟨b1, o1 + p * 10, none⟩ = some (.int .i64 3)) (y1 : w.cell? ⟨b1, o1 + p * 10 + 1, none⟩ = some (.string nm)) (y2 : w.cell? ⟨b1, o1 + p * 10 + 2, none⟩ = some (.slice X2 l2 x2)) (y3 : w.cell? ⟨b1, o1 + p * 10 + 3, none⟩ = some (.slice X3 l3 x3)) (y4 : w.cell? ⟨b1, o1 + p * 10 + 4, none⟩ = some (.slice X4 l4 x4))
 (y5 : w.cell? ⟨b1, o1 + p * 10 + 5, none⟩ = some (.bool hs)) (y6 : w.cell? ⟨b1, o1 + p * 10 + 6, none⟩ = some (.string df)) (y7 : w.cell? ⟨b1, o1 + p * 10 + 7, none⟩ = some (.int .i64 sz)) (y8 : w.cell? ⟨b1, o1 + p * 10 + 8, none⟩ = some (.int .i64 it)) (y9 : w.cell? ⟨b1, o1 + p * 10 + 9, none⟩ = some (.slice X9 l9 x9)) (R : Prop) (hR : R ↔ VJust 3 n bt nb ni nk ∧ (-2147483648 ≤ n ∧ n ≤ 2147483647)) :
 Calls Tryz.prog 42 #[.slice (some ⟨b1, o1, none⟩) nn c, .int .i64 (p : Int), .agg #[.int .i64 3, .int .i64 n, .int .u64 bt, .slice A3 nb c3, .slice A4 ni c4, .slice A5 nk c5]] w (Tells R w) := by
 have CS := cell_set
 have q : (p : Int) < (nn : Int) := by omega
 have HR := Lib.hid hR
 have JU := Lib.hid (fun W => vjust_3 n bt nb ni nk A3 A4 A5 c3 c4 c5 W)
 have H0 := Lib.hid (B6.alloc (B6.newat (w := w) (t := 42) (x0 := .int .i64 3) (x1 := .int .i64 n) (x2 := .int .u64 bt) (x3 := .slice A3 nb c3) (x4 := .slice A4 ni c4) (x5 := .slice A5 nk c5) rfl) (.cells #[.int .i64 3, .string nm, .slice X2 l2 x2, .slice X3 l3 x3, .slice X4 l4 x4, .bool hs, .string df, .int .i64 sz, .int .i64 it, .slice X9 l9 x9] 59))
 have N0 := Lib.hid (B10.newat (w := w.alloc (.cells #[.int .i64 3, .int .i64 n, .int .u64 bt, .slice A3 nb c3, .slice A4 ni c4, .slice A5 nk c5] 42)) (g := w.heap.size + 1) (t := 59) (x0 := .int .i64 3) (x1 := .string nm) (x2 := .slice X2 l2 x2) (x3 := .slice X3 l3 x3) (x4 := .slice X4 l4 x4) (x5 := .bool hs) (x6 := .string df) (x7 := .int .i64 sz) (x8 := .int .i64 it) (x9 := .slice X9 l9 x9) (by simp))
 have W0 : Hid (Below w.heap.size w ((w.alloc (.cells #[.int .i64 3, .int .i64 n, .int .u64 bt, .slice A3 nb c3, .slice A4 ni c4, .slice A5 nk c5] 42)).alloc (.cells #[.int .i64 3, .string nm, .slice X2 l2 x2, .slice X3 l3 x3, .slice X4 l4 x4, .bool hs, .string df, .int .i64 sz, .int .i64 it, .slice X9 l9 x9] 59))) := (((Below.refl _ _).alloc (Nat.le_refl _) _).alloc (by simp) _)
 have Z0 : Hid (((w.alloc (.cells #[.int .i64 3, .int .i64 n, .int .u64 bt, .slice A3 nb c3, .slice A4 ni c4, .slice A5 nk c5] 42)).alloc (.cells #[.int .i64 3, .string nm, .slice X2 l2 x2, .slice X3 l3 x3, .slice X4 l4 x4, .bool hs, .string df, .int .i64 sz, .int .i64 it, .slice X9 l9 x9] 59)).heap.size = w.heap.size + 2) := by show _ = _; simp
 have gb0 : b1 ≠ w.heap.size := by omega
 have gb1 : b1 ≠ w.heap.size + 1 := by omega
 clear hR
 go_enter Tryz.func42, Tryz.ntmps42
 go_wp2_with fail
 with_reducible refine (JU.out _).mono ?_
 rintro e w2 ⟨b, rfl, hbb, b2⟩
 rw [Z0.out] at b2
 have z2 := b2.size
 rw [Z0.out] at z2
 have bw2 : Below w.heap.size w w2 := W0.out.trans (b2.mono (Nat.le_add_right _ _))
 have h2 := Lib.hid (B6.below H0.out b2 (by omega))
 have n2 := Lib.hid (B10.below N0.out b2 (by omega))
 obtain ⟨_, _, _, _, _, _, _, _, _, _, _, _⟩ := B6.facts h2.out
 obtain ⟨_, _, _, _, _, _, _, _, _, _, _, _, _, _, _, _, _, _, _, _⟩ := B10.facts n2.out
 have HB := Lib.hid hbb
 clear hbb y0 y1 y2 y3 y4 y5 y6 y7 y8 y9 H0 N0 W0 JU Z0 b2
 cases b with
 | false =>
  have Z : Hid (¬ R) := fun r => by have := HB.out.2 (HR.out.1 r).1; simp at this
  go_wp2_with fail
  go_ret
  exact tells_no rfl Z.out bw2
 | true =>
  have HJ := Lib.hid (HB.out.1 (by first | rfl | trivial))
  clear HB
  by_cases h0 : -2147483648 ≤ n
  · by_cases h1 : n ≤ 2147483647
    · have Z : Hid R := HR.out.2 ⟨HJ.out, h0, h1⟩
      go_wp2_with fail
      go_ret
      exact tells_yes rfl Z.out bw2
    · have Z : Hid (¬ R) := fun r => h1 (HR.out.1 r).2.2
      go_wp2_with fail
      go_ret
      exact tells_no (by first | rfl | (simp; omega)) Z.out bw2
  · have Z : Hid (¬ R) := fun r => h0 (HR.out.1 r).2.1
    go_wp2_with fail
    go_ret
    exact tells_no (by first | rfl | (simp; omega)) Z.out bw2
theorem vone_4 (p nn : Nat) (hp : p < nn) (n bt : Int) (nb ni nk : Nat) (A3 A4 A5 : Option Addr) (c3 c4 c5 : Nat) (nm df : ByteArray) (l2 l3 l4 l9 x2 x3 x4 x9 : Nat) (X2 X3 X4 X9 : Option Addr) (hs : Bool) (sz it : Int) (b1 o1 c : Nat) (w : World) (lb1 : b1 < w.heap.size)
 (y0 : w.cell? ⟨b1, o1 + p * 10, none⟩ = some (.int .i64 4)) (y1 : w.cell? ⟨b1, o1 + p * 10 + 1, none⟩ = some (.string nm)) (y2 : w.cell? ⟨b1, o1 + p * 10 + 2, none⟩ = some (.slice X2 l2 x2)) (y3 : w.cell? ⟨b1, o1 + p * 10 + 3, none⟩ = some (.slice X3 l3 x3)) (y4 : w.cell? ⟨b1, o1 + p * 10 + 4, none⟩ = some (.slice X4 l4 x4))
 (y5 : w.cell? ⟨b1, o1 + p * 10 + 5, none⟩ = some (.bool hs)) (y6 : w.cell? ⟨b1, o1 + p * 10 + 6, none⟩ = some (.string df)) (y7 : w.cell? ⟨b1, o1 + p * 10 + 7, none⟩ = some (.int .i64 sz)) (y8 : w.cell? ⟨b1, o1 + p * 10 + 8, none⟩ = some (.int .i64 it)) (y9 : w.cell? ⟨b1, o1 + p * 10 + 9, none⟩ = some (.slice X9 l9 x9)) (R : Prop) (hR : R ↔ VJust 4 n bt nb ni nk) :
 Calls Tryz.prog 42 #[.slice (some ⟨b1, o1, none⟩) nn c, .int .i64 (p : Int), .agg #[.int .i64 4, .int .i64 n, .int .u64 bt, .slice A3 nb c3, .slice A4 ni c4, .slice A5 nk c5]] w (Tells R w) := by
 have CS := cell_set
 have q : (p : Int) < (nn : Int) := by omega
 have HR := Lib.hid hR
 have JU := Lib.hid (fun W => vjust_4 n bt nb ni nk A3 A4 A5 c3 c4 c5 W)
 have H0 := Lib.hid (B6.alloc (B6.newat (w := w) (t := 42) (x0 := .int .i64 4) (x1 := .int .i64 n) (x2 := .int .u64 bt) (x3 := .slice A3 nb c3) (x4 := .slice A4 ni c4) (x5 := .slice A5 nk c5) rfl) (.cells #[.int .i64 4, .string nm, .slice X2 l2 x2, .slice X3 l3 x3, .slice X4 l4 x4, .bool hs, .string df, .int .i64 sz, .int .i64 it, .slice X9 l9 x9] 59))
 have N0 := Lib.hid (B10.newat (w := w.alloc (.cells #[.int .i64 4, .int .i64 n, .int .u64 bt, .slice A3 nb c3, .slice A4 ni c4, .slice A5 nk c5] 42)) (g := w.heap.size + 1) (t := 59) (x0 := .int .i64 4) (x1 := .string nm) (x2 := .slice X2 l2 x2) (x3 := .slice X3 l3 x3) (x4 := .slice X4 l4 x4) (x5 := .bool hs) (x6 := .string df) (x7 := .int .i64 sz) (x8 := .int .i64 it) (x9 := .slice X9 l9 x9) (by simp))
 have W0 : Hid (Below w.heap.size w ((w.alloc (.cells #[.int .i64 4, .int .i64 n, .int .u64 bt, .slice A3 nb c3, .slice A4 ni c4, .slice A5 nk c5] 42)).alloc (.cells #[.int .i64 4, .string nm, .slice X2 l2 x2, .slice X3 l3 x3, .slice X4 l4 x4, .bool hs, .string df, .int .i64 sz, .int .i64 it, .slice X9 l9 x9] 59))) := (((Below.refl _ _).alloc (Nat.le_refl _) _).alloc (by simp) _)
 have Z0 : Hid (((w.alloc (.cells #[.int .i64 4, .int .i64 n, .int .u64 bt, .slice A3 nb c3, .slice A4 ni c4, .slice A5 nk c5] 42)).alloc (.cells #[.int .i64 4, .string nm, .slice X2 l2 x2, .slice X3 l3 x3, .slice X4 l4 x4, .bool hs, .string df, .int .i64 sz, .int .i64 it, .slice X9 l9 x9] 59)).heap.size = w.heap.size + 2) := by show _ = _; simp
 have gb0 : b1 ≠ w.heap.size := by omega
 have gb1 : b1 ≠ w.heap.size + 1 := by omega
 clear hR
 go_enter Tryz.func42, Tryz.ntmps42
 go_wp2_with fail
 with_reducible refine (JU.out _).mono ?_
 rintro e w2 ⟨b, rfl, hbb, b2⟩
 rw [Z0.out] at b2
 have z2 := b2.size
 rw [Z0.out] at z2
 have bw2 : Below w.heap.size w w2 := W0.out.trans (b2.mono (Nat.le_add_right _ _))
 have h2 := Lib.hid (B6.below H0.out b2 (by omega))
 have n2 := Lib.hid (B10.below N0.out b2 (by omega))
 obtain ⟨_, _, _, _, _, _, _, _, _, _, _, _⟩ := B6.facts h2.out
 obtain ⟨_, _, _, _, _, _, _, _, _, _, _, _, _, _, _, _, _, _, _, _⟩ := B10.facts n2.out
 have HB := Lib.hid hbb
 clear hbb y0 y1 y2 y3 y4 y5 y6 y7 y8 y9 H0 N0 W0 JU Z0 b2
 cases b with
 | false =>
  have Z : Hid (¬ R) := fun r => by have := HB.out.2 (HR.out.1 r); simp at this
  go_wp2_with fail
  go_ret
  exact tells_no rfl Z.out bw2
 | true =>
  have HJ := Lib.hid (HB.out.1 (by first | rfl | trivial))
  clear HB
  have Z : Hid R := HR.out.2 HJ.out
  go_wp2_with fail
  go_ret
  exact tells_yes rfl Z.out bw2
theorem vone_5 (p nn : Nat) (hp : p < nn) (n bt : Int) (nb ni nk : Nat) (A3 A4 A5 : Option Addr) (c3 c4 c5 : Nat) (nm df : ByteArray) (l2 l3 l4 l9 x2 x3 x4 x9 : Nat) (X2 X3 X4 X9 : Option Addr) (hs : Bool) (sz it : Int) (b1 o1 c : Nat) (w : World) (lb1 : b1 < w.heap.size)
 (y0 : w.cell? ⟨b1, o1 + p * 10, none⟩ = some (.int .i64 5)) (y1 : w.cell? ⟨b1, o1 + p * 10 + 1, none⟩ = some (.string nm)) (y2 : w.cell? ⟨b1, o1 + p * 10 + 2, none⟩ = some (.slice X2 l2 x2)) (y3 : w.cell? ⟨b1, o1 + p * 10 + 3, none⟩ = some (.slice X3 l3 x3)) (y4 : w.cell? ⟨b1, o1 + p * 10 + 4, none⟩ = some (.slice X4 l4 x4))
 (y5 : w.cell? ⟨b1, o1 + p * 10 + 5, none⟩ = some (.bool hs)) (y6 : w.cell? ⟨b1, o1 + p * 10 + 6, none⟩ = some (.string df)) (y7 : w.cell? ⟨b1, o1 + p * 10 + 7, none⟩ = some (.int .i64 sz)) (y8 : w.cell? ⟨b1, o1 + p * 10 + 8, none⟩ = some (.int .i64 it)) (y9 : w.cell? ⟨b1, o1 + p * 10 + 9, none⟩ = some (.slice X9 l9 x9)) (R : Prop) (hR : R ↔ VJust 5 n bt nb ni nk ∧ bt ≤ 4294967295) :
 Calls Tryz.prog 42 #[.slice (some ⟨b1, o1, none⟩) nn c, .int .i64 (p : Int), .agg #[.int .i64 5, .int .i64 n, .int .u64 bt, .slice A3 nb c3, .slice A4 ni c4, .slice A5 nk c5]] w (Tells R w) := by
 have CS := cell_set
 have q : (p : Int) < (nn : Int) := by omega
 have HR := Lib.hid hR
 have JU := Lib.hid (fun W => vjust_5 n bt nb ni nk A3 A4 A5 c3 c4 c5 W)
 have H0 := Lib.hid (B6.alloc (B6.newat (w := w) (t := 42) (x0 := .int .i64 5) (x1 := .int .i64 n) (x2 := .int .u64 bt) (x3 := .slice A3 nb c3) (x4 := .slice A4 ni c4) (x5 := .slice A5 nk c5) rfl) (.cells #[.int .i64 5, .string nm, .slice X2 l2 x2, .slice X3 l3 x3, .slice X4 l4 x4, .bool hs, .string df, .int .i64 sz, .int .i64 it, .slice X9 l9 x9] 59))
 have N0 := Lib.hid (B10.newat (w := w.alloc (.cells #[.int .i64 5, .int .i64 n, .int .u64 bt, .slice A3 nb c3, .slice A4 ni c4, .slice A5 nk c5] 42)) (g := w.heap.size + 1) (t := 59) (x0 := .int .i64 5) (x1 := .string nm) (x2 := .slice X2 l2 x2) (x3 := .slice X3 l3 x3) (x4 := .slice X4 l4 x4) (x5 := .bool hs) (x6 := .string df) (x7 := .int .i64 sz) (x8 := .int .i64 it) (x9 := .slice X9 l9 x9) (by simp))
 have W0 : Hid (Below w.heap.size w ((w.alloc (.cells #[.int .i64 5, .int .i64 n, .int .u64 bt, .slice A3 nb c3, .slice A4 ni c4, .slice A5 nk c5] 42)).alloc (.cells #[.int .i64 5, .string nm, .slice X2 l2 x2, .slice X3 l3 x3, .slice X4 l4 x4, .bool hs, .string df, .int .i64 sz, .int .i64 it, .slice X9 l9 x9] 59))) := (((Below.refl _ _).alloc (Nat.le_refl _) _).alloc (by simp) _)
 have Z0 : Hid (((w.alloc (.cells #[.int .i64 5, .int .i64 n, .int .u64 bt, .slice A3 nb c3, .slice A4 ni c4, .slice A5 nk c5] 42)).alloc (.cells #[.int .i64 5, .string nm, .slice X2 l2 x2, .slice X3 l3 x3, .slice X4 l4 x4, .bool hs, .string df, .int .i64 sz, .int .i64 it, .slice X9 l9 x9] 59)).heap.size = w.heap.size + 2) := by show _ = _; simp
 have gb0 : b1 ≠ w.heap.size := by omega
 have gb1 : b1 ≠ w.heap.size + 1 := by omega
 clear hR
 go_enter Tryz.func42, Tryz.ntmps42
 go_wp2_with fail
 with_reducible refine (JU.out _).mono ?_
 rintro e w2 ⟨b, rfl, hbb, b2⟩
 rw [Z0.out] at b2
 have z2 := b2.size
 rw [Z0.out] at z2
 have bw2 : Below w.heap.size w w2 := W0.out.trans (b2.mono (Nat.le_add_right _ _))
 have h2 := Lib.hid (B6.below H0.out b2 (by omega))
 have n2 := Lib.hid (B10.below N0.out b2 (by omega))
 obtain ⟨_, _, _, _, _, _, _, _, _, _, _, _⟩ := B6.facts h2.out
 obtain ⟨_, _, _, _, _, _, _, _, _, _, _, _, _, _, _, _, _, _, _, _⟩ := B10.facts n2.out
 have HB := Lib.hid hbb
 clear hbb y0 y1 y2 y3 y4 y5 y6 y7 y8 y9 H0 N0 W0 JU Z0 b2
 cases b with
 | false =>
  have Z : Hid (¬ R) := fun r => by have := HB.out.2 (HR.out.1 r).1; simp at this
  go_wp2_with fail
  go_ret
  exact tells_no rfl Z.out bw2
 | true =>
  have HJ := Lib.hid (HB.out.1 (by first | rfl | trivial))
  clear HB
  by_cases h0 : bt ≤ 4294967295
  · have Z : Hid R := HR.out.2 ⟨HJ.out, h0⟩
    go_wp2_with fail
    go_ret
    exact tells_yes rfl Z.out bw2
  · have Z : Hid (¬ R) := fun r => h0 (HR.out.1 r).2
    go_wp2_with fail
    go_ret
    exact tells_no (by first | rfl | (simp; omega)) Z.out bw2
theorem vone_6 (p nn : Nat) (hp : p < nn) (n bt : Int) (nb ni nk : Nat) (A3 A4 A5 : Option Addr) (c3 c4 c5 : Nat) (nm df : ByteArray) (l2 l3 l4 l9 x2 x3 x4 x9 : Nat) (X2 X3 X4 X9 : Option Addr) (hs : Bool) (sz it : Int) (b1 o1 c : Nat) (w : World) (lb1 : b1 < w.heap.size)
 (y0 : w.cell? ⟨b1, o1 + p * 10, none⟩ = some (.int .i64 6)) (y1 : w.cell? ⟨b1, o1 + p * 10 + 1, none⟩ = some (.string nm)) (y2 : w.cell? ⟨b1, o1 + p * 10 + 2, none⟩ = some (.slice X2 l2 x2)) (y3 : w.cell? ⟨b1, o1 + p * 10 + 3, none⟩ = some (.slice X3 l3 x3)) (y4 : w.cell? ⟨b1, o1 + p * 10 + 4, none⟩ = some (.slice X4 l4 x4))
 (y5 : w.cell? ⟨b1, o1 + p * 10 + 5, none⟩ = some (.bool hs)) (y6 : w.cell? ⟨b1, o1 + p * 10 + 6, none⟩ = some (.string df)) (y7 : w.cell? ⟨b1, o1 + p * 10 + 7, none⟩ = some (.int .i64 sz)) (y8 : w.cell? ⟨b1, o1 + p * 10 + 8, none⟩ = some (.int .i64 it)) (y9 : w.cell? ⟨b1, o1 + p * 10 + 9, none⟩ = some (.slice X9 l9 x9)) (R : Prop) (hR : R ↔ VJust 6 n bt nb ni nk) :
 Calls Tryz.prog 42 #[.slice (some ⟨b1, o1, none⟩) nn c, .int .i64 (p : Int), .agg #[.int .i64 6, .int .i64 n, .int .u64 bt, .slice A3 nb c3, .slice A4 ni c4, .slice A5 nk c5]] w (Tells R w) := by
 have CS := cell_set
 have q : (p : Int) < (nn : Int) := by omega
 have HR := Lib.hid hR
 have JU := Lib.hid (fun W => vjust_6 n bt nb ni nk A3 A4 A5 c3 c4 c5 W)
 have H0 := Lib.hid (B6.alloc (B6.newat (w := w) (t := 42) (x0 := .int .i64 6) (x1 := .int .i64 n) (x2 := .int .u64 bt) (x3 := .slice A3 nb c3) (x4 := .slice A4 ni c4) (x5 := .slice A5 nk c5) rfl) (.cells #[.int .i64 6, .string nm, .slice X2 l2 x2, .slice X3 l3 x3, .slice X4 l4 x4, .bool hs, .string df, .int .i64 sz, .int .i64 it, .slice X9 l9 x9] 59))
 have N0 := Lib.hid (B10.newat (w := w.alloc (.cells #[.int .i64 6, .int .i64 n, .int .u64 bt, .slice A3 nb c3, .slice A4 ni c4, .slice A5 nk c5] 42)) (g := w.heap.size + 1) (t := 59) (x0 := .int .i64 6) (x1 := .string nm) (x2 := .slice X2 l2 x2) (x3 := .slice X3 l3 x3) (x4 := .slice X4 l4 x4) (x5 := .bool hs) (x6 := .string df) (x7 := .int .i64 sz) (x8 := .int .i64 it) (x9 := .slice X9 l9 x9) (by simp))
 have W0 : Hid (Below w.heap.size w ((w.alloc (.cells #[.int .i64 6, .int .i64 n, .int .u64 bt, .slice A3 nb c3, .slice A4 ni c4, .slice A5 nk c5] 42)).alloc (.cells #[.int .i64 6, .string nm, .slice X2 l2 x2, .slice X3 l3 x3, .slice X4 l4 x4, .bool hs, .string df, .int .i64 sz, .int .i64 it, .slice X9 l9 x9] 59))) := (((Below.refl _ _).alloc (Nat.le_refl _) _).alloc (by simp) _)
 have Z0 : Hid (((w.alloc (.cells #[.int .i64 6, .int .i64 n, .int .u64 bt, .slice A3 nb c3, .slice A4 ni c4, .slice A5 nk c5] 42)).alloc (.cells #[.int .i64 6, .string nm, .slice X2 l2 x2, .slice X3 l3 x3, .slice X4 l4 x4, .bool hs, .string df, .int .i64 sz, .int .i64 it, .slice X9 l9 x9] 59)).heap.size = w.heap.size + 2) := by show _ = _; simp
 have gb0 : b1 ≠ w.heap.size := by omega
 have gb1 : b1 ≠ w.heap.size + 1 := by omega
 clear hR
 go_enter Tryz.func42, Tryz.ntmps42
 go_wp2_with fail
 with_reducible refine (JU.out _).mono ?_
 rintro e w2 ⟨b, rfl, hbb, b2⟩
 rw [Z0.out] at b2
 have z2 := b2.size
 rw [Z0.out] at z2
 have bw2 : Below w.heap.size w w2 := W0.out.trans (b2.mono (Nat.le_add_right _ _))
 have h2 := Lib.hid (B6.below H0.out b2 (by omega))
 have n2 := Lib.hid (B10.below N0.out b2 (by omega))
 obtain ⟨_, _, _, _, _, _, _, _, _, _, _, _⟩ := B6.facts h2.out
 obtain ⟨_, _, _, _, _, _, _, _, _, _, _, _, _, _, _, _, _, _, _, _⟩ := B10.facts n2.out
 have HB := Lib.hid hbb
 clear hbb y0 y1 y2 y3 y4 y5 y6 y7 y8 y9 H0 N0 W0 JU Z0 b2
 cases b with
 | false =>
  have Z : Hid (¬ R) := fun r => by have := HB.out.2 (HR.out.1 r); simp at this
  go_wp2_with fail
  go_ret
  exact tells_no rfl Z.out bw2
 | true =>
  have HJ := Lib.hid (HB.out.1 (by first | rfl | trivial))
  clear HB
  have Z : Hid R := HR.out.2 HJ.out
  go_wp2_with fail
  go_ret
  exact tells_yes rfl Z.out bw2
theorem vone_7 (p nn : Nat) (hp : p < nn) (n bt : Int) (nb ni nk : Nat) (A3 A4 A5 : Option Addr) (c3 c4 c5 : Nat) (nm df : ByteArray) (l2 l3 l4 l9 x2 x3 x4 x9 : Nat) (X2 X3 X4 X9 : Option Addr) (hs : Bool) (sz it : Int) (b1 o1 c : Nat) (w : World) (lb1 : b1 < w.heap.size)
 (y0 : w.cell? ⟨b1, o1 + p * 10, none⟩ = some (.int .i64 7)) (y1 : w.cell? ⟨b1, o1 + p * 10 + 1, none⟩ = some (.string nm)) (y2 : w.cell? ⟨b1, o1 + p * 10 + 2, none⟩ = some (.slice X2 l2 x2)) (y3 : w.cell? ⟨b1, o1 + p * 10 + 3, none⟩ = some (.slice X3 l3 x3)) (y4 : w.cell? ⟨b1, o1 + p * 10 + 4, none⟩ = some (.slice X4 l4 x4))
 (y5 : w.cell? ⟨b1, o1 + p * 10 + 5, none⟩ = some (.bool hs)) (y6 : w.cell? ⟨b1, o1 + p * 10 + 6, none⟩ = some (.string df)) (y7 : w.cell? ⟨b1, o1 + p * 10 + 7, none⟩ = some (.int .i64 sz)) (y8 : w.cell? ⟨b1, o1 + p * 10 + 8, none⟩ = some (.int .i64 it)) (y9 : w.cell? ⟨b1, o1 + p * 10 + 9, none⟩ = some (.slice X9 l9 x9)) (R : Prop) (hR : R ↔ VJust 7 n bt nb ni nk ∧ nb ≤ 20000) :
 Calls Tryz.prog 42 #[.slice (some ⟨b1, o1, none⟩) nn c, .int .i64 (p : Int), .agg #[.int .i64 7, .int .i64 n, .int .u64 bt, .slice A3 nb c3, .slice A4 ni c4, .slice A5 nk c5]] w (Tells R w) := by
 have CS := cell_set
 have q : (p : Int) < (nn : Int) := by omega
 have HR := Lib.hid hR
 have JU := Lib.hid (fun W => vjust_7 n bt nb ni nk A3 A4 A5 c3 c4 c5 W)
 have H0 := Lib.hid (B6.alloc (B6.newat (w := w) (t := 42) (x0 := .int .i64 7) (x1 := .int .i64 n) (x2 := .int .u64 bt) (x3 := .slice A3 nb c3) (x4 := .slice A4 ni c4) (x5 := .slice A5 nk c5) rfl) (.cells #[.int .i64 7, .string nm, .slice X2 l2 x2, .slice X3 l3 x3, .slice X4 l4 x4, .bool hs, .string df, .int .i64 sz, .int .i64 it, .slice X9 l9 x9] 59))
 have N0 := Lib.hid (B10.newat (w := w.alloc (.cells #[.int .i64 7, .int .i64 n, .int .u64 bt, .slice A3 nb c3, .slice A4 ni c4, .slice A5 nk c5] 42)) (g := w.heap.size + 1) (t := 59) (x0 := .int .i64 7) (x1 := .string nm) (x2 := .slice X2 l2 x2) (x3 := .slice X3 l3 x3) (x4 := .slice X4 l4 x4) (x5 := .bool hs) (x6 := .string df) (x7 := .int .i64 sz) (x8 := .int .i64 it) (x9 := .slice X9 l9 x9) (by simp))
 have W0 : Hid (Below w.heap.size w ((w.alloc (.cells #[.int .i64 7, .int .i64 n, .int .u64 bt, .slice A3 nb c3, .slice A4 ni c4, .slice A5 nk c5] 42)).alloc (.cells #[.int .i64 7, .string nm, .slice X2 l2 x2, .slice X3 l3 x3, .slice X4 l4 x4, .bool hs, .string df, .int .i64 sz, .int .i64 it, .slice X9 l9 x9] 59))) := (((Below.refl _ _).alloc (Nat.le_refl _) _).alloc (by simp) _)
 have Z0 : Hid (((w.alloc (.cells #[.int .i64 7, .int .i64 n, .int .u64 bt, .slice A3 nb c3, .slice A4 ni c4, .slice A5 nk c5] 42)).alloc (.cells #[.int .i64 7, .string nm, .slice X2 l2 x2, .slice X3 l3 x3, .slice X4 l4 x4, .bool hs, .string df, .int .i64 sz, .int .i64 it, .slice X9 l9 x9] 59)).heap.size = w.heap.size + 2) := by show _ = _; simp
 have gb0 : b1 ≠ w.heap.size := by omega
 have gb1 : b1 ≠ w.heap.size + 1 := by omega
 clear hR
 go_enter Tryz.func42, Tryz.ntmps42
 go_wp2_with fail
 with_reducible refine (JU.out _).mono ?_
 rintro e w2 ⟨b, rfl, hbb, b2⟩
 rw [Z0.out] at b2
 have z2 := b2.size
 rw [Z0.out] at z2
 have bw2 : Below w.heap.size w w2 := W0.out.trans (b2.mono (Nat.le_add_right _ _))
 have h2 := Lib.hid (B6.below H0.out b2 (by omega))
 have n2 := Lib.hid (B10.below N0.out b2 (by omega))
 obtain ⟨_, _, _, _, _, _, _, _, _, _, _, _⟩ := B6.facts h2.out
 obtain ⟨_, _, _, _, _, _, _, _, _, _, _, _, _, _, _, _, _, _, _, _⟩ := B10.facts n2.out
 have HB := Lib.hid hbb
 clear hbb y0 y1 y2 y3 y4 y5 y6 y7 y8 y9 H0 N0 W0 JU Z0 b2
 cases b with
 | false =>
  have Z : Hid (¬ R) := fun r => by have := HB.out.2 (HR.out.1 r).1; simp at this
  go_wp2_with fail
  go_ret
  exact tells_no rfl Z.out bw2
 | true =>
  have HJ := Lib.hid (HB.out.1 (by first | rfl | trivial))
  clear HB
  by_cases h0 : (nb : Int) ≤ 20000
  · have Z : Hid R := HR.out.2 ⟨HJ.out, by omega⟩
    go_wp2_with fail
    go_ret
    exact tells_yes rfl Z.out bw2
  · have Z : Hid (¬ R) := fun r => h0 (by have := (HR.out.1 r).2; omega)
    go_wp2_with fail
    go_ret
    exact tells_no (by first | rfl | (simp; omega)) Z.out bw2
theorem vone_10 (p nn : Nat) (hp : p < nn) (n bt : Int) (nb ni nk : Nat) (A3 A4 A5 : Option Addr) (c3 c4 c5 : Nat) (nm df : ByteArray) (l2 l3 l4 l9 x2 x3 x4 x9 : Nat) (X2 X3 X4 X9 : Option Addr) (hs : Bool) (sz it : Int) (b1 o1 c : Nat) (w : World) (lb1 : b1 < w.heap.size)
 (y0 : w.cell? ⟨b1, o1 + p * 10, none⟩ = some (.int .i64 10)) (y1 : w.cell? ⟨b1, o1 + p * 10 + 1, none⟩ = some (.string nm)) (y2 : w.cell? ⟨b1, o1 + p * 10 + 2, none⟩ = some (.slice X2 l2 x2)) (y3 : w.cell? ⟨b1, o1 + p * 10 + 3, none⟩ = some (.slice X3 l3 x3)) (y4 : w.cell? ⟨b1, o1 + p * 10 + 4, none⟩ = some (.slice X4 l4 x4))
 (y5 : w.cell? ⟨b1, o1 + p * 10 + 5, none⟩ = some (.bool hs)) (y6 : w.cell? ⟨b1, o1 + p * 10 + 6, none⟩ = some (.string df)) (y7 : w.cell? ⟨b1, o1 + p * 10 + 7, none⟩ = some (.int .i64 sz)) (y8 : w.cell? ⟨b1, o1 + p * 10 + 8, none⟩ = some (.int .i64 it)) (y9 : w.cell? ⟨b1, o1 + p * 10 + 9, none⟩ = some (.slice X9 l9 x9)) (R : Prop) (hR : R ↔ VJust 10 n bt nb ni nk ∧ (0 ≤ n ∧ n < (l4 : Int))) :
 Calls Tryz.prog 42 #[.slice (some ⟨b1, o1, none⟩) nn c, .int .i64 (p : Int), .agg #[.int .i64 10, .int .i64 n, .int .u64 bt, .slice A3 nb c3, .slice A4 ni c4, .slice A5 nk c5]] w (Tells R w) := by
 have CS := cell_set
 have q : (p : Int) < (nn : Int) := by omega
 have HR := Lib.hid hR
 have JU := Lib.hid (fun W => vjust_10 n bt nb ni nk A3 A4 A5 c3 c4 c5 W)
 have H0 := Lib.hid (B6.alloc (B6.newat (w := w) (t := 42) (x0 := .int .i64 10) (x1 := .int .i64 n) (x2 := .int .u64 bt) (x3 := .slice A3 nb c3) (x4 := .slice A4 ni c4) (x5 := .slice A5 nk c5) rfl) (.cells #[.int .i64 10, .string nm, .slice X2 l2 x2, .slice X3 l3 x3, .slice X4 l4 x4, .bool hs, .string df, .int .i64 sz, .int .i64 it, .slice X9 l9 x9] 59))
 have N0 := Lib.hid (B10.newat (w := w.alloc (.cells #[.int .i64 10, .int .i64 n, .int .u64 bt, .slice A3 nb c3, .slice A4 ni c4, .slice A5 nk c5] 42)) (g := w.heap.size + 1) (t := 59) (x0 := .int .i64 10) (x1 := .string nm) (x2 := .slice X2 l2 x2) (x3 := .slice X3 l3 x3) (x4 := .slice X4 l4 x4) (x5 := .bool hs) (x6 := .string df) (x7 := .int .i64 sz) (x8 := .int .i64 it) (x9 := .slice X9 l9 x9) (by simp))
 have W0 : Hid (Below w.heap.size w ((w.alloc (.cells #[.int .i64 10, .int .i64 n, .int .u64 bt, .slice A3 nb c3, .slice A4 ni c4, .slice A5 nk c5] 42)).alloc (.cells #[.int .i64 10, .string nm, .slice X2 l2 x2, .slice X3 l3 x3, .slice X4 l4 x4, .bool hs, .string df, .int .i64 sz, .int .i64 it, .slice X9 l9 x9] 59))) := (((Below.refl _ _).alloc (Nat.le_refl _) _).alloc (by simp) _)
 have Z0 : Hid (((w.alloc (.cells #[.int .i64 10, .int .i64 n, .int .u64 bt, .slice A3 nb c3, .slice A4 ni c4, .slice A5 nk c5] 42)).alloc (.cells #[.int .i64 10, .string nm, .slice X2 l2 x2, .slice X3 l3 x3, .slice X4 l4 x4, .bool hs, .string df, .int .i64 sz, .int .i64 it, .slice X9 l9 x9] 59)).heap.size = w.heap.size + 2) := by show _ = _; simp
 have gb0 : b1 ≠ w.heap.size := by omega
 have gb1 : b1 ≠ w.heap.size + 1 := by omega
 clear hR
 go_enter Tryz.func42, Tryz.ntmps42
 go_wp2_with fail
 with_reducible refine (JU.out _).mono ?_
 rintro e w2 ⟨b, rfl, hbb, b2⟩
 rw [Z0.out] at b2
 have z2 := b2.size
 rw [Z0.out] at z2
 have bw2 : Below w.heap.size w w2 := W0.out.trans (b2.mono (Nat.le_add_right _ _))
 have h2 := Lib.hid (B6.below H0.out b2 (by omega))
 have n2 := Lib.hid (B10.below N0.out b2 (by omega))
 obtain ⟨_, _, _, _, _, _, _, _, _, _, _, _⟩ := B6.facts h2.out
 obtain ⟨_, _, _, _, _, _, _, _, _, _, _, _, _, _, _, _, _, _, _, _⟩ := B10.facts n2.out
 have HB := Lib.hid hbb
 clear hbb y0 y1 y2 y3 y4 y5 y6 y7 y8 y9 H0 N0 W0 JU Z0 b2
 cases b with
 | false =>
  have Z : Hid (¬ R) := fun r => by have := HB.out.2 (HR.out.1 r).1; simp at this
  go_wp2_with fail
  go_ret
  exact tells_no rfl Z.out bw2
 | true =>
  have HJ := Lib.hid (HB.out.1 (by first | rfl | trivial))
  clear HB
  have AM := Lib.hid (among_pure n (l4 : Int))
  have Z : Hid (decide (0 ≤ n ∧ n < (l4 : Int)) = true ↔ R) := by show _ ↔ _; rw [decide_eq_true_iff]; exact ⟨fun k => HR.out.2 ⟨HJ.out, k⟩, fun r => (HR.out.1 r).2⟩
  generalize decide (0 ≤ n ∧ n < (l4 : Int)) = Y at *
  go_wp2_with fail
  with_reducible refine (AM.out _).mono ?_
  rintro e w3 ⟨rfl, rfl⟩
  go_wp2_with fail
  go_ret
  exact ⟨Y, rfl, Z.out, bw2⟩
theorem vone_14 (p nn : Nat) (hp : p < nn) (n bt : Int) (nb ni nk : Nat) (A3 A4 A5 : Option Addr) (c3 c4 c5 : Nat) (nm df : ByteArray) (l2 l3 l4 l9 x2 x3 x4 x9 : Nat) (X2 X3 X4 X9 : Option Addr) (hs : Bool) (sz it : Int) (b1 o1 c : Nat) (w : World) (lb1 : b1 < w.heap.size)
 (y0 : w.cell? ⟨b1, o1 + p * 10, none⟩ = some (.int .i64 14)) (y1 : w.cell? ⟨b1, o1 + p * 10 + 1, none⟩ = some (.string nm)) (y2 : w.cell? ⟨b1, o1 + p * 10 + 2, none⟩ = some (.slice X2 l2 x2)) (y3 : w.cell? ⟨b1, o1 + p * 10 + 3, none⟩ = some (.slice X3 l3 x3)) (y4 : w.cell? ⟨b1, o1 + p * 10 + 4, none⟩ = some (.slice X4 l4 x4))
 (y5 : w.cell? ⟨b1, o1 + p * 10 + 5, none⟩ = some (.bool hs)) (y6 : w.cell? ⟨b1, o1 + p * 10 + 6, none⟩ = some (.string df)) (y7 : w.cell? ⟨b1, o1 + p * 10 + 7, none⟩ = some (.int .i64 sz)) (y8 : w.cell? ⟨b1, o1 + p * 10 + 8, none⟩ = some (.int .i64 it)) (y9 : w.cell? ⟨b1, o1 + p * 10 + 9, none⟩ = some (.slice X9 l9 x9)) (R : Prop) (hR : R ↔ VJust 14 n bt nb ni nk ∧ (nb : Int) = sz) :
 Calls Tryz.prog 42 #[.slice (some ⟨b1, o1, none⟩) nn c, .int .i64 (p : Int), .agg #[.int .i64 14, .int .i64 n, .int .u64 bt, .slice A3 nb c3, .slice A4 ni c4, .slice A5 nk c5]] w (Tells R w) := by
 have CS := cell_set
 have q : (p : Int) < (nn : Int) := by omega
 have HR := Lib.hid hR
 have JU := Lib.hid (fun W => vjust_14 n bt nb ni nk A3 A4 A5 c3 c4 c5 W)
 have H0 := Lib.hid (B6.alloc (B6.newat (w := w) (t := 42) (x0 := .int .i64 14) (x1 := .int .i64 n) (x2 := .int .u64 bt) (x3 := .slice A3 nb c3) (x4 := .slice A4 ni c4) (x5 := .slice A5 nk c5) rfl) (.cells #[.int .i64 14, .string nm, .slice X2 l2 x2, .slice X3 l3 x3, .slice X4 l4 x4, .bool hs, .string df, .int .i64 sz, .int .i64 it, .slice X9 l9 x9] 59))
 have N0 := Lib.hid (B10.newat (w := w.alloc (.cells #[.int .i64 14, .int .i64 n, .int .u64 bt, .slice A3 nb c3, .slice A4 ni c4, .slice A5 nk c5] 42)) (g := w.heap.size + 1) (t := 59) (x0 := .int .i64 14) (x1 := .string nm) (x2 := .slice X2 l2 x2) (x3 := .slice X3 l3 x3) (x4 := .slice X4 l4 x4) (x5 := .bool hs) (x6 := .string df) (x7 := .int .i64 sz) (x8 := .int .i64 it) (x9 := .slice X9 l9 x9) (by simp))
 have W0 : Hid (Below w.heap.size w ((w.alloc (.cells #[.int .i64 14, .int .i64 n, .int .u64 bt, .slice A3 nb c3, .slice A4 ni c4, .slice A5 nk c5] 42)).alloc (.cells #[.int .i64 14, .string nm, .slice X2 l2 x2, .slice X3 l3 x3, .slice X4 l4 x4, .bool hs, .string df, .int .i64 sz, .int .i64 it, .slice X9 l9 x9] 59))) := (((Below.refl _ _).alloc (Nat.le_refl _) _).alloc (by simp) _)
 have Z0 : Hid (((w.alloc (.cells #[.int .i64 14, .int .i64 n, .int .u64 bt, .slice A3 nb c3, .slice A4 ni c4, .slice A5 nk c5] 42)).alloc (.cells #[.int .i64 14, .string nm, .slice X2 l2 x2, .slice X3 l3 x3, .slice X4 l4 x4, .bool hs, .string df, .int .i64 sz, .int .i64 it, .slice X9 l9 x9] 59)).heap.size = w.heap.size + 2) := by show _ = _; simp
 have gb0 : b1 ≠ w.heap.size := by omega
 have gb1 : b1 ≠ w.heap.size + 1 := by omega
 clear hR
 go_enter Tryz.func42, Tryz.ntmps42
 go_wp2_with fail
 with_reducible refine (JU.out _).mono ?_
 rintro e w2 ⟨b, rfl, hbb, b2⟩
 rw [Z0.out] at b2
 have z2 := b2.size
 rw [Z0.out] at z2
 have bw2 : Below w.heap.size w w2 := W0.out.trans (b2.mono (Nat.le_add_right _ _))
 have h2 := Lib.hid (B6.below H0.out b2 (by omega))
 have n2 := Lib.hid (B10.below N0.out b2 (by omega))
 obtain ⟨_, _, _, _, _, _, _, _, _, _, _, _⟩ := B6.facts h2.out
 obtain ⟨_, _, _, _, _, _, _, _, _, _, _, _, _, _, _, _, _, _, _, _⟩ := B10.facts n2.out
 have HB := Lib.hid hbb
 clear hbb y0 y1 y2 y3 y4 y5 y6 y7 y8 y9 H0 N0 W0 JU Z0 b2
 cases b with
 | false =>
  have Z : Hid (¬ R) := fun r => by have := HB.out.2 (HR.out.1 r).1; simp at this
  go_wp2_with fail
  go_ret
  exact tells_no rfl Z.out bw2
 | true =>
  have HJ := Lib.hid (HB.out.1 (by first | rfl | trivial))
  clear HB
  by_cases h0 : (nb : Int) = sz
  · have q0 : ((nb : Int) == sz) = true := by rw [beq_iff_eq]; exact h0
    have Z : Hid R := HR.out.2 ⟨HJ.out, h0⟩
    go_wp2_with fail
    go_ret
    exact tells_yes rfl Z.out bw2
  · have q0 : ((nb : Int) == sz) = false := by rw [beq_eq_false_iff_ne]; exact h0
    have Z : Hid (¬ R) := fun r => h0 (HR.out.1 r).2
    go_wp2_with fail
    go_ret
    exact tells_no (by first | rfl | (simp; omega)) Z.out bw2
theorem vone_8 (p nn : Nat) (hp : p < nn) (n bt : Int) (nb ni nk : Nat) (A3 A4 A5 : Option Addr) (c3 c4 c5 : Nat) (nm df : ByteArray) (l2 l3 l4 l9 x2 x3 x4 x9 : Nat) (X2 X3 X4 X9 : Option Addr) (hs : Bool) (sz it : Int) (b1 o1 c : Nat) (w : World) (lb1 : b1 < w.heap.size)
 (y0 : w.cell? ⟨b1, o1 + p * 10, none⟩ = some (.int .i64 8)) (y1 : w.cell? ⟨b1, o1 + p * 10 + 1, none⟩ = some (.string nm)) (y2 : w.cell? ⟨b1, o1 + p * 10 + 2, none⟩ = some (.slice X2 l2 x2)) (y3 : w.cell? ⟨b1, o1 + p * 10 + 3, none⟩ = some (.slice X3 l3 x3)) (y4 : w.cell? ⟨b1, o1 + p * 10 + 4, none⟩ = some (.slice X4 l4 x4))
 (y5 : w.cell? ⟨b1, o1 + p * 10 + 5, none⟩ = some (.bool hs)) (y6 : w.cell? ⟨b1, o1 + p * 10 + 6, none⟩ = some (.string df)) (y7 : w.cell? ⟨b1, o1 + p * 10 + 7, none⟩ = some (.int .i64 sz)) (y8 : w.cell? ⟨b1, o1 + p * 10 + 8, none⟩ = some (.int .i64 it)) (y9 : w.cell? ⟨b1, o1 + p * 10 + 9, none⟩ = some (.slice X9 l9 x9)) (Q : Prop) (RC : Hid (∀ W, Below w.heap.size w W → Calls Tryz.prog 86 #[.slice A3 nb c3] W (Tells Q W))) (R : Prop) (hR : R ↔ VJust 8 n bt nb ni nk ∧ Q ∧ nb ≤ 20000) :
 Calls Tryz.prog 42 #[.slice (some ⟨b1, o1, none⟩) nn c, .int .i64 (p : Int), .agg #[.int .i64 8, .int .i64 n, .int .u64 bt, .slice A3 nb c3, .slice A4 ni c4, .slice A5 nk c5]] w (Tells R w) := by
 have CS := cell_set
 have q : (p : Int) < (nn : Int) := by omega
 have HR := Lib.hid hR
 have JU := Lib.hid (fun W => vjust_8 n bt nb ni nk A3 A4 A5 c3 c4 c5 W)
 have H0 := Lib.hid (B6.alloc (B6.newat (w := w) (t := 42) (x0 := .int .i64 8) (x1 := .int .i64 n) (x2 := .int .u64 bt) (x3 := .slice A3 nb c3) (x4 := .slice A4 ni c4) (x5 := .slice A5 nk c5) rfl) (.cells #[.int .i64 8, .string nm, .slice X2 l2 x2, .slice X3 l3 x3, .slice X4 l4 x4, .bool hs, .string df, .int .i64 sz, .int .i64 it, .slice X9 l9 x9] 59))
 have N0 := Lib.hid (B10.newat (w := w.alloc (.cells #[.int .i64 8, .int .i64 n, .int .u64 bt, .slice A3 nb c3, .slice A4 ni c4, .slice A5 nk c5] 42)) (g := w.heap.size + 1) (t := 59) (x0 := .int .i64 8) (x1 := .string nm) (x2 := .slice X2 l2 x2) (x3 := .slice X3 l3 x3) (x4 := .slice X4 l4 x4) (x5 := .bool hs) (x6 := .string df) (x7 := .int .i64 sz) (x8 := .int .i64 it) (x9 := .slice X9 l9 x9) (by simp))
 have W0 : Hid (Below w.heap.size w ((w.alloc (.cells #[.int .i64 8, .int .i64 n, .int .u64 bt, .slice A3 nb c3, .slice A4 ni c4, .slice A5 nk c5] 42)).alloc (.cells #[.int .i64 8, .string nm, .slice X2 l2 x2, .slice X3 l3 x3, .slice X4 l4 x4, .bool hs, .string df, .int .i64 sz, .int .i64 it, .slice X9 l9 x9] 59))) := (((Below.refl _ _).alloc (Nat.le_refl _) _).alloc (by simp) _)
 have Z0 : Hid (((w.alloc (.cells #[.int .i64 8, .int .i64 n, .int .u64 bt, .slice A3 nb c3, .slice A4 ni c4, .slice A5 nk c5] 42)).alloc (.cells #[.int .i64 8, .string nm, .slice X2 l2 x2, .slice X3 l3 x3, .slice X4 l4 x4, .bool hs, .string df, .int .i64 sz, .int .i64 it, .slice X9 l9 x9] 59)).heap.size = w.heap.size + 2) := by show _ = _; simp
 have gb0 : b1 ≠ w.heap.size := by omega
 have gb1 : b1 ≠ w.heap.size + 1 := by omega
 clear hR
 go_enter Tryz.func42, Tryz.ntmps42
 go_wp2_with fail
 with_reducible refine (JU.out _).mono ?_
 rintro e w2 ⟨b, rfl, hbb, b2⟩
 rw [Z0.out] at b2
 have z2 := b2.size
 rw [Z0.out] at z2
 have bw2 : Below w.heap.size w w2 := W0.out.trans (b2.mono (Nat.le_add_right _ _))
 have h2 := Lib.hid (B6.below H0.out b2 (by omega))
 have n2 := Lib.hid (B10.below N0.out b2 (by omega))
 obtain ⟨_, _, _, _, _, _, _, _, _, _, _, _⟩ := B6.facts h2.out
 obtain ⟨_, _, _, _, _, _, _, _, _, _, _, _, _, _, _, _, _, _, _, _⟩ := B10.facts n2.out
 have HB := Lib.hid hbb
 clear hbb y0 y1 y2 y3 y4 y5 y6 y7 y8 y9 H0 N0 W0 JU Z0 b2
 cases b with
 | false =>
  have Z : Hid (¬ R) := fun r => by have := HB.out.2 (HR.out.1 r).1; simp at this
  go_wp2_with fail
  go_ret
  exact tells_no rfl Z.out bw2
 | true =>
  have HJ := Lib.hid (HB.out.1 (by first | rfl | trivial))
  clear HB
  go_wp2_with fail
  with_reducible refine (RC.out _ bw2).mono ?_
  rintro e w3 ⟨b, rfl, hbb, b3⟩
  have bw3 : Below w.heap.size w w3 := bw2.trans (b3.mono bw2.size)
  have HB := Lib.hid hbb
  clear hbb
  have h3 := Lib.hid (B6.below h2.out b3 (by omega))
  have n3 := Lib.hid (B10.below n2.out b3 (by omega))
  obtain ⟨_, _, _, _, _, _, _, _, _, _, _, _⟩ := B6.facts h3.out
  obtain ⟨_, _, _, _, _, _, _, _, _, _, _, _, _, _, _, _, _, _, _, _⟩ := B10.facts n3.out
  cases b with
  | false =>
   have Z : Hid (¬ R) := fun r => by have := HB.out.2 (HR.out.1 r).2.1; simp at this
   go_wp2_with fail
   go_ret
   exact tells_no rfl Z.out bw3
  | true =>
   have HK := Lib.hid (HB.out.1 (by first | rfl | trivial))
   by_cases h0 : (nb : Int) ≤ 20000
   · have Z : Hid R := HR.out.2 ⟨HJ.out, HK.out, by omega⟩
     go_wp2_with fail
     go_ret
     exact tells_yes rfl Z.out bw3
   · have Z : Hid (¬ R) := fun r => h0 (by have := (HR.out.1 r).2.2; omega)
     go_wp2_with fail
     go_ret
     exact tells_no (by first | rfl | (simp; omega)) Z.out bw3
theorem vone_9 (p nn : Nat) (hp : p < nn) (n bt : Int) (nb ni nk : Nat) (A3 A4 A5 : Option Addr) (c3 c4 c5 : Nat) (nm df : ByteArray) (l2 l3 l4 l9 x2 x3 x4 x9 : Nat) (X2 X3 X4 X9 : Option Addr) (hs : Bool) (sz it : Int) (b1 o1 c : Nat) (w : World) (lb1 : b1 < w.heap.size)
 (y0 : w.cell? ⟨b1, o1 + p * 10, none⟩ = some (.int .i64 9)) (y1 : w.cell? ⟨b1, o1 + p * 10 + 1, none⟩ = some (.string nm)) (y2 : w.cell? ⟨b1, o1 + p * 10 + 2, none⟩ = some (.slice X2 l2 x2)) (y3 : w.cell? ⟨b1, o1 + p * 10 + 3, none⟩ = some (.slice X3 l3 x3)) (y4 : w.cell? ⟨b1, o1 + p * 10 + 4, none⟩ = some (.slice X4 l4 x4))
 (y5 : w.cell? ⟨b1, o1 + p * 10 + 5, none⟩ = some (.bool hs)) (y6 : w.cell? ⟨b1, o1 + p * 10 + 6, none⟩ = some (.string df)) (y7 : w.cell? ⟨b1, o1 + p * 10 + 7, none⟩ = some (.int .i64 sz)) (y8 : w.cell? ⟨b1, o1 + p * 10 + 8, none⟩ = some (.int .i64 it)) (y9 : w.cell? ⟨b1, o1 + p * 10 + 9, none⟩ = some (.slice X9 l9 x9)) (Q : Prop) (RC : Hid (∀ W, Below w.heap.size w W → Calls Tryz.prog 87 #[.slice (some ⟨b1, o1, none⟩) nn c, .slice X3 l3 x3, .slice A4 ni c4] W (Tells Q W))) (R : Prop) (hR : R ↔ VJust 9 n bt nb ni nk ∧ Q) :
 Calls Tryz.prog 42 #[.slice (some ⟨b1, o1, none⟩) nn c, .int .i64 (p : Int), .agg #[.int .i64 9, .int .i64 n, .int .u64 bt, .slice A3 nb c3, .slice A4 ni c4, .slice A5 nk c5]] w (Tells R w) := by
 have CS := cell_set
 have q : (p : Int) < (nn : Int) := by omega
 have HR := Lib.hid hR
 have JU := Lib.hid (fun W => vjust_9 n bt nb ni nk A3 A4 A5 c3 c4 c5 W)
 have H0 := Lib.hid (B6.alloc (B6.newat (w := w) (t := 42) (x0 := .int .i64 9) (x1 := .int .i64 n) (x2 := .int .u64 bt) (x3 := .slice A3 nb c3) (x4 := .slice A4 ni c4) (x5 := .slice A5 nk c5) rfl) (.cells #[.int .i64 9, .string nm, .slice X2 l2 x2, .slice X3 l3 x3, .slice X4 l4 x4, .bool hs, .string df, .int .i64 sz, .int .i64 it, .slice X9 l9 x9] 59))
 have N0 := Lib.hid (B10.newat (w := w.alloc (.cells #[.int .i64 9, .int .i64 n, .int .u64 bt, .slice A3 nb c3, .slice A4 ni c4, .slice A5 nk c5] 42)) (g := w.heap.size + 1) (t := 59) (x0 := .int .i64 9) (x1 := .string nm) (x2 := .slice X2 l2 x2) (x3 := .slice X3 l3 x3) (x4 := .slice X4 l4 x4) (x5 := .bool hs) (x6 := .string df) (x7 := .int .i64 sz) (x8 := .int .i64 it) (x9 := .slice X9 l9 x9) (by simp))
 have W0 : Hid (Below w.heap.size w ((w.alloc (.cells #[.int .i64 9, .int .i64 n, .int .u64 bt, .slice A3 nb c3, .slice A4 ni c4, .slice A5 nk c5] 42)).alloc (.cells #[.int .i64 9, .string nm, .slice X2 l2 x2, .slice X3 l3 x3, .slice X4 l4 x4, .bool hs, .string df, .int .i64 sz, .int .i64 it, .slice X9 l9 x9] 59))) := (((Below.refl _ _).alloc (Nat.le_refl _) _).alloc (by simp) _)
 have Z0 : Hid (((w.alloc (.cells #[.int .i64 9, .int .i64 n, .int .u64 bt, .slice A3 nb c3, .slice A4 ni c4, .slice A5 nk c5] 42)).alloc (.cells #[.int .i64 9, .string nm, .slice X2 l2 x2, .slice X3 l3 x3, .slice X4 l4 x4, .bool hs, .string df, .int .i64 sz, .int .i64 it, .slice X9 l9 x9] 59)).heap.size = w.heap.size + 2) := by show _ = _; simp
 have gb0 : b1 ≠ w.heap.size := by omega
 have gb1 : b1 ≠ w.heap.size + 1 := by omega
 clear hR
 go_enter Tryz.func42, Tryz.ntmps42
 go_wp2_with fail
 with_reducible refine (JU.out _).mono ?_
 rintro e w2 ⟨b, rfl, hbb, b2⟩
 rw [Z0.out] at b2
 have z2 := b2.size
 rw [Z0.out] at z2
 have bw2 : Below w.heap.size w w2 := W0.out.trans (b2.mono (Nat.le_add_right _ _))
 have h2 := Lib.hid (B6.below H0.out b2 (by omega))
 have n2 := Lib.hid (B10.below N0.out b2 (by omega))
 obtain ⟨_, _, _, _, _, _, _, _, _, _, _, _⟩ := B6.facts h2.out
 obtain ⟨_, _, _, _, _, _, _, _, _, _, _, _, _, _, _, _, _, _, _, _⟩ := B10.facts n2.out
 have HB := Lib.hid hbb
 clear hbb y0 y1 y2 y3 y4 y5 y6 y7 y8 y9 H0 N0 W0 JU Z0 b2
 cases b with
 | false =>
  have Z : Hid (¬ R) := fun r => by have := HB.out.2 (HR.out.1 r).1; simp at this
  go_wp2_with fail
  go_ret
  exact tells_no rfl Z.out bw2
 | true =>
  have HJ := Lib.hid (HB.out.1 (by first | rfl | trivial))
  clear HB
  go_wp2_with fail
  with_reducible refine (RC.out _ bw2).mono ?_
  rintro e w3 ⟨b, rfl, hbb, b3⟩
  have bw3 : Below w.heap.size w w3 := bw2.trans (b3.mono bw2.size)
  have HB := Lib.hid hbb
  clear hbb
  have Z : Hid (b = true ↔ R) := HB.out.trans ⟨fun k => HR.out.2 ⟨HJ.out, k⟩, fun r => (HR.out.1 r).2⟩
  go_wp2_with fail
  go_ret
  exact ⟨b, rfl, Z.out, bw3⟩
theorem vone_11 (p nn : Nat) (hp : p < nn) (n bt : Int) (nb ni nk : Nat) (A3 A4 A5 : Option Addr) (c3 c4 c5 : Nat) (nm df : ByteArray) (l2 l3 l4 l9 x2 x3 x4 x9 : Nat) (X2 X3 X4 X9 : Option Addr) (hs : Bool) (sz it : Int) (b1 o1 c : Nat) (w : World) (lb1 : b1 < w.heap.size)
 (y0 : w.cell? ⟨b1, o1 + p * 10, none⟩ = some (.int .i64 11)) (y1 : w.cell? ⟨b1, o1 + p * 10 + 1, none⟩ = some (.string nm)) (y2 : w.cell? ⟨b1, o1 + p * 10 + 2, none⟩ = some (.slice X2 l2 x2)) (y3 : w.cell? ⟨b1, o1 + p * 10 + 3, none⟩ = some (.slice X3 l3 x3)) (y4 : w.cell? ⟨b1, o1 + p * 10 + 4, none⟩ = some (.slice X4 l4 x4))
 (y5 : w.cell? ⟨b1, o1 + p * 10 + 5, none⟩ = some (.bool hs)) (y6 : w.cell? ⟨b1, o1 + p * 10 + 6, none⟩ = some (.string df)) (y7 : w.cell? ⟨b1, o1 + p * 10 + 7, none⟩ = some (.int .i64 sz)) (y8 : w.cell? ⟨b1, o1 + p * 10 + 8, none⟩ = some (.int .i64 it)) (y9 : w.cell? ⟨b1, o1 + p * 10 + 9, none⟩ = some (.slice X9 l9 x9)) (Q : Prop) (RC : Hid (∀ W, Below w.heap.size w W → Calls Tryz.prog 89 #[.slice (some ⟨b1, o1, none⟩) nn c, .int .i64 it, .slice A4 ni c4] W (Tells Q W))) (R : Prop) (hR : R ↔ VJust 11 n bt nb ni nk ∧ Q) :
 Calls Tryz.prog 42 #[.slice (some ⟨b1, o1, none⟩) nn c, .int .i64 (p : Int), .agg #[.int .i64 11, .int .i64 n, .int .u64 bt, .slice A3 nb c3, .slice A4 ni c4, .slice A5 nk c5]] w (Tells R w) := by
 have CS := cell_set
 have q : (p : Int) < (nn : Int) := by omega
 have HR := Lib.hid hR
 have JU := Lib.hid (fun W => vjust_11 n bt nb ni nk A3 A4 A5 c3 c4 c5 W)
 have H0 := Lib.hid (B6.alloc (B6.newat (w := w) (t := 42) (x0 := .int .i64 11) (x1 := .int .i64 n) (x2 := .int .u64 bt) (x3 := .slice A3 nb c3) (x4 := .slice A4 ni c4) (x5 := .slice A5 nk c5) rfl) (.cells #[.int .i64 11, .string nm, .slice X2 l2 x2, .slice X3 l3 x3, .slice X4 l4 x4, .bool hs, .string df, .int .i64 sz, .int .i64 it, .slice X9 l9 x9] 59))
 have N0 := Lib.hid (B10.newat (w := w.alloc (.cells #[.int .i64 11, .int .i64 n, .int .u64 bt, .slice A3 nb c3, .slice A4 ni c4, .slice A5 nk c5] 42)) (g := w.heap.size + 1) (t := 59) (x0 := .int .i64 11) (x1 := .string nm) (x2 := .slice X2 l2 x2) (x3 := .slice X3 l3 x3) (x4 := .slice X4 l4 x4) (x5 := .bool hs) (x6 := .string df) (x7 := .int .i64 sz) (x8 := .int .i64 it) (x9 := .slice X9 l9 x9) (by simp))
 have W0 : Hid (Below w.heap.size w ((w.alloc (.cells #[.int .i64 11, .int .i64 n, .int .u64 bt, .slice A3 nb c3, .slice A4 ni c4, .slice A5 nk c5] 42)).alloc (.cells #[.int .i64 11, .string nm, .slice X2 l2 x2, .slice X3 l3 x3, .slice X4 l4 x4, .bool hs, .string df, .int .i64 sz, .int .i64 it, .slice X9 l9 x9] 59))) := (((Below.refl _ _).alloc (Nat.le_refl _) _).alloc (by simp) _)
 have Z0 : Hid (((w.alloc (.cells #[.int .i64 11, .int .i64 n, .int .u64 bt, .slice A3 nb c3, .slice A4 ni c4, .slice A5 nk c5] 42)).alloc (.cells #[.int .i64 11, .string nm, .slice X2 l2 x2, .slice X3 l3 x3, .slice X4 l4 x4, .bool hs, .string df, .int .i64 sz, .int .i64 it, .slice X9 l9 x9] 59)).heap.size = w.heap.size + 2) := by show _ = _; simp
 have gb0 : b1 ≠ w.heap.size := by omega
 have gb1 : b1 ≠ w.heap.size + 1 := by omega
 clear hR
 go_enter Tryz.func42, Tryz.ntmps42
 go_wp2_with fail
 with_reducible refine (JU.out _).mono ?_
 rintro e w2 ⟨b, rfl, hbb, b2⟩
 rw [Z0.out] at b2
 have z2 := b2.size
 rw [Z0.out] at z2
 have bw2 : Below w.heap.size w w2 := W0.out.trans (b2.mono (Nat.le_add_right _ _))
 have h2 := Lib.hid (B6.below H0.out b2 (by omega))
 have n2 := Lib.hid (B10.below N0.out b2 (by omega))
 obtain ⟨_, _, _, _, _, _, _, _, _, _, _, _⟩ := B6.facts h2.out
 obtain ⟨_, _, _, _, _, _, _, _, _, _, _, _, _, _, _, _, _, _, _, _⟩ := B10.facts n2.out
 have HB := Lib.hid hbb
 clear hbb y0 y1 y2 y3 y4 y5 y6 y7 y8 y9 H0 N0 W0 JU Z0 b2
 cases b with
 | false =>
  have Z : Hid (¬ R) := fun r => by have := HB.out.2 (HR.out.1 r).1; simp at this
  go_wp2_with fail
  go_ret
  exact tells_no rfl Z.out bw2
 | true =>
  have HJ := Lib.hid (HB.out.1 (by first | rfl | trivial))
  clear HB
  go_wp2_with fail
  with_reducible refine (RC.out _ bw2).mono ?_
  rintro e w3 ⟨b, rfl, hbb, b3⟩
  have bw3 : Below w.heap.size w w3 := bw2.trans (b3.mono bw2.size)
  have HB := Lib.hid hbb
  clear hbb
  have Z : Hid (b = true ↔ R) := HB.out.trans ⟨fun k => HR.out.2 ⟨HJ.out, k⟩, fun r => (HR.out.1 r).2⟩
  go_wp2_with fail
  go_ret
  exact ⟨b, rfl, Z.out, bw3⟩
theorem vone_12 (p nn : Nat) (hp : p < nn) (n bt : Int) (nb ni nk : Nat) (A3 A4 A5 : Option Addr) (c3 c4 c5 : Nat) (nm df : ByteArray) (l2 l3 l4 l9 x2 x3 x4 x9 : Nat) (X2 X3 X4 X9 : Option Addr) (hs : Bool) (sz it : Int) (b1 o1 c : Nat) (w : World) (lb1 : b1 < w.heap.size)
 (y0 : w.cell? ⟨b1, o1 + p * 10, none⟩ = some (.int .i64 12)) (y1 : w.cell? ⟨b1, o1 + p * 10 + 1, none⟩ = some (.string nm)) (y2 : w.cell? ⟨b1, o1 + p * 10 + 2, none⟩ = some (.slice X2 l2 x2)) (y3 : w.cell? ⟨b1, o1 + p * 10 + 3, none⟩ = some (.slice X3 l3 x3)) (y4 : w.cell? ⟨b1, o1 + p * 10 + 4, none⟩ = some (.slice X4 l4 x4))
 (y5 : w.cell? ⟨b1, o1 + p * 10 + 5, none⟩ = some (.bool hs)) (y6 : w.cell? ⟨b1, o1 + p * 10 + 6, none⟩ = some (.string df)) (y7 : w.cell? ⟨b1, o1 + p * 10 + 7, none⟩ = some (.int .i64 sz)) (y8 : w.cell? ⟨b1, o1 + p * 10 + 8, none⟩ = some (.int .i64 it)) (y9 : w.cell? ⟨b1, o1 + p * 10 + 9, none⟩ = some (.slice X9 l9 x9)) (Q K : Prop) (RC : Hid (∀ W, Below w.heap.size w W → Calls Tryz.prog 89 #[.slice (some ⟨b1, o1, none⟩) nn c, .int .i64 it, .slice A4 ni c4] W (Tells Q W))) (KC : Hid (∀ W, Below w.heap.size w W → Calls Tryz.prog 88 #[.agg #[.int .i64 12, .int .i64 n, .int .u64 bt, .slice A3 nb c3, .slice A4 ni c4, .slice A5 nk c5]] W (Tells K W))) (R : Prop) (hR : R ↔ VJust 12 n bt nb ni nk ∧ K ∧ Q) :
 Calls Tryz.prog 42 #[.slice (some ⟨b1, o1, none⟩) nn c, .int .i64 (p : Int), .agg #[.int .i64 12, .int .i64 n, .int .u64 bt, .slice A3 nb c3, .slice A4 ni c4, .slice A5 nk c5]] w (Tells R w) := by
 have CS := cell_set
 have q : (p : Int) < (nn : Int) := by omega
 have HR := Lib.hid hR
 have JU := Lib.hid (fun W => vjust_12 n bt nb ni nk A3 A4 A5 c3 c4 c5 W)
 have H0 := Lib.hid (B6.alloc (B6.newat (w := w) (t := 42) (x0 := .int .i64 12) (x1 := .int .i64 n) (x2 := .int .u64 bt) (x3 := .slice A3 nb c3) (x4 := .slice A4 ni c4) (x5 := .slice A5 nk c5) rfl) (.cells #[.int .i64 12, .string nm, .slice X2 l2 x2, .slice X3 l3 x3, .slice X4 l4 x4, .bool hs, .string df, .int .i64 sz, .int .i64 it, .slice X9 l9 x9] 59))
 have N0 := Lib.hid (B10.newat (w := w.alloc (.cells #[.int .i64 12, .int .i64 n, .int .u64 bt, .slice A3 nb c3, .slice A4 ni c4, .slice A5 nk c5] 42)) (g := w.heap.size + 1) (t := 59) (x0 := .int .i64 12) (x1 := .string nm) (x2 := .slice X2 l2 x2) (x3 := .slice X3 l3 x3) (x4 := .slice X4 l4 x4) (x5 := .bool hs) (x6 := .string df) (x7 := .int .i64 sz) (x8 := .int .i64 it) (x9 := .slice X9 l9 x9) (by simp))
 have W0 : Hid (Below w.heap.size w ((w.alloc (.cells #[.int .i64 12, .int .i64 n, .int .u64 bt, .slice A3 nb c3, .slice A4 ni c4, .slice A5 nk c5] 42)).alloc (.cells #[.int .i64 12, .string nm, .slice X2 l2 x2, .slice X3 l3 x3, .slice X4 l4 x4, .bool hs, .string df, .int .i64 sz, .int .i64 it, .slice X9 l9 x9] 59))) := (((Below.refl _ _).alloc (Nat.le_refl _) _).alloc (by simp) _)
 have Z0 : Hid (((w.alloc (.cells #[.int .i64 12, .int .i64 n, .int .u64 bt, .slice A3 nb c3, .slice A4 ni c4, .slice A5 nk c5] 42)).alloc (.cells #[.int .i64 12, .string nm, .slice X2 l2 x2, .slice X3 l3 x3, .slice X4 l4 x4, .bool hs, .string df, .int .i64 sz, .int .i64 it, .slice X9 l9 x9] 59)).heap.size = w.heap.size + 2) := by show _ = _; simp
 have gb0 : b1 ≠ w.heap.size := by omega
 have gb1 : b1 ≠ w.heap.size + 1 := by omega
 clear hR
 go_enter Tryz.func42, Tryz.ntmps42
 go_wp2_with fail
 with_reducible refine (JU.out _).mono ?_
 rintro e w2 ⟨b, rfl, hbb, b2⟩
 rw [Z0.out] at b2
 have z2 := b2.size
 rw [Z0.out] at z2
 have bw2 : Below w.heap.size w w2 := W0.out.trans (b2.mono (Nat.le_add_right _ _))
 have h2 := Lib.hid (B6.below H0.out b2 (by omega))
 have n2 := Lib.hid (B10.below N0.out b2 (by omega))
 obtain ⟨_, _, _, _, _, _, _, _, _, _, _, _⟩ := B6.facts h2.out
 obtain ⟨_, _, _, _, _, _, _, _, _, _, _, _, _, _, _, _, _, _, _, _⟩ := B10.facts n2.out
 have HB := Lib.hid hbb
 clear hbb y0 y1 y2 y3 y4 y5 y6 y7 y8 y9 H0 N0 W0 JU Z0 b2
 cases b with
 | false =>
  have Z : Hid (¬ R) := fun r => by have := HB.out.2 (HR.out.1 r).1; simp at this
  go_wp2_with fail
  go_ret
  exact tells_no rfl Z.out bw2
 | true =>
  have HJ := Lib.hid (HB.out.1 (by first | rfl | trivial))
  clear HB
  go_wp2_with fail
  with_reducible refine (KC.out _ bw2).mono ?_
  rintro e w3 ⟨b, rfl, hbb, b3⟩
  have bw3 : Below w.heap.size w w3 := bw2.trans (b3.mono bw2.size)
  have HB := Lib.hid hbb
  clear hbb
  have h3 := Lib.hid (B6.below h2.out b3 (by omega))
  have n3 := Lib.hid (B10.below n2.out b3 (by omega))
  obtain ⟨_, _, _, _, _, _, _, _, _, _, _, _⟩ := B6.facts h3.out
  obtain ⟨_, _, _, _, _, _, _, _, _, _, _, _, _, _, _, _, _, _, _, _⟩ := B10.facts n3.out
  cases b with
  | false =>
   have Z : Hid (¬ R) := fun r => by have := HB.out.2 (HR.out.1 r).2.1; simp at this
   go_wp2_with fail
   go_ret
   exact tells_no rfl Z.out bw3
  | true =>
   have HK := Lib.hid (HB.out.1 (by first | rfl | trivial))
   go_wp2_with fail
   with_reducible refine (RC.out _ bw3).mono ?_
   rintro e w4 ⟨b, rfl, hbb, b4⟩
   have bw4 : Below w.heap.size w w4 := bw3.trans (b4.mono bw3.size)
   have Z : Hid (b = true ↔ R) := hbb.trans ⟨fun k => HR.out.2 ⟨HJ.out, HK.out, k⟩, fun r => (HR.out.1 r).2.2⟩
   clear hbb
   go_wp2_with fail
   go_ret
   exact ⟨b, rfl, Z.out, bw4⟩
end Go.Proofs.YthfoomobicbcpaaGreatDoor
