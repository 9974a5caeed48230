/- Joined by tools/bundle.py: VCG VCH. -/
import Derived.Deep.RegionHeldLaw
import Derived.Test.YtlpmcohbbffbfaaDoorQ12
import Derived.Test.YtlpmcohbbffbfaaDoorQ13
namespace Go.Proofs.YtlpmcohbbffbfaaDoor
open Go.ChangeShapes Go.WideShapes Go.ChangeAt Go.RowKit Mem
set_option maxRecDepth 100000 in
set_option maxHeartbeats 8000000 in
theorem vone_8 (p nn : Nat) (hp : p < nn) (n bt : Int) (nb ni nk : Nat) (A3 A4 A5 : Option Addr) (c3 c4 c5 : Nat) (nm df : ByteArray) (l2 l3 l4 l9 x2 x3 x4 x9 : Nat) (X2 X3 X4 X9 : Option Addr) (hs : Bool) (sz it : Int) (b1 o1 c : Nat) (w : World) (lb1 : b1 < w.heap.size)
    (y0 : w.cell? ⟨b1, o1 + p * 10, none⟩ = some (.int .i64 8)) (y1 : w.cell? ⟨b1, o1 + p * 10 + 1, none⟩ = some (.string nm)) (y2 : w.cell? ⟨b1, o1 + p * 10 + 2, none⟩ = some (.slice X2 l2 x2)) (y3 : w.cell? ⟨b1, o1 + p * 10 + 3, none⟩ = some (.slice X3 l3 x3)) (y4 : w.cell? ⟨b1, o1 + p * 10 + 4, none⟩ = some (.slice X4 l4 x4))
    (y5 : w.cell? ⟨b1, o1 + p * 10 + 5, none⟩ = some (.bool hs)) (y6 : w.cell? ⟨b1, o1 + p * 10 + 6, none⟩ = some (.string df)) (y7 : w.cell? ⟨b1, o1 + p * 10 + 7, none⟩ = some (.int .i64 sz)) (y8 : w.cell? ⟨b1, o1 + p * 10 + 8, none⟩ = some (.int .i64 it)) (y9 : w.cell? ⟨b1, o1 + p * 10 + 9, none⟩ = some (.slice X9 l9 x9)) (Q : Prop) (RC : Hid (∀ W, Below w.heap.size w W → Calls Tryd.prog 47 #[.slice A3 nb c3] W (Tells Q W))) (R : Prop) (hR : R ↔ VJust 8 n bt nb ni nk ∧ Q ∧ nb ≤ 20000) :
    Calls Tryd.prog 32 #[.slice (some ⟨b1, o1, none⟩) nn c, .int .i64 (p : Int), .agg #[.int .i64 8, .int .i64 n, .int .u64 bt, .slice A3 nb c3, .slice A4 ni c4, .slice A5 nk c5]] w (Tells R w) := by
  have CS := cell_set
  have q : (p : Int) < (nn : Int) := by omega
  have HR := Lib.hid hR
  have JU := Lib.hid (fun W => vjust_8 n bt nb ni nk A3 A4 A5 c3 c4 c5 W)
  have H0 := Lib.hid (B6.alloc (B6.newat (w := w) (t := 27) (x0 := .int .i64 8) (x1 := .int .i64 n) (x2 := .int .u64 bt) (x3 := .slice A3 nb c3) (x4 := .slice A4 ni c4) (x5 := .slice A5 nk c5) rfl) (.cells #[.int .i64 8, .string nm, .slice X2 l2 x2, .slice X3 l3 x3, .slice X4 l4 x4, .bool hs, .string df, .int .i64 sz, .int .i64 it, .slice X9 l9 x9] 40))
  have N0 := Lib.hid (B10.newat (w := w.alloc (.cells #[.int .i64 8, .int .i64 n, .int .u64 bt, .slice A3 nb c3, .slice A4 ni c4, .slice A5 nk c5] 27)) (g := w.heap.size + 1) (t := 40) (x0 := .int .i64 8) (x1 := .string nm) (x2 := .slice X2 l2 x2) (x3 := .slice X3 l3 x3) (x4 := .slice X4 l4 x4) (x5 := .bool hs) (x6 := .string df) (x7 := .int .i64 sz) (x8 := .int .i64 it) (x9 := .slice X9 l9 x9) (by simp))
  have W0 : Hid (Below w.heap.size w ((w.alloc (.cells #[.int .i64 8, .int .i64 n, .int .u64 bt, .slice A3 nb c3, .slice A4 ni c4, .slice A5 nk c5] 27)).alloc (.cells #[.int .i64 8, .string nm, .slice X2 l2 x2, .slice X3 l3 x3, .slice X4 l4 x4, .bool hs, .string df, .int .i64 sz, .int .i64 it, .slice X9 l9 x9] 40))) := (((Below.refl _ _).alloc (Nat.le_refl _) _).alloc (by simp) _)
  have Z0 : Hid (((w.alloc (.cells #[.int .i64 8, .int .i64 n, .int .u64 bt, .slice A3 nb c3, .slice A4 ni c4, .slice A5 nk c5] 27)).alloc (.cells #[.int .i64 8, .string nm, .slice X2 l2 x2, .slice X3 l3 x3, .slice X4 l4 x4, .bool hs, .string df, .int .i64 sz, .int .i64 it, .slice X9 l9 x9] 40)).heap.size = w.heap.size + 2) := by show _ = _; simp
  have gb0 : b1 ≠ w.heap.size := by omega
  have gb1 : b1 ≠ w.heap.size + 1 := by omega
  clear hR
  go_enter Tryd.func32, Tryd.ntmps32
  go_wp2_with fail
  with_reducible refine (JU.out _).mono ?_
  rintro e w2 ⟨b, rfl, hbb, b2⟩
  rw [Z0.out] at b2
  have z2 := b2.size
  rw [Z0.out] at z2
  have bw2 : Below w.heap.size w w2 := W0.out.trans (b2.mono (Nat.le_add_right _ _))
  have h2 := Lib.hid (B6.below H0.out b2 (by omega))
  have n2 := Lib.hid (B10.below N0.out b2 (by omega))
  obtain ⟨_, _, _, _, _, _, _, _, _, _, _, _⟩ := B6.facts h2.out
  obtain ⟨_, _, _, _, _, _, _, _, _, _, _, _, _, _, _, _, _, _, _, _⟩ := B10.facts n2.out
  have HB := Lib.hid hbb
  clear hbb y0 y1 y2 y3 y4 y5 y6 y7 y8 y9 H0 N0 W0 JU Z0 b2
  cases b with
  | false =>
    have Z : Hid (¬ R) := fun r => by have := HB.out.2 (HR.out.1 r).1; simp at this
    go_wp2_with fail
    go_ret
    exact tells_no rfl Z.out bw2
  | true =>
    have HJ := Lib.hid (HB.out.1 (by first | rfl | trivial))
    clear HB
    go_wp2_with fail
    with_reducible refine (RC.out _ bw2).mono ?_
    rintro e w3 ⟨b, rfl, hbb, b3⟩
    have bw3 : Below w.heap.size w w3 := bw2.trans (b3.mono bw2.size)
    have HB := Lib.hid hbb
    clear hbb
    have h3 := Lib.hid (B6.below h2.out b3 (by omega))
    have n3 := Lib.hid (B10.below n2.out b3 (by omega))
    obtain ⟨_, _, _, _, _, _, _, _, _, _, _, _⟩ := B6.facts h3.out
    obtain ⟨_, _, _, _, _, _, _, _, _, _, _, _, _, _, _, _, _, _, _, _⟩ := B10.facts n3.out
    cases b with
    | false =>
      have Z : Hid (¬ R) := fun r => by have := HB.out.2 (HR.out.1 r).2.1; simp at this
      go_wp2_with fail
      go_ret
      exact tells_no rfl Z.out bw3
    | true =>
      have HK := Lib.hid (HB.out.1 (by first | rfl | trivial))
      by_cases h0 : (nb : Int) ≤ 20000
      · have Z : Hid R := HR.out.2 ⟨HJ.out, HK.out, by omega⟩
        go_wp2_with fail
        go_ret
        exact tells_yes rfl Z.out bw3
      · have Z : Hid (¬ R) := fun r => h0 (by have := (HR.out.1 r).2.2; omega)
        go_wp2_with fail
        go_ret
        exact tells_no (by first | rfl | (simp; omega)) Z.out bw3
set_option maxRecDepth 100000 in
set_option maxHeartbeats 8000000 in
theorem vone_9 (p nn : Nat) (hp : p < nn) (n bt : Int) (nb ni nk : Nat) (A3 A4 A5 : Option Addr) (c3 c4 c5 : Nat) (nm df : ByteArray) (l2 l3 l4 l9 x2 x3 x4 x9 : Nat) (X2 X3 X4 X9 : Option Addr) (hs : Bool) (sz it : Int) (b1 o1 c : Nat) (w : World) (lb1 : b1 < w.heap.size)
    (y0 : w.cell? ⟨b1, o1 + p * 10, none⟩ = some (.int .i64 9)) (y1 : w.cell? ⟨b1, o1 + p * 10 + 1, none⟩ = some (.string nm)) (y2 : w.cell? ⟨b1, o1 + p * 10 + 2, none⟩ = some (.slice X2 l2 x2)) (y3 : w.cell? ⟨b1, o1 + p * 10 + 3, none⟩ = some (.slice X3 l3 x3)) (y4 : w.cell? ⟨b1, o1 + p * 10 + 4, none⟩ = some (.slice X4 l4 x4))
    (y5 : w.cell? ⟨b1, o1 + p * 10 + 5, none⟩ = some (.bool hs)) (y6 : w.cell? ⟨b1, o1 + p * 10 + 6, none⟩ = some (.string df)) (y7 : w.cell? ⟨b1, o1 + p * 10 + 7, none⟩ = some (.int .i64 sz)) (y8 : w.cell? ⟨b1, o1 + p * 10 + 8, none⟩ = some (.int .i64 it)) (y9 : w.cell? ⟨b1, o1 + p * 10 + 9, none⟩ = some (.slice X9 l9 x9)) (Q : Prop) (RC : Hid (∀ W, Below w.heap.size w W → Calls Tryd.prog 48 #[.slice (some ⟨b1, o1, none⟩) nn c, .slice X3 l3 x3, .slice A4 ni c4] W (Tells Q W))) (R : Prop) (hR : R ↔ VJust 9 n bt nb ni nk ∧ Q) :
    Calls Tryd.prog 32 #[.slice (some ⟨b1, o1, none⟩) nn c, .int .i64 (p : Int), .agg #[.int .i64 9, .int .i64 n, .int .u64 bt, .slice A3 nb c3, .slice A4 ni c4, .slice A5 nk c5]] w (Tells R w) := by
  have CS := cell_set
  have q : (p : Int) < (nn : Int) := by omega
  have HR := Lib.hid hR
  have JU := Lib.hid (fun W => vjust_9 n bt nb ni nk A3 A4 A5 c3 c4 c5 W)
  have H0 := Lib.hid (B6.alloc (B6.newat (w := w) (t := 27) (x0 := .int .i64 9) (x1 := .int .i64 n) (x2 := .int .u64 bt) (x3 := .slice A3 nb c3) (x4 := .slice A4 ni c4) (x5 := .slice A5 nk c5) rfl) (.cells #[.int .i64 9, .string nm, .slice X2 l2 x2, .slice X3 l3 x3, .slice X4 l4 x4, .bool hs, .string df, .int .i64 sz, .int .i64 it, .slice X9 l9 x9] 40))
  have N0 := Lib.hid (B10.newat (w := w.alloc (.cells #[.int .i64 9, .int .i64 n, .int .u64 bt, .slice A3 nb c3, .slice A4 ni c4, .slice A5 nk c5] 27)) (g := w.heap.size + 1) (t := 40) (x0 := .int .i64 9) (x1 := .string nm) (x2 := .slice X2 l2 x2) (x3 := .slice X3 l3 x3) (x4 := .slice X4 l4 x4) (x5 := .bool hs) (x6 := .string df) (x7 := .int .i64 sz) (x8 := .int .i64 it) (x9 := .slice X9 l9 x9) (by simp))
  have W0 : Hid (Below w.heap.size w ((w.alloc (.cells #[.int .i64 9, .int .i64 n, .int .u64 bt, .slice A3 nb c3, .slice A4 ni c4, .slice A5 nk c5] 27)).alloc (.cells #[.int .i64 9, .string nm, .slice X2 l2 x2, .slice X3 l3 x3, .slice X4 l4 x4, .bool hs, .string df, .int .i64 sz, .int .i64 it, .slice X9 l9 x9] 40))) := (((Below.refl _ _).alloc (Nat.le_refl _) _).alloc (by simp) _)
  have Z0 : Hid (((w.alloc (.cells #[.int .i64 9, .int .i64 n, .int .u64 bt, .slice A3 nb c3, .slice A4 ni c4, .slice A5 nk c5] 27)).alloc (.cells #[.int .i64 9, .string nm, .slice X2 l2 x2, .slice X3 l3 x3, .slice X4 l4 x4, .bool hs, .string df, .int .i64 sz, .int .i64 it, .slice X9 l9 x9] 40)).heap.size = w.heap.size + 2) := by show _ = _; simp
  have gb0 : b1 ≠ w.heap.size := by omega
  have gb1 : b1 ≠ w.heap.size + 1 := by omega
  clear hR
  go_enter Tryd.func32, Tryd.ntmps32
  go_wp2_with fail
  with_reducible refine (JU.out _).mono ?_
  rintro e w2 ⟨b, rfl, hbb, b2⟩
  rw [Z0.out] at b2
  have z2 := b2.size
  rw [Z0.out] at z2
  have bw2 : Below w.heap.size w w2 := W0.out.trans (b2.mono (Nat.le_add_right _ _))
  have h2 := Lib.hid (B6.below H0.out b2 (by omega))
  have n2 := Lib.hid (B10.below N0.out b2 (by omega))
  obtain ⟨_, _, _, _, _, _, _, _, _, _, _, _⟩ := B6.facts h2.out
  obtain ⟨_, _, _, _, _, _, _, _, _, _, _, _, _, _, _, _, _, _, _, _⟩ := B10.facts n2.out
  have HB := Lib.hid hbb
  clear hbb y0 y1 y2 y3 y4 y5 y6 y7 y8 y9 H0 N0 W0 JU Z0 b2
  cases b with
  | false =>
    have Z : Hid (¬ R) := fun r => by have := HB.out.2 (HR.out.1 r).1; simp at this
    go_wp2_with fail
    go_ret
    exact tells_no rfl Z.out bw2
  | true =>
    have HJ := Lib.hid (HB.out.1 (by first | rfl | trivial))
    clear HB
    go_wp2_with fail
    with_reducible refine (RC.out _ bw2).mono ?_
    rintro e w3 ⟨b, rfl, hbb, b3⟩
    have bw3 : Below w.heap.size w w3 := bw2.trans (b3.mono bw2.size)
    have HB := Lib.hid hbb
    clear hbb
    have Z : Hid (b = true ↔ R) := HB.out.trans ⟨fun k => HR.out.2 ⟨HJ.out, k⟩, fun r => (HR.out.1 r).2⟩
    go_wp2_with fail
    go_ret
    exact ⟨b, rfl, Z.out, bw3⟩
set_option maxRecDepth 100000 in
set_option maxHeartbeats 8000000 in
theorem vone_11 (p nn : Nat) (hp : p < nn) (n bt : Int) (nb ni nk : Nat) (A3 A4 A5 : Option Addr) (c3 c4 c5 : Nat) (nm df : ByteArray) (l2 l3 l4 l9 x2 x3 x4 x9 : Nat) (X2 X3 X4 X9 : Option Addr) (hs : Bool) (sz it : Int) (b1 o1 c : Nat) (w : World) (lb1 : b1 < w.heap.size)
    (y0 : w.cell? ⟨b1, o1 + p * 10, none⟩ = some (.int .i64 11)) (y1 : w.cell? ⟨b1, o1 + p * 10 + 1, none⟩ = some (.string nm)) (y2 : w.cell? ⟨b1, o1 + p * 10 + 2, none⟩ = some (.slice X2 l2 x2)) (y3 : w.cell? ⟨b1, o1 + p * 10 + 3, none⟩ = some (.slice X3 l3 x3)) (y4 : w.cell? ⟨b1, o1 + p * 10 + 4, none⟩ = some (.slice X4 l4 x4))
    (y5 : w.cell? ⟨b1, o1 + p * 10 + 5, none⟩ = some (.bool hs)) (y6 : w.cell? ⟨b1, o1 + p * 10 + 6, none⟩ = some (.string df)) (y7 : w.cell? ⟨b1, o1 + p * 10 + 7, none⟩ = some (.int .i64 sz)) (y8 : w.cell? ⟨b1, o1 + p * 10 + 8, none⟩ = some (.int .i64 it)) (y9 : w.cell? ⟨b1, o1 + p * 10 + 9, none⟩ = some (.slice X9 l9 x9)) (Q : Prop) (RC : Hid (∀ W, Below w.heap.size w W → Calls Tryd.prog 50 #[.slice (some ⟨b1, o1, none⟩) nn c, .int .i64 it, .slice A4 ni c4] W (Tells Q W))) (R : Prop) (hR : R ↔ VJust 11 n bt nb ni nk ∧ Q) :
    Calls Tryd.prog 32 #[.slice (some ⟨b1, o1, none⟩) nn c, .int .i64 (p : Int), .agg #[.int .i64 11, .int .i64 n, .int .u64 bt, .slice A3 nb c3, .slice A4 ni c4, .slice A5 nk c5]] w (Tells R w) := by
  have CS := cell_set
  have q : (p : Int) < (nn : Int) := by omega
  have HR := Lib.hid hR
  have JU := Lib.hid (fun W => vjust_11 n bt nb ni nk A3 A4 A5 c3 c4 c5 W)
  have H0 := Lib.hid (B6.alloc (B6.newat (w := w) (t := 27) (x0 := .int .i64 11) (x1 := .int .i64 n) (x2 := .int .u64 bt) (x3 := .slice A3 nb c3) (x4 := .slice A4 ni c4) (x5 := .slice A5 nk c5) rfl) (.cells #[.int .i64 11, .string nm, .slice X2 l2 x2, .slice X3 l3 x3, .slice X4 l4 x4, .bool hs, .string df, .int .i64 sz, .int .i64 it, .slice X9 l9 x9] 40))
  have N0 := Lib.hid (B10.newat (w := w.alloc (.cells #[.int .i64 11, .int .i64 n, .int .u64 bt, .slice A3 nb c3, .slice A4 ni c4, .slice A5 nk c5] 27)) (g := w.heap.size + 1) (t := 40) (x0 := .int .i64 11) (x1 := .string nm) (x2 := .slice X2 l2 x2) (x3 := .slice X3 l3 x3) (x4 := .slice X4 l4 x4) (x5 := .bool hs) (x6 := .string df) (x7 := .int .i64 sz) (x8 := .int .i64 it) (x9 := .slice X9 l9 x9) (by simp))
  have W0 : Hid (Below w.heap.size w ((w.alloc (.cells #[.int .i64 11, .int .i64 n, .int .u64 bt, .slice A3 nb c3, .slice A4 ni c4, .slice A5 nk c5] 27)).alloc (.cells #[.int .i64 11, .string nm, .slice X2 l2 x2, .slice X3 l3 x3, .slice X4 l4 x4, .bool hs, .string df, .int .i64 sz, .int .i64 it, .slice X9 l9 x9] 40))) := (((Below.refl _ _).alloc (Nat.le_refl _) _).alloc (by simp) _)
  have Z0 : Hid (((w.alloc (.cells #[.int .i64 11, .int .i64 n, .int .u64 bt, .slice A3 nb c3, .slice A4 ni c4, .slice A5 nk c5] 27)).alloc (.cells #[.int .i64 11, .string nm, .slice X2 l2 x2, .slice X3 l3 x3, .slice X4 l4 x4, .bool hs, .string df, .int .i64 sz, .int .i64 it, .slice X9 l9 x9] 40)).heap.size = w.heap.size + 2) := by show _ = _; simp
  have gb0 : b1 ≠ w.heap.size := by omega
  have gb1 : b1 ≠ w.heap.size + 1 := by omega
  clear hR
  go_enter Tryd.func32, Tryd.ntmps32
  go_wp2_with fail
  with_reducible refine (JU.out _).mono ?_
  rintro e w2 ⟨b, rfl, hbb, b2⟩
  rw [Z0.out] at b2
  have z2 := b2.size
  rw [Z0.out] at z2
  have bw2 : Below w.heap.size w w2 := W0.out.trans (b2.mono (Nat.le_add_right _ _))
  have h2 := Lib.hid (B6.below H0.out b2 (by omega))
  have n2 := Lib.hid (B10.below N0.out b2 (by omega))
  obtain ⟨_, _, _, _, _, _, _, _, _, _, _, _⟩ := B6.facts h2.out
  obtain ⟨_, _, _, _, _, _, _, _, _, _, _, _, _, _, _, _, _, _, _, _⟩ := B10.facts n2.out
  have HB := Lib.hid hbb
  clear hbb y0 y1 y2 y3 y4 y5 y6 y7 y8 y9 H0 N0 W0 JU Z0 b2
  cases b with
  | false =>
    have Z : Hid (¬ R) := fun r => by have := HB.out.2 (HR.out.1 r).1; simp at this
    go_wp2_with fail
    go_ret
    exact tells_no rfl Z.out bw2
  | true =>
    have HJ := Lib.hid (HB.out.1 (by first | rfl | trivial))
    clear HB
    go_wp2_with fail
    with_reducible refine (RC.out _ bw2).mono ?_
    rintro e w3 ⟨b, rfl, hbb, b3⟩
    have bw3 : Below w.heap.size w w3 := bw2.trans (b3.mono bw2.size)
    have HB := Lib.hid hbb
    clear hbb
    have Z : Hid (b = true ↔ R) := HB.out.trans ⟨fun k => HR.out.2 ⟨HJ.out, k⟩, fun r => (HR.out.1 r).2⟩
    go_wp2_with fail
    go_ret
    exact ⟨b, rfl, Z.out, bw3⟩
set_option maxRecDepth 100000 in
set_option maxHeartbeats 8000000 in
theorem vone_12 (p nn : Nat) (hp : p < nn) (n bt : Int) (nb ni nk : Nat) (A3 A4 A5 : Option Addr) (c3 c4 c5 : Nat) (nm df : ByteArray) (l2 l3 l4 l9 x2 x3 x4 x9 : Nat) (X2 X3 X4 X9 : Option Addr) (hs : Bool) (sz it : Int) (b1 o1 c : Nat) (w : World) (lb1 : b1 < w.heap.size)
    (y0 : w.cell? ⟨b1, o1 + p * 10, none⟩ = some (.int .i64 12)) (y1 : w.cell? ⟨b1, o1 + p * 10 + 1, none⟩ = some (.string nm)) (y2 : w.cell? ⟨b1, o1 + p * 10 + 2, none⟩ = some (.slice X2 l2 x2)) (y3 : w.cell? ⟨b1, o1 + p * 10 + 3, none⟩ = some (.slice X3 l3 x3)) (y4 : w.cell? ⟨b1, o1 + p * 10 + 4, none⟩ = some (.slice X4 l4 x4))
    (y5 : w.cell? ⟨b1, o1 + p * 10 + 5, none⟩ = some (.bool hs)) (y6 : w.cell? ⟨b1, o1 + p * 10 + 6, none⟩ = some (.string df)) (y7 : w.cell? ⟨b1, o1 + p * 10 + 7, none⟩ = some (.int .i64 sz)) (y8 : w.cell? ⟨b1, o1 + p * 10 + 8, none⟩ = some (.int .i64 it)) (y9 : w.cell? ⟨b1, o1 + p * 10 + 9, none⟩ = some (.slice X9 l9 x9)) (Q K : Prop) (RC : Hid (∀ W, Below w.heap.size w W → Calls Tryd.prog 50 #[.slice (some ⟨b1, o1, none⟩) nn c, .int .i64 it, .slice A4 ni c4] W (Tells Q W))) (KC : Hid (∀ W, Below w.heap.size w W → Calls Tryd.prog 49 #[.agg #[.int .i64 12, .int .i64 n, .int .u64 bt, .slice A3 nb c3, .slice A4 ni c4, .slice A5 nk c5]] W (Tells K W))) (R : Prop) (hR : R ↔ VJust 12 n bt nb ni nk ∧ K ∧ Q) :
    Calls Tryd.prog 32 #[.slice (some ⟨b1, o1, none⟩) nn c, .int .i64 (p : Int), .agg #[.int .i64 12, .int .i64 n, .int .u64 bt, .slice A3 nb c3, .slice A4 ni c4, .slice A5 nk c5]] w (Tells R w) := by
  have CS := cell_set
  have q : (p : Int) < (nn : Int) := by omega
  have HR := Lib.hid hR
  have JU := Lib.hid (fun W => vjust_12 n bt nb ni nk A3 A4 A5 c3 c4 c5 W)
  have H0 := Lib.hid (B6.alloc (B6.newat (w := w) (t := 27) (x0 := .int .i64 12) (x1 := .int .i64 n) (x2 := .int .u64 bt) (x3 := .slice A3 nb c3) (x4 := .slice A4 ni c4) (x5 := .slice A5 nk c5) rfl) (.cells #[.int .i64 12, .string nm, .slice X2 l2 x2, .slice X3 l3 x3, .slice X4 l4 x4, .bool hs, .string df, .int .i64 sz, .int .i64 it, .slice X9 l9 x9] 40))
  have N0 := Lib.hid (B10.newat (w := w.alloc (.cells #[.int .i64 12, .int .i64 n, .int .u64 bt, .slice A3 nb c3, .slice A4 ni c4, .slice A5 nk c5] 27)) (g := w.heap.size + 1) (t := 40) (x0 := .int .i64 12) (x1 := .string nm) (x2 := .slice X2 l2 x2) (x3 := .slice X3 l3 x3) (x4 := .slice X4 l4 x4) (x5 := .bool hs) (x6 := .string df) (x7 := .int .i64 sz) (x8 := .int .i64 it) (x9 := .slice X9 l9 x9) (by simp))
  have W0 : Hid (Below w.heap.size w ((w.alloc (.cells #[.int .i64 12, .int .i64 n, .int .u64 bt, .slice A3 nb c3, .slice A4 ni c4, .slice A5 nk c5] 27)).alloc (.cells #[.int .i64 12, .string nm, .slice X2 l2 x2, .slice X3 l3 x3, .slice X4 l4 x4, .bool hs, .string df, .int .i64 sz, .int .i64 it, .slice X9 l9 x9] 40))) := (((Below.refl _ _).alloc (Nat.le_refl _) _).alloc (by simp) _)
  have Z0 : Hid (((w.alloc (.cells #[.int .i64 12, .int .i64 n, .int .u64 bt, .slice A3 nb c3, .slice A4 ni c4, .slice A5 nk c5] 27)).alloc (.cells #[.int .i64 12, .string nm, .slice X2 l2 x2, .slice X3 l3 x3, .slice X4 l4 x4, .bool hs, .string df, .int .i64 sz, .int .i64 it, .slice X9 l9 x9] 40)).heap.size = w.heap.size + 2) := by show _ = _; simp
  have gb0 : b1 ≠ w.heap.size := by omega
  have gb1 : b1 ≠ w.heap.size + 1 := by omega
  clear hR
  go_enter Tryd.func32, Tryd.ntmps32
  go_wp2_with fail
  with_reducible refine (JU.out _).mono ?_
  rintro e w2 ⟨b, rfl, hbb, b2⟩
  rw [Z0.out] at b2
  have z2 := b2.size
  rw [Z0.out] at z2
  have bw2 : Below w.heap.size w w2 := W0.out.trans (b2.mono (Nat.le_add_right _ _))
  have h2 := Lib.hid (B6.below H0.out b2 (by omega))
  have n2 := Lib.hid (B10.below N0.out b2 (by omega))
  obtain ⟨_, _, _, _, _, _, _, _, _, _, _, _⟩ := B6.facts h2.out
  obtain ⟨_, _, _, _, _, _, _, _, _, _, _, _, _, _, _, _, _, _, _, _⟩ := B10.facts n2.out
  have HB := Lib.hid hbb
  clear hbb y0 y1 y2 y3 y4 y5 y6 y7 y8 y9 H0 N0 W0 JU Z0 b2
  cases b with
  | false =>
    have Z : Hid (¬ R) := fun r => by have := HB.out.2 (HR.out.1 r).1; simp at this
    go_wp2_with fail
    go_ret
    exact tells_no rfl Z.out bw2
  | true =>
    have HJ := Lib.hid (HB.out.1 (by first | rfl | trivial))
    clear HB
    go_wp2_with fail
    with_reducible refine (KC.out _ bw2).mono ?_
    rintro e w3 ⟨b, rfl, hbb, b3⟩
    have bw3 : Below w.heap.size w w3 := bw2.trans (b3.mono bw2.size)
    have HB := Lib.hid hbb
    clear hbb
    have h3 := Lib.hid (B6.below h2.out b3 (by omega))
    have n3 := Lib.hid (B10.below n2.out b3 (by omega))
    obtain ⟨_, _, _, _, _, _, _, _, _, _, _, _⟩ := B6.facts h3.out
    obtain ⟨_, _, _, _, _, _, _, _, _, _, _, _, _, _, _, _, _, _, _, _⟩ := B10.facts n3.out
    cases b with
    | false =>
      have Z : Hid (¬ R) := fun r => by have := HB.out.2 (HR.out.1 r).2.1; simp at this
      go_wp2_with fail
      go_ret
      exact tells_no rfl Z.out bw3
    | true =>
      have HK := Lib.hid (HB.out.1 (by first | rfl | trivial))
      go_wp2_with fail
      with_reducible refine (RC.out _ bw3).mono ?_
      rintro e w4 ⟨b, rfl, hbb, b4⟩
      have bw4 : Below w.heap.size w w4 := bw3.trans (b4.mono bw3.size)
      have Z : Hid (b = true ↔ R) := hbb.trans ⟨fun k => HR.out.2 ⟨HJ.out, HK.out, k⟩, fun r => (HR.out.1 r).2.2⟩
      clear hbb
      go_wp2_with fail
      go_ret
      exact ⟨b, rfl, Z.out, bw4⟩
end Go.Proofs.YtlpmcohbbffbfaaDoor
namespace Go.Proofs.YtlpmcohbbffbfaaDoor
open Go.ChangeShapes Go.WideShapes Go.ChangeAt Go.RowKit Mem
set_option maxRecDepth 100000 in
set_option maxHeartbeats 8000000 in
theorem vone_13 (p nn : Nat) (hp : p < nn) (n bt : Int) (nb ni nk : Nat) (A3 A4 A5 : Option Addr) (c3 c4 c5 : Nat) (nm df : ByteArray) (l2 l3 l4 l9 x2 x3 x4 x9 : Nat) (X2 X3 X4 X9 : Option Addr) (hs : Bool) (sz it : Int) (b1 o1 c : Nat) (w : World) (lb1 : b1 < w.heap.size)
    (y0 : w.cell? ⟨b1, o1 + p * 10, none⟩ = some (.int .i64 13)) (y1 : w.cell? ⟨b1, o1 + p * 10 + 1, none⟩ = some (.string nm)) (y2 : w.cell? ⟨b1, o1 + p * 10 + 2, none⟩ = some (.slice X2 l2 x2)) (y3 : w.cell? ⟨b1, o1 + p * 10 + 3, none⟩ = some (.slice X3 l3 x3)) (y4 : w.cell? ⟨b1, o1 + p * 10 + 4, none⟩ = some (.slice X4 l4 x4))
    (y5 : w.cell? ⟨b1, o1 + p * 10 + 5, none⟩ = some (.bool hs)) (y6 : w.cell? ⟨b1, o1 + p * 10 + 6, none⟩ = some (.string df)) (y7 : w.cell? ⟨b1, o1 + p * 10 + 7, none⟩ = some (.int .i64 sz)) (y8 : w.cell? ⟨b1, o1 + p * 10 + 8, none⟩ = some (.int .i64 it)) (y9 : w.cell? ⟨b1, o1 + p * 10 + 9, none⟩ = some (.slice X9 l9 x9)) (k0 : Int) (hk0 : 0 ≤ n → n < (l9 : Int) → ∃ b9 o9, X9 = some ⟨b9, o9, none⟩ ∧ b9 < w.heap.size ∧ w.cell? ⟨b9, o9 + n.toNat, none⟩ = some (.int .i64 k0)) (b4 o4 : Nat) (t0 t1 t2 t3 t4 t5 : Value) (hz : ni = 1 → A4 = some ⟨b4, o4, none⟩ ∧ b4 < w.heap.size ∧ w.cell? ⟨b4, o4, none⟩ = some t0 ∧ w.cell? ⟨b4, o4 + 1, none⟩ = some t1 ∧ w.cell? ⟨b4, o4 + 2, none⟩ = some t2 ∧ w.cell? ⟨b4, o4 + 3, none⟩ = some t3 ∧ w.cell? ⟨b4, o4 + 4, none⟩ = some t4 ∧ w.cell? ⟨b4, o4 + 5, none⟩ = some t5) (Q : Prop) (RC : Hid (0 ≤ n → n < (l9 : Int) → ni = 1 → ∀ W, Below w.heap.size w W → Calls Tryd.prog 32 #[.slice (some ⟨b1, o1, none⟩) nn c, .int .i64 k0, .agg #[t0, t1, t2, t3, t4, t5]] W (Tells Q W))) (R : Prop) (hR : R ↔ VJust 13 n bt nb ni nk ∧ (0 ≤ n ∧ n < (l9 : Int)) ∧ ni = 1 ∧ Q) :
    Calls Tryd.prog 32 #[.slice (some ⟨b1, o1, none⟩) nn c, .int .i64 (p : Int), .agg #[.int .i64 13, .int .i64 n, .int .u64 bt, .slice A3 nb c3, .slice A4 ni c4, .slice A5 nk c5]] w (Tells R w) := by
  have CS := cell_set
  have q : (p : Int) < (nn : Int) := by omega
  have HR := Lib.hid hR
  have JU := Lib.hid (fun W => vjust_13 n bt nb ni nk A3 A4 A5 c3 c4 c5 W)
  have H0 := Lib.hid (B6.alloc (B6.newat (w := w) (t := 27) (x0 := .int .i64 13) (x1 := .int .i64 n) (x2 := .int .u64 bt) (x3 := .slice A3 nb c3) (x4 := .slice A4 ni c4) (x5 := .slice A5 nk c5) rfl) (.cells #[.int .i64 13, .string nm, .slice X2 l2 x2, .slice X3 l3 x3, .slice X4 l4 x4, .bool hs, .string df, .int .i64 sz, .int .i64 it, .slice X9 l9 x9] 40))
  have N0 := Lib.hid (B10.newat (w := w.alloc (.cells #[.int .i64 13, .int .i64 n, .int .u64 bt, .slice A3 nb c3, .slice A4 ni c4, .slice A5 nk c5] 27)) (g := w.heap.size + 1) (t := 40) (x0 := .int .i64 13) (x1 := .string nm) (x2 := .slice X2 l2 x2) (x3 := .slice X3 l3 x3) (x4 := .slice X4 l4 x4) (x5 := .bool hs) (x6 := .string df) (x7 := .int .i64 sz) (x8 := .int .i64 it) (x9 := .slice X9 l9 x9) (by simp))
  have W0 : Hid (Below w.heap.size w ((w.alloc (.cells #[.int .i64 13, .int .i64 n, .int .u64 bt, .slice A3 nb c3, .slice A4 ni c4, .slice A5 nk c5] 27)).alloc (.cells #[.int .i64 13, .string nm, .slice X2 l2 x2, .slice X3 l3 x3, .slice X4 l4 x4, .bool hs, .string df, .int .i64 sz, .int .i64 it, .slice X9 l9 x9] 40))) := (((Below.refl _ _).alloc (Nat.le_refl _) _).alloc (by simp) _)
  have Z0 : Hid (((w.alloc (.cells #[.int .i64 13, .int .i64 n, .int .u64 bt, .slice A3 nb c3, .slice A4 ni c4, .slice A5 nk c5] 27)).alloc (.cells #[.int .i64 13, .string nm, .slice X2 l2 x2, .slice X3 l3 x3, .slice X4 l4 x4, .bool hs, .string df, .int .i64 sz, .int .i64 it, .slice X9 l9 x9] 40)).heap.size = w.heap.size + 2) := by show _ = _; simp
  have gb0 : b1 ≠ w.heap.size := by omega
  have gb1 : b1 ≠ w.heap.size + 1 := by omega
  clear hR
  go_enter Tryd.func32, Tryd.ntmps32
  go_wp2_with fail
  with_reducible refine (JU.out _).mono ?_
  rintro e w2 ⟨b, rfl, hbb, b2⟩
  rw [Z0.out] at b2
  have z2 := b2.size
  rw [Z0.out] at z2
  have bw2 : Below w.heap.size w w2 := W0.out.trans (b2.mono (Nat.le_add_right _ _))
  have h2 := Lib.hid (B6.below H0.out b2 (by omega))
  have n2 := Lib.hid (B10.below N0.out b2 (by omega))
  obtain ⟨_, _, _, _, _, _, _, _, _, _, _, _⟩ := B6.facts h2.out
  obtain ⟨_, _, _, _, _, _, _, _, _, _, _, _, _, _, _, _, _, _, _, _⟩ := B10.facts n2.out
  have HB := Lib.hid hbb
  clear hbb y0 y1 y2 y3 y4 y5 y6 y7 y8 y9 H0 N0 W0 JU Z0 b2
  cases b with
  | false =>
    have Z : Hid (¬ R) := fun r => by have := HB.out.2 (HR.out.1 r).1; simp at this
    go_wp2_with fail
    go_ret
    exact tells_no rfl Z.out bw2
  | true =>
    have HJ := Lib.hid (HB.out.1 (by first | rfl | trivial))
    clear HB
    have AM := Lib.hid (among_pure n (l9 : Int))
    go_wp2_with fail
    by_cases ha : 0 ≤ n ∧ n < (l9 : Int)
    rotate_left
    · rw [show decide (0 ≤ n ∧ n < (l9 : Int)) = false by simpa using ha] at AM
      have Z : Hid (¬ R) := fun r => ha (HR.out.1 r).2.1
      clear ha hk0 hz RC
      go_quiet ((go_at_call 31; with_reducible exact Calls.quiet_of_same (AM.out _)))
      go_wp2_with fail
      go_ret
      exact tells_no rfl Z.out (bel_drewN bw2 _)
    rw [show decide (0 ≤ n ∧ n < (l9 : Int)) = true by simpa using ha] at AM
    by_cases hn1 : ni = 1
    rotate_left
    · have q1 : ((ni : Int) == 1) = false := by rw [beq_eq_false_iff_ne]; omega
      have Z : Hid (¬ R) := fun r => hn1 (HR.out.1 r).2.2.1
      clear ha hk0 hz RC hn1
      go_quiet ((go_at_call 31; with_reducible exact Calls.quiet_of_same (AM.out _)))
      go_wp2_with fail
      go_ret
      exact tells_no rfl Z.out (bel_drewN bw2 _)
    have q1 : ((ni : Int) == 1) = true := by rw [beq_iff_eq]; omega
    obtain ⟨b9, o9, rfl, lb9, u9⟩ := hk0 ha.1 ha.2
    obtain ⟨rfl, lb4, u0, u1, u2, u3, u4, u5⟩ := hz hn1
    have RC2 := Lib.hid (RC.out ha.1 ha.2 hn1)
    obtain ⟨na, hna⟩ : ∃ na : Nat, n = (na : Int) := ⟨n.toNat, by omega⟩
    subst hna
    have HA := Lib.hid ha
    have qn : (na : Int) < (l9 : Int) := ha.2
    have g9 : b9 ≠ w.heap.size := by omega
    have g9' : b9 ≠ w.heap.size + 1 := by omega
    have g4 : b4 ≠ w.heap.size := by omega
    have g4' : b4 ≠ w.heap.size + 1 := by omega
    rw [Int.toNat_natCast] at u9
    obtain ⟨z2a, z2b⟩ : w.heap.size < w2.heap.size ∧ w.heap.size + 1 < w2.heap.size := by omega
    have u9 := (bw2.cell (p := ⟨b9, o9 + na, none⟩) lb9).trans u9
    have u0 := (bw2.cell (p := ⟨b4, o4, none⟩) lb4).trans u0
    have u1 := (bw2.cell (p := ⟨b4, o4 + 1, none⟩) lb4).trans u1
    have u2 := (bw2.cell (p := ⟨b4, o4 + 2, none⟩) lb4).trans u2
    have u3 := (bw2.cell (p := ⟨b4, o4 + 3, none⟩) lb4).trans u3
    have u4 := (bw2.cell (p := ⟨b4, o4 + 4, none⟩) lb4).trans u4
    have u5 := (bw2.cell (p := ⟨b4, o4 + 5, none⟩) lb4).trans u5
    have i1 : ((1 : Nat) : Int) = 1 := rfl
    subst hn1
    clear ha RC
    obtain ⟨_, h1, _, _, h4, _, _, _, _, _, _, _⟩ := B6.facts h2.out
    obtain ⟨_, _, _, _, _, _, _, _, _, m9, _, _, _, _, _, _, _, _, _, _⟩ := B10.facts n2.out
    have lb4' : b4 < w2.heap.size := by omega
    have lb9' : b9 < w2.heap.size := by omega
    go_region_held_law (fun w' => w'.cell? ⟨w.heap.size, 1, none⟩ = some (.int .i64 (na : Int)) ∧ w'.cell? ⟨w.heap.size, 4, none⟩ = some (.slice (some ⟨b4, o4, none⟩) 1 c4) ∧ w'.cell? ⟨w.heap.size + 1, 9, none⟩ = some (.slice (some ⟨b9, o9, none⟩) l9 x9) ∧ w'.cell? ⟨b9, o9 + na, none⟩ = some (.int .i64 k0) ∧ w'.cell? ⟨b4, o4, none⟩ = some t0 ∧ w'.cell? ⟨b4, o4 + 1, none⟩ = some t1 ∧ w'.cell? ⟨b4, o4 + 2, none⟩ = some t2 ∧ w'.cell? ⟨b4, o4 + 3, none⟩ = some t3 ∧ w'.cell? ⟨b4, o4 + 4, none⟩ = some t4 ∧ w'.cell? ⟨b4, o4 + 5, none⟩ = some t5)
      (exact ⟨(by first | with_reducible assumption | (go_simp; done)), (by first | with_reducible assumption | (go_simp; done)), (by first | with_reducible assumption | (go_simp; done)), (by first | with_reducible assumption | (go_simp; done)), (by first | with_reducible assumption | (go_simp; done)), (by first | with_reducible assumption | (go_simp; done)), (by first | with_reducible assumption | (go_simp; done)), (by first | with_reducible assumption | (go_simp; done)), (by first | with_reducible assumption | (go_simp; done)), (by first | with_reducible assumption | (go_simp; done))⟩)
      (first
      | (go_at_call 32; (with_reducible refine (RC2.out _ bw2.drew).mono ?_); rintro e w4 ⟨b, rfl, hbb, b4'⟩; have HB := Lib.hid hbb; clear hbb; have k0_ := (Below.cell b4' (p := ⟨w.heap.size, 1, none⟩) (by show _ < w2.heap.size; omega)).trans h1; have k1_ := (Below.cell b4' (p := ⟨w.heap.size, 4, none⟩) (by show _ < w2.heap.size; omega)).trans h4; have k2_ := (Below.cell b4' (p := ⟨w.heap.size + 1, 9, none⟩) (by show _ < w2.heap.size; omega)).trans m9; have k3_ := (Below.cell b4' (p := ⟨b9, o9 + na, none⟩) (by show _ < w2.heap.size; omega)).trans u9; have k4_ := (Below.cell b4' (p := ⟨b4, o4, none⟩) (by show _ < w2.heap.size; omega)).trans u0; have k5_ := (Below.cell b4' (p := ⟨b4, o4 + 1, none⟩) (by show _ < w2.heap.size; omega)).trans u1; have k6_ := (Below.cell b4' (p := ⟨b4, o4 + 2, none⟩) (by show _ < w2.heap.size; omega)).trans u2; have k7_ := (Below.cell b4' (p := ⟨b4, o4 + 3, none⟩) (by show _ < w2.heap.size; omega)).trans u3; have k8_ := (Below.cell b4' (p := ⟨b4, o4 + 4, none⟩) (by show _ < w2.heap.size; omega)).trans u4; have k9_ := (Below.cell b4' (p := ⟨b4, o4 + 5, none⟩) (by show _ < w2.heap.size; omega)).trans u5; have b4 := Lib.hid (bw2.drew.trans (b4'.mono bw2.size)))
      | (go_at_call 31; (with_reducible refine (AM.out _).mono ?_); rintro e w3 ⟨rfl, rfl⟩))
    all_goals
      have Z : Hid (b = true ↔ R) := HB.out.trans ⟨fun k => HR.out.2 ⟨HJ.out, HA.out, (by first | rfl | trivial), k⟩, fun r => (HR.out.1 r).2.2.2⟩
      go_wp2_with fail
      go_ret
      exact ⟨b, rfl, Z.out, b4.out⟩
end Go.Proofs.YtlpmcohbbffbfaaDoor
