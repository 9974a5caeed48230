/- Joined by tools/bundle.py: R11J R11K. -/
import Derived.Lib.SliceRun
import Derived.LoopN
import Derived.Deep.LoopGhost
import Derived.Deep.RegionHeldLaw
import Derived.Test.YtpmgjpchpmkklaaGreatDoorT5
import Derived.Test.YtpmgjpchpmkklaaGreatDoorT25
import Derived.Test.YtpmgjpchpmkklaaGreatDoorT0
set_option maxRecDepth 100000
set_option maxHeartbeats 16000000
namespace Go.Proofs.YtpmgjpchpmkklaaGreatDoor
open Go.ChangeShapes Go.WideShapes Go.ChangeAt Go.RowKit Mem
theorem ris_12 (p nn : Nat) (hp : p < nn) (rt n bt : Int) (nb ni nk : Nat) (A3 A4 A5 : Option Addr) (c3 c4 c5 : Nat) (nm df : ByteArray) (l2 l3 l4 l9 x2 x3 x4 x9 : Nat) (X2 X3 X4 X9 : Option Addr) (hs : Bool) (sz it : Int) (b1 o1 c : Nat) (w : World) (lb1 : b1 < w.heap.size)
 (y0 : w.cell? ⟨b1, o1 + p * 10, none⟩ = some (.int .i64 12)) (y1 : w.cell? ⟨b1, o1 + p * 10 + 1, none⟩ = some (.string nm)) (y2 : w.cell? ⟨b1, o1 + p * 10 + 2, none⟩ = some (.slice X2 l2 x2)) (y3 : w.cell? ⟨b1, o1 + p * 10 + 3, none⟩ = some (.slice X3 l3 x3)) (y4 : w.cell? ⟨b1, o1 + p * 10 + 4, none⟩ = some (.slice X4 l4 x4))
 (y5 : w.cell? ⟨b1, o1 + p * 10 + 5, none⟩ = some (.bool hs)) (y6 : w.cell? ⟨b1, o1 + p * 10 + 6, none⟩ = some (.string df)) (y7 : w.cell? ⟨b1, o1 + p * 10 + 7, none⟩ = some (.int .i64 sz)) (y8 : w.cell? ⟨b1, o1 + p * 10 + 8, none⟩ = some (.int .i64 it)) (y9 : w.cell? ⟨b1, o1 + p * 10 + 9, none⟩ = some (.slice X9 l9 x9)) (P : Nat → Prop) (IC : Hid (∀ j, j < ni → ∃ (b4 o4 : Nat) (z0 z1 z2 z3 z4 z5 : Value), A4 = some ⟨b4, o4, none⟩ ∧ b4 < w.heap.size ∧ w.cell? ⟨b4, o4 + j * 6, none⟩ = some z0 ∧ w.cell? ⟨b4, o4 + j * 6 + 1, none⟩ = some z1 ∧ w.cell? ⟨b4, o4 + j * 6 + 2, none⟩ = some z2 ∧ w.cell? ⟨b4, o4 + j * 6 + 3, none⟩ = some z3 ∧ w.cell? ⟨b4, o4 + j * 6 + 4, none⟩ = some z4 ∧ w.cell? ⟨b4, o4 + j * 6 + 5, none⟩ = some z5 ∧ ∀ W, Below w.heap.size w W → Calls Tryz.prog 15 #[.agg #[.slice (some ⟨b1, o1, none⟩) nn c, .int .i64 rt], .int .i64 it, .agg #[z0, z1, z2, z3, z4, z5]] W (Tells (P j) W))) (K : Nat → Prop) (KC : Hid (∀ j, j < nk → ∃ (b5 o5 : Nat) (Y : ByteArray), A5 = some ⟨b5, o5, none⟩ ∧ b5 < w.heap.size ∧ w.cell? ⟨b5, o5 + j, none⟩ = some (.string Y) ∧ (K j ↔ Y.size ≤ 20000 ∧ (Num.cU Y.data.toList).isSome = true))) (hni : ni ≤ 1000000) (hnk : nk ≤ 100000000) (R : Prop) (hR : R ↔ nb ≤ 20000 ∧ ni ≤ 300 ∧ ((nk = ni ∧ ∀ j, j < nk → K j) ∧ ∀ j, j < ni → P j) ∧ VJust 12 n bt nb ni nk) :
 Calls Tryz.prog 15 #[.agg #[.slice (some ⟨b1, o1, none⟩) nn c, .int .i64 rt], .int .i64 (p : Int), .agg #[.int .i64 12, .int .i64 n, .int .u64 bt, .slice A3 nb c3, .slice A4 ni c4, .slice A5 nk c5]] w (Tells R w) := by
 have CS := cell_set
 have q : (p : Int) < (nn : Int) := by omega
 have HR := Lib.hid hR
 have PJ : Hid (VJust 12 n bt nb ni nk ↔ n = 0 ∧ bt = 0 ∧ nb = 0) := by show _ ↔ _; unfold VJust; omega
 clear hR
 by_cases hb : (20000 : Int) < (nb : Int)
 · have qb : decide ((20000 : Int) < (nb : Int)) = true := by simpa using hb
   have Z : Hid (¬ R) := fun r => by have := (HR.out.1 r).1; omega
   clear hb HR PJ IC KC
   go_enter Tryz.func15, Tryz.ntmps15
   go_wp2_with fail
   go_ret
   exact tells_no (by first | rfl | (simp; omega)) Z.out bqq
 have qb : decide ((20000 : Int) < (nb : Int)) = false := by simpa using hb
 by_cases hi : (300 : Int) < (ni : Int)
 · have qi : decide ((300 : Int) < (ni : Int)) = true := by simpa using hi
   have Z : Hid (¬ R) := fun r => by have := (HR.out.1 r).2.1; omega
   clear hb hi HR PJ IC KC
   go_enter Tryz.func15, Tryz.ntmps15
   go_wp2_with fail
   go_ret
   exact tells_no (by first | rfl | (simp; omega)) Z.out bqq
 have qi : decide ((300 : Int) < (ni : Int)) = false := by simpa using hi
 have HB : Hid (nb ≤ 20000 ∧ ni ≤ 300) := ⟨by omega, by omega⟩
 have H0 : Hid (B2 ((((w.alloc (.cells #[.slice (some ⟨b1, o1, none⟩) nn c, .int .i64 rt] 24)).alloc (.cells #[.int .i64 12, .int .i64 n, .int .u64 bt, .slice A3 nb c3, .slice A4 ni c4, .slice A5 nk c5] 30)).alloc (.cells #[.int .i64 12, .string nm, .slice X2 l2 x2, .slice X3 l3 x3, .slice X4 l4 x4, .bool hs, .string df, .int .i64 sz, .int .i64 it, .slice X9 l9 x9] 42)).alloc (.cells #[.int .i64 12, .int .i64 0, .int .u64 0, .slice none 0 0, .slice A4 ni c4, .slice none 0 0] 30)) w.heap.size 24 (.slice (some ⟨b1, o1, none⟩) nn c) (.int .i64 rt)) := B2.alloc (B2.alloc (B2.alloc (B2.newat rfl) _) _) _
 have H1 : Hid (B6 ((((w.alloc (.cells #[.slice (some ⟨b1, o1, none⟩) nn c, .int .i64 rt] 24)).alloc (.cells #[.int .i64 12, .int .i64 n, .int .u64 bt, .slice A3 nb c3, .slice A4 ni c4, .slice A5 nk c5] 30)).alloc (.cells #[.int .i64 12, .string nm, .slice X2 l2 x2, .slice X3 l3 x3, .slice X4 l4 x4, .bool hs, .string df, .int .i64 sz, .int .i64 it, .slice X9 l9 x9] 42)).alloc (.cells #[.int .i64 12, .int .i64 0, .int .u64 0, .slice none 0 0, .slice A4 ni c4, .slice none 0 0] 30)) (w.heap.size + 1) 30 (.int .i64 12) (.int .i64 n) (.int .u64 bt) (.slice A3 nb c3) (.slice A4 ni c4) (.slice A5 nk c5)) := B6.alloc (B6.alloc (B6.newat (by simp)) _) _
 have H2 : Hid (B10 ((((w.alloc (.cells #[.slice (some ⟨b1, o1, none⟩) nn c, .int .i64 rt] 24)).alloc (.cells #[.int .i64 12, .int .i64 n, .int .u64 bt, .slice A3 nb c3, .slice A4 ni c4, .slice A5 nk c5] 30)).alloc (.cells #[.int .i64 12, .string nm, .slice X2 l2 x2, .slice X3 l3 x3, .slice X4 l4 x4, .bool hs, .string df, .int .i64 sz, .int .i64 it, .slice X9 l9 x9] 42)).alloc (.cells #[.int .i64 12, .int .i64 0, .int .u64 0, .slice none 0 0, .slice A4 ni c4, .slice none 0 0] 30)) (w.heap.size + 1 + 1) 42 (.int .i64 12) (.string nm) (.slice X2 l2 x2) (.slice X3 l3 x3) (.slice X4 l4 x4) (.bool hs) (.string df) (.int .i64 sz) (.int .i64 it) (.slice X9 l9 x9)) := B10.alloc (B10.newat (by simp)) _
 have H3 : Hid (B6 ((((w.alloc (.cells #[.slice (some ⟨b1, o1, none⟩) nn c, .int .i64 rt] 24)).alloc (.cells #[.int .i64 12, .int .i64 n, .int .u64 bt, .slice A3 nb c3, .slice A4 ni c4, .slice A5 nk c5] 30)).alloc (.cells #[.int .i64 12, .string nm, .slice X2 l2 x2, .slice X3 l3 x3, .slice X4 l4 x4, .bool hs, .string df, .int .i64 sz, .int .i64 it, .slice X9 l9 x9] 42)).alloc (.cells #[.int .i64 12, .int .i64 0, .int .u64 0, .slice none 0 0, .slice A4 ni c4, .slice none 0 0] 30)) (w.heap.size + 1 + 1 + 1) 30 (.int .i64 12) (.int .i64 0) (.int .u64 0) (.slice none 0 0) (.slice A4 ni c4) (.slice none 0 0)) := B6.newat (by simp)
 have BW : Hid (Below w.heap.size w ((((w.alloc (.cells #[.slice (some ⟨b1, o1, none⟩) nn c, .int .i64 rt] 24)).alloc (.cells #[.int .i64 12, .int .i64 n, .int .u64 bt, .slice A3 nb c3, .slice A4 ni c4, .slice A5 nk c5] 30)).alloc (.cells #[.int .i64 12, .string nm, .slice X2 l2 x2, .slice X3 l3 x3, .slice X4 l4 x4, .bool hs, .string df, .int .i64 sz, .int .i64 it, .slice X9 l9 x9] 42)).alloc (.cells #[.int .i64 12, .int .i64 0, .int .u64 0, .slice none 0 0, .slice A4 ni c4, .slice none 0 0] 30))) := ((((Below.refl _ _).alloc (Nat.le_refl _) _).alloc (by simp) _).alloc (by simp; omega) _).alloc (by simp; omega) _
 have ZW : Hid (((((w.alloc (.cells #[.slice (some ⟨b1, o1, none⟩) nn c, .int .i64 rt] 24)).alloc (.cells #[.int .i64 12, .int .i64 n, .int .u64 bt, .slice A3 nb c3, .slice A4 ni c4, .slice A5 nk c5] 30)).alloc (.cells #[.int .i64 12, .string nm, .slice X2 l2 x2, .slice X3 l3 x3, .slice X4 l4 x4, .bool hs, .string df, .int .i64 sz, .int .i64 it, .slice X9 l9 x9] 42)).alloc (.cells #[.int .i64 12, .int .i64 0, .int .u64 0, .slice none 0 0, .slice A4 ni c4, .slice none 0 0] 30)).heap.size = w.heap.size + 4) := by show _ = _; simp
 clear hb hi
 have hmax2 : nk ≤ 9223372036854775807 := by omega
 have hmax : ni ≤ 9223372036854775807 := by omega
 go_enter Tryz.func15, Tryz.ntmps15
 go_wp2_with fail
 obtain ⟨W, hW⟩ : ∃ W, W = ((((w.alloc (.cells #[.slice (some ⟨b1, o1, none⟩) nn c, .int .i64 rt] 24)).alloc (.cells #[.int .i64 12, .int .i64 n, .int .u64 bt, .slice A3 nb c3, .slice A4 ni c4, .slice A5 nk c5] 30)).alloc (.cells #[.int .i64 12, .string nm, .slice X2 l2 x2, .slice X3 l3 x3, .slice X4 l4 x4, .bool hs, .string df, .int .i64 sz, .int .i64 it, .slice X9 l9 x9] 42)).alloc (.cells #[.int .i64 12, .int .i64 0, .int .u64 0, .slice none 0 0, .slice A4 ni c4, .slice none 0 0] 30)) := ⟨_, rfl⟩
 rw [← hW] at H0 H1 H2 H3 BW ZW
 rw [← hW]
 clear hW
 go_loopw [9, 11] (fun f x wr => ∃ (b : Bool) (i : Nat), i ≤ ni ∧ x = .int .i64 (i : Int) ∧ f = .bool b ∧ Hid (b = true ↔ ∀ j, j < i → P j) ∧ Hid (Below W.heap.size W wr)) (fun _ x _ => ni - (intOf x).toNat)
 case atStart => exact ⟨true, 0, Nat.zero_le _, rfl, rfl, ⟨fun _ j hj => absurd hj (Nat.not_lt_zero _), fun _ => rfl⟩, Below.refl _ _⟩
 case round =>
  obtain ⟨b, i, hi, rfl, rfl, HF, bl⟩ := hrel
  have zw := ZW.out
  have zl := bl.out.size
  have bwr : Below w.heap.size w wr := BW.out.trans (bl.out.mono (by omega))
  have M0 := Lib.hid (B2.below H0.out bl.out (by omega))
  have M1 := Lib.hid (B6.below H1.out bl.out (by omega))
  have M2 := Lib.hid (B10.below H2.out bl.out (by omega))
  have M3 := Lib.hid (B6.below H3.out bl.out (by omega))
  clear zw
  obtain ⟨h0, h0b, _, _⟩ := B2.facts M0.out
  obtain ⟨_, _, _, _, h4, _, _, _, _, _, _, _⟩ := B6.facts M1.out
  obtain ⟨_, _, _, _, _, _, _, _, h8, _, _, _, _, _, _, _, _, _, _, _⟩ := B10.facts M2.out
  obtain ⟨_, _, _, _, _, _, _, _, _, _, _, _⟩ := B6.facts M3.out
  by_cases hin : i < ni
  · have qi2 : (i : Int) < (ni : Int) := by omega
    cases b with
    | false =>
     have Z : Hid (¬ R) := fun r => by have := HF.out.2 (fun j hj => (HR.out.1 r).2.2.1.2 j (by omega)); cases this
     clear HR PJ HF IC KC
     by_cases hz : 0 < nk
     · have qz : (0 : Int) < (nk : Int) := by omega
       clear hz
       go_wp2_with fail
       refine wp_loop_rounds 1 ?_
       rw [rounds_succ]
       go_wp2_with fail
       go_ret
       exact tells_no (by first | rfl | (simp; omega)) Z.out bqq
     · obtain rfl : nk = 0 := by omega
       clear hz
       go_wp2_with fail
       refine wp_loop_rounds 1 ?_
       rw [rounds_succ]
       go_wp2_with fail
       go_ret
       exact tells_no (by first | rfl | (simp; omega)) Z.out bqq
    | true =>
     obtain ⟨b4, o4, z0, z1, z2, z3, z4, z5, e4, lb4, u0, u1, u2, u3, u4, u5, CI⟩ := IC.out i hin
     have u0 := (bwr.cell (p := ⟨b4, o4 + i * 6, none⟩) lb4).trans u0; have u1 := (bwr.cell (p := ⟨b4, o4 + i * 6 + 1, none⟩) lb4).trans u1; have u2 := (bwr.cell (p := ⟨b4, o4 + i * 6 + 2, none⟩) lb4).trans u2; have u3 := (bwr.cell (p := ⟨b4, o4 + i * 6 + 3, none⟩) lb4).trans u3; have u4 := (bwr.cell (p := ⟨b4, o4 + i * 6 + 4, none⟩) lb4).trans u4; have u5 := (bwr.cell (p := ⟨b4, o4 + i * 6 + 5, none⟩) lb4).trans u5
     subst e4
     have CIH := Lib.hid CI
     have BWR := Lib.hid bwr
     have HA := Lib.hid (HF.out.1 (by first | rfl | trivial))
     have HNX : Hid (∀ b : Bool, (b = true ↔ P i) → (b = true ↔ ∀ j, j < i + 1 → P j)) := fun b hb => hb.trans ⟨fun g j hj => by
      rcases Nat.lt_or_ge j i with h | h
      · exact HA.out j h
      · obtain rfl : j = i := by omega
        exact g, fun g => g i (by omega)⟩
     clear CI HF
     go_wp2_with fail
     go_region_with (first | (go_at_call 15; (with_reducible refine (CIH.out _ BWR.out.drew).mono ?_); rintro e w3 ⟨b, rfl, hbb, b3'⟩; have HB2 := Lib.hid hbb; clear hbb; have b3 := Lib.hid (b3'.mono (Nat.le_refl _)); clear b3'))
     all_goals
      have HN := Lib.hid (HNX.out b HB2.out)
      have b5 : Below W.heap.size W w3 := bl.out.trans (Below.mono (Below.trans (Below.refl wr.heap.size wr).drew b3.out) zl)
      go_wp2_with fail
      go_roundw
      case rel => exact ⟨b, i + 1, by omega, by go_num, rfl, HN, b5⟩
      case measure => simp [intOf]; omega
  · obtain rfl : ni = i := by omega
    have qi2 : ¬ (ni : Int) < (ni : Int) := by omega
    cases b with
    | false =>
     have Z : Hid (¬ R) := fun r => by have := HF.out.2 (fun j hj => (HR.out.1 r).2.2.1.2 j (by omega)); cases this
     clear HR PJ HF IC KC
     by_cases hz : 0 < nk
     · have qz : (0 : Int) < (nk : Int) := by omega
       clear hz
       go_wp2_with fail
       refine wp_loop_rounds 1 ?_
       rw [rounds_succ]
       go_wp2_with fail
       go_ret
       exact tells_no (by first | rfl | (simp; omega)) Z.out bqq
     · obtain rfl : nk = 0 := by omega
       clear hz
       go_wp2_with fail
       refine wp_loop_rounds 1 ?_
       rw [rounds_succ]
       go_wp2_with fail
       go_ret
       exact tells_no (by first | rfl | (simp; omega)) Z.out bqq
    | true =>
     have HA := Lib.hid (HF.out.1 (by first | rfl | trivial))
     clear HF IC
     obtain ⟨wo, hwo⟩ : ∃ X, X = wr := ⟨_, rfl⟩
     subst hwo
     by_cases hke : nk = ni
     rotate_left
     · have Z : Hid (¬ R) := fun r => hke (HR.out.1 r).2.2.1.1.1
       have qk : ((nk : Int) == (ni : Int)) = false := by rw [beq_eq_false_iff_ne]; omega
       clear HR PJ KC HA
       by_cases hz : 0 < nk
       · have qz : (0 : Int) < (nk : Int) := by omega
         clear hz hke
         go_wp2_with fail
         refine wp_loop_rounds 1 ?_
         rw [rounds_succ]
         go_wp2_with fail
         go_ret
         exact tells_no (by first | rfl | (simp; omega)) Z.out bqq
       · have qk0 : ((0 : Int) == (ni : Int)) = false := by rw [beq_eq_false_iff_ne]; omega
         obtain rfl : nk = 0 := by omega
         clear hz hke
         go_wp2_with fail
         refine wp_loop_rounds 1 ?_
         rw [rounds_succ]
         go_wp2_with fail
         go_ret
         exact tells_no (by first | rfl | (simp; omega)) Z.out bqq
     have HE := Lib.hid hke
     have qk : ((nk : Int) == (ni : Int)) = true := by rw [beq_iff_eq]; omega
     have BS0 : Hid (Below w.heap.size w (wo.setCell ⟨w.heap.size + 1 + 1 + 1, 5, none⟩ (.slice A5 nk c5))) := bwr.setCell (by show w.heap.size ≤ w.heap.size + 1 + 1 + 1; omega) _
     have P1 := Lib.hid (B6.past M1.out (p := ⟨w.heap.size + 1 + 1 + 1, 5, none⟩) (by show w.heap.size + 1 + 1 + 1 ≠ w.heap.size + 1; omega) (.slice A5 nk c5))
     have P2 := Lib.hid (B10.past M2.out (p := ⟨w.heap.size + 1 + 1 + 1, 5, none⟩) (by show w.heap.size + 1 + 1 + 1 ≠ w.heap.size + 1 + 1; omega) (.slice A5 nk c5))
     have P3 := Lib.hid (B6.set5 M3.out (.slice A5 nk c5))
     clear hke
     go_wp2_with fail
     go_loopw [9, 12] (fun f x w5 => ∃ (b : Bool) (i : Nat), i ≤ nk ∧ x = .int .i64 (i : Int) ∧ f = .bool b ∧ Hid (b = true ↔ ∀ j, j < i → K j) ∧ Hid (Below w.heap.size w w5) ∧ Hid (B6 w5 (w.heap.size + 1) 30 (.int .i64 12) (.int .i64 n) (.int .u64 bt) (.slice A3 nb c3) (.slice A4 ni c4) (.slice A5 nk c5)) ∧ Hid (B10 w5 (w.heap.size + 1 + 1) 42 (.int .i64 12) (.string nm) (.slice X2 l2 x2) (.slice X3 l3 x3) (.slice X4 l4 x4) (.bool hs) (.string df) (.int .i64 sz) (.int .i64 it) (.slice X9 l9 x9)) ∧ Hid (B6 w5 (w.heap.size + 1 + 1 + 1) 30 (.int .i64 12) (.int .i64 0) (.int .u64 0) (.slice none 0 0) (.slice A4 ni c4) (.slice A5 nk c5))) (fun _ x _ => nk - (intOf x).toNat)
     case atStart => exact ⟨true, 0, Nat.zero_le _, rfl, rfl, ⟨fun _ j hj => absurd hj (Nat.not_lt_zero _), fun _ => rfl⟩, BS0, P1.out, P2.out, P3.out⟩
     case round =>
      clear P1 P2 P3 BS0
      obtain ⟨b, i, hi, rfl, rfl, HF, bl5, K1, K2, K3⟩ := hrel
      have bx := bl5.out
      have zx := bx.size
      clear h0 h0b h4 h8
      obtain ⟨_, _, _, _, _, _, _, _, _, _, _, _⟩ := B6.facts K1.out
      obtain ⟨_, _, _, _, _, _, _, _, _, _, _, _, _, _, _, _, _, _, _, _⟩ := B10.facts K2.out
      obtain ⟨_, _, _, _, _, _, _, _, _, _, _, _⟩ := B6.facts K3.out
      by_cases hin : i < nk
      · have qi3 : (i : Int) < (nk : Int) := by omega
        cases b with
        | false =>
         have Z : Hid (¬ R) := fun r => by have := HF.out.2 (fun j hj => (HR.out.1 r).2.2.1.1.2 j (by omega)); cases this
         clear HR PJ HF KC
         go_wp2_with fail
         go_ret
         exact tells_no (by first | rfl | (simp; omega)) Z.out bx
        | true =>
         obtain ⟨b5, o5, Y, e5, lb5, u0, HY⟩ := KC.out i hin
         have u0 := (bx.cell (p := ⟨b5, o5 + i, none⟩) lb5).trans u0
         subst e5
         have HAK := Lib.hid (HF.out.1 (by first | rfl | trivial))
         have HNX : Hid (∀ b : Bool, (b = true ↔ K i) → (b = true ↔ ∀ j, j < i + 1 → K j)) := fun b hb => hb.trans ⟨fun g j hj => by
          rcases Nat.lt_or_ge j i with h | h
          · exact HAK.out j h
          · obtain rfl : j = i := by omega
            exact g, fun g => g i (by omega)⟩
         have HYY := Lib.hid HY
         clear HF HY HAK
         by_cases hs : (Y.size : Int) ≤ 20000
         rotate_left
         · have qs : decide ((Y.size : Int) ≤ 20000) = false := by simpa using hs
           have HN := Lib.hid (HNX.out false ⟨(fun h => by cases h), fun h => absurd (HYY.out.1 h).1 (by omega)⟩)
           clear hs HNX HYY
           go_wp2_with fail
           go_roundw
           case rel => exact ⟨false, i + 1, by omega, by go_num, rfl, HN, bl5, K1, K2, K3⟩
           case measure => simp [intOf]; omega
         have qs : decide ((Y.size : Int) ≤ 20000) = true := by simpa using hs
         obtain ⟨c7, W', conv, hc7, bW, yW⟩ := conv_lays Y wr
         have LE : Hid (Y.data.toList.length = Y.size) := by show _ = _; rw [Array.length_toList]; rfl
         have RG : Hid (Calls Tryz.prog 36 #[.slice (some ⟨wr.heap.size, 0, none⟩) Y.size c7] W' (Told (Num.cU Y.data.toList).isSome W')) := by
          have r := rvtext_any (some ⟨wr.heap.size, 0, none⟩) c7 Y.data.toList W' yW (by rw [LE.out]; omega) (by rw [LE.out]; exact hc7)
          rw [LE.out] at r
          exact r
         obtain ⟨cu, hcu⟩ : ∃ cu, cu = (Num.cU Y.data.toList).isSome := ⟨_, rfl⟩
         rw [← hcu] at RG
         have HN := Lib.hid (HNX.out cu (by rw [hcu]; exact ⟨fun h => HYY.out.2 ⟨by omega, h⟩, fun h => (HYY.out.1 h).2⟩))
         have BW := Lib.hid (bx.trans (bW.mono zx))
         have CB := Lib.hid bW
         have zc := bW.size
         have zz := BW.out.size
         clear hs HNX HYY hcu bW yW hc7 LE
         go_wp2_with fail
         with_reducible refine RG.out.mono ?_
         rintro e w6 ⟨rfl, b6⟩
         have b7 : Below w.heap.size w w6 := BW.out.trans (b6.mono zz)
         have b8 : Below wr.heap.size wr w6 := CB.out.trans (b6.mono zc)
         go_wp2_with fail
         go_roundw
         case rel => exact ⟨cu, i + 1, by omega, by go_num, rfl, HN, b7, B6.below K1.out b8 K1.out.lt, B10.below K2.out b8 K2.out.lt, B6.below K3.out b8 K3.out.lt⟩
         case measure => simp [intOf]; omega
      · obtain rfl : i = nk := by omega
        have qi3 : ¬ (i : Int) < (i : Int) := by omega
        cases b with
        | false =>
         have Z : Hid (¬ R) := fun r => by have := HF.out.2 (fun j hj => (HR.out.1 r).2.2.1.1.2 j (by omega)); cases this
         clear HR PJ HF KC
         go_wp2_with fail
         go_ret
         exact tells_no (by first | rfl | (simp; omega)) Z.out bx
        | true =>
         have HAK := Lib.hid (HF.out.1 (by first | rfl | trivial))
         clear HF KC
         by_cases g0 : n = 0
         rotate_left
         · have e0a : ((0 : Int) == n) = false := by rw [beq_eq_false_iff_ne]; omega
           have Z : Hid (¬ R) := fun r => g0 (PJ.out.1 (HR.out.1 r).2.2.2).1
           clear g0 HR PJ 
           go_wp2_with fail
           go_ret
           exact tells_no (by first | rfl | (simp; omega)) Z.out bx
         have e0a : ((0 : Int) == n) = true := by rw [beq_iff_eq]; omega
         by_cases g1 : bt = 0
         rotate_left
         · have e1a : ((0 : Int) == bt) = false := by rw [beq_eq_false_iff_ne]; omega
           have Z : Hid (¬ R) := fun r => g1 (PJ.out.1 (HR.out.1 r).2.2.2).2.1
           clear g1 HR PJ g0
           go_wp2_with fail
           go_ret
           exact tells_no (by first | rfl | (simp; omega)) Z.out bx
         have e1a : ((0 : Int) == bt) = true := by rw [beq_iff_eq]; omega
         by_cases g2 : nb = 0
         rotate_left
         · have e2a : ((0 : Int) == (nb : Int)) = false := by rw [beq_eq_false_iff_ne]; omega
           have Z : Hid (¬ R) := fun r => g2 (PJ.out.1 (HR.out.1 r).2.2.2).2.2
           clear g2 HR PJ g0 g1
           go_wp2_with fail
           go_ret
           exact tells_no (by first | rfl | (simp; omega)) Z.out bx
         have e2a : ((0 : Int) == (nb : Int)) = true := by rw [beq_iff_eq]; omega
         have Z : Hid R := HR.out.2 ⟨HB.out.1, HB.out.2, ⟨⟨HE.out, HAK.out⟩, HA.out⟩, PJ.out.2 ⟨g0, g1, g2⟩⟩
         clear HR PJ g0 g1 g2
         go_wp2_with fail
         go_ret
         exact tells_yes (by first | rfl | (simp; omega)) Z.out bx
theorem ris_13 (p nn : Nat) (hp : p < nn) (rt n bt : Int) (nb ni nk : Nat) (A3 A4 A5 : Option Addr) (c3 c4 c5 : Nat) (nm df : ByteArray) (l2 l3 l4 l9 x2 x3 x4 x9 : Nat) (X2 X3 X4 X9 : Option Addr) (hs : Bool) (sz it : Int) (b1 o1 c : Nat) (w : World) (lb1 : b1 < w.heap.size)
 (y0 : w.cell? ⟨b1, o1 + p * 10, none⟩ = some (.int .i64 13)) (y1 : w.cell? ⟨b1, o1 + p * 10 + 1, none⟩ = some (.string nm)) (y2 : w.cell? ⟨b1, o1 + p * 10 + 2, none⟩ = some (.slice X2 l2 x2)) (y3 : w.cell? ⟨b1, o1 + p * 10 + 3, none⟩ = some (.slice X3 l3 x3)) (y4 : w.cell? ⟨b1, o1 + p * 10 + 4, none⟩ = some (.slice X4 l4 x4))
 (y5 : w.cell? ⟨b1, o1 + p * 10 + 5, none⟩ = some (.bool hs)) (y6 : w.cell? ⟨b1, o1 + p * 10 + 6, none⟩ = some (.string df)) (y7 : w.cell? ⟨b1, o1 + p * 10 + 7, none⟩ = some (.int .i64 sz)) (y8 : w.cell? ⟨b1, o1 + p * 10 + 8, none⟩ = some (.int .i64 it)) (y9 : w.cell? ⟨b1, o1 + p * 10 + 9, none⟩ = some (.slice X9 l9 x9)) (k0 : Int) (hk0 : 0 ≤ n → n < (l9 : Int) → ∃ b9 o9, X9 = some ⟨b9, o9, none⟩ ∧ b9 < w.heap.size ∧ w.cell? ⟨b9, o9 + n.toNat, none⟩ = some (.int .i64 k0)) (b4 o4 : Nat) (t0 t1 t2 t3 t4 t5 : Value) (hz : ni = 1 → A4 = some ⟨b4, o4, none⟩ ∧ b4 < w.heap.size ∧ w.cell? ⟨b4, o4, none⟩ = some t0 ∧ w.cell? ⟨b4, o4 + 1, none⟩ = some t1 ∧ w.cell? ⟨b4, o4 + 2, none⟩ = some t2 ∧ w.cell? ⟨b4, o4 + 3, none⟩ = some t3 ∧ w.cell? ⟨b4, o4 + 4, none⟩ = some t4 ∧ w.cell? ⟨b4, o4 + 5, none⟩ = some t5) (Q : Prop) (RC : Hid (0 ≤ n → n < (l9 : Int) → ni = 1 → ∀ W, Below w.heap.size w W → Calls Tryz.prog 15 #[.agg #[.slice (some ⟨b1, o1, none⟩) nn c, .int .i64 rt], .int .i64 k0, .agg #[t0, t1, t2, t3, t4, t5]] W (Tells Q W))) (R : Prop) (hR : R ↔ nb ≤ 20000 ∧ ni ≤ 300 ∧ ((0 ≤ n ∧ n < (l9 : Int)) ∧ ni = 1 ∧ Q) ∧ VJust 13 n bt nb ni nk) :
 Calls Tryz.prog 15 #[.agg #[.slice (some ⟨b1, o1, none⟩) nn c, .int .i64 rt], .int .i64 (p : Int), .agg #[.int .i64 13, .int .i64 n, .int .u64 bt, .slice A3 nb c3, .slice A4 ni c4, .slice A5 nk c5]] w (Tells R w) := by
 have CS := cell_set
 have q : (p : Int) < (nn : Int) := by omega
 have HR := Lib.hid hR
 have PJ : Hid (VJust 13 n bt nb ni nk ↔ bt = 0 ∧ nb = 0 ∧ nk = 0) := by show _ ↔ _; unfold VJust; omega
 clear hR
 by_cases hb : (20000 : Int) < (nb : Int)
 · have qb : decide ((20000 : Int) < (nb : Int)) = true := by simpa using hb
   have Z : Hid (¬ R) := fun r => by have := (HR.out.1 r).1; omega
   clear hb HR PJ RC hk0 hz
   go_enter Tryz.func15, Tryz.ntmps15
   go_wp2_with fail
   go_ret
   exact tells_no (by first | rfl | (simp; omega)) Z.out bqq
 have qb : decide ((20000 : Int) < (nb : Int)) = false := by simpa using hb
 by_cases hi : (300 : Int) < (ni : Int)
 · have qi : decide ((300 : Int) < (ni : Int)) = true := by simpa using hi
   have Z : Hid (¬ R) := fun r => by have := (HR.out.1 r).2.1; omega
   clear hb hi HR PJ RC hk0 hz
   go_enter Tryz.func15, Tryz.ntmps15
   go_wp2_with fail
   go_ret
   exact tells_no (by first | rfl | (simp; omega)) Z.out bqq
 have qi : decide ((300 : Int) < (ni : Int)) = false := by simpa using hi
 have HB : Hid (nb ≤ 20000 ∧ ni ≤ 300) := ⟨by omega, by omega⟩
 have H0 : Hid (B2 ((((w.alloc (.cells #[.slice (some ⟨b1, o1, none⟩) nn c, .int .i64 rt] 24)).alloc (.cells #[.int .i64 13, .int .i64 n, .int .u64 bt, .slice A3 nb c3, .slice A4 ni c4, .slice A5 nk c5] 30)).alloc (.cells #[.int .i64 13, .string nm, .slice X2 l2 x2, .slice X3 l3 x3, .slice X4 l4 x4, .bool hs, .string df, .int .i64 sz, .int .i64 it, .slice X9 l9 x9] 42)).alloc (.cells #[.int .i64 13, .int .i64 n, .int .u64 0, .slice none 0 0, .slice A4 ni c4, .slice none 0 0] 30)) w.heap.size 24 (.slice (some ⟨b1, o1, none⟩) nn c) (.int .i64 rt)) := B2.alloc (B2.alloc (B2.alloc (B2.newat rfl) _) _) _
 have H1 : Hid (B6 ((((w.alloc (.cells #[.slice (some ⟨b1, o1, none⟩) nn c, .int .i64 rt] 24)).alloc (.cells #[.int .i64 13, .int .i64 n, .int .u64 bt, .slice A3 nb c3, .slice A4 ni c4, .slice A5 nk c5] 30)).alloc (.cells #[.int .i64 13, .string nm, .slice X2 l2 x2, .slice X3 l3 x3, .slice X4 l4 x4, .bool hs, .string df, .int .i64 sz, .int .i64 it, .slice X9 l9 x9] 42)).alloc (.cells #[.int .i64 13, .int .i64 n, .int .u64 0, .slice none 0 0, .slice A4 ni c4, .slice none 0 0] 30)) (w.heap.size + 1) 30 (.int .i64 13) (.int .i64 n) (.int .u64 bt) (.slice A3 nb c3) (.slice A4 ni c4) (.slice A5 nk c5)) := B6.alloc (B6.alloc (B6.newat (by simp)) _) _
 have H2 : Hid (B10 ((((w.alloc (.cells #[.slice (some ⟨b1, o1, none⟩) nn c, .int .i64 rt] 24)).alloc (.cells #[.int .i64 13, .int .i64 n, .int .u64 bt, .slice A3 nb c3, .slice A4 ni c4, .slice A5 nk c5] 30)).alloc (.cells #[.int .i64 13, .string nm, .slice X2 l2 x2, .slice X3 l3 x3, .slice X4 l4 x4, .bool hs, .string df, .int .i64 sz, .int .i64 it, .slice X9 l9 x9] 42)).alloc (.cells #[.int .i64 13, .int .i64 n, .int .u64 0, .slice none 0 0, .slice A4 ni c4, .slice none 0 0] 30)) (w.heap.size + 1 + 1) 42 (.int .i64 13) (.string nm) (.slice X2 l2 x2) (.slice X3 l3 x3) (.slice X4 l4 x4) (.bool hs) (.string df) (.int .i64 sz) (.int .i64 it) (.slice X9 l9 x9)) := B10.alloc (B10.newat (by simp)) _
 have H3 : Hid (B6 ((((w.alloc (.cells #[.slice (some ⟨b1, o1, none⟩) nn c, .int .i64 rt] 24)).alloc (.cells #[.int .i64 13, .int .i64 n, .int .u64 bt, .slice A3 nb c3, .slice A4 ni c4, .slice A5 nk c5] 30)).alloc (.cells #[.int .i64 13, .string nm, .slice X2 l2 x2, .slice X3 l3 x3, .slice X4 l4 x4, .bool hs, .string df, .int .i64 sz, .int .i64 it, .slice X9 l9 x9] 42)).alloc (.cells #[.int .i64 13, .int .i64 n, .int .u64 0, .slice none 0 0, .slice A4 ni c4, .slice none 0 0] 30)) (w.heap.size + 1 + 1 + 1) 30 (.int .i64 13) (.int .i64 n) (.int .u64 0) (.slice none 0 0) (.slice A4 ni c4) (.slice none 0 0)) := B6.newat (by simp)
 have BW : Hid (Below w.heap.size w ((((w.alloc (.cells #[.slice (some ⟨b1, o1, none⟩) nn c, .int .i64 rt] 24)).alloc (.cells #[.int .i64 13, .int .i64 n, .int .u64 bt, .slice A3 nb c3, .slice A4 ni c4, .slice A5 nk c5] 30)).alloc (.cells #[.int .i64 13, .string nm, .slice X2 l2 x2, .slice X3 l3 x3, .slice X4 l4 x4, .bool hs, .string df, .int .i64 sz, .int .i64 it, .slice X9 l9 x9] 42)).alloc (.cells #[.int .i64 13, .int .i64 n, .int .u64 0, .slice none 0 0, .slice A4 ni c4, .slice none 0 0] 30))) := ((((Below.refl _ _).alloc (Nat.le_refl _) _).alloc (by simp) _).alloc (by simp; omega) _).alloc (by simp; omega) _
 have ZW : Hid (((((w.alloc (.cells #[.slice (some ⟨b1, o1, none⟩) nn c, .int .i64 rt] 24)).alloc (.cells #[.int .i64 13, .int .i64 n, .int .u64 bt, .slice A3 nb c3, .slice A4 ni c4, .slice A5 nk c5] 30)).alloc (.cells #[.int .i64 13, .string nm, .slice X2 l2 x2, .slice X3 l3 x3, .slice X4 l4 x4, .bool hs, .string df, .int .i64 sz, .int .i64 it, .slice X9 l9 x9] 42)).alloc (.cells #[.int .i64 13, .int .i64 n, .int .u64 0, .slice none 0 0, .slice A4 ni c4, .slice none 0 0] 30)).heap.size = w.heap.size + 4) := by show _ = _; simp
 clear hb hi
 by_cases h0 : 0 ≤ n
 rotate_left
 · have Z : Hid (¬ R) := fun r => h0 (HR.out.1 r).2.2.1.1.1
   have q0 : decide ((0 : Int) ≤ n) = false := by simpa using h0
   clear hk0 hz RC HR PJ
   go_enter Tryz.func15, Tryz.ntmps15
   go_wp2_with fail
   obtain ⟨W, hW⟩ : ∃ W, W = ((((w.alloc (.cells #[.slice (some ⟨b1, o1, none⟩) nn c, .int .i64 rt] 24)).alloc (.cells #[.int .i64 13, .int .i64 n, .int .u64 bt, .slice A3 nb c3, .slice A4 ni c4, .slice A5 nk c5] 30)).alloc (.cells #[.int .i64 13, .string nm, .slice X2 l2 x2, .slice X3 l3 x3, .slice X4 l4 x4, .bool hs, .string df, .int .i64 sz, .int .i64 it, .slice X9 l9 x9] 42)).alloc (.cells #[.int .i64 13, .int .i64 n, .int .u64 0, .slice none 0 0, .slice A4 ni c4, .slice none 0 0] 30)) := ⟨_, rfl⟩
   rw [← hW] at H0 H1 H2 H3 BW ZW
   rw [← hW]
   clear hW ZW
   obtain ⟨h0, h0b, _, _⟩ := B2.facts H0.out
   obtain ⟨_, _, _, _, _, _, _, _, _, _, _, _⟩ := B6.facts H1.out
   obtain ⟨_, _, _, _, _, _, _, _, _, _, _, _, _, _, _, _, _, _, _, _⟩ := B10.facts H2.out
   obtain ⟨_, _, _, _, _, _, _, _, _, _, _, _⟩ := B6.facts H3.out
   go_quiet (fail)
   go_wp2_with fail
   go_ret
   exact tells_no (by first | rfl | (simp; omega)) Z.out (bel_drewN BW.out _)
 by_cases h9 : n < (l9 : Int)
 rotate_left
 · have Z : Hid (¬ R) := fun r => h9 (HR.out.1 r).2.2.1.1.2
   have q0 : decide ((0 : Int) ≤ n) = true := by simpa using h0
   have q9 : decide (n < (l9 : Int)) = false := by simpa using h9
   clear hk0 hz RC HR PJ
   go_enter Tryz.func15, Tryz.ntmps15
   go_wp2_with fail
   obtain ⟨W, hW⟩ : ∃ W, W = ((((w.alloc (.cells #[.slice (some ⟨b1, o1, none⟩) nn c, .int .i64 rt] 24)).alloc (.cells #[.int .i64 13, .int .i64 n, .int .u64 bt, .slice A3 nb c3, .slice A4 ni c4, .slice A5 nk c5] 30)).alloc (.cells #[.int .i64 13, .string nm, .slice X2 l2 x2, .slice X3 l3 x3, .slice X4 l4 x4, .bool hs, .string df, .int .i64 sz, .int .i64 it, .slice X9 l9 x9] 42)).alloc (.cells #[.int .i64 13, .int .i64 n, .int .u64 0, .slice none 0 0, .slice A4 ni c4, .slice none 0 0] 30)) := ⟨_, rfl⟩
   rw [← hW] at H0 H1 H2 H3 BW ZW
   rw [← hW]
   clear hW ZW
   obtain ⟨h0, h0b, _, _⟩ := B2.facts H0.out
   obtain ⟨_, _, _, _, _, _, _, _, _, _, _, _⟩ := B6.facts H1.out
   obtain ⟨_, _, _, _, _, _, _, _, _, _, _, _, _, _, _, _, _, _, _, _⟩ := B10.facts H2.out
   obtain ⟨_, _, _, _, _, _, _, _, _, _, _, _⟩ := B6.facts H3.out
   go_quiet (fail)
   go_wp2_with fail
   go_ret
   exact tells_no (by first | rfl | (simp; omega)) Z.out (bel_drewN BW.out _)
 by_cases hn1 : ni = 1
 rotate_left
 · have q1 : ((ni : Int) == 1) = false := by rw [beq_eq_false_iff_ne]; omega
   have Z : Hid (¬ R) := fun r => hn1 (HR.out.1 r).2.2.1.2.1
   clear hn1
   clear hk0 hz RC HR PJ
   go_enter Tryz.func15, Tryz.ntmps15
   go_wp2_with fail
   obtain ⟨W, hW⟩ : ∃ W, W = ((((w.alloc (.cells #[.slice (some ⟨b1, o1, none⟩) nn c, .int .i64 rt] 24)).alloc (.cells #[.int .i64 13, .int .i64 n, .int .u64 bt, .slice A3 nb c3, .slice A4 ni c4, .slice A5 nk c5] 30)).alloc (.cells #[.int .i64 13, .string nm, .slice X2 l2 x2, .slice X3 l3 x3, .slice X4 l4 x4, .bool hs, .string df, .int .i64 sz, .int .i64 it, .slice X9 l9 x9] 42)).alloc (.cells #[.int .i64 13, .int .i64 n, .int .u64 0, .slice none 0 0, .slice A4 ni c4, .slice none 0 0] 30)) := ⟨_, rfl⟩
   rw [← hW] at H0 H1 H2 H3 BW ZW
   rw [← hW]
   clear hW ZW
   obtain ⟨h0, h0b, _, _⟩ := B2.facts H0.out
   obtain ⟨_, _, _, _, _, _, _, _, _, _, _, _⟩ := B6.facts H1.out
   obtain ⟨_, _, _, _, _, _, _, _, _, _, _, _, _, _, _, _, _, _, _, _⟩ := B10.facts H2.out
   obtain ⟨_, _, _, _, _, _, _, _, _, _, _, _⟩ := B6.facts H3.out
   go_quiet (fail)
   go_wp2_with fail
   go_ret
   exact tells_no (by first | rfl | (simp; omega)) Z.out (bel_drewN BW.out _)
 have q1 : ((ni : Int) == 1) = true := by rw [beq_iff_eq]; omega
 obtain ⟨b9, o9, rfl, lb9, u9⟩ := hk0 h0 h9
 obtain ⟨rfl, lb4, u0, u1, u2, u3, u4, u5⟩ := hz hn1
 have RC2 := Lib.hid (RC.out h0 h9 hn1)
 have HA : Hid (0 ≤ n ∧ n < (l9 : Int)) := ⟨h0, h9⟩
 obtain ⟨na, hna⟩ : ∃ na : Nat, n = (na : Int) := ⟨n.toNat, by omega⟩
 subst hna
 have i1 : ((1 : Nat) : Int) = 1 := rfl
 subst hn1
 rw [Int.toNat_natCast] at u9
 clear RC hk0 hz h0
 go_enter Tryz.func15, Tryz.ntmps15
 go_wp2_with fail
 obtain ⟨W, hW⟩ : ∃ W, W = ((((w.alloc (.cells #[.slice (some ⟨b1, o1, none⟩) nn c, .int .i64 rt] 24)).alloc (.cells #[.int .i64 13, .int .i64 (na : Int), .int .u64 bt, .slice A3 nb c3, .slice (some ⟨b4, o4, none⟩) 1 c4, .slice A5 nk c5] 30)).alloc (.cells #[.int .i64 13, .string nm, .slice X2 l2 x2, .slice X3 l3 x3, .slice X4 l4 x4, .bool hs, .string df, .int .i64 sz, .int .i64 it, .slice (some ⟨b9, o9, none⟩) l9 x9] 42)).alloc (.cells #[.int .i64 13, .int .i64 (na : Int), .int .u64 0, .slice none 0 0, .slice (some ⟨b4, o4, none⟩) 1 c4, .slice none 0 0] 30)) := ⟨_, rfl⟩
 rw [← hW] at H0 H1 H2 H3 BW ZW
 rw [← hW]
 clear hW
 have bw := BW.out
 obtain ⟨z0, z1, z2, z3⟩ : w.heap.size < W.heap.size ∧ w.heap.size + 1 < W.heap.size ∧ w.heap.size + 1 + 1 < W.heap.size ∧ w.heap.size + 1 + 1 + 1 < W.heap.size := by have zw := ZW.out; omega
 clear ZW
 have lb4' : b4 < W.heap.size := by omega
 have lb9' : b9 < W.heap.size := by omega
 have u9 := (bw.cell (p := ⟨b9, o9 + na, none⟩) lb9).trans u9
 have u0 := (bw.cell (p := ⟨b4, o4, none⟩) lb4).trans u0
 have u1 := (bw.cell (p := ⟨b4, o4 + 1, none⟩) lb4).trans u1
 have u2 := (bw.cell (p := ⟨b4, o4 + 2, none⟩) lb4).trans u2
 have u3 := (bw.cell (p := ⟨b4, o4 + 3, none⟩) lb4).trans u3
 have u4 := (bw.cell (p := ⟨b4, o4 + 4, none⟩) lb4).trans u4
 have u5 := (bw.cell (p := ⟨b4, o4 + 5, none⟩) lb4).trans u5
 have DR : Hid (Below w.heap.size w W.drew) := bw.drew
 obtain ⟨h0, h0b, _, _⟩ := B2.facts H0.out
 obtain ⟨_, v1, _, _, v4, _, _, _, _, _, _, _⟩ := B6.facts H1.out
 obtain ⟨_, _, _, _, _, _, _, _, _, m9, _, _, _, _, _, _, _, _, _, _⟩ := B10.facts H2.out
 obtain ⟨_, _, _, _, _, _, _, _, _, _, _, _⟩ := B6.facts H3.out
 go_region_held_law (fun w' => w'.cell? ⟨w.heap.size, 0, none⟩ = some (.slice (some ⟨b1, o1, none⟩) nn c) ∧ w'.cell? ⟨w.heap.size, 1, none⟩ = some (.int .i64 rt) ∧ w'.cell? ⟨w.heap.size + 1, 1, none⟩ = some (.int .i64 (na : Int)) ∧ w'.cell? ⟨w.heap.size + 1, 4, none⟩ = some (.slice (some ⟨b4, o4, none⟩) 1 c4) ∧ w'.cell? ⟨w.heap.size + 1 + 1, 9, none⟩ = some (.slice (some ⟨b9, o9, none⟩) l9 x9) ∧ w'.cell? ⟨b9, o9 + na, none⟩ = some (.int .i64 k0) ∧ w'.cell? ⟨b4, o4, none⟩ = some (t0) ∧ w'.cell? ⟨b4, o4 + 1, none⟩ = some (t1) ∧ w'.cell? ⟨b4, o4 + 2, none⟩ = some (t2) ∧ w'.cell? ⟨b4, o4 + 3, none⟩ = some (t3) ∧ w'.cell? ⟨b4, o4 + 4, none⟩ = some (t4) ∧ w'.cell? ⟨b4, o4 + 5, none⟩ = some (t5))
  (exact ⟨(by first | with_reducible assumption | (go_simp; done)), (by first | with_reducible assumption | (go_simp; done)), (by first | with_reducible assumption | (go_simp; done)), (by first | with_reducible assumption | (go_simp; done)), (by first | with_reducible assumption | (go_simp; done)), (by first | with_reducible assumption | (go_simp; done)), (by first | with_reducible assumption | (go_simp; done)), (by first | with_reducible assumption | (go_simp; done)), (by first | with_reducible assumption | (go_simp; done)), (by first | with_reducible assumption | (go_simp; done)), (by first | with_reducible assumption | (go_simp; done)), (by first | with_reducible assumption | (go_simp; done))⟩)
  (first
  | (go_at_call 15; (with_reducible refine (RC2.out _ DR.out).mono ?_); rintro e w4 ⟨b, rfl, hbb, b4'⟩; have HQB := Lib.hid hbb; clear hbb; have k0_ := (Below.cell b4' (p := ⟨w.heap.size, 0, none⟩) (by show _ < W.heap.size; omega)).trans h0; have k1_ := (Below.cell b4' (p := ⟨w.heap.size, 1, none⟩) (by show _ < W.heap.size; omega)).trans h0b; have k2_ := (Below.cell b4' (p := ⟨w.heap.size + 1, 1, none⟩) (by show _ < W.heap.size; omega)).trans v1; have k3_ := (Below.cell b4' (p := ⟨w.heap.size + 1, 4, none⟩) (by show _ < W.heap.size; omega)).trans v4; have k4_ := (Below.cell b4' (p := ⟨w.heap.size + 1 + 1, 9, none⟩) (by show _ < W.heap.size; omega)).trans m9; have k5_ := (Below.cell b4' (p := ⟨b9, o9 + na, none⟩) (by show _ < W.heap.size; omega)).trans u9; have k6_ := (Below.cell b4' (p := ⟨b4, o4, none⟩) (by show _ < W.heap.size; omega)).trans u0; have k7_ := (Below.cell b4' (p := ⟨b4, o4 + 1, none⟩) (by show _ < W.heap.size; omega)).trans u1; have k8_ := (Below.cell b4' (p := ⟨b4, o4 + 2, none⟩) (by show _ < W.heap.size; omega)).trans u2; have k9_ := (Below.cell b4' (p := ⟨b4, o4 + 3, none⟩) (by show _ < W.heap.size; omega)).trans u3; have k10_ := (Below.cell b4' (p := ⟨b4, o4 + 4, none⟩) (by show _ < W.heap.size; omega)).trans u4; have k11_ := (Below.cell b4' (p := ⟨b4, o4 + 5, none⟩) (by show _ < W.heap.size; omega)).trans u5; have K1 := Lib.hid (B6.below (B6.drew H1.out) b4' (by show _ < W.heap.size; omega)); have K2 := Lib.hid (B10.below (B10.drew H2.out) b4' (by show _ < W.heap.size; omega)); have K3 := Lib.hid (B6.below (B6.drew H3.out) b4' (by show _ < W.heap.size; omega)); have BX := Lib.hid (DR.out.trans (b4'.mono (by show _ ≤ W.heap.size; omega)))))
 all_goals
  obtain ⟨_, _, _, _, _, _, _, _, _, _, _, _⟩ := B6.facts K1.out
  obtain ⟨_, _, _, _, _, _, _, _, _, _, _, _, _, _, _, _, _, _, _, _⟩ := B10.facts K2.out
  obtain ⟨_, _, _, _, _, _, _, _, _, _, _, _⟩ := B6.facts K3.out
  cases b with
  | false =>
   have Z : Hid (¬ R) := fun r => by have := HQB.out.2 (HR.out.1 r).2.2.1.2.2; cases this
   clear HR PJ HQB
   go_wp2_with fail
   go_ret
   exact tells_no (by first | rfl | (simp; omega)) Z.out BX.out
  | true =>
   have HQ := Lib.hid (HQB.out.1 (by first | rfl | trivial))
   clear HQB
   by_cases g0 : bt = 0
   rotate_left
   · have e0a : ((0 : Int) == bt) = false := by rw [beq_eq_false_iff_ne]; omega
     have Z : Hid (¬ R) := fun r => g0 (PJ.out.1 (HR.out.1 r).2.2.2).1
     clear g0 HR PJ 
     go_wp2_with fail
     go_ret
     exact tells_no (by first | rfl | (simp; omega)) Z.out BX.out
   have e0a : ((0 : Int) == bt) = true := by rw [beq_iff_eq]; omega
   by_cases g1 : nb = 0
   rotate_left
   · have e1a : ((0 : Int) == (nb : Int)) = false := by rw [beq_eq_false_iff_ne]; omega
     have Z : Hid (¬ R) := fun r => g1 (PJ.out.1 (HR.out.1 r).2.2.2).2.1
     clear g1 HR PJ g0
     go_wp2_with fail
     go_ret
     exact tells_no (by first | rfl | (simp; omega)) Z.out BX.out
   have e1a : ((0 : Int) == (nb : Int)) = true := by rw [beq_iff_eq]; omega
   by_cases g2 : nk = 0
   rotate_left
   · have e2a : ((0 : Int) == (nk : Int)) = false := by rw [beq_eq_false_iff_ne]; omega
     have Z : Hid (¬ R) := fun r => g2 (PJ.out.1 (HR.out.1 r).2.2.2).2.2
     clear g2 HR PJ g0 g1
     go_wp2_with fail
     go_ret
     exact tells_no (by first | rfl | (simp; omega)) Z.out BX.out
   have e2a : ((0 : Int) == (nk : Int)) = true := by rw [beq_iff_eq]; omega
   have Z : Hid R := HR.out.2 ⟨HB.out.1, HB.out.2, ⟨HA.out, (by first | rfl | trivial), HQ.out⟩, PJ.out.2 ⟨g0, g1, g2⟩⟩
   clear HR PJ g0 g1 g2
   go_wp2_with fail
   go_ret
   exact tells_yes (by first | rfl | (simp; omega)) Z.out BX.out
end Go.Proofs.YtpmgjpchpmkklaaGreatDoor
