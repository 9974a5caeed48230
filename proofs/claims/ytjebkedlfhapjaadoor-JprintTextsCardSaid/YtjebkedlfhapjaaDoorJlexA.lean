/- Layer 6, the code's own calls at every input: the place of a byte in a text, white bytes, digits, letters, hexadecimal digits. -/
import Derived.Test.YtjebkedlfhapjaaDoorJRef
import Derived.Test.YtjebkedlfhapjaaDoorRec
import Derived.Laws.Externs
import Derived.Lib.Bytealg
import Derived.KernelRfl
namespace Go.Proofs.YtjebkedlfhapjaaDoor
open Go.ChangeShapes Go.WideShapes Go.ChangeAt Go.RowKit Mem

/-- Where a byte stands first among others; -1 if nowhere. -/
def place (S : List UInt8) (x : Nat) : Int := Lib.indexByte S (UInt8.ofNat x)
theorem place_run (s : ByteArray) (x : Nat) (w : World) : (callFunc 69 #[.string s, .int .u8 (x : Int)]).run Tryd.prog w = .ok (.value (.int .i64 (place s.data.toList x))) w :=
  (run_callFunc_extern (e := Extern.BytealgIndexByte.indexByte) Tryd.func69 (by kernel_rfl) (by kernel_rfl) (by kernel_rfl) (by kernel_rfl) _ w).trans (by rw [Lib.run_indexByteString]; rfl)
theorem placeL_any (s : ByteArray) (x : Nat) (w : World) : Calls Tryd.prog 54 #[.string s, .int .u8 (x : Int)] w fun e w' => e = .returned (.int .i64 (place s.data.toList x)) ∧ w = w' := by
  have pr := place_run s x w
  generalize place s.data.toList x = I at *
  go_enter Tryd.func54, Tryd.ntmps54
  go_wp2
  all_goals go_ret
  exact ⟨rfl, rfl⟩
theorem place_any (s : ByteArray) (x : Nat) (w : World) : Calls Tryd.prog 42 #[.string s, .int .u8 (x : Int)] w fun e w' => e = .returned (.int .i64 (place s.data.toList x)) ∧ w = w' := by
  have pl := Lib.hid (placeL_any s x)
  generalize place s.data.toList x = I at *
  go_enter Tryd.func42, Tryd.ntmps42
  go_wp2_with fail
  refine (pl.out _).mono ?_
  rintro e w1 ⟨rfl, rfl⟩
  go_wp2_with fail
  all_goals go_ret
  exact ⟨rfl, rfl⟩
/-- The signs of words of one byte. -/
theorem place_signs : ∀ x : Nat, x < 256 → place [123, 125, 91, 93, 58, 44] x = (Jx.punct x : Int) - 1 := by
  have h : ∀ x : Fin 256, place [123, 125, 91, 93, 58, 44] x.val = (Jx.punct x.val : Int) - 1 := by decide +kernel
  exact fun x hx => h ⟨x, hx⟩
theorem place_point : ∀ x : Nat, x < 256 → (0 ≤ place [46, 101, 69] x ↔ x = 46 ∨ x = 101 ∨ x = 69) := by
  have h : ∀ x : Fin 256, (0 ≤ place [46, 101, 69] x.val ↔ x.val = 46 ∨ x.val = 101 ∨ x.val = 69) := by decide +kernel
  exact fun x hx => h ⟨x, hx⟩
theorem place_hex : ∀ x : Nat, x < 256 → place [48, 49, 50, 51, 52, 53, 54, 55, 56, 57, 97, 98, 99, 100, 101, 102] (if 65 ≤ x ∧ x ≤ 70 then x + 32 else x) = Jx.hex x := by
  have h : ∀ x : Fin 256, place [48, 49, 50, 51, 52, 53, 54, 55, 56, 57, 97, 98, 99, 100, 101, 102] (if 65 ≤ x.val ∧ x.val ≤ 70 then x.val + 32 else x.val) = Jx.hex x.val := by decide +kernel
  exact fun x hx => h ⟨x, hx⟩

theorem white_any (x : Nat) (w : World) : Calls Tryd.prog 26 #[.int .u8 (x : Int)] w fun e w' => e = .returned (.bool (Jx.isW x)) ∧ w = w' := by
  by_cases h : x = 32 ∨ x = 9 ∨ x = 10 ∨ x = 13
  · have e : Jx.isW x = true := by unfold Jx.isW; simpa using h
    rw [e]
    clear e
    rcases h with rfl | rfl | rfl | rfl
    all_goals
      go_enter Tryd.func26, Tryd.ntmps26
      go_wp2_with fail
      all_goals go_ret
      all_goals exact ⟨rfl, rfl⟩
  · have e : Jx.isW x = false := by unfold Jx.isW; simpa using h
    have q1 : ((x : Int) == 32) = false := by simp; omega
    have q2 : ((x : Int) == 9) = false := by simp; omega
    have q3 : ((x : Int) == 10) = false := by simp; omega
    have q4 : ((x : Int) == 13) = false := by simp; omega
    rw [e]
    clear e h
    go_enter Tryd.func26, Tryd.ntmps26
    go_wp2_with fail
    all_goals go_ret
    all_goals exact ⟨rfl, rfl⟩

theorem digit_any (x : Nat) (w : World) : Calls Tryd.prog 44 #[.int .u8 (x : Int)] w fun e w' => e = .returned (.bool (Jx.isD x)) ∧ w = w' := by
  obtain ⟨R, hR⟩ : ∃ R, R = Jx.isD x := ⟨_, rfl⟩
  have D : Hid (R = true ↔ 48 ≤ (x : Int) ∧ (x : Int) ≤ 57) := by unfold Hid; rw [hR, Jx.isD_is]; omega
  rw [← hR]
  clear hR
  by_cases h1 : 48 ≤ (x : Int)
  · by_cases h2 : (x : Int) ≤ 57
    · obtain rfl : R = true := D.out.2 ⟨h1, h2⟩
      go_enter Tryd.func44, Tryd.ntmps44
      go_wp2_with fail
      all_goals go_ret
      all_goals exact ⟨rfl, rfl⟩
    · obtain rfl : R = false := by cases R with | false => rfl | true => exact absurd (D.out.1 rfl).2 h2
      go_enter Tryd.func44, Tryd.ntmps44
      go_wp2_with fail
      all_goals go_ret
      all_goals exact ⟨rfl, rfl⟩
  · obtain rfl : R = false := by cases R with | false => rfl | true => exact absurd (D.out.1 rfl).1 h1
    go_enter Tryd.func44, Tryd.ntmps44
    go_wp2_with fail
    all_goals go_ret
    all_goals exact ⟨rfl, rfl⟩

theorem goesOn_any (A : Option Addr) (c : Nat) (l : List UInt8) (w : World) (B : Nat) (hb : Bys w B A l) :
    Calls Tryd.prog 58 #[.slice A l.length c] w fun e w' => e = .returned (.bool (Jx.isL (Jx.byt l 0))) ∧ w = w' := by
  by_cases hl : 0 < l.length
  · obtain ⟨b, off, rfl, hB, hcell⟩ := bys_cell hb hl
    rw [Nat.add_zero] at hcell
    have LN : (0 : Int) < (l.length : Int) := by omega
    have q0 : ((l.length : Int) == 0) = false := by rw [beq_eq_false_iff_ne]; omega
    obtain ⟨X, hX⟩ : ∃ X, X = Jx.byt l 0 := ⟨_, rfl⟩
    rw [← hX] at hcell ⊢
    have D := Lib.hid (digit_any X)
    have DL : Jx.isL X = (Jx.isD X || (decide (65 ≤ (X : Int)) && decide ((X : Int) ≤ 90)) || (decide (97 ≤ (X : Int)) && decide ((X : Int) ≤ 122))) := by
      rw [Bool.eq_iff_iff, Jx.isL_is, Bool.or_eq_true, Bool.or_eq_true, Jx.isD_is]
      simp only [Bool.and_eq_true, decide_eq_true_eq]
      omega
    rw [DL]
    clear hb hX hl DL
    generalize Jx.isD X = E at *
    cases E with
    | true =>
      go_enter Tryd.func58, Tryd.ntmps58
      go_wp2_with fail
      refine (D.out _).mono ?_
      rintro e w1 ⟨rfl, rfl⟩
      go_wp2_with fail
      all_goals go_ret
      all_goals first | exact ⟨rfl, rfl⟩ | exact ⟨retBool (by rw [Bool.eq_iff_iff]; simp; try omega), rfl⟩ | exact ⟨retBool (by simp; try omega), rfl⟩
    | false =>
      by_cases a : 65 ≤ (X : Int)
      · by_cases b : (X : Int) ≤ 90
        · go_enter Tryd.func58, Tryd.ntmps58
          go_wp2_with fail
          refine (D.out _).mono ?_
          rintro e w1 ⟨rfl, rfl⟩
          go_wp2_with fail
          all_goals go_ret
          all_goals first | exact ⟨rfl, rfl⟩ | exact ⟨retBool (by rw [Bool.eq_iff_iff]; simp; try omega), rfl⟩ | exact ⟨retBool (by simp; try omega), rfl⟩
        · by_cases c1 : 97 ≤ (X : Int)
          · by_cases d : (X : Int) ≤ 122
            · go_enter Tryd.func58, Tryd.ntmps58
              go_wp2_with fail
              refine (D.out _).mono ?_
              rintro e w1 ⟨rfl, rfl⟩
              go_wp2_with fail
              all_goals go_ret
              all_goals first | exact ⟨rfl, rfl⟩ | exact ⟨retBool (by rw [Bool.eq_iff_iff]; simp; try omega), rfl⟩ | exact ⟨retBool (by simp; try omega), rfl⟩
            · go_enter Tryd.func58, Tryd.ntmps58
              go_wp2_with fail
              refine (D.out _).mono ?_
              rintro e w1 ⟨rfl, rfl⟩
              go_wp2_with fail
              all_goals go_ret
              all_goals first | exact ⟨rfl, rfl⟩ | exact ⟨retBool (by rw [Bool.eq_iff_iff]; simp; try omega), rfl⟩ | exact ⟨retBool (by simp; try omega), rfl⟩
          · go_enter Tryd.func58, Tryd.ntmps58
            go_wp2_with fail
            refine (D.out _).mono ?_
            rintro e w1 ⟨rfl, rfl⟩
            go_wp2_with fail
            all_goals go_ret
            all_goals first | exact ⟨rfl, rfl⟩ | exact ⟨retBool (by rw [Bool.eq_iff_iff]; simp; try omega), rfl⟩ | exact ⟨retBool (by simp; try omega), rfl⟩
      · have c1 : ¬ 97 ≤ (X : Int) := by omega
        go_enter Tryd.func58, Tryd.ntmps58
        go_wp2_with fail
        refine (D.out _).mono ?_
        rintro e w1 ⟨rfl, rfl⟩
        go_wp2_with fail
        all_goals go_ret
        all_goals first | exact ⟨rfl, rfl⟩ | exact ⟨retBool (by rw [Bool.eq_iff_iff]; simp; try omega), rfl⟩ | exact ⟨retBool (by simp; try omega), rfl⟩
  · have e : Jx.isL (Jx.byt l 0) = false := by rw [Jx.byt_end (by omega)]; rfl
    have q0 : ((l.length : Int) == 0) = true := by rw [beq_iff_eq]; omega
    rw [e]
    clear e hb hl
    go_enter Tryd.func58, Tryd.ntmps58
    go_wp2_with fail
    all_goals go_ret
    all_goals exact ⟨rfl, rfl⟩

theorem digitsAhead_any (A : Option Addr) (c : Nat) (l : List UInt8) (w : World) (B : Nat) (hb : Bys w B A l) (hl : l.length ≤ 140000000000) :
    Calls Tryd.prog 57 #[.slice A l.length c] w fun e w' => e = .returned (.int .i64 (Jx.cnt Jx.isD l : Int)) ∧ w = w' := by
  have CELL := Lib.hid (fun j hj => bys_cell hb (k := j) hj)
  have cin := fun j => Jx.cnt_in Jx.isD l (k := j)
  have cout := Jx.cnt_out Jx.isD l
  have hcl := Jx.cnt_le Jx.isD l
  obtain ⟨N, hN⟩ : ∃ N, N = Jx.cnt Jx.isD l := ⟨_, rfl⟩
  rw [← hN] at cin cout hcl ⊢
  have CIN := Lib.hid cin; have COUT := Lib.hid cout
  clear cin cout hN hb
  go_enter Tryd.func57, Tryd.ntmps57
  go_wp2_with fail
  go_loop [3] (fun t => ∃ j : Nat, j ≤ N ∧ t = .int .i64 (j : Int)) (fun t => N - (intOf t).toNat)
  case atStart => exact ⟨0, by omega, rfl⟩
  case round =>
    obtain ⟨j, hj, rfl⟩ := hrel
    by_cases hlt : j < l.length
    · obtain ⟨b, off, rfl, hB, hcell⟩ := CELL.out j hlt
      have D := Lib.hid (digit_any (Jx.byt l j))
      by_cases hjN : j < N
      · rw [CIN.out j hjN] at D
        generalize Jx.byt l j = X at *
        go_wp2_with fail
        with_reducible refine (D.out _).mono ?_
        rintro e w1 ⟨rfl, rfl⟩
        go_wp2_with fail
        go_round
        case rel => exact ⟨j + 1, by omega, by go_num⟩
        case measure => simp [intOf]; omega
      · obtain rfl : j = N := by omega
        rw [COUT.out hlt] at D
        generalize Jx.byt l j = X at *
        go_wp2_with fail
        with_reducible refine (D.out _).mono ?_
        rintro e w1 ⟨rfl, rfl⟩
        go_wp2_with fail
        all_goals go_ret
        all_goals exact ⟨rfl, rfl⟩
    · obtain rfl : j = N := by omega
      go_wp2_with fail
      all_goals go_ret
      all_goals exact ⟨rfl, rfl⟩

theorem hex_any (x : Nat) (hx : x < 256) (w : World) : Calls Tryd.prog 96 #[.int .u8 (x : Int)] w fun e w' => e = .returned (.tuple #[.int .i32 (max (Jx.hex x) 0), .bool (decide (0 ≤ Jx.hex x))]) ∧ w = w' := by
  have ph := place_hex x hx
  have hw := Jx.hex_is x
  by_cases h : 65 ≤ x ∧ x ≤ 70
  · rw [if_pos h] at ph
    have P := Lib.hid (place_any ⟨#[48, 49, 50, 51, 52, 53, 54, 55, 56, 57, 97, 98, 99, 100, 101, 102]⟩ (x + 32))
    rw [show (⟨#[48, 49, 50, 51, 52, 53, 54, 55, 56, 57, 97, 98, 99, 100, 101, 102]⟩ : ByteArray).data.toList = [48, 49, 50, 51, 52, 53, 54, 55, 56, 57, 97, 98, 99, 100, 101, 102] from rfl, ph] at P
    obtain ⟨h1, h2⟩ := h
    generalize Jx.hex x = H at *
    have g1 : 0 ≤ H := by omega
    have g2 : H ≤ 15 := by omega
    rw [show max H 0 = H by omega, show decide (0 ≤ H) = true by simpa using g1]
    have q1 : decide (65 ≤ (x : Int)) = true := by simp; omega
    have q2 : decide ((x : Int) ≤ 70) = true := by simp; omega
    have q3 : IntKind.u8.wrap ((x : Int) + 32) = ((x + 32 : Nat) : Int) := by simp [IntKind.wrap, IntKind.bits, IntKind.signed]; omega
    clear ph hw
    go_enter Tryd.func96, Tryd.ntmps96
    go_wp2_with fail
    refine (P.out _).mono ?_
    rintro e w1 ⟨rfl, rfl⟩
    go_wp2_with fail
    all_goals go_ret2
    all_goals exact ⟨rfl, rfl⟩
  · rw [if_neg h] at ph
    have P := Lib.hid (place_any ⟨#[48, 49, 50, 51, 52, 53, 54, 55, 56, 57, 97, 98, 99, 100, 101, 102]⟩ x)
    rw [show (⟨#[48, 49, 50, 51, 52, 53, 54, 55, 56, 57, 97, 98, 99, 100, 101, 102]⟩ : ByteArray).data.toList = [48, 49, 50, 51, 52, 53, 54, 55, 56, 57, 97, 98, 99, 100, 101, 102] from rfl, ph] at P
    have hle := Jx.hex_le x
    generalize Jx.hex x = H at *
    have q1 : (decide (65 ≤ (x : Int)) && decide ((x : Int) ≤ 70)) = false := by simp; omega
    clear ph hw
    by_cases g1 : 0 ≤ H
    · rw [show max H 0 = H by omega, show decide (0 ≤ H) = true by simpa using g1]
      by_cases a : 65 ≤ (x : Int)
      · have b : ¬ (x : Int) ≤ 70 := by omega
        go_enter Tryd.func96, Tryd.ntmps96
        go_wp2_with fail
        refine (P.out _).mono ?_
        rintro e w1 ⟨rfl, rfl⟩
        go_wp2_with fail
        all_goals go_ret2
        all_goals exact ⟨rfl, rfl⟩
      · go_enter Tryd.func96, Tryd.ntmps96
        go_wp2_with fail
        refine (P.out _).mono ?_
        rintro e w1 ⟨rfl, rfl⟩
        go_wp2_with fail
        all_goals go_ret2
        all_goals exact ⟨rfl, rfl⟩
    · rw [show max H 0 = 0 by omega, show decide (0 ≤ H) = false by simpa using g1]
      have g2 : H = -1 := by omega
      subst g2
      by_cases a : 65 ≤ (x : Int)
      · have b : ¬ (x : Int) ≤ 70 := by omega
        go_enter Tryd.func96, Tryd.ntmps96
        go_wp2_with fail
        refine (P.out _).mono ?_
        rintro e w1 ⟨rfl, rfl⟩
        go_wp2_with fail
        all_goals go_ret2
        all_goals exact ⟨rfl, rfl⟩
      · go_enter Tryd.func96, Tryd.ntmps96
        go_wp2_with fail
        refine (P.out _).mono ?_
        rintro e w1 ⟨rfl, rfl⟩
        go_wp2_with fail
        all_goals go_ret2
        all_goals exact ⟨rfl, rfl⟩
end Go.Proofs.YtjebkedlfhapjaaDoor
