/- The document's own answers for layer 6, at every input: bytes, digits, letters, hexadecimal numbers. -/
import Derived.Test.YtheeahnhdehloaaDoorBase
import Derived.Test.YtheeahnhdehloaaDoorJNum
namespace Go.Proofs.YtheeahnhdehloaaDoor
open Go.ChangeShapes Go.WideShapes Go.ChangeAt Go.RowKit Mem

theorem retI64 {a b : Int} (h : a = b) : Ending.returned (.int .i64 a) = .returned (.int .i64 b) := by rw [h]
theorem retU8 {a b : Int} (h : a = b) : Ending.returned (.int .u8 a) = .returned (.int .u8 b) := by rw [h]
theorem retBool {a b : Bool} (h : a = b) : Ending.returned (.bool a) = .returned (.bool b) := by rw [h]
theorem bys_cell {w : World} {B : Nat} {A : Option Addr} {l : List UInt8} (h : Bys w B A l) {k : Nat} (hk : k < l.length) : ∃ b off, A = some ⟨b, off, none⟩ ∧ b < B ∧ w.cell? ⟨b, off + k, none⟩ = some (.int .u8 (Jx.byt l k : Int)) := by
  rcases h with h | ⟨b, off, rfl, hb, hc⟩
  · subst h; simp at hk
  · exact ⟨b, off, rfl, hb, hc k hk⟩

theorem rat_any (A : Option Addr) (c : Nat) (l : List UInt8) (k : Nat) (z : Int) (hz : z = (k : Int)) (w : World) (B : Nat) (hb : Bys w B A l) :
    Calls Tryd.prog 52 #[.slice A l.length c, .int .i64 z] w fun e w' => e = .returned (.int .u8 (Jx.byt l k : Int)) ∧ w = w' := by
  subst hz
  by_cases hk : k < l.length
  · obtain ⟨b, off, rfl, hB, hcell⟩ := bys_cell hb hk
    obtain ⟨X, hX⟩ : ∃ X, X = Jx.byt l k := ⟨_, rfl⟩
    rw [← hX] at hcell ⊢
    clear hb hX
    go_enter Tryd.func52, Tryd.ntmps52
    go_wp2_with fail
    all_goals go_ret
    exact ⟨rfl, rfl⟩
  · have e := Jx.byt_end (l := l) (i := k) (by omega)
    rw [e]
    clear e hb
    go_enter Tryd.func52, Tryd.ntmps52
    go_wp2_with fail
    all_goals go_ret
    exact ⟨rfl, rfl⟩

theorem rdigit_any (x : Nat) (w : World) : Calls Tryd.prog 38 #[.int .u8 (x : Int)] w fun e w' => e = .returned (.bool (Jx.isD x)) ∧ w = w' := by
  obtain ⟨R, hR⟩ : ∃ R, R = Jx.isD x := ⟨_, rfl⟩
  have D : Hid (R = true ↔ 48 ≤ (x : Int) ∧ (x : Int) ≤ 57) := by unfold Hid; rw [hR, Jx.isD_is]; omega
  rw [← hR]
  clear hR
  by_cases h1 : 48 ≤ (x : Int)
  · by_cases h2 : (x : Int) ≤ 57
    · obtain rfl : R = true := D.out.2 ⟨h1, h2⟩
      go_enter Tryd.func38, Tryd.ntmps38
      go_wp2_with fail
      all_goals go_ret
      all_goals exact ⟨rfl, rfl⟩
    · obtain rfl : R = false := by cases R with | false => rfl | true => exact absurd (D.out.1 rfl).2 h2
      go_enter Tryd.func38, Tryd.ntmps38
      go_wp2_with fail
      all_goals go_ret
      all_goals exact ⟨rfl, rfl⟩
  · obtain rfl : R = false := by cases R with | false => rfl | true => exact absurd (D.out.1 rfl).1 h1
    go_enter Tryd.func38, Tryd.ntmps38
    go_wp2_with fail
    all_goals go_ret
    all_goals exact ⟨rfl, rfl⟩

theorem rletter_any (x : Nat) (w : World) : Calls Tryd.prog 57 #[.int .u8 (x : Int)] w fun e w' => e = .returned (.bool (Jx.isL x)) ∧ w = w' := by
  have DG := Lib.hid (rdigit_any x)
  have D1 := Lib.hid (@Jx.isD_is x)
  obtain ⟨R, hR⟩ : ∃ R, R = Jx.isL x := ⟨_, rfl⟩
  obtain ⟨E, hE⟩ : ∃ E, E = Jx.isD x := ⟨_, rfl⟩
  have D : Hid (R = true ↔ (48 ≤ (x : Int) ∧ (x : Int) ≤ 57) ∨ (97 ≤ (x : Int) ∧ (x : Int) ≤ 122) ∨ (65 ≤ (x : Int) ∧ (x : Int) ≤ 90)) := by unfold Hid; rw [hR, Jx.isL_is]; omega
  have DD : Hid (E = true ↔ (48 ≤ (x : Int) ∧ (x : Int) ≤ 57)) := by unfold Hid; rw [hE, Jx.isD_is]; omega
  rw [← hE] at DG
  rw [← hR]
  clear hR hE D1
  cases E with
  | true =>
    have o := DD.out.1 rfl
    obtain rfl : R = true := D.out.2 (.inl o)
    clear o
    go_enter Tryd.func57, Tryd.ntmps57
    go_wp2_with fail
    refine (DG.out _).mono ?_
    rintro e w1 ⟨rfl, rfl⟩
    go_wp2_with fail
    all_goals go_ret
    all_goals first | exact ⟨rfl, rfl⟩ | exact ⟨retBool (by simp; omega), rfl⟩
  | false =>
    have o : ¬ (48 ≤ (x : Int) ∧ (x : Int) ≤ 57) := fun h => by have := DD.out.2 h; cases this
    by_cases a : 97 ≤ (x : Int)
    · by_cases b : (x : Int) ≤ 122
      · obtain rfl : R = true := D.out.2 (.inr (.inl ⟨a, b⟩))
        clear o
        go_enter Tryd.func57, Tryd.ntmps57
        go_wp2_with fail
        refine (DG.out _).mono ?_
        rintro e w1 ⟨rfl, rfl⟩
        go_wp2_with fail
        all_goals go_ret
        all_goals first | exact ⟨rfl, rfl⟩ | exact ⟨retBool (by simp; omega), rfl⟩
      · obtain rfl : R = false := by cases R with | false => rfl | true => exact absurd (D.out.1 rfl) (by omega)
        have c : ¬ (x : Int) ≤ 90 := by omega
        clear o
        go_enter Tryd.func57, Tryd.ntmps57
        go_wp2_with fail
        refine (DG.out _).mono ?_
        rintro e w1 ⟨rfl, rfl⟩
        go_wp2_with fail
        all_goals go_ret
        all_goals first | exact ⟨rfl, rfl⟩ | exact ⟨retBool (by simp; omega), rfl⟩
    · by_cases c : 65 ≤ (x : Int)
      · by_cases d : (x : Int) ≤ 90
        · obtain rfl : R = true := D.out.2 (.inr (.inr ⟨c, d⟩))
          clear o
          go_enter Tryd.func57, Tryd.ntmps57
          go_wp2_with fail
          refine (DG.out _).mono ?_
          rintro e w1 ⟨rfl, rfl⟩
          go_wp2_with fail
          all_goals go_ret
          all_goals first | exact ⟨rfl, rfl⟩ | exact ⟨retBool (by simp; omega), rfl⟩
        · obtain rfl : R = false := by cases R with | false => rfl | true => exact absurd (D.out.1 rfl) (by omega)
          clear o
          go_enter Tryd.func57, Tryd.ntmps57
          go_wp2_with fail
          refine (DG.out _).mono ?_
          rintro e w1 ⟨rfl, rfl⟩
          go_wp2_with fail
          all_goals go_ret
          all_goals first | exact ⟨rfl, rfl⟩ | exact ⟨retBool (by simp; omega), rfl⟩
      · obtain rfl : R = false := by cases R with | false => rfl | true => exact absurd (D.out.1 rfl) (by omega)
        clear o
        go_enter Tryd.func57, Tryd.ntmps57
        go_wp2_with fail
        refine (DG.out _).mono ?_
        rintro e w1 ⟨rfl, rfl⟩
        go_wp2_with fail
        all_goals go_ret
        all_goals first | exact ⟨rfl, rfl⟩ | exact ⟨retBool (by simp; omega), rfl⟩

/-- The number that hexadecimal digits are. -/
def acc (l : List UInt8) : Nat → Int
  | 0 => 0
  | j + 1 => acc l j * 16 + Jx.hex (Jx.byt l j)
theorem acc_le (l : List UInt8) (j : Nat) (hj : j ≤ 4) (h : ∀ i, i < j → 0 ≤ Jx.hex (Jx.byt l i)) : 0 ≤ acc l j ∧ acc l j ≤ 65535 := by
  obtain rfl | rfl | rfl | rfl | rfl : j = 0 ∨ j = 1 ∨ j = 2 ∨ j = 3 ∨ j = 4 := by omega
  all_goals
    have a := Jx.hex_le (Jx.byt l 0); have b := Jx.hex_le (Jx.byt l 1); have c := Jx.hex_le (Jx.byt l 2); have d := Jx.hex_le (Jx.byt l 3)
    have x0 := h 0; have x1 := h 1; have x2 := h 2; have x3 := h 3
    simp only [acc]
    omega
/-- What the loop of four knows. -/
def Hx (l : List UInt8) (j : Nat) : Prop := ∀ i, i < j → 0 ≤ Jx.hex (Jx.byt l i)
theorem Hx.done {l : List UInt8} (h : Hx l 4) : Jx.four l = acc l 4 := by
  have x0 := h 0 (by omega); have x1 := h 1 (by omega); have x2 := h 2 (by omega); have x3 := h 3 (by omega)
  unfold Jx.four
  rw [if_neg (by omega)]
  simp only [acc]
  omega
theorem Hx.bad {l : List UInt8} {j : Nat} (hj : j < 4) (h : Jx.hex (Jx.byt l j) < 0) : Jx.four l = -1 := by
  unfold Jx.four
  rw [if_pos]
  obtain rfl | rfl | rfl | rfl : j = 0 ∨ j = 1 ∨ j = 2 ∨ j = 3 := by omega
  · exact .inl h
  · exact .inr (.inl h)
  · exact .inr (.inr (.inl h))
  · exact .inr (.inr (.inr h))
theorem Hx.go {l : List UInt8} {j : Nat} (h : Hx l j) (k : 0 ≤ Jx.hex (Jx.byt l j)) : Hx l (j + 1) := fun i hi => by
  rcases Nat.lt_or_ge i j with a | a
  · exact h i a
  · obtain rfl : i = j := by omega
    exact k
set_option maxHeartbeats 1000000 in
theorem rfour_any (A : Option Addr) (c : Nat) (l : List UInt8) (k : Nat) (z : Int) (hz : z = (k : Int)) (w : World) (B : Nat) (hb : Bys w B A l) (hk : k ≤ 200000000000) :
    Calls Tryd.prog 53 #[.slice A l.length c, .int .i64 z] w fun e w' => e = .returned (.int .i64 (Jx.four (l.drop k))) ∧ w = w' := by
  subst hz
  have AT := Lib.hid (fun j z hz => rat_any A c l (k + j) z hz w B hb)
  have byt := Jx.byt_drop l k
  obtain ⟨D, hD⟩ : ∃ D, D = l.drop k := ⟨_, rfl⟩
  rw [← hD] at byt ⊢
  have BYT := Lib.hid byt
  clear byt hD hb
  go_enter Tryd.func53, Tryd.ntmps53
  go_wp2_with fail
  go_loop [5, 6] (fun n q => ∃ j : Nat, j ≤ 4 ∧ Hid (Hx D j) ∧ q = .int .i64 ((k + j : Nat) : Int) ∧ n = .int .i64 (acc D j)) (fun _ q => k + 4 - (intOf q).toNat)
  case atStart => exact ⟨0, by omega, fun i hi => absurd hi (Nat.not_lt_zero _), rfl, rfl⟩
  case round =>
    obtain ⟨j, hj, H, rfl, rfl⟩ := hrel
    have al := acc_le D j hj H.out
    by_cases h4 : j < 4
    · have at1 := AT.out j
      have e1 := BYT.out j
      have bad := fun h => Hx.bad (l := D) (j := j) h4 h
      have go := H.out.go
      have ac : acc D (j + 1) = acc D j * 16 + Jx.hex (Jx.byt D j) := rfl
      have hx := Jx.hex_is (Jx.byt D j)
      rw [e1] at bad go ac hx
      have x256 := Jx.byt_lt l (k + j)
      generalize Jx.byt l (k + j) = X at *
      obtain ⟨V, hV⟩ : ∃ V, V = acc D j := ⟨_, rfl⟩
      rw [← hV] at ac al ⊢
      have AC := Lib.hid ac
      have AT1 := Lib.hid at1
      have GO := Lib.hid go
      have BAD := Lib.hid bad
      obtain ⟨v0, v1⟩ := al
      clear e1 hV ac at1 go bad
      rcases hx with ⟨a, b, e⟩ | ⟨a, b, e⟩ | ⟨a, b, e⟩ | ⟨e, a, b, d⟩
      · have E := Lib.hid e
        clear e
        go_wp2_with fail
        with_reducible refine (AT1.out _ (by omega)).mono ?_
        rintro e w1 ⟨rfl, rfl⟩
        go_wp2_with fail
        go_round
        case rel => exact ⟨j + 1, by omega, GO.out (by rw [E.out]; omega), by go_num, by rw [AC.out, E.out]⟩
        case measure => simp [intOf]; omega
      · have E := Lib.hid e
        clear e
        go_wp2_with fail
        with_reducible refine (AT1.out _ (by omega)).mono ?_
        rintro e w1 ⟨rfl, rfl⟩
        go_wp2_with fail
        go_round
        case rel => exact ⟨j + 1, by omega, GO.out (by rw [E.out]; omega), by go_num, by rw [AC.out, E.out]⟩
        case measure => simp [intOf]; omega
      · have E := Lib.hid e
        clear e
        go_wp2_with fail
        with_reducible refine (AT1.out _ (by omega)).mono ?_
        rintro e w1 ⟨rfl, rfl⟩
        go_wp2_with fail
        go_round
        case rel => exact ⟨j + 1, by omega, GO.out (by rw [E.out]; omega), by go_num, by rw [AC.out, E.out]⟩
        case measure => simp [intOf]; omega
      · have Z := Lib.hid (BAD.out (by rw [e]; decide))
        have g1 : (decide (48 ≤ (X : Int)) && decide ((X : Int) ≤ 57)) = false := by simp; omega
        have g2 : (decide (65 ≤ (X : Int)) && decide ((X : Int) ≤ 70)) = false := by simp; omega
        have g3 : (decide (97 ≤ (X : Int)) && decide ((X : Int) ≤ 102)) = false := by simp; omega
        clear e
        go_wp2_with fail
        with_reducible refine (AT1.out _ (by omega)).mono ?_
        rintro e w1 ⟨rfl, rfl⟩
        go_wp2_with fail
        all_goals first | omega | (go_ret; exact ⟨retI64 (by rw [Z.out]), rfl⟩)
    · obtain rfl : j = 4 := by omega
      have Z := Lib.hid H.out.done
      go_wp2_with fail
      go_ret
      exact ⟨retI64 (by rw [Z.out]), rfl⟩

end Go.Proofs.YtheeahnhdehloaaDoor
