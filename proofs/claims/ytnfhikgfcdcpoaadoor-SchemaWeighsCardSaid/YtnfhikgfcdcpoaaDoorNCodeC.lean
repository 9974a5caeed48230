/- Layer 9, the code's own calls at every input: words of kinds. -/
import Derived.Test.YtnfhikgfcdcpoaaDoorNCodeB
namespace Go.Proofs.YtnfhikgfcdcpoaaDoor
open Go.ChangeShapes Go.WideShapes Go.ChangeAt Go.RowKit Mem

theorem kword_at : ∀ n : Nat, n < 15 → kwords[n]? = some (.string (sst (Nm.word (n : Int)))) := by
  intro n hn
  obtain rfl | rfl | rfl | rfl | rfl | rfl | rfl | rfl | rfl | rfl | rfl | rfl | rfl | rfl | rfl : n = 0 ∨ n = 1 ∨ n = 2 ∨ n = 3 ∨ n = 4 ∨ n = 5 ∨ n = 6 ∨ n = 7 ∨ n = 8 ∨ n = 9 ∨ n = 10 ∨ n = 11 ∨ n = 12 ∨ n = 13 ∨ n = 14 := by omega
  all_goals rfl
theorem kword_idx : ∀ n : Nat, n < 15 → ∀ W, (Instr.index 87 (.agg kwords.toArray) (.int .i64 (n : Int))).run Tryd.prog W = .ok (.string (sst (Nm.word (n : Int)))) W := by
  intro n hn W
  obtain rfl | rfl | rfl | rfl | rfl | rfl | rfl | rfl | rfl | rfl | rfl | rfl | rfl | rfl | rfl : n = 0 ∨ n = 1 ∨ n = 2 ∨ n = 3 ∨ n = 4 ∨ n = 5 ∨ n = 6 ∨ n = 7 ∨ n = 8 ∨ n = 9 ∨ n = 10 ∨ n = 11 ∨ n = 12 ∨ n = 13 ∨ n = 14 := by omega
  all_goals kernel_rfl

set_option maxRecDepth 100000 in
set_option maxHeartbeats 2000000 in
theorem nKind_any (s : ByteArray) (_hs : s.size ≤ 1000000000) (w : World) (hL : LaidN w) : Calls Tryd.prog 51 #[.string s] w (Ans (.int .i64 (Nm.kind s.data.toList : Nat)) w) := by
  have g0 : w.cell? ⟨0, 0, none⟩ = some (.string ⟨#[]⟩) := hL.words 0 (by decide)
  have g1 : w.cell? ⟨0, 1, none⟩ = some (.string ⟨#[110, 117, 108, 108]⟩) := hL.words 1 (by decide)
  have g2 : w.cell? ⟨0, 2, none⟩ = some (.string ⟨#[98, 111, 111, 108, 101, 97, 110]⟩) := hL.words 2 (by decide)
  have g3 : w.cell? ⟨0, 3, none⟩ = some (.string ⟨#[105, 110, 116]⟩) := hL.words 3 (by decide)
  have g4 : w.cell? ⟨0, 4, none⟩ = some (.string ⟨#[108, 111, 110, 103]⟩) := hL.words 4 (by decide)
  have g5 : w.cell? ⟨0, 5, none⟩ = some (.string ⟨#[102, 108, 111, 97, 116]⟩) := hL.words 5 (by decide)
  have g6 : w.cell? ⟨0, 6, none⟩ = some (.string ⟨#[100, 111, 117, 98, 108, 101]⟩) := hL.words 6 (by decide)
  have g7 : w.cell? ⟨0, 7, none⟩ = some (.string ⟨#[98, 121, 116, 101, 115]⟩) := hL.words 7 (by decide)
  have g8 : w.cell? ⟨0, 8, none⟩ = some (.string ⟨#[115, 116, 114, 105, 110, 103]⟩) := hL.words 8 (by decide)
  have g9 : w.cell? ⟨0, 9, none⟩ = some (.string ⟨#[114, 101, 99, 111, 114, 100]⟩) := hL.words 9 (by decide)
  have g10 : w.cell? ⟨0, 10, none⟩ = some (.string ⟨#[101, 110, 117, 109]⟩) := hL.words 10 (by decide)
  have g11 : w.cell? ⟨0, 11, none⟩ = some (.string ⟨#[97, 114, 114, 97, 121]⟩) := hL.words 11 (by decide)
  have g12 : w.cell? ⟨0, 12, none⟩ = some (.string ⟨#[109, 97, 112]⟩) := hL.words 12 (by decide)
  have g13 : w.cell? ⟨0, 13, none⟩ = some (.string ⟨#[]⟩) := hL.words 13 (by decide)
  have g14 : w.cell? ⟨0, 14, none⟩ = some (.string ⟨#[102, 105, 120, 101, 100]⟩) := hL.words 14 (by decide)
  have IX := kword_idx
  unfold kwords at IX
  generalize (⟨#[110, 117, 108, 108]⟩ : ByteArray) = s1 at *
  generalize (⟨#[98, 111, 111, 108, 101, 97, 110]⟩ : ByteArray) = s2 at *
  generalize (⟨#[105, 110, 116]⟩ : ByteArray) = s3 at *
  generalize (⟨#[108, 111, 110, 103]⟩ : ByteArray) = s4 at *
  generalize (⟨#[102, 108, 111, 97, 116]⟩ : ByteArray) = s5 at *
  generalize (⟨#[100, 111, 117, 98, 108, 101]⟩ : ByteArray) = s6 at *
  generalize (⟨#[98, 121, 116, 101, 115]⟩ : ByteArray) = s7 at *
  generalize (⟨#[115, 116, 114, 105, 110, 103]⟩ : ByteArray) = s8 at *
  generalize (⟨#[114, 101, 99, 111, 114, 100]⟩ : ByteArray) = s9 at *
  generalize (⟨#[101, 110, 117, 109]⟩ : ByteArray) = s10 at *
  generalize (⟨#[97, 114, 114, 97, 121]⟩ : ByteArray) = s11 at *
  generalize (⟨#[109, 97, 112]⟩ : ByteArray) = s12 at *
  generalize (⟨#[102, 105, 120, 101, 100]⟩ : ByteArray) = s14 at *
  generalize (⟨#[]⟩ : ByteArray) = s0 at *
  have IXH := Lib.hid IX
  clear IX
  have KF2 : Hid (∀ {j : Nat}, j < 15 → (∀ m : Nat, m < j → Nm.word (m : Int) ≠ s.data.toList) → Nm.word (j : Int) = s.data.toList → Nm.kind s.data.toList = j) := fun {j} a b c => Nm.kind_first a b c
  have KN := Lib.hid (@Nm.kind_none s.data.toList)
  have TE : Hid (∀ l : List UInt8, sst l = s ↔ l = s.data.toList) := fun l => ⟨fun h => by rw [← h, sst_in], fun h => by rw [h, sst_out]⟩
  generalize Nm.kind s.data.toList = R at *
  go_enter Tryd.func51, Tryd.ntmps51
  go_wp2_with fail
  go_loopw [6] (fun t wr => ∃ j : Nat, j ≤ 15 ∧ t = .int .i64 (j : Int) ∧ Hid (∀ m : Nat, m < j → Nm.word (m : Int) ≠ s.data.toList) ∧ wr = w) (fun t _ => 15 - (intOf t).toNat)
  case atStart => exact ⟨0, Nat.zero_le _, rfl, fun _ h => absurd h (Nat.not_lt_zero _), rfl⟩
  case round =>
    obtain ⟨j, hj, rfl, AL, rfl⟩ := hrel
    by_cases hjn : j < 15
    · have qj : (j : Int) < 15 := by omega
      have ij := IXH.out j hjn
      have eT := TE.out (Nm.word (j : Int))
      by_cases he : sst (Nm.word (j : Int)) = s
      · have qe : ((sst (Nm.word (j : Int))).toList == s.toList) = true := by rw [he]; simp
        have Z : Hid (R = j) := KF2.out hjn AL.out (eT.1 he)
        generalize sst (Nm.word (j : Int)) = T at *
        clear he eT
        go_wp2_with fail
        go_ret
        exact ⟨by rw [Z.out]; rfl, Below.refl _ _⟩
      · have qe : ((sst (Nm.word (j : Int))).toList == s.toList) = false := by rw [str_beq]; simpa using he
        have NX : Hid (∀ m : Nat, m < j + 1 → Nm.word (m : Int) ≠ s.data.toList) := fun m hm => by
          rcases Nat.lt_or_ge m j with g | g
          · exact AL.out m g
          · obtain rfl : m = j := by omega
            exact fun e => he (eT.2 e)
        generalize sst (Nm.word (j : Int)) = T at *
        clear he eT
        go_wp2_with fail
        go_roundw
        case rel => exact ⟨j + 1, by omega, by go_num, NX, by first | rfl | trivial⟩
        case measure => simp [intOf]; omega
    · obtain rfl : j = 15 := by omega
      have Z : Hid (R = 0) := KN.out AL.out
      go_wp2_with fail
      go_ret
      exact ⟨by rw [Z.out]; rfl, Below.refl _ _⟩
end Go.Proofs.YtnfhikgfcdcpoaaDoor
