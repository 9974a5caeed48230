/- The document's own answers for layer 9: full names, their parts, names in spaces; words of kinds. -/
import Derived.Test.YthebcghhakfdkaaDoorNamR
namespace Go.Proofs.YthebcghhakfdkaaDoor
open Go.ChangeShapes Go.WideShapes Go.ChangeAt Go.RowKit Mem

def strSz : Value → Nat
  | .string s => s.size
  | _ => 0
/-- A text cut at a number. -/
theorem cut_l (s : ByteArray) (m : Nat) (z : Int) (hz : z = (m : Int)) (hm : m ≤ s.size) (W : World) : (Instr.slice 9 (.string s) (some (.int .i64 z)) none none).run Tryd.prog W = .ok (.string (sst (s.data.toList.drop m))) W := by
  subst hz
  rw [run_slice_string_l W _ s strT .i64 _ (by omega) (by omega)]
  rw [show ((m : Int)).toNat = m by omega, ext_l]
theorem cut_h (s : ByteArray) (m : Nat) (z : Int) (hz : z = (m : Int)) (hm : m ≤ s.size) (W : World) : (Instr.slice 9 (.string s) none (some (.int .i64 z)) none).run Tryd.prog W = .ok (.string (sst (s.data.toList.take m))) W := by
  subst hz
  rw [run_slice_string_h W _ s strT .i64 _ (by omega) (by omega)]
  rw [show ((m : Int)).toNat = m by omega, ext_h]

set_option maxRecDepth 100000 in
set_option maxHeartbeats 2000000 in
theorem rFull_any (s : ByteArray) (hs : s.size ≤ 9223372036854775806) (w : World) : Calls Tryd.prog 9 #[.string s] w (Pure (.bool (Nm.full s.data.toList)) w) := by
  have ln := len_str s
  obtain ⟨R, hR⟩ : ∃ R, R = Nm.full s.data.toList := ⟨_, rfl⟩
  by_cases h1 : 100 < s.size
  · have q : (100 : Int) < (s.size : Int) := by omega
    have Z : Hid (R = false) := by show _ = _; rw [hR]; unfold Nm.full; rw [ln, decide_eq_false (by omega)]; rfl
    rw [← hR]
    clear hR
    go_enter Tryd.func9, Tryd.ntmps9
    go_wp2_with fail
    go_ret
    exact pure_ret (by first | (rw [Z.out]; done) | (rw [Z.out]; rfl))
  · have q : ¬ (100 : Int) < (s.size : Int) := by omega
    have HR := Lib.hid hR
    have hs1 : s.size ≤ 100 := by omega
    rw [← hR]
    clear hR ln hs h1
    go_enter Tryd.func9, Tryd.ntmps9
    go_wp2_with fail
    go_loopw [0] (fun v wr => ∃ s1 : ByteArray, v = .string s1 ∧ s1.size ≤ 100 ∧ Hid (R = Nm.full s1.data.toList) ∧ wr = w) (fun v _ => strSz v)
    case atStart => exact ⟨s, rfl, hs1, HR.out, rfl⟩
    case round =>
      obtain ⟨s1, rfl, hz, HE, rfl⟩ := hrel
      have ln := len_str s1
      have dt := Nm.dot_lt s1.data.toList
      have DT := Lib.hid (fun W => rDot_any s1 (by omega) W)
      have FG := Lib.hid (@Nm.full_go s1.data.toList)
      have FO := Lib.hid (@Nm.full_one s1.data.toList)
      have LA : Hid (Nm.last s1.data.toList = s1.data.toList.drop (Nm.dot s1.data.toList + 1).toNat) := rfl
      have SP : Hid (0 ≤ Nm.dot s1.data.toList → Nm.space s1.data.toList = s1.data.toList.take (Nm.dot s1.data.toList).toNat) := fun h => by unfold Nm.space; exact if_neg (by omega)
      have cl := fun m z h1 h2 => cut_l s1 m z h1 h2
      have ch := fun m z h1 h2 => cut_h s1 m z h1 h2
      obtain ⟨D, hD⟩ : ∃ D, D = Nm.dot s1.data.toList := ⟨_, rfl⟩
      rw [← hD] at dt DT FG FO LA SP
      rw [ln] at dt
      clear hD
      by_cases h0 : 0 ≤ D
      · have lt := dt.2
        have sl := fun W => cl (D + 1).toNat (D + 1) (by omega) (by omega) W
        have sh := fun W => ch D.toNat D (by omega) (by omega) W
        have SM := Lib.hid (fun W => rSimple_any (sst (s1.data.toList.drop (D + 1).toNat)) (by rw [sst_size, List.length_drop]; omega) W)
        rw [sst_in] at SM
        have fg := FG.out h0
        rw [LA.out, SP.out h0, ln, decide_eq_true hz, Bool.true_and] at fg
        have hd1 : D ≤ 100 := by omega
        have HM : Hid ((sst (s1.data.toList.take D.toNat)).size < s1.size ∧ (sst (s1.data.toList.take D.toNat)).size ≤ 100) := by show _ ∧ _; rw [sst_size, List.length_take]; omega
        have HE2 := Lib.hid (HE.out.trans fg)
        have HS := Lib.hid (sst_in (s1.data.toList.take D.toNat))
        generalize sst (s1.data.toList.drop (D + 1).toNat) = L1 at *
        generalize s1.data.toList.drop (D + 1).toNat = L at *
        generalize s1.data.toList.take D.toNat = T at *
        obtain ⟨b, hb⟩ : ∃ b, b = Nm.simple L := ⟨_, rfl⟩
        rw [← hb] at SM HE2
        clear fg FG FO LA SP hb cl ch HE dt
        go_wp2_with fail
        with_reducible refine (DT.out _).mono ?_
        rintro e w1 ⟨rfl, rfl⟩
        go_wp2_with fail
        with_reducible refine (DT.out _).mono ?_
        rintro e w1 ⟨rfl, rfl⟩
        go_wp2_with fail
        with_reducible refine (SM.out _).mono ?_
        rintro e w1 ⟨rfl, rfl⟩
        cases b with
        | false =>
          have Z : Hid (R = false) := HE2.out
          go_wp2_with fail
          go_ret
          exact pure_ret (by first | (rw [Z.out]; done) | (rw [Z.out]; rfl))
        | true =>
          have Z : Hid (R = Nm.full T) := HE2.out.trans (Bool.true_and _)
          go_wp2_with fail
          with_reducible refine (DT.out _).mono ?_
          rintro e w1 ⟨rfl, rfl⟩
          go_wp2_with fail
          go_roundw
          case rel => exact ⟨sst T, rfl, HM.out.2, by rw [HS.out]; exact Z.out, by first | rfl | trivial⟩
          case measure => exact HM.out.1
      · have fo := FO.out (by omega)
        have Z := Lib.hid (HE.out.trans fo)
        have SM := Lib.hid (fun W => rSimple_any s1 (by omega) W)
        generalize Nm.simple s1.data.toList = B at *
        clear fo FG FO LA SP HE cl ch
        go_wp2_with fail
        with_reducible refine (DT.out _).mono ?_
        rintro e w1 ⟨rfl, rfl⟩
        go_wp2_with fail
        with_reducible refine (SM.out _).mono ?_
        rintro e w1 ⟨rfl, rfl⟩
        go_wp2_with fail
        go_ret
        exact pure_ret (by first | (rw [Z.out]; done) | (rw [Z.out]; rfl))

set_option maxRecDepth 100000 in
set_option maxHeartbeats 2000000 in
theorem rSpace_any (s : ByteArray) (hs : s.size ≤ 9223372036854775806) (w : World) : Calls Tryd.prog 11 #[.string s] w (Pure (.string (sst (Nm.space s.data.toList))) w) := by
  have ln := len_str s
  have dt := Nm.dot_lt s.data.toList
  have DT := Lib.hid (fun W => rDot_any s hs W)
  have ch := fun m z h1 h2 => cut_h s m z h1 h2
  obtain ⟨R, hR⟩ : ∃ R, R = Nm.space s.data.toList := ⟨_, rfl⟩
  rw [← hR]
  unfold Nm.space at hR
  obtain ⟨D, hD⟩ : ∃ D, D = Nm.dot s.data.toList := ⟨_, rfl⟩
  rw [← hD] at dt DT hR
  rw [ln] at dt
  have dl := dt.1
  have dh := dt.2
  clear hD
  by_cases h0 : D < 0
  · rw [if_pos h0] at hR
    have Z := Lib.hid hR
    clear hR ch
    go_enter Tryd.func11, Tryd.ntmps11
    go_wp2_with fail
    with_reducible refine (DT.out _).mono ?_
    rintro e w1 ⟨rfl, rfl⟩
    go_wp2_with fail
    go_ret
    exact pure_ret (by first | (rw [Z.out]; done) | (rw [Z.out]; rfl))
  · rw [if_neg h0] at hR
    have Z := Lib.hid hR
    have sh := fun W => ch D.toNat D (by omega) (by omega) W
    generalize s.data.toList.take D.toNat = T at *
    clear hR ch
    go_enter Tryd.func11, Tryd.ntmps11
    go_wp2_with fail
    with_reducible refine (DT.out _).mono ?_
    rintro e w1 ⟨rfl, rfl⟩
    go_wp2_with fail
    with_reducible refine (DT.out _).mono ?_
    rintro e w1 ⟨rfl, rfl⟩
    go_wp2_with fail
    go_ret
    exact pure_ret (by first | (rw [Z.out]; done) | (rw [Z.out]; rfl))

set_option maxRecDepth 100000 in
set_option maxHeartbeats 2000000 in
theorem rLast_any (s : ByteArray) (hs : s.size ≤ 9223372036854775806) (w : World) : Calls Tryd.prog 13 #[.string s] w (Pure (.string (sst (Nm.last s.data.toList))) w) := by
  have ln := len_str s
  have dt := Nm.dot_lt s.data.toList
  have DT := Lib.hid (fun W => rDot_any s hs W)
  have cl := fun m z h1 h2 => cut_l s m z h1 h2
  obtain ⟨R, hR⟩ : ∃ R, R = Nm.last s.data.toList := ⟨_, rfl⟩
  rw [← hR]
  unfold Nm.last at hR
  obtain ⟨D, hD⟩ : ∃ D, D = Nm.dot s.data.toList := ⟨_, rfl⟩
  rw [← hD] at dt DT hR
  rw [ln] at dt
  have dl := dt.1
  have dh := dt.2
  have sl := fun W => cl (D + 1).toNat (D + 1) (by omega) (by omega) W
  have Z := Lib.hid hR
  generalize s.data.toList.drop (D + 1).toNat = T at *
  clear hD hR cl
  go_enter Tryd.func13, Tryd.ntmps13
  go_wp2_with fail
  with_reducible refine (DT.out _).mono ?_
  rintro e w1 ⟨rfl, rfl⟩
  go_wp2_with fail
  go_ret
  exact pure_ret (by first | (rw [Z.out]; done) | (rw [Z.out]; rfl))

/-- What Join answers. -/
def joined (o : Option (List UInt8)) : Value := .tuple #[.string (sst (o.getD [])), .bool o.isSome]
theorem joined_no {o : Option (List UInt8)} (h : o = none) : joined o = .tuple #[.string ⟨#[]⟩, .bool false] := by subst h; rfl
theorem joined_yes {o : Option (List UInt8)} {l : List UInt8} {s : ByteArray} (h : o = some l) (hs : s = sst l) : joined o = .tuple #[.string s, .bool true] := by subst h; subst hs; rfl
theorem sum_str (a b : ByteArray) : a ++ (⟨#[46]⟩ : ByteArray) ++ b = sst (a.data.toList ++ 46 :: b.data.toList) := by
  unfold sst
  apply ByteArray.ext
  apply Array.ext'
  simp


set_option maxRecDepth 100000 in
set_option maxHeartbeats 4000000 in
theorem rWord_any (k : Int) (w : World) : Calls Tryd.prog 17 #[.int .i64 k] w (Pure (.string (sst (Nm.word k))) w) := by
  by_cases hk : k = 1 ∨ k = 2 ∨ k = 3 ∨ k = 4 ∨ k = 5 ∨ k = 6 ∨ k = 7 ∨ k = 8 ∨ k = 9 ∨ k = 10 ∨ k = 11 ∨ k = 12 ∨ k = 14
  · rcases hk with rfl | rfl | rfl | rfl | rfl | rfl | rfl | rfl | rfl | rfl | rfl | rfl | rfl
    all_goals
      go_enter Tryd.func17, Tryd.ntmps17
      go_wp2_with fail
      go_ret
      exact pure_ret rfl
  · simp only [not_or] at hk
    obtain ⟨g1, g2, g3, g4, g5, g6, g7, g8, g9, g10, g11, g12, g14⟩ := hk
    have Z : Hid (Nm.word k = []) := by
      show _ = _
      unfold Nm.word
      rw [if_neg g1, if_neg g2, if_neg g3, if_neg g4, if_neg g5, if_neg g6, if_neg g7, if_neg g8, if_neg g9, if_neg g10, if_neg g11, if_neg g12, if_neg g14]
    have f1 := beq_eq_false_iff_ne.2 g1; have f2 := beq_eq_false_iff_ne.2 g2; have f3 := beq_eq_false_iff_ne.2 g3; have f4 := beq_eq_false_iff_ne.2 g4; have f5 := beq_eq_false_iff_ne.2 g5
    have f6 := beq_eq_false_iff_ne.2 g6; have f7 := beq_eq_false_iff_ne.2 g7; have f8 := beq_eq_false_iff_ne.2 g8; have f9 := beq_eq_false_iff_ne.2 g9; have f10 := beq_eq_false_iff_ne.2 g10
    have f11 := beq_eq_false_iff_ne.2 g11; have f12 := beq_eq_false_iff_ne.2 g12; have f14 := beq_eq_false_iff_ne.2 g14
    generalize Nm.word k = X at *
    clear g1 g2 g3 g4 g5 g6 g7 g8 g9 g10 g11 g12 g14
    go_enter Tryd.func17, Tryd.ntmps17
    go_wp2_with fail
    go_ret
    exact pure_ret (by first | (rw [Z.out]; done) | (rw [Z.out]; rfl))

set_option maxRecDepth 100000 in
set_option maxHeartbeats 4000000 in
theorem rKind_any (s : ByteArray) (w : World) : Calls Tryd.prog 15 #[.string s] w (Pure (.int .i64 (Nm.kind s.data.toList : Nat)) w) := by
  obtain ⟨K, hK⟩ : ∃ K, K = Nm.kind s.data.toList := ⟨_, rfl⟩
  rw [← hK]
  have WD := Lib.hid (fun k W => rWord_any k W)
  by_cases hz : s = ⟨#[]⟩
  · have e0 : s.data.toList = [] := by rw [hz]
    have Z : Hid (K = 0) := by show _ = _; rw [hK, e0]; decide
    subst hz
    clear hK WD
    go_enter Tryd.func15, Tryd.ntmps15
    go_wp2_with fail
    go_loopw [3] (fun t wr => ∃ k : Nat, k ≤ 15 ∧ t = .int .i64 (k : Int) ∧ wr = w) (fun t _ => 15 - (intOf t).toNat)
    case atStart => exact ⟨1, by omega, rfl, rfl⟩
    case round =>
      obtain ⟨k, hk, rfl, rfl⟩ := hrel
      by_cases h14 : k ≤ 14
      · have q : (k : Int) ≤ 14 := by omega
        go_wp2_with fail
        go_roundw
        case rel => exact ⟨k + 1, by omega, by go_num, by first | rfl | trivial⟩
        case measure => (first | (simp [intOf]; done) | (simp [intOf]; omega))
      · have q : ¬ (k : Int) ≤ 14 := by omega
        go_wp2_with fail
        go_ret
        exact pure_ret (by rw [Z.out]; rfl)
  · have ne : s.data.toList ≠ [] := fun e => hz (by rw [← sst_out s, e]; rfl)
    have sx : (s.toList != (⟨#[]⟩ : ByteArray).toList) = true := by rw [str_bne]; simpa using hz
    have sx3 : (s.toList != []) = true := by have := sx; rwa [show (⟨#[]⟩ : ByteArray).toList = [] by rw [ByteArray.toList_eq]] at this
    have sx5 : s.toList.isEmpty = false := by rw [List.isEmpty_eq_false_iff]; simpa using sx3
    have KF : Hid (∀ k, k ≤ 14 → Nm.kindF (15 - k) k s.data.toList = if Nm.word (k : Int) = s.data.toList then k else Nm.kindF (15 - (k + 1)) (k + 1) s.data.toList) := fun k h => by
      rw [show 15 - k = (15 - (k + 1)) + 1 by omega, Nm.kindF]
      by_cases g : Nm.word (k : Int) = s.data.toList
      · rw [if_pos ⟨ne, g⟩, if_pos g]
      · rw [if_neg fun h => g h.2, if_neg g]
    have K0 : Hid (K = Nm.kindF (15 - 1) 1 s.data.toList) := hK
    have EQ : Hid (∀ k : Nat, ((sst (Nm.word (k : Int))).toList == s.toList) = decide (Nm.word (k : Int) = s.data.toList)) := fun k => by
      rw [str_beq]
      rw [decide_eq_decide]
      exact ⟨fun h => by rw [← h, sst_in], fun h => by rw [h, sst_out]⟩
    clear hK hz ne
    go_enter Tryd.func15, Tryd.ntmps15
    go_wp2_with fail
    go_loopw [3] (fun t wr => ∃ k : Nat, 1 ≤ k ∧ k ≤ 15 ∧ t = .int .i64 (k : Int) ∧ Hid (K = Nm.kindF (15 - k) k s.data.toList) ∧ wr = w) (fun t _ => 15 - (intOf t).toNat)
    case atStart => exact ⟨1, by omega, by omega, rfl, K0.out, rfl⟩
    case round =>
      obtain ⟨k, h1, hk, rfl, KE, rfl⟩ := hrel
      by_cases h14 : k ≤ 14
      · have q : (k : Int) ≤ 14 := by omega
        have W1 := Lib.hid (WD.out (k : Int))
        have eq := EQ.out k
        have kf := KE.out.trans (KF.out k h14)
        generalize sst (Nm.word (k : Int)) = X at *
        by_cases g : Nm.word (k : Int) = s.data.toList
        · rw [if_pos g] at kf
          rw [decide_eq_true g] at eq
          have Z := Lib.hid kf
          clear kf KE g
          go_wp2_with fail
          with_reducible refine (W1.out _).mono ?_
          rintro e w1 ⟨rfl, rfl⟩
          go_wp2_with fail
          go_ret
          exact pure_ret (by first | (rw [Z.out]; done) | (rw [Z.out]; rfl))
        · rw [if_neg g] at kf
          rw [decide_eq_false g] at eq
          have Z := Lib.hid kf
          clear kf KE g
          go_wp2_with fail
          with_reducible refine (W1.out _).mono ?_
          rintro e w1 ⟨rfl, rfl⟩
          go_wp2_with fail
          go_roundw
          case rel => exact ⟨k + 1, by omega, by omega, by go_num, Z, by first | rfl | trivial⟩
          case measure => simp [intOf]; omega
      · have q : ¬ (k : Int) ≤ 14 := by omega
        obtain rfl : k = 15 := by omega
        have Z : Hid (K = 0) := KE.out
        clear KE
        go_wp2_with fail
        go_ret
        exact pure_ret (by rw [Z.out]; rfl)
end Go.Proofs.YthebcghhakfdkaaDoor
