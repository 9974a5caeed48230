/- The document's own answers for layer 9: names. -/
import Derived.Test.YthebcghhakfdkaaDoorNam
import Derived.Test.YthebcghhakfdkaaDoorBase
import Derived.Test.YthebcghhakfdkaaDoorJTSame
namespace Go.Proofs.YthebcghhakfdkaaDoor
open Go.ChangeShapes Go.WideShapes Go.ChangeAt Go.RowKit Mem

/-- A text of bytes. -/
def sst (l : List UInt8) : ByteArray := ⟨l.toArray⟩
theorem sst_out (s : ByteArray) : sst s.data.toList = s := by unfold sst; simp
theorem sst_in (l : List UInt8) : (sst l).data.toList = l := by unfold sst; simp
theorem sst_inj {a b : List UInt8} (h : sst a = sst b) : a = b := by rw [← sst_in a, h, sst_in]
theorem sst_size (l : List UInt8) : (sst l).size = l.length := by unfold sst; show l.toArray.size = _; simp
theorem len_str (s : ByteArray) : s.data.toList.length = s.size := by rw [Array.length_toList]; rfl
theorem idx_str (s : ByteArray) (j : Nat) (h : j < s.size) (W : World) : (Instr.index 9 (.string s) (.int .i64 (j : Int))).run Tryd.prog W = .ok (.int .u8 ((Jx.byt s.data.toList j : Nat) : Int)) W := by
  rw [run_index_string _ _ _ _ _ strT, dif_pos ⟨by omega, by omega⟩]
  congr 2
  unfold Jx.byt
  have e : s.data.toList.getD j 0 = s[j]'h := by
    rw [List.getD, List.getElem?_eq_getElem (by rw [len_str]; exact h)]
    simp
    rfl
  rw [e]
  rfl
theorem ext_l (s : ByteArray) (k : Nat) : s.extract k s.size = sst (s.data.toList.drop k) := by
  apply ByteArray.ext
  unfold sst
  apply Array.ext'
  rw [ByteArray.data_extract, Array.toList_extract]
  have := len_str s
  simp [List.extract, List.take_of_length_le, this]
theorem ext_h (s : ByteArray) (k : Nat) : s.extract 0 k = sst (s.data.toList.take k) := by
  apply ByteArray.ext
  unfold sst
  apply Array.ext'
  rw [ByteArray.data_extract, Array.toList_extract]
  simp [List.extract]
/-- A call that only reckons. -/
def Pure (v : Value) (w : World) (e : Ending) (w' : World) : Prop := e = .returned v ∧ w = w'
theorem pure_ret {v v' : Value} {w : World} (h : v = v') : Pure v w (.returned v') w := by subst h; exact ⟨rfl, rfl⟩

set_option maxRecDepth 100000 in
theorem rletter_any (c : Nat) (_h : c < 256) (w : World) : Calls Tryd.prog 22 #[.int .u8 (c : Int)] w (Pure (.bool (Nm.lt c)) w) := by
  obtain ⟨b, hb⟩ : ∃ b, b = Nm.lt c := ⟨_, rfl⟩
  rw [← hb]
  unfold Nm.lt at hb
  rcases (show c < 65 ∨ (65 ≤ c ∧ c ≤ 90) ∨ (90 < c ∧ c < 95) ∨ c = 95 ∨ c = 96 ∨ (97 ≤ c ∧ c ≤ 122) ∨ 122 < c by omega) with g | ⟨g1, g2⟩ | ⟨g1, g2⟩ | g | g | ⟨g1, g2⟩ | g
  all_goals
    first
      | (have hq : b = true := by rw [hb, decide_eq_true_eq]; omega)
      | (have hq : b = false := by rw [hb, decide_eq_false_iff_not]; omega)
    subst hq
    clear hb
    try subst g
    try (have t90 : (c : Int) ≤ 90 := by omega)
    try (have t90 : ¬ (c : Int) ≤ 90 := by omega)
    try (have t122 : (c : Int) ≤ 122 := by omega)
    try (have t122 : ¬ (c : Int) ≤ 122 := by omega)
    try (have t65 : (65 : Int) ≤ (c : Int) := by omega)
    try (have t65 : ¬ (65 : Int) ≤ (c : Int) := by omega)
    try (have t97 : (97 : Int) ≤ (c : Int) := by omega)
    try (have t97 : ¬ (97 : Int) ≤ (c : Int) := by omega)
    try (have q95 : ((c : Int) == 95) = false := by rw [beq_eq_false_iff_ne]; omega)
    go_enter Tryd.func22, Tryd.ntmps22
    go_wp2_with fail
    go_ret
    exact ⟨rfl, rfl⟩
set_option maxRecDepth 100000 in
theorem rdigit_any (c : Nat) (_h : c < 256) (w : World) : Calls Tryd.prog 23 #[.int .u8 (c : Int)] w (Pure (.bool (Jx.isD c)) w) := by
  obtain ⟨b, hb⟩ : ∃ b, b = Jx.isD c := ⟨_, rfl⟩
  rw [← hb]
  unfold Jx.isD at hb
  rcases (show c < 48 ∨ (48 ≤ c ∧ c ≤ 57) ∨ 57 < c by omega) with g | ⟨g1, g2⟩ | g
  all_goals
    first
      | (have hq : b = true := by rw [hb, decide_eq_true_eq]; omega)
      | (have hq : b = false := by rw [hb, decide_eq_false_iff_not]; omega)
    subst hq
    clear hb
    try (have t57 : (c : Int) ≤ 57 := by omega)
    try (have t57 : ¬ (c : Int) ≤ 57 := by omega)
    try (have t48 : (48 : Int) ≤ (c : Int) := by omega)
    try (have t48 : ¬ (48 : Int) ≤ (c : Int) := by omega)
    go_enter Tryd.func23, Tryd.ntmps23
    go_wp2_with fail
    go_ret
    exact ⟨rfl, rfl⟩

theorem simple_iff {l : List UInt8} : Nm.simple l = true ↔ l.length ≠ 0 ∧ l.length ≤ 100 ∧ Nm.lt (Jx.byt l 0) = true ∧ ∀ j, j < l.length → Nm.ch (Jx.byt l j) = true := by
  unfold Nm.simple Nm.chs
  simp only [Bool.and_eq_true, decide_eq_true_eq, List.all_eq_true]
  constructor
  · rintro ⟨⟨⟨h1, h2⟩, h3⟩, h4⟩
    refine ⟨h1, h2, h3, fun j hj => ?_⟩
    have := h4 _ (List.getElem_mem hj)
    unfold Jx.byt
    rw [List.getD, List.getElem?_eq_getElem hj]
    exact this
  · rintro ⟨h1, h2, h3, h4⟩
    refine ⟨⟨⟨h1, h2⟩, h3⟩, fun x hx => ?_⟩
    obtain ⟨j, hj, rfl⟩ := List.getElem_of_mem hx
    have := h4 j hj
    unfold Jx.byt at this
    rw [List.getD, List.getElem?_eq_getElem hj] at this
    exact this
theorem simple_no {l : List UInt8} (h : ¬ (l.length ≠ 0 ∧ l.length ≤ 100 ∧ Nm.lt (Jx.byt l 0) = true ∧ ∀ j, j < l.length → Nm.ch (Jx.byt l j) = true)) : Nm.simple l = false := by
  rcases hs : Nm.simple l with _ | _
  · rfl
  · exact absurd (simple_iff.1 hs) h

set_option maxRecDepth 100000 in
set_option maxHeartbeats 2000000 in
theorem rSimple_any (s : ByteArray) (hs : s.size ≤ 9223372036854775807) (w : World) : Calls Tryd.prog 7 #[.string s] w (Pure (.bool (Nm.simple s.data.toList)) w) := by
  obtain ⟨l, hl⟩ : ∃ l, l = s.data.toList := ⟨_, rfl⟩
  have ix := fun j h W => idx_str s j h W
  have ln := len_str s
  rw [← hl] at ix ln ⊢
  have SI := Lib.hid (@simple_iff l)
  have NO := Lib.hid (@simple_no l)
  obtain ⟨R, hR⟩ : ∃ R, R = Nm.simple l := ⟨_, rfl⟩
  rw [← hR] at SI NO ⊢
  obtain ⟨n, hn⟩ : ∃ n, n = s.size := ⟨_, rfl⟩
  have IX := Lib.hid ix
  have LT := Lib.hid (fun c h W => rletter_any c h W)
  have DG := Lib.hid (fun c h W => rdigit_any c h W)
  have HN := Lib.hid hn
  have LN := Lib.hid ln
  rw [← hn] at hs IX
  clear hl hR ix ln hn
  by_cases h0 : n = 0
  · have q0 : ((s.size : Int) == 0) = true := by rw [beq_iff_eq, ← HN.out]; omega
    have Z := Lib.hid (NO.out fun h => h.1 (by rw [LN.out, ← HN.out]; exact h0))
    clear IX LT DG NO SI
    go_enter Tryd.func7, Tryd.ntmps7
    go_wp2_with fail
    go_ret
    exact pure_ret (by first | (rw [Z.out]; done) | (rw [Z.out]; rfl))
  · have q0 : ((s.size : Int) == 0) = false := by rw [beq_eq_false_iff_ne, ← HN.out]; omega
    by_cases h1 : 100 < n
    · have q1 : (100 : Int) < (s.size : Int) := by rw [← HN.out]; omega
      have Z := Lib.hid (NO.out fun h => by have := h.2.1; rw [LN.out, ← HN.out] at this; omega)
      clear IX LT DG NO SI
      go_enter Tryd.func7, Tryd.ntmps7
      go_wp2_with fail
      go_ret
      exact pure_ret (by first | (rw [Z.out]; done) | (rw [Z.out]; rfl))
    · have q1 : ¬ (100 : Int) < (s.size : Int) := by rw [← HN.out]; omega
      have i0 := IX.out 0 (by omega)
      have L0 := Lib.hid (LT.out (Jx.byt l 0) (Jx.byt_lt l 0))
      obtain ⟨b, hb⟩ : ∃ b, b = Nm.lt (Jx.byt l 0) := ⟨_, rfl⟩
      rw [← hb] at L0 SI NO
      rw [show ((0 : Nat) : Int) = 0 from rfl] at i0
      clear hb
      cases b with
      | false =>
        have Z := Lib.hid (NO.out fun h => by have := h.2.2.1; cases this)
        clear IX LT DG NO SI
        go_enter Tryd.func7, Tryd.ntmps7
        go_wp2_with fail
        with_reducible refine (L0.out _).mono ?_
        rintro e w1 ⟨rfl, rfl⟩
        go_wp2_with fail
        go_ret
        exact pure_ret (by first | (rw [Z.out]; done) | (rw [Z.out]; rfl))
      | true =>
        have hn1 : n ≤ 100 := by omega
        have hn0 : n ≠ 0 := h0
        have Y : Hid ((∀ j, j < n → Nm.ch (Jx.byt l j) = true) → R = true) := fun h => SI.out.2 ⟨by rw [LN.out, ← HN.out]; exact hn0, by rw [LN.out, ← HN.out]; exact hn1, rfl, by rw [LN.out, ← HN.out]; exact h⟩
        have X : Hid (∀ j, j < n → Nm.ch (Jx.byt l j) = false → R = false) := fun j hj e => NO.out fun h => by
          have := h.2.2.2 j (by rw [LN.out, ← HN.out]; exact hj)
          rw [e] at this; cases this
        clear NO SI
        go_enter Tryd.func7, Tryd.ntmps7
        go_wp2_with fail
        with_reducible refine (L0.out _).mono ?_
        rintro e w1 ⟨rfl, rfl⟩
        go_wp2_with fail
        go_loopw [3] (fun t wr => ∃ j : Nat, j ≤ n ∧ t = .int .i64 (j : Int) ∧ Hid (∀ m, m < j → Nm.ch (Jx.byt l m) = true) ∧ wr = w) (fun t _ => n - (intOf t).toNat)
        case atStart => exact ⟨0, Nat.zero_le _, rfl, fun _ h => absurd h (Nat.not_lt_zero _), rfl⟩
        case round =>
          obtain ⟨j, hj, rfl, AL, rfl⟩ := hrel
          by_cases hjn : j < n
          · have qj : (j : Int) < (s.size : Int) := by rw [← HN.out]; omega
            have ij := IX.out j hjn
            have LJ := Lib.hid (LT.out (Jx.byt l j) (Jx.byt_lt l j))
            have DJ := Lib.hid (DG.out (Jx.byt l j) (Jx.byt_lt l j))
            have XJ := Lib.hid (X.out j hjn)
            have CH : Hid (Nm.ch (Jx.byt l j) = (Nm.lt (Jx.byt l j) || Jx.isD (Jx.byt l j))) := rfl
            have NX : Hid (Nm.ch (Jx.byt l j) = true → ∀ m, m < j + 1 → Nm.ch (Jx.byt l m) = true) := fun e m hm => by
              rcases Nat.lt_or_ge m j with g | g
              · exact AL.out m g
              · obtain rfl : m = j := by omega
                exact e
            obtain ⟨C, hC⟩ : ∃ C, C = Nm.ch (Jx.byt l j) := ⟨_, rfl⟩
            obtain ⟨a, ha⟩ : ∃ a, a = Nm.lt (Jx.byt l j) := ⟨_, rfl⟩
            obtain ⟨d, hd⟩ : ∃ d, d = Jx.isD (Jx.byt l j) := ⟨_, rfl⟩
            rw [← hC] at XJ CH NX
            rw [← ha] at LJ CH
            rw [← hd] at DJ CH
            clear hC ha hd
            go_wp2_with fail
            with_reducible refine (LJ.out _).mono ?_
            rintro e w1 ⟨rfl, rfl⟩
            cases a with
            | true =>
              have nx := NX.out (by rw [CH.out]; rfl)
              have NX2 := Lib.hid nx
              clear nx NX
              go_wp2_with fail
              go_roundw
              case rel => exact ⟨j + 1, by omega, by go_num, NX2, by first | rfl | trivial⟩
              case measure => simp [intOf]; omega
            | false =>
              go_wp2_with fail
              with_reducible refine (DJ.out _).mono ?_
              rintro e w1 ⟨rfl, rfl⟩
              cases d with
              | true =>
                have nx := NX.out (by rw [CH.out]; rfl)
                have NX2 := Lib.hid nx
                clear nx NX
                go_wp2_with fail
                go_roundw
                case rel => exact ⟨j + 1, by omega, by go_num, NX2, by first | rfl | trivial⟩
                case measure => simp [intOf]; omega
              | false =>
                have Z := Lib.hid (XJ.out (by rw [CH.out]; rfl))
                go_wp2_with fail
                go_ret
                exact pure_ret (by first | (rw [Z.out]; done) | (rw [Z.out]; rfl))
          · obtain rfl : j = n := by omega
            have qj : ¬ (j : Int) < (s.size : Int) := by rw [← HN.out]; omega
            have Z := Lib.hid (Y.out AL.out)
            clear hjn
            go_wp2_with fail
            go_ret
            exact pure_ret (by first | (rw [Z.out]; done) | (rw [Z.out]; rfl))

set_option maxRecDepth 100000 in
set_option maxHeartbeats 2000000 in
theorem rDot_any (s : ByteArray) (hs : s.size ≤ 9223372036854775806) (w : World) : Calls Tryd.prog 25 #[.string s] w (Pure (.int .i64 (Nm.dot s.data.toList)) w) := by
  obtain ⟨l, hl⟩ : ∃ l, l = s.data.toList := ⟨_, rfl⟩
  have ix := fun j h W => idx_str s j h W
  have ln := len_str s
  rw [← hl] at ix ln ⊢
  have IX := Lib.hid ix
  obtain ⟨n, hn⟩ : ∃ n, n = s.size := ⟨_, rfl⟩
  have HN := Lib.hid hn
  have DT : Hid (Nm.dot l = Nm.dotN n l) := by show _ = _; unfold Nm.dot; rw [ln, hn]
  have DL := Lib.hid (fun j => Nm.dotN_lt j l)
  rw [← hn] at hs IX
  obtain ⟨D, hD⟩ : ∃ D : Nat → Int, D = fun j => Nm.dotN j l := ⟨_, rfl⟩
  have D0 : Hid (D 0 = -1) := by show _ = _; rw [hD]; rfl
  have DY : Hid (∀ j, Jx.byt l j = 46 → D (j + 1) = (j : Int)) := fun j e => by rw [hD]; show Nm.dotN (j + 1) l = _; unfold Nm.dotN; exact if_pos e
  have DN : Hid (∀ j, Jx.byt l j ≠ 46 → D (j + 1) = D j) := fun j e => by rw [hD]; show Nm.dotN (j + 1) l = _; rw [Nm.dotN]; exact if_neg e
  have DT2 : Hid (Nm.dot l = D n) := by show _ = _; rw [hD]; exact DT.out
  have DL2 : Hid (∀ j, -1 ≤ D j ∧ D j < (j : Int)) := fun j => by rw [hD]; exact DL.out j
  clear hl ix ln hn DT DL hD
  go_enter Tryd.func25, Tryd.ntmps25
  go_wp2_with fail
  go_loopw [3, 4] (fun a t wr => ∃ j : Nat, j ≤ n ∧ t = .int .i64 (j : Int) ∧ a = .int .i64 (D j) ∧ wr = w) (fun _ t _ => n - (intOf t).toNat)
  case atStart => exact ⟨0, Nat.zero_le _, rfl, by rw [D0.out], rfl⟩
  case round =>
    obtain ⟨j, hj, rfl, rfl, rfl⟩ := hrel
    by_cases hjn : j < n
    · have qj : (j : Int) < (s.size : Int) := by rw [← HN.out]; omega
      have ij := IX.out j hjn
      by_cases h46 : Jx.byt l j = 46
      · have q : ((Jx.byt l j : Int) == 46) = true := by rw [beq_iff_eq]; omega
        have E := Lib.hid (DY.out j h46)
        clear h46
        go_wp2_with fail
        go_roundw
        case rel => exact ⟨j + 1, by omega, by go_num, by rw [E.out], by first | rfl | trivial⟩
        case measure => simp [intOf]; omega
      · have q : ((Jx.byt l j : Int) == 46) = false := by rw [beq_eq_false_iff_ne]; omega
        have E := Lib.hid (DN.out j h46)
        clear h46
        go_wp2_with fail
        go_roundw
        case rel => exact ⟨j + 1, by omega, by go_num, by rw [E.out], by first | rfl | trivial⟩
        case measure => simp [intOf]; omega
    · obtain rfl : j = n := by omega
      have qj : ¬ (j : Int) < (s.size : Int) := by rw [← HN.out]; omega
      clear hjn
      go_wp2_with fail
      go_ret
      exact pure_ret (by first | (rw [DT2.out]; done) | (rw [DT2.out]; rfl))
end Go.Proofs.YthebcghhakfdkaaDoor
