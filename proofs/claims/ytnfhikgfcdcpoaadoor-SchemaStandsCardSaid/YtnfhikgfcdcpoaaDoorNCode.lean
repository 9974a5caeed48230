/- Layer 9, the code's own calls at every input: names. -/
import Derived.Test.YtnfhikgfcdcpoaaDoorNamS
import Derived.Test.YtnfhikgfcdcpoaaDoorNamC
import Derived.Test.YtnfhikgfcdcpoaaDoorLaid
import Derived.Test.YtnfhikgfcdcpoaaDoorNShelf
import Derived.Shelf.Strings.SplitCore
namespace Go.Proofs.YtnfhikgfcdcpoaaDoor
open Go.ChangeShapes Go.WideShapes Go.ChangeAt Go.RowKit Mem

abbrev LaidN := Laid
theorem LaidN.below {w w' : World} (h : LaidN w) (b : Below w.heap.size w w') : LaidN w' := Laid.below h b h.top
/-- A call that answers a value, and lays new blocks at most. -/
def Ans (v : Value) (w : World) (e : Ending) (w' : World) : Prop := e = .returned v ∧ Below w.heap.size w w'
theorem Pure.ans {v : Value} {w w' : World} {e : Ending} (h : Pure v w e w') : Ans v w e w' := ⟨h.1, by rw [← h.2]; exact Below.refl _ _⟩
/-- What is not empty, as the walks ask it. -/
theorem ne_facts {s : ByteArray} (h : s ≠ ⟨#[]⟩) : (s.toList != (⟨#[]⟩ : ByteArray).toList) = true ∧ (s.toList != []) = true ∧ s.toList.isEmpty = false ∧ (s.toList == (⟨#[]⟩ : ByteArray).toList) = false ∧ (s.toList == []) = false := by
  have e0 : (⟨#[]⟩ : ByteArray).toList = [] := by rw [ByteArray.toList_eq]
  have sx : (s.toList != (⟨#[]⟩ : ByteArray).toList) = true := by rw [str_bne]; simpa using h
  have sy : (s.toList == (⟨#[]⟩ : ByteArray).toList) = false := by rw [str_beq]; simpa using h
  have sx3 : (s.toList != []) = true := by rwa [e0] at sx
  have sy3 : (s.toList == []) = false := by rwa [e0] at sy
  exact ⟨sx, sx3, by rw [List.isEmpty_eq_false_iff]; simpa using sx3, sy, sy3⟩
theorem size_0 {s : ByteArray} (h : s.size = 0) : s = ⟨#[]⟩ := by
  rw [← sst_out s]
  have := len_str s
  rw [h] at this
  rw [List.length_eq_zero_iff.1 this]
  rfl

set_option maxRecDepth 100000 in
theorem nletter_any (c : Nat) (_h : c < 256) (w : World) : Calls Tryd.prog 60 #[.int .u8 (c : Int)] w (Pure (.bool (Nm.lt c)) w) := by
  obtain ⟨b, hb⟩ : ∃ b, b = Nm.lt c := ⟨_, rfl⟩
  rw [← hb]
  unfold Nm.lt at hb
  rcases (show c < 65 ∨ (65 ≤ c ∧ c ≤ 90) ∨ (90 < c ∧ c < 95) ∨ c = 95 ∨ c = 96 ∨ (97 ≤ c ∧ c ≤ 122) ∨ 122 < c by omega) with g | ⟨g1, g2⟩ | ⟨g1, g2⟩ | g | g | ⟨g1, g2⟩ | g
  all_goals
    first
      | (have hq : b = true := by rw [hb, decide_eq_true_eq]; omega)
      | (have hq : b = false := by rw [hb, decide_eq_false_iff_not]; omega)
    subst hq
    clear hb
    try subst g
    try (have t90 : (c : Int) ≤ 90 := by omega)
    try (have t90 : ¬ (c : Int) ≤ 90 := by omega)
    try (have t122 : (c : Int) ≤ 122 := by omega)
    try (have t122 : ¬ (c : Int) ≤ 122 := by omega)
    try (have t65 : (65 : Int) ≤ (c : Int) := by omega)
    try (have t65 : ¬ (65 : Int) ≤ (c : Int) := by omega)
    try (have t97 : (97 : Int) ≤ (c : Int) := by omega)
    try (have t97 : ¬ (97 : Int) ≤ (c : Int) := by omega)
    try (have q95 : ((c : Int) == 95) = false := by rw [beq_eq_false_iff_ne]; omega)
    go_enter Tryd.func60, Tryd.ntmps60
    go_wp2_with fail
    go_ret
    exact ⟨rfl, rfl⟩
set_option maxRecDepth 100000 in
theorem ndigit_any (c : Nat) (_h : c < 256) (w : World) : Calls Tryd.prog 59 #[.int .u8 (c : Int)] w (Pure (.bool (Jx.isD c)) w) := by
  obtain ⟨b, hb⟩ : ∃ b, b = Jx.isD c := ⟨_, rfl⟩
  rw [← hb]
  unfold Jx.isD at hb
  rcases (show c < 48 ∨ (48 ≤ c ∧ c ≤ 57) ∨ 57 < c by omega) with g | ⟨g1, g2⟩ | g
  all_goals
    first
      | (have hq : b = true := by rw [hb, decide_eq_true_eq]; omega)
      | (have hq : b = false := by rw [hb, decide_eq_false_iff_not]; omega)
    subst hq
    clear hb
    try (have t57 : (c : Int) ≤ 57 := by omega)
    try (have t57 : ¬ (c : Int) ≤ 57 := by omega)
    try (have t48 : (48 : Int) ≤ (c : Int) := by omega)
    try (have t48 : ¬ (48 : Int) ≤ (c : Int) := by omega)
    go_enter Tryd.func59, Tryd.ntmps59
    go_wp2_with fail
    go_ret
    exact ⟨rfl, rfl⟩

theorem lt_digit {c : Nat} (h : Nm.lt c = true) : Jx.isD c = false := by
  unfold Nm.lt at h
  unfold Jx.isD
  rw [decide_eq_true_eq] at h
  rw [decide_eq_false_iff_not]; omega
theorem ch_digit {c : Nat} (h : Nm.ch c = true) (k : Jx.isD c = false) : Nm.lt c = true := by
  unfold Nm.ch at h; rw [k, Bool.or_false] at h; exact h

set_option maxRecDepth 100000 in
set_option maxHeartbeats 2000000 in
theorem nSimple_pure (s : ByteArray) (hs : s.size ≤ 1000000000) (w : World) : Calls Tryd.prog 53 #[.string s] w (Pure (.bool (Nm.simple s.data.toList)) w) := by
  obtain ⟨l, hl⟩ : ∃ l, l = s.data.toList := ⟨_, rfl⟩
  have ix := fun j h W => idx_str s j h W
  have ln := len_str s
  rw [← hl] at ix ln ⊢
  have SI := Lib.hid (@simple_iff l)
  have NO := Lib.hid (@simple_no l)
  obtain ⟨R, hR⟩ : ∃ R, R = Nm.simple l := ⟨_, rfl⟩
  rw [← hR] at SI NO ⊢
  have IX := Lib.hid ix
  have LT := Lib.hid (fun c h W => nletter_any c h W)
  have DG := Lib.hid (fun c h W => ndigit_any c h W)
  have LN := Lib.hid ln
  clear ix
  by_cases h0 : s.size = 0
  · have Z := Lib.hid (NO.out fun h => h.1 (by rw [LN.out]; exact h0))
    obtain rfl := size_0 h0
    clear IX LT DG NO SI LN hR h0 hl ln hs
    go_enter Tryd.func53, Tryd.ntmps53
    go_wp2_with fail
    go_ret
    exact pure_ret (by first | (rw [Z.out]; done) | (rw [Z.out]; rfl))
  · obtain ⟨n1, n2, n3, n4, n5⟩ := ne_facts (s := s) (fun e => h0 (by rw [e]; rfl))
    obtain ⟨n, hn⟩ : ∃ n, n = s.size := ⟨_, rfl⟩
    have HN := Lib.hid hn
    rw [← hn] at h0 hs IX LN
    clear hl hR hn ln
    by_cases h1 : 100 < n
    · have q1 : (100 : Int) < (s.size : Int) := by rw [← HN.out]; omega
      have Z := Lib.hid (NO.out fun h => by have := h.2.1; rw [LN.out] at this; omega)
      clear IX LT DG NO SI
      go_enter Tryd.func53, Tryd.ntmps53
      go_wp2_with fail
      go_ret
      exact pure_ret (by first | (rw [Z.out]; done) | (rw [Z.out]; rfl))
    · have q1 : ¬ (100 : Int) < (s.size : Int) := by rw [← HN.out]; omega
      have i0 := IX.out 0 (by omega)
      have D0 := Lib.hid (DG.out (Jx.byt l 0) (Jx.byt_lt l 0))
      obtain ⟨b, hb⟩ : ∃ b, b = Jx.isD (Jx.byt l 0) := ⟨_, rfl⟩
      rw [← hb] at D0
      have HB := Lib.hid hb
      rw [show ((0 : Nat) : Int) = 0 from rfl] at i0
      clear hb
      cases b with
      | true =>
        have Z := Lib.hid (NO.out fun h => by have := lt_digit h.2.2.1; rw [← HB.out] at this; cases this)
        clear IX LT DG NO SI HB
        go_enter Tryd.func53, Tryd.ntmps53
        go_wp2_with fail
        with_reducible refine (D0.out _).mono ?_
        rintro e w1 ⟨rfl, rfl⟩
        go_wp2_with fail
        go_ret
        exact pure_ret (by first | (rw [Z.out]; done) | (rw [Z.out]; rfl))
      | false =>
        have hn1 : n ≤ 100 := by omega
        have hn0 : n ≠ 0 := h0
        have Y : Hid ((∀ j, j < n → Nm.ch (Jx.byt l j) = true) → R = true) := fun h => SI.out.2 ⟨by rw [LN.out]; exact hn0, by rw [LN.out]; exact hn1, ch_digit (h 0 (by omega)) HB.out.symm, by rw [LN.out]; exact h⟩
        have X : Hid (∀ j, j < n → Nm.ch (Jx.byt l j) = false → R = false) := fun j hj e => NO.out fun h => by
          have := h.2.2.2 j (by rw [LN.out]; exact hj)
          rw [e] at this; cases this
        clear NO SI HB
        go_enter Tryd.func53, Tryd.ntmps53
        go_wp2_with fail
        with_reducible refine (D0.out _).mono ?_
        rintro e w1 ⟨rfl, rfl⟩
        go_wp2_with fail
        go_loopw [18] (fun t wr => ∃ j : Nat, j ≤ n ∧ t = .int .i64 (j : Int) ∧ Hid (∀ m, m < j → Nm.ch (Jx.byt l m) = true) ∧ wr = w) (fun t _ => n - (intOf t).toNat)
        case atStart => exact ⟨0, Nat.zero_le _, rfl, fun _ h => absurd h (Nat.not_lt_zero _), rfl⟩
        case round =>
          obtain ⟨j, hj, rfl, AL, rfl⟩ := hrel
          by_cases hjn : j < n
          · have qj : (j : Int) < (s.size : Int) := by rw [← HN.out]; omega
            have ij := IX.out j (by omega)
            have LJ := Lib.hid (LT.out (Jx.byt l j) (Jx.byt_lt l j))
            have DJ := Lib.hid (DG.out (Jx.byt l j) (Jx.byt_lt l j))
            have XJ := Lib.hid (X.out j hjn)
            have CH : Hid (Nm.ch (Jx.byt l j) = (Nm.lt (Jx.byt l j) || Jx.isD (Jx.byt l j))) := rfl
            have NX : Hid (Nm.ch (Jx.byt l j) = true → ∀ m, m < j + 1 → Nm.ch (Jx.byt l m) = true) := fun e m hm => by
              rcases Nat.lt_or_ge m j with g | g
              · exact AL.out m g
              · obtain rfl : m = j := by omega
                exact e
            obtain ⟨C, hC⟩ : ∃ C, C = Nm.ch (Jx.byt l j) := ⟨_, rfl⟩
            obtain ⟨a, ha⟩ : ∃ a, a = Nm.lt (Jx.byt l j) := ⟨_, rfl⟩
            obtain ⟨d, hd⟩ : ∃ d, d = Jx.isD (Jx.byt l j) := ⟨_, rfl⟩
            rw [← hC] at XJ CH NX
            rw [← ha] at LJ CH
            rw [← hd] at DJ CH
            clear hC ha hd
            go_wp2_with fail
            with_reducible refine (LJ.out _).mono ?_
            rintro e w1 ⟨rfl, rfl⟩
            cases a with
            | true =>
              have nx := NX.out (by rw [CH.out]; rfl)
              have NX2 := Lib.hid nx
              clear nx NX
              go_wp2_with fail
              go_roundw
              case rel => exact ⟨j + 1, by omega, by go_num, NX2, by first | rfl | trivial⟩
              case measure => simp [intOf]; omega
            | false =>
              go_wp2_with fail
              with_reducible refine (DJ.out _).mono ?_
              rintro e w1 ⟨rfl, rfl⟩
              cases d with
              | true =>
                have nx := NX.out (by rw [CH.out]; rfl)
                have NX2 := Lib.hid nx
                clear nx NX
                go_wp2_with fail
                go_roundw
                case rel => exact ⟨j + 1, by omega, by go_num, NX2, by first | rfl | trivial⟩
                case measure => simp [intOf]; omega
              | false =>
                have Z := Lib.hid (XJ.out (by rw [CH.out]; rfl))
                go_wp2_with fail
                go_ret
                exact pure_ret (by first | (rw [Z.out]; done) | (rw [Z.out]; rfl))
          · obtain rfl : j = n := by omega
            have qj : ¬ (j : Int) < (s.size : Int) := by rw [← HN.out]; omega
            have Z := Lib.hid (Y.out AL.out)
            clear hjn
            go_wp2_with fail
            go_ret
            exact pure_ret (by first | (rw [Z.out]; done) | (rw [Z.out]; rfl))
theorem nSimple_any (s : ByteArray) (hs : s.size ≤ 1000000000) (w : World) (_hL : LaidN w) : Calls Tryd.prog 53 #[.string s] w (Ans (.bool (Nm.simple s.data.toList)) w) :=
  (nSimple_pure s hs w).mono fun _ _ h => h.ans

/-- What strings.Split answers, cut at dots: the parts, in a row of their own. -/
def Cut (s : ByteArray) (w : World) (e : Ending) (w' : World) : Prop :=
  ∃ L : List ByteArray, L.map (·.data.toList) = Nm.parts s.data.toList ∧ e = .returned (.slice (some ⟨w.heap.size, 0, none⟩) L.length L.length) ∧ w' = w.alloc (.cells (L.map Value.string).toArray 9)
set_option maxHeartbeats 2000000 in
theorem split_any (s : ByteArray) (hs : s.size ≤ 1000000000) (w : World) : Calls Tryd.prog 58 #[.string s, .string ⟨#[46]⟩] w (Cut s w) := by
  have L := Tryd.lays146
  have hle := Lib.countB_le ⟨#[46]⟩ (by decide) s.size s (Nat.le_refl _)
  have hlen := Lib.splitB_all ⟨#[46]⟩ (by decide) 0 _ s rfl
  have c : Calls Tryd.prog 64 #[.string s, .string ⟨#[46]⟩, .int .i64 0, .int .i64 (-1)] w fun e w' =>
      e = .returned (.slice (some ⟨w.heap.size, 0, none⟩) (Lib.splitB ⟨#[46]⟩ 0 (Lib.countB s ⟨#[46]⟩ + 1 - 1) s).length (Lib.countB s ⟨#[46]⟩ + 1)) ∧ w' = w.alloc (.cells (Lib.cellsOf (Lib.splitB ⟨#[46]⟩ 0 (Lib.countB s ⟨#[46]⟩ + 1 - 1) s) (Lib.countB s ⟨#[46]⟩ + 1)) 9) :=
    Any.strings_genSplit_core { L with } (by kernel_rfl) s ⟨#[46]⟩ 0 (-1) (Lib.countB s ⟨#[46]⟩ + 1) w (by omega) (by decide) (by decide)
      (fun x cc _ => by
        refine (Any.strings_Index_one { L with } x 46 (w.alloc (.cells cc 9))).mono ?_
        rintro e w' ⟨h1, h2⟩
        refine ⟨?_, h2⟩
        rw [h1]
        show _ = Ending.returned (Value.int .i64 (Lib.index x.data.toList [46]))
        rw [Lib.index_one])
      (by
        refine (Any.strings_Count_one { L with } s 46 w).mono ?_
        rintro e w' ⟨h1, h2⟩
        refine ⟨?_, h2⟩
        rw [h1]
        show _ = Ending.returned (Value.int .i64 ((Lib.count s.data.toList [46] : Nat) : Int))
        rw [Lib.count_one]
        rfl)
      (by decide) (by decide) (by rw [if_pos (by decide)]; omega)
  rw [Nat.add_sub_cancel, hlen] at c
  have e2 : Lib.cellsOf (Lib.splitB ⟨#[46]⟩ 0 (Lib.countB s ⟨#[46]⟩) s) (Lib.countB s ⟨#[46]⟩ + 1) = ((Lib.splitB ⟨#[46]⟩ 0 (Lib.countB s ⟨#[46]⟩) s).map Value.string).toArray := by rw [← hlen]; exact Lib.cellsOf_full _
  rw [e2, ← hlen] at c
  have e3 : (Lib.splitB ⟨#[46]⟩ 0 (Lib.countB s ⟨#[46]⟩) s).map (·.data.toList) = Nm.parts s.data.toList := by
    rw [Lib.splitB_data, ← Nm.splitK_parts]
  generalize Lib.splitB ⟨#[46]⟩ 0 (Lib.countB s ⟨#[46]⟩) s = L0 at *
  have C := Lib.hid c
  have E3 := Lib.hid e3
  clear c e3 e2 hlen hle L
  go_enter Tryd.func58, Tryd.ntmps58
  go_wp2_with fail
  refine (C.out).mono ?_
  rintro e w1 ⟨rfl, rfl⟩
  go_wp2_with fail
  go_ret
  exact ⟨L0, E3.out, rfl, rfl⟩
end Go.Proofs.YtnfhikgfcdcpoaaDoor
