/- Joined by tools/bundle.py: NCode NCodeB NCodeC DC1 DC2 DC2T. -/
import Derived.Shelf.Strings.SplitCore
import Derived.Test.YthfoomobicbcpaaGreatDoorZ1
import Derived.Test.YthfoomobicbcpaaGreatDoorZ8
import Derived.Test.YthfoomobicbcpaaGreatDoorZ0
set_option maxRecDepth 100000
set_option maxHeartbeats 16000000
namespace Go.Proofs.YthfoomobicbcpaaGreatDoor
open Go.ChangeShapes Go.WideShapes Go.ChangeAt Go.RowKit Mem
abbrev LaidN := Laid
theorem LaidN.below {w w' : World} (h : LaidN w) (b : Below w.heap.size w w') : LaidN w' := Laid.below h b h.top
def Ans (v : Value) (w : World) (e : Ending) (w' : World) : Prop := e = .returned v ∧ Below w.heap.size w w'
theorem Pure.ans {v : Value} {w w' : World} {e : Ending} (h : Pure v w e w') : Ans v w e w' := ⟨h.1, by rw [← h.2]; exact Below.refl _ _⟩
theorem ne_facts {s : ByteArray} (h : s ≠ ⟨#[]⟩) : (s.toList != (⟨#[]⟩ : ByteArray).toList) = true ∧ (s.toList != []) = true ∧ s.toList.isEmpty = false ∧ (s.toList == (⟨#[]⟩ : ByteArray).toList) = false ∧ (s.toList == []) = false := by
 have e0 : (⟨#[]⟩ : ByteArray).toList = [] := by rw [ByteArray.toList_eq]
 have sx : (s.toList != (⟨#[]⟩ : ByteArray).toList) = true := by rw [str_bne]; simpa using h
 have sy : (s.toList == (⟨#[]⟩ : ByteArray).toList) = false := by rw [str_beq]; simpa using h
 have sx3 : (s.toList != []) = true := by rwa [e0] at sx
 have sy3 : (s.toList == []) = false := by rwa [e0] at sy
 exact ⟨sx, sx3, by rw [List.isEmpty_eq_false_iff]; simpa using sx3, sy, sy3⟩
theorem size_0 {s : ByteArray} (h : s.size = 0) : s = ⟨#[]⟩ := by
 rw [← sst_out s]
 have := len_str s
 rw [h] at this
 rw [List.length_eq_zero_iff.1 this]
 rfl
theorem nletter_any (c : Nat) (_h : c < 256) (w : World) : Calls Tryz.prog 198 #[.int .u8 (c : Int)] w (Pure (.bool (Nm.lt c)) w) := by
 obtain ⟨b, hb⟩ : ∃ b, b = Nm.lt c := ⟨_, rfl⟩
 rw [← hb]
 unfold Nm.lt at hb
 rcases (show c < 65 ∨ (65 ≤ c ∧ c ≤ 90) ∨ (90 < c ∧ c < 95) ∨ c = 95 ∨ c = 96 ∨ (97 ≤ c ∧ c ≤ 122) ∨ 122 < c by omega) with g | ⟨g1, g2⟩ | ⟨g1, g2⟩ | g | g | ⟨g1, g2⟩ | g
 all_goals
  first
   | (have hq : b = true := by rw [hb, decide_eq_true_eq]; omega)
   | (have hq : b = false := by rw [hb, decide_eq_false_iff_not]; omega)
  subst hq
  clear hb
  try subst g
  try (have t90 : (c : Int) ≤ 90 := by omega)
  try (have t90 : ¬ (c : Int) ≤ 90 := by omega)
  try (have t122 : (c : Int) ≤ 122 := by omega)
  try (have t122 : ¬ (c : Int) ≤ 122 := by omega)
  try (have t65 : (65 : Int) ≤ (c : Int) := by omega)
  try (have t65 : ¬ (65 : Int) ≤ (c : Int) := by omega)
  try (have t97 : (97 : Int) ≤ (c : Int) := by omega)
  try (have t97 : ¬ (97 : Int) ≤ (c : Int) := by omega)
  try (have q95 : ((c : Int) == 95) = false := by rw [beq_eq_false_iff_ne]; omega)
  go_enter Tryz.func198, Tryz.ntmps198
  go_wp2_with fail
  go_ret
  exact ⟨rfl, rfl⟩
theorem ndigit_any (c : Nat) (_h : c < 256) (w : World) : Calls Tryz.prog 197 #[.int .u8 (c : Int)] w (Pure (.bool (Jx.isD c)) w) := by
 obtain ⟨b, hb⟩ : ∃ b, b = Jx.isD c := ⟨_, rfl⟩
 rw [← hb]
 unfold Jx.isD at hb
 rcases (show c < 48 ∨ (48 ≤ c ∧ c ≤ 57) ∨ 57 < c by omega) with g | ⟨g1, g2⟩ | g
 all_goals
  first
   | (have hq : b = true := by rw [hb, decide_eq_true_eq]; omega)
   | (have hq : b = false := by rw [hb, decide_eq_false_iff_not]; omega)
  subst hq
  clear hb
  try (have t57 : (c : Int) ≤ 57 := by omega)
  try (have t57 : ¬ (c : Int) ≤ 57 := by omega)
  try (have t48 : (48 : Int) ≤ (c : Int) := by omega)
  try (have t48 : ¬ (48 : Int) ≤ (c : Int) := by omega)
  go_enter Tryz.func197, Tryz.ntmps197
  go_wp2_with fail
  go_ret
  exact ⟨rfl, rfl⟩
theorem lt_digit {c : Nat} (h : Nm.lt c = true) : Jx.isD c = false := by
 unfold Nm.lt at h
 unfold Jx.isD
 rw [decide_eq_true_eq] at h
 rw [decide_eq_false_iff_not]; omega
theorem ch_digit {c : Nat} (h : Nm.ch c = true) (k : Jx.isD c = false) : Nm.lt c = true := by
 unfold Nm.ch at h; rw [k, Bool.or_false] at h; exact h
theorem nSimple_pure (s : ByteArray) (hs : s.size ≤ 1000000000) (w : World) : Calls Tryz.prog 162 #[.string s] w (Pure (.bool (Nm.simple s.data.toList)) w) := by
 obtain ⟨l, hl⟩ : ∃ l, l = s.data.toList := ⟨_, rfl⟩
 have ix := fun j h W => idx_str s j h W
 have ln := len_str s
 rw [← hl] at ix ln ⊢
 have SI := Lib.hid (@simple_iff l)
 have NO := Lib.hid (@simple_no l)
 obtain ⟨R, hR⟩ : ∃ R, R = Nm.simple l := ⟨_, rfl⟩
 rw [← hR] at SI NO ⊢
 have IX := Lib.hid ix
 have LT := Lib.hid (fun c h W => nletter_any c h W)
 have DG := Lib.hid (fun c h W => ndigit_any c h W)
 have LN := Lib.hid ln
 clear ix
 by_cases h0 : s.size = 0
 · have Z := Lib.hid (NO.out fun h => h.1 (by rw [LN.out]; exact h0))
   obtain rfl := size_0 h0
   clear IX LT DG NO SI LN hR h0 hl ln hs
   go_enter Tryz.func162, Tryz.ntmps162
   go_wp2_with fail
   go_ret
   exact pure_ret (by first | (rw [Z.out]; done) | (rw [Z.out]; rfl))
 · obtain ⟨n1, n2, n3, n4, n5⟩ := ne_facts (s := s) (fun e => h0 (by rw [e]; rfl))
   obtain ⟨n, hn⟩ : ∃ n, n = s.size := ⟨_, rfl⟩
   have HN := Lib.hid hn
   rw [← hn] at h0 hs IX LN
   clear hl hR hn ln
   by_cases h1 : 100 < n
   · have q1 : (100 : Int) < (s.size : Int) := by rw [← HN.out]; omega
     have Z := Lib.hid (NO.out fun h => by have := h.2.1; rw [LN.out] at this; omega)
     clear IX LT DG NO SI
     go_enter Tryz.func162, Tryz.ntmps162
     go_wp2_with fail
     go_ret
     exact pure_ret (by first | (rw [Z.out]; done) | (rw [Z.out]; rfl))
   · have q1 : ¬ (100 : Int) < (s.size : Int) := by rw [← HN.out]; omega
     have i0 := IX.out 0 (by omega)
     have D0 := Lib.hid (DG.out (Jx.byt l 0) (Jx.byt_lt l 0))
     obtain ⟨b, hb⟩ : ∃ b, b = Jx.isD (Jx.byt l 0) := ⟨_, rfl⟩
     rw [← hb] at D0
     have HB := Lib.hid hb
     rw [show ((0 : Nat) : Int) = 0 from rfl] at i0
     clear hb
     cases b with
     | true =>
      have Z := Lib.hid (NO.out fun h => by have := lt_digit h.2.2.1; rw [← HB.out] at this; cases this)
      clear IX LT DG NO SI HB
      go_enter Tryz.func162, Tryz.ntmps162
      go_wp2_with fail
      with_reducible refine (D0.out _).mono ?_
      rintro e w1 ⟨rfl, rfl⟩
      go_wp2_with fail
      go_ret
      exact pure_ret (by first | (rw [Z.out]; done) | (rw [Z.out]; rfl))
     | false =>
      have hn1 : n ≤ 100 := by omega
      have hn0 : n ≠ 0 := h0
      have Y : Hid ((∀ j, j < n → Nm.ch (Jx.byt l j) = true) → R = true) := fun h => SI.out.2 ⟨by rw [LN.out]; exact hn0, by rw [LN.out]; exact hn1, ch_digit (h 0 (by omega)) HB.out.symm, by rw [LN.out]; exact h⟩
      have X : Hid (∀ j, j < n → Nm.ch (Jx.byt l j) = false → R = false) := fun j hj e => NO.out fun h => by
       have := h.2.2.2 j (by rw [LN.out]; exact hj)
       rw [e] at this; cases this
      clear NO SI HB
      go_enter Tryz.func162, Tryz.ntmps162
      go_wp2_with fail
      with_reducible refine (D0.out _).mono ?_
      rintro e w1 ⟨rfl, rfl⟩
      go_wp2_with fail
      go_loopw [18] (fun t wr => ∃ j : Nat, j ≤ n ∧ t = .int .i64 (j : Int) ∧ Hid (∀ m, m < j → Nm.ch (Jx.byt l m) = true) ∧ wr = w) (fun t _ => n - (intOf t).toNat)
      case atStart => exact ⟨0, Nat.zero_le _, rfl, fun _ h => absurd h (Nat.not_lt_zero _), rfl⟩
      case round =>
       obtain ⟨j, hj, rfl, AL, rfl⟩ := hrel
       by_cases hjn : j < n
       · have qj : (j : Int) < (s.size : Int) := by rw [← HN.out]; omega
         have ij := IX.out j (by omega)
         have LJ := Lib.hid (LT.out (Jx.byt l j) (Jx.byt_lt l j))
         have DJ := Lib.hid (DG.out (Jx.byt l j) (Jx.byt_lt l j))
         have XJ := Lib.hid (X.out j hjn)
         have CH : Hid (Nm.ch (Jx.byt l j) = (Nm.lt (Jx.byt l j) || Jx.isD (Jx.byt l j))) := rfl
         have NX : Hid (Nm.ch (Jx.byt l j) = true → ∀ m, m < j + 1 → Nm.ch (Jx.byt l m) = true) := fun e m hm => by
          rcases Nat.lt_or_ge m j with g | g
          · exact AL.out m g
          · obtain rfl : m = j := by omega
            exact e
         obtain ⟨C, hC⟩ : ∃ C, C = Nm.ch (Jx.byt l j) := ⟨_, rfl⟩
         obtain ⟨a, ha⟩ : ∃ a, a = Nm.lt (Jx.byt l j) := ⟨_, rfl⟩
         obtain ⟨d, hd⟩ : ∃ d, d = Jx.isD (Jx.byt l j) := ⟨_, rfl⟩
         rw [← hC] at XJ CH NX
         rw [← ha] at LJ CH
         rw [← hd] at DJ CH
         clear hC ha hd
         go_wp2_with fail
         with_reducible refine (LJ.out _).mono ?_
         rintro e w1 ⟨rfl, rfl⟩
         cases a with
         | true =>
          have nx := NX.out (by rw [CH.out]; rfl)
          have NX2 := Lib.hid nx
          clear nx NX
          go_wp2_with fail
          go_roundw
          case rel => exact ⟨j + 1, by omega, by go_num, NX2, by first | rfl | trivial⟩
          case measure => simp [intOf]; omega
         | false =>
          go_wp2_with fail
          with_reducible refine (DJ.out _).mono ?_
          rintro e w1 ⟨rfl, rfl⟩
          cases d with
          | true =>
           have nx := NX.out (by rw [CH.out]; rfl)
           have NX2 := Lib.hid nx
           clear nx NX
           go_wp2_with fail
           go_roundw
           case rel => exact ⟨j + 1, by omega, by go_num, NX2, by first | rfl | trivial⟩
           case measure => simp [intOf]; omega
          | false =>
           have Z := Lib.hid (XJ.out (by rw [CH.out]; rfl))
           go_wp2_with fail
           go_ret
           exact pure_ret (by first | (rw [Z.out]; done) | (rw [Z.out]; rfl))
       · obtain rfl : j = n := by omega
         have qj : ¬ (j : Int) < (s.size : Int) := by rw [← HN.out]; omega
         have Z := Lib.hid (Y.out AL.out)
         clear hjn
         go_wp2_with fail
         go_ret
         exact pure_ret (by first | (rw [Z.out]; done) | (rw [Z.out]; rfl))
theorem nSimple_any (s : ByteArray) (hs : s.size ≤ 1000000000) (w : World) (_hL : LaidN w) : Calls Tryz.prog 162 #[.string s] w (Ans (.bool (Nm.simple s.data.toList)) w) :=
 (nSimple_pure s hs w).mono fun _ _ h => h.ans
def Cut (s : ByteArray) (w : World) (e : Ending) (w' : World) : Prop :=
 ∃ L : List ByteArray, L.map (·.data.toList) = Nm.parts s.data.toList ∧ e = .returned (.slice (some ⟨w.heap.size, 0, none⟩) L.length L.length) ∧ w' = w.alloc (.cells (L.map Value.string).toArray 9)
theorem split_any (s : ByteArray) (hs : s.size ≤ 1000000000) (w : World) : Calls Tryz.prog 187 #[.string s, .string ⟨#[46]⟩] w (Cut s w) := by
 have L := Tryz.lays146
 have hle := Lib.countB_le ⟨#[46]⟩ (by decide) s.size s (Nat.le_refl _)
 have hlen := Lib.splitB_all ⟨#[46]⟩ (by decide) 0 _ s rfl
 have c : Calls Tryz.prog 212 #[.string s, .string ⟨#[46]⟩, .int .i64 0, .int .i64 (-1)] w fun e w' =>
  e = .returned (.slice (some ⟨w.heap.size, 0, none⟩) (Lib.splitB ⟨#[46]⟩ 0 (Lib.countB s ⟨#[46]⟩ + 1 - 1) s).length (Lib.countB s ⟨#[46]⟩ + 1)) ∧ w' = w.alloc (.cells (Lib.cellsOf (Lib.splitB ⟨#[46]⟩ 0 (Lib.countB s ⟨#[46]⟩ + 1 - 1) s) (Lib.countB s ⟨#[46]⟩ + 1)) 9) :=
  Any.strings_genSplit_core { L with } (by kernel_rfl) s ⟨#[46]⟩ 0 (-1) (Lib.countB s ⟨#[46]⟩ + 1) w (by omega) (by decide) (by decide)
   (fun x cc _ => by
    refine (Any.strings_Index_one { L with } x 46 (w.alloc (.cells cc 9))).mono ?_
    rintro e w' ⟨h1, h2⟩
    refine ⟨?_, h2⟩
    rw [h1]
    show _ = Ending.returned (Value.int .i64 (Lib.index x.data.toList [46]))
    rw [Lib.index_one])
   (by
    refine (Any.strings_Count_one { L with } s 46 w).mono ?_
    rintro e w' ⟨h1, h2⟩
    refine ⟨?_, h2⟩
    rw [h1]
    show _ = Ending.returned (Value.int .i64 ((Lib.count s.data.toList [46] : Nat) : Int))
    rw [Lib.count_one]
    rfl)
   (by decide) (by decide) (by rw [if_pos (by decide)]; omega)
 rw [Nat.add_sub_cancel, hlen] at c
 have e2 : Lib.cellsOf (Lib.splitB ⟨#[46]⟩ 0 (Lib.countB s ⟨#[46]⟩) s) (Lib.countB s ⟨#[46]⟩ + 1) = ((Lib.splitB ⟨#[46]⟩ 0 (Lib.countB s ⟨#[46]⟩) s).map Value.string).toArray := by rw [← hlen]; exact Lib.cellsOf_full _
 rw [e2, ← hlen] at c
 have e3 : (Lib.splitB ⟨#[46]⟩ 0 (Lib.countB s ⟨#[46]⟩) s).map (·.data.toList) = Nm.parts s.data.toList := by
  rw [Lib.splitB_data, ← Nm.splitK_parts]
 generalize Lib.splitB ⟨#[46]⟩ 0 (Lib.countB s ⟨#[46]⟩) s = L0 at *
 have C := Lib.hid c
 have E3 := Lib.hid e3
 clear c e3 e2 hlen hle L
 go_enter Tryz.func187, Tryz.ntmps187
 go_wp2_with fail
 refine (C.out).mono ?_
 rintro e w1 ⟨rfl, rfl⟩
 go_wp2_with fail
 go_ret
 exact ⟨L0, E3.out, rfl, rfl⟩
theorem sclone_any (s : ByteArray) (hs : s.size ≤ 1000000000) (w : World) : Calls Tryz.prog 105 #[.string s] w (Ans (.string s) w) := by
 have C := Lib.hid (fun W => Tryz.stringslite_Clone s W (by omega))
 go_enter Tryz.func105, Tryz.ntmps105
 go_wp2_with fail
 refine (C.out _).mono ?_
 rintro e w1 ⟨rfl, b1⟩
 go_wp2_with fail
 go_ret
 exact ⟨rfl, b1⟩
theorem parts_cell (w : World) (L : List ByteArray) (i : Nat) (h : i < L.length) : (w.alloc (.cells (L.map Value.string).toArray 9)).cell? ⟨w.heap.size, i, none⟩ = some (.string (L.getD i ⟨#[]⟩)) := by
 have hh : (w.alloc (.cells (L.map Value.string).toArray 9)).heap[w.heap.size]? = some (.cells (L.map Value.string).toArray 9 (0, 0)) := heap_alloc_new w _
 rw [cell_of_row _ _ _ _ _ _ hh]
 simp [List.getD, List.getElem?_eq_getElem h]
theorem nFull_any (s : ByteArray) (hs : s.size ≤ 1000000000) (w : World) (_hL : LaidN w) : Calls Tryz.prog 142 #[.string s] w (Ans (.bool (Nm.full s.data.toList)) w) := by
 have ln := len_str s
 have FP := Nm.full_parts' s.data.toList
 rw [ln] at FP
 obtain ⟨R, hR⟩ : ∃ R, R = Nm.full s.data.toList := ⟨_, rfl⟩
 rw [← hR] at FP ⊢
 by_cases h1 : 100 < s.size
 · have q : (100 : Int) < (s.size : Int) := by omega
   have Z : Hid (R = false) := by show _ = _; rw [FP, decide_eq_false (by omega)]; rfl
   clear hR FP
   go_enter Tryz.func142, Tryz.ntmps142
   go_wp2_with fail
   go_ret
   exact ⟨by first | (rw [Z.out]; done) | (rw [Z.out]; rfl), Below.refl _ _⟩
 · have q : ¬ (100 : Int) < (s.size : Int) := by omega
   rw [decide_eq_true (by omega), Bool.true_and] at FP
   have SPL := Lib.hid (fun W => split_any s hs W)
   have FPH := Lib.hid FP
   have hsz : s.size ≤ 100 := by omega
   clear FP hR h1
   go_enter Tryz.func142, Tryz.ntmps142
   go_wp2_with fail
   refine (SPL.out _).mono ?_
   rintro e w1 ⟨L, hL, rfl, rfl⟩
   have KL : Hid (∀ i, i < L.length → (L.getD i ⟨#[]⟩).size ≤ 1000000000) := fun i hi => by
    have := Nm.parts_small s.data.toList ((L.getD i ⟨#[]⟩).data.toList) (by rw [← hL]; exact List.mem_map.2 ⟨_, by simp [List.getD, List.getElem?_eq_getElem hi], rfl⟩)
    rw [len_str] at this
    omega
   have RA : Hid (R = L.all fun x => Nm.simple x.data.toList) := by show _ = _; rw [FPH.out, ← hL, List.all_map]; rfl
   have nb : L.length ≤ 101 := by have a := congrArg List.length hL; have b := Nm.parts_count s.data.toList; rw [List.length_map] at a; omega
   have CE := fun i h => parts_cell w L i h
   have NB : w.heap.size < (w.alloc (.cells (L.map Value.string).toArray 9)).heap.size := by simp
   have BW : Below w.heap.size w (w.alloc (.cells (L.map Value.string).toArray 9)) := (Below.refl _ _).alloc (Nat.le_refl _) _
   generalize w.alloc (.cells (L.map Value.string).toArray 9) = w2 at *
   obtain ⟨n, hn⟩ : ∃ n, n = L.length := ⟨_, rfl⟩
   rw [← hn] at CE KL nb ⊢
   have HN := Lib.hid hn
   clear hL hn FPH SPL
   have CEH := Lib.hid CE
   clear CE
   go_wp2_with fail
   go_loopw [11] (fun t wr => ∃ j : Nat, j ≤ n ∧ t = .int .i64 (j : Int) ∧ Hid (∀ m, m < j → Nm.simple (L.getD m ⟨#[]⟩).data.toList = true) ∧ wr = w2) (fun t _ => n - (intOf t).toNat)
   case atStart => exact ⟨0, Nat.zero_le _, rfl, fun _ h => absurd h (Nat.not_lt_zero _), rfl⟩
   case round =>
    obtain ⟨j, hj, rfl, AL, rfl⟩ := hrel
    by_cases hjn : j < n
    · have qj : (j : Int) < (n : Int) := by omega
      have cj := CEH.out j hjn
      have SJ := Lib.hid (fun W => nSimple_pure (L.getD j ⟨#[]⟩) (KL.out j hjn) W)
      have NX : Hid (Nm.simple (L.getD j ⟨#[]⟩).data.toList = true → ∀ m, m < j + 1 → Nm.simple (L.getD m ⟨#[]⟩).data.toList = true) := fun e m hm => by
       rcases Nat.lt_or_ge m j with g | g
       · exact AL.out m g
       · obtain rfl : m = j := by omega
         exact e
      have XJ : Hid (Nm.simple (L.getD j ⟨#[]⟩).data.toList = false → R = false) := fun e => by
       rw [RA.out, List.all_eq_false]
       exact ⟨L.getD j ⟨#[]⟩, by rw [List.getD, List.getElem?_eq_getElem (by rw [← HN.out]; exact hjn)]; simp, by rw [e]; decide⟩
      generalize L.getD j ⟨#[]⟩ = P at *
      obtain ⟨b, hb⟩ : ∃ b, b = Nm.simple P.data.toList := ⟨_, rfl⟩
      rw [← hb] at SJ NX XJ
      clear hb
      go_wp2_with fail
      with_reducible refine (SJ.out _).mono ?_
      rintro e w1 ⟨rfl, rfl⟩
      cases b with
      | true =>
       have NX2 := Lib.hid (NX.out rfl)
       go_wp2_with fail
       go_roundw
       case rel => exact ⟨j + 1, by omega, by go_num, NX2, by first | rfl | trivial⟩
       case measure => simp [intOf]; omega
      | false =>
       have Z := Lib.hid (XJ.out rfl)
       go_wp2_with fail
       go_ret
       exact ⟨by first | (rw [Z.out]; done) | (rw [Z.out]; rfl), BW⟩
    · obtain rfl : j = n := by omega
      have qj : ¬ (j : Int) < (j : Int) := by omega
      have Z : Hid (R = true) := by
       show _ = _
       rw [RA.out, List.all_eq_true]
       intro x hx
       obtain ⟨m, hm, rfl⟩ := List.getElem_of_mem hx
       have := AL.out m (by rw [HN.out]; exact hm)
       rwa [List.getD, List.getElem?_eq_getElem hm, Option.getD_some] at this
      clear hjn
      go_wp2_with fail
      go_ret
      exact ⟨by first | (rw [Z.out]; done) | (rw [Z.out]; rfl), BW⟩
theorem kword_at : ∀ n : Nat, n < 15 → kwords[n]? = some (.string (sst (Nm.word (n : Int)))) := by
 intro n hn
 obtain rfl | rfl | rfl | rfl | rfl | rfl | rfl | rfl | rfl | rfl | rfl | rfl | rfl | rfl | rfl : n = 0 ∨ n = 1 ∨ n = 2 ∨ n = 3 ∨ n = 4 ∨ n = 5 ∨ n = 6 ∨ n = 7 ∨ n = 8 ∨ n = 9 ∨ n = 10 ∨ n = 11 ∨ n = 12 ∨ n = 13 ∨ n = 14 := by omega
 all_goals rfl
theorem kword_idx : ∀ n : Nat, n < 15 → ∀ W, (Instr.index 188 (.agg kwords.toArray) (.int .i64 (n : Int))).run Tryz.prog W = .ok (.string (sst (Nm.word (n : Int)))) W := by
 intro n hn W
 obtain rfl | rfl | rfl | rfl | rfl | rfl | rfl | rfl | rfl | rfl | rfl | rfl | rfl | rfl | rfl : n = 0 ∨ n = 1 ∨ n = 2 ∨ n = 3 ∨ n = 4 ∨ n = 5 ∨ n = 6 ∨ n = 7 ∨ n = 8 ∨ n = 9 ∨ n = 10 ∨ n = 11 ∨ n = 12 ∨ n = 13 ∨ n = 14 := by omega
 all_goals kernel_rfl
theorem nKind_any (s : ByteArray) (_hs : s.size ≤ 1000000000) (w : World) (hL : LaidN w) : Calls Tryz.prog 95 #[.string s] w (Ans (.int .i64 (Nm.kind s.data.toList : Nat)) w) := by
 have g0 : w.cell? ⟨0, 0, none⟩ = some (.string ⟨#[]⟩) := hL.words 0 (by decide)
 have g1 : w.cell? ⟨0, 1, none⟩ = some (.string ⟨#[110, 117, 108, 108]⟩) := hL.words 1 (by decide)
 have g2 : w.cell? ⟨0, 2, none⟩ = some (.string ⟨#[98, 111, 111, 108, 101, 97, 110]⟩) := hL.words 2 (by decide)
 have g3 : w.cell? ⟨0, 3, none⟩ = some (.string ⟨#[105, 110, 116]⟩) := hL.words 3 (by decide)
 have g4 : w.cell? ⟨0, 4, none⟩ = some (.string ⟨#[108, 111, 110, 103]⟩) := hL.words 4 (by decide)
 have g5 : w.cell? ⟨0, 5, none⟩ = some (.string ⟨#[102, 108, 111, 97, 116]⟩) := hL.words 5 (by decide)
 have g6 : w.cell? ⟨0, 6, none⟩ = some (.string ⟨#[100, 111, 117, 98, 108, 101]⟩) := hL.words 6 (by decide)
 have g7 : w.cell? ⟨0, 7, none⟩ = some (.string ⟨#[98, 121, 116, 101, 115]⟩) := hL.words 7 (by decide)
 have g8 : w.cell? ⟨0, 8, none⟩ = some (.string ⟨#[115, 116, 114, 105, 110, 103]⟩) := hL.words 8 (by decide)
 have g9 : w.cell? ⟨0, 9, none⟩ = some (.string ⟨#[114, 101, 99, 111, 114, 100]⟩) := hL.words 9 (by decide)
 have g10 : w.cell? ⟨0, 10, none⟩ = some (.string ⟨#[101, 110, 117, 109]⟩) := hL.words 10 (by decide)
 have g11 : w.cell? ⟨0, 11, none⟩ = some (.string ⟨#[97, 114, 114, 97, 121]⟩) := hL.words 11 (by decide)
 have g12 : w.cell? ⟨0, 12, none⟩ = some (.string ⟨#[109, 97, 112]⟩) := hL.words 12 (by decide)
 have g13 : w.cell? ⟨0, 13, none⟩ = some (.string ⟨#[]⟩) := hL.words 13 (by decide)
 have g14 : w.cell? ⟨0, 14, none⟩ = some (.string ⟨#[102, 105, 120, 101, 100]⟩) := hL.words 14 (by decide)
 have IX := kword_idx
 unfold kwords at IX
 generalize (⟨#[110, 117, 108, 108]⟩ : ByteArray) = s1 at *
 generalize (⟨#[98, 111, 111, 108, 101, 97, 110]⟩ : ByteArray) = s2 at *
 generalize (⟨#[105, 110, 116]⟩ : ByteArray) = s3 at *
 generalize (⟨#[108, 111, 110, 103]⟩ : ByteArray) = s4 at *
 generalize (⟨#[102, 108, 111, 97, 116]⟩ : ByteArray) = s5 at *
 generalize (⟨#[100, 111, 117, 98, 108, 101]⟩ : ByteArray) = s6 at *
 generalize (⟨#[98, 121, 116, 101, 115]⟩ : ByteArray) = s7 at *
 generalize (⟨#[115, 116, 114, 105, 110, 103]⟩ : ByteArray) = s8 at *
 generalize (⟨#[114, 101, 99, 111, 114, 100]⟩ : ByteArray) = s9 at *
 generalize (⟨#[101, 110, 117, 109]⟩ : ByteArray) = s10 at *
 generalize (⟨#[97, 114, 114, 97, 121]⟩ : ByteArray) = s11 at *
 generalize (⟨#[109, 97, 112]⟩ : ByteArray) = s12 at *
 generalize (⟨#[102, 105, 120, 101, 100]⟩ : ByteArray) = s14 at *
 generalize (⟨#[]⟩ : ByteArray) = s0 at *
 have IXH := Lib.hid IX
 clear IX
 have KF2 : Hid (∀ {j : Nat}, j < 15 → (∀ m : Nat, m < j → Nm.word (m : Int) ≠ s.data.toList) → Nm.word (j : Int) = s.data.toList → Nm.kind s.data.toList = j) := fun {j} a b c => Nm.kind_first a b c
 have KN := Lib.hid (@Nm.kind_none s.data.toList)
 have TE : Hid (∀ l : List UInt8, sst l = s ↔ l = s.data.toList) := fun l => ⟨fun h => by rw [← h, sst_in], fun h => by rw [h, sst_out]⟩
 generalize Nm.kind s.data.toList = R at *
 go_enter Tryz.func95, Tryz.ntmps95
 go_wp2_with fail
 go_loopw [6] (fun t wr => ∃ j : Nat, j ≤ 15 ∧ t = .int .i64 (j : Int) ∧ Hid (∀ m : Nat, m < j → Nm.word (m : Int) ≠ s.data.toList) ∧ wr = w) (fun t _ => 15 - (intOf t).toNat)
 case atStart => exact ⟨0, Nat.zero_le _, rfl, fun _ h => absurd h (Nat.not_lt_zero _), rfl⟩
 case round =>
  obtain ⟨j, hj, rfl, AL, rfl⟩ := hrel
  by_cases hjn : j < 15
  · have qj : (j : Int) < 15 := by omega
    have ij := IXH.out j hjn
    have eT := TE.out (Nm.word (j : Int))
    by_cases he : sst (Nm.word (j : Int)) = s
    · have qe : ((sst (Nm.word (j : Int))).toList == s.toList) = true := by rw [he]; simp
      have Z : Hid (R = j) := KF2.out hjn AL.out (eT.1 he)
      generalize sst (Nm.word (j : Int)) = T at *
      clear he eT
      go_wp2_with fail
      go_ret
      exact ⟨by rw [Z.out]; rfl, Below.refl _ _⟩
    · have qe : ((sst (Nm.word (j : Int))).toList == s.toList) = false := by rw [str_beq]; simpa using he
      have NX : Hid (∀ m : Nat, m < j + 1 → Nm.word (m : Int) ≠ s.data.toList) := fun m hm => by
       rcases Nat.lt_or_ge m j with g | g
       · exact AL.out m g
       · obtain rfl : m = j := by omega
         exact fun e => he (eT.2 e)
      generalize sst (Nm.word (j : Int)) = T at *
      clear he eT
      go_wp2_with fail
      go_roundw
      case rel => exact ⟨j + 1, by omega, by go_num, NX, by first | rfl | trivial⟩
      case measure => simp [intOf]; omega
  · obtain rfl : j = 15 := by omega
    have Z : Hid (R = 0) := KN.out AL.out
    go_wp2_with fail
    go_ret
    exact ⟨by rw [Z.out]; rfl, Below.refl _ _⟩
theorem GatX.lenm {T : Nat → Prop} {w : World} {base r : Nat} {e : TypeId} {s : Nat} {v : Value} {ds : List D} (h : GatX T w base r e s v ds) : ds.length ≤ maxLen := by
 obtain ⟨S, xs, h1, _⟩ := h
 rcases h1.2 with ⟨_, h0⟩ | ⟨q, cap, cur, e, hb, hg, hc, hm, _⟩
 · omega
 · omega
theorem GatX.new_ {w : World} {base r : Nat} {e : TypeId} {s : Nat} {v : Value} {ds : List D} (h : GatX (fun _ => False) w base r e s v ds) : ∃ A c, v = .slice A ds.length c ∧ Len ds.length c ∧ RowD w (fun b => base ≤ b ∧ b < w.heap.size) s ds A := by
 have hl := h.lenm
 obtain ⟨A, c, rfl, hc, hr⟩ := h.done
 exact ⟨A, c, rfl, ⟨hc, hl⟩, hr.keep (fun _ _ => rfl) fun b hb => ⟨hb.1.elim (fun h => h.elim) id, hb.2.1⟩⟩
theorem own_new13 {w : World} {base : Nat} {v : Value} {l : List UInt8} (h : Own w base 5 v l) : ∃ A c, v = .slice A l.length c ∧ Len l.length c ∧ RowD w (fun b => base ≤ b ∧ b < w.heap.size) 1 (l.map u8D) A := by
 have g : GatX (fun _ => False) w base w.heap.size 5 1 v (l.map u8D) := ⟨fun _ => False, l.map cel, (by have : OwnR w base 5 1 v l.length (l.map cel) := h; simpa using this), els_octs l, fun _ h => h.elim, fun e => by have := World.ownsRow.lt h w.heap.size e.symm; omega⟩
 have := g.new_
 simpa using this
theorem bys_new {w : World} {base g : Nat} {l : List UInt8} (h : Bys w w.heap.size (some ⟨g, 0, none⟩) l) (hg : base ≤ g) : RowD w (fun b => base ≤ b ∧ b < w.heap.size) 1 (l.map u8D) (some ⟨g, 0, none⟩) := by
 apply bys_row
 rcases h with h | ⟨b, off, e, hb, hk⟩
 · subst h; exact .inl rfl
 · simp only [Option.some.injEq, Addr.mk.injEq, and_true] at e
   obtain ⟨rfl, rfl⟩ := e
   refine .inr ⟨g, 0, rfl, ⟨hg, hb⟩, fun k hk2 => ?_⟩
   have hk2' : k < l.length := by simpa using hk2
   rw [hk k hk2', List.getElem?_map, List.getElem?_eq_getElem hk2', List.getD_eq_getElem?_getD, List.getElem?_eq_getElem hk2']
   rfl
theorem strsS_at {w : World} {S : Nat → Prop} {A : Option Addr} {l : List ByteArray} (h : FlS w S A (l.map Value.string)) {k : Nat} (hk : k < l.length) : ∃ g off, A = some ⟨g, off, none⟩ ∧ S g ∧ w.cell? ⟨g, off + k, none⟩ = some (.string (l[k]'hk)) := by
 obtain ⟨g, off, cs, e, hg, hl, hc, hd⟩ := (row_strs.2 h).at_ (i := k) (by simpa using hk)
 rw [List.getElem_map] at hd
 have := hc 0 (by omega)
 rw [lies_s.1 hd] at this
 rw [Nat.mul_one, Nat.add_zero] at this
 exact ⟨g, off, e, hg, this⟩
theorem row_set {w : World} {S : Nat → Prop} {s : Nat} {ds : List D} {A : Option Addr} {g i : Nat} {u : Value} (h : RowD w S s ds A) (hS : ∀ b, S b → b ≠ g) : RowD (w.setCell ⟨g, i, none⟩ u) S s ds A :=
 h.keep (fun p hp => World.cell?_setCell_other w _ _ _ (fun e => by subst e; exact hS _ hp rfl)) fun _ h => h
def OP (R : Option (List UInt8)) (w : World) (e : Ending) (w' : World) : Prop :=
 ∃ A l c, e = .returned (.tuple #[.slice A l c, .bool R.isSome]) ∧ Below w.heap.size w w' ∧ l ≤ 9223372036854775807 ∧ ∀ bs, R = some bs → l = bs.length ∧ Len bs.length c ∧ RowD w' (New w w') 1 (bs.map u8D) A
theorem op_no {R : Option (List UInt8)} {w w' : World} {A : Option Addr} {l c : Nat} {b : Bool} (h : R = none) (hb : b = false) (hl : l ≤ 9223372036854775807) (k : Below w.heap.size w w') : OP R w (.returned (.tuple #[.slice A l c, .bool b])) w' := by
 subst h; subst hb
 exact ⟨A, l, c, rfl, k, hl, fun _ h => by cases h⟩
theorem op_yes {R : Option (List UInt8)} {bs : List UInt8} {w w' : World} {A : Option Addr} {l c : Nat} {b : Bool} (h : R = some bs) (hb : b = true) (hl : l = bs.length) (hc : Len bs.length c) (k : Below w.heap.size w w') (hr : RowD w' (New w w') 1 (bs.map u8D) A) : OP R w (.returned (.tuple #[.slice A l c, .bool b])) w' := by
 subst h; subst hb
 exact ⟨A, l, c, rfl, k, by have := hc.2; unfold maxLen at this; omega, fun x h => by cases h; exact ⟨hl, hc, hr⟩⟩
theorem octs_end {most f : Nat} {acc : List UInt8} : octs most f [] acc = some acc := by cases f <;> simp [octs]
theorem octets13_any (t : ByteArray) (ht : t.size ≤ 100000000) (hu : (Num.cU t.data.toList).isSome = true) (most : Nat) (M : Int) (hM : M = (most : Int)) (w : World) (hL : LaidN w) :
 Calls Tryz.prog 171 #[.string t, .int .i64 M] w (OP (octsT most t) w) := by
 subst hM
 obtain ⟨R, hR⟩ : ∃ R, R = octsT most t := ⟨_, rfl⟩
 rw [← hR]
 obtain ⟨FW, GW, cv, gc, lb⟩ := conv_all t
 obtain ⟨L, hL0⟩ : ∃ L, L = t.data.toList := ⟨_, rfl⟩
 have hR' : R = octs most L.length L [] := by rw [hR, hL0]; rfl
 have hn : L.length = t.size := by rw [hL0]; simp
 obtain ⟨n, hn0⟩ : ∃ n, n = t.size := ⟨_, rfl⟩
 have HN : Hid (L.length = n) := by show _ = _; omega
 rw [hn] at hR'
 have LB : Hid (Laysb t w (FW w)) := lb w
 have GC : Hid (n ≤ GW w) := by show _ ≤ _; rw [hn0]; exact gc w
 have LW := Lib.hid hL
 have HL := Lib.hid hL0
 rw [← hn0] at hR' ht
 have START : Hid (R = octs most n (L.drop 0) []) := hR'
 have UST : Hid ((Num.cU (L.drop 0)).isSome = true) := by show _ = _; rw [List.drop_zero, hL0]; exact hu
 have nmax : n ≤ 9223372036854775807 := by omega
 rw [← hn0] at cv
 clear hR hR' hn gc lb hL hL0 hu hn0
 have fb := LB.out.1
 have fs := fb.size
 go_enter Tryz.func171, Tryz.ntmps171
 go_wp2_with fail
 go_step3
 go_wp2_with fail
 go_step3
 go_wp2_with fail
 go_loopw [7, 8, 9, 10, 11] (fun v u _ _ _ wr => ∃ (p f : Nat) (acc : List UInt8), p ≤ n ∧ u = .int .i64 (p : Int) ∧ Hid (Own wr (FW w).heap.size 5 v acc) ∧ Hid (R = octs most f (L.drop p) acc) ∧ n ≤ p + f ∧ Hid ((Num.cU (L.drop p)).isSome = true) ∧ acc.length ≤ p ∧ Hid (Below (FW w).heap.size (FW w) wr)) (fun _ u _ _ _ _ => n - (intOf u).toNat)
 case atStart => exact ⟨0, n, [], Nat.zero_le _, rfl, Own.none_ _ _ _, START, by omega, UST, Nat.le_refl _, Below.refl _ _⟩
 case round =>
  obtain ⟨p, f, acc, hp, rfl, HO, HR, hf, HU, ha, HB⟩ := hrel
  have b1 := HB.out
  have z1 := b1.size
  have bw : Below w.heap.size w wr := fb.trans (b1.mono fs)
  by_cases hpn : p < n
  · have q : (p : Int) < (n : Int) := by omega
    have TK := Lib.hid (Take_any (some ⟨w.heap.size, 0, none⟩) (GW w) L (p : Int) wr (LaidN.below LW.out bw) ((LB.out.2.below b1).more z1 |> fun h => by rw [← HL.out] at h; exact h) (by rw [HN.out]; omega) (by rw [HN.out]; exact GC.out))
    rw [tk_good (by rw [HN.out]; omega), HN.out] at TK
    have hD : L.drop p ≠ [] := fun e => by have := congrArg List.length e; rw [List.length_drop, HN.out] at this; simp at this; omega
    obtain ⟨c, m, e, m0, m4, ml⟩ : ∃ c m, Num.fst (L.drop p) = (c, m, 0) ∧ 0 < m ∧ m ≤ 4 ∧ m ≤ (L.drop p).length := by
     rcases Num.fst_err (L.drop p) with h | ⟨h, _⟩ | h
     · exact h
     · have := HU.out; rw [Num.cU_bad hD (by rw [h]; simp)] at this; cases this
     · have := HU.out; rw [Num.cU_bad hD (by rw [h]; simp)] at this; cases this
    rw [List.length_drop, HN.out] at ml
    rw [e] at TK
    have HU2 : Hid ((Num.cU (L.drop (p + m))).isSome = true) := by
     have := HU.out
     rw [Num.cU_go e, List.drop_drop] at this
     show _ = _
     simpa using this
    obtain ⟨f', rfl⟩ : ∃ f', f = f' + 1 := ⟨f - 1, by omega⟩
    have HR2 : Hid (R = if acc.length = most ∨ 255 < c then none else octs most f' (L.drop (p + m)) (acc ++ [UInt8.ofNat c])) := by
     show _ = _
     rw [HR.out, octs, if_neg hD, e, List.drop_drop]
    have hcs : c < 18446744073709551616 := by
     have := (Num.ue_fst e).1
     unfold Num.isC at this
     omega
    obtain ⟨A, cap, ev, hby, hac⟩ := HO.out.room
    subst ev
    obtain ⟨la, hla⟩ : ∃ x, x = acc.length := ⟨_, rfl⟩
    rw [← hla] at ha HR2
    have HO1 : Hid (Own wr (FW w).heap.size 5 (.slice A la cap) acc) := by show Own _ _ _ _ _; rw [hla]; exact HO.out
    have HLA := Lib.hid hla
    rw [← hla]
    clear hby hac hD e HU HR hla HO
    by_cases hm : la = most
    · have Z : Hid (R = none) := by show _ = _; rw [HR2.out, if_pos (.inl hm)]
      subst hm
      clear HR2
      have q1 : ¬ ((p : Int) + (m : Int) = (n : Int)) ∨ True := .inr trivial
      go_wp2_with fail
      with_reducible refine TK.out.mono ?_
      rintro e w1 ⟨rfl, b2⟩
      have bw1 : Below w.heap.size w w1 := bw.trans (b2.mono bw.size)
      have qe : ((p : Int) == (n : Int)) = false := by rw [beq_eq_false_iff_ne]; omega
      go_wp2_with fail
      go_ret2
      exact op_no Z.out rfl (by omega) bw1
    have q1 : ((la : Int) == (most : Int)) = false := by rw [beq_eq_false_iff_ne]; omega
    by_cases hc : 255 < c
    · have Z : Hid (R = none) := by show _ = _; rw [HR2.out, if_pos (.inr hc)]
      have q2 : (255 : Int) < (c : Int) := by omega
      have qe : ((p : Int) == (n : Int)) = false := by rw [beq_eq_false_iff_ne]; omega
      clear HR2 hm
      go_wp2_with fail
      with_reducible refine TK.out.mono ?_
      rintro e w1 ⟨rfl, b2⟩
      have bw1 : Below w.heap.size w w1 := bw.trans (b2.mono bw.size)
      go_wp2_with fail
      go_ret2
      exact op_no Z.out rfl (by omega) bw1
    have HR3 : Hid (R = octs most f' (L.drop (p + m)) (acc ++ [UInt8.ofNat c])) := by show _ = _; rw [HR2.out, if_neg (by omega)]
    have q2 : ¬ (255 : Int) < (c : Int) := by omega
    have wz : IntKind.u8.wrap (c : Int) = (c : Int) := by rw [IntKind.wrap_u8]; omega
    clear HR2 hm
    go_wp2_with fail
    with_reducible refine TK.out.mono ?_
    rintro e w1 ⟨rfl, b2⟩
    have b3 : Below (FW w).heap.size (FW w) w1 := b1.trans (b2.mono z1)
    have z2 := b2.size
    have O1 := Lib.hid (HO1.out.below b2)
    have c0 : (0 : Int) ≤ (c : Int) := by omega
    have c1 : (c : Int) ≤ 255 := by omega
    go_wp2_with (at_builtin; go_loud (refine wpList_app1 _ byteT rfl (.tmp 25) (.tmp 28) rfl (FW w).heap.size _ acc rfl O1.out 1 (c : Int) c0 c1 rfl (by rw [← HLA.out]; omega) (by omega) ?_); intro v' w4 o4 b4)
    go_roundw
    case rel => exact ⟨p + m, f', acc ++ [UInt8.ofNat c], by omega, by go_num, (show Own _ _ _ _ _ by simpa using o4), HR3, by omega, HU2, by rw [List.length_append, ← HLA.out, List.length_singleton]; omega, b3.trans (b4.mono (by omega))⟩
    case measure => simp [intOf]; omega
  · obtain rfl : p = n := by omega
    have q : ¬ (p : Int) < (p : Int) := by omega
    have e0 : L.drop p = [] := List.drop_eq_nil_of_le (by rw [HN.out]; exact Nat.le_refl _)
    have Z : Hid (R = some acc) := by show _ = _; rw [HR.out, e0, octs_end]
    obtain ⟨A, cap, ev, hl, hr⟩ := own_new13 HO.out
    subst ev
    have HRW := Lib.hid (hr.keep (S' := New w wr) (fun _ _ => rfl) fun b hb => ⟨Nat.le_trans fs hb.1, hb.2⟩)
    have HLN := Lib.hid hl
    clear e0 HR HU hr hl
    obtain ⟨la, hla⟩ : ∃ x, x = acc.length := ⟨_, rfl⟩
    have HLA := Lib.hid hla
    rw [← hla]
    clear hla
    go_wp2_with fail
    go_ret2
    exact op_yes Z.out rfl HLA.out HLN.out bw HRW.out
def KyP (b : Bool) (ks : List ByteArray) (w : World) (e : Ending) (w' : World) : Prop :=
 ∃ A l c, e = .returned (.tuple #[.slice A l c, .bool b]) ∧ Below w.heap.size w w' ∧ (b = true → l = ks.length ∧ Len ks.length c ∧ RowD w' (New w w') 1 (ks.map D.s) A)
theorem kyp_no {b b' : Bool} {ks : List ByteArray} {w w' : World} {A : Option Addr} {l c : Nat} (h : b = false) (hb : b' = false) (k : Below w.heap.size w w') : KyP b ks w (.returned (.tuple #[.slice A l c, .bool b'])) w' := by
 subst h; subst hb
 exact ⟨A, l, c, rfl, k, fun h => by cases h⟩
theorem kyp_yes {b b' : Bool} {ks : List ByteArray} {w w' : World} {v : Value} (h : b = true) (hb : b' = true) (k : Below w.heap.size w w') (hg : GatS w' w.heap.size 9 1 v (ks.map D.s)) : KyP b ks w (.returned (.tuple #[v, .bool b'])) w' := by
 subst h; subst hb
 have hl : (ks.map D.s).length ≤ maxLen := by
  obtain ⟨S, xs, h1, _⟩ := hg
  rcases h1.2 with ⟨_, h0⟩ | ⟨q, cap, cur, e, hb, hg, hc, hm, _⟩
  · omega
  · omega
 obtain ⟨A, c, rfl, hc, S, a1, a2, _⟩ := hg.done
 refine ⟨A, _, c, rfl, k, fun _ => ?_⟩
 rw [List.length_map] at *
 exact ⟨rfl, ⟨hc, hl⟩, a2.keep (fun _ _ => rfl) a1⟩
theorem keys13_any (S : Nat → Prop) (ks : List ByteArray) (w : World) (hS : ∀ b, S b → b < w.heap.size) (A : Option Addr) (c n : Nat) (hn : n = ks.length) (h : FlS w S A (ks.map Value.string)) (hl : n ≤ 100000000) (hz : ∀ x ∈ ks, x.size ≤ 100000000) :
 Calls Tryz.prog 170 #[.slice A n c] w (KyP (keysFit ks) ks w) := by
 have KF := Lib.hid h
 have HNK := Lib.hid hn
 have HZ := Lib.hid hz
 have HS := Lib.hid hS
 obtain ⟨R, hR⟩ : ∃ R, R = keysFit ks := ⟨_, rfl⟩
 rw [← hR]
 have HR := Lib.hid hR
 have nmax : n ≤ 9223372036854775807 := by omega
 clear hn h hz hR hS
 go_enter Tryz.func170, Tryz.ntmps170
 go_wp2_with fail
 go_loopw [4, 6, 9] (fun v _ t wr => ∃ i : Nat, i ≤ n ∧ t = .int .i64 (i : Int) ∧ Hid (∀ m (h : m < ks.length), m < i → (ks[m]'h).size ≤ 20000) ∧ Hid (GatS wr w.heap.size 9 1 v ((ks.take i).map D.s)) ∧ Hid (Below w.heap.size w wr)) (fun _ _ t _ => n - (intOf t).toNat)
 case atStart => exact ⟨0, Nat.zero_le _, rfl, (fun _ _ h => absurd h (Nat.not_lt_zero _)), GatS.none_ _ _ _ _, Below.refl _ _⟩
 case round =>
  obtain ⟨i, hi, rfl, HE, HG, bl⟩ := hrel
  have bl2 := bl.out
  have z := bl2.size
  by_cases hin : i < n
  · have h1 : i < ks.length := by rw [← HNK.out]; exact hin
    have q : (i : Int) < (n : Int) := by omega
    obtain ⟨g1, o1, e1, hg1, u0⟩ := strsS_at KF.out h1
    have lg := HS.out _ hg1
    have u0 := (bl2.cell (p := ⟨g1, o1 + i, none⟩) (by show g1 < _; omega)).trans u0
    have TK : Hid ((ks.take (i + 1)).map D.s = (ks.take i).map D.s ++ [D.s (ks[i]'h1)]) := by
     show _ = _
     rw [List.take_succ_eq_append_getElem h1, List.map_append]; rfl
    have LJ : Hid (((ks.take i).map D.s).length = i) := by show _ = _; have hn := HNK.out; simp; omega
    have NX : Hid ((ks[i]'h1).size ≤ 20000 → ∀ m (h : m < ks.length), m < i + 1 → (ks[m]'h).size ≤ 20000) := fun e m h k => by
     rcases Nat.lt_or_ge m i with p | p
     · exact HE.out m h p
     · obtain rfl : m = i := by omega
       exact e
    have NO : Hid (20000 < (ks[i]'h1).size → R = false) := fun e => by
     rw [HR.out]
     rw [Bool.eq_false_iff]
     intro g
     have := keysFit_iff.1 g _ (List.getElem_mem h1)
     omega
    have tz := HZ.out _ (List.getElem_mem h1)
    generalize ks[i]'h1 = T at *
    subst e1
    have CL := Lib.hid (sclone_any T (by omega) wr)
    clear h1 HE
    by_cases h4 : 20000 < T.size
    · have Z := Lib.hid (NO.out h4)
      have q4 : (20000 : Int) < (T.size : Int) := by omega
      clear h4 NO NX HR
      go_wp2_with fail
      go_ret2
      exact kyp_no Z.out rfl bqq
    have HE2 := Lib.hid (NX.out (by omega))
    have q4 : ¬ (20000 : Int) < (T.size : Int) := by omega
    clear h4 NO NX
    go_wp2_with fail
    with_reducible refine CL.out.mono ?_
    rintro e w1 ⟨rfl, b1⟩
    have BV0 : Hid (Below wr.heap.size wr (w1.alloc (.cells #[.string T] 9))) := b1.alloc b1.size _
    have ND : Hid (NewD (w1.alloc (.cells #[.string T] 9)) wr.heap.size (D.s T) [.string T]) := ⟨fun _ => False, fun _ h => h.elim, lies_s.2 rfl, fun _ h => h.elim⟩
    have G1 := Lib.hid (HG.out.below b1)
    have z1 := b1.size
    have BV1 : Hid (Below w1.heap.size w1 (w1.alloc (.cells #[.string T] 9))) := (Below.refl _ _).alloc (Nat.le_refl _) _
    have ND1 : Hid (NewD (w1.alloc (.cells #[.string T] 9)) w1.heap.size (D.s T) [.string T]) := ⟨fun _ => False, fun _ h => h.elim, lies_s.2 rfl, fun _ h => h.elim⟩
    go_wp2_with (at_builtin; go_loud (refine wpList_gat _ textT rfl (.tmp 16) (.tmp 19) rfl w.heap.size u4 _ rfl w1 G1.out (Below.refl _ _) 1 #[.string T] (by simp [Act.eval]) rfl (by simp [Value.oneCell']) (by rw [LJ.out]; omega) (by omega) (D.s T) (show NewD w1 w1.heap.size (D.s T) [.string T] from ⟨fun _ => False, fun _ h => h.elim, lies_s.2 rfl, fun _ h => h.elim⟩) ?_); intro v5 w5 g5 b5)
    have bl5 : Below w.heap.size w w5 := bl2.trans ((b1.mono z).trans b5)
    go_wp2_with fail
    go_roundw
    case rel => exact ⟨i + 1, by omega, by go_num, HE2, by rw [TK.out]; exact g5, bl5⟩
    case measure => simp [intOf]; omega
  · obtain rfl : i = n := by omega
    have q : ¬ (i : Int) < (i : Int) := by omega
    have Z : Hid (R = true) := by
     show _ = _
     rw [HR.out, keysFit_iff]
     intro y hy
     obtain ⟨m, hm, rfl⟩ := List.getElem_of_mem hy
     exact HE.out m hm (by rw [HNK.out]; exact hm)
    have G1 : Hid (GatS wr w.heap.size 9 1 u4 (ks.map D.s)) := by
     have := HG.out
     rwa [List.take_of_length_le (by rw [← HNK.out]; exact Nat.le_refl _)] at this
    clear HE HG HR
    go_wp2_with fail
    go_ret2
    exact kyp_yes Z.out rfl bl2 G1.out
theorem row_sets {w0 w : World} {B : Nat} {ds : List D} {A : Option Addr} {g : Nat} {u v0 v1 v2 v3 v4 v5 : Value} (hB : w0.heap.size + 2 ≤ B) (hg : g = w0.heap.size + 1) (h : RowD w (fun b => B ≤ b ∧ b < w.heap.size) 1 ds A) :
 RowD (((((((w.setCell ⟨g, 3, none⟩ u).setCell ⟨g, 0, none⟩ v0).setCell ⟨g, 1, none⟩ v1).setCell ⟨g, 2, none⟩ v2).setCell ⟨g, 3, none⟩ v3).setCell ⟨g, 4, none⟩ v4).setCell ⟨g, 5, none⟩ v5) (New w0 (((((((w.setCell ⟨g, 3, none⟩ u).setCell ⟨g, 0, none⟩ v0).setCell ⟨g, 1, none⟩ v1).setCell ⟨g, 2, none⟩ v2).setCell ⟨g, 3, none⟩ v3).setCell ⟨g, 4, none⟩ v4).setCell ⟨g, 5, none⟩ v5)) 1 ds A := by
 have n : ∀ b, (B ≤ b ∧ b < w.heap.size) → b ≠ g := fun b hb => by omega
 refine (row_set (row_set (row_set (row_set (row_set (row_set (row_set h n) n) n) n) n) n) n).keep (fun _ _ => rfl) fun b hb => ⟨by omega, ?_⟩
 simpa [World.setCell] using hb.2
theorem leafb_in {w : World} {S : Nat → Prop} (k : Int) {bs : List UInt8} {A : Option Addr} {c l : Nat} (hl : l = bs.length) (hc : Len bs.length c) (h : RowD w S 1 (bs.map u8D) A) : Lies w S (V.mk k 0 0 bs [] []).enc [.int .i64 k, .int .i64 0, .int .u64 0, .slice A l c, .slice none 0 0, .slice none 0 0] :=
 V.out.2 ⟨A, c, none, 0, none, 0, (by rw [hl]; rfl), hc, h, ⟨Nat.le_refl _, Nat.zero_le _⟩, RowD.nil_ _ _ _ _, ⟨Nat.le_refl _, Nat.zero_le _⟩, .inl rfl⟩
theorem text13_any (nd : Nd) (ht : textK nd.k) (hsz : nd.k = 14 → 0 ≤ nd.size ∧ nd.size ≤ 1000) (t : ByteArray) (htz : t.size ≤ 1000000) (hu : (Num.cU t.data.toList).isSome = true) (w : World) (hL : LaidN w) (A2 A3 A4 A9 : Option Addr) (l2 c2 l3 c3 c4 l9 c9 : Nat) (hfs : FlS w (· < w.heap.size) A4 (nd.sy.map Value.string)) (hlm : nd.sy.length ≤ maxLen) :
 Calls Tryz.prog 128 #[.agg #[.int .i64 nd.k, .string nd.name, .slice A2 l2 c2, .slice A3 l3 c3, .slice A4 nd.sy.length c4, .bool nd.has, .string nd.df, .int .i64 nd.size, .int .i64 nd.items, .slice A9 l9 c9], .string t] w (VPB (dtextV nd t) w) := by
 obtain ⟨R, hR⟩ : ∃ R, R = dtextV nd t := ⟨_, rfl⟩
 rw [← hR]
 obtain ⟨k, N1, al, fs, sy, hs, df, sz, it, br⟩ := nd
 unfold dtextV at hR
 dsimp only at hR ht hsz hfs hlm ⊢
 have CS := cell_set
 have IX := Lib.hid (fun W (b : Below w.heap.size w W) => index_any (· < W.heap.size) A4 c4 sy t W (FlS.keep (fun p hp => b.cell hp) (fun _ h => Nat.lt_of_lt_of_le h b.size) hfs) hlm)
 have OC := Lib.hid (fun most M (hM : M = ((most : Nat) : Int)) W (b : Below w.heap.size w W) => octets13_any t (by omega) hu most M hM W (LaidN.below hL b))
 unfold textK at ht
 obtain ⟨ns, hns⟩ : ∃ x, x = sy.length := ⟨_, rfl⟩
 obtain ⟨PS, hps⟩ : ∃ x, x = place7 sy t := ⟨_, rfl⟩
 unfold Idx at IX
 rw [← hns, ← hps] at IX
 rw [← hps] at hR
 have PL : Hid (∀ i, PS = some i → i < ns) := fun i hi => by rw [hns]; exact place7_lt (hps.symm.trans hi)
 have nmax : ns ≤ 9223372036854775807 := by unfold maxLen at hlm; omega
 have tl : Hid (t.data.toList.length = t.size) := by show _ = _; simp
 rw [← hns] at hlm ⊢
 have bw : Hid (Below w.heap.size w ((w.alloc (.cells #[.int .i64 k, .string N1, .slice A2 l2 c2, .slice A3 l3 c3, .slice A4 ns c4, .bool hs, .string df, .int .i64 sz, .int .i64 it, .slice A9 l9 c9] 59)).alloc (.cells #[.int .i64 k, .int .i64 0, .int .u64 0, .slice none 0 0, .slice none 0 0, .slice none 0 0] 42))) := ((Below.refl _ _).alloc (Nat.le_refl _) _).alloc (by simp) _
 have z0 : Hid (B10 ((w.alloc (.cells #[.int .i64 k, .string N1, .slice A2 l2 c2, .slice A3 l3 c3, .slice A4 ns c4, .bool hs, .string df, .int .i64 sz, .int .i64 it, .slice A9 l9 c9] 59)).alloc (.cells #[.int .i64 k, .int .i64 0, .int .u64 0, .slice none 0 0, .slice none 0 0, .slice none 0 0] 42)) w.heap.size 59 (.int .i64 k) (.string N1) (.slice A2 l2 c2) (.slice A3 l3 c3) (.slice A4 ns c4) (.bool hs) (.string df) (.int .i64 sz) (.int .i64 it) (.slice A9 l9 c9)) := (B10.newat rfl).alloc _
 have z1 : Hid (B6 ((w.alloc (.cells #[.int .i64 k, .string N1, .slice A2 l2 c2, .slice A3 l3 c3, .slice A4 ns c4, .bool hs, .string df, .int .i64 sz, .int .i64 it, .slice A9 l9 c9] 59)).alloc (.cells #[.int .i64 k, .int .i64 0, .int .u64 0, .slice none 0 0, .slice none 0 0, .slice none 0 0] 42)) (w.heap.size + 1) 42 (.int .i64 k) (.int .i64 0) (.int .u64 0) (.slice none 0 0) (.slice none 0 0) (.slice none 0 0)) := B6.newat (by simp)
 have ZS : Hid (((w.alloc (.cells #[.int .i64 k, .string N1, .slice A2 l2 c2, .slice A3 l3 c3, .slice A4 ns c4, .bool hs, .string df, .int .i64 sz, .int .i64 it, .slice A9 l9 c9] 59)).alloc (.cells #[.int .i64 k, .int .i64 0, .int .u64 0, .slice none 0 0, .slice none 0 0, .slice none 0 0] 42)).heap.size = w.heap.size + 2) := by show _ = _; simp
 clear hps hfs hL hlm hns
 obtain ⟨oa, hoa⟩ : ∃ x, x = octsT 20000 t := ⟨_, rfl⟩
 obtain ⟨ob, hob⟩ : ∃ x, x = octsT sz.toNat t := ⟨_, rfl⟩
 have OA := Lib.hid (fun W b => OC.out 20000 20000 rfl W b)
 have OB := Lib.hid (fun (h : 0 ≤ sz) W b => OC.out sz.toNat sz (by omega) W b)
 rw [← hoa] at hR OA
 rw [← hob] at hR OB
 clear OC hoa hob
 by_cases h10 : k = 10
 · subst h10
   rw [if_pos rfl] at hR
   clear OA OB ht hu hsz
   cases PS with
   | none =>
    have Z : Hid (R = none) := hR
    have q1 : ¬ (0 : Int) ≤ num7 none := by decide
    clear hR
    obtain ⟨_, _, _, _, _, _, _, _, _, _, _, _, _, _, _, _, _, _, _, _⟩ := B10.facts z0.out
    obtain ⟨_, _, _, _, _, _, _, _, _, _, _, _⟩ := B6.facts z1.out
    go_enter Tryz.func128, Tryz.ntmps128
    go_wp2_with fail
    with_reducible refine (IX.out _ bw.out).mono ?_
    rintro e w1 ⟨rfl, rfl⟩
    go_wp2_with fail
    try simp only [Exit.inBlock, Exit.then]
    refine post_V2 (x0 := .int .i64 10) (x1 := .int .i64 (num7 none)) (x2 := .int .u64 0) (x3 := .slice none 0 0) (x4 := .slice none 0 0) (x5 := .slice none 0 0) rfl rfl rfl (by go_simp) (by go_simp) (by go_simp) (by go_simp) (by go_simp) (by go_simp) ?_
    exact ⟨vp_no Z.out (by first | rfl | simp [Act.eval]), bqq⟩
   | some i =>
    have Z : Hid (R = some (.mk 10 ((i : Nat) : Int) 0 [] [] [])) := hR
    have q1 : (0 : Int) ≤ num7 (some i) := by show (0 : Int) ≤ (i : Int); omega
    clear hR
    obtain ⟨_, _, _, _, _, _, _, _, _, _, _, _, _, _, _, _, _, _, _, _⟩ := B10.facts z0.out
    obtain ⟨_, _, _, _, _, _, _, _, _, _, _, _⟩ := B6.facts z1.out
    go_enter Tryz.func128, Tryz.ntmps128
    go_wp2_with fail
    with_reducible refine (IX.out _ bw.out).mono ?_
    rintro e w1 ⟨rfl, rfl⟩
    go_wp2_with fail
    try simp only [Exit.inBlock, Exit.then]
    refine post_V2 (x0 := .int .i64 10) (x1 := .int .i64 (num7 (some i))) (x2 := .int .u64 0) (x3 := .slice none 0 0) (x4 := .slice none 0 0) (x5 := .slice none 0 0) rfl rfl rfl (by go_simp) (by go_simp) (by go_simp) (by go_simp) (by go_simp) (by go_simp) ?_
    exact ⟨vp_yes Z.out (by first | rfl | simp [Act.eval]) (leaf_in _ _ _), bqq⟩
 have q10 : (k == 10) = false := by rw [beq_eq_false_iff_ne]; exact h10
 rw [if_neg h10] at hR
 clear IX PL
 by_cases h8 : k = 8
 · subst h8
   rw [if_pos rfl] at hR
   obtain ⟨G, F, cv, gcw, b1, y1⟩ := conv_lays t ((w.alloc (.cells #[.int .i64 8, .string N1, .slice A2 l2 c2, .slice A3 l3 c3, .slice A4 ns c4, .bool hs, .string df, .int .i64 sz, .int .i64 it, .slice A9 l9 c9] 59)).alloc (.cells #[.int .i64 8, .int .i64 0, .int .u64 0, .slice none 0 0, .slice none 0 0, .slice none 0 0] 42))
   rw [ZS.out] at cv y1
   have fs := b1.size
   rw [ZS.out] at fs
   have Y0 := Lib.hid (B10.below z0.out b1 z0.out.lt)
   have Y1 := Lib.hid (B6.below z1.out b1 z1.out.lt)
   have l0 := Y0.out.lt
   have l1 := Y1.out.lt
   have bw1 : Below w.heap.size w F := bw.out.trans (b1.mono bw.out.size)
   have RW := Lib.hid (bys_new (base := w.heap.size + 2) y1 (Nat.le_refl _))
   have lm : t.size ≤ maxLen := by unfold maxLen; omega
   have LN : Hid (Len t.data.toList.length G) := by show Len _ _; rw [tl.out]; exact ⟨gcw, lm⟩
   clear OA OB ht hu hsz z0 z1 y1 q10 h10 b1 gcw lm
   obtain ⟨_, _, _, _, _, _, _, _, _, _, _, _, _, _, _, _, _, _, _, _⟩ := B10.facts Y0.out
   obtain ⟨_, _, _, _, _, _, _, _, _, _, _, _⟩ := B6.facts Y1.out
   by_cases h2 : t.size ≤ 20000
   · have Z : Hid (R = some (.mk 8 0 0 t.data.toList [] [])) := hR.trans (if_pos h2)
     have q2 : (t.size : Int) ≤ 20000 := by omega
     clear hR Y0 Y1 h2
     go_enter Tryz.func128, Tryz.ntmps128
     go_wp2_with fail
     try simp only [Exit.inBlock, Exit.then]
     refine post_V2 (x0 := .int .i64 8) (x1 := .int .i64 0) (x2 := .int .u64 0) (x3 := .slice (some ⟨w.heap.size + 2, 0, none⟩) t.size G) (x4 := .slice none 0 0) (x5 := .slice none 0 0) rfl rfl rfl (by go_simp) (by go_simp) (by go_simp) (by go_simp) (by go_simp) (by go_simp) ?_
     exact ⟨vp_yes Z.out (by first | rfl | simp [Act.eval]) (leafb_in 8 tl.out.symm LN.out (row_sets (B := w.heap.size + 2) (Nat.le_refl _) rfl RW.out)), bqq⟩
   · have Z : Hid (R = none) := hR.trans (if_neg h2)
     have q2 : ¬ (t.size : Int) ≤ 20000 := by omega
     clear hR Y0 Y1 h2
     go_enter Tryz.func128, Tryz.ntmps128
     go_wp2_with fail
     try simp only [Exit.inBlock, Exit.then]
     refine post_V2 (x0 := .int .i64 8) (x1 := .int .i64 0) (x2 := .int .u64 0) (x3 := .slice (some ⟨w.heap.size + 2, 0, none⟩) t.size G) (x4 := .slice none 0 0) (x5 := .slice none 0 0) rfl rfl rfl (by go_simp) (by go_simp) (by go_simp) (by go_simp) (by go_simp) (by go_simp) ?_
     exact ⟨vp_no Z.out (by first | rfl | simp [Act.eval]), bqq⟩
 have q8 : (k == 8) = false := by rw [beq_eq_false_iff_ne]; exact h8
 rw [if_neg h8] at hR
 clear tl
 by_cases h7 : k = 7
 · subst h7
   rw [if_pos rfl] at hR
   clear OB ht hu hsz q10 h10 q8 h8
   go_enter Tryz.func128, Tryz.ntmps128
   go_wp2_with fail
   with_reducible refine (OA.out _ bw.out).mono ?_
   rintro e w1 ⟨X, xl, xc, rfl, b1, xm, hx⟩
   have s1 := b1.size
   have y0 := Lib.hid (B10.below z0.out b1 z0.out.lt)
   have y1 := Lib.hid (B6.below z1.out b1 z1.out.lt)
   have l0 := y0.out.lt
   have l1 := y1.out.lt
   have bw1 : Below w.heap.size w w1 := bw.out.trans (b1.mono bw.out.size)
   obtain ⟨_, _, _, _, _, _, _, _, _, _, _, _, _, _, _, _, _, _, _, _⟩ := B10.facts y0.out
   obtain ⟨_, _, _, _, _, _, _, _, _, _, _, _⟩ := B6.facts y1.out
   have HX := Lib.hid hx
   clear y0 y1 z0 z1 hx OA
   cases oa with
   | none =>
    have Z : Hid (R = none) := hR
    clear hR HX
    go_wp2_with fail
    try simp only [Exit.inBlock, Exit.then]
    refine post_V2 (x0 := .int .i64 7) (x1 := .int .i64 0) (x2 := .int .u64 0) (x3 := .slice X xl xc) (x4 := .slice none 0 0) (x5 := .slice none 0 0) rfl rfl rfl (by go_simp) (by go_simp) (by go_simp) (by go_simp) (by go_simp) (by go_simp) ?_
    exact ⟨vp_no Z.out (by first | rfl | simp [Act.eval]), bqq⟩
   | some bs =>
    have Z : Hid (R = some (.mk 7 0 0 bs [] [])) := hR
    clear hR
    go_wp2_with fail
    try simp only [Exit.inBlock, Exit.then]
    refine post_V2 (x0 := .int .i64 7) (x1 := .int .i64 0) (x2 := .int .u64 0) (x3 := .slice X xl xc) (x4 := .slice none 0 0) (x5 := .slice none 0 0) rfl rfl rfl (by go_simp) (by go_simp) (by go_simp) (by go_simp) (by go_simp) (by go_simp) ?_
    obtain ⟨e1, e2, e3⟩ := HX.out bs rfl
    exact ⟨vp_yes Z.out (by first | rfl | simp [Act.eval]) (leafb_in 7 e1 e2 (row_sets (B := w.heap.size + 2) (Nat.le_refl _) rfl (e3.keep (fun _ _ => rfl) fun b hb => ⟨by have := hb.1; rw [ZS.out] at this; exact this, hb.2⟩))), bqq⟩
 have q7 : (k == 7) = false := by rw [beq_eq_false_iff_ne]; exact h7
 rw [if_neg h7] at hR
 obtain rfl : k = 14 := by omega
 obtain ⟨s0, s1000⟩ := hsz rfl
 have OC := Lib.hid (OB.out s0 _ bw.out)
 clear OA OB ht hu hsz q10 h10 q8 h8 q7 h7
 go_enter Tryz.func128, Tryz.ntmps128
 go_wp2_with fail
 with_reducible refine OC.out.mono ?_
 rintro e w1 ⟨X, xl, xc, rfl, b1, xm, hx⟩
 have s1 := b1.size
 have y0 := Lib.hid (B10.below z0.out b1 z0.out.lt)
 have y1 := Lib.hid (B6.below z1.out b1 z1.out.lt)
 have l0 := y0.out.lt
 have l1 := y1.out.lt
 have bw1 : Below w.heap.size w w1 := bw.out.trans (b1.mono bw.out.size)
 obtain ⟨_, _, _, _, _, _, _, _, _, _, _, _, _, _, _, _, _, _, _, _⟩ := B10.facts y0.out
 obtain ⟨_, _, _, _, _, _, _, _, _, _, _, _⟩ := B6.facts y1.out
 have HX := Lib.hid hx
 clear y0 y1 z0 z1 hx OC
 cases ob with
 | none =>
  have Z : Hid (R = none) := hR
  clear hR HX
  go_wp2_with fail
  try simp only [Exit.inBlock, Exit.then]
  refine post_V2 (x0 := .int .i64 14) (x1 := .int .i64 0) (x2 := .int .u64 0) (x3 := .slice X xl xc) (x4 := .slice none 0 0) (x5 := .slice none 0 0) rfl rfl rfl (by go_simp) (by go_simp) (by go_simp) (by go_simp) (by go_simp) (by go_simp) ?_
  exact ⟨vp_no Z.out (by first | rfl | simp [Act.eval]), bqq⟩
 | some bs =>
  obtain ⟨e1, e2, e3⟩ := HX.out bs rfl
  have E3 := Lib.hid e3
  have E2 := Lib.hid e2
  have hR2 : R = if (bs.length : Int) = sz then some (.mk 14 0 0 bs [] []) else none := hR
  rw [← e1] at hR2
  have E1 := Lib.hid e1
  clear hR HX e1 e2 e3
  by_cases hq : (xl : Int) = sz
  · have Z : Hid (R = some (.mk 14 0 0 bs [] [])) := hR2.trans (if_pos hq)
    have q1 : ((xl : Int) == sz) = true := by rw [beq_iff_eq]; exact hq
    clear hR2 hq
    go_wp2_with fail
    try simp only [Exit.inBlock, Exit.then]
    refine post_V2 (x0 := .int .i64 14) (x1 := .int .i64 0) (x2 := .int .u64 0) (x3 := .slice X xl xc) (x4 := .slice none 0 0) (x5 := .slice none 0 0) rfl rfl rfl (by go_simp) (by go_simp) (by go_simp) (by go_simp) (by go_simp) (by go_simp) ?_
    exact ⟨vp_yes Z.out (by first | rfl | simp [Act.eval]) (leafb_in 14 E1.out E2.out (row_sets (B := w.heap.size + 2) (Nat.le_refl _) rfl (E3.out.keep (fun _ _ => rfl) fun b hb => ⟨by have := hb.1; rw [ZS.out] at this; exact this, hb.2⟩))), bqq⟩
  · have Z : Hid (R = none) := hR2.trans (if_neg hq)
    have q1 : ((xl : Int) == sz) = false := by rw [beq_eq_false_iff_ne]; exact hq
    clear hR2 hq
    go_wp2_with fail
    try simp only [Exit.inBlock, Exit.then]
    refine post_V2 (x0 := .int .i64 14) (x1 := .int .i64 0) (x2 := .int .u64 0) (x3 := .slice X xl xc) (x4 := .slice none 0 0) (x5 := .slice none 0 0) rfl rfl rfl (by go_simp) (by go_simp) (by go_simp) (by go_simp) (by go_simp) (by go_simp) ?_
    exact ⟨vp_no Z.out (by first | rfl | simp [Act.eval]), bqq⟩
end Go.Proofs.YthfoomobicbcpaaGreatDoor
