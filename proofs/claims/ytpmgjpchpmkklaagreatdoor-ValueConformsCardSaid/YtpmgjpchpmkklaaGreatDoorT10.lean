/- Joined by tools/bundle.py: NShelf NCode NCodeB SCpy SReg SCE VCC. -/
import Derived.Shelf.LaysM
import Derived.Shelf.Strconv.Clone
import Derived.Shelf.Strings.Search1
import Derived.Shelf.Strings.Search2
import Derived.Shelf.Strings.Search3
import Derived.Shelf.Strings.Count
import Derived.Shelf.Strings.Shaped
import Derived.Shelf.Strings.Split
import Derived.Shelf.Strings.SplitShaped
import Derived.Shelf.Unicode.DecodeSlow
import Derived.Test.YtpmgjpchpmkklaaGreatDoorProg
import Derived.Shelf.Strings.SplitCore
import Derived.Below
import Derived.Deep.RegionHeld
import Derived.Deep.CutRange
import Derived.Deep.RegionHeldLaw
import Derived.Lib.SliceRun
import Derived.Deep.LoopGhost
import Derived.Test.YtpmgjpchpmkklaaGreatDoorT1
import Derived.Test.YtpmgjpchpmkklaaGreatDoorT2
import Derived.Test.YtpmgjpchpmkklaaGreatDoorT3
import Derived.Test.YtpmgjpchpmkklaaGreatDoorT4
import Derived.Test.YtpmgjpchpmkklaaGreatDoorT6
import Derived.Test.YtpmgjpchpmkklaaGreatDoorT8
import Derived.Test.YtpmgjpchpmkklaaGreatDoorT9
import Derived.Test.YtpmgjpchpmkklaaGreatDoorT0
set_option maxRecDepth 100000
set_option maxHeartbeats 16000000
namespace Go.Proofs
open Go.Shelf
def Tryz.lays146_ren : Go.Shelf.Ren := ⟨fun | 146 => 84 | 221 => 99 | 268 => 104 | 138 => 105 | 143 => 106 | 195 => 110 | 197 => 111 | 218 => 112 | 219 => 113 | 260 => 114 | 217 => 115 | 225 => 116 | 224 => 117 | 267 => 118 | 266 => 119 | 314 => 120 | n => n, fun | 9 => 9 | 31 => 28 | 3 => 3 | 4 => 4 | 0 => 0 | 105 => 129 | 21 => 21 | 5 => 5 | 46 => 117 | 119 => 132 | 139 => 135 | 138 => 134 | 146 => 137 | 51 => 136 | n => n, fun | 1 => 2 | 3 => 3 | 4 => 4 | n => n⟩
theorem Tryz.lays146 : Go.Proofs.Lays.n146 Tryz.prog Tryz.lays146_ren := {
 mixed := by kernel_rfl
 f138 := Tryz.func105.trans (congrArg some (by kernel_rfl))
 f143 := Tryz.func106.trans (congrArg some (by kernel_rfl))
 f146 := Tryz.func84.trans (congrArg some (by kernel_rfl))
 f195 := Tryz.func110.trans (congrArg some (by kernel_rfl))
 f197 := Tryz.func111.trans (congrArg some (by kernel_rfl))
 f217 := Tryz.func115.trans (congrArg some (by kernel_rfl))
 f218 := Tryz.func112.trans (congrArg some (by kernel_rfl))
 f219 := Tryz.func113.trans (congrArg some (by kernel_rfl))
 f221 := Tryz.func99.trans (congrArg some (by kernel_rfl))
 f224 := Tryz.func117.trans (congrArg some (by kernel_rfl))
 f225 := Tryz.func116.trans (congrArg some (by kernel_rfl))
 f260 := Tryz.func114.trans (congrArg some (by kernel_rfl))
 f266 := Tryz.func119.trans (congrArg some (by kernel_rfl))
 f267 := Tryz.func118.trans (congrArg some (by kernel_rfl))
 f268 := Tryz.func104.trans (congrArg some (by kernel_rfl))
 f314 := Tryz.func120.trans (congrArg some (by kernel_rfl))
 t0 := Tryz.underlying0
 a0 := Tryz.isAgg0
 z0 := Tryz.sizeOf0
 v0 := Tryz.zeroValue0
 t3 := Tryz.underlying3
 a3 := Tryz.isAgg3
 z3 := Tryz.sizeOf3
 v3 := Tryz.zeroValue3
 t4 := Tryz.underlying4
 a4 := Tryz.isAgg4
 z4 := Tryz.sizeOf4
 v4 := Tryz.zeroValue4
 t5 := Tryz.underlying5
 a5 := Tryz.isAgg5
 z5 := Tryz.sizeOf5
 v5 := Tryz.zeroValue5
 t9 := Tryz.underlying9
 a9 := Tryz.isAgg9
 z9 := Tryz.sizeOf9
 v9 := Tryz.zeroValue9
 t21 := Tryz.underlying21
 a21 := Tryz.isAgg21
 z21 := Tryz.sizeOf21
 v21 := Tryz.zeroValue21
 t31 := Tryz.underlying28
 a31 := Tryz.isAgg28
 z31 := Tryz.sizeOf28
 v31 := Tryz.zeroValue28
 t46 := Tryz.underlying117
 a46 := Tryz.isAgg117
 z46 := Tryz.sizeOf117
 v46 := Tryz.zeroValue117
 t51 := Tryz.underlying136
 a51 := Tryz.isAgg136
 z51 := Tryz.sizeOf136
 v51 := Tryz.zeroValue136
 t105 := Tryz.underlying129
 a105 := Tryz.isAgg129
 z105 := Tryz.sizeOf129
 v105 := Tryz.zeroValue129
 t119 := Tryz.underlying132
 a119 := Tryz.isAgg132
 z119 := Tryz.sizeOf132
 t138 := Tryz.underlying134
 a138 := Tryz.isAgg134
 z138 := Tryz.sizeOf134
 v138 := Tryz.zeroValue134
 t139 := Tryz.underlying135
 a139 := Tryz.isAgg135
 z139 := Tryz.sizeOf135
 v139 := Tryz.zeroValue135
 t146 := Tryz.underlying137
 a146 := Tryz.isAgg137
 z146 := Tryz.sizeOf137
 v146 := Tryz.zeroValue137
 g1 := by kernel_rfl
 g3 := by kernel_rfl
 g4 := by kernel_rfl }
def Tryz.laysM316_ren : Go.Shelf.Ren := ⟨fun | 316 => 62 | n => n, fun | 9 => 9 | 3 => 3 | 4 => 4 | 37 => 26 | 0 => 0 | 127 => 107 | 5 => 5 | n => n, fun | n => n⟩
theorem Tryz.laysM316 : Go.Proofs.LaysM.n316 Tryz.prog Tryz.laysM316_ren := {
 mixed := by kernel_rfl
 f316 := Tryz.func62.trans (congrArg some (by kernel_rfl))
 t0 := Tryz.underlying0
 a0 := Tryz.isAgg0
 z0 := Tryz.sizeOf0
 v0 := Tryz.zeroValue0
 t3 := Tryz.underlying3
 a3 := Tryz.isAgg3
 z3 := Tryz.sizeOf3
 v3 := Tryz.zeroValue3
 t4 := Tryz.underlying4
 a4 := Tryz.isAgg4
 z4 := Tryz.sizeOf4
 v4 := Tryz.zeroValue4
 t9 := Tryz.underlying9
 a9 := Tryz.isAgg9
 z9 := Tryz.sizeOf9
 v9 := Tryz.zeroValue9
 t37 := Tryz.underlying26
 a37 := Tryz.isAgg26
 z37 := Tryz.sizeOf26
 v37 := Tryz.zeroValue26
 t127 := Tryz.underlying107
 a127 := Tryz.isAgg107
 z127 := Tryz.sizeOf107
 v127 := Tryz.zeroValue107
 t5 := Tryz.underlying5
 a5 := Tryz.isAgg5
 z5 := Tryz.sizeOf5
 v5 := Tryz.zeroValue5
 i0 := by kernel_rfl
 i3 := by kernel_rfl
 i4 := by kernel_rfl
 i5 := by kernel_rfl
 i9 := by kernel_rfl
 i37 := by kernel_rfl
 i127 := by kernel_rfl }
open Go.RowKit in
theorem Tryz.stringslite_Clone (s : ByteArray) (w : World) (hlim : s.size ≤ 281474976710656) :
 Calls Tryz.prog 62 #[.string s] w fun e w' => e = .returned (.string s) ∧ Below w.heap.size w w' := Any.stringslite_Clone Tryz.laysM316 s w hlim
end Go.Proofs
namespace Go.Proofs.YtpmgjpchpmkklaaGreatDoor
open Go.ChangeShapes Go.WideShapes Go.ChangeAt Go.RowKit Mem
abbrev LaidN := Laid
theorem LaidN.below {w w' : World} (h : LaidN w) (b : Below w.heap.size w w') : LaidN w' := Laid.below h b h.top
def Ans (v : Value) (w : World) (e : Ending) (w' : World) : Prop := e = .returned v ∧ Below w.heap.size w w'
theorem Pure.ans {v : Value} {w w' : World} {e : Ending} (h : Pure v w e w') : Ans v w e w' := ⟨h.1, by rw [← h.2]; exact Below.refl _ _⟩
theorem ne_facts {s : ByteArray} (h : s ≠ ⟨#[]⟩) : (s.toList != (⟨#[]⟩ : ByteArray).toList) = true ∧ (s.toList != []) = true ∧ s.toList.isEmpty = false ∧ (s.toList == (⟨#[]⟩ : ByteArray).toList) = false ∧ (s.toList == []) = false := by
 have e0 : (⟨#[]⟩ : ByteArray).toList = [] := by rw [ByteArray.toList_eq]
 have sx : (s.toList != (⟨#[]⟩ : ByteArray).toList) = true := by rw [str_bne]; simpa using h
 have sy : (s.toList == (⟨#[]⟩ : ByteArray).toList) = false := by rw [str_beq]; simpa using h
 have sx3 : (s.toList != []) = true := by rwa [e0] at sx
 have sy3 : (s.toList == []) = false := by rwa [e0] at sy
 exact ⟨sx, sx3, by rw [List.isEmpty_eq_false_iff]; simpa using sx3, sy, sy3⟩
theorem size_0 {s : ByteArray} (h : s.size = 0) : s = ⟨#[]⟩ := by
 rw [← sst_out s]
 have := len_str s
 rw [h] at this
 rw [List.length_eq_zero_iff.1 this]
 rfl
theorem nletter_any (c : Nat) (_h : c < 256) (w : World) : Calls Tryz.prog 86 #[.int .u8 (c : Int)] w (Pure (.bool (Nm.lt c)) w) := by
 obtain ⟨b, hb⟩ : ∃ b, b = Nm.lt c := ⟨_, rfl⟩
 rw [← hb]
 unfold Nm.lt at hb
 rcases (show c < 65 ∨ (65 ≤ c ∧ c ≤ 90) ∨ (90 < c ∧ c < 95) ∨ c = 95 ∨ c = 96 ∨ (97 ≤ c ∧ c ≤ 122) ∨ 122 < c by omega) with g | ⟨g1, g2⟩ | ⟨g1, g2⟩ | g | g | ⟨g1, g2⟩ | g
 all_goals
  first
   | (have hq : b = true := by rw [hb, decide_eq_true_eq]; omega)
   | (have hq : b = false := by rw [hb, decide_eq_false_iff_not]; omega)
  subst hq
  clear hb
  try subst g
  try (have t90 : (c : Int) ≤ 90 := by omega)
  try (have t90 : ¬ (c : Int) ≤ 90 := by omega)
  try (have t122 : (c : Int) ≤ 122 := by omega)
  try (have t122 : ¬ (c : Int) ≤ 122 := by omega)
  try (have t65 : (65 : Int) ≤ (c : Int) := by omega)
  try (have t65 : ¬ (65 : Int) ≤ (c : Int) := by omega)
  try (have t97 : (97 : Int) ≤ (c : Int) := by omega)
  try (have t97 : ¬ (97 : Int) ≤ (c : Int) := by omega)
  try (have q95 : ((c : Int) == 95) = false := by rw [beq_eq_false_iff_ne]; omega)
  go_enter Tryz.func86, Tryz.ntmps86
  go_wp2_with fail
  go_ret
  exact ⟨rfl, rfl⟩
theorem ndigit_any (c : Nat) (_h : c < 256) (w : World) : Calls Tryz.prog 85 #[.int .u8 (c : Int)] w (Pure (.bool (Jx.isD c)) w) := by
 obtain ⟨b, hb⟩ : ∃ b, b = Jx.isD c := ⟨_, rfl⟩
 rw [← hb]
 unfold Jx.isD at hb
 rcases (show c < 48 ∨ (48 ≤ c ∧ c ≤ 57) ∨ 57 < c by omega) with g | ⟨g1, g2⟩ | g
 all_goals
  first
   | (have hq : b = true := by rw [hb, decide_eq_true_eq]; omega)
   | (have hq : b = false := by rw [hb, decide_eq_false_iff_not]; omega)
  subst hq
  clear hb
  try (have t57 : (c : Int) ≤ 57 := by omega)
  try (have t57 : ¬ (c : Int) ≤ 57 := by omega)
  try (have t48 : (48 : Int) ≤ (c : Int) := by omega)
  try (have t48 : ¬ (48 : Int) ≤ (c : Int) := by omega)
  go_enter Tryz.func85, Tryz.ntmps85
  go_wp2_with fail
  go_ret
  exact ⟨rfl, rfl⟩
theorem lt_digit {c : Nat} (h : Nm.lt c = true) : Jx.isD c = false := by
 unfold Nm.lt at h
 unfold Jx.isD
 rw [decide_eq_true_eq] at h
 rw [decide_eq_false_iff_not]; omega
theorem ch_digit {c : Nat} (h : Nm.ch c = true) (k : Jx.isD c = false) : Nm.lt c = true := by
 unfold Nm.ch at h; rw [k, Bool.or_false] at h; exact h
theorem nSimple_pure (s : ByteArray) (hs : s.size ≤ 1000000000) (w : World) : Calls Tryz.prog 68 #[.string s] w (Pure (.bool (Nm.simple s.data.toList)) w) := by
 obtain ⟨l, hl⟩ : ∃ l, l = s.data.toList := ⟨_, rfl⟩
 have ix := fun j h W => idx_str s j h W
 have ln := len_str s
 rw [← hl] at ix ln ⊢
 have SI := Lib.hid (@simple_iff l)
 have NO := Lib.hid (@simple_no l)
 obtain ⟨R, hR⟩ : ∃ R, R = Nm.simple l := ⟨_, rfl⟩
 rw [← hR] at SI NO ⊢
 have IX := Lib.hid ix
 have LT := Lib.hid (fun c h W => nletter_any c h W)
 have DG := Lib.hid (fun c h W => ndigit_any c h W)
 have LN := Lib.hid ln
 clear ix
 by_cases h0 : s.size = 0
 · have Z := Lib.hid (NO.out fun h => h.1 (by rw [LN.out]; exact h0))
   obtain rfl := size_0 h0
   clear IX LT DG NO SI LN hR h0 hl ln hs
   go_enter Tryz.func68, Tryz.ntmps68
   go_wp2_with fail
   go_ret
   exact pure_ret (by first | (rw [Z.out]; done) | (rw [Z.out]; rfl))
 · obtain ⟨n1, n2, n3, n4, n5⟩ := ne_facts (s := s) (fun e => h0 (by rw [e]; rfl))
   obtain ⟨n, hn⟩ : ∃ n, n = s.size := ⟨_, rfl⟩
   have HN := Lib.hid hn
   rw [← hn] at h0 hs IX LN
   clear hl hR hn ln
   by_cases h1 : 100 < n
   · have q1 : (100 : Int) < (s.size : Int) := by rw [← HN.out]; omega
     have Z := Lib.hid (NO.out fun h => by have := h.2.1; rw [LN.out] at this; omega)
     clear IX LT DG NO SI
     go_enter Tryz.func68, Tryz.ntmps68
     go_wp2_with fail
     go_ret
     exact pure_ret (by first | (rw [Z.out]; done) | (rw [Z.out]; rfl))
   · have q1 : ¬ (100 : Int) < (s.size : Int) := by rw [← HN.out]; omega
     have i0 := IX.out 0 (by omega)
     have D0 := Lib.hid (DG.out (Jx.byt l 0) (Jx.byt_lt l 0))
     obtain ⟨b, hb⟩ : ∃ b, b = Jx.isD (Jx.byt l 0) := ⟨_, rfl⟩
     rw [← hb] at D0
     have HB := Lib.hid hb
     rw [show ((0 : Nat) : Int) = 0 from rfl] at i0
     clear hb
     cases b with
     | true =>
      have Z := Lib.hid (NO.out fun h => by have := lt_digit h.2.2.1; rw [← HB.out] at this; cases this)
      clear IX LT DG NO SI HB
      go_enter Tryz.func68, Tryz.ntmps68
      go_wp2_with fail
      with_reducible refine (D0.out _).mono ?_
      rintro e w1 ⟨rfl, rfl⟩
      go_wp2_with fail
      go_ret
      exact pure_ret (by first | (rw [Z.out]; done) | (rw [Z.out]; rfl))
     | false =>
      have hn1 : n ≤ 100 := by omega
      have hn0 : n ≠ 0 := h0
      have Y : Hid ((∀ j, j < n → Nm.ch (Jx.byt l j) = true) → R = true) := fun h => SI.out.2 ⟨by rw [LN.out]; exact hn0, by rw [LN.out]; exact hn1, ch_digit (h 0 (by omega)) HB.out.symm, by rw [LN.out]; exact h⟩
      have X : Hid (∀ j, j < n → Nm.ch (Jx.byt l j) = false → R = false) := fun j hj e => NO.out fun h => by
       have := h.2.2.2 j (by rw [LN.out]; exact hj)
       rw [e] at this; cases this
      clear NO SI HB
      go_enter Tryz.func68, Tryz.ntmps68
      go_wp2_with fail
      with_reducible refine (D0.out _).mono ?_
      rintro e w1 ⟨rfl, rfl⟩
      go_wp2_with fail
      go_loopw [18] (fun t wr => ∃ j : Nat, j ≤ n ∧ t = .int .i64 (j : Int) ∧ Hid (∀ m, m < j → Nm.ch (Jx.byt l m) = true) ∧ wr = w) (fun t _ => n - (intOf t).toNat)
      case atStart => exact ⟨0, Nat.zero_le _, rfl, fun _ h => absurd h (Nat.not_lt_zero _), rfl⟩
      case round =>
       obtain ⟨j, hj, rfl, AL, rfl⟩ := hrel
       by_cases hjn : j < n
       · have qj : (j : Int) < (s.size : Int) := by rw [← HN.out]; omega
         have ij := IX.out j (by omega)
         have LJ := Lib.hid (LT.out (Jx.byt l j) (Jx.byt_lt l j))
         have DJ := Lib.hid (DG.out (Jx.byt l j) (Jx.byt_lt l j))
         have XJ := Lib.hid (X.out j hjn)
         have CH : Hid (Nm.ch (Jx.byt l j) = (Nm.lt (Jx.byt l j) || Jx.isD (Jx.byt l j))) := rfl
         have NX : Hid (Nm.ch (Jx.byt l j) = true → ∀ m, m < j + 1 → Nm.ch (Jx.byt l m) = true) := fun e m hm => by
          rcases Nat.lt_or_ge m j with g | g
          · exact AL.out m g
          · obtain rfl : m = j := by omega
            exact e
         obtain ⟨C, hC⟩ : ∃ C, C = Nm.ch (Jx.byt l j) := ⟨_, rfl⟩
         obtain ⟨a, ha⟩ : ∃ a, a = Nm.lt (Jx.byt l j) := ⟨_, rfl⟩
         obtain ⟨d, hd⟩ : ∃ d, d = Jx.isD (Jx.byt l j) := ⟨_, rfl⟩
         rw [← hC] at XJ CH NX
         rw [← ha] at LJ CH
         rw [← hd] at DJ CH
         clear hC ha hd
         go_wp2_with fail
         with_reducible refine (LJ.out _).mono ?_
         rintro e w1 ⟨rfl, rfl⟩
         cases a with
         | true =>
          have nx := NX.out (by rw [CH.out]; rfl)
          have NX2 := Lib.hid nx
          clear nx NX
          go_wp2_with fail
          go_roundw
          case rel => exact ⟨j + 1, by omega, by go_num, NX2, by first | rfl | trivial⟩
          case measure => simp [intOf]; omega
         | false =>
          go_wp2_with fail
          with_reducible refine (DJ.out _).mono ?_
          rintro e w1 ⟨rfl, rfl⟩
          cases d with
          | true =>
           have nx := NX.out (by rw [CH.out]; rfl)
           have NX2 := Lib.hid nx
           clear nx NX
           go_wp2_with fail
           go_roundw
           case rel => exact ⟨j + 1, by omega, by go_num, NX2, by first | rfl | trivial⟩
           case measure => simp [intOf]; omega
          | false =>
           have Z := Lib.hid (XJ.out (by rw [CH.out]; rfl))
           go_wp2_with fail
           go_ret
           exact pure_ret (by first | (rw [Z.out]; done) | (rw [Z.out]; rfl))
       · obtain rfl : j = n := by omega
         have qj : ¬ (j : Int) < (s.size : Int) := by rw [← HN.out]; omega
         have Z := Lib.hid (Y.out AL.out)
         clear hjn
         go_wp2_with fail
         go_ret
         exact pure_ret (by first | (rw [Z.out]; done) | (rw [Z.out]; rfl))
theorem nSimple_any (s : ByteArray) (hs : s.size ≤ 1000000000) (w : World) (_hL : LaidN w) : Calls Tryz.prog 68 #[.string s] w (Ans (.bool (Nm.simple s.data.toList)) w) :=
 (nSimple_pure s hs w).mono fun _ _ h => h.ans
def Cut (s : ByteArray) (w : World) (e : Ending) (w' : World) : Prop :=
 ∃ L : List ByteArray, L.map (·.data.toList) = Nm.parts s.data.toList ∧ e = .returned (.slice (some ⟨w.heap.size, 0, none⟩) L.length L.length) ∧ w' = w.alloc (.cells (L.map Value.string).toArray 9)
theorem split_any (s : ByteArray) (hs : s.size ≤ 1000000000) (w : World) : Calls Tryz.prog 84 #[.string s, .string ⟨#[46]⟩] w (Cut s w) := by
 have L := Tryz.lays146
 have hle := Lib.countB_le ⟨#[46]⟩ (by decide) s.size s (Nat.le_refl _)
 have hlen := Lib.splitB_all ⟨#[46]⟩ (by decide) 0 _ s rfl
 have c : Calls Tryz.prog 99 #[.string s, .string ⟨#[46]⟩, .int .i64 0, .int .i64 (-1)] w fun e w' =>
  e = .returned (.slice (some ⟨w.heap.size, 0, none⟩) (Lib.splitB ⟨#[46]⟩ 0 (Lib.countB s ⟨#[46]⟩ + 1 - 1) s).length (Lib.countB s ⟨#[46]⟩ + 1)) ∧ w' = w.alloc (.cells (Lib.cellsOf (Lib.splitB ⟨#[46]⟩ 0 (Lib.countB s ⟨#[46]⟩ + 1 - 1) s) (Lib.countB s ⟨#[46]⟩ + 1)) 9) :=
  Any.strings_genSplit_core { L with } (by kernel_rfl) s ⟨#[46]⟩ 0 (-1) (Lib.countB s ⟨#[46]⟩ + 1) w (by omega) (by decide) (by decide)
   (fun x cc _ => by
    refine (Any.strings_Index_one { L with } x 46 (w.alloc (.cells cc 9))).mono ?_
    rintro e w' ⟨h1, h2⟩
    refine ⟨?_, h2⟩
    rw [h1]
    show _ = Ending.returned (Value.int .i64 (Lib.index x.data.toList [46]))
    rw [Lib.index_one])
   (by
    refine (Any.strings_Count_one { L with } s 46 w).mono ?_
    rintro e w' ⟨h1, h2⟩
    refine ⟨?_, h2⟩
    rw [h1]
    show _ = Ending.returned (Value.int .i64 ((Lib.count s.data.toList [46] : Nat) : Int))
    rw [Lib.count_one]
    rfl)
   (by decide) (by decide) (by rw [if_pos (by decide)]; omega)
 rw [Nat.add_sub_cancel, hlen] at c
 have e2 : Lib.cellsOf (Lib.splitB ⟨#[46]⟩ 0 (Lib.countB s ⟨#[46]⟩) s) (Lib.countB s ⟨#[46]⟩ + 1) = ((Lib.splitB ⟨#[46]⟩ 0 (Lib.countB s ⟨#[46]⟩) s).map Value.string).toArray := by rw [← hlen]; exact Lib.cellsOf_full _
 rw [e2, ← hlen] at c
 have e3 : (Lib.splitB ⟨#[46]⟩ 0 (Lib.countB s ⟨#[46]⟩) s).map (·.data.toList) = Nm.parts s.data.toList := by
  rw [Lib.splitB_data, ← Nm.splitK_parts]
 generalize Lib.splitB ⟨#[46]⟩ 0 (Lib.countB s ⟨#[46]⟩) s = L0 at *
 have C := Lib.hid c
 have E3 := Lib.hid e3
 clear c e3 e2 hlen hle L
 go_enter Tryz.func84, Tryz.ntmps84
 go_wp2_with fail
 refine (C.out).mono ?_
 rintro e w1 ⟨rfl, rfl⟩
 go_wp2_with fail
 go_ret
 exact ⟨L0, E3.out, rfl, rfl⟩
theorem sclone_any (s : ByteArray) (hs : s.size ≤ 1000000000) (w : World) : Calls Tryz.prog 43 #[.string s] w (Ans (.string s) w) := by
 have C := Lib.hid (fun W => Tryz.stringslite_Clone s W (by omega))
 go_enter Tryz.func43, Tryz.ntmps43
 go_wp2_with fail
 refine (C.out _).mono ?_
 rintro e w1 ⟨rfl, b1⟩
 go_wp2_with fail
 go_ret
 exact ⟨rfl, b1⟩
theorem parts_cell (w : World) (L : List ByteArray) (i : Nat) (h : i < L.length) : (w.alloc (.cells (L.map Value.string).toArray 9)).cell? ⟨w.heap.size, i, none⟩ = some (.string (L.getD i ⟨#[]⟩)) := by
 have hh : (w.alloc (.cells (L.map Value.string).toArray 9)).heap[w.heap.size]? = some (.cells (L.map Value.string).toArray 9 (0, 0)) := heap_alloc_new w _
 rw [cell_of_row _ _ _ _ _ _ hh]
 simp [List.getD, List.getElem?_eq_getElem h]
theorem nFull_any (s : ByteArray) (hs : s.size ≤ 1000000000) (w : World) (_hL : LaidN w) : Calls Tryz.prog 65 #[.string s] w (Ans (.bool (Nm.full s.data.toList)) w) := by
 have ln := len_str s
 have FP := Nm.full_parts' s.data.toList
 rw [ln] at FP
 obtain ⟨R, hR⟩ : ∃ R, R = Nm.full s.data.toList := ⟨_, rfl⟩
 rw [← hR] at FP ⊢
 by_cases h1 : 100 < s.size
 · have q : (100 : Int) < (s.size : Int) := by omega
   have Z : Hid (R = false) := by show _ = _; rw [FP, decide_eq_false (by omega)]; rfl
   clear hR FP
   go_enter Tryz.func65, Tryz.ntmps65
   go_wp2_with fail
   go_ret
   exact ⟨by first | (rw [Z.out]; done) | (rw [Z.out]; rfl), Below.refl _ _⟩
 · have q : ¬ (100 : Int) < (s.size : Int) := by omega
   rw [decide_eq_true (by omega), Bool.true_and] at FP
   have SPL := Lib.hid (fun W => split_any s hs W)
   have FPH := Lib.hid FP
   have hsz : s.size ≤ 100 := by omega
   clear FP hR h1
   go_enter Tryz.func65, Tryz.ntmps65
   go_wp2_with fail
   refine (SPL.out _).mono ?_
   rintro e w1 ⟨L, hL, rfl, rfl⟩
   have KL : Hid (∀ i, i < L.length → (L.getD i ⟨#[]⟩).size ≤ 1000000000) := fun i hi => by
    have := Nm.parts_small s.data.toList ((L.getD i ⟨#[]⟩).data.toList) (by rw [← hL]; exact List.mem_map.2 ⟨_, by simp [List.getD, List.getElem?_eq_getElem hi], rfl⟩)
    rw [len_str] at this
    omega
   have RA : Hid (R = L.all fun x => Nm.simple x.data.toList) := by show _ = _; rw [FPH.out, ← hL, List.all_map]; rfl
   have nb : L.length ≤ 101 := by have a := congrArg List.length hL; have b := Nm.parts_count s.data.toList; rw [List.length_map] at a; omega
   have CE := fun i h => parts_cell w L i h
   have NB : w.heap.size < (w.alloc (.cells (L.map Value.string).toArray 9)).heap.size := by simp
   have BW : Below w.heap.size w (w.alloc (.cells (L.map Value.string).toArray 9)) := (Below.refl _ _).alloc (Nat.le_refl _) _
   generalize w.alloc (.cells (L.map Value.string).toArray 9) = w2 at *
   obtain ⟨n, hn⟩ : ∃ n, n = L.length := ⟨_, rfl⟩
   rw [← hn] at CE KL nb ⊢
   have HN := Lib.hid hn
   clear hL hn FPH SPL
   have CEH := Lib.hid CE
   clear CE
   go_wp2_with fail
   go_loopw [11] (fun t wr => ∃ j : Nat, j ≤ n ∧ t = .int .i64 (j : Int) ∧ Hid (∀ m, m < j → Nm.simple (L.getD m ⟨#[]⟩).data.toList = true) ∧ wr = w2) (fun t _ => n - (intOf t).toNat)
   case atStart => exact ⟨0, Nat.zero_le _, rfl, fun _ h => absurd h (Nat.not_lt_zero _), rfl⟩
   case round =>
    obtain ⟨j, hj, rfl, AL, rfl⟩ := hrel
    by_cases hjn : j < n
    · have qj : (j : Int) < (n : Int) := by omega
      have cj := CEH.out j hjn
      have SJ := Lib.hid (fun W => nSimple_pure (L.getD j ⟨#[]⟩) (KL.out j hjn) W)
      have NX : Hid (Nm.simple (L.getD j ⟨#[]⟩).data.toList = true → ∀ m, m < j + 1 → Nm.simple (L.getD m ⟨#[]⟩).data.toList = true) := fun e m hm => by
       rcases Nat.lt_or_ge m j with g | g
       · exact AL.out m g
       · obtain rfl : m = j := by omega
         exact e
      have XJ : Hid (Nm.simple (L.getD j ⟨#[]⟩).data.toList = false → R = false) := fun e => by
       rw [RA.out, List.all_eq_false]
       exact ⟨L.getD j ⟨#[]⟩, by rw [List.getD, List.getElem?_eq_getElem (by rw [← HN.out]; exact hjn)]; simp, by rw [e]; decide⟩
      generalize L.getD j ⟨#[]⟩ = P at *
      obtain ⟨b, hb⟩ : ∃ b, b = Nm.simple P.data.toList := ⟨_, rfl⟩
      rw [← hb] at SJ NX XJ
      clear hb
      go_wp2_with fail
      with_reducible refine (SJ.out _).mono ?_
      rintro e w1 ⟨rfl, rfl⟩
      cases b with
      | true =>
       have NX2 := Lib.hid (NX.out rfl)
       go_wp2_with fail
       go_roundw
       case rel => exact ⟨j + 1, by omega, by go_num, NX2, by first | rfl | trivial⟩
       case measure => simp [intOf]; omega
      | false =>
       have Z := Lib.hid (XJ.out rfl)
       go_wp2_with fail
       go_ret
       exact ⟨by first | (rw [Z.out]; done) | (rw [Z.out]; rfl), BW⟩
    · obtain rfl : j = n := by omega
      have qj : ¬ (j : Int) < (j : Int) := by omega
      have Z : Hid (R = true) := by
       show _ = _
       rw [RA.out, List.all_eq_true]
       intro x hx
       obtain ⟨m, hm, rfl⟩ := List.getElem_of_mem hx
       have := AL.out m (by rw [HN.out]; exact hm)
       rwa [List.getD, List.getElem?_eq_getElem hm, Option.getD_some] at this
      clear hjn
      go_wp2_with fail
      go_ret
      exact ⟨by first | (rw [Z.out]; done) | (rw [Z.out]; rfl), BW⟩
end Go.Proofs.YtpmgjpchpmkklaaGreatDoor
namespace Go.Proofs.YtpmgjpchpmkklaaGreatDoor
open Go.RowKit Mem
def Alike (v u : Value) : Prop := (∃ k n m, v = .int k n ∧ u = .int k m) ∨ (∃ s t, v = .string s ∧ u = .string t) ∨ u = v
structure Sim (S : Nat → Prop) (w w' : World) : Prop where
 os : w'.os = w.os
 tape : w'.tape = w.tape
 output : w'.output = w.output
 size : w'.heap.size = w.heap.size
 out : ∀ k, ¬ S k → w'.heap[k]? = w.heap[k]?
 fro : ∀ p, w'.frozen? p = w.frozen? p
 like : ∀ (g i : Nat) v, w.cell? ⟨g, i, none⟩ = some v → ∃ u, w'.cell? ⟨g, i, none⟩ = some u ∧ Alike v u
def Cp (sc : Sc) (w : World) (l h : Nat) (v : Value) : Prop :=
 ∃ A c, ∃ S : Nat → Prop, v = .agg #[.slice A sc.nodes.length c, .int .i64 sc.root] ∧ (∀ b, S b → l ≤ b ∧ b < h) ∧ Lies w S sc.enc [.slice A sc.nodes.length c, .int .i64 sc.root] ∧ ∀ p : Addr, S p.block → w.frozen? p = false
def Bx (w : World) (l h : Nat) (v : Value) : Prop :=
 v = .pointer (some ⟨l, 0, none⟩) ∧ h = l + 1 ∧ (∃ x, w.cell? ⟨l, 0, none⟩ = some x) ∧ (∃ x, w.cell? ⟨l, 1, none⟩ = some x) ∧ w.frozen? ⟨l, 0, none⟩ = false ∧ w.frozen? ⟨l, 1, none⟩ = false
def Hd (w : World) (l : Nat) (v : Value) : Prop := ∃ x y, v = .agg #[x, y] ∧ w.cell? ⟨l, 0, none⟩ = some x ∧ w.cell? ⟨l, 1, none⟩ = some y
structure Side (sc : Sc) (base : Nat) (w : World) (bc bb bs : Bool) (vc vb : Value) (lc hc lb hb : Nat) : Prop where
 cp : bc = true → Cp sc w lc hc vc ∧ base ≤ lc
 bx : bb = true → Bx w lb hb vb ∧ base ≤ lb
 hd : bs = true → bc = true ∧ bb = true ∧ Hd w lb vc
 szc : hc ≤ w.heap.size
 szb : hb ≤ w.heap.size
 ap : hc ≤ lb ∨ hb ≤ lc
structure Sides (sc : Sc) (base : Nat) (w0 w : World) (bc bb bs : Bool) (vc vb : Value) (lc hc lb hb : Nat) (dc db ds : Bool) (uc ub : Value) (mc kc mb kb : Nat) : Prop where
 bel : Below base w0 w
 one : Side sc base w bc bb bs vc vb lc hc lb hb
 two : Side sc base w dc db ds uc ub mc kc mb kb
 cc : hc ≤ mc ∨ kc ≤ lc
 cb : hc ≤ mb ∨ kb ≤ lc
 bc_ : hb ≤ mc ∨ kc ≤ lb
 bb_ : hb ≤ mb ∨ kb ≤ lb
end Go.Proofs.YtpmgjpchpmkklaaGreatDoor
namespace Go.Proofs.YtpmgjpchpmkklaaGreatDoor
open Go.ChangeShapes Go.WideShapes Go.ChangeAt Go.RowKit Mem
def NewA (s : Nat) (ds : List D) (w : World) (e : Ending) (w' : World) : Prop := ∃ A c, e = .returned (.slice A ds.length c) ∧ ds.length ≤ c ∧ NewR w' w.heap.size s ds A ∧ Below w.heap.size w w'
theorem newA_ret {s n : Nat} {ds : List D} {A : Option Addr} {c : Nat} {w w' : World} (hn : n = ds.length) (hc : n ≤ c) (h : NewR w' w.heap.size s ds A) (b : Below w.heap.size w w') : NewA s ds w (.returned (.slice A n c)) w' := by
 subst hn; exact ⟨A, c, rfl, hc, h, b⟩
theorem kwt_len : ∀ (l : List ByteArray), l.length ≤ kwt l
 | [] => Nat.zero_le _
 | k :: r => by have := kwt_len r; simp only [List.length_cons, kwt]; omega
theorem valueT : RecT Tryz.prog 27 30 6 (.agg #[.int .i64 0, .int .i64 0, .int .u64 0, .slice none 0 0, .slice none 0 0, .slice none 0 0]) 96 := ⟨by kernel_rfl, by kernel_rfl, rfl, by decide, by decide⟩
theorem octT : RecT Tryz.prog 26 5 1 (.int .u8 0) 1 := ⟨by kernel_rfl, by kernel_rfl, rfl, by decide, by decide⟩
def ClA (s : Nat) (ds : List D) (w : World) (e : Ending) (w' : World) : Prop := ∃ v, e = .returned v ∧ Below w.heap.size w w' ∧ ((ds = [] ∧ ∃ A c, v = .slice A 0 c) ∨ (0 < ds.length ∧ ∃ g o c, v = .slice (some ⟨g, o, none⟩) ds.length c ∧ ds.length ≤ c ∧ InR w' w.heap.size s g o [] ds))
theorem clA_nil {s : Nat} {w w' : World} {A : Option Addr} {c : Nat} (b : Below w.heap.size w w') : ClA s [] w (.returned (.slice A 0 c)) w' := ⟨_, rfl, b, .inl ⟨rfl, A, c, rfl⟩⟩
theorem clA_own {s n : Nat} {e : TypeId} {ds : List D} {xs : List Value} {v : Value} {w w' : World} (h : OwnR w' w.heap.size e s v n xs) (hn : n = ds.length) (he : ElsS w (· < w.heap.size) s ds xs) (b : Below w.heap.size w w') : ClA s ds w (.returned v) w' := by
 subst hn
 rcases Nat.eq_zero_or_pos ds.length with h0 | h0
 · obtain ⟨A, c, ev, _⟩ := h.fl
   exact ⟨v, rfl, b, .inl ⟨List.length_eq_zero_iff.1 h0, A, c, by rw [ev, h0]⟩⟩
 · obtain ⟨g, o, c, e1, h1, h2⟩ := InR.start h h0 (he.keep (fun p hp => b.cell hp) fun _ h => h) rfl
   exact ⟨v, rfl, b, .inr ⟨h0, g, o, c, e1, h1, h2⟩⟩
theorem els_octs {w : World} {S : Nat → Prop} : ∀ (l : List UInt8), ElsS w S 1 (l.map u8D) (l.map cel)
 | [] => rfl
 | x :: r => ⟨[cel x], r.map cel, rfl, rfl, lies_i.2 rfl, els_octs r⟩
theorem cloneV_any (ds : List D) (hs : ds.length ≤ 100000000) (w : World) (A : Option Addr) (c : Nat) (h : RowD w (· < w.heap.size) 6 ds A) :
 Calls Tryz.prog 60 #[.slice A ds.length c] w (ClA 6 ds w) := by
 obtain ⟨xs, he, hf⟩ := RowD.els (by decide) h
 have FL := Lib.hid (fls_fl (B := w.heap.size) hf (fun _ h => h))
 have HE := Lib.hid he
 have nq := fun (A : Option Addr) (n c : Nat) (W : World) => Lib.run_eql_slice_nil (P := Tryz.prog) W 27 30 A n c 0 0 valueT.sl
 cases A with
 | none =>
  obtain rfl : ds = [] := by
   rcases ds with _ | ⟨x, r⟩
   · rfl
   · obtain ⟨_, _, _, e, _⟩ := h.at_ (i := 0) (by simp)
     cases e
  clear h FL hf he HE
  go_enter Tryz.func60, Tryz.ntmps60
  go_wp2_with fail
  go_ret
  exact clA_nil (Below.refl _ _)
 | some ad =>
  have W1 : Below w.heap.size w (w.alloc (.cells #[] 30)) := (Below.refl _ _).alloc (Nat.le_refl _) _
  have FW := Lib.hid (Fl.below FL.out W1)
  have O0 := Lib.hid (own_litR w 30 6 (Nat.le_refl w.heap.size))
  have HLEN : Hid (xs.length = ds.length * 6) := HE.out.len
  obtain ⟨n, hn⟩ : ∃ n, n = ds.length := ⟨_, rfl⟩
  have HN := Lib.hid hn
  rw [← hn] at hs HLEN ⊢
  clear h FL hn hf he
  go_enter Tryz.func60, Tryz.ntmps60
  go_wp2_with (at_builtin; refine wpList_appRs _ valueT rfl (.tmp 5) (.tmp 6) rfl w.heap.size _ 0 _ rfl O0.out w.heap.size (some ad) n c xs rfl HLEN.out FW.out HE.out.one (by omega) (by simp) ?_; intro v3 w3 o3 b3)
  go_ret
  exact clA_own o3 (by rw [← HN.out]; omega) (by rw [List.nil_append]; exact HE.out) (W1.trans b3)
theorem cloneS_any (ds : List D) (hs : ds.length ≤ 100000000) (w : World) (A : Option Addr) (c : Nat) (h : RowD w (· < w.heap.size) 1 ds A) :
 Calls Tryz.prog 61 #[.slice A ds.length c] w (ClA 1 ds w) := by
 obtain ⟨xs, he, hf⟩ := RowD.els (by decide) h
 have FL := Lib.hid (fls_fl (B := w.heap.size) hf (fun _ h => h))
 have HE := Lib.hid he
 have nq := fun (A : Option Addr) (n c : Nat) (W : World) => Lib.run_eql_slice_nil (P := Tryz.prog) W 28 9 A n c 0 0 textT.sl
 cases A with
 | none =>
  obtain rfl : ds = [] := by
   rcases ds with _ | ⟨x, r⟩
   · rfl
   · obtain ⟨_, _, _, e, _⟩ := h.at_ (i := 0) (by simp)
     cases e
  clear h FL hf he HE
  go_enter Tryz.func61, Tryz.ntmps61
  go_wp2_with fail
  go_ret
  exact clA_nil (Below.refl _ _)
 | some ad =>
  have W1 : Below w.heap.size w (w.alloc (.cells #[] 9)) := (Below.refl _ _).alloc (Nat.le_refl _) _
  have FW := Lib.hid (Fl.below FL.out W1)
  have O0 := Lib.hid (own_litR w 9 1 (Nat.le_refl w.heap.size))
  have HLEN : Hid (xs.length = ds.length * 1) := HE.out.len
  obtain ⟨n, hn⟩ : ∃ n, n = ds.length := ⟨_, rfl⟩
  have HN := Lib.hid hn
  rw [← hn] at hs HLEN ⊢
  clear h FL hn hf he
  go_enter Tryz.func61, Tryz.ntmps61
  go_wp2_with (at_builtin; refine wpList_appRs _ textT rfl (.tmp 5) (.tmp 6) rfl w.heap.size _ 0 _ rfl O0.out w.heap.size (some ad) n c xs rfl HLEN.out FW.out HE.out.one (by omega) (by simp) ?_; intro v3 w3 o3 b3)
  go_ret
  exact clA_own o3 (by rw [← HN.out]; omega) (by rw [List.nil_append]; exact HE.out) (W1.trans b3)
theorem cloneB_any (l : List UInt8) (hs : l.length ≤ 100000000) (w : World) (A : Option Addr) (c : Nat) (h : RowD w (· < w.heap.size) 1 (l.map u8D) A) :
 Calls Tryz.prog 40 #[.slice A l.length c] w (NewA 1 (l.map u8D) w) := by
 have FL := Lib.hid (fls_fl (B := w.heap.size) (row_cel h) (fun _ h => h))
 have nq := fun (A : Option Addr) (n c : Nat) (W : World) => Lib.run_eql_slice_nil (P := Tryz.prog) W 26 5 A n c 0 0 octT.sl
 cases A with
 | none =>
  obtain rfl : l = [] := by
   rcases l with _ | ⟨x, r⟩
   · rfl
   · obtain ⟨_, _, _, e, _⟩ := h.at_ (i := 0) (by simp)
     cases e
  clear h FL
  go_enter Tryz.func40, Tryz.ntmps40
  go_wp2_with fail
  go_ret
  exact newA_ret rfl (Nat.le_refl _) (NewR.nil_ _ _ _ _) (Below.refl _ _)
 | some ad =>
  have W1 : Below w.heap.size w (w.alloc (.cells #[] 5)) := (Below.refl _ _).alloc (Nat.le_refl _) _
  have FW := Lib.hid (Fl.below FL.out W1)
  have O0 := Lib.hid (own_litR w 5 1 (Nat.le_refl w.heap.size))
  obtain ⟨n, hn⟩ : ∃ n, n = l.length := ⟨_, rfl⟩
  have HN := Lib.hid hn
  rw [← hn] at hs ⊢
  clear h FL hn
  go_enter Tryz.func40, Tryz.ntmps40
  go_wp2_with (at_builtin; refine wpList_appRs _ octT rfl (.tmp 5) (.tmp 6) rfl w.heap.size _ 0 _ rfl O0.out w.heap.size (some ad) n c (l.map cel) rfl (by rw [List.length_map, HN.out]; omega) FW.out (by intro u hu; obtain ⟨x, _, rfl⟩ := List.mem_map.1 hu; rfl) (by omega) (by simp) ?_; intro v3 w3 o3 b3)
  obtain ⟨A', c', rfl, hc, hr⟩ := GatS.done (v := v3) (w := w3) (base := w.heap.size) (e := 5) (s := 1) (ds := l.map u8D) ⟨fun _ => False, l.map cel, by rw [List.length_map, ← HN.out]; simpa using o3, els_octs l, fun _ h => h.elim, fun _ h => h.elim⟩
  go_ret
  exact newA_ret (by simp) (by simpa using hc) hr (W1.trans b3)
theorem newV {w : World} {l : Nat} {t : V} {A3 A4 A5 : Option Addr} {c3 c4 c5 : Nat} (h3 : NewR w l 1 (t.bs.map u8D) A3) (l3 : Len t.bs.length c3) (h4 : NewR w l 6 (t.its.map V.enc) A4) (l4 : Len t.its.length c4) (h5 : NewR w l 1 (t.ks.map D.s) A5) (l5 : Len t.ks.length c5) : NewD w l t.enc [.int .i64 t.k, .int .i64 t.n, .int .u64 t.bt, .slice A3 t.bs.length c3, .slice A4 t.its.length c4, .slice A5 t.ks.length c5] := by
 obtain ⟨S3, a1, a2, a3⟩ := h3
 obtain ⟨S4, b1, b2, b3⟩ := h4
 obtain ⟨S5, e1, e2, e3⟩ := h5
 refine ⟨fun b => S3 b ∨ S4 b ∨ S5 b, fun b hb => ?_, V.out.2 ⟨_, _, _, _, _, _, rfl, l3, a2.keep (fun _ _ => rfl) (fun _ h => .inl h), l4, b2.keep (fun _ _ => rfl) (fun _ h => .inr (.inl h)), l5, row_strs.1 (e2.keep (fun _ _ => rfl) fun _ h => .inr (.inr h))⟩, fun p hp => ?_⟩
 · rcases hb with h | h | h
   · exact a1 b h
   · exact b1 b h
   · exact e1 b h
 · rcases hp with h | h | h
   · exact a3 p h
   · exact b3 p h
   · exact e3 p h
def NewN (s n : Nat) (ds : List D) (w : World) (e : Ending) (w' : World) : Prop := ∃ A c, e = .returned (.slice A n c) ∧ n ≤ c ∧ NewR w' w.heap.size s ds A ∧ Below w.heap.size w w'
theorem newN_of {P : Program} {f : FuncId} {xs : Array Value} {s n : Nat} {ds : List D} {w : World} (h : Calls P f xs w (NewA s ds w)) (hn : ds.length = n) : Calls P f xs w (NewN s n ds w) :=
 h.mono fun _ _ ⟨A, c, h1, h2, h3, h4⟩ => ⟨A, c, by rw [h1, hn], by rw [← hn]; exact h2, h3, h4⟩
theorem set6_new {w : World} {g l : Nat} (hg : g < l) (x0 x1 x2 x3 x4 x5 : Value) {s : Nat} {ds : List D} {A : Option Addr} (h : NewR w l s ds A) :
 NewR ((((((w.setCell ⟨g, 0, none⟩ x0).setCell ⟨g, 1, none⟩ x1).setCell ⟨g, 2, none⟩ x2).setCell ⟨g, 3, none⟩ x3).setCell ⟨g, 4, none⟩ x4).setCell ⟨g, 5, none⟩ x5) l s ds A :=
 (((((h.set hg x0).set hg x1).set hg x2).set hg x3).set hg x4).set hg x5
theorem post_V {fn : Func} {R : Ending → World → Prop} {a : Act} {w : World} {t : Tmp} {g : Nat} {x0 x1 x2 x3 x4 x5 : Value} (hf : fn.results = #[.cell t 30]) (hd : a.defers = [])
 (hg : a.tmps.getD t undef = .pointer (some ⟨g, 0, none⟩)) (h0 : w.cell? ⟨g, 0, none⟩ = some x0) (h1 : w.cell? ⟨g, 1, none⟩ = some x1) (h2 : w.cell? ⟨g, 2, none⟩ = some x2) (h3 : w.cell? ⟨g, 3, none⟩ = some x3) (h4 : w.cell? ⟨g, 4, none⟩ = some x4) (h5 : w.cell? ⟨g, 5, none⟩ = some x5)
 (hR : R (.returned (.agg #[x0, x1, x2, x3, x4, x5])) w) : bodyPost Tryz.prog fn R .ret a w := by
 refine bodyPost_ret ?_ hd hR
 rw [Array.getD_eq_getD_getElem?] at hg
 simp [results, hf, hg, go_sem, h0, h1, h2, h3, h4, h5]
def CpV (t : V) : Prop := ∀ (w : World) (A3 A4 A5 : Option Addr) (c3 c4 c5 : Nat), t.wt ≤ 1000000 → Lies w (· < w.heap.size) t.enc [.int .i64 t.k, .int .i64 t.n, .int .u64 t.bt, .slice A3 t.bs.length c3, .slice A4 t.its.length c4, .slice A5 t.ks.length c5] →
 Calls Tryz.prog 17 #[.agg #[.int .i64 t.k, .int .i64 t.n, .int .u64 t.bt, .slice A3 t.bs.length c3, .slice A4 t.its.length c4, .slice A5 t.ks.length c5]] w (fun e w' => ∃ B3 d3 B4 d4 B5 d5, e = .returned (.agg #[.int .i64 t.k, .int .i64 t.n, .int .u64 t.bt, .slice B3 t.bs.length d3, .slice B4 t.its.length d4, .slice B5 t.ks.length d5]) ∧ NewD w' w.heap.size t.enc [.int .i64 t.k, .int .i64 t.n, .int .u64 t.bt, .slice B3 t.bs.length d3, .slice B4 t.its.length d4, .slice B5 t.ks.length d5] ∧ Below w.heap.size w w')
theorem eachVS_any (l : List ByteArray) (hs : ∀ i (h : i < l.length), (l[i]'h).size ≤ 1000000000) (hl : l.length ≤ 100000000) (w : World) (A : Option Addr) (c : Nat) (h : FlS w (· < w.heap.size) A (l.map Value.string)) :
 Calls Tryz.prog 42 #[.slice A l.length c, .func (.func 43) #[] #[]] w (NewA 1 (l.map D.s) w) := by
 have CS := cell_set
 have LM : Hid ((l.map D.s).length = l.length) := List.length_map ..
 have CL := Lib.hid (cloneS_any (l.map D.s) (by rw [List.length_map]; exact hl) w A c (row_strs.2 h))
 rw [LM.out] at CL
 have SC := Lib.hid (fun i (h : i < l.length) W => sclone_any (l[i]'h) (hs i h) W)
 obtain ⟨n, hn⟩ : ∃ n, n = l.length := ⟨_, rfl⟩
 have HN := Lib.hid hn
 rw [← hn] at hl CL ⊢
 have hb : n ≤ 9223372036854775807 := by omega
 clear hn h hs
 go_enter Tryz.func42, Tryz.ntmps42
 go_wp2_with fail
 with_reducible refine CL.out.mono ?_
 rintro e w1 ⟨v, rfl, b1, ⟨hd, A', c', rfl⟩ | ⟨hp, g, o, c', rfl, hc, HI0⟩⟩
 · have hd2 : l = [] := List.map_eq_nil_iff.1 hd
   subst hd2
   have n0 : n = 0 := HN.out
   subst n0
   clear HN hd CL SC LM
   go_wp2_with fail
   go_loopw [12] (fun t wr => t = .int .i64 0 ∧ wr = w1) (fun _ _ => 0)
   case atStart => exact ⟨rfl, rfl⟩
   case round =>
    obtain ⟨rfl, rfl⟩ := hrel
    go_wp2_with fail
    go_ret
    exact newA_ret rfl (Nat.zero_le _) (NewR.nil_ _ _ _ _) b1
 · have HJ0 := Lib.hid HI0
   rw [LM.out] at hp hc ⊢
   rw [← HN.out] at hp hc ⊢
   have hgg := HI0.block
   clear HI0 CL
   go_wp2_with fail
   go_loopw [12] (fun t wr => ∃ j : Nat, j ≤ n ∧ t = .int .i64 (j : Int) ∧ Hid (InR wr w.heap.size 1 g o ((l.take j).map D.s) ((l.drop j).map D.s)) ∧ Hid (Below w.heap.size w wr)) (fun t _ => n - (intOf t).toNat)
   case atStart => exact ⟨0, Nat.zero_le _, rfl, HJ0.out, b1⟩
   case round =>
    obtain ⟨j, hj, rfl, HG, bl⟩ := hrel
    have bl2 := bl.out
    have z := bl2.size
    by_cases hjn : j < n
    · have h1 : j < l.length := by rw [← HN.out]; exact hjn
      have q : (j : Int) < (n : Int) := by omega
      have hg2 := HG.out
      have DR : l.drop j = (l[j]'h1) :: l.drop (j + 1) := List.drop_eq_getElem_cons h1
      rw [DR, List.map_cons] at hg2
      have LJ : ((l.take j).map D.s).length = j := by rw [List.length_map, List.length_take]; omega
      obtain ⟨cs, hcl, hcc, hcd⟩ := hg2.head
      have y0 := hcc 0 (by omega)
      rw [LJ, lies_s.1 hcd, Nat.mul_one, Nat.add_zero] at y0
      have f0 := hg2.fro (o + j)
      have gw := hg2.block.2
      have SCj := Lib.hid (SC.out j h1)
      have TK : Hid ((l.take (j + 1)).map D.s = (l.take j).map D.s ++ [D.s (l[j]'h1)]) := by
       show _ = _
       rw [List.take_succ_eq_append_getElem h1, List.map_append]; rfl
      have PUT : Hid (∀ w1, Below wr.heap.size wr w1 → InR (w1.setCell ⟨g, o + j, none⟩ (.string (l[j]'h1))) w.heap.size 1 g o ((l.take j).map D.s ++ [D.s (l[j]'h1)]) ((l.drop (j + 1)).map D.s)) := fun w1 b => hg2.put1 LJ b ⟨fun _ => False, fun _ h => h.elim, lies_s.2 rfl, fun _ h => h.elim⟩
      clear hg2 hcc hcd DR HG
      generalize l[j]'h1 = Y at *
      clear h1
      go_wp2_with fail
      with_reducible refine (SCj.out _).mono ?_
      rintro e w3 ⟨rfl, b3⟩
      have y1 := (b3.cell (p := ⟨g, o + j, none⟩) gw).trans y0
      have f1 := (b3.frozen (p := ⟨g, o + j, none⟩) gw).trans f0
      have P1 := Lib.hid (PUT.out w3 b3)
      go_wp2_with fail
      go_roundw
      case rel => exact ⟨j + 1, by omega, by go_num, by rw [TK.out]; exact P1.out, (bl2.trans (b3.mono z)).setCell hgg.1 _⟩
      case measure => simp [intOf]; omega
    · obtain rfl : j = n := by omega
      have q : ¬ (j : Int) < (j : Int) := by omega
      have TK : l.take j = l := by rw [HN.out, List.take_length]
      have DK : l.drop j = [] := by rw [HN.out, List.drop_length]
      rw [TK, DK] at HG
      have HR := Lib.hid (InR.done HG.out)
      clear HG
      go_wp2_with fail
      go_ret
      exact newA_ret (by rw [LM.out]; exact HN.out) hc HR.out bl2
theorem eachV_any (l : List V) (IHs : ∀ i (h : i < l.length), CpV (l[i]'h)) (hs : ∀ i (h : i < l.length), (l[i]'h).wt ≤ 1000000) (hl : l.length ≤ 100000000) (w : World) (A : Option Addr) (c : Nat) (h : RowD w (· < w.heap.size) 6 (l.map V.enc) A) :
 Calls Tryz.prog 41 #[.slice A l.length c, .func (.func 17) #[] #[]] w (NewA 6 (l.map V.enc) w) := by
 have CS := cell_set
 have LM : Hid ((l.map V.enc).length = l.length) := List.length_map ..
 have CL := Lib.hid (cloneV_any (l.map V.enc) (by rw [List.length_map]; exact hl) w A c h)
 rw [LM.out] at CL
 have IH := Lib.hid IHs
 have HW := Lib.hid hs
 obtain ⟨n, hn⟩ : ∃ n, n = l.length := ⟨_, rfl⟩
 have HN := Lib.hid hn
 rw [← hn] at hl CL ⊢
 have hb : n ≤ 9223372036854775807 := by omega
 clear hn h IHs hs
 go_enter Tryz.func41, Tryz.ntmps41
 go_wp2_with fail
 with_reducible refine CL.out.mono ?_
 rintro e w1 ⟨v, rfl, b1, ⟨hd, A', c', rfl⟩ | ⟨hp, g, o, c', rfl, hc, HI0⟩⟩
 · have hd2 : l = [] := List.map_eq_nil_iff.1 hd
   subst hd2
   have n0 : n = 0 := HN.out
   subst n0
   clear HN hd CL IH HW LM
   go_wp2_with fail
   go_loopw [12] (fun t wr => t = .int .i64 0 ∧ wr = w1) (fun _ _ => 0)
   case atStart => exact ⟨rfl, rfl⟩
   case round =>
    obtain ⟨rfl, rfl⟩ := hrel
    go_wp2_with fail
    go_ret
    exact newA_ret rfl (Nat.zero_le _) (NewR.nil_ _ _ _ _) b1
 · have HJ0 := Lib.hid HI0
   rw [LM.out] at hp hc ⊢
   rw [← HN.out] at hp hc ⊢
   have hgg := HI0.block
   clear HI0 CL
   go_wp2_with fail
   go_loopw [12] (fun t wr => ∃ j : Nat, j ≤ n ∧ t = .int .i64 (j : Int) ∧ Hid (InR wr w.heap.size 6 g o ((l.take j).map V.enc) ((l.drop j).map V.enc)) ∧ Hid (Below w.heap.size w wr)) (fun t _ => n - (intOf t).toNat)
   case atStart => exact ⟨0, Nat.zero_le _, rfl, HJ0.out, b1⟩
   case round =>
    obtain ⟨j, hj, rfl, HG, bl⟩ := hrel
    have bl2 := bl.out
    have z := bl2.size
    by_cases hjn : j < n
    · have h1 : j < l.length := by rw [← HN.out]; exact hjn
      have q : (j : Int) < (n : Int) := by omega
      have hg2 := HG.out
      have DR : l.drop j = (l[j]'h1) :: l.drop (j + 1) := List.drop_eq_getElem_cons h1
      rw [DR, List.map_cons] at hg2
      have LJ : ((l.take j).map V.enc).length = j := by rw [List.length_map, List.length_take]; omega
      obtain ⟨cs, hcl, hcc, hcd⟩ := hg2.head
      rw [LJ] at hcc
      obtain ⟨X3, x3, X4, x4, X5, x5, rfl, _⟩ := V.out.1 hcd
      have y0 := hcc 0 (by omega); have y1 := hcc 1 (by omega); have y2 := hcc 2 (by omega); have y3 := hcc 3 (by omega); have y4 := hcc 4 (by omega); have y5 := hcc 5 (by omega)
      rw [Nat.add_zero] at y0
      have CJ := Lib.hid (fun W (b : Below wr.heap.size wr W) => IH.out j h1 W X3 X4 X5 x3 x4 x5 (HW.out j h1) (((hcd.more z).below b).more b.size))
      have f0 := hg2.fro (o + j * 6); have f1 := hg2.fro (o + j * 6 + 1); have f2 := hg2.fro (o + j * 6 + 2); have f3 := hg2.fro (o + j * 6 + 3); have f4 := hg2.fro (o + j * 6 + 4); have f5 := hg2.fro (o + j * 6 + 5)
      have gw := hg2.block.2
      have TK : Hid ((l.take (j + 1)).map V.enc = (l.take j).map V.enc ++ [V.enc (l[j]'h1)]) := by
       show _ = _
       rw [List.take_succ_eq_append_getElem h1, List.map_append]; rfl
      have PUT : Hid (∀ w1 v0 v1 v2 v3 v4 v5, Below wr.heap.size wr w1 → NewD w1 wr.heap.size (l[j]'h1).enc [v0, v1, v2, v3, v4, v5] → InR ((((((w1.setCell ⟨g, o + j * 6, none⟩ v0).setCell ⟨g, o + j * 6 + 1, none⟩ v1).setCell ⟨g, o + j * 6 + 2, none⟩ v2).setCell ⟨g, o + j * 6 + 3, none⟩ v3).setCell ⟨g, o + j * 6 + 4, none⟩ v4).setCell ⟨g, o + j * 6 + 5, none⟩ v5) w.heap.size 6 g o ((l.take j).map V.enc ++ [(l[j]'h1).enc]) ((l.drop (j + 1)).map V.enc)) := fun w1 v0 v1 v2 v3 v4 v5 b nd => hg2.put6 LJ b nd
      clear hg2 hcc hcd DR HG
      generalize l[j]'h1 = T at *
      clear h1
      go_wp2_with fail
      with_reducible refine (CJ.out _ bqq).mono ?_
      rintro e w3 ⟨B3, d3, B4, d4, B5, d5, rfl, nd, b3'⟩
      have b3 : Below wr.heap.size wr w3 := bqq
      have ND : Hid (NewD w3 wr.heap.size T.enc [.int .i64 T.k, .int .i64 T.n, .int .u64 T.bt, .slice B3 T.bs.length d3, .slice B4 T.its.length d4, .slice B5 T.ks.length d5]) := nd.less (by simp)
      have y0 := (b3.cell (p := ⟨g, o + j * 6, none⟩) gw).trans y0; have y1 := (b3.cell (p := ⟨g, o + j * 6 + 1, none⟩) gw).trans y1; have y2 := (b3.cell (p := ⟨g, o + j * 6 + 2, none⟩) gw).trans y2; have y3 := (b3.cell (p := ⟨g, o + j * 6 + 3, none⟩) gw).trans y3; have y4 := (b3.cell (p := ⟨g, o + j * 6 + 4, none⟩) gw).trans y4; have y5 := (b3.cell (p := ⟨g, o + j * 6 + 5, none⟩) gw).trans y5
      have f0 := (b3.frozen (p := ⟨g, o + j * 6, none⟩) gw).trans f0; have f1 := (b3.frozen (p := ⟨g, o + j * 6 + 1, none⟩) gw).trans f1; have f2 := (b3.frozen (p := ⟨g, o + j * 6 + 2, none⟩) gw).trans f2; have f3 := (b3.frozen (p := ⟨g, o + j * 6 + 3, none⟩) gw).trans f3; have f4 := (b3.frozen (p := ⟨g, o + j * 6 + 4, none⟩) gw).trans f4; have f5 := (b3.frozen (p := ⟨g, o + j * 6 + 5, none⟩) gw).trans f5
      have P1 := Lib.hid (PUT.out w3 _ _ _ _ _ _ b3 ND.out)
      clear nd PUT
      go_wp2_with fail
      go_roundw
      case rel => exact ⟨j + 1, by omega, by go_num, by rw [TK.out]; exact P1.out, ((((((bl2.trans (b3.mono z)).setCell hgg.1 _).setCell hgg.1 _).setCell hgg.1 _).setCell hgg.1 _).setCell hgg.1 _).setCell hgg.1 _⟩
      case measure => simp [intOf]; omega
    · obtain rfl : j = n := by omega
      have q : ¬ (j : Int) < (j : Int) := by omega
      have TK : l.take j = l := by rw [HN.out, List.take_length]
      have DK : l.drop j = [] := by rw [HN.out, List.drop_length]
      rw [TK, DK] at HG
      have HR := Lib.hid (InR.done HG.out)
      clear HG
      go_wp2_with fail
      go_ret
      exact newA_ret (by rw [LM.out]; exact HN.out) hc HR.out bl2
theorem copyV_step (k n bt : Int) (bs : List UInt8) (its : List V) (ks : List ByteArray) (IHs : ∀ i (h : i < its.length), CpV (its[i]'h)) : CpV (.mk k n bt bs its ks) := by
 intro w A3 A4 A5 c3 c4 c5 hw ht
 have CS := cell_set
 obtain ⟨_, _, _, _, _, _, e, l3, r3, l4, r4, l5, f5⟩ := V.out.1 ht
 simp only [V.k, V.n, V.bt, V.bs, V.its, V.ks, List.cons.injEq, Value.slice.injEq, true_and, and_true] at e l3 r3 l4 r4 l5 f5
 obtain ⟨⟨rfl, rfl⟩, ⟨rfl, rfl⟩, rfl, rfl⟩ := e
 have hw' : 1 + bs.length + kwt ks + V.wts its ≤ 1000000 := by unfold V.wt at hw; exact hw
 have lk := kwt_len ks
 have li := vwts_len its
 have CBy := Lib.hid (fun W (b : Below w.heap.size w W) => newN_of (n := bs.length) (cloneB_any bs (by omega) W A3 c3 ((r3.below b).more b.size)) (List.length_map ..))
 have EV := Lib.hid (fun W (b : Below w.heap.size w W) => newN_of (n := its.length) (eachV_any its IHs (fun i h => by have := vwts_at h; omega) (by omega) W A4 c4 ((r4.below b).more b.size)) (List.length_map ..))
 have ES := Lib.hid (fun W (b : Below w.heap.size w W) => newN_of (n := ks.length) (eachVS_any ks (fun i h => by have := kwt_at h; omega) (by omega) W A5 c5 (FlS.keep (Below.keeps b) (fun _ h => Nat.lt_of_lt_of_le h b.size) f5)) (List.length_map ..))
 have NN : Hid (∀ (W : World) (B3 B4 B5 : Option Addr) (d3 d4 d5 : Nat), NewR W w.heap.size 1 (bs.map u8D) B3 → bs.length ≤ d3 → NewR W w.heap.size 6 (its.map V.enc) B4 → its.length ≤ d4 → NewR W w.heap.size 1 (ks.map D.s) B5 → ks.length ≤ d5 → NewD W w.heap.size (V.enc (.mk k n bt bs its ks)) [.int .i64 k, .int .i64 n, .int .u64 bt, .slice B3 bs.length d3, .slice B4 its.length d4, .slice B5 ks.length d5]) := fun W B3 B4 B5 d3 d4 d5 h3 k3 h4 k4 h5 k5 =>
  newV (t := .mk k n bt bs its ks) h3 ⟨k3, l3.2⟩ h4 ⟨k4, l4.2⟩ h5 ⟨k5, l5.2⟩
 simp only [V.k, V.n, V.bt, V.bs, V.its, V.ks]
 clear ht r3 r4 f5 l3 l4 l5 hw hw' lk li IHs
 obtain ⟨E, hE⟩ : ∃ E, E = V.enc (.mk k n bt bs its ks) := ⟨_, rfl⟩
 rw [← hE] at NN ⊢
 clear hE
 generalize bs.map u8D = bD at *
 generalize its.map V.enc = iD at *
 generalize ks.map D.s = kD at *
 generalize bs.length = nb at *
 generalize its.length = ni at *
 generalize ks.length = nk at *
 have H0 := Lib.hid (B6.alloc (B6.newat (w := w) (t := 30) (x0 := .int .i64 k) (x1 := .int .i64 n) (x2 := .int .u64 bt) (x3 := .slice A3 nb c3) (x4 := .slice A4 ni c4) (x5 := .slice A5 nk c5) rfl) (.cells #[.int .i64 0, .int .i64 0, .int .u64 0, .slice none 0 0, .slice none 0 0, .slice none 0 0] 30))
 have R0 := Lib.hid (B6.newat (w := w.alloc (.cells #[.int .i64 k, .int .i64 n, .int .u64 bt, .slice A3 nb c3, .slice A4 ni c4, .slice A5 nk c5] 30)) (g := w.heap.size + 1) (t := 30) (x0 := .int .i64 0) (x1 := .int .i64 0) (x2 := .int .u64 0) (x3 := .slice none 0 0) (x4 := .slice none 0 0) (x5 := .slice none 0 0) (by simp))
 have W0 := Lib.hid (bqq : Below w.heap.size w ((w.alloc (.cells #[.int .i64 k, .int .i64 n, .int .u64 bt, .slice A3 nb c3, .slice A4 ni c4, .slice A5 nk c5] 30)).alloc (.cells #[.int .i64 0, .int .i64 0, .int .u64 0, .slice none 0 0, .slice none 0 0, .slice none 0 0] 30)))
 have Z0 : Hid (((w.alloc (.cells #[.int .i64 k, .int .i64 n, .int .u64 bt, .slice A3 nb c3, .slice A4 ni c4, .slice A5 nk c5] 30)).alloc (.cells #[.int .i64 0, .int .i64 0, .int .u64 0, .slice none 0 0, .slice none 0 0, .slice none 0 0] 30)).heap.size = w.heap.size + 2) := by show _ = _; simp
 have ng : w.heap.size ≠ w.heap.size + 1 := by omega
 have nl : ¬ w.heap.size + 1 = w.heap.size := by omega
 go_enter Tryz.func17, Tryz.ntmps17
 go_wp2_with fail
 with_reducible refine (CBy.out _ W0.out).mono ?_
 rintro e w3 ⟨B3, d3, rfl, hd3, n3, b3⟩
 rw [Z0.out] at n3 b3
 have z3 := b3.size
 rw [Z0.out] at z3
 have bw3 : Below w.heap.size w w3 := W0.out.trans (b3.mono (Nat.le_add_right _ _))
 have h3 := Lib.hid (B6.below H0.out b3 (by omega))
 have r3 := Lib.hid (B6.below R0.out b3 (by omega))
 obtain ⟨_, _, _, _, _, _, _, _, _, _, _, _⟩ := B6.facts h3.out
 have H3 := Lib.hid (B6.set3 h3.out (.slice B3 nb d3))
 have R3 := Lib.hid (B6.past r3.out (p := ⟨w.heap.size, 3, none⟩) ng (.slice B3 nb d3))
 have N3 := Lib.hid (n3.set (g := w.heap.size) (i := 3) (by omega) (.slice B3 nb d3))
 have bX3 : Below w.heap.size w (w3.setCell ⟨w.heap.size, 3, none⟩ (.slice B3 nb d3)) := bw3.setCell (Nat.le_refl _) _
 have zX3 : w.heap.size + 2 ≤ (w3.setCell ⟨w.heap.size, 3, none⟩ (.slice B3 nb d3)).heap.size := by simp [World.setCell]; omega
 clear H0 R0 h3 r3 CBy W0 Z0 n3
 go_wp2_with fail
 generalize w3.setCell ⟨w.heap.size, 3, none⟩ (.slice B3 nb d3) = X3 at *
 have BX3 := Lib.hid bX3; have ZX3 := Lib.hid zX3
 clear z3 bX3 zX3
 obtain ⟨_, _, _, _, _, _, _, _, _, _, _, _⟩ := B6.facts H3.out
 go_wp2_with fail
 with_reducible refine (EV.out _ BX3.out).mono ?_
 rintro e w4 ⟨B4, d4, rfl, hd4, n4, b4⟩
 have zx := ZX3.out
 have z4 := b4.size
 have h4 := Lib.hid (B6.below H3.out b4 (by omega))
 have r4 := Lib.hid (B6.below R3.out b4 (by omega))
 have m3 := N3.out.below b4
 have n4 := n4.less (l' := w.heap.size + 2) zx
 have bw4 : Below w.heap.size w w4 := BX3.out.trans (b4.mono (by omega))
 obtain ⟨_, _, _, _, _, _, _, _, _, _, _, _⟩ := B6.facts h4.out
 have H4 := Lib.hid (B6.set4 h4.out (.slice B4 ni d4))
 have R4 := Lib.hid (B6.past r4.out (p := ⟨w.heap.size, 4, none⟩) ng (.slice B4 ni d4))
 have M3 := Lib.hid (m3.set (g := w.heap.size) (i := 4) (by omega) (.slice B4 ni d4))
 have N4 := Lib.hid (n4.set (g := w.heap.size) (i := 4) (by omega) (.slice B4 ni d4))
 have BX4 := Lib.hid (bw4.setCell (p := ⟨w.heap.size, 4, none⟩) (Nat.le_refl _) (.slice B4 ni d4))
 have ZX4 : Hid (w.heap.size + 2 ≤ (w4.setCell ⟨w.heap.size, 4, none⟩ (.slice B4 ni d4)).heap.size) := by show _ ≤ _; simp [World.setCell]; omega
 clear h4 r4 EV n4 m3 z4 zx H3 R3 N3 BX3 ZX3
 go_wp2_with fail
 generalize w4.setCell ⟨w.heap.size, 4, none⟩ (.slice B4 ni d4) = X4 at *
 obtain ⟨_, _, _, _, _, _, _, _, _, _, _, _⟩ := B6.facts H4.out
 go_wp2_with fail
 with_reducible refine (ES.out _ BX4.out).mono ?_
 rintro e w5 ⟨B5, d5, rfl, hd5, n5, b5⟩
 have zx := ZX4.out
 have z5 := b5.size
 have h5 := Lib.hid (B6.below H4.out b5 (by omega))
 have r5 := Lib.hid (B6.below R4.out b5 (by omega))
 have m3 := M3.out.below b5
 have m4 := N4.out.below b5
 have n5 := n5.less (l' := w.heap.size + 2) zx
 have bw5 : Below w.heap.size w w5 := BX4.out.trans (b5.mono (by omega))
 obtain ⟨_, _, _, _, _, _, _, _, _, _, _, _⟩ := B6.facts h5.out
 obtain ⟨_, _, _, _, _, _, _, _, _, _, _, _⟩ := B6.facts r5.out
 have H5 := Lib.hid (B6.set5 h5.out (.slice B5 nk d5))
 have R5 := Lib.hid (B6.past r5.out (p := ⟨w.heap.size, 5, none⟩) ng (.slice B5 nk d5))
 have M3' := Lib.hid (m3.set (g := w.heap.size) (i := 5) (by omega) (.slice B5 nk d5))
 have M4 := Lib.hid (m4.set (g := w.heap.size) (i := 5) (by omega) (.slice B5 nk d5))
 have N5 := Lib.hid (n5.set (g := w.heap.size) (i := 5) (by omega) (.slice B5 nk d5))
 have BX5 := Lib.hid (bw5.setCell (p := ⟨w.heap.size, 5, none⟩) (Nat.le_refl _) (.slice B5 nk d5))
 clear h5 r5 ES n5 m3 m4 z5 zx H4 R4 M3 N4 BX4 ZX4
 go_wp2_with fail
 try simp only [Exit.inBlock, Exit.then]
 refine post_V (x0 := .int .i64 k) (x1 := .int .i64 n) (x2 := .int .u64 bt) (x3 := .slice B3 nb d3) (x4 := .slice B4 ni d4) (x5 := .slice B5 nk d5) rfl rfl rfl (by go_simp) (by go_simp) (by go_simp) (by go_simp) (by go_simp) (by go_simp) ?_
 have K := fun (s : Nat) (ds : List D) (A : Option Addr) => set6_new (s := s) (ds := ds) (A := A) (w := w5.setCell ⟨w.heap.size, 5, none⟩ (.slice B5 nk d5)) (g := w.heap.size + 1) (l := w.heap.size + 2) (Nat.lt_succ_self _) (.int .i64 k) (.int .i64 n) (.int .u64 bt) (.slice B3 nb d3) (.slice B4 ni d4) (.slice B5 nk d5)
 have bE := ((((((BX5.out.setCell (p := ⟨w.heap.size + 1, 0, none⟩) (Nat.le_succ _) (.int .i64 k)).setCell (p := ⟨w.heap.size + 1, 1, none⟩) (Nat.le_succ _) (.int .i64 n)).setCell (p := ⟨w.heap.size + 1, 2, none⟩) (Nat.le_succ _) (.int .u64 bt)).setCell (p := ⟨w.heap.size + 1, 3, none⟩) (Nat.le_succ _) (.slice B3 nb d3)).setCell (p := ⟨w.heap.size + 1, 4, none⟩) (Nat.le_succ _) (.slice B4 ni d4)).setCell (p := ⟨w.heap.size + 1, 5, none⟩) (Nat.le_succ _) (.slice B5 nk d5))
 exact ⟨B3, d3, B4, d4, B5, d5, rfl, NN.out _ _ _ _ _ _ _ ((K _ _ _ M3'.out).less (Nat.le_add_right _ _)) hd3 ((K _ _ _ M4.out).less (Nat.le_add_right _ _)) hd4 ((K _ _ _ N5.out).less (Nat.le_add_right _ _)) hd5, bE⟩
theorem copyV_at : ∀ (N : Nat) (t : V), SizeOf.sizeOf t ≤ N → CpV t
 | 0, t, h => by cases t; simp at h
 | N + 1, .mk k n bt bs its ks, hN => copyV_step k n bt bs its ks fun i h => copyV_at N (its[i]'h) (by have := V.lt_its (v := .mk k n bt bs its ks) (i := i) h; simp only [V.its] at this; omega)
theorem copyV_any (t : V) : CpV t := copyV_at _ t (Nat.le_refl _)
end Go.Proofs.YtpmgjpchpmkklaaGreatDoor
