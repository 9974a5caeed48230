/- Layer 6, the code's own calls at every input: the word that stands first; Take; All. -/
import Derived.Test.YtjebkedlfhapjaaDoorJlexN
import Derived.Test.YtjebkedlfhapjaaDoorJlexE
import Derived.Test.YtjebkedlfhapjaaDoorJlexF
import Derived.Test.YtjebkedlfhapjaaDoorJRefF
import Derived.Test.YtjebkedlfhapjaaDoorRec
namespace Go.Proofs.YtjebkedlfhapjaaDoor
open Go.ChangeShapes Go.WideShapes Go.ChangeAt Go.RowKit Mem

/-- The word that stands first, or the end. -/
def fstW (l : List UInt8) : Jx.Wd × Nat := if l.length = 0 then (⟨11, 0, [], 0, 0⟩, 0) else Jx.word l
theorem fstW_end {l : List UInt8} (h : l.length = 0) : fstW l = (⟨11, 0, [], 0, 0⟩, 0) := by unfold fstW; rw [if_pos h]
theorem fstW_p {l : List UInt8} (h0 : l.length ≠ 0) (h : Jx.punct (Jx.byt l 0) ≠ 0) : fstW l = (⟨Jx.punct (Jx.byt l 0), 0, [], 0, 1⟩, 0) := by unfold fstW; rw [if_neg h0]; unfold Jx.word; rw [if_pos h]
theorem fstW_t {l : List UInt8} (h0 : l.length ≠ 0) (h : Jx.byt l 0 = 34) : fstW l = txtW (Jx.txt (l.drop 1)) := by
  unfold fstW; rw [if_neg h0]; unfold Jx.word; rw [if_neg (by rw [h]; decide), if_pos h]
  cases Jx.txt (l.drop 1) with
  | none => rfl
  | some r => rfl
theorem fstW_n {l : List UInt8} (h0 : l.length ≠ 0) (h : Jx.byt l 0 = 45 ∨ Jx.isD (Jx.byt l 0) = true) : fstW l = numW (Jx.num l) := by
  have hp : Jx.punct (Jx.byt l 0) = 0 := by
    rw [Jx.isD_is] at h
    have := Jx.punct_is (Jx.byt l 0)
    omega
  have h34 : Jx.byt l 0 ≠ 34 := by rw [Jx.isD_is] at h; omega
  unfold fstW; rw [if_neg h0]; unfold Jx.word numW; rw [if_neg (by omega), if_neg h34, if_pos h]
theorem fstW_l {l : List UInt8} (h0 : l.length ≠ 0) (h : Jx.punct (Jx.byt l 0) = 0) (h1 : Jx.byt l 0 ≠ 34) (h2 : ¬ (Jx.byt l 0 = 45 ∨ Jx.isD (Jx.byt l 0) = true)) : fstW l = letW l := by
  unfold fstW; rw [if_neg h0]; unfold Jx.word letW; rw [if_neg (by omega), if_neg h1, if_neg h2]; rfl
/-- A word begins at its own place 0. -/
theorem fstW_a (l : List UInt8) : (fstW l).1.a = 0 := by
  by_cases h0 : l.length = 0
  · rw [fstW_end h0]
  · by_cases h : Jx.punct (Jx.byt l 0) = 0
    · by_cases h1 : Jx.byt l 0 = 34
      · rw [fstW_t h0 h1]; cases Jx.txt (l.drop 1) <;> rfl
      · by_cases h2 : Jx.byt l 0 = 45 ∨ Jx.isD (Jx.byt l 0) = true
        · rw [fstW_n h0 h2]; unfold numW; split <;> rfl
        · rw [fstW_l h0 h h1 h2]; unfold letW
          split
          · rfl
          · split
            · rfl
            · split <;> rfl
    · rw [fstW_p h0 h]
theorem tak_fst {l : List UInt8} {k q : Nat} (hk : k ≤ l.length) (hq : q = k + Jx.cnt Jx.isW (l.drop k)) :
    Jx.tak l k = if (fstW (l.drop q)).2 = 0 then ((fstW (l.drop q)).1.at_ q, 0) else (Jx.Wd.zero, (fstW (l.drop q)).2) := by
  have hl := Jx.tak_q l k hk
  rw [← hq] at hl
  by_cases h : q = l.length
  · rw [Jx.tak_e hq h, fstW_end (by rw [List.length_drop]; omega)]
    simp [Jx.Wd.at_]
  · have e : fstW (l.drop q) = Jx.word (l.drop q) := by unfold fstW; rw [if_neg (by rw [List.length_drop]; omega)]
    rw [e]
    cases hw : Jx.word (l.drop q) with
    | mk w er =>
      by_cases he : er = 0
      · subst he; rw [Jx.tak_word hq h hw]; rfl
      · rw [Jx.tak_err hq h hw he, if_neg he]

set_option maxRecDepth 100000 in
set_option maxHeartbeats 4000000 in
theorem jfirst_any (A : Option Addr) (c : Nat) (l : List UInt8) (w : World) (hL : Laid w) (hb : Bys w w.heap.size A l) (hl : l.length ≤ 100000000) (hc : l.length ≤ c) :
    Calls Tryd.prog 27 #[.slice A l.length c] w (TkW (fstW l) w) := by
  have CS := cell_set
  by_cases h0 : l.length = 0
  · have Z := Lib.hid (fstW_end h0)
    have q0 : ((l.length : Int) == 0) = true := by rw [beq_iff_eq]; omega
    clear hb h0
    go_enter Tryd.func27, Tryd.ntmps27
    go_wp2_with fail
    try simp only [Exit.inBlock, Exit.then]
    refine post_rj (x0 := .int .i64 11) (x1 := .int .i64 0) (x2 := .string ⟨#[]⟩) (x3 := .int .i64 0) (x4 := .int .i64 0) rfl rfl rfl (by go_simp) (by go_simp) (by go_simp) (by go_simp) (by go_simp) ?_
    exact tkW_ret Z.out rfl rfl rfl rfl rfl rfl (by (repeat' (first | with_reducible assumption | with_reducible exact Below.refl _ _ | (with_reducible refine Below.alloc ?_ ?_ _; rotate_left; focus ((first | exact Nat.le_refl _ | (simp; done) | (simp; omega) | omega | fail))) | (with_reducible refine Below.setCell ?_ ?_ _; rotate_left; focus ((first | exact Nat.le_refl _ | (simp; done) | (simp; omega) | omega | fail))) | with_reducible refine Mem.bel_drewN ?_ _ | with_reducible refine Below.drew ?_ | (with_reducible refine Mem.bel_call (by with_reducible assumption) ?_ ?_; focus ((first | exact Nat.le_refl _ | (simp; done) | (simp; omega) | omega | fail))) | fail)))
  · have q0 : ((l.length : Int) == 0) = false := by rw [beq_eq_false_iff_ne]; omega
    have LN : (0 : Int) < (l.length : Int) := by omega
    have LP : 0 < l.length := by omega
    have hL1 := hL.alloc (.cells #[.int .i64 0, .int .i64 0, .string ⟨#[]⟩, .int .i64 0, .int .i64 0] 38)
    have hb1 := (hb.alloc (Nat.le_refl _) (.cells #[.int .i64 0, .int .i64 0, .string ⟨#[]⟩, .int .i64 0, .int .i64 0] 38)).more (B' := (w.alloc (.cells #[.int .i64 0, .int .i64 0, .string ⟨#[]⟩, .int .i64 0, .int .i64 0] 38)).heap.size) (by simp)
    have TX := Lib.hid (jtext_any A c l _ hL1 hb1 hl hc LP)
    have NM := Lib.hid (number_any A c l _ hb1 (by omega) hc LP)
    have LT := Lib.hid (letters_any A c l _ hL1 hb1 (by omega) hc LP)
    have W0 : Below w.heap.size w (w.alloc (.cells #[.int .i64 0, .int .i64 0, .string ⟨#[]⟩, .int .i64 0, .int .i64 0] 38)) := (Below.refl _ _).alloc (Nat.le_refl _) _
    obtain ⟨b, off, rfl, hB, cell⟩ := bys_cell hb LP
    rw [Nat.add_zero] at cell
    have P := Lib.hid (place_any ⟨#[123, 125, 91, 93, 58, 44]⟩ (Jx.byt l 0))
    rw [show (⟨#[123, 125, 91, 93, 58, 44]⟩ : ByteArray).data.toList = [123, 125, 91, 93, 58, 44] from rfl, place_signs _ (Jx.byt_lt l 0)] at P
    have D := Lib.hid (digit_any (Jx.byt l 0))
    have fp := @fstW_p l h0; have ft := @fstW_t l h0; have fn := @fstW_n l h0; have fl := @fstW_l l h0
    have ps := Jx.punct_is (Jx.byt l 0)
    generalize fstW l = R at *
    generalize txtW (Jx.txt (l.drop 1)) = RT at *
    generalize numW (Jx.num l) = RN at *
    generalize letW l = RL at *
    generalize Jx.byt l 0 = X at *
    obtain ⟨PX, hPX⟩ : ∃ p, p = Jx.punct X := ⟨_, rfl⟩
    rw [← hPX] at P fp fl ps
    clear hPX hb h0
    by_cases hp : PX = 0
    · subst hp
      have HP : ∀ w0, Calls Tryd.prog 42 #[.string ⟨#[123, 125, 91, 93, 58, 44]⟩, .int .u8 (X : Int)] w0 fun e w' => e = .returned (.int .i64 (-1)) ∧ w0 = w' := P.out
      have P1 := Lib.hid HP
      clear HP P ps fp
      by_cases h34 : X = 34
      · have q34 : ((X : Int) == 34) = true := by rw [beq_iff_eq]; omega
        have Z := Lib.hid (ft h34)
        clear ft fn fl D NM LT h34
        obtain ⟨⟨k, n, t, a, x⟩, er⟩ := RT
        go_enter Tryd.func27, Tryd.ntmps27
        go_wp2_with fail
        go_wp2_with fail
        with_reducible refine (P1.out _).mono ?_
        rintro e w1 ⟨rfl, rfl⟩
        go_wp2_with fail
        refine TX.out.mono ?_
        intro e w1 h1
        obtain ⟨rfl, b1⟩ := tkW_out h1
        clear h1
        have hOwn := Nat.lt_of_lt_of_le (n := w.heap.size) (by first | exact Nat.le_refl _ | assumption | (simp; done) | (simp; omega) | omega) (Below.size b1)
        have hOwn1 := Nat.ne_of_gt hOwn
        have hOwn2 := Nat.ne_of_lt hOwn
        have hOwn := (Below.cell b1 (p := ⟨w.heap.size, 0, none⟩) (by first | exact Nat.le_refl _ | assumption | (simp; done) | (simp; omega) | omega)).trans (by go_simp; rfl)
        have hOwn := (Below.cell b1 (p := ⟨w.heap.size, 1, none⟩) (by first | exact Nat.le_refl _ | assumption | (simp; done) | (simp; omega) | omega)).trans (by go_simp; rfl)
        have hOwn := (Below.cell b1 (p := ⟨w.heap.size, 2, none⟩) (by first | exact Nat.le_refl _ | assumption | (simp; done) | (simp; omega) | omega)).trans (by go_simp; rfl)
        have hOwn := (Below.cell b1 (p := ⟨w.heap.size, 3, none⟩) (by first | exact Nat.le_refl _ | assumption | (simp; done) | (simp; omega) | omega)).trans (by go_simp; rfl)
        have hOwn := (Below.cell b1 (p := ⟨w.heap.size, 4, none⟩) (by first | exact Nat.le_refl _ | assumption | (simp; done) | (simp; omega) | omega)).trans (by go_simp; rfl)
        have hOwn := (Below.frozen b1 (p := ⟨w.heap.size, 0, none⟩) (by first | exact Nat.le_refl _ | assumption | (simp; done) | (simp; omega) | omega)).trans (by go_simp; rfl)
        have hOwn := (Below.frozen b1 (p := ⟨w.heap.size, 1, none⟩) (by first | exact Nat.le_refl _ | assumption | (simp; done) | (simp; omega) | omega)).trans (by go_simp; rfl)
        have hOwn := (Below.frozen b1 (p := ⟨w.heap.size, 2, none⟩) (by first | exact Nat.le_refl _ | assumption | (simp; done) | (simp; omega) | omega)).trans (by go_simp; rfl)
        have hOwn := (Below.frozen b1 (p := ⟨w.heap.size, 3, none⟩) (by first | exact Nat.le_refl _ | assumption | (simp; done) | (simp; omega) | omega)).trans (by go_simp; rfl)
        have hOwn := (Below.frozen b1 (p := ⟨w.heap.size, 4, none⟩) (by first | exact Nat.le_refl _ | assumption | (simp; done) | (simp; omega) | omega)).trans (by go_simp; rfl)
        have bb := W0.trans (b1.mono W0.size)
        go_wp2_with fail
        try simp only [Exit.inBlock, Exit.then]
        refine post_rj (x0 := .int .i64 (k : Int)) (x1 := .int .i64 n) (x2 := .string ⟨t.toArray⟩) (x3 := .int .i64 (a : Int)) (x4 := .int .i64 (x : Int)) rfl rfl rfl (by go_simp) (by go_simp) (by go_simp) (by go_simp) (by go_simp) ?_
        exact tkW_ret Z.out rfl rfl rfl rfl rfl rfl (by (repeat' (first | with_reducible assumption | with_reducible exact Below.refl _ _ | (with_reducible refine Below.alloc ?_ ?_ _; rotate_left; focus ((first | exact Nat.le_refl _ | (simp; done) | (simp; omega) | omega | fail))) | (with_reducible refine Below.setCell ?_ ?_ _; rotate_left; focus ((first | exact Nat.le_refl _ | (simp; done) | (simp; omega) | omega | fail))) | with_reducible refine Mem.bel_drewN ?_ _ | with_reducible refine Below.drew ?_ | (with_reducible refine Mem.bel_call (by with_reducible assumption) ?_ ?_; focus ((first | exact Nat.le_refl _ | (simp; done) | (simp; omega) | omega | fail))) | fail)))
      · have q34 : ((X : Int) == 34) = false := by rw [beq_eq_false_iff_ne]; omega
        have NUM : Hid ((X = 45 ∨ Jx.isD X = true) → R = RN) := fn
        have LET : Hid (¬ (X = 45 ∨ Jx.isD X = true) → R = RL) := fl rfl h34
        clear ft fn fl TX h34
        by_cases h45 : X = 45
        · have Z := Lib.hid (NUM.out (.inl h45))
          have q45 : ((X : Int) == 45) = true := by rw [beq_iff_eq]; omega
          clear NUM LET D LT h45
          obtain ⟨⟨k, n, t, a, x⟩, er⟩ := RN
          go_enter Tryd.func27, Tryd.ntmps27
          go_wp2_with fail
          go_wp2_with fail
          with_reducible refine (P1.out _).mono ?_
          rintro e w1 ⟨rfl, rfl⟩
          go_wp2_with fail
          refine NM.out.mono ?_
          intro e w1 h1
          obtain ⟨rfl, b1⟩ := tkW_out h1
          clear h1
          have hOwn := Nat.lt_of_lt_of_le (n := w.heap.size) (by first | exact Nat.le_refl _ | assumption | (simp; done) | (simp; omega) | omega) (Below.size b1)
          have hOwn1 := Nat.ne_of_gt hOwn
          have hOwn2 := Nat.ne_of_lt hOwn
          have hOwn := (Below.cell b1 (p := ⟨w.heap.size, 0, none⟩) (by first | exact Nat.le_refl _ | assumption | (simp; done) | (simp; omega) | omega)).trans (by go_simp; rfl)
          have hOwn := (Below.cell b1 (p := ⟨w.heap.size, 1, none⟩) (by first | exact Nat.le_refl _ | assumption | (simp; done) | (simp; omega) | omega)).trans (by go_simp; rfl)
          have hOwn := (Below.cell b1 (p := ⟨w.heap.size, 2, none⟩) (by first | exact Nat.le_refl _ | assumption | (simp; done) | (simp; omega) | omega)).trans (by go_simp; rfl)
          have hOwn := (Below.cell b1 (p := ⟨w.heap.size, 3, none⟩) (by first | exact Nat.le_refl _ | assumption | (simp; done) | (simp; omega) | omega)).trans (by go_simp; rfl)
          have hOwn := (Below.cell b1 (p := ⟨w.heap.size, 4, none⟩) (by first | exact Nat.le_refl _ | assumption | (simp; done) | (simp; omega) | omega)).trans (by go_simp; rfl)
          have hOwn := (Below.frozen b1 (p := ⟨w.heap.size, 0, none⟩) (by first | exact Nat.le_refl _ | assumption | (simp; done) | (simp; omega) | omega)).trans (by go_simp; rfl)
          have hOwn := (Below.frozen b1 (p := ⟨w.heap.size, 1, none⟩) (by first | exact Nat.le_refl _ | assumption | (simp; done) | (simp; omega) | omega)).trans (by go_simp; rfl)
          have hOwn := (Below.frozen b1 (p := ⟨w.heap.size, 2, none⟩) (by first | exact Nat.le_refl _ | assumption | (simp; done) | (simp; omega) | omega)).trans (by go_simp; rfl)
          have hOwn := (Below.frozen b1 (p := ⟨w.heap.size, 3, none⟩) (by first | exact Nat.le_refl _ | assumption | (simp; done) | (simp; omega) | omega)).trans (by go_simp; rfl)
          have hOwn := (Below.frozen b1 (p := ⟨w.heap.size, 4, none⟩) (by first | exact Nat.le_refl _ | assumption | (simp; done) | (simp; omega) | omega)).trans (by go_simp; rfl)
          have bb := W0.trans (b1.mono W0.size)
          go_wp2_with fail
          try simp only [Exit.inBlock, Exit.then]
          refine post_rj (x0 := .int .i64 (k : Int)) (x1 := .int .i64 n) (x2 := .string ⟨t.toArray⟩) (x3 := .int .i64 (a : Int)) (x4 := .int .i64 (x : Int)) rfl rfl rfl (by go_simp) (by go_simp) (by go_simp) (by go_simp) (by go_simp) ?_
          exact tkW_ret Z.out rfl rfl rfl rfl rfl rfl (by (repeat' (first | with_reducible assumption | with_reducible exact Below.refl _ _ | (with_reducible refine Below.alloc ?_ ?_ _; rotate_left; focus ((first | exact Nat.le_refl _ | (simp; done) | (simp; omega) | omega | fail))) | (with_reducible refine Below.setCell ?_ ?_ _; rotate_left; focus ((first | exact Nat.le_refl _ | (simp; done) | (simp; omega) | omega | fail))) | with_reducible refine Mem.bel_drewN ?_ _ | with_reducible refine Below.drew ?_ | (with_reducible refine Mem.bel_call (by with_reducible assumption) ?_ ?_; focus ((first | exact Nat.le_refl _ | (simp; done) | (simp; omega) | omega | fail))) | fail)))
        · have q45 : ((X : Int) == 45) = false := by rw [beq_eq_false_iff_ne]; omega
          obtain ⟨DX, hDX⟩ : ∃ d, d = Jx.isD X := ⟨_, rfl⟩
          rw [← hDX] at D NUM LET
          clear hDX
          cases DX with
          | true =>
            have Z := Lib.hid (NUM.out (.inr rfl))
            clear NUM LET LT h45
            obtain ⟨⟨k, n, t, a, x⟩, er⟩ := RN
            go_enter Tryd.func27, Tryd.ntmps27
            go_wp2_with fail
            go_wp2_with fail
            with_reducible refine (P1.out _).mono ?_
            rintro e w1 ⟨rfl, rfl⟩
            go_wp2_with fail
            with_reducible refine (D.out _).mono ?_
            rintro e w1 ⟨rfl, rfl⟩
            go_wp2_with fail
            refine NM.out.mono ?_
            intro e w1 h1
            obtain ⟨rfl, b1⟩ := tkW_out h1
            clear h1
            have hOwn := Nat.lt_of_lt_of_le (n := w.heap.size) (by first | exact Nat.le_refl _ | assumption | (simp; done) | (simp; omega) | omega) (Below.size b1)
            have hOwn1 := Nat.ne_of_gt hOwn
            have hOwn2 := Nat.ne_of_lt hOwn
            have hOwn := (Below.cell b1 (p := ⟨w.heap.size, 0, none⟩) (by first | exact Nat.le_refl _ | assumption | (simp; done) | (simp; omega) | omega)).trans (by go_simp; rfl)
            have hOwn := (Below.cell b1 (p := ⟨w.heap.size, 1, none⟩) (by first | exact Nat.le_refl _ | assumption | (simp; done) | (simp; omega) | omega)).trans (by go_simp; rfl)
            have hOwn := (Below.cell b1 (p := ⟨w.heap.size, 2, none⟩) (by first | exact Nat.le_refl _ | assumption | (simp; done) | (simp; omega) | omega)).trans (by go_simp; rfl)
            have hOwn := (Below.cell b1 (p := ⟨w.heap.size, 3, none⟩) (by first | exact Nat.le_refl _ | assumption | (simp; done) | (simp; omega) | omega)).trans (by go_simp; rfl)
            have hOwn := (Below.cell b1 (p := ⟨w.heap.size, 4, none⟩) (by first | exact Nat.le_refl _ | assumption | (simp; done) | (simp; omega) | omega)).trans (by go_simp; rfl)
            have hOwn := (Below.frozen b1 (p := ⟨w.heap.size, 0, none⟩) (by first | exact Nat.le_refl _ | assumption | (simp; done) | (simp; omega) | omega)).trans (by go_simp; rfl)
            have hOwn := (Below.frozen b1 (p := ⟨w.heap.size, 1, none⟩) (by first | exact Nat.le_refl _ | assumption | (simp; done) | (simp; omega) | omega)).trans (by go_simp; rfl)
            have hOwn := (Below.frozen b1 (p := ⟨w.heap.size, 2, none⟩) (by first | exact Nat.le_refl _ | assumption | (simp; done) | (simp; omega) | omega)).trans (by go_simp; rfl)
            have hOwn := (Below.frozen b1 (p := ⟨w.heap.size, 3, none⟩) (by first | exact Nat.le_refl _ | assumption | (simp; done) | (simp; omega) | omega)).trans (by go_simp; rfl)
            have hOwn := (Below.frozen b1 (p := ⟨w.heap.size, 4, none⟩) (by first | exact Nat.le_refl _ | assumption | (simp; done) | (simp; omega) | omega)).trans (by go_simp; rfl)
            have bb := W0.trans (b1.mono W0.size)
            go_wp2_with fail
            try simp only [Exit.inBlock, Exit.then]
            refine post_rj (x0 := .int .i64 (k : Int)) (x1 := .int .i64 n) (x2 := .string ⟨t.toArray⟩) (x3 := .int .i64 (a : Int)) (x4 := .int .i64 (x : Int)) rfl rfl rfl (by go_simp) (by go_simp) (by go_simp) (by go_simp) (by go_simp) ?_
            exact tkW_ret Z.out rfl rfl rfl rfl rfl rfl (by (repeat' (first | with_reducible assumption | with_reducible exact Below.refl _ _ | (with_reducible refine Below.alloc ?_ ?_ _; rotate_left; focus ((first | exact Nat.le_refl _ | (simp; done) | (simp; omega) | omega | fail))) | (with_reducible refine Below.setCell ?_ ?_ _; rotate_left; focus ((first | exact Nat.le_refl _ | (simp; done) | (simp; omega) | omega | fail))) | with_reducible refine Mem.bel_drewN ?_ _ | with_reducible refine Below.drew ?_ | (with_reducible refine Mem.bel_call (by with_reducible assumption) ?_ ?_; focus ((first | exact Nat.le_refl _ | (simp; done) | (simp; omega) | omega | fail))) | fail)))
          | false =>
            have Z := Lib.hid (LET.out (fun h => by rcases h with h | h; (· exact h45 h); (· cases h)))
            clear NUM LET NM h45
            obtain ⟨⟨k, n, t, a, x⟩, er⟩ := RL
            go_enter Tryd.func27, Tryd.ntmps27
            go_wp2_with fail
            go_wp2_with fail
            with_reducible refine (P1.out _).mono ?_
            rintro e w1 ⟨rfl, rfl⟩
            go_wp2_with fail
            with_reducible refine (D.out _).mono ?_
            rintro e w1 ⟨rfl, rfl⟩
            go_wp2_with fail
            refine LT.out.mono ?_
            intro e w1 h1
            obtain ⟨rfl, b1⟩ := tkW_out h1
            clear h1
            have hOwn := Nat.lt_of_lt_of_le (n := w.heap.size) (by first | exact Nat.le_refl _ | assumption | (simp; done) | (simp; omega) | omega) (Below.size b1)
            have hOwn1 := Nat.ne_of_gt hOwn
            have hOwn2 := Nat.ne_of_lt hOwn
            have hOwn := (Below.cell b1 (p := ⟨w.heap.size, 0, none⟩) (by first | exact Nat.le_refl _ | assumption | (simp; done) | (simp; omega) | omega)).trans (by go_simp; rfl)
            have hOwn := (Below.cell b1 (p := ⟨w.heap.size, 1, none⟩) (by first | exact Nat.le_refl _ | assumption | (simp; done) | (simp; omega) | omega)).trans (by go_simp; rfl)
            have hOwn := (Below.cell b1 (p := ⟨w.heap.size, 2, none⟩) (by first | exact Nat.le_refl _ | assumption | (simp; done) | (simp; omega) | omega)).trans (by go_simp; rfl)
            have hOwn := (Below.cell b1 (p := ⟨w.heap.size, 3, none⟩) (by first | exact Nat.le_refl _ | assumption | (simp; done) | (simp; omega) | omega)).trans (by go_simp; rfl)
            have hOwn := (Below.cell b1 (p := ⟨w.heap.size, 4, none⟩) (by first | exact Nat.le_refl _ | assumption | (simp; done) | (simp; omega) | omega)).trans (by go_simp; rfl)
            have hOwn := (Below.frozen b1 (p := ⟨w.heap.size, 0, none⟩) (by first | exact Nat.le_refl _ | assumption | (simp; done) | (simp; omega) | omega)).trans (by go_simp; rfl)
            have hOwn := (Below.frozen b1 (p := ⟨w.heap.size, 1, none⟩) (by first | exact Nat.le_refl _ | assumption | (simp; done) | (simp; omega) | omega)).trans (by go_simp; rfl)
            have hOwn := (Below.frozen b1 (p := ⟨w.heap.size, 2, none⟩) (by first | exact Nat.le_refl _ | assumption | (simp; done) | (simp; omega) | omega)).trans (by go_simp; rfl)
            have hOwn := (Below.frozen b1 (p := ⟨w.heap.size, 3, none⟩) (by first | exact Nat.le_refl _ | assumption | (simp; done) | (simp; omega) | omega)).trans (by go_simp; rfl)
            have hOwn := (Below.frozen b1 (p := ⟨w.heap.size, 4, none⟩) (by first | exact Nat.le_refl _ | assumption | (simp; done) | (simp; omega) | omega)).trans (by go_simp; rfl)
            have bb := W0.trans (b1.mono W0.size)
            go_wp2_with fail
            try simp only [Exit.inBlock, Exit.then]
            refine post_rj (x0 := .int .i64 (k : Int)) (x1 := .int .i64 n) (x2 := .string ⟨t.toArray⟩) (x3 := .int .i64 (a : Int)) (x4 := .int .i64 (x : Int)) rfl rfl rfl (by go_simp) (by go_simp) (by go_simp) (by go_simp) (by go_simp) ?_
            exact tkW_ret Z.out rfl rfl rfl rfl rfl rfl (by (repeat' (first | with_reducible assumption | with_reducible exact Below.refl _ _ | (with_reducible refine Below.alloc ?_ ?_ _; rotate_left; focus ((first | exact Nat.le_refl _ | (simp; done) | (simp; omega) | omega | fail))) | (with_reducible refine Below.setCell ?_ ?_ _; rotate_left; focus ((first | exact Nat.le_refl _ | (simp; done) | (simp; omega) | omega | fail))) | with_reducible refine Mem.bel_drewN ?_ _ | with_reducible refine Below.drew ?_ | (with_reducible refine Mem.bel_call (by with_reducible assumption) ?_ ?_; focus ((first | exact Nat.le_refl _ | (simp; done) | (simp; omega) | omega | fail))) | fail)))
    · have Z := Lib.hid (fp hp)
      have hpx : PX ≤ 6 := by omega
      obtain ⟨I, rfl⟩ : ∃ I, PX = I + 1 := ⟨PX - 1, by omega⟩
      have HP : ∀ w0, Calls Tryd.prog 42 #[.string ⟨#[123, 125, 91, 93, 58, 44]⟩, .int .u8 (X : Int)] w0 fun e w' => e = .returned (.int .i64 (I : Int)) ∧ w0 = w' := fun w0 => (P.out w0).mono fun e w' h => ⟨by rw [h.1]; congr 2; omega, h.2⟩
      have P1 := Lib.hid HP
      have qI : decide ((0 : Int) ≤ (I : Int)) = true := by simp
      clear HP P ps fp ft fn fl D NM LT TX hp
      go_enter Tryd.func27, Tryd.ntmps27
      go_wp2_with fail
      go_wp2_with fail
      with_reducible refine (P1.out _).mono ?_
      rintro e w1 ⟨rfl, rfl⟩
      go_wp2_with fail
      with_reducible refine (P1.out _).mono ?_
      rintro e w1 ⟨rfl, rfl⟩
      go_wp2_with fail
      try simp only [Exit.inBlock, Exit.then]
      refine post_rj (x0 := .int .i64 (1 + (I : Int))) (x1 := .int .i64 0) (x2 := .string ⟨#[]⟩) (x3 := .int .i64 0) (x4 := .int .i64 1) rfl rfl rfl (by go_simp) (by go_simp) (by go_simp) (by go_simp) (by go_simp) ?_
      exact tkW_ret Z.out (by push_cast; omega) rfl rfl rfl rfl rfl (by (repeat' (first | with_reducible assumption | with_reducible exact Below.refl _ _ | (with_reducible refine Below.alloc ?_ ?_ _; rotate_left; focus ((first | exact Nat.le_refl _ | (simp; done) | (simp; omega) | omega | fail))) | (with_reducible refine Below.setCell ?_ ?_ _; rotate_left; focus ((first | exact Nat.le_refl _ | (simp; done) | (simp; omega) | omega | fail))) | with_reducible refine Mem.bel_drewN ?_ _ | with_reducible refine Below.drew ?_ | (with_reducible refine Mem.bel_call (by with_reducible assumption) ?_ ?_; focus ((first | exact Nat.le_refl _ | (simp; done) | (simp; omega) | omega | fail))) | fail)))
end Go.Proofs.YtjebkedlfhapjaaDoor
/- Layer 6, the code's own calls at every input: Take; All. -/
namespace Go.Proofs.YtjebkedlfhapjaaDoor
open Go.ChangeShapes Go.WideShapes Go.ChangeAt Go.RowKit Mem

theorem jTake_bad (A : Option Addr) (c : Nat) (l : List UInt8) (i : Int) (w : World) (h : i < 0 ∨ (l.length : Int) < i) :
    Calls Tryd.prog 15 #[.slice A l.length c, .int .i64 i] w (TkW (Jx.Wd.zero, 2) w) := by
  have CS := cell_set
  by_cases h1 : i < 0
  · clear h
    go_enter Tryd.func15, Tryd.ntmps15
    go_wp2_with fail
    try simp only [Exit.inBlock, Exit.then]
    refine post_rj (x0 := .int .i64 0) (x1 := .int .i64 0) (x2 := .string ⟨#[]⟩) (x3 := .int .i64 0) (x4 := .int .i64 0) rfl rfl rfl (by go_simp) (by go_simp) (by go_simp) (by go_simp) (by go_simp) ?_
    exact tkW_ret bad_zero rfl rfl rfl rfl rfl rfl (by (repeat' (first | with_reducible assumption | with_reducible exact Below.refl _ _ | (with_reducible refine Below.alloc ?_ ?_ _; rotate_left; focus ((first | exact Nat.le_refl _ | (simp; done) | (simp; omega) | omega | fail))) | (with_reducible refine Below.setCell ?_ ?_ _; rotate_left; focus ((first | exact Nat.le_refl _ | (simp; done) | (simp; omega) | omega | fail))) | with_reducible refine Mem.bel_drewN ?_ _ | with_reducible refine Below.drew ?_ | (with_reducible refine Mem.bel_call (by with_reducible assumption) ?_ ?_; focus ((first | exact Nat.le_refl _ | (simp; done) | (simp; omega) | omega | fail))) | fail)))
  · have h2 : (l.length : Int) < i := by omega
    clear h
    go_enter Tryd.func15, Tryd.ntmps15
    go_wp2_with fail
    try simp only [Exit.inBlock, Exit.then]
    refine post_rj (x0 := .int .i64 0) (x1 := .int .i64 0) (x2 := .string ⟨#[]⟩) (x3 := .int .i64 0) (x4 := .int .i64 0) rfl rfl rfl (by go_simp) (by go_simp) (by go_simp) (by go_simp) (by go_simp) ?_
    exact tkW_ret bad_zero rfl rfl rfl rfl rfl rfl (by (repeat' (first | with_reducible assumption | with_reducible exact Below.refl _ _ | (with_reducible refine Below.alloc ?_ ?_ _; rotate_left; focus ((first | exact Nat.le_refl _ | (simp; done) | (simp; omega) | omega | fail))) | (with_reducible refine Below.setCell ?_ ?_ _; rotate_left; focus ((first | exact Nat.le_refl _ | (simp; done) | (simp; omega) | omega | fail))) | with_reducible refine Mem.bel_drewN ?_ _ | with_reducible refine Below.drew ?_ | (with_reducible refine Mem.bel_call (by with_reducible assumption) ?_ ?_; focus ((first | exact Nat.le_refl _ | (simp; done) | (simp; omega) | omega | fail))) | fail)))

set_option maxRecDepth 100000 in
set_option maxHeartbeats 4000000 in
theorem jTake_good (A : Option Addr) (c : Nat) (l : List UInt8) (k : Nat) (w : World) (hL : Laid w) (hb : Bys w w.heap.size A l) (hl : l.length ≤ 100000000) (hc : l.length ≤ c) (hk : k ≤ l.length) :
    Calls Tryd.prog 15 #[.slice A l.length c, .int .i64 (k : Int)] w (TkW (Jx.tak l k) w) := by
  have CS := cell_set
  have hql := Jx.tak_q l k hk
  have cin := fun j => Jx.cnt_in Jx.isW (l.drop k) (k := j)
  have cout := Jx.cnt_out Jx.isW (l.drop k)
  have bd := Jx.byt_drop l k
  rw [List.length_drop] at cout
  obtain ⟨N, hN⟩ : ∃ N, N = Jx.cnt Jx.isW (l.drop k) := ⟨_, rfl⟩
  obtain ⟨q, hq⟩ : ∃ q, q = k + Jx.cnt Jx.isW (l.drop k) := ⟨_, rfl⟩
  have tf := tak_fst hk hq
  have fine := (Jx.tak_fine l k hk).1
  rw [← hN] at cin cout hql hq
  simp only [bd] at cin cout
  have fa0 := fstW_a (l.drop q)
  have hL1 := hL.alloc (.cells #[.int .i64 0, .int .i64 0, .string ⟨#[]⟩, .int .i64 0, .int .i64 0] 38)
  have W0 : Below w.heap.size w (w.alloc (.cells #[.int .i64 0, .int .i64 0, .string ⟨#[]⟩, .int .i64 0, .int .i64 0] 38)) := (Below.refl _ _).alloc (Nat.le_refl _) _
  have sz0 : (w.alloc (.cells #[.int .i64 0, .int .i64 0, .string ⟨#[]⟩, .int .i64 0, .int .i64 0] 38)).heap.size = w.heap.size + 1 := by simp
  have fi : ∀ A' n c', n = l.length - q → Bys w w.heap.size A' (l.drop q) → n ≤ c' → Calls Tryd.prog 27 #[.slice A' n c'] (w.alloc (.cells #[.int .i64 0, .int .i64 0, .string ⟨#[]⟩, .int .i64 0, .int .i64 0] 38)) (TkW (fstW (l.drop q)) (w.alloc (.cells #[.int .i64 0, .int .i64 0, .string ⟨#[]⟩, .int .i64 0, .int .i64 0] 38))) := fun A' n c' hn hA hc' => by
    have := jfirst_any A' c' (l.drop q) _ hL1 ((hA.alloc (Nat.le_refl _) _).more (by simp)) (by rw [List.length_drop]; omega) (by rw [List.length_drop]; omega)
    rw [List.length_drop, ← hn] at this
    exact this
  have hcut := hb.cut q c hc
  have CELL := Lib.hid (fun j hj => bys_cell hb (k := j) hj)
  obtain ⟨⟨⟨K, n, T, a, x⟩, er⟩, hr⟩ : ∃ r, r = fstW (l.drop q) := ⟨_, rfl⟩
  rw [← hr] at tf fi fa0
  obtain rfl : a = 0 := fa0
  generalize Jx.tak l k = R at *
  have CIN := Lib.hid cin; have COUT := Lib.hid cout; have HQ := Lib.hid hq; have FI := Lib.hid fi; have TF := Lib.hid tf; have FINE := Lib.hid fine
  have HC : Hid (∀ A', A' = (if c = q then A else A.map (·.add q)) → Bys w w.heap.size A' (l.drop q)) := fun A' e => e ▸ hcut
  clear cin cout bd hN hq fi tf fine hr hcut hb hL hL1
  have qb := HQ.out
  have k1 : ¬ (k : Int) < 0 := by omega
  have k2 : ¬ (l.length : Int) < (k : Int) := by omega
  go_enter Tryd.func15, Tryd.ntmps15
  go_wp2_with fail
  go_loop [1] (fun t => ∃ j : Nat, j ≤ N ∧ t = .int .i64 ((k + j : Nat) : Int)) (fun t => k + N - (intOf t).toNat)
  case atStart => exact ⟨0, by omega, rfl⟩
  case round =>
    obtain ⟨j, hj, rfl⟩ := hrel
    by_cases hjl : k + j < l.length
    · by_cases hjN : j < N
      · obtain ⟨b, off, rfl, hB, cell⟩ := CELL.out (k + j) hjl
        have D := Lib.hid (white_any (Jx.byt l (k + j)))
        rw [CIN.out j hjN] at D
        generalize Jx.byt l (k + j) = X at *
        go_wp2_with fail
        with_reducible refine (D.out _).mono ?_
        rintro e w1 ⟨rfl, rfl⟩
        go_wp2_with fail
        go_round
        case rel => exact ⟨j + 1, by omega, by go_num⟩
        case measure => simp [intOf]; omega
      · obtain rfl : j = N := by omega
        obtain ⟨b, off, rfl, hB, cell⟩ := CELL.out (k + j) hjl
        have D := Lib.hid (white_any (Jx.byt l (k + j)))
        rw [COUT.out (by omega)] at D
        have e := HQ.out
        subst e
        have hcq : c ≠ (k + j) := by omega
        have YB := Lib.hid (HC.out (some ⟨b, off + (k + j), none⟩) (by rw [if_neg hcq, Option.map_some, Mem.add_plain]))
        generalize Jx.byt l (k + j) = X at *
        clear CELL CIN COUT HC HQ hj hjN
        by_cases he : er = 0
        · subst he
          have Z := Lib.hid (TF.out.trans (if_pos rfl))
          have X0 := FINE.out
          rw [Z.out] at X0
          have xl : x + (k + j) ≤ l.length := X0.2.1
          clear X0
          go_wp2_with fail
          with_reducible refine (D.out _).mono ?_
          rintro e w1 ⟨rfl, rfl⟩
          go_wp2_with fail
          refine (FI.out _ _ _ (by first | rfl | omega | (simp; done) | (simp; omega)) (YB.out) (by first | omega | (simp; omega))).mono ?_
          intro e w1 h1
          obtain ⟨rfl, b1⟩ := tkW_out h1
          clear h1
          have bb := W0.trans (b1.mono W0.size)
          have s1 := b1.size
          rw [sz0] at s1
          have hOwn := Nat.lt_of_lt_of_le (n := w.heap.size) (by first | exact Nat.le_refl _ | assumption | (simp; done) | (simp; omega) | omega) (Below.size b1)
          have hOwn1 := Nat.ne_of_gt hOwn
          have hOwn2 := Nat.ne_of_lt hOwn
          have hOwn := (Below.cell b1 (p := ⟨w.heap.size, 0, none⟩) (by first | exact Nat.le_refl _ | assumption | (simp; done) | (simp; omega) | omega)).trans (by go_simp; rfl)
          have hOwn := (Below.cell b1 (p := ⟨w.heap.size, 1, none⟩) (by first | exact Nat.le_refl _ | assumption | (simp; done) | (simp; omega) | omega)).trans (by go_simp; rfl)
          have hOwn := (Below.cell b1 (p := ⟨w.heap.size, 2, none⟩) (by first | exact Nat.le_refl _ | assumption | (simp; done) | (simp; omega) | omega)).trans (by go_simp; rfl)
          have hOwn := (Below.cell b1 (p := ⟨w.heap.size, 3, none⟩) (by first | exact Nat.le_refl _ | assumption | (simp; done) | (simp; omega) | omega)).trans (by go_simp; rfl)
          have hOwn := (Below.cell b1 (p := ⟨w.heap.size, 4, none⟩) (by first | exact Nat.le_refl _ | assumption | (simp; done) | (simp; omega) | omega)).trans (by go_simp; rfl)
          have hOwn := (Below.frozen b1 (p := ⟨w.heap.size, 0, none⟩) (by first | exact Nat.le_refl _ | assumption | (simp; done) | (simp; omega) | omega)).trans (by go_simp; rfl)
          have hOwn := (Below.frozen b1 (p := ⟨w.heap.size, 1, none⟩) (by first | exact Nat.le_refl _ | assumption | (simp; done) | (simp; omega) | omega)).trans (by go_simp; rfl)
          have hOwn := (Below.frozen b1 (p := ⟨w.heap.size, 2, none⟩) (by first | exact Nat.le_refl _ | assumption | (simp; done) | (simp; omega) | omega)).trans (by go_simp; rfl)
          have hOwn := (Below.frozen b1 (p := ⟨w.heap.size, 3, none⟩) (by first | exact Nat.le_refl _ | assumption | (simp; done) | (simp; omega) | omega)).trans (by go_simp; rfl)
          have hOwn := (Below.frozen b1 (p := ⟨w.heap.size, 4, none⟩) (by first | exact Nat.le_refl _ | assumption | (simp; done) | (simp; omega) | omega)).trans (by go_simp; rfl)
          go_wp2_with fail
          try simp only [Exit.inBlock, Exit.then]
          refine post_rj (x0 := .int .i64 (K : Int)) (x1 := .int .i64 n) (x2 := .string ⟨T.toArray⟩) (x3 := .int .i64 ((k : Int) + (j : Int))) (x4 := .int .i64 ((k : Int) + (j : Int) + (x : Int))) rfl rfl rfl (by go_simp) (by go_simp) (by go_simp) (by go_simp) (by go_simp) ?_
          exact tkW_ret Z.out rfl rfl rfl (by push_cast; omega) (by push_cast; omega) rfl (by (repeat' (first | with_reducible assumption | with_reducible exact Below.refl _ _ | (with_reducible refine Below.alloc ?_ ?_ _; rotate_left; focus ((first | exact Nat.le_refl _ | (simp; done) | (simp; omega) | omega | fail))) | (with_reducible refine Below.setCell ?_ ?_ _; rotate_left; focus ((first | exact Nat.le_refl _ | (simp; done) | (simp; omega) | omega | fail))) | with_reducible refine Mem.bel_drewN ?_ _ | with_reducible refine Below.drew ?_ | (with_reducible refine Mem.bel_call (by with_reducible assumption) ?_ ?_; focus ((first | exact Nat.le_refl _ | (simp; done) | (simp; omega) | omega | fail))) | fail)))
        · have Z := Lib.hid (TF.out.trans (if_neg he))
          have qe : ((er : Int) != 0) = true := by rw [bne_iff_ne]; omega
          clear he
          go_wp2_with fail
          with_reducible refine (D.out _).mono ?_
          rintro e w1 ⟨rfl, rfl⟩
          go_wp2_with fail
          refine (FI.out _ _ _ (by first | rfl | omega | (simp; done) | (simp; omega)) (YB.out) (by first | omega | (simp; omega))).mono ?_
          intro e w1 h1
          obtain ⟨rfl, b1⟩ := tkW_out h1
          clear h1
          have bb := W0.trans (b1.mono W0.size)
          have s1 := b1.size
          rw [sz0] at s1
          have hOwn := Nat.lt_of_lt_of_le (n := w.heap.size) (by first | exact Nat.le_refl _ | assumption | (simp; done) | (simp; omega) | omega) (Below.size b1)
          have hOwn1 := Nat.ne_of_gt hOwn
          have hOwn2 := Nat.ne_of_lt hOwn
          have hOwn := (Below.cell b1 (p := ⟨w.heap.size, 0, none⟩) (by first | exact Nat.le_refl _ | assumption | (simp; done) | (simp; omega) | omega)).trans (by go_simp; rfl)
          have hOwn := (Below.cell b1 (p := ⟨w.heap.size, 1, none⟩) (by first | exact Nat.le_refl _ | assumption | (simp; done) | (simp; omega) | omega)).trans (by go_simp; rfl)
          have hOwn := (Below.cell b1 (p := ⟨w.heap.size, 2, none⟩) (by first | exact Nat.le_refl _ | assumption | (simp; done) | (simp; omega) | omega)).trans (by go_simp; rfl)
          have hOwn := (Below.cell b1 (p := ⟨w.heap.size, 3, none⟩) (by first | exact Nat.le_refl _ | assumption | (simp; done) | (simp; omega) | omega)).trans (by go_simp; rfl)
          have hOwn := (Below.cell b1 (p := ⟨w.heap.size, 4, none⟩) (by first | exact Nat.le_refl _ | assumption | (simp; done) | (simp; omega) | omega)).trans (by go_simp; rfl)
          have hOwn := (Below.frozen b1 (p := ⟨w.heap.size, 0, none⟩) (by first | exact Nat.le_refl _ | assumption | (simp; done) | (simp; omega) | omega)).trans (by go_simp; rfl)
          have hOwn := (Below.frozen b1 (p := ⟨w.heap.size, 1, none⟩) (by first | exact Nat.le_refl _ | assumption | (simp; done) | (simp; omega) | omega)).trans (by go_simp; rfl)
          have hOwn := (Below.frozen b1 (p := ⟨w.heap.size, 2, none⟩) (by first | exact Nat.le_refl _ | assumption | (simp; done) | (simp; omega) | omega)).trans (by go_simp; rfl)
          have hOwn := (Below.frozen b1 (p := ⟨w.heap.size, 3, none⟩) (by first | exact Nat.le_refl _ | assumption | (simp; done) | (simp; omega) | omega)).trans (by go_simp; rfl)
          have hOwn := (Below.frozen b1 (p := ⟨w.heap.size, 4, none⟩) (by first | exact Nat.le_refl _ | assumption | (simp; done) | (simp; omega) | omega)).trans (by go_simp; rfl)
          go_wp2_with fail
          try simp only [Exit.inBlock, Exit.then]
          refine post_rj (x0 := .int .i64 0) (x1 := .int .i64 0) (x2 := .string ⟨#[]⟩) (x3 := .int .i64 0) (x4 := .int .i64 0) rfl rfl rfl (by go_simp) (by go_simp) (by go_simp) (by go_simp) (by go_simp) ?_
          exact tkW_ret (Z.out.trans bad_zero) rfl rfl rfl rfl rfl rfl (by (repeat' (first | with_reducible assumption | with_reducible exact Below.refl _ _ | (with_reducible refine Below.alloc ?_ ?_ _; rotate_left; focus ((first | exact Nat.le_refl _ | (simp; done) | (simp; omega) | omega | fail))) | (with_reducible refine Below.setCell ?_ ?_ _; rotate_left; focus ((first | exact Nat.le_refl _ | (simp; done) | (simp; omega) | omega | fail))) | with_reducible refine Mem.bel_drewN ?_ _ | with_reducible refine Below.drew ?_ | (with_reducible refine Mem.bel_call (by with_reducible assumption) ?_ ?_; focus ((first | exact Nat.le_refl _ | (simp; done) | (simp; omega) | omega | fail))) | fail)))
    · obtain rfl : j = N := by omega
      have e := HQ.out
      subst e
      have hq2 : (k + j) = l.length := by omega
      have DN := Lib.hid (show ∀ A', Bys w w.heap.size A' (l.drop (k + j)) from fun A' => by rw [List.drop_eq_nil_of_le (by omega)]; exact Bys.nil _ _ _)
      have le0 : l.length - (k + j) = 0 := by omega
      have nlt : ¬ ((k : Int) + (j : Int)) < (l.length : Int) := by omega
      have HQ2 := Lib.hid hq2
      clear CELL CIN COUT HC HQ hj hq2
      by_cases hcq : c = (k + j)
      · subst hcq
        by_cases he : er = 0
        · subst he
          have Z := Lib.hid (TF.out.trans (if_pos rfl))
          have X0 := FINE.out
          rw [Z.out] at X0
          have xl : x + (k + j) ≤ l.length := X0.2.1
          clear X0
          go_wp2_with fail
          refine (FI.out _ _ _ (by first | rfl | omega | (simp; done) | (simp; omega)) (DN.out _) (by first | omega | (simp; omega))).mono ?_
          intro e w1 h1
          obtain ⟨rfl, b1⟩ := tkW_out h1
          clear h1
          have bb := W0.trans (b1.mono W0.size)
          have s1 := b1.size
          rw [sz0] at s1
          have hOwn := Nat.lt_of_lt_of_le (n := w.heap.size) (by first | exact Nat.le_refl _ | assumption | (simp; done) | (simp; omega) | omega) (Below.size b1)
          have hOwn1 := Nat.ne_of_gt hOwn
          have hOwn2 := Nat.ne_of_lt hOwn
          have hOwn := (Below.cell b1 (p := ⟨w.heap.size, 0, none⟩) (by first | exact Nat.le_refl _ | assumption | (simp; done) | (simp; omega) | omega)).trans (by go_simp; rfl)
          have hOwn := (Below.cell b1 (p := ⟨w.heap.size, 1, none⟩) (by first | exact Nat.le_refl _ | assumption | (simp; done) | (simp; omega) | omega)).trans (by go_simp; rfl)
          have hOwn := (Below.cell b1 (p := ⟨w.heap.size, 2, none⟩) (by first | exact Nat.le_refl _ | assumption | (simp; done) | (simp; omega) | omega)).trans (by go_simp; rfl)
          have hOwn := (Below.cell b1 (p := ⟨w.heap.size, 3, none⟩) (by first | exact Nat.le_refl _ | assumption | (simp; done) | (simp; omega) | omega)).trans (by go_simp; rfl)
          have hOwn := (Below.cell b1 (p := ⟨w.heap.size, 4, none⟩) (by first | exact Nat.le_refl _ | assumption | (simp; done) | (simp; omega) | omega)).trans (by go_simp; rfl)
          have hOwn := (Below.frozen b1 (p := ⟨w.heap.size, 0, none⟩) (by first | exact Nat.le_refl _ | assumption | (simp; done) | (simp; omega) | omega)).trans (by go_simp; rfl)
          have hOwn := (Below.frozen b1 (p := ⟨w.heap.size, 1, none⟩) (by first | exact Nat.le_refl _ | assumption | (simp; done) | (simp; omega) | omega)).trans (by go_simp; rfl)
          have hOwn := (Below.frozen b1 (p := ⟨w.heap.size, 2, none⟩) (by first | exact Nat.le_refl _ | assumption | (simp; done) | (simp; omega) | omega)).trans (by go_simp; rfl)
          have hOwn := (Below.frozen b1 (p := ⟨w.heap.size, 3, none⟩) (by first | exact Nat.le_refl _ | assumption | (simp; done) | (simp; omega) | omega)).trans (by go_simp; rfl)
          have hOwn := (Below.frozen b1 (p := ⟨w.heap.size, 4, none⟩) (by first | exact Nat.le_refl _ | assumption | (simp; done) | (simp; omega) | omega)).trans (by go_simp; rfl)
          go_wp2_with fail
          try simp only [Exit.inBlock, Exit.then]
          refine post_rj (x0 := .int .i64 (K : Int)) (x1 := .int .i64 n) (x2 := .string ⟨T.toArray⟩) (x3 := .int .i64 ((k : Int) + (j : Int))) (x4 := .int .i64 ((k : Int) + (j : Int) + (x : Int))) rfl rfl rfl (by go_simp) (by go_simp) (by go_simp) (by go_simp) (by go_simp) ?_
          exact tkW_ret Z.out rfl rfl rfl (by push_cast; omega) (by push_cast; omega) rfl (by (repeat' (first | with_reducible assumption | with_reducible exact Below.refl _ _ | (with_reducible refine Below.alloc ?_ ?_ _; rotate_left; focus ((first | exact Nat.le_refl _ | (simp; done) | (simp; omega) | omega | fail))) | (with_reducible refine Below.setCell ?_ ?_ _; rotate_left; focus ((first | exact Nat.le_refl _ | (simp; done) | (simp; omega) | omega | fail))) | with_reducible refine Mem.bel_drewN ?_ _ | with_reducible refine Below.drew ?_ | (with_reducible refine Mem.bel_call (by with_reducible assumption) ?_ ?_; focus ((first | exact Nat.le_refl _ | (simp; done) | (simp; omega) | omega | fail))) | fail)))
        · have Z := Lib.hid (TF.out.trans (if_neg he))
          have qe : ((er : Int) != 0) = true := by rw [bne_iff_ne]; omega
          clear he
          go_wp2_with fail
          refine (FI.out _ _ _ (by first | rfl | omega | (simp; done) | (simp; omega)) (DN.out _) (by first | omega | (simp; omega))).mono ?_
          intro e w1 h1
          obtain ⟨rfl, b1⟩ := tkW_out h1
          clear h1
          have bb := W0.trans (b1.mono W0.size)
          have s1 := b1.size
          rw [sz0] at s1
          have hOwn := Nat.lt_of_lt_of_le (n := w.heap.size) (by first | exact Nat.le_refl _ | assumption | (simp; done) | (simp; omega) | omega) (Below.size b1)
          have hOwn1 := Nat.ne_of_gt hOwn
          have hOwn2 := Nat.ne_of_lt hOwn
          have hOwn := (Below.cell b1 (p := ⟨w.heap.size, 0, none⟩) (by first | exact Nat.le_refl _ | assumption | (simp; done) | (simp; omega) | omega)).trans (by go_simp; rfl)
          have hOwn := (Below.cell b1 (p := ⟨w.heap.size, 1, none⟩) (by first | exact Nat.le_refl _ | assumption | (simp; done) | (simp; omega) | omega)).trans (by go_simp; rfl)
          have hOwn := (Below.cell b1 (p := ⟨w.heap.size, 2, none⟩) (by first | exact Nat.le_refl _ | assumption | (simp; done) | (simp; omega) | omega)).trans (by go_simp; rfl)
          have hOwn := (Below.cell b1 (p := ⟨w.heap.size, 3, none⟩) (by first | exact Nat.le_refl _ | assumption | (simp; done) | (simp; omega) | omega)).trans (by go_simp; rfl)
          have hOwn := (Below.cell b1 (p := ⟨w.heap.size, 4, none⟩) (by first | exact Nat.le_refl _ | assumption | (simp; done) | (simp; omega) | omega)).trans (by go_simp; rfl)
          have hOwn := (Below.frozen b1 (p := ⟨w.heap.size, 0, none⟩) (by first | exact Nat.le_refl _ | assumption | (simp; done) | (simp; omega) | omega)).trans (by go_simp; rfl)
          have hOwn := (Below.frozen b1 (p := ⟨w.heap.size, 1, none⟩) (by first | exact Nat.le_refl _ | assumption | (simp; done) | (simp; omega) | omega)).trans (by go_simp; rfl)
          have hOwn := (Below.frozen b1 (p := ⟨w.heap.size, 2, none⟩) (by first | exact Nat.le_refl _ | assumption | (simp; done) | (simp; omega) | omega)).trans (by go_simp; rfl)
          have hOwn := (Below.frozen b1 (p := ⟨w.heap.size, 3, none⟩) (by first | exact Nat.le_refl _ | assumption | (simp; done) | (simp; omega) | omega)).trans (by go_simp; rfl)
          have hOwn := (Below.frozen b1 (p := ⟨w.heap.size, 4, none⟩) (by first | exact Nat.le_refl _ | assumption | (simp; done) | (simp; omega) | omega)).trans (by go_simp; rfl)
          go_wp2_with fail
          try simp only [Exit.inBlock, Exit.then]
          refine post_rj (x0 := .int .i64 0) (x1 := .int .i64 0) (x2 := .string ⟨#[]⟩) (x3 := .int .i64 0) (x4 := .int .i64 0) rfl rfl rfl (by go_simp) (by go_simp) (by go_simp) (by go_simp) (by go_simp) ?_
          exact tkW_ret (Z.out.trans bad_zero) rfl rfl rfl rfl rfl rfl (by (repeat' (first | with_reducible assumption | with_reducible exact Below.refl _ _ | (with_reducible refine Below.alloc ?_ ?_ _; rotate_left; focus ((first | exact Nat.le_refl _ | (simp; done) | (simp; omega) | omega | fail))) | (with_reducible refine Below.setCell ?_ ?_ _; rotate_left; focus ((first | exact Nat.le_refl _ | (simp; done) | (simp; omega) | omega | fail))) | with_reducible refine Mem.bel_drewN ?_ _ | with_reducible refine Below.drew ?_ | (with_reducible refine Mem.bel_call (by with_reducible assumption) ?_ ?_; focus ((first | exact Nat.le_refl _ | (simp; done) | (simp; omega) | omega | fail))) | fail)))
      · by_cases he : er = 0
        · subst he
          have Z := Lib.hid (TF.out.trans (if_pos rfl))
          have X0 := FINE.out
          rw [Z.out] at X0
          have xl : x + (k + j) ≤ l.length := X0.2.1
          clear X0
          go_wp2_with fail
          refine (FI.out _ _ _ (by first | rfl | omega | (simp; done) | (simp; omega)) (DN.out _) (by first | omega | (simp; omega))).mono ?_
          intro e w1 h1
          obtain ⟨rfl, b1⟩ := tkW_out h1
          clear h1
          have bb := W0.trans (b1.mono W0.size)
          have s1 := b1.size
          rw [sz0] at s1
          have hOwn := Nat.lt_of_lt_of_le (n := w.heap.size) (by first | exact Nat.le_refl _ | assumption | (simp; done) | (simp; omega) | omega) (Below.size b1)
          have hOwn1 := Nat.ne_of_gt hOwn
          have hOwn2 := Nat.ne_of_lt hOwn
          have hOwn := (Below.cell b1 (p := ⟨w.heap.size, 0, none⟩) (by first | exact Nat.le_refl _ | assumption | (simp; done) | (simp; omega) | omega)).trans (by go_simp; rfl)
          have hOwn := (Below.cell b1 (p := ⟨w.heap.size, 1, none⟩) (by first | exact Nat.le_refl _ | assumption | (simp; done) | (simp; omega) | omega)).trans (by go_simp; rfl)
          have hOwn := (Below.cell b1 (p := ⟨w.heap.size, 2, none⟩) (by first | exact Nat.le_refl _ | assumption | (simp; done) | (simp; omega) | omega)).trans (by go_simp; rfl)
          have hOwn := (Below.cell b1 (p := ⟨w.heap.size, 3, none⟩) (by first | exact Nat.le_refl _ | assumption | (simp; done) | (simp; omega) | omega)).trans (by go_simp; rfl)
          have hOwn := (Below.cell b1 (p := ⟨w.heap.size, 4, none⟩) (by first | exact Nat.le_refl _ | assumption | (simp; done) | (simp; omega) | omega)).trans (by go_simp; rfl)
          have hOwn := (Below.frozen b1 (p := ⟨w.heap.size, 0, none⟩) (by first | exact Nat.le_refl _ | assumption | (simp; done) | (simp; omega) | omega)).trans (by go_simp; rfl)
          have hOwn := (Below.frozen b1 (p := ⟨w.heap.size, 1, none⟩) (by first | exact Nat.le_refl _ | assumption | (simp; done) | (simp; omega) | omega)).trans (by go_simp; rfl)
          have hOwn := (Below.frozen b1 (p := ⟨w.heap.size, 2, none⟩) (by first | exact Nat.le_refl _ | assumption | (simp; done) | (simp; omega) | omega)).trans (by go_simp; rfl)
          have hOwn := (Below.frozen b1 (p := ⟨w.heap.size, 3, none⟩) (by first | exact Nat.le_refl _ | assumption | (simp; done) | (simp; omega) | omega)).trans (by go_simp; rfl)
          have hOwn := (Below.frozen b1 (p := ⟨w.heap.size, 4, none⟩) (by first | exact Nat.le_refl _ | assumption | (simp; done) | (simp; omega) | omega)).trans (by go_simp; rfl)
          go_wp2_with fail
          try simp only [Exit.inBlock, Exit.then]
          refine post_rj (x0 := .int .i64 (K : Int)) (x1 := .int .i64 n) (x2 := .string ⟨T.toArray⟩) (x3 := .int .i64 ((k : Int) + (j : Int))) (x4 := .int .i64 ((k : Int) + (j : Int) + (x : Int))) rfl rfl rfl (by go_simp) (by go_simp) (by go_simp) (by go_simp) (by go_simp) ?_
          exact tkW_ret Z.out rfl rfl rfl (by push_cast; omega) (by push_cast; omega) rfl (by (repeat' (first | with_reducible assumption | with_reducible exact Below.refl _ _ | (with_reducible refine Below.alloc ?_ ?_ _; rotate_left; focus ((first | exact Nat.le_refl _ | (simp; done) | (simp; omega) | omega | fail))) | (with_reducible refine Below.setCell ?_ ?_ _; rotate_left; focus ((first | exact Nat.le_refl _ | (simp; done) | (simp; omega) | omega | fail))) | with_reducible refine Mem.bel_drewN ?_ _ | with_reducible refine Below.drew ?_ | (with_reducible refine Mem.bel_call (by with_reducible assumption) ?_ ?_; focus ((first | exact Nat.le_refl _ | (simp; done) | (simp; omega) | omega | fail))) | fail)))
        · have Z := Lib.hid (TF.out.trans (if_neg he))
          have qe : ((er : Int) != 0) = true := by rw [bne_iff_ne]; omega
          clear he
          go_wp2_with fail
          refine (FI.out _ _ _ (by first | rfl | omega | (simp; done) | (simp; omega)) (DN.out _) (by first | omega | (simp; omega))).mono ?_
          intro e w1 h1
          obtain ⟨rfl, b1⟩ := tkW_out h1
          clear h1
          have bb := W0.trans (b1.mono W0.size)
          have s1 := b1.size
          rw [sz0] at s1
          have hOwn := Nat.lt_of_lt_of_le (n := w.heap.size) (by first | exact Nat.le_refl _ | assumption | (simp; done) | (simp; omega) | omega) (Below.size b1)
          have hOwn1 := Nat.ne_of_gt hOwn
          have hOwn2 := Nat.ne_of_lt hOwn
          have hOwn := (Below.cell b1 (p := ⟨w.heap.size, 0, none⟩) (by first | exact Nat.le_refl _ | assumption | (simp; done) | (simp; omega) | omega)).trans (by go_simp; rfl)
          have hOwn := (Below.cell b1 (p := ⟨w.heap.size, 1, none⟩) (by first | exact Nat.le_refl _ | assumption | (simp; done) | (simp; omega) | omega)).trans (by go_simp; rfl)
          have hOwn := (Below.cell b1 (p := ⟨w.heap.size, 2, none⟩) (by first | exact Nat.le_refl _ | assumption | (simp; done) | (simp; omega) | omega)).trans (by go_simp; rfl)
          have hOwn := (Below.cell b1 (p := ⟨w.heap.size, 3, none⟩) (by first | exact Nat.le_refl _ | assumption | (simp; done) | (simp; omega) | omega)).trans (by go_simp; rfl)
          have hOwn := (Below.cell b1 (p := ⟨w.heap.size, 4, none⟩) (by first | exact Nat.le_refl _ | assumption | (simp; done) | (simp; omega) | omega)).trans (by go_simp; rfl)
          have hOwn := (Below.frozen b1 (p := ⟨w.heap.size, 0, none⟩) (by first | exact Nat.le_refl _ | assumption | (simp; done) | (simp; omega) | omega)).trans (by go_simp; rfl)
          have hOwn := (Below.frozen b1 (p := ⟨w.heap.size, 1, none⟩) (by first | exact Nat.le_refl _ | assumption | (simp; done) | (simp; omega) | omega)).trans (by go_simp; rfl)
          have hOwn := (Below.frozen b1 (p := ⟨w.heap.size, 2, none⟩) (by first | exact Nat.le_refl _ | assumption | (simp; done) | (simp; omega) | omega)).trans (by go_simp; rfl)
          have hOwn := (Below.frozen b1 (p := ⟨w.heap.size, 3, none⟩) (by first | exact Nat.le_refl _ | assumption | (simp; done) | (simp; omega) | omega)).trans (by go_simp; rfl)
          have hOwn := (Below.frozen b1 (p := ⟨w.heap.size, 4, none⟩) (by first | exact Nat.le_refl _ | assumption | (simp; done) | (simp; omega) | omega)).trans (by go_simp; rfl)
          go_wp2_with fail
          try simp only [Exit.inBlock, Exit.then]
          refine post_rj (x0 := .int .i64 0) (x1 := .int .i64 0) (x2 := .string ⟨#[]⟩) (x3 := .int .i64 0) (x4 := .int .i64 0) rfl rfl rfl (by go_simp) (by go_simp) (by go_simp) (by go_simp) (by go_simp) ?_
          exact tkW_ret (Z.out.trans bad_zero) rfl rfl rfl rfl rfl rfl (by (repeat' (first | with_reducible assumption | with_reducible exact Below.refl _ _ | (with_reducible refine Below.alloc ?_ ?_ _; rotate_left; focus ((first | exact Nat.le_refl _ | (simp; done) | (simp; omega) | omega | fail))) | (with_reducible refine Below.setCell ?_ ?_ _; rotate_left; focus ((first | exact Nat.le_refl _ | (simp; done) | (simp; omega) | omega | fail))) | with_reducible refine Mem.bel_drewN ?_ _ | with_reducible refine Below.drew ?_ | (with_reducible refine Mem.bel_call (by with_reducible assumption) ?_ ?_; focus ((first | exact Nat.le_refl _ | (simp; done) | (simp; omega) | omega | fail))) | fail)))

theorem jTake_any (A : Option Addr) (c : Nat) (l : List UInt8) (i : Int) (w : World) (hL : Laid w) (hb : Bys w w.heap.size A l) (hl : l.length ≤ 100000000) (hc : l.length ≤ c) :
    Calls Tryd.prog 15 #[.slice A l.length c, .int .i64 i] w (TkW (Jx.takI l i) w) := by
  unfold Jx.takI
  by_cases h : i < 0 ∨ (l.length : Int) < i
  · rw [if_pos h]; exact jTake_bad A c l i w h
  · rw [if_neg h]
    obtain ⟨k, rfl⟩ := Int.eq_ofNat_of_zero_le (a := i) (by omega)
    exact jTake_good A c l k w hL hb hl hc (by omega)

end Go.Proofs.YtjebkedlfhapjaaDoor
