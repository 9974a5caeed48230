/- Joined by tools/bundle.py: JlexT JC. -/
import Derived.Deep.RegionHeldLaw
import Derived.Test.YthogheglddfniaaGreatDoorQ2
import Derived.Test.YthogheglddfniaaGreatDoorQ4
import Derived.Test.YthogheglddfniaaGreatDoorQ8
import Derived.Test.YthogheglddfniaaGreatDoorQ23
import Derived.Test.YthogheglddfniaaGreatDoorQ24
import Derived.Test.YthogheglddfniaaGreatDoorQ0
set_option maxRecDepth 100000
set_option maxHeartbeats 16000000
namespace Go.Proofs.YthogheglddfniaaGreatDoor
open Go.ChangeShapes Go.WideShapes Go.ChangeAt Go.RowKit Mem
def fstW (l : List UInt8) : Jx.Wd × Nat := if l.length = 0 then (⟨11, 0, [], 0, 0⟩, 0) else Jx.word l
theorem fstW_end {l : List UInt8} (h : l.length = 0) : fstW l = (⟨11, 0, [], 0, 0⟩, 0) := by unfold fstW; rw [if_pos h]
theorem fstW_p {l : List UInt8} (h0 : l.length ≠ 0) (h : Jx.punct (Jx.byt l 0) ≠ 0) : fstW l = (⟨Jx.punct (Jx.byt l 0), 0, [], 0, 1⟩, 0) := by unfold fstW; rw [if_neg h0]; unfold Jx.word; rw [if_pos h]
theorem fstW_t {l : List UInt8} (h0 : l.length ≠ 0) (h : Jx.byt l 0 = 34) : fstW l = txtW (Jx.txt (l.drop 1)) := by
 unfold fstW; rw [if_neg h0]; unfold Jx.word; rw [if_neg (by rw [h]; decide), if_pos h]
 cases Jx.txt (l.drop 1) with
 | none => rfl
 | some r => rfl
theorem fstW_n {l : List UInt8} (h0 : l.length ≠ 0) (h : Jx.byt l 0 = 45 ∨ Jx.isD (Jx.byt l 0) = true) : fstW l = numW (Jx.num l) := by
 have hp : Jx.punct (Jx.byt l 0) = 0 := by
  rw [Jx.isD_is] at h
  have := Jx.punct_is (Jx.byt l 0)
  omega
 have h34 : Jx.byt l 0 ≠ 34 := by rw [Jx.isD_is] at h; omega
 unfold fstW; rw [if_neg h0]; unfold Jx.word numW; rw [if_neg omq, if_neg h34, if_pos h]
theorem fstW_l {l : List UInt8} (h0 : l.length ≠ 0) (h : Jx.punct (Jx.byt l 0) = 0) (h1 : Jx.byt l 0 ≠ 34) (h2 : ¬ (Jx.byt l 0 = 45 ∨ Jx.isD (Jx.byt l 0) = true)) : fstW l = letW l := by
 unfold fstW; rw [if_neg h0]; unfold Jx.word letW; rw [if_neg omq, if_neg h1, if_neg h2]; rfl
theorem fstW_a (l : List UInt8) : (fstW l).1.a = 0 := by
 by_cases h0 : l.length = 0
 · rw [fstW_end h0]
 · by_cases h : Jx.punct (Jx.byt l 0) = 0
   · by_cases h1 : Jx.byt l 0 = 34
     · rw [fstW_t h0 h1]; cases Jx.txt (l.drop 1) <;> rfl
     · by_cases h2 : Jx.byt l 0 = 45 ∨ Jx.isD (Jx.byt l 0) = true
       · rw [fstW_n h0 h2]; unfold numW; split <;> rfl
       · rw [fstW_l h0 h h1 h2]; unfold letW
         split
         · rfl
         · split
           · rfl
           · split <;> rfl
   · rw [fstW_p h0 h]
theorem tak_fst {l : List UInt8} {k q : Nat} (hk : k <= l.length) (hq : q = k + Jx.cnt Jx.isW (l.drop k)) :
 Jx.tak l k = if (fstW (l.drop q)).2 = 0 then ((fstW (l.drop q)).1.at_ q, 0) else (Jx.Wd.zero, (fstW (l.drop q)).2) := by
 have hl := Jx.tak_q l k hk
 rw [← hq] at hl
 by_cases h : q = l.length
 · rw [Jx.tak_e hq h, fstW_end (by rw [List.length_drop]; omega)]
   simp [Jx.Wd.at_]
 · have e : fstW (l.drop q) = Jx.word (l.drop q) := by unfold fstW; rw [if_neg (by rw [List.length_drop]; omega)]
   rw [e]
   cases hw : Jx.word (l.drop q) with
   | mk w er =>
    by_cases he : er = 0
    · subst he; rw [Jx.tak_word hq h hw]; rfl
    · rw [Jx.tak_err hq h hw he, if_neg he]
theorem jfirst_any (A : Option Addr) (c : Nat) (l : List UInt8) (w : World) (hL : Laid w) (hb : Bys w w.heap.size A l) (hl : l.length <= 100000000) (hc : l.length <= c) :
 Calls Tryz.prog 122 #[.slice A l.length c] w (TkW (fstW l) w) := by
 have CS := cell_set
 by_cases h0 : l.length = 0
 · have Z := lhq (fstW_end h0)
   have q0 : ((l.length : Int) == 0) = true := by rw [beq_iff_eq]; omega
   clear hb h0
   go_enter Tryz.func122, Tryz.ntmps122
   go_wp2_with fail
   try simp only [Exit.inBlock, Exit.then]
   refine post_rj (x0 := .int .i64 11) (x1 := .int .i64 0) (x2 := .string ⟨#[]⟩) (x3 := .int .i64 0) (x4 := .int .i64 0) rfl rfl rfl gsq gsq gsq gsq gsq ?_
   exact tkW_ret Z.out rfl rfl rfl rfl rfl rfl bqq
 · have q0 : ((l.length : Int) == 0) = false := by rw [beq_eq_false_iff_ne]; omega
   have LN : (0 : Int) < (l.length : Int) := by omega
   have LP : 0 < l.length := by omega
   have hL1 := hL.alloc (.cells #[.int .i64 0, .int .i64 0, .string ⟨#[]⟩, .int .i64 0, .int .i64 0] 118)
   have hb1 := (hb.alloc (nlr _) (.cells #[.int .i64 0, .int .i64 0, .string ⟨#[]⟩, .int .i64 0, .int .i64 0] 118)).more (B' := (w.alloc (.cells #[.int .i64 0, .int .i64 0, .string ⟨#[]⟩, .int .i64 0, .int .i64 0] 118)).heap.size) smq
   have TX := lhq (jtext_any A c l _ hL1 hb1 hl hc LP)
   have NM := lhq (number_any A c l _ hb1 omq hc LP)
   have LT := lhq (letters_any A c l _ hL1 hb1 omq hc LP)
   have W0 : Below w.heap.size w (w.alloc (.cells #[.int .i64 0, .int .i64 0, .string ⟨#[]⟩, .int .i64 0, .int .i64 0] 118)) := (Below.refl _ _).alloc (nlr _) _
   obtain ⟨b, off, rfl, hB, cell⟩ := bys_cell hb LP
   rw [Nat.add_zero] at cell
   have P := lhq (place_any ⟨#[123, 125, 91, 93, 58, 44]⟩ (Jx.byt l 0))
   rw [show (⟨#[123, 125, 91, 93, 58, 44]⟩ : ByteArray).data.toList = [123, 125, 91, 93, 58, 44] from rfl, place_signs _ (Jx.byt_lt l 0)] at P
   have D := lhq (digit_any (Jx.byt l 0))
   have fp := @fstW_p l h0; have ft := @fstW_t l h0; have fn := @fstW_n l h0; have fl := @fstW_l l h0
   have ps := Jx.punct_is (Jx.byt l 0)
   generalize fstW l = R at *
   generalize txtW (Jx.txt (l.drop 1)) = RT at *
   generalize numW (Jx.num l) = RN at *
   generalize letW l = RL at *
   generalize Jx.byt l 0 = X at *
   obtain ⟨PX, hPX⟩ : ∃ p, p = Jx.punct X := ⟨_, rfl⟩
   rw [← hPX] at P fp fl ps
   clear hPX hb h0
   by_cases hp : PX = 0
   · subst hp
     have HP : ∀ w0, Calls Tryz.prog 147 #[.string ⟨#[123, 125, 91, 93, 58, 44]⟩, .int .u8 (X : Int)] w0 fun e w' => e = .returned (.int .i64 (-1)) /\ w0 = w' := P.out
     have P1 := lhq HP
     clear HP P ps fp
     by_cases h34 : X = 34
     · have q34 : ((X : Int) == 34) = true := by rw [beq_iff_eq]; omega
       have Z := lhq (ft h34)
       clear ft fn fl D NM LT h34
       obtain ⟨⟨k, n, t, a, x⟩, er⟩ := RT
       go_enter Tryz.func122, Tryz.ntmps122
       go_wp2_with fail
       go_wp2_with fail
       with_reducible refine (P1.out _).mono ?_
       rintro e w1 ⟨rfl, rfl⟩
       go_wp2_with fail
       refine TX.out.mono ?_
       intro e w1 h1
       obtain ⟨rfl, b1⟩ := tkW_out h1
       clear h1
       have hO := nll (n := w.heap.size) sdd (Below.size b1)
       have hO1 := Nat.ne_of_gt hO
       have hO2 := Nat.ne_of_lt hO
       have hO := (Below.cell b1 (p := ⟨w.heap.size, 0, none⟩) sdd).trans gsr
       have hO := (Below.cell b1 (p := ⟨w.heap.size, 1, none⟩) sdd).trans gsr
       have hO := (Below.cell b1 (p := ⟨w.heap.size, 2, none⟩) sdd).trans gsr
       have hO := (Below.cell b1 (p := ⟨w.heap.size, 3, none⟩) sdd).trans gsr
       have hO := (Below.cell b1 (p := ⟨w.heap.size, 4, none⟩) sdd).trans gsr
       have hO := (Below.frozen b1 (p := ⟨w.heap.size, 0, none⟩) sdd).trans gsr
       have hO := (Below.frozen b1 (p := ⟨w.heap.size, 1, none⟩) sdd).trans gsr
       have hO := (Below.frozen b1 (p := ⟨w.heap.size, 2, none⟩) sdd).trans gsr
       have hO := (Below.frozen b1 (p := ⟨w.heap.size, 3, none⟩) sdd).trans gsr
       have hO := (Below.frozen b1 (p := ⟨w.heap.size, 4, none⟩) sdd).trans gsr
       have bb := W0.trans (b1.mono W0.size)
       go_wp2_with fail
       try simp only [Exit.inBlock, Exit.then]
       refine post_rj (x0 := .int .i64 (k : Int)) (x1 := .int .i64 n) (x2 := .string ⟨t.toArray⟩) (x3 := .int .i64 (a : Int)) (x4 := .int .i64 (x : Int)) rfl rfl rfl gsq gsq gsq gsq gsq ?_
       exact tkW_ret Z.out rfl rfl rfl rfl rfl rfl bqq
     · have q34 : ((X : Int) == 34) = false := by rw [beq_eq_false_iff_ne]; omega
       have NUM : Hid ((X = 45 ∨ Jx.isD X = true) -> R = RN) := fn
       have LET : Hid (¬ (X = 45 ∨ Jx.isD X = true) -> R = RL) := fl rfl h34
       clear ft fn fl TX h34
       by_cases h45 : X = 45
       · have Z := lhq (NUM.out (.inl h45))
         have q45 : ((X : Int) == 45) = true := by rw [beq_iff_eq]; omega
         clear NUM LET D LT h45
         obtain ⟨⟨k, n, t, a, x⟩, er⟩ := RN
         go_enter Tryz.func122, Tryz.ntmps122
         go_wp2_with fail
         go_wp2_with fail
         with_reducible refine (P1.out _).mono ?_
         rintro e w1 ⟨rfl, rfl⟩
         go_wp2_with fail
         refine NM.out.mono ?_
         intro e w1 h1
         obtain ⟨rfl, b1⟩ := tkW_out h1
         clear h1
         have hO := nll (n := w.heap.size) sdd (Below.size b1)
         have hO1 := Nat.ne_of_gt hO
         have hO2 := Nat.ne_of_lt hO
         have hO := (Below.cell b1 (p := ⟨w.heap.size, 0, none⟩) sdd).trans gsr
         have hO := (Below.cell b1 (p := ⟨w.heap.size, 1, none⟩) sdd).trans gsr
         have hO := (Below.cell b1 (p := ⟨w.heap.size, 2, none⟩) sdd).trans gsr
         have hO := (Below.cell b1 (p := ⟨w.heap.size, 3, none⟩) sdd).trans gsr
         have hO := (Below.cell b1 (p := ⟨w.heap.size, 4, none⟩) sdd).trans gsr
         have hO := (Below.frozen b1 (p := ⟨w.heap.size, 0, none⟩) sdd).trans gsr
         have hO := (Below.frozen b1 (p := ⟨w.heap.size, 1, none⟩) sdd).trans gsr
         have hO := (Below.frozen b1 (p := ⟨w.heap.size, 2, none⟩) sdd).trans gsr
         have hO := (Below.frozen b1 (p := ⟨w.heap.size, 3, none⟩) sdd).trans gsr
         have hO := (Below.frozen b1 (p := ⟨w.heap.size, 4, none⟩) sdd).trans gsr
         have bb := W0.trans (b1.mono W0.size)
         go_wp2_with fail
         try simp only [Exit.inBlock, Exit.then]
         refine post_rj (x0 := .int .i64 (k : Int)) (x1 := .int .i64 n) (x2 := .string ⟨t.toArray⟩) (x3 := .int .i64 (a : Int)) (x4 := .int .i64 (x : Int)) rfl rfl rfl gsq gsq gsq gsq gsq ?_
         exact tkW_ret Z.out rfl rfl rfl rfl rfl rfl bqq
       · have q45 : ((X : Int) == 45) = false := by rw [beq_eq_false_iff_ne]; omega
         obtain ⟨DX, hDX⟩ : ∃ d, d = Jx.isD X := ⟨_, rfl⟩
         rw [← hDX] at D NUM LET
         clear hDX
         cases DX with
         | true =>
          have Z := lhq (NUM.out (.inr rfl))
          clear NUM LET LT h45
          obtain ⟨⟨k, n, t, a, x⟩, er⟩ := RN
          go_enter Tryz.func122, Tryz.ntmps122
          go_wp2_with fail
          go_wp2_with fail
          with_reducible refine (P1.out _).mono ?_
          rintro e w1 ⟨rfl, rfl⟩
          go_wp2_with fail
          with_reducible refine (D.out _).mono ?_
          rintro e w1 ⟨rfl, rfl⟩
          go_wp2_with fail
          refine NM.out.mono ?_
          intro e w1 h1
          obtain ⟨rfl, b1⟩ := tkW_out h1
          clear h1
          have hO := nll (n := w.heap.size) sdd (Below.size b1)
          have hO1 := Nat.ne_of_gt hO
          have hO2 := Nat.ne_of_lt hO
          have hO := (Below.cell b1 (p := ⟨w.heap.size, 0, none⟩) sdd).trans gsr
          have hO := (Below.cell b1 (p := ⟨w.heap.size, 1, none⟩) sdd).trans gsr
          have hO := (Below.cell b1 (p := ⟨w.heap.size, 2, none⟩) sdd).trans gsr
          have hO := (Below.cell b1 (p := ⟨w.heap.size, 3, none⟩) sdd).trans gsr
          have hO := (Below.cell b1 (p := ⟨w.heap.size, 4, none⟩) sdd).trans gsr
          have hO := (Below.frozen b1 (p := ⟨w.heap.size, 0, none⟩) sdd).trans gsr
          have hO := (Below.frozen b1 (p := ⟨w.heap.size, 1, none⟩) sdd).trans gsr
          have hO := (Below.frozen b1 (p := ⟨w.heap.size, 2, none⟩) sdd).trans gsr
          have hO := (Below.frozen b1 (p := ⟨w.heap.size, 3, none⟩) sdd).trans gsr
          have hO := (Below.frozen b1 (p := ⟨w.heap.size, 4, none⟩) sdd).trans gsr
          have bb := W0.trans (b1.mono W0.size)
          go_wp2_with fail
          try simp only [Exit.inBlock, Exit.then]
          refine post_rj (x0 := .int .i64 (k : Int)) (x1 := .int .i64 n) (x2 := .string ⟨t.toArray⟩) (x3 := .int .i64 (a : Int)) (x4 := .int .i64 (x : Int)) rfl rfl rfl gsq gsq gsq gsq gsq ?_
          exact tkW_ret Z.out rfl rfl rfl rfl rfl rfl bqq
         | false =>
          have Z := lhq (LET.out (fun h => by rcases h with h | h; (· exact h45 h); (· cases h)))
          clear NUM LET NM h45
          obtain ⟨⟨k, n, t, a, x⟩, er⟩ := RL
          go_enter Tryz.func122, Tryz.ntmps122
          go_wp2_with fail
          go_wp2_with fail
          with_reducible refine (P1.out _).mono ?_
          rintro e w1 ⟨rfl, rfl⟩
          go_wp2_with fail
          with_reducible refine (D.out _).mono ?_
          rintro e w1 ⟨rfl, rfl⟩
          go_wp2_with fail
          refine LT.out.mono ?_
          intro e w1 h1
          obtain ⟨rfl, b1⟩ := tkW_out h1
          clear h1
          have hO := nll (n := w.heap.size) sdd (Below.size b1)
          have hO1 := Nat.ne_of_gt hO
          have hO2 := Nat.ne_of_lt hO
          have hO := (Below.cell b1 (p := ⟨w.heap.size, 0, none⟩) sdd).trans gsr
          have hO := (Below.cell b1 (p := ⟨w.heap.size, 1, none⟩) sdd).trans gsr
          have hO := (Below.cell b1 (p := ⟨w.heap.size, 2, none⟩) sdd).trans gsr
          have hO := (Below.cell b1 (p := ⟨w.heap.size, 3, none⟩) sdd).trans gsr
          have hO := (Below.cell b1 (p := ⟨w.heap.size, 4, none⟩) sdd).trans gsr
          have hO := (Below.frozen b1 (p := ⟨w.heap.size, 0, none⟩) sdd).trans gsr
          have hO := (Below.frozen b1 (p := ⟨w.heap.size, 1, none⟩) sdd).trans gsr
          have hO := (Below.frozen b1 (p := ⟨w.heap.size, 2, none⟩) sdd).trans gsr
          have hO := (Below.frozen b1 (p := ⟨w.heap.size, 3, none⟩) sdd).trans gsr
          have hO := (Below.frozen b1 (p := ⟨w.heap.size, 4, none⟩) sdd).trans gsr
          have bb := W0.trans (b1.mono W0.size)
          go_wp2_with fail
          try simp only [Exit.inBlock, Exit.then]
          refine post_rj (x0 := .int .i64 (k : Int)) (x1 := .int .i64 n) (x2 := .string ⟨t.toArray⟩) (x3 := .int .i64 (a : Int)) (x4 := .int .i64 (x : Int)) rfl rfl rfl gsq gsq gsq gsq gsq ?_
          exact tkW_ret Z.out rfl rfl rfl rfl rfl rfl bqq
   · have Z := lhq (fp hp)
     have hpx : PX <= 6 := by omega
     obtain ⟨I, rfl⟩ : ∃ I, PX = I + 1 := ⟨PX - 1, by omega⟩
     have HP : ∀ w0, Calls Tryz.prog 147 #[.string ⟨#[123, 125, 91, 93, 58, 44]⟩, .int .u8 (X : Int)] w0 fun e w' => e = .returned (.int .i64 (I : Int)) /\ w0 = w' := fun w0 => (P.out w0).mono fun e w' h => ⟨by rw [h.1]; congr 2; omega, h.2⟩
     have P1 := lhq HP
     have qI : decide ((0 : Int) <= (I : Int)) = true := by simp
     clear HP P ps fp ft fn fl D NM LT TX hp
     go_enter Tryz.func122, Tryz.ntmps122
     go_wp2_with fail
     go_wp2_with fail
     with_reducible refine (P1.out _).mono ?_
     rintro e w1 ⟨rfl, rfl⟩
     go_wp2_with fail
     with_reducible refine (P1.out _).mono ?_
     rintro e w1 ⟨rfl, rfl⟩
     go_wp2_with fail
     try simp only [Exit.inBlock, Exit.then]
     refine post_rj (x0 := .int .i64 (1 + (I : Int))) (x1 := .int .i64 0) (x2 := .string ⟨#[]⟩) (x3 := .int .i64 0) (x4 := .int .i64 1) rfl rfl rfl gsq gsq gsq gsq gsq ?_
     exact tkW_ret Z.out (by push_cast; omega) rfl rfl rfl rfl rfl bqq
end Go.Proofs.YthogheglddfniaaGreatDoor
namespace Go.Proofs.YthogheglddfniaaGreatDoor
open Go.ChangeShapes Go.WideShapes Go.ChangeAt Go.RowKit Mem
theorem jTake_good (A : Option Addr) (c : Nat) (l : List UInt8) (k : Nat) (w : World) (hL : Laid w) (hb : Bys w w.heap.size A l) (hl : l.length <= 100000000) (hc : l.length <= c) (hk : k <= l.length) :
 Calls Tryz.prog 81 #[.slice A l.length c, .int .i64 (k : Int)] w (TkW (Jx.tak l k) w) := by
 have CS := cell_set
 have hql := Jx.tak_q l k hk
 have cin := fun j => Jx.cnt_in Jx.isW (l.drop k) (k := j)
 have cout := Jx.cnt_out Jx.isW (l.drop k)
 have bd := Jx.byt_drop l k
 rw [List.length_drop] at cout
 obtain ⟨N, hN⟩ : ∃ N, N = Jx.cnt Jx.isW (l.drop k) := ⟨_, rfl⟩
 obtain ⟨q, hq⟩ : ∃ q, q = k + Jx.cnt Jx.isW (l.drop k) := ⟨_, rfl⟩
 have tf := tak_fst hk hq
 have fine := (Jx.tak_fine l k hk).1
 rw [← hN] at cin cout hql hq
 simp only [bd] at cin cout
 have fa0 := fstW_a (l.drop q)
 have hL1 := hL.alloc (.cells #[.int .i64 0, .int .i64 0, .string ⟨#[]⟩, .int .i64 0, .int .i64 0] 118)
 have W0 : Below w.heap.size w (w.alloc (.cells #[.int .i64 0, .int .i64 0, .string ⟨#[]⟩, .int .i64 0, .int .i64 0] 118)) := (Below.refl _ _).alloc (nlr _) _
 have sz0 : (w.alloc (.cells #[.int .i64 0, .int .i64 0, .string ⟨#[]⟩, .int .i64 0, .int .i64 0] 118)).heap.size = w.heap.size + 1 := by simp
 have fi : ∀ A' n c', n = l.length - q -> Bys w w.heap.size A' (l.drop q) -> n <= c' -> Calls Tryz.prog 122 #[.slice A' n c'] (w.alloc (.cells #[.int .i64 0, .int .i64 0, .string ⟨#[]⟩, .int .i64 0, .int .i64 0] 118)) (TkW (fstW (l.drop q)) (w.alloc (.cells #[.int .i64 0, .int .i64 0, .string ⟨#[]⟩, .int .i64 0, .int .i64 0] 118))) := fun A' n c' hn hA hc' => by
  have := jfirst_any A' c' (l.drop q) _ hL1 ((hA.alloc (nlr _) _).more smq) (by rw [List.length_drop]; omega) (by rw [List.length_drop]; omega)
  rw [List.length_drop, ← hn] at this
  exact this
 have hcut := hb.cut q c hc
 have CELL := lhq (fun j hj => bys_cell hb (k := j) hj)
 obtain ⟨⟨⟨K, n, T, a, x⟩, er⟩, hr⟩ : ∃ r, r = fstW (l.drop q) := ⟨_, rfl⟩
 rw [← hr] at tf fi fa0
 obtain rfl : a = 0 := fa0
 generalize Jx.tak l k = R at *
 have CIN := lhq cin; have COUT := lhq cout; have HQ := lhq hq; have FI := lhq fi; have TF := lhq tf; have FINE := lhq fine
 have HC : Hid (∀ A', A' = (if c = q then A else A.map (·.add q)) -> Bys w w.heap.size A' (l.drop q)) := fun A' e => e ▸ hcut
 clear cin cout bd hN hq fi tf fine hr hcut hb hL hL1
 have qb := HQ.out
 have k1 : ¬ (k : Int) < 0 := by omega
 have k2 : ¬ (l.length : Int) < (k : Int) := by omega
 go_enter Tryz.func81, Tryz.ntmps81
 go_wp2_with fail
 go_loop [1] (fun t => ∃ j : Nat, j <= N /\ t = .int .i64 ((k + j : Nat) : Int)) (fun t => k + N - (intOf t).toNat)
 case atStart => exact ⟨0, by omega, rfl⟩
 case round =>
  obtain ⟨j, hj, rfl⟩ := hrel
  by_cases hjl : k + j < l.length
  · by_cases hjN : j < N
    · obtain ⟨b, off, rfl, hB, cell⟩ := CELL.out (k + j) hjl
      have D := lhq (white_any (Jx.byt l (k + j)))
      rw [CIN.out j hjN] at D
      generalize Jx.byt l (k + j) = X at *
      go_wp2_with fail
      with_reducible refine (D.out _).mono ?_
      rintro e w1 ⟨rfl, rfl⟩
      go_wp2_with fail
      go_round
      case rel => exact ⟨j + 1, by omega, by go_num⟩
      case measure => simp [intOf]; omega
    · obtain rfl : j = N := by omega
      obtain ⟨b, off, rfl, hB, cell⟩ := CELL.out (k + j) hjl
      have D := lhq (white_any (Jx.byt l (k + j)))
      rw [COUT.out omq] at D
      have e := HQ.out
      subst e
      have hcq : c ≠ (k + j) := by omega
      have YB := lhq (HC.out (some ⟨b, off + (k + j), none⟩) (by rw [if_neg hcq, Option.map_some, Mem.add_plain]))
      generalize Jx.byt l (k + j) = X at *
      clear CELL CIN COUT HC HQ hj hjN
      by_cases he : er = 0
      · subst he
        have Z := lhq (TF.out.trans (if_pos rfl))
        have X0 := FINE.out
        rw [Z.out] at X0
        have xl : x + (k + j) <= l.length := X0.2.1
        clear X0
        go_wp2_with fail
        with_reducible refine (D.out _).mono ?_
        rintro e w1 ⟨rfl, rfl⟩
        go_wp2_with fail
        refine (FI.out _ _ _ (by first | rfl | omega | (simp; done) | (simp; omega)) (YB.out) (by first | omega | (simp; omega))).mono ?_
        intro e w1 h1
        obtain ⟨rfl, b1⟩ := tkW_out h1
        clear h1
        have bb := W0.trans (b1.mono W0.size)
        have s1 := b1.size
        rw [sz0] at s1
        have hO := nll (n := w.heap.size) sdd (Below.size b1)
        have hO1 := Nat.ne_of_gt hO
        have hO2 := Nat.ne_of_lt hO
        have hO := (Below.cell b1 (p := ⟨w.heap.size, 0, none⟩) sdd).trans gsr
        have hO := (Below.cell b1 (p := ⟨w.heap.size, 1, none⟩) sdd).trans gsr
        have hO := (Below.cell b1 (p := ⟨w.heap.size, 2, none⟩) sdd).trans gsr
        have hO := (Below.cell b1 (p := ⟨w.heap.size, 3, none⟩) sdd).trans gsr
        have hO := (Below.cell b1 (p := ⟨w.heap.size, 4, none⟩) sdd).trans gsr
        have hO := (Below.frozen b1 (p := ⟨w.heap.size, 0, none⟩) sdd).trans gsr
        have hO := (Below.frozen b1 (p := ⟨w.heap.size, 1, none⟩) sdd).trans gsr
        have hO := (Below.frozen b1 (p := ⟨w.heap.size, 2, none⟩) sdd).trans gsr
        have hO := (Below.frozen b1 (p := ⟨w.heap.size, 3, none⟩) sdd).trans gsr
        have hO := (Below.frozen b1 (p := ⟨w.heap.size, 4, none⟩) sdd).trans gsr
        go_wp2_with fail
        try simp only [Exit.inBlock, Exit.then]
        refine post_rj (x0 := .int .i64 (K : Int)) (x1 := .int .i64 n) (x2 := .string ⟨T.toArray⟩) (x3 := .int .i64 ((k : Int) + (j : Int))) (x4 := .int .i64 ((k : Int) + (j : Int) + (x : Int))) rfl rfl rfl gsq gsq gsq gsq gsq ?_
        exact tkW_ret Z.out rfl rfl rfl (by push_cast; omega) (by push_cast; omega) rfl bqq
      · have Z := lhq (TF.out.trans (if_neg he))
        have qe : ((er : Int) != 0) = true := by rw [bne_iff_ne]; omega
        clear he
        go_wp2_with fail
        with_reducible refine (D.out _).mono ?_
        rintro e w1 ⟨rfl, rfl⟩
        go_wp2_with fail
        refine (FI.out _ _ _ (by first | rfl | omega | (simp; done) | (simp; omega)) (YB.out) (by first | omega | (simp; omega))).mono ?_
        intro e w1 h1
        obtain ⟨rfl, b1⟩ := tkW_out h1
        clear h1
        have bb := W0.trans (b1.mono W0.size)
        have s1 := b1.size
        rw [sz0] at s1
        have hO := nll (n := w.heap.size) sdd (Below.size b1)
        have hO1 := Nat.ne_of_gt hO
        have hO2 := Nat.ne_of_lt hO
        have hO := (Below.cell b1 (p := ⟨w.heap.size, 0, none⟩) sdd).trans gsr
        have hO := (Below.cell b1 (p := ⟨w.heap.size, 1, none⟩) sdd).trans gsr
        have hO := (Below.cell b1 (p := ⟨w.heap.size, 2, none⟩) sdd).trans gsr
        have hO := (Below.cell b1 (p := ⟨w.heap.size, 3, none⟩) sdd).trans gsr
        have hO := (Below.cell b1 (p := ⟨w.heap.size, 4, none⟩) sdd).trans gsr
        have hO := (Below.frozen b1 (p := ⟨w.heap.size, 0, none⟩) sdd).trans gsr
        have hO := (Below.frozen b1 (p := ⟨w.heap.size, 1, none⟩) sdd).trans gsr
        have hO := (Below.frozen b1 (p := ⟨w.heap.size, 2, none⟩) sdd).trans gsr
        have hO := (Below.frozen b1 (p := ⟨w.heap.size, 3, none⟩) sdd).trans gsr
        have hO := (Below.frozen b1 (p := ⟨w.heap.size, 4, none⟩) sdd).trans gsr
        go_wp2_with fail
        try simp only [Exit.inBlock, Exit.then]
        refine post_rj (x0 := .int .i64 0) (x1 := .int .i64 0) (x2 := .string ⟨#[]⟩) (x3 := .int .i64 0) (x4 := .int .i64 0) rfl rfl rfl gsq gsq gsq gsq gsq ?_
        exact tkW_ret (Z.out.trans bad_zero) rfl rfl rfl rfl rfl rfl bqq
  · obtain rfl : j = N := by omega
    have e := HQ.out
    subst e
    have hq2 : (k + j) = l.length := by omega
    have DN := lhq (show ∀ A', Bys w w.heap.size A' (l.drop (k + j)) from fun A' => by rw [List.drop_eq_nil_of_le omq]; exact Bys.nil _ _ _)
    have le0 : l.length - (k + j) = 0 := by omega
    have nlt : ¬ ((k : Int) + (j : Int)) < (l.length : Int) := by omega
    have HQ2 := lhq hq2
    clear CELL CIN COUT HC HQ hj hq2
    by_cases hcq : c = (k + j)
    · subst hcq
      by_cases he : er = 0
      · subst he
        have Z := lhq (TF.out.trans (if_pos rfl))
        have X0 := FINE.out
        rw [Z.out] at X0
        have xl : x + (k + j) <= l.length := X0.2.1
        clear X0
        go_wp2_with fail
        refine (FI.out _ _ _ (by first | rfl | omega | (simp; done) | (simp; omega)) (DN.out _) (by first | omega | (simp; omega))).mono ?_
        intro e w1 h1
        obtain ⟨rfl, b1⟩ := tkW_out h1
        clear h1
        have bb := W0.trans (b1.mono W0.size)
        have s1 := b1.size
        rw [sz0] at s1
        have hO := nll (n := w.heap.size) sdd (Below.size b1)
        have hO1 := Nat.ne_of_gt hO
        have hO2 := Nat.ne_of_lt hO
        have hO := (Below.cell b1 (p := ⟨w.heap.size, 0, none⟩) sdd).trans gsr
        have hO := (Below.cell b1 (p := ⟨w.heap.size, 1, none⟩) sdd).trans gsr
        have hO := (Below.cell b1 (p := ⟨w.heap.size, 2, none⟩) sdd).trans gsr
        have hO := (Below.cell b1 (p := ⟨w.heap.size, 3, none⟩) sdd).trans gsr
        have hO := (Below.cell b1 (p := ⟨w.heap.size, 4, none⟩) sdd).trans gsr
        have hO := (Below.frozen b1 (p := ⟨w.heap.size, 0, none⟩) sdd).trans gsr
        have hO := (Below.frozen b1 (p := ⟨w.heap.size, 1, none⟩) sdd).trans gsr
        have hO := (Below.frozen b1 (p := ⟨w.heap.size, 2, none⟩) sdd).trans gsr
        have hO := (Below.frozen b1 (p := ⟨w.heap.size, 3, none⟩) sdd).trans gsr
        have hO := (Below.frozen b1 (p := ⟨w.heap.size, 4, none⟩) sdd).trans gsr
        go_wp2_with fail
        try simp only [Exit.inBlock, Exit.then]
        refine post_rj (x0 := .int .i64 (K : Int)) (x1 := .int .i64 n) (x2 := .string ⟨T.toArray⟩) (x3 := .int .i64 ((k : Int) + (j : Int))) (x4 := .int .i64 ((k : Int) + (j : Int) + (x : Int))) rfl rfl rfl gsq gsq gsq gsq gsq ?_
        exact tkW_ret Z.out rfl rfl rfl (by push_cast; omega) (by push_cast; omega) rfl bqq
      · have Z := lhq (TF.out.trans (if_neg he))
        have qe : ((er : Int) != 0) = true := by rw [bne_iff_ne]; omega
        clear he
        go_wp2_with fail
        refine (FI.out _ _ _ (by first | rfl | omega | (simp; done) | (simp; omega)) (DN.out _) (by first | omega | (simp; omega))).mono ?_
        intro e w1 h1
        obtain ⟨rfl, b1⟩ := tkW_out h1
        clear h1
        have bb := W0.trans (b1.mono W0.size)
        have s1 := b1.size
        rw [sz0] at s1
        have hO := nll (n := w.heap.size) sdd (Below.size b1)
        have hO1 := Nat.ne_of_gt hO
        have hO2 := Nat.ne_of_lt hO
        have hO := (Below.cell b1 (p := ⟨w.heap.size, 0, none⟩) sdd).trans gsr
        have hO := (Below.cell b1 (p := ⟨w.heap.size, 1, none⟩) sdd).trans gsr
        have hO := (Below.cell b1 (p := ⟨w.heap.size, 2, none⟩) sdd).trans gsr
        have hO := (Below.cell b1 (p := ⟨w.heap.size, 3, none⟩) sdd).trans gsr
        have hO := (Below.cell b1 (p := ⟨w.heap.size, 4, none⟩) sdd).trans gsr
        have hO := (Below.frozen b1 (p := ⟨w.heap.size, 0, none⟩) sdd).trans gsr
        have hO := (Below.frozen b1 (p := ⟨w.heap.size, 1, none⟩) sdd).trans gsr
        have hO := (Below.frozen b1 (p := ⟨w.heap.size, 2, none⟩) sdd).trans gsr
        have hO := (Below.frozen b1 (p := ⟨w.heap.size, 3, none⟩) sdd).trans gsr
        have hO := (Below.frozen b1 (p := ⟨w.heap.size, 4, none⟩) sdd).trans gsr
        go_wp2_with fail
        try simp only [Exit.inBlock, Exit.then]
        refine post_rj (x0 := .int .i64 0) (x1 := .int .i64 0) (x2 := .string ⟨#[]⟩) (x3 := .int .i64 0) (x4 := .int .i64 0) rfl rfl rfl gsq gsq gsq gsq gsq ?_
        exact tkW_ret (Z.out.trans bad_zero) rfl rfl rfl rfl rfl rfl bqq
    · by_cases he : er = 0
      · subst he
        have Z := lhq (TF.out.trans (if_pos rfl))
        have X0 := FINE.out
        rw [Z.out] at X0
        have xl : x + (k + j) <= l.length := X0.2.1
        clear X0
        go_wp2_with fail
        refine (FI.out _ _ _ (by first | rfl | omega | (simp; done) | (simp; omega)) (DN.out _) (by first | omega | (simp; omega))).mono ?_
        intro e w1 h1
        obtain ⟨rfl, b1⟩ := tkW_out h1
        clear h1
        have bb := W0.trans (b1.mono W0.size)
        have s1 := b1.size
        rw [sz0] at s1
        have hO := nll (n := w.heap.size) sdd (Below.size b1)
        have hO1 := Nat.ne_of_gt hO
        have hO2 := Nat.ne_of_lt hO
        have hO := (Below.cell b1 (p := ⟨w.heap.size, 0, none⟩) sdd).trans gsr
        have hO := (Below.cell b1 (p := ⟨w.heap.size, 1, none⟩) sdd).trans gsr
        have hO := (Below.cell b1 (p := ⟨w.heap.size, 2, none⟩) sdd).trans gsr
        have hO := (Below.cell b1 (p := ⟨w.heap.size, 3, none⟩) sdd).trans gsr
        have hO := (Below.cell b1 (p := ⟨w.heap.size, 4, none⟩) sdd).trans gsr
        have hO := (Below.frozen b1 (p := ⟨w.heap.size, 0, none⟩) sdd).trans gsr
        have hO := (Below.frozen b1 (p := ⟨w.heap.size, 1, none⟩) sdd).trans gsr
        have hO := (Below.frozen b1 (p := ⟨w.heap.size, 2, none⟩) sdd).trans gsr
        have hO := (Below.frozen b1 (p := ⟨w.heap.size, 3, none⟩) sdd).trans gsr
        have hO := (Below.frozen b1 (p := ⟨w.heap.size, 4, none⟩) sdd).trans gsr
        go_wp2_with fail
        try simp only [Exit.inBlock, Exit.then]
        refine post_rj (x0 := .int .i64 (K : Int)) (x1 := .int .i64 n) (x2 := .string ⟨T.toArray⟩) (x3 := .int .i64 ((k : Int) + (j : Int))) (x4 := .int .i64 ((k : Int) + (j : Int) + (x : Int))) rfl rfl rfl gsq gsq gsq gsq gsq ?_
        exact tkW_ret Z.out rfl rfl rfl (by push_cast; omega) (by push_cast; omega) rfl bqq
      · have Z := lhq (TF.out.trans (if_neg he))
        have qe : ((er : Int) != 0) = true := by rw [bne_iff_ne]; omega
        clear he
        go_wp2_with fail
        refine (FI.out _ _ _ (by first | rfl | omega | (simp; done) | (simp; omega)) (DN.out _) (by first | omega | (simp; omega))).mono ?_
        intro e w1 h1
        obtain ⟨rfl, b1⟩ := tkW_out h1
        clear h1
        have bb := W0.trans (b1.mono W0.size)
        have s1 := b1.size
        rw [sz0] at s1
        have hO := nll (n := w.heap.size) sdd (Below.size b1)
        have hO1 := Nat.ne_of_gt hO
        have hO2 := Nat.ne_of_lt hO
        have hO := (Below.cell b1 (p := ⟨w.heap.size, 0, none⟩) sdd).trans gsr
        have hO := (Below.cell b1 (p := ⟨w.heap.size, 1, none⟩) sdd).trans gsr
        have hO := (Below.cell b1 (p := ⟨w.heap.size, 2, none⟩) sdd).trans gsr
        have hO := (Below.cell b1 (p := ⟨w.heap.size, 3, none⟩) sdd).trans gsr
        have hO := (Below.cell b1 (p := ⟨w.heap.size, 4, none⟩) sdd).trans gsr
        have hO := (Below.frozen b1 (p := ⟨w.heap.size, 0, none⟩) sdd).trans gsr
        have hO := (Below.frozen b1 (p := ⟨w.heap.size, 1, none⟩) sdd).trans gsr
        have hO := (Below.frozen b1 (p := ⟨w.heap.size, 2, none⟩) sdd).trans gsr
        have hO := (Below.frozen b1 (p := ⟨w.heap.size, 3, none⟩) sdd).trans gsr
        have hO := (Below.frozen b1 (p := ⟨w.heap.size, 4, none⟩) sdd).trans gsr
        go_wp2_with fail
        try simp only [Exit.inBlock, Exit.then]
        refine post_rj (x0 := .int .i64 0) (x1 := .int .i64 0) (x2 := .string ⟨#[]⟩) (x3 := .int .i64 0) (x4 := .int .i64 0) rfl rfl rfl gsq gsq gsq gsq gsq ?_
        exact tkW_ret (Z.out.trans bad_zero) rfl rfl rfl rfl rfl rfl bqq
structure Cx (l : List UInt8) (A : Option Addr) (c g : Nat) (w : World) : Prop where
 laid : Laid w
 top : 5 < g
 bys : Bys w g A l
 len : l.length <= 100000000
 cap : l.length <= c
theorem Cx.sav {l : List UInt8} {A : Option Addr} {c g h B : Nat} {w w' : World} (x : Cx l A c g w) (s : Sav g h B w w') (hB : g <= B) (hh : g <= h) : Cx l A c g w' :=
 have b := s.bel (nlr _) hh hB
 ⟨x.laid.below b x.top, x.top, x.bys.below b, x.len, x.cap⟩
def Cur (w : World) (g : Nat) (A : Option Addr) (n c p : Nat) : Prop := B2 w g 72 (.slice A n c) (.int .i64 (p : Int))
theorem Cur.lt {w : World} {g n c p : Nat} {A : Option Addr} (h : Cur w g A n c p) : g < w.heap.size := B2.lt h
theorem Cur.alloc {w : World} {g n c p : Nat} {A : Option Addr} (h : Cur w g A n c p) (o : Obj) : Cur (w.alloc o) g A n c p := B2.alloc h o
theorem Cur.past {w : World} {g n c p : Nat} {A : Option Addr} (h : Cur w g A n c p) {q : Addr} (hq : q.block ≠ g) (u : Value) : Cur (w.setCell q u) g A n c p := B2.past h hq u
theorem Cur.drewN {w : World} {g n c p : Nat} {A : Option Addr} (h : Cur w g A n c p) (k : Nat) : Cur (w.drewN k) g A n c p := h
theorem Cur.drew {w : World} {g n c p : Nat} {A : Option Addr} (h : Cur w g A n c p) : Cur w.drew g A n c p := h
theorem Cur.below {w w' : World} {g n c p B : Nat} {A : Option Addr} (h : Cur w g A n c p) (b : Below B w w') (hg : g < B) : Cur w' g A n c p := B2.below h b hg
theorem Cur.go {w : World} {g n c p x : Nat} {A : Option Addr} (h : Cur w g A n c p) : Cur (w.setCell ⟨g, 1, none⟩ (.int .i64 (x : Int))) g A n c x := B2.set1 h _
abbrev wv (g : Nat) : Value := .func (.func 40) #[.pointer (some ⟨g, 0, none⟩)] #[]
def mov (l : List UInt8) (p : Nat) : Nat := if (Jx.tak l p).2 = 0 then (Jx.tak l p).1.x else p
theorem mov_le {l : List UInt8} {p : Nat} (hp : p <= l.length) : mov l p <= l.length := by
 unfold mov
 split
 · exact (Jx.tak_fine l p hp).1.2.1
 · exact hp
def Stp (l : List UInt8) (A : Option Addr) (c g p : Nat) (w : World) (e : Ending) (w' : World) : Prop :=
 e = .returned (.tuple #[wval (Jx.tak l p).1, .int .i64 ((Jx.tak l p).2 : Int)]) /\ Cur w' g A l.length c (mov l p) /\ Sav g g w.heap.size w w'
theorem stp_ret {l : List UInt8} {A : Option Addr} {c g p q : Nat} {w w' : World} {r : Jx.Wd × Nat} {y0 y1 y3 y4 y5 : Int} {y2 : ByteArray} (hr : Jx.tak l p = r) (h0 : y0 = (r.1.k : Int)) (h1 : y1 = r.1.n) (h2 : y2 = ⟨r.1.t.toArray⟩) (h3 : y3 = (r.1.a : Int)) (h4 : y4 = (r.1.x : Int)) (h5 : y5 = (r.2 : Int))
 (hq : q = if r.2 = 0 then r.1.x else p) (hc : Cur w' g A l.length c q) (hs : Sav g g w.heap.size w w') : Stp l A c g p w (.returned (.tuple #[.agg #[.int .i64 y0, .int .i64 y1, .string y2, .int .i64 y3, .int .i64 y4], .int .i64 y5])) w' := by
 subst hr; subst h0; subst h1; subst h2; subst h3; subst h4; subst h5; subst hq
 exact ⟨rfl, hc, hs⟩
theorem step_any (l : List UInt8) (A : Option Addr) (c g p : Nat) (w : World) (C : Cx l A c g w) (hcur : Cur w g A l.length c p) (hp : p <= l.length) :
 Calls Tryz.prog 40 #[.pointer (some ⟨g, 0, none⟩)] w (Stp l A c g p w) := by
 have CS := cell_set
 have hg := hcur.lt
 have tk := fun W (h : Below w.heap.size w W) => jTake_good A c l p W (C.laid.below h C.laid.top) ((C.bys.below (h.mono (Nat.le_of_lt hg))).more (by have := h.size; omega)) C.len C.cap hp
 obtain ⟨⟨⟨K, n, T, a, x⟩, er⟩, hr⟩ : ∃ r, r = Jx.tak l p := ⟨_, rfl⟩
 rw [← hr] at tk
 have TK := lhq tk
 have HR := lhq hr.symm
 have HC := lhq hcur
 obtain ⟨c0, c1, z0, z1⟩ := B2.facts hcur
 have hpl := Nat.le_trans hp C.len
 clear tk hr hcur C
 have gn : g ≠ w.heap.size := by omega
 have gn1 : g ≠ w.heap.size + 1 := by omega
 have gn2 : w.heap.size ≠ g := by omega
 have gn3 : w.heap.size + 1 ≠ g := by omega
 by_cases he : er = 0
 · subst he
   go_enter Tryz.func40, Tryz.ntmps40
   go_wp2_with fail
   go_region_held_law (fun w' => w'.cell? ⟨g, 0, none⟩ = some (.slice A l.length c) /\ w'.cell? ⟨g, 1, none⟩ = some (.int .i64 (p : Int))) (exact ⟨(by first | with_reducible assumption | (go_simp; done)), (by first | with_reducible assumption | (go_simp; done))⟩)
    (first | (go_at_call 81; refine (TK.out _ bqq).mono ?_; intro e w1 h1; obtain ⟨rfl, b1⟩ := tkW_out h1; clear h1; have gsz := b1.size; simp at gsz; have t1 : Cur w1 g A l.length c p := Cur.below (by first | exact HC.out | exact HC.out.alloc _ | exact (HC.out.alloc _).alloc _) b1 (by first | (simp; done) | (simp; omega) | omega); have bb : Below w.heap.size w w1 := bqq; have gl1 := Cur.lt t1; have gl2 := Nat.ne_of_gt gl1; have gl3 := Nat.ne_of_lt gl1; obtain ⟨k0, k1, k2, k3⟩ := B2.facts t1; (have hO := nll (n := w.heap.size) sdd (Below.size b1); have hO1 := Nat.ne_of_gt hO; have hO2 := Nat.ne_of_lt hO; have hO := (Below.cell b1 (p := ⟨w.heap.size, 0, none⟩) sdd).trans gsr; have hO := (Below.cell b1 (p := ⟨w.heap.size, 1, none⟩) sdd).trans gsr; have hO := (Below.cell b1 (p := ⟨w.heap.size, 2, none⟩) sdd).trans gsr; have hO := (Below.cell b1 (p := ⟨w.heap.size, 3, none⟩) sdd).trans gsr; have hO := (Below.cell b1 (p := ⟨w.heap.size, 4, none⟩) sdd).trans gsr; have hO := (Below.frozen b1 (p := ⟨w.heap.size, 0, none⟩) sdd).trans gsr; have hO := (Below.frozen b1 (p := ⟨w.heap.size, 1, none⟩) sdd).trans gsr; have hO := (Below.frozen b1 (p := ⟨w.heap.size, 2, none⟩) sdd).trans gsr; have hO := (Below.frozen b1 (p := ⟨w.heap.size, 3, none⟩) sdd).trans gsr; have hO := (Below.frozen b1 (p := ⟨w.heap.size, 4, none⟩) sdd).trans gsr); (have hO := nll (n := (w.heap.size + 1)) sdd (Below.size b1); have hO1 := Nat.ne_of_gt hO; have hO2 := Nat.ne_of_lt hO; have hO := (Below.cell b1 (p := ⟨(w.heap.size + 1), 0, none⟩) sdd).trans gsr; have hO := (Below.cell b1 (p := ⟨(w.heap.size + 1), 1, none⟩) sdd).trans gsr; have hO := (Below.cell b1 (p := ⟨(w.heap.size + 1), 2, none⟩) sdd).trans gsr; have hO := (Below.cell b1 (p := ⟨(w.heap.size + 1), 3, none⟩) sdd).trans gsr; have hO := (Below.cell b1 (p := ⟨(w.heap.size + 1), 4, none⟩) sdd).trans gsr; have hO := (Below.frozen b1 (p := ⟨(w.heap.size + 1), 0, none⟩) sdd).trans gsr; have hO := (Below.frozen b1 (p := ⟨(w.heap.size + 1), 1, none⟩) sdd).trans gsr; have hO := (Below.frozen b1 (p := ⟨(w.heap.size + 1), 2, none⟩) sdd).trans gsr; have hO := (Below.frozen b1 (p := ⟨(w.heap.size + 1), 3, none⟩) sdd).trans gsr; have hO := (Below.frozen b1 (p := ⟨(w.heap.size + 1), 4, none⟩) sdd).trans gsr)) | (go_at_call 81; refine (TK.out _ bqq).mono ?_; intro e w1 h1; obtain ⟨rfl, b1⟩ := tkW_out h1; clear h1; have gsz := b1.size; simp at gsz; have t1 : Cur w1 g A l.length c p := Cur.below (by first | exact HC.out | exact HC.out.alloc _ | exact (HC.out.alloc _).alloc _) b1 (by first | (simp; done) | (simp; omega) | omega); have bb : Below w.heap.size w w1 := bqq; have gl1 := Cur.lt t1; have gl2 := Nat.ne_of_gt gl1; have gl3 := Nat.ne_of_lt gl1; obtain ⟨k0, k1, k2, k3⟩ := B2.facts t1; (have hO := nll (n := w.heap.size) sdd (Below.size b1); have hO1 := Nat.ne_of_gt hO; have hO2 := Nat.ne_of_lt hO; have hO := (Below.cell b1 (p := ⟨w.heap.size, 0, none⟩) sdd).trans gsr; have hO := (Below.cell b1 (p := ⟨w.heap.size, 1, none⟩) sdd).trans gsr; have hO := (Below.cell b1 (p := ⟨w.heap.size, 2, none⟩) sdd).trans gsr; have hO := (Below.cell b1 (p := ⟨w.heap.size, 3, none⟩) sdd).trans gsr; have hO := (Below.cell b1 (p := ⟨w.heap.size, 4, none⟩) sdd).trans gsr; have hO := (Below.frozen b1 (p := ⟨w.heap.size, 0, none⟩) sdd).trans gsr; have hO := (Below.frozen b1 (p := ⟨w.heap.size, 1, none⟩) sdd).trans gsr; have hO := (Below.frozen b1 (p := ⟨w.heap.size, 2, none⟩) sdd).trans gsr; have hO := (Below.frozen b1 (p := ⟨w.heap.size, 3, none⟩) sdd).trans gsr; have hO := (Below.frozen b1 (p := ⟨w.heap.size, 4, none⟩) sdd).trans gsr)))
   all_goals
    go_wp2_with fail
    try simp only [Exit.inBlock, Exit.then]
    refine post_rj (x0 := .int .i64 (K : Int)) (x1 := .int .i64 n) (x2 := .string ⟨T.toArray⟩) (x3 := .int .i64 (a : Int)) (x4 := .int .i64 (x : Int)) rfl rfl rfl gsq gsq gsq gsq gsq ?_
    exact stp_ret (q := x) HR.out rfl rfl rfl rfl rfl rfl rfl (by (repeat' (first | with_reducible assumption | with_reducible refine Cur.drewN ?_ _ | with_reducible refine Cur.drew ?_ | with_reducible refine Cur.alloc ?_ _ | (with_reducible refine Cur.past ?_ ?_ _; rotate_left; focus (first | assumption | (simp; done) | (simp; omega) | (dsimp only; omega) | omega | fail)) | with_reducible refine Cur.go (p := p) ?_ | fail))) svq
 · have qe : ((er : Int) == 0) = false := by rw [beq_eq_false_iff_ne]; omega
   go_enter Tryz.func40, Tryz.ntmps40
   go_wp2_with fail
   go_region_held_law (fun w' => w'.cell? ⟨g, 0, none⟩ = some (.slice A l.length c) /\ w'.cell? ⟨g, 1, none⟩ = some (.int .i64 (p : Int))) (exact ⟨(by first | with_reducible assumption | (go_simp; done)), (by first | with_reducible assumption | (go_simp; done))⟩)
    (first | (go_at_call 81; refine (TK.out _ bqq).mono ?_; intro e w1 h1; obtain ⟨rfl, b1⟩ := tkW_out h1; clear h1; have gsz := b1.size; simp at gsz; have t1 : Cur w1 g A l.length c p := Cur.below (by first | exact HC.out | exact HC.out.alloc _ | exact (HC.out.alloc _).alloc _) b1 (by first | (simp; done) | (simp; omega) | omega); have bb : Below w.heap.size w w1 := bqq; have gl1 := Cur.lt t1; have gl2 := Nat.ne_of_gt gl1; have gl3 := Nat.ne_of_lt gl1; obtain ⟨k0, k1, k2, k3⟩ := B2.facts t1; (have hO := nll (n := w.heap.size) sdd (Below.size b1); have hO1 := Nat.ne_of_gt hO; have hO2 := Nat.ne_of_lt hO; have hO := (Below.cell b1 (p := ⟨w.heap.size, 0, none⟩) sdd).trans gsr; have hO := (Below.cell b1 (p := ⟨w.heap.size, 1, none⟩) sdd).trans gsr; have hO := (Below.cell b1 (p := ⟨w.heap.size, 2, none⟩) sdd).trans gsr; have hO := (Below.cell b1 (p := ⟨w.heap.size, 3, none⟩) sdd).trans gsr; have hO := (Below.cell b1 (p := ⟨w.heap.size, 4, none⟩) sdd).trans gsr; have hO := (Below.frozen b1 (p := ⟨w.heap.size, 0, none⟩) sdd).trans gsr; have hO := (Below.frozen b1 (p := ⟨w.heap.size, 1, none⟩) sdd).trans gsr; have hO := (Below.frozen b1 (p := ⟨w.heap.size, 2, none⟩) sdd).trans gsr; have hO := (Below.frozen b1 (p := ⟨w.heap.size, 3, none⟩) sdd).trans gsr; have hO := (Below.frozen b1 (p := ⟨w.heap.size, 4, none⟩) sdd).trans gsr); (have hO := nll (n := (w.heap.size + 1)) sdd (Below.size b1); have hO1 := Nat.ne_of_gt hO; have hO2 := Nat.ne_of_lt hO; have hO := (Below.cell b1 (p := ⟨(w.heap.size + 1), 0, none⟩) sdd).trans gsr; have hO := (Below.cell b1 (p := ⟨(w.heap.size + 1), 1, none⟩) sdd).trans gsr; have hO := (Below.cell b1 (p := ⟨(w.heap.size + 1), 2, none⟩) sdd).trans gsr; have hO := (Below.cell b1 (p := ⟨(w.heap.size + 1), 3, none⟩) sdd).trans gsr; have hO := (Below.cell b1 (p := ⟨(w.heap.size + 1), 4, none⟩) sdd).trans gsr; have hO := (Below.frozen b1 (p := ⟨(w.heap.size + 1), 0, none⟩) sdd).trans gsr; have hO := (Below.frozen b1 (p := ⟨(w.heap.size + 1), 1, none⟩) sdd).trans gsr; have hO := (Below.frozen b1 (p := ⟨(w.heap.size + 1), 2, none⟩) sdd).trans gsr; have hO := (Below.frozen b1 (p := ⟨(w.heap.size + 1), 3, none⟩) sdd).trans gsr; have hO := (Below.frozen b1 (p := ⟨(w.heap.size + 1), 4, none⟩) sdd).trans gsr)) | (go_at_call 81; refine (TK.out _ bqq).mono ?_; intro e w1 h1; obtain ⟨rfl, b1⟩ := tkW_out h1; clear h1; have gsz := b1.size; simp at gsz; have t1 : Cur w1 g A l.length c p := Cur.below (by first | exact HC.out | exact HC.out.alloc _ | exact (HC.out.alloc _).alloc _) b1 (by first | (simp; done) | (simp; omega) | omega); have bb : Below w.heap.size w w1 := bqq; have gl1 := Cur.lt t1; have gl2 := Nat.ne_of_gt gl1; have gl3 := Nat.ne_of_lt gl1; obtain ⟨k0, k1, k2, k3⟩ := B2.facts t1; (have hO := nll (n := w.heap.size) sdd (Below.size b1); have hO1 := Nat.ne_of_gt hO; have hO2 := Nat.ne_of_lt hO; have hO := (Below.cell b1 (p := ⟨w.heap.size, 0, none⟩) sdd).trans gsr; have hO := (Below.cell b1 (p := ⟨w.heap.size, 1, none⟩) sdd).trans gsr; have hO := (Below.cell b1 (p := ⟨w.heap.size, 2, none⟩) sdd).trans gsr; have hO := (Below.cell b1 (p := ⟨w.heap.size, 3, none⟩) sdd).trans gsr; have hO := (Below.cell b1 (p := ⟨w.heap.size, 4, none⟩) sdd).trans gsr; have hO := (Below.frozen b1 (p := ⟨w.heap.size, 0, none⟩) sdd).trans gsr; have hO := (Below.frozen b1 (p := ⟨w.heap.size, 1, none⟩) sdd).trans gsr; have hO := (Below.frozen b1 (p := ⟨w.heap.size, 2, none⟩) sdd).trans gsr; have hO := (Below.frozen b1 (p := ⟨w.heap.size, 3, none⟩) sdd).trans gsr; have hO := (Below.frozen b1 (p := ⟨w.heap.size, 4, none⟩) sdd).trans gsr)))
   all_goals
    go_wp2_with fail
    try simp only [Exit.inBlock, Exit.then]
    refine post_rj (x0 := .int .i64 (K : Int)) (x1 := .int .i64 n) (x2 := .string ⟨T.toArray⟩) (x3 := .int .i64 (a : Int)) (x4 := .int .i64 (x : Int)) rfl rfl rfl gsq gsq gsq gsq gsq ?_
    exact stp_ret (q := p) HR.out rfl rfl rfl rfl rfl rfl (by rw [if_neg he]) (by (repeat' (first | with_reducible assumption | with_reducible refine Cur.drewN ?_ _ | with_reducible refine Cur.drew ?_ | with_reducible refine Cur.alloc ?_ _ | (with_reducible refine Cur.past ?_ ?_ _; rotate_left; focus (first | assumption | (simp; done) | (simp; omega) | (dsimp only; omega) | omega | fail)) | with_reducible refine Cur.go (p := p) ?_ | fail))) svq
end Go.Proofs.YthogheglddfniaaGreatDoor
namespace Go.Proofs.YthogheglddfniaaGreatDoor
open Go.ChangeShapes Go.WideShapes Go.ChangeAt Go.RowKit Mem
def Cv (r : Jp.R) (l : List UInt8) (A : Option Addr) (c g : Nat) (w : World) (e : Ending) (w' : World) : Prop :=
 ∃ j A3 c3 A4 c4 q, e = .returned (.tuple #[.agg #[.int .i64 (J.k j), .int .i64 j.n, .string j.t, .slice A3 j.its.length c3, .slice A4 j.ks.length c4], .int .i64 (r.2.2 : Int)]) /\
  TreeS w' (Btw w.heap.size w'.heap.size) j [.int .i64 j.k, .int .i64 j.n, .string j.t, .slice A3 j.its.length c3, .slice A4 j.ks.length c4] /\
  (r.2.2 = 0 -> j = r.1 /\ q = r.2.1) /\ q <= l.length /\ Cur w' g A l.length c q /\ Sav g g w.heap.size w w'
theorem cv_ret {r : Jp.R} {l : List UInt8} {A A3 A4 : Option Addr} {c g B c3 c4 q : Nat} {w wr w' : World} {j : J} {y : Int} (hy : y = (r.2.2 : Int))
 (ht : TreeS wr (Btw B wr.heap.size) j [.int .i64 j.k, .int .i64 j.n, .string j.t, .slice A3 j.its.length c3, .slice A4 j.ks.length c4]) (hB : w.heap.size <= B) (hk : KeepS (Btw B wr.heap.size) wr w') (hs : wr.heap.size <= w'.heap.size)
 (hj : r.2.2 = 0 -> j = r.1 /\ q = r.2.1) (hq : q <= l.length) (hc : Cur w' g A l.length c q) (hv : Sav g g w.heap.size w w') :
 Cv r l A c g w (.returned (.tuple #[.agg #[.int .i64 j.k, .int .i64 j.n, .string j.t, .slice A3 j.its.length c3, .slice A4 j.ks.length c4], .int .i64 y])) w' := by
 subst hy
 exact ⟨j, A3, c3, A4, c4, q, rfl, ht.keep hk (fun b hb => ⟨Nat.le_trans hB hb.1, nll hb.2 hs⟩), hj, hq, hc, hv⟩
theorem cv_leaf {r : Jp.R} {l : List UInt8} {A : Option Addr} {c g q er : Nat} {w w' : World} {k n y : Int} {s : ByteArray} (h : r.2.2 = er) (hy : y = (er : Int)) (hj : er = 0 -> r = (.mk k n s [] [], q, 0)) (hq : q <= l.length) (hc : Cur w' g A l.length c q) (hv : Sav g g w.heap.size w w') :
 Cv r l A c g w (.returned (.tuple #[.agg #[.int .i64 k, .int .i64 n, .string s, .slice none 0 0, .slice none 0 0], .int .i64 y])) w' := by
 subst hy; subst h
 exact ⟨.mk k n s [] [], none, 0, none, 0, q, rfl, TreeS.leaf _ _ _ _ _, fun e => by rw [hj e]; exact ⟨rfl, rfl⟩, hq, hc, hv⟩
theorem cv_bad {r : Jp.R} {l : List UInt8} {A : Option Addr} {c g q er : Nat} {w w' : World} {y : Int} (h : r = Jp.bad er) (he : er ≠ 0) (hy : y = (er : Int)) (hq : q <= l.length) (hc : Cur w' g A l.length c q) (hv : Sav g g w.heap.size w w') :
 Cv r l A c g w (.returned (.tuple #[.agg #[.int .i64 0, .int .i64 0, .string ⟨#[]⟩, .slice none 0 0, .slice none 0 0], .int .i64 y])) w' :=
 cv_leaf (er := er) (by rw [h]; rfl) hy (fun e => absurd e he) hq hc hv
def jus (r : Jx.Wd × Nat) (k : Nat) : Nat := if r.2 ≠ 0 then r.2 else if r.1.k = k then 0 else 20
def Jst (l : List UInt8) (A : Option Addr) (c g p k : Nat) (w : World) (e : Ending) (w' : World) : Prop :=
 e = .returned (.int .i64 (jus (Jx.tak l p) k : Int)) /\ Cur w' g A l.length c (mov l p) /\ Sav g g w.heap.size w w'
theorem jst_ret {l : List UInt8} {A : Option Addr} {c g p k q : Nat} {w w' : World} {y : Int} (hy : y = (jus (Jx.tak l p) k : Int)) (hq : mov l p = q) (hc : Cur w' g A l.length c q) (hs : Sav g g w.heap.size w w') : Jst l A c g p k w (.returned (.int .i64 y)) w' := by
 subst hy; subst hq; exact ⟨rfl, hc, hs⟩
theorem just_any (l : List UInt8) (A : Option Addr) (c g p k : Nat) (w : World) (C : Cx l A c g w) (hcur : Cur w g A l.length c p) (hp : p <= l.length) :
 Calls Tryz.prog 42 #[wv g, .int .i64 (k : Int)] w (Jst l A c g p k w) := by
 have CS := cell_set
 have hg := hcur.lt
 have st := step_any l A c g p w C hcur hp
 unfold Stp at st
 obtain ⟨m, hm⟩ : ∃ m, m = mov l p := ⟨_, rfl⟩
 obtain ⟨⟨⟨K, n, T, a, x⟩, er⟩, hr⟩ : ∃ r, r = Jx.tak l p := ⟨_, rfl⟩
 rw [← hr, ← hm] at st
 simp only [wval] at st
 have ST := lhq st
 have HR := lhq hr.symm
 have HM := lhq hm.symm
 clear st hr hm hcur C
 by_cases he : er = 0
 · subst he
   by_cases hk : K = k
   · subst hk
     go_enter Tryz.func42, Tryz.ntmps42
     go_wp2_with fail
     with_reducible refine ST.out.mono ?_
     rintro e w2 ⟨rfl, t2, s2⟩
     have z2 := s2.size
     go_wp2_with fail
     go_ret
     exact jst_ret (by rw [HR.out]; simp [jus]) HM.out (by (repeat' (first | with_reducible assumption | with_reducible refine Cur.drewN ?_ _ | with_reducible refine Cur.drew ?_ | with_reducible refine Cur.alloc ?_ _ | (with_reducible refine Cur.past ?_ ?_ _; rotate_left; focus (first | assumption | (simp; done) | (simp; omega) | (dsimp only; omega) | omega | fail)) | with_reducible refine Cur.go (p := m) ?_ | fail))) svq
   · have qk : ((K : Int) != (k : Int)) = true := by rw [bne_iff_ne]; omega
     go_enter Tryz.func42, Tryz.ntmps42
     go_wp2_with fail
     with_reducible refine ST.out.mono ?_
     rintro e w2 ⟨rfl, t2, s2⟩
     have z2 := s2.size
     go_wp2_with fail
     go_ret
     exact jst_ret (by rw [HR.out]; unfold jus; rw [if_neg smq, if_neg hk]; rfl) HM.out (by (repeat' (first | with_reducible assumption | with_reducible refine Cur.drewN ?_ _ | with_reducible refine Cur.drew ?_ | with_reducible refine Cur.alloc ?_ _ | (with_reducible refine Cur.past ?_ ?_ _; rotate_left; focus (first | assumption | (simp; done) | (simp; omega) | (dsimp only; omega) | omega | fail)) | with_reducible refine Cur.go (p := m) ?_ | fail))) svq
 · have qe : ((er : Int) == 0) = false := by rw [beq_eq_false_iff_ne]; omega
   go_enter Tryz.func42, Tryz.ntmps42
   go_wp2_with fail
   with_reducible refine ST.out.mono ?_
   rintro e w2 ⟨rfl, t2, s2⟩
   have z2 := s2.size
   go_wp2_with fail
   go_ret
   exact jst_ret (by rw [HR.out]; unfold jus; rw [if_pos he]) HM.out (by (repeat' (first | with_reducible assumption | with_reducible refine Cur.drewN ?_ _ | with_reducible refine Cur.drew ?_ | with_reducible refine Cur.alloc ?_ _ | (with_reducible refine Cur.past ?_ ?_ _; rotate_left; focus (first | assumption | (simp; done) | (simp; omega) | (dsimp only; omega) | omega | fail)) | with_reducible refine Cur.go (p := m) ?_ | fail))) svq
def CVal (f : Nat) : Prop := ∀ (l : List UInt8) (A : Option Addr) (c g p d : Nat) (w : World), Cx l A c g w -> (Jx.tak l p).2 = 0 -> Cur w g A l.length c (Jx.tak l p).1.x -> p <= l.length -> 2 * (l.length + 1 - p) < f -> d <= 32 ->
 Calls Tryz.prog 82 #[wv g, wval (Jx.tak l p).1, .int .i64 (d : Int)] w (Cv (Jp.pval f l p d) l A c g w)
def CNxt (f : Nat) : Prop := ∀ (l : List UInt8) (A : Option Addr) (c g p d : Nat) (w : World), Cx l A c g w -> Cur w g A l.length c p -> p <= l.length -> 2 * (l.length + 1 - p) < f -> d <= 32 ->
 Calls Tryz.prog 41 #[wv g, .int .i64 (d : Int)] w (Cv (Jp.pval f l p d) l A c g w)
theorem next_step (f : Nat) (hV : CVal f) : CNxt f := by
 intro l A c g p d w C hcur hp hf hd
 have CS := cell_set
 have hg := hcur.lt
 have W0 : Sav g g w.heap.size w (w.alloc (.cells #[.int .i64 0, .int .i64 0, .string ⟨#[]⟩, .slice none 0 0, .slice none 0 0] 25)) := svq
 have C0 := C.sav W0 (Nat.le_of_lt hg) (nlr _)
 have st := step_any l A c g p _ C0 (hcur.alloc _) hp
 have gn : w.heap.size ≠ g := by omega
 obtain ⟨R, hR⟩ : ∃ R, R = Jp.pval f l p d := ⟨_, rfl⟩
 have vc := fun W C e h => hV l A c g p d W C e h hp hf hd
 obtain ⟨f, rfl⟩ : ∃ k, f = k + 1 := ⟨f - 1, by omega⟩
 have ml := mov_le hp
 rw [← hR] at vc ⊢
 unfold Jp.pval at hR
 unfold Stp at st
 obtain ⟨m, hm⟩ : ∃ m, m = mov l p := ⟨_, rfl⟩
 have hm2 := hm
 unfold mov at hm2
 rw [← hm] at ml
 obtain ⟨⟨⟨K, n, T, a, x⟩, er⟩, hr⟩ : ∃ r, r = Jx.tak l p := ⟨_, rfl⟩
 rw [← hr] at hR hm2
 rw [← hr, ← hm] at st
 rw [← hr] at vc
 simp only [wval] at st vc
 have ST := lhq st
 have CC := lhq C0
 by_cases he : er = 0
 · subst he
   obtain rfl : m = x := hm2
   have VC := lhq (fun W C h => vc W C rfl h)
   clear st hr hm hcur C C0 vc hV hR
   go_enter Tryz.func41, Tryz.ntmps41
   go_wp2_with fail
   with_reducible refine ST.out.mono ?_
   rintro e w2 ⟨rfl, t2, s2⟩
   have z2 := s2.size
   simp at z2
   have hO := nll (n := w.heap.size) sdd (Mem.Sav.size s2)
   have hO1 := Nat.ne_of_gt hO
   have hO2 := Nat.ne_of_lt hO
   have hO := (Mem.Sav.cell s2 (p := ⟨w.heap.size, 0, none⟩) sdd nqq nqq).trans gsr
   have hO := (Mem.Sav.cell s2 (p := ⟨w.heap.size, 1, none⟩) sdd nqq nqq).trans gsr
   have hO := (Mem.Sav.cell s2 (p := ⟨w.heap.size, 2, none⟩) sdd nqq nqq).trans gsr
   have hO := (Mem.Sav.cell s2 (p := ⟨w.heap.size, 3, none⟩) sdd nqq nqq).trans gsr
   have hO := (Mem.Sav.cell s2 (p := ⟨w.heap.size, 4, none⟩) sdd nqq nqq).trans gsr
   have hO := (Mem.Sav.frozen s2 (p := ⟨w.heap.size, 0, none⟩) sdd nqq nqq).trans gsr
   have hO := (Mem.Sav.frozen s2 (p := ⟨w.heap.size, 1, none⟩) sdd nqq nqq).trans gsr
   have hO := (Mem.Sav.frozen s2 (p := ⟨w.heap.size, 2, none⟩) sdd nqq nqq).trans gsr
   have hO := (Mem.Sav.frozen s2 (p := ⟨w.heap.size, 3, none⟩) sdd nqq nqq).trans gsr
   have hO := (Mem.Sav.frozen s2 (p := ⟨w.heap.size, 4, none⟩) sdd nqq nqq).trans gsr
   go_wp2_with fail
   have c2 := (CC.out.sav s2 (by simp; omega) (nlr _)).sav (show Sav g g w2.heap.size w2 (w2.alloc (.cells #[.int .i64 (K : Int), .int .i64 n, .string ⟨T.toArray⟩, .int .i64 (a : Int), .int .i64 (m : Int)] 118)) from svq) (Nat.le_of_lt t2.lt) (nlr _)
   with_reducible refine (VC.out _ c2 (by (repeat' (first | with_reducible assumption | with_reducible refine Cur.drewN ?_ _ | with_reducible refine Cur.drew ?_ | with_reducible refine Cur.alloc ?_ _ | (with_reducible refine Cur.past ?_ ?_ _; rotate_left; focus (first | assumption | (simp; done) | (simp; omega) | (dsimp only; omega) | omega | fail)) | with_reducible refine Cur.go (p := m) ?_ | fail)))).mono ?_
   rintro e w5 ⟨j, A3, c3, A4, c4, q, rfl, tr, hj, hq, t5, s5⟩
   have hO := nll (n := w.heap.size) sdd (Mem.Sav.size s5)
   have hO1 := Nat.ne_of_gt hO
   have hO2 := Nat.ne_of_lt hO
   have hO := (Mem.Sav.cell s5 (p := ⟨w.heap.size, 0, none⟩) sdd nqq nqq).trans gsr
   have hO := (Mem.Sav.cell s5 (p := ⟨w.heap.size, 1, none⟩) sdd nqq nqq).trans gsr
   have hO := (Mem.Sav.cell s5 (p := ⟨w.heap.size, 2, none⟩) sdd nqq nqq).trans gsr
   have hO := (Mem.Sav.cell s5 (p := ⟨w.heap.size, 3, none⟩) sdd nqq nqq).trans gsr
   have hO := (Mem.Sav.cell s5 (p := ⟨w.heap.size, 4, none⟩) sdd nqq nqq).trans gsr
   have hO := (Mem.Sav.frozen s5 (p := ⟨w.heap.size, 0, none⟩) sdd nqq nqq).trans gsr
   have hO := (Mem.Sav.frozen s5 (p := ⟨w.heap.size, 1, none⟩) sdd nqq nqq).trans gsr
   have hO := (Mem.Sav.frozen s5 (p := ⟨w.heap.size, 2, none⟩) sdd nqq nqq).trans gsr
   have hO := (Mem.Sav.frozen s5 (p := ⟨w.heap.size, 3, none⟩) sdd nqq nqq).trans gsr
   have hO := (Mem.Sav.frozen s5 (p := ⟨w.heap.size, 4, none⟩) sdd nqq nqq).trans gsr
   go_wp2_with fail
   try simp only [Exit.inBlock, Exit.then]
   refine post_j2 (x0 := .int .i64 j.k) (x1 := .int .i64 j.n) (x2 := .string j.t) (x3 := (.slice A3 j.its.length c3)) (x4 := (.slice A4 j.ks.length c4)) rfl rfl rfl gsq gsq gsq gsq gsq ?_
   refine cv_ret rfl tr (by simp; omega) ?_ smq hj hq (by (repeat' (first | with_reducible assumption | with_reducible refine Cur.drewN ?_ _ | with_reducible refine Cur.drew ?_ | with_reducible refine Cur.alloc ?_ _ | (with_reducible refine Cur.past ?_ ?_ _; rotate_left; focus (first | assumption | (simp; done) | (simp; omega) | (dsimp only; omega) | omega | fail)) | with_reducible refine Cur.go (p := q) ?_ | fail))) svq
   have HG : ∀ b, Btw (w2.alloc (.cells #[.int .i64 (K : Int), .int .i64 n, .string ⟨T.toArray⟩, .int .i64 (a : Int), .int .i64 (m : Int)] 118)).heap.size w5.heap.size b -> b ≠ w.heap.size := fun b hb => by have := hb.1; simp at this; omega
   repeat (with_reducible refine KeepS.set ?_ HG _ _)
   with_reducible exact KeepS.refl _ _
 · have qe : ((er : Int) != 0) = true := by rw [bne_iff_ne]; omega
   rw [if_pos he] at hR
   have Z := lhq hR
   clear st hr hm hm2 hcur C C0 vc hV hR
   go_enter Tryz.func41, Tryz.ntmps41
   go_wp2_with fail
   with_reducible refine ST.out.mono ?_
   rintro e w2 ⟨rfl, t2, s2⟩
   have z2 := s2.size
   simp at z2
   have hO := nll (n := w.heap.size) sdd (Mem.Sav.size s2)
   have hO1 := Nat.ne_of_gt hO
   have hO2 := Nat.ne_of_lt hO
   have hO := (Mem.Sav.cell s2 (p := ⟨w.heap.size, 0, none⟩) sdd nqq nqq).trans gsr
   have hO := (Mem.Sav.cell s2 (p := ⟨w.heap.size, 1, none⟩) sdd nqq nqq).trans gsr
   have hO := (Mem.Sav.cell s2 (p := ⟨w.heap.size, 2, none⟩) sdd nqq nqq).trans gsr
   have hO := (Mem.Sav.cell s2 (p := ⟨w.heap.size, 3, none⟩) sdd nqq nqq).trans gsr
   have hO := (Mem.Sav.cell s2 (p := ⟨w.heap.size, 4, none⟩) sdd nqq nqq).trans gsr
   have hO := (Mem.Sav.frozen s2 (p := ⟨w.heap.size, 0, none⟩) sdd nqq nqq).trans gsr
   have hO := (Mem.Sav.frozen s2 (p := ⟨w.heap.size, 1, none⟩) sdd nqq nqq).trans gsr
   have hO := (Mem.Sav.frozen s2 (p := ⟨w.heap.size, 2, none⟩) sdd nqq nqq).trans gsr
   have hO := (Mem.Sav.frozen s2 (p := ⟨w.heap.size, 3, none⟩) sdd nqq nqq).trans gsr
   have hO := (Mem.Sav.frozen s2 (p := ⟨w.heap.size, 4, none⟩) sdd nqq nqq).trans gsr
   go_wp2_with fail
   try simp only [Exit.inBlock, Exit.then]
   refine post_j2 (x0 := .int .i64 0) (x1 := .int .i64 0) (x2 := .string ⟨#[]⟩) (x3 := (.slice none 0 0)) (x4 := (.slice none 0 0)) rfl rfl rfl gsq gsq gsq gsq gsq ?_
   exact cv_bad Z.out he rfl ml (by (repeat' (first | with_reducible assumption | with_reducible refine Cur.drewN ?_ _ | with_reducible refine Cur.drew ?_ | with_reducible refine Cur.alloc ?_ _ | (with_reducible refine Cur.past ?_ ?_ _; rotate_left; focus (first | assumption | (simp; done) | (simp; omega) | (dsimp only; omega) | omega | fail)) | with_reducible refine Cur.go (p := m) ?_ | fail))) svq
end Go.Proofs.YthogheglddfniaaGreatDoor
