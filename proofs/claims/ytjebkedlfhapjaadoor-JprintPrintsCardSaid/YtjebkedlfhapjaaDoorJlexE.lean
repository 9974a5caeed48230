/- Layer 6, the code's own calls at every input: a text as a word. -/
import Derived.Test.YtjebkedlfhapjaaDoorJlexB
import Derived.Test.YtjebkedlfhapjaaDoorUtf
namespace Go.Proofs.YtjebkedlfhapjaaDoor
open Go.ChangeShapes Go.WideShapes Go.ChangeAt Go.RowKit Mem

/-- A text as a word. -/
def txtW (r : Option (List UInt8 × Nat)) : Jx.Wd × Nat := match r with
  | none => (⟨0, 0, [], 0, 0⟩, 20)
  | some (s, k) => (⟨10, 0, s, 0, k + 1⟩, 0)
theorem txtW_none {r : Option (List UInt8 × Nat)} (h : r = none) : txtW r = (⟨0, 0, [], 0, 0⟩, 20) := by subst h; rfl
theorem txtW_some {r : Option (List UInt8 × Nat)} {s : List UInt8} {k : Nat} (h : r = some (s, k)) : txtW r = (⟨10, 0, s, 0, k + 1⟩, 0) := by subst h; rfl
theorem put_c (c : Int) (base : Nat) (v : Value) (l : List UInt8) (w : World) (hL : Laid w) (hp : 5 < base) (hb : base ≤ w.heap.size) (hown : Own w base 5 v l) (hl : l.length ≤ 100000000) (hc : Num.isC c) :
    Calls Tryd.prog 56 #[v, .int .i32 c] w (MadeE base (l ++ Num.ue c.toNat) 0 w) := Put_any c hc base v l w hL hp hb hown hl

set_option maxRecDepth 100000 in
set_option maxHeartbeats 4000000 in
theorem jtext_any (A : Option Addr) (c : Nat) (l : List UInt8) (w : World) (hL : Laid w) (hb : Bys w w.heap.size A l) (hl : l.length ≤ 100000000) (hc : l.length ≤ c) (h0 : 0 < l.length) :
    Calls Tryd.prog 43 #[.slice A l.length c] w (TkW (txtW (Jx.txt (l.drop 1))) w) := by
  have CS := cell_set
  have START := Lib.hid (txAt_start (l.drop 1))
  have ld : (l.drop 1).length = l.length - 1 := List.length_drop
  have dd := fun q => List.drop_drop (i := q) (j := 1) (l := l)
  obtain ⟨D, hD⟩ : ∃ D, D = l.drop 1 := ⟨_, rfl⟩
  rw [← hD] at START ld ⊢
  simp only [← hD] at dd
  have DD := Lib.hid dd
  have LD := Lib.hid ld
  have hp := hL.1
  have W0 : Below w.heap.size w (w.alloc (.cells #[.int .i64 0, .int .i64 0, .string ⟨#[]⟩, .int .i64 0, .int .i64 0] 38)) := (Below.refl _ _).alloc (Nat.le_refl _) _
  have sz0 : (w.alloc (.cells #[.int .i64 0, .int .i64 0, .string ⟨#[]⟩, .int .i64 0, .int .i64 0] 38)).heap.size = w.heap.size + 1 := by simp
  clear dd ld hD
  go_enter Tryd.func43, Tryd.ntmps43
  go_wp2_with fail
  go_loopw [4, 5] (fun v t wr => ∃ (p : Nat) (d : List UInt8), 1 ≤ p ∧ t = .int .i64 (p : Int) ∧ Own wr (w.heap.size + 1) 5 v d ∧ Hid (TxAt D (p - 1) d) ∧ Below (w.heap.size + 1) (w.alloc (.cells #[.int .i64 0, .int .i64 0, .string ⟨#[]⟩, .int .i64 0, .int .i64 0] 38)) wr) (fun _ t _ => l.length - (intOf t).toNat)
  case atStart => exact ⟨1, [], Nat.le_refl _, rfl, Own.none_ _ _ _, START, Below.refl _ _⟩
  case round =>
    obtain ⟨p, d, kp, rfl, ow, TA, bl⟩ := hrel
    have gsz := bl.size
    rw [sz0] at gsz
    have blw := W0.trans (bl.mono (Nat.le_succ _))
    have ta := TA.out
    have hdl := ta.2.1
    have hql := ta.1
    have bad := ta.bad; have done := ta.done; have no := ta.no; have go := fun o n => ta.go (o := o) (n := n)
    have e := DD.out (p - 1)
    rw [show 1 + (p - 1) = p by omega] at e
    rw [e] at bad done no go
    rw [LD.out] at hql
    have hpl : p ≤ l.length := by omega
    have Yl := hb.below blw
    have bd := Jx.byt_drop l p
    rw [bd 0, Nat.add_zero] at bad done no go
    have Lr := hL.below blw hp
    have CELL := Lib.hid (fun hj => bys_cell Yl (k := p) hj)
    have CH := Lib.hid (fun (h : p < l.length) => character_any A c l p wr Lr (Yl.more (by omega)) (by omega) hc h)
    have IC := Lib.hid (fun h => item_chr (l := l) (k := p) h)
    have CLO := Lib.hid (fun h => chrR_low (l := l) (k := p) h)
    have x256 := Jx.byt_lt l p
    have BAD := Lib.hid bad; have DONE := Lib.hid done; have NO := Lib.hid no; have GO0 := Lib.hid go
    have xend := fun h => Jx.byt_end (l := l) (i := p) h
    obtain ⟨X, hX⟩ : ∃ X, X = Jx.byt l p := ⟨_, rfl⟩
    rw [← hX] at BAD DONE NO GO0 CELL x256 xend
    have HX := Lib.hid hX
    have YL := Lib.hid Yl
    clear ta bad done no go e bd hX hql TA Yl
    have hOwn := Nat.lt_of_lt_of_le (n := w.heap.size) (by first | exact Nat.le_refl _ | assumption | (simp; done) | (simp; omega) | omega) (Below.size bl)
    have hOwn1 := Nat.ne_of_gt hOwn
    have hOwn2 := Nat.ne_of_lt hOwn
    have hOwn := (Below.cell bl (p := ⟨w.heap.size, 0, none⟩) (by first | exact Nat.le_refl _ | assumption | (simp; done) | (simp; omega) | omega)).trans (by go_simp; rfl)
    have hOwn := (Below.cell bl (p := ⟨w.heap.size, 1, none⟩) (by first | exact Nat.le_refl _ | assumption | (simp; done) | (simp; omega) | omega)).trans (by go_simp; rfl)
    have hOwn := (Below.cell bl (p := ⟨w.heap.size, 2, none⟩) (by first | exact Nat.le_refl _ | assumption | (simp; done) | (simp; omega) | omega)).trans (by go_simp; rfl)
    have hOwn := (Below.cell bl (p := ⟨w.heap.size, 3, none⟩) (by first | exact Nat.le_refl _ | assumption | (simp; done) | (simp; omega) | omega)).trans (by go_simp; rfl)
    have hOwn := (Below.cell bl (p := ⟨w.heap.size, 4, none⟩) (by first | exact Nat.le_refl _ | assumption | (simp; done) | (simp; omega) | omega)).trans (by go_simp; rfl)
    have hOwn := (Below.frozen bl (p := ⟨w.heap.size, 0, none⟩) (by first | exact Nat.le_refl _ | assumption | (simp; done) | (simp; omega) | omega)).trans (by go_simp; rfl)
    have hOwn := (Below.frozen bl (p := ⟨w.heap.size, 1, none⟩) (by first | exact Nat.le_refl _ | assumption | (simp; done) | (simp; omega) | omega)).trans (by go_simp; rfl)
    have hOwn := (Below.frozen bl (p := ⟨w.heap.size, 2, none⟩) (by first | exact Nat.le_refl _ | assumption | (simp; done) | (simp; omega) | omega)).trans (by go_simp; rfl)
    have hOwn := (Below.frozen bl (p := ⟨w.heap.size, 3, none⟩) (by first | exact Nat.le_refl _ | assumption | (simp; done) | (simp; omega) | omega)).trans (by go_simp; rfl)
    have hOwn := (Below.frozen bl (p := ⟨w.heap.size, 4, none⟩) (by first | exact Nat.le_refl _ | assumption | (simp; done) | (simp; omega) | omega)).trans (by go_simp; rfl)
    by_cases hpp : p < l.length
    · have q1 : decide ((p : Int) < (l.length : Int)) = true := by simp; omega
      by_cases h34 : X = 34
      · have Z := Lib.hid (DONE.out h34)
        obtain ⟨b, off, rfl, hB, cell⟩ := CELL.out hpp
        obtain ⟨A7, c7, rfl, hy⟩ := ow.bys
        have conv := hy.str byteT strT c7
        have q34 : ((X : Int) != 34) = false := by rw [bne_eq_false_iff_eq]; omega
        have q2 : ((p : Int) == (l.length : Int)) = false := by rw [beq_eq_false_iff_ne]; omega
        clear h34 hy CELL xend CH IC CLO BAD DONE NO GO0
        go_wp2_with fail
        try simp only [Exit.inBlock, Exit.then]
        refine post_rj (x0 := .int .i64 10) (x1 := .int .i64 0) (x2 := .string ⟨d.toArray⟩) (x3 := .int .i64 0) (x4 := .int .i64 ((p : Int) + 1)) rfl rfl rfl (by go_simp) (by go_simp) (by go_simp) (by go_simp) (by go_simp) ?_
        exact tkW_ret (txtW_some Z.out) rfl rfl rfl rfl (by push_cast; omega) rfl (by (repeat' (first | with_reducible assumption | with_reducible exact Below.refl _ _ | (with_reducible refine Below.alloc ?_ ?_ _; rotate_left; focus ((first | exact Nat.le_refl _ | (simp; done) | (simp; omega) | omega | fail))) | (with_reducible refine Below.setCell ?_ ?_ _; rotate_left; focus ((first | exact Nat.le_refl _ | (simp; done) | (simp; omega) | omega | fail))) | with_reducible refine Mem.bel_drewN ?_ _ | with_reducible refine Below.drew ?_ | (with_reducible refine Mem.bel_call (by with_reducible assumption) ?_ ?_; focus ((first | exact Nat.le_refl _ | (simp; done) | (simp; omega) | omega | fail))) | fail)))
      · have q34 : ((X : Int) != 34) = true := by rw [bne_iff_ne]; omega
        have NO1 := Lib.hid (NO.out h34)
        obtain ⟨b, off, rfl, hB, cell⟩ := CELL.out hpp
        have CH1 := Lib.hid (CH.out hpp)
        clear CELL CH xend
        by_cases h32 : X < 32
        · have Z := Lib.hid (BAD.out h32)
          have CH2 := CH1.out
          rw [CLO.out (by rw [← HX.out]; exact h32)] at CH2
          have CH3 := Lib.hid CH2
          clear CH2 CH1 CLO IC
          go_wp2_with fail
          refine CH3.out.mono ?_
          rintro e w1 ⟨rfl, b1⟩
          have blb := bl.trans (b1.mono gsz)
          have hOwn := Nat.lt_of_lt_of_le (n := w.heap.size) (by first | exact Nat.le_refl _ | assumption | (simp; done) | (simp; omega) | omega) (Below.size blb)
          have hOwn1 := Nat.ne_of_gt hOwn
          have hOwn2 := Nat.ne_of_lt hOwn
          have hOwn := (Below.cell blb (p := ⟨w.heap.size, 0, none⟩) (by first | exact Nat.le_refl _ | assumption | (simp; done) | (simp; omega) | omega)).trans (by go_simp; rfl)
          have hOwn := (Below.cell blb (p := ⟨w.heap.size, 1, none⟩) (by first | exact Nat.le_refl _ | assumption | (simp; done) | (simp; omega) | omega)).trans (by go_simp; rfl)
          have hOwn := (Below.cell blb (p := ⟨w.heap.size, 2, none⟩) (by first | exact Nat.le_refl _ | assumption | (simp; done) | (simp; omega) | omega)).trans (by go_simp; rfl)
          have hOwn := (Below.cell blb (p := ⟨w.heap.size, 3, none⟩) (by first | exact Nat.le_refl _ | assumption | (simp; done) | (simp; omega) | omega)).trans (by go_simp; rfl)
          have hOwn := (Below.cell blb (p := ⟨w.heap.size, 4, none⟩) (by first | exact Nat.le_refl _ | assumption | (simp; done) | (simp; omega) | omega)).trans (by go_simp; rfl)
          have hOwn := (Below.frozen blb (p := ⟨w.heap.size, 0, none⟩) (by first | exact Nat.le_refl _ | assumption | (simp; done) | (simp; omega) | omega)).trans (by go_simp; rfl)
          have hOwn := (Below.frozen blb (p := ⟨w.heap.size, 1, none⟩) (by first | exact Nat.le_refl _ | assumption | (simp; done) | (simp; omega) | omega)).trans (by go_simp; rfl)
          have hOwn := (Below.frozen blb (p := ⟨w.heap.size, 2, none⟩) (by first | exact Nat.le_refl _ | assumption | (simp; done) | (simp; omega) | omega)).trans (by go_simp; rfl)
          have hOwn := (Below.frozen blb (p := ⟨w.heap.size, 3, none⟩) (by first | exact Nat.le_refl _ | assumption | (simp; done) | (simp; omega) | omega)).trans (by go_simp; rfl)
          have hOwn := (Below.frozen blb (p := ⟨w.heap.size, 4, none⟩) (by first | exact Nat.le_refl _ | assumption | (simp; done) | (simp; omega) | omega)).trans (by go_simp; rfl)
          go_wp2_with fail
          try simp only [Exit.inBlock, Exit.then]
          refine post_rj (x0 := .int .i64 0) (x1 := .int .i64 0) (x2 := .string ⟨#[]⟩) (x3 := .int .i64 0) (x4 := .int .i64 0) rfl rfl rfl (by go_simp) (by go_simp) (by go_simp) (by go_simp) (by go_simp) ?_
          exact tkW_ret (txtW_none Z.out) rfl rfl rfl rfl rfl rfl (by (repeat' (first | with_reducible assumption | with_reducible exact Below.refl _ _ | (with_reducible refine Below.alloc ?_ ?_ _; rotate_left; focus ((first | exact Nat.le_refl _ | (simp; done) | (simp; omega) | omega | fail))) | (with_reducible refine Below.setCell ?_ ?_ _; rotate_left; focus ((first | exact Nat.le_refl _ | (simp; done) | (simp; omega) | omega | fail))) | with_reducible refine Mem.bel_drewN ?_ _ | with_reducible refine Below.drew ?_ | (with_reducible refine Mem.bel_call (by with_reducible assumption) ?_ ?_; focus ((first | exact Nat.le_refl _ | (simp; done) | (simp; omega) | omega | fail))) | fail)))
        · have ic := IC.out (by rw [← HX.out]; omega)
          rcases ic with ⟨cc, n, e, isc, kn, it⟩ | ⟨er, it⟩
          · have G := Lib.hid (GO0.out _ _ (by omega) h34 it)
            have CH2 := CH1.out
            rw [e] at CH2
            have CH3 := Lib.hid CH2
            have ISC := Lib.hid isc
            have hul := Num.ue_len cc.toNat
            obtain ⟨U, hU⟩ : ∃ U, U = Num.ue cc.toNat := ⟨_, rfl⟩
            rw [← hU] at G hul
            have PC := Lib.hid (fun v W h1 h2 h3 => put_c cc (w.heap.size + 1) v d W h1 (by omega) h2 h3 (by omega) isc)
            rw [← hU] at PC
            clear CH2 CH1 CLO IC e isc it BAD DONE NO GO0 h34 hU
            go_wp2_with fail
            refine CH3.out.mono ?_
            rintro e w1 ⟨rfl, b1⟩
            have blb := bl.trans (b1.mono gsz)
            have gs1 := blb.size
            rw [sz0] at gs1
            have L1 := Lr.below b1 (by omega)
            have o1 := ow.below b1
            go_wp2_with fail
            with_reducible refine (PC.out _ _ L1 gs1 o1).mono ?_
            rintro e w2 ⟨v2, rfl, o2, b2⟩
            have bl2 := blb.trans b2
            go_wp2_with fail
            go_roundw
            case rel => exact ⟨n, d ++ U, by omega, rfl, o2, Lib.hid (G.out.1.at (by omega)), bl2⟩
            case measure => have := G.out.2; simp [intOf]; omega
          · have Z := Lib.hid (NO1.out it)
            obtain ⟨⟨cc, n, er0⟩, hr⟩ : ∃ r, r = chrR l p := ⟨_, rfl⟩
            rw [← hr] at CH1 er
            simp only at er
            by_cases he : er0 = 0
            · subst he
              have nc : ¬ Num.isC cc := by rcases er with h | h; (· exact absurd rfl h); (· exact h)
              have PN := Lib.hid (fun v => Put_no cc nc v)
              clear er it hr IC CLO BAD DONE NO GO0 h34 nc
              go_wp2_with fail
              refine CH1.out.mono ?_
              rintro e w1 ⟨rfl, b1⟩
              have blb := bl.trans (b1.mono gsz)
              go_wp2_with fail
              with_reducible refine (PN.out _ _).mono ?_
              rintro e w2 ⟨rfl, rfl⟩
              have hOwn := Nat.lt_of_lt_of_le (n := w.heap.size) (by first | exact Nat.le_refl _ | assumption | (simp; done) | (simp; omega) | omega) (Below.size blb)
              have hOwn1 := Nat.ne_of_gt hOwn
              have hOwn2 := Nat.ne_of_lt hOwn
              have hOwn := (Below.cell blb (p := ⟨w.heap.size, 0, none⟩) (by first | exact Nat.le_refl _ | assumption | (simp; done) | (simp; omega) | omega)).trans (by go_simp; rfl)
              have hOwn := (Below.cell blb (p := ⟨w.heap.size, 1, none⟩) (by first | exact Nat.le_refl _ | assumption | (simp; done) | (simp; omega) | omega)).trans (by go_simp; rfl)
              have hOwn := (Below.cell blb (p := ⟨w.heap.size, 2, none⟩) (by first | exact Nat.le_refl _ | assumption | (simp; done) | (simp; omega) | omega)).trans (by go_simp; rfl)
              have hOwn := (Below.cell blb (p := ⟨w.heap.size, 3, none⟩) (by first | exact Nat.le_refl _ | assumption | (simp; done) | (simp; omega) | omega)).trans (by go_simp; rfl)
              have hOwn := (Below.cell blb (p := ⟨w.heap.size, 4, none⟩) (by first | exact Nat.le_refl _ | assumption | (simp; done) | (simp; omega) | omega)).trans (by go_simp; rfl)
              have hOwn := (Below.frozen blb (p := ⟨w.heap.size, 0, none⟩) (by first | exact Nat.le_refl _ | assumption | (simp; done) | (simp; omega) | omega)).trans (by go_simp; rfl)
              have hOwn := (Below.frozen blb (p := ⟨w.heap.size, 1, none⟩) (by first | exact Nat.le_refl _ | assumption | (simp; done) | (simp; omega) | omega)).trans (by go_simp; rfl)
              have hOwn := (Below.frozen blb (p := ⟨w.heap.size, 2, none⟩) (by first | exact Nat.le_refl _ | assumption | (simp; done) | (simp; omega) | omega)).trans (by go_simp; rfl)
              have hOwn := (Below.frozen blb (p := ⟨w.heap.size, 3, none⟩) (by first | exact Nat.le_refl _ | assumption | (simp; done) | (simp; omega) | omega)).trans (by go_simp; rfl)
              have hOwn := (Below.frozen blb (p := ⟨w.heap.size, 4, none⟩) (by first | exact Nat.le_refl _ | assumption | (simp; done) | (simp; omega) | omega)).trans (by go_simp; rfl)
              go_wp2_with fail
              try simp only [Exit.inBlock, Exit.then]
              refine post_rj (x0 := .int .i64 0) (x1 := .int .i64 0) (x2 := .string ⟨#[]⟩) (x3 := .int .i64 0) (x4 := .int .i64 0) rfl rfl rfl (by go_simp) (by go_simp) (by go_simp) (by go_simp) (by go_simp) ?_
              exact tkW_ret (txtW_none Z.out) rfl rfl rfl rfl rfl rfl (by (repeat' (first | with_reducible assumption | with_reducible exact Below.refl _ _ | (with_reducible refine Below.alloc ?_ ?_ _; rotate_left; focus ((first | exact Nat.le_refl _ | (simp; done) | (simp; omega) | omega | fail))) | (with_reducible refine Below.setCell ?_ ?_ _; rotate_left; focus ((first | exact Nat.le_refl _ | (simp; done) | (simp; omega) | omega | fail))) | with_reducible refine Mem.bel_drewN ?_ _ | with_reducible refine Below.drew ?_ | (with_reducible refine Mem.bel_call (by with_reducible assumption) ?_ ?_; focus ((first | exact Nat.le_refl _ | (simp; done) | (simp; omega) | omega | fail))) | fail)))
            · have qe : ((er0 : Int) == 0) = false := by rw [beq_eq_false_iff_ne]; omega
              have qe2 : ((er0 : Int) != 0) = true := by rw [bne_iff_ne]; omega
              clear er it hr IC CLO BAD DONE NO GO0 h34 he
              go_wp2_with fail
              refine CH1.out.mono ?_
              rintro e w1 ⟨rfl, b1⟩
              have blb := bl.trans (b1.mono gsz)
              have hOwn := Nat.lt_of_lt_of_le (n := w.heap.size) (by first | exact Nat.le_refl _ | assumption | (simp; done) | (simp; omega) | omega) (Below.size blb)
              have hOwn1 := Nat.ne_of_gt hOwn
              have hOwn2 := Nat.ne_of_lt hOwn
              have hOwn := (Below.cell blb (p := ⟨w.heap.size, 0, none⟩) (by first | exact Nat.le_refl _ | assumption | (simp; done) | (simp; omega) | omega)).trans (by go_simp; rfl)
              have hOwn := (Below.cell blb (p := ⟨w.heap.size, 1, none⟩) (by first | exact Nat.le_refl _ | assumption | (simp; done) | (simp; omega) | omega)).trans (by go_simp; rfl)
              have hOwn := (Below.cell blb (p := ⟨w.heap.size, 2, none⟩) (by first | exact Nat.le_refl _ | assumption | (simp; done) | (simp; omega) | omega)).trans (by go_simp; rfl)
              have hOwn := (Below.cell blb (p := ⟨w.heap.size, 3, none⟩) (by first | exact Nat.le_refl _ | assumption | (simp; done) | (simp; omega) | omega)).trans (by go_simp; rfl)
              have hOwn := (Below.cell blb (p := ⟨w.heap.size, 4, none⟩) (by first | exact Nat.le_refl _ | assumption | (simp; done) | (simp; omega) | omega)).trans (by go_simp; rfl)
              have hOwn := (Below.frozen blb (p := ⟨w.heap.size, 0, none⟩) (by first | exact Nat.le_refl _ | assumption | (simp; done) | (simp; omega) | omega)).trans (by go_simp; rfl)
              have hOwn := (Below.frozen blb (p := ⟨w.heap.size, 1, none⟩) (by first | exact Nat.le_refl _ | assumption | (simp; done) | (simp; omega) | omega)).trans (by go_simp; rfl)
              have hOwn := (Below.frozen blb (p := ⟨w.heap.size, 2, none⟩) (by first | exact Nat.le_refl _ | assumption | (simp; done) | (simp; omega) | omega)).trans (by go_simp; rfl)
              have hOwn := (Below.frozen blb (p := ⟨w.heap.size, 3, none⟩) (by first | exact Nat.le_refl _ | assumption | (simp; done) | (simp; omega) | omega)).trans (by go_simp; rfl)
              have hOwn := (Below.frozen blb (p := ⟨w.heap.size, 4, none⟩) (by first | exact Nat.le_refl _ | assumption | (simp; done) | (simp; omega) | omega)).trans (by go_simp; rfl)
              go_wp2_with fail
              try simp only [Exit.inBlock, Exit.then]
              refine post_rj (x0 := .int .i64 0) (x1 := .int .i64 0) (x2 := .string ⟨#[]⟩) (x3 := .int .i64 0) (x4 := .int .i64 0) rfl rfl rfl (by go_simp) (by go_simp) (by go_simp) (by go_simp) (by go_simp) ?_
              exact tkW_ret (txtW_none Z.out) rfl rfl rfl rfl rfl rfl (by (repeat' (first | with_reducible assumption | with_reducible exact Below.refl _ _ | (with_reducible refine Below.alloc ?_ ?_ _; rotate_left; focus ((first | exact Nat.le_refl _ | (simp; done) | (simp; omega) | omega | fail))) | (with_reducible refine Below.setCell ?_ ?_ _; rotate_left; focus ((first | exact Nat.le_refl _ | (simp; done) | (simp; omega) | omega | fail))) | with_reducible refine Mem.bel_drewN ?_ _ | with_reducible refine Below.drew ?_ | (with_reducible refine Mem.bel_call (by with_reducible assumption) ?_ ?_; focus ((first | exact Nat.le_refl _ | (simp; done) | (simp; omega) | omega | fail))) | fail)))
    · have Z := Lib.hid (BAD.out (by rw [xend (by omega)]; decide))
      have q1 : decide ((p : Int) < (l.length : Int)) = false := by simp; omega
      have q2 : ((p : Int) == (l.length : Int)) = true := by rw [beq_iff_eq]; omega
      clear CELL xend CH IC CLO BAD DONE NO GO0
      go_wp2_with fail
      try simp only [Exit.inBlock, Exit.then]
      refine post_rj (x0 := .int .i64 0) (x1 := .int .i64 0) (x2 := .string ⟨#[]⟩) (x3 := .int .i64 0) (x4 := .int .i64 0) rfl rfl rfl (by go_simp) (by go_simp) (by go_simp) (by go_simp) (by go_simp) ?_
      exact tkW_ret (txtW_none Z.out) rfl rfl rfl rfl rfl rfl (by (repeat' (first | with_reducible assumption | with_reducible exact Below.refl _ _ | (with_reducible refine Below.alloc ?_ ?_ _; rotate_left; focus ((first | exact Nat.le_refl _ | (simp; done) | (simp; omega) | omega | fail))) | (with_reducible refine Below.setCell ?_ ?_ _; rotate_left; focus ((first | exact Nat.le_refl _ | (simp; done) | (simp; omega) | omega | fail))) | with_reducible refine Mem.bel_drewN ?_ _ | with_reducible refine Below.drew ?_ | (with_reducible refine Mem.bel_call (by with_reducible assumption) ?_ ?_; focus ((first | exact Nat.le_refl _ | (simp; done) | (simp; omega) | omega | fail))) | fail)))
end Go.Proofs.YtjebkedlfhapjaaDoor
