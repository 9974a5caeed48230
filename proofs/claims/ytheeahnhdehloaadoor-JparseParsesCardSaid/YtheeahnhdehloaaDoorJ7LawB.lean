/- The laws of layer 7, walked: which tree bytes are. -/
import Derived.Test.YtheeahnhdehloaaDoorJ7Law
import Derived.Test.YtheeahnhdehloaaDoorJTAll
import Derived.Test.YtheeahnhdehloaaDoorJTSame
namespace Go.Proofs.YtheeahnhdehloaaDoor
open Go.ChangeShapes Go.WideShapes Go.ChangeAt Go.RowKit Mem

set_option maxRecDepth 100000 in
set_option maxHeartbeats 4000000 in
theorem jparseParses_walk (A : Option Addr) (l : List UInt8) (c : Nat) (w : World) (hc : l.length ≤ c) (hb : Bys w w.heap.size A l) (hL : Laid w) :
    Calls Tryd.prog 3 #[.slice A l.length c] w fun e w' => e = .returned (.bool true) ∧ Below w.heap.size w w' := by
  have CS := cell_set
  have top := hL.top
  by_cases hbig : 2000 < l.length
  · have WK := Lib.hid (works7_any w hL)
    go_enter Tryd.func3, Tryd.ntmps3
    go_wp2_with fail
    refine WK.out.mono ?_
    rintro e w1 ⟨rfl, b1⟩
    go_wp2_with fail
    go_ret
    exact ⟨rfl, b1⟩
  · have hq : ¬ (2000 : Int) < (l.length : Int) := by omega
    have PA := Lib.hid (fun W A' c' h1 h2 h3 => parse_any A' c' l W h1 h2 (by omega) h3)
    have RA := Lib.hid (fun W h => rParse_any A c l W h (by omega) hc)
    have WK := Lib.hid (fun W h => works7_any W h)
    have RS := Lib.hid (fun t u W a1 a2 a3 a4 b1 b2 b3 b4 h k => rsame_at _ t u (Nat.le_refl _) W a1 a2 a3 a4 b1 b2 b3 b4 h k)
    obtain ⟨⟨j, er⟩, hr⟩ : ∃ r, r = Jp.parse l := ⟨_, rfl⟩
    rw [← hr] at PA RA
    have ll : l.length ≤ 2000 := by omega
    clear hr hbig
    go_enter Tryd.func3, Tryd.ntmps3
    go_wp2_with (at_builtin; refine wpList_app _ byteT rfl (.tmp 12) (.tmp 13) rfl w.heap.size _ [] rfl (own_lit w (Nat.le_refl _)) _ A c l rfl (hb.alloc (Nat.le_refl _) _) (by simp; omega) (by simp) ?_; intro v1 w1 o1 h1; rw [List.nil_append] at o1; have b1 : Below w.heap.size w w1 := (((Below.refl _ _).alloc (Nat.le_refl _) _).trans h1); clear h1; obtain ⟨A1, c1, rfl, y1, hc1⟩ := o1.room; clear o1)
    have L1 := hL.below b1 top
    with_reducible refine (PA.out _ _ _ L1 y1 hc1).mono ?_
    rintro e w2 ⟨A3, c3, A4, c4, rfl, tr, b2⟩
    simp only at tr ⊢
    have s1 := b1.size
    have s2 := b2.size
    have bw2 : Below w.heap.size w w2 := b1.trans (b2.mono s1)
    have y2 := y1.now b2
    have tr2 := btw_c tr
    go_wp2_with fail
    with_reducible refine (RA.out _ (((hb.below bw2).more bw2.size).alloc (Nat.le_refl _) _ |>.more (by simp))).mono ?_
    rintro e w4 ⟨D3, d3, D4, d4, rfl, tk, b4⟩
    simp only at tk ⊢
    have s4 := b4.size
    simp at s4
    have bw4 : Below w.heap.size w w4 := (bw2.alloc (by omega) _).trans (b4.mono (by simp; omega))
    have b24 : Below w2.heap.size w2 w4 := ((Below.refl _ _).alloc (Nat.le_refl _) _).trans (b4.mono (by simp))
    have y4 := y2.now b24
    have tr4 := tr2.below b24
    have tk4 := btw_c tk
    have hOwn := Nat.lt_of_lt_of_le (n := w2.heap.size) (by first | exact Nat.le_refl _ | assumption | (simp; done) | (simp; omega) | omega) (Below.size b4)
    have hOwn1 := Nat.ne_of_gt hOwn
    have hOwn2 := Nat.ne_of_lt hOwn
    have hOwn := (Below.cell b4 (p := ⟨w2.heap.size, 0, none⟩) (by first | exact Nat.le_refl _ | assumption | (simp; done) | (simp; omega) | omega)).trans (by go_simp; rfl)
    have hOwn := (Below.cell b4 (p := ⟨w2.heap.size, 1, none⟩) (by first | exact Nat.le_refl _ | assumption | (simp; done) | (simp; omega) | omega)).trans (by go_simp; rfl)
    have hOwn := (Below.cell b4 (p := ⟨w2.heap.size, 2, none⟩) (by first | exact Nat.le_refl _ | assumption | (simp; done) | (simp; omega) | omega)).trans (by go_simp; rfl)
    have hOwn := (Below.cell b4 (p := ⟨w2.heap.size, 3, none⟩) (by first | exact Nat.le_refl _ | assumption | (simp; done) | (simp; omega) | omega)).trans (by go_simp; rfl)
    have hOwn := (Below.cell b4 (p := ⟨w2.heap.size, 4, none⟩) (by first | exact Nat.le_refl _ | assumption | (simp; done) | (simp; omega) | omega)).trans (by go_simp; rfl)
    have hOwn := (Below.frozen b4 (p := ⟨w2.heap.size, 0, none⟩) (by first | exact Nat.le_refl _ | assumption | (simp; done) | (simp; omega) | omega)).trans (by go_simp; rfl)
    have hOwn := (Below.frozen b4 (p := ⟨w2.heap.size, 1, none⟩) (by first | exact Nat.le_refl _ | assumption | (simp; done) | (simp; omega) | omega)).trans (by go_simp; rfl)
    have hOwn := (Below.frozen b4 (p := ⟨w2.heap.size, 2, none⟩) (by first | exact Nat.le_refl _ | assumption | (simp; done) | (simp; omega) | omega)).trans (by go_simp; rfl)
    have hOwn := (Below.frozen b4 (p := ⟨w2.heap.size, 3, none⟩) (by first | exact Nat.le_refl _ | assumption | (simp; done) | (simp; omega) | omega)).trans (by go_simp; rfl)
    have hOwn := (Below.frozen b4 (p := ⟨w2.heap.size, 4, none⟩) (by first | exact Nat.le_refl _ | assumption | (simp; done) | (simp; omega) | omega)).trans (by go_simp; rfl)
    have YF := Lib.hid (fun W (h : Below w4.heap.size w4 W) => Bys.str byteT strT (y4.now h) c1)
    have YB := Lib.hid (fun W (h : Below w4.heap.size w4 W) => Bys.str byteT strT (((hb.below bw4).more bw4.size).now h) c)
    have RSx := Lib.hid (fun W h k => RS.out j j W A3 A4 D3 D4 c3 c4 d3 d4 h k)
    have TR4 := Lib.hid tr4
    have TK4 := Lib.hid tk4
    clear tr tr2 tr4 tk tk4 y1 y2 y4
    go_wp2_with fail
    with_reducible refine (RSx.out _ (((TR4.out.more (show w2.heap.size ≤ w4.heap.size by omega)).alloc (Nat.le_refl _) _).more (by simp)) ((TK4.out.alloc (Nat.le_refl _) _).more (by simp))).mono ?_
    rintro e w5 ⟨rfl, b5⟩
    rw [J.same_refl]
    have b45 : Below w4.heap.size w4 w5 := ((Below.refl _ _).alloc (Nat.le_refl _) _).trans (b5.mono (by simp))
    have bw5 : Below w.heap.size w w5 := bw4.trans (b45.mono (by omega))
    have yf := YF.out _ b45
    have yb := YB.out _ b45
    have L5 := hL.below bw5 top
    go_wp2_with fail
    refine (WK.out _ L5).mono ?_
    rintro e w6 ⟨rfl, b6⟩
    have bw6 : Below w.heap.size w w6 := bw5.trans (b6.mono bw5.size)
    go_wp2_with fail
    go_ret
    exact ⟨rfl, bw6⟩
end Go.Proofs.YtheeahnhdehloaaDoor
