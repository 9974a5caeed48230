/- Layer 4: the laws' helpers. -/
import Derived.Test.YtjebhbjffofjnaaDoorWireD
import Derived.Test.YtjebhbjffofjnaaDoorWireE
import Derived.Test.YtjebhbjffofjnaaDoorWireS
import Derived.Lib.SlBytesConst
import Derived.Lib.SmallJoins
namespace Go.Proofs.YtjebhbjffofjnaaDoor
open Go.ChangeShapes Go.WideShapes Go.ChangeAt Go.RowKit Mem

theorem own_any (A : Option Addr) (c : Nat) (l : List UInt8) (w : World) (hb : Bys w w.heap.size A l) (hl : l.length ≤ 1000000) :
    Calls Tryd.prog 12 #[.slice A l.length c] w (Made w.heap.size l w) := by
  go_enter Tryd.func12, Tryd.ntmps12
  go_wp2_with (at_builtin; refine wpList_app _ byteT rfl (.tmp 3) (.tmp 4) rfl w.heap.size _ [] rfl (own_lit w (Nat.le_refl _)) _ A c l rfl (hb.alloc (Nat.le_refl _) _) (by simp; omega) (by simp) ?_; intro v' w2 o2 b2)
  go_ret
  rw [List.nil_append] at o2
  exact ⟨_, rfl, o2, ((Below.refl _ _).alloc (Nat.le_refl _) _).trans b2⟩

set_option maxRecDepth 100000 in
theorem ex_txt : Wr.txt [6, 102, 111, 111] 0 0 = ([102, 111, 111], 4, 0) := by
  have e1 : Wr.lnum 10 1 [6, 102, 111, 111] 0 0 = (3, 1, 0) := by decide
  have e2 : Wr.cut [6, 102, 111, 111] 1 0 3 = ([102, 111, 111], 4, 0) := by decide
  have e3 : Wr.byt [6, 102, 111, 111] 0 0 = ([102, 111, 111], 4, 0) := by unfold Wr.byt; rw [e1]; simp [e2]
  unfold Wr.txt
  rw [e3]
  rw [if_neg]
  intro h
  have : Num.cU [102, 111, 111] = some 3 := by
    rw [Num.cU_go (l := [102, 111, 111]) (c := 102) (n := 1) (by decide)]
    show (Num.cU [111, 111]).map (· + 1) = _
    rw [Num.cU_go (l := [111, 111]) (c := 111) (n := 1) (by decide)]
    show ((Num.cU [111]).map (· + 1)).map (· + 1) = _
    rw [Num.cU_go (l := [111]) (c := 111) (n := 1) (by decide)]
    show (((Num.cU []).map (· + 1)).map (· + 1)).map (· + 1) = _
    rw [Num.cU_nil]; rfl
  exact absurd h.2 (by simp [this])
theorem ex_long : Wr.lnum 10 1 [] 1 0 = (0, 1, 2) := by decide
theorem ex_end1 : Wr.fin [6, 102, 111, 111] 4 0 = 0 := by decide
theorem ex_end2 : Wr.fin [] 1 2 = 2 := by decide

/-- A literal's bytes behind their conversion: the row bears a mark. -/
theorem mark_bys (w : World) (l : List UInt8) (fr : Nat × Nat) : Bys (w.alloc (.cells (cels l).toArray 5 fr)) (w.alloc (.cells (cels l).toArray 5 fr)).heap.size (some ⟨w.heap.size, 0, none⟩) l := by
  refine .inr ⟨w.heap.size, 0, rfl, by simp, fun k hk => ?_⟩
  rw [Nat.zero_add, World.cell?_alloc_mark, List.getElem?_toArray, cels_at hk]
set_option maxRecDepth 100000 in
theorem works4_any (w : World) (hL : Laid w) : Calls Tryd.prog 7 #[] w (Yes w.heap.size w) := by
  have T0 : Calls Tryd.prog 23 #[.agg #[.slice (some ⟨w.heap.size, 0, none⟩) 4 4, .int .i64 0, .int .i64 0]] (w.alloc (.cells #[.int .u8 6, .int .u8 102, .int .u8 111, .int .u8 111] 5 (4, 5))) (SaysF ([102, 111, 111], 4, 0) (some ⟨w.heap.size, 0, none⟩) [6, 102, 111, 111] 4 (w.alloc (.cells #[.int .u8 6, .int .u8 102, .int .u8 111, .int .u8 111] 5 (4, 5)))) := by
    have h := Text_any (some ⟨w.heap.size, 0, none⟩) 4 [6, 102, 111, 111] 0 0 _ (hL.alloc _) (mark_bys w [6, 102, 111, 111] (4, 5)) (by decide) (by decide)
    rw [ex_txt] at h
    exact h
  have L0 : ∀ W, Calls Tryd.prog 20 #[.agg #[.slice none 0 0, .int .i64 1, .int .i64 0]] W (SaysN (0, 1, 2) none [] 0 W) := by
    intro W
    have h := Long_rd none 0 [] 1 0 W (Bys.nil _ _ _) (by decide)
    rw [ex_long] at h
    exact h
  have E1 : ∀ W, Calls Tryd.prog 9 #[.agg #[.slice (some ⟨w.heap.size, 0, none⟩) 4 4, .int .i64 4, .int .i64 0]] W (fun x w' => x = .returned (.int .i64 0) ∧ Below W.heap.size W w') := by
    intro W
    have h := End_any (some ⟨w.heap.size, 0, none⟩) 4 [6, 102, 111, 111] 4 0 W
    rw [ex_end1] at h
    exact h
  have E2 : ∀ W, Calls Tryd.prog 9 #[.agg #[.slice none 0 0, .int .i64 1, .int .i64 2]] W (fun x w' => x = .returned (.int .i64 2) ∧ Below W.heap.size W w') := by
    intro W
    have h := End_any none 0 [] 1 2 W
    rw [ex_end2] at h
    exact h
  have cvb := Lib.run_convert_bytes_const (P := Tryd.prog) w 22 5 #[.int .u8 6, .int .u8 102, .int .u8 111, .int .u8 111] 4 4 byteT.sl byteT.el
  have T := Lib.hid T0
  have L := Lib.hid L0
  have E1 := Lib.hid E1
  have E2 := Lib.hid E2
  clear T0 L0
  go_enter Tryd.func7, Tryd.ntmps7
  go_wp2_with fail
  refine T.out.mono ?_
  rintro e w1 h1
  obtain ⟨A1, c1, rfl, hc1, y1, b1⟩ := saysF_out (n := 3) rfl h1
  have hSz := Below.size b1; try simp at hSz
  go_wp2_with fail
  refine (L.out _).mono ?_
  rintro e w2 ⟨rfl, b2⟩
  have hSz := Below.size b2; try simp at hSz
  have hOwn := Nat.lt_of_lt_of_le (n := w1.heap.size) (by first | exact Nat.le_refl _ | assumption | (simp; done) | (simp; omega) | omega) (Below.size b2)
  have hOwn1 := Nat.ne_of_gt hOwn
  have hOwn2 := Nat.ne_of_lt hOwn
  have hOwn := (Below.cell b2 (p := ⟨w1.heap.size, 0, none⟩) (by first | exact Nat.le_refl _ | assumption | (simp; done) | (simp; omega) | omega)).trans (by go_simp; rfl)
  have hOwn := (Below.cell b2 (p := ⟨w1.heap.size, 1, none⟩) (by first | exact Nat.le_refl _ | assumption | (simp; done) | (simp; omega) | omega)).trans (by go_simp; rfl)
  have hOwn := (Below.cell b2 (p := ⟨w1.heap.size, 2, none⟩) (by first | exact Nat.le_refl _ | assumption | (simp; done) | (simp; omega) | omega)).trans (by go_simp; rfl)
  have hOwn := (Below.frozen b2 (p := ⟨w1.heap.size, 0, none⟩) (by first | exact Nat.le_refl _ | assumption | (simp; done) | (simp; omega) | omega)).trans (by go_simp; rfl)
  have hOwn := (Below.frozen b2 (p := ⟨w1.heap.size, 1, none⟩) (by first | exact Nat.le_refl _ | assumption | (simp; done) | (simp; omega) | omega)).trans (by go_simp; rfl)
  have hOwn := (Below.frozen b2 (p := ⟨w1.heap.size, 2, none⟩) (by first | exact Nat.le_refl _ | assumption | (simp; done) | (simp; omega) | omega)).trans (by go_simp; rfl)
  have y2 := y1.1.now (W := w2) (by (repeat' (first | with_reducible assumption | with_reducible exact Below.refl _ _ | (with_reducible refine Below.alloc ?_ ?_ _; rotate_left; focus ((first | exact Nat.le_refl _ | (simp; done) | (simp; omega) | omega | fail))) | (with_reducible refine Below.setCell ?_ ?_ _; rotate_left; focus ((first | exact Nat.le_refl _ | (simp; done) | (simp; omega) | omega | fail))) | with_reducible refine Mem.bel_drewN ?_ _ | with_reducible refine Below.drew ?_ | (with_reducible refine Mem.bel_call (by with_reducible assumption) ?_ ?_; focus ((first | exact Nat.le_refl _ | (simp; done) | (simp; omega) | omega | fail))) | fail)))
  have sv : (convert 22 9 (.slice A1 3 c1)).run Tryd.prog (w2.alloc (.cells #[.slice none 0 0, .int .i64 1, .int .i64 2] 27)) = .ok (.string ⟨[102, 111, 111].toArray⟩) (w2.alloc (.cells #[.slice none 0 0, .int .i64 1, .int .i64 2] 27)) := (y2.alloc (Nat.le_refl _) _).str byteT strT c1
  go_wp2_with fail
  refine (E1.out _).mono ?_
  rintro e w3 ⟨rfl, b3⟩
  have hOwn := Nat.lt_of_lt_of_le (n := w2.heap.size) (by first | exact Nat.le_refl _ | assumption | (simp; done) | (simp; omega) | omega) (Below.size b3)
  have hOwn1 := Nat.ne_of_gt hOwn
  have hOwn2 := Nat.ne_of_lt hOwn
  have hOwn := (Below.cell b3 (p := ⟨w2.heap.size, 0, none⟩) (by first | exact Nat.le_refl _ | assumption | (simp; done) | (simp; omega) | omega)).trans (by go_simp; rfl)
  have hOwn := (Below.cell b3 (p := ⟨w2.heap.size, 1, none⟩) (by first | exact Nat.le_refl _ | assumption | (simp; done) | (simp; omega) | omega)).trans (by go_simp; rfl)
  have hOwn := (Below.cell b3 (p := ⟨w2.heap.size, 2, none⟩) (by first | exact Nat.le_refl _ | assumption | (simp; done) | (simp; omega) | omega)).trans (by go_simp; rfl)
  have hOwn := (Below.frozen b3 (p := ⟨w2.heap.size, 0, none⟩) (by first | exact Nat.le_refl _ | assumption | (simp; done) | (simp; omega) | omega)).trans (by go_simp; rfl)
  have hOwn := (Below.frozen b3 (p := ⟨w2.heap.size, 1, none⟩) (by first | exact Nat.le_refl _ | assumption | (simp; done) | (simp; omega) | omega)).trans (by go_simp; rfl)
  have hOwn := (Below.frozen b3 (p := ⟨w2.heap.size, 2, none⟩) (by first | exact Nat.le_refl _ | assumption | (simp; done) | (simp; omega) | omega)).trans (by go_simp; rfl)
  go_wp2_with fail
  refine (E2.out _).mono ?_
  rintro e w4 ⟨rfl, b4⟩
  go_wp2_with fail
  go_ret
  exact ⟨rfl, by (repeat' (first | with_reducible assumption | with_reducible exact Below.refl _ _ | (with_reducible refine Below.alloc ?_ ?_ _; rotate_left; focus ((first | exact Nat.le_refl _ | (simp; done) | (simp; omega) | omega | fail))) | (with_reducible refine Below.setCell ?_ ?_ _; rotate_left; focus ((first | exact Nat.le_refl _ | (simp; done) | (simp; omega) | omega | fail))) | with_reducible refine Mem.bel_drewN ?_ _ | with_reducible refine Below.drew ?_ | (with_reducible refine Mem.bel_call (by with_reducible assumption) ?_ ?_; focus ((first | exact Nat.le_refl _ | (simp; done) | (simp; omega) | omega | fail))) | fail))⟩
end Go.Proofs.YtjebhbjffofjnaaDoor
