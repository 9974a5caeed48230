/- The laws of layer 8, walked: the chapter's example. -/
import Derived.Test.YtjebkedlfhapjaaDoorKCode
import Derived.Test.YtjebkedlfhapjaaDoorKPrt
import Derived.Test.YtjebkedlfhapjaaDoorJRBulk
import Derived.Test.YtjebkedlfhapjaaDoorJCSame
import Derived.Test.YtjebkedlfhapjaaDoorJ7Law
import Derived.Lib.SlBytesConst
import Derived.Deep.RegionHeldLaw
namespace Go.Proofs.YtjebkedlfhapjaaDoor
open Go.ChangeShapes Go.WideShapes Go.ChangeAt Go.RowKit Mem

def t8p : List UInt8 := [123, 34, 97, 34, 58, 91, 49, 44, 116, 114, 117, 101, 93, 125]
theorem nm_one : Jx.nm 1 = [49] := by
  unfold Jx.nm
  rw [if_neg (by decide), show (1 : Int).natAbs = 1 from rfl, Jx.dig_lt (by decide)]; rfl
theorem nm_ten : Jx.nm (-10) = [45, 49, 48] := by
  unfold Jx.nm
  rw [if_pos (by decide), show (-10 : Int).natAbs = 10 from rfl, Jx.dig_ge (by decide), show 10 / 10 = 1 from rfl, Jx.dig_lt (by decide)]; rfl
theorem ex8p : Jp.prt t7a = t8p := by
  unfold t7a t8p t7x
  simp [Jp.prt, Jp.prts, nm_one, Jx.quo, Jx.qb, Jx.qc, Jx.sT]
theorem ex8o : t7a.rng ∧ t7a.wt ≤ 1000000 ∧ t7a.deep ≤ 1000000 ∧ Jp.out t7a = (t8p, 0) := by
  have po := Jp.parse_out (l := [123, 34, 97, 34, 58, 32, 91, 49, 44, 32, 116, 114, 117, 101, 93, 125]) (by decide) (by rw [ex7a])
  rw [ex7a] at po
  obtain ⟨a, b, c, _, _, d, _⟩ := po
  exact ⟨a, b, c, by rw [d, ex8p]⟩

set_option maxRecDepth 100000 in
set_option maxHeartbeats 4000000 in
theorem works8_all (w : World) (hL : Laid w) : Calls Tryd.prog 8 #[] w (Yes w.heap.size w) := by
  have CS := cell_set
  have top := hL.top
  have cvb := fun w C n c => Lib.run_convert_bytes_const (P := Tryd.prog) w 28 5 C n c byteT.sl byteT.el
  have pa := parse_any (some ⟨w.heap.size, 0, none⟩) 16 [123, 34, 97, 34, 58, 32, 91, 49, 44, 32, 116, 114, 117, 101, 93, 125] (w.alloc (.cells #[.int .u8 123, .int .u8 34, .int .u8 97, .int .u8 34, .int .u8 58, .int .u8 32, .int .u8 91, .int .u8 49, .int .u8 44, .int .u8 32, .int .u8 116, .int .u8 114, .int .u8 117, .int .u8 101, .int .u8 93, .int .u8 125] 5 (16, 17))) (hL.alloc _)
    (mark_bys7 w [123, 34, 97, 34, 58, 32, 91, 49, 44, 32, 116, 114, 117, 101, 93, 125] (16, 17)) (by decide) (by decide)
  rw [ex7a] at pa
  have PA := Lib.hid pa
  have cv1 := cvb w #[.int .u8 123, .int .u8 34, .int .u8 97, .int .u8 34, .int .u8 58, .int .u8 32, .int .u8 91, .int .u8 49, .int .u8 44, .int .u8 32, .int .u8 116, .int .u8 114, .int .u8 117, .int .u8 101, .int .u8 93, .int .u8 125] 16 16
  obtain ⟨o1, o2, o3, o4⟩ := ex8o
  have PR := Lib.hid (fun W hL A3 A4 c3 c4 h => jPrint_any t7a o2 o3 o1 W hL A3 A4 c3 c4 h)
  rw [o4] at PR
  unfold PrtB at PR
  have nu := fun W (hLW : Laid W) => jNumber_any (-10) (by decide) (by decide) W.heap.size (.slice none 0 0) [] W hLW hLW.top (Nat.le_refl _) (Own.none_ _ _ _) (by simp)
  simp only [nm_ten, List.nil_append] at nu
  have NU := Lib.hid nu
  unfold Made at NU
  clear pa cvb o1 o2 o3 o4 nu
  go_enter Tryd.func8, Tryd.ntmps8
  go_wp2_with fail
  refine PA.out.mono ?_
  rintro e w1 ⟨A3, c3, A4, c4, rfl, tr, b1⟩
  have tr1 := Lib.hid (btw_c tr)
  simp only [t7a, J.k, J.n, J.t, J.its, J.ks, List.length_cons, List.length_nil, Nat.zero_add] at tr PR tr1 ⊢
  have bw1 : Below w.heap.size w w1 := by (repeat' (first | with_reducible assumption | with_reducible exact Below.refl _ _ | (with_reducible refine Below.alloc ?_ ?_ _; rotate_left; focus ((first | exact Nat.le_refl _ | (simp; done) | (simp; omega) | omega | fail))) | (with_reducible refine Below.setCell ?_ ?_ _; rotate_left; focus ((first | exact Nat.le_refl _ | (simp; done) | (simp; omega) | omega | fail))) | with_reducible refine Mem.bel_drewN ?_ _ | with_reducible refine Below.drew ?_ | (with_reducible refine Mem.bel_call (by with_reducible assumption) ?_ ?_; focus ((first | exact Nat.le_refl _ | (simp; done) | (simp; omega) | omega | fail))) | fail))
  have s1 := bw1.size
  have b12 : Below w1.heap.size w1 (w1.alloc (.cells #[.int .i64 6, .int .i64 0, .string ⟨#[]⟩, .slice A3 1 c3, .slice A4 1 c4] 25)) := (Below.refl _ _).alloc (Nat.le_refl _) _
  have bw2 := bw1.trans (b12.mono s1)
  clear tr
  go_wp2_with fail
  refine (PR.out _ (hL.below bw2 top) A3 A4 c3 c4 ((tr1.out.below b12).more b12.size)).mono ?_
  rintro e w3 ⟨PA, pc, rfl, hpc, pb, b3⟩
  have bw3 : Below w.heap.size w w3 := bw2.trans (b3.mono bw2.size)
  have s3 := bw3.size
  have hOwn := Nat.lt_of_lt_of_le (n := w1.heap.size) (by first | exact Nat.le_refl _ | assumption | (simp; done) | (simp; omega) | omega) (Below.size b3)
  have hOwn1 := Nat.ne_of_gt hOwn
  have hOwn2 := Nat.ne_of_lt hOwn
  have hOwn := (Below.cell b3 (p := ⟨w1.heap.size, 0, none⟩) (by first | exact Nat.le_refl _ | assumption | (simp; done) | (simp; omega) | omega)).trans (by go_simp; rfl)
  have hOwn := (Below.cell b3 (p := ⟨w1.heap.size, 1, none⟩) (by first | exact Nat.le_refl _ | assumption | (simp; done) | (simp; omega) | omega)).trans (by go_simp; rfl)
  have hOwn := (Below.cell b3 (p := ⟨w1.heap.size, 2, none⟩) (by first | exact Nat.le_refl _ | assumption | (simp; done) | (simp; omega) | omega)).trans (by go_simp; rfl)
  have hOwn := (Below.cell b3 (p := ⟨w1.heap.size, 3, none⟩) (by first | exact Nat.le_refl _ | assumption | (simp; done) | (simp; omega) | omega)).trans (by go_simp; rfl)
  have hOwn := (Below.cell b3 (p := ⟨w1.heap.size, 4, none⟩) (by first | exact Nat.le_refl _ | assumption | (simp; done) | (simp; omega) | omega)).trans (by go_simp; rfl)
  have hOwn := (Below.frozen b3 (p := ⟨w1.heap.size, 0, none⟩) (by first | exact Nat.le_refl _ | assumption | (simp; done) | (simp; omega) | omega)).trans (by go_simp; rfl)
  have hOwn := (Below.frozen b3 (p := ⟨w1.heap.size, 1, none⟩) (by first | exact Nat.le_refl _ | assumption | (simp; done) | (simp; omega) | omega)).trans (by go_simp; rfl)
  have hOwn := (Below.frozen b3 (p := ⟨w1.heap.size, 2, none⟩) (by first | exact Nat.le_refl _ | assumption | (simp; done) | (simp; omega) | omega)).trans (by go_simp; rfl)
  have hOwn := (Below.frozen b3 (p := ⟨w1.heap.size, 3, none⟩) (by first | exact Nat.le_refl _ | assumption | (simp; done) | (simp; omega) | omega)).trans (by go_simp; rfl)
  have hOwn := (Below.frozen b3 (p := ⟨w1.heap.size, 4, none⟩) (by first | exact Nat.le_refl _ | assumption | (simp; done) | (simp; omega) | omega)).trans (by go_simp; rfl)
  have cv3 := pb.str byteT strT pc
  simp only [t8p, List.length_cons, List.length_nil, Nat.zero_add, Nat.reduceAdd] at cv3 ⊢
  have PB := Lib.hid pb
  clear pb
  go_wp2_with fail
  refine (NU.out _ (hL.below bw3 top)).mono ?_
  rintro e w4 ⟨v4, rfl, o4, b4⟩
  have bw4 : Below w.heap.size w w4 := bw3.trans (b4.mono s3)
  obtain ⟨A5, c5, rfl, y5⟩ := o4.bys
  have cv5 := y5.str byteT strT c5
  have cv6 := (PB.out.below b4).str byteT strT pc
  simp only [t8p, List.length_cons, List.length_nil, Nat.zero_add, Nat.reduceAdd] at cv5 cv6 ⊢
  go_wp2_with fail
  go_ret
  exact ⟨rfl, bw4⟩
theorem works8_any (w : World) (hL : Laid w) : Calls Tryd.prog 8 #[] w (fun e w' => e = .returned (.bool true) ∧ Below w.heap.size w w') := works8_all w hL
end Go.Proofs.YtjebkedlfhapjaaDoor
