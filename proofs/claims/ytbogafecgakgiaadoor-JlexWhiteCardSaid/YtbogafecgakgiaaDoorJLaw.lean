/- The laws of layer 6, walked: the chapter's example; words. -/
import Derived.Test.YtbogafecgakgiaaDoorJlex
import Derived.Deep.RegionHeldLaw
import Derived.Lib.SlBytesConst
namespace Go.Proofs.YtbogafecgakgiaaDoor
open Go.ChangeShapes Go.WideShapes Go.ChangeAt Go.RowKit Mem

theorem mark_bys6 (w : World) (l : List UInt8) (fr : Nat × Nat) : Bys (w.alloc (.cells (cels l).toArray 5 fr)) (w.alloc (.cells (cels l).toArray 5 fr)).heap.size (some ⟨w.heap.size, 0, none⟩) l := by
  refine .inr ⟨w.heap.size, 0, rfl, by simp, fun k hk => ?_⟩
  rw [Nat.zero_add, World.cell?_alloc_mark, List.getElem?_toArray, cels_at hk]
theorem ex_all : Jx.all [91, 45, 55, 44, 32, 34, 97, 92, 117, 48, 48, 101, 52, 34, 93] 0 = ([⟨3, 0, [], 0, 1⟩, ⟨9, -7, [], 1, 3⟩, ⟨6, 0, [], 3, 4⟩, ⟨10, 0, [97, 195, 164], 5, 14⟩, ⟨4, 0, [], 14, 15⟩], 0) := by kernel_rfl
theorem alls_out {T : TypeId} {ws : List Jx.Wd} {er n : Nat} {w w' : World} {e : Ending} (hn : ws.length = n) (h : Alls T (ws, er) w e w') :
    ∃ A c, e = .returned (.tuple #[.slice A n c, .int .i64 (er : Int)]) ∧ n ≤ c ∧ Fl w' w'.heap.size A (wcs ws) ∧ Below w.heap.size w w' := by
  subst hn
  obtain ⟨v, rfl, ow, hb⟩ := h
  obtain ⟨A, c, rfl, hc, f⟩ := ow.fl
  exact ⟨A, c, rfl, hc, f, hb⟩
set_option maxRecDepth 100000 in
theorem works6_any (w : World) (hL : Laid w) : Calls Tryd.prog 7 #[] w (Yes w.heap.size w) := by
  have al := jAll_any (some ⟨w.heap.size, 0, none⟩) 15 [91, 45, 55, 44, 32, 34, 97, 92, 117, 48, 48, 101, 52, 34, 93] (w.alloc (.cells #[.int .u8 91, .int .u8 45, .int .u8 55, .int .u8 44, .int .u8 32, .int .u8 34, .int .u8 97, .int .u8 92, .int .u8 117, .int .u8 48, .int .u8 48, .int .u8 101, .int .u8 52, .int .u8 34, .int .u8 93] 5 (15, 16))) (hL.alloc _)
    (mark_bys6 w [91, 45, 55, 44, 32, 34, 97, 92, 117, 48, 48, 101, 52, 34, 93] (15, 16)) (by decide) (by decide)
  rw [ex_all] at al
  have cvb := Lib.run_convert_bytes_const (P := Tryd.prog) w 22 5 #[.int .u8 91, .int .u8 45, .int .u8 55, .int .u8 44, .int .u8 32, .int .u8 34, .int .u8 97, .int .u8 92, .int .u8 117, .int .u8 48, .int .u8 48, .int .u8 101, .int .u8 52, .int .u8 34, .int .u8 93] 15 15 byteT.sl byteT.el
  have AL := Lib.hid al
  clear al
  go_enter Tryd.func7, Tryd.ntmps7
  go_wp2_with fail
  refine AL.out.mono ?_
  intro e w1 h1
  obtain ⟨A1, c1, rfl, hc1, f1, b1⟩ := alls_out (n := 5) rfl h1
  clear h1
  rcases f1 with h | ⟨b, off, rfl, hb, hc⟩
  · cases h
  · have x0 := hc 0 (by decide)
    have x1 := hc 6 (by decide)
    have x2 := hc 10 (by decide)
    have x3 := hc 17 (by decide)
    have x4 := hc 24 (by decide)
    simp only [wcs, wcells, List.flatMap_cons, List.flatMap_nil, List.cons_append, List.nil_append, List.getElem?_cons_zero, List.getElem?_cons_succ] at x0 x1 x2 x3 x4
    rw [Nat.add_zero] at x0
    clear hc
    go_wp2_with fail
    go_ret
    exact ⟨rfl, by (repeat' (first | with_reducible assumption | with_reducible exact Below.refl _ _ | (with_reducible refine Below.alloc ?_ ?_ _; rotate_left; focus ((first | exact Nat.le_refl _ | (simp; done) | (simp; omega) | omega | fail))) | (with_reducible refine Below.setCell ?_ ?_ _; rotate_left; focus ((first | exact Nat.le_refl _ | (simp; done) | (simp; omega) | omega | fail))) | with_reducible refine Mem.bel_drewN ?_ _ | with_reducible refine Below.drew ?_ | (with_reducible refine Mem.bel_call (by with_reducible assumption) ?_ ?_; focus ((first | exact Nat.le_refl _ | (simp; done) | (simp; omega) | omega | fail))) | fail))⟩

theorem fl_word {w : World} {B : Nat} {A : Option Addr} {d : List Jx.Wd} (h : Fl w B A (wcs d)) {i : Nat} (hi : i < d.length) : ∃ b off, A = some ⟨b, off, none⟩ ∧ b < B ∧
    w.cell? ⟨b, off + i * 5, none⟩ = some (.int .i64 ((d[i]'hi).k : Int)) ∧ w.cell? ⟨b, off + i * 5 + 1, none⟩ = some (.int .i64 (d[i]'hi).n) ∧ w.cell? ⟨b, off + i * 5 + 2, none⟩ = some (.string ⟨(d[i]'hi).t.toArray⟩) ∧
    w.cell? ⟨b, off + i * 5 + 3, none⟩ = some (.int .i64 ((d[i]'hi).a : Int)) ∧ w.cell? ⟨b, off + i * 5 + 4, none⟩ = some (.int .i64 ((d[i]'hi).x : Int)) := by
  have at_ : ∀ j, j < 5 → (wcs d)[i * 5 + j]? = (wcells (d[i]'hi))[j]? := by
    have e : wcs d = wcs (d.take i) ++ (wcells (d[i]'hi) ++ wcs (d.drop (i + 1))) := by
      have h1 : d = d.take i ++ (d[i]'hi :: d.drop (i + 1)) := by rw [← List.drop_eq_getElem_cons hi, List.take_append_drop]
      exact (congrArg wcs h1).trans (by unfold wcs; rw [List.flatMap_append, List.flatMap_cons])
    have hl : (wcs (d.take i)).length = i * 5 := by rw [wcs_len, List.length_take, Nat.min_eq_left (Nat.le_of_lt hi)]
    intro j hj
    rw [e, List.getElem?_append_right (by omega), hl, show i * 5 + j - i * 5 = j by omega, List.getElem?_append_left (by simpa [wcells] using hj)]
  rcases h with h | ⟨b, off, rfl, hb, hc⟩
  · have := wcs_len d; rw [h] at this; simp at this; omega
  · have hl := wcs_len d
    refine ⟨b, off, rfl, hb, ?_, ?_, ?_, ?_, ?_⟩
    · have := hc (i * 5 + 0) (by omega); rw [at_ 0 (by omega)] at this; exact this
    · have := hc (i * 5 + 1) (by omega); rw [at_ 1 (by omega)] at this; exact this
    · have := hc (i * 5 + 2) (by omega); rw [at_ 2 (by omega)] at this; exact this
    · have := hc (i * 5 + 3) (by omega); rw [at_ 3 (by omega)] at this; exact this
    · have := hc (i * 5 + 4) (by omega); rw [at_ 4 (by omega)] at this; exact this

/-- A world but for what it draws. -/
def Drewn2 (W w : World) : Prop := ∃ n, w = W.drewN n
set_option maxRecDepth 100000 in
set_option maxHeartbeats 2000000 in
theorem jlexTakes_walk (A : Option Addr) (l : List UInt8) (c : Nat) (at_ : Int) (w : World) (hc : l.length ≤ c) (hb : Bys w w.heap.size A l) (_ : (Lit.int .i64 at_).wf = true) (hL : Laid w) :
    Calls Tryd.prog 3 #[.slice A l.length c, .int .i64 at_] w fun e w' => e = .returned (.bool true) ∧ Below w.heap.size w w' := by
  have CS := cell_set
  by_cases hbig : 2000 < l.length
  · have WK := Lib.hid (works6_any w hL)
    go_enter Tryd.func3, Tryd.ntmps3
    go_wp2_with fail
    refine WK.out.mono ?_
    rintro e w1 ⟨rfl, b1⟩
    go_wp2_with fail
    go_ret
    exact ⟨rfl, b1⟩
  · have T1 := Lib.hid (jTake_any A c l at_ w hL hb (by omega) hc)
    have T2 := Lib.hid (fun w' h => rjTake_any A c l at_ w' h (by omega) hc)
    have L1 := Lib.hid (fun w' hL' h => jAll_any A c l w' hL' h (by omega) hc)
    have L2 := Lib.hid (fun w' h => rjAll_any A c l w' h (by omega) hc)
    obtain ⟨⟨⟨K, n, T, a, x⟩, er⟩, hr⟩ : ∃ r, r = Jx.takI l at_ := ⟨_, rfl⟩
    have hlen := Jx.all_len l
    obtain ⟨⟨ws, er2⟩, hr2⟩ : ∃ r, r = Jx.all l 0 := ⟨_, rfl⟩
    rw [← hr2] at hlen
    rw [← hr] at T1 T2
    rw [← hr2] at L1 L2
    have hq : ¬ (2000 : Int) < (l.length : Int) := by omega
    obtain ⟨m, hm⟩ : ∃ m, m = ws.length := ⟨_, rfl⟩
    have hm2 : m ≤ 2000 := by rw [hm]; exact Nat.le_trans hlen (by omega)
    have HM := Lib.hid hm
    clear hr hr2 hm hlen
    go_enter Tryd.func3, Tryd.ntmps3
    go_wp2_with fail
    refine T1.out.mono ?_
    intro e w1 h1
    obtain ⟨rfl, b1⟩ := tkW_out h1
    clear h1
    have s1 := b1.size
    go_wp2_with fail
    refine (T2.out _ (((hb.below b1).more s1).alloc (Nat.le_refl _) _ |>.more (by simp))).mono ?_
    intro e w2 h2
    obtain ⟨rfl, b2⟩ := tkW_out h2
    clear h2
    have hOwn := Nat.lt_of_lt_of_le (n := w1.heap.size) (by first | exact Nat.le_refl _ | assumption | (simp; done) | (simp; omega) | omega) (Below.size b2)
    have hOwn1 := Nat.ne_of_gt hOwn
    have hOwn2 := Nat.ne_of_lt hOwn
    have hOwn := (Below.cell b2 (p := ⟨w1.heap.size, 0, none⟩) (by first | exact Nat.le_refl _ | assumption | (simp; done) | (simp; omega) | omega)).trans (by go_simp; rfl)
    have hOwn := (Below.cell b2 (p := ⟨w1.heap.size, 1, none⟩) (by first | exact Nat.le_refl _ | assumption | (simp; done) | (simp; omega) | omega)).trans (by go_simp; rfl)
    have hOwn := (Below.cell b2 (p := ⟨w1.heap.size, 2, none⟩) (by first | exact Nat.le_refl _ | assumption | (simp; done) | (simp; omega) | omega)).trans (by go_simp; rfl)
    have hOwn := (Below.cell b2 (p := ⟨w1.heap.size, 3, none⟩) (by first | exact Nat.le_refl _ | assumption | (simp; done) | (simp; omega) | omega)).trans (by go_simp; rfl)
    have hOwn := (Below.cell b2 (p := ⟨w1.heap.size, 4, none⟩) (by first | exact Nat.le_refl _ | assumption | (simp; done) | (simp; omega) | omega)).trans (by go_simp; rfl)
    have hOwn := (Below.frozen b2 (p := ⟨w1.heap.size, 0, none⟩) (by first | exact Nat.le_refl _ | assumption | (simp; done) | (simp; omega) | omega)).trans (by go_simp; rfl)
    have hOwn := (Below.frozen b2 (p := ⟨w1.heap.size, 1, none⟩) (by first | exact Nat.le_refl _ | assumption | (simp; done) | (simp; omega) | omega)).trans (by go_simp; rfl)
    have hOwn := (Below.frozen b2 (p := ⟨w1.heap.size, 2, none⟩) (by first | exact Nat.le_refl _ | assumption | (simp; done) | (simp; omega) | omega)).trans (by go_simp; rfl)
    have hOwn := (Below.frozen b2 (p := ⟨w1.heap.size, 3, none⟩) (by first | exact Nat.le_refl _ | assumption | (simp; done) | (simp; omega) | omega)).trans (by go_simp; rfl)
    have hOwn := (Below.frozen b2 (p := ⟨w1.heap.size, 4, none⟩) (by first | exact Nat.le_refl _ | assumption | (simp; done) | (simp; omega) | omega)).trans (by go_simp; rfl)
    have b12 := (b1.alloc s1 (.cells #[.int .i64 (K : Int), .int .i64 n, .string ⟨T.toArray⟩, .int .i64 (a : Int), .int .i64 (x : Int)] 25)).trans (b2.mono (by simp; omega))
    have s2 := b12.size
    have hp := hL.1
    have b12a := b12.alloc s2 (.cells #[.int .i64 (K : Int), .int .i64 n, .string ⟨T.toArray⟩, .int .i64 (a : Int), .int .i64 (x : Int)] 29)
    have s12 := b12a.size
    go_wp2_with fail
    refine (L1.out _ (hL.below b12a hp) ((hb.below b12a).more s12)).mono ?_
    intro e w3 h3
    obtain ⟨A3, c3, rfl, hc3, f3, b3⟩ := alls_out HM.out.symm h3
    clear h3
    have b13 := b12a.trans (b3.mono s12)
    have s3 := b13.size
    go_wp2_with fail
    refine (L2.out _ ((hb.below b13).more s3)).mono ?_
    intro e w4 h4
    obtain ⟨A4, c4, rfl, hc4, f4, b4⟩ := alls_out HM.out.symm h4
    clear h4
    have g3 := f3.below b4
    have s4 := b4.size
    have b14 := b13.trans (b4.mono s3)
    have F3 := Lib.hid g3
    have F4 := Lib.hid f4
    clear f3 g3 f4
    go_wp2_with fail
    go_loopw [13, 60] (fun _ t wr => ∃ i : Nat, i ≤ m ∧ t = .int .i64 (i : Int) ∧ Drewn2 w4 wr) (fun _ t _ => m - (intOf t).toNat)
    case atStart => exact ⟨0, Nat.zero_le _, rfl, ⟨0, rfl⟩⟩
    case round =>
      obtain ⟨i, hi, rfl, ⟨nd, rfl⟩⟩ := hrel
      by_cases him : i < m
      · obtain ⟨b5, o5, rfl, hb5, x0, x1, x2, x3, x4⟩ := fl_word F3.out (i := i) (by rw [← HM.out]; exact him)
        obtain ⟨b6, o6, rfl, hb6, y0, y1, y2, y3, y4⟩ := fl_word F4.out (i := i) (by rw [← HM.out]; exact him)
        generalize ws[i]'(by rw [← HM.out]; exact him) = W at *
        go_wp2_with fail
        go_quiet (fail)
        go_wp2_with fail
        go_roundw
        case rel => exact ⟨i + 1, by omega, by go_num, ⟨_, rfl⟩⟩
        case measure => simp [intOf]; omega
      · obtain rfl : i = m := by omega
        have WK := Lib.hid (works6_any (w4.drewN nd) ((hL.below b14 hp).drewN nd))
        go_wp2_with fail
        refine WK.out.mono ?_
        rintro e w5 ⟨rfl, b5⟩
        go_wp2_with fail
        go_ret
        exact ⟨rfl, (bel_drewN b14 nd).trans (b5.mono b14.size)⟩
end Go.Proofs.YtbogafecgakgiaaDoor
