/- Layer 7, the code's own calls: a list, and an object, behind its first sign. (Written by tools/genlists.py.) -/
import Derived.Test.YtjebkedlfhapjaaDoorJCPt2
import Derived.Test.YtjebkedlfhapjaaDoorJCW
import Derived.Test.YtjebkedlfhapjaaDoorJTVal
namespace Go.Proofs.YtjebkedlfhapjaaDoor
open Go.ChangeShapes Go.WideShapes Go.ChangeAt Go.RowKit Mem

set_option maxRecDepth 100000 in
set_option maxHeartbeats 2000000 in
theorem list_step (f : Nat) (hV : ∀ g, g ≤ f → CVal g) : CLst (f + 1) := by
  intro l A c g p d w C hcur hp hf hd
  have CS := cell_set
  have hg := hcur.lt
  have W4 : Sav g g w.heap.size w ((((w.alloc (.cells #[wv g] 59)).alloc (.cells #[.int .i64 (d : Int)] 3)).alloc (.cells #[.int .i64 0, .int .i64 0, .string ⟨#[]⟩, .slice none 0 0, .slice none 0 0] 25)).alloc (.cells #[.int .i64 5, .int .i64 0, .string ⟨#[]⟩, .slice none 0 0, .slice none 0 0] 25)) := by (repeat' (first | with_reducible assumption | with_reducible exact Mem.Sav.refl _ _ _ _ | with_reducible refine Mem.Sav.drewN ?_ _ | with_reducible refine Mem.Sav.drew ?_ | (with_reducible refine Mem.Sav.set ?_ ?_ _; rotate_left; focus (first | (simp; done) | (simp; omega) | (dsimp only; omega) | omega | fail)) | (with_reducible refine Mem.Sav.alloc ?_ ?_ _; rotate_left; focus (first | exact Nat.le_refl _ | assumption | (simp; done) | (simp; omega) | omega | fail)) | (with_reducible refine Mem.Sav.call (by with_reducible assumption) ?_ ?_; focus (first | exact Nat.le_refl _ | assumption | (simp; done) | (simp; omega) | omega | fail)) | (with_reducible refine Mem.Sav.next (by with_reducible assumption) ?_ ?_; focus (first | exact Nat.le_refl _ | assumption | (simp; done) | (simp; omega) | omega | fail)) | (with_reducible refine Mem.Sav.next1 (by with_reducible assumption) ?_ ?_; focus (first | exact Nat.le_refl _ | assumption | (simp; done) | (simp; omega) | omega | fail)) | fail))
  have C4 := C.sav W4 (Nat.le_of_lt hg) (Nat.le_refl _)
  have t4 : Cur ((((w.alloc (.cells #[wv g] 59)).alloc (.cells #[.int .i64 (d : Int)] 3)).alloc (.cells #[.int .i64 0, .int .i64 0, .string ⟨#[]⟩, .slice none 0 0, .slice none 0 0] 25)).alloc (.cells #[.int .i64 5, .int .i64 0, .string ⟨#[]⟩, .slice none 0 0, .slice none 0 0] 25)) g A l.length c p := (((hcur.alloc _).alloc _).alloc _).alloc _
  have bk4 : B5 ((((w.alloc (.cells #[wv g] 59)).alloc (.cells #[.int .i64 (d : Int)] 3)).alloc (.cells #[.int .i64 0, .int .i64 0, .string ⟨#[]⟩, .slice none 0 0, .slice none 0 0] 25)).alloc (.cells #[.int .i64 5, .int .i64 0, .string ⟨#[]⟩, .slice none 0 0, .slice none 0 0] 25)) (w.heap.size + 3) 25 (.int .i64 5) (.int .i64 0) (.string ⟨#[]⟩) (.slice none 0 0) (.slice none 0 0) := B5.newat (by simp)
  have cap4 : Cap g (w.heap.size + 3) ((((w.alloc (.cells #[wv g] 59)).alloc (.cells #[.int .i64 (d : Int)] 3)).alloc (.cells #[.int .i64 0, .int .i64 0, .string ⟨#[]⟩, .slice none 0 0, .slice none 0 0] 25)).alloc (.cells #[.int .i64 5, .int .i64 0, .string ⟨#[]⟩, .slice none 0 0, .slice none 0 0] 25)).heap.size w.heap.size (w.heap.size + 1) d ((((w.alloc (.cells #[wv g] 59)).alloc (.cells #[.int .i64 (d : Int)] 3)).alloc (.cells #[.int .i64 0, .int .i64 0, .string ⟨#[]⟩, .slice none 0 0, .slice none 0 0] 25)).alloc (.cells #[.int .i64 5, .int .i64 0, .string ⟨#[]⟩, .slice none 0 0, .slice none 0 0] 25)) := ⟨by go_simp, by go_simp, by simp; omega, by simp, by omega, by omega, by omega, by omega⟩
  have sz4 : ((((w.alloc (.cells #[wv g] 59)).alloc (.cells #[.int .i64 (d : Int)] 3)).alloc (.cells #[.int .i64 0, .int .i64 0, .string ⟨#[]⟩, .slice none 0 0, .slice none 0 0] 25)).alloc (.cells #[.int .i64 5, .int .i64 0, .string ⟨#[]⟩, .slice none 0 0, .slice none 0 0] 25)).heap.size = w.heap.size + 4 := by simp
  have pc := parts_4 f hV l A c g p d _ (w.heap.size + 3) w.heap.size (w.heap.size + 1) C4 t4 hp hf hd bk4 cap4 (by omega)
  obtain ⟨R, hR⟩ : ∃ R, R = (if (Jx.tak l p).2 = 0 ∧ (Jx.tak l p).1.k = 4 then ((.mk (Jp.kindOf 4) 0 Jp.nil_ [] [], (Jx.tak l p).1.x, 0) : Jp.R) else Jp.pits (f + 1) l p d 4 [] []) := ⟨_, rfl⟩
  rw [← hR] at pc ⊢
  have gn : w.heap.size + 2 ≠ g := by omega
  have gn2 : w.heap.size + 2 ≠ w.heap.size + 3 := by omega
  have PC := Lib.hid pc
  have SZ4 := Lib.hid sz4
  clear pc hR hV C C4 bk4 cap4 t4 sz4
  go_enter Tryd.func60, Tryd.ntmps60
  go_wp2_with fail
  with_reducible refine PC.out.mono ?_
  rintro e w5 ⟨N, ks, js, css, v3, v4, q, rfl, st, hN, hr, hq, hj, hk, t5, s5⟩
  have z5 := s5.size
  rw [SZ4.out] at hN z5
  have hOwn := Nat.lt_of_lt_of_le (n := (w.heap.size + 2)) (by first | exact Nat.le_refl _ | assumption | (simp; done) | (simp; omega) | omega) (Mem.Sav.size s5)
  have hOwn1 := Nat.ne_of_gt hOwn
  have hOwn2 := Nat.ne_of_lt hOwn
  have hOwn := (Mem.Sav.cell s5 (p := ⟨(w.heap.size + 2), 0, none⟩) (by first | exact Nat.le_refl _ | assumption | (simp; done) | (simp; omega) | omega) (by first | assumption | (simp; done) | (simp; omega) | omega) (by first | assumption | (simp; done) | (simp; omega) | omega)).trans (by go_simp; rfl)
  have hOwn := (Mem.Sav.cell s5 (p := ⟨(w.heap.size + 2), 1, none⟩) (by first | exact Nat.le_refl _ | assumption | (simp; done) | (simp; omega) | omega) (by first | assumption | (simp; done) | (simp; omega) | omega) (by first | assumption | (simp; done) | (simp; omega) | omega)).trans (by go_simp; rfl)
  have hOwn := (Mem.Sav.cell s5 (p := ⟨(w.heap.size + 2), 2, none⟩) (by first | exact Nat.le_refl _ | assumption | (simp; done) | (simp; omega) | omega) (by first | assumption | (simp; done) | (simp; omega) | omega) (by first | assumption | (simp; done) | (simp; omega) | omega)).trans (by go_simp; rfl)
  have hOwn := (Mem.Sav.cell s5 (p := ⟨(w.heap.size + 2), 3, none⟩) (by first | exact Nat.le_refl _ | assumption | (simp; done) | (simp; omega) | omega) (by first | assumption | (simp; done) | (simp; omega) | omega) (by first | assumption | (simp; done) | (simp; omega) | omega)).trans (by go_simp; rfl)
  have hOwn := (Mem.Sav.cell s5 (p := ⟨(w.heap.size + 2), 4, none⟩) (by first | exact Nat.le_refl _ | assumption | (simp; done) | (simp; omega) | omega) (by first | assumption | (simp; done) | (simp; omega) | omega) (by first | assumption | (simp; done) | (simp; omega) | omega)).trans (by go_simp; rfl)
  have hOwn := (Mem.Sav.frozen s5 (p := ⟨(w.heap.size + 2), 0, none⟩) (by first | exact Nat.le_refl _ | assumption | (simp; done) | (simp; omega) | omega) (by first | assumption | (simp; done) | (simp; omega) | omega) (by first | assumption | (simp; done) | (simp; omega) | omega)).trans (by go_simp; rfl)
  have hOwn := (Mem.Sav.frozen s5 (p := ⟨(w.heap.size + 2), 1, none⟩) (by first | exact Nat.le_refl _ | assumption | (simp; done) | (simp; omega) | omega) (by first | assumption | (simp; done) | (simp; omega) | omega) (by first | assumption | (simp; done) | (simp; omega) | omega)).trans (by go_simp; rfl)
  have hOwn := (Mem.Sav.frozen s5 (p := ⟨(w.heap.size + 2), 2, none⟩) (by first | exact Nat.le_refl _ | assumption | (simp; done) | (simp; omega) | omega) (by first | assumption | (simp; done) | (simp; omega) | omega) (by first | assumption | (simp; done) | (simp; omega) | omega)).trans (by go_simp; rfl)
  have hOwn := (Mem.Sav.frozen s5 (p := ⟨(w.heap.size + 2), 3, none⟩) (by first | exact Nat.le_refl _ | assumption | (simp; done) | (simp; omega) | omega) (by first | assumption | (simp; done) | (simp; omega) | omega) (by first | assumption | (simp; done) | (simp; omega) | omega)).trans (by go_simp; rfl)
  have hOwn := (Mem.Sav.frozen s5 (p := ⟨(w.heap.size + 2), 4, none⟩) (by first | exact Nat.le_refl _ | assumption | (simp; done) | (simp; omega) | omega) (by first | assumption | (simp; done) | (simp; omega) | omega) (by first | assumption | (simp; done) | (simp; omega) | omega)).trans (by go_simp; rfl)
  obtain ⟨A3, c3, A4, c4, rfl, rfl, tr⟩ := st.tree (by omega) (by omega)
  obtain ⟨k0, k1, k2, k3, k4, r0, r1, r2, r3, r4⟩ := st.bk.facts
  have s6 := s5.less (B' := w.heap.size) (by rw [SZ4.out]; omega) (by omega)
  have HN := Lib.hid hN
  clear hN
  go_wp2_with fail
  try simp only [Exit.inBlock, Exit.then]
  refine post_j2 (x0 := .int .i64 5) (x1 := .int .i64 0) (x2 := .string ⟨#[]⟩) (x3 := (.slice A3 js.length c3)) (x4 := (.slice A4 ks.length c4)) rfl rfl rfl (by go_simp) (by go_simp) (by go_simp) (by go_simp) (by go_simp) ?_
  refine cv_ret (j := .mk 5 0 ⟨#[]⟩ js ks) (q := q) rfl tr (by have := HN.out; omega) ?_ (by simp) (fun e => ⟨(hr e).1.symm, (hr e).2⟩) hq (by (repeat' (first | with_reducible assumption | with_reducible refine Cur.drewN ?_ _ | with_reducible refine Cur.drew ?_ | with_reducible refine Cur.alloc ?_ _ | (with_reducible refine Cur.past ?_ ?_ _; rotate_left; focus (first | assumption | (simp; done) | (simp; omega) | (dsimp only; omega) | omega | fail)) | with_reducible refine Cur.go (p := q) ?_ | fail))) ?_
  · have HG : ∀ b, Btw N w5.heap.size b → b ≠ w.heap.size + 2 := fun b hb => by have := hb.1; have := HN.out; omega
    repeat (with_reducible refine KeepS.set ?_ HG _ _)
    with_reducible exact KeepS.refl _ _
  · have s7 := W4.trans s6
    (repeat' (first | with_reducible assumption | with_reducible exact Mem.Sav.refl _ _ _ _ | with_reducible refine Mem.Sav.drewN ?_ _ | with_reducible refine Mem.Sav.drew ?_ | (with_reducible refine Mem.Sav.set ?_ ?_ _; rotate_left; focus (first | (simp; done) | (simp; omega) | (dsimp only; omega) | omega | fail)) | (with_reducible refine Mem.Sav.alloc ?_ ?_ _; rotate_left; focus (first | exact Nat.le_refl _ | assumption | (simp; done) | (simp; omega) | omega | fail)) | (with_reducible refine Mem.Sav.call (by with_reducible assumption) ?_ ?_; focus (first | exact Nat.le_refl _ | assumption | (simp; done) | (simp; omega) | omega | fail)) | (with_reducible refine Mem.Sav.next (by with_reducible assumption) ?_ ?_; focus (first | exact Nat.le_refl _ | assumption | (simp; done) | (simp; omega) | omega | fail)) | (with_reducible refine Mem.Sav.next1 (by with_reducible assumption) ?_ ?_; focus (first | exact Nat.le_refl _ | assumption | (simp; done) | (simp; omega) | omega | fail)) | fail))

set_option maxRecDepth 100000 in
set_option maxHeartbeats 2000000 in
theorem object_step (f : Nat) (hV : ∀ g, g ≤ f → CNxt g) : CObj (f + 1) := by
  intro l A c g p d w C hcur hp hf hd
  have CS := cell_set
  have hg := hcur.lt
  have W4 : Sav g g w.heap.size w ((((w.alloc (.cells #[wv g] 59)).alloc (.cells #[.int .i64 (d : Int)] 3)).alloc (.cells #[.int .i64 0, .int .i64 0, .string ⟨#[]⟩, .slice none 0 0, .slice none 0 0] 25)).alloc (.cells #[.int .i64 6, .int .i64 0, .string ⟨#[]⟩, .slice none 0 0, .slice none 0 0] 25)) := by (repeat' (first | with_reducible assumption | with_reducible exact Mem.Sav.refl _ _ _ _ | with_reducible refine Mem.Sav.drewN ?_ _ | with_reducible refine Mem.Sav.drew ?_ | (with_reducible refine Mem.Sav.set ?_ ?_ _; rotate_left; focus (first | (simp; done) | (simp; omega) | (dsimp only; omega) | omega | fail)) | (with_reducible refine Mem.Sav.alloc ?_ ?_ _; rotate_left; focus (first | exact Nat.le_refl _ | assumption | (simp; done) | (simp; omega) | omega | fail)) | (with_reducible refine Mem.Sav.call (by with_reducible assumption) ?_ ?_; focus (first | exact Nat.le_refl _ | assumption | (simp; done) | (simp; omega) | omega | fail)) | (with_reducible refine Mem.Sav.next (by with_reducible assumption) ?_ ?_; focus (first | exact Nat.le_refl _ | assumption | (simp; done) | (simp; omega) | omega | fail)) | (with_reducible refine Mem.Sav.next1 (by with_reducible assumption) ?_ ?_; focus (first | exact Nat.le_refl _ | assumption | (simp; done) | (simp; omega) | omega | fail)) | fail))
  have C4 := C.sav W4 (Nat.le_of_lt hg) (Nat.le_refl _)
  have t4 : Cur ((((w.alloc (.cells #[wv g] 59)).alloc (.cells #[.int .i64 (d : Int)] 3)).alloc (.cells #[.int .i64 0, .int .i64 0, .string ⟨#[]⟩, .slice none 0 0, .slice none 0 0] 25)).alloc (.cells #[.int .i64 6, .int .i64 0, .string ⟨#[]⟩, .slice none 0 0, .slice none 0 0] 25)) g A l.length c p := (((hcur.alloc _).alloc _).alloc _).alloc _
  have bk4 : B5 ((((w.alloc (.cells #[wv g] 59)).alloc (.cells #[.int .i64 (d : Int)] 3)).alloc (.cells #[.int .i64 0, .int .i64 0, .string ⟨#[]⟩, .slice none 0 0, .slice none 0 0] 25)).alloc (.cells #[.int .i64 6, .int .i64 0, .string ⟨#[]⟩, .slice none 0 0, .slice none 0 0] 25)) (w.heap.size + 3) 25 (.int .i64 6) (.int .i64 0) (.string ⟨#[]⟩) (.slice none 0 0) (.slice none 0 0) := B5.newat (by simp)
  have cap4 : Cap g (w.heap.size + 3) ((((w.alloc (.cells #[wv g] 59)).alloc (.cells #[.int .i64 (d : Int)] 3)).alloc (.cells #[.int .i64 0, .int .i64 0, .string ⟨#[]⟩, .slice none 0 0, .slice none 0 0] 25)).alloc (.cells #[.int .i64 6, .int .i64 0, .string ⟨#[]⟩, .slice none 0 0, .slice none 0 0] 25)).heap.size w.heap.size (w.heap.size + 1) d ((((w.alloc (.cells #[wv g] 59)).alloc (.cells #[.int .i64 (d : Int)] 3)).alloc (.cells #[.int .i64 0, .int .i64 0, .string ⟨#[]⟩, .slice none 0 0, .slice none 0 0] 25)).alloc (.cells #[.int .i64 6, .int .i64 0, .string ⟨#[]⟩, .slice none 0 0, .slice none 0 0] 25)) := ⟨by go_simp, by go_simp, by simp; omega, by simp, by omega, by omega, by omega, by omega⟩
  have sz4 : ((((w.alloc (.cells #[wv g] 59)).alloc (.cells #[.int .i64 (d : Int)] 3)).alloc (.cells #[.int .i64 0, .int .i64 0, .string ⟨#[]⟩, .slice none 0 0, .slice none 0 0] 25)).alloc (.cells #[.int .i64 6, .int .i64 0, .string ⟨#[]⟩, .slice none 0 0, .slice none 0 0] 25)).heap.size = w.heap.size + 4 := by simp
  have pc := parts_2 f hV l A c g p d _ (w.heap.size + 3) w.heap.size (w.heap.size + 1) C4 t4 hp hf hd bk4 cap4 (by omega)
  obtain ⟨R, hR⟩ : ∃ R, R = (if (Jx.tak l p).2 = 0 ∧ (Jx.tak l p).1.k = 2 then ((.mk (Jp.kindOf 2) 0 Jp.nil_ [] [], (Jx.tak l p).1.x, 0) : Jp.R) else Jp.pits (f + 1) l p d 2 [] []) := ⟨_, rfl⟩
  rw [← hR] at pc ⊢
  have gn : w.heap.size + 2 ≠ g := by omega
  have gn2 : w.heap.size + 2 ≠ w.heap.size + 3 := by omega
  have PC := Lib.hid pc
  have SZ4 := Lib.hid sz4
  clear pc hR hV C C4 bk4 cap4 t4 sz4
  go_enter Tryd.func61, Tryd.ntmps61
  go_wp2_with fail
  with_reducible refine PC.out.mono ?_
  rintro e w5 ⟨N, ks, js, css, v3, v4, q, rfl, st, hN, hr, hq, hj, hk, t5, s5⟩
  have z5 := s5.size
  rw [SZ4.out] at hN z5
  have hOwn := Nat.lt_of_lt_of_le (n := (w.heap.size + 2)) (by first | exact Nat.le_refl _ | assumption | (simp; done) | (simp; omega) | omega) (Mem.Sav.size s5)
  have hOwn1 := Nat.ne_of_gt hOwn
  have hOwn2 := Nat.ne_of_lt hOwn
  have hOwn := (Mem.Sav.cell s5 (p := ⟨(w.heap.size + 2), 0, none⟩) (by first | exact Nat.le_refl _ | assumption | (simp; done) | (simp; omega) | omega) (by first | assumption | (simp; done) | (simp; omega) | omega) (by first | assumption | (simp; done) | (simp; omega) | omega)).trans (by go_simp; rfl)
  have hOwn := (Mem.Sav.cell s5 (p := ⟨(w.heap.size + 2), 1, none⟩) (by first | exact Nat.le_refl _ | assumption | (simp; done) | (simp; omega) | omega) (by first | assumption | (simp; done) | (simp; omega) | omega) (by first | assumption | (simp; done) | (simp; omega) | omega)).trans (by go_simp; rfl)
  have hOwn := (Mem.Sav.cell s5 (p := ⟨(w.heap.size + 2), 2, none⟩) (by first | exact Nat.le_refl _ | assumption | (simp; done) | (simp; omega) | omega) (by first | assumption | (simp; done) | (simp; omega) | omega) (by first | assumption | (simp; done) | (simp; omega) | omega)).trans (by go_simp; rfl)
  have hOwn := (Mem.Sav.cell s5 (p := ⟨(w.heap.size + 2), 3, none⟩) (by first | exact Nat.le_refl _ | assumption | (simp; done) | (simp; omega) | omega) (by first | assumption | (simp; done) | (simp; omega) | omega) (by first | assumption | (simp; done) | (simp; omega) | omega)).trans (by go_simp; rfl)
  have hOwn := (Mem.Sav.cell s5 (p := ⟨(w.heap.size + 2), 4, none⟩) (by first | exact Nat.le_refl _ | assumption | (simp; done) | (simp; omega) | omega) (by first | assumption | (simp; done) | (simp; omega) | omega) (by first | assumption | (simp; done) | (simp; omega) | omega)).trans (by go_simp; rfl)
  have hOwn := (Mem.Sav.frozen s5 (p := ⟨(w.heap.size + 2), 0, none⟩) (by first | exact Nat.le_refl _ | assumption | (simp; done) | (simp; omega) | omega) (by first | assumption | (simp; done) | (simp; omega) | omega) (by first | assumption | (simp; done) | (simp; omega) | omega)).trans (by go_simp; rfl)
  have hOwn := (Mem.Sav.frozen s5 (p := ⟨(w.heap.size + 2), 1, none⟩) (by first | exact Nat.le_refl _ | assumption | (simp; done) | (simp; omega) | omega) (by first | assumption | (simp; done) | (simp; omega) | omega) (by first | assumption | (simp; done) | (simp; omega) | omega)).trans (by go_simp; rfl)
  have hOwn := (Mem.Sav.frozen s5 (p := ⟨(w.heap.size + 2), 2, none⟩) (by first | exact Nat.le_refl _ | assumption | (simp; done) | (simp; omega) | omega) (by first | assumption | (simp; done) | (simp; omega) | omega) (by first | assumption | (simp; done) | (simp; omega) | omega)).trans (by go_simp; rfl)
  have hOwn := (Mem.Sav.frozen s5 (p := ⟨(w.heap.size + 2), 3, none⟩) (by first | exact Nat.le_refl _ | assumption | (simp; done) | (simp; omega) | omega) (by first | assumption | (simp; done) | (simp; omega) | omega) (by first | assumption | (simp; done) | (simp; omega) | omega)).trans (by go_simp; rfl)
  have hOwn := (Mem.Sav.frozen s5 (p := ⟨(w.heap.size + 2), 4, none⟩) (by first | exact Nat.le_refl _ | assumption | (simp; done) | (simp; omega) | omega) (by first | assumption | (simp; done) | (simp; omega) | omega) (by first | assumption | (simp; done) | (simp; omega) | omega)).trans (by go_simp; rfl)
  obtain ⟨A3, c3, A4, c4, rfl, rfl, tr⟩ := st.tree (by omega) (by omega)
  obtain ⟨k0, k1, k2, k3, k4, r0, r1, r2, r3, r4⟩ := st.bk.facts
  have s6 := s5.less (B' := w.heap.size) (by rw [SZ4.out]; omega) (by omega)
  have HN := Lib.hid hN
  clear hN
  go_wp2_with fail
  try simp only [Exit.inBlock, Exit.then]
  refine post_j2 (x0 := .int .i64 6) (x1 := .int .i64 0) (x2 := .string ⟨#[]⟩) (x3 := (.slice A3 js.length c3)) (x4 := (.slice A4 ks.length c4)) rfl rfl rfl (by go_simp) (by go_simp) (by go_simp) (by go_simp) (by go_simp) ?_
  refine cv_ret (j := .mk 6 0 ⟨#[]⟩ js ks) (q := q) rfl tr (by have := HN.out; omega) ?_ (by simp) (fun e => ⟨(hr e).1.symm, (hr e).2⟩) hq (by (repeat' (first | with_reducible assumption | with_reducible refine Cur.drewN ?_ _ | with_reducible refine Cur.drew ?_ | with_reducible refine Cur.alloc ?_ _ | (with_reducible refine Cur.past ?_ ?_ _; rotate_left; focus (first | assumption | (simp; done) | (simp; omega) | (dsimp only; omega) | omega | fail)) | with_reducible refine Cur.go (p := q) ?_ | fail))) ?_
  · have HG : ∀ b, Btw N w5.heap.size b → b ≠ w.heap.size + 2 := fun b hb => by have := hb.1; have := HN.out; omega
    repeat (with_reducible refine KeepS.set ?_ HG _ _)
    with_reducible exact KeepS.refl _ _
  · have s7 := W4.trans s6
    (repeat' (first | with_reducible assumption | with_reducible exact Mem.Sav.refl _ _ _ _ | with_reducible refine Mem.Sav.drewN ?_ _ | with_reducible refine Mem.Sav.drew ?_ | (with_reducible refine Mem.Sav.set ?_ ?_ _; rotate_left; focus (first | (simp; done) | (simp; omega) | (dsimp only; omega) | omega | fail)) | (with_reducible refine Mem.Sav.alloc ?_ ?_ _; rotate_left; focus (first | exact Nat.le_refl _ | assumption | (simp; done) | (simp; omega) | omega | fail)) | (with_reducible refine Mem.Sav.call (by with_reducible assumption) ?_ ?_; focus (first | exact Nat.le_refl _ | assumption | (simp; done) | (simp; omega) | omega | fail)) | (with_reducible refine Mem.Sav.next (by with_reducible assumption) ?_ ?_; focus (first | exact Nat.le_refl _ | assumption | (simp; done) | (simp; omega) | omega | fail)) | (with_reducible refine Mem.Sav.next1 (by with_reducible assumption) ?_ ?_; focus (first | exact Nat.le_refl _ | assumption | (simp; done) | (simp; omega) | omega | fail)) | fail))

/-- All calls that take a tree, by induction. -/
theorem c_all (f : Nat) : CVal f ∧ CLst f ∧ CObj f := by
  induction f using Nat.strongRecOn with
  | ind f ih =>
    cases f with
    | zero => exact ⟨fun l A c g p d w _ _ _ _ h => absurd h (Nat.not_lt_zero _), fun l A c g p d w _ _ _ h => absurd h (Nat.not_lt_zero _), fun l A c g p d w _ _ _ h => absurd h (Nat.not_lt_zero _)⟩
    | succ f => exact ⟨cvalue_step f (ih f (Nat.lt_succ_self f)).2.1 (ih f (Nat.lt_succ_self f)).2.2, list_step f fun g hg => (ih g (Nat.lt_succ_of_le hg)).1, object_step f fun g hg => next_step g (ih g (Nat.lt_succ_of_le hg)).1⟩
end Go.Proofs.YtjebkedlfhapjaaDoor
/- Layer 7, the code's own calls: Parse. -/
namespace Go.Proofs.YtjebkedlfhapjaaDoor
open Go.ChangeShapes Go.WideShapes Go.ChangeAt Go.RowKit Mem

set_option maxRecDepth 100000 in
set_option maxHeartbeats 4000000 in
theorem parse_any (A : Option Addr) (c : Nat) (l : List UInt8) (w : World) (hL : Laid w) (hb : Bys w w.heap.size A l) (hl : l.length ≤ 100000000) (hc : l.length ≤ c) :
    Calls Tryd.prog 16 #[.slice A l.length c] w (Prs (Jp.parse l) w) := by
  have CS := cell_set
  have top := hL.top
  obtain ⟨R, hR⟩ : ∃ R, R = Jp.parse l := ⟨_, rfl⟩
  rw [← hR]
  unfold Jp.parse at hR
  by_cases h0 : 20000 < l.length
  · rw [if_pos h0] at hR
    have Z := Lib.hid hR
    have q0 : (decide ((20000 : Int) < (l.length : Int))) = true := by rw [decide_eq_true_iff]; omega
    clear hR hb
    go_enter Tryd.func16, Tryd.ntmps16
    go_wp2_with fail
    try simp only [Exit.inBlock, Exit.then]
    refine post_j2 (x0 := .int .i64 0) (x1 := .int .i64 0) (x2 := .string ⟨#[]⟩) (x3 := (.slice none 0 0)) (x4 := (.slice none 0 0)) rfl rfl rfl (by go_simp) (by go_simp) (by go_simp) (by go_simp) (by go_simp) ?_
    exact prs_bad Z.out rfl (by (repeat' (first | with_reducible assumption | with_reducible exact Below.refl _ _ | (with_reducible refine Below.alloc ?_ ?_ _; rotate_left; focus ((first | exact Nat.le_refl _ | (simp; done) | (simp; omega) | omega | fail))) | (with_reducible refine Below.setCell ?_ ?_ _; rotate_left; focus ((first | exact Nat.le_refl _ | (simp; done) | (simp; omega) | omega | fail))) | with_reducible refine Mem.bel_drewN ?_ _ | with_reducible refine Below.drew ?_ | (with_reducible refine Mem.bel_call (by with_reducible assumption) ?_ ?_; focus ((first | exact Nat.le_refl _ | (simp; done) | (simp; omega) | omega | fail))) | fail)))
  · rw [if_neg h0] at hR
    have q0 : (decide ((20000 : Int) < (l.length : Int))) = false := by rw [decide_eq_false_iff_not]; omega
    have W2 : Below w.heap.size w ((w.alloc (.cells #[.int .i64 0, .int .i64 0, .string ⟨#[]⟩, .slice none 0 0, .slice none 0 0] 25)).alloc (.cells #[.slice A l.length c, .int .i64 0] 57)) := by (repeat' (first | with_reducible assumption | with_reducible exact Below.refl _ _ | (with_reducible refine Below.alloc ?_ ?_ _; rotate_left; focus ((first | exact Nat.le_refl _ | (simp; done) | (simp; omega) | omega | fail))) | (with_reducible refine Below.setCell ?_ ?_ _; rotate_left; focus ((first | exact Nat.le_refl _ | (simp; done) | (simp; omega) | omega | fail))) | with_reducible refine Mem.bel_drewN ?_ _ | with_reducible refine Below.drew ?_ | (with_reducible refine Mem.bel_call (by with_reducible assumption) ?_ ?_; focus ((first | exact Nat.le_refl _ | (simp; done) | (simp; omega) | omega | fail))) | fail))
    have sz2 : ((w.alloc (.cells #[.int .i64 0, .int .i64 0, .string ⟨#[]⟩, .slice none 0 0, .slice none 0 0] 25)).alloc (.cells #[.slice A l.length c, .int .i64 0] 57)).heap.size = w.heap.size + 2 := by simp
    have C2 : Cx l A c (w.heap.size + 1) ((w.alloc (.cells #[.int .i64 0, .int .i64 0, .string ⟨#[]⟩, .slice none 0 0, .slice none 0 0] 25)).alloc (.cells #[.slice A l.length c, .int .i64 0] 57)) :=
      ⟨hL.below W2 top, by omega, (hb.below W2).more (by omega), hl, hc⟩
    have t2 : Cur ((w.alloc (.cells #[.int .i64 0, .int .i64 0, .string ⟨#[]⟩, .slice none 0 0, .slice none 0 0] 25)).alloc (.cells #[.slice A l.length c, .int .i64 0] 57)) (w.heap.size + 1) A l.length c 0 := B2.newat (by simp)
    have nx := next_step (2 * l.length + 3) (c_all _).1 l A c (w.heap.size + 1) 0 0 _ C2 t2 (Nat.zero_le _) (by omega) (by omega)
    have pos := (Jp.pos (2 * l.length + 3)).1 l 0 0 (Nat.zero_le _)
    obtain ⟨⟨j0, q0', er⟩, hr⟩ : ∃ r, r = Jp.pval (2 * l.length + 3) l 0 0 := ⟨_, rfl⟩
    rw [← hr] at nx hR pos
    simp only at hR pos
    rw [show ((0 : Nat) : Int) = 0 from rfl] at nx
    have NX := Lib.hid nx
    have CX := Lib.hid C2
    have SZ2 := Lib.hid sz2
    have HR := Lib.hid hR
    have POS := Lib.hid pos
    clear nx C2 hr sz2 t2 h0 hb hR pos
    go_enter Tryd.func16, Tryd.ntmps16
    go_wp2_with fail
    with_reducible refine NX.out.mono ?_
    rintro e w3 ⟨j, A3, c3, A4, c4, q, rfl, tr, hj, hq, t3, s3⟩
    simp only at hj
    have z3 := s3.size
    rw [SZ2.out] at z3
    have b3 := s3.bel (B' := w.heap.size) (by omega) (by omega) (by rw [SZ2.out]; omega)
    have bw3 : Below w.heap.size w w3 := W2.trans b3
    have hOwn := Nat.lt_of_lt_of_le (n := w.heap.size) (by first | exact Nat.le_refl _ | assumption | (simp; done) | (simp; omega) | omega) (Mem.Sav.size s3)
    have hOwn1 := Nat.ne_of_gt hOwn
    have hOwn2 := Nat.ne_of_lt hOwn
    have hOwn := (Mem.Sav.cell s3 (p := ⟨w.heap.size, 0, none⟩) (by first | exact Nat.le_refl _ | assumption | (simp; done) | (simp; omega) | omega) (by first | assumption | (simp; done) | (simp; omega) | omega) (by first | assumption | (simp; done) | (simp; omega) | omega)).trans (by go_simp; rfl)
    have hOwn := (Mem.Sav.cell s3 (p := ⟨w.heap.size, 1, none⟩) (by first | exact Nat.le_refl _ | assumption | (simp; done) | (simp; omega) | omega) (by first | assumption | (simp; done) | (simp; omega) | omega) (by first | assumption | (simp; done) | (simp; omega) | omega)).trans (by go_simp; rfl)
    have hOwn := (Mem.Sav.cell s3 (p := ⟨w.heap.size, 2, none⟩) (by first | exact Nat.le_refl _ | assumption | (simp; done) | (simp; omega) | omega) (by first | assumption | (simp; done) | (simp; omega) | omega) (by first | assumption | (simp; done) | (simp; omega) | omega)).trans (by go_simp; rfl)
    have hOwn := (Mem.Sav.cell s3 (p := ⟨w.heap.size, 3, none⟩) (by first | exact Nat.le_refl _ | assumption | (simp; done) | (simp; omega) | omega) (by first | assumption | (simp; done) | (simp; omega) | omega) (by first | assumption | (simp; done) | (simp; omega) | omega)).trans (by go_simp; rfl)
    have hOwn := (Mem.Sav.cell s3 (p := ⟨w.heap.size, 4, none⟩) (by first | exact Nat.le_refl _ | assumption | (simp; done) | (simp; omega) | omega) (by first | assumption | (simp; done) | (simp; omega) | omega) (by first | assumption | (simp; done) | (simp; omega) | omega)).trans (by go_simp; rfl)
    have hOwn := (Mem.Sav.frozen s3 (p := ⟨w.heap.size, 0, none⟩) (by first | exact Nat.le_refl _ | assumption | (simp; done) | (simp; omega) | omega) (by first | assumption | (simp; done) | (simp; omega) | omega) (by first | assumption | (simp; done) | (simp; omega) | omega)).trans (by go_simp; rfl)
    have hOwn := (Mem.Sav.frozen s3 (p := ⟨w.heap.size, 1, none⟩) (by first | exact Nat.le_refl _ | assumption | (simp; done) | (simp; omega) | omega) (by first | assumption | (simp; done) | (simp; omega) | omega) (by first | assumption | (simp; done) | (simp; omega) | omega)).trans (by go_simp; rfl)
    have hOwn := (Mem.Sav.frozen s3 (p := ⟨w.heap.size, 2, none⟩) (by first | exact Nat.le_refl _ | assumption | (simp; done) | (simp; omega) | omega) (by first | assumption | (simp; done) | (simp; omega) | omega) (by first | assumption | (simp; done) | (simp; omega) | omega)).trans (by go_simp; rfl)
    have hOwn := (Mem.Sav.frozen s3 (p := ⟨w.heap.size, 3, none⟩) (by first | exact Nat.le_refl _ | assumption | (simp; done) | (simp; omega) | omega) (by first | assumption | (simp; done) | (simp; omega) | omega) (by first | assumption | (simp; done) | (simp; omega) | omega)).trans (by go_simp; rfl)
    have hOwn := (Mem.Sav.frozen s3 (p := ⟨w.heap.size, 4, none⟩) (by first | exact Nat.le_refl _ | assumption | (simp; done) | (simp; omega) | omega) (by first | assumption | (simp; done) | (simp; omega) | omega) (by first | assumption | (simp; done) | (simp; omega) | omega)).trans (by go_simp; rfl)
    have hR := HR.out
    have pos := POS.out
    clear HR POS
    by_cases he : er = 0
    · subst he
      obtain ⟨rfl, rfl⟩ := hj rfl
      rw [if_neg (by simp)] at hR
      have qle := (pos rfl).2
      have C4 := (CX.out.sav s3 (by rw [SZ2.out]; omega) (Nat.le_refl _)).sav (show Sav (w.heap.size + 1) (w.heap.size + 1) w3.heap.size w3 (w3.alloc (.cells #[.int .i64 j.k, .int .i64 j.n, .string j.t, .slice A3 j.its.length c3, .slice A4 j.ks.length c4] 25)) by (repeat' (first | with_reducible assumption | with_reducible exact Mem.Sav.refl _ _ _ _ | with_reducible refine Mem.Sav.drewN ?_ _ | with_reducible refine Mem.Sav.drew ?_ | (with_reducible refine Mem.Sav.set ?_ ?_ _; rotate_left; focus (first | (simp; done) | (simp; omega) | (dsimp only; omega) | omega | fail)) | (with_reducible refine Mem.Sav.alloc ?_ ?_ _; rotate_left; focus (first | exact Nat.le_refl _ | assumption | (simp; done) | (simp; omega) | omega | fail)) | (with_reducible refine Mem.Sav.call (by with_reducible assumption) ?_ ?_; focus (first | exact Nat.le_refl _ | assumption | (simp; done) | (simp; omega) | omega | fail)) | (with_reducible refine Mem.Sav.next (by with_reducible assumption) ?_ ?_; focus (first | exact Nat.le_refl _ | assumption | (simp; done) | (simp; omega) | omega | fail)) | (with_reducible refine Mem.Sav.next1 (by with_reducible assumption) ?_ ?_; focus (first | exact Nat.le_refl _ | assumption | (simp; done) | (simp; omega) | omega | fail)) | fail))) (by omega) (Nat.le_refl _)
      have t4 := t3.alloc (.cells #[.int .i64 j.k, .int .i64 j.n, .string j.t, .slice A3 j.its.length c3, .slice A4 j.ks.length c4] 25)
      have ju := just_any l A c (w.heap.size + 1) q 11 _ C4 t4 qle
      unfold Jst at ju
      rw [show ((11 : Nat) : Int) = 11 from rfl] at ju
      have hRj : R = if jus (Jx.tak l q) 11 = 0 then (j, 0) else (J.zero, jus (Jx.tak l q) 11) := by
        rw [hR]
        unfold jus
        by_cases g1 : (Jx.tak l q).2 = 0
        · by_cases g2 : (Jx.tak l q).1.k = 11
          · simp [g1, g2]
          · simp [g1, g2]
        · simp [g1]
      obtain ⟨ju', hju⟩ : ∃ z, z = jus (Jx.tak l q) 11 := ⟨_, rfl⟩
      rw [← hju] at ju hRj
      have JU := Lib.hid ju
      have SP : Hid (∀ b, Btw ((w.alloc (.cells #[.int .i64 0, .int .i64 0, .string ⟨#[]⟩, .slice none 0 0, .slice none 0 0] 25)).alloc (.cells #[.slice A l.length c, .int .i64 0] 57)).heap.size w3.heap.size b → b < w3.heap.size ∧ w.heap.size + 2 ≤ b) := fun b hb => ⟨hb.2, by have := hb.1; rw [SZ2.out] at this; exact this⟩
      have lt3 : w.heap.size < w3.heap.size := by omega
      clear ju hR hju hj C4 NX pos
      by_cases hz : ju' = 0
      · subst hz
        rw [if_pos rfl] at hRj
        have Z := Lib.hid hRj
        clear hRj
        go_wp2_with fail
        with_reducible refine JU.out.mono ?_
        rintro e w5 ⟨rfl, t5, s5⟩
        have z5 := s5.size
        simp at z5
        have hOwn := Nat.lt_of_lt_of_le (n := w3.heap.size) (by first | exact Nat.le_refl _ | assumption | (simp; done) | (simp; omega) | omega) (Mem.Sav.size s5)
        have hOwn1 := Nat.ne_of_gt hOwn
        have hOwn2 := Nat.ne_of_lt hOwn
        have hOwn := (Mem.Sav.cell s5 (p := ⟨w3.heap.size, 0, none⟩) (by first | exact Nat.le_refl _ | assumption | (simp; done) | (simp; omega) | omega) (by first | assumption | (simp; done) | (simp; omega) | omega) (by first | assumption | (simp; done) | (simp; omega) | omega)).trans (by go_simp; rfl)
        have hOwn := (Mem.Sav.cell s5 (p := ⟨w3.heap.size, 1, none⟩) (by first | exact Nat.le_refl _ | assumption | (simp; done) | (simp; omega) | omega) (by first | assumption | (simp; done) | (simp; omega) | omega) (by first | assumption | (simp; done) | (simp; omega) | omega)).trans (by go_simp; rfl)
        have hOwn := (Mem.Sav.cell s5 (p := ⟨w3.heap.size, 2, none⟩) (by first | exact Nat.le_refl _ | assumption | (simp; done) | (simp; omega) | omega) (by first | assumption | (simp; done) | (simp; omega) | omega) (by first | assumption | (simp; done) | (simp; omega) | omega)).trans (by go_simp; rfl)
        have hOwn := (Mem.Sav.cell s5 (p := ⟨w3.heap.size, 3, none⟩) (by first | exact Nat.le_refl _ | assumption | (simp; done) | (simp; omega) | omega) (by first | assumption | (simp; done) | (simp; omega) | omega) (by first | assumption | (simp; done) | (simp; omega) | omega)).trans (by go_simp; rfl)
        have hOwn := (Mem.Sav.cell s5 (p := ⟨w3.heap.size, 4, none⟩) (by first | exact Nat.le_refl _ | assumption | (simp; done) | (simp; omega) | omega) (by first | assumption | (simp; done) | (simp; omega) | omega) (by first | assumption | (simp; done) | (simp; omega) | omega)).trans (by go_simp; rfl)
        have hOwn := (Mem.Sav.frozen s5 (p := ⟨w3.heap.size, 0, none⟩) (by first | exact Nat.le_refl _ | assumption | (simp; done) | (simp; omega) | omega) (by first | assumption | (simp; done) | (simp; omega) | omega) (by first | assumption | (simp; done) | (simp; omega) | omega)).trans (by go_simp; rfl)
        have hOwn := (Mem.Sav.frozen s5 (p := ⟨w3.heap.size, 1, none⟩) (by first | exact Nat.le_refl _ | assumption | (simp; done) | (simp; omega) | omega) (by first | assumption | (simp; done) | (simp; omega) | omega) (by first | assumption | (simp; done) | (simp; omega) | omega)).trans (by go_simp; rfl)
        have hOwn := (Mem.Sav.frozen s5 (p := ⟨w3.heap.size, 2, none⟩) (by first | exact Nat.le_refl _ | assumption | (simp; done) | (simp; omega) | omega) (by first | assumption | (simp; done) | (simp; omega) | omega) (by first | assumption | (simp; done) | (simp; omega) | omega)).trans (by go_simp; rfl)
        have hOwn := (Mem.Sav.frozen s5 (p := ⟨w3.heap.size, 3, none⟩) (by first | exact Nat.le_refl _ | assumption | (simp; done) | (simp; omega) | omega) (by first | assumption | (simp; done) | (simp; omega) | omega) (by first | assumption | (simp; done) | (simp; omega) | omega)).trans (by go_simp; rfl)
        have hOwn := (Mem.Sav.frozen s5 (p := ⟨w3.heap.size, 4, none⟩) (by first | exact Nat.le_refl _ | assumption | (simp; done) | (simp; omega) | omega) (by first | assumption | (simp; done) | (simp; omega) | omega) (by first | assumption | (simp; done) | (simp; omega) | omega)).trans (by go_simp; rfl)
        have hOwn := Nat.lt_of_lt_of_le (n := w.heap.size) (by first | exact Nat.le_refl _ | assumption | (simp; done) | (simp; omega) | omega) (Mem.Sav.size s5)
        have hOwn1 := Nat.ne_of_gt hOwn
        have hOwn2 := Nat.ne_of_lt hOwn
        have hOwn := (Mem.Sav.cell s5 (p := ⟨w.heap.size, 0, none⟩) (by first | exact Nat.le_refl _ | assumption | (simp; done) | (simp; omega) | omega) (by first | assumption | (simp; done) | (simp; omega) | omega) (by first | assumption | (simp; done) | (simp; omega) | omega)).trans (by go_simp; rfl)
        have hOwn := (Mem.Sav.cell s5 (p := ⟨w.heap.size, 1, none⟩) (by first | exact Nat.le_refl _ | assumption | (simp; done) | (simp; omega) | omega) (by first | assumption | (simp; done) | (simp; omega) | omega) (by first | assumption | (simp; done) | (simp; omega) | omega)).trans (by go_simp; rfl)
        have hOwn := (Mem.Sav.cell s5 (p := ⟨w.heap.size, 2, none⟩) (by first | exact Nat.le_refl _ | assumption | (simp; done) | (simp; omega) | omega) (by first | assumption | (simp; done) | (simp; omega) | omega) (by first | assumption | (simp; done) | (simp; omega) | omega)).trans (by go_simp; rfl)
        have hOwn := (Mem.Sav.cell s5 (p := ⟨w.heap.size, 3, none⟩) (by first | exact Nat.le_refl _ | assumption | (simp; done) | (simp; omega) | omega) (by first | assumption | (simp; done) | (simp; omega) | omega) (by first | assumption | (simp; done) | (simp; omega) | omega)).trans (by go_simp; rfl)
        have hOwn := (Mem.Sav.cell s5 (p := ⟨w.heap.size, 4, none⟩) (by first | exact Nat.le_refl _ | assumption | (simp; done) | (simp; omega) | omega) (by first | assumption | (simp; done) | (simp; omega) | omega) (by first | assumption | (simp; done) | (simp; omega) | omega)).trans (by go_simp; rfl)
        have hOwn := (Mem.Sav.frozen s5 (p := ⟨w.heap.size, 0, none⟩) (by first | exact Nat.le_refl _ | assumption | (simp; done) | (simp; omega) | omega) (by first | assumption | (simp; done) | (simp; omega) | omega) (by first | assumption | (simp; done) | (simp; omega) | omega)).trans (by go_simp; rfl)
        have hOwn := (Mem.Sav.frozen s5 (p := ⟨w.heap.size, 1, none⟩) (by first | exact Nat.le_refl _ | assumption | (simp; done) | (simp; omega) | omega) (by first | assumption | (simp; done) | (simp; omega) | omega) (by first | assumption | (simp; done) | (simp; omega) | omega)).trans (by go_simp; rfl)
        have hOwn := (Mem.Sav.frozen s5 (p := ⟨w.heap.size, 2, none⟩) (by first | exact Nat.le_refl _ | assumption | (simp; done) | (simp; omega) | omega) (by first | assumption | (simp; done) | (simp; omega) | omega) (by first | assumption | (simp; done) | (simp; omega) | omega)).trans (by go_simp; rfl)
        have hOwn := (Mem.Sav.frozen s5 (p := ⟨w.heap.size, 3, none⟩) (by first | exact Nat.le_refl _ | assumption | (simp; done) | (simp; omega) | omega) (by first | assumption | (simp; done) | (simp; omega) | omega) (by first | assumption | (simp; done) | (simp; omega) | omega)).trans (by go_simp; rfl)
        have hOwn := (Mem.Sav.frozen s5 (p := ⟨w.heap.size, 4, none⟩) (by first | exact Nat.le_refl _ | assumption | (simp; done) | (simp; omega) | omega) (by first | assumption | (simp; done) | (simp; omega) | omega) (by first | assumption | (simp; done) | (simp; omega) | omega)).trans (by go_simp; rfl)
        have b5 := s5.bel (B' := w.heap.size) (by omega) (by omega) (by simp; omega)
        have bw5 : Below w.heap.size w w5 := (bw3.alloc (by omega) _).trans b5
        go_wp2_with fail
        try simp only [Exit.inBlock, Exit.then]
        refine post_j2 (x0 := .int .i64 j.k) (x1 := .int .i64 j.n) (x2 := .string j.t) (x3 := (.slice A3 j.its.length c3)) (x4 := (.slice A4 j.ks.length c4)) rfl rfl rfl (by go_simp) (by go_simp) (by go_simp) (by go_simp) (by go_simp) ?_
        refine prs_ok Z.out tr (by rw [SZ2.out]; omega) ?_ ?_ (by (repeat' (first | with_reducible assumption | with_reducible exact Below.refl _ _ | (with_reducible refine Below.alloc ?_ ?_ _; rotate_left; focus ((first | exact Nat.le_refl _ | (simp; done) | (simp; omega) | omega | fail))) | (with_reducible refine Below.setCell ?_ ?_ _; rotate_left; focus ((first | exact Nat.le_refl _ | (simp; done) | (simp; omega) | omega | fail))) | with_reducible refine Mem.bel_drewN ?_ _ | with_reducible refine Below.drew ?_ | (with_reducible refine Mem.bel_call (by with_reducible assumption) ?_ ?_; focus ((first | exact Nat.le_refl _ | (simp; done) | (simp; omega) | omega | fail))) | fail)))
        · have HG : ∀ b, Btw ((w.alloc (.cells #[.int .i64 0, .int .i64 0, .string ⟨#[]⟩, .slice none 0 0, .slice none 0 0] 25)).alloc (.cells #[.slice A l.length c, .int .i64 0] 57)).heap.size w3.heap.size b → b ≠ w.heap.size := fun b hb => by have := (SP.out b hb).2; omega
          repeat (with_reducible refine KeepS.set ?_ HG _ _)
          exact KeepS.trans (fun p hp => World.cell?_alloc_lt _ _ p hp.2) (s5.keeps (fun b hb => by have := SP.out b hb; simp; omega))
        · simp; omega
      · rw [if_neg hz] at hRj
        have Z := Lib.hid hRj
        have qe : ((ju' : Int) != 0) = true := by rw [bne_iff_ne]; omega
        clear hRj hz
        go_wp2_with fail
        with_reducible refine JU.out.mono ?_
        rintro e w5 ⟨rfl, t5, s5⟩
        have z5 := s5.size
        simp at z5
        have hOwn := Nat.lt_of_lt_of_le (n := w3.heap.size) (by first | exact Nat.le_refl _ | assumption | (simp; done) | (simp; omega) | omega) (Mem.Sav.size s5)
        have hOwn1 := Nat.ne_of_gt hOwn
        have hOwn2 := Nat.ne_of_lt hOwn
        have hOwn := (Mem.Sav.cell s5 (p := ⟨w3.heap.size, 0, none⟩) (by first | exact Nat.le_refl _ | assumption | (simp; done) | (simp; omega) | omega) (by first | assumption | (simp; done) | (simp; omega) | omega) (by first | assumption | (simp; done) | (simp; omega) | omega)).trans (by go_simp; rfl)
        have hOwn := (Mem.Sav.cell s5 (p := ⟨w3.heap.size, 1, none⟩) (by first | exact Nat.le_refl _ | assumption | (simp; done) | (simp; omega) | omega) (by first | assumption | (simp; done) | (simp; omega) | omega) (by first | assumption | (simp; done) | (simp; omega) | omega)).trans (by go_simp; rfl)
        have hOwn := (Mem.Sav.cell s5 (p := ⟨w3.heap.size, 2, none⟩) (by first | exact Nat.le_refl _ | assumption | (simp; done) | (simp; omega) | omega) (by first | assumption | (simp; done) | (simp; omega) | omega) (by first | assumption | (simp; done) | (simp; omega) | omega)).trans (by go_simp; rfl)
        have hOwn := (Mem.Sav.cell s5 (p := ⟨w3.heap.size, 3, none⟩) (by first | exact Nat.le_refl _ | assumption | (simp; done) | (simp; omega) | omega) (by first | assumption | (simp; done) | (simp; omega) | omega) (by first | assumption | (simp; done) | (simp; omega) | omega)).trans (by go_simp; rfl)
        have hOwn := (Mem.Sav.cell s5 (p := ⟨w3.heap.size, 4, none⟩) (by first | exact Nat.le_refl _ | assumption | (simp; done) | (simp; omega) | omega) (by first | assumption | (simp; done) | (simp; omega) | omega) (by first | assumption | (simp; done) | (simp; omega) | omega)).trans (by go_simp; rfl)
        have hOwn := (Mem.Sav.frozen s5 (p := ⟨w3.heap.size, 0, none⟩) (by first | exact Nat.le_refl _ | assumption | (simp; done) | (simp; omega) | omega) (by first | assumption | (simp; done) | (simp; omega) | omega) (by first | assumption | (simp; done) | (simp; omega) | omega)).trans (by go_simp; rfl)
        have hOwn := (Mem.Sav.frozen s5 (p := ⟨w3.heap.size, 1, none⟩) (by first | exact Nat.le_refl _ | assumption | (simp; done) | (simp; omega) | omega) (by first | assumption | (simp; done) | (simp; omega) | omega) (by first | assumption | (simp; done) | (simp; omega) | omega)).trans (by go_simp; rfl)
        have hOwn := (Mem.Sav.frozen s5 (p := ⟨w3.heap.size, 2, none⟩) (by first | exact Nat.le_refl _ | assumption | (simp; done) | (simp; omega) | omega) (by first | assumption | (simp; done) | (simp; omega) | omega) (by first | assumption | (simp; done) | (simp; omega) | omega)).trans (by go_simp; rfl)
        have hOwn := (Mem.Sav.frozen s5 (p := ⟨w3.heap.size, 3, none⟩) (by first | exact Nat.le_refl _ | assumption | (simp; done) | (simp; omega) | omega) (by first | assumption | (simp; done) | (simp; omega) | omega) (by first | assumption | (simp; done) | (simp; omega) | omega)).trans (by go_simp; rfl)
        have hOwn := (Mem.Sav.frozen s5 (p := ⟨w3.heap.size, 4, none⟩) (by first | exact Nat.le_refl _ | assumption | (simp; done) | (simp; omega) | omega) (by first | assumption | (simp; done) | (simp; omega) | omega) (by first | assumption | (simp; done) | (simp; omega) | omega)).trans (by go_simp; rfl)
        have hOwn := Nat.lt_of_lt_of_le (n := w.heap.size) (by first | exact Nat.le_refl _ | assumption | (simp; done) | (simp; omega) | omega) (Mem.Sav.size s5)
        have hOwn1 := Nat.ne_of_gt hOwn
        have hOwn2 := Nat.ne_of_lt hOwn
        have hOwn := (Mem.Sav.cell s5 (p := ⟨w.heap.size, 0, none⟩) (by first | exact Nat.le_refl _ | assumption | (simp; done) | (simp; omega) | omega) (by first | assumption | (simp; done) | (simp; omega) | omega) (by first | assumption | (simp; done) | (simp; omega) | omega)).trans (by go_simp; rfl)
        have hOwn := (Mem.Sav.cell s5 (p := ⟨w.heap.size, 1, none⟩) (by first | exact Nat.le_refl _ | assumption | (simp; done) | (simp; omega) | omega) (by first | assumption | (simp; done) | (simp; omega) | omega) (by first | assumption | (simp; done) | (simp; omega) | omega)).trans (by go_simp; rfl)
        have hOwn := (Mem.Sav.cell s5 (p := ⟨w.heap.size, 2, none⟩) (by first | exact Nat.le_refl _ | assumption | (simp; done) | (simp; omega) | omega) (by first | assumption | (simp; done) | (simp; omega) | omega) (by first | assumption | (simp; done) | (simp; omega) | omega)).trans (by go_simp; rfl)
        have hOwn := (Mem.Sav.cell s5 (p := ⟨w.heap.size, 3, none⟩) (by first | exact Nat.le_refl _ | assumption | (simp; done) | (simp; omega) | omega) (by first | assumption | (simp; done) | (simp; omega) | omega) (by first | assumption | (simp; done) | (simp; omega) | omega)).trans (by go_simp; rfl)
        have hOwn := (Mem.Sav.cell s5 (p := ⟨w.heap.size, 4, none⟩) (by first | exact Nat.le_refl _ | assumption | (simp; done) | (simp; omega) | omega) (by first | assumption | (simp; done) | (simp; omega) | omega) (by first | assumption | (simp; done) | (simp; omega) | omega)).trans (by go_simp; rfl)
        have hOwn := (Mem.Sav.frozen s5 (p := ⟨w.heap.size, 0, none⟩) (by first | exact Nat.le_refl _ | assumption | (simp; done) | (simp; omega) | omega) (by first | assumption | (simp; done) | (simp; omega) | omega) (by first | assumption | (simp; done) | (simp; omega) | omega)).trans (by go_simp; rfl)
        have hOwn := (Mem.Sav.frozen s5 (p := ⟨w.heap.size, 1, none⟩) (by first | exact Nat.le_refl _ | assumption | (simp; done) | (simp; omega) | omega) (by first | assumption | (simp; done) | (simp; omega) | omega) (by first | assumption | (simp; done) | (simp; omega) | omega)).trans (by go_simp; rfl)
        have hOwn := (Mem.Sav.frozen s5 (p := ⟨w.heap.size, 2, none⟩) (by first | exact Nat.le_refl _ | assumption | (simp; done) | (simp; omega) | omega) (by first | assumption | (simp; done) | (simp; omega) | omega) (by first | assumption | (simp; done) | (simp; omega) | omega)).trans (by go_simp; rfl)
        have hOwn := (Mem.Sav.frozen s5 (p := ⟨w.heap.size, 3, none⟩) (by first | exact Nat.le_refl _ | assumption | (simp; done) | (simp; omega) | omega) (by first | assumption | (simp; done) | (simp; omega) | omega) (by first | assumption | (simp; done) | (simp; omega) | omega)).trans (by go_simp; rfl)
        have hOwn := (Mem.Sav.frozen s5 (p := ⟨w.heap.size, 4, none⟩) (by first | exact Nat.le_refl _ | assumption | (simp; done) | (simp; omega) | omega) (by first | assumption | (simp; done) | (simp; omega) | omega) (by first | assumption | (simp; done) | (simp; omega) | omega)).trans (by go_simp; rfl)
        have b5 := s5.bel (B' := w.heap.size) (by omega) (by omega) (by simp; omega)
        have bw5 : Below w.heap.size w w5 := (bw3.alloc (by omega) _).trans b5
        go_wp2_with fail
        try simp only [Exit.inBlock, Exit.then]
        refine post_j2 (x0 := .int .i64 0) (x1 := .int .i64 0) (x2 := .string ⟨#[]⟩) (x3 := (.slice none 0 0)) (x4 := (.slice none 0 0)) rfl rfl rfl (by go_simp) (by go_simp) (by go_simp) (by go_simp) (by go_simp) ?_
        exact prs_bad Z.out rfl (by (repeat' (first | with_reducible assumption | with_reducible exact Below.refl _ _ | (with_reducible refine Below.alloc ?_ ?_ _; rotate_left; focus ((first | exact Nat.le_refl _ | (simp; done) | (simp; omega) | omega | fail))) | (with_reducible refine Below.setCell ?_ ?_ _; rotate_left; focus ((first | exact Nat.le_refl _ | (simp; done) | (simp; omega) | omega | fail))) | with_reducible refine Mem.bel_drewN ?_ _ | with_reducible refine Below.drew ?_ | (with_reducible refine Mem.bel_call (by with_reducible assumption) ?_ ?_; focus ((first | exact Nat.le_refl _ | (simp; done) | (simp; omega) | omega | fail))) | fail)))
    · rw [if_pos he] at hR
      have Z := Lib.hid hR
      have qe : ((er : Int) == 0) = false := by rw [beq_eq_false_iff_ne]; omega
      have qe2 : ((er : Int) != 0) = true := by rw [bne_iff_ne]; omega
      have lt3 : w.heap.size < w3.heap.size := by omega
      clear hR he hj NX pos
      go_wp2_with fail
      try simp only [Exit.inBlock, Exit.then]
      refine post_j2 (x0 := .int .i64 0) (x1 := .int .i64 0) (x2 := .string ⟨#[]⟩) (x3 := (.slice none 0 0)) (x4 := (.slice none 0 0)) rfl rfl rfl (by go_simp) (by go_simp) (by go_simp) (by go_simp) (by go_simp) ?_
      exact prs_bad Z.out rfl (by (repeat' (first | with_reducible assumption | with_reducible exact Below.refl _ _ | (with_reducible refine Below.alloc ?_ ?_ _; rotate_left; focus ((first | exact Nat.le_refl _ | (simp; done) | (simp; omega) | omega | fail))) | (with_reducible refine Below.setCell ?_ ?_ _; rotate_left; focus ((first | exact Nat.le_refl _ | (simp; done) | (simp; omega) | omega | fail))) | with_reducible refine Mem.bel_drewN ?_ _ | with_reducible refine Below.drew ?_ | (with_reducible refine Mem.bel_call (by with_reducible assumption) ?_ ?_; focus ((first | exact Nat.le_refl _ | (simp; done) | (simp; omega) | omega | fail))) | fail)))
end Go.Proofs.YtjebkedlfhapjaaDoor
