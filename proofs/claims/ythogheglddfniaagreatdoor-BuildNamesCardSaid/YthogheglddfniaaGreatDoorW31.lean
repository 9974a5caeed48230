/- Joined by tools/bundle.py: JCLst J7Law BWk. -/
import Derived.Lib.SlBytesConst
import Derived.KernelRfl
import Derived.Test.YthogheglddfniaaGreatDoorW3
import Derived.Test.YthogheglddfniaaGreatDoorW8
import Derived.Test.YthogheglddfniaaGreatDoorW21
import Derived.Test.YthogheglddfniaaGreatDoorW25
import Derived.Test.YthogheglddfniaaGreatDoorW27
import Derived.Test.YthogheglddfniaaGreatDoorW29
import Derived.Test.YthogheglddfniaaGreatDoorW30
import Derived.Test.YthogheglddfniaaGreatDoorW0
set_option maxRecDepth 100000
set_option maxHeartbeats 16000000
namespace Go.Proofs.YthogheglddfniaaGreatDoor
open Go.ChangeShapes Go.WideShapes Go.ChangeAt Go.RowKit Mem
theorem list_step (f : Nat) (hV : ∀ g, g ≤ f → CVal g) : CLst (f + 1) := by
 intro l A c g p d w C hcur hp hf hd
 have CS := cell_set
 have hg := hcur.lt
 have W4 : Sav g g w.heap.size w ((((w.alloc (.cells #[wv g] 74)).alloc (.cells #[.int .i64 (d : Int)] 3)).alloc (.cells #[.int .i64 0, .int .i64 0, .string ⟨#[]⟩, .slice none 0 0, .slice none 0 0] 25)).alloc (.cells #[.int .i64 5, .int .i64 0, .string ⟨#[]⟩, .slice none 0 0, .slice none 0 0] 25)) := by (repeat' (first | with_reducible assumption | with_reducible exact Mem.Sav.refl _ _ _ _ | with_reducible refine Mem.Sav.drewN ?_ _ | with_reducible refine Mem.Sav.drew ?_ | (with_reducible refine Mem.Sav.set ?_ ?_ _; rotate_left; focus (first | (simp; done) | (simp; omega) | (dsimp only; omega) | omega | fail)) | (with_reducible refine Mem.Sav.alloc ?_ ?_ _; rotate_left; focus (first | exact Nat.le_refl _ | assumption | (simp; done) | (simp; omega) | omega | fail)) | (with_reducible refine Mem.Sav.call (by with_reducible assumption) ?_ ?_; focus (first | exact Nat.le_refl _ | assumption | (simp; done) | (simp; omega) | omega | fail)) | (with_reducible refine Mem.Sav.next (by with_reducible assumption) ?_ ?_; focus (first | exact Nat.le_refl _ | assumption | (simp; done) | (simp; omega) | omega | fail)) | (with_reducible refine Mem.Sav.next1 (by with_reducible assumption) ?_ ?_; focus (first | exact Nat.le_refl _ | assumption | (simp; done) | (simp; omega) | omega | fail)) | fail))
 have C4 := C.sav W4 (Nat.le_of_lt hg) (Nat.le_refl _)
 have t4 : Cur ((((w.alloc (.cells #[wv g] 74)).alloc (.cells #[.int .i64 (d : Int)] 3)).alloc (.cells #[.int .i64 0, .int .i64 0, .string ⟨#[]⟩, .slice none 0 0, .slice none 0 0] 25)).alloc (.cells #[.int .i64 5, .int .i64 0, .string ⟨#[]⟩, .slice none 0 0, .slice none 0 0] 25)) g A l.length c p := (((hcur.alloc _).alloc _).alloc _).alloc _
 have bk4 : B5 ((((w.alloc (.cells #[wv g] 74)).alloc (.cells #[.int .i64 (d : Int)] 3)).alloc (.cells #[.int .i64 0, .int .i64 0, .string ⟨#[]⟩, .slice none 0 0, .slice none 0 0] 25)).alloc (.cells #[.int .i64 5, .int .i64 0, .string ⟨#[]⟩, .slice none 0 0, .slice none 0 0] 25)) (w.heap.size + 3) 25 (.int .i64 5) (.int .i64 0) (.string ⟨#[]⟩) (.slice none 0 0) (.slice none 0 0) := B5.newat (by simp)
 have cap4 : Cap g (w.heap.size + 3) ((((w.alloc (.cells #[wv g] 74)).alloc (.cells #[.int .i64 (d : Int)] 3)).alloc (.cells #[.int .i64 0, .int .i64 0, .string ⟨#[]⟩, .slice none 0 0, .slice none 0 0] 25)).alloc (.cells #[.int .i64 5, .int .i64 0, .string ⟨#[]⟩, .slice none 0 0, .slice none 0 0] 25)).heap.size w.heap.size (w.heap.size + 1) d ((((w.alloc (.cells #[wv g] 74)).alloc (.cells #[.int .i64 (d : Int)] 3)).alloc (.cells #[.int .i64 0, .int .i64 0, .string ⟨#[]⟩, .slice none 0 0, .slice none 0 0] 25)).alloc (.cells #[.int .i64 5, .int .i64 0, .string ⟨#[]⟩, .slice none 0 0, .slice none 0 0] 25)) := ⟨by go_simp, by go_simp, by simp; omega, by simp, by omega, by omega, by omega, by omega⟩
 have sz4 : ((((w.alloc (.cells #[wv g] 74)).alloc (.cells #[.int .i64 (d : Int)] 3)).alloc (.cells #[.int .i64 0, .int .i64 0, .string ⟨#[]⟩, .slice none 0 0, .slice none 0 0] 25)).alloc (.cells #[.int .i64 5, .int .i64 0, .string ⟨#[]⟩, .slice none 0 0, .slice none 0 0] 25)).heap.size = w.heap.size + 4 := by simp
 have pc := parts_4 f hV l A c g p d _ (w.heap.size + 3) w.heap.size (w.heap.size + 1) C4 t4 hp hf hd bk4 cap4 (by omega)
 obtain ⟨R, hR⟩ : ∃ R, R = (if (Jx.tak l p).2 = 0 ∧ (Jx.tak l p).1.k = 4 then ((.mk (Jp.kindOf 4) 0 Jp.nil_ [] [], (Jx.tak l p).1.x, 0) : Jp.R) else Jp.pits (f + 1) l p d 4 [] []) := ⟨_, rfl⟩
 rw [← hR] at pc ⊢
 have gn : w.heap.size + 2 ≠ g := by omega
 have gn2 : w.heap.size + 2 ≠ w.heap.size + 3 := by omega
 have PC := Lib.hid pc
 have SZ4 := Lib.hid sz4
 clear pc hR hV C C4 bk4 cap4 t4 sz4
 go_enter Tryz.func123, Tryz.ntmps123
 go_wp2_with fail
 with_reducible refine PC.out.mono ?_
 rintro e w5 ⟨N, ks, js, css, v3, v4, q, rfl, st, hN, hr, hq, hj, hk, t5, s5⟩
 have z5 := s5.size
 rw [SZ4.out] at hN z5
 have hOwn := Nat.lt_of_lt_of_le (n := (w.heap.size + 2)) sdd (Mem.Sav.size s5)
 have hOwn1 := Nat.ne_of_gt hOwn
 have hOwn2 := Nat.ne_of_lt hOwn
 have hOwn := (Mem.Sav.cell s5 (p := ⟨(w.heap.size + 2), 0, none⟩) sdd (by first | assumption | (simp; done) | (simp; omega) | omega) (by first | assumption | (simp; done) | (simp; omega) | omega)).trans (by go_simp; rfl)
 have hOwn := (Mem.Sav.cell s5 (p := ⟨(w.heap.size + 2), 1, none⟩) sdd (by first | assumption | (simp; done) | (simp; omega) | omega) (by first | assumption | (simp; done) | (simp; omega) | omega)).trans (by go_simp; rfl)
 have hOwn := (Mem.Sav.cell s5 (p := ⟨(w.heap.size + 2), 2, none⟩) sdd (by first | assumption | (simp; done) | (simp; omega) | omega) (by first | assumption | (simp; done) | (simp; omega) | omega)).trans (by go_simp; rfl)
 have hOwn := (Mem.Sav.cell s5 (p := ⟨(w.heap.size + 2), 3, none⟩) sdd (by first | assumption | (simp; done) | (simp; omega) | omega) (by first | assumption | (simp; done) | (simp; omega) | omega)).trans (by go_simp; rfl)
 have hOwn := (Mem.Sav.cell s5 (p := ⟨(w.heap.size + 2), 4, none⟩) sdd (by first | assumption | (simp; done) | (simp; omega) | omega) (by first | assumption | (simp; done) | (simp; omega) | omega)).trans (by go_simp; rfl)
 have hOwn := (Mem.Sav.frozen s5 (p := ⟨(w.heap.size + 2), 0, none⟩) sdd (by first | assumption | (simp; done) | (simp; omega) | omega) (by first | assumption | (simp; done) | (simp; omega) | omega)).trans (by go_simp; rfl)
 have hOwn := (Mem.Sav.frozen s5 (p := ⟨(w.heap.size + 2), 1, none⟩) sdd (by first | assumption | (simp; done) | (simp; omega) | omega) (by first | assumption | (simp; done) | (simp; omega) | omega)).trans (by go_simp; rfl)
 have hOwn := (Mem.Sav.frozen s5 (p := ⟨(w.heap.size + 2), 2, none⟩) sdd (by first | assumption | (simp; done) | (simp; omega) | omega) (by first | assumption | (simp; done) | (simp; omega) | omega)).trans (by go_simp; rfl)
 have hOwn := (Mem.Sav.frozen s5 (p := ⟨(w.heap.size + 2), 3, none⟩) sdd (by first | assumption | (simp; done) | (simp; omega) | omega) (by first | assumption | (simp; done) | (simp; omega) | omega)).trans (by go_simp; rfl)
 have hOwn := (Mem.Sav.frozen s5 (p := ⟨(w.heap.size + 2), 4, none⟩) sdd (by first | assumption | (simp; done) | (simp; omega) | omega) (by first | assumption | (simp; done) | (simp; omega) | omega)).trans (by go_simp; rfl)
 obtain ⟨A3, c3, A4, c4, rfl, rfl, tr⟩ := st.tree (by omega) (by omega)
 obtain ⟨k0, k1, k2, k3, k4, r0, r1, r2, r3, r4⟩ := st.bk.facts
 have s6 := s5.less (B' := w.heap.size) (by rw [SZ4.out]; omega) (by omega)
 have HN := Lib.hid hN
 clear hN
 go_wp2_with fail
 try simp only [Exit.inBlock, Exit.then]
 refine post_j2 (x0 := .int .i64 5) (x1 := .int .i64 0) (x2 := .string ⟨#[]⟩) (x3 := (.slice A3 js.length c3)) (x4 := (.slice A4 ks.length c4)) rfl rfl rfl (by go_simp) (by go_simp) (by go_simp) (by go_simp) (by go_simp) ?_
 refine cv_ret (j := .mk 5 0 ⟨#[]⟩ js ks) (q := q) rfl tr (by have := HN.out; omega) ?_ (by simp) (fun e => ⟨(hr e).1.symm, (hr e).2⟩) hq (by (repeat' (first | with_reducible assumption | with_reducible refine Cur.drewN ?_ _ | with_reducible refine Cur.drew ?_ | with_reducible refine Cur.alloc ?_ _ | (with_reducible refine Cur.past ?_ ?_ _; rotate_left; focus (first | assumption | (simp; done) | (simp; omega) | (dsimp only; omega) | omega | fail)) | with_reducible refine Cur.go (p := q) ?_ | fail))) ?_
 · have HG : ∀ b, Btw N w5.heap.size b → b ≠ w.heap.size + 2 := fun b hb => by have := hb.1; have := HN.out; omega
   repeat (with_reducible refine KeepS.set ?_ HG _ _)
   with_reducible exact KeepS.refl _ _
 · have s7 := W4.trans s6
   (repeat' (first | with_reducible assumption | with_reducible exact Mem.Sav.refl _ _ _ _ | with_reducible refine Mem.Sav.drewN ?_ _ | with_reducible refine Mem.Sav.drew ?_ | (with_reducible refine Mem.Sav.set ?_ ?_ _; rotate_left; focus (first | (simp; done) | (simp; omega) | (dsimp only; omega) | omega | fail)) | (with_reducible refine Mem.Sav.alloc ?_ ?_ _; rotate_left; focus (first | exact Nat.le_refl _ | assumption | (simp; done) | (simp; omega) | omega | fail)) | (with_reducible refine Mem.Sav.call (by with_reducible assumption) ?_ ?_; focus (first | exact Nat.le_refl _ | assumption | (simp; done) | (simp; omega) | omega | fail)) | (with_reducible refine Mem.Sav.next (by with_reducible assumption) ?_ ?_; focus (first | exact Nat.le_refl _ | assumption | (simp; done) | (simp; omega) | omega | fail)) | (with_reducible refine Mem.Sav.next1 (by with_reducible assumption) ?_ ?_; focus (first | exact Nat.le_refl _ | assumption | (simp; done) | (simp; omega) | omega | fail)) | fail))
theorem object_step (f : Nat) (hV : ∀ g, g ≤ f → CNxt g) : CObj (f + 1) := by
 intro l A c g p d w C hcur hp hf hd
 have CS := cell_set
 have hg := hcur.lt
 have W4 : Sav g g w.heap.size w ((((w.alloc (.cells #[wv g] 74)).alloc (.cells #[.int .i64 (d : Int)] 3)).alloc (.cells #[.int .i64 0, .int .i64 0, .string ⟨#[]⟩, .slice none 0 0, .slice none 0 0] 25)).alloc (.cells #[.int .i64 6, .int .i64 0, .string ⟨#[]⟩, .slice none 0 0, .slice none 0 0] 25)) := by (repeat' (first | with_reducible assumption | with_reducible exact Mem.Sav.refl _ _ _ _ | with_reducible refine Mem.Sav.drewN ?_ _ | with_reducible refine Mem.Sav.drew ?_ | (with_reducible refine Mem.Sav.set ?_ ?_ _; rotate_left; focus (first | (simp; done) | (simp; omega) | (dsimp only; omega) | omega | fail)) | (with_reducible refine Mem.Sav.alloc ?_ ?_ _; rotate_left; focus (first | exact Nat.le_refl _ | assumption | (simp; done) | (simp; omega) | omega | fail)) | (with_reducible refine Mem.Sav.call (by with_reducible assumption) ?_ ?_; focus (first | exact Nat.le_refl _ | assumption | (simp; done) | (simp; omega) | omega | fail)) | (with_reducible refine Mem.Sav.next (by with_reducible assumption) ?_ ?_; focus (first | exact Nat.le_refl _ | assumption | (simp; done) | (simp; omega) | omega | fail)) | (with_reducible refine Mem.Sav.next1 (by with_reducible assumption) ?_ ?_; focus (first | exact Nat.le_refl _ | assumption | (simp; done) | (simp; omega) | omega | fail)) | fail))
 have C4 := C.sav W4 (Nat.le_of_lt hg) (Nat.le_refl _)
 have t4 : Cur ((((w.alloc (.cells #[wv g] 74)).alloc (.cells #[.int .i64 (d : Int)] 3)).alloc (.cells #[.int .i64 0, .int .i64 0, .string ⟨#[]⟩, .slice none 0 0, .slice none 0 0] 25)).alloc (.cells #[.int .i64 6, .int .i64 0, .string ⟨#[]⟩, .slice none 0 0, .slice none 0 0] 25)) g A l.length c p := (((hcur.alloc _).alloc _).alloc _).alloc _
 have bk4 : B5 ((((w.alloc (.cells #[wv g] 74)).alloc (.cells #[.int .i64 (d : Int)] 3)).alloc (.cells #[.int .i64 0, .int .i64 0, .string ⟨#[]⟩, .slice none 0 0, .slice none 0 0] 25)).alloc (.cells #[.int .i64 6, .int .i64 0, .string ⟨#[]⟩, .slice none 0 0, .slice none 0 0] 25)) (w.heap.size + 3) 25 (.int .i64 6) (.int .i64 0) (.string ⟨#[]⟩) (.slice none 0 0) (.slice none 0 0) := B5.newat (by simp)
 have cap4 : Cap g (w.heap.size + 3) ((((w.alloc (.cells #[wv g] 74)).alloc (.cells #[.int .i64 (d : Int)] 3)).alloc (.cells #[.int .i64 0, .int .i64 0, .string ⟨#[]⟩, .slice none 0 0, .slice none 0 0] 25)).alloc (.cells #[.int .i64 6, .int .i64 0, .string ⟨#[]⟩, .slice none 0 0, .slice none 0 0] 25)).heap.size w.heap.size (w.heap.size + 1) d ((((w.alloc (.cells #[wv g] 74)).alloc (.cells #[.int .i64 (d : Int)] 3)).alloc (.cells #[.int .i64 0, .int .i64 0, .string ⟨#[]⟩, .slice none 0 0, .slice none 0 0] 25)).alloc (.cells #[.int .i64 6, .int .i64 0, .string ⟨#[]⟩, .slice none 0 0, .slice none 0 0] 25)) := ⟨by go_simp, by go_simp, by simp; omega, by simp, by omega, by omega, by omega, by omega⟩
 have sz4 : ((((w.alloc (.cells #[wv g] 74)).alloc (.cells #[.int .i64 (d : Int)] 3)).alloc (.cells #[.int .i64 0, .int .i64 0, .string ⟨#[]⟩, .slice none 0 0, .slice none 0 0] 25)).alloc (.cells #[.int .i64 6, .int .i64 0, .string ⟨#[]⟩, .slice none 0 0, .slice none 0 0] 25)).heap.size = w.heap.size + 4 := by simp
 have pc := parts_2 f hV l A c g p d _ (w.heap.size + 3) w.heap.size (w.heap.size + 1) C4 t4 hp hf hd bk4 cap4 (by omega)
 obtain ⟨R, hR⟩ : ∃ R, R = (if (Jx.tak l p).2 = 0 ∧ (Jx.tak l p).1.k = 2 then ((.mk (Jp.kindOf 2) 0 Jp.nil_ [] [], (Jx.tak l p).1.x, 0) : Jp.R) else Jp.pits (f + 1) l p d 2 [] []) := ⟨_, rfl⟩
 rw [← hR] at pc ⊢
 have gn : w.heap.size + 2 ≠ g := by omega
 have gn2 : w.heap.size + 2 ≠ w.heap.size + 3 := by omega
 have PC := Lib.hid pc
 have SZ4 := Lib.hid sz4
 clear pc hR hV C C4 bk4 cap4 t4 sz4
 go_enter Tryz.func124, Tryz.ntmps124
 go_wp2_with fail
 with_reducible refine PC.out.mono ?_
 rintro e w5 ⟨N, ks, js, css, v3, v4, q, rfl, st, hN, hr, hq, hj, hk, t5, s5⟩
 have z5 := s5.size
 rw [SZ4.out] at hN z5
 have hOwn := Nat.lt_of_lt_of_le (n := (w.heap.size + 2)) sdd (Mem.Sav.size s5)
 have hOwn1 := Nat.ne_of_gt hOwn
 have hOwn2 := Nat.ne_of_lt hOwn
 have hOwn := (Mem.Sav.cell s5 (p := ⟨(w.heap.size + 2), 0, none⟩) sdd (by first | assumption | (simp; done) | (simp; omega) | omega) (by first | assumption | (simp; done) | (simp; omega) | omega)).trans (by go_simp; rfl)
 have hOwn := (Mem.Sav.cell s5 (p := ⟨(w.heap.size + 2), 1, none⟩) sdd (by first | assumption | (simp; done) | (simp; omega) | omega) (by first | assumption | (simp; done) | (simp; omega) | omega)).trans (by go_simp; rfl)
 have hOwn := (Mem.Sav.cell s5 (p := ⟨(w.heap.size + 2), 2, none⟩) sdd (by first | assumption | (simp; done) | (simp; omega) | omega) (by first | assumption | (simp; done) | (simp; omega) | omega)).trans (by go_simp; rfl)
 have hOwn := (Mem.Sav.cell s5 (p := ⟨(w.heap.size + 2), 3, none⟩) sdd (by first | assumption | (simp; done) | (simp; omega) | omega) (by first | assumption | (simp; done) | (simp; omega) | omega)).trans (by go_simp; rfl)
 have hOwn := (Mem.Sav.cell s5 (p := ⟨(w.heap.size + 2), 4, none⟩) sdd (by first | assumption | (simp; done) | (simp; omega) | omega) (by first | assumption | (simp; done) | (simp; omega) | omega)).trans (by go_simp; rfl)
 have hOwn := (Mem.Sav.frozen s5 (p := ⟨(w.heap.size + 2), 0, none⟩) sdd (by first | assumption | (simp; done) | (simp; omega) | omega) (by first | assumption | (simp; done) | (simp; omega) | omega)).trans (by go_simp; rfl)
 have hOwn := (Mem.Sav.frozen s5 (p := ⟨(w.heap.size + 2), 1, none⟩) sdd (by first | assumption | (simp; done) | (simp; omega) | omega) (by first | assumption | (simp; done) | (simp; omega) | omega)).trans (by go_simp; rfl)
 have hOwn := (Mem.Sav.frozen s5 (p := ⟨(w.heap.size + 2), 2, none⟩) sdd (by first | assumption | (simp; done) | (simp; omega) | omega) (by first | assumption | (simp; done) | (simp; omega) | omega)).trans (by go_simp; rfl)
 have hOwn := (Mem.Sav.frozen s5 (p := ⟨(w.heap.size + 2), 3, none⟩) sdd (by first | assumption | (simp; done) | (simp; omega) | omega) (by first | assumption | (simp; done) | (simp; omega) | omega)).trans (by go_simp; rfl)
 have hOwn := (Mem.Sav.frozen s5 (p := ⟨(w.heap.size + 2), 4, none⟩) sdd (by first | assumption | (simp; done) | (simp; omega) | omega) (by first | assumption | (simp; done) | (simp; omega) | omega)).trans (by go_simp; rfl)
 obtain ⟨A3, c3, A4, c4, rfl, rfl, tr⟩ := st.tree (by omega) (by omega)
 obtain ⟨k0, k1, k2, k3, k4, r0, r1, r2, r3, r4⟩ := st.bk.facts
 have s6 := s5.less (B' := w.heap.size) (by rw [SZ4.out]; omega) (by omega)
 have HN := Lib.hid hN
 clear hN
 go_wp2_with fail
 try simp only [Exit.inBlock, Exit.then]
 refine post_j2 (x0 := .int .i64 6) (x1 := .int .i64 0) (x2 := .string ⟨#[]⟩) (x3 := (.slice A3 js.length c3)) (x4 := (.slice A4 ks.length c4)) rfl rfl rfl (by go_simp) (by go_simp) (by go_simp) (by go_simp) (by go_simp) ?_
 refine cv_ret (j := .mk 6 0 ⟨#[]⟩ js ks) (q := q) rfl tr (by have := HN.out; omega) ?_ (by simp) (fun e => ⟨(hr e).1.symm, (hr e).2⟩) hq (by (repeat' (first | with_reducible assumption | with_reducible refine Cur.drewN ?_ _ | with_reducible refine Cur.drew ?_ | with_reducible refine Cur.alloc ?_ _ | (with_reducible refine Cur.past ?_ ?_ _; rotate_left; focus (first | assumption | (simp; done) | (simp; omega) | (dsimp only; omega) | omega | fail)) | with_reducible refine Cur.go (p := q) ?_ | fail))) ?_
 · have HG : ∀ b, Btw N w5.heap.size b → b ≠ w.heap.size + 2 := fun b hb => by have := hb.1; have := HN.out; omega
   repeat (with_reducible refine KeepS.set ?_ HG _ _)
   with_reducible exact KeepS.refl _ _
 · have s7 := W4.trans s6
   (repeat' (first | with_reducible assumption | with_reducible exact Mem.Sav.refl _ _ _ _ | with_reducible refine Mem.Sav.drewN ?_ _ | with_reducible refine Mem.Sav.drew ?_ | (with_reducible refine Mem.Sav.set ?_ ?_ _; rotate_left; focus (first | (simp; done) | (simp; omega) | (dsimp only; omega) | omega | fail)) | (with_reducible refine Mem.Sav.alloc ?_ ?_ _; rotate_left; focus (first | exact Nat.le_refl _ | assumption | (simp; done) | (simp; omega) | omega | fail)) | (with_reducible refine Mem.Sav.call (by with_reducible assumption) ?_ ?_; focus (first | exact Nat.le_refl _ | assumption | (simp; done) | (simp; omega) | omega | fail)) | (with_reducible refine Mem.Sav.next (by with_reducible assumption) ?_ ?_; focus (first | exact Nat.le_refl _ | assumption | (simp; done) | (simp; omega) | omega | fail)) | (with_reducible refine Mem.Sav.next1 (by with_reducible assumption) ?_ ?_; focus (first | exact Nat.le_refl _ | assumption | (simp; done) | (simp; omega) | omega | fail)) | fail))
theorem c_all (f : Nat) : CVal f ∧ CLst f ∧ CObj f := by
 induction f using Nat.strongRecOn with
 | ind f ih =>
  cases f with
  | zero => exact ⟨fun l A c g p d w _ _ _ _ h => absurd h (Nat.not_lt_zero _), fun l A c g p d w _ _ _ h => absurd h (Nat.not_lt_zero _), fun l A c g p d w _ _ _ h => absurd h (Nat.not_lt_zero _)⟩
  | succ f => exact ⟨cvalue_step f (ih f (Nat.lt_succ_self f)).2.1 (ih f (Nat.lt_succ_self f)).2.2, list_step f fun g hg => (ih g (Nat.lt_succ_of_le hg)).1, object_step f fun g hg => next_step g (ih g (Nat.lt_succ_of_le hg)).1⟩
end Go.Proofs.YthogheglddfniaaGreatDoor
namespace Go.Proofs.YthogheglddfniaaGreatDoor
open Go.ChangeShapes Go.WideShapes Go.ChangeAt Go.RowKit Mem
theorem parse_any (A : Option Addr) (c : Nat) (l : List UInt8) (w : World) (hL : Laid w) (hb : Bys w w.heap.size A l) (hl : l.length ≤ 100000000) (hc : l.length ≤ c) :
 Calls Tryz.prog 20 #[.slice A l.length c] w (Prs (Jp.parse l) w) := by
 have CS := cell_set
 have top := hL.top
 obtain ⟨R, hR⟩ : ∃ R, R = Jp.parse l := ⟨_, rfl⟩
 rw [← hR]
 unfold Jp.parse at hR
 by_cases h0 : 20000 < l.length
 · rw [if_pos h0] at hR
   have Z := Lib.hid hR
   have q0 : (decide ((20000 : Int) < (l.length : Int))) = true := by rw [decide_eq_true_iff]; omega
   clear hR hb
   go_enter Tryz.func20, Tryz.ntmps20
   go_wp2_with fail
   try simp only [Exit.inBlock, Exit.then]
   refine post_j2 (x0 := .int .i64 0) (x1 := .int .i64 0) (x2 := .string ⟨#[]⟩) (x3 := (.slice none 0 0)) (x4 := (.slice none 0 0)) rfl rfl rfl (by go_simp) (by go_simp) (by go_simp) (by go_simp) (by go_simp) ?_
   exact prs_bad Z.out rfl bqq
 · rw [if_neg h0] at hR
   have q0 : (decide ((20000 : Int) < (l.length : Int))) = false := by rw [decide_eq_false_iff_not]; omega
   have W2 : Below w.heap.size w ((w.alloc (.cells #[.int .i64 0, .int .i64 0, .string ⟨#[]⟩, .slice none 0 0, .slice none 0 0] 25)).alloc (.cells #[.slice A l.length c, .int .i64 0] 72)) := bqq
   have sz2 : ((w.alloc (.cells #[.int .i64 0, .int .i64 0, .string ⟨#[]⟩, .slice none 0 0, .slice none 0 0] 25)).alloc (.cells #[.slice A l.length c, .int .i64 0] 72)).heap.size = w.heap.size + 2 := by simp
   have C2 : Cx l A c (w.heap.size + 1) ((w.alloc (.cells #[.int .i64 0, .int .i64 0, .string ⟨#[]⟩, .slice none 0 0, .slice none 0 0] 25)).alloc (.cells #[.slice A l.length c, .int .i64 0] 72)) :=
    ⟨hL.below W2 top, by omega, (hb.below W2).more (by omega), hl, hc⟩
   have t2 : Cur ((w.alloc (.cells #[.int .i64 0, .int .i64 0, .string ⟨#[]⟩, .slice none 0 0, .slice none 0 0] 25)).alloc (.cells #[.slice A l.length c, .int .i64 0] 72)) (w.heap.size + 1) A l.length c 0 := B2.newat (by simp)
   have nx := next_step (2 * l.length + 3) (c_all _).1 l A c (w.heap.size + 1) 0 0 _ C2 t2 (Nat.zero_le _) (by omega) (by omega)
   have pos := (Jp.pos (2 * l.length + 3)).1 l 0 0 (Nat.zero_le _)
   obtain ⟨⟨j0, q0', er⟩, hr⟩ : ∃ r, r = Jp.pval (2 * l.length + 3) l 0 0 := ⟨_, rfl⟩
   rw [← hr] at nx hR pos
   simp only at hR pos
   rw [show ((0 : Nat) : Int) = 0 from rfl] at nx
   have NX := Lib.hid nx
   have CX := Lib.hid C2
   have SZ2 := Lib.hid sz2
   have HR := Lib.hid hR
   have POS := Lib.hid pos
   clear nx C2 hr sz2 t2 h0 hb hR pos
   go_enter Tryz.func20, Tryz.ntmps20
   go_wp2_with fail
   with_reducible refine NX.out.mono ?_
   rintro e w3 ⟨j, A3, c3, A4, c4, q, rfl, tr, hj, hq, t3, s3⟩
   simp only at hj
   have z3 := s3.size
   rw [SZ2.out] at z3
   have b3 := s3.bel (B' := w.heap.size) (by omega) (by omega) (by rw [SZ2.out]; omega)
   have bw3 : Below w.heap.size w w3 := W2.trans b3
   have hOwn := Nat.lt_of_lt_of_le (n := w.heap.size) sdd (Mem.Sav.size s3)
   have hOwn1 := Nat.ne_of_gt hOwn
   have hOwn2 := Nat.ne_of_lt hOwn
   have hOwn := (Mem.Sav.cell s3 (p := ⟨w.heap.size, 0, none⟩) sdd (by first | assumption | (simp; done) | (simp; omega) | omega) (by first | assumption | (simp; done) | (simp; omega) | omega)).trans (by go_simp; rfl)
   have hOwn := (Mem.Sav.cell s3 (p := ⟨w.heap.size, 1, none⟩) sdd (by first | assumption | (simp; done) | (simp; omega) | omega) (by first | assumption | (simp; done) | (simp; omega) | omega)).trans (by go_simp; rfl)
   have hOwn := (Mem.Sav.cell s3 (p := ⟨w.heap.size, 2, none⟩) sdd (by first | assumption | (simp; done) | (simp; omega) | omega) (by first | assumption | (simp; done) | (simp; omega) | omega)).trans (by go_simp; rfl)
   have hOwn := (Mem.Sav.cell s3 (p := ⟨w.heap.size, 3, none⟩) sdd (by first | assumption | (simp; done) | (simp; omega) | omega) (by first | assumption | (simp; done) | (simp; omega) | omega)).trans (by go_simp; rfl)
   have hOwn := (Mem.Sav.cell s3 (p := ⟨w.heap.size, 4, none⟩) sdd (by first | assumption | (simp; done) | (simp; omega) | omega) (by first | assumption | (simp; done) | (simp; omega) | omega)).trans (by go_simp; rfl)
   have hOwn := (Mem.Sav.frozen s3 (p := ⟨w.heap.size, 0, none⟩) sdd (by first | assumption | (simp; done) | (simp; omega) | omega) (by first | assumption | (simp; done) | (simp; omega) | omega)).trans (by go_simp; rfl)
   have hOwn := (Mem.Sav.frozen s3 (p := ⟨w.heap.size, 1, none⟩) sdd (by first | assumption | (simp; done) | (simp; omega) | omega) (by first | assumption | (simp; done) | (simp; omega) | omega)).trans (by go_simp; rfl)
   have hOwn := (Mem.Sav.frozen s3 (p := ⟨w.heap.size, 2, none⟩) sdd (by first | assumption | (simp; done) | (simp; omega) | omega) (by first | assumption | (simp; done) | (simp; omega) | omega)).trans (by go_simp; rfl)
   have hOwn := (Mem.Sav.frozen s3 (p := ⟨w.heap.size, 3, none⟩) sdd (by first | assumption | (simp; done) | (simp; omega) | omega) (by first | assumption | (simp; done) | (simp; omega) | omega)).trans (by go_simp; rfl)
   have hOwn := (Mem.Sav.frozen s3 (p := ⟨w.heap.size, 4, none⟩) sdd (by first | assumption | (simp; done) | (simp; omega) | omega) (by first | assumption | (simp; done) | (simp; omega) | omega)).trans (by go_simp; rfl)
   have hR := HR.out
   have pos := POS.out
   clear HR POS
   by_cases he : er = 0
   · subst he
     obtain ⟨rfl, rfl⟩ := hj rfl
     rw [if_neg (by simp)] at hR
     have qle := (pos rfl).2
     have C4 := (CX.out.sav s3 (by rw [SZ2.out]; omega) (Nat.le_refl _)).sav (show Sav (w.heap.size + 1) (w.heap.size + 1) w3.heap.size w3 (w3.alloc (.cells #[.int .i64 j.k, .int .i64 j.n, .string j.t, .slice A3 j.its.length c3, .slice A4 j.ks.length c4] 25)) by (repeat' (first | with_reducible assumption | with_reducible exact Mem.Sav.refl _ _ _ _ | with_reducible refine Mem.Sav.drewN ?_ _ | with_reducible refine Mem.Sav.drew ?_ | (with_reducible refine Mem.Sav.set ?_ ?_ _; rotate_left; focus (first | (simp; done) | (simp; omega) | (dsimp only; omega) | omega | fail)) | (with_reducible refine Mem.Sav.alloc ?_ ?_ _; rotate_left; focus (first | exact Nat.le_refl _ | assumption | (simp; done) | (simp; omega) | omega | fail)) | (with_reducible refine Mem.Sav.call (by with_reducible assumption) ?_ ?_; focus (first | exact Nat.le_refl _ | assumption | (simp; done) | (simp; omega) | omega | fail)) | (with_reducible refine Mem.Sav.next (by with_reducible assumption) ?_ ?_; focus (first | exact Nat.le_refl _ | assumption | (simp; done) | (simp; omega) | omega | fail)) | (with_reducible refine Mem.Sav.next1 (by with_reducible assumption) ?_ ?_; focus (first | exact Nat.le_refl _ | assumption | (simp; done) | (simp; omega) | omega | fail)) | fail))) (by omega) (Nat.le_refl _)
     have t4 := t3.alloc (.cells #[.int .i64 j.k, .int .i64 j.n, .string j.t, .slice A3 j.its.length c3, .slice A4 j.ks.length c4] 25)
     have ju := just_any l A c (w.heap.size + 1) q 11 _ C4 t4 qle
     unfold Jst at ju
     rw [show ((11 : Nat) : Int) = 11 from rfl] at ju
     have hRj : R = if jus (Jx.tak l q) 11 = 0 then (j, 0) else (J.zero, jus (Jx.tak l q) 11) := by
      rw [hR]
      unfold jus
      by_cases g1 : (Jx.tak l q).2 = 0
      · by_cases g2 : (Jx.tak l q).1.k = 11
        · simp [g1, g2]
        · simp [g1, g2]
      · simp [g1]
     obtain ⟨ju', hju⟩ : ∃ z, z = jus (Jx.tak l q) 11 := ⟨_, rfl⟩
     rw [← hju] at ju hRj
     have JU := Lib.hid ju
     have SP : Hid (∀ b, Btw ((w.alloc (.cells #[.int .i64 0, .int .i64 0, .string ⟨#[]⟩, .slice none 0 0, .slice none 0 0] 25)).alloc (.cells #[.slice A l.length c, .int .i64 0] 72)).heap.size w3.heap.size b → b < w3.heap.size ∧ w.heap.size + 2 ≤ b) := fun b hb => ⟨hb.2, by have := hb.1; rw [SZ2.out] at this; exact this⟩
     have lt3 : w.heap.size < w3.heap.size := by omega
     clear ju hR hju hj C4 NX pos
     by_cases hz : ju' = 0
     · subst hz
       rw [if_pos rfl] at hRj
       have Z := Lib.hid hRj
       clear hRj
       go_wp2_with fail
       with_reducible refine JU.out.mono ?_
       rintro e w5 ⟨rfl, t5, s5⟩
       have z5 := s5.size
       simp at z5
       have hOwn := Nat.lt_of_lt_of_le (n := w3.heap.size) sdd (Mem.Sav.size s5)
       have hOwn1 := Nat.ne_of_gt hOwn
       have hOwn2 := Nat.ne_of_lt hOwn
       have hOwn := (Mem.Sav.cell s5 (p := ⟨w3.heap.size, 0, none⟩) sdd (by first | assumption | (simp; done) | (simp; omega) | omega) (by first | assumption | (simp; done) | (simp; omega) | omega)).trans (by go_simp; rfl)
       have hOwn := (Mem.Sav.cell s5 (p := ⟨w3.heap.size, 1, none⟩) sdd (by first | assumption | (simp; done) | (simp; omega) | omega) (by first | assumption | (simp; done) | (simp; omega) | omega)).trans (by go_simp; rfl)
       have hOwn := (Mem.Sav.cell s5 (p := ⟨w3.heap.size, 2, none⟩) sdd (by first | assumption | (simp; done) | (simp; omega) | omega) (by first | assumption | (simp; done) | (simp; omega) | omega)).trans (by go_simp; rfl)
       have hOwn := (Mem.Sav.cell s5 (p := ⟨w3.heap.size, 3, none⟩) sdd (by first | assumption | (simp; done) | (simp; omega) | omega) (by first | assumption | (simp; done) | (simp; omega) | omega)).trans (by go_simp; rfl)
       have hOwn := (Mem.Sav.cell s5 (p := ⟨w3.heap.size, 4, none⟩) sdd (by first | assumption | (simp; done) | (simp; omega) | omega) (by first | assumption | (simp; done) | (simp; omega) | omega)).trans (by go_simp; rfl)
       have hOwn := (Mem.Sav.frozen s5 (p := ⟨w3.heap.size, 0, none⟩) sdd (by first | assumption | (simp; done) | (simp; omega) | omega) (by first | assumption | (simp; done) | (simp; omega) | omega)).trans (by go_simp; rfl)
       have hOwn := (Mem.Sav.frozen s5 (p := ⟨w3.heap.size, 1, none⟩) sdd (by first | assumption | (simp; done) | (simp; omega) | omega) (by first | assumption | (simp; done) | (simp; omega) | omega)).trans (by go_simp; rfl)
       have hOwn := (Mem.Sav.frozen s5 (p := ⟨w3.heap.size, 2, none⟩) sdd (by first | assumption | (simp; done) | (simp; omega) | omega) (by first | assumption | (simp; done) | (simp; omega) | omega)).trans (by go_simp; rfl)
       have hOwn := (Mem.Sav.frozen s5 (p := ⟨w3.heap.size, 3, none⟩) sdd (by first | assumption | (simp; done) | (simp; omega) | omega) (by first | assumption | (simp; done) | (simp; omega) | omega)).trans (by go_simp; rfl)
       have hOwn := (Mem.Sav.frozen s5 (p := ⟨w3.heap.size, 4, none⟩) sdd (by first | assumption | (simp; done) | (simp; omega) | omega) (by first | assumption | (simp; done) | (simp; omega) | omega)).trans (by go_simp; rfl)
       have hOwn := Nat.lt_of_lt_of_le (n := w.heap.size) sdd (Mem.Sav.size s5)
       have hOwn1 := Nat.ne_of_gt hOwn
       have hOwn2 := Nat.ne_of_lt hOwn
       have hOwn := (Mem.Sav.cell s5 (p := ⟨w.heap.size, 0, none⟩) sdd (by first | assumption | (simp; done) | (simp; omega) | omega) (by first | assumption | (simp; done) | (simp; omega) | omega)).trans (by go_simp; rfl)
       have hOwn := (Mem.Sav.cell s5 (p := ⟨w.heap.size, 1, none⟩) sdd (by first | assumption | (simp; done) | (simp; omega) | omega) (by first | assumption | (simp; done) | (simp; omega) | omega)).trans (by go_simp; rfl)
       have hOwn := (Mem.Sav.cell s5 (p := ⟨w.heap.size, 2, none⟩) sdd (by first | assumption | (simp; done) | (simp; omega) | omega) (by first | assumption | (simp; done) | (simp; omega) | omega)).trans (by go_simp; rfl)
       have hOwn := (Mem.Sav.cell s5 (p := ⟨w.heap.size, 3, none⟩) sdd (by first | assumption | (simp; done) | (simp; omega) | omega) (by first | assumption | (simp; done) | (simp; omega) | omega)).trans (by go_simp; rfl)
       have hOwn := (Mem.Sav.cell s5 (p := ⟨w.heap.size, 4, none⟩) sdd (by first | assumption | (simp; done) | (simp; omega) | omega) (by first | assumption | (simp; done) | (simp; omega) | omega)).trans (by go_simp; rfl)
       have hOwn := (Mem.Sav.frozen s5 (p := ⟨w.heap.size, 0, none⟩) sdd (by first | assumption | (simp; done) | (simp; omega) | omega) (by first | assumption | (simp; done) | (simp; omega) | omega)).trans (by go_simp; rfl)
       have hOwn := (Mem.Sav.frozen s5 (p := ⟨w.heap.size, 1, none⟩) sdd (by first | assumption | (simp; done) | (simp; omega) | omega) (by first | assumption | (simp; done) | (simp; omega) | omega)).trans (by go_simp; rfl)
       have hOwn := (Mem.Sav.frozen s5 (p := ⟨w.heap.size, 2, none⟩) sdd (by first | assumption | (simp; done) | (simp; omega) | omega) (by first | assumption | (simp; done) | (simp; omega) | omega)).trans (by go_simp; rfl)
       have hOwn := (Mem.Sav.frozen s5 (p := ⟨w.heap.size, 3, none⟩) sdd (by first | assumption | (simp; done) | (simp; omega) | omega) (by first | assumption | (simp; done) | (simp; omega) | omega)).trans (by go_simp; rfl)
       have hOwn := (Mem.Sav.frozen s5 (p := ⟨w.heap.size, 4, none⟩) sdd (by first | assumption | (simp; done) | (simp; omega) | omega) (by first | assumption | (simp; done) | (simp; omega) | omega)).trans (by go_simp; rfl)
       have b5 := s5.bel (B' := w.heap.size) (by omega) (by omega) (by simp; omega)
       have bw5 : Below w.heap.size w w5 := (bw3.alloc (by omega) _).trans b5
       go_wp2_with fail
       try simp only [Exit.inBlock, Exit.then]
       refine post_j2 (x0 := .int .i64 j.k) (x1 := .int .i64 j.n) (x2 := .string j.t) (x3 := (.slice A3 j.its.length c3)) (x4 := (.slice A4 j.ks.length c4)) rfl rfl rfl (by go_simp) (by go_simp) (by go_simp) (by go_simp) (by go_simp) ?_
       refine prs_ok Z.out tr (by rw [SZ2.out]; omega) ?_ ?_ bqq
       · have HG : ∀ b, Btw ((w.alloc (.cells #[.int .i64 0, .int .i64 0, .string ⟨#[]⟩, .slice none 0 0, .slice none 0 0] 25)).alloc (.cells #[.slice A l.length c, .int .i64 0] 72)).heap.size w3.heap.size b → b ≠ w.heap.size := fun b hb => by have := (SP.out b hb).2; omega
         repeat (with_reducible refine KeepS.set ?_ HG _ _)
         exact KeepS.trans (fun p hp => World.cell?_alloc_lt _ _ p hp.2) (s5.keeps (fun b hb => by have := SP.out b hb; simp; omega))
       · simp; omega
     · rw [if_neg hz] at hRj
       have Z := Lib.hid hRj
       have qe : ((ju' : Int) != 0) = true := by rw [bne_iff_ne]; omega
       clear hRj hz
       go_wp2_with fail
       with_reducible refine JU.out.mono ?_
       rintro e w5 ⟨rfl, t5, s5⟩
       have z5 := s5.size
       simp at z5
       have hOwn := Nat.lt_of_lt_of_le (n := w3.heap.size) sdd (Mem.Sav.size s5)
       have hOwn1 := Nat.ne_of_gt hOwn
       have hOwn2 := Nat.ne_of_lt hOwn
       have hOwn := (Mem.Sav.cell s5 (p := ⟨w3.heap.size, 0, none⟩) sdd (by first | assumption | (simp; done) | (simp; omega) | omega) (by first | assumption | (simp; done) | (simp; omega) | omega)).trans (by go_simp; rfl)
       have hOwn := (Mem.Sav.cell s5 (p := ⟨w3.heap.size, 1, none⟩) sdd (by first | assumption | (simp; done) | (simp; omega) | omega) (by first | assumption | (simp; done) | (simp; omega) | omega)).trans (by go_simp; rfl)
       have hOwn := (Mem.Sav.cell s5 (p := ⟨w3.heap.size, 2, none⟩) sdd (by first | assumption | (simp; done) | (simp; omega) | omega) (by first | assumption | (simp; done) | (simp; omega) | omega)).trans (by go_simp; rfl)
       have hOwn := (Mem.Sav.cell s5 (p := ⟨w3.heap.size, 3, none⟩) sdd (by first | assumption | (simp; done) | (simp; omega) | omega) (by first | assumption | (simp; done) | (simp; omega) | omega)).trans (by go_simp; rfl)
       have hOwn := (Mem.Sav.cell s5 (p := ⟨w3.heap.size, 4, none⟩) sdd (by first | assumption | (simp; done) | (simp; omega) | omega) (by first | assumption | (simp; done) | (simp; omega) | omega)).trans (by go_simp; rfl)
       have hOwn := (Mem.Sav.frozen s5 (p := ⟨w3.heap.size, 0, none⟩) sdd (by first | assumption | (simp; done) | (simp; omega) | omega) (by first | assumption | (simp; done) | (simp; omega) | omega)).trans (by go_simp; rfl)
       have hOwn := (Mem.Sav.frozen s5 (p := ⟨w3.heap.size, 1, none⟩) sdd (by first | assumption | (simp; done) | (simp; omega) | omega) (by first | assumption | (simp; done) | (simp; omega) | omega)).trans (by go_simp; rfl)
       have hOwn := (Mem.Sav.frozen s5 (p := ⟨w3.heap.size, 2, none⟩) sdd (by first | assumption | (simp; done) | (simp; omega) | omega) (by first | assumption | (simp; done) | (simp; omega) | omega)).trans (by go_simp; rfl)
       have hOwn := (Mem.Sav.frozen s5 (p := ⟨w3.heap.size, 3, none⟩) sdd (by first | assumption | (simp; done) | (simp; omega) | omega) (by first | assumption | (simp; done) | (simp; omega) | omega)).trans (by go_simp; rfl)
       have hOwn := (Mem.Sav.frozen s5 (p := ⟨w3.heap.size, 4, none⟩) sdd (by first | assumption | (simp; done) | (simp; omega) | omega) (by first | assumption | (simp; done) | (simp; omega) | omega)).trans (by go_simp; rfl)
       have hOwn := Nat.lt_of_lt_of_le (n := w.heap.size) sdd (Mem.Sav.size s5)
       have hOwn1 := Nat.ne_of_gt hOwn
       have hOwn2 := Nat.ne_of_lt hOwn
       have hOwn := (Mem.Sav.cell s5 (p := ⟨w.heap.size, 0, none⟩) sdd (by first | assumption | (simp; done) | (simp; omega) | omega) (by first | assumption | (simp; done) | (simp; omega) | omega)).trans (by go_simp; rfl)
       have hOwn := (Mem.Sav.cell s5 (p := ⟨w.heap.size, 1, none⟩) sdd (by first | assumption | (simp; done) | (simp; omega) | omega) (by first | assumption | (simp; done) | (simp; omega) | omega)).trans (by go_simp; rfl)
       have hOwn := (Mem.Sav.cell s5 (p := ⟨w.heap.size, 2, none⟩) sdd (by first | assumption | (simp; done) | (simp; omega) | omega) (by first | assumption | (simp; done) | (simp; omega) | omega)).trans (by go_simp; rfl)
       have hOwn := (Mem.Sav.cell s5 (p := ⟨w.heap.size, 3, none⟩) sdd (by first | assumption | (simp; done) | (simp; omega) | omega) (by first | assumption | (simp; done) | (simp; omega) | omega)).trans (by go_simp; rfl)
       have hOwn := (Mem.Sav.cell s5 (p := ⟨w.heap.size, 4, none⟩) sdd (by first | assumption | (simp; done) | (simp; omega) | omega) (by first | assumption | (simp; done) | (simp; omega) | omega)).trans (by go_simp; rfl)
       have hOwn := (Mem.Sav.frozen s5 (p := ⟨w.heap.size, 0, none⟩) sdd (by first | assumption | (simp; done) | (simp; omega) | omega) (by first | assumption | (simp; done) | (simp; omega) | omega)).trans (by go_simp; rfl)
       have hOwn := (Mem.Sav.frozen s5 (p := ⟨w.heap.size, 1, none⟩) sdd (by first | assumption | (simp; done) | (simp; omega) | omega) (by first | assumption | (simp; done) | (simp; omega) | omega)).trans (by go_simp; rfl)
       have hOwn := (Mem.Sav.frozen s5 (p := ⟨w.heap.size, 2, none⟩) sdd (by first | assumption | (simp; done) | (simp; omega) | omega) (by first | assumption | (simp; done) | (simp; omega) | omega)).trans (by go_simp; rfl)
       have hOwn := (Mem.Sav.frozen s5 (p := ⟨w.heap.size, 3, none⟩) sdd (by first | assumption | (simp; done) | (simp; omega) | omega) (by first | assumption | (simp; done) | (simp; omega) | omega)).trans (by go_simp; rfl)
       have hOwn := (Mem.Sav.frozen s5 (p := ⟨w.heap.size, 4, none⟩) sdd (by first | assumption | (simp; done) | (simp; omega) | omega) (by first | assumption | (simp; done) | (simp; omega) | omega)).trans (by go_simp; rfl)
       have b5 := s5.bel (B' := w.heap.size) (by omega) (by omega) (by simp; omega)
       have bw5 : Below w.heap.size w w5 := (bw3.alloc (by omega) _).trans b5
       go_wp2_with fail
       try simp only [Exit.inBlock, Exit.then]
       refine post_j2 (x0 := .int .i64 0) (x1 := .int .i64 0) (x2 := .string ⟨#[]⟩) (x3 := (.slice none 0 0)) (x4 := (.slice none 0 0)) rfl rfl rfl (by go_simp) (by go_simp) (by go_simp) (by go_simp) (by go_simp) ?_
       exact prs_bad Z.out rfl bqq
   · rw [if_pos he] at hR
     have Z := Lib.hid hR
     have qe : ((er : Int) == 0) = false := by rw [beq_eq_false_iff_ne]; omega
     have qe2 : ((er : Int) != 0) = true := by rw [bne_iff_ne]; omega
     have lt3 : w.heap.size < w3.heap.size := by omega
     clear hR he hj NX pos
     go_wp2_with fail
     try simp only [Exit.inBlock, Exit.then]
     refine post_j2 (x0 := .int .i64 0) (x1 := .int .i64 0) (x2 := .string ⟨#[]⟩) (x3 := (.slice none 0 0)) (x4 := (.slice none 0 0)) rfl rfl rfl (by go_simp) (by go_simp) (by go_simp) (by go_simp) (by go_simp) ?_
     exact prs_bad Z.out rfl bqq
theorem deep_at : ∀ (N : Nat) (t : J), SizeOf.sizeOf t ≤ N → t.deep ≤ 1000000 → ∀ (w : World) (A3 A4 : Option Addr) (c3 c4 : Nat),
 TreeC w w.heap.size t [.int .i64 t.k, .int .i64 t.n, .string t.t, .slice A3 t.its.length c3, .slice A4 t.ks.length c4] →
 Calls Tryz.prog 13 #[.agg #[.int .i64 t.k, .int .i64 t.n, .string t.t, .slice A3 t.its.length c3, .slice A4 t.ks.length c4]] w (Num_ t.deep w)
 | 0, t, h => by cases t; simp at h
 | N + 1, .mk k n s its ks, hN => by
  intro hD w A3 A4 c3 c4 ht
  have CS := cell_set
  obtain ⟨_, _, _, _, e, hc3, hc4, rt, ft⟩ := ht.out
  simp only [J.k, J.n, J.t, J.its, J.ks, List.cons.injEq, Value.slice.injEq, true_and, and_true] at e hc3 hc4 rt ft
  obtain ⟨⟨rfl, rfl⟩, rfl, rfl⟩ := e
  have din := J.deep_in (j := .mk k n s its ks); have dout := J.deep_out (j := .mk k n s its ks)
  simp only [J.k, J.n, J.t, J.its, J.ks] at din dout ⊢
  by_cases hk : k = 5 ∨ k = 6
  · have d1 := din hk
    rw [d1] at hD ⊢
    have q5 : (k != 5) = true ∧ (k != 6) = false ∨ (k != 5) = false := by rcases hk with rfl | rfl <;> simp
    have RT := Lib.hid rt
    obtain ⟨ni, hni⟩ : ∃ m, m = its.length := ⟨_, rfl⟩
    have HNI := Lib.hid hni
    have ni0 : ni ≤ 9223372036854775807 := by have := hc3.2; unfold maxLen at this; omega
    have IH : Hid (∀ (i : Nat) (h1 : i < its.length) (W : World) (A3 A4 : Option Addr) (c3 c4 : Nat),
     TreeC W W.heap.size (its[i]'h1) [.int .i64 (its[i]'h1).k, .int .i64 (its[i]'h1).n, .string (its[i]'h1).t, .slice A3 (its[i]'h1).its.length c3, .slice A4 (its[i]'h1).ks.length c4] →
     Calls Tryz.prog 13 #[.agg #[.int .i64 (its[i]'h1).k, .int .i64 (its[i]'h1).n, .string (its[i]'h1).t, .slice A3 (its[i]'h1).its.length c3, .slice A4 (its[i]'h1).ks.length c4]] W (Num_ (its[i]'h1).deep W)) := fun i h1 W A3 A4 c3 c4 a =>
     deep_at N (its[i]'h1) (by have := J.lt_its (j := .mk k n s its ks) (i := i) h1; simp only [J.its] at this; omega) (by have := J.deep_at h1; omega) W A3 A4 c3 c4 a
    have DS := Lib.hid (fun i h => J.deeps_take (l := its) (i := i) h)
    have DL := Lib.hid (fun i => J.deeps_le its i)
    have DP := Lib.hid (fun i => J.deeps_pos (its.take i))
    have DA : Hid (J.deeps (its.take ni) = J.deeps its) := by show _ = _; rw [hni, List.take_length]
    obtain ⟨DI, hDI⟩ : ∃ d, d = J.deeps its := ⟨_, rfl⟩
    rw [← hDI] at DL DA hD ⊢
    obtain ⟨F, hF⟩ : ∃ F : Nat → Nat, F = fun i => J.deeps (its.take i) - 1 := ⟨_, rfl⟩
    have F0 : Hid (F 0 = 0) := by show _ = _; rw [hF]; rfl
    have FS : Hid (∀ i (h : i < its.length), F (i + 1) = max (F i) (its[i]'h).deep) := fun i h => by have := DS.out i h; have := DP.out i; rw [hF]; simp only; omega
    have FL : Hid (∀ i, F i + 1 ≤ DI) := fun i => by have := DL.out i; have := DP.out i; rw [hF]; simp only; omega
    have FA : Hid (F ni + 1 = DI) := by have := DA.out; have := DP.out ni; show _ = _; rw [hF]; simp only; omega
    rw [← HNI.out]
    clear DS DL DA DP hF hDI hni ht rt ft hN d1 din dout hk
    have G0 : Below w.heap.size w (w.alloc (.cells #[.int .i64 k, .int .i64 n, .string s, .slice A3 ni c3, .slice A4 ks.length c4] 25)) := (Below.refl _ _).alloc (Nat.le_refl _) _
    have gz0 : (w.alloc (.cells #[.int .i64 k, .int .i64 n, .string s, .slice A3 ni c3, .slice A4 ks.length c4] 25)).heap.size = w.heap.size + 1 := by simp
    have GZ0 := Lib.hid gz0
    clear gz0 hc3 hc4
    rcases q5 with ⟨q5, q6⟩ | q5
    all_goals
     go_enter Tryz.func13, Tryz.ntmps13
     go_wp2_with fail
     go_loopw [3, 17] (fun m t wr => ∃ p : Nat, p ≤ ni ∧ t = .int .i64 (p : Int) ∧ m = .int .i64 (F p : Int) ∧ Below (w.heap.size + 1) (w.alloc (.cells #[.int .i64 k, .int .i64 n, .string s, .slice A3 ni c3, .slice A4 ks.length c4] 25)) wr) (fun _ t _ => ni - (intOf t).toNat)
     case atStart => exact ⟨0, by omega, rfl, by rw [F0.out]; rfl, Below.refl _ _⟩
     case round =>
      obtain ⟨p, hp, rfl, rfl, bl⟩ := hrel
      have gsz := bl.size
      rw [GZ0.out] at gsz
      have gsz2 : w.heap.size ≤ wr.heap.size := by omega
      have blw := G0.trans (bl.mono (by omega))
      have hOwn := Nat.lt_of_lt_of_le (n := w.heap.size) sdd (Below.size bl)
      have hOwn1 := Nat.ne_of_gt hOwn
      have hOwn2 := Nat.ne_of_lt hOwn
      have hOwn := ocl bl w.heap.size 0
      have hOwn := ocl bl w.heap.size 1
      have hOwn := ocl bl w.heap.size 2
      have hOwn := ocl bl w.heap.size 3
      have hOwn := ocl bl w.heap.size 4
      have hOwn := ofr bl w.heap.size 0
      have hOwn := ofr bl w.heap.size 1
      have hOwn := ofr bl w.heap.size 2
      have hOwn := ofr bl w.heap.size 3
      have hOwn := ofr bl w.heap.size 4
      by_cases hpn : p < ni
      · have h1 : p < its.length := by rw [← HNI.out]; exact hpn
        obtain ⟨b1, o1, X3, x3, X4, x4, e1, hb1, y0, y1, y2, y3, y4, ty⟩ := (RT.out.below blw).cells h1
        have I2 := Lib.hid (fun W a => IH.out p h1 W X3 X4 x3 x4 a)
        have fs := FS.out p h1
        have fl := FL.out (p + 1)
        generalize its[p]'h1 = T at *
        subst e1
        have TY := Lib.hid (ty.more gsz2)
        obtain ⟨dT, hdT⟩ : ∃ d, d = T.deep := ⟨_, rfl⟩
        rw [← hdT] at fs I2
        have FS1 := Lib.hid fs
        have lb1 : b1 < wr.heap.size := by omega
        clear ty h1 hdT fs fl
        go_wp2_with fail
        with_reducible refine (I2.out _ ((TY.out.alloc (Nat.le_refl _) _).more (by simp))).mono ?_
        rintro e w3 ⟨rfl, b3⟩
        have b4 : Below (w.heap.size + 1) (w.alloc (.cells #[.int .i64 k, .int .i64 n, .string s, .slice (some ⟨b1, o1, none⟩) ni c3, .slice A4 ks.length c4] 25)) w3 := (bl.alloc gsz _).trans (b3.mono (by simp; omega))
        go_wp2_with fail
        go_roundw
        case rel => exact ⟨p + 1, by omega, by go_num, by rw [FS1.out]; congr 1; first | (split <;> omega) | omega, b4⟩
        case measure => simp [intOf]; omega
      · obtain rfl : p = ni := by omega
        have Z := Lib.hid FA.out
        have hDp : F p + 1 ≤ 1000000 := by have := Z.out; omega
        clear hpn
        go_wp2_with fail
        go_ret
        exact num_ret (by rw [← Z.out]; push_cast; omega) blw
  · have d0 := dout hk
    have q5 : (k != 5) = true := by rw [bne_iff_ne]; omega
    have q6 : (k != 6) = true := by rw [bne_iff_ne]; omega
    have Z := Lib.hid d0
    clear ht rt ft din dout hk
    go_enter Tryz.func13, Tryz.ntmps13
    go_wp2_with fail
    go_ret
    exact num_ret (by rw [Z.out]; rfl) bqq
end Go.Proofs.YthogheglddfniaaGreatDoor
namespace Go.Proofs.YthogheglddfniaaGreatDoor
open Go.ChangeShapes Go.WideShapes Go.ChangeAt Go.RowKit Mem
theorem mark_bys7 (w : World) (l : List UInt8) (fr : Nat × Nat) : Bys (w.alloc (.cells (cels l).toArray 5 fr)) (w.alloc (.cells (cels l).toArray 5 fr)).heap.size (some ⟨w.heap.size, 0, none⟩) l := by
 refine .inr ⟨w.heap.size, 0, rfl, by simp, fun k hk => ?_⟩
 rw [Nat.zero_add, World.cell?_alloc_mark, List.getElem?_toArray, cels_at hk]
theorem btw_c {w : World} {B : Nat} {j : J} {cs : List Value} (h : TreeS w (Btw B w.heap.size) j cs) : TreeC w w.heap.size j cs := h.keep (fun _ _ => rfl) (fun _ hb => hb.2)
def t12 : J := .mk 6 0 ⟨#[]⟩ [.mk 4 0 ⟨#[114, 101, 99, 111, 114, 100]⟩ [] [], .mk 4 0 ⟨#[114]⟩ [] [], .mk 4 0 ⟨#[110]⟩ [] [], .mk 5 0 ⟨#[]⟩ [.mk 6 0 ⟨#[]⟩ [.mk 4 0 ⟨#[102]⟩ [] [], .mk 5 0 ⟨#[]⟩ [.mk 4 0 ⟨#[110, 117, 108, 108]⟩ [] [], .mk 4 0 ⟨#[114]⟩ [] []] []] [⟨#[110, 97, 109, 101]⟩, ⟨#[116, 121, 112, 101]⟩]] []] [⟨#[116, 121, 112, 101]⟩, ⟨#[110, 97, 109, 101]⟩, ⟨#[110, 97, 109, 101, 115, 112, 97, 99, 101]⟩, ⟨#[102, 105, 101, 108, 100, 115]⟩]
def n12 : List Nd := [{ Nd.z 9 with name := ⟨#[110, 46, 114]⟩, al := [], fs := [⟨⟨#[102]⟩, [], 1, false, J.zero⟩] }, { Nd.z 13 with br := [2, 0] }, Nd.z 1]
def l12 : List UInt8 := [123, 34, 116, 121, 112, 101, 34, 58, 34, 114, 101, 99, 111, 114, 100, 34, 44, 34, 110, 97, 109, 101, 34, 58, 34, 114, 34, 44, 34, 110, 97, 109, 101, 115, 112, 97, 99, 101, 34, 58, 34, 110, 34, 44, 34, 102, 105, 101, 108, 100, 115, 34, 58, 91, 123, 34, 110, 97, 109, 101, 34, 58, 34, 102, 34, 44, 34, 116, 121, 112, 101, 34, 58, 91, 34, 110, 117, 108, 108, 34, 44, 34, 114, 34, 93, 125, 93, 125]
theorem cel12 : (cels l12).toArray = (Value.int .u8 123 :: Value.int .u8 34 :: Value.int .u8 116 :: Value.int .u8 121 :: Value.int .u8 112 :: Value.int .u8 101 :: Value.int .u8 34 :: Value.int .u8 58 :: Value.int .u8 34 :: Value.int .u8 114 :: Value.int .u8 101 :: Value.int .u8 99 :: Value.int .u8 111 :: Value.int .u8 114 :: Value.int .u8 100 :: Value.int .u8 34 :: Value.int .u8 44 :: Value.int .u8 34 :: Value.int .u8 110 :: Value.int .u8 97 :: Value.int .u8 109 :: Value.int .u8 101 :: Value.int .u8 34 :: Value.int .u8 58 :: Value.int .u8 34 :: Value.int .u8 114 :: Value.int .u8 34 :: Value.int .u8 44 :: Value.int .u8 34 :: Value.int .u8 110 :: Value.int .u8 97 :: Value.int .u8 109 :: Value.int .u8 101 :: Value.int .u8 115 :: Value.int .u8 112 :: Value.int .u8 97 :: Value.int .u8 99 :: Value.int .u8 101 :: Value.int .u8 34 :: Value.int .u8 58 :: Value.int .u8 34 :: Value.int .u8 110 :: Value.int .u8 34 :: Value.int .u8 44 :: Value.int .u8 34 :: Value.int .u8 102 :: Value.int .u8 105 :: Value.int .u8 101 :: Value.int .u8 108 :: Value.int .u8 100 :: Value.int .u8 115 :: Value.int .u8 34 :: Value.int .u8 58 :: Value.int .u8 91 :: Value.int .u8 123 :: Value.int .u8 34 :: Value.int .u8 110 :: Value.int .u8 97 :: Value.int .u8 109 :: Value.int .u8 101 :: Value.int .u8 34 :: Value.int .u8 58 :: Value.int .u8 34 :: Value.int .u8 102 :: Value.int .u8 34 :: Value.int .u8 44 :: Value.int .u8 34 :: Value.int .u8 116 :: Value.int .u8 121 :: Value.int .u8 112 :: Value.int .u8 101 :: Value.int .u8 34 :: Value.int .u8 58 :: Value.int .u8 91 :: Value.int .u8 34 :: Value.int .u8 110 :: Value.int .u8 117 :: Value.int .u8 108 :: Value.int .u8 108 :: Value.int .u8 34 :: Value.int .u8 44 :: Value.int .u8 34 :: Value.int .u8 114 :: Value.int .u8 34 :: Value.int .u8 93 :: Value.int .u8 125 :: Value.int .u8 93 :: Value.int .u8 125 :: [] : List Value).toArray := by kernel_rfl
theorem ex12p : Jp.parse l12 = (t12, 0) := by kernel_rfl
theorem ex12n : bnode 33 [] t12 ⟨#[]⟩ = .ok (n12, 0) := by kernel_rfl
theorem ex12w (i : Nat) : Sc.wt ⟨n12, 0⟩ i ≤ 1000 := by
 have k1 : Sc.wt ⟨n12, 0⟩ 1 = 1 := by rw [Sc.wt_fix, if_neg (by decide)]
 rcases Nat.lt_or_ge i 1 with h | h
 · obtain rfl : i = 0 := by omega
   rw [Sc.wt_fix, if_pos (by decide)]
   show capF (Sc.wt ⟨n12, 0⟩) [1] 1 ≤ 1000
   unfold capF capF
   show min (1 + Sc.wt ⟨n12, 0⟩ 1) 1001 ≤ 1000
   rw [k1]; decide
 · rw [Sc.wt_fix, if_neg]
   · omega
   · rcases Nat.lt_or_ge i 3 with g | g
     · obtain rfl | rfl : i = 1 ∨ i = 2 := by omega
       · decide
       · decide
     · rw [kind_er]
       show ¬ kindK (n12.map er) i = 9
       unfold kindK
       rw [List.getElem?_eq_none (by rw [List.length_map]; exact g)]
       decide
theorem ex12 : bbuild t12 = .ok n12 ∧ t12.wt ≤ 2500 ∧ t12.deep ≤ 1000000 := by
 have po := Jp.parse_out (l := l12) (by decide) (by rw [ex12p])
 rw [ex12p] at po
 obtain ⟨a, b, c, d, _⟩ := po
 exact ⟨bld_ok d ex12n ex12w, by decide, c⟩
theorem works12_any (w : World) (hL : LaidN w) : Calls Tryz.prog 8 #[] w (Told true w) := by
 have CS := cell_set
 have top := hL.top
 have cvb := fun w C n c => Lib.run_convert_bytes_const (P := Tryz.prog) w 50 5 C n c byteT.sl byteT.el
 have pa := parse_any (some ⟨w.heap.size, 0, none⟩) 88 l12 (w.alloc (.cells (cels l12).toArray 5 (88, 89))) (hL.alloc _) (mark_bys7 w l12 (88, 89)) (by decide) (by decide)
 rw [ex12p] at pa
 obtain ⟨eb, wb, db⟩ := ex12
 have BA := Lib.hid (fun W (hW : LaidN W) A3 A4 c3 c4 h => build_any t12 wb db W hW A3 A4 c3 c4 h (.ok n12) eb.symm)
 try dsimp only at pa
 obtain ⟨T, hT⟩ : ∃ T, T = t12 := ⟨_, rfl⟩
 rw [← hT] at pa BA
 have PA := Lib.hid pa
 have HL := Lib.hid (fun W (b : Below w.heap.size w W) => LaidN.below hL b)
 have cv1 := cvb w
 have zb : Below w.heap.size w (w.alloc (.cells (cels l12).toArray 5 (88, 89))) := (Below.refl _ _).alloc (Nat.le_refl _) _
 have BZ := Lib.hid zb
 clear pa cvb eb wb db hT zb
 go_enter Tryz.func8, Tryz.ntmps8
 simp only [List.append]
 go_wp2_with fail
 rw [← cel12]
 refine PA.out.mono ?_
 rintro e w1 ⟨A3, c3, A4, c4, rfl, tr, b1⟩
 have tr1 := Lib.hid (btw_c tr)
 have bw1 : Below w.heap.size w w1 := BZ.out.trans (b1.mono BZ.out.size)
 have s1 := bw1.size
 dsimp only at tr1 ⊢
 clear tr PA BZ cv1 b1
 obtain ⟨w2, hw2⟩ : ∃ W, W = (w1.alloc (.cells #[.int .i64 T.k, .int .i64 T.n, .string T.t, .slice A3 T.its.length c3, .slice A4 T.ks.length c4] 25)) := ⟨_, rfl⟩
 have b12 : Below w1.heap.size w1 w2 := by rw [hw2]; exact (Below.refl _ _).alloc (Nat.le_refl _) _
 have bw2 : Below w.heap.size w w2 := bw1.trans (b12.mono s1)
 have BX : B5 w2 w1.heap.size 25 (.int .i64 T.k) (.int .i64 T.n) (.string T.t) (.slice A3 T.its.length c3) (.slice A4 T.ks.length c4) := by rw [hw2]; exact B5.newat rfl
 have BC := BA.out w2 (HL.out w2 bw2) A3 A4 c3 c4 ((tr1.out.below b12).more b12.size)
 have HW2 := Lib.hid hw2
 rw [hw2] at BX BC
 replace BC := Lib.hid BC
 obtain ⟨_, _, _, _, _, _, _, _, _, _⟩ := B5.facts BX
 clear hw2 BA tr1 HL b12
 go_wp2_with fail
 with_reducible refine BC.out.mono ?_
 rintro e w3 hp
 rw [← HW2.out] at hp
 obtain ⟨b3, _, h3⟩ := hp
 obtain ⟨A, c, rfl, ns⟩ := h3 n12 rfl
 have bw3 : Below w.heap.size w w3 := bw2.trans (b3.mono bw2.size)
 obtain ⟨_, _, e, la, ra⟩ := Sc.out.1 ns.lies
 simp only [List.cons.injEq, Value.slice.injEq, true_and, and_true] at e
 obtain ⟨rfl, rfl⟩ := e
 dsimp only at ra
 obtain ⟨g0, o0, _, _, _, _, _, _, _, _, e0, hg0, ⟨_, c01, _, _, _, _, _, _, _, _⟩, _⟩ := nodes_at ra (i := 0) (by decide)
 obtain ⟨g1, o1, _, _, _, _, _, _, A9, c9, e1, hg1, ⟨_, _, _, _, _, _, _, _, _, c19⟩, l1⟩ := nodes_at ra (i := 1) (by decide)
 obtain ⟨g2, o2, _, _, _, _, _, _, _, _, e2, hg2, ⟨c20, _, _, _, _, _, _, _, _, _⟩, _⟩ := nodes_at ra (i := 2) (by decide)
 subst e0
 simp only [Option.some.injEq, Addr.mk.injEq, and_true] at e1 e2
 obtain ⟨rfl, rfl⟩ := e1
 obtain ⟨rfl, rfl⟩ := e2
 obtain ⟨_, _, _, _, _, _, _, _, ee, _, _, _, _, _, _, _, r9⟩ := Nd.out.1 l1
 simp only [List.cons.injEq, Value.slice.injEq, true_and, and_true] at ee
 obtain ⟨_, _, _, rfl, rfl⟩ := ee
 obtain ⟨g9, o9, rfl, hg9, t9⟩ := ints_at r9 (i := 1) (by decide)
 replace c01 : w3.cell? ⟨g0, o0 + 1, none⟩ = some (.string ⟨#[110, 46, 114]⟩) := by simpa [n12] using c01
 replace c19 : w3.cell? ⟨g0, o0 + 19, none⟩ = some (.slice (some ⟨g9, o9, none⟩) 2 c9) := by simpa [n12, Nat.add_assoc] using c19
 replace c20 : w3.cell? ⟨g0, o0 + 20, none⟩ = some (.int .i64 1) := by simpa [n12, Nd.z] using c20
 replace t9 : w3.cell? ⟨g9, o9 + 1, none⟩ = some (.int .i64 0) := by simpa [n12] using t9
 rw [show n12.length = 3 from rfl]
 have s3 := bw3.size
 clear ns la ra l1 r9 h3 b3 BC
 go_wp2_with fail
 go_ret
 exact ⟨rfl, bqq⟩
end Go.Proofs.YthogheglddfniaaGreatDoor
