/- Joined by tools/bundle.py: JCLst J7Law BWk BdU. -/
import Derived.Lib.SlBytesConst
import Derived.KernelRfl
import Derived.Test.YthogheglddfniaaGreatDoorQ3
import Derived.Test.YthogheglddfniaaGreatDoorQ8
import Derived.Test.YthogheglddfniaaGreatDoorQ10
import Derived.Test.YthogheglddfniaaGreatDoorQ21
import Derived.Test.YthogheglddfniaaGreatDoorQ26
import Derived.Test.YthogheglddfniaaGreatDoorQ27
import Derived.Test.YthogheglddfniaaGreatDoorQ29
import Derived.Test.YthogheglddfniaaGreatDoorQ0
set_option maxRecDepth 100000
set_option maxHeartbeats 16000000
namespace Go.Proofs.YthogheglddfniaaGreatDoor
open Go.ChangeShapes Go.WideShapes Go.ChangeAt Go.RowKit Mem
theorem list_step (f : Nat) (hV : ∀ g, g <= f -> CVal g) : CLst (f + 1) := by
 intro l A c g p d w C hcur hp hf hd
 have CS := cell_set
 have hg := hcur.lt
 have W4 : Sav g g w.heap.size w ((((w.alloc (.cells #[wv g] 74)).alloc (.cells #[.int .i64 (d : Int)] 3)).alloc (.cells #[.int .i64 0, .int .i64 0, .string ⟨#[]⟩, .slice none 0 0, .slice none 0 0] 25)).alloc (.cells #[.int .i64 5, .int .i64 0, .string ⟨#[]⟩, .slice none 0 0, .slice none 0 0] 25)) := svq
 have C4 := C.sav W4 (Nat.le_of_lt hg) (nlr _)
 have t4 : Cur ((((w.alloc (.cells #[wv g] 74)).alloc (.cells #[.int .i64 (d : Int)] 3)).alloc (.cells #[.int .i64 0, .int .i64 0, .string ⟨#[]⟩, .slice none 0 0, .slice none 0 0] 25)).alloc (.cells #[.int .i64 5, .int .i64 0, .string ⟨#[]⟩, .slice none 0 0, .slice none 0 0] 25)) g A l.length c p := (((hcur.alloc _).alloc _).alloc _).alloc _
 have bk4 : B5 ((((w.alloc (.cells #[wv g] 74)).alloc (.cells #[.int .i64 (d : Int)] 3)).alloc (.cells #[.int .i64 0, .int .i64 0, .string ⟨#[]⟩, .slice none 0 0, .slice none 0 0] 25)).alloc (.cells #[.int .i64 5, .int .i64 0, .string ⟨#[]⟩, .slice none 0 0, .slice none 0 0] 25)) (w.heap.size + 3) 25 (.int .i64 5) (.int .i64 0) (.string ⟨#[]⟩) (.slice none 0 0) (.slice none 0 0) := B5.newat smq
 have cap4 : Cap g (w.heap.size + 3) ((((w.alloc (.cells #[wv g] 74)).alloc (.cells #[.int .i64 (d : Int)] 3)).alloc (.cells #[.int .i64 0, .int .i64 0, .string ⟨#[]⟩, .slice none 0 0, .slice none 0 0] 25)).alloc (.cells #[.int .i64 5, .int .i64 0, .string ⟨#[]⟩, .slice none 0 0, .slice none 0 0] 25)).heap.size w.heap.size (w.heap.size + 1) d ((((w.alloc (.cells #[wv g] 74)).alloc (.cells #[.int .i64 (d : Int)] 3)).alloc (.cells #[.int .i64 0, .int .i64 0, .string ⟨#[]⟩, .slice none 0 0, .slice none 0 0] 25)).alloc (.cells #[.int .i64 5, .int .i64 0, .string ⟨#[]⟩, .slice none 0 0, .slice none 0 0] 25)) := ⟨by go_simp, by go_simp, by simp; omega, by simp, by omega, by omega, by omega, by omega⟩
 have sz4 : ((((w.alloc (.cells #[wv g] 74)).alloc (.cells #[.int .i64 (d : Int)] 3)).alloc (.cells #[.int .i64 0, .int .i64 0, .string ⟨#[]⟩, .slice none 0 0, .slice none 0 0] 25)).alloc (.cells #[.int .i64 5, .int .i64 0, .string ⟨#[]⟩, .slice none 0 0, .slice none 0 0] 25)).heap.size = w.heap.size + 4 := by simp
 have pc := parts_4 f hV l A c g p d _ (w.heap.size + 3) w.heap.size (w.heap.size + 1) C4 t4 hp hf hd bk4 cap4 omq
 obtain ⟨R, hR⟩ : ∃ R, R = (if (Jx.tak l p).2 = 0 /\ (Jx.tak l p).1.k = 4 then ((.mk (Jp.kindOf 4) 0 Jp.nil_ [] [], (Jx.tak l p).1.x, 0) : Jp.R) else Jp.pits (f + 1) l p d 4 [] []) := ⟨_, rfl⟩
 rw [← hR] at pc ⊢
 have gn : w.heap.size + 2 ≠ g := by omega
 have gn2 : w.heap.size + 2 ≠ w.heap.size + 3 := by omega
 have PC := lhq pc
 have SZ4 := lhq sz4
 clear pc hR hV C C4 bk4 cap4 t4 sz4
 go_enter Tryz.func123, Tryz.ntmps123
 go_wp2_with fail
 with_reducible refine PC.out.mono ?_
 rintro e w5 ⟨N, ks, js, css, v3, v4, q, rfl, st, hN, hr, hq, hj, hk, t5, s5⟩
 have z5 := s5.size
 rw [SZ4.out] at hN z5
 have hO := nll (n := (w.heap.size + 2)) sdd (Mem.Sav.size s5)
 have hO1 := Nat.ne_of_gt hO
 have hO2 := Nat.ne_of_lt hO
 have hO := (Mem.Sav.cell s5 (p := ⟨(w.heap.size + 2), 0, none⟩) sdd nqq nqq).trans gsr
 have hO := (Mem.Sav.cell s5 (p := ⟨(w.heap.size + 2), 1, none⟩) sdd nqq nqq).trans gsr
 have hO := (Mem.Sav.cell s5 (p := ⟨(w.heap.size + 2), 2, none⟩) sdd nqq nqq).trans gsr
 have hO := (Mem.Sav.cell s5 (p := ⟨(w.heap.size + 2), 3, none⟩) sdd nqq nqq).trans gsr
 have hO := (Mem.Sav.cell s5 (p := ⟨(w.heap.size + 2), 4, none⟩) sdd nqq nqq).trans gsr
 have hO := (Mem.Sav.frozen s5 (p := ⟨(w.heap.size + 2), 0, none⟩) sdd nqq nqq).trans gsr
 have hO := (Mem.Sav.frozen s5 (p := ⟨(w.heap.size + 2), 1, none⟩) sdd nqq nqq).trans gsr
 have hO := (Mem.Sav.frozen s5 (p := ⟨(w.heap.size + 2), 2, none⟩) sdd nqq nqq).trans gsr
 have hO := (Mem.Sav.frozen s5 (p := ⟨(w.heap.size + 2), 3, none⟩) sdd nqq nqq).trans gsr
 have hO := (Mem.Sav.frozen s5 (p := ⟨(w.heap.size + 2), 4, none⟩) sdd nqq nqq).trans gsr
 obtain ⟨A3, c3, A4, c4, rfl, rfl, tr⟩ := st.tree omq omq
 obtain ⟨k0, k1, k2, k3, k4, r0, r1, r2, r3, r4⟩ := st.bk.facts
 have s6 := s5.less (B' := w.heap.size) (by rw [SZ4.out]; omega) omq
 have HN := lhq hN
 clear hN
 go_wp2_with fail
 try simp only [Exit.inBlock, Exit.then]
 refine post_j2 (x0 := .int .i64 5) (x1 := .int .i64 0) (x2 := .string ⟨#[]⟩) (x3 := (.slice A3 js.length c3)) (x4 := (.slice A4 ks.length c4)) rfl rfl rfl gsq gsq gsq gsq gsq ?_
 refine cv_ret (j := .mk 5 0 ⟨#[]⟩ js ks) (q := q) rfl tr (by have := HN.out; omega) ?_ smq (fun e => ⟨(hr e).1.symm, (hr e).2⟩) hq (by (repeat' (first | with_reducible assumption | with_reducible refine Cur.drewN ?_ _ | with_reducible refine Cur.drew ?_ | with_reducible refine Cur.alloc ?_ _ | (with_reducible refine Cur.past ?_ ?_ _; rotate_left; focus (first | assumption | (simp; done) | (simp; omega) | (dsimp only; omega) | omega | fail)) | with_reducible refine Cur.go (p := q) ?_ | fail))) ?_
 · have HG : ∀ b, Btw N w5.heap.size b -> b ≠ w.heap.size + 2 := fun b hb => by have := hb.1; have := HN.out; omega
   repeat (with_reducible refine KeepS.set ?_ HG _ _)
   with_reducible exact KeepS.refl _ _
 · have s7 := W4.trans s6
   exact svq
theorem object_step (f : Nat) (hV : ∀ g, g <= f -> CNxt g) : CObj (f + 1) := by
 intro l A c g p d w C hcur hp hf hd
 have CS := cell_set
 have hg := hcur.lt
 have W4 : Sav g g w.heap.size w ((((w.alloc (.cells #[wv g] 74)).alloc (.cells #[.int .i64 (d : Int)] 3)).alloc (.cells #[.int .i64 0, .int .i64 0, .string ⟨#[]⟩, .slice none 0 0, .slice none 0 0] 25)).alloc (.cells #[.int .i64 6, .int .i64 0, .string ⟨#[]⟩, .slice none 0 0, .slice none 0 0] 25)) := svq
 have C4 := C.sav W4 (Nat.le_of_lt hg) (nlr _)
 have t4 : Cur ((((w.alloc (.cells #[wv g] 74)).alloc (.cells #[.int .i64 (d : Int)] 3)).alloc (.cells #[.int .i64 0, .int .i64 0, .string ⟨#[]⟩, .slice none 0 0, .slice none 0 0] 25)).alloc (.cells #[.int .i64 6, .int .i64 0, .string ⟨#[]⟩, .slice none 0 0, .slice none 0 0] 25)) g A l.length c p := (((hcur.alloc _).alloc _).alloc _).alloc _
 have bk4 : B5 ((((w.alloc (.cells #[wv g] 74)).alloc (.cells #[.int .i64 (d : Int)] 3)).alloc (.cells #[.int .i64 0, .int .i64 0, .string ⟨#[]⟩, .slice none 0 0, .slice none 0 0] 25)).alloc (.cells #[.int .i64 6, .int .i64 0, .string ⟨#[]⟩, .slice none 0 0, .slice none 0 0] 25)) (w.heap.size + 3) 25 (.int .i64 6) (.int .i64 0) (.string ⟨#[]⟩) (.slice none 0 0) (.slice none 0 0) := B5.newat smq
 have cap4 : Cap g (w.heap.size + 3) ((((w.alloc (.cells #[wv g] 74)).alloc (.cells #[.int .i64 (d : Int)] 3)).alloc (.cells #[.int .i64 0, .int .i64 0, .string ⟨#[]⟩, .slice none 0 0, .slice none 0 0] 25)).alloc (.cells #[.int .i64 6, .int .i64 0, .string ⟨#[]⟩, .slice none 0 0, .slice none 0 0] 25)).heap.size w.heap.size (w.heap.size + 1) d ((((w.alloc (.cells #[wv g] 74)).alloc (.cells #[.int .i64 (d : Int)] 3)).alloc (.cells #[.int .i64 0, .int .i64 0, .string ⟨#[]⟩, .slice none 0 0, .slice none 0 0] 25)).alloc (.cells #[.int .i64 6, .int .i64 0, .string ⟨#[]⟩, .slice none 0 0, .slice none 0 0] 25)) := ⟨by go_simp, by go_simp, by simp; omega, by simp, by omega, by omega, by omega, by omega⟩
 have sz4 : ((((w.alloc (.cells #[wv g] 74)).alloc (.cells #[.int .i64 (d : Int)] 3)).alloc (.cells #[.int .i64 0, .int .i64 0, .string ⟨#[]⟩, .slice none 0 0, .slice none 0 0] 25)).alloc (.cells #[.int .i64 6, .int .i64 0, .string ⟨#[]⟩, .slice none 0 0, .slice none 0 0] 25)).heap.size = w.heap.size + 4 := by simp
 have pc := parts_2 f hV l A c g p d _ (w.heap.size + 3) w.heap.size (w.heap.size + 1) C4 t4 hp hf hd bk4 cap4 omq
 obtain ⟨R, hR⟩ : ∃ R, R = (if (Jx.tak l p).2 = 0 /\ (Jx.tak l p).1.k = 2 then ((.mk (Jp.kindOf 2) 0 Jp.nil_ [] [], (Jx.tak l p).1.x, 0) : Jp.R) else Jp.pits (f + 1) l p d 2 [] []) := ⟨_, rfl⟩
 rw [← hR] at pc ⊢
 have gn : w.heap.size + 2 ≠ g := by omega
 have gn2 : w.heap.size + 2 ≠ w.heap.size + 3 := by omega
 have PC := lhq pc
 have SZ4 := lhq sz4
 clear pc hR hV C C4 bk4 cap4 t4 sz4
 go_enter Tryz.func124, Tryz.ntmps124
 go_wp2_with fail
 with_reducible refine PC.out.mono ?_
 rintro e w5 ⟨N, ks, js, css, v3, v4, q, rfl, st, hN, hr, hq, hj, hk, t5, s5⟩
 have z5 := s5.size
 rw [SZ4.out] at hN z5
 have hO := nll (n := (w.heap.size + 2)) sdd (Mem.Sav.size s5)
 have hO1 := Nat.ne_of_gt hO
 have hO2 := Nat.ne_of_lt hO
 have hO := (Mem.Sav.cell s5 (p := ⟨(w.heap.size + 2), 0, none⟩) sdd nqq nqq).trans gsr
 have hO := (Mem.Sav.cell s5 (p := ⟨(w.heap.size + 2), 1, none⟩) sdd nqq nqq).trans gsr
 have hO := (Mem.Sav.cell s5 (p := ⟨(w.heap.size + 2), 2, none⟩) sdd nqq nqq).trans gsr
 have hO := (Mem.Sav.cell s5 (p := ⟨(w.heap.size + 2), 3, none⟩) sdd nqq nqq).trans gsr
 have hO := (Mem.Sav.cell s5 (p := ⟨(w.heap.size + 2), 4, none⟩) sdd nqq nqq).trans gsr
 have hO := (Mem.Sav.frozen s5 (p := ⟨(w.heap.size + 2), 0, none⟩) sdd nqq nqq).trans gsr
 have hO := (Mem.Sav.frozen s5 (p := ⟨(w.heap.size + 2), 1, none⟩) sdd nqq nqq).trans gsr
 have hO := (Mem.Sav.frozen s5 (p := ⟨(w.heap.size + 2), 2, none⟩) sdd nqq nqq).trans gsr
 have hO := (Mem.Sav.frozen s5 (p := ⟨(w.heap.size + 2), 3, none⟩) sdd nqq nqq).trans gsr
 have hO := (Mem.Sav.frozen s5 (p := ⟨(w.heap.size + 2), 4, none⟩) sdd nqq nqq).trans gsr
 obtain ⟨A3, c3, A4, c4, rfl, rfl, tr⟩ := st.tree omq omq
 obtain ⟨k0, k1, k2, k3, k4, r0, r1, r2, r3, r4⟩ := st.bk.facts
 have s6 := s5.less (B' := w.heap.size) (by rw [SZ4.out]; omega) omq
 have HN := lhq hN
 clear hN
 go_wp2_with fail
 try simp only [Exit.inBlock, Exit.then]
 refine post_j2 (x0 := .int .i64 6) (x1 := .int .i64 0) (x2 := .string ⟨#[]⟩) (x3 := (.slice A3 js.length c3)) (x4 := (.slice A4 ks.length c4)) rfl rfl rfl gsq gsq gsq gsq gsq ?_
 refine cv_ret (j := .mk 6 0 ⟨#[]⟩ js ks) (q := q) rfl tr (by have := HN.out; omega) ?_ smq (fun e => ⟨(hr e).1.symm, (hr e).2⟩) hq (by (repeat' (first | with_reducible assumption | with_reducible refine Cur.drewN ?_ _ | with_reducible refine Cur.drew ?_ | with_reducible refine Cur.alloc ?_ _ | (with_reducible refine Cur.past ?_ ?_ _; rotate_left; focus (first | assumption | (simp; done) | (simp; omega) | (dsimp only; omega) | omega | fail)) | with_reducible refine Cur.go (p := q) ?_ | fail))) ?_
 · have HG : ∀ b, Btw N w5.heap.size b -> b ≠ w.heap.size + 2 := fun b hb => by have := hb.1; have := HN.out; omega
   repeat (with_reducible refine KeepS.set ?_ HG _ _)
   with_reducible exact KeepS.refl _ _
 · have s7 := W4.trans s6
   exact svq
theorem c_all (f : Nat) : CVal f /\ CLst f /\ CObj f := by
 induction f using Nat.strongRecOn with
 | ind f ih =>
  cases f with
  | zero => exact ⟨fun l A c g p d w _ _ _ _ h => absurd h (Nat.not_lt_zero _), fun l A c g p d w _ _ _ h => absurd h (Nat.not_lt_zero _), fun l A c g p d w _ _ _ h => absurd h (Nat.not_lt_zero _)⟩
  | succ f => exact ⟨cvalue_step f (ih f (Nat.lt_succ_self f)).2.1 (ih f (Nat.lt_succ_self f)).2.2, list_step f fun g hg => (ih g (Nat.lt_succ_of_le hg)).1, object_step f fun g hg => next_step g (ih g (Nat.lt_succ_of_le hg)).1⟩
end Go.Proofs.YthogheglddfniaaGreatDoor
namespace Go.Proofs.YthogheglddfniaaGreatDoor
open Go.ChangeShapes Go.WideShapes Go.ChangeAt Go.RowKit Mem
theorem parse_any (A : Option Addr) (c : Nat) (l : List UInt8) (w : World) (hL : Laid w) (hb : Bys w w.heap.size A l) (hl : l.length <= 100000000) (hc : l.length <= c) :
 Calls Tryz.prog 20 #[.slice A l.length c] w (Prs (Jp.parse l) w) := by
 have CS := cell_set
 have top := hL.top
 obtain ⟨R, hR⟩ : ∃ R, R = Jp.parse l := ⟨_, rfl⟩
 rw [← hR]
 unfold Jp.parse at hR
 by_cases h0 : 20000 < l.length
 · rw [if_pos h0] at hR
   have Z := lhq hR
   have q0 : (decide ((20000 : Int) < (l.length : Int))) = true := by rw [decide_eq_true_iff]; omega
   clear hR hb
   go_enter Tryz.func20, Tryz.ntmps20
   go_wp2_with fail
   try simp only [Exit.inBlock, Exit.then]
   refine post_j2 (x0 := .int .i64 0) (x1 := .int .i64 0) (x2 := .string ⟨#[]⟩) (x3 := (.slice none 0 0)) (x4 := (.slice none 0 0)) rfl rfl rfl gsq gsq gsq gsq gsq ?_
   exact prs_bad Z.out rfl bqq
 · rw [if_neg h0] at hR
   have q0 : (decide ((20000 : Int) < (l.length : Int))) = false := by rw [decide_eq_false_iff_not]; omega
   have W2 : Below w.heap.size w ((w.alloc (.cells #[.int .i64 0, .int .i64 0, .string ⟨#[]⟩, .slice none 0 0, .slice none 0 0] 25)).alloc (.cells #[.slice A l.length c, .int .i64 0] 72)) := bqq
   have sz2 : ((w.alloc (.cells #[.int .i64 0, .int .i64 0, .string ⟨#[]⟩, .slice none 0 0, .slice none 0 0] 25)).alloc (.cells #[.slice A l.length c, .int .i64 0] 72)).heap.size = w.heap.size + 2 := by simp
   have C2 : Cx l A c (w.heap.size + 1) ((w.alloc (.cells #[.int .i64 0, .int .i64 0, .string ⟨#[]⟩, .slice none 0 0, .slice none 0 0] 25)).alloc (.cells #[.slice A l.length c, .int .i64 0] 72)) :=
    ⟨hL.below W2 top, by omega, (hb.below W2).more omq, hl, hc⟩
   have t2 : Cur ((w.alloc (.cells #[.int .i64 0, .int .i64 0, .string ⟨#[]⟩, .slice none 0 0, .slice none 0 0] 25)).alloc (.cells #[.slice A l.length c, .int .i64 0] 72)) (w.heap.size + 1) A l.length c 0 := B2.newat smq
   have nx := next_step (2 * l.length + 3) (c_all _).1 l A c (w.heap.size + 1) 0 0 _ C2 t2 (Nat.zero_le _) omq omq
   have pos := (Jp.pos (2 * l.length + 3)).1 l 0 0 (Nat.zero_le _)
   obtain ⟨⟨j0, q0', er⟩, hr⟩ : ∃ r, r = Jp.pval (2 * l.length + 3) l 0 0 := ⟨_, rfl⟩
   rw [← hr] at nx hR pos
   simp only at hR pos
   rw [show ((0 : Nat) : Int) = 0 from rfl] at nx
   have NX := lhq nx
   have CX := lhq C2
   have SZ2 := lhq sz2
   have HR := lhq hR
   have POS := lhq pos
   clear nx C2 hr sz2 t2 h0 hb hR pos
   go_enter Tryz.func20, Tryz.ntmps20
   go_wp2_with fail
   with_reducible refine NX.out.mono ?_
   rintro e w3 ⟨j, A3, c3, A4, c4, q, rfl, tr, hj, hq, t3, s3⟩
   simp only at hj
   have z3 := s3.size
   rw [SZ2.out] at z3
   have b3 := s3.bel (B' := w.heap.size) omq omq (by rw [SZ2.out]; omega)
   have bw3 : Below w.heap.size w w3 := W2.trans b3
   have hO := nll (n := w.heap.size) sdd (Mem.Sav.size s3)
   have hO1 := Nat.ne_of_gt hO
   have hO2 := Nat.ne_of_lt hO
   have hO := (Mem.Sav.cell s3 (p := ⟨w.heap.size, 0, none⟩) sdd nqq nqq).trans gsr
   have hO := (Mem.Sav.cell s3 (p := ⟨w.heap.size, 1, none⟩) sdd nqq nqq).trans gsr
   have hO := (Mem.Sav.cell s3 (p := ⟨w.heap.size, 2, none⟩) sdd nqq nqq).trans gsr
   have hO := (Mem.Sav.cell s3 (p := ⟨w.heap.size, 3, none⟩) sdd nqq nqq).trans gsr
   have hO := (Mem.Sav.cell s3 (p := ⟨w.heap.size, 4, none⟩) sdd nqq nqq).trans gsr
   have hO := (Mem.Sav.frozen s3 (p := ⟨w.heap.size, 0, none⟩) sdd nqq nqq).trans gsr
   have hO := (Mem.Sav.frozen s3 (p := ⟨w.heap.size, 1, none⟩) sdd nqq nqq).trans gsr
   have hO := (Mem.Sav.frozen s3 (p := ⟨w.heap.size, 2, none⟩) sdd nqq nqq).trans gsr
   have hO := (Mem.Sav.frozen s3 (p := ⟨w.heap.size, 3, none⟩) sdd nqq nqq).trans gsr
   have hO := (Mem.Sav.frozen s3 (p := ⟨w.heap.size, 4, none⟩) sdd nqq nqq).trans gsr
   have hR := HR.out
   have pos := POS.out
   clear HR POS
   by_cases he : er = 0
   · subst he
     obtain ⟨rfl, rfl⟩ := hj rfl
     rw [if_neg smq] at hR
     have qle := (pos rfl).2
     have C4 := (CX.out.sav s3 (by rw [SZ2.out]; omega) (nlr _)).sav (show Sav (w.heap.size + 1) (w.heap.size + 1) w3.heap.size w3 (w3.alloc (.cells #[.int .i64 j.k, .int .i64 j.n, .string j.t, .slice A3 j.its.length c3, .slice A4 j.ks.length c4] 25)) from svq) omq (nlr _)
     have t4 := t3.alloc (.cells #[.int .i64 j.k, .int .i64 j.n, .string j.t, .slice A3 j.its.length c3, .slice A4 j.ks.length c4] 25)
     have ju := just_any l A c (w.heap.size + 1) q 11 _ C4 t4 qle
     unfold Jst at ju
     rw [show ((11 : Nat) : Int) = 11 from rfl] at ju
     have hRj : R = if jus (Jx.tak l q) 11 = 0 then (j, 0) else (J.zero, jus (Jx.tak l q) 11) := by
      rw [hR]
      unfold jus
      by_cases g1 : (Jx.tak l q).2 = 0
      · by_cases g2 : (Jx.tak l q).1.k = 11
        · simp [g1, g2]
        · simp [g1, g2]
      · simp [g1]
     obtain ⟨ju', hju⟩ : ∃ z, z = jus (Jx.tak l q) 11 := ⟨_, rfl⟩
     rw [← hju] at ju hRj
     have JU := lhq ju
     have SP : Hid (∀ b, Btw ((w.alloc (.cells #[.int .i64 0, .int .i64 0, .string ⟨#[]⟩, .slice none 0 0, .slice none 0 0] 25)).alloc (.cells #[.slice A l.length c, .int .i64 0] 72)).heap.size w3.heap.size b -> b < w3.heap.size /\ w.heap.size + 2 <= b) := fun b hb => ⟨hb.2, by have := hb.1; rw [SZ2.out] at this; exact this⟩
     have lt3 : w.heap.size < w3.heap.size := by omega
     clear ju hR hju hj C4 NX pos
     by_cases hz : ju' = 0
     · subst hz
       rw [if_pos rfl] at hRj
       have Z := lhq hRj
       clear hRj
       go_wp2_with fail
       with_reducible refine JU.out.mono ?_
       rintro e w5 ⟨rfl, t5, s5⟩
       have z5 := s5.size
       simp at z5
       have hO := nll (n := w3.heap.size) sdd (Mem.Sav.size s5)
       have hO1 := Nat.ne_of_gt hO
       have hO2 := Nat.ne_of_lt hO
       have hO := (Mem.Sav.cell s5 (p := ⟨w3.heap.size, 0, none⟩) sdd nqq nqq).trans gsr
       have hO := (Mem.Sav.cell s5 (p := ⟨w3.heap.size, 1, none⟩) sdd nqq nqq).trans gsr
       have hO := (Mem.Sav.cell s5 (p := ⟨w3.heap.size, 2, none⟩) sdd nqq nqq).trans gsr
       have hO := (Mem.Sav.cell s5 (p := ⟨w3.heap.size, 3, none⟩) sdd nqq nqq).trans gsr
       have hO := (Mem.Sav.cell s5 (p := ⟨w3.heap.size, 4, none⟩) sdd nqq nqq).trans gsr
       have hO := (Mem.Sav.frozen s5 (p := ⟨w3.heap.size, 0, none⟩) sdd nqq nqq).trans gsr
       have hO := (Mem.Sav.frozen s5 (p := ⟨w3.heap.size, 1, none⟩) sdd nqq nqq).trans gsr
       have hO := (Mem.Sav.frozen s5 (p := ⟨w3.heap.size, 2, none⟩) sdd nqq nqq).trans gsr
       have hO := (Mem.Sav.frozen s5 (p := ⟨w3.heap.size, 3, none⟩) sdd nqq nqq).trans gsr
       have hO := (Mem.Sav.frozen s5 (p := ⟨w3.heap.size, 4, none⟩) sdd nqq nqq).trans gsr
       have hO := nll (n := w.heap.size) sdd (Mem.Sav.size s5)
       have hO1 := Nat.ne_of_gt hO
       have hO2 := Nat.ne_of_lt hO
       have hO := (Mem.Sav.cell s5 (p := ⟨w.heap.size, 0, none⟩) sdd nqq nqq).trans gsr
       have hO := (Mem.Sav.cell s5 (p := ⟨w.heap.size, 1, none⟩) sdd nqq nqq).trans gsr
       have hO := (Mem.Sav.cell s5 (p := ⟨w.heap.size, 2, none⟩) sdd nqq nqq).trans gsr
       have hO := (Mem.Sav.cell s5 (p := ⟨w.heap.size, 3, none⟩) sdd nqq nqq).trans gsr
       have hO := (Mem.Sav.cell s5 (p := ⟨w.heap.size, 4, none⟩) sdd nqq nqq).trans gsr
       have hO := (Mem.Sav.frozen s5 (p := ⟨w.heap.size, 0, none⟩) sdd nqq nqq).trans gsr
       have hO := (Mem.Sav.frozen s5 (p := ⟨w.heap.size, 1, none⟩) sdd nqq nqq).trans gsr
       have hO := (Mem.Sav.frozen s5 (p := ⟨w.heap.size, 2, none⟩) sdd nqq nqq).trans gsr
       have hO := (Mem.Sav.frozen s5 (p := ⟨w.heap.size, 3, none⟩) sdd nqq nqq).trans gsr
       have hO := (Mem.Sav.frozen s5 (p := ⟨w.heap.size, 4, none⟩) sdd nqq nqq).trans gsr
       have b5 := s5.bel (B' := w.heap.size) omq omq (by simp; omega)
       have bw5 : Below w.heap.size w w5 := (bw3.alloc omq _).trans b5
       go_wp2_with fail
       try simp only [Exit.inBlock, Exit.then]
       refine post_j2 (x0 := .int .i64 j.k) (x1 := .int .i64 j.n) (x2 := .string j.t) (x3 := (.slice A3 j.its.length c3)) (x4 := (.slice A4 j.ks.length c4)) rfl rfl rfl gsq gsq gsq gsq gsq ?_
       refine prs_ok Z.out tr (by rw [SZ2.out]; omega) ?_ ?_ bqq
       · have HG : ∀ b, Btw ((w.alloc (.cells #[.int .i64 0, .int .i64 0, .string ⟨#[]⟩, .slice none 0 0, .slice none 0 0] 25)).alloc (.cells #[.slice A l.length c, .int .i64 0] 72)).heap.size w3.heap.size b -> b ≠ w.heap.size := fun b hb => by have := (SP.out b hb).2; omega
         repeat (with_reducible refine KeepS.set ?_ HG _ _)
         exact KeepS.trans (fun p hp => World.cell?_alloc_lt _ _ p hp.2) (s5.keeps (fun b hb => by have := SP.out b hb; simp; omega))
       · simp; omega
     · rw [if_neg hz] at hRj
       have Z := lhq hRj
       have qe : ((ju' : Int) != 0) = true := by rw [bne_iff_ne]; omega
       clear hRj hz
       go_wp2_with fail
       with_reducible refine JU.out.mono ?_
       rintro e w5 ⟨rfl, t5, s5⟩
       have z5 := s5.size
       simp at z5
       have hO := nll (n := w3.heap.size) sdd (Mem.Sav.size s5)
       have hO1 := Nat.ne_of_gt hO
       have hO2 := Nat.ne_of_lt hO
       have hO := (Mem.Sav.cell s5 (p := ⟨w3.heap.size, 0, none⟩) sdd nqq nqq).trans gsr
       have hO := (Mem.Sav.cell s5 (p := ⟨w3.heap.size, 1, none⟩) sdd nqq nqq).trans gsr
       have hO := (Mem.Sav.cell s5 (p := ⟨w3.heap.size, 2, none⟩) sdd nqq nqq).trans gsr
       have hO := (Mem.Sav.cell s5 (p := ⟨w3.heap.size, 3, none⟩) sdd nqq nqq).trans gsr
       have hO := (Mem.Sav.cell s5 (p := ⟨w3.heap.size, 4, none⟩) sdd nqq nqq).trans gsr
       have hO := (Mem.Sav.frozen s5 (p := ⟨w3.heap.size, 0, none⟩) sdd nqq nqq).trans gsr
       have hO := (Mem.Sav.frozen s5 (p := ⟨w3.heap.size, 1, none⟩) sdd nqq nqq).trans gsr
       have hO := (Mem.Sav.frozen s5 (p := ⟨w3.heap.size, 2, none⟩) sdd nqq nqq).trans gsr
       have hO := (Mem.Sav.frozen s5 (p := ⟨w3.heap.size, 3, none⟩) sdd nqq nqq).trans gsr
       have hO := (Mem.Sav.frozen s5 (p := ⟨w3.heap.size, 4, none⟩) sdd nqq nqq).trans gsr
       have hO := nll (n := w.heap.size) sdd (Mem.Sav.size s5)
       have hO1 := Nat.ne_of_gt hO
       have hO2 := Nat.ne_of_lt hO
       have hO := (Mem.Sav.cell s5 (p := ⟨w.heap.size, 0, none⟩) sdd nqq nqq).trans gsr
       have hO := (Mem.Sav.cell s5 (p := ⟨w.heap.size, 1, none⟩) sdd nqq nqq).trans gsr
       have hO := (Mem.Sav.cell s5 (p := ⟨w.heap.size, 2, none⟩) sdd nqq nqq).trans gsr
       have hO := (Mem.Sav.cell s5 (p := ⟨w.heap.size, 3, none⟩) sdd nqq nqq).trans gsr
       have hO := (Mem.Sav.cell s5 (p := ⟨w.heap.size, 4, none⟩) sdd nqq nqq).trans gsr
       have hO := (Mem.Sav.frozen s5 (p := ⟨w.heap.size, 0, none⟩) sdd nqq nqq).trans gsr
       have hO := (Mem.Sav.frozen s5 (p := ⟨w.heap.size, 1, none⟩) sdd nqq nqq).trans gsr
       have hO := (Mem.Sav.frozen s5 (p := ⟨w.heap.size, 2, none⟩) sdd nqq nqq).trans gsr
       have hO := (Mem.Sav.frozen s5 (p := ⟨w.heap.size, 3, none⟩) sdd nqq nqq).trans gsr
       have hO := (Mem.Sav.frozen s5 (p := ⟨w.heap.size, 4, none⟩) sdd nqq nqq).trans gsr
       have b5 := s5.bel (B' := w.heap.size) omq omq (by simp; omega)
       have bw5 : Below w.heap.size w w5 := (bw3.alloc omq _).trans b5
       go_wp2_with fail
       try simp only [Exit.inBlock, Exit.then]
       refine post_j2 (x0 := .int .i64 0) (x1 := .int .i64 0) (x2 := .string ⟨#[]⟩) (x3 := (.slice none 0 0)) (x4 := (.slice none 0 0)) rfl rfl rfl gsq gsq gsq gsq gsq ?_
       exact prs_bad Z.out rfl bqq
   · rw [if_pos he] at hR
     have Z := lhq hR
     have qe : ((er : Int) == 0) = false := by rw [beq_eq_false_iff_ne]; omega
     have qe2 : ((er : Int) != 0) = true := by rw [bne_iff_ne]; omega
     have lt3 : w.heap.size < w3.heap.size := by omega
     clear hR he hj NX pos
     go_wp2_with fail
     try simp only [Exit.inBlock, Exit.then]
     refine post_j2 (x0 := .int .i64 0) (x1 := .int .i64 0) (x2 := .string ⟨#[]⟩) (x3 := (.slice none 0 0)) (x4 := (.slice none 0 0)) rfl rfl rfl gsq gsq gsq gsq gsq ?_
     exact prs_bad Z.out rfl bqq
theorem deep_at : ∀ (N : Nat) (t : J), SizeOf.sizeOf t <= N -> t.deep <= 1000000 -> ∀ (w : World) (A3 A4 : Option Addr) (c3 c4 : Nat),
 TreeC w w.heap.size t [.int .i64 t.k, .int .i64 t.n, .string t.t, .slice A3 t.its.length c3, .slice A4 t.ks.length c4] ->
 Calls Tryz.prog 13 #[.agg #[.int .i64 t.k, .int .i64 t.n, .string t.t, .slice A3 t.its.length c3, .slice A4 t.ks.length c4]] w (Num_ t.deep w)
 | 0, t, h => by cases t; simp at h
 | N + 1, .mk k n s its ks, hN => by
  intro hD w A3 A4 c3 c4 ht
  have CS := cell_set
  obtain ⟨_, _, _, _, e, hc3, hc4, rt, ft⟩ := ht.out
  simp only [J.k, J.n, J.t, J.its, J.ks, List.cons.injEq, Value.slice.injEq, true_and, and_true] at e hc3 hc4 rt ft
  obtain ⟨⟨rfl, rfl⟩, rfl, rfl⟩ := e
  have din := J.deep_in (j := .mk k n s its ks); have dout := J.deep_out (j := .mk k n s its ks)
  simp only [J.k, J.n, J.t, J.its, J.ks] at din dout ⊢
  by_cases hk : k = 5 ∨ k = 6
  · have d1 := din hk
    rw [d1] at hD ⊢
    have q5 : (k != 5) = true /\ (k != 6) = false ∨ (k != 5) = false := by rcases hk with rfl | rfl <;> simp
    have RT := lhq rt
    obtain ⟨ni, hni⟩ : ∃ m, m = its.length := ⟨_, rfl⟩
    have HNI := lhq hni
    have ni0 : ni <= 9223372036854775807 := by have := hc3.2; unfold maxLen at this; omega
    have IH : Hid (∀ (i : Nat) (h1 : i < its.length) (W : World) (A3 A4 : Option Addr) (c3 c4 : Nat),
     TreeC W W.heap.size (its[i]'h1) [.int .i64 (its[i]'h1).k, .int .i64 (its[i]'h1).n, .string (its[i]'h1).t, .slice A3 (its[i]'h1).its.length c3, .slice A4 (its[i]'h1).ks.length c4] ->
     Calls Tryz.prog 13 #[.agg #[.int .i64 (its[i]'h1).k, .int .i64 (its[i]'h1).n, .string (its[i]'h1).t, .slice A3 (its[i]'h1).its.length c3, .slice A4 (its[i]'h1).ks.length c4]] W (Num_ (its[i]'h1).deep W)) := fun i h1 W A3 A4 c3 c4 a =>
     deep_at N (its[i]'h1) (by have := J.lt_its (j := .mk k n s its ks) (i := i) h1; simp only [J.its] at this; omega) (by have := J.deep_at h1; omega) W A3 A4 c3 c4 a
    have DS := lhq (fun i h => J.deeps_take (l := its) (i := i) h)
    have DL := lhq (fun i => J.deeps_le its i)
    have DP := lhq (fun i => J.deeps_pos (its.take i))
    have DA : Hid (J.deeps (its.take ni) = J.deeps its) := by show _ = _; rw [hni, List.take_length]
    obtain ⟨DI, hDI⟩ : ∃ d, d = J.deeps its := ⟨_, rfl⟩
    rw [← hDI] at DL DA hD ⊢
    obtain ⟨F, hF⟩ : ∃ F : Nat -> Nat, F = fun i => J.deeps (its.take i) - 1 := ⟨_, rfl⟩
    have F0 : Hid (F 0 = 0) := by show _ = _; rw [hF]; rfl
    have FS : Hid (∀ i (h : i < its.length), F (i + 1) = max (F i) (its[i]'h).deep) := fun i h => by have := DS.out i h; have := DP.out i; rw [hF]; simp only; omega
    have FL : Hid (∀ i, F i + 1 <= DI) := fun i => by have := DL.out i; have := DP.out i; rw [hF]; simp only; omega
    have FA : Hid (F ni + 1 = DI) := by have := DA.out; have := DP.out ni; show _ = _; rw [hF]; simp only; omega
    rw [← HNI.out]
    clear DS DL DA DP hF hDI hni ht rt ft hN d1 din dout hk
    have G0 : Below w.heap.size w (w.alloc (.cells #[.int .i64 k, .int .i64 n, .string s, .slice A3 ni c3, .slice A4 ks.length c4] 25)) := (Below.refl _ _).alloc (nlr _) _
    have gz0 : (w.alloc (.cells #[.int .i64 k, .int .i64 n, .string s, .slice A3 ni c3, .slice A4 ks.length c4] 25)).heap.size = w.heap.size + 1 := by simp
    have GZ0 := lhq gz0
    clear gz0 hc3 hc4
    rcases q5 with ⟨q5, q6⟩ | q5
    all_goals
     go_enter Tryz.func13, Tryz.ntmps13
     go_wp2_with fail
     go_loopw [3, 17] (fun m t wr => ∃ p : Nat, p <= ni /\ t = .int .i64 (p : Int) /\ m = .int .i64 (F p : Int) /\ Below (w.heap.size + 1) (w.alloc (.cells #[.int .i64 k, .int .i64 n, .string s, .slice A3 ni c3, .slice A4 ks.length c4] 25)) wr) (fun _ t _ => ni - (intOf t).toNat)
     case atStart => exact ⟨0, by omega, rfl, by rw [F0.out]; rfl, Below.refl _ _⟩
     case round =>
      obtain ⟨p, hp, rfl, rfl, bl⟩ := hrel
      have gsz := bl.size
      rw [GZ0.out] at gsz
      have gsz2 : w.heap.size <= wr.heap.size := by omega
      have blw := G0.trans (bl.mono omq)
      have hO := nll (n := w.heap.size) sdd (Below.size bl)
      have hO1 := Nat.ne_of_gt hO
      have hO2 := Nat.ne_of_lt hO
      have hO := (Below.cell bl (p := ⟨w.heap.size, 0, none⟩) sdd).trans gsr
      have hO := (Below.cell bl (p := ⟨w.heap.size, 1, none⟩) sdd).trans gsr
      have hO := (Below.cell bl (p := ⟨w.heap.size, 2, none⟩) sdd).trans gsr
      have hO := (Below.cell bl (p := ⟨w.heap.size, 3, none⟩) sdd).trans gsr
      have hO := (Below.cell bl (p := ⟨w.heap.size, 4, none⟩) sdd).trans gsr
      have hO := (Below.frozen bl (p := ⟨w.heap.size, 0, none⟩) sdd).trans gsr
      have hO := (Below.frozen bl (p := ⟨w.heap.size, 1, none⟩) sdd).trans gsr
      have hO := (Below.frozen bl (p := ⟨w.heap.size, 2, none⟩) sdd).trans gsr
      have hO := (Below.frozen bl (p := ⟨w.heap.size, 3, none⟩) sdd).trans gsr
      have hO := (Below.frozen bl (p := ⟨w.heap.size, 4, none⟩) sdd).trans gsr
      by_cases hpn : p < ni
      · have h1 : p < its.length := by rw [← HNI.out]; exact hpn
        obtain ⟨b1, o1, X3, x3, X4, x4, e1, hb1, y0, y1, y2, y3, y4, ty⟩ := (RT.out.below blw).cells h1
        have I2 := lhq (fun W a => IH.out p h1 W X3 X4 x3 x4 a)
        have fs := FS.out p h1
        have fl := FL.out (p + 1)
        generalize its[p]'h1 = T at *
        subst e1
        have TY := lhq (ty.more gsz2)
        obtain ⟨dT, hdT⟩ : ∃ d, d = T.deep := ⟨_, rfl⟩
        rw [← hdT] at fs I2
        have FS1 := lhq fs
        have lb1 : b1 < wr.heap.size := by omega
        clear ty h1 hdT fs fl
        go_wp2_with fail
        with_reducible refine (I2.out _ ((TY.out.alloc (nlr _) _).more smq)).mono ?_
        rintro e w3 ⟨rfl, b3⟩
        have b4 : Below (w.heap.size + 1) (w.alloc (.cells #[.int .i64 k, .int .i64 n, .string s, .slice (some ⟨b1, o1, none⟩) ni c3, .slice A4 ks.length c4] 25)) w3 := (bl.alloc gsz _).trans (b3.mono (by simp; omega))
        go_wp2_with fail
        go_roundw
        case rel => exact ⟨p + 1, by omega, by go_num, by rw [FS1.out]; congr 1; first | (split <;> omega) | omega, b4⟩
        case measure => simp [intOf]; omega
      · obtain rfl : p = ni := by omega
        have Z := lhq FA.out
        have hDp : F p + 1 <= 1000000 := by have := Z.out; omega
        clear hpn
        go_wp2_with fail
        go_ret
        exact num_ret (by rw [← Z.out]; push_cast; omega) blw
  · have d0 := dout hk
    have q5 : (k != 5) = true := by rw [bne_iff_ne]; omega
    have q6 : (k != 6) = true := by rw [bne_iff_ne]; omega
    have Z := lhq d0
    clear ht rt ft din dout hk
    go_enter Tryz.func13, Tryz.ntmps13
    go_wp2_with fail
    go_ret
    exact num_ret (by rw [Z.out]; rfl) bqq
end Go.Proofs.YthogheglddfniaaGreatDoor
namespace Go.Proofs.YthogheglddfniaaGreatDoor
open Go.ChangeShapes Go.WideShapes Go.ChangeAt Go.RowKit Mem
theorem mark_bys7 (w : World) (l : List UInt8) (fr : Nat × Nat) : Bys (w.alloc (.cells (cels l).toArray 5 fr)) (w.alloc (.cells (cels l).toArray 5 fr)).heap.size (some ⟨w.heap.size, 0, none⟩) l := by
 refine .inr ⟨w.heap.size, 0, rfl, by simp, fun k hk => ?_⟩
 rw [Nat.zero_add, World.cell?_alloc_mark, List.getElem?_toArray, cels_at hk]
theorem btw_c {w : World} {B : Nat} {j : J} {cs : List Value} (h : TreeS w (Btw B w.heap.size) j cs) : TreeC w w.heap.size j cs := h.keep (fun _ _ => rfl) (fun _ hb => hb.2)
def t12 : J := .mk 6 0 ⟨#[]⟩ [.mk 4 0 ⟨#[114, 101, 99, 111, 114, 100]⟩ [] [], .mk 4 0 ⟨#[114]⟩ [] [], .mk 4 0 ⟨#[110]⟩ [] [], .mk 5 0 ⟨#[]⟩ [.mk 6 0 ⟨#[]⟩ [.mk 4 0 ⟨#[102]⟩ [] [], .mk 5 0 ⟨#[]⟩ [.mk 4 0 ⟨#[110, 117, 108, 108]⟩ [] [], .mk 4 0 ⟨#[114]⟩ [] []] []] [⟨#[110, 97, 109, 101]⟩, ⟨#[116, 121, 112, 101]⟩]] []] [⟨#[116, 121, 112, 101]⟩, ⟨#[110, 97, 109, 101]⟩, ⟨#[110, 97, 109, 101, 115, 112, 97, 99, 101]⟩, ⟨#[102, 105, 101, 108, 100, 115]⟩]
def n12 : List Nd := [{ Nd.z 9 with name := ⟨#[110, 46, 114]⟩, al := [], fs := [⟨⟨#[102]⟩, [], 1, false, J.zero⟩] }, { Nd.z 13 with br := [2, 0] }, Nd.z 1]
def l12 : List UInt8 := [123, 34, 116, 121, 112, 101, 34, 58, 34, 114, 101, 99, 111, 114, 100, 34, 44, 34, 110, 97, 109, 101, 34, 58, 34, 114, 34, 44, 34, 110, 97, 109, 101, 115, 112, 97, 99, 101, 34, 58, 34, 110, 34, 44, 34, 102, 105, 101, 108, 100, 115, 34, 58, 91, 123, 34, 110, 97, 109, 101, 34, 58, 34, 102, 34, 44, 34, 116, 121, 112, 101, 34, 58, 91, 34, 110, 117, 108, 108, 34, 44, 34, 114, 34, 93, 125, 93, 125]
theorem cel12 : (cels l12).toArray = (Value.int .u8 123 :: Value.int .u8 34 :: Value.int .u8 116 :: Value.int .u8 121 :: Value.int .u8 112 :: Value.int .u8 101 :: Value.int .u8 34 :: Value.int .u8 58 :: Value.int .u8 34 :: Value.int .u8 114 :: Value.int .u8 101 :: Value.int .u8 99 :: Value.int .u8 111 :: Value.int .u8 114 :: Value.int .u8 100 :: Value.int .u8 34 :: Value.int .u8 44 :: Value.int .u8 34 :: Value.int .u8 110 :: Value.int .u8 97 :: Value.int .u8 109 :: Value.int .u8 101 :: Value.int .u8 34 :: Value.int .u8 58 :: Value.int .u8 34 :: Value.int .u8 114 :: Value.int .u8 34 :: Value.int .u8 44 :: Value.int .u8 34 :: Value.int .u8 110 :: Value.int .u8 97 :: Value.int .u8 109 :: Value.int .u8 101 :: Value.int .u8 115 :: Value.int .u8 112 :: Value.int .u8 97 :: Value.int .u8 99 :: Value.int .u8 101 :: Value.int .u8 34 :: Value.int .u8 58 :: Value.int .u8 34 :: Value.int .u8 110 :: Value.int .u8 34 :: Value.int .u8 44 :: Value.int .u8 34 :: Value.int .u8 102 :: Value.int .u8 105 :: Value.int .u8 101 :: Value.int .u8 108 :: Value.int .u8 100 :: Value.int .u8 115 :: Value.int .u8 34 :: Value.int .u8 58 :: Value.int .u8 91 :: Value.int .u8 123 :: Value.int .u8 34 :: Value.int .u8 110 :: Value.int .u8 97 :: Value.int .u8 109 :: Value.int .u8 101 :: Value.int .u8 34 :: Value.int .u8 58 :: Value.int .u8 34 :: Value.int .u8 102 :: Value.int .u8 34 :: Value.int .u8 44 :: Value.int .u8 34 :: Value.int .u8 116 :: Value.int .u8 121 :: Value.int .u8 112 :: Value.int .u8 101 :: Value.int .u8 34 :: Value.int .u8 58 :: Value.int .u8 91 :: Value.int .u8 34 :: Value.int .u8 110 :: Value.int .u8 117 :: Value.int .u8 108 :: Value.int .u8 108 :: Value.int .u8 34 :: Value.int .u8 44 :: Value.int .u8 34 :: Value.int .u8 114 :: Value.int .u8 34 :: Value.int .u8 93 :: Value.int .u8 125 :: Value.int .u8 93 :: Value.int .u8 125 :: [] : List Value).toArray := by kernel_rfl
theorem ex12p : Jp.parse l12 = (t12, 0) := by kernel_rfl
theorem ex12n : bnode 33 [] t12 ⟨#[]⟩ = .ok (n12, 0) := by kernel_rfl
theorem ex12w (i : Nat) : Sc.wt ⟨n12, 0⟩ i <= 1000 := by
 have k1 : Sc.wt ⟨n12, 0⟩ 1 = 1 := by rw [Sc.wt_fix, if_neg dcq]
 rcases Nat.lt_or_ge i 1 with h | h
 · obtain rfl : i = 0 := by omega
   rw [Sc.wt_fix, if_pos dcq]
   show capF (Sc.wt ⟨n12, 0⟩) [1] 1 <= 1000
   unfold capF capF
   show min (1 + Sc.wt ⟨n12, 0⟩ 1) 1001 <= 1000
   rw [k1]; decide
 · rw [Sc.wt_fix, if_neg]
   · omega
   · rcases Nat.lt_or_ge i 3 with g | g
     · obtain rfl | rfl : i = 1 ∨ i = 2 := by omega
       · decide
       · decide
     · rw [kind_er]
       show ¬ kindK (n12.map er) i = 9
       unfold kindK
       rw [List.getElem?_eq_none (by rw [List.length_map]; exact g)]
       decide
theorem ex12 : bbuild t12 = .ok n12 /\ t12.wt <= 2500 /\ t12.deep <= 1000000 := by
 have po := Jp.parse_out (l := l12) dcq (by rw [ex12p])
 rw [ex12p] at po
 obtain ⟨a, b, c, d, _⟩ := po
 exact ⟨bld_ok d ex12n ex12w, by decide, c⟩
theorem works12_any (w : World) (hL : LaidN w) : Calls Tryz.prog 8 #[] w (Told true w) := by
 have CS := cell_set
 have top := hL.top
 have cvb := fun w C n c => Lib.run_convert_bytes_const (P := Tryz.prog) w 50 5 C n c byteT.sl byteT.el
 have pa := parse_any (some ⟨w.heap.size, 0, none⟩) 88 l12 (w.alloc (.cells (cels l12).toArray 5 (88, 89))) (hL.alloc _) (mark_bys7 w l12 (88, 89)) dcq dcq
 rw [ex12p] at pa
 obtain ⟨eb, wb, db⟩ := ex12
 have BA := lhq (fun W (hW : LaidN W) A3 A4 c3 c4 h => build_any t12 wb db W hW A3 A4 c3 c4 h (.ok n12) eb.symm)
 try dsimp only at pa
 obtain ⟨T, hT⟩ : ∃ T, T = t12 := ⟨_, rfl⟩
 rw [← hT] at pa BA
 have PA := lhq pa
 have HL := lhq (fun W (b : Below w.heap.size w W) => LaidN.below hL b)
 have cv1 := cvb w
 have zb : Below w.heap.size w (w.alloc (.cells (cels l12).toArray 5 (88, 89))) := (Below.refl _ _).alloc (nlr _) _
 have BZ := lhq zb
 clear pa cvb eb wb db hT zb
 go_enter Tryz.func8, Tryz.ntmps8
 simp only [List.append]
 go_wp2_with fail
 rw [← cel12]
 refine PA.out.mono ?_
 rintro e w1 ⟨A3, c3, A4, c4, rfl, tr, b1⟩
 have tr1 := lhq (btw_c tr)
 have bw1 : Below w.heap.size w w1 := BZ.out.trans (b1.mono BZ.out.size)
 have s1 := bw1.size
 dsimp only at tr1 ⊢
 clear tr PA BZ cv1 b1
 obtain ⟨w2, hw2⟩ : ∃ W, W = (w1.alloc (.cells #[.int .i64 T.k, .int .i64 T.n, .string T.t, .slice A3 T.its.length c3, .slice A4 T.ks.length c4] 25)) := ⟨_, rfl⟩
 have b12 : Below w1.heap.size w1 w2 := by rw [hw2]; exact (Below.refl _ _).alloc (nlr _) _
 have bw2 : Below w.heap.size w w2 := bw1.trans (b12.mono s1)
 have BX : B5 w2 w1.heap.size 25 (.int .i64 T.k) (.int .i64 T.n) (.string T.t) (.slice A3 T.its.length c3) (.slice A4 T.ks.length c4) := by rw [hw2]; exact B5.newat rfl
 have BC := BA.out w2 (HL.out w2 bw2) A3 A4 c3 c4 ((tr1.out.below b12).more b12.size)
 have HW2 := lhq hw2
 rw [hw2] at BX BC
 replace BC := lhq BC
 obtain ⟨_, _, _, _, _, _, _, _, _, _⟩ := B5.facts BX
 clear hw2 BA tr1 HL b12
 go_wp2_with fail
 with_reducible refine BC.out.mono ?_
 rintro e w3 hp
 rw [← HW2.out] at hp
 obtain ⟨b3, _, h3⟩ := hp
 obtain ⟨A, c, rfl, ns⟩ := h3 n12 rfl
 have bw3 : Below w.heap.size w w3 := bw2.trans (b3.mono bw2.size)
 obtain ⟨_, _, e, la, ra⟩ := Sc.out.1 ns.lies
 simp only [List.cons.injEq, Value.slice.injEq, true_and, and_true] at e
 obtain ⟨rfl, rfl⟩ := e
 dsimp only at ra
 obtain ⟨g0, o0, _, _, _, _, _, _, _, _, e0, hg0, ⟨_, c01, _, _, _, _, _, _, _, _⟩, _⟩ := nodes_at ra (i := 0) dcq
 obtain ⟨g1, o1, _, _, _, _, _, _, A9, c9, e1, hg1, ⟨_, _, _, _, _, _, _, _, _, c19⟩, l1⟩ := nodes_at ra (i := 1) dcq
 obtain ⟨g2, o2, _, _, _, _, _, _, _, _, e2, hg2, ⟨c20, _, _, _, _, _, _, _, _, _⟩, _⟩ := nodes_at ra (i := 2) dcq
 subst e0
 simp only [Option.some.injEq, Addr.mk.injEq, and_true] at e1 e2
 obtain ⟨rfl, rfl⟩ := e1
 obtain ⟨rfl, rfl⟩ := e2
 obtain ⟨_, _, _, _, _, _, _, _, ee, _, _, _, _, _, _, _, r9⟩ := Nd.out.1 l1
 simp only [List.cons.injEq, Value.slice.injEq, true_and, and_true] at ee
 obtain ⟨_, _, _, rfl, rfl⟩ := ee
 obtain ⟨g9, o9, rfl, hg9, t9⟩ := ints_at r9 (i := 1) dcq
 replace c01 : w3.cell? ⟨g0, o0 + 1, none⟩ = some (.string ⟨#[110, 46, 114]⟩) := by simpa [n12] using c01
 replace c19 : w3.cell? ⟨g0, o0 + 19, none⟩ = some (.slice (some ⟨g9, o9, none⟩) 2 c9) := by simpa [n12, Nat.add_assoc] using c19
 replace c20 : w3.cell? ⟨g0, o0 + 20, none⟩ = some (.int .i64 1) := by simpa [n12, Nd.z] using c20
 replace t9 : w3.cell? ⟨g9, o9 + 1, none⟩ = some (.int .i64 0) := by simpa [n12] using t9
 rw [show n12.length = 3 from rfl]
 have s3 := bw3.size
 clear ns la ra l1 r9 h3 b3 BC
 go_wp2_with fail
 go_ret
 exact ⟨rfl, bqq⟩
end Go.Proofs.YthogheglddfniaaGreatDoor
namespace Go.Proofs.YthogheglddfniaaGreatDoor
def shF (f : Fd) : Fd := { f with ty := f.ty + 1 }
def sh (n : Nd) : Nd := { n with fs := n.fs.map shF, items := if n.k = 11 ∨ n.k = 12 then n.items + 1 else n.items, br := n.br.map (· + 1) }
theorem er_sh (l : List Nd) : (l.map sh).map er = l.map er := by rw [List.map_map]; exact List.map_congr_left fun n _ => rfl
theorem kids_sh (n : Nd) : (sh n).kids = n.kids.map (· + 1) := by
 unfold Nd.kids sh
 simp only
 by_cases h9 : n.k = 9
 · rw [if_pos h9, if_pos h9, List.map_map, List.map_map]; rfl
 · rw [if_neg h9, if_neg h9]
   by_cases h11 : n.k = 11 ∨ n.k = 12
   · rw [if_pos h11, if_pos h11, if_pos h11]; rfl
   · rw [if_neg h11, if_neg h11]
     by_cases h13 : n.k = 13
     · rw [if_pos h13, if_pos h13]
     · rw [if_neg h13, if_neg h13]; rfl
theorem findK_cons {x : Int × ByteArray} (hx : named x.1 = false) (c : Kn) (t : ByteArray) : findK (x :: c) t = (findK c t).map (· + 1) := by
 unfold findK
 rw [List.findIdx?_cons, hx, Bool.false_and, if_neg smq]
theorem kindK_cons (x : Int × ByteArray) (c : Kn) (p : Nat) : kindK (x :: c) (p + 1) = kindK c p := by unfold kindK; simp
theorem fitsK_cons (x : Int × ByteArray) (c : Kn) (p : Nat) (acc : List Nat) : fitsK (x :: c) (p + 1) (acc.map (· + 1)) = fitsK c p acc := by
 unfold fitsK
 rw [kindK_cons, List.all_map]
 congr 1
 congr 1
 funext q
 simp [kindK_cons]
theorem intsN_sh (l : List Nat) : intsN (l.map (· + 1)) = (intsN l).map (· + 1) := by
 unfold intsN
 rw [List.map_map, List.map_map]
 exact List.map_congr_left fun n _ => by show ((n + 1 : Nat) : Int) = (n : Int) + 1; omega
theorem z_sh {k : Int} (h : ¬ (k = 11 ∨ k = 12)) : sh (Nd.z k) = Nd.z k := by unfold sh Nd.z; simp only [if_neg h, List.map_nil]
def ShB (x : Int × ByteArray) (B : Kn -> J -> ByteArray -> Bres) : Prop := ∀ (c : Kn) (j : J) (sp : ByteArray) (ext : List Nd) (p : Nat), c.length < 200 -> B c j sp = .ok (ext, p) ->
 if c.length + ext.length < 200 then B (x :: c) j sp = .ok (ext.map sh, p + 1) else B (x :: c) j sp = .error 3
section
variable {x : Int × ByteArray} (hx : named x.1 = false) {B : Kn -> J -> ByteArray -> Bres}
include hx in
theorem sh_word : ShB x fun c j sp => bword c j.t sp := by
 intro c j sp ext p hl h
 simp only at h ⊢
 unfold bword at h ⊢
 by_cases hk : 1 <= kindB j.t /\ kindB j.t <= 8
 · rw [if_pos hk] at h ⊢
   rw [if_neg omq] at h
   simp only [Except.ok.injEq, Prod.mk.injEq] at h
   obtain ⟨rfl, rfl⟩ := h
   by_cases g : c.length + 1 < 200
   · rw [if_pos (by simpa using g)]
     simp only [List.length_cons]
     rw [if_neg omq, List.map_singleton, z_sh omq]
   · rw [if_neg (by simpa using g)]
     simp only [List.length_cons]
     rw [if_pos omq]
 · rw [if_neg hk] at h ⊢
   split at h
   · cases h
   · rename_i t ht
     rw [findK_cons hx]
     split at h
     · cases h
     · rename_i q hq
       simp only [Except.ok.injEq, Prod.mk.injEq] at h
       obtain ⟨rfl, rfl⟩ := h
       rw [if_pos (by simpa using hl), hq]
       rfl
theorem bbrs_more {sp : ByteArray} {c : Kn} : ∀ {its : List J} {ext : List Nd} {acc : List Nat} {ext' : List Nd} {acc' : List Nat}, bbrs B sp c its ext acc = .ok (ext', acc') -> ext.length <= ext'.length
 | [], _, _, _, _, h => by unfold bbrs at h; simp only [Except.ok.injEq, Prod.mk.injEq] at h; obtain ⟨rfl, _⟩ := h; exact nlr _
 | j :: r, _, _, _, _, h => by
  unfold bbrs at h
  split at h
  · cases h
  · split at h
    · have := bbrs_more h; rw [List.length_append] at this; omega
    · cases h
theorem sh_brs (hB : ShB x B) (sp : ByteArray) (c : Kn) : ∀ (its : List J) (ext : List Nd) (acc : List Nat) (ext' : List Nd) (acc' : List Nat), c.length + ext.length < 200 -> bbrs B sp c its ext acc = .ok (ext', acc') ->
 if c.length + ext'.length < 200 then bbrs B sp (x :: c) its (ext.map sh) (acc.map (· + 1)) = .ok (ext'.map sh, acc'.map (· + 1)) else bbrs B sp (x :: c) its (ext.map sh) (acc.map (· + 1)) = .error 3
 | [], ext, acc, ext', acc', hl, h => by
  unfold bbrs at h ⊢
  simp only [Except.ok.injEq, Prod.mk.injEq] at h
  obtain ⟨rfl, rfl⟩ := h
  rw [if_pos hl]
 | j :: r, ext, acc, ext', acc', hl, h => by
  unfold bbrs at h ⊢
  split at h
  · cases h
  · rename_i y p hb
    split at h
    · rename_i hf
      have k := hB _ _ _ _ _ (by simpa using hl) hb
      have e1 : x :: c ++ (ext.map sh).map er = x :: (c ++ ext.map er) := by rw [er_sh]; rfl
      rw [e1]
      have ll : (c ++ ext.map er).length + y.length = c.length + (ext ++ y).length := by simp; omega
      rw [ll] at k
      by_cases g : c.length + (ext ++ y).length < 200
      · rw [if_pos g] at k
        rw [k]
        simp only
        have e2 : x :: c ++ (ext.map sh ++ y.map sh).map er = x :: (c ++ (ext ++ y).map er) := by rw [← List.map_append, er_sh]; rfl
        rw [e2, fitsK_cons, if_pos hf]
        have := sh_brs hB sp c r (ext ++ y) (acc ++ [p]) ext' acc' g h
        rw [List.map_append, List.map_append] at this
        exact this
      · rw [if_neg g] at k
        rw [k]
        simp only
        rw [if_neg (by have := bbrs_more h; omega)]
        trivial
    · cases h
theorem sh_union (hB : ShB x B) : ShB x fun c j sp => bunion B c j.its sp := by
 intro c j sp ext p hl h
 simp only at h ⊢
 unfold bunion at h ⊢
 split at h
 · cases h
 · rename_i h10
   rw [if_neg h10]
   rw [if_neg omq] at h
   split at h
   · cases h
   · rename_i e br hb
     simp only [Except.ok.injEq, Prod.mk.injEq] at h
     obtain ⟨rfl, rfl⟩ := h
     simp only [List.length_cons]
     by_cases g0 : c.length + 1 = 200
     · rw [if_neg omq, if_pos g0]
     · rw [if_neg g0]
       have := sh_brs hB sp (c ++ [er (Nd.z 13)]) j.its [] [] e br (by simp; omega) hb
       have ll : (c ++ [er (Nd.z 13)]).length + e.length = c.length + (e.length + 1) := by simp; omega
       rw [ll] at this
       simp only [List.map_nil] at this
       rw [← List.cons_append] at this
       by_cases g : c.length + (e.length + 1) < 200
       · rw [if_pos g] at this ⊢
         rw [this]
         simp only [List.map_cons, sh, Nd.z, intsN_sh, List.map_nil]
         rfl
       · rw [if_neg g] at this ⊢
         rw [this]
theorem sh_many (hB : ShB x B) {k : Int} (hk : k = 11 ∨ k = 12) (key : ByteArray) : ShB x fun c j sp => bmany B c j sp k key := by
 intro c j sp ext p hl h
 simp only at h ⊢
 unfold bmany at h ⊢
 split at h
 · cases h
 · rename_i y hy
   rw [if_neg omq] at h
   split at h
   · cases h
   · rename_i e q hb
     simp only [Except.ok.injEq, Prod.mk.injEq] at h
     obtain ⟨rfl, rfl⟩ := h
     simp only [List.length_cons]
     by_cases g0 : c.length + 1 = 200
     · rw [if_neg omq, if_pos g0]
     · rw [if_neg g0]
       have := hB (c ++ [er (Nd.z k)]) y sp e q (by simp; omega) hb
       have ll : (c ++ [er (Nd.z k)]).length + e.length = c.length + (e.length + 1) := by simp; omega
       rw [ll] at this
       rw [← List.cons_append] at this
       by_cases g : c.length + (e.length + 1) < 200
       · rw [if_pos g] at this ⊢
         rw [this]
         simp only [List.map_cons, sh, Nd.z, if_pos hk, List.map_nil]
         rfl
       · rw [if_neg g] at this ⊢
         rw [this]
include hx in
theorem head_cons (c : Kn) (j : J) (sp : ByteArray) : bhead (x :: c) j sp = bhead c j sp := by
 unfold bhead
 split
 · rfl
 · split
   · rfl
   · rfl
   · rw [findK_cons hx, Option.isSome_map]
theorem bfields_more {sp : ByteArray} {c : Kn} : ∀ {its : List J} {ext : List Nd} {a : List Fd} {ext' : List Nd} {a' : List Fd}, bfields B sp c its ext a = .ok (ext', a') -> ext.length <= ext'.length
 | [], _, _, _, _, h => by unfold bfields at h; simp only [Except.ok.injEq, Prod.mk.injEq] at h; obtain ⟨rfl, _⟩ := h; exact nlr _
 | j :: r, _, _, _, _, h => by
  unfold bfields at h
  split at h
  · cases h
  · split at h
    · cases h
    · have := bfields_more h; rw [List.length_append] at this; omega
theorem field_sh (j : J) (a : List Fd) : bfield j (a.map shF) = bfield j a := by
 unfold bfield
 rw [show (a.map shF).map Fd.name = a.map Fd.name by rw [List.map_map]; rfl]
theorem sh_fields (hB : ShB x B) (sp : ByteArray) (c : Kn) : ∀ (its : List J) (ext : List Nd) (a : List Fd) (ext' : List Nd) (a' : List Fd), c.length + ext.length < 200 -> bfields B sp c its ext a = .ok (ext', a') ->
 if c.length + ext'.length < 200 then bfields B sp (x :: c) its (ext.map sh) (a.map shF) = .ok (ext'.map sh, a'.map shF) else bfields B sp (x :: c) its (ext.map sh) (a.map shF) = .error 3
 | [], ext, a, ext', a', hl, h => by
  unfold bfields at h ⊢
  simp only [Except.ok.injEq, Prod.mk.injEq] at h
  obtain ⟨rfl, rfl⟩ := h
  rw [if_pos hl]
 | j :: r, ext, a, ext', a', hl, h => by
  unfold bfields at h ⊢
  rw [field_sh]
  split at h
  · cases h
  · rename_i fd hfd
    split at h
    · cases h
    · rename_i y p hb
      have k := hB _ _ _ _ _ (by simpa using hl) hb
      have e1 : x :: c ++ (ext.map sh).map er = x :: (c ++ ext.map er) := by rw [er_sh]; rfl
      rw [e1]
      have ll : (c ++ ext.map er).length + y.length = c.length + (ext ++ y).length := by simp; omega
      rw [ll] at k
      by_cases g : c.length + (ext ++ y).length < 200
      · rw [if_pos g] at k
        rw [k]
        simp only
        have := sh_fields hB sp c r (ext ++ y) (a ++ [{ fd with ty := (p : Int) }]) ext' a' g h
        rw [List.map_append, List.map_append] at this
        exact this
      · rw [if_neg g] at k
        rw [k]
        simp only
        rw [if_neg (by have := bfields_more h; omega)]
        trivial
include hx in
theorem sh_named (hB : ShB x B) (k : Int) : ShB x fun c j sp => bnamed B c j sp k := by
 intro c j sp ext p hl h
 simp only at h ⊢
 unfold bnamed at h ⊢
 rw [head_cons hx]
 split at h
 · cases h
 · rename_i full al hh
   simp only
   by_cases k9 : k = 9
   · rw [if_pos k9] at h ⊢
     unfold brecord at h ⊢
     split at h
     · cases h
     · rename_i y hy
       split at h
       · split at h
         · cases h
         · rename_i h5 h40
           rw [if_pos h5, if_neg h40]
           rw [if_neg omq] at h
           split at h
           · cases h
           · rename_i e fs hb
             simp only [Except.ok.injEq, Prod.mk.injEq] at h
             obtain ⟨rfl, rfl⟩ := h
             simp only [List.length_cons]
             by_cases g0 : c.length + 1 = 200
             · rw [if_neg omq, if_pos g0]
             · rw [if_neg g0]
               have := sh_fields hB (spaceB full) (c ++ [(9, full)]) y.its [] [] e fs (by simp; omega) hb
               have ll : (c ++ [((9 : Int), full)]).length + e.length = c.length + (e.length + 1) := by simp; omega
               rw [ll] at this
               simp only [List.map_nil] at this
               rw [← List.cons_append] at this
               by_cases g : c.length + (e.length + 1) < 200
               · rw [if_pos g] at this ⊢
                 rw [this]
                 simp only [List.map_cons, sh, Nd.z, List.map_nil]
                 rfl
               · rw [if_neg g] at this ⊢
                 rw [this]
       · cases h
   · rw [if_neg k9] at h ⊢
     by_cases k10 : k = 10
     · rw [if_pos k10] at h ⊢
       split at h
       · cases h
       · rename_i sy has df he
         rw [if_neg omq] at h
         simp only [Except.ok.injEq, Prod.mk.injEq] at h
         obtain ⟨rfl, rfl⟩ := h
         simp only [List.length_cons, List.length_nil]
         by_cases g : c.length + (0 + 1) < 200
         · rw [if_pos g, if_neg omq]; simp only [List.map_cons, sh, Nd.z, List.map_nil]; rfl
         · rw [if_neg g, if_pos omq]
     · rw [if_neg k10] at h ⊢
       split at h
       · cases h
       · rename_i n he
         rw [if_neg omq] at h
         simp only [Except.ok.injEq, Prod.mk.injEq] at h
         obtain ⟨rfl, rfl⟩ := h
         simp only [List.length_cons, List.length_nil]
         by_cases g : c.length + (0 + 1) < 200
         · rw [if_pos g, if_neg omq]; simp only [List.map_cons, sh, Nd.z, List.map_nil]; rfl
         · rw [if_neg g, if_pos omq]
end
theorem bnode_sh {x : Int × ByteArray} (hx : named x.1 = false) : ∀ f, ShB x (bnode f)
 | 0 => fun c j sp ext p _ h => by unfold bnode at h; cases h
 | f + 1 => fun c j sp ext p hl h => by
  have ih := bnode_sh hx f
  unfold bnode at h ⊢
  by_cases h4 : j.k = 4
  · rw [if_pos h4] at h ⊢; exact sh_word hx c j sp ext p hl h
  · rw [if_neg h4] at h ⊢
    by_cases h5 : j.k = 5
    · rw [if_pos h5] at h ⊢; exact sh_union ih c j sp ext p hl h
    · rw [if_neg h5] at h ⊢
      split at h
      · cases h
      · rename_i w hw
        by_cases h11 : kindB w = 11
        · rw [if_pos h11] at h ⊢; exact sh_many ih (.inl rfl) _ c j sp ext p hl h
        · rw [if_neg h11] at h ⊢
          by_cases h12 : kindB w = 12
          · rw [if_pos h12] at h ⊢; exact sh_many ih (.inr rfl) _ c j sp ext p hl h
          · rw [if_neg h12] at h ⊢
            by_cases hn : named (kindB w) = true
            · rw [if_pos hn] at h ⊢; exact sh_named hx ih _ c j sp ext p hl h
            · rw [if_neg hn] at h ⊢; exact sh_word hx c (.mk 4 0 w [] []) sp ext p hl h
def wrapU (ns : List Nd) : List Nd := { Nd.z 13 with br := [1] } :: ns.map sh
theorem wrap_kind (ns : List Nd) (i : Nat) : Sc.kind ⟨wrapU ns, 0⟩ ((i + 1 : Nat) : Int) = Sc.kind ⟨ns, 0⟩ (i : Int) := by
 rw [kind_er, kind_er]
 show kindK (er _ :: (ns.map sh).map er) (i + 1) = _
 rw [kindK_cons, er_sh]
theorem wrap_kids (ns : List Nd) (i : Nat) : Sc.kidsAt ⟨wrapU ns, 0⟩ (i + 1) = (Sc.kidsAt ⟨ns, 0⟩ i).map (· + 1) := by
 unfold Sc.kidsAt wrapU
 simp only [List.getElem?_cons_succ, List.getElem?_map]
 cases ns[i]? with
 | none => rfl
 | some n => exact kids_sh n
theorem capF_sh (W V : Nat -> Nat) (h : ∀ i, W (i + 1) = V i) : ∀ (l : List Int) (a : Nat), (∀ k ∈ l, 0 <= k) -> capF W (l.map (· + 1)) a = capF V l a
 | [], _, _ => rfl
 | k :: r, a, hk => by
  rw [List.map_cons]
  unfold capF
  have e : (k + 1).toNat = k.toNat + 1 := by have := hk k smq; omega
  rw [e, h]
  exact capF_sh W V h r _ fun k g => hk k (by simp [g])
theorem wtR_sh (ns : List Nd) (hk : ∀ i, ∀ k ∈ Sc.kidsAt ⟨ns, 0⟩ i, 0 <= k) : ∀ r i, wtR ⟨wrapU ns, 0⟩ r (i + 1) = wtR ⟨ns, 0⟩ r i
 | 0, _ => rfl
 | r + 1, i => by
  unfold wtR
  rw [wrap_kind, wrap_kids, capF_sh _ _ (wtR_sh ns hk r) _ _ (hk i)]
theorem wt_sh (ns : List Nd) (hk : ∀ i, ∀ k ∈ Sc.kidsAt ⟨ns, 0⟩ i, 0 <= k) (i : Nat) : Sc.wt ⟨wrapU ns, 0⟩ (i + 1) = Sc.wt ⟨ns, 0⟩ i := by
 have stay : ∀ s : Sc, ∃ r, ∀ R, r <= R -> s.wt = wtR s R := fun s => by
  obtain ⟨r, hr, he⟩ := wtR_stable s
  refine ⟨r, fun R hR => ?_⟩
  have a := wtR_stays he (1001 * s.nodes.length - r)
  rw [show r + (1001 * s.nodes.length - r) = 1001 * s.nodes.length by omega] at a
  have b := wtR_stays he (R - r)
  rw [show r + (R - r) = R by omega] at b
  exact a.trans b.symm
 obtain ⟨r1, h1⟩ := stay ⟨wrapU ns, 0⟩
 obtain ⟨r2, h2⟩ := stay ⟨ns, 0⟩
 rw [h1 (max r1 r2) omq, h2 (max r1 r2) omq, wtR_sh ns hk]
theorem wt_union (ns : List Nd) : Sc.wt ⟨wrapU ns, 0⟩ 0 = 1 := by
 rw [Sc.wt_fix, if_neg]
 show ¬ Sc.kind ⟨wrapU ns, 0⟩ ((0 : Nat) : Int) = 9
 rw [kind_er]
 show ¬ (13 : Int) = 9
 decide
theorem wrap_built {j : J} {ns : List Nd} (h : bbuild j = .ok ns) (t : ByteArray) (ht : t = Jp.nil_) : ∃ n0 r, ns = n0 :: r /\
 (if j.deep = 32 then bbuild (.mk 5 0 t [j] []) = .error 2 else if ns.length = 200 then bbuild (.mk 5 0 t [j] []) = .error 3 else if n0.k = 13 then bbuild (.mk 5 0 t [j] []) = .error 34 else bbuild (.mk 5 0 t [j] []) = .ok (wrapU ns)) := by
 obtain ⟨hR, p, hb⟩ := built_right h
 have hr : j.rightb = true := by
  unfold bbuild at h
  split at h
  · assumption
  · cases h
 obtain ⟨jd, jf⟩ := J.rightb_iff.1 hr
 obtain ⟨rfl, l1, l2, _⟩ := built ⟨jf, jd⟩ hb
 obtain ⟨n0, r, rfl⟩ : ∃ n0 r, ns = n0 :: r := by cases ns with
  | nil => simp at l1
  | cons a b => exact ⟨a, b, rfl⟩
 refine ⟨n0, r, rfl, ?_⟩
 have dL : (J.mk 5 0 t [j] []).deep = j.deep + 1 := by
  rw [J.deep_in (.inl rfl)]
  show J.deeps [j] = _
  rw [J.deeps, J.deeps]
  omega
 by_cases h32 : j.deep = 32
 · rw [if_pos h32]
   unfold bbuild
   rw [if_neg (fun g => by have := (J.rightb_iff.1 g).1; omega)]
 rw [if_neg h32]
 have hL : (J.mk 5 0 t [j] []).rightb = true := J.rightb_iff.2 ⟨by omega, by
  subst ht
  unfold J.frm J.frms J.frms
  simp [jf, Jp.nil_]
  first | rfl | decide +kernel | (unfold Num.cU; rfl) | (unfold Num.cU; simp)⟩
 have hb2 : bnode 32 [] j ⟨#[]⟩ = .ok (n0 :: r, 0) := by rw [← hb]; exact bnode_fuel 31 32 j omq omq _ _
 have hs := bnode_sh (x := er (Nd.z 13)) dcq 32 [] j ⟨#[]⟩ (n0 :: r) 0 smq hb2
 simp only [List.length_nil, Nat.zero_add] at hs
 have hu : bnode 33 [] (J.mk 5 0 t [j] []) ⟨#[]⟩ = bunion (bnode 32) [] [j] ⟨#[]⟩ := by
  show (if (5 : Int) = 4 then _ else if (5 : Int) = 5 then _ else _) = _
  rw [if_neg dcq, if_pos rfl]
  rfl
 have hbr : bbrs (bnode 32) ⟨#[]⟩ [er (Nd.z 13)] [j] [] [] = match bnode 32 [er (Nd.z 13)] j ⟨#[]⟩ with
  | .error e => .error e
  | .ok (x, p) => if fitsK ([er (Nd.z 13)] ++ x.map er) p [] = true then .ok (x, [p]) else .error 34 := by
  rw [bbrs]
  simp only [List.map_nil, List.append_nil, List.nil_append, bbrs]
  rcases bnode 32 [er (Nd.z 13)] j ⟨#[]⟩ with e | ⟨x, p⟩ <;> rfl
 have hv : bunion (bnode 32) [] [j] ⟨#[]⟩ = (match bbrs (bnode 32) ⟨#[]⟩ [er (Nd.z 13)] [j] [] [] with
  | .error e => .error e
  | .ok (ext, br) => .ok ({ Nd.z 13 with br := intsN br } :: ext, 0)) := by
  unfold bunion
  rw [if_neg smq, if_neg smq]
  rfl
 unfold bbuild
 rw [if_pos hL, hu, hv, hbr]
 by_cases h200 : (n0 :: r).length = 200
 · rw [if_neg omq] at hs
   rw [if_pos h200, hs]
 · rw [if_pos omq] at hs
   rw [if_neg h200, hs]
   simp only
   have kf : fitsK ([er (Nd.z 13)] ++ ((n0 :: r).map sh).map er) 1 [] = decide (n0.k ≠ 13) := by
    unfold fitsK
    rw [er_sh]
    show (decide (kindK (er (Nd.z 13) :: (n0 :: r).map er) 1 ≠ 13) && _) = _
    rw [kindK_cons]
    simp [kindK, er]
   rw [kf]
   by_cases h13 : n0.k = 13
   · rw [if_pos h13, if_neg (by simpa using h13)]
   · rw [if_neg h13, if_pos (by simpa using h13)]
     have hw : (List.range (wrapU (n0 :: r)).length).all (fun i => decide (Sc.wt ⟨wrapU (n0 :: r), 0⟩ i <= 1000)) = true := by
      rw [List.all_eq_true]
      intro i hi
      rw [decide_eq_true_eq]
      have hi := List.mem_range.1 hi
      cases i with
      | zero => rw [wt_union]; omega
      | succ i =>
       have hl : (wrapU (n0 :: r)).length = (n0 :: r).length + 1 := by unfold wrapU; simp
       rw [wt_sh _ (fun i k hk => by
        rcases Nat.lt_or_ge i (n0 :: r).length with g | g
        · exact ((ordered_good hR.1).1 i (Nat.zero_le _) g k hk).1
        · unfold Sc.kidsAt at hk; rw [List.getElem?_eq_none g] at hk; cases hk)]
       exact hR.2.2.1 i (by show i < (n0 :: r).length; omega)
     exact if_pos hw
end Go.Proofs.YthogheglddfniaaGreatDoor
