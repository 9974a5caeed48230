/- Joined by tools/bundle.py: JCW. -/
import Derived.Test.YthogheglddfniaaGreatDoorW25
import Derived.Test.YthogheglddfniaaGreatDoorW0
set_option maxRecDepth 100000
set_option maxHeartbeats 16000000
namespace Go.Proofs.YthogheglddfniaaGreatDoor
open Go.ChangeShapes Go.WideShapes Go.ChangeAt Go.RowKit Mem
def CLst (f : Nat) : Prop := ∀ (l : List UInt8) (A : Option Addr) (c g p d : Nat) (w : World), Cx l A c g w → Cur w g A l.length c p → p ≤ l.length → 2 * (l.length + 1 - p) + 1 < f → d ≤ 32 →
 Calls Tryz.prog 123 #[wv g, .int .i64 (d : Int)] w (Cv (if (Jx.tak l p).2 = 0 ∧ (Jx.tak l p).1.k = 4 then (.mk (Jp.kindOf 4) 0 Jp.nil_ [] [], (Jx.tak l p).1.x, 0) else Jp.pits f l p d 4 [] []) l A c g w)
def CObj (f : Nat) : Prop := ∀ (l : List UInt8) (A : Option Addr) (c g p d : Nat) (w : World), Cx l A c g w → Cur w g A l.length c p → p ≤ l.length → 2 * (l.length + 1 - p) + 1 < f → d ≤ 32 →
 Calls Tryz.prog 124 #[wv g, .int .i64 (d : Int)] w (Cv (if (Jx.tak l p).2 = 0 ∧ (Jx.tak l p).1.k = 2 then (.mk (Jp.kindOf 2) 0 Jp.nil_ [] [], (Jx.tak l p).1.x, 0) else Jp.pits f l p d 2 [] []) l A c g w)
theorem cvalue_step (f : Nat) (hL : CLst f) (hO : CObj f) : CVal (f + 1) := by
 intro l A c g p d w C he hcur hp hf hd
 have CS := cell_set
 have hg := hcur.lt
 have fine := (Jx.tak_fine l p hp).1.2.1
 have more := Jx.tak_more hp he
 obtain ⟨R, hR⟩ : ∃ R, R = Jp.pval (f + 1) l p d := ⟨_, rfl⟩
 rw [← hR]
 unfold Jp.pval at hR
 rw [if_neg (by omega)] at hR
 obtain ⟨⟨⟨K, n, T, a, x⟩, er⟩, hr⟩ : ∃ r, r = Jx.tak l p := ⟨_, rfl⟩
 rw [← hr] at he hR hcur fine more ⊢
 simp only at he hR hcur fine more
 subst he
 simp only [wval]
 have HC := Lib.hid hcur
 have CX := Lib.hid C
 have gn : w.heap.size ≠ g := by omega
 have gn1 : w.heap.size + 1 ≠ g := by omega
 have gn2 : g ≠ w.heap.size := by omega
 have gn3 : g ≠ w.heap.size + 1 := by omega
 have tc : ∀ W, Sav g g w.heap.size w W → Cur W g A l.length c x → Cur W g A l.length c x := fun _ _ h => h
 clear hr hcur C tc
 by_cases h7 : K = 7
 · subst h7
   rw [if_pos rfl] at hR
   have Z := Lib.hid hR
   clear hR hL hO more
   have tc := HC.out
   go_enter Tryz.func82, Tryz.ntmps82
   go_wp2_with fail
   try simp only [Exit.inBlock, Exit.then]
   refine post_j2 (x0 := .int .i64 2) (x1 := .int .i64 n) (x2 := .string ⟨#[]⟩) (x3 := (.slice none 0 0)) (x4 := (.slice none 0 0)) rfl rfl rfl (by go_simp) (by go_simp) (by go_simp) (by go_simp) (by go_simp) ?_
   exact cv_leaf (q := x) (er := 0) (by rw [Z.out]) rfl (fun _ => Z.out) fine (by (repeat' (first | with_reducible assumption | with_reducible refine Cur.drewN ?_ _ | with_reducible refine Cur.drew ?_ | with_reducible refine Cur.alloc ?_ _ | (with_reducible refine Cur.past ?_ ?_ _; rotate_left; focus (first | assumption | (simp; done) | (simp; omega) | (dsimp only; omega) | omega | fail)) | with_reducible refine Cur.go (p := x) ?_ | fail))) (by (repeat' (first | with_reducible assumption | with_reducible exact Mem.Sav.refl _ _ _ _ | with_reducible refine Mem.Sav.drewN ?_ _ | with_reducible refine Mem.Sav.drew ?_ | (with_reducible refine Mem.Sav.set ?_ ?_ _; rotate_left; focus (first | (simp; done) | (simp; omega) | (dsimp only; omega) | omega | fail)) | (with_reducible refine Mem.Sav.alloc ?_ ?_ _; rotate_left; focus (first | exact Nat.le_refl _ | assumption | (simp; done) | (simp; omega) | omega | fail)) | (with_reducible refine Mem.Sav.call (by with_reducible assumption) ?_ ?_; focus (first | exact Nat.le_refl _ | assumption | (simp; done) | (simp; omega) | omega | fail)) | (with_reducible refine Mem.Sav.next (by with_reducible assumption) ?_ ?_; focus (first | exact Nat.le_refl _ | assumption | (simp; done) | (simp; omega) | omega | fail)) | (with_reducible refine Mem.Sav.next1 (by with_reducible assumption) ?_ ?_; focus (first | exact Nat.le_refl _ | assumption | (simp; done) | (simp; omega) | omega | fail)) | fail)))
 · have q7 : ((K : Int) == 7) = false := by rw [beq_eq_false_iff_ne]; omega
   rw [if_neg h7] at hR
   by_cases h8 : K = 8
   · subst h8
     rw [if_pos rfl] at hR
     have Z := Lib.hid hR
     clear hR hL hO more
     have tc := HC.out
     go_enter Tryz.func82, Tryz.ntmps82
     go_wp2_with fail
     try simp only [Exit.inBlock, Exit.then]
     refine post_j2 (x0 := .int .i64 1) (x1 := .int .i64 0) (x2 := .string ⟨#[]⟩) (x3 := (.slice none 0 0)) (x4 := (.slice none 0 0)) rfl rfl rfl (by go_simp) (by go_simp) (by go_simp) (by go_simp) (by go_simp) ?_
     exact cv_leaf (q := x) (er := 0) (by rw [Z.out]) rfl (fun _ => Z.out) fine (by (repeat' (first | with_reducible assumption | with_reducible refine Cur.drewN ?_ _ | with_reducible refine Cur.drew ?_ | with_reducible refine Cur.alloc ?_ _ | (with_reducible refine Cur.past ?_ ?_ _; rotate_left; focus (first | assumption | (simp; done) | (simp; omega) | (dsimp only; omega) | omega | fail)) | with_reducible refine Cur.go (p := x) ?_ | fail))) (by (repeat' (first | with_reducible assumption | with_reducible exact Mem.Sav.refl _ _ _ _ | with_reducible refine Mem.Sav.drewN ?_ _ | with_reducible refine Mem.Sav.drew ?_ | (with_reducible refine Mem.Sav.set ?_ ?_ _; rotate_left; focus (first | (simp; done) | (simp; omega) | (dsimp only; omega) | omega | fail)) | (with_reducible refine Mem.Sav.alloc ?_ ?_ _; rotate_left; focus (first | exact Nat.le_refl _ | assumption | (simp; done) | (simp; omega) | omega | fail)) | (with_reducible refine Mem.Sav.call (by with_reducible assumption) ?_ ?_; focus (first | exact Nat.le_refl _ | assumption | (simp; done) | (simp; omega) | omega | fail)) | (with_reducible refine Mem.Sav.next (by with_reducible assumption) ?_ ?_; focus (first | exact Nat.le_refl _ | assumption | (simp; done) | (simp; omega) | omega | fail)) | (with_reducible refine Mem.Sav.next1 (by with_reducible assumption) ?_ ?_; focus (first | exact Nat.le_refl _ | assumption | (simp; done) | (simp; omega) | omega | fail)) | fail)))
   · have q8 : ((K : Int) == 8) = false := by rw [beq_eq_false_iff_ne]; omega
     rw [if_neg h8] at hR
     by_cases h9 : K = 9
     · subst h9
       rw [if_pos rfl] at hR
       have Z := Lib.hid hR
       clear hR hL hO more
       have tc := HC.out
       go_enter Tryz.func82, Tryz.ntmps82
       go_wp2_with fail
       try simp only [Exit.inBlock, Exit.then]
       refine post_j2 (x0 := .int .i64 3) (x1 := .int .i64 n) (x2 := .string ⟨#[]⟩) (x3 := (.slice none 0 0)) (x4 := (.slice none 0 0)) rfl rfl rfl (by go_simp) (by go_simp) (by go_simp) (by go_simp) (by go_simp) ?_
       exact cv_leaf (q := x) (er := 0) (by rw [Z.out]) rfl (fun _ => Z.out) fine (by (repeat' (first | with_reducible assumption | with_reducible refine Cur.drewN ?_ _ | with_reducible refine Cur.drew ?_ | with_reducible refine Cur.alloc ?_ _ | (with_reducible refine Cur.past ?_ ?_ _; rotate_left; focus (first | assumption | (simp; done) | (simp; omega) | (dsimp only; omega) | omega | fail)) | with_reducible refine Cur.go (p := x) ?_ | fail))) (by (repeat' (first | with_reducible assumption | with_reducible exact Mem.Sav.refl _ _ _ _ | with_reducible refine Mem.Sav.drewN ?_ _ | with_reducible refine Mem.Sav.drew ?_ | (with_reducible refine Mem.Sav.set ?_ ?_ _; rotate_left; focus (first | (simp; done) | (simp; omega) | (dsimp only; omega) | omega | fail)) | (with_reducible refine Mem.Sav.alloc ?_ ?_ _; rotate_left; focus (first | exact Nat.le_refl _ | assumption | (simp; done) | (simp; omega) | omega | fail)) | (with_reducible refine Mem.Sav.call (by with_reducible assumption) ?_ ?_; focus (first | exact Nat.le_refl _ | assumption | (simp; done) | (simp; omega) | omega | fail)) | (with_reducible refine Mem.Sav.next (by with_reducible assumption) ?_ ?_; focus (first | exact Nat.le_refl _ | assumption | (simp; done) | (simp; omega) | omega | fail)) | (with_reducible refine Mem.Sav.next1 (by with_reducible assumption) ?_ ?_; focus (first | exact Nat.le_refl _ | assumption | (simp; done) | (simp; omega) | omega | fail)) | fail)))
     · have q9 : ((K : Int) == 9) = false := by rw [beq_eq_false_iff_ne]; omega
       rw [if_neg h9] at hR
       by_cases h10 : K = 10
       · subst h10
         rw [if_pos rfl] at hR
         have Z := Lib.hid hR
         clear hR hL hO more
         have tc := HC.out
         go_enter Tryz.func82, Tryz.ntmps82
         go_wp2_with fail
         try simp only [Exit.inBlock, Exit.then]
         refine post_j2 (x0 := .int .i64 4) (x1 := .int .i64 0) (x2 := .string ⟨T.toArray⟩) (x3 := (.slice none 0 0)) (x4 := (.slice none 0 0)) rfl rfl rfl (by go_simp) (by go_simp) (by go_simp) (by go_simp) (by go_simp) ?_
         exact cv_leaf (q := x) (er := 0) (by rw [Z.out]) rfl (fun _ => Z.out) fine (by (repeat' (first | with_reducible assumption | with_reducible refine Cur.drewN ?_ _ | with_reducible refine Cur.drew ?_ | with_reducible refine Cur.alloc ?_ _ | (with_reducible refine Cur.past ?_ ?_ _; rotate_left; focus (first | assumption | (simp; done) | (simp; omega) | (dsimp only; omega) | omega | fail)) | with_reducible refine Cur.go (p := x) ?_ | fail))) (by (repeat' (first | with_reducible assumption | with_reducible exact Mem.Sav.refl _ _ _ _ | with_reducible refine Mem.Sav.drewN ?_ _ | with_reducible refine Mem.Sav.drew ?_ | (with_reducible refine Mem.Sav.set ?_ ?_ _; rotate_left; focus (first | (simp; done) | (simp; omega) | (dsimp only; omega) | omega | fail)) | (with_reducible refine Mem.Sav.alloc ?_ ?_ _; rotate_left; focus (first | exact Nat.le_refl _ | assumption | (simp; done) | (simp; omega) | omega | fail)) | (with_reducible refine Mem.Sav.call (by with_reducible assumption) ?_ ?_; focus (first | exact Nat.le_refl _ | assumption | (simp; done) | (simp; omega) | omega | fail)) | (with_reducible refine Mem.Sav.next (by with_reducible assumption) ?_ ?_; focus (first | exact Nat.le_refl _ | assumption | (simp; done) | (simp; omega) | omega | fail)) | (with_reducible refine Mem.Sav.next1 (by with_reducible assumption) ?_ ?_; focus (first | exact Nat.le_refl _ | assumption | (simp; done) | (simp; omega) | omega | fail)) | fail)))
       · have q10 : ((K : Int) == 10) = false := by rw [beq_eq_false_iff_ne]; omega
         rw [if_neg h10] at hR
         by_cases h13 : K = 1 ∨ K = 3
         · rw [if_pos h13] at hR
           have px := (more (by omega)).1
           by_cases h32 : d = 32
           · subst h32
             rw [if_pos rfl] at hR
             have Z := Lib.hid hR
             clear hR hL hO more h7 h8 h9 h10
             have tc := HC.out
             rcases h13 with rfl | rfl
             all_goals
              go_enter Tryz.func82, Tryz.ntmps82
              go_wp2_with fail
              try simp only [Exit.inBlock, Exit.then]
              refine post_j2 (x0 := .int .i64 0) (x1 := .int .i64 0) (x2 := .string ⟨#[]⟩) (x3 := (.slice none 0 0)) (x4 := (.slice none 0 0)) rfl rfl rfl (by go_simp) (by go_simp) (by go_simp) (by go_simp) (by go_simp) ?_
              exact cv_bad Z.out (by decide) rfl fine (by (repeat' (first | with_reducible assumption | with_reducible refine Cur.drewN ?_ _ | with_reducible refine Cur.drew ?_ | with_reducible refine Cur.alloc ?_ _ | (with_reducible refine Cur.past ?_ ?_ _; rotate_left; focus (first | assumption | (simp; done) | (simp; omega) | (dsimp only; omega) | omega | fail)) | with_reducible refine Cur.go (p := x) ?_ | fail))) (by (repeat' (first | with_reducible assumption | with_reducible exact Mem.Sav.refl _ _ _ _ | with_reducible refine Mem.Sav.drewN ?_ _ | with_reducible refine Mem.Sav.drew ?_ | (with_reducible refine Mem.Sav.set ?_ ?_ _; rotate_left; focus (first | (simp; done) | (simp; omega) | (dsimp only; omega) | omega | fail)) | (with_reducible refine Mem.Sav.alloc ?_ ?_ _; rotate_left; focus (first | exact Nat.le_refl _ | assumption | (simp; done) | (simp; omega) | omega | fail)) | (with_reducible refine Mem.Sav.call (by with_reducible assumption) ?_ ?_; focus (first | exact Nat.le_refl _ | assumption | (simp; done) | (simp; omega) | omega | fail)) | (with_reducible refine Mem.Sav.next (by with_reducible assumption) ?_ ?_; focus (first | exact Nat.le_refl _ | assumption | (simp; done) | (simp; omega) | omega | fail)) | (with_reducible refine Mem.Sav.next1 (by with_reducible assumption) ?_ ?_; focus (first | exact Nat.le_refl _ | assumption | (simp; done) | (simp; omega) | omega | fail)) | fail)))
           · rw [if_neg h32] at hR
             have qd : ((d : Int) == 32) = false := by rw [beq_eq_false_iff_ne]; omega
             have qd2 : ¬ (d : Int) = 32 := by omega
             have W2 : Sav g g w.heap.size w ((w.alloc (.cells #[.int .i64 (K : Int), .int .i64 n, .string ⟨T.toArray⟩, .int .i64 (a : Int), .int .i64 (x : Int)] 118)).alloc (.cells #[.int .i64 0, .int .i64 0, .string ⟨#[]⟩, .slice none 0 0, .slice none 0 0] 25)) := by (repeat' (first | with_reducible assumption | with_reducible exact Mem.Sav.refl _ _ _ _ | with_reducible refine Mem.Sav.drewN ?_ _ | with_reducible refine Mem.Sav.drew ?_ | (with_reducible refine Mem.Sav.set ?_ ?_ _; rotate_left; focus (first | (simp; done) | (simp; omega) | (dsimp only; omega) | omega | fail)) | (with_reducible refine Mem.Sav.alloc ?_ ?_ _; rotate_left; focus (first | exact Nat.le_refl _ | assumption | (simp; done) | (simp; omega) | omega | fail)) | (with_reducible refine Mem.Sav.call (by with_reducible assumption) ?_ ?_; focus (first | exact Nat.le_refl _ | assumption | (simp; done) | (simp; omega) | omega | fail)) | (with_reducible refine Mem.Sav.next (by with_reducible assumption) ?_ ?_; focus (first | exact Nat.le_refl _ | assumption | (simp; done) | (simp; omega) | omega | fail)) | (with_reducible refine Mem.Sav.next1 (by with_reducible assumption) ?_ ?_; focus (first | exact Nat.le_refl _ | assumption | (simp; done) | (simp; omega) | omega | fail)) | fail))
             have LC := hL l A c g x (d + 1) _ (CX.out.sav W2 (Nat.le_of_lt hg) (Nat.le_refl _)) ((HC.out.alloc _).alloc _) fine (by omega) (by omega)
             have OC := hO l A c g x (d + 1) _ (CX.out.sav W2 (Nat.le_of_lt hg) (Nat.le_refl _)) ((HC.out.alloc _).alloc _) fine (by omega) (by omega)
             have SZ2 : Hid ((((w.alloc (.cells #[.int .i64 (K : Int), .int .i64 n, .string ⟨T.toArray⟩, .int .i64 (a : Int), .int .i64 (x : Int)] 118)).alloc (.cells #[.int .i64 0, .int .i64 0, .string ⟨#[]⟩, .slice none 0 0, .slice none 0 0] 25))).heap.size = w.heap.size + 2) := by show _ = _; simp
             by_cases hK1 : K = 1
             · have q1 : ((K : Int) == 1) = true := by rw [beq_iff_eq]; omega
               rw [show K + 1 = 2 by omega] at hR
               rw [← hR] at OC
               have OCH : Hid (∀ z z0, z = ((d + 1 : Nat) : Int) → z0 = (K : Int) → Calls Tryz.prog 124 #[wv g, .int .i64 z] ((w.alloc (.cells #[.int .i64 z0, .int .i64 n, .string ⟨T.toArray⟩, .int .i64 (a : Int), .int .i64 (x : Int)] 118)).alloc (.cells #[.int .i64 0, .int .i64 0, .string ⟨#[]⟩, .slice none 0 0, .slice none 0 0] 25)) (Cv R l A c g ((w.alloc (.cells #[.int .i64 z0, .int .i64 n, .string ⟨T.toArray⟩, .int .i64 (a : Int), .int .i64 (x : Int)] 118)).alloc (.cells #[.int .i64 0, .int .i64 0, .string ⟨#[]⟩, .slice none 0 0, .slice none 0 0] 25)))) := fun z z0 e e0 => by subst e e0; exact OC
               have SZ3 : Hid (((w.alloc (.cells #[.int .i64 1, .int .i64 n, .string ⟨T.toArray⟩, .int .i64 (a : Int), .int .i64 (x : Int)] 118)).alloc (.cells #[.int .i64 0, .int .i64 0, .string ⟨#[]⟩, .slice none 0 0, .slice none 0 0] 25)).heap.size = w.heap.size + 2) := by show _ = _; simp
               clear hR hL hO more OC LC h7 h8 h9 h10 h13
               go_enter Tryz.func82, Tryz.ntmps82
               go_wp2_with fail
               with_reducible refine (OCH.out _ _ (by push_cast; omega) (by omega)).mono ?_
               rintro e w5 ⟨j, A3, c3, A4, c4, q, rfl, tr, hj, hq, t5, s5⟩
               have z5 := s5.size
               rw [SZ3.out] at z5
               have hOwn := Nat.lt_of_lt_of_le (n := (w.heap.size + 1)) sdd (Mem.Sav.size s5)
               have hOwn1 := Nat.ne_of_gt hOwn
               have hOwn2 := Nat.ne_of_lt hOwn
               have hOwn := (Mem.Sav.cell s5 (p := ⟨(w.heap.size + 1), 0, none⟩) sdd (by first | assumption | (simp; done) | (simp; omega) | omega) (by first | assumption | (simp; done) | (simp; omega) | omega)).trans (by go_simp; rfl)
               have hOwn := (Mem.Sav.cell s5 (p := ⟨(w.heap.size + 1), 1, none⟩) sdd (by first | assumption | (simp; done) | (simp; omega) | omega) (by first | assumption | (simp; done) | (simp; omega) | omega)).trans (by go_simp; rfl)
               have hOwn := (Mem.Sav.cell s5 (p := ⟨(w.heap.size + 1), 2, none⟩) sdd (by first | assumption | (simp; done) | (simp; omega) | omega) (by first | assumption | (simp; done) | (simp; omega) | omega)).trans (by go_simp; rfl)
               have hOwn := (Mem.Sav.cell s5 (p := ⟨(w.heap.size + 1), 3, none⟩) sdd (by first | assumption | (simp; done) | (simp; omega) | omega) (by first | assumption | (simp; done) | (simp; omega) | omega)).trans (by go_simp; rfl)
               have hOwn := (Mem.Sav.cell s5 (p := ⟨(w.heap.size + 1), 4, none⟩) sdd (by first | assumption | (simp; done) | (simp; omega) | omega) (by first | assumption | (simp; done) | (simp; omega) | omega)).trans (by go_simp; rfl)
               have hOwn := (Mem.Sav.frozen s5 (p := ⟨(w.heap.size + 1), 0, none⟩) sdd (by first | assumption | (simp; done) | (simp; omega) | omega) (by first | assumption | (simp; done) | (simp; omega) | omega)).trans (by go_simp; rfl)
               have hOwn := (Mem.Sav.frozen s5 (p := ⟨(w.heap.size + 1), 1, none⟩) sdd (by first | assumption | (simp; done) | (simp; omega) | omega) (by first | assumption | (simp; done) | (simp; omega) | omega)).trans (by go_simp; rfl)
               have hOwn := (Mem.Sav.frozen s5 (p := ⟨(w.heap.size + 1), 2, none⟩) sdd (by first | assumption | (simp; done) | (simp; omega) | omega) (by first | assumption | (simp; done) | (simp; omega) | omega)).trans (by go_simp; rfl)
               have hOwn := (Mem.Sav.frozen s5 (p := ⟨(w.heap.size + 1), 3, none⟩) sdd (by first | assumption | (simp; done) | (simp; omega) | omega) (by first | assumption | (simp; done) | (simp; omega) | omega)).trans (by go_simp; rfl)
               have hOwn := (Mem.Sav.frozen s5 (p := ⟨(w.heap.size + 1), 4, none⟩) sdd (by first | assumption | (simp; done) | (simp; omega) | omega) (by first | assumption | (simp; done) | (simp; omega) | omega)).trans (by go_simp; rfl)
               go_wp2_with fail
               try simp only [Exit.inBlock, Exit.then]
               refine post_j2 (x0 := .int .i64 j.k) (x1 := .int .i64 j.n) (x2 := .string j.t) (x3 := (.slice A3 j.its.length c3)) (x4 := (.slice A4 j.ks.length c4)) rfl rfl rfl (by go_simp) (by go_simp) (by go_simp) (by go_simp) (by go_simp) ?_
               refine cv_ret rfl tr (by rw [SZ3.out]; omega) ?_ (by simp) hj hq (by (repeat' (first | with_reducible assumption | with_reducible refine Cur.drewN ?_ _ | with_reducible refine Cur.drew ?_ | with_reducible refine Cur.alloc ?_ _ | (with_reducible refine Cur.past ?_ ?_ _; rotate_left; focus (first | assumption | (simp; done) | (simp; omega) | (dsimp only; omega) | omega | fail)) | with_reducible refine Cur.go (p := q) ?_ | fail))) (by (repeat' (first | with_reducible assumption | with_reducible exact Mem.Sav.refl _ _ _ _ | with_reducible refine Mem.Sav.drewN ?_ _ | with_reducible refine Mem.Sav.drew ?_ | (with_reducible refine Mem.Sav.set ?_ ?_ _; rotate_left; focus (first | (simp; done) | (simp; omega) | (dsimp only; omega) | omega | fail)) | (with_reducible refine Mem.Sav.alloc ?_ ?_ _; rotate_left; focus (first | exact Nat.le_refl _ | assumption | (simp; done) | (simp; omega) | omega | fail)) | (with_reducible refine Mem.Sav.call (by with_reducible assumption) ?_ ?_; focus (first | exact Nat.le_refl _ | assumption | (simp; done) | (simp; omega) | omega | fail)) | (with_reducible refine Mem.Sav.next (by with_reducible assumption) ?_ ?_; focus (first | exact Nat.le_refl _ | assumption | (simp; done) | (simp; omega) | omega | fail)) | (with_reducible refine Mem.Sav.next1 (by with_reducible assumption) ?_ ?_; focus (first | exact Nat.le_refl _ | assumption | (simp; done) | (simp; omega) | omega | fail)) | fail)))
               have HG : ∀ b, Btw (((w.alloc (.cells #[.int .i64 1, .int .i64 n, .string ⟨T.toArray⟩, .int .i64 (a : Int), .int .i64 (x : Int)] 118)).alloc (.cells #[.int .i64 0, .int .i64 0, .string ⟨#[]⟩, .slice none 0 0, .slice none 0 0] 25))).heap.size w5.heap.size b → b ≠ w.heap.size + 1 := fun b hb => by have := hb.1; rw [SZ3.out] at this; omega
               repeat (with_reducible refine KeepS.set ?_ HG _ _)
               with_reducible exact KeepS.refl _ _
             · have q1 : ((K : Int) == 1) = false := by rw [beq_eq_false_iff_ne]; omega
               have q3 : ((K : Int) == 3) = true := by rw [beq_iff_eq]; omega
               rw [show K + 1 = 4 by omega] at hR
               rw [← hR] at LC
               have LCH := Lib.hid (fun z (e : z = ((d + 1 : Nat) : Int)) => (show Calls Tryz.prog 123 #[wv g, .int .i64 z] _ _ from e ▸ LC))
               clear hR hL hO more OC LC h7 h8 h9 h10 h13
               go_enter Tryz.func82, Tryz.ntmps82
               go_wp2_with fail
               with_reducible refine (LCH.out _ (by push_cast; omega)).mono ?_
               rintro e w5 ⟨j, A3, c3, A4, c4, q, rfl, tr, hj, hq, t5, s5⟩
               have z5 := s5.size
               rw [SZ2.out] at z5
               have hOwn := Nat.lt_of_lt_of_le (n := (w.heap.size + 1)) sdd (Mem.Sav.size s5)
               have hOwn1 := Nat.ne_of_gt hOwn
               have hOwn2 := Nat.ne_of_lt hOwn
               have hOwn := (Mem.Sav.cell s5 (p := ⟨(w.heap.size + 1), 0, none⟩) sdd (by first | assumption | (simp; done) | (simp; omega) | omega) (by first | assumption | (simp; done) | (simp; omega) | omega)).trans (by go_simp; rfl)
               have hOwn := (Mem.Sav.cell s5 (p := ⟨(w.heap.size + 1), 1, none⟩) sdd (by first | assumption | (simp; done) | (simp; omega) | omega) (by first | assumption | (simp; done) | (simp; omega) | omega)).trans (by go_simp; rfl)
               have hOwn := (Mem.Sav.cell s5 (p := ⟨(w.heap.size + 1), 2, none⟩) sdd (by first | assumption | (simp; done) | (simp; omega) | omega) (by first | assumption | (simp; done) | (simp; omega) | omega)).trans (by go_simp; rfl)
               have hOwn := (Mem.Sav.cell s5 (p := ⟨(w.heap.size + 1), 3, none⟩) sdd (by first | assumption | (simp; done) | (simp; omega) | omega) (by first | assumption | (simp; done) | (simp; omega) | omega)).trans (by go_simp; rfl)
               have hOwn := (Mem.Sav.cell s5 (p := ⟨(w.heap.size + 1), 4, none⟩) sdd (by first | assumption | (simp; done) | (simp; omega) | omega) (by first | assumption | (simp; done) | (simp; omega) | omega)).trans (by go_simp; rfl)
               have hOwn := (Mem.Sav.frozen s5 (p := ⟨(w.heap.size + 1), 0, none⟩) sdd (by first | assumption | (simp; done) | (simp; omega) | omega) (by first | assumption | (simp; done) | (simp; omega) | omega)).trans (by go_simp; rfl)
               have hOwn := (Mem.Sav.frozen s5 (p := ⟨(w.heap.size + 1), 1, none⟩) sdd (by first | assumption | (simp; done) | (simp; omega) | omega) (by first | assumption | (simp; done) | (simp; omega) | omega)).trans (by go_simp; rfl)
               have hOwn := (Mem.Sav.frozen s5 (p := ⟨(w.heap.size + 1), 2, none⟩) sdd (by first | assumption | (simp; done) | (simp; omega) | omega) (by first | assumption | (simp; done) | (simp; omega) | omega)).trans (by go_simp; rfl)
               have hOwn := (Mem.Sav.frozen s5 (p := ⟨(w.heap.size + 1), 3, none⟩) sdd (by first | assumption | (simp; done) | (simp; omega) | omega) (by first | assumption | (simp; done) | (simp; omega) | omega)).trans (by go_simp; rfl)
               have hOwn := (Mem.Sav.frozen s5 (p := ⟨(w.heap.size + 1), 4, none⟩) sdd (by first | assumption | (simp; done) | (simp; omega) | omega) (by first | assumption | (simp; done) | (simp; omega) | omega)).trans (by go_simp; rfl)
               go_wp2_with fail
               try simp only [Exit.inBlock, Exit.then]
               refine post_j2 (x0 := .int .i64 j.k) (x1 := .int .i64 j.n) (x2 := .string j.t) (x3 := (.slice A3 j.its.length c3)) (x4 := (.slice A4 j.ks.length c4)) rfl rfl rfl (by go_simp) (by go_simp) (by go_simp) (by go_simp) (by go_simp) ?_
               refine cv_ret rfl tr (by rw [SZ2.out]; omega) ?_ (by simp) hj hq (by (repeat' (first | with_reducible assumption | with_reducible refine Cur.drewN ?_ _ | with_reducible refine Cur.drew ?_ | with_reducible refine Cur.alloc ?_ _ | (with_reducible refine Cur.past ?_ ?_ _; rotate_left; focus (first | assumption | (simp; done) | (simp; omega) | (dsimp only; omega) | omega | fail)) | with_reducible refine Cur.go (p := q) ?_ | fail))) (by (repeat' (first | with_reducible assumption | with_reducible exact Mem.Sav.refl _ _ _ _ | with_reducible refine Mem.Sav.drewN ?_ _ | with_reducible refine Mem.Sav.drew ?_ | (with_reducible refine Mem.Sav.set ?_ ?_ _; rotate_left; focus (first | (simp; done) | (simp; omega) | (dsimp only; omega) | omega | fail)) | (with_reducible refine Mem.Sav.alloc ?_ ?_ _; rotate_left; focus (first | exact Nat.le_refl _ | assumption | (simp; done) | (simp; omega) | omega | fail)) | (with_reducible refine Mem.Sav.call (by with_reducible assumption) ?_ ?_; focus (first | exact Nat.le_refl _ | assumption | (simp; done) | (simp; omega) | omega | fail)) | (with_reducible refine Mem.Sav.next (by with_reducible assumption) ?_ ?_; focus (first | exact Nat.le_refl _ | assumption | (simp; done) | (simp; omega) | omega | fail)) | (with_reducible refine Mem.Sav.next1 (by with_reducible assumption) ?_ ?_; focus (first | exact Nat.le_refl _ | assumption | (simp; done) | (simp; omega) | omega | fail)) | fail)))
               have HG : ∀ b, Btw (((w.alloc (.cells #[.int .i64 (K : Int), .int .i64 n, .string ⟨T.toArray⟩, .int .i64 (a : Int), .int .i64 (x : Int)] 118)).alloc (.cells #[.int .i64 0, .int .i64 0, .string ⟨#[]⟩, .slice none 0 0, .slice none 0 0] 25))).heap.size w5.heap.size b → b ≠ w.heap.size + 1 := fun b hb => by have := hb.1; rw [SZ2.out] at this; omega
               repeat (with_reducible refine KeepS.set ?_ HG _ _)
               with_reducible exact KeepS.refl _ _
         · rw [if_neg h13] at hR
           have Z := Lib.hid hR
           have q1 : ((K : Int) == 1) = false := by rw [beq_eq_false_iff_ne]; omega
           have q3 : ((K : Int) == 3) = false := by rw [beq_eq_false_iff_ne]; omega
           clear hR hL hO more h7 h8 h9 h10 h13
           have tc := HC.out
           go_enter Tryz.func82, Tryz.ntmps82
           go_wp2_with fail
           try simp only [Exit.inBlock, Exit.then]
           refine post_j2 (x0 := .int .i64 0) (x1 := .int .i64 0) (x2 := .string ⟨#[]⟩) (x3 := (.slice none 0 0)) (x4 := (.slice none 0 0)) rfl rfl rfl (by go_simp) (by go_simp) (by go_simp) (by go_simp) (by go_simp) ?_
           exact cv_bad Z.out (by decide) rfl fine (by (repeat' (first | with_reducible assumption | with_reducible refine Cur.drewN ?_ _ | with_reducible refine Cur.drew ?_ | with_reducible refine Cur.alloc ?_ _ | (with_reducible refine Cur.past ?_ ?_ _; rotate_left; focus (first | assumption | (simp; done) | (simp; omega) | (dsimp only; omega) | omega | fail)) | with_reducible refine Cur.go (p := x) ?_ | fail))) (by (repeat' (first | with_reducible assumption | with_reducible exact Mem.Sav.refl _ _ _ _ | with_reducible refine Mem.Sav.drewN ?_ _ | with_reducible refine Mem.Sav.drew ?_ | (with_reducible refine Mem.Sav.set ?_ ?_ _; rotate_left; focus (first | (simp; done) | (simp; omega) | (dsimp only; omega) | omega | fail)) | (with_reducible refine Mem.Sav.alloc ?_ ?_ _; rotate_left; focus (first | exact Nat.le_refl _ | assumption | (simp; done) | (simp; omega) | omega | fail)) | (with_reducible refine Mem.Sav.call (by with_reducible assumption) ?_ ?_; focus (first | exact Nat.le_refl _ | assumption | (simp; done) | (simp; omega) | omega | fail)) | (with_reducible refine Mem.Sav.next (by with_reducible assumption) ?_ ?_; focus (first | exact Nat.le_refl _ | assumption | (simp; done) | (simp; omega) | omega | fail)) | (with_reducible refine Mem.Sav.next1 (by with_reducible assumption) ?_ ?_; focus (first | exact Nat.le_refl _ | assumption | (simp; done) | (simp; omega) | omega | fail)) | fail)))
end Go.Proofs.YthogheglddfniaaGreatDoor
