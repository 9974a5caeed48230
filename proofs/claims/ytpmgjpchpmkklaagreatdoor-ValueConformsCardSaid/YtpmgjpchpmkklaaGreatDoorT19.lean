/- Joined by tools/bundle.py: R10E R10F R10H R10N R10O. -/
import Derived.Deep.RegionHeldLaw
import Derived.BigQuiet
import Derived.Test.YtpmgjpchpmkklaaGreatDoorT5
import Derived.Test.YtpmgjpchpmkklaaGreatDoorT6
import Derived.Test.YtpmgjpchpmkklaaGreatDoorT7
import Derived.Test.YtpmgjpchpmkklaaGreatDoorT18
import Derived.Test.YtpmgjpchpmkklaaGreatDoorT0
set_option maxRecDepth 100000
set_option maxHeartbeats 16000000
namespace Go.Proofs.YtpmgjpchpmkklaaGreatDoor
open Go.ChangeShapes Go.WideShapes Go.ChangeAt Go.RowKit Mem
theorem rOne_lists (nk sz im : Int) (nm df : ByteArray) (hs : Bool) (al sy : List ByteArray) (br1 br2 : List Int) (fs1 fs2 : List Fd) (hbr : br1.length = br2.length) (hfs : fs1.length = fs2.length) (w : World) (A2 A3 A4 A9 B2 B3 B4 B9 : Option Addr) (c2 c3 c4 c9 d2 d3 d4 d9 : Nat)
 (f2 : FlS w (· < w.heap.size) A2 (al.map Value.string)) (g2 : FlS w (· < w.heap.size) B2 (al.map Value.string)) (l2 : al.length ≤ maxLen) (f4 : FlS w (· < w.heap.size) A4 (sy.map Value.string)) (g4 : FlS w (· < w.heap.size) B4 (sy.map Value.string)) (l4 : sy.length ≤ maxLen)
 (r3 : RowD w (· < w.heap.size) 9 (fs1.map Fd.enc) A3) (s3 : RowD w (· < w.heap.size) 9 (fs2.map Fd.enc) B3) (r9 : RowD w (· < w.heap.size) 1 (br1.map (D.i .i64)) A9) (s9 : RowD w (· < w.heap.size) 1 (br2.map (D.i .i64)) B9) (l3 : fs1.length ≤ maxLen) (l9 : br1.length ≤ maxLen) (R : Bool) (YES : br1 = br2 → fs1 = fs2 → R = true) (NO : br1 ≠ br2 ∨ fs1 ≠ fs2 → R = false) :
 Calls Tryz.prog 81 #[.agg #[.int .i64 nk, .string nm, .slice A2 al.length c2, .slice A3 fs1.length c3, .slice A4 sy.length c4, .bool hs, .string df, .int .i64 sz, .int .i64 im, .slice A9 br1.length c9], .agg #[.int .i64 nk, .string nm, .slice B2 al.length d2, .slice B3 fs2.length d3, .slice B4 sy.length d4, .bool hs, .string df, .int .i64 sz, .int .i64 im, .slice B9 br2.length d9]] w (Told R w) := by
 have CS := cell_set
 have kp : ∀ {A : Option Addr} {l : List ByteArray} {W : World}, FlS w (· < w.heap.size) A (l.map Value.string) → Below w.heap.size w W → FlS W (· < W.heap.size) A (l.map Value.string) := fun h b => (h.keep (Below.keeps b) (fun _ h => h)).keep (fun _ _ => rfl) fun _ h => Nat.lt_of_lt_of_le h b.size
 have T2 := Lib.hid (fun W (b : Below w.heap.size w W) => rTexts_any A2 B2 c2 d2 al al W (kp f2 b) (kp g2 b) l2 l2)
 have T4 := Lib.hid (fun W (b : Below w.heap.size w W) => rTexts_any A4 B4 c4 d4 sy sy W (kp f4 b) (kp g4 b) l4 l4)
 rw [decide_eq_true rfl] at T2 T4
 have R3 := Lib.hid r3; have R9 := Lib.hid r9; have S3 := Lib.hid s3; have S9 := Lib.hid s9
 have YH := Lib.hid YES; have NH := Lib.hid NO
 unfold maxLen at l3 l9
 obtain ⟨nf, hnf⟩ : ∃ m, m = fs1.length := ⟨_, rfl⟩
 obtain ⟨nb, hnb⟩ : ∃ m, m = br1.length := ⟨_, rfl⟩
 have HNF := Lib.hid hnf; have HNB := Lib.hid hnb
 have HNF2 : Hid (nf = fs2.length) := hnf.trans hfs; have HNB2 : Hid (nb = br2.length) := hnb.trans hbr
 rw [← HNF2.out, ← HNB2.out, ← hnf, ← hnb]
 rw [← hnf] at l3
 rw [← hnb] at l9
 have nn : ∀ X : ByteArray, (X.toList != X.toList) = false := by simp
 have W2 : Below w.heap.size w ((w.alloc (.cells #[.int .i64 nk, .string nm, .slice A2 al.length c2, .slice A3 nf c3, .slice A4 sy.length c4, .bool hs, .string df, .int .i64 sz, .int .i64 im, .slice A9 nb c9] 42)).alloc (.cells #[.int .i64 nk, .string nm, .slice B2 al.length d2, .slice B3 nf d3, .slice B4 sy.length d4, .bool hs, .string df, .int .i64 sz, .int .i64 im, .slice B9 nb d9] 42)) := ((Below.refl _ _).alloc (Nat.le_refl _) _).alloc (by simp) _
 have gz2 : ((w.alloc (.cells #[.int .i64 nk, .string nm, .slice A2 al.length c2, .slice A3 nf c3, .slice A4 sy.length c4, .bool hs, .string df, .int .i64 sz, .int .i64 im, .slice A9 nb c9] 42)).alloc (.cells #[.int .i64 nk, .string nm, .slice B2 al.length d2, .slice B3 nf d3, .slice B4 sy.length d4, .bool hs, .string df, .int .i64 sz, .int .i64 im, .slice B9 nb d9] 42)).heap.size = w.heap.size + 2 := by simp
 have GZ2 := Lib.hid gz2
 clear f2 g2 l2 f4 g4 l4 r3 s3 r9 s9 kp hnf hnb gz2 hbr hfs YES NO
 go_enter Tryz.func81, Tryz.ntmps81
 go_wp2_with fail
 with_reducible refine (T2.out _ W2).mono ?_
 rintro e w1 ⟨rfl, b1⟩
 rw [GZ2.out] at b1
 have z1 := b1.size
 rw [GZ2.out] at z1
 have bw1 : Below w.heap.size w w1 := W2.trans (b1.mono (by omega))
 have hOwn := Nat.lt_of_lt_of_le (n := w.heap.size) sdd (Below.size b1)
 have hOwn1 := Nat.ne_of_gt hOwn
 have hOwn2 := Nat.ne_of_lt hOwn
 have hOwn := ocl b1 w.heap.size 0
 have hOwn := ocl b1 w.heap.size 1
 have hOwn := ocl b1 w.heap.size 2
 have hOwn := ocl b1 w.heap.size 3
 have hOwn := ocl b1 w.heap.size 4
 have hOwn := ocl b1 w.heap.size 5
 have hOwn := ocl b1 w.heap.size 6
 have hOwn := ocl b1 w.heap.size 7
 have hOwn := ocl b1 w.heap.size 8
 have hOwn := ocl b1 w.heap.size 9
 have hOwn := ofr b1 w.heap.size 0
 have hOwn := ofr b1 w.heap.size 1
 have hOwn := ofr b1 w.heap.size 2
 have hOwn := ofr b1 w.heap.size 3
 have hOwn := ofr b1 w.heap.size 4
 have hOwn := ofr b1 w.heap.size 5
 have hOwn := ofr b1 w.heap.size 6
 have hOwn := ofr b1 w.heap.size 7
 have hOwn := ofr b1 w.heap.size 8
 have hOwn := ofr b1 w.heap.size 9
 have hOwn := Nat.lt_of_lt_of_le (n := (w.heap.size + 1)) sdd (Below.size b1)
 have hOwn1 := Nat.ne_of_gt hOwn
 have hOwn2 := Nat.ne_of_lt hOwn
 have hOwn := ocl b1 ((w.heap.size + 1)) 0
 have hOwn := ocl b1 ((w.heap.size + 1)) 1
 have hOwn := ocl b1 ((w.heap.size + 1)) 2
 have hOwn := ocl b1 ((w.heap.size + 1)) 3
 have hOwn := ocl b1 ((w.heap.size + 1)) 4
 have hOwn := ocl b1 ((w.heap.size + 1)) 5
 have hOwn := ocl b1 ((w.heap.size + 1)) 6
 have hOwn := ocl b1 ((w.heap.size + 1)) 7
 have hOwn := ocl b1 ((w.heap.size + 1)) 8
 have hOwn := ocl b1 ((w.heap.size + 1)) 9
 have hOwn := ofr b1 ((w.heap.size + 1)) 0
 have hOwn := ofr b1 ((w.heap.size + 1)) 1
 have hOwn := ofr b1 ((w.heap.size + 1)) 2
 have hOwn := ofr b1 ((w.heap.size + 1)) 3
 have hOwn := ofr b1 ((w.heap.size + 1)) 4
 have hOwn := ofr b1 ((w.heap.size + 1)) 5
 have hOwn := ofr b1 ((w.heap.size + 1)) 6
 have hOwn := ofr b1 ((w.heap.size + 1)) 7
 have hOwn := ofr b1 ((w.heap.size + 1)) 8
 have hOwn := ofr b1 ((w.heap.size + 1)) 9
 go_wp2_with fail
 with_reducible refine (T4.out w1 bw1).mono ?_
 rintro e w3 ⟨rfl, b3⟩
 have z3 := b3.size
 have bw3 : Below w.heap.size w w3 := bw1.trans (b3.mono (by omega))
 have hOwn := Nat.lt_of_lt_of_le (n := w.heap.size) sdd (Below.size b3)
 have hOwn1 := Nat.ne_of_gt hOwn
 have hOwn2 := Nat.ne_of_lt hOwn
 have hOwn := ocl b3 w.heap.size 0
 have hOwn := ocl b3 w.heap.size 1
 have hOwn := ocl b3 w.heap.size 2
 have hOwn := ocl b3 w.heap.size 3
 have hOwn := ocl b3 w.heap.size 4
 have hOwn := ocl b3 w.heap.size 5
 have hOwn := ocl b3 w.heap.size 6
 have hOwn := ocl b3 w.heap.size 7
 have hOwn := ocl b3 w.heap.size 8
 have hOwn := ocl b3 w.heap.size 9
 have hOwn := ofr b3 w.heap.size 0
 have hOwn := ofr b3 w.heap.size 1
 have hOwn := ofr b3 w.heap.size 2
 have hOwn := ofr b3 w.heap.size 3
 have hOwn := ofr b3 w.heap.size 4
 have hOwn := ofr b3 w.heap.size 5
 have hOwn := ofr b3 w.heap.size 6
 have hOwn := ofr b3 w.heap.size 7
 have hOwn := ofr b3 w.heap.size 8
 have hOwn := ofr b3 w.heap.size 9
 have hOwn := Nat.lt_of_lt_of_le (n := (w.heap.size + 1)) sdd (Below.size b3)
 have hOwn1 := Nat.ne_of_gt hOwn
 have hOwn2 := Nat.ne_of_lt hOwn
 have hOwn := ocl b3 ((w.heap.size + 1)) 0
 have hOwn := ocl b3 ((w.heap.size + 1)) 1
 have hOwn := ocl b3 ((w.heap.size + 1)) 2
 have hOwn := ocl b3 ((w.heap.size + 1)) 3
 have hOwn := ocl b3 ((w.heap.size + 1)) 4
 have hOwn := ocl b3 ((w.heap.size + 1)) 5
 have hOwn := ocl b3 ((w.heap.size + 1)) 6
 have hOwn := ocl b3 ((w.heap.size + 1)) 7
 have hOwn := ocl b3 ((w.heap.size + 1)) 8
 have hOwn := ocl b3 ((w.heap.size + 1)) 9
 have hOwn := ofr b3 ((w.heap.size + 1)) 0
 have hOwn := ofr b3 ((w.heap.size + 1)) 1
 have hOwn := ofr b3 ((w.heap.size + 1)) 2
 have hOwn := ofr b3 ((w.heap.size + 1)) 3
 have hOwn := ofr b3 ((w.heap.size + 1)) 4
 have hOwn := ofr b3 ((w.heap.size + 1)) 5
 have hOwn := ofr b3 ((w.heap.size + 1)) 6
 have hOwn := ofr b3 ((w.heap.size + 1)) 7
 have hOwn := ofr b3 ((w.heap.size + 1)) 8
 have hOwn := ofr b3 ((w.heap.size + 1)) 9
 have x9 : w3.cell? ⟨w.heap.size, 9, none⟩ = some (.slice A9 nb c9) := by go_simp
 have x3 : w3.cell? ⟨w.heap.size, 3, none⟩ = some (.slice A3 nf c3) := by go_simp
 have v9 : w3.cell? ⟨w.heap.size + 1, 9, none⟩ = some (.slice B9 nb d9) := by go_simp
 have v3 : w3.cell? ⟨w.heap.size + 1, 3, none⟩ = some (.slice B3 nf d3) := by go_simp
 clear T2 T4
 go_wp2_with fail
 have LP : Hid (∀ wr, Below (w.heap.size + 2) w3 wr → w.heap.size + 2 ≤ wr.heap.size ∧ Below w.heap.size w wr ∧ wr.cell? ⟨w.heap.size, 9, none⟩ = some (.slice A9 nb c9) ∧ wr.cell? ⟨w.heap.size, 3, none⟩ = some (.slice A3 nf c3) ∧ wr.cell? ⟨w.heap.size + 1, 9, none⟩ = some (.slice B9 nb d9) ∧ wr.cell? ⟨w.heap.size + 1, 3, none⟩ = some (.slice B3 nf d3)) := fun wr b =>
  ⟨by have := b.size; omega, bw3.trans (b.mono (by omega)), (b.cell (p := ⟨w.heap.size, 9, none⟩) (by show w.heap.size < _; omega)).trans x9, (b.cell (p := ⟨w.heap.size, 3, none⟩) (by show w.heap.size < _; omega)).trans x3, (b.cell (p := ⟨w.heap.size + 1, 9, none⟩) (by show w.heap.size + 1 < _; omega)).trans v9, (b.cell (p := ⟨w.heap.size + 1, 3, none⟩) (by show w.heap.size + 1 < _; omega)).trans v3⟩
 clear x9 x3 v9 v3
 go_loopw [5] (fun t wr => ∃ j : Nat, j ≤ nb ∧ t = .int .i64 (j : Int) ∧ Hid (∀ i (h : i < br1.length) (g : i < br2.length), i < j → br1[i]'h = br2[i]'g) ∧ Below (w.heap.size + 2) w3 wr) (fun t _ => nb - (intOf t).toNat)
 case atStart => exact ⟨0, Nat.zero_le _, rfl, (fun _ _ _ h => absurd h (Nat.not_lt_zero _)), bqq⟩
 case round =>
  obtain ⟨wo, hwo⟩ : ∃ x, x = wr := ⟨_, rfl⟩
  subst hwo
  obtain ⟨j, hj, rfl, NE, bl⟩ := hrel
  obtain ⟨zo, bwo, x9, x3, v9, v3⟩ := LP.out wo bl
  by_cases hjn : j < nb
  · have qj : (j : Int) < (nb : Int) := by omega
    have h1 : j < br1.length := by rw [← HNB.out]; exact hjn
    have h2 : j < br2.length := by rw [← HNB2.out]; exact hjn
    obtain ⟨b5, o5, e5, hb5, y0⟩ := ints_at (R9.out.below bwo) h1
    obtain ⟨b6, o6, e6, hb6, z0⟩ := ints_at (S9.out.below bwo) h2
    by_cases hx : br1[j]'h1 = br2[j]'h2
    · have NE2 : Hid (∀ i (h : i < br1.length) (g : i < br2.length), i < j + 1 → br1[i]'h = br2[i]'g) := fun i h g hi => by
       rcases Nat.lt_or_ge i j with k | k
       · exact NE.out i h g k
       · obtain rfl : i = j := by omega
         exact hx
      rw [← hx] at z0
      generalize br1[j]'h1 = Y at *
      subst e5 e6
      clear h1 h2 LP hx NE
      go_wp2_with fail
      go_quiet (fail)
      go_wp2_with fail
      go_roundw
      case rel => exact ⟨j + 1, by omega, by go_num, NE2, bqq⟩
      case measure => simp [intOf]; omega
    · have Z := Lib.hid (NH.out (.inl fun e => hx (by subst e; rfl)))
      have sx : (br1[j]'h1 != br2[j]'h2) = true := by rw [bne_iff_ne]; exact hx
      have sx2 : (br1[j]'h1 == br2[j]'h2) = false := by rw [beq_eq_false_iff_ne]; exact hx
      generalize br1[j]'h1 = Y at *
      generalize br2[j]'h2 = X at *
      subst e5 e6
      clear h1 h2 LP hx NE
      go_wp2_with fail
      go_quiet (fail)
      go_wp2_with fail
      go_ret
      exact told_ret Z.out bqq
  · obtain rfl : j = nb := by omega
    have qj : ¬ (j : Int) < (j : Int) := by omega
    have BE : Hid (br1 = br2) := List.ext_getElem (by rw [← HNB.out, ← HNB2.out]) fun i h g => NE.out i h g (by rw [HNB.out]; exact h)
    clear hjn x9 x3 v9 v3 NE
    have l9 := (LP.out wo bl).2.2
    obtain ⟨x9, x3, v9, v3⟩ := l9
    go_wp2_with fail
    go_loopw [6] (fun t wr => ∃ m : Nat, m ≤ nf ∧ t = .int .i64 (m : Int) ∧ Hid (∀ i (h : i < fs1.length) (g : i < fs2.length), i < m → fs1[i]'h = fs2[i]'g) ∧ Below (w.heap.size + 2) w3 wr) (fun t _ => nf - (intOf t).toNat)
    case atStart => exact ⟨0, Nat.zero_le _, rfl, (fun _ _ _ h => absurd h (Nat.not_lt_zero _)), bl⟩
    case round =>
     clear x9 x3 v9 v3
     obtain ⟨m, hm, rfl, NE, bq⟩ := hrel
     obtain ⟨zr, bwr, x9, x3, v9, v3⟩ := LP.out wr bq
     by_cases hmn : m < nf
     · have qm : (m : Int) < (nf : Int) := by omega
       have h1 : m < fs1.length := by rw [← HNF.out]; exact hmn
       have h2 : m < fs2.length := by rw [← HNF2.out]; exact hmn
       obtain ⟨b5, o5, X1, x1, X3, x3', X4, x4, e5, hb5, ⟨p0, p1, p2, p3, p4, p5, p6, p7, p8⟩, k1, f1, t1⟩ := fields_at (R3.out.below bwr) h1
       obtain ⟨b6, o6, Y1, y1, Y3, y3, Y4, y4, e6, hb6, ⟨r0, r1, r2, r3, r4, r5, r6, r7, r8⟩, k2, f2, t2⟩ := fields_at (S3.out.below bwr) h2
       have TX := Lib.hid (fun W (b : Below w.heap.size wr W) => rTexts_any X1 Y1 x1 y1 (fs1[m]'h1).al (fs2[m]'h2).al W ((f1.keep (Below.keeps b) (fun _ h => h)).keep (fun _ _ => rfl) fun _ h => Nat.lt_of_lt_of_le h (Nat.le_trans bwr.size b.size)) ((f2.keep (Below.keeps b) (fun _ h => h)).keep (fun _ _ => rfl) fun _ h => Nat.lt_of_lt_of_le h (Nat.le_trans bwr.size b.size)) k1.2 k2.2)
       have SM := Lib.hid (fun W (b : Below w.heap.size wr W) => rsame_any (fs1[m]'h1).df (fs2[m]'h2).df W X3 X4 Y3 Y4 x3' x4 y3 y4 ((t1.below b).more (Nat.le_trans bwr.size b.size)) ((t2.below b).more (Nat.le_trans bwr.size b.size)))
       have NX : Hid (fs1[m]'h1 = fs2[m]'h2 → ∀ i (h : i < fs1.length) (g : i < fs2.length), i < m + 1 → fs1[i]'h = fs2[i]'g) := fun e i h g hi => by
        rcases Nat.lt_or_ge i m with k | k
        · exact NE.out i h g k
        · obtain rfl : i = m := by omega
          exact e
       have ND : Hid (fs1[m]'h1 ≠ fs2[m]'h2 → R = false) := fun e => NH.out (.inr fun g => e (by subst g; rfl))
       generalize fs1[m]'h1 = F at *
       generalize fs2[m]'h2 = G at *
       subst e5 e6
       have l5 : b5 < w.heap.size := hb5
       have l6 : b6 < w.heap.size := hb6
       have wn : Below wr.heap.size wr ((wr.alloc (.cells #[.string F.name, .slice X1 F.al.length x1, .int .i64 F.ty, .bool F.has, .int .i64 F.df.k, .int .i64 F.df.n, .string F.df.t, .slice X3 F.df.its.length x3', .slice X4 F.df.ks.length x4] 51)).alloc (.cells #[.string G.name, .slice Y1 G.al.length y1, .int .i64 G.ty, .bool G.has, .int .i64 G.df.k, .int .i64 G.df.n, .string G.df.t, .slice Y3 G.df.its.length y3, .slice Y4 G.df.ks.length y4] 51)) := ((Below.refl _ _).alloc (Nat.le_refl _) _).alloc (by simp) _
       have gz : ((wr.alloc (.cells #[.string F.name, .slice X1 F.al.length x1, .int .i64 F.ty, .bool F.has, .int .i64 F.df.k, .int .i64 F.df.n, .string F.df.t, .slice X3 F.df.its.length x3', .slice X4 F.df.ks.length x4] 51)).alloc (.cells #[.string G.name, .slice Y1 G.al.length y1, .int .i64 G.ty, .bool G.has, .int .i64 G.df.k, .int .i64 G.df.n, .string G.df.t, .slice Y3 G.df.its.length y3, .slice Y4 G.df.ks.length y4] 51)).heap.size = wr.heap.size + 2 := by simp
       have GZ := Lib.hid gz
       have w0 := bwr.size
       have u1 : w.heap.size < wr.heap.size := by omega
       have u2 : w.heap.size + 1 < wr.heap.size := by omega
       have u3 : w.heap.size + 1 ≠ wr.heap.size := by omega
       have u4 : wr.heap.size ≠ w.heap.size + 1 := by omega
       have u5 : b6 < wr.heap.size := by omega
       have u6 : b6 ≠ wr.heap.size := by omega
       have u7 : b5 < wr.heap.size := by omega
       have wn2 : Below w.heap.size wr ((wr.alloc (.cells #[.string F.name, .slice X1 F.al.length x1, .int .i64 F.ty, .bool F.has, .int .i64 F.df.k, .int .i64 F.df.n, .string F.df.t, .slice X3 F.df.its.length x3', .slice X4 F.df.ks.length x4] 51)).alloc (.cells #[.string G.name, .slice Y1 G.al.length y1, .int .i64 G.ty, .bool G.has, .int .i64 G.df.k, .int .i64 G.df.n, .string G.df.t, .slice Y3 G.df.its.length y3, .slice Y4 G.df.ks.length y4] 51)) := wn.mono w0
       clear h1 h2 k1 f1 t1 k2 f2 t2 gz LP bl NE
       by_cases hn : F.name = G.name
       · have HF0 : Hid (F.al = G.al → F.ty = G.ty → F.has = G.has → F.df = G.df → F = G) := fun ha ht hh e => by
          cases F; cases G; simp at hn ha ht hh e; subst hn ha ht hh e; rfl
         generalize F.name = fn at *
         generalize G.name = gn at *
         subst hn
         by_cases ha : F.al = G.al
         · rw [decide_eq_true ha] at TX
           have HF1 := Lib.hid (HF0.out ha)
           clear ha HF0
           go_wp2_with fail
           with_reducible refine (TX.out _ wn2).mono ?_
           rintro e w5 ⟨rfl, b7⟩
           rw [GZ.out] at b7
           have z7 := b7.size
           rw [GZ.out] at z7
           have bw5 : Below w.heap.size wr w5 := wn2.trans (b7.mono (by omega))
           have br5 : Below wr.heap.size wr w5 := wn.trans (b7.mono (by omega))
           have bo5 := bwr.trans bw5
           have hOwn := Nat.lt_of_lt_of_le (n := wr.heap.size) sdd (Below.size b7)
           have hOwn1 := Nat.ne_of_gt hOwn
           have hOwn2 := Nat.ne_of_lt hOwn
           have hOwn := ocl b7 wr.heap.size 0
           have hOwn := ocl b7 wr.heap.size 1
           have hOwn := ocl b7 wr.heap.size 2
           have hOwn := ocl b7 wr.heap.size 3
           have hOwn := ocl b7 wr.heap.size 4
           have hOwn := ocl b7 wr.heap.size 5
           have hOwn := ocl b7 wr.heap.size 6
           have hOwn := ocl b7 wr.heap.size 7
           have hOwn := ocl b7 wr.heap.size 8
           have hOwn := ofr b7 wr.heap.size 0
           have hOwn := ofr b7 wr.heap.size 1
           have hOwn := ofr b7 wr.heap.size 2
           have hOwn := ofr b7 wr.heap.size 3
           have hOwn := ofr b7 wr.heap.size 4
           have hOwn := ofr b7 wr.heap.size 5
           have hOwn := ofr b7 wr.heap.size 6
           have hOwn := ofr b7 wr.heap.size 7
           have hOwn := ofr b7 wr.heap.size 8
           have hOwn := Nat.lt_of_lt_of_le (n := (wr.heap.size + 1)) sdd (Below.size b7)
           have hOwn1 := Nat.ne_of_gt hOwn
           have hOwn2 := Nat.ne_of_lt hOwn
           have hOwn := ocl b7 ((wr.heap.size + 1)) 0
           have hOwn := ocl b7 ((wr.heap.size + 1)) 1
           have hOwn := ocl b7 ((wr.heap.size + 1)) 2
           have hOwn := ocl b7 ((wr.heap.size + 1)) 3
           have hOwn := ocl b7 ((wr.heap.size + 1)) 4
           have hOwn := ocl b7 ((wr.heap.size + 1)) 5
           have hOwn := ocl b7 ((wr.heap.size + 1)) 6
           have hOwn := ocl b7 ((wr.heap.size + 1)) 7
           have hOwn := ocl b7 ((wr.heap.size + 1)) 8
           have hOwn := ofr b7 ((wr.heap.size + 1)) 0
           have hOwn := ofr b7 ((wr.heap.size + 1)) 1
           have hOwn := ofr b7 ((wr.heap.size + 1)) 2
           have hOwn := ofr b7 ((wr.heap.size + 1)) 3
           have hOwn := ofr b7 ((wr.heap.size + 1)) 4
           have hOwn := ofr b7 ((wr.heap.size + 1)) 5
           have hOwn := ofr b7 ((wr.heap.size + 1)) 6
           have hOwn := ofr b7 ((wr.heap.size + 1)) 7
           have hOwn := ofr b7 ((wr.heap.size + 1)) 8
           clear TX b7 GZ wn wn2
           by_cases ht : F.ty = G.ty
           · have HF2 := Lib.hid (HF1.out ht)
             clear HF1
             generalize F.ty = ft at *
             generalize G.ty = gt at *
             subst ht
             by_cases hh : F.has = G.has
             · have HF := Lib.hid (HF2.out hh)
               clear HF2
               generalize F.has = fh at *
               generalize G.has = gh at *
               subst hh
               have JS : Hid (J.same F.df G.df = true ↔ F.df = G.df) := ⟨(fun e => Classical.byContradiction fun g => by rw [J.same_no g] at e; cases e), (fun e => by rw [e]; exact J.same_refl _)⟩
               obtain ⟨sb, hsb⟩ : ∃ sb, sb = J.same F.df G.df := ⟨_, rfl⟩
               rw [← hsb] at SM JS
               clear hsb
               have HG : Hid (F = G → F.df = G.df) := fun e => by rw [e]
               go_wp2_with fail
               with_reducible refine (SM.out w5 bw5).mono ?_
               rintro e w6 ⟨rfl, b8⟩
               have bend : Below (w.heap.size + 2) w3 w6 := bq.trans ((br5.trans (b8.mono (by omega))).mono zr)
               have bo6 := bo5.trans (b8.mono bo5.size)
               cases sb with
               | true =>
                have NX2 := Lib.hid (NX.out (HF.out (JS.out.1 rfl)))
                go_wp2_with fail
                go_roundw
                case rel => exact ⟨m + 1, by omega, by go_num, NX2, bend⟩
                case measure => simp [intOf]; omega
               | false =>
                have Z := Lib.hid (ND.out fun e => by have := JS.out.2 (HG.out e); cases this)
                go_wp2_with fail
                go_ret
                exact told_ret Z.out bo6
             · have Z := Lib.hid (ND.out fun e => hh (by rw [e]))
               clear HF2 SM NX ND
               generalize F.has = fh at *
               generalize G.has = gh at *
               obtain ⟨rfl, rfl⟩ | ⟨rfl, rfl⟩ : (fh = true ∧ gh = false) ∨ (fh = false ∧ gh = true) := by cases fh <;> cases gh <;> simp at hh ⊢
               · go_wp2_with fail
                 go_ret
                 exact told_ret Z.out bo5
               · go_wp2_with fail
                 go_ret
                 exact told_ret Z.out bo5
           · have Z := Lib.hid (ND.out fun e => ht (by rw [e]))
             clear HF1 SM NX ND
             generalize F.ty = ft at *
             generalize G.ty = gt at *
             have qt : (ft != gt) = true := by rw [bne_iff_ne]; exact ht
             clear ht
             go_wp2_with fail
             go_ret
             exact told_ret Z.out bo5
         · rw [decide_eq_false ha] at TX
           have Z := Lib.hid (ND.out fun e => ha (by rw [e]))
           clear ha HF0 SM NX ND
           go_wp2_with fail
           with_reducible refine (TX.out _ wn2).mono ?_
           rintro e w5 ⟨rfl, b7⟩
           rw [GZ.out] at b7
           have bo5 : Below w.heap.size w w5 := bwr.trans (wn2.trans (b7.mono (by omega)))
           go_wp2_with fail
           go_ret
           exact told_ret Z.out bo5
       · have Z := Lib.hid (ND.out fun e => hn (by rw [e]))
         have bo5 := bwr.trans wn2
         clear TX SM NX ND wn
         generalize F.name = fn at *
         generalize G.name = gn at *
         have qn : (fn.toList != gn.toList) = true := by rw [str_bne]; simpa using hn
         have qn2 : (fn.toList == gn.toList) = false := by rw [str_beq]; simpa using hn
         clear hn
         go_wp2_with fail
         go_ret
         exact told_ret Z.out bo5
     · obtain rfl : m = nf := by omega
       have qm : ¬ (m : Int) < (m : Int) := by omega
       have Z := Lib.hid (YH.out BE.out (List.ext_getElem (by rw [← HNF.out, ← HNF2.out]) fun i h g => NE.out i h g (by rw [HNF.out]; exact h)))
       clear hmn NE
       go_wp2_with fail
       go_ret
       exact told_ret Z.out bwr
noncomputable def Nd.sameb (a b : Nd) : Bool := @decide (a = b) (Classical.propDecidable _)
theorem Nd.sameb_iff {a b : Nd} : Nd.sameb a b = true ↔ a = b := by unfold Nd.sameb; simp
theorem Nd.sameb_no {a b : Nd} (h : a ≠ b) : Nd.sameb a b = false := by unfold Nd.sameb; simpa using h
theorem told_no {a b : Nd} {w w' : World} {e : Ending} (h : a ≠ b) (t : Told false w e w') : Told (Nd.sameb a b) w e w' := by rw [Nd.sameb_no h]; exact t
theorem rOne_any (n m : Nd) (w : World) (A2 A3 A4 A9 B2 B3 B4 B9 : Option Addr) (c2 c3 c4 c9 d2 d3 d4 d9 : Nat)
 (ha : Lies w (· < w.heap.size) n.enc [.int .i64 n.k, .string n.name, .slice A2 n.al.length c2, .slice A3 n.fs.length c3, .slice A4 n.sy.length c4, .bool n.has, .string n.df, .int .i64 n.size, .int .i64 n.items, .slice A9 n.br.length c9])
 (hb : Lies w (· < w.heap.size) m.enc [.int .i64 m.k, .string m.name, .slice B2 m.al.length d2, .slice B3 m.fs.length d3, .slice B4 m.sy.length d4, .bool m.has, .string m.df, .int .i64 m.size, .int .i64 m.items, .slice B9 m.br.length d9]) :
 Calls Tryz.prog 81 #[.agg #[.int .i64 n.k, .string n.name, .slice A2 n.al.length c2, .slice A3 n.fs.length c3, .slice A4 n.sy.length c4, .bool n.has, .string n.df, .int .i64 n.size, .int .i64 n.items, .slice A9 n.br.length c9],
  .agg #[.int .i64 m.k, .string m.name, .slice B2 m.al.length d2, .slice B3 m.fs.length d3, .slice B4 m.sy.length d4, .bool m.has, .string m.df, .int .i64 m.size, .int .i64 m.items, .slice B9 m.br.length d9]] w (Told (Nd.sameb n m) w) := by
 obtain ⟨_, _, _, _, _, _, _, _, e, l2, f2, l3, r3, l4, f4, l9, r9⟩ := Nd.out.1 ha
 simp only [List.cons.injEq, Value.slice.injEq, true_and, and_true] at e
 obtain ⟨⟨rfl, rfl⟩, ⟨rfl, rfl⟩, ⟨rfl, rfl⟩, rfl, rfl⟩ := e
 obtain ⟨_, _, _, _, _, _, _, _, e, m2, g2, m3, s3, m4, g4, m9, s9⟩ := Nd.out.1 hb
 simp only [List.cons.injEq, Value.slice.injEq, true_and, and_true] at e
 obtain ⟨⟨rfl, rfl⟩, ⟨rfl, rfl⟩, ⟨rfl, rfl⟩, rfl, rfl⟩ := e
 clear ha hb
 obtain ⟨k, nm, al, fs, sy, h, df, z, i, br⟩ := n
 obtain ⟨k2, nm2, al2, fs2, sy2, h2, df2, z2, i2, br2⟩ := m
 dsimp only at *
 by_cases e1 : k = k2
 · subst e1
   by_cases e2 : nm = nm2
   · subst e2
     by_cases e3 : al = al2
     · subst e3
       by_cases e4 : sy = sy2
       · subst e4
         by_cases e5 : h = h2
         · subst e5
           by_cases e6 : df = df2
           · subst e6
             by_cases e7 : z = z2
             · subst e7
               by_cases e8 : i = i2
               · subst e8
                 by_cases e9 : br.length = br2.length
                 · by_cases e10 : fs.length = fs2.length
                   · exact rOne_lists k z i nm df h al sy br br2 fs fs2 e9 e10 w A2 A3 A4 A9 B2 B3 B4 B9 c2 c3 c4 c9 d2 d3 d4 d9 f2 g2 l2.2 f4 g4 l4.2 r3 s3 r9 s9 l3.2 l9.2 _
                      (fun x y => by subst x y; exact Nd.sameb_iff.2 rfl)
                      (fun o => Nd.sameb_no fun g => by injection g with _ _ _ x _ _ _ _ _ y; rcases o with o | o; exact o y; exact o x)
                   · rw [e9]
                     exact (rOne_no_f k nm al sy h df z i br2.length fs.length fs2.length A2 A3 A4 A9 B2 B3 B4 B9 c2 c3 c4 c9 d2 d3 d4 d9 w e10 f2 g2 l2.2 m2.2 f4 g4 l4.2 m4.2).mono fun _ _ => told_no fun g => e10 (by injection g with _ _ _ x; rw [x])
                 · exact (rOne_no_b k nm al sy h df z i br.length br2.length fs.length fs2.length A2 A3 A4 A9 B2 B3 B4 B9 c2 c3 c4 c9 d2 d3 d4 d9 w e9 f2 g2 l2.2 m2.2 f4 g4 l4.2 m4.2).mono fun _ _ => told_no fun g => e9 (by injection g with _ _ _ _ _ _ _ _ _ x; rw [x])
               · exact (rOne_no_i k nm al sy h df z i i2 br.length br2.length fs.length fs2.length A2 A3 A4 A9 B2 B3 B4 B9 c2 c3 c4 c9 d2 d3 d4 d9 w e8 f2 g2 l2.2 m2.2 f4 g4 l4.2 m4.2).mono fun _ _ => told_no fun g => e8 (by injection g)
             · exact (rOne_no_z k nm al sy h df z z2 i i2 br.length br2.length fs.length fs2.length A2 A3 A4 A9 B2 B3 B4 B9 c2 c3 c4 c9 d2 d3 d4 d9 w e7 f2 g2 l2.2 m2.2 f4 g4 l4.2 m4.2).mono fun _ _ => told_no fun g => e7 (by injection g)
           · exact (rOne_no_df k nm al sy h df df2 z z2 i i2 br.length br2.length fs.length fs2.length A2 A3 A4 A9 B2 B3 B4 B9 c2 c3 c4 c9 d2 d3 d4 d9 w e6 f2 g2 l2.2 m2.2 f4 g4 l4.2 m4.2).mono fun _ _ => told_no fun g => e6 (by injection g)
         · exact (rOne_no_h k nm al sy h h2 df df2 z z2 i i2 br.length br2.length fs.length fs2.length A2 A3 A4 A9 B2 B3 B4 B9 c2 c3 c4 c9 d2 d3 d4 d9 w e5 f2 g2 l2.2 m2.2 f4 g4 l4.2 m4.2).mono fun _ _ => told_no fun g => e5 (by injection g)
       · exact (rOne_no_sy k nm al sy sy2 h h2 df df2 z z2 i i2 br.length br2.length fs.length fs2.length A2 A3 A4 A9 B2 B3 B4 B9 c2 c3 c4 c9 d2 d3 d4 d9 w e4 f2 g2 l2.2 m2.2 f4 g4 l4.2 m4.2).mono fun _ _ => told_no fun g => e4 (by injection g)
     · exact (rOne_no_al k nm al al2 sy sy2 h h2 df df2 z z2 i i2 br.length br2.length fs.length fs2.length A2 A3 A4 A9 B2 B3 B4 B9 c2 c3 c4 c9 d2 d3 d4 d9 w e3 f2 g2 l2.2 m2.2).mono fun _ _ => told_no fun g => e3 (by injection g)
   · exact (rOne_no_n k nm nm2 al al2 sy sy2 h h2 df df2 z z2 i i2 br.length br2.length fs.length fs2.length A2 A3 A4 A9 B2 B3 B4 B9 c2 c3 c4 c9 d2 d3 d4 d9 w e2).mono fun _ _ => told_no fun g => e2 (by injection g)
 · exact (rOne_no_k k k2 nm nm2 al al2 sy sy2 h h2 df df2 z z2 i i2 br.length br2.length fs.length fs2.length A2 A3 A4 A9 B2 B3 B4 B9 c2 c3 c4 c9 d2 d3 d4 d9 w e1).mono fun _ _ => told_no fun g => e1 (by injection g)
theorem rsameN_any (n m : Nd) (w : World) (A2 A3 A4 A9 B2 B3 B4 B9 : Option Addr) (c2 c3 c4 c9 d2 d3 d4 d9 : Nat)
 (ha : Lies w (· < w.heap.size) n.enc [.int .i64 n.k, .string n.name, .slice A2 n.al.length c2, .slice A3 n.fs.length c3, .slice A4 n.sy.length c4, .bool n.has, .string n.df, .int .i64 n.size, .int .i64 n.items, .slice A9 n.br.length c9])
 (hb : Lies w (· < w.heap.size) m.enc [.int .i64 m.k, .string m.name, .slice B2 m.al.length d2, .slice B3 m.fs.length d3, .slice B4 m.sy.length d4, .bool m.has, .string m.df, .int .i64 m.size, .int .i64 m.items, .slice B9 m.br.length d9]) :
 Calls Tryz.prog 58 #[.agg #[.int .i64 n.k, .string n.name, .slice A2 n.al.length c2, .slice A3 n.fs.length c3, .slice A4 n.sy.length c4, .bool n.has, .string n.df, .int .i64 n.size, .int .i64 n.items, .slice A9 n.br.length c9], .agg #[.int .i64 m.k, .string m.name, .slice B2 m.al.length d2, .slice B3 m.fs.length d3, .slice B4 m.sy.length d4, .bool m.has, .string m.df, .int .i64 m.size, .int .i64 m.items, .slice B9 m.br.length d9]] w (Told (Nd.sameb n m) w) := by
 have CS := cell_set
 have LA := Lib.hid (fun W (b : Below w.heap.size w W) => rOne_any n m W A2 A3 A4 A9 B2 B3 B4 B9 c2 c3 c4 c9 d2 d3 d4 d9 (ha.on b) (hb.on b))
 generalize Nd.sameb n m = R at *
 clear ha hb
 go_enter Tryz.func58, Tryz.ntmps58
 go_wp2_with fail
 with_reducible refine (LA.out _ bqq).mono ?_
 rintro e w1 ⟨rfl, b1⟩
 go_wp2_with fail
 go_ret
 exact told_ret rfl bqq
def Nd.zi (k im : Int) : Nd := ⟨k, ⟨#[]⟩, [], [], [], false, ⟨#[]⟩, 0, im, []⟩
theorem zi_lies {w : World} {S : Nat → Prop} {k im : Int} : Lies w S (Nd.zi k im).enc [.int .i64 k, .string ⟨#[]⟩, .slice none 0 0, .slice none 0 0, .slice none 0 0, .bool false, .string ⟨#[]⟩, .int .i64 0, .int .i64 im, .slice none 0 0] :=
 Nd.out.2 ⟨none, 0, none, 0, none, 0, none, 0, rfl, ⟨Nat.le_refl _, Nat.zero_le _⟩, .inl rfl, ⟨Nat.le_refl _, Nat.zero_le _⟩, RowD.nil_ _ _ _ _, ⟨Nat.le_refl _, Nat.zero_le _⟩, .inl rfl, ⟨Nat.le_refl _, Nat.zero_le _⟩, RowD.nil_ _ _ _ _⟩
theorem zi_iff {n : Nd} {K : Int} (hk : n.k = K) : Nd.sameb n (Nd.zi n.k n.items) = true ↔ (⟨K, n.name, n.al, n.fs, n.sy, n.has, n.df, n.size, 0, n.br⟩ : Nd) = Nd.z K := by
 rw [Nd.sameb_iff]
 obtain ⟨k, name, al, fs, sy, has, df, size, items, br⟩ := n
 simp [Nd.zi, Nd.z]
theorem rnode_prim (s : Sc) (n : Nd) (hk : 1 ≤ n.k ∧ n.k ≤ 8) (w : World) (A A2 A3 A4 A9 : Option Addr) (c c2 c3 c4 c9 : Nat)
 (h : Lies w (· < w.heap.size) n.enc [.int .i64 n.k, .string n.name, .slice A2 n.al.length c2, .slice A3 n.fs.length c3, .slice A4 n.sy.length c4, .bool n.has, .string n.df, .int .i64 n.size, .int .i64 n.items, .slice A9 n.br.length c9]) :
 Calls Tryz.prog 33 #[.agg #[.slice A s.nodes.length c, .int .i64 s.root], .agg #[.int .i64 n.k, .string n.name, .slice A2 n.al.length c2, .slice A3 n.fs.length c3, .slice A4 n.sy.length c4, .bool n.has, .string n.df, .int .i64 n.size, .int .i64 n.items, .slice A9 n.br.length c9]] w (Tells (n.ok s) w) := by
 have CS := cell_set
 have OKI := Lib.hid (ok_prim (s := s) hk)
 have SN : Hid (∀ W, Below w.heap.size w W → Calls Tryz.prog 58 #[.agg #[.int .i64 n.k, .string n.name, .slice A2 n.al.length c2, .slice A3 n.fs.length c3, .slice A4 n.sy.length c4, .bool n.has, .string n.df, .int .i64 n.size, .int .i64 n.items, .slice A9 n.br.length c9], .agg #[.int .i64 n.k, .string ⟨#[]⟩, .slice none 0 0, .slice none 0 0, .slice none 0 0, .bool false, .string ⟨#[]⟩, .int .i64 0, .int .i64 0, .slice none 0 0]] W (Tells ((⟨n.k, n.name, n.al, n.fs, n.sy, n.has, n.df, n.size, n.items, n.br⟩ : Nd) = Nd.z n.k) W)) := fun W b =>
  (rsameN_any n (Nd.z n.k) W A2 A3 A4 A9 none none none none c2 c3 c4 c9 0 0 0 0 (h.on b) z_lies).mono fun _ _ g => told_tells g (Nd.sameb_iff)
 generalize ((⟨n.k, n.name, n.al, n.fs, n.sy, n.has, n.df, n.size, n.items, n.br⟩ : Nd) = Nd.z n.k) = P3 at *
 generalize n.ok s = Q at *
 clear h
 generalize s.nodes.length = ns at *
 generalize s.root = rt at *
 generalize n.k = k at *
 generalize n.name = nm at *
 generalize n.al.length = e2 at *
 generalize n.fs.length = e3 at *
 generalize n.sy.length = e4 at *
 generalize n.br.length = e9 at *
 generalize n.has = hh at *
 generalize n.df = df at *
 generalize n.size = sz at *
 generalize n.items = im at *
 have NM : Hid (∀ W, Calls Tryz.prog 34 #[.int .i64 k] W (Pure (.bool false) W)) := fun W => by
  have := rNamed_any k W
  rwa [show named k = false by unfold named; rw [decide_eq_false_iff_not]; omega] at this
 have q11 : (k == 11) = false := by rw [beq_eq_false_iff_ne]; omega
 have q12 : (k == 12) = false := by rw [beq_eq_false_iff_ne]; omega
 have q13 : (k == 13) = false := by rw [beq_eq_false_iff_ne]; omega
 have q9 : (k == 9) = false := by rw [beq_eq_false_iff_ne]; omega
 have q10 : (k == 10) = false := by rw [beq_eq_false_iff_ne]; omega
 have q14 : (k == 14) = false := by rw [beq_eq_false_iff_ne]; omega
 have q1 : (1 : Int) ≤ k := hk.1
 have q2 : k ≤ (14 : Int) := by omega
 clear hk
 go_enter Tryz.func33, Tryz.ntmps33
 go_wp2_with fail
 with_reducible refine (NM.out _).mono ?_
 rintro e w1 ⟨rfl, rfl⟩
 go_wp2_with fail
 with_reducible refine (SN.out _ bqq).mono ?_
 rintro e w9 ⟨b, rfl, hb, b9⟩
 have bw9 : Below w.heap.size w w9 := bqq
 have HB9 := Lib.hid hb
 clear hb
 go_wp2_with fail
 go_ret
 exact ⟨b, rfl, HB9.out.trans OKI.out.symm, bw9⟩
theorem rnode_11 (s : Sc) (n : Nd) (hk : n.k = 11) (w : World) (A A2 A3 A4 A9 : Option Addr) (c c2 c3 c4 c9 : Nat)
 (h : Lies w (· < w.heap.size) n.enc [.int .i64 n.k, .string n.name, .slice A2 n.al.length c2, .slice A3 n.fs.length c3, .slice A4 n.sy.length c4, .bool n.has, .string n.df, .int .i64 n.size, .int .i64 n.items, .slice A9 n.br.length c9]) :
 Calls Tryz.prog 33 #[.agg #[.slice A s.nodes.length c, .int .i64 s.root], .agg #[.int .i64 n.k, .string n.name, .slice A2 n.al.length c2, .slice A3 n.fs.length c3, .slice A4 n.sy.length c4, .bool n.has, .string n.df, .int .i64 n.size, .int .i64 n.items, .slice A9 n.br.length c9]] w (Tells (n.ok s) w) := by
 have CS := cell_set
 have OKI := Lib.hid (ok_11 (s := s) hk)
 have SN : Hid (∀ W, Below w.heap.size w W → Calls Tryz.prog 58 #[.agg #[.int .i64 n.k, .string n.name, .slice A2 n.al.length c2, .slice A3 n.fs.length c3, .slice A4 n.sy.length c4, .bool n.has, .string n.df, .int .i64 n.size, .int .i64 n.items, .slice A9 n.br.length c9], .agg #[.int .i64 n.k, .string ⟨#[]⟩, .slice none 0 0, .slice none 0 0, .slice none 0 0, .bool false, .string ⟨#[]⟩, .int .i64 0, .int .i64 n.items, .slice none 0 0]] W (Tells ((⟨11, n.name, n.al, n.fs, n.sy, n.has, n.df, n.size, 0, n.br⟩ : Nd) = Nd.z 11) W)) := fun W b =>
  (rsameN_any n (Nd.zi n.k n.items) W A2 A3 A4 A9 none none none none c2 c3 c4 c9 0 0 0 0 (h.on b) zi_lies).mono fun _ _ g => told_tells g (zi_iff hk)
 generalize ((⟨11, n.name, n.al, n.fs, n.sy, n.has, n.df, n.size, 0, n.br⟩ : Nd) = Nd.z 11) = P3 at *
 generalize n.ok s = Q at *
 clear h
 generalize s.nodes.length = ns at *
 generalize s.root = rt at *
 generalize n.k = k at *
 generalize n.name = nm at *
 generalize n.al.length = e2 at *
 generalize n.fs.length = e3 at *
 generalize n.sy.length = e4 at *
 generalize n.br.length = e9 at *
 generalize n.has = hh at *
 generalize n.df = df at *
 generalize n.size = sz at *
 generalize n.items = im at *
 have NM : Hid (∀ W, Calls Tryz.prog 34 #[.int .i64 k] W (Pure (.bool false) W)) := fun W => by
  have := rNamed_any k W
  rwa [show named k = false by unfold named; rw [decide_eq_false_iff_not]; omega] at this
 subst hk
 go_enter Tryz.func33, Tryz.ntmps33
 go_wp2_with fail
 with_reducible refine (NM.out _).mono ?_
 rintro e w1 ⟨rfl, rfl⟩
 go_wp2_with fail
 with_reducible refine (SN.out _ bqq).mono ?_
 rintro e w9 ⟨b, rfl, hb, b9⟩
 have bw9 : Below w.heap.size w w9 := bqq
 have HB9 := Lib.hid hb
 clear hb
 go_wp2_with fail
 go_ret
 exact ⟨b, rfl, HB9.out.trans OKI.out.symm, bw9⟩
theorem rnode_12 (s : Sc) (n : Nd) (hk : n.k = 12) (w : World) (A A2 A3 A4 A9 : Option Addr) (c c2 c3 c4 c9 : Nat)
 (h : Lies w (· < w.heap.size) n.enc [.int .i64 n.k, .string n.name, .slice A2 n.al.length c2, .slice A3 n.fs.length c3, .slice A4 n.sy.length c4, .bool n.has, .string n.df, .int .i64 n.size, .int .i64 n.items, .slice A9 n.br.length c9]) :
 Calls Tryz.prog 33 #[.agg #[.slice A s.nodes.length c, .int .i64 s.root], .agg #[.int .i64 n.k, .string n.name, .slice A2 n.al.length c2, .slice A3 n.fs.length c3, .slice A4 n.sy.length c4, .bool n.has, .string n.df, .int .i64 n.size, .int .i64 n.items, .slice A9 n.br.length c9]] w (Tells (n.ok s) w) := by
 have CS := cell_set
 have OKI := Lib.hid (ok_12 (s := s) hk)
 have SN : Hid (∀ W, Below w.heap.size w W → Calls Tryz.prog 58 #[.agg #[.int .i64 n.k, .string n.name, .slice A2 n.al.length c2, .slice A3 n.fs.length c3, .slice A4 n.sy.length c4, .bool n.has, .string n.df, .int .i64 n.size, .int .i64 n.items, .slice A9 n.br.length c9], .agg #[.int .i64 n.k, .string ⟨#[]⟩, .slice none 0 0, .slice none 0 0, .slice none 0 0, .bool false, .string ⟨#[]⟩, .int .i64 0, .int .i64 n.items, .slice none 0 0]] W (Tells ((⟨12, n.name, n.al, n.fs, n.sy, n.has, n.df, n.size, 0, n.br⟩ : Nd) = Nd.z 12) W)) := fun W b =>
  (rsameN_any n (Nd.zi n.k n.items) W A2 A3 A4 A9 none none none none c2 c3 c4 c9 0 0 0 0 (h.on b) zi_lies).mono fun _ _ g => told_tells g (zi_iff hk)
 generalize ((⟨12, n.name, n.al, n.fs, n.sy, n.has, n.df, n.size, 0, n.br⟩ : Nd) = Nd.z 12) = P3 at *
 generalize n.ok s = Q at *
 clear h
 generalize s.nodes.length = ns at *
 generalize s.root = rt at *
 generalize n.k = k at *
 generalize n.name = nm at *
 generalize n.al.length = e2 at *
 generalize n.fs.length = e3 at *
 generalize n.sy.length = e4 at *
 generalize n.br.length = e9 at *
 generalize n.has = hh at *
 generalize n.df = df at *
 generalize n.size = sz at *
 generalize n.items = im at *
 have NM : Hid (∀ W, Calls Tryz.prog 34 #[.int .i64 k] W (Pure (.bool false) W)) := fun W => by
  have := rNamed_any k W
  rwa [show named k = false by unfold named; rw [decide_eq_false_iff_not]; omega] at this
 subst hk
 go_enter Tryz.func33, Tryz.ntmps33
 go_wp2_with fail
 with_reducible refine (NM.out _).mono ?_
 rintro e w1 ⟨rfl, rfl⟩
 go_wp2_with fail
 with_reducible refine (SN.out _ bqq).mono ?_
 rintro e w9 ⟨b, rfl, hb, b9⟩
 have bw9 : Below w.heap.size w w9 := bqq
 have HB9 := Lib.hid hb
 clear hb
 go_wp2_with fail
 go_ret
 exact ⟨b, rfl, HB9.out.trans OKI.out.symm, bw9⟩
theorem rnode_other (s : Sc) (n : Nd) (hk : n.k < 1 ∨ 14 < n.k) (w : World) (A A2 A3 A4 A9 : Option Addr) (c c2 c3 c4 c9 : Nat) :
 Calls Tryz.prog 33 #[.agg #[.slice A s.nodes.length c, .int .i64 s.root], .agg #[.int .i64 n.k, .string n.name, .slice A2 n.al.length c2, .slice A3 n.fs.length c3, .slice A4 n.sy.length c4, .bool n.has, .string n.df, .int .i64 n.size, .int .i64 n.items, .slice A9 n.br.length c9]] w (Tells (n.ok s) w) := by
 have CS := cell_set
 have OKI : Hid (¬ n.ok s) := fun h => by have h1 := h.1; have h2 := h.2.1; omega
 generalize n.ok s = Q at *
 generalize s.nodes.length = ns at *
 generalize s.root = rt at *
 generalize n.k = k at *
 generalize n.name = nm at *
 generalize n.al.length = e2 at *
 generalize n.fs.length = e3 at *
 generalize n.sy.length = e4 at *
 generalize n.br.length = e9 at *
 generalize n.has = hh at *
 generalize n.df = df at *
 generalize n.size = sz at *
 generalize n.items = im at *
 have NM : Hid (∀ W, Calls Tryz.prog 34 #[.int .i64 k] W (Pure (.bool false) W)) := fun W => by
  have := rNamed_any k W
  rwa [show named k = false by unfold named; rw [decide_eq_false_iff_not]; omega] at this
 have q11 : (k == 11) = false := by rw [beq_eq_false_iff_ne]; omega
 have q12 : (k == 12) = false := by rw [beq_eq_false_iff_ne]; omega
 have q13 : (k == 13) = false := by rw [beq_eq_false_iff_ne]; omega
 have q9 : (k == 9) = false := by rw [beq_eq_false_iff_ne]; omega
 have q10 : (k == 10) = false := by rw [beq_eq_false_iff_ne]; omega
 have q14 : (k == 14) = false := by rw [beq_eq_false_iff_ne]; omega
 have q : k < (1 : Int) ∨ ¬ k < (1 : Int) ∧ (14 : Int) < k := by omega
 have q1 : (1 : Int) ≤ k ∧ ¬ k ≤ (14 : Int) ∨ ¬ (1 : Int) ≤ k := by omega
 clear hk q
 rcases q1 with ⟨q1, q2⟩ | q1
 all_goals
  go_enter Tryz.func33, Tryz.ntmps33
  go_wp2_with fail
  with_reducible refine (NM.out _).mono ?_
  rintro e w1 ⟨rfl, rfl⟩
  go_wp2_with fail
  go_ret
  exact tells_no rfl OKI.out bqq
theorem rnode_14 (s : Sc) (n : Nd) (hk : n.k = 14) (hs : n.sm) (w : World) (A A2 A3 A4 A9 : Option Addr) (c c2 c3 c4 c9 : Nat)
 (h : Lies w (· < w.heap.size) n.enc [.int .i64 n.k, .string n.name, .slice A2 n.al.length c2, .slice A3 n.fs.length c3, .slice A4 n.sy.length c4, .bool n.has, .string n.df, .int .i64 n.size, .int .i64 n.items, .slice A9 n.br.length c9]) :
 Calls Tryz.prog 33 #[.agg #[.slice A s.nodes.length c, .int .i64 s.root], .agg #[.int .i64 n.k, .string n.name, .slice A2 n.al.length c2, .slice A3 n.fs.length c3, .slice A4 n.sy.length c4, .bool n.has, .string n.df, .int .i64 n.size, .int .i64 n.items, .slice A9 n.br.length c9]] w (Tells (n.ok s) w) := by
 have CS := cell_set
 obtain ⟨_, _, _, _, _, _, _, _, e, l2, f2, l3, r3, l4, f4, l9, r9⟩ := Nd.out.1 h
 simp only [List.cons.injEq, Value.slice.injEq, true_and, and_true] at e
 obtain ⟨⟨rfl, rfl⟩, ⟨rfl, rfl⟩, ⟨rfl, rfl⟩, rfl, rfl⟩ := e
 have OKI := ok_14 (s := s) hk
 have FU := Lib.hid (fun W => rFull_any n.name (by have := hs.1; omega) W)
 have FA := Lib.hid (fun i (h : i < n.al.length) W => rFull_any (n.al[i]'h) (by have := kwt_at h; have := hs.2.2.2.2.1; omega) W)
 have KI := Lib.hid (fun W => rKind_any n.name W)
 have NM : Hid (∀ W, Calls Tryz.prog 34 #[.int .i64 14] W (Pure (.bool true) W)) := fun W => by
  have := rNamed_any 14 W
  rwa [show named 14 = true by decide] at this
 have SN : Hid (∀ W, Below w.heap.size w W → Calls Tryz.prog 58 #[.agg #[.int .i64 14, .string n.name, .slice A2 n.al.length c2, .slice A3 n.fs.length c3, .slice A4 n.sy.length c4, .bool n.has, .string n.df, .int .i64 n.size, .int .i64 n.items, .slice A9 n.br.length c9], .agg #[.int .i64 14, .string n.name, .slice A2 n.al.length c2, .slice none 0 0, .slice none 0 0, .bool false, .string ⟨#[]⟩, .int .i64 n.size, .int .i64 0, .slice none 0 0]] W (Tells ((⟨14, ⟨#[]⟩, [], n.fs, n.sy, n.has, n.df, 0, n.items, n.br⟩ : Nd) = Nd.z 14) W)) := fun W b => by
  have := rsameN_any n ⟨14, n.name, n.al, [], [], false, ⟨#[]⟩, n.size, 0, []⟩ W A2 A3 A4 A9 A2 none none none c2 c3 c4 c9 c2 0 0 0 (h.on b)
   (Nd.out.2 ⟨A2, c2, none, 0, none, 0, none, 0, rfl, l2, FlS.keep (Below.keeps b) (fun _ h => Nat.lt_of_lt_of_le h b.size) f2, ⟨Nat.le_refl _, Nat.zero_le _⟩, RowD.nil_ _ _ _ _, ⟨Nat.le_refl _, Nat.zero_le _⟩, .inl rfl, ⟨Nat.le_refl _, Nat.zero_le _⟩, RowD.nil_ _ _ _ _⟩)
  rw [hk] at this
  refine this.mono fun _ _ g => told_tells g (Nd.sameb_iff.trans ?_)
  obtain ⟨k, name, al, fs, sy, has, df, size, items, br⟩ := n
  simp only at hk
  subst hk
  simp [Nd.z]
 rw [hk]
 have F2 := Lib.hid f2
 have l2m := l2.2
 unfold maxLen at l2m
 generalize ((⟨14, ⟨#[]⟩, [], n.fs, n.sy, n.has, n.df, 0, n.items, n.br⟩ : Nd) = Nd.z 14) = P3 at *
 obtain ⟨na, hna⟩ : ∃ m, m = n.al.length := ⟨_, rfl⟩
 have HNA := Lib.hid hna
 rw [← hna] at SN l2m ⊢
 have NF : Hid (Nm.full n.name.data.toList = false → ¬ n.ok s) := fun e h => by have := (OKI.1 h).1.1.1; rw [e] at this; cases this
 have NK : Hid (Nm.kind n.name.data.toList ≠ 0 → ¬ n.ok s) := fun e h => e (OKI.1 h).1.1.2
 have N4 : Hid (¬ na ≤ 40 → ¬ n.ok s) := fun e h => e (by rw [hna]; exact (OKI.1 h).1.2.1)
 have NE : Hid (∀ i (h : i < n.al.length), Nm.full (n.al[i]'h).data.toList = false → ¬ n.ok s) := fun i h e g => by have := (OKI.1 g).1.2.2 _ (List.getElem_mem h); rw [e] at this; cases this
 have YS : Hid (Nm.full n.name.data.toList = true → Nm.kind n.name.data.toList = 0 → na ≤ 40 → (∀ i (h : i < n.al.length), Nm.full (n.al[i]'h).data.toList = true) → (n.ok s ↔ (0 ≤ n.size ∧ n.size ≤ 1000) ∧ P3)) := fun h1 h2 h3 h4 => by
  rw [OKI]
  exact ⟨fun g => g.2, fun g => ⟨⟨⟨h1, h2⟩, (by rw [← hna]; exact h3), fun t ht => by obtain ⟨i, hi, rfl⟩ := List.getElem_of_mem ht; exact h4 i hi⟩, g⟩⟩
 clear h l2 f2 l3 r3 l4 f4 l9 r9 hs OKI
 generalize n.ok s = Q at *
 generalize Nm.full n.name.data.toList = bf at *
 generalize Nm.kind n.name.data.toList = kd at *
 clear hk
 generalize s.nodes.length = ns at *
 generalize s.root = rt at *
 clear hna
 generalize n.name = nm at *
 generalize n.fs.length = e3 at *
 generalize n.sy.length = e4 at *
 generalize n.br.length = e9 at *
 generalize n.has = hh at *
 generalize n.df = df at *
 generalize n.size = sz at *
 generalize n.items = im at *
 cases bf with
 | false =>
  have Z := Lib.hid (NF.out rfl)
  clear NF NK N4 NE YS FA KI SN
  go_enter Tryz.func33, Tryz.ntmps33
  go_wp2_with fail
  with_reducible refine (NM.out _).mono ?_
  rintro e w1 ⟨rfl, rfl⟩
  go_wp2_with fail
  with_reducible refine (FU.out _).mono ?_
  rintro e w1 ⟨rfl, rfl⟩
  go_wp2_with fail
  go_ret
  exact tells_no rfl Z.out bqq
 | true =>
 by_cases hkd : kd = 0
 rotate_left
 · have Z := Lib.hid (NK.out hkd)
   have q0 : (0 : Int) < (kd : Int) := by omega
   clear NF NK N4 NE YS FA SN hkd
   go_enter Tryz.func33, Tryz.ntmps33
   go_wp2_with fail
   with_reducible refine (NM.out _).mono ?_
   rintro e w1 ⟨rfl, rfl⟩
   go_wp2_with fail
   with_reducible refine (FU.out _).mono ?_
   rintro e w1 ⟨rfl, rfl⟩
   go_wp2_with fail
   with_reducible refine (KI.out _).mono ?_
   rintro e w1 ⟨rfl, rfl⟩
   go_wp2_with fail
   go_ret
   exact tells_no (by simp) Z.out bqq
 subst hkd
 by_cases h40 : na ≤ 40
 rotate_left
 · have Z := Lib.hid (N4.out h40)
   have q40 : (40 : Int) < (na : Int) := by omega
   clear NF NK N4 NE YS FA SN h40
   go_enter Tryz.func33, Tryz.ntmps33
   go_wp2_with fail
   with_reducible refine (NM.out _).mono ?_
   rintro e w1 ⟨rfl, rfl⟩
   go_wp2_with fail
   with_reducible refine (FU.out _).mono ?_
   rintro e w1 ⟨rfl, rfl⟩
   go_wp2_with fail
   with_reducible refine (KI.out _).mono ?_
   rintro e w1 ⟨rfl, rfl⟩
   go_wp2_with fail
   go_ret
   exact tells_no (by simp) Z.out bqq
 have q40 : ¬ (40 : Int) < (na : Int) := by omega
 have Y2 := Lib.hid (YS.out rfl rfl h40)
 clear NF NK N4 YS h40
 go_enter Tryz.func33, Tryz.ntmps33
 go_wp2_with fail
 with_reducible refine (NM.out _).mono ?_
 rintro e w1 ⟨rfl, rfl⟩
 go_wp2_with fail
 with_reducible refine (FU.out _).mono ?_
 rintro e w1 ⟨rfl, rfl⟩
 go_wp2_with fail
 with_reducible refine (KI.out _).mono ?_
 rintro e w1 ⟨rfl, rfl⟩
 go_wp2_with fail
 have G0 := Lib.hid (bqq : Below w.heap.size w (((w.alloc (.cells #[.slice A ns c, .int .i64 rt] 24)).alloc (.cells #[.int .i64 14, .string nm, .slice A2 na c2, .slice A3 e3 c3, .slice A4 e4 c4, .bool hh, .string df, .int .i64 sz, .int .i64 im, .slice A9 e9 c9] 42)).alloc (.cells #[.int .i64 14, .string nm, .slice A2 na c2, .slice none 0 0, .slice none 0 0, .bool false, .string ⟨#[]⟩, .int .i64 0, .int .i64 0, .slice none 0 0] 42)))
 have BN := Lib.hid ((B10.newat (w := w.alloc (.cells #[.slice A ns c, .int .i64 rt] 24)) (g := w.heap.size + 1) (t := 42) (x0 := .int .i64 14) (x1 := .string nm) (x2 := .slice A2 na c2) (x3 := .slice A3 e3 c3) (x4 := .slice A4 e4 c4) (x5 := .bool hh) (x6 := .string df) (x7 := .int .i64 sz) (x8 := .int .i64 im) (x9 := .slice A9 e9 c9) (by simp)).alloc (.cells #[.int .i64 14, .string nm, .slice A2 na c2, .slice none 0 0, .slice none 0 0, .bool false, .string ⟨#[]⟩, .int .i64 0, .int .i64 0, .slice none 0 0] 42))
 have BM := Lib.hid (B10.newat (w := (w.alloc (.cells #[.slice A ns c, .int .i64 rt] 24)).alloc (.cells #[.int .i64 14, .string nm, .slice A2 na c2, .slice A3 e3 c3, .slice A4 e4 c4, .bool hh, .string df, .int .i64 sz, .int .i64 im, .slice A9 e9 c9] 42)) (g := w.heap.size + 1 + 1) (t := 42) (x0 := .int .i64 14) (x1 := .string nm) (x2 := .slice A2 na c2) (x3 := .slice none 0 0) (x4 := .slice none 0 0) (x5 := .bool false) (x6 := .string ⟨#[]⟩) (x7 := .int .i64 0) (x8 := .int .i64 0) (x9 := .slice none 0 0) (by simp))
 generalize (((w.alloc (.cells #[.slice A ns c, .int .i64 rt] 24)).alloc (.cells #[.int .i64 14, .string nm, .slice A2 na c2, .slice A3 e3 c3, .slice A4 e4 c4, .bool hh, .string df, .int .i64 sz, .int .i64 im, .slice A9 e9 c9] 42)).alloc (.cells #[.int .i64 14, .string nm, .slice A2 na c2, .slice none 0 0, .slice none 0 0, .bool false, .string ⟨#[]⟩, .int .i64 0, .int .i64 0, .slice none 0 0] 42)) = W1 at *
 have FW := Lib.hid (FlS.keep (Below.keeps G0.out) (fun _ h => h) F2.out)
 obtain ⟨n0, n1, n2, n3, n4, n5, n6, n7, n8, n9, _, _, _, _, _, _, _, _, _, _⟩ := B10.facts BN.out
 obtain ⟨m0, m1, m2, m3, m4, m5, m6, m7, m8, m9, y0, y1, y2, y3, y4, y5, y6, y7, y8, y9⟩ := B10.facts BM.out
 go_loopw [6] (fun t wr => ∃ j : Nat, j ≤ na ∧ t = .int .i64 (j : Int) ∧ Hid (∀ i (h : i < n.al.length), i < j → Nm.full (n.al[i]'h).data.toList = true) ∧ wr = W1) (fun t _ => na - (intOf t).toNat)
 case atStart => exact ⟨0, Nat.zero_le _, rfl, fun _ _ h => absurd h (Nat.not_lt_zero _), rfl⟩
 case round =>
  obtain ⟨j, hj, rfl, NX, rfl⟩ := hrel
  by_cases hjn : j < na
  · have q : (j : Int) < (na : Int) := by omega
    have h1 : j < n.al.length := by rw [← HNA.out]; exact hjn
    obtain ⟨b8, o8, e8, hb8, z0⟩ := fl_str FW.out h1
    have S1 := Lib.hid (FA.out j h1)
    have N1 := Lib.hid (NE.out j h1)
    have NY : Hid (Nm.full (n.al[j]'h1).data.toList = true → ∀ i (h : i < n.al.length), i < j + 1 → Nm.full (n.al[i]'h).data.toList = true) := fun e i h hi => by
     rcases Nat.lt_or_ge i j with k | k
     · exact NX.out i h k
     · obtain rfl : i = j := by omega
       exact e
    generalize n.al[j]'h1 = Y at *
    obtain ⟨b, hb⟩ : ∃ b, b = Nm.full Y.data.toList := ⟨_, rfl⟩
    rw [← hb] at S1 N1 NY
    subst e8
    clear hb h1
    go_wp2_with fail
    with_reducible refine (S1.out _).mono ?_
    rintro e w1 ⟨rfl, rfl⟩
    cases b with
    | true =>
     have NX2 := Lib.hid (NY.out rfl)
     go_wp2_with fail
     go_roundw
     case rel => exact ⟨j + 1, by omega, by go_num, NX2, by first | rfl | trivial⟩
     case measure => simp [intOf]; omega
    | false =>
     have Z := Lib.hid (N1.out rfl)
     go_wp2_with fail
     go_ret
     exact tells_no rfl Z.out G0.out
  · obtain rfl : j = na := by omega
    have q : ¬ (j : Int) < (j : Int) := by omega
    have Z := Lib.hid (Y2.out fun i h => NX.out i h (by rw [HNA.out]; exact h))
    clear NX hjn Y2 NE FA
    have bs : Below w.heap.size w (wr.setCell ⟨w.heap.size + 1 + 1, 7, none⟩ (.int .i64 sz)) := G0.out.setCell (by show w.heap.size ≤ w.heap.size + 1 + 1; omega) _
    by_cases h0 : (0 : Int) ≤ sz
    rotate_left
    · have ZN : Hid (¬ Q) := fun g => h0 (Z.out.1 g).1.1
      clear Z SN
      go_wp2_with fail
      go_ret
      exact tells_no (by simp) ZN.out bqq
    by_cases h1 : sz ≤ (1000 : Int)
    rotate_left
    · have ZN : Hid (¬ Q) := fun g => h1 (Z.out.1 g).1.2
      clear Z SN
      go_wp2_with fail
      go_ret
      exact tells_no (by simp) ZN.out bqq
    have ZY : Hid (Q ↔ P3) := Z.out.trans ⟨fun g => g.2, fun g => ⟨⟨h0, h1⟩, g⟩⟩
    clear Z
    go_wp2_with fail
    with_reducible refine (SN.out _ bqq).mono ?_
    rintro e w9 ⟨b, rfl, hb, b9⟩
    have bw9 : Below w.heap.size w w9 := bs.trans (b9.mono bs.size)
    have HB9 := Lib.hid hb
    clear hb
    go_wp2_with fail
    go_ret
    exact ⟨b, rfl, HB9.out.trans ZY.out.symm, bw9⟩
end Go.Proofs.YtpmgjpchpmkklaaGreatDoor
