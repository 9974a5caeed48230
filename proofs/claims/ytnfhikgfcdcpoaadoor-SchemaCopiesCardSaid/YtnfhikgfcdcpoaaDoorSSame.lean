/- The document's own answers for layer 10: schemas that are alike are told so. -/
import Derived.Test.YtnfhikgfcdcpoaaDoorSchIn
import Derived.Test.YtnfhikgfcdcpoaaDoorJTSame
import Derived.Deep.LoopGhost
import Derived.Deep.RegionHeldLaw
namespace Go.Proofs.YtnfhikgfcdcpoaaDoor
open Go.ChangeShapes Go.WideShapes Go.ChangeAt Go.RowKit Mem

set_option maxRecDepth 100000 in
set_option maxHeartbeats 1600000 in
theorem rTexts_eq (A B : Option Addr) (c d : Nat) (l : List ByteArray) (w : World) (hA : FlS w (· < w.heap.size) A (l.map Value.string)) (hB : FlS w (· < w.heap.size) B (l.map Value.string)) (hl : l.length ≤ maxLen) :
    Calls Tryd.prog 36 #[.slice A l.length c, .slice B l.length d] w (Told true w) := by
  have FA := Lib.hid hA
  have FB := Lib.hid hB
  have hb : l.length ≤ 9223372036854775807 := by unfold maxLen at hl; exact hl
  obtain ⟨n, hn⟩ : ∃ m, m = l.length := ⟨_, rfl⟩
  have HN := Lib.hid hn
  have nn : ∀ X : ByteArray, (X.toList != X.toList) = false := by simp
  rw [← hn] at hb ⊢
  clear hA hB hl hn
  go_enter Tryd.func36, Tryd.ntmps36
  go_wp2_with fail
  go_loopw [5] (fun t wr => ∃ j : Nat, j ≤ n ∧ t = .int .i64 (j : Int) ∧ Below w.heap.size w wr) (fun t _ => n - (intOf t).toNat)
  case atStart => exact ⟨0, Nat.zero_le _, rfl, by (repeat' (first | with_reducible assumption | with_reducible exact Below.refl _ _ | (with_reducible refine Below.alloc ?_ ?_ _; rotate_left; focus ((first | exact Nat.le_refl _ | (simp; done) | (simp; omega) | omega | fail))) | (with_reducible refine Below.setCell ?_ ?_ _; rotate_left; focus ((first | exact Nat.le_refl _ | (simp; done) | (simp; omega) | omega | fail))) | with_reducible refine Mem.bel_drewN ?_ _ | with_reducible refine Below.drew ?_ | (with_reducible refine Mem.bel_call (by with_reducible assumption) ?_ ?_; focus ((first | exact Nat.le_refl _ | (simp; done) | (simp; omega) | omega | fail))) | fail))⟩
  case round =>
    obtain ⟨j, hj, rfl, bl⟩ := hrel
    by_cases hjn : j < n
    · have h1 : j < l.length := by rw [← HN.out]; exact hjn
      obtain ⟨b1, o1, e1, hb1, y0⟩ := fl_str FA.out h1
      obtain ⟨b2, o2, e2, hb2, z0⟩ := fl_str FB.out h1
      have yq := (bl.cell (p := ⟨b1, o1 + j, none⟩) hb1).trans y0
      have zq := (bl.cell (p := ⟨b2, o2 + j, none⟩) hb2).trans z0
      generalize l[j]'h1 = Y at *
      subst e1 e2
      clear h1 y0 z0 hb1 hb2
      go_wp2_with fail
      go_quiet (fail)
      go_wp2_with fail
      go_roundw
      case rel => exact ⟨j + 1, by omega, by go_num, by (repeat' (first | with_reducible assumption | with_reducible exact Below.refl _ _ | (with_reducible refine Below.alloc ?_ ?_ _; rotate_left; focus ((first | exact Nat.le_refl _ | (simp; done) | (simp; omega) | omega | fail))) | (with_reducible refine Below.setCell ?_ ?_ _; rotate_left; focus ((first | exact Nat.le_refl _ | (simp; done) | (simp; omega) | omega | fail))) | with_reducible refine Mem.bel_drewN ?_ _ | with_reducible refine Below.drew ?_ | (with_reducible refine Mem.bel_call (by with_reducible assumption) ?_ ?_; focus ((first | exact Nat.le_refl _ | (simp; done) | (simp; omega) | omega | fail))) | fail))⟩
      case measure => simp [intOf]; omega
    · obtain rfl : j = n := by omega
      clear hjn
      go_wp2_with fail
      go_ret
      exact told_ret rfl (by (repeat' (first | with_reducible assumption | with_reducible exact Below.refl _ _ | (with_reducible refine Below.alloc ?_ ?_ _; rotate_left; focus ((first | exact Nat.le_refl _ | (simp; done) | (simp; omega) | omega | fail))) | (with_reducible refine Below.setCell ?_ ?_ _; rotate_left; focus ((first | exact Nat.le_refl _ | (simp; done) | (simp; omega) | omega | fail))) | with_reducible refine Mem.bel_drewN ?_ _ | with_reducible refine Below.drew ?_ | (with_reducible refine Mem.bel_call (by with_reducible assumption) ?_ ?_; focus ((first | exact Nat.le_refl _ | (simp; done) | (simp; omega) | omega | fail))) | fail)))

set_option maxRecDepth 100000 in
set_option maxHeartbeats 4000000 in
theorem rOne_eq (n : Nd) (w : World) (A2 A3 A4 A9 B2 B3 B4 B9 : Option Addr) (c2 c3 c4 c9 d2 d3 d4 d9 : Nat)
    (ha : Lies w (· < w.heap.size) n.enc [.int .i64 n.k, .string n.name, .slice A2 n.al.length c2, .slice A3 n.fs.length c3, .slice A4 n.sy.length c4, .bool n.has, .string n.df, .int .i64 n.size, .int .i64 n.items, .slice A9 n.br.length c9])
    (hb : Lies w (· < w.heap.size) n.enc [.int .i64 n.k, .string n.name, .slice B2 n.al.length d2, .slice B3 n.fs.length d3, .slice B4 n.sy.length d4, .bool n.has, .string n.df, .int .i64 n.size, .int .i64 n.items, .slice B9 n.br.length d9]) :
    Calls Tryd.prog 19 #[.agg #[.int .i64 n.k, .string n.name, .slice A2 n.al.length c2, .slice A3 n.fs.length c3, .slice A4 n.sy.length c4, .bool n.has, .string n.df, .int .i64 n.size, .int .i64 n.items, .slice A9 n.br.length c9],
      .agg #[.int .i64 n.k, .string n.name, .slice B2 n.al.length d2, .slice B3 n.fs.length d3, .slice B4 n.sy.length d4, .bool n.has, .string n.df, .int .i64 n.size, .int .i64 n.items, .slice B9 n.br.length d9]] w (Told true w) := by
  have CS := cell_set
  obtain ⟨_, _, _, _, _, _, _, _, e, l2, f2, l3, r3, l4, f4, l9, r9⟩ := Nd.out.1 ha
  simp only [List.cons.injEq, Value.slice.injEq, true_and, and_true] at e
  obtain ⟨⟨rfl, rfl⟩, ⟨rfl, rfl⟩, ⟨rfl, rfl⟩, rfl, rfl⟩ := e
  obtain ⟨_, _, _, _, _, _, _, _, e, m2, g2, m3, s3, m4, g4, m9, s9⟩ := Nd.out.1 hb
  simp only [List.cons.injEq, Value.slice.injEq, true_and, and_true] at e
  obtain ⟨⟨rfl, rfl⟩, ⟨rfl, rfl⟩, ⟨rfl, rfl⟩, rfl, rfl⟩ := e
  have kp : ∀ {A : Option Addr} {l : List ByteArray} {W : World}, FlS w (· < w.heap.size) A (l.map Value.string) → Below w.heap.size w W → FlS W (· < W.heap.size) A (l.map Value.string) := fun h b => (h.keep (Below.keeps b) (fun _ h => h)).keep (fun _ _ => rfl) fun _ h => Nat.lt_of_lt_of_le h b.size
  have T2 := Lib.hid (fun W (b : Below w.heap.size w W) => rTexts_eq A2 B2 c2 d2 n.al W (kp f2 b) (kp g2 b) l2.2)
  have T4 := Lib.hid (fun W (b : Below w.heap.size w W) => rTexts_eq A4 B4 c4 d4 n.sy W (kp f4 b) (kp g4 b) l4.2)
  have R3 := Lib.hid r3; have R9 := Lib.hid r9; have S3 := Lib.hid s3; have S9 := Lib.hid s9
  have q3 := l3.2; have q9 := l9.2
  unfold maxLen at q3 q9
  obtain ⟨nf, hnf⟩ : ∃ m, m = n.fs.length := ⟨_, rfl⟩
  obtain ⟨nb, hnb⟩ : ∃ m, m = n.br.length := ⟨_, rfl⟩
  have HNF := Lib.hid hnf; have HNB := Lib.hid hnb
  rw [← hnf] at q3 ⊢
  rw [← hnb] at q9 ⊢
  have nn : ∀ X : ByteArray, (X.toList != X.toList) = false := by simp
  generalize n.al = al at *
  generalize n.sy = sy at *
  generalize n.k = nk at *
  generalize n.name = nm at *
  generalize n.has = hs at *
  generalize n.df = df at *
  generalize n.size = sz at *
  generalize n.items = im at *
  have W2 : Below w.heap.size w ((w.alloc (.cells #[.int .i64 nk, .string nm, .slice A2 al.length c2, .slice A3 nf c3, .slice A4 sy.length c4, .bool hs, .string df, .int .i64 sz, .int .i64 im, .slice A9 nb c9] 33)).alloc (.cells #[.int .i64 nk, .string nm, .slice B2 al.length d2, .slice B3 nf d3, .slice B4 sy.length d4, .bool hs, .string df, .int .i64 sz, .int .i64 im, .slice B9 nb d9] 33)) := by (repeat' (first | with_reducible assumption | with_reducible exact Below.refl _ _ | (with_reducible refine Below.alloc ?_ ?_ _; rotate_left; focus ((first | exact Nat.le_refl _ | (simp; done) | (simp; omega) | omega | fail))) | (with_reducible refine Below.setCell ?_ ?_ _; rotate_left; focus ((first | exact Nat.le_refl _ | (simp; done) | (simp; omega) | omega | fail))) | with_reducible refine Mem.bel_drewN ?_ _ | with_reducible refine Below.drew ?_ | (with_reducible refine Mem.bel_call (by with_reducible assumption) ?_ ?_; focus ((first | exact Nat.le_refl _ | (simp; done) | (simp; omega) | omega | fail))) | fail))
  have gz2 : ((w.alloc (.cells #[.int .i64 nk, .string nm, .slice A2 al.length c2, .slice A3 nf c3, .slice A4 sy.length c4, .bool hs, .string df, .int .i64 sz, .int .i64 im, .slice A9 nb c9] 33)).alloc (.cells #[.int .i64 nk, .string nm, .slice B2 al.length d2, .slice B3 nf d3, .slice B4 sy.length d4, .bool hs, .string df, .int .i64 sz, .int .i64 im, .slice B9 nb d9] 33)).heap.size = w.heap.size + 2 := by simp
  have GZ2 := Lib.hid gz2
  clear ha hb l2 f2 l3 r3 l4 f4 l9 r9 m2 g2 m3 s3 m4 g4 m9 s9 kp hnf hnb gz2
  go_enter Tryd.func19, Tryd.ntmps19
  go_wp2_with fail
  with_reducible refine (T2.out _ (by (repeat' (first | with_reducible assumption | with_reducible exact Below.refl _ _ | (with_reducible refine Below.alloc ?_ ?_ _; rotate_left; focus ((first | exact Nat.le_refl _ | (simp; done) | (simp; omega) | omega | fail))) | (with_reducible refine Below.setCell ?_ ?_ _; rotate_left; focus ((first | exact Nat.le_refl _ | (simp; done) | (simp; omega) | omega | fail))) | with_reducible refine Mem.bel_drewN ?_ _ | with_reducible refine Below.drew ?_ | (with_reducible refine Mem.bel_call (by with_reducible assumption) ?_ ?_; focus ((first | exact Nat.le_refl _ | (simp; done) | (simp; omega) | omega | fail))) | fail)))).mono ?_
  rintro e w1 ⟨rfl, b1⟩
  rw [GZ2.out] at b1
  have z1 := b1.size
  rw [GZ2.out] at z1
  have bw1 : Below w.heap.size w w1 := W2.trans (b1.mono (by omega))
  have hOwn := Nat.lt_of_lt_of_le (n := w.heap.size) (by first | exact Nat.le_refl _ | assumption | (simp; done) | (simp; omega) | omega) (Below.size b1)
  have hOwn1 := Nat.ne_of_gt hOwn
  have hOwn2 := Nat.ne_of_lt hOwn
  have hOwn := (Below.cell b1 (p := ⟨w.heap.size, 0, none⟩) (by first | exact Nat.le_refl _ | assumption | (simp; done) | (simp; omega) | omega)).trans (by go_simp; rfl)
  have hOwn := (Below.cell b1 (p := ⟨w.heap.size, 1, none⟩) (by first | exact Nat.le_refl _ | assumption | (simp; done) | (simp; omega) | omega)).trans (by go_simp; rfl)
  have hOwn := (Below.cell b1 (p := ⟨w.heap.size, 2, none⟩) (by first | exact Nat.le_refl _ | assumption | (simp; done) | (simp; omega) | omega)).trans (by go_simp; rfl)
  have hOwn := (Below.cell b1 (p := ⟨w.heap.size, 3, none⟩) (by first | exact Nat.le_refl _ | assumption | (simp; done) | (simp; omega) | omega)).trans (by go_simp; rfl)
  have hOwn := (Below.cell b1 (p := ⟨w.heap.size, 4, none⟩) (by first | exact Nat.le_refl _ | assumption | (simp; done) | (simp; omega) | omega)).trans (by go_simp; rfl)
  have hOwn := (Below.cell b1 (p := ⟨w.heap.size, 5, none⟩) (by first | exact Nat.le_refl _ | assumption | (simp; done) | (simp; omega) | omega)).trans (by go_simp; rfl)
  have hOwn := (Below.cell b1 (p := ⟨w.heap.size, 6, none⟩) (by first | exact Nat.le_refl _ | assumption | (simp; done) | (simp; omega) | omega)).trans (by go_simp; rfl)
  have hOwn := (Below.cell b1 (p := ⟨w.heap.size, 7, none⟩) (by first | exact Nat.le_refl _ | assumption | (simp; done) | (simp; omega) | omega)).trans (by go_simp; rfl)
  have hOwn := (Below.cell b1 (p := ⟨w.heap.size, 8, none⟩) (by first | exact Nat.le_refl _ | assumption | (simp; done) | (simp; omega) | omega)).trans (by go_simp; rfl)
  have hOwn := (Below.cell b1 (p := ⟨w.heap.size, 9, none⟩) (by first | exact Nat.le_refl _ | assumption | (simp; done) | (simp; omega) | omega)).trans (by go_simp; rfl)
  have hOwn := (Below.frozen b1 (p := ⟨w.heap.size, 0, none⟩) (by first | exact Nat.le_refl _ | assumption | (simp; done) | (simp; omega) | omega)).trans (by go_simp; rfl)
  have hOwn := (Below.frozen b1 (p := ⟨w.heap.size, 1, none⟩) (by first | exact Nat.le_refl _ | assumption | (simp; done) | (simp; omega) | omega)).trans (by go_simp; rfl)
  have hOwn := (Below.frozen b1 (p := ⟨w.heap.size, 2, none⟩) (by first | exact Nat.le_refl _ | assumption | (simp; done) | (simp; omega) | omega)).trans (by go_simp; rfl)
  have hOwn := (Below.frozen b1 (p := ⟨w.heap.size, 3, none⟩) (by first | exact Nat.le_refl _ | assumption | (simp; done) | (simp; omega) | omega)).trans (by go_simp; rfl)
  have hOwn := (Below.frozen b1 (p := ⟨w.heap.size, 4, none⟩) (by first | exact Nat.le_refl _ | assumption | (simp; done) | (simp; omega) | omega)).trans (by go_simp; rfl)
  have hOwn := (Below.frozen b1 (p := ⟨w.heap.size, 5, none⟩) (by first | exact Nat.le_refl _ | assumption | (simp; done) | (simp; omega) | omega)).trans (by go_simp; rfl)
  have hOwn := (Below.frozen b1 (p := ⟨w.heap.size, 6, none⟩) (by first | exact Nat.le_refl _ | assumption | (simp; done) | (simp; omega) | omega)).trans (by go_simp; rfl)
  have hOwn := (Below.frozen b1 (p := ⟨w.heap.size, 7, none⟩) (by first | exact Nat.le_refl _ | assumption | (simp; done) | (simp; omega) | omega)).trans (by go_simp; rfl)
  have hOwn := (Below.frozen b1 (p := ⟨w.heap.size, 8, none⟩) (by first | exact Nat.le_refl _ | assumption | (simp; done) | (simp; omega) | omega)).trans (by go_simp; rfl)
  have hOwn := (Below.frozen b1 (p := ⟨w.heap.size, 9, none⟩) (by first | exact Nat.le_refl _ | assumption | (simp; done) | (simp; omega) | omega)).trans (by go_simp; rfl)
  have hOwn := Nat.lt_of_lt_of_le (n := (w.heap.size + 1)) (by first | exact Nat.le_refl _ | assumption | (simp; done) | (simp; omega) | omega) (Below.size b1)
  have hOwn1 := Nat.ne_of_gt hOwn
  have hOwn2 := Nat.ne_of_lt hOwn
  have hOwn := (Below.cell b1 (p := ⟨(w.heap.size + 1), 0, none⟩) (by first | exact Nat.le_refl _ | assumption | (simp; done) | (simp; omega) | omega)).trans (by go_simp; rfl)
  have hOwn := (Below.cell b1 (p := ⟨(w.heap.size + 1), 1, none⟩) (by first | exact Nat.le_refl _ | assumption | (simp; done) | (simp; omega) | omega)).trans (by go_simp; rfl)
  have hOwn := (Below.cell b1 (p := ⟨(w.heap.size + 1), 2, none⟩) (by first | exact Nat.le_refl _ | assumption | (simp; done) | (simp; omega) | omega)).trans (by go_simp; rfl)
  have hOwn := (Below.cell b1 (p := ⟨(w.heap.size + 1), 3, none⟩) (by first | exact Nat.le_refl _ | assumption | (simp; done) | (simp; omega) | omega)).trans (by go_simp; rfl)
  have hOwn := (Below.cell b1 (p := ⟨(w.heap.size + 1), 4, none⟩) (by first | exact Nat.le_refl _ | assumption | (simp; done) | (simp; omega) | omega)).trans (by go_simp; rfl)
  have hOwn := (Below.cell b1 (p := ⟨(w.heap.size + 1), 5, none⟩) (by first | exact Nat.le_refl _ | assumption | (simp; done) | (simp; omega) | omega)).trans (by go_simp; rfl)
  have hOwn := (Below.cell b1 (p := ⟨(w.heap.size + 1), 6, none⟩) (by first | exact Nat.le_refl _ | assumption | (simp; done) | (simp; omega) | omega)).trans (by go_simp; rfl)
  have hOwn := (Below.cell b1 (p := ⟨(w.heap.size + 1), 7, none⟩) (by first | exact Nat.le_refl _ | assumption | (simp; done) | (simp; omega) | omega)).trans (by go_simp; rfl)
  have hOwn := (Below.cell b1 (p := ⟨(w.heap.size + 1), 8, none⟩) (by first | exact Nat.le_refl _ | assumption | (simp; done) | (simp; omega) | omega)).trans (by go_simp; rfl)
  have hOwn := (Below.cell b1 (p := ⟨(w.heap.size + 1), 9, none⟩) (by first | exact Nat.le_refl _ | assumption | (simp; done) | (simp; omega) | omega)).trans (by go_simp; rfl)
  have hOwn := (Below.frozen b1 (p := ⟨(w.heap.size + 1), 0, none⟩) (by first | exact Nat.le_refl _ | assumption | (simp; done) | (simp; omega) | omega)).trans (by go_simp; rfl)
  have hOwn := (Below.frozen b1 (p := ⟨(w.heap.size + 1), 1, none⟩) (by first | exact Nat.le_refl _ | assumption | (simp; done) | (simp; omega) | omega)).trans (by go_simp; rfl)
  have hOwn := (Below.frozen b1 (p := ⟨(w.heap.size + 1), 2, none⟩) (by first | exact Nat.le_refl _ | assumption | (simp; done) | (simp; omega) | omega)).trans (by go_simp; rfl)
  have hOwn := (Below.frozen b1 (p := ⟨(w.heap.size + 1), 3, none⟩) (by first | exact Nat.le_refl _ | assumption | (simp; done) | (simp; omega) | omega)).trans (by go_simp; rfl)
  have hOwn := (Below.frozen b1 (p := ⟨(w.heap.size + 1), 4, none⟩) (by first | exact Nat.le_refl _ | assumption | (simp; done) | (simp; omega) | omega)).trans (by go_simp; rfl)
  have hOwn := (Below.frozen b1 (p := ⟨(w.heap.size + 1), 5, none⟩) (by first | exact Nat.le_refl _ | assumption | (simp; done) | (simp; omega) | omega)).trans (by go_simp; rfl)
  have hOwn := (Below.frozen b1 (p := ⟨(w.heap.size + 1), 6, none⟩) (by first | exact Nat.le_refl _ | assumption | (simp; done) | (simp; omega) | omega)).trans (by go_simp; rfl)
  have hOwn := (Below.frozen b1 (p := ⟨(w.heap.size + 1), 7, none⟩) (by first | exact Nat.le_refl _ | assumption | (simp; done) | (simp; omega) | omega)).trans (by go_simp; rfl)
  have hOwn := (Below.frozen b1 (p := ⟨(w.heap.size + 1), 8, none⟩) (by first | exact Nat.le_refl _ | assumption | (simp; done) | (simp; omega) | omega)).trans (by go_simp; rfl)
  have hOwn := (Below.frozen b1 (p := ⟨(w.heap.size + 1), 9, none⟩) (by first | exact Nat.le_refl _ | assumption | (simp; done) | (simp; omega) | omega)).trans (by go_simp; rfl)
  go_wp2_with fail
  with_reducible refine (T4.out w1 bw1).mono ?_
  rintro e w3 ⟨rfl, b3⟩
  have z3 := b3.size
  have bw3 : Below w.heap.size w w3 := bw1.trans (b3.mono (by omega))
  have hOwn := Nat.lt_of_lt_of_le (n := w.heap.size) (by first | exact Nat.le_refl _ | assumption | (simp; done) | (simp; omega) | omega) (Below.size b3)
  have hOwn1 := Nat.ne_of_gt hOwn
  have hOwn2 := Nat.ne_of_lt hOwn
  have hOwn := (Below.cell b3 (p := ⟨w.heap.size, 0, none⟩) (by first | exact Nat.le_refl _ | assumption | (simp; done) | (simp; omega) | omega)).trans (by go_simp; rfl)
  have hOwn := (Below.cell b3 (p := ⟨w.heap.size, 1, none⟩) (by first | exact Nat.le_refl _ | assumption | (simp; done) | (simp; omega) | omega)).trans (by go_simp; rfl)
  have hOwn := (Below.cell b3 (p := ⟨w.heap.size, 2, none⟩) (by first | exact Nat.le_refl _ | assumption | (simp; done) | (simp; omega) | omega)).trans (by go_simp; rfl)
  have hOwn := (Below.cell b3 (p := ⟨w.heap.size, 3, none⟩) (by first | exact Nat.le_refl _ | assumption | (simp; done) | (simp; omega) | omega)).trans (by go_simp; rfl)
  have hOwn := (Below.cell b3 (p := ⟨w.heap.size, 4, none⟩) (by first | exact Nat.le_refl _ | assumption | (simp; done) | (simp; omega) | omega)).trans (by go_simp; rfl)
  have hOwn := (Below.cell b3 (p := ⟨w.heap.size, 5, none⟩) (by first | exact Nat.le_refl _ | assumption | (simp; done) | (simp; omega) | omega)).trans (by go_simp; rfl)
  have hOwn := (Below.cell b3 (p := ⟨w.heap.size, 6, none⟩) (by first | exact Nat.le_refl _ | assumption | (simp; done) | (simp; omega) | omega)).trans (by go_simp; rfl)
  have hOwn := (Below.cell b3 (p := ⟨w.heap.size, 7, none⟩) (by first | exact Nat.le_refl _ | assumption | (simp; done) | (simp; omega) | omega)).trans (by go_simp; rfl)
  have hOwn := (Below.cell b3 (p := ⟨w.heap.size, 8, none⟩) (by first | exact Nat.le_refl _ | assumption | (simp; done) | (simp; omega) | omega)).trans (by go_simp; rfl)
  have hOwn := (Below.cell b3 (p := ⟨w.heap.size, 9, none⟩) (by first | exact Nat.le_refl _ | assumption | (simp; done) | (simp; omega) | omega)).trans (by go_simp; rfl)
  have hOwn := (Below.frozen b3 (p := ⟨w.heap.size, 0, none⟩) (by first | exact Nat.le_refl _ | assumption | (simp; done) | (simp; omega) | omega)).trans (by go_simp; rfl)
  have hOwn := (Below.frozen b3 (p := ⟨w.heap.size, 1, none⟩) (by first | exact Nat.le_refl _ | assumption | (simp; done) | (simp; omega) | omega)).trans (by go_simp; rfl)
  have hOwn := (Below.frozen b3 (p := ⟨w.heap.size, 2, none⟩) (by first | exact Nat.le_refl _ | assumption | (simp; done) | (simp; omega) | omega)).trans (by go_simp; rfl)
  have hOwn := (Below.frozen b3 (p := ⟨w.heap.size, 3, none⟩) (by first | exact Nat.le_refl _ | assumption | (simp; done) | (simp; omega) | omega)).trans (by go_simp; rfl)
  have hOwn := (Below.frozen b3 (p := ⟨w.heap.size, 4, none⟩) (by first | exact Nat.le_refl _ | assumption | (simp; done) | (simp; omega) | omega)).trans (by go_simp; rfl)
  have hOwn := (Below.frozen b3 (p := ⟨w.heap.size, 5, none⟩) (by first | exact Nat.le_refl _ | assumption | (simp; done) | (simp; omega) | omega)).trans (by go_simp; rfl)
  have hOwn := (Below.frozen b3 (p := ⟨w.heap.size, 6, none⟩) (by first | exact Nat.le_refl _ | assumption | (simp; done) | (simp; omega) | omega)).trans (by go_simp; rfl)
  have hOwn := (Below.frozen b3 (p := ⟨w.heap.size, 7, none⟩) (by first | exact Nat.le_refl _ | assumption | (simp; done) | (simp; omega) | omega)).trans (by go_simp; rfl)
  have hOwn := (Below.frozen b3 (p := ⟨w.heap.size, 8, none⟩) (by first | exact Nat.le_refl _ | assumption | (simp; done) | (simp; omega) | omega)).trans (by go_simp; rfl)
  have hOwn := (Below.frozen b3 (p := ⟨w.heap.size, 9, none⟩) (by first | exact Nat.le_refl _ | assumption | (simp; done) | (simp; omega) | omega)).trans (by go_simp; rfl)
  have hOwn := Nat.lt_of_lt_of_le (n := (w.heap.size + 1)) (by first | exact Nat.le_refl _ | assumption | (simp; done) | (simp; omega) | omega) (Below.size b3)
  have hOwn1 := Nat.ne_of_gt hOwn
  have hOwn2 := Nat.ne_of_lt hOwn
  have hOwn := (Below.cell b3 (p := ⟨(w.heap.size + 1), 0, none⟩) (by first | exact Nat.le_refl _ | assumption | (simp; done) | (simp; omega) | omega)).trans (by go_simp; rfl)
  have hOwn := (Below.cell b3 (p := ⟨(w.heap.size + 1), 1, none⟩) (by first | exact Nat.le_refl _ | assumption | (simp; done) | (simp; omega) | omega)).trans (by go_simp; rfl)
  have hOwn := (Below.cell b3 (p := ⟨(w.heap.size + 1), 2, none⟩) (by first | exact Nat.le_refl _ | assumption | (simp; done) | (simp; omega) | omega)).trans (by go_simp; rfl)
  have hOwn := (Below.cell b3 (p := ⟨(w.heap.size + 1), 3, none⟩) (by first | exact Nat.le_refl _ | assumption | (simp; done) | (simp; omega) | omega)).trans (by go_simp; rfl)
  have hOwn := (Below.cell b3 (p := ⟨(w.heap.size + 1), 4, none⟩) (by first | exact Nat.le_refl _ | assumption | (simp; done) | (simp; omega) | omega)).trans (by go_simp; rfl)
  have hOwn := (Below.cell b3 (p := ⟨(w.heap.size + 1), 5, none⟩) (by first | exact Nat.le_refl _ | assumption | (simp; done) | (simp; omega) | omega)).trans (by go_simp; rfl)
  have hOwn := (Below.cell b3 (p := ⟨(w.heap.size + 1), 6, none⟩) (by first | exact Nat.le_refl _ | assumption | (simp; done) | (simp; omega) | omega)).trans (by go_simp; rfl)
  have hOwn := (Below.cell b3 (p := ⟨(w.heap.size + 1), 7, none⟩) (by first | exact Nat.le_refl _ | assumption | (simp; done) | (simp; omega) | omega)).trans (by go_simp; rfl)
  have hOwn := (Below.cell b3 (p := ⟨(w.heap.size + 1), 8, none⟩) (by first | exact Nat.le_refl _ | assumption | (simp; done) | (simp; omega) | omega)).trans (by go_simp; rfl)
  have hOwn := (Below.cell b3 (p := ⟨(w.heap.size + 1), 9, none⟩) (by first | exact Nat.le_refl _ | assumption | (simp; done) | (simp; omega) | omega)).trans (by go_simp; rfl)
  have hOwn := (Below.frozen b3 (p := ⟨(w.heap.size + 1), 0, none⟩) (by first | exact Nat.le_refl _ | assumption | (simp; done) | (simp; omega) | omega)).trans (by go_simp; rfl)
  have hOwn := (Below.frozen b3 (p := ⟨(w.heap.size + 1), 1, none⟩) (by first | exact Nat.le_refl _ | assumption | (simp; done) | (simp; omega) | omega)).trans (by go_simp; rfl)
  have hOwn := (Below.frozen b3 (p := ⟨(w.heap.size + 1), 2, none⟩) (by first | exact Nat.le_refl _ | assumption | (simp; done) | (simp; omega) | omega)).trans (by go_simp; rfl)
  have hOwn := (Below.frozen b3 (p := ⟨(w.heap.size + 1), 3, none⟩) (by first | exact Nat.le_refl _ | assumption | (simp; done) | (simp; omega) | omega)).trans (by go_simp; rfl)
  have hOwn := (Below.frozen b3 (p := ⟨(w.heap.size + 1), 4, none⟩) (by first | exact Nat.le_refl _ | assumption | (simp; done) | (simp; omega) | omega)).trans (by go_simp; rfl)
  have hOwn := (Below.frozen b3 (p := ⟨(w.heap.size + 1), 5, none⟩) (by first | exact Nat.le_refl _ | assumption | (simp; done) | (simp; omega) | omega)).trans (by go_simp; rfl)
  have hOwn := (Below.frozen b3 (p := ⟨(w.heap.size + 1), 6, none⟩) (by first | exact Nat.le_refl _ | assumption | (simp; done) | (simp; omega) | omega)).trans (by go_simp; rfl)
  have hOwn := (Below.frozen b3 (p := ⟨(w.heap.size + 1), 7, none⟩) (by first | exact Nat.le_refl _ | assumption | (simp; done) | (simp; omega) | omega)).trans (by go_simp; rfl)
  have hOwn := (Below.frozen b3 (p := ⟨(w.heap.size + 1), 8, none⟩) (by first | exact Nat.le_refl _ | assumption | (simp; done) | (simp; omega) | omega)).trans (by go_simp; rfl)
  have hOwn := (Below.frozen b3 (p := ⟨(w.heap.size + 1), 9, none⟩) (by first | exact Nat.le_refl _ | assumption | (simp; done) | (simp; omega) | omega)).trans (by go_simp; rfl)
  have x9 : w3.cell? ⟨w.heap.size, 9, none⟩ = some (.slice A9 nb c9) := by go_simp
  have x3 : w3.cell? ⟨w.heap.size, 3, none⟩ = some (.slice A3 nf c3) := by go_simp
  have v9 : w3.cell? ⟨w.heap.size + 1, 9, none⟩ = some (.slice B9 nb d9) := by go_simp
  have v3 : w3.cell? ⟨w.heap.size + 1, 3, none⟩ = some (.slice B3 nf d3) := by go_simp
  clear T2 T4
  go_wp2_with fail
  have LP : Hid (∀ wr, Below (w.heap.size + 2) w3 wr → w.heap.size + 2 ≤ wr.heap.size ∧ Below w.heap.size w wr ∧ wr.cell? ⟨w.heap.size, 9, none⟩ = some (.slice A9 nb c9) ∧ wr.cell? ⟨w.heap.size, 3, none⟩ = some (.slice A3 nf c3) ∧ wr.cell? ⟨w.heap.size + 1, 9, none⟩ = some (.slice B9 nb d9) ∧ wr.cell? ⟨w.heap.size + 1, 3, none⟩ = some (.slice B3 nf d3)) := fun wr b =>
    ⟨by have := b.size; omega, bw3.trans (b.mono (by omega)), (b.cell (p := ⟨w.heap.size, 9, none⟩) (by show w.heap.size < _; omega)).trans x9, (b.cell (p := ⟨w.heap.size, 3, none⟩) (by show w.heap.size < _; omega)).trans x3, (b.cell (p := ⟨w.heap.size + 1, 9, none⟩) (by show w.heap.size + 1 < _; omega)).trans v9, (b.cell (p := ⟨w.heap.size + 1, 3, none⟩) (by show w.heap.size + 1 < _; omega)).trans v3⟩
  clear x9 x3 v9 v3
  go_loopw [5] (fun t wr => ∃ j : Nat, j ≤ nb ∧ t = .int .i64 (j : Int) ∧ Below (w.heap.size + 2) w3 wr) (fun t _ => nb - (intOf t).toNat)
  case atStart => exact ⟨0, Nat.zero_le _, rfl, by (repeat' (first | with_reducible assumption | with_reducible exact Below.refl _ _ | (with_reducible refine Below.alloc ?_ ?_ _; rotate_left; focus ((first | exact Nat.le_refl _ | (simp; done) | (simp; omega) | omega | fail))) | (with_reducible refine Below.setCell ?_ ?_ _; rotate_left; focus ((first | exact Nat.le_refl _ | (simp; done) | (simp; omega) | omega | fail))) | with_reducible refine Mem.bel_drewN ?_ _ | with_reducible refine Below.drew ?_ | (with_reducible refine Mem.bel_call (by with_reducible assumption) ?_ ?_; focus ((first | exact Nat.le_refl _ | (simp; done) | (simp; omega) | omega | fail))) | fail))⟩
  case round =>
    obtain ⟨wo, hwo⟩ : ∃ x, x = wr := ⟨_, rfl⟩
    subst hwo
    obtain ⟨j, hj, rfl, bl⟩ := hrel
    obtain ⟨zo, bwo, x9, x3, v9, v3⟩ := LP.out wo bl
    by_cases hjn : j < nb
    · have h1 : j < n.br.length := by rw [← HNB.out]; exact hjn
      obtain ⟨b5, o5, e5, hb5, y0⟩ := ints_at (R9.out.below bwo) h1
      obtain ⟨b6, o6, e6, hb6, z0⟩ := ints_at (S9.out.below bwo) h1
      generalize n.br[j]'h1 = Y at *
      subst e5 e6
      clear h1 LP
      go_wp2_with fail
      go_quiet (fail)
      go_wp2_with fail
      go_roundw
      case rel => exact ⟨j + 1, by omega, by go_num, by (repeat' (first | with_reducible assumption | with_reducible exact Below.refl _ _ | (with_reducible refine Below.alloc ?_ ?_ _; rotate_left; focus ((first | exact Nat.le_refl _ | (simp; done) | (simp; omega) | omega | fail))) | (with_reducible refine Below.setCell ?_ ?_ _; rotate_left; focus ((first | exact Nat.le_refl _ | (simp; done) | (simp; omega) | omega | fail))) | with_reducible refine Mem.bel_drewN ?_ _ | with_reducible refine Below.drew ?_ | (with_reducible refine Mem.bel_call (by with_reducible assumption) ?_ ?_; focus ((first | exact Nat.le_refl _ | (simp; done) | (simp; omega) | omega | fail))) | fail))⟩
      case measure => simp [intOf]; omega
    · obtain rfl : j = nb := by omega
      clear hjn x9 x3 v9 v3
      have l9 := (LP.out wo bl).2.2
      obtain ⟨x9, x3, v9, v3⟩ := l9
      go_wp2_with fail
      go_loopw [6] (fun t wr => ∃ m : Nat, m ≤ nf ∧ t = .int .i64 (m : Int) ∧ Below (w.heap.size + 2) w3 wr) (fun t _ => nf - (intOf t).toNat)
      case atStart => exact ⟨0, Nat.zero_le _, rfl, bl⟩
      case round =>
        clear x9 x3 v9 v3
        obtain ⟨m, hm, rfl, bq⟩ := hrel
        obtain ⟨zr, bwr, x9, x3, v9, v3⟩ := LP.out wr bq
        by_cases hmn : m < nf
        · have h1 : m < n.fs.length := by rw [← HNF.out]; exact hmn
          obtain ⟨b5, o5, X1, x1, X3, x3', X4, x4, e5, hb5, ⟨p0, p1, p2, p3, p4, p5, p6, p7, p8⟩, k1, f1, t1⟩ := fields_at (R3.out.below bwr) h1
          obtain ⟨b6, o6, Y1, y1, Y3, y3, Y4, y4, e6, hb6, ⟨r0, r1, r2, r3, r4, r5, r6, r7, r8⟩, k2, f2, t2⟩ := fields_at (S3.out.below bwr) h1
          have TX := Lib.hid (fun W (b : Below w.heap.size wr W) => rTexts_eq X1 Y1 x1 y1 (n.fs[m]'h1).al W ((f1.keep (Below.keeps b) (fun _ h => h)).keep (fun _ _ => rfl) fun _ h => Nat.lt_of_lt_of_le h (Nat.le_trans bwr.size b.size)) ((f2.keep (Below.keeps b) (fun _ h => h)).keep (fun _ _ => rfl) fun _ h => Nat.lt_of_lt_of_le h (Nat.le_trans bwr.size b.size)) k1.2)
          have sm := fun W (b : Below w.heap.size wr W) => rsame_any (n.fs[m]'h1).df (n.fs[m]'h1).df W X3 X4 Y3 Y4 x3' x4 y3 y4 ((t1.below b).more (Nat.le_trans bwr.size b.size)) ((t2.below b).more (Nat.le_trans bwr.size b.size))
          rw [J.same_refl] at sm
          have SM := Lib.hid sm
          generalize n.fs[m]'h1 = F at *
          subst e5 e6
          have l5 : b5 < w.heap.size := hb5
          have l6 : b6 < w.heap.size := hb6
          have wn : Below wr.heap.size wr ((wr.alloc (.cells #[.string F.name, .slice X1 F.al.length x1, .int .i64 F.ty, .bool F.has, .int .i64 F.df.k, .int .i64 F.df.n, .string F.df.t, .slice X3 F.df.its.length x3', .slice X4 F.df.ks.length x4] 38)).alloc (.cells #[.string F.name, .slice Y1 F.al.length y1, .int .i64 F.ty, .bool F.has, .int .i64 F.df.k, .int .i64 F.df.n, .string F.df.t, .slice Y3 F.df.its.length y3, .slice Y4 F.df.ks.length y4] 38)) := by (repeat' (first | with_reducible assumption | with_reducible exact Below.refl _ _ | (with_reducible refine Below.alloc ?_ ?_ _; rotate_left; focus ((first | exact Nat.le_refl _ | (simp; done) | (simp; omega) | omega | fail))) | (with_reducible refine Below.setCell ?_ ?_ _; rotate_left; focus ((first | exact Nat.le_refl _ | (simp; done) | (simp; omega) | omega | fail))) | with_reducible refine Mem.bel_drewN ?_ _ | with_reducible refine Below.drew ?_ | (with_reducible refine Mem.bel_call (by with_reducible assumption) ?_ ?_; focus ((first | exact Nat.le_refl _ | (simp; done) | (simp; omega) | omega | fail))) | fail))
          have gz : ((wr.alloc (.cells #[.string F.name, .slice X1 F.al.length x1, .int .i64 F.ty, .bool F.has, .int .i64 F.df.k, .int .i64 F.df.n, .string F.df.t, .slice X3 F.df.its.length x3', .slice X4 F.df.ks.length x4] 38)).alloc (.cells #[.string F.name, .slice Y1 F.al.length y1, .int .i64 F.ty, .bool F.has, .int .i64 F.df.k, .int .i64 F.df.n, .string F.df.t, .slice Y3 F.df.its.length y3, .slice Y4 F.df.ks.length y4] 38)).heap.size = wr.heap.size + 2 := by simp
          have GZ := Lib.hid gz
          have w0 := bwr.size
          have u1 : w.heap.size < wr.heap.size := by omega
          have u2 : w.heap.size + 1 < wr.heap.size := by omega
          have u3 : w.heap.size + 1 ≠ wr.heap.size := by omega
          have u4 : wr.heap.size ≠ w.heap.size + 1 := by omega
          have u5 : b6 < wr.heap.size := by omega
          have u6 : b6 ≠ wr.heap.size := by omega
          have u7 : b5 < wr.heap.size := by omega
          have wn2 : Below w.heap.size wr ((wr.alloc (.cells #[.string F.name, .slice X1 F.al.length x1, .int .i64 F.ty, .bool F.has, .int .i64 F.df.k, .int .i64 F.df.n, .string F.df.t, .slice X3 F.df.its.length x3', .slice X4 F.df.ks.length x4] 38)).alloc (.cells #[.string F.name, .slice Y1 F.al.length y1, .int .i64 F.ty, .bool F.has, .int .i64 F.df.k, .int .i64 F.df.n, .string F.df.t, .slice Y3 F.df.its.length y3, .slice Y4 F.df.ks.length y4] 38)) := wn.mono w0
          clear h1 k1 f1 t1 k2 f2 t2 sm gz LP bl
          go_wp2_with fail
          with_reducible refine (TX.out _ wn2).mono ?_
          rintro e w5 ⟨rfl, b7⟩
          rw [GZ.out] at b7
          have z7 := b7.size
          rw [GZ.out] at z7
          have bw5 : Below w.heap.size wr w5 := wn2.trans (b7.mono (by omega))
          have br5 : Below wr.heap.size wr w5 := wn.trans (b7.mono (by omega))
          have hOwn := Nat.lt_of_lt_of_le (n := wr.heap.size) (by first | exact Nat.le_refl _ | assumption | (simp; done) | (simp; omega) | omega) (Below.size b7)
          have hOwn1 := Nat.ne_of_gt hOwn
          have hOwn2 := Nat.ne_of_lt hOwn
          have hOwn := (Below.cell b7 (p := ⟨wr.heap.size, 0, none⟩) (by first | exact Nat.le_refl _ | assumption | (simp; done) | (simp; omega) | omega)).trans (by go_simp; rfl)
          have hOwn := (Below.cell b7 (p := ⟨wr.heap.size, 1, none⟩) (by first | exact Nat.le_refl _ | assumption | (simp; done) | (simp; omega) | omega)).trans (by go_simp; rfl)
          have hOwn := (Below.cell b7 (p := ⟨wr.heap.size, 2, none⟩) (by first | exact Nat.le_refl _ | assumption | (simp; done) | (simp; omega) | omega)).trans (by go_simp; rfl)
          have hOwn := (Below.cell b7 (p := ⟨wr.heap.size, 3, none⟩) (by first | exact Nat.le_refl _ | assumption | (simp; done) | (simp; omega) | omega)).trans (by go_simp; rfl)
          have hOwn := (Below.cell b7 (p := ⟨wr.heap.size, 4, none⟩) (by first | exact Nat.le_refl _ | assumption | (simp; done) | (simp; omega) | omega)).trans (by go_simp; rfl)
          have hOwn := (Below.cell b7 (p := ⟨wr.heap.size, 5, none⟩) (by first | exact Nat.le_refl _ | assumption | (simp; done) | (simp; omega) | omega)).trans (by go_simp; rfl)
          have hOwn := (Below.cell b7 (p := ⟨wr.heap.size, 6, none⟩) (by first | exact Nat.le_refl _ | assumption | (simp; done) | (simp; omega) | omega)).trans (by go_simp; rfl)
          have hOwn := (Below.cell b7 (p := ⟨wr.heap.size, 7, none⟩) (by first | exact Nat.le_refl _ | assumption | (simp; done) | (simp; omega) | omega)).trans (by go_simp; rfl)
          have hOwn := (Below.cell b7 (p := ⟨wr.heap.size, 8, none⟩) (by first | exact Nat.le_refl _ | assumption | (simp; done) | (simp; omega) | omega)).trans (by go_simp; rfl)
          have hOwn := (Below.frozen b7 (p := ⟨wr.heap.size, 0, none⟩) (by first | exact Nat.le_refl _ | assumption | (simp; done) | (simp; omega) | omega)).trans (by go_simp; rfl)
          have hOwn := (Below.frozen b7 (p := ⟨wr.heap.size, 1, none⟩) (by first | exact Nat.le_refl _ | assumption | (simp; done) | (simp; omega) | omega)).trans (by go_simp; rfl)
          have hOwn := (Below.frozen b7 (p := ⟨wr.heap.size, 2, none⟩) (by first | exact Nat.le_refl _ | assumption | (simp; done) | (simp; omega) | omega)).trans (by go_simp; rfl)
          have hOwn := (Below.frozen b7 (p := ⟨wr.heap.size, 3, none⟩) (by first | exact Nat.le_refl _ | assumption | (simp; done) | (simp; omega) | omega)).trans (by go_simp; rfl)
          have hOwn := (Below.frozen b7 (p := ⟨wr.heap.size, 4, none⟩) (by first | exact Nat.le_refl _ | assumption | (simp; done) | (simp; omega) | omega)).trans (by go_simp; rfl)
          have hOwn := (Below.frozen b7 (p := ⟨wr.heap.size, 5, none⟩) (by first | exact Nat.le_refl _ | assumption | (simp; done) | (simp; omega) | omega)).trans (by go_simp; rfl)
          have hOwn := (Below.frozen b7 (p := ⟨wr.heap.size, 6, none⟩) (by first | exact Nat.le_refl _ | assumption | (simp; done) | (simp; omega) | omega)).trans (by go_simp; rfl)
          have hOwn := (Below.frozen b7 (p := ⟨wr.heap.size, 7, none⟩) (by first | exact Nat.le_refl _ | assumption | (simp; done) | (simp; omega) | omega)).trans (by go_simp; rfl)
          have hOwn := (Below.frozen b7 (p := ⟨wr.heap.size, 8, none⟩) (by first | exact Nat.le_refl _ | assumption | (simp; done) | (simp; omega) | omega)).trans (by go_simp; rfl)
          have hOwn := Nat.lt_of_lt_of_le (n := (wr.heap.size + 1)) (by first | exact Nat.le_refl _ | assumption | (simp; done) | (simp; omega) | omega) (Below.size b7)
          have hOwn1 := Nat.ne_of_gt hOwn
          have hOwn2 := Nat.ne_of_lt hOwn
          have hOwn := (Below.cell b7 (p := ⟨(wr.heap.size + 1), 0, none⟩) (by first | exact Nat.le_refl _ | assumption | (simp; done) | (simp; omega) | omega)).trans (by go_simp; rfl)
          have hOwn := (Below.cell b7 (p := ⟨(wr.heap.size + 1), 1, none⟩) (by first | exact Nat.le_refl _ | assumption | (simp; done) | (simp; omega) | omega)).trans (by go_simp; rfl)
          have hOwn := (Below.cell b7 (p := ⟨(wr.heap.size + 1), 2, none⟩) (by first | exact Nat.le_refl _ | assumption | (simp; done) | (simp; omega) | omega)).trans (by go_simp; rfl)
          have hOwn := (Below.cell b7 (p := ⟨(wr.heap.size + 1), 3, none⟩) (by first | exact Nat.le_refl _ | assumption | (simp; done) | (simp; omega) | omega)).trans (by go_simp; rfl)
          have hOwn := (Below.cell b7 (p := ⟨(wr.heap.size + 1), 4, none⟩) (by first | exact Nat.le_refl _ | assumption | (simp; done) | (simp; omega) | omega)).trans (by go_simp; rfl)
          have hOwn := (Below.cell b7 (p := ⟨(wr.heap.size + 1), 5, none⟩) (by first | exact Nat.le_refl _ | assumption | (simp; done) | (simp; omega) | omega)).trans (by go_simp; rfl)
          have hOwn := (Below.cell b7 (p := ⟨(wr.heap.size + 1), 6, none⟩) (by first | exact Nat.le_refl _ | assumption | (simp; done) | (simp; omega) | omega)).trans (by go_simp; rfl)
          have hOwn := (Below.cell b7 (p := ⟨(wr.heap.size + 1), 7, none⟩) (by first | exact Nat.le_refl _ | assumption | (simp; done) | (simp; omega) | omega)).trans (by go_simp; rfl)
          have hOwn := (Below.cell b7 (p := ⟨(wr.heap.size + 1), 8, none⟩) (by first | exact Nat.le_refl _ | assumption | (simp; done) | (simp; omega) | omega)).trans (by go_simp; rfl)
          have hOwn := (Below.frozen b7 (p := ⟨(wr.heap.size + 1), 0, none⟩) (by first | exact Nat.le_refl _ | assumption | (simp; done) | (simp; omega) | omega)).trans (by go_simp; rfl)
          have hOwn := (Below.frozen b7 (p := ⟨(wr.heap.size + 1), 1, none⟩) (by first | exact Nat.le_refl _ | assumption | (simp; done) | (simp; omega) | omega)).trans (by go_simp; rfl)
          have hOwn := (Below.frozen b7 (p := ⟨(wr.heap.size + 1), 2, none⟩) (by first | exact Nat.le_refl _ | assumption | (simp; done) | (simp; omega) | omega)).trans (by go_simp; rfl)
          have hOwn := (Below.frozen b7 (p := ⟨(wr.heap.size + 1), 3, none⟩) (by first | exact Nat.le_refl _ | assumption | (simp; done) | (simp; omega) | omega)).trans (by go_simp; rfl)
          have hOwn := (Below.frozen b7 (p := ⟨(wr.heap.size + 1), 4, none⟩) (by first | exact Nat.le_refl _ | assumption | (simp; done) | (simp; omega) | omega)).trans (by go_simp; rfl)
          have hOwn := (Below.frozen b7 (p := ⟨(wr.heap.size + 1), 5, none⟩) (by first | exact Nat.le_refl _ | assumption | (simp; done) | (simp; omega) | omega)).trans (by go_simp; rfl)
          have hOwn := (Below.frozen b7 (p := ⟨(wr.heap.size + 1), 6, none⟩) (by first | exact Nat.le_refl _ | assumption | (simp; done) | (simp; omega) | omega)).trans (by go_simp; rfl)
          have hOwn := (Below.frozen b7 (p := ⟨(wr.heap.size + 1), 7, none⟩) (by first | exact Nat.le_refl _ | assumption | (simp; done) | (simp; omega) | omega)).trans (by go_simp; rfl)
          have hOwn := (Below.frozen b7 (p := ⟨(wr.heap.size + 1), 8, none⟩) (by first | exact Nat.le_refl _ | assumption | (simp; done) | (simp; omega) | omega)).trans (by go_simp; rfl)
          go_wp2_with fail
          with_reducible refine (SM.out w5 bw5).mono ?_
          rintro e w6 ⟨rfl, b8⟩
          have bend : Below (w.heap.size + 2) w3 w6 := bq.trans ((br5.trans (b8.mono (by omega))).mono zr)
          go_wp2_with fail
          go_roundw
          case rel => exact ⟨m + 1, by omega, by go_num, bend⟩
          case measure => simp [intOf]; omega
        · obtain rfl : m = nf := by omega
          clear hmn
          go_wp2_with fail
          go_ret
          exact told_ret rfl bwr

set_option maxRecDepth 100000 in
set_option maxHeartbeats 4000000 in
theorem rSame_eq (sc : Sc) (w : World) (A B : Option Addr) (c d : Nat) (ha : Lies w (· < w.heap.size) sc.enc [.slice A sc.nodes.length c, .int .i64 sc.root]) (hb : Lies w (· < w.heap.size) sc.enc [.slice B sc.nodes.length d, .int .i64 sc.root]) :
    Calls Tryd.prog 9 #[.agg #[.slice A sc.nodes.length c, .int .i64 sc.root], .agg #[.slice B sc.nodes.length d, .int .i64 sc.root]] w (Told true w) := by
  have CS := cell_set
  obtain ⟨_, _, e, la, ra⟩ := Sc.out.1 ha
  simp only [List.cons.injEq, Value.slice.injEq, true_and, and_true] at e
  obtain ⟨rfl, rfl⟩ := e
  obtain ⟨_, _, e, lb, rb⟩ := Sc.out.1 hb
  simp only [List.cons.injEq, Value.slice.injEq, true_and, and_true] at e
  obtain ⟨rfl, rfl⟩ := e
  have qn := la.2
  unfold maxLen at qn
  obtain ⟨n, hn⟩ : ∃ m, m = sc.nodes.length := ⟨_, rfl⟩
  have HN := Lib.hid hn
  rw [← hn] at qn ⊢
  have RA := Lib.hid ra; have RB := Lib.hid rb
  generalize sc.root = rt at *
  have W2 : Below w.heap.size w ((w.alloc (.cells #[.slice A n c, .int .i64 rt] 24)).alloc (.cells #[.slice B n d, .int .i64 rt] 24)) := by (repeat' (first | with_reducible assumption | with_reducible exact Below.refl _ _ | (with_reducible refine Below.alloc ?_ ?_ _; rotate_left; focus ((first | exact Nat.le_refl _ | (simp; done) | (simp; omega) | omega | fail))) | (with_reducible refine Below.setCell ?_ ?_ _; rotate_left; focus ((first | exact Nat.le_refl _ | (simp; done) | (simp; omega) | omega | fail))) | with_reducible refine Mem.bel_drewN ?_ _ | with_reducible refine Below.drew ?_ | (with_reducible refine Mem.bel_call (by with_reducible assumption) ?_ ?_; focus ((first | exact Nat.le_refl _ | (simp; done) | (simp; omega) | omega | fail))) | fail))
  have gz2 : ((w.alloc (.cells #[.slice A n c, .int .i64 rt] 24)).alloc (.cells #[.slice B n d, .int .i64 rt] 24)).heap.size = w.heap.size + 2 := by simp
  have GZ2 := Lib.hid gz2
  have c1 : ((w.alloc (.cells #[.slice A n c, .int .i64 rt] 24)).alloc (.cells #[.slice B n d, .int .i64 rt] 24)).cell? ⟨w.heap.size, 0, none⟩ = some (.slice A n c) := by simp
  have c2 : ((w.alloc (.cells #[.slice A n c, .int .i64 rt] 24)).alloc (.cells #[.slice B n d, .int .i64 rt] 24)).cell? ⟨w.heap.size + 1, 0, none⟩ = some (.slice B n d) := by simp
  have C1 := Lib.hid c1; have C2 := Lib.hid c2
  clear ha hb la lb ra rb hn gz2 c1 c2
  go_enter Tryd.func9, Tryd.ntmps9
  go_wp2_with fail
  go_loopw [5] (fun t wr => ∃ j : Nat, j ≤ n ∧ t = .int .i64 (j : Int) ∧ Below (w.heap.size + 2) ((w.alloc (.cells #[.slice A n c, .int .i64 rt] 24)).alloc (.cells #[.slice B n d, .int .i64 rt] 24)) wr) (fun t _ => n - (intOf t).toNat)
  case atStart => exact ⟨0, Nat.zero_le _, rfl, Below.refl _ _⟩
  case round =>
    obtain ⟨j, hj, rfl, bl⟩ := hrel
    have zr := bl.size
    rw [GZ2.out] at zr
    have bw : Below w.heap.size w wr := W2.trans (bl.mono (by omega))
    have m1 := (bl.cell (p := ⟨w.heap.size, 0, none⟩) (by show w.heap.size < _; omega)).trans C1.out
    have m2 := (bl.cell (p := ⟨w.heap.size + 1, 0, none⟩) (by show w.heap.size + 1 < _; omega)).trans C2.out
    by_cases hjn : j < n
    · have h1 : j < sc.nodes.length := by rw [← HN.out]; exact hjn
      obtain ⟨b5, o5, X2, x2, X3, x3, X4, x4, X9, x9, e5, hb5, ⟨p0, p1, p2, p3, p4, p5, p6, p7, p8, p9⟩, lx⟩ := nodes_at (RA.out.below bw) h1
      obtain ⟨b6, o6, Y2, y2, Y3, y3, Y4, y4, Y9, y9, e6, hb6, ⟨r0, r1, r2, r3, r4, r5, r6, r7, r8, r9⟩, ly⟩ := nodes_at (RB.out.below bw) h1
      have ON := Lib.hid (fun W (b : Below w.heap.size wr W) => rOne_eq (sc.nodes[j]'h1) W X2 X3 X4 X9 Y2 Y3 Y4 Y9 x2 x3 x4 x9 y2 y3 y4 y9 ((lx.below b).more (Nat.le_trans bw.size b.size)) ((ly.below b).more (Nat.le_trans bw.size b.size)))
      generalize sc.nodes[j]'h1 = T at *
      subst e5 e6
      have l5 : b5 < w.heap.size := hb5
      have l6 : b6 < w.heap.size := hb6
      have bqz : Below w.heap.size wr wr := Below.refl _ _
      have bend := Lib.hid bl
      clear h1 lx ly C1 C2 RA RB bl
      go_wp2_with fail
      go_region_held_law (fun w' => w'.cell? ⟨w.heap.size, 0, none⟩ = some (.slice (some ⟨b5, o5, none⟩) n c) ∧ w'.cell? ⟨w.heap.size + 1, 0, none⟩ = some (.slice (some ⟨b6, o6, none⟩) n d) ∧ w'.cell? ⟨b5, o5 + j * 10, none⟩ = some (.int .i64 T.k) ∧ w'.cell? ⟨b5, o5 + j * 10 + 1, none⟩ = some (.string T.name) ∧ w'.cell? ⟨b5, o5 + j * 10 + 2, none⟩ = some (.slice X2 T.al.length x2) ∧ w'.cell? ⟨b5, o5 + j * 10 + 3, none⟩ = some (.slice X3 T.fs.length x3) ∧ w'.cell? ⟨b5, o5 + j * 10 + 4, none⟩ = some (.slice X4 T.sy.length x4) ∧ w'.cell? ⟨b5, o5 + j * 10 + 5, none⟩ = some (.bool T.has) ∧ w'.cell? ⟨b5, o5 + j * 10 + 6, none⟩ = some (.string T.df) ∧ w'.cell? ⟨b5, o5 + j * 10 + 7, none⟩ = some (.int .i64 T.size) ∧ w'.cell? ⟨b5, o5 + j * 10 + 8, none⟩ = some (.int .i64 T.items) ∧ w'.cell? ⟨b5, o5 + j * 10 + 9, none⟩ = some (.slice X9 T.br.length x9) ∧ w'.cell? ⟨b6, o6 + j * 10, none⟩ = some (.int .i64 T.k) ∧ w'.cell? ⟨b6, o6 + j * 10 + 1, none⟩ = some (.string T.name) ∧ w'.cell? ⟨b6, o6 + j * 10 + 2, none⟩ = some (.slice Y2 T.al.length y2) ∧ w'.cell? ⟨b6, o6 + j * 10 + 3, none⟩ = some (.slice Y3 T.fs.length y3) ∧ w'.cell? ⟨b6, o6 + j * 10 + 4, none⟩ = some (.slice Y4 T.sy.length y4) ∧ w'.cell? ⟨b6, o6 + j * 10 + 5, none⟩ = some (.bool T.has) ∧ w'.cell? ⟨b6, o6 + j * 10 + 6, none⟩ = some (.string T.df) ∧ w'.cell? ⟨b6, o6 + j * 10 + 7, none⟩ = some (.int .i64 T.size) ∧ w'.cell? ⟨b6, o6 + j * 10 + 8, none⟩ = some (.int .i64 T.items) ∧ w'.cell? ⟨b6, o6 + j * 10 + 9, none⟩ = some (.slice Y9 T.br.length y9))
        (exact ⟨(by first | with_reducible assumption | (go_simp; done)), (by first | with_reducible assumption | (go_simp; done)), (by first | with_reducible assumption | (go_simp; done)), (by first | with_reducible assumption | (go_simp; done)), (by first | with_reducible assumption | (go_simp; done)), (by first | with_reducible assumption | (go_simp; done)), (by first | with_reducible assumption | (go_simp; done)), (by first | with_reducible assumption | (go_simp; done)), (by first | with_reducible assumption | (go_simp; done)), (by first | with_reducible assumption | (go_simp; done)), (by first | with_reducible assumption | (go_simp; done)), (by first | with_reducible assumption | (go_simp; done)), (by first | with_reducible assumption | (go_simp; done)), (by first | with_reducible assumption | (go_simp; done)), (by first | with_reducible assumption | (go_simp; done)), (by first | with_reducible assumption | (go_simp; done)), (by first | with_reducible assumption | (go_simp; done)), (by first | with_reducible assumption | (go_simp; done)), (by first | with_reducible assumption | (go_simp; done)), (by first | with_reducible assumption | (go_simp; done)), (by first | with_reducible assumption | (go_simp; done)), (by first | with_reducible assumption | (go_simp; done))⟩)
        (first
          | (go_at_call 19; refine (ON.out _ (bel_drewN bqz _)).mono ?_; rintro e w3 ⟨rfl, b3⟩; have b4 := b3; have k0 := (Below.cell b3 (p := ⟨w.heap.size, 0, none⟩) (by show w.heap.size < wr.heap.size; omega)).trans m1; have k1 := (Below.cell b3 (p := ⟨w.heap.size + 1, 0, none⟩) (by show w.heap.size + 1 < wr.heap.size; omega)).trans m2; have k2 := (Below.cell b3 (p := ⟨b5, o5 + j * 10, none⟩) (by show b5 < wr.heap.size; omega)).trans p0; have k3 := (Below.cell b3 (p := ⟨b5, o5 + j * 10 + 1, none⟩) (by show b5 < wr.heap.size; omega)).trans p1; have k4 := (Below.cell b3 (p := ⟨b5, o5 + j * 10 + 2, none⟩) (by show b5 < wr.heap.size; omega)).trans p2; have k5 := (Below.cell b3 (p := ⟨b5, o5 + j * 10 + 3, none⟩) (by show b5 < wr.heap.size; omega)).trans p3; have k6 := (Below.cell b3 (p := ⟨b5, o5 + j * 10 + 4, none⟩) (by show b5 < wr.heap.size; omega)).trans p4; have k7 := (Below.cell b3 (p := ⟨b5, o5 + j * 10 + 5, none⟩) (by show b5 < wr.heap.size; omega)).trans p5; have k8 := (Below.cell b3 (p := ⟨b5, o5 + j * 10 + 6, none⟩) (by show b5 < wr.heap.size; omega)).trans p6; have k9 := (Below.cell b3 (p := ⟨b5, o5 + j * 10 + 7, none⟩) (by show b5 < wr.heap.size; omega)).trans p7; have k10 := (Below.cell b3 (p := ⟨b5, o5 + j * 10 + 8, none⟩) (by show b5 < wr.heap.size; omega)).trans p8; have k11 := (Below.cell b3 (p := ⟨b5, o5 + j * 10 + 9, none⟩) (by show b5 < wr.heap.size; omega)).trans p9; have k12 := (Below.cell b3 (p := ⟨b6, o6 + j * 10, none⟩) (by show b6 < wr.heap.size; omega)).trans r0; have k13 := (Below.cell b3 (p := ⟨b6, o6 + j * 10 + 1, none⟩) (by show b6 < wr.heap.size; omega)).trans r1; have k14 := (Below.cell b3 (p := ⟨b6, o6 + j * 10 + 2, none⟩) (by show b6 < wr.heap.size; omega)).trans r2; have k15 := (Below.cell b3 (p := ⟨b6, o6 + j * 10 + 3, none⟩) (by show b6 < wr.heap.size; omega)).trans r3; have k16 := (Below.cell b3 (p := ⟨b6, o6 + j * 10 + 4, none⟩) (by show b6 < wr.heap.size; omega)).trans r4; have k17 := (Below.cell b3 (p := ⟨b6, o6 + j * 10 + 5, none⟩) (by show b6 < wr.heap.size; omega)).trans r5; have k18 := (Below.cell b3 (p := ⟨b6, o6 + j * 10 + 6, none⟩) (by show b6 < wr.heap.size; omega)).trans r6; have k19 := (Below.cell b3 (p := ⟨b6, o6 + j * 10 + 7, none⟩) (by show b6 < wr.heap.size; omega)).trans r7; have k20 := (Below.cell b3 (p := ⟨b6, o6 + j * 10 + 8, none⟩) (by show b6 < wr.heap.size; omega)).trans r8; have k21 := (Below.cell b3 (p := ⟨b6, o6 + j * 10 + 9, none⟩) (by show b6 < wr.heap.size; omega)).trans r9))
      all_goals
        go_wp2_with fail
        go_roundw
        case rel => exact ⟨j + 1, by omega, by go_num, (bel_drewN bend.out _).trans (b4.mono zr)⟩
        case measure => simp [intOf]; omega
    · obtain rfl : j = n := by omega
      clear hjn
      go_wp2_with fail
      go_ret
      exact told_ret rfl bw
end Go.Proofs.YtnfhikgfcdcpoaaDoor
