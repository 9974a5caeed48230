/- The laws of layer 10, walked: how the nodes of a schema stand. -/
import Derived.Test.YtnfhikgfcdcpoaaDoorSWk
namespace Go.Proofs.YtnfhikgfcdcpoaaDoor
open Go.ChangeShapes Go.WideShapes Go.ChangeAt Go.RowKit Mem

/-- Great: if it denies, the schema is not too great. -/
theorem sgreat_any (sc : Sc) (w : World) (A : Option Addr) (c : Nat) (hs : Lies w (· < w.heap.size) sc.enc [.slice A sc.nodes.length c, .int .i64 sc.root]) :
    Calls Tryd.prog 6 #[.agg #[.slice A sc.nodes.length c, .int .i64 sc.root]] w (fun e w' => ∃ b : Bool, e = .returned (.bool b) ∧ (b = false → sc.sm) ∧ Below w.heap.size w w') := by
  have CS := cell_set
  have W1 : Below w.heap.size w (w.alloc (.cells #[.slice A sc.nodes.length c, .int .i64 sc.root] 24)) := (Below.refl _ _).alloc (Nat.le_refl _) _
  have B0 := Lib.hid (sbulk_any sc _ A c (hs.on W1))
  clear hs
  go_enter Tryd.func6, Tryd.ntmps6
  go_wp2_with fail
  with_reducible refine B0.out.mono ?_
  rintro e w3 ⟨n, rfl, hd, b3⟩
  have bw : Below w.heap.size w w3 := by (repeat' (first | with_reducible assumption | with_reducible exact Below.refl _ _ | (with_reducible refine Below.alloc ?_ ?_ _; rotate_left; focus ((first | exact Nat.le_refl _ | (simp; done) | (simp; omega) | omega | fail))) | (with_reducible refine Below.setCell ?_ ?_ _; rotate_left; focus ((first | exact Nat.le_refl _ | (simp; done) | (simp; omega) | omega | fail))) | with_reducible refine Mem.bel_drewN ?_ _ | with_reducible refine Below.drew ?_ | (with_reducible refine Mem.bel_call (by with_reducible assumption) ?_ ?_; focus ((first | exact Nat.le_refl _ | (simp; done) | (simp; omega) | omega | fail))) | fail))
  have HD := Lib.hid hd
  clear hd
  by_cases h : (2500 : Int) < (n : Int)
  · have q : decide ((2500 : Int) < (n : Int)) = true := by simpa using h
    go_wp2_with fail
    go_ret
    exact ⟨true, rfl, (fun h => by cases h), bw⟩
  · have q : decide ((2500 : Int) < (n : Int)) = false := by simpa using h
    go_wp2_with fail
    go_ret
    exact ⟨false, by first | rfl | (rw [← q]; rfl), fun _ => HD.out (by omega), bw⟩
/-- Truths in a block. -/
def Bls (w : World) (g n : Nat) (F : Nat → Bool) : Prop := ∀ i, i < n → w.cell? ⟨g, i, none⟩ = some (.bool (F i)) ∧ w.frozen? ⟨g, i, none⟩ = false
theorem Bls.below {w w' : World} {g n B : Nat} {F : Nat → Bool} (h : Bls w g n F) (b : Below B w w') (hg : g < B) : Bls w' g n F := fun i hi => ⟨(b.cell (p := ⟨g, i, none⟩) hg).trans (h i hi).1, (b.frozen (p := ⟨g, i, none⟩) hg).trans (h i hi).2⟩
theorem Bls.set {w : World} {g n k : Nat} {F : Nat → Bool} (h : Bls w g n F) (hk : k < n) (x : Bool) : Bls (w.setCell ⟨g, k, none⟩ (.bool x)) g n (fun i => if i = k then x else F i) := fun i hi => by
  refine ⟨?_, ?_⟩
  · rw [cell_set]
    by_cases e : k = i
    · subst e; rw [if_pos ⟨rfl, rfl⟩, (h k hk).1]; simp
    · rw [if_neg (by rintro ⟨_, e'⟩; exact e e'), (h i hi).1]; simp; exact fun e' => absurd e'.symm e
  · rw [World.frozen?_setCell]; exact (h i hi).2
theorem made_bls (w : World) (n : Nat) (t : TypeId) : Bls (w.alloc (.cells (madeCells #[.bool false] n) t)) w.heap.size n (fun _ => false) := fun i hi => by
  have h := heap_alloc_new w (.cells (madeCells #[.bool false] n) t)
  refine ⟨?_, (Blk.new w t (madeCells #[.bool false] n)).frozen i⟩
  rw [cell_of_row _ _ _ _ _ _ h]
  simp [madeCells, hi, Nat.mod_one]
theorem made_bls1 (w : World) (n : Nat) (t : TypeId) (hn : 1 ≤ n) : Bls (w.alloc (.cells ((madeCells #[.bool false] n).setIfInBounds 0 (.bool true)) t)) w.heap.size n (fun i => decide (i = 0)) := fun i hi => by
  have h := heap_alloc_new w (.cells ((madeCells #[.bool false] n).setIfInBounds 0 (.bool true)) t)
  refine ⟨?_, (Blk.new w t ((madeCells #[.bool false] n).setIfInBounds 0 (.bool true))).frozen i⟩
  rw [cell_of_row _ _ _ _ _ _ h]
  by_cases e : i = 0
  · subst e
    simp [madeCells, Array.getElem?_setIfInBounds]
    omega
  · rw [Array.getElem?_setIfInBounds_ne (by omega)]
    simp [madeCells, hi, Nat.mod_one, e]
theorem kids_at {s : Sc} {i : Nat} (h : i < s.nodes.length) : s.kidsAt i = (s.nodes[i]'h).kids := by unfold Sc.kidsAt; rw [List.getElem?_eq_getElem h]; rfl
theorem kind_at {s : Sc} {i : Nat} (h : i < s.nodes.length) : s.kind (i : Int) = (s.nodes[i]'h).k := by unfold Sc.kind; rw [if_pos (by omega), Int.toNat_natCast, List.getElem?_eq_getElem h]; rfl
/-- The first node, and what is a kid of one ahead of i. -/
def Mark (s : Sc) (i : Nat) (F : Nat → Bool) : Prop := F 0 = true ∧ ∀ j, j < i → ∀ k : Nat, (k : Int) ∈ s.kidsAt j → F k = true
theorem Mark.set {s : Sc} {i : Nat} {F : Nat → Bool} (h : Mark s i F) (k : Nat) : Mark s i (fun j => if j = k then true else F j) :=
  ⟨by by_cases e : (0 : Nat) = k <;> simp [e, h.1], fun j hj q hq => by by_cases e : q = k <;> simp [e, h.2 j hj q hq]⟩
theorem Mark.next {s : Sc} {i : Nat} {F : Nat → Bool} {K : List Int} (h : Mark s i F) (hK : s.kidsAt i = K) (hk : ∀ q (h : q < K.length), ∀ k : Nat, (k : Int) = K[q]'h → F k = true) : Mark s (i + 1) F :=
  ⟨h.1, fun j hj k hq => by
    rcases Nat.lt_or_ge j i with g | g
    · exact h.2 j g k hq
    · obtain rfl : j = i := by omega
      rw [hK] at hq
      obtain ⟨q, h1, h2⟩ := List.getElem_of_mem hq
      exact hk q h1 k h2.symm⟩
theorem Mark.here {s : Sc} {i : Nat} {F : Nat → Bool} (h : Mark s i F) (g : Good s 0 s.nodes.length) (hi : i < s.nodes.length) : F i = true := by
  rcases Nat.eq_zero_or_pos i with e | e
  · subst e; exact h.1
  · obtain ⟨j, _, h2, h3⟩ := g.2 i e hi
    exact h.2 j h2 i h3

set_option maxRecDepth 100000 in
set_option maxHeartbeats 8000000 in
theorem schemaStands_walk (sc : Sc) (w : World) (A : Option Addr) (c : Nat) (hs : Lies w (· < w.heap.size) sc.enc [.slice A sc.nodes.length c, .int .i64 sc.root]) (hL : LaidN w) :
    Calls Tryd.prog 4 #[.agg #[.slice A sc.nodes.length c, .int .i64 sc.root]] w fun e w' => e = .returned (.bool true) ∧ Below w.heap.size w w' := by
  have CS := cell_set
  have HS := Lib.hid (fun W (b : Below w.heap.size w W) => (hs.below b).more b.size)
  have WK := Lib.hid (fun W (b : Below w.heap.size w W) => works10_any W (hL.below b))
  have GR := Lib.hid (fun W b => sgreat_any sc W A c (HS.out W b))
  have RI := Lib.hid (fun (sm : sc.sm) W b => sRight_any sc sm W (hL.below b) A c (HS.out W b))
  have FN := Lib.hid (fun (sm : sc.sm) t W b => sFind_any sc sm t W A c (HS.out W b))
  have NM := Lib.hid sNamed_any
  obtain ⟨_, _, e, la, ra⟩ := Sc.out.1 hs
  simp only [List.cons.injEq, Value.slice.injEq, true_and, and_true] at e
  obtain ⟨rfl, rfl⟩ := e
  have RA := Lib.hid ra
  obtain ⟨n, hn⟩ : ∃ m, m = sc.nodes.length := ⟨_, rfl⟩
  have HN := Lib.hid hn
  rw [← hn] at GR RI FN ⊢
  have W1 : Below w.heap.size w (w.alloc (.cells #[.slice A n c, .int .i64 sc.root] 24)) := (Below.refl _ _).alloc (Nat.le_refl _) _
  have gz1 : (w.alloc (.cells #[.slice A n c, .int .i64 sc.root] 24)).heap.size = w.heap.size + 1 := by simp
  have GZ1 := Lib.hid gz1
  generalize hrt : sc.root = rt at *
  clear hs la ra gz1 hn HS
  go_enter Tryd.func4, Tryd.ntmps4
  go_wp2_with fail
  with_reducible refine (WK.out _ W1).mono ?_
  rintro e w1 ⟨rfl, b1⟩
  rw [GZ1.out] at b1
  have z1 := b1.size
  rw [GZ1.out] at z1
  have bw1 : Below w.heap.size w w1 := W1.trans (b1.mono (by omega))
  have hOwn := Nat.lt_of_lt_of_le (n := w.heap.size) (by first | exact Nat.le_refl _ | assumption | (simp; done) | (simp; omega) | omega) (Below.size b1)
  have hOwn1 := Nat.ne_of_gt hOwn
  have hOwn2 := Nat.ne_of_lt hOwn
  have hOwn := (Below.cell b1 (p := ⟨w.heap.size, 0, none⟩) (by first | exact Nat.le_refl _ | assumption | (simp; done) | (simp; omega) | omega)).trans (by go_simp; rfl)
  have hOwn := (Below.cell b1 (p := ⟨w.heap.size, 1, none⟩) (by first | exact Nat.le_refl _ | assumption | (simp; done) | (simp; omega) | omega)).trans (by go_simp; rfl)
  have hOwn := (Below.frozen b1 (p := ⟨w.heap.size, 0, none⟩) (by first | exact Nat.le_refl _ | assumption | (simp; done) | (simp; omega) | omega)).trans (by go_simp; rfl)
  have hOwn := (Below.frozen b1 (p := ⟨w.heap.size, 1, none⟩) (by first | exact Nat.le_refl _ | assumption | (simp; done) | (simp; omega) | omega)).trans (by go_simp; rfl)
  go_wp2_with fail
  with_reducible refine (GR.out w1 bw1).mono ?_
  rintro e w2 ⟨gj, rfl, hgj, b2⟩
  have z2 := b2.size
  have bw2 : Below w.heap.size w w2 := bw1.trans (b2.mono (by omega))
  have HGJ := Lib.hid hgj
  clear hgj
  have hOwn := Nat.lt_of_lt_of_le (n := w.heap.size) (by first | exact Nat.le_refl _ | assumption | (simp; done) | (simp; omega) | omega) (Below.size b2)
  have hOwn1 := Nat.ne_of_gt hOwn
  have hOwn2 := Nat.ne_of_lt hOwn
  have hOwn := (Below.cell b2 (p := ⟨w.heap.size, 0, none⟩) (by first | exact Nat.le_refl _ | assumption | (simp; done) | (simp; omega) | omega)).trans (by go_simp; rfl)
  have hOwn := (Below.cell b2 (p := ⟨w.heap.size, 1, none⟩) (by first | exact Nat.le_refl _ | assumption | (simp; done) | (simp; omega) | omega)).trans (by go_simp; rfl)
  have hOwn := (Below.frozen b2 (p := ⟨w.heap.size, 0, none⟩) (by first | exact Nat.le_refl _ | assumption | (simp; done) | (simp; omega) | omega)).trans (by go_simp; rfl)
  have hOwn := (Below.frozen b2 (p := ⟨w.heap.size, 1, none⟩) (by first | exact Nat.le_refl _ | assumption | (simp; done) | (simp; omega) | omega)).trans (by go_simp; rfl)
  cases gj with
  | true =>
    go_wp2_with fail
    go_ret
    exact ⟨rfl, bw2⟩
  | false =>
    have sm : sc.sm := by first | exact HGJ.out rfl | exact HGJ.out trivial
    have RI2 := Lib.hid (RI.out sm w2 bw2)
    have FN2 := Lib.hid (FN.out sm)
    have n25 : n ≤ 2500 := by rw [HN.out]; exact sm.1
    have SMH := Lib.hid sm
    clear RI FN HGJ sm
    go_wp2_with fail
    with_reducible refine RI2.out.mono ?_
    rintro e w3 ⟨rb, rfl, hrb, b3⟩
    have z3 := b3.size
    have bw3 : Below w.heap.size w w3 := bw2.trans (b3.mono (by omega))
    have HRB := Lib.hid hrb
    clear hrb
    have hOwn := Nat.lt_of_lt_of_le (n := w.heap.size) (by first | exact Nat.le_refl _ | assumption | (simp; done) | (simp; omega) | omega) (Below.size b3)
    have hOwn1 := Nat.ne_of_gt hOwn
    have hOwn2 := Nat.ne_of_lt hOwn
    have hOwn := (Below.cell b3 (p := ⟨w.heap.size, 0, none⟩) (by first | exact Nat.le_refl _ | assumption | (simp; done) | (simp; omega) | omega)).trans (by go_simp; rfl)
    have hOwn := (Below.cell b3 (p := ⟨w.heap.size, 1, none⟩) (by first | exact Nat.le_refl _ | assumption | (simp; done) | (simp; omega) | omega)).trans (by go_simp; rfl)
    have hOwn := (Below.frozen b3 (p := ⟨w.heap.size, 0, none⟩) (by first | exact Nat.le_refl _ | assumption | (simp; done) | (simp; omega) | omega)).trans (by go_simp; rfl)
    have hOwn := (Below.frozen b3 (p := ⟨w.heap.size, 1, none⟩) (by first | exact Nat.le_refl _ | assumption | (simp; done) | (simp; omega) | omega)).trans (by go_simp; rfl)
    cases rb with
    | false =>
      go_wp2_with fail
      go_ret
      exact ⟨rfl, bw3⟩
    | true =>
      have hrb : sc.ordered ∧ sc.uniq ∧ ∀ i, i < n → sc.wt i ≤ 1000 := by first | exact HRB.out rfl | exact HRB.out trivial
      have GD := Lib.hid (ordered_good hrb.1)
      have UQ := Lib.hid hrb.2.1
      have n0 : 1 ≤ n := by rw [HN.out]; exact hrb.1.1
      have c0 : w3.cell? ⟨w.heap.size, 0, none⟩ = some (.slice A n c) := by go_simp
      have c1 : w3.cell? ⟨w.heap.size, 1, none⟩ = some (.int .i64 rt) := by go_simp
      have mk := run_make_row' (P := Tryd.prog) 39 4 (.bool false) 1 (by kernel_rfl) (by kernel_rfl) rfl .i64 .i64 n (by omega) (by omega)
      have mb := made_bls w3 n 4
      have MB := Lib.hid (made_bls1 w3 n 4 n0)
      have B4 : Below w3.heap.size w3 (w3.alloc (.cells (madeCells #[.bool false] n) 4)) := (Below.refl _ _).alloc (Nat.le_refl _) _
      obtain ⟨m0, m0f⟩ := mb 0 (by omega)
      have BX : Hid (∀ W, Below w3.heap.size w3 W → W.cell? ⟨w.heap.size, 0, none⟩ = some (.slice A n c) ∧ W.cell? ⟨w.heap.size, 1, none⟩ = some (.int .i64 rt) ∧ Below w.heap.size w W) := fun W b =>
        ⟨(b.cell (p := ⟨w.heap.size, 0, none⟩) (by show w.heap.size < _; omega)).trans c0, (b.cell (p := ⟨w.heap.size, 1, none⟩) (by show w.heap.size < _; omega)).trans c1, bw3.trans (b.mono (by omega))⟩
      clear RI2 WK GR hrb HRB mb
      go_wp2_with fail
      go_loopw [26] (fun t wr => ∃ (i : Nat) (F : Nat → Bool), i ≤ n ∧ t = .int .i64 (i : Int) ∧ Hid (Bls wr w3.heap.size n F) ∧ Hid (Mark sc i F) ∧ Below w3.heap.size w3 wr ∧ w3.heap.size < wr.heap.size) (fun t _ => n - (intOf t).toNat)
      case atStart => exact ⟨0, _, Nat.zero_le _, rfl, MB.out, ⟨by simp, fun _ h => absurd h (Nat.not_lt_zero _)⟩, by (repeat' (first | with_reducible assumption | with_reducible exact Below.refl _ _ | (with_reducible refine Below.alloc ?_ ?_ _; rotate_left; focus ((first | exact Nat.le_refl _ | (simp; done) | (simp; omega) | omega | fail))) | (with_reducible refine Below.setCell ?_ ?_ _; rotate_left; focus ((first | exact Nat.le_refl _ | (simp; done) | (simp; omega) | omega | fail))) | with_reducible refine Mem.bel_drewN ?_ _ | with_reducible refine Below.drew ?_ | (with_reducible refine Mem.bel_call (by with_reducible assumption) ?_ ?_; focus ((first | exact Nat.le_refl _ | (simp; done) | (simp; omega) | omega | fail))) | fail)), by simp⟩
      case round =>
        obtain ⟨wo, hwo⟩ : ∃ x, x = wr := ⟨_, rfl⟩
        subst hwo
        obtain ⟨i, F, hi, rfl, HB, HM, bl, gl⟩ := hrel
        obtain ⟨c0, c1, bwo⟩ := BX.out wo bl
        by_cases hin : i < n
        · have h1 : i < sc.nodes.length := by rw [← HN.out]; exact hin
          obtain ⟨b5, o5, X2, x2, X3, x3, X4, x4, X9, x9, e5, hb5, ⟨y0, y1, y2, y3, y4, y5, y6, y7, y8, y9⟩, ly⟩ := nodes_at (RA.out.below bwo) h1
          obtain ⟨f0, f1⟩ := HB.out i hin
          have ft := HM.out.here GD.out h1
          rw [ft] at f0
          have KA := Lib.hid (kids_at h1)
          have UI := Lib.hid (UQ.out i h1)
          have GI := Lib.hid (fun k hk => GD.out.1 i (Nat.zero_le _) h1 k hk)
          rw [KA.out] at GI
          have SB : Hid ((sc.nodes[i]'h1).fs.length ≤ 100000000 ∧ (sc.nodes[i]'h1).br.length ≤ 100000000) := by have := SMH.out.2 i h1; exact ⟨by have := this.2.1; omega, by have := this.2.2.1; omega⟩
          generalize sc.nodes[i]'h1 = T at *
          have e5' := Lib.hid e5
          subst e5
          have lb5 : b5 < w.heap.size := hb5
          have LY := Lib.hid ly
          have NB : Below wo.heap.size wo (wo.alloc (.cells #[.int .i64 T.k, .string T.name, .slice X2 T.al.length x2, .slice X3 T.fs.length x3, .slice X4 T.sy.length x4, .bool T.has, .string T.df, .int .i64 T.size, .int .i64 T.items, .slice X9 T.br.length x9] 33)) := (Below.refl _ _).alloc (Nat.le_refl _) _
          have gzn : (wo.alloc (.cells #[.int .i64 T.k, .string T.name, .slice X2 T.al.length x2, .slice X3 T.fs.length x3, .slice X4 T.sy.length x4, .bool T.has, .string T.df, .int .i64 T.size, .int .i64 T.items, .slice X9 T.br.length x9] 33)).heap.size = wo.heap.size + 1 := by simp
          have GZN := Lib.hid gzn
          have wsz := bwo.size
          have g3 : w.heap.size < w3.heap.size := by omega
          have u1 : w3.heap.size ≠ wo.heap.size := by omega
          have u2 : b5 ≠ wo.heap.size := by omega
          obtain ⟨nb, hnb⟩ : ∃ b, b = named T.k := ⟨_, rfl⟩
          have nm := fun W => NM.out T.k W
          rw [← hnb] at nm UI
          have NM1 := Lib.hid nm
          clear h1 ly nm gzn hnb ft
          go_wp2_with fail
          with_reducible refine (NM1.out _).mono ?_
          rintro e w5 ⟨rfl, b6⟩
          rw [GZN.out] at b6
          have z6 := b6.size
          rw [GZN.out] at z6
          have bo5 : Below wo.heap.size wo w5 := NB.trans (b6.mono (by omega))
          have bl5 : Below w3.heap.size w3 w5 := bl.trans (bo5.mono (by omega))
          have hOwn := Nat.lt_of_lt_of_le (n := wo.heap.size) (by first | exact Nat.le_refl _ | assumption | (simp; done) | (simp; omega) | omega) (Below.size b6)
          have hOwn1 := Nat.ne_of_gt hOwn
          have hOwn2 := Nat.ne_of_lt hOwn
          have hOwn := (Below.cell b6 (p := ⟨wo.heap.size, 0, none⟩) (by first | exact Nat.le_refl _ | assumption | (simp; done) | (simp; omega) | omega)).trans (by go_simp; rfl)
          have hOwn := (Below.cell b6 (p := ⟨wo.heap.size, 1, none⟩) (by first | exact Nat.le_refl _ | assumption | (simp; done) | (simp; omega) | omega)).trans (by go_simp; rfl)
          have hOwn := (Below.cell b6 (p := ⟨wo.heap.size, 2, none⟩) (by first | exact Nat.le_refl _ | assumption | (simp; done) | (simp; omega) | omega)).trans (by go_simp; rfl)
          have hOwn := (Below.cell b6 (p := ⟨wo.heap.size, 3, none⟩) (by first | exact Nat.le_refl _ | assumption | (simp; done) | (simp; omega) | omega)).trans (by go_simp; rfl)
          have hOwn := (Below.cell b6 (p := ⟨wo.heap.size, 4, none⟩) (by first | exact Nat.le_refl _ | assumption | (simp; done) | (simp; omega) | omega)).trans (by go_simp; rfl)
          have hOwn := (Below.cell b6 (p := ⟨wo.heap.size, 5, none⟩) (by first | exact Nat.le_refl _ | assumption | (simp; done) | (simp; omega) | omega)).trans (by go_simp; rfl)
          have hOwn := (Below.cell b6 (p := ⟨wo.heap.size, 6, none⟩) (by first | exact Nat.le_refl _ | assumption | (simp; done) | (simp; omega) | omega)).trans (by go_simp; rfl)
          have hOwn := (Below.cell b6 (p := ⟨wo.heap.size, 7, none⟩) (by first | exact Nat.le_refl _ | assumption | (simp; done) | (simp; omega) | omega)).trans (by go_simp; rfl)
          have hOwn := (Below.cell b6 (p := ⟨wo.heap.size, 8, none⟩) (by first | exact Nat.le_refl _ | assumption | (simp; done) | (simp; omega) | omega)).trans (by go_simp; rfl)
          have hOwn := (Below.cell b6 (p := ⟨wo.heap.size, 9, none⟩) (by first | exact Nat.le_refl _ | assumption | (simp; done) | (simp; omega) | omega)).trans (by go_simp; rfl)
          have hOwn := (Below.frozen b6 (p := ⟨wo.heap.size, 0, none⟩) (by first | exact Nat.le_refl _ | assumption | (simp; done) | (simp; omega) | omega)).trans (by go_simp; rfl)
          have hOwn := (Below.frozen b6 (p := ⟨wo.heap.size, 1, none⟩) (by first | exact Nat.le_refl _ | assumption | (simp; done) | (simp; omega) | omega)).trans (by go_simp; rfl)
          have hOwn := (Below.frozen b6 (p := ⟨wo.heap.size, 2, none⟩) (by first | exact Nat.le_refl _ | assumption | (simp; done) | (simp; omega) | omega)).trans (by go_simp; rfl)
          have hOwn := (Below.frozen b6 (p := ⟨wo.heap.size, 3, none⟩) (by first | exact Nat.le_refl _ | assumption | (simp; done) | (simp; omega) | omega)).trans (by go_simp; rfl)
          have hOwn := (Below.frozen b6 (p := ⟨wo.heap.size, 4, none⟩) (by first | exact Nat.le_refl _ | assumption | (simp; done) | (simp; omega) | omega)).trans (by go_simp; rfl)
          have hOwn := (Below.frozen b6 (p := ⟨wo.heap.size, 5, none⟩) (by first | exact Nat.le_refl _ | assumption | (simp; done) | (simp; omega) | omega)).trans (by go_simp; rfl)
          have hOwn := (Below.frozen b6 (p := ⟨wo.heap.size, 6, none⟩) (by first | exact Nat.le_refl _ | assumption | (simp; done) | (simp; omega) | omega)).trans (by go_simp; rfl)
          have hOwn := (Below.frozen b6 (p := ⟨wo.heap.size, 7, none⟩) (by first | exact Nat.le_refl _ | assumption | (simp; done) | (simp; omega) | omega)).trans (by go_simp; rfl)
          have hOwn := (Below.frozen b6 (p := ⟨wo.heap.size, 8, none⟩) (by first | exact Nat.le_refl _ | assumption | (simp; done) | (simp; omega) | omega)).trans (by go_simp; rfl)
          have hOwn := (Below.frozen b6 (p := ⟨wo.heap.size, 9, none⟩) (by first | exact Nat.le_refl _ | assumption | (simp; done) | (simp; omega) | omega)).trans (by go_simp; rfl)
          obtain ⟨d0, d1, bw5⟩ := BX.out w5 bl5
          have KC := Lib.hid (fun W (b : Below w.heap.size wo W) => sKids_any T SB.out.1 SB.out.2 W X2 X3 X4 X9 x2 x3 x4 x9 ((LY.out.below b).more (Nat.le_trans bwo.size b.size)))
          cases nb with
          | true =>
            have ui : plc (sc.find T.name) = (i : Int) := by rw [UI.out (by first | rfl | trivial)]; rfl
            have FC := Lib.hid (fun W b => FN2.out T.name W b)
            rw [ui] at FC
            go_wp2_with fail
            with_reducible refine (FC.out w5 bw5).mono ?_
            rintro e w6 ⟨rfl, b7⟩
            have z7 := b7.size
            have bo6 : Below wo.heap.size wo w6 := bo5.trans (b7.mono (by omega))
            have bl6 : Below w3.heap.size w3 w6 := bl5.trans (b7.mono (by omega))
            have hOwn := Nat.lt_of_lt_of_le (n := wo.heap.size) (by first | exact Nat.le_refl _ | assumption | (simp; done) | (simp; omega) | omega) (Below.size b7)
            have hOwn1 := Nat.ne_of_gt hOwn
            have hOwn2 := Nat.ne_of_lt hOwn
            have hOwn := (Below.cell b7 (p := ⟨wo.heap.size, 0, none⟩) (by first | exact Nat.le_refl _ | assumption | (simp; done) | (simp; omega) | omega)).trans (by go_simp; rfl)
            have hOwn := (Below.cell b7 (p := ⟨wo.heap.size, 1, none⟩) (by first | exact Nat.le_refl _ | assumption | (simp; done) | (simp; omega) | omega)).trans (by go_simp; rfl)
            have hOwn := (Below.cell b7 (p := ⟨wo.heap.size, 2, none⟩) (by first | exact Nat.le_refl _ | assumption | (simp; done) | (simp; omega) | omega)).trans (by go_simp; rfl)
            have hOwn := (Below.cell b7 (p := ⟨wo.heap.size, 3, none⟩) (by first | exact Nat.le_refl _ | assumption | (simp; done) | (simp; omega) | omega)).trans (by go_simp; rfl)
            have hOwn := (Below.cell b7 (p := ⟨wo.heap.size, 4, none⟩) (by first | exact Nat.le_refl _ | assumption | (simp; done) | (simp; omega) | omega)).trans (by go_simp; rfl)
            have hOwn := (Below.cell b7 (p := ⟨wo.heap.size, 5, none⟩) (by first | exact Nat.le_refl _ | assumption | (simp; done) | (simp; omega) | omega)).trans (by go_simp; rfl)
            have hOwn := (Below.cell b7 (p := ⟨wo.heap.size, 6, none⟩) (by first | exact Nat.le_refl _ | assumption | (simp; done) | (simp; omega) | omega)).trans (by go_simp; rfl)
            have hOwn := (Below.cell b7 (p := ⟨wo.heap.size, 7, none⟩) (by first | exact Nat.le_refl _ | assumption | (simp; done) | (simp; omega) | omega)).trans (by go_simp; rfl)
            have hOwn := (Below.cell b7 (p := ⟨wo.heap.size, 8, none⟩) (by first | exact Nat.le_refl _ | assumption | (simp; done) | (simp; omega) | omega)).trans (by go_simp; rfl)
            have hOwn := (Below.cell b7 (p := ⟨wo.heap.size, 9, none⟩) (by first | exact Nat.le_refl _ | assumption | (simp; done) | (simp; omega) | omega)).trans (by go_simp; rfl)
            have hOwn := (Below.frozen b7 (p := ⟨wo.heap.size, 0, none⟩) (by first | exact Nat.le_refl _ | assumption | (simp; done) | (simp; omega) | omega)).trans (by go_simp; rfl)
            have hOwn := (Below.frozen b7 (p := ⟨wo.heap.size, 1, none⟩) (by first | exact Nat.le_refl _ | assumption | (simp; done) | (simp; omega) | omega)).trans (by go_simp; rfl)
            have hOwn := (Below.frozen b7 (p := ⟨wo.heap.size, 2, none⟩) (by first | exact Nat.le_refl _ | assumption | (simp; done) | (simp; omega) | omega)).trans (by go_simp; rfl)
            have hOwn := (Below.frozen b7 (p := ⟨wo.heap.size, 3, none⟩) (by first | exact Nat.le_refl _ | assumption | (simp; done) | (simp; omega) | omega)).trans (by go_simp; rfl)
            have hOwn := (Below.frozen b7 (p := ⟨wo.heap.size, 4, none⟩) (by first | exact Nat.le_refl _ | assumption | (simp; done) | (simp; omega) | omega)).trans (by go_simp; rfl)
            have hOwn := (Below.frozen b7 (p := ⟨wo.heap.size, 5, none⟩) (by first | exact Nat.le_refl _ | assumption | (simp; done) | (simp; omega) | omega)).trans (by go_simp; rfl)
            have hOwn := (Below.frozen b7 (p := ⟨wo.heap.size, 6, none⟩) (by first | exact Nat.le_refl _ | assumption | (simp; done) | (simp; omega) | omega)).trans (by go_simp; rfl)
            have hOwn := (Below.frozen b7 (p := ⟨wo.heap.size, 7, none⟩) (by first | exact Nat.le_refl _ | assumption | (simp; done) | (simp; omega) | omega)).trans (by go_simp; rfl)
            have hOwn := (Below.frozen b7 (p := ⟨wo.heap.size, 8, none⟩) (by first | exact Nat.le_refl _ | assumption | (simp; done) | (simp; omega) | omega)).trans (by go_simp; rfl)
            have hOwn := (Below.frozen b7 (p := ⟨wo.heap.size, 9, none⟩) (by first | exact Nat.le_refl _ | assumption | (simp; done) | (simp; omega) | omega)).trans (by go_simp; rfl)
            clear d0 d1
            obtain ⟨d0, d1, bw6⟩ := BX.out w6 bl6
            go_wp2_with fail
            with_reducible refine (KC.out _ (bo6.mono (by omega))).mono ?_
            rintro e w7 ⟨A7, c7, rfl, l7, r7, b8⟩
            have z8 := b8.size
            have bl7 : Below w3.heap.size w3 w7 := bl6.trans (b8.mono (by omega))
            have R7 := Lib.hid r7
            have g7 : w3.heap.size < w7.heap.size := by omega
            have HB7 := Lib.hid ((HB.out.below (bo6.trans (b8.mono (by omega))) gl))
            have q7 := l7.2
            unfold maxLen at q7
            obtain ⟨nk, hnk⟩ : ∃ m, m = T.kids.length := ⟨_, rfl⟩
            have HK := Lib.hid hnk
            rw [← hnk] at q7
            clear r7 l7
            simp only [← hnk]
            clear hnk
            go_wp2_with fail
            go_loopw [52] (fun t wr => ∃ (p : Nat) (F' : Nat → Bool), p ≤ nk ∧ t = .int .i64 (p : Int) ∧ Hid (Bls wr w3.heap.size n F') ∧ Hid (Mark sc i F' ∧ ∀ q (h : q < T.kids.length), q < p → ∀ k : Nat, (k : Int) = T.kids[q]'h → F' k = true) ∧ Below w3.heap.size w3 wr ∧ w3.heap.size < wr.heap.size ∧ w7.heap.size ≤ wr.heap.size ∧ (∀ a : Addr, w3.heap.size < a.block → a.block < w7.heap.size → wr.cell? a = w7.cell? a)) (fun t _ => nk - (intOf t).toNat)
            case atStart => exact ⟨0, F, Nat.zero_le _, rfl, HB7.out, ⟨HM.out, fun _ _ h => absurd h (Nat.not_lt_zero _)⟩, bl7, g7, Nat.le_refl _, fun _ _ _ => rfl⟩
            case round =>
              obtain ⟨p, F', hp, rfl, HB', HM', bi, gi, g7i, KP⟩ := hrel
              obtain ⟨i0, i1, bwi⟩ := BX.out wr bi
              by_cases hpk : p < nk
              · have h2 : p < T.kids.length := by rw [← HK.out]; exact hpk
                obtain ⟨b9, o9, ek, hb9, v0⟩ := ints_at R7.out h2
                have hb1 := hb9.1
                have v1 := (KP ⟨b9, o9 + p, none⟩ (by show w3.heap.size < b9; omega) hb9.2).trans v0
                have gk := GI.out _ (List.getElem_mem h2)
                have MX : Hid (∀ k : Nat, (k : Int) = T.kids[p]'h2 → Mark sc i (fun j => if j = k then true else F' j) ∧ ∀ q (h : q < T.kids.length), q < p + 1 → ∀ m : Nat, (m : Int) = T.kids[q]'h → (fun j => if j = k then true else F' j) m = true) := fun k hk =>
                  ⟨HM'.out.1.set k, fun q hq hqp m hm => by
                    by_cases e : m = k
                    · simp [e]
                    · simp only [e, if_false]
                      rcases Nat.lt_or_ge q p with g | g
                      · exact HM'.out.2 q hq g m hm
                      · obtain rfl : q = p := by omega
                        exact absurd (by omega) e⟩
                generalize T.kids[p]'h2 = K at *
                subst ek
                obtain ⟨kn, rfl⟩ : ∃ m : Nat, K = (m : Int) := ⟨K.toNat, by omega⟩
                have mx := MX.out kn rfl
                have MX2 := Lib.hid mx
                have kb : kn < n := by have := gk.2.1; rw [← HN.out] at this; omega
                have h3 : kn < sc.nodes.length := by rw [← HN.out]; exact kb
                obtain ⟨bb, ob, _, _, _, _, _, _, _, _, eb, hbb, ⟨t0, _⟩, _⟩ := nodes_at (RA.out.below bwi) h3
                simp only [Option.some.injEq, Addr.mk.injEq, and_true] at eb
                obtain ⟨rfl, rfl⟩ := eb
                have gn := gk.2.2
                rw [kind_at h3] at gn
                have NM2 := Lib.hid (fun W => NM.out (sc.nodes[kn]'h3).k W)
                obtain ⟨s0, s0f⟩ := HB'.out kn kb
                generalize sc.nodes[kn]'h3 = V at *
                have q1 : ¬ (kn : Int) < 0 := by omega
                have q2 : ¬ (n : Int) ≤ (kn : Int) := by omega
                have u7 : b9 ≠ w3.heap.size := by omega
                clear h2 h3 v0 MX mx gk
                by_cases hki : kn ≤ i
                · have q3 : (kn : Int) ≤ (i : Int) := by omega
                  rw [gn (by omega)] at NM2
                  clear gn
                  go_wp2_with fail
                  with_reducible refine (NM2.out wr).mono ?_
                  rintro e w9 ⟨rfl, b10⟩
                  have HB9 := HB'.out.below b10 gi
                  obtain ⟨s1, s1f⟩ := HB9 kn kb
                  have z10 := b10.size
                  have HS9 := Lib.hid (HB9.set kb true)
                  have bl9 : Below w3.heap.size w3 w9 := bi.trans (b10.mono (by omega))
                  go_wp2_with fail
                  go_roundw
                  case rel => exact ⟨p + 1, _, by omega, by go_num, HS9, MX2, by (repeat' (first | with_reducible assumption | with_reducible exact Below.refl _ _ | (with_reducible refine Below.alloc ?_ ?_ _; rotate_left; focus ((first | exact Nat.le_refl _ | (simp; done) | (simp; omega) | omega | fail))) | (with_reducible refine Below.setCell ?_ ?_ _; rotate_left; focus ((first | exact Nat.le_refl _ | (simp; done) | (simp; omega) | omega | fail))) | with_reducible refine Mem.bel_drewN ?_ _ | with_reducible refine Below.drew ?_ | (with_reducible refine Mem.bel_call (by with_reducible assumption) ?_ ?_; focus ((first | exact Nat.le_refl _ | (simp; done) | (simp; omega) | omega | fail))) | fail)), by simp [World.setCell]; omega, by simp [World.setCell]; omega, fun a h4 h5 => (World.cell?_setCell_other _ _ _ _ (fun e => by subst e; simp at h4)).trans ((b10.cell (p := a) (by omega)).trans (KP a h4 h5))⟩
                  case measure => simp [intOf]; omega
                · have q3 : ¬ (kn : Int) ≤ (i : Int) := by omega
                  have HS9 := Lib.hid (HB'.out.set kb true)
                  clear gn
                  go_wp2_with fail
                  go_roundw
                  case rel => exact ⟨p + 1, _, by omega, by go_num, HS9, MX2, by (repeat' (first | with_reducible assumption | with_reducible exact Below.refl _ _ | (with_reducible refine Below.alloc ?_ ?_ _; rotate_left; focus ((first | exact Nat.le_refl _ | (simp; done) | (simp; omega) | omega | fail))) | (with_reducible refine Below.setCell ?_ ?_ _; rotate_left; focus ((first | exact Nat.le_refl _ | (simp; done) | (simp; omega) | omega | fail))) | with_reducible refine Mem.bel_drewN ?_ _ | with_reducible refine Below.drew ?_ | (with_reducible refine Mem.bel_call (by with_reducible assumption) ?_ ?_; focus ((first | exact Nat.le_refl _ | (simp; done) | (simp; omega) | omega | fail))) | fail)), by simp [World.setCell]; omega, by simp [World.setCell]; omega, fun a h4 h5 => (World.cell?_setCell_other _ _ _ _ (fun e => by subst e; simp at h4)).trans (KP a h4 h5)⟩
                  case measure => simp [intOf]; omega
              · obtain rfl : p = nk := by omega
                have NXT := Lib.hid (HM'.out.1.next KA.out (fun q hq k hk => HM'.out.2 q hq (by rw [HK.out]; exact hq) k hk))
                clear hpk
                go_wp2_with fail
                go_roundw
                case rel => exact ⟨i + 1, F', by omega, by go_num, HB', NXT, bi, gi⟩
                case measure => simp [intOf]; omega
          | false =>
            go_wp2_with fail
            with_reducible refine (KC.out _ (bo5.mono (by omega))).mono ?_
            rintro e w7 ⟨A7, c7, rfl, l7, r7, b8⟩
            have z8 := b8.size
            have bl7 : Below w3.heap.size w3 w7 := bl5.trans (b8.mono (by omega))
            have R7 := Lib.hid r7
            have g7 : w3.heap.size < w7.heap.size := by omega
            have HB7 := Lib.hid ((HB.out.below (bo5.trans (b8.mono (by omega))) gl))
            have q7 := l7.2
            unfold maxLen at q7
            obtain ⟨nk, hnk⟩ : ∃ m, m = T.kids.length := ⟨_, rfl⟩
            have HK := Lib.hid hnk
            rw [← hnk] at q7
            clear r7 l7
            simp only [← hnk]
            clear hnk
            go_wp2_with fail
            go_loopw [52] (fun t wr => ∃ (p : Nat) (F' : Nat → Bool), p ≤ nk ∧ t = .int .i64 (p : Int) ∧ Hid (Bls wr w3.heap.size n F') ∧ Hid (Mark sc i F' ∧ ∀ q (h : q < T.kids.length), q < p → ∀ k : Nat, (k : Int) = T.kids[q]'h → F' k = true) ∧ Below w3.heap.size w3 wr ∧ w3.heap.size < wr.heap.size ∧ w7.heap.size ≤ wr.heap.size ∧ (∀ a : Addr, w3.heap.size < a.block → a.block < w7.heap.size → wr.cell? a = w7.cell? a)) (fun t _ => nk - (intOf t).toNat)
            case atStart => exact ⟨0, F, Nat.zero_le _, rfl, HB7.out, ⟨HM.out, fun _ _ h => absurd h (Nat.not_lt_zero _)⟩, bl7, g7, Nat.le_refl _, fun _ _ _ => rfl⟩
            case round =>
              obtain ⟨p, F', hp, rfl, HB', HM', bi, gi, g7i, KP⟩ := hrel
              obtain ⟨i0, i1, bwi⟩ := BX.out wr bi
              by_cases hpk : p < nk
              · have h2 : p < T.kids.length := by rw [← HK.out]; exact hpk
                obtain ⟨b9, o9, ek, hb9, v0⟩ := ints_at R7.out h2
                have hb1 := hb9.1
                have v1 := (KP ⟨b9, o9 + p, none⟩ (by show w3.heap.size < b9; omega) hb9.2).trans v0
                have gk := GI.out _ (List.getElem_mem h2)
                have MX : Hid (∀ k : Nat, (k : Int) = T.kids[p]'h2 → Mark sc i (fun j => if j = k then true else F' j) ∧ ∀ q (h : q < T.kids.length), q < p + 1 → ∀ m : Nat, (m : Int) = T.kids[q]'h → (fun j => if j = k then true else F' j) m = true) := fun k hk =>
                  ⟨HM'.out.1.set k, fun q hq hqp m hm => by
                    by_cases e : m = k
                    · simp [e]
                    · simp only [e, if_false]
                      rcases Nat.lt_or_ge q p with g | g
                      · exact HM'.out.2 q hq g m hm
                      · obtain rfl : q = p := by omega
                        exact absurd (by omega) e⟩
                generalize T.kids[p]'h2 = K at *
                subst ek
                obtain ⟨kn, rfl⟩ : ∃ m : Nat, K = (m : Int) := ⟨K.toNat, by omega⟩
                have mx := MX.out kn rfl
                have MX2 := Lib.hid mx
                have kb : kn < n := by have := gk.2.1; rw [← HN.out] at this; omega
                have h3 : kn < sc.nodes.length := by rw [← HN.out]; exact kb
                obtain ⟨bb, ob, _, _, _, _, _, _, _, _, eb, hbb, ⟨t0, _⟩, _⟩ := nodes_at (RA.out.below bwi) h3
                simp only [Option.some.injEq, Addr.mk.injEq, and_true] at eb
                obtain ⟨rfl, rfl⟩ := eb
                have gn := gk.2.2
                rw [kind_at h3] at gn
                have NM2 := Lib.hid (fun W => NM.out (sc.nodes[kn]'h3).k W)
                obtain ⟨s0, s0f⟩ := HB'.out kn kb
                generalize sc.nodes[kn]'h3 = V at *
                have q1 : ¬ (kn : Int) < 0 := by omega
                have q2 : ¬ (n : Int) ≤ (kn : Int) := by omega
                have u7 : b9 ≠ w3.heap.size := by omega
                clear h2 h3 v0 MX mx gk
                by_cases hki : kn ≤ i
                · have q3 : (kn : Int) ≤ (i : Int) := by omega
                  rw [gn (by omega)] at NM2
                  clear gn
                  go_wp2_with fail
                  with_reducible refine (NM2.out wr).mono ?_
                  rintro e w9 ⟨rfl, b10⟩
                  have HB9 := HB'.out.below b10 gi
                  obtain ⟨s1, s1f⟩ := HB9 kn kb
                  have z10 := b10.size
                  have HS9 := Lib.hid (HB9.set kb true)
                  have bl9 : Below w3.heap.size w3 w9 := bi.trans (b10.mono (by omega))
                  go_wp2_with fail
                  go_roundw
                  case rel => exact ⟨p + 1, _, by omega, by go_num, HS9, MX2, by (repeat' (first | with_reducible assumption | with_reducible exact Below.refl _ _ | (with_reducible refine Below.alloc ?_ ?_ _; rotate_left; focus ((first | exact Nat.le_refl _ | (simp; done) | (simp; omega) | omega | fail))) | (with_reducible refine Below.setCell ?_ ?_ _; rotate_left; focus ((first | exact Nat.le_refl _ | (simp; done) | (simp; omega) | omega | fail))) | with_reducible refine Mem.bel_drewN ?_ _ | with_reducible refine Below.drew ?_ | (with_reducible refine Mem.bel_call (by with_reducible assumption) ?_ ?_; focus ((first | exact Nat.le_refl _ | (simp; done) | (simp; omega) | omega | fail))) | fail)), by simp [World.setCell]; omega, by simp [World.setCell]; omega, fun a h4 h5 => (World.cell?_setCell_other _ _ _ _ (fun e => by subst e; simp at h4)).trans ((b10.cell (p := a) (by omega)).trans (KP a h4 h5))⟩
                  case measure => simp [intOf]; omega
                · have q3 : ¬ (kn : Int) ≤ (i : Int) := by omega
                  have HS9 := Lib.hid (HB'.out.set kb true)
                  clear gn
                  go_wp2_with fail
                  go_roundw
                  case rel => exact ⟨p + 1, _, by omega, by go_num, HS9, MX2, by (repeat' (first | with_reducible assumption | with_reducible exact Below.refl _ _ | (with_reducible refine Below.alloc ?_ ?_ _; rotate_left; focus ((first | exact Nat.le_refl _ | (simp; done) | (simp; omega) | omega | fail))) | (with_reducible refine Below.setCell ?_ ?_ _; rotate_left; focus ((first | exact Nat.le_refl _ | (simp; done) | (simp; omega) | omega | fail))) | with_reducible refine Mem.bel_drewN ?_ _ | with_reducible refine Below.drew ?_ | (with_reducible refine Mem.bel_call (by with_reducible assumption) ?_ ?_; focus ((first | exact Nat.le_refl _ | (simp; done) | (simp; omega) | omega | fail))) | fail)), by simp [World.setCell]; omega, by simp [World.setCell]; omega, fun a h4 h5 => (World.cell?_setCell_other _ _ _ _ (fun e => by subst e; simp at h4)).trans (KP a h4 h5)⟩
                  case measure => simp [intOf]; omega
              · obtain rfl : p = nk := by omega
                have NXT := Lib.hid (HM'.out.1.next KA.out (fun q hq k hk => HM'.out.2 q hq (by rw [HK.out]; exact hq) k hk))
                clear hpk
                go_wp2_with fail
                go_roundw
                case rel => exact ⟨i + 1, F', by omega, by go_num, HB', NXT, bi, gi⟩
                case measure => simp [intOf]; omega
        · obtain rfl : i = n := by omega
          clear hin
          go_wp2_with fail
          go_ret
          exact ⟨rfl, bwo⟩
end Go.Proofs.YtnfhikgfcdcpoaaDoor
