/- Layer 4: the walk of the law of what stands behind. -/
import Derived.Test.YtjebhbjffofjnaaDoorWireM
namespace Go.Proofs.YtjebhbjffofjnaaDoor
open Go.ChangeShapes Go.WideShapes Go.ChangeAt Go.RowKit Mem

theorem reads_out {n u a e : Int} {X : List UInt8} {N c : Nat} {A : Option Addr} {l : List UInt8} {w w' : World} {x : Ending} (hn : X.length = N) (h : Reads n u X a e A l c w x w') :
    ∃ A' c', x = .returned (.tuple #[(.agg #[.slice A (List.length l) c, .int .i64 a, .int .i64 e]), .int .i64 n, .int .u64 u, .slice A' N c']) ∧ Bys w' w'.heap.size A' X ∧ Below w.heap.size w w' := by subst hn; exact h
set_option maxRecDepth 100000 in
set_option maxHeartbeats 4000000 in
theorem wireMore_walk (A0 : Option Addr) (l0 : List UInt8) (cap0 : Nat) (A1 : Option Addr) (l1 : List UInt8) (cap1 : Nat) (a kind size : Int) (w : World) (k0 : l0.length ≤ cap0) (b0 : Bys w w.heap.size A0 l0) (_k1 : l1.length ≤ cap1) (b1 : Bys w w.heap.size A1 l1) (hL : Laid w) :
    Calls Tryd.prog 6 #[.slice A0 l0.length cap0, .slice A1 l1.length cap1, .int .i64 a, .agg #[.int .i64 kind, .int .i64 size]] w (Yes w.heap.size w) := by
  have CS := cell_set
  have WK := Lib.hid (fun W hW => works4_any W hW)
  by_cases hok : l0.length ≤ 2000 ∧ l1.length ≤ 2000 ∧ 0 ≤ a ∧ a ≤ (l0.length : Int)
  · obtain ⟨h0, h1, h2, h3⟩ := hok
    obtain ⟨k, rfl⟩ := Int.eq_ofNat_of_zero_le h2
    have q1 : ¬ (2000 : Int) < (l0.length : Int) := by omega
    have q2 : ¬ (2000 : Int) < (l1.length : Int) := by omega
    have q3 : ¬ (k : Int) < 0 := by omega
    have q4 : ¬ (l0.length : Int) < (k : Int) := by omega
    have more := rds_more kind size (t := l1) (l := l0) (k := k) (by omega)
    obtain ⟨L, hLL⟩ : ∃ L, L = l0 ++ l1 := ⟨_, rfl⟩
    have ll : L.length = l0.length + l1.length := by rw [hLL, List.length_append]
    rw [← hLL] at more
    have ra := fun W hW hb => reads_any A0 cap0 l0 (k : Int) 0 kind size W hW hb (by omega) k0
    have rb := fun A c W hW hb hc => reads_any A c L (k : Int) 0 kind size W hW hb (by omega) hc
    obtain ⟨⟨n, u, X, m, r⟩, hR⟩ : ∃ R, R = rds kind size l0 (k : Int) 0 := ⟨_, rfl⟩
    obtain ⟨⟨n', u', X', m', r'⟩, hR'⟩ : ∃ R, R = rds kind size L (k : Int) 0 := ⟨_, rfl⟩
    rw [← hR] at ra more
    rw [← hR'] at rb more
    have ra' : ∀ W (_ : Laid W) (_ : Bys W W.heap.size A0 l0), Calls Tryd.prog 25 #[.agg #[.int .i64 kind, .int .i64 size], (.agg #[.slice A0 (List.length l0) cap0, .int .i64 (k : Int), .int .i64 0])] W (Reads n u X m r A0 l0 cap0 W) := ra
    have rb' : ∀ A c W (_ : Laid W) (_ : Bys W W.heap.size A L) (_ : L.length ≤ c), Calls Tryd.prog 25 #[.agg #[.int .i64 kind, .int .i64 size], (.agg #[.slice A (List.length L) c, .int .i64 (k : Int), .int .i64 0])] W (Reads n' u' X' m' r' A L c W) := rb
    have RA := Lib.hid ra'
    have RB := Lib.hid rb'
    have HL := Lib.hid hLL
    clear ra rb ra' rb' hR hR' hLL h2 h3
    rcases more with h | ⟨hr, h⟩
    · simp only [Prod.mk.injEq] at h
      obtain ⟨rfl, rfl, rfl, rfl, rfl⟩ := h
      have HN : Hid (([] : List UInt8).length = 0) := rfl
      obtain ⟨N', hN'⟩ : ∃ N, X'.length = N := ⟨_, rfl⟩
      have HN' := Lib.hid hN'
      have HLL := Lib.hid ll
      clear hN' ll
      go_enter Tryd.func6, Tryd.ntmps6
      go_wp2_with fail
      refine (WK.out _ (hL.alloc _)).mono ?_
      rintro e w1 ⟨rfl, d1⟩
      have hSz := Below.size d1; try simp at hSz
      have hOwn := Nat.lt_of_lt_of_le (n := w.heap.size) (by first | exact Nat.le_refl _ | assumption | (simp; done) | (simp; omega) | omega) (Below.size d1)
      have hOwn1 := Nat.ne_of_gt hOwn
      have hOwn2 := Nat.ne_of_lt hOwn
      have hOwn := (Below.cell d1 (p := ⟨w.heap.size, 0, none⟩) (by first | exact Nat.le_refl _ | assumption | (simp; done) | (simp; omega) | omega)).trans (by go_simp; rfl)
      have hOwn := (Below.cell d1 (p := ⟨w.heap.size, 1, none⟩) (by first | exact Nat.le_refl _ | assumption | (simp; done) | (simp; omega) | omega)).trans (by go_simp; rfl)
      have hOwn := (Below.frozen d1 (p := ⟨w.heap.size, 0, none⟩) (by first | exact Nat.le_refl _ | assumption | (simp; done) | (simp; omega) | omega)).trans (by go_simp; rfl)
      have hOwn := (Below.frozen d1 (p := ⟨w.heap.size, 1, none⟩) (by first | exact Nat.le_refl _ | assumption | (simp; done) | (simp; omega) | omega)).trans (by go_simp; rfl)
      have B1 : Below w.heap.size w w1 := by (repeat' (first | with_reducible assumption | with_reducible exact Below.refl _ _ | (with_reducible refine Below.alloc ?_ ?_ _; rotate_left; focus ((first | exact Nat.le_refl _ | (simp; done) | (simp; omega) | omega | fail))) | (with_reducible refine Below.setCell ?_ ?_ _; rotate_left; focus ((first | exact Nat.le_refl _ | (simp; done) | (simp; omega) | omega | fail))) | with_reducible refine Mem.bel_drewN ?_ _ | with_reducible refine Below.drew ?_ | (with_reducible refine Mem.bel_call (by with_reducible assumption) ?_ ?_; focus ((first | exact Nat.le_refl _ | (simp; done) | (simp; omega) | omega | fail))) | fail))
      have f1 := B1.size
      go_wp2_with (first
        | (at_builtin; refine wpList_app _ byteT rfl (.tmp 44) (.tmp 45) rfl w1.heap.size _ l0 rfl o2 _ A1 cap1 l1 rfl (b1.now B2) (by omega) D2.size ?_; intro v3 w3 o3 d3; rw [← HL.out] at o3; obtain ⟨A9, c9, rfl, y9, hc9⟩ := o3.room; have D3 : Below w1.heap.size w1 w3 := D2.trans d3; have B3 : Below w.heap.size w w3 := B1.trans (D3.mono f1); have hOwn := Nat.lt_of_lt_of_le (n := w.heap.size) (by first | exact Nat.le_refl _ | assumption | (simp; done) | (simp; omega) | omega) (Below.size D3); have hOwn1 := Nat.ne_of_gt hOwn; have hOwn2 := Nat.ne_of_lt hOwn; have hOwn := (Below.cell D3 (p := ⟨w.heap.size, 0, none⟩) (by first | exact Nat.le_refl _ | assumption | (simp; done) | (simp; omega) | omega)).trans (by go_simp; rfl); have hOwn := (Below.cell D3 (p := ⟨w.heap.size, 1, none⟩) (by first | exact Nat.le_refl _ | assumption | (simp; done) | (simp; omega) | omega)).trans (by go_simp; rfl); have hOwn := (Below.frozen D3 (p := ⟨w.heap.size, 0, none⟩) (by first | exact Nat.le_refl _ | assumption | (simp; done) | (simp; omega) | omega)).trans (by go_simp; rfl); have hOwn := (Below.frozen D3 (p := ⟨w.heap.size, 1, none⟩) (by first | exact Nat.le_refl _ | assumption | (simp; done) | (simp; omega) | omega)).trans (by go_simp; rfl); have z3 : w.heap.size < w3.heap.size + 1 := Nat.lt_of_lt_of_le (by omega) (Nat.le_succ_of_le D3.size))
        | (at_builtin; refine wpList_app _ byteT rfl (.tmp 42) (.tmp 43) rfl w1.heap.size _ [] rfl (own_lit w1 (Nat.le_refl _)) _ A0 cap0 l0 rfl (b0.now (by (repeat' (first | with_reducible assumption | with_reducible exact Below.refl _ _ | (with_reducible refine Below.alloc ?_ ?_ _; rotate_left; focus ((first | exact Nat.le_refl _ | (simp; done) | (simp; omega) | omega | fail))) | (with_reducible refine Below.setCell ?_ ?_ _; rotate_left; focus ((first | exact Nat.le_refl _ | (simp; done) | (simp; omega) | omega | fail))) | with_reducible refine Mem.bel_drewN ?_ _ | with_reducible refine Below.drew ?_ | (with_reducible refine Mem.bel_call (by with_reducible assumption) ?_ ?_; focus ((first | exact Nat.le_refl _ | (simp; done) | (simp; omega) | omega | fail))) | fail)))) (by simp; omega) (by simp) ?_; intro v2 w2 o2 d2; rw [List.nil_append] at o2; have D2 : Below w1.heap.size w1 w2 := ((Below.refl _ _).alloc (Nat.le_refl _) _).trans d2; have B2 : Below w.heap.size w w2 := B1.trans (D2.mono f1)))
      have f3 := B3.size
      refine (RA.out _ (hL.below (B := w.heap.size) (by (repeat' (first | with_reducible assumption | with_reducible exact Below.refl _ _ | (with_reducible refine Below.alloc ?_ ?_ _; rotate_left; focus ((first | exact Nat.le_refl _ | (simp; done) | (simp; omega) | omega | fail))) | (with_reducible refine Below.setCell ?_ ?_ _; rotate_left; focus ((first | exact Nat.le_refl _ | (simp; done) | (simp; omega) | omega | fail))) | with_reducible refine Mem.bel_drewN ?_ _ | with_reducible refine Below.drew ?_ | (with_reducible refine Mem.bel_call (by with_reducible assumption) ?_ ?_; focus ((first | exact Nat.le_refl _ | (simp; done) | (simp; omega) | omega | fail))) | fail))) hL.1) (b0.now (by (repeat' (first | with_reducible assumption | with_reducible exact Below.refl _ _ | (with_reducible refine Below.alloc ?_ ?_ _; rotate_left; focus ((first | exact Nat.le_refl _ | (simp; done) | (simp; omega) | omega | fail))) | (with_reducible refine Below.setCell ?_ ?_ _; rotate_left; focus ((first | exact Nat.le_refl _ | (simp; done) | (simp; omega) | omega | fail))) | with_reducible refine Mem.bel_drewN ?_ _ | with_reducible refine Below.drew ?_ | (with_reducible refine Mem.bel_call (by with_reducible assumption) ?_ ?_; focus ((first | exact Nat.le_refl _ | (simp; done) | (simp; omega) | omega | fail))) | fail))))).mono ?_
      rintro e w4 h4
      obtain ⟨A4, c4, rfl, y4, d4⟩ := reads_out HN.out h4
      have f4 := d4.size
      simp at f4
      have hOwn := Nat.lt_of_lt_of_le (n := w.heap.size) (by first | exact Nat.le_refl _ | assumption | (simp; done) | (simp; omega) | omega) (Below.size d4)
      have hOwn1 := Nat.ne_of_gt hOwn
      have hOwn2 := Nat.ne_of_lt hOwn
      have hOwn := (Below.cell d4 (p := ⟨w.heap.size, 0, none⟩) (by first | exact Nat.le_refl _ | assumption | (simp; done) | (simp; omega) | omega)).trans (by go_simp; rfl)
      have hOwn := (Below.cell d4 (p := ⟨w.heap.size, 1, none⟩) (by first | exact Nat.le_refl _ | assumption | (simp; done) | (simp; omega) | omega)).trans (by go_simp; rfl)
      have hOwn := (Below.frozen d4 (p := ⟨w.heap.size, 0, none⟩) (by first | exact Nat.le_refl _ | assumption | (simp; done) | (simp; omega) | omega)).trans (by go_simp; rfl)
      have hOwn := (Below.frozen d4 (p := ⟨w.heap.size, 1, none⟩) (by first | exact Nat.le_refl _ | assumption | (simp; done) | (simp; omega) | omega)).trans (by go_simp; rfl)
      have hOwn := Nat.lt_of_lt_of_le (n := (w3.heap.size + 1)) (by first | exact Nat.le_refl _ | assumption | (simp; done) | (simp; omega) | omega) (Below.size d4)
      have hOwn1 := Nat.ne_of_gt hOwn
      have hOwn2 := Nat.ne_of_lt hOwn
      have hOwn := (Below.cell d4 (p := ⟨(w3.heap.size + 1), 0, none⟩) (by first | exact Nat.le_refl _ | assumption | (simp; done) | (simp; omega) | omega)).trans (by go_simp; rfl)
      have hOwn := (Below.cell d4 (p := ⟨(w3.heap.size + 1), 1, none⟩) (by first | exact Nat.le_refl _ | assumption | (simp; done) | (simp; omega) | omega)).trans (by go_simp; rfl)
      have hOwn := (Below.cell d4 (p := ⟨(w3.heap.size + 1), 2, none⟩) (by first | exact Nat.le_refl _ | assumption | (simp; done) | (simp; omega) | omega)).trans (by go_simp; rfl)
      have hOwn := (Below.frozen d4 (p := ⟨(w3.heap.size + 1), 0, none⟩) (by first | exact Nat.le_refl _ | assumption | (simp; done) | (simp; omega) | omega)).trans (by go_simp; rfl)
      have hOwn := (Below.frozen d4 (p := ⟨(w3.heap.size + 1), 1, none⟩) (by first | exact Nat.le_refl _ | assumption | (simp; done) | (simp; omega) | omega)).trans (by go_simp; rfl)
      have hOwn := (Below.frozen d4 (p := ⟨(w3.heap.size + 1), 2, none⟩) (by first | exact Nat.le_refl _ | assumption | (simp; done) | (simp; omega) | omega)).trans (by go_simp; rfl)
      have y9' := y9.now (W := w4) (by (repeat' (first | with_reducible assumption | with_reducible exact Below.refl _ _ | (with_reducible refine Below.alloc ?_ ?_ _; rotate_left; focus ((first | exact Nat.le_refl _ | (simp; done) | (simp; omega) | omega | fail))) | (with_reducible refine Below.setCell ?_ ?_ _; rotate_left; focus ((first | exact Nat.le_refl _ | (simp; done) | (simp; omega) | omega | fail))) | with_reducible refine Mem.bel_drewN ?_ _ | with_reducible refine Below.drew ?_ | (with_reducible refine Mem.bel_call (by with_reducible assumption) ?_ ?_; focus ((first | exact Nat.le_refl _ | (simp; done) | (simp; omega) | omega | fail))) | fail)))
      go_wp2_with fail
      refine (RB.out A9 c9 _ (hL.below (B := w.heap.size) (by (repeat' (first | with_reducible assumption | with_reducible exact Below.refl _ _ | (with_reducible refine Below.alloc ?_ ?_ _; rotate_left; focus ((first | exact Nat.le_refl _ | (simp; done) | (simp; omega) | omega | fail))) | (with_reducible refine Below.setCell ?_ ?_ _; rotate_left; focus ((first | exact Nat.le_refl _ | (simp; done) | (simp; omega) | omega | fail))) | with_reducible refine Mem.bel_drewN ?_ _ | with_reducible refine Below.drew ?_ | (with_reducible refine Mem.bel_call (by with_reducible assumption) ?_ ?_; focus ((first | exact Nat.le_refl _ | (simp; done) | (simp; omega) | omega | fail))) | fail))) hL.1) (y9'.now (by (repeat' (first | with_reducible assumption | with_reducible exact Below.refl _ _ | (with_reducible refine Below.alloc ?_ ?_ _; rotate_left; focus ((first | exact Nat.le_refl _ | (simp; done) | (simp; omega) | omega | fail))) | (with_reducible refine Below.setCell ?_ ?_ _; rotate_left; focus ((first | exact Nat.le_refl _ | (simp; done) | (simp; omega) | omega | fail))) | with_reducible refine Mem.bel_drewN ?_ _ | with_reducible refine Below.drew ?_ | (with_reducible refine Mem.bel_call (by with_reducible assumption) ?_ ?_; focus ((first | exact Nat.le_refl _ | (simp; done) | (simp; omega) | omega | fail))) | fail)))) hc9).mono ?_
      rintro e w5 h5
      obtain ⟨A5, c5, rfl, y5, d5⟩ := reads_out HN'.out h5
      have f5 := d5.size
      simp at f5
      have hOwn := Nat.lt_of_lt_of_le (n := w4.heap.size) (by first | exact Nat.le_refl _ | assumption | (simp; done) | (simp; omega) | omega) (Below.size d5)
      have hOwn1 := Nat.ne_of_gt hOwn
      have hOwn2 := Nat.ne_of_lt hOwn
      have hOwn := (Below.cell d5 (p := ⟨w4.heap.size, 0, none⟩) (by first | exact Nat.le_refl _ | assumption | (simp; done) | (simp; omega) | omega)).trans (by go_simp; rfl)
      have hOwn := (Below.cell d5 (p := ⟨w4.heap.size, 1, none⟩) (by first | exact Nat.le_refl _ | assumption | (simp; done) | (simp; omega) | omega)).trans (by go_simp; rfl)
      have hOwn := (Below.cell d5 (p := ⟨w4.heap.size, 2, none⟩) (by first | exact Nat.le_refl _ | assumption | (simp; done) | (simp; omega) | omega)).trans (by go_simp; rfl)
      have hOwn := (Below.frozen d5 (p := ⟨w4.heap.size, 0, none⟩) (by first | exact Nat.le_refl _ | assumption | (simp; done) | (simp; omega) | omega)).trans (by go_simp; rfl)
      have hOwn := (Below.frozen d5 (p := ⟨w4.heap.size, 1, none⟩) (by first | exact Nat.le_refl _ | assumption | (simp; done) | (simp; omega) | omega)).trans (by go_simp; rfl)
      have hOwn := (Below.frozen d5 (p := ⟨w4.heap.size, 2, none⟩) (by first | exact Nat.le_refl _ | assumption | (simp; done) | (simp; omega) | omega)).trans (by go_simp; rfl)
      have y6 := y4
      go_wp2_with fail
      go_ret
      exact ⟨rfl, by (repeat' (first | with_reducible assumption | with_reducible exact Below.refl _ _ | (with_reducible refine Below.alloc ?_ ?_ _; rotate_left; focus ((first | exact Nat.le_refl _ | (simp; done) | (simp; omega) | omega | fail))) | (with_reducible refine Below.setCell ?_ ?_ _; rotate_left; focus ((first | exact Nat.le_refl _ | (simp; done) | (simp; omega) | omega | fail))) | with_reducible refine Mem.bel_drewN ?_ _ | with_reducible refine Below.drew ?_ | (with_reducible refine Mem.bel_call (by with_reducible assumption) ?_ ?_; focus ((first | exact Nat.le_refl _ | (simp; done) | (simp; omega) | omega | fail))) | fail))⟩
    · simp only [Prod.mk.injEq] at h
      obtain ⟨rfl, rfl, rfl, rfl, rfl⟩ := h
      have qr : (r' == 10) = false := by simpa using hr
      obtain ⟨N, hN⟩ : ∃ N, X'.length = N := ⟨_, rfl⟩
      have HN := Lib.hid hN
      have HN' := HN
      have HLL := Lib.hid ll
      clear hN ll hr
      go_enter Tryd.func6, Tryd.ntmps6
      go_wp2_with fail
      refine (WK.out _ (hL.alloc _)).mono ?_
      rintro e w1 ⟨rfl, d1⟩
      have hSz := Below.size d1; try simp at hSz
      have hOwn := Nat.lt_of_lt_of_le (n := w.heap.size) (by first | exact Nat.le_refl _ | assumption | (simp; done) | (simp; omega) | omega) (Below.size d1)
      have hOwn1 := Nat.ne_of_gt hOwn
      have hOwn2 := Nat.ne_of_lt hOwn
      have hOwn := (Below.cell d1 (p := ⟨w.heap.size, 0, none⟩) (by first | exact Nat.le_refl _ | assumption | (simp; done) | (simp; omega) | omega)).trans (by go_simp; rfl)
      have hOwn := (Below.cell d1 (p := ⟨w.heap.size, 1, none⟩) (by first | exact Nat.le_refl _ | assumption | (simp; done) | (simp; omega) | omega)).trans (by go_simp; rfl)
      have hOwn := (Below.frozen d1 (p := ⟨w.heap.size, 0, none⟩) (by first | exact Nat.le_refl _ | assumption | (simp; done) | (simp; omega) | omega)).trans (by go_simp; rfl)
      have hOwn := (Below.frozen d1 (p := ⟨w.heap.size, 1, none⟩) (by first | exact Nat.le_refl _ | assumption | (simp; done) | (simp; omega) | omega)).trans (by go_simp; rfl)
      have B1 : Below w.heap.size w w1 := by (repeat' (first | with_reducible assumption | with_reducible exact Below.refl _ _ | (with_reducible refine Below.alloc ?_ ?_ _; rotate_left; focus ((first | exact Nat.le_refl _ | (simp; done) | (simp; omega) | omega | fail))) | (with_reducible refine Below.setCell ?_ ?_ _; rotate_left; focus ((first | exact Nat.le_refl _ | (simp; done) | (simp; omega) | omega | fail))) | with_reducible refine Mem.bel_drewN ?_ _ | with_reducible refine Below.drew ?_ | (with_reducible refine Mem.bel_call (by with_reducible assumption) ?_ ?_; focus ((first | exact Nat.le_refl _ | (simp; done) | (simp; omega) | omega | fail))) | fail))
      have f1 := B1.size
      go_wp2_with (first
        | (at_builtin; refine wpList_app _ byteT rfl (.tmp 44) (.tmp 45) rfl w1.heap.size _ l0 rfl o2 _ A1 cap1 l1 rfl (b1.now B2) (by omega) D2.size ?_; intro v3 w3 o3 d3; rw [← HL.out] at o3; obtain ⟨A9, c9, rfl, y9, hc9⟩ := o3.room; have D3 : Below w1.heap.size w1 w3 := D2.trans d3; have B3 : Below w.heap.size w w3 := B1.trans (D3.mono f1); have hOwn := Nat.lt_of_lt_of_le (n := w.heap.size) (by first | exact Nat.le_refl _ | assumption | (simp; done) | (simp; omega) | omega) (Below.size D3); have hOwn1 := Nat.ne_of_gt hOwn; have hOwn2 := Nat.ne_of_lt hOwn; have hOwn := (Below.cell D3 (p := ⟨w.heap.size, 0, none⟩) (by first | exact Nat.le_refl _ | assumption | (simp; done) | (simp; omega) | omega)).trans (by go_simp; rfl); have hOwn := (Below.cell D3 (p := ⟨w.heap.size, 1, none⟩) (by first | exact Nat.le_refl _ | assumption | (simp; done) | (simp; omega) | omega)).trans (by go_simp; rfl); have hOwn := (Below.frozen D3 (p := ⟨w.heap.size, 0, none⟩) (by first | exact Nat.le_refl _ | assumption | (simp; done) | (simp; omega) | omega)).trans (by go_simp; rfl); have hOwn := (Below.frozen D3 (p := ⟨w.heap.size, 1, none⟩) (by first | exact Nat.le_refl _ | assumption | (simp; done) | (simp; omega) | omega)).trans (by go_simp; rfl); have z3 : w.heap.size < w3.heap.size + 1 := Nat.lt_of_lt_of_le (by omega) (Nat.le_succ_of_le D3.size))
        | (at_builtin; refine wpList_app _ byteT rfl (.tmp 42) (.tmp 43) rfl w1.heap.size _ [] rfl (own_lit w1 (Nat.le_refl _)) _ A0 cap0 l0 rfl (b0.now (by (repeat' (first | with_reducible assumption | with_reducible exact Below.refl _ _ | (with_reducible refine Below.alloc ?_ ?_ _; rotate_left; focus ((first | exact Nat.le_refl _ | (simp; done) | (simp; omega) | omega | fail))) | (with_reducible refine Below.setCell ?_ ?_ _; rotate_left; focus ((first | exact Nat.le_refl _ | (simp; done) | (simp; omega) | omega | fail))) | with_reducible refine Mem.bel_drewN ?_ _ | with_reducible refine Below.drew ?_ | (with_reducible refine Mem.bel_call (by with_reducible assumption) ?_ ?_; focus ((first | exact Nat.le_refl _ | (simp; done) | (simp; omega) | omega | fail))) | fail)))) (by simp; omega) (by simp) ?_; intro v2 w2 o2 d2; rw [List.nil_append] at o2; have D2 : Below w1.heap.size w1 w2 := ((Below.refl _ _).alloc (Nat.le_refl _) _).trans d2; have B2 : Below w.heap.size w w2 := B1.trans (D2.mono f1)))
      have f3 := B3.size
      refine (RA.out _ (hL.below (B := w.heap.size) (by (repeat' (first | with_reducible assumption | with_reducible exact Below.refl _ _ | (with_reducible refine Below.alloc ?_ ?_ _; rotate_left; focus ((first | exact Nat.le_refl _ | (simp; done) | (simp; omega) | omega | fail))) | (with_reducible refine Below.setCell ?_ ?_ _; rotate_left; focus ((first | exact Nat.le_refl _ | (simp; done) | (simp; omega) | omega | fail))) | with_reducible refine Mem.bel_drewN ?_ _ | with_reducible refine Below.drew ?_ | (with_reducible refine Mem.bel_call (by with_reducible assumption) ?_ ?_; focus ((first | exact Nat.le_refl _ | (simp; done) | (simp; omega) | omega | fail))) | fail))) hL.1) (b0.now (by (repeat' (first | with_reducible assumption | with_reducible exact Below.refl _ _ | (with_reducible refine Below.alloc ?_ ?_ _; rotate_left; focus ((first | exact Nat.le_refl _ | (simp; done) | (simp; omega) | omega | fail))) | (with_reducible refine Below.setCell ?_ ?_ _; rotate_left; focus ((first | exact Nat.le_refl _ | (simp; done) | (simp; omega) | omega | fail))) | with_reducible refine Mem.bel_drewN ?_ _ | with_reducible refine Below.drew ?_ | (with_reducible refine Mem.bel_call (by with_reducible assumption) ?_ ?_; focus ((first | exact Nat.le_refl _ | (simp; done) | (simp; omega) | omega | fail))) | fail))))).mono ?_
      rintro e w4 h4
      obtain ⟨A4, c4, rfl, y4, d4⟩ := reads_out HN.out h4
      have f4 := d4.size
      simp at f4
      have hOwn := Nat.lt_of_lt_of_le (n := w.heap.size) (by first | exact Nat.le_refl _ | assumption | (simp; done) | (simp; omega) | omega) (Below.size d4)
      have hOwn1 := Nat.ne_of_gt hOwn
      have hOwn2 := Nat.ne_of_lt hOwn
      have hOwn := (Below.cell d4 (p := ⟨w.heap.size, 0, none⟩) (by first | exact Nat.le_refl _ | assumption | (simp; done) | (simp; omega) | omega)).trans (by go_simp; rfl)
      have hOwn := (Below.cell d4 (p := ⟨w.heap.size, 1, none⟩) (by first | exact Nat.le_refl _ | assumption | (simp; done) | (simp; omega) | omega)).trans (by go_simp; rfl)
      have hOwn := (Below.frozen d4 (p := ⟨w.heap.size, 0, none⟩) (by first | exact Nat.le_refl _ | assumption | (simp; done) | (simp; omega) | omega)).trans (by go_simp; rfl)
      have hOwn := (Below.frozen d4 (p := ⟨w.heap.size, 1, none⟩) (by first | exact Nat.le_refl _ | assumption | (simp; done) | (simp; omega) | omega)).trans (by go_simp; rfl)
      have hOwn := Nat.lt_of_lt_of_le (n := (w3.heap.size + 1)) (by first | exact Nat.le_refl _ | assumption | (simp; done) | (simp; omega) | omega) (Below.size d4)
      have hOwn1 := Nat.ne_of_gt hOwn
      have hOwn2 := Nat.ne_of_lt hOwn
      have hOwn := (Below.cell d4 (p := ⟨(w3.heap.size + 1), 0, none⟩) (by first | exact Nat.le_refl _ | assumption | (simp; done) | (simp; omega) | omega)).trans (by go_simp; rfl)
      have hOwn := (Below.cell d4 (p := ⟨(w3.heap.size + 1), 1, none⟩) (by first | exact Nat.le_refl _ | assumption | (simp; done) | (simp; omega) | omega)).trans (by go_simp; rfl)
      have hOwn := (Below.cell d4 (p := ⟨(w3.heap.size + 1), 2, none⟩) (by first | exact Nat.le_refl _ | assumption | (simp; done) | (simp; omega) | omega)).trans (by go_simp; rfl)
      have hOwn := (Below.frozen d4 (p := ⟨(w3.heap.size + 1), 0, none⟩) (by first | exact Nat.le_refl _ | assumption | (simp; done) | (simp; omega) | omega)).trans (by go_simp; rfl)
      have hOwn := (Below.frozen d4 (p := ⟨(w3.heap.size + 1), 1, none⟩) (by first | exact Nat.le_refl _ | assumption | (simp; done) | (simp; omega) | omega)).trans (by go_simp; rfl)
      have hOwn := (Below.frozen d4 (p := ⟨(w3.heap.size + 1), 2, none⟩) (by first | exact Nat.le_refl _ | assumption | (simp; done) | (simp; omega) | omega)).trans (by go_simp; rfl)
      have y9' := y9.now (W := w4) (by (repeat' (first | with_reducible assumption | with_reducible exact Below.refl _ _ | (with_reducible refine Below.alloc ?_ ?_ _; rotate_left; focus ((first | exact Nat.le_refl _ | (simp; done) | (simp; omega) | omega | fail))) | (with_reducible refine Below.setCell ?_ ?_ _; rotate_left; focus ((first | exact Nat.le_refl _ | (simp; done) | (simp; omega) | omega | fail))) | with_reducible refine Mem.bel_drewN ?_ _ | with_reducible refine Below.drew ?_ | (with_reducible refine Mem.bel_call (by with_reducible assumption) ?_ ?_; focus ((first | exact Nat.le_refl _ | (simp; done) | (simp; omega) | omega | fail))) | fail)))
      go_wp2_with fail
      refine (RB.out A9 c9 _ (hL.below (B := w.heap.size) (by (repeat' (first | with_reducible assumption | with_reducible exact Below.refl _ _ | (with_reducible refine Below.alloc ?_ ?_ _; rotate_left; focus ((first | exact Nat.le_refl _ | (simp; done) | (simp; omega) | omega | fail))) | (with_reducible refine Below.setCell ?_ ?_ _; rotate_left; focus ((first | exact Nat.le_refl _ | (simp; done) | (simp; omega) | omega | fail))) | with_reducible refine Mem.bel_drewN ?_ _ | with_reducible refine Below.drew ?_ | (with_reducible refine Mem.bel_call (by with_reducible assumption) ?_ ?_; focus ((first | exact Nat.le_refl _ | (simp; done) | (simp; omega) | omega | fail))) | fail))) hL.1) (y9'.now (by (repeat' (first | with_reducible assumption | with_reducible exact Below.refl _ _ | (with_reducible refine Below.alloc ?_ ?_ _; rotate_left; focus ((first | exact Nat.le_refl _ | (simp; done) | (simp; omega) | omega | fail))) | (with_reducible refine Below.setCell ?_ ?_ _; rotate_left; focus ((first | exact Nat.le_refl _ | (simp; done) | (simp; omega) | omega | fail))) | with_reducible refine Mem.bel_drewN ?_ _ | with_reducible refine Below.drew ?_ | (with_reducible refine Mem.bel_call (by with_reducible assumption) ?_ ?_; focus ((first | exact Nat.le_refl _ | (simp; done) | (simp; omega) | omega | fail))) | fail)))) hc9).mono ?_
      rintro e w5 h5
      obtain ⟨A5, c5, rfl, y5, d5⟩ := reads_out HN'.out h5
      have f5 := d5.size
      simp at f5
      have hOwn := Nat.lt_of_lt_of_le (n := w4.heap.size) (by first | exact Nat.le_refl _ | assumption | (simp; done) | (simp; omega) | omega) (Below.size d5)
      have hOwn1 := Nat.ne_of_gt hOwn
      have hOwn2 := Nat.ne_of_lt hOwn
      have hOwn := (Below.cell d5 (p := ⟨w4.heap.size, 0, none⟩) (by first | exact Nat.le_refl _ | assumption | (simp; done) | (simp; omega) | omega)).trans (by go_simp; rfl)
      have hOwn := (Below.cell d5 (p := ⟨w4.heap.size, 1, none⟩) (by first | exact Nat.le_refl _ | assumption | (simp; done) | (simp; omega) | omega)).trans (by go_simp; rfl)
      have hOwn := (Below.cell d5 (p := ⟨w4.heap.size, 2, none⟩) (by first | exact Nat.le_refl _ | assumption | (simp; done) | (simp; omega) | omega)).trans (by go_simp; rfl)
      have hOwn := (Below.frozen d5 (p := ⟨w4.heap.size, 0, none⟩) (by first | exact Nat.le_refl _ | assumption | (simp; done) | (simp; omega) | omega)).trans (by go_simp; rfl)
      have hOwn := (Below.frozen d5 (p := ⟨w4.heap.size, 1, none⟩) (by first | exact Nat.le_refl _ | assumption | (simp; done) | (simp; omega) | omega)).trans (by go_simp; rfl)
      have hOwn := (Below.frozen d5 (p := ⟨w4.heap.size, 2, none⟩) (by first | exact Nat.le_refl _ | assumption | (simp; done) | (simp; omega) | omega)).trans (by go_simp; rfl)
      have s4 : (convert 22 9 (.slice A4 N c4)).run Tryd.prog (w5.alloc (.cells #[.slice A9 L.length c9, .int .i64 m', .int .i64 r'] 27)) = .ok (.string ⟨X'.toArray⟩) (w5.alloc (.cells #[.slice A9 L.length c9, .int .i64 m', .int .i64 r'] 27)) := by
        have := (y4.now (W := w5.alloc (.cells #[.slice A9 L.length c9, .int .i64 m', .int .i64 r'] 27)) (by (repeat' (first | with_reducible assumption | with_reducible exact Below.refl _ _ | (with_reducible refine Below.alloc ?_ ?_ _; rotate_left; focus ((first | exact Nat.le_refl _ | (simp; done) | (simp; omega) | omega | fail))) | (with_reducible refine Below.setCell ?_ ?_ _; rotate_left; focus ((first | exact Nat.le_refl _ | (simp; done) | (simp; omega) | omega | fail))) | with_reducible refine Mem.bel_drewN ?_ _ | with_reducible refine Below.drew ?_ | (with_reducible refine Mem.bel_call (by with_reducible assumption) ?_ ?_; focus ((first | exact Nat.le_refl _ | (simp; done) | (simp; omega) | omega | fail))) | fail)))).str byteT strT c4
        rw [HN.out] at this; exact this
      have s5 : (convert 22 9 (.slice A5 N c5)).run Tryd.prog (w5.alloc (.cells #[.slice A9 L.length c9, .int .i64 m', .int .i64 r'] 27)) = .ok (.string ⟨X'.toArray⟩) (w5.alloc (.cells #[.slice A9 L.length c9, .int .i64 m', .int .i64 r'] 27)) := by
        have := (y5.now (W := w5.alloc (.cells #[.slice A9 L.length c9, .int .i64 m', .int .i64 r'] 27)) (by (repeat' (first | with_reducible assumption | with_reducible exact Below.refl _ _ | (with_reducible refine Below.alloc ?_ ?_ _; rotate_left; focus ((first | exact Nat.le_refl _ | (simp; done) | (simp; omega) | omega | fail))) | (with_reducible refine Below.setCell ?_ ?_ _; rotate_left; focus ((first | exact Nat.le_refl _ | (simp; done) | (simp; omega) | omega | fail))) | with_reducible refine Mem.bel_drewN ?_ _ | with_reducible refine Below.drew ?_ | (with_reducible refine Mem.bel_call (by with_reducible assumption) ?_ ?_; focus ((first | exact Nat.le_refl _ | (simp; done) | (simp; omega) | omega | fail))) | fail)))).str byteT strT c5
        rw [HN.out] at this; exact this
      go_wp2_with fail
      go_ret
      exact ⟨by simp, by (repeat' (first | with_reducible assumption | with_reducible exact Below.refl _ _ | (with_reducible refine Below.alloc ?_ ?_ _; rotate_left; focus ((first | exact Nat.le_refl _ | (simp; done) | (simp; omega) | omega | fail))) | (with_reducible refine Below.setCell ?_ ?_ _; rotate_left; focus ((first | exact Nat.le_refl _ | (simp; done) | (simp; omega) | omega | fail))) | with_reducible refine Mem.bel_drewN ?_ _ | with_reducible refine Below.drew ?_ | (with_reducible refine Mem.bel_call (by with_reducible assumption) ?_ ?_; focus ((first | exact Nat.le_refl _ | (simp; done) | (simp; omega) | omega | fail))) | fail))⟩
  · have fin : ∀ w1, Below (w.alloc (.cells #[.int .i64 kind, .int .i64 size] 34)).heap.size (w.alloc (.cells #[.int .i64 kind, .int .i64 size] 34)) w1 → Below w.heap.size w w1 := fun w1 d1 => by (repeat' (first | with_reducible assumption | with_reducible exact Below.refl _ _ | (with_reducible refine Below.alloc ?_ ?_ _; rotate_left; focus ((first | exact Nat.le_refl _ | (simp; done) | (simp; omega) | omega | fail))) | (with_reducible refine Below.setCell ?_ ?_ _; rotate_left; focus ((first | exact Nat.le_refl _ | (simp; done) | (simp; omega) | omega | fail))) | with_reducible refine Mem.bel_drewN ?_ _ | with_reducible refine Below.drew ?_ | (with_reducible refine Mem.bel_call (by with_reducible assumption) ?_ ?_; focus ((first | exact Nat.le_refl _ | (simp; done) | (simp; omega) | omega | fail))) | fail))
    have bad : 2000 < l0.length ∨ 2000 < l1.length ∨ a < 0 ∨ (l0.length : Int) < a := by omega
    by_cases h0 : (2000 : Int) < (l0.length : Int)
    · clear bad hok
      go_enter Tryd.func6, Tryd.ntmps6
      go_wp2_with fail
      refine (WK.out _ (hL.alloc _)).mono ?_
      rintro e w1 ⟨rfl, d1⟩
      go_wp2_with fail
      go_ret
      exact ⟨rfl, fin _ d1⟩
    by_cases h1 : (2000 : Int) < (l1.length : Int)
    · clear bad hok
      go_enter Tryd.func6, Tryd.ntmps6
      go_wp2_with fail
      refine (WK.out _ (hL.alloc _)).mono ?_
      rintro e w1 ⟨rfl, d1⟩
      go_wp2_with fail
      go_ret
      exact ⟨rfl, fin _ d1⟩
    by_cases h2 : a < 0
    · clear bad hok
      go_enter Tryd.func6, Tryd.ntmps6
      go_wp2_with fail
      refine (WK.out _ (hL.alloc _)).mono ?_
      rintro e w1 ⟨rfl, d1⟩
      go_wp2_with fail
      go_ret
      exact ⟨rfl, fin _ d1⟩
    have h3 : (l0.length : Int) < a := by omega
    clear bad hok
    go_enter Tryd.func6, Tryd.ntmps6
    go_wp2_with fail
    refine (WK.out _ (hL.alloc _)).mono ?_
    rintro e w1 ⟨rfl, d1⟩
    go_wp2_with fail
    go_ret
    exact ⟨rfl, fin _ d1⟩
end Go.Proofs.YtjebhbjffofjnaaDoor
