/- Layer 4: the walk of the law of the calls one behind the other. -/
import Derived.Test.YtjebhbjffofjnaaDoorWireH
import Derived.Deep.CutRange
namespace Go.Proofs.YtjebhbjffofjnaaDoor
open Go.ChangeShapes Go.WideShapes Go.ChangeAt Go.RowKit Mem

/-- What a list of calls reads as. -/
def Asks (w : World) (B : Nat) (x : Option Addr) (n : Nat) (K Z : Nat → Int) : Prop :=
  n = 0 ∨ ∃ b off, x = some ⟨b, off, none⟩ ∧ b < B ∧ ∀ i, i < n → w.cell? ⟨b, off + i * 2, none⟩ = some (.int .i64 (K i)) ∧ w.cell? ⟨b, off + i * 2 + 1, none⟩ = some (.int .i64 (Z i))

/-- What the loop's world holds: the document's reader in g, the program's behind it. -/
structure Held (w : World) (A : Option Addr) (l : List UInt8) (c : Nat) (a e : Int) (wr : World) : Prop where
  q : RSt wr w.heap.size A l c a e
  r : B3 wr (w.heap.size + 1) 27 (.slice A l.length c) (.int .i64 a) (.int .i64 e)
  b : Below w.heap.size w wr

theorem B3.save {w w' : World} {g g' : Nat} {t : TypeId} {x0 x1 x2 : Value} (h : B3 w g' t x0 x1 x2) (s : Save g w w') (hn : g' ≠ g) : B3 w' g' t x0 x1 x2 := (s.block h.lt hn).trans h

set_option maxRecDepth 100000 in
set_option maxHeartbeats 4000000 in
theorem wirePlays_walk (A : Option Addr) (l : List UInt8) (c : Nat) (a : Int) (x : Option Addr) (n nc : Nat) (K Z : Nat → Int) (w : World) (hc : l.length ≤ c) (hb : Bys w w.heap.size A l) (ha : Asks w w.heap.size x n K Z) (hnc : n ≤ nc) (hL : Laid w) :
    Calls Tryd.prog 3 #[.slice A l.length c, .int .i64 a, .slice x n nc] w (Yes w.heap.size w) := by
  have CS := cell_set
  by_cases hl : 3000 < l.length
  · have q : (3000 : Int) < (l.length : Int) := by omega
    have WK := Lib.hid (works4_any w hL)
    go_enter Tryd.func3, Tryd.ntmps3
    go_wp2_with fail
    refine WK.out.mono ?_
    rintro e w1 ⟨rfl, b1⟩
    go_wp2_with fail
    go_ret
    exact ⟨rfl, b1⟩
  · have q : ¬ (3000 : Int) < (l.length : Int) := by omega
    have hl2 : l.length ≤ 140000000000 := by omega
    have DO := Lib.hid (fun g a e k z W hW h hb => does_any g A c l a e k z W hW h hb hl2 hc)
    go_enter Tryd.func3, Tryd.ntmps3
    go_wp2_with fail
    go_loopw [9] (fun p wr => ∃ (j : Nat) (a' e' : Int), p = .int .i64 (j : Int) ∧ j ≤ n ∧ j ≤ 40 ∧ Held w A l c a' e' wr) (fun p _ => 40 - (intOf p).toNat)
    case atStart => exact ⟨0, a, 0, rfl, by omega, by omega, (B3.newat rfl).alloc _, B3.newat (by simp), by (repeat' (first | with_reducible assumption | with_reducible exact Below.refl _ _ | (with_reducible refine Below.alloc ?_ ?_ _; rotate_left; focus ((first | exact Nat.le_refl _ | (simp; done) | (simp; omega) | omega | fail))) | (with_reducible refine Below.setCell ?_ ?_ _; rotate_left; focus ((first | exact Nat.le_refl _ | (simp; done) | (simp; omega) | omega | fail))) | with_reducible refine Mem.bel_drewN ?_ _ | with_reducible refine Below.drew ?_ | (with_reducible refine Mem.bel_call (by with_reducible assumption) ?_ ?_; focus ((first | exact Nat.le_refl _ | (simp; done) | (simp; omega) | omega | fail))) | fail))⟩
    case round =>
      obtain ⟨j, a', e', rfl, hj, hj40, H⟩ := hrel
      have ha0 := ha
      by_cases hjn : j < n ∧ j < 40
      · obtain ⟨h1, h2⟩ := hjn
        have q1 : (j : Int) < (n : Int) := by omega
        have q2 : (j : Int) < 40 := by omega
        obtain ⟨b, off, rfl, hbB, hcell⟩ : ∃ b off, x = some ⟨b, off, none⟩ ∧ b < w.heap.size ∧ ∀ i, i < n → w.cell? ⟨b, off + i * 2, none⟩ = some (.int .i64 (K i)) ∧ w.cell? ⟨b, off + i * 2 + 1, none⟩ = some (.int .i64 (Z i)) := by
          rcases ha with h | h
          · omega
          · exact h
        obtain ⟨k0, k1⟩ := hcell j h1
        have k2 := (H.b.cell (p := ⟨b, off + j * 2, none⟩) hbB).trans k0
        have k3 := (H.b.cell (p := ⟨b, off + j * 2 + 1, none⟩) hbB).trans k1
        obtain ⟨_, _, _, _, _, _⟩ := H.q.facts
        obtain ⟨_, _, _, _, _, _⟩ := H.r.facts
        clear hcell ha
        obtain ⟨⟨a1, e1⟩, hst⟩ : ∃ r, r = stp (K j) (Z j) l a' e' := ⟨_, rfl⟩
        have D0 := fun g W hW h hb => DO.out g a' e' (K j) (Z j) W hW h hb
        rw [← hst] at D0
        have D := Lib.hid D0
        clear D0 hst
        have HB := H.b
        have HQ := H.q
        have HR := H.r
        have z0 := HR.lt
        have HA := Lib.hid ha0
        have n0 : b < wr.heap.size := by omega
        have n1 : wr.heap.size ≠ b := by omega
        have n3 : wr.heap.size ≠ w.heap.size + 1 := by omega
        have n4 : wr.heap.size ≠ w.heap.size := by omega
        clear H
        generalize K j = kj at *
        generalize Z j = zj at *
        go_wp2_with fail
        go_cut [10, 11] from 25 to 121 (fun s10 s11 wc => ∃ g10 : Nat, s10 = .pointer (some ⟨g10, 0, none⟩) ∧ s11 = .bool true ∧ RSt wc w.heap.size A l c a1 e1 ∧ B3 wc (w.heap.size + 1) 27 (.slice A l.length c) (.int .i64 a') (.int .i64 e') ∧ B3 wc g10 27 (.slice A l.length c) (.int .i64 a1) (.int .i64 e1) ∧ w.heap.size + 1 < g10 ∧ Below w.heap.size w wc)
        case first =>
          go_region_held_law (fun w' => w'.cell? ⟨b, off + j * 2, none⟩ = some (.int .i64 kj) ∧ w'.cell? ⟨b, off + j * 2 + 1, none⟩ = some (.int .i64 zj) ∧ w'.cell? ⟨w.heap.size + 1, 0, none⟩ = some (.slice A l.length c) ∧ w'.cell? ⟨w.heap.size + 1, 1, none⟩ = some (.int .i64 a') ∧ w'.cell? ⟨w.heap.size + 1, 2, none⟩ = some (.int .i64 e')) (exact ⟨(by first | with_reducible assumption | (go_simp; done)), (by first | with_reducible assumption | (go_simp; done)), (by first | with_reducible assumption | (go_simp; done)), (by first | with_reducible assumption | (go_simp; done)), (by first | with_reducible assumption | (go_simp; done))⟩) (first
            | (go_at_call 8; refine (D.out w.heap.size _ (hL.below (B := w.heap.size) (by (repeat' (first | with_reducible assumption | with_reducible exact Below.refl _ _ | (with_reducible refine Below.alloc ?_ ?_ _; rotate_left; focus ((first | exact Nat.le_refl _ | (simp; done) | (simp; omega) | omega | fail))) | (with_reducible refine Below.setCell ?_ ?_ _; rotate_left; focus ((first | exact Nat.le_refl _ | (simp; done) | (simp; omega) | omega | fail))) | with_reducible refine Mem.bel_drewN ?_ _ | with_reducible refine Below.drew ?_ | (with_reducible refine Mem.bel_call (by with_reducible assumption) ?_ ?_; focus ((first | exact Nat.le_refl _ | (simp; done) | (simp; omega) | omega | fail))) | fail))) hL.1) (by first | exact HQ.drew | exact (HQ.alloc _).drew) (hb.below (B := w.heap.size) (by (repeat' (first | with_reducible assumption | with_reducible exact Below.refl _ _ | (with_reducible refine Below.alloc ?_ ?_ _; rotate_left; focus ((first | exact Nat.le_refl _ | (simp; done) | (simp; omega) | omega | fail))) | (with_reducible refine Below.setCell ?_ ?_ _; rotate_left; focus ((first | exact Nat.le_refl _ | (simp; done) | (simp; omega) | omega | fail))) | with_reducible refine Mem.bel_drewN ?_ _ | with_reducible refine Below.drew ?_ | (with_reducible refine Mem.bel_call (by with_reducible assumption) ?_ ?_; focus ((first | exact Nat.le_refl _ | (simp; done) | (simp; omega) | omega | fail))) | fail))))).mono ?_; rintro e w2 ⟨rfl, t2, s2⟩; have B2 : Below w.heap.size w w2 := Below.trans (by (repeat' (first | with_reducible assumption | with_reducible exact Below.refl _ _ | (with_reducible refine Below.alloc ?_ ?_ _; rotate_left; focus ((first | exact Nat.le_refl _ | (simp; done) | (simp; omega) | omega | fail))) | (with_reducible refine Below.setCell ?_ ?_ _; rotate_left; focus ((first | exact Nat.le_refl _ | (simp; done) | (simp; omega) | omega | fail))) | with_reducible refine Mem.bel_drewN ?_ _ | with_reducible refine Below.drew ?_ | (with_reducible refine Mem.bel_call (by with_reducible assumption) ?_ ?_; focus ((first | exact Nat.le_refl _ | (simp; done) | (simp; omega) | omega | fail))) | fail))) s2.bel; have r2 : B3 w2 (w.heap.size + 1) 27 (.slice A l.length c) (.int .i64 a') (.int .i64 e') := B3.save (by first | exact HR.drew | exact (HR.alloc _).drew) s2 (by omega); obtain ⟨_, _, _, _, _, _⟩ := r2.facts; have m0 := (B2.cell (p := ⟨b, off + j * 2, none⟩) hbB).trans k0; have m1 := (B2.cell (p := ⟨b, off + j * 2 + 1, none⟩) hbB).trans k1; have z2 := r2.lt; have n2 : b < w2.heap.size := (by have := B2.size; omega); try (have x2 : B3 w2 wr.heap.size 27 (.slice none 0 0) (.int .i64 0) (.int .i64 0) := B3.save (g' := wr.heap.size) ((B3.newat (g := wr.heap.size) rfl).drew) s2 (by omega); obtain ⟨_, _, _, _, _, _⟩ := x2.facts)))
          all_goals
            go_wp2_with fail
            go_meet
            first
              | exact ⟨w2.heap.size, rfl, rfl, B3.alloc t2 _, r2.alloc _, B3.newat rfl, z2, by (repeat' (first | with_reducible assumption | with_reducible exact Below.refl _ _ | (with_reducible refine Below.alloc ?_ ?_ _; rotate_left; focus ((first | exact Nat.le_refl _ | (simp; done) | (simp; omega) | omega | fail))) | (with_reducible refine Below.setCell ?_ ?_ _; rotate_left; focus ((first | exact Nat.le_refl _ | (simp; done) | (simp; omega) | omega | fail))) | with_reducible refine Mem.bel_drewN ?_ _ | with_reducible refine Below.drew ?_ | (with_reducible refine Mem.bel_call (by with_reducible assumption) ?_ ?_; focus ((first | exact Nat.le_refl _ | (simp; done) | (simp; omega) | omega | fail))) | fail))⟩
              | exact ⟨wr.heap.size, rfl, rfl, ((RSt.past t2 (by exact n4) _).past (by exact n4) _).past (by exact n4) _, ((r2.past (by exact n3) _).past (by exact n3) _).past (by exact n3) _, ((x2.set0 _).set1 _).set2 _, z0, by (repeat' (first | with_reducible assumption | with_reducible exact Below.refl _ _ | (with_reducible refine Below.alloc ?_ ?_ _; rotate_left; focus ((first | exact Nat.le_refl _ | (simp; done) | (simp; omega) | omega | fail))) | (with_reducible refine Below.setCell ?_ ?_ _; rotate_left; focus ((first | exact Nat.le_refl _ | (simp; done) | (simp; omega) | omega | fail))) | with_reducible refine Mem.bel_drewN ?_ _ | with_reducible refine Below.drew ?_ | (with_reducible refine Mem.bel_call (by with_reducible assumption) ?_ ?_; focus ((first | exact Nat.le_refl _ | (simp; done) | (simp; omega) | omega | fail))) | fail))⟩
        case rest =>
          obtain ⟨g10, rfl, rfl, tQ, tR, tN, zN, tB⟩ := hcut
          have m0 := (tB.cell (p := ⟨b, off + j * 2, none⟩) hbB).trans k0
          have m1 := (tB.cell (p := ⟨b, off + j * 2 + 1, none⟩) hbB).trans k1
          have z3 := tR.lt
          have z4 := tN.lt
          have p0 : b < wc.heap.size := by omega
          have p1 : wc.heap.size ≠ b := by omega
          have p2 : wc.heap.size ≠ w.heap.size + 1 := by omega
          have p3 : wc.heap.size ≠ g10 := by omega
          have p4 : wc.heap.size ≠ w.heap.size := by omega
          have p5 : wc.heap.size + 1 ≠ b := by omega
          have p6 : wc.heap.size + 1 ≠ w.heap.size + 1 := by omega
          have p7 : wc.heap.size + 1 ≠ g10 := by omega
          have p8 : wc.heap.size + 1 ≠ w.heap.size := by omega
          have p9 : wc.heap.size + 1 ≠ wc.heap.size := by omega
          have pz : w.heap.size < wc.heap.size := by omega
          have py : b < wc.heap.size + 1 := by omega
          obtain ⟨_, _, _, _, _, _⟩ := tQ.facts
          obtain ⟨_, _, _, _, _, _⟩ := tR.facts
          clear HB HQ n0 n1 n3 n4
          go_wp2_with fail
          go_cut [12, 13] from 25 to 121 (fun s12 s13 wx => ∃ g12 : Nat, s12 = .pointer (some ⟨g12, 0, none⟩) ∧ s13 = .bool true ∧ RSt wx w.heap.size A l c a1 e1 ∧ B3 wx (w.heap.size + 1) 27 (.slice A l.length c) (.int .i64 a') (.int .i64 e') ∧ B3 wx g10 27 (.slice A l.length c) (.int .i64 a1) (.int .i64 e1) ∧ B3 wx g12 27 (.slice A l.length c) (.int .i64 a1) (.int .i64 e1) ∧ Below w.heap.size w wx)
          case first =>
            go_region_held_law (fun w' => w'.cell? ⟨b, off + j * 2, none⟩ = some (.int .i64 kj) ∧ w'.cell? ⟨b, off + j * 2 + 1, none⟩ = some (.int .i64 zj) ∧ w'.cell? ⟨w.heap.size + 1, 0, none⟩ = some (.slice A l.length c) ∧ w'.cell? ⟨w.heap.size + 1, 1, none⟩ = some (.int .i64 a') ∧ w'.cell? ⟨w.heap.size + 1, 2, none⟩ = some (.int .i64 e')) (exact ⟨(by first | with_reducible assumption | (go_simp; done)), (by first | with_reducible assumption | (go_simp; done)), (by first | with_reducible assumption | (go_simp; done)), (by first | with_reducible assumption | (go_simp; done)), (by first | with_reducible assumption | (go_simp; done))⟩) (first
              | (go_at_call 8; refine (D.out _ _ (hL.below (B := w.heap.size) (by (repeat' (first | with_reducible assumption | with_reducible exact Below.refl _ _ | (with_reducible refine Below.alloc ?_ ?_ _; rotate_left; focus ((first | exact Nat.le_refl _ | (simp; done) | (simp; omega) | omega | fail))) | (with_reducible refine Below.setCell ?_ ?_ _; rotate_left; focus ((first | exact Nat.le_refl _ | (simp; done) | (simp; omega) | omega | fail))) | with_reducible refine Mem.bel_drewN ?_ _ | with_reducible refine Below.drew ?_ | (with_reducible refine Mem.bel_call (by with_reducible assumption) ?_ ?_; focus ((first | exact Nat.le_refl _ | (simp; done) | (simp; omega) | omega | fail))) | fail))) hL.1) (by first | exact B3.drew (B3.newat rfl) | exact B3.drew (B3.newat (by simp)) | exact B3.drew (B3.alloc (B3.newat rfl) _)) ((hb.below (B := w.heap.size) (by (repeat' (first | with_reducible assumption | with_reducible exact Below.refl _ _ | (with_reducible refine Below.alloc ?_ ?_ _; rotate_left; focus ((first | exact Nat.le_refl _ | (simp; done) | (simp; omega) | omega | fail))) | (with_reducible refine Below.setCell ?_ ?_ _; rotate_left; focus ((first | exact Nat.le_refl _ | (simp; done) | (simp; omega) | omega | fail))) | with_reducible refine Mem.bel_drewN ?_ _ | with_reducible refine Below.drew ?_ | (with_reducible refine Mem.bel_call (by with_reducible assumption) ?_ ?_; focus ((first | exact Nat.le_refl _ | (simp; done) | (simp; omega) | omega | fail))) | fail)))).more (by first | omega | (simp; omega)))).mono ?_; rintro e w2 ⟨rfl, t2, s2⟩; have B2 : Below w.heap.size w w2 := Below.trans (by (repeat' (first | with_reducible assumption | with_reducible exact Below.refl _ _ | (with_reducible refine Below.alloc ?_ ?_ _; rotate_left; focus ((first | exact Nat.le_refl _ | (simp; done) | (simp; omega) | omega | fail))) | (with_reducible refine Below.setCell ?_ ?_ _; rotate_left; focus ((first | exact Nat.le_refl _ | (simp; done) | (simp; omega) | omega | fail))) | with_reducible refine Mem.bel_drewN ?_ _ | with_reducible refine Below.drew ?_ | (with_reducible refine Mem.bel_call (by with_reducible assumption) ?_ ?_; focus ((first | exact Nat.le_refl _ | (simp; done) | (simp; omega) | omega | fail))) | fail))) (s2.bel.mono (by first | omega | (simp; omega))); have q2 : RSt w2 w.heap.size A l c a1 e1 := B3.save (g' := w.heap.size) (by first | exact B3.drew (B3.alloc tQ _) | exact B3.drew (B3.alloc (B3.alloc tQ _) _)) s2 (by omega); have r2 : B3 w2 (w.heap.size + 1) 27 (.slice A l.length c) (.int .i64 a') (.int .i64 e') := B3.save (by first | exact (tR.alloc _).drew | exact ((tR.alloc _).alloc _).drew) s2 (by omega); have u2 : B3 w2 g10 27 (.slice A l.length c) (.int .i64 a1) (.int .i64 e1) := B3.save (by first | exact (tN.alloc _).drew | exact ((tN.alloc _).alloc _).drew) s2 (by omega); obtain ⟨_, _, _, _, _, _⟩ := r2.facts; have m0 := (B2.cell (p := ⟨b, off + j * 2, none⟩) hbB).trans k0; have m1 := (B2.cell (p := ⟨b, off + j * 2 + 1, none⟩) hbB).trans k1; have z2 := r2.lt; have n2 : b < w2.heap.size := (by have := B2.size; omega); first | (have x2 : B3 w2 wc.heap.size 27 (.slice none 0 0) (.int .i64 0) (.int .i64 0) := B3.save (g' := wc.heap.size) (by first | exact B3.drew (B3.newat rfl) | exact B3.drew (B3.alloc (B3.newat rfl) _)) s2 (by omega); obtain ⟨_, _, _, _, _, _⟩ := x2.facts) | (have x3 : B3 w2 (wc.heap.size + 1) 27 (.slice none 0 0) (.int .i64 0) (.int .i64 0) := B3.save (g' := wc.heap.size + 1) (B3.drew (B3.newat (by simp))) s2 (by omega); obtain ⟨_, _, _, _, _, _⟩ := x3.facts) | skip))
            all_goals
              go_wp2_with fail
              go_meet
              first
                | exact ⟨w2.heap.size, rfl, rfl, B3.alloc q2 _, r2.alloc _, u2.alloc _, B3.newat rfl, by (repeat' (first | with_reducible assumption | with_reducible exact Below.refl _ _ | (with_reducible refine Below.alloc ?_ ?_ _; rotate_left; focus ((first | exact Nat.le_refl _ | (simp; done) | (simp; omega) | omega | fail))) | (with_reducible refine Below.setCell ?_ ?_ _; rotate_left; focus ((first | exact Nat.le_refl _ | (simp; done) | (simp; omega) | omega | fail))) | with_reducible refine Mem.bel_drewN ?_ _ | with_reducible refine Below.drew ?_ | (with_reducible refine Mem.bel_call (by with_reducible assumption) ?_ ?_; focus ((first | exact Nat.le_refl _ | (simp; done) | (simp; omega) | omega | fail))) | fail))⟩
                | exact ⟨wc.heap.size, rfl, rfl, ((RSt.past q2 (by exact p4) _).past (by exact p4) _).past (by exact p4) _, ((r2.past (by exact p2) _).past (by exact p2) _).past (by exact p2) _, ((u2.past (by exact p3) _).past (by exact p3) _).past (by exact p3) _, ((x2.set0 _).set1 _).set2 _, by (repeat' (first | with_reducible assumption | with_reducible exact Below.refl _ _ | (with_reducible refine Below.alloc ?_ ?_ _; rotate_left; focus ((first | exact Nat.le_refl _ | (simp; done) | (simp; omega) | omega | fail))) | (with_reducible refine Below.setCell ?_ ?_ _; rotate_left; focus ((first | exact Nat.le_refl _ | (simp; done) | (simp; omega) | omega | fail))) | with_reducible refine Mem.bel_drewN ?_ _ | with_reducible refine Below.drew ?_ | (with_reducible refine Mem.bel_call (by with_reducible assumption) ?_ ?_; focus ((first | exact Nat.le_refl _ | (simp; done) | (simp; omega) | omega | fail))) | fail))⟩
                | exact ⟨wc.heap.size + 1, rfl, rfl, ((RSt.past q2 (by exact p8) _).past (by exact p8) _).past (by exact p8) _, ((r2.past (by exact p6) _).past (by exact p6) _).past (by exact p6) _, ((u2.past (by exact p7) _).past (by exact p7) _).past (by exact p7) _, ((x3.set0 _).set1 _).set2 _, by (repeat' (first | with_reducible assumption | with_reducible exact Below.refl _ _ | (with_reducible refine Below.alloc ?_ ?_ _; rotate_left; focus ((first | exact Nat.le_refl _ | (simp; done) | (simp; omega) | omega | fail))) | (with_reducible refine Below.setCell ?_ ?_ _; rotate_left; focus ((first | exact Nat.le_refl _ | (simp; done) | (simp; omega) | omega | fail))) | with_reducible refine Mem.bel_drewN ?_ _ | with_reducible refine Below.drew ?_ | (with_reducible refine Mem.bel_call (by with_reducible assumption) ?_ ?_; focus ((first | exact Nat.le_refl _ | (simp; done) | (simp; omega) | omega | fail))) | fail))⟩
          case rest =>
            obtain ⟨g12, rfl, rfl, xQ, xR, xN, xM, xB⟩ := hcut
            have cvA : (convert 22 9 (.slice A l.length c)).run Tryd.prog wc = .ok (.string ⟨l.toArray⟩) wc := (hb.now xB).str byteT strT c
            have e0 := (xB.cell (p := ⟨b, off + j * 2, none⟩) hbB).trans k0
            obtain ⟨_, _, _, _, _, _⟩ := xQ.facts
            obtain ⟨_, _, _, _, _, _⟩ := xR.facts
            obtain ⟨_, _, _, _, _, _⟩ := xN.facts
            obtain ⟨_, _, _, _, _, _⟩ := xM.facts
            clear m0 m1 tQ tR tN tB k2 k3
            have h1 := Lib.hid xQ
            have hT := Lib.hid xR
            have hN := Lib.hid xN
            clear xQ xR xN xM
            by_cases hk : 0 ≤ kj ∧ kj ≤ 6
            · obtain ⟨hk0, hk1⟩ := hk
              go_wp2_with fail
              go_quiet (fail)
              go_wp2_with fail
              go_roundw
              case rel => exact ⟨j + 1, a1, e1, by go_num, by omega, by omega, ⟨((RSt.past (h1.out.drewN nq) (by show w.heap.size + 1 ≠ w.heap.size; omega) _).past (by show w.heap.size + 1 ≠ w.heap.size; omega) _).past (by show w.heap.size + 1 ≠ w.heap.size; omega) _, (((hT.out.drewN nq).set0 _).set1 _).set2 _, by (repeat' (first | with_reducible assumption | with_reducible exact Below.refl _ _ | (with_reducible refine Below.alloc ?_ ?_ _; rotate_left; focus ((first | exact Nat.le_refl _ | (simp; done) | (simp; omega) | omega | fail))) | (with_reducible refine Below.setCell ?_ ?_ _; rotate_left; focus ((first | exact Nat.le_refl _ | (simp; done) | (simp; omega) | omega | fail))) | with_reducible refine Mem.bel_drewN ?_ _ | with_reducible refine Below.drew ?_ | (with_reducible refine Mem.bel_call (by with_reducible assumption) ?_ ?_; focus ((first | exact Nat.le_refl _ | (simp; done) | (simp; omega) | omega | fail))) | fail))⟩⟩
              case measure => simp [intOf]; omega
            · by_cases hk0 : 0 ≤ kj
              · have hk1 : decide (kj ≤ 6) = false := by simp; omega
                clear hk
                go_wp2_with fail
                go_quiet (fail)
                go_wp2_with fail
                go_roundw
                case rel => exact ⟨j + 1, a1, e1, by go_num, by omega, by omega, ⟨((RSt.past (h1.out.drewN nq) (by show w.heap.size + 1 ≠ w.heap.size; omega) _).past (by show w.heap.size + 1 ≠ w.heap.size; omega) _).past (by show w.heap.size + 1 ≠ w.heap.size; omega) _, (((hT.out.drewN nq).set0 _).set1 _).set2 _, by (repeat' (first | with_reducible assumption | with_reducible exact Below.refl _ _ | (with_reducible refine Below.alloc ?_ ?_ _; rotate_left; focus ((first | exact Nat.le_refl _ | (simp; done) | (simp; omega) | omega | fail))) | (with_reducible refine Below.setCell ?_ ?_ _; rotate_left; focus ((first | exact Nat.le_refl _ | (simp; done) | (simp; omega) | omega | fail))) | with_reducible refine Mem.bel_drewN ?_ _ | with_reducible refine Below.drew ?_ | (with_reducible refine Mem.bel_call (by with_reducible assumption) ?_ ?_; focus ((first | exact Nat.le_refl _ | (simp; done) | (simp; omega) | omega | fail))) | fail))⟩⟩
                case measure => simp [intOf]; omega
              · have hk1 : decide (0 ≤ kj) = false := by simp; omega
                clear hk hk0
                go_wp2_with fail
                go_quiet (fail)
                go_wp2_with fail
                go_roundw
                case rel => exact ⟨j + 1, a1, e1, by go_num, by omega, by omega, ⟨((RSt.past (h1.out.drewN nq) (by show w.heap.size + 1 ≠ w.heap.size; omega) _).past (by show w.heap.size + 1 ≠ w.heap.size; omega) _).past (by show w.heap.size + 1 ≠ w.heap.size; omega) _, (((hT.out.drewN nq).set0 _).set1 _).set2 _, by (repeat' (first | with_reducible assumption | with_reducible exact Below.refl _ _ | (with_reducible refine Below.alloc ?_ ?_ _; rotate_left; focus ((first | exact Nat.le_refl _ | (simp; done) | (simp; omega) | omega | fail))) | (with_reducible refine Below.setCell ?_ ?_ _; rotate_left; focus ((first | exact Nat.le_refl _ | (simp; done) | (simp; omega) | omega | fail))) | with_reducible refine Mem.bel_drewN ?_ _ | with_reducible refine Below.drew ?_ | (with_reducible refine Mem.bel_call (by with_reducible assumption) ?_ ?_; focus ((first | exact Nat.le_refl _ | (simp; done) | (simp; omega) | omega | fail))) | fail))⟩⟩
                case measure => simp [intOf]; omega
      · have EN := Lib.hid (End_any A c l a' e')
        have RE := Lib.hid (fun W h => rEnd_any w.heap.size A c l a' e' W h)
        have WK := Lib.hid (fun W hW => works4_any W hW)
        generalize Wr.fin l a' e' = f at *
        obtain ⟨_, _, _, _, _, _⟩ := H.r.facts
        have HB := H.b
        have HQ := H.q
        have z0 := H.r.lt
        by_cases h1 : j < n
        · have h2 : j = 40 := by omega
          subst h2
          have q1 : ((40 : Nat) : Int) < (n : Int) := by omega
          go_wp2_with fail
          refine (EN.out _).mono ?_
          rintro e w1 ⟨rfl, b1⟩
          have z5 := b1.size
          go_wp2_with fail
          refine (RE.out _ (RSt.below HQ b1 (by omega))).mono ?_
          rintro e w2 ⟨rfl, s2⟩
          have B2 : Below w.heap.size w w2 := Below.trans (by (repeat' (first | with_reducible assumption | with_reducible exact Below.refl _ _ | (with_reducible refine Below.alloc ?_ ?_ _; rotate_left; focus ((first | exact Nat.le_refl _ | (simp; done) | (simp; omega) | omega | fail))) | (with_reducible refine Below.setCell ?_ ?_ _; rotate_left; focus ((first | exact Nat.le_refl _ | (simp; done) | (simp; omega) | omega | fail))) | with_reducible refine Mem.bel_drewN ?_ _ | with_reducible refine Below.drew ?_ | (with_reducible refine Mem.bel_call (by with_reducible assumption) ?_ ?_; focus ((first | exact Nat.le_refl _ | (simp; done) | (simp; omega) | omega | fail))) | fail))) s2.bel
          have z6 := B2.size
          go_wp2_with fail
          refine (WK.out _ (hL.below (B := w.heap.size) B2 hL.1)).mono ?_
          rintro e w3 ⟨rfl, b3⟩
          go_wp2_with fail
          go_ret
          exact ⟨rfl, by (repeat' (first | with_reducible assumption | with_reducible exact Below.refl _ _ | (with_reducible refine Below.alloc ?_ ?_ _; rotate_left; focus ((first | exact Nat.le_refl _ | (simp; done) | (simp; omega) | omega | fail))) | (with_reducible refine Below.setCell ?_ ?_ _; rotate_left; focus ((first | exact Nat.le_refl _ | (simp; done) | (simp; omega) | omega | fail))) | with_reducible refine Mem.bel_drewN ?_ _ | with_reducible refine Below.drew ?_ | (with_reducible refine Mem.bel_call (by with_reducible assumption) ?_ ?_; focus ((first | exact Nat.le_refl _ | (simp; done) | (simp; omega) | omega | fail))) | fail))⟩
        · have h2 : j = n := by omega
          subst h2
          have q1 : ¬ (j : Int) < (j : Int) := by omega
          go_wp2_with fail
          refine (EN.out _).mono ?_
          rintro e w1 ⟨rfl, b1⟩
          have z5 := b1.size
          go_wp2_with fail
          refine (RE.out _ (RSt.below HQ b1 (by omega))).mono ?_
          rintro e w2 ⟨rfl, s2⟩
          have B2 : Below w.heap.size w w2 := Below.trans (by (repeat' (first | with_reducible assumption | with_reducible exact Below.refl _ _ | (with_reducible refine Below.alloc ?_ ?_ _; rotate_left; focus ((first | exact Nat.le_refl _ | (simp; done) | (simp; omega) | omega | fail))) | (with_reducible refine Below.setCell ?_ ?_ _; rotate_left; focus ((first | exact Nat.le_refl _ | (simp; done) | (simp; omega) | omega | fail))) | with_reducible refine Mem.bel_drewN ?_ _ | with_reducible refine Below.drew ?_ | (with_reducible refine Mem.bel_call (by with_reducible assumption) ?_ ?_; focus ((first | exact Nat.le_refl _ | (simp; done) | (simp; omega) | omega | fail))) | fail))) s2.bel
          have z6 := B2.size
          go_wp2_with fail
          refine (WK.out _ (hL.below (B := w.heap.size) B2 hL.1)).mono ?_
          rintro e w3 ⟨rfl, b3⟩
          go_wp2_with fail
          go_ret
          exact ⟨rfl, by (repeat' (first | with_reducible assumption | with_reducible exact Below.refl _ _ | (with_reducible refine Below.alloc ?_ ?_ _; rotate_left; focus ((first | exact Nat.le_refl _ | (simp; done) | (simp; omega) | omega | fail))) | (with_reducible refine Below.setCell ?_ ?_ _; rotate_left; focus ((first | exact Nat.le_refl _ | (simp; done) | (simp; omega) | omega | fail))) | with_reducible refine Mem.bel_drewN ?_ _ | with_reducible refine Below.drew ?_ | (with_reducible refine Mem.bel_call (by with_reducible assumption) ?_ ?_; focus ((first | exact Nat.le_refl _ | (simp; done) | (simp; omega) | omega | fail))) | fail))⟩
end Go.Proofs.YtjebhbjffofjnaaDoor
