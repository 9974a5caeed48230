/- Layer 7, the document's own answers: Get. -/
import Derived.Test.YtheeahnhdehloaaDoorJ7Law
import Derived.Deep.LoopGhost
namespace Go.Proofs.YtheeahnhdehloaaDoor
open Go.ChangeShapes Go.WideShapes Go.ChangeAt Go.RowKit Mem

theorem J.get_at {j : J} {key : ByteArray} {i : Nat} (hk : j.k = 6) (h1 : i < j.ks.length) (h2 : i < j.its.length) (he : j.ks[i]'h1 = key) (hn : ∀ m (h : m < j.ks.length), m < i → j.ks[m]'h ≠ key) : j.get key = some (j.its[i]'h2) := by
  unfold J.get
  rw [if_pos hk, place7_at h1 he hn]
  exact List.getElem?_eq_getElem h2
theorem J.get_no {j : J} {key : ByteArray} {i : Nat} (h : j.ks.length ≤ i ∨ j.its.length ≤ i) (hn : ∀ m (h : m < j.ks.length), m < i → j.ks[m]'h ≠ key) : j.get key = none := by
  unfold J.get
  split
  · cases hp : place7 j.ks key with
    | none => rfl
    | some p =>
      have hlt := place7_lt hp
      have heq : j.ks[p]'hlt = key := by
        unfold place7 at hp
        rw [List.findIdx?_eq_some_iff_getElem] at hp
        simpa using hp.2.1
      have hip : i ≤ p := by
        rcases Nat.lt_or_ge p i with g | g
        · exact absurd heq (hn p hlt g)
        · exact g
      show j.its[p]? = none
      exact List.getElem?_eq_none (by omega)
  · rfl

set_option maxRecDepth 100000 in
set_option maxHeartbeats 2000000 in
theorem rget_any (j : J) (key : ByteArray) (w : World) (A3 A4 : Option Addr) (c3 c4 : Nat) (ht : TreeC w w.heap.size j [.int .i64 j.k, .int .i64 j.n, .string j.t, .slice A3 j.its.length c3, .slice A4 j.ks.length c4]) :
    Calls Tryd.prog 12 #[.agg #[.int .i64 j.k, .int .i64 j.n, .string j.t, .slice A3 j.its.length c3, .slice A4 j.ks.length c4], .string key] w (Got (j.get key) w) := by
  have CS := cell_set
  obtain ⟨_, _, _, _, e, hc3, hc4, rt, ft⟩ := ht.out
  simp only [List.cons.injEq, Value.slice.injEq, true_and, and_true] at e
  obtain ⟨⟨rfl, rfl⟩, rfl, rfl⟩ := e
  obtain ⟨R, hR⟩ : ∃ R, R = j.get key := ⟨_, rfl⟩
  rw [← hR]
  have hb4 := hc4.2
  have hb3 := hc3.2
  unfold maxLen at hb4 hb3
  have RT := Lib.hid rt; have FT := Lib.hid ft
  have AT := Lib.hid (fun i h1 h2 => hR ▸ J.get_at (j := j) (key := key) (i := i) (hk := h1) h2)
  have NO := Lib.hid (fun i h hn => hR.trans (J.get_no (j := j) (key := key) (i := i) h hn))
  have NK := Lib.hid (fun (h : j.k ≠ 6) => hR.trans (show j.get key = none by unfold J.get; rw [if_neg h]))
  obtain ⟨ni, hni⟩ : ∃ n, n = j.its.length := ⟨_, rfl⟩
  obtain ⟨nk, hnk⟩ : ∃ n, n = j.ks.length := ⟨_, rfl⟩
  have HNI := Lib.hid hni; have HNK := Lib.hid hnk
  rw [← hni] at hb3 ⊢
  rw [← hnk] at hb4 ⊢
  clear hR ht rt ft hc3 hc4 hni hnk
  by_cases hk : j.k = 6
  · have HK := Lib.hid hk
    have qk : (j.k == 6) = true := by rw [beq_iff_eq]; exact hk
    obtain ⟨jk, hjk⟩ : ∃ z, z = j.k := ⟨_, rfl⟩
    rw [← hjk] at qk ⊢
    clear hk hjk
    go_enter Tryd.func12, Tryd.ntmps12
    go_wp2_with fail
    go_loopw [6] (fun t wr => ∃ i : Nat, i ≤ nk ∧ i ≤ ni ∧ t = .int .i64 (i : Int) ∧ Hid (∀ m (h : m < j.ks.length), m < i → j.ks[m]'h ≠ key) ∧ wr = ((w.alloc (.cells #[.int .i64 jk, .int .i64 j.n, .string j.t, .slice A3 ni c3, .slice A4 nk c4] 27)).alloc (.cells #[.int .i64 0, .int .i64 0, .string ⟨#[]⟩, .slice none 0 0, .slice none 0 0] 27))) (fun t _ => nk - (intOf t).toNat)
    case atStart => exact ⟨0, Nat.zero_le _, Nat.zero_le _, rfl, fun _ _ h => absurd h (Nat.not_lt_zero _), by first | rfl | trivial⟩
    case round =>
      obtain ⟨i, hik, hii, rfl, NE, rfl⟩ := hrel
      have ne := NE.out
      by_cases h1 : i < nk
      · have h1' : i < j.ks.length := by rw [← HNK.out]; exact h1
        obtain ⟨b8, o8, e8, hb8, z0⟩ := fl_str FT.out h1'
        by_cases h2 : i < ni
        · have h2' : i < j.its.length := by rw [← HNI.out]; exact h2
          obtain ⟨b1, o1, X3, x3, X4, x4, e1, hb1, y0, y1, y2, y3, y4, ty⟩ := RowS.cells RT.out h2'
          by_cases hx : j.ks[i]'h1' = key
          · have Z := Lib.hid (AT.out i HK.out h1' h2' hx ne)
            rw [hx] at z0
            have sx : (key.toList == key.toList) = true := by simp
            generalize j.its[i]'h2' = T at *
            subst e8 e1
            have TY := Lib.hid ty
            have lb1 : b1 < w.heap.size := hb1
            have lb8 : b8 < w.heap.size := hb8
            have nb0 : b1 ≠ w.heap.size := by omega
            have nb1 : b1 ≠ w.heap.size + 1 := by omega
            clear ne hx h1' h2' ty
            go_wp2_with fail
            try simp only [Exit.inBlock, Exit.then]
            refine post_jb (x0 := .int .i64 T.k) (x1 := .int .i64 T.n) (x2 := .string T.t) (x3 := .slice X3 T.its.length x3) (x4 := .slice X4 T.ks.length x4) rfl rfl rfl (by go_simp) (by go_simp) (by go_simp) (by go_simp) (by go_simp) ?_
            exact got_some Z.out rfl TY.out (by (repeat' (first | with_reducible assumption | with_reducible exact Below.refl _ _ | (with_reducible refine Below.alloc ?_ ?_ _; rotate_left; focus ((first | exact Nat.le_refl _ | (simp; done) | (simp; omega) | omega | fail))) | (with_reducible refine Below.setCell ?_ ?_ _; rotate_left; focus ((first | exact Nat.le_refl _ | (simp; done) | (simp; omega) | omega | fail))) | with_reducible refine Mem.bel_drewN ?_ _ | with_reducible refine Below.drew ?_ | (with_reducible refine Mem.bel_call (by with_reducible assumption) ?_ ?_; focus ((first | exact Nat.le_refl _ | (simp; done) | (simp; omega) | omega | fail))) | fail)))
          · have NE2 : Hid (∀ q (h : q < j.ks.length), q < i + 1 → j.ks[q]'h ≠ key) := fun q h hq => by
              rcases Nat.lt_or_ge q i with g | g
              · exact ne q h g
              · obtain rfl : q = i := by omega
                exact hx
            have sx : ((j.ks[i]'h1').toList == key.toList) = false := by rw [str_beq]; simpa using hx
            generalize j.ks[i]'h1' = Y at *
            subst e8
            have lb8 : b8 < w.heap.size := hb8
            clear ne hx h1' h2' ty y0 y1 y2 y3 y4 e1
            go_wp2_with fail
            go_roundw
            case rel => exact ⟨i + 1, by omega, by omega, by go_num, NE2, by first | rfl | trivial⟩
            case measure => simp [intOf]; omega
        · have Z := Lib.hid (NO.out i (.inr (by rw [← HNI.out]; omega)) ne)
          have q2 : ¬ (i : Int) < (ni : Int) := by omega
          clear ne z0 h1' e8
          go_wp2_with fail
          try simp only [Exit.inBlock, Exit.then]
          refine post_jb (x0 := .int .i64 0) (x1 := .int .i64 0) (x2 := .string ⟨#[]⟩) (x3 := .slice none 0 0) (x4 := .slice none 0 0) rfl rfl rfl (by go_simp) (by go_simp) (by go_simp) (by go_simp) (by go_simp) ?_
          exact got_none Z.out rfl (by (repeat' (first | with_reducible assumption | with_reducible exact Below.refl _ _ | (with_reducible refine Below.alloc ?_ ?_ _; rotate_left; focus ((first | exact Nat.le_refl _ | (simp; done) | (simp; omega) | omega | fail))) | (with_reducible refine Below.setCell ?_ ?_ _; rotate_left; focus ((first | exact Nat.le_refl _ | (simp; done) | (simp; omega) | omega | fail))) | with_reducible refine Mem.bel_drewN ?_ _ | with_reducible refine Below.drew ?_ | (with_reducible refine Mem.bel_call (by with_reducible assumption) ?_ ?_; focus ((first | exact Nat.le_refl _ | (simp; done) | (simp; omega) | omega | fail))) | fail)))
      · have Z := Lib.hid (NO.out i (.inl (by rw [← HNK.out]; omega)) ne)
        have q1 : ¬ (i : Int) < (nk : Int) := by omega
        clear ne
        go_wp2_with fail
        try simp only [Exit.inBlock, Exit.then]
        refine post_jb (x0 := .int .i64 0) (x1 := .int .i64 0) (x2 := .string ⟨#[]⟩) (x3 := .slice none 0 0) (x4 := .slice none 0 0) rfl rfl rfl (by go_simp) (by go_simp) (by go_simp) (by go_simp) (by go_simp) ?_
        exact got_none Z.out rfl (by (repeat' (first | with_reducible assumption | with_reducible exact Below.refl _ _ | (with_reducible refine Below.alloc ?_ ?_ _; rotate_left; focus ((first | exact Nat.le_refl _ | (simp; done) | (simp; omega) | omega | fail))) | (with_reducible refine Below.setCell ?_ ?_ _; rotate_left; focus ((first | exact Nat.le_refl _ | (simp; done) | (simp; omega) | omega | fail))) | with_reducible refine Mem.bel_drewN ?_ _ | with_reducible refine Below.drew ?_ | (with_reducible refine Mem.bel_call (by with_reducible assumption) ?_ ?_; focus ((first | exact Nat.le_refl _ | (simp; done) | (simp; omega) | omega | fail))) | fail)))
  · have Z := Lib.hid (NK.out hk)
    have qk : (j.k == 6) = false := by rw [beq_eq_false_iff_ne]; exact hk
    obtain ⟨jk, hjk⟩ : ∃ z, z = j.k := ⟨_, rfl⟩
    rw [← hjk] at qk ⊢
    clear hk hjk
    go_enter Tryd.func12, Tryd.ntmps12
    go_wp2_with fail
    go_loopg [6] 1 (fun _ t wr => t = .int .i64 0 ∧ wr = ((w.alloc (.cells #[.int .i64 jk, .int .i64 j.n, .string j.t, .slice A3 ni c3, .slice A4 nk c4] 27)).alloc (.cells #[.int .i64 0, .int .i64 0, .string ⟨#[]⟩, .slice none 0 0, .slice none 0 0] 27)))
    case atStart => exact ⟨rfl, by first | rfl | trivial⟩
    case round =>
      obtain ⟨rfl, rfl⟩ := hrel
      by_cases h1 : (0 : Int) < (nk : Int)
      · by_cases h2 : (0 : Int) < (ni : Int)
        · go_wp2_with fail
          try simp only [Exit.inBlock, Exit.then]
          refine post_jb (x0 := .int .i64 0) (x1 := .int .i64 0) (x2 := .string ⟨#[]⟩) (x3 := .slice none 0 0) (x4 := .slice none 0 0) rfl rfl rfl (by go_simp) (by go_simp) (by go_simp) (by go_simp) (by go_simp) ?_
          exact got_none Z.out rfl (by (repeat' (first | with_reducible assumption | with_reducible exact Below.refl _ _ | (with_reducible refine Below.alloc ?_ ?_ _; rotate_left; focus ((first | exact Nat.le_refl _ | (simp; done) | (simp; omega) | omega | fail))) | (with_reducible refine Below.setCell ?_ ?_ _; rotate_left; focus ((first | exact Nat.le_refl _ | (simp; done) | (simp; omega) | omega | fail))) | with_reducible refine Mem.bel_drewN ?_ _ | with_reducible refine Below.drew ?_ | (with_reducible refine Mem.bel_call (by with_reducible assumption) ?_ ?_; focus ((first | exact Nat.le_refl _ | (simp; done) | (simp; omega) | omega | fail))) | fail)))
        · go_wp2_with fail
          try simp only [Exit.inBlock, Exit.then]
          refine post_jb (x0 := .int .i64 0) (x1 := .int .i64 0) (x2 := .string ⟨#[]⟩) (x3 := .slice none 0 0) (x4 := .slice none 0 0) rfl rfl rfl (by go_simp) (by go_simp) (by go_simp) (by go_simp) (by go_simp) ?_
          exact got_none Z.out rfl (by (repeat' (first | with_reducible assumption | with_reducible exact Below.refl _ _ | (with_reducible refine Below.alloc ?_ ?_ _; rotate_left; focus ((first | exact Nat.le_refl _ | (simp; done) | (simp; omega) | omega | fail))) | (with_reducible refine Below.setCell ?_ ?_ _; rotate_left; focus ((first | exact Nat.le_refl _ | (simp; done) | (simp; omega) | omega | fail))) | with_reducible refine Mem.bel_drewN ?_ _ | with_reducible refine Below.drew ?_ | (with_reducible refine Mem.bel_call (by with_reducible assumption) ?_ ?_; focus ((first | exact Nat.le_refl _ | (simp; done) | (simp; omega) | omega | fail))) | fail)))
      · go_wp2_with fail
        try simp only [Exit.inBlock, Exit.then]
        refine post_jb (x0 := .int .i64 0) (x1 := .int .i64 0) (x2 := .string ⟨#[]⟩) (x3 := .slice none 0 0) (x4 := .slice none 0 0) rfl rfl rfl (by go_simp) (by go_simp) (by go_simp) (by go_simp) (by go_simp) ?_
        exact got_none Z.out rfl (by (repeat' (first | with_reducible assumption | with_reducible exact Below.refl _ _ | (with_reducible refine Below.alloc ?_ ?_ _; rotate_left; focus ((first | exact Nat.le_refl _ | (simp; done) | (simp; omega) | omega | fail))) | (with_reducible refine Below.setCell ?_ ?_ _; rotate_left; focus ((first | exact Nat.le_refl _ | (simp; done) | (simp; omega) | omega | fail))) | with_reducible refine Mem.bel_drewN ?_ _ | with_reducible refine Below.drew ?_ | (with_reducible refine Mem.bel_call (by with_reducible assumption) ?_ ?_; focus ((first | exact Nat.le_refl _ | (simp; done) | (simp; omega) | omega | fail))) | fail)))
end Go.Proofs.YtheeahnhdehloaaDoor
