/- The laws of layer 8, walked: a number's digits. -/
import Derived.Test.YtjebkedlfhapjaaDoorK8Wk
namespace Go.Proofs.YtjebkedlfhapjaaDoor
open Go.ChangeShapes Go.WideShapes Go.ChangeAt Go.RowKit Mem

set_option maxRecDepth 100000 in
set_option maxHeartbeats 4000000 in
theorem jprintNumbers_walk (A : Option Addr) (l : List UInt8) (c : Nat) (n : Int) (w : World) (_hc : l.length ≤ c) (hb : Bys w w.heap.size A l) (wn : (Lit.int .i64 n).wf = true) (hL : Laid w) :
    Calls Tryd.prog 4 #[.slice A l.length c, .int .i64 n] w fun e w' => e = .returned (.bool true) ∧ Below w.heap.size w w' := by
  obtain ⟨h1, h2⟩ := fit_i64 wn
  clear wn
  by_cases hl : 2000 < l.length
  · have q : (2000 : Int) < (l.length : Int) := by omega
    go_enter Tryd.func4, Tryd.ntmps4
    go_wp2_with fail
    go_quiet (fail)
    go_wp2_with fail
    go_ret
    exact ⟨rfl, bel_drewN (Below.refl _ _) nq⟩
  · have q : decide ((2000 : Int) < (l.length : Int)) = false := by simp; omega
    have put := fun base v W (hLW : Laid W) (ht : 5 < base) (h : base ≤ W.heap.size) (ho : Own W base 5 v l) => jNumber_any n h1 h2 base v l W hLW ht h ho (by omega)
    have rput := fun W => rNumber_any n h1 h2 W
    have wk := fun W h => works8_any W h
    have ql := Jx.nm_len h1 h2
    obtain ⟨E, hE⟩ : ∃ E, E = Jx.nm n := ⟨_, rfl⟩
    rw [← hE] at put rput ql
    obtain ⟨B, hB⟩ : ∃ B, B = l ++ E := ⟨_, rfl⟩
    have cv : ∀ W : World, Bys W w.heap.size A l → (convert 28 9 (.slice A l.length c)).run Tryd.prog W = .ok (.string ⟨l.toArray⟩) W := fun W h => h.str byteT strT c
    have CV := Lib.hid cv
    have PUT := Lib.hid put
    have RPUT := Lib.hid rput
    have WK := Lib.hid wk
    have HB := Lib.hid hB
    clear cv put rput wk hE hB
    have hp := hL.1
    have b0 := hb.drew
    have b1 := (hb.alloc (Nat.le_refl _) (.cells #[] 5)).drew
    go_enter Tryd.func4, Tryd.ntmps4
    go_wp2_with fail
    have hstr : (⟨l.toArray⟩ : ByteArray) ++ ⟨E.toArray⟩ = ⟨B.toArray⟩ := by rw [HB.out]; apply ByteArray.ext; simp
    have hsum : ¬ 9223372036854775807 < l.length + E.length := by omega
    have B1 : Below w.heap.size w (w.alloc (.cells #[] 5)).drew := ((Below.refl _ _).alloc (Nat.le_refl _) _).drew
    go_region_held_law (fun w' => (convert 28 9 (.slice A l.length c)).run Tryd.prog w' = .ok (.string ⟨l.toArray⟩) w') (first | exact CV.out _ b0 | exact CV.out _ b1 | exact CV.out _ (by assumption)) (first
      | (refine step_app _ byteT (by rfl) (.tmp 9) (.tmp 10) rfl w.heap.size _ [] rfl (own_lit w (Nat.le_refl _)).drew _ A c l rfl b1 (by simp; omega) (by simp) ?_; intro v2 w2 o2 h2; have b2 := b1.below h2; have h12 := B1.trans h2)
      | (go_at_call 13; refine (PUT.out w.heap.size _ _ (hL.below h12 hp) hp h12.size o2).mono ?_; rintro e w3 ⟨v3, rfl, o3, h3⟩; rw [← HB.out] at o3; obtain ⟨A3, c3, rfl, y3⟩ := o3.bys; have s3 := y3.str byteT strT c3; have b3 := b2.below h3; have h13 := h12.trans h3; clear o3)
      | (go_at_call 14; refine (RPUT.out _).mono ?_; rintro e w4 ⟨rfl, h4⟩; have s34 := (y3.below h4).str byteT strT c3; have b4 := b3.below (h4.mono h13.size); have h14 := h13.trans (h4.mono h13.size))
      | (go_at_call 8; refine (WK.out _ (hL.below h14 hp)).mono ?_; rintro e w5 ⟨rfl, h5⟩; have b5 := b4.below (h5.mono h14.size); have h15 := h14.trans (h5.mono h14.size)))
    all_goals
      go_wp2_with fail
      go_ret
      exact ⟨rfl, h15⟩
end Go.Proofs.YtjebkedlfhapjaaDoor
