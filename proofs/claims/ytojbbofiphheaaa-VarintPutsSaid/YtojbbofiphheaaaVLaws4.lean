/- The walk of VarintPuts. -/
import Derived.Test.YtojbbofiphheaaaVLaws2
import Derived.Deep.RegionHeldLaw
namespace Go.Proofs.Ytojbbofiphheaaa
open Go.ChangeShapes Go.WideShapes Go.ChangeAt Go.RowKit Mem

set_option maxHeartbeats 4000000 in
theorem varintPuts_walk (A : Option Addr) (l : List UInt8) (c : Nat) (n : Int) (w : World) (_hc : l.length ≤ c) (hb : Bys w w.heap.size A l) (wn : (Lit.int .i64 n).wf = true) :
    Calls Try.prog 3 #[.slice A l.length c, .int .i64 n] w (Yes w.heap.size w) := by
  obtain ⟨n0, n1⟩ := fit_i64 wn
  clear wn
  by_cases hl : l.length ≤ 3000
  · have q : decide ((3000 : Int) < (l.length : Int)) = false := by simp; omega
    have zh := Num.zig_hi n0 n1
    have eL : (Num.enc (Num.zig n).toNat).length ≤ 10 := Num.enc_length_le (by have := Num.zig_lo n; omega)
    obtain ⟨E, hE⟩ : ∃ E, E = Num.enc (Num.zig n).toNat := ⟨_, rfl⟩
    have put := fun base v l w => put_any n n0 n1 base v l w
    have rput := fun w => rput_row n n0 n1 w
    have siz := fun w => size_any n n0 n1 w
    rw [← hE] at put siz rput eL
    obtain ⟨B, hB⟩ : ∃ B, B = l ++ E := ⟨_, rfl⟩
    have cv : ∀ W : World, Bys W w.heap.size A l → (convert 22 9 (.slice A l.length c)).run Try.prog W = .ok (.string ⟨l.toArray⟩) W := fun W h => h.str byteT strT c
    have CV := Lib.hid cv
    have PUT := Lib.hid put
    have RPUT := Lib.hid rput
    have SIZ := Lib.hid siz
    have HB := Lib.hid hB
    clear cv put siz rput hE hB zh
    have b0 := hb.drew
    have b1 := (hb.alloc (Nat.le_refl _) (.cells #[] 5)).drew
    go_enter Try.func3, Try.ntmps3
    go_wp2_with fail
    have hstr : (⟨l.toArray⟩ : ByteArray) ++ ⟨E.toArray⟩ = ⟨B.toArray⟩ := by rw [HB.out]; apply ByteArray.ext; simp
    have B1 : Below w.heap.size w (w.alloc (.cells #[] 5)).drew := ((Below.refl _ _).alloc (Nat.le_refl _) _).drew
    go_region_held_law (fun w' => (convert 22 9 (.slice A l.length c)).run Try.prog w' = .ok (.string ⟨l.toArray⟩) w') (first | exact CV.out _ b0 | exact CV.out _ b1 | exact CV.out _ (by assumption)) (first | (refine step_app _ byteT (by rfl) (.tmp 9) (.tmp 10) rfl w.heap.size _ [] rfl (own_lit w (Nat.le_refl _)).drew _ A c l rfl b1 (by simp; omega) (by simp) ?_; intro v2 w2 o2 h2; have b2 := b1.below h2; have h12 := B1.trans h2) | (go_at_call 7; refine (PUT.out w.heap.size _ l _ h12.size o2 (by omega)).mono ?_; rintro e w3 ⟨v3, rfl, o3, h3⟩; rw [← HB.out] at o3; obtain ⟨A3, c3, rfl, y3⟩ := o3.bys; have s3 := y3.str byteT strT c3; have b3 := b2.below h3; have h13 := h12.trans h3; clear o3) | (go_at_call 8; have tok := b4; refine (RPUT.out _).mono ?_; rintro e w5 ⟨A5, c5, rfl, _, _, _, h5⟩; have b5 := b4.below (h5.mono h14.size); have h15 := h14.trans (h5.mono h14.size)) | (go_at_call 9; refine (SIZ.out _).mono ?_; rintro e w' ⟨rfl, rfl⟩) | (go_at_call 8; refine (RPUT.out _).mono ?_; rintro e w4 ⟨A4, c4, rfl, _, _, s4, h4⟩; have s34 := (y3.below h4).str byteT strT c3; have b4 := b3.below (h4.mono h13.size); have h14 := h13.trans (h4.mono h13.size)) | (go_at_call 10; refine (works_any _).mono ?_; rintro e w6 ⟨rfl, h6⟩; have b6 := b5.below (h6.mono h15.size); have h16 := h15.trans (h6.mono h15.size)))
    all_goals
      go_wp2_with fail
      go_ret
      exact ⟨rfl, h16⟩
  · have q : (3000 : Int) < (l.length : Int) := by omega
    go_enter Try.func3, Try.ntmps3
    go_wp2_with fail
    go_quiet (fail)
    go_wp2_with fail
    go_ret
    exact ⟨rfl, bel_drewN (Below.refl _ _) nq⟩

end Go.Proofs.Ytojbbofiphheaaa
