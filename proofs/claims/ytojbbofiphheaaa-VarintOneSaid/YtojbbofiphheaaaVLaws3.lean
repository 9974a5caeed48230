/- The walk of VarintOne. -/
import Derived.Test.YtojbbofiphheaaaVLaws
import Derived.Deep.RegionHeld
namespace Go.Proofs.Ytojbbofiphheaaa
open Go.ChangeShapes Go.WideShapes Go.ChangeAt Go.RowKit Mem

set_option maxHeartbeats 1000000 in
theorem varintOne_walk (A : Option Addr) (l : List UInt8) (c : Nat) (at_ : Int) (w : World) (hc : l.length ≤ c) (hb : Bys w w.heap.size A l) (w1 : (Lit.int .i64 at_).wf = true) :
    Calls Try.prog 6 #[.slice A l.length c, .int .i64 at_] w (Yes w.heap.size w) := by
  obtain ⟨a0, a1⟩ := fit_i64 w1
  clear w1
  by_cases hl : l.length ≤ 3000
  · have q : ¬ (3000 : Int) < (l.length : Int) := by omega
    have tk := Take_any A c l at_
    obtain ⟨⟨u, next, er⟩, hr⟩ : ∃ r, r = At 10 1 l at_ := ⟨_, rfl⟩
    rw [← hr] at tk
    by_cases he : er = 0
    · subst he
      obtain ⟨k, rfl⟩ : ∃ k : Nat, at_ = (k : Int) := by
        unfold At at hr
        split at hr
        · simp at hr
        · exact ⟨at_.toNat, by omega⟩
      have hk : k ≤ l.length := by
        unfold At at hr
        split at hr
        · simp at hr
        · omega
      obtain ⟨⟨u', n, e'⟩, ht⟩ : ∃ r, r = Num.tak 10 1 (l.drop k) := ⟨_, rfl⟩
      rw [At.good hk ht.symm] at hr
      simp only [Prod.mk.injEq] at hr
      obtain ⟨rfl, rfl, rfl⟩ := hr
      obtain ⟨x1, x2, x3⟩ := Num.enc_tak ht.symm (by decide)
      have x4 := Num.tak_lt ht.symm (by decide)
      rw [List.length_drop] at x3
      have e9 : 128 ^ (10 - 1) * (1 + 1) = 18446744073709551616 := by decide
      rw [e9] at x4
      clear e9 ht
      have z := Num.zig_zag (u := (u : Int)) (by omega)
      have z0 := Num.zag_lo (u := (u : Int)) (by omega) (by omega)
      have z1 := Num.zag_hi (u := (u : Int)) (by omega) (by omega)
      have put := put_nil _ z0 z1
      rw [z, Int.toNat_natCast] at put
      obtain ⟨m, hm⟩ : ∃ m, m = Num.zag (u : Int) := ⟨_, rfl⟩
      rw [← hm] at tk put
      clear z z0 z1 hm x4
      have TK := Lib.hid tk
      have PUT := Lib.hid put
      have X1 := Lib.hid x1
      clear tk put x1
      have i1 : (0 : Int) ≤ (k : Int) := by omega
      have i2 : (k : Int) < (k : Int) + (n : Int) := by omega
      have i3 : (k : Int) + (n : Int) ≤ (l.length : Int) := by omega
      have i4 : (k : Int) + (n : Int) ≤ (c : Int) := by omega
      obtain ⟨b, off, rfl⟩ : ∃ b off, A = some ⟨b, off, none⟩ := by
        rcases hb with h | ⟨b, off, rfl, _⟩
        · subst h; simp at x3; omega
        · exact ⟨b, off, rfl⟩
      go_enter Try.func6, Try.ntmps6
      go_wp2_with fail
      refine (works_any _).mono ?_
      rintro e w1 ⟨rfl, h1⟩
      have b1 := (hb.below h1).more h1.size
      go_wp2_with fail
      refine (TK.out _ b1 (by omega)).mono ?_
      rintro e w2 ⟨rfl, h2⟩
      have b2 := (b1.below h2).more h2.size
      have h12 := Below.next h1 h2
      clear b1 h1 h2
      go_wp2_with fail
      have cv : ∀ (W : World) (B : Nat), Bys W B (some ⟨b, off, none⟩) l → (convert 22 9 (.slice (some ⟨b, off + k, none⟩) n (c - k))).run Try.prog W = .ok (.string ⟨(Num.enc u).toArray⟩) W := fun W B h => by
        have h2 := (h.tail k).front n
        have h3 := h2.str byteT strT (c - k)
        rw [← X1.out] at h3
        rw [show (Num.enc u).length = n by rw [X1.out, List.length_take, List.length_drop]; omega] at h3
        exact h3
      have CV := Lib.hid cv
      clear cv
      go_region_held (fun w' => (convert 22 9 (.slice (some ⟨b, off + k, none⟩) n (c - k))).run Try.prog w' = .ok (.string ⟨(Num.enc u).toArray⟩) w') (first | exact CV.out _ _ b2.drew | exact CV.out _ _ (by assumption)) (first | (go_at_call 7; refine (PUT.out _).mono ?_; rintro e w3 ⟨A3, c3, rfl, _, _, s3, h3⟩; have b3 := b2.drew.below h3))
      all_goals
        go_wp2_with fail
        go_ret
        exact ⟨rfl, h12.trans ((Below.drew (Below.refl _ _)).trans (Below.mono h3 h12.size))⟩
    · have hn : u = 0 ∧ next = at_ := by
        unfold At at hr
        split at hr
        · simp only [Prod.mk.injEq] at hr; exact ⟨hr.1, hr.2.1⟩
        · simp only [Prod.mk.injEq] at hr
          obtain ⟨r1, r2, r3⟩ := hr
          have := Num.tak_err (most := 10) (top := 1) (l := l.drop at_.toNat) (u := (Num.tak 10 1 (l.drop at_.toNat)).1) (c := (Num.tak 10 1 (l.drop at_.toNat)).2.1) (e := (Num.tak 10 1 (l.drop at_.toNat)).2.2) rfl
          omega
      obtain ⟨rfl, rfl⟩ := hn
      have z : Num.zag ((0 : Nat) : Int) = 0 := by decide
      have t1 : ((er : Int) == 0) = false := by simp; omega
      rw [z] at tk
      have TK := Lib.hid tk
      clear tk hr z he
      go_enter Try.func6, Try.ntmps6
      go_wp2_with fail
      refine (works_any _).mono ?_
      rintro e w1 ⟨rfl, h1⟩
      have b1 := (hb.below h1).more h1.size
      go_wp2_with fail
      refine (TK.out _ b1 (by omega)).mono ?_
      rintro e w2 ⟨rfl, h2⟩
      have h12 := Below.next h1 h2
      go_wp2_with fail
      go_ret
      exact ⟨rfl, h12⟩
  · have q : (3000 : Int) < (l.length : Int) := by omega
    go_enter Try.func6, Try.ntmps6
    go_wp2_with fail
    refine (works_any _).mono ?_
    rintro e w3 ⟨rfl, h3⟩
    go_wp2_with fail
    go_ret
    exact ⟨rfl, h3⟩

end Go.Proofs.Ytojbbofiphheaaa
