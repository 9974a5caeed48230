/- The walk of VarintBack. -/
import Derived.Test.YtojbbofiphheaaaVLaws
namespace Go.Proofs.Ytojbbofiphheaaa
open Go.ChangeShapes Go.WideShapes Go.ChangeAt Go.RowKit Mem

theorem own_lit (w : World) {base : Nat} (hb : base ≤ w.heap.size) : Own (w.alloc (.cells #[] 5)) base 5 (.slice (some ⟨w.heap.size, 0, none⟩) 0 0) [] :=
  World.ownsRow_lit w #[] 0 hb (by decide) rfl

theorem back_at {ahead E tail : List UInt8} {most top u c e : Nat} (h : Num.tak most top (E ++ tail) = (u, c, e)) : At most top (ahead ++ E ++ tail) (ahead.length : Int) = (u, (ahead.length : Int) + (c : Int), e) := by
  refine At.good (by simp) ?_
  rw [List.append_assoc, List.drop_left]
  exact h

theorem zig_small {n : Int} (h0 : -2147483648 ≤ n) (h1 : n ≤ 2147483647) : (Num.zig n).toNat ≤ 4294967295 := by have := Num.zig_hi32 h0 h1; omega
theorem zig_great {n : Int} (h : n < -2147483648 ∨ 2147483647 < n) : 4294967295 < (Num.zig n).toNat := by unfold Num.zig; split <;> omega
theorem enc_le5 {u : Nat} (h : u ≤ 4294967295) : (Num.enc u).length ≤ 5 := by
  have h1 := Num.enc_length (u := u) (by omega)
  have h2 := Num.parts_mono (u := (u : Int)) (v := 4294967295) (by omega)
  have h3 : Num.parts 4294967295 = 5 := by decide
  omega

set_option maxHeartbeats 1000000 in
theorem varintBack_walk (n : Int) (A1 : Option Addr) (ahead : List UInt8) (c1 : Nat) (A2 : Option Addr) (tail : List UInt8) (c2 : Nat) (w : World) (wn : (Lit.int .i64 n).wf = true) (_k1 : ahead.length ≤ c1) (b1 : Bys w w.heap.size A1 ahead) (_k2 : tail.length ≤ c2) (b2 : Bys w w.heap.size A2 tail) :
    Calls Try.prog 5 #[.int .i64 n, .slice A1 ahead.length c1, .slice A2 tail.length c2] w (Yes w.heap.size w) := by
  obtain ⟨n0, n1⟩ := fit_i64 wn
  clear wn
  by_cases ha : ahead.length ≤ 2000
  · have qa : ¬ (2000 : Int) < (ahead.length : Int) := by omega
    by_cases ht : tail.length ≤ 2000
    · have qt : ¬ (2000 : Int) < (tail.length : Int) := by omega
      have zh := Num.zig_hi n0 n1
      obtain ⟨E, hE⟩ : ∃ E, E = Num.enc (Num.zig n).toNat := ⟨_, rfl⟩
      have put := fun base v l w => put_any n n0 n1 base v l w
      have siz := fun w => size_any n n0 n1 w
      rw [← hE] at put siz
      have eL : E.length ≤ 10 := by rw [hE]; exact Num.enc_length_le (by omega)
      have big := back_at (ahead := ahead) (E := E) (tail := tail) (most := 10) (top := 1) (u := (Num.zig n).toNat) (c := E.length) (e := 0) (by
        have e9 : 128 ^ (10 - 1) * (1 + 1) = 18446744073709551616 := by decide
        rw [hE]
        exact Num.tak_enc tail (by omega) (Num.enc_length_le (by omega)) (fun _ => by omega))
      have z0 := Num.zig_lo n
      have zz : Num.zag (((Num.zig n).toNat : Nat) : Int) = n := by rw [show (((Num.zig n).toNat : Nat) : Int) = Num.zig n by omega]; exact Num.zag_zig n
      have ZZ := Lib.hid zz
      have PUT := Lib.hid put
      have SIZ := Lib.hid siz
      clear zz put siz
      by_cases hs : -2147483648 ≤ n ∧ n ≤ 2147483647
      · have hz := zig_small hs.1 hs.2
        have small := back_at (ahead := ahead) (E := E) (tail := tail) (most := 5) (top := 15) (u := (Num.zig n).toNat) (c := E.length) (e := 0) (by
          have e9 : 128 ^ (5 - 1) * (15 + 1) = 4294967296 := by decide
          rw [hE]
          exact Num.tak_enc tail (by omega) (enc_le5 hz) (fun _ => by omega))
        obtain ⟨m1, m2⟩ := hs
        have BG := Lib.hid big
        have SM := Lib.hid small
        clear hE big small
        go_enter Try.func5, Try.ntmps5
        go_wp2_with fail
        refine (works_any _).mono ?_
        rintro e w1 ⟨rfl, h1⟩
        have s1 := h1.size
        have b11 := (b1.below h1).more s1
        have b21 := (b2.below h1).more s1
        go_wp2_with (at_builtin; refine wpList_app _ byteT rfl (.tmp 25) (.tmp 26) rfl w.heap.size _ [] rfl (own_lit w1 s1) _ A1 c1 ahead rfl (b11.alloc (Nat.le_refl _) _) (by simp; omega) (by simp; omega) ?_; intro v2 w2 o2 h2)
        rw [List.nil_append] at o2
        have h12 : Below w.heap.size w w2 := (h1.alloc s1 _).trans h2
        clear h2
        go_wp2_with fail
        refine (PUT.out w.heap.size _ ahead _ h12.size o2 (by omega)).mono ?_
        rintro e w3 ⟨v3, rfl, o3, h3⟩
        have h13 : Below w.heap.size w w3 := h12.trans h3
        have s13 := h13.size
        obtain ⟨A3, c3, rfl, y3⟩ := o3.bys
        obtain ⟨B, hB⟩ : ∃ B, B = ahead ++ E := ⟨_, rfl⟩
        rw [← hB] at o3 y3 ⊢
        have lB : B.length = ahead.length + E.length := by rw [hB, List.length_append]
        have HB := Lib.hid hB
        have l1 : (ahead.length : Int) + (E.length : Int) ≤ (B.length : Int) := by omega
        have l2 : (B.length : Int) ≤ (ahead.length : Int) + (E.length : Int) := by omega
        have b23 := (b2.below h13).more s13
        clear h12 h3 hB lB b11 b21 h1 o2
        go_wp2_with (at_builtin; refine wpList_app _ byteT rfl (.tmp 32) (.tmp 33) rfl w.heap.size _ B rfl o3 _ A2 c2 tail rfl b23 (by omega) s13 ?_; intro v4 w4 o4 h4)
        have h14 : Below w.heap.size w w4 := h13.trans h4
        have s14 := h14.size
        obtain ⟨A4, c4, rfl, y4⟩ := o4.bys
        obtain ⟨C, hC⟩ : ∃ C, C = B ++ tail := ⟨_, rfl⟩
        rw [← hC] at y4 ⊢
        have lC : C.length ≤ 5000 := by rw [hC, List.length_append]; omega
        have BIG : Hid (At 10 1 C (ahead.length : Int) = ((Num.zig n).toNat, (B.length : Int), 0)) := by
          unfold Hid; rw [hC, HB.out, BG.out]; congr 2; simp
        have SMALL : Hid (At 5 15 C (ahead.length : Int) = ((Num.zig n).toNat, (B.length : Int), 0)) := by
          unfold Hid; rw [hC, HB.out, SM.out]; congr 2; simp
        clear hC o3 y3 h4 b23
        go_wp2_with fail
        refine (Take_any A4 c4 C _ _ y4 (by omega)).mono ?_
        rw [BIG.out]
        rintro e w5 ⟨rfl, h5⟩
        have y5 := (y4.below h5).more h5.size
        rw [ZZ.out]
        go_wp2_with fail
        refine (TakeInt_any A4 c4 C _ _ y5 (by omega)).mono ?_
        rw [SMALL.out]
        rintro e w6 ⟨rfl, h6⟩
        have h16 : Below w.heap.size w w6 := h14.trans ((Below.next h5 h6).mono s14)
        rw [ZZ.out]
        go_wp2_with fail
        refine (SIZ.out _).mono ?_
        rintro e w' ⟨rfl, rfl⟩
        go_wp2_with fail
        go_ret
        exact ⟨rfl, h16⟩
      · have hz := zig_great (n := n) (by omega)
        have small := back_at (ahead := ahead) (E := E) (tail := tail) (most := 5) (top := 15) (u := 0) (c := 0) (e := 11) (by
          rw [hE]
          exact Num.tak_enc_far tail (by omega) hz)
        have BG := Lib.hid big
        have SM := Lib.hid small
        have Z5 : Hid (Num.zag ((0 : Nat) : Int) = 0) := by unfold Hid; decide
        clear hE big small
        by_cases hs1 : n < -2147483648
        · clear hs
          go_enter Try.func5, Try.ntmps5
          go_wp2_with fail
          refine (works_any _).mono ?_
          rintro e w1 ⟨rfl, h1⟩
          have s1 := h1.size
          have b11 := (b1.below h1).more s1
          have b21 := (b2.below h1).more s1
          go_wp2_with (at_builtin; refine wpList_app _ byteT rfl (.tmp 25) (.tmp 26) rfl w.heap.size _ [] rfl (own_lit w1 s1) _ A1 c1 ahead rfl (b11.alloc (Nat.le_refl _) _) (by simp; omega) (by simp; omega) ?_; intro v2 w2 o2 h2)
          rw [List.nil_append] at o2
          have h12 : Below w.heap.size w w2 := (h1.alloc s1 _).trans h2
          clear h2
          go_wp2_with fail
          refine (PUT.out w.heap.size _ ahead _ h12.size o2 (by omega)).mono ?_
          rintro e w3 ⟨v3, rfl, o3, h3⟩
          have h13 : Below w.heap.size w w3 := h12.trans h3
          have s13 := h13.size
          obtain ⟨A3, c3, rfl, y3⟩ := o3.bys
          obtain ⟨B, hB⟩ : ∃ B, B = ahead ++ E := ⟨_, rfl⟩
          rw [← hB] at o3 y3 ⊢
          have lB : B.length = ahead.length + E.length := by rw [hB, List.length_append]
          have HB := Lib.hid hB
          have l1 : (ahead.length : Int) + (E.length : Int) ≤ (B.length : Int) := by omega
          have l2 : (B.length : Int) ≤ (ahead.length : Int) + (E.length : Int) := by omega
          have b23 := (b2.below h13).more s13
          clear h12 h3 hB lB b11 b21 h1 o2
          go_wp2_with (at_builtin; refine wpList_app _ byteT rfl (.tmp 32) (.tmp 33) rfl w.heap.size _ B rfl o3 _ A2 c2 tail rfl b23 (by omega) s13 ?_; intro v4 w4 o4 h4)
          have h14 : Below w.heap.size w w4 := h13.trans h4
          have s14 := h14.size
          obtain ⟨A4, c4, rfl, y4⟩ := o4.bys
          obtain ⟨C, hC⟩ : ∃ C, C = B ++ tail := ⟨_, rfl⟩
          rw [← hC] at y4 ⊢
          have lC : C.length ≤ 5000 := by rw [hC, List.length_append]; omega
          have BIG : Hid (At 10 1 C (ahead.length : Int) = ((Num.zig n).toNat, (B.length : Int), 0)) := by
            unfold Hid; rw [hC, HB.out, BG.out]; congr 2; simp
          have SMALL : Hid (At 5 15 C (ahead.length : Int) = (0, (ahead.length : Int), 11)) := by
            unfold Hid; rw [hC, HB.out, SM.out]; simp
          clear hC o3 y3 h4 b23
          go_wp2_with fail
          refine (Take_any A4 c4 C _ _ y4 (by omega)).mono ?_
          rw [BIG.out]
          rintro e w5 ⟨rfl, h5⟩
          have y5 := (y4.below h5).more h5.size
          rw [ZZ.out]
          go_wp2_with fail
          refine (TakeInt_any A4 c4 C _ _ y5 (by omega)).mono ?_
          rw [SMALL.out]
          rintro e w6 ⟨rfl, h6⟩
          have h16 : Below w.heap.size w w6 := h14.trans ((Below.next h5 h6).mono s14)
          rw [Z5.out]
          go_wp2_with fail
          refine (SIZ.out _).mono ?_
          rintro e w' ⟨rfl, rfl⟩
          go_wp2_with fail
          go_ret
          exact ⟨rfl, h16⟩
        · have hs2 : 2147483647 < n := by omega
          clear hs
          go_enter Try.func5, Try.ntmps5
          go_wp2_with fail
          refine (works_any _).mono ?_
          rintro e w1 ⟨rfl, h1⟩
          have s1 := h1.size
          have b11 := (b1.below h1).more s1
          have b21 := (b2.below h1).more s1
          go_wp2_with (at_builtin; refine wpList_app _ byteT rfl (.tmp 25) (.tmp 26) rfl w.heap.size _ [] rfl (own_lit w1 s1) _ A1 c1 ahead rfl (b11.alloc (Nat.le_refl _) _) (by simp; omega) (by simp; omega) ?_; intro v2 w2 o2 h2)
          rw [List.nil_append] at o2
          have h12 : Below w.heap.size w w2 := (h1.alloc s1 _).trans h2
          clear h2
          go_wp2_with fail
          refine (PUT.out w.heap.size _ ahead _ h12.size o2 (by omega)).mono ?_
          rintro e w3 ⟨v3, rfl, o3, h3⟩
          have h13 : Below w.heap.size w w3 := h12.trans h3
          have s13 := h13.size
          obtain ⟨A3, c3, rfl, y3⟩ := o3.bys
          obtain ⟨B, hB⟩ : ∃ B, B = ahead ++ E := ⟨_, rfl⟩
          rw [← hB] at o3 y3 ⊢
          have lB : B.length = ahead.length + E.length := by rw [hB, List.length_append]
          have HB := Lib.hid hB
          have l1 : (ahead.length : Int) + (E.length : Int) ≤ (B.length : Int) := by omega
          have l2 : (B.length : Int) ≤ (ahead.length : Int) + (E.length : Int) := by omega
          have b23 := (b2.below h13).more s13
          clear h12 h3 hB lB b11 b21 h1 o2
          go_wp2_with (at_builtin; refine wpList_app _ byteT rfl (.tmp 32) (.tmp 33) rfl w.heap.size _ B rfl o3 _ A2 c2 tail rfl b23 (by omega) s13 ?_; intro v4 w4 o4 h4)
          have h14 : Below w.heap.size w w4 := h13.trans h4
          have s14 := h14.size
          obtain ⟨A4, c4, rfl, y4⟩ := o4.bys
          obtain ⟨C, hC⟩ : ∃ C, C = B ++ tail := ⟨_, rfl⟩
          rw [← hC] at y4 ⊢
          have lC : C.length ≤ 5000 := by rw [hC, List.length_append]; omega
          have BIG : Hid (At 10 1 C (ahead.length : Int) = ((Num.zig n).toNat, (B.length : Int), 0)) := by
            unfold Hid; rw [hC, HB.out, BG.out]; congr 2; simp
          have SMALL : Hid (At 5 15 C (ahead.length : Int) = (0, (ahead.length : Int), 11)) := by
            unfold Hid; rw [hC, HB.out, SM.out]; simp
          clear hC o3 y3 h4 b23
          go_wp2_with fail
          refine (Take_any A4 c4 C _ _ y4 (by omega)).mono ?_
          rw [BIG.out]
          rintro e w5 ⟨rfl, h5⟩
          have y5 := (y4.below h5).more h5.size
          rw [ZZ.out]
          go_wp2_with fail
          refine (TakeInt_any A4 c4 C _ _ y5 (by omega)).mono ?_
          rw [SMALL.out]
          rintro e w6 ⟨rfl, h6⟩
          have h16 : Below w.heap.size w w6 := h14.trans ((Below.next h5 h6).mono s14)
          rw [Z5.out]
          go_wp2_with fail
          refine (SIZ.out _).mono ?_
          rintro e w' ⟨rfl, rfl⟩
          go_wp2_with fail
          go_ret
          exact ⟨rfl, h16⟩
    · have qt : (2000 : Int) < (tail.length : Int) := by omega
      go_enter Try.func5, Try.ntmps5
      go_wp2_with fail
      refine (works_any _).mono ?_
      rintro e w3 ⟨rfl, h3⟩
      go_wp2_with fail
      go_ret
      exact ⟨rfl, h3⟩
  · have qa : (2000 : Int) < (ahead.length : Int) := by omega
    go_enter Try.func5, Try.ntmps5
    go_wp2_with fail
    refine (works_any _).mono ?_
    rintro e w3 ⟨rfl, h3⟩
    go_wp2_with fail
    go_ret
    exact ⟨rfl, h3⟩

end Go.Proofs.Ytojbbofiphheaaa
