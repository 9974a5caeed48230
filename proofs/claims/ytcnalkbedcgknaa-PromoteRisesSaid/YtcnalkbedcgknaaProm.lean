/- The calls of layer 5, at every input. -/
import Derived.Test.YtcnalkbedcgknaaZig
import Derived.Test.YtcnalkbedcgknaaFp
namespace Go.Proofs.Ytcnalkbedcgknaa
open Go.ChangeShapes Go.WideShapes Go.ChangeAt Go.RowKit

theorem wrapNat {x : Nat} (h : x < 18446744073709551616) : IntKind.u64.wrap (x : Int) = (x : Int) := by rw [IntKind.wrap_u64]; omega

theorem Round_any (u d : Nat) (hu : u < 18446744073709551616) (hd : d ≤ 64) (w : World) :
    Calls Try.prog 16 #[.int .u64 u, .int .u64 d] w fun e w' => e = .returned (.int .u64 (Fp.rnd u d : Nat)) ∧ w = w' := by
  by_cases h : d = 0
  · subst h
    go_enter Try.func16, Try.ntmps16
    go_wp2
    all_goals go_ret
    exact ⟨retInt (by rw [Fp.rnd_zero]), rfl⟩
  · have hg : 2 ^ (d - 1) < 2 ^ 64 := Nat.pow_lt_pow_right (by decide) (by omega)
    have hP : 2 ^ d = 2 ^ (d - 1) * 2 := by rw [← Nat.pow_succ]; congr 1; omega
    have hm := Nat.div_add_mod u (2 ^ d)
    have hr : u % 2 ^ d < 2 ^ d := Nat.mod_lt _ (Nat.two_pow_pos _)
    have hq : u / 2 ^ d < 9223372036854775808 := by rw [Nat.div_lt_iff_lt_mul (Nat.two_pow_pos _), hP]; have := Nat.two_pow_pos (d - 1); omega
    have E1 : ((u : Int) / 2 ^ d) = ((u / 2 ^ d : Nat) : Int) := by simp
    have E2 : IntKind.u64.wrap (((u / 2 ^ d : Nat) : Int) * 2 ^ d) = ((2 ^ d * (u / 2 ^ d) : Nat) : Int) := by
      rw [show (((u / 2 ^ d : Nat) : Int) * 2 ^ d) = ((2 ^ d * (u / 2 ^ d) : Nat) : Int) by rw [Nat.mul_comm]; simp]; exact wrapNat (by omega)
    have E3 : IntKind.u64.wrap ((u : Int) - ((2 ^ d * (u / 2 ^ d) : Nat) : Int)) = ((u % 2 ^ d : Nat) : Int) := by
      rw [show ((u : Int) - ((2 ^ d * (u / 2 ^ d) : Nat) : Int)) = ((u % 2 ^ d : Nat) : Int) by omega]; exact wrapNat (by omega)
    have E4 : IntKind.u64.wrap (2 ^ (d - 1)) = ((2 ^ (d - 1) : Nat) : Int) := by
      rw [show ((2 : Int) ^ (d - 1)) = ((2 ^ (d - 1) : Nat) : Int) by simp]; exact wrapNat (by omega)
    have E5 : IntKind.u64.wrap (((u / 2 ^ d : Nat) : Int) + 1) = ((u / 2 ^ d + 1 : Nat) : Int) := wrapNat (x := u / 2 ^ d + 1) (by omega)
    have E6 : ((u / 2 ^ d : Nat) : Int).tmod 2 = ((u / 2 ^ d % 2 : Nat) : Int) := by rw [Int.tmod_eq_emod_of_nonneg (Int.natCast_nonneg _)]; rfl
    have F : (Fp.rnd u d = u / 2 ^ d + if 2 ^ (d - 1) < u % 2 ^ d ∨ (u % 2 ^ d = 2 ^ (d - 1) ∧ u / 2 ^ d % 2 = 1) then 1 else 0) := by unfold Fp.rnd Fp.up; rw [if_neg h]
    have E := Lib.hid (And.intro E1 (And.intro E2 (And.intro E3 (And.intro E4 (And.intro E5 (And.intro E6 F))))))
    clear E1 E2 E3 E4 E5 E6 F hm hP
    go_enter Try.func16, Try.ntmps16
    go_wp2
    all_goals go_ret
    all_goals refine ⟨retInt ?_, rfl⟩
    all_goals (obtain ⟨E1, E2, E3, E4, E5, E6, F⟩ := E.out; clear E; rw [F]; clear F hg hr hq h)
    all_goals simp only [E1, E2, E3, E4, E5, E6] at *
    all_goals (clear E1 E2 E3 E4 E5 E6; generalize u / 2 ^ d = q at *; generalize u % 2 ^ d = r at *; generalize 2 ^ (d - 1) = g at *)
    all_goals simp only [beq_iff_eq, beq_eq_false_iff_ne] at *
    all_goals split <;> omega

theorem Round_at (u d : Nat) (z : Int) (hz : z = (d : Int)) (hu : u < 18446744073709551616) (hd : d < 64) (w : World) :
    Calls Try.prog 16 #[.int .u64 u, .int .u64 z] w fun e w' => e = .returned (.int .u64 (Fp.rnd u d : Nat)) ∧ w = w' := by
  subst hz; exact Round_any u d hu (by omega) w

theorem moved_any (s q : Nat) (h0 : s ≠ 0) (hs : s < 18446744073709551616) (hq : q ≤ 52) (w : World) :
    Calls Try.prog 30 #[.int .u64 s, .int .u64 s.log2, .int .u64 q] w fun e w' => e = .returned (.int .u64 (Fp.mv s s.log2 q : Nat)) ∧ w = w' := by
  have hp := Fp.log2_hi (s := s) hs
  by_cases c : q < s.log2
  · have F : Fp.mv s s.log2 q = Fp.rnd s (s.log2 - q) := by unfold Fp.mv; rw [if_pos c]
    rw [F]; clear F
    generalize s.log2 = p at *
    go_enter Try.func30, Try.ntmps30
    go_wp2_with fail
    refine (Round_at s (p - q) _ (by omega) hs (by omega) _).mono ?_
    rintro e w1 ⟨rfl, rfl⟩
    go_wp2_with fail
    all_goals go_ret
    exact ⟨rfl, rfl⟩
  · have F : Fp.mv s s.log2 q = s * 2 ^ (q - s.log2) := by unfold Fp.mv; rw [if_neg c]
    have hm : Fp.mv s s.log2 q < 18446744073709551616 := by
      have := Fp.mv_lt h0 (q := q) (by omega)
      have h2 : 2 ^ (q + 1) ≤ 2 ^ 53 := Nat.pow_le_pow_right (by decide) (by omega)
      omega
    rw [F] at hm ⊢; clear F
    generalize s.log2 = p at *
    go_enter Try.func30, Try.ntmps30
    go_wp2
    all_goals go_ret
    refine ⟨retInt ?_, rfl⟩
    rw [show ((s : Int) * 2 ^ (q - p)) = ((s * 2 ^ (q - p) : Nat) : Int) by simp]
    exact wrapNat hm

def Makes (E F B : Nat) (w : World) (e : Ending) (w' : World) : Prop := ∃ a b c, e = .returned (.func (.func 28) #[] #[.pointer (some ⟨a, 0, none⟩), .pointer (some ⟨b, 0, none⟩), .pointer (some ⟨c, 0, none⟩)]) ∧
    w'.cell? ⟨a, 0, none⟩ = some (.int .u64 E) ∧ w'.cell? ⟨b, 0, none⟩ = some (.int .u64 F) ∧ w'.cell? ⟨c, 0, none⟩ = some (.int .u64 B) ∧ Grown w w'

theorem moved_at (s q : Nat) (y z : Int) (hy : y = (s : Int)) (hz : z = (s.log2 : Int)) (h0 : s ≠ 0) (hs : s < 18446744073709551616) (hq : q ≤ 52) (w : World) :
    Calls Try.prog 30 #[.int .u64 y, .int .u64 z, .int .u64 q] w fun e w' => e = .returned (.int .u64 (Fp.mv s s.log2 q : Nat)) ∧ w = w' := by
  subst hy; subst hz; exact moved_any s q h0 hs hq w

theorem bits_at (s : Nat) (y : Int) (hy : y = (s : Int)) (h0 : s ≠ 0) (hs : s < 18446744073709551616) (w : World) :
    Calls Try.prog 29 #[.int .u64 y] w fun e w' => e = .returned (.int .i64 ((s.log2 : Nat) + 1)) ∧ w = w' := by
  subst hy
  refine (bits_any s (by omega) (by omega) w).mono ?_
  rintro e w' ⟨rfl, rfl⟩
  exact ⟨by rw [Fp.bl_log2 s h0 hs], rfl⟩

theorem maker64 (w : World) : Calls Try.prog 20 #[.int .u64 11, .int .u64 52] w fun e w' => Makes 11 52 1023 w e w' := by
  go_enter Try.func20, Try.ntmps20
  go_wp2
  all_goals go_ret
  exact ⟨_, _, _, rfl, by rw [World.cell?_alloc_lt _ _ _ (by simp <;> omega), World.cell?_alloc_lt _ _ _ (by simp)]; simp [World.cell?_alloc_at],
    by rw [World.cell?_alloc_lt _ _ _ (by simp)]; simp [World.cell?_alloc_at], by simp [World.cell?_alloc_at],
    (((Grown.refl _).alloc _ _).alloc _ _).alloc _ _⟩

theorem make64 (n : Int) (h0 : -9223372036854775808 ≤ n) (h1 : n ≤ 9223372036854775807) (a b c : Nat) (w : World)
    (ha : w.cell? ⟨a, 0, none⟩ = some (.int .u64 11)) (hb : w.cell? ⟨b, 0, none⟩ = some (.int .u64 52)) (hc : w.cell? ⟨c, 0, none⟩ = some (.int .u64 1023)) :
    Calls Try.prog 28 #[.int .i64 n, .pointer (some ⟨a, 0, none⟩), .pointer (some ⟨b, 0, none⟩), .pointer (some ⟨c, 0, none⟩)] w fun e w' => e = .returned (.int .u64 (Fp.fp 11 52 1023 n : Nat)) ∧ w = w' := by
  by_cases hn : n = 0
  · subst hn
    go_enter Try.func28, Try.ntmps28
    go_wp2
    all_goals go_ret
    exact ⟨by simp [Fp.fp, Fp.mag], rfl⟩
  · obtain ⟨s, hs⟩ : ∃ s, s = n.natAbs := ⟨_, rfl⟩
    have s0 : s ≠ 0 := by omega
    have s1 : s < 18446744073709551616 := by omega
    have p1 := Fp.log2_hi (s := s) s1
    have m1 := Fp.mv_le s0 52
    have MV := Lib.hid (moved_at s 52)
    have BT := Lib.hid (bits_at s)
    have FF : Hid (Fp.fp 11 52 1023 n = if n < 0 then 2 ^ 63 + ((1023 + s.log2 - 1) * 2 ^ 52 + Fp.mv s s.log2 52) else (1023 + s.log2 - 1) * 2 ^ 52 + Fp.mv s s.log2 52) := Lib.hid (by
      unfold Fp.fp Fp.mag; rw [← hs, if_neg s0])
    generalize hM : Fp.mv s s.log2 52 = M at *
    generalize hp : s.log2 = p at *
    clear hM hp
    by_cases ng : n < 0
    · have hs' : n = -(s : Int) := by omega
      clear hs
      go_enter Try.func28, Try.ntmps28
      go_wp2_with fail
      refine (BT.out _ (by first | rfl | omega | (simp only [IntKind.wrap_u64]; omega)) s0 s1 _).mono ?_
      rintro e w1 ⟨rfl, rfl⟩
      go_wp2_with fail
      refine (MV.out _ _ (by first | rfl | omega | (simp only [IntKind.wrap_u64]; omega)) (by first | rfl | omega | (simp only [IntKind.wrap_u64]; omega)) s0 s1 (by decide) _).mono ?_
      rintro e w1 ⟨rfl, rfl⟩
      go_wp2_with fail
      all_goals go_ret
      refine ⟨retInt ?_, rfl⟩
      rw [FF.out, if_pos ng]
      first | omega | (simp only [IntKind.wrap_u64]; omega)
    · have hs' : n = (s : Int) := by omega
      clear hs
      go_enter Try.func28, Try.ntmps28
      go_wp2_with fail
      refine (BT.out _ (by first | rfl | omega | (simp only [IntKind.wrap_u64]; omega)) s0 s1 _).mono ?_
      rintro e w1 ⟨rfl, rfl⟩
      go_wp2_with fail
      refine (MV.out _ _ (by first | rfl | omega | (simp only [IntKind.wrap_u64]; omega)) (by first | rfl | omega | (simp only [IntKind.wrap_u64]; omega)) s0 s1 (by decide) _).mono ?_
      rintro e w1 ⟨rfl, rfl⟩
      go_wp2_with fail
      all_goals go_ret
      refine ⟨retInt ?_, rfl⟩
      rw [FF.out, if_neg (by omega)]
      first | omega | (simp only [IntKind.wrap_u64]; omega)

theorem maker32 (w : World) : Calls Try.prog 20 #[.int .u64 8, .int .u64 23] w fun e w' => Makes 8 23 127 w e w' := by
  go_enter Try.func20, Try.ntmps20
  go_wp2
  all_goals go_ret
  exact ⟨_, _, _, rfl, by rw [World.cell?_alloc_lt _ _ _ (by simp <;> omega), World.cell?_alloc_lt _ _ _ (by simp)]; simp [World.cell?_alloc_at],
    by rw [World.cell?_alloc_lt _ _ _ (by simp)]; simp [World.cell?_alloc_at], by simp [World.cell?_alloc_at],
    (((Grown.refl _).alloc _ _).alloc _ _).alloc _ _⟩

theorem make32 (n : Int) (h0 : -9223372036854775808 ≤ n) (h1 : n ≤ 9223372036854775807) (a b c : Nat) (w : World)
    (ha : w.cell? ⟨a, 0, none⟩ = some (.int .u64 8)) (hb : w.cell? ⟨b, 0, none⟩ = some (.int .u64 23)) (hc : w.cell? ⟨c, 0, none⟩ = some (.int .u64 127)) :
    Calls Try.prog 28 #[.int .i64 n, .pointer (some ⟨a, 0, none⟩), .pointer (some ⟨b, 0, none⟩), .pointer (some ⟨c, 0, none⟩)] w fun e w' => e = .returned (.int .u64 (Fp.fp 8 23 127 n : Nat)) ∧ w = w' := by
  by_cases hn : n = 0
  · subst hn
    go_enter Try.func28, Try.ntmps28
    go_wp2
    all_goals go_ret
    exact ⟨by simp [Fp.fp, Fp.mag], rfl⟩
  · obtain ⟨s, hs⟩ : ∃ s, s = n.natAbs := ⟨_, rfl⟩
    have s0 : s ≠ 0 := by omega
    have s1 : s < 18446744073709551616 := by omega
    have p1 := Fp.log2_hi (s := s) s1
    have m1 := Fp.mv_le s0 23
    have MV := Lib.hid (moved_at s 23)
    have BT := Lib.hid (bits_at s)
    have FF : Hid (Fp.fp 8 23 127 n = if n < 0 then 2 ^ 31 + ((127 + s.log2 - 1) * 2 ^ 23 + Fp.mv s s.log2 23) else (127 + s.log2 - 1) * 2 ^ 23 + Fp.mv s s.log2 23) := Lib.hid (by
      unfold Fp.fp Fp.mag; rw [← hs, if_neg s0])
    generalize hM : Fp.mv s s.log2 23 = M at *
    generalize hp : s.log2 = p at *
    clear hM hp
    by_cases ng : n < 0
    · have hs' : n = -(s : Int) := by omega
      clear hs
      go_enter Try.func28, Try.ntmps28
      go_wp2_with fail
      refine (BT.out _ (by first | rfl | omega | (simp only [IntKind.wrap_u64]; omega)) s0 s1 _).mono ?_
      rintro e w1 ⟨rfl, rfl⟩
      go_wp2_with fail
      refine (MV.out _ _ (by first | rfl | omega | (simp only [IntKind.wrap_u64]; omega)) (by first | rfl | omega | (simp only [IntKind.wrap_u64]; omega)) s0 s1 (by decide) _).mono ?_
      rintro e w1 ⟨rfl, rfl⟩
      go_wp2_with fail
      all_goals go_ret
      refine ⟨retInt ?_, rfl⟩
      rw [FF.out, if_pos ng]
      first | omega | (simp only [IntKind.wrap_u64]; omega)
    · have hs' : n = (s : Int) := by omega
      clear hs
      go_enter Try.func28, Try.ntmps28
      go_wp2_with fail
      refine (BT.out _ (by first | rfl | omega | (simp only [IntKind.wrap_u64]; omega)) s0 s1 _).mono ?_
      rintro e w1 ⟨rfl, rfl⟩
      go_wp2_with fail
      refine (MV.out _ _ (by first | rfl | omega | (simp only [IntKind.wrap_u64]; omega)) (by first | rfl | omega | (simp only [IntKind.wrap_u64]; omega)) s0 s1 (by decide) _).mono ?_
      rintro e w1 ⟨rfl, rfl⟩
      go_wp2_with fail
      all_goals go_ret
      refine ⟨retInt ?_, rfl⟩
      rw [FF.out, if_neg (by omega)]
      first | omega | (simp only [IntKind.wrap_u64]; omega)

theorem grown_trans {a b c : World} (h : Grown a b) (k : Grown b c) : Grown a c :=
  ⟨World.keptBut_trans h.1 k.1, fun x => (k.2.1 x).trans (h.2.1 x), Nat.le_trans h.2.2 k.2.2⟩

theorem Double_any (n : Int) (h0 : -9223372036854775808 ≤ n) (h1 : n ≤ 9223372036854775807) (w : World) :
    Calls Try.prog 7 #[.int .i64 n] w fun e w' => e = .returned (.int .u64 (Fp.fp 11 52 1023 n : Nat)) ∧ Grown w w' := by
  go_enter Try.func7, Try.ntmps7
  go_wp2_with fail
  refine (maker64 _).mono ?_
  rintro e w1 ⟨a, b, c, rfl, ca, cb, cc, hg⟩
  go_wp2_with fail
  refine (make64 n h0 h1 a b c w1 ca cb cc).mono ?_
  rintro e w2 ⟨rfl, rfl⟩
  go_wp2_with fail
  all_goals go_ret
  exact ⟨rfl, hg⟩

theorem Float_any (n : Int) (h0 : -9223372036854775808 ≤ n) (h1 : n ≤ 9223372036854775807) (w : World) :
    Calls Try.prog 9 #[.int .i64 n] w fun e w' => e = .returned (.int .u32 (Fp.fp 8 23 127 n : Nat)) ∧ Grown w w' := by
  have hf := Fp.fp32_lt n h0 h1
  go_enter Try.func9, Try.ntmps9
  go_wp2_with fail
  refine (maker32 _).mono ?_
  rintro e w1 ⟨a, b, c, rfl, ca, cb, cc, hg⟩
  go_wp2_with fail
  refine (make32 n h0 h1 a b c w1 ca cb cc).mono ?_
  rintro e w2 ⟨rfl, rfl⟩
  go_wp2_with fail
  all_goals go_ret
  exact ⟨rfl, hg⟩

theorem small_any (g : Nat) (hg : g < 8388608) (w : World) :
    Calls Try.prog 26 #[.int .u64 g] w fun e w' => e = .returned (.int .u64 (Fp.small g : Nat)) ∧ Grown w w' := by
  by_cases h : g = 0
  · subst h
    go_enter Try.func26, Try.ntmps26
    go_wp2
    all_goals go_ret
    exact ⟨rfl, Grown.refl _⟩
  · have F : Hid (Fp.small g = Fp.fp 11 52 1023 g - 671036344478203904) := Lib.hid (by unfold Fp.small; rw [if_neg h])
    have hp := Fp.fp_pos g h (by omega)
    go_enter Try.func26, Try.ntmps26
    go_wp2_with fail
    refine (Double_any g (by omega) (by omega) _).mono ?_
    rintro e w1 ⟨rfl, hg⟩
    go_wp2_with fail
    all_goals go_ret
    refine ⟨retInt ?_, hg⟩
    rw [F.out]
    first | omega | (simp only [IntKind.wrap_u64]; omega)

theorem small_at (g : Nat) (z : Int) (hz : z = (g : Int)) (hg : g < 8388608) (w : World) :
    Calls Try.prog 26 #[.int .u64 z] w fun e w' => e = .returned (.int .u64 (Fp.small g : Nat)) ∧ Grown w w' := by
  subst hz; exact small_any g hg w

theorem Wide_any (f : Nat) (hf : f < 4294967296) (w : World) :
    Calls Try.prog 14 #[.int .u32 f] w fun e w' => e = .returned (.int .u64 (Fp.wide f : Nat)) ∧ Grown w w' := by
  have hw := Fp.wide_lt f hf
  have X := Fp.and255 f hf
  have c1 : ((f : Int) / 2147483648) = ((f / 2147483648 : Nat) : Int) := by omega
  have c2 : ((f : Int) % 8388608) = ((f % 8388608 : Nat) : Int) := by omega
  by_cases h : f / 8388608 % 256 = 0
  · have q0 : (IntKind.u64.wrap (bits .and .u32 ((f : Int) / 8388608) 255) == 0) = true := by rw [X, h]; rfl
    have F : Hid (Fp.wide f = f / 2147483648 * 9223372036854775808 + Fp.small (f % 8388608)) := Lib.hid (by unfold Fp.wide; rw [if_pos h])
    have C := Lib.hid c1
    have hs := Fp.small_lt (f % 8388608) (by omega)
    clear X c1 c2 h
    go_enter Try.func14, Try.ntmps14
    go_wp2_with fail
    refine (small_at (f % 8388608) _ (by omega) (by omega) _).mono ?_
    rintro e w1 ⟨rfl, hg⟩
    go_wp2_with fail
    all_goals go_ret
    refine ⟨retInt ?_, hg⟩
    rw [F.out, C.out]
    exact Fp.or63 (by omega) hs
  · have q0 : (IntKind.u64.wrap (bits .and .u32 ((f : Int) / 8388608) 255) == 0) = false := by rw [X]; simp; omega
    by_cases h2 : f / 8388608 % 256 = 255
    · have q1 : (IntKind.u64.wrap (bits .and .u32 ((f : Int) / 8388608) 255) == 255) = true := by rw [X, h2]; rfl
      have F : Hid (Fp.wide f = f / 2147483648 * 9223372036854775808 + (2047 * 4503599627370496 + f % 8388608 * 536870912)) := Lib.hid (by unfold Fp.wide; rw [if_neg h, if_pos h2])
      have C := Lib.hid c1; have D := Lib.hid c2
      clear X c1 c2 h h2
      go_enter Try.func14, Try.ntmps14
      go_wp2
      all_goals go_ret
      refine ⟨retInt ?_, Grown.refl _⟩
      rw [F.out, C.out, D.out]
      exact Fp.wide_ones (by omega) (by omega)
    · have q1 : (IntKind.u64.wrap (bits .and .u32 ((f : Int) / 8388608) 255) == 255) = false := by rw [X]; simp; omega
      have F : Hid (Fp.wide f = f / 2147483648 * 9223372036854775808 + ((f / 8388608 % 256 + 896) * 4503599627370496 + f % 8388608 * 536870912)) := Lib.hid (by unfold Fp.wide; rw [if_neg h, if_neg h2])
      have C := Lib.hid c1; have D := Lib.hid c2; have Y := Lib.hid X
      clear X c1 c2 h h2
      go_enter Try.func14, Try.ntmps14
      go_wp2
      all_goals go_ret
      refine ⟨retInt ?_, Grown.refl _⟩
      rw [F.out, C.out, D.out, Y.out]
      have e1 : IntKind.u64.wrap (((f / 8388608 % 256 : Nat) : Int) + 896) = ((f / 8388608 % 256 + 896 : Nat) : Int) := by rw [IntKind.wrap_u64]; omega
      have e2 : IntKind.u64.wrap (((f / 8388608 % 256 + 896 : Nat) : Int) * 4503599627370496) = ((f / 8388608 % 256 + 896 : Nat) : Int) * 4503599627370496 := by rw [IntKind.wrap_u64]; omega
      rw [e1, e2]
      exact Fp.wide_or (by omega) (by omega) (by omega)
end Go.Proofs.Ytcnalkbedcgknaa
