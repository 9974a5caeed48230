/- Take, TakeInt, and the document's own answers, at every input. -/
import Derived.Test.YtjebhbjffofjnaaDoorVarintB
import Derived.Test.YtjebhbjffofjnaaDoorVarNum2
namespace Go.Proofs.YtjebhbjffofjnaaDoor
open Go.ChangeShapes Go.WideShapes Go.ChangeAt Go.RowKit Mem

/-- What a call answers: a number, a place, an error; below all is as it was. -/
def Says (n next : Int) (e : Nat) (w : World) (x : Ending) (w' : World) : Prop :=
  x = .returned (.tuple #[.int .i64 n, .int .i64 next, .int .i64 (e : Int)]) ∧ Below w.heap.size w w'

theorem fit10 : Hid (128 ^ (10 - 1) * (1 + 1) ≤ 18446744073709551616) := by unfold Hid; decide
theorem fit5 : Hid (128 ^ (5 - 1) * (15 + 1) ≤ 18446744073709551616) := by unfold Hid; decide
theorem At.lt {most top : Nat} {l : List UInt8} {at_ : Int} (ht : top < 128) : (At most top l at_).1 < 128 ^ (most - 1) * (top + 1) := by
  have pos : 0 < 128 ^ (most - 1) * (top + 1) := Nat.mul_pos (Nat.pow_pos (by decide)) (by omega)
  unfold At
  split
  · exact pos
  · exact Num.tak_lt (u := (Num.tak most top (l.drop at_.toNat)).1) (c := (Num.tak most top (l.drop at_.toNat)).2.1) (e := (Num.tak most top (l.drop at_.toNat)).2.2) rfl ht

theorem take_all (most top : Nat) (A : Option Addr) (c : Nat) (l : List UInt8) (at_ : Int) (w : World) (hm : 0 < most) (hm2 : most ≤ 10) (ht : top < 128) (hfit : Hid (128 ^ (most - 1) * (top + 1) ≤ 18446744073709551616))
    (hb : Bys w w.heap.size A l) (hl : l.length ≤ 140000000000) :
    Calls Tryd.prog 54 #[.slice A l.length c, .int .i64 at_, .agg #[.int .i64 (most : Int), .int .u8 (top : Int)]] w (Took (At most top l at_) w) := by
  by_cases h : at_ < 0 ∨ (l.length : Int) < at_
  · rw [At.bad h]; exact take_bad most top A c l at_ w h
  · obtain ⟨k, rfl⟩ := Int.eq_ofNat_of_zero_le (a := at_) (by omega)
    rw [At.good (by omega) rfl]; exact take_good most top A c l k w hm hm2 ht hfit hb hl (by omega)

theorem Take_any (A : Option Addr) (c : Nat) (l : List UInt8) (at_ : Int) (w : World) (hb : Bys w w.heap.size A l) (hl : l.length ≤ 140000000000) :
    Calls Tryd.prog 50 #[.slice A l.length c, .int .i64 at_] w (Says (Num.zag ((At 10 1 l at_).1 : Int)) (At 10 1 l at_).2.1 (At 10 1 l at_).2.2 w) := by
  have lt := At.lt (most := 10) (top := 1) (l := l) (at_ := at_) (by decide)
  have tk := take_all 10 1 A c l at_ w (by decide) (by decide) (by decide) fit10 hb hl
  obtain ⟨⟨u, next, e⟩, hr⟩ : ∃ r, r = At 10 1 l at_ := ⟨_, rfl⟩
  rw [← hr] at tk lt ⊢
  clear hr
  have e9 : 128 ^ (10 - 1) * (1 + 1) = 18446744073709551616 := by decide
  rw [e9] at lt
  have z0 : (0 : Int) ≤ (u : Int) := by omega
  have z1 : (u : Int) ≤ 18446744073709551615 := by simp only at lt; omega
  clear lt e9
  go_enter Tryd.func50, Tryd.ntmps50
  go_wp2_with fail
  refine tk.mono ?_
  rintro e w1 ⟨rfl, b1⟩
  go_wp2_with fail
  refine (zag_any _ z0 z1 _).mono ?_
  rintro e w' ⟨rfl, rfl⟩
  go_wp2_with fail
  go_ret3
  exact ⟨rfl, b1⟩

theorem TakeInt_any (A : Option Addr) (c : Nat) (l : List UInt8) (at_ : Int) (w : World) (hb : Bys w w.heap.size A l) (hl : l.length ≤ 140000000000) :
    Calls Tryd.prog 49 #[.slice A l.length c, .int .i64 at_] w (Says (Num.zag ((At 5 15 l at_).1 : Int)) (At 5 15 l at_).2.1 (At 5 15 l at_).2.2 w) := by
  have lt := At.lt (most := 5) (top := 15) (l := l) (at_ := at_) (by decide)
  have tk := take_all 5 15 A c l at_ w (by decide) (by decide) (by decide) fit5 hb hl
  obtain ⟨⟨u, next, e⟩, hr⟩ : ∃ r, r = At 5 15 l at_ := ⟨_, rfl⟩
  rw [← hr] at tk lt ⊢
  clear hr
  have e9 : 128 ^ (5 - 1) * (15 + 1) = 4294967296 := by decide
  rw [e9] at lt
  have z0 : (0 : Int) ≤ (u : Int) := by omega
  have z1 : (u : Int) ≤ 4294967295 := by simp only at lt; omega
  have y0 := Num.zag_lo32 z0 z1
  have y1 := Num.zag_hi32 z0 z1
  clear lt e9
  go_enter Tryd.func49, Tryd.ntmps49
  go_wp2_with fail
  refine tk.mono ?_
  rintro e w1 ⟨rfl, b1⟩
  go_wp2_with fail
  refine (zag32_any _ z0 z1 _).mono ?_
  rintro e w' ⟨rfl, rfl⟩
  go_wp2_with fail
  go_ret3
  exact ⟨rfl, b1⟩

def Same3 (n next : Int) (e : Nat) (w : World) (x : Ending) (w' : World) : Prop :=
  x = .returned (.tuple #[.int .i64 n, .int .i64 next, .int .i64 (e : Int)]) ∧ w = w'

theorem rtake_bad (most top : Nat) (A : Option Addr) (c : Nat) (l : List UInt8) (at_ : Int) (w : World) (h : at_ < 0 ∨ (l.length : Int) < at_) :
    Calls Tryd.prog 52 #[.slice A l.length c, .int .i64 at_, .int .i64 (most : Int), .int .u8 (top : Int)] w (Same3 0 at_ 2 w) := by
  by_cases h1 : at_ < 0
  · clear h
    go_enter Tryd.func52, Tryd.ntmps52
    go_wp2_with fail
    go_ret3
    exact ⟨rfl, rfl⟩
  · have h2 : (l.length : Int) < at_ := by omega
    clear h
    go_enter Tryd.func52, Tryd.ntmps52
    go_wp2_with fail
    go_ret3
    exact ⟨rfl, rfl⟩

set_option maxRecDepth 100000 in
set_option maxHeartbeats 1000000 in
theorem rtake_good (most top : Nat) (A : Option Addr) (c : Nat) (l : List UInt8) (k : Nat) (w : World) (hm : 0 < most) (hm2 : most ≤ 10) (ht : top < 128) (hfit : Hid (128 ^ (most - 1) * (top + 1) ≤ 18446744073709551616))
    (hb : Bys w w.heap.size A l) (hl : l.length ≤ 140000000000) (hk : k ≤ l.length) :
    Calls Tryd.prog 52 #[.slice A l.length c, .int .i64 (k : Int), .int .i64 (most : Int), .int .u8 (top : Int)] w
      (Same3 (Num.zag ((Num.tak most top (l.drop k)).1 : Int)) ((k : Int) + ((Num.tak most top (l.drop k)).2.1 : Int)) (Num.tak most top (l.drop k)).2.2 w) := by
  obtain ⟨L, hL⟩ : ∃ L, L = l.drop k := ⟨_, rfl⟩
  rw [← hL]
  have len : L.length = l.length - k := by rw [hL, List.length_drop]
  have at_ : ∀ i, L.getD i 0 = l.getD (k + i) 0 := fun i => by rw [hL]; simp [List.getD, List.getElem?_drop]
  clear hL
  obtain ⟨N, hN⟩ : ∃ N, N = Num.cnt (most - 1) L := ⟨_, rfl⟩
  have a1 := Num.cnt_le (most - 1) L
  have a2 := Num.cnt_le_len (most - 1) L
  have bigs := Num.cnt_big (most - 1) L
  have ends := Num.cnt_end (most - 1) L
  rw [← hN] at a1 a2 bigs ends
  have HN := Lib.hid hN
  have AT := Lib.hid at_
  have LEN := Lib.hid len
  have BIGS := Lib.hid bigs
  have ENDS := Lib.hid ends
  rw [len] at a2
  clear hN at_ len bigs ends
  have t1 : (0 : Int) ≤ (k : Int) := by omega
  have t2 : ¬ (l.length : Int) < (k : Int) := by omega
  have cell : ∀ j, k + j < l.length → ∃ b off, A = some ⟨b, off, none⟩ ∧ w.cell? ⟨b, off + (k + j), none⟩ = some (.int .u8 ((L.getD j 0).toNat : Int)) := fun j hlt => by
    rcases hb with h | ⟨b, off, rfl, hb, hc⟩
    · subst h; simp at hlt
    · exact ⟨b, off, rfl, by rw [AT.out j]; exact hc _ hlt⟩
  have CELL := Lib.hid cell
  clear cell
  go_enter Tryd.func52, Tryd.ntmps52
  go_wp2_with fail
  go_loop [11] (fun n => ∃ j : Nat, j ≤ N ∧ n = .int .i64 (j : Int)) (fun n => N - (intOf n).toNat)
  case atStart => exact ⟨0, by omega, rfl⟩
  case round =>
    obtain ⟨j, g0, rfl⟩ := hrel
    by_cases hj : j < N
    · obtain ⟨b, off, rfl, hc⟩ := CELL.out j (by omega)
      have big : 128 ≤ (L.getD j 0).toNat := BIGS.out j hj
      have lt := (L.getD j 0).toNat_lt
      obtain ⟨X, hX⟩ : ∃ X, X = (L.getD j 0).toNat := ⟨_, rfl⟩
      rw [← hX] at hc big lt
      clear hX
      have i1 : (0 : Int) ≤ (k : Int) + (j : Int) := by omega
      have i2 : (k : Int) + (j : Int) < (l.length : Int) := by omega
      have i3 : (j : Int) < (most : Int) - 1 := by omega
      have i4 : (128 : Int) ≤ (X : Int) := by omega
      go_wp2_with fail
      go_round
      case rel => exact ⟨j + 1, by omega, by go_num⟩
      case measure => simp [intOf]; omega
    · obtain rfl : j = N := by omega
      by_cases hend : k + j = l.length
      · have T := Lib.hid (Num.tak_short (most := most) (top := top) HN.out (by rw [LEN.out]; omega))
        have i2 : ¬ (k : Int) + (j : Int) < (l.length : Int) := by omega
        have i3 : ((k : Int) + (j : Int) == (l.length : Int)) = true := by simp; omega
        clear hend
        go_wp2_with fail
        go_ret3
        exact ⟨by rw [T.out]; simp [Num.zag], rfl⟩
      · have Llt : j < L.length := by rw [LEN.out]; omega
        obtain ⟨b, off, rfl, hc⟩ := CELL.out j (by omega)
        have lt := (L.getD j 0).toNat_lt
        have en := ENDS.out
        obtain ⟨X, hX⟩ : ∃ X, X = (L.getD j 0).toNat := ⟨_, rfl⟩
        rw [← hX] at hc lt en
        have HX := Lib.hid hX
        have EN := Lib.hid en
        have vst : X < 128 → X = Num.val (j + 1 - j) (L.drop j) := fun h => by
          rw [show j + 1 - j = 0 + 1 by omega, Num.val_snoc]
          simp only [Num.val, Nat.pow_zero, List.getD, List.getElem?_drop, Nat.add_zero]
          have := hX
          simp only [List.getD] at this
          omega
        clear hX en
        have i1 : (0 : Int) ≤ (k : Int) + (j : Int) := by omega
        have i2 : (k : Int) + (j : Int) < (l.length : Int) := by omega
        have i5 : ((k : Int) + (j : Int) == (l.length : Int)) = false := by simp; omega
        by_cases f1 : j = most - 1
        · have q1 : ((j : Int) == (most : Int) - 1) = true := by simp; omega
          have i3 : ¬ (j : Int) < (most : Int) - 1 := by omega
          by_cases f2 : top < X
          · have T := Lib.hid (Num.tak_form (most := most) (top := top) HN.out Llt HX.out (.inl ⟨f1, f2⟩))
            have q2 : (top : Int) < (X : Int) := by omega
            clear f1 vst
            go_wp2_with fail
            go_ret3
            exact ⟨by rw [T.out]; simp [Num.zag], rfl⟩
          · have q2 : ¬ (top : Int) < (X : Int) := by omega
            have VST := Lib.hid (vst (by omega))
            clear vst
            by_cases f3 : 0 < j ∧ X = 0
            · have T := Lib.hid (Num.tak_form (most := most) (top := top) HN.out Llt HX.out (.inr f3))
              obtain ⟨f4, f5⟩ := f3
              have q3 : (0 : Int) < (j : Int) := by omega
              have q4 : ((X : Int) == 0) = true := by simp; omega
              clear f1 f5
              go_wp2_with fail
              go_ret3
              exact ⟨by rw [T.out]; simp [Num.zag], rfl⟩
            · have T := Lib.hid (Num.tak_ok (most := most) (top := top) HN.out Llt HX.out (by omega))
              by_cases f4 : 0 < j
              · have q4 : ((X : Int) == 0) = false := by simp; omega
                clear f1 f3
                have FIT : Hid (Num.val (j + 1) L < 18446744073709551616) := Nat.lt_of_lt_of_le (Num.tak_lt T.out ht) hfit.out
                go_wp2_with fail
                go_loop [13, 14] (fun u n => ∃ m : Nat, m ≤ j ∧ n = .int .i64 ((m : Int) - 1) ∧ ∃ v : Nat, Hid (v = Num.val (j + 1 - m) (L.drop m)) ∧ v ≤ 18446744073709551615 ∧ u = .int .u64 (v : Int)) (fun _ n => (intOf n + 1).toNat)
                case atStart => exact ⟨j, by omega, by go_num, X, VST.out, by omega, rfl⟩
                case round =>
                  obtain ⟨m, g1, rfl, v, hv, v1, rfl⟩ := hrel
                  by_cases hm0 : m = 0
                  · subst hm0
                    have V0 : Hid (v = Num.val (j + 1) L) := by have := hv.out; unfold Hid; simpa using this
                    have v0 : (0 : Int) ≤ (v : Int) := by omega
                    clear hv
                    go_wp2_with fail
                    refine (rzag_any _ v0 (by omega) _).mono ?_
                    rintro e w' ⟨rfl, rfl⟩
                    go_wp2_with fail
                    go_ret3
                    exact ⟨by rw [T.out, V0.out]; simp; omega, rfl⟩
                  · obtain ⟨i, rfl⟩ : ∃ i, m = i + 1 := ⟨m - 1, by omega⟩
                    obtain ⟨b', off', eA, hci⟩ := CELL.out i (by omega)
                    injection eA with eA
                    injection eA with e1 e2
                    subst e1 e2
                    have lti := (L.getD i 0).toNat_lt
                    have back := Num.val_back (l := L) (N := j) (i := i) (by omega) Llt
                    have tail := Num.val_tail_le L (j + 1 - i) i
                    obtain ⟨Y, hY⟩ : ∃ Y, Y = (L.getD i 0).toNat := ⟨_, rfl⟩
                    rw [← hY] at hci lti back
                    have nx : v * 128 + Y % 128 = Num.val (j + 1 - i) (L.drop i) ∧ v * 128 + Y % 128 < 18446744073709551616 := by
                      have h1 := hv.out
                      rw [show j + 1 - (i + 1) = j - i by omega] at h1
                      rw [← h1] at back
                      rw [show j + 1 - i + i = j + 1 by omega] at tail
                      have := FIT.out
                      omega
                    have NX := Lib.hid nx.1
                    have nx2 := nx.2
                    clear nx hY back tail hv
                    have k1 : (0 : Int) ≤ (k : Int) + (i : Int) := by omega
                    have k2 : (k : Int) + (i : Int) < (l.length : Int) := by omega
                    have k3 : (0 : Int) ≤ (v : Int) * 128 := by omega
                    have k4 : (v : Int) * 128 + (Y : Int) % 128 ≤ 18446744073709551615 := by omega
                    go_wp2_with fail
                    go_round
                    case rel => exact ⟨i, by omega, by go_num, v * 128 + Y % 128, NX.out, by omega, rfl⟩
                    case measure => simp [intOf]
              · clear f1 f3
                have FIT : Hid (Num.val (j + 1) L < 18446744073709551616) := Nat.lt_of_lt_of_le (Num.tak_lt T.out ht) hfit.out
                go_wp2_with fail
                go_loop [13, 14] (fun u n => ∃ m : Nat, m ≤ j ∧ n = .int .i64 ((m : Int) - 1) ∧ ∃ v : Nat, Hid (v = Num.val (j + 1 - m) (L.drop m)) ∧ v ≤ 18446744073709551615 ∧ u = .int .u64 (v : Int)) (fun _ n => (intOf n + 1).toNat)
                case atStart => exact ⟨j, by omega, by go_num, X, VST.out, by omega, rfl⟩
                case round =>
                  obtain ⟨m, g1, rfl, v, hv, v1, rfl⟩ := hrel
                  by_cases hm0 : m = 0
                  · subst hm0
                    have V0 : Hid (v = Num.val (j + 1) L) := by have := hv.out; unfold Hid; simpa using this
                    have v0 : (0 : Int) ≤ (v : Int) := by omega
                    clear hv
                    go_wp2_with fail
                    refine (rzag_any _ v0 (by omega) _).mono ?_
                    rintro e w' ⟨rfl, rfl⟩
                    go_wp2_with fail
                    go_ret3
                    exact ⟨by rw [T.out, V0.out]; simp; omega, rfl⟩
                  · obtain ⟨i, rfl⟩ : ∃ i, m = i + 1 := ⟨m - 1, by omega⟩
                    obtain ⟨b', off', eA, hci⟩ := CELL.out i (by omega)
                    injection eA with eA
                    injection eA with e1 e2
                    subst e1 e2
                    have lti := (L.getD i 0).toNat_lt
                    have back := Num.val_back (l := L) (N := j) (i := i) (by omega) Llt
                    have tail := Num.val_tail_le L (j + 1 - i) i
                    obtain ⟨Y, hY⟩ : ∃ Y, Y = (L.getD i 0).toNat := ⟨_, rfl⟩
                    rw [← hY] at hci lti back
                    have nx : v * 128 + Y % 128 = Num.val (j + 1 - i) (L.drop i) ∧ v * 128 + Y % 128 < 18446744073709551616 := by
                      have h1 := hv.out
                      rw [show j + 1 - (i + 1) = j - i by omega] at h1
                      rw [← h1] at back
                      rw [show j + 1 - i + i = j + 1 by omega] at tail
                      have := FIT.out
                      omega
                    have NX := Lib.hid nx.1
                    have nx2 := nx.2
                    clear nx hY back tail hv
                    have k1 : (0 : Int) ≤ (k : Int) + (i : Int) := by omega
                    have k2 : (k : Int) + (i : Int) < (l.length : Int) := by omega
                    have k3 : (0 : Int) ≤ (v : Int) * 128 := by omega
                    have k4 : (v : Int) * 128 + (Y : Int) % 128 ≤ 18446744073709551615 := by omega
                    go_wp2_with fail
                    go_round
                    case rel => exact ⟨i, by omega, by go_num, v * 128 + Y % 128, NX.out, by omega, rfl⟩
                    case measure => simp [intOf]
        · have q1 : ((j : Int) == (most : Int) - 1) = false := by simp; omega
          have q5 : X < 128 := EN.out (by omega) Llt
          have i3 : (j : Int) < (most : Int) - 1 := by omega
          have i4 : ¬ (128 : Int) ≤ (X : Int) := by omega
          have VST := Lib.hid (vst (by omega))
          clear vst
          by_cases f3 : 0 < j ∧ X = 0
          · have T := Lib.hid (Num.tak_form (most := most) (top := top) HN.out Llt HX.out (.inr f3))
            obtain ⟨f4, f5⟩ := f3
            have q3 : (0 : Int) < (j : Int) := by omega
            have q4 : ((X : Int) == 0) = true := by simp; omega
            clear f5
            go_wp2_with fail
            go_ret3
            exact ⟨by rw [T.out]; simp [Num.zag], rfl⟩
          · have T := Lib.hid (Num.tak_ok (most := most) (top := top) HN.out Llt HX.out (by omega))
            by_cases f4 : 0 < j
            · have q4 : ((X : Int) == 0) = false := by simp; omega
              clear f3
              have FIT : Hid (Num.val (j + 1) L < 18446744073709551616) := Nat.lt_of_lt_of_le (Num.tak_lt T.out ht) hfit.out
              go_wp2_with fail
              go_loop [13, 14] (fun u n => ∃ m : Nat, m ≤ j ∧ n = .int .i64 ((m : Int) - 1) ∧ ∃ v : Nat, Hid (v = Num.val (j + 1 - m) (L.drop m)) ∧ v ≤ 18446744073709551615 ∧ u = .int .u64 (v : Int)) (fun _ n => (intOf n + 1).toNat)
              case atStart => exact ⟨j, by omega, by go_num, X, VST.out, by omega, rfl⟩
              case round =>
                obtain ⟨m, g1, rfl, v, hv, v1, rfl⟩ := hrel
                by_cases hm0 : m = 0
                · subst hm0
                  have V0 : Hid (v = Num.val (j + 1) L) := by have := hv.out; unfold Hid; simpa using this
                  have v0 : (0 : Int) ≤ (v : Int) := by omega
                  clear hv
                  go_wp2_with fail
                  refine (rzag_any _ v0 (by omega) _).mono ?_
                  rintro e w' ⟨rfl, rfl⟩
                  go_wp2_with fail
                  go_ret3
                  exact ⟨by rw [T.out, V0.out]; simp; omega, rfl⟩
                · obtain ⟨i, rfl⟩ : ∃ i, m = i + 1 := ⟨m - 1, by omega⟩
                  obtain ⟨b', off', eA, hci⟩ := CELL.out i (by omega)
                  injection eA with eA
                  injection eA with e1 e2
                  subst e1 e2
                  have lti := (L.getD i 0).toNat_lt
                  have back := Num.val_back (l := L) (N := j) (i := i) (by omega) Llt
                  have tail := Num.val_tail_le L (j + 1 - i) i
                  obtain ⟨Y, hY⟩ : ∃ Y, Y = (L.getD i 0).toNat := ⟨_, rfl⟩
                  rw [← hY] at hci lti back
                  have nx : v * 128 + Y % 128 = Num.val (j + 1 - i) (L.drop i) ∧ v * 128 + Y % 128 < 18446744073709551616 := by
                    have h1 := hv.out
                    rw [show j + 1 - (i + 1) = j - i by omega] at h1
                    rw [← h1] at back
                    rw [show j + 1 - i + i = j + 1 by omega] at tail
                    have := FIT.out
                    omega
                  have NX := Lib.hid nx.1
                  have nx2 := nx.2
                  clear nx hY back tail hv
                  have k1 : (0 : Int) ≤ (k : Int) + (i : Int) := by omega
                  have k2 : (k : Int) + (i : Int) < (l.length : Int) := by omega
                  have k3 : (0 : Int) ≤ (v : Int) * 128 := by omega
                  have k4 : (v : Int) * 128 + (Y : Int) % 128 ≤ 18446744073709551615 := by omega
                  go_wp2_with fail
                  go_round
                  case rel => exact ⟨i, by omega, by go_num, v * 128 + Y % 128, NX.out, by omega, rfl⟩
                  case measure => simp [intOf]
            · clear f3
              have FIT : Hid (Num.val (j + 1) L < 18446744073709551616) := Nat.lt_of_lt_of_le (Num.tak_lt T.out ht) hfit.out
              go_wp2_with fail
              go_loop [13, 14] (fun u n => ∃ m : Nat, m ≤ j ∧ n = .int .i64 ((m : Int) - 1) ∧ ∃ v : Nat, Hid (v = Num.val (j + 1 - m) (L.drop m)) ∧ v ≤ 18446744073709551615 ∧ u = .int .u64 (v : Int)) (fun _ n => (intOf n + 1).toNat)
              case atStart => exact ⟨j, by omega, by go_num, X, VST.out, by omega, rfl⟩
              case round =>
                obtain ⟨m, g1, rfl, v, hv, v1, rfl⟩ := hrel
                by_cases hm0 : m = 0
                · subst hm0
                  have V0 : Hid (v = Num.val (j + 1) L) := by have := hv.out; unfold Hid; simpa using this
                  have v0 : (0 : Int) ≤ (v : Int) := by omega
                  clear hv
                  go_wp2_with fail
                  refine (rzag_any _ v0 (by omega) _).mono ?_
                  rintro e w' ⟨rfl, rfl⟩
                  go_wp2_with fail
                  go_ret3
                  exact ⟨by rw [T.out, V0.out]; simp; omega, rfl⟩
                · obtain ⟨i, rfl⟩ : ∃ i, m = i + 1 := ⟨m - 1, by omega⟩
                  obtain ⟨b', off', eA, hci⟩ := CELL.out i (by omega)
                  injection eA with eA
                  injection eA with e1 e2
                  subst e1 e2
                  have lti := (L.getD i 0).toNat_lt
                  have back := Num.val_back (l := L) (N := j) (i := i) (by omega) Llt
                  have tail := Num.val_tail_le L (j + 1 - i) i
                  obtain ⟨Y, hY⟩ : ∃ Y, Y = (L.getD i 0).toNat := ⟨_, rfl⟩
                  rw [← hY] at hci lti back
                  have nx : v * 128 + Y % 128 = Num.val (j + 1 - i) (L.drop i) ∧ v * 128 + Y % 128 < 18446744073709551616 := by
                    have h1 := hv.out
                    rw [show j + 1 - (i + 1) = j - i by omega] at h1
                    rw [← h1] at back
                    rw [show j + 1 - i + i = j + 1 by omega] at tail
                    have := FIT.out
                    omega
                  have NX := Lib.hid nx.1
                  have nx2 := nx.2
                  clear nx hY back tail hv
                  have k1 : (0 : Int) ≤ (k : Int) + (i : Int) := by omega
                  have k2 : (k : Int) + (i : Int) < (l.length : Int) := by omega
                  have k3 : (0 : Int) ≤ (v : Int) * 128 := by omega
                  have k4 : (v : Int) * 128 + (Y : Int) % 128 ≤ 18446744073709551615 := by omega
                  go_wp2_with fail
                  go_round
                  case rel => exact ⟨i, by omega, by go_num, v * 128 + Y % 128, NX.out, by omega, rfl⟩
                  case measure => simp [intOf]

theorem rtake_all (most top : Nat) (A : Option Addr) (c : Nat) (l : List UInt8) (at_ : Int) (w : World) (hm : 0 < most) (hm2 : most ≤ 10) (ht : top < 128) (hfit : Hid (128 ^ (most - 1) * (top + 1) ≤ 18446744073709551616))
    (hb : Bys w w.heap.size A l) (hl : l.length ≤ 140000000000) :
    Calls Tryd.prog 52 #[.slice A l.length c, .int .i64 at_, .int .i64 (most : Int), .int .u8 (top : Int)] w (Same3 (Num.zag ((At most top l at_).1 : Int)) (At most top l at_).2.1 (At most top l at_).2.2 w) := by
  by_cases h : at_ < 0 ∨ (l.length : Int) < at_
  · have z : Num.zag ((0 : Nat) : Int) = 0 := by decide
    rw [At.bad h]
    show Calls _ _ _ _ (Same3 (Num.zag ((0 : Nat) : Int)) at_ 2 w)
    rw [z]
    exact rtake_bad most top A c l at_ w h
  · obtain ⟨k, rfl⟩ := Int.eq_ofNat_of_zero_le (a := at_) (by omega)
    rw [At.good (by omega) rfl]; exact rtake_good most top A c l k w hm hm2 ht hfit hb hl (by omega)



end Go.Proofs.YtjebhbjffofjnaaDoor
