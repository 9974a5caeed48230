/- Layer 6, the code's own calls at every input: Quote. -/
import Derived.Test.YtjebkedlfhapjaaDoorJlexA
import Derived.Test.YtjebkedlfhapjaaDoorJRefG
namespace Go.Proofs.YtjebkedlfhapjaaDoor
open Go.ChangeShapes Go.WideShapes Go.ChangeAt Go.RowKit Mem

theorem place_plain : ∀ x : Nat, x < 256 → (x ≠ 34 ∧ x ≠ 92 ∧ x ≠ 8 ∧ x ≠ 12 ∧ x ≠ 10 ∧ x ≠ 13 ∧ x ≠ 9) → place [34, 92, 8, 12, 10, 13, 9] x = -1 := by
  have h : ∀ x : Fin 256, (x.val ≠ 34 ∧ x.val ≠ 92 ∧ x.val ≠ 8 ∧ x.val ≠ 12 ∧ x.val ≠ 10 ∧ x.val ≠ 13 ∧ x.val ≠ 9) → place [34, 92, 8, 12, 10, 13, 9] x.val = -1 := by decide +kernel
  exact fun x hx => h ⟨x, hx⟩
set_option maxRecDepth 100000 in
set_option maxHeartbeats 4000000 in
theorem quote_any (X : UInt8) (base : Nat) (v : Value) (l : List UInt8) (w : World) (hb : base ≤ w.heap.size) (hown : Own w base 5 v l) (hl : l.length ≤ 500000000) :
    Calls Tryd.prog 62 #[v, .int .u8 (X.toNat : Int)] w (Made base (l ++ Jx.qc X) w) := by
  have P := Lib.hid (fun z (hz : z = (X.toNat : Int)) W => hz ▸ place_any ⟨#[34, 92, 8, 12, 10, 13, 9]⟩ X.toNat W)
  rw [show (⟨#[34, 92, 8, 12, 10, 13, 9]⟩ : ByteArray).data.toList = [34, 92, 8, 12, 10, 13, 9] from rfl] at P
  have x256 := X.toNat_lt
  have pp := place_plain X.toNat x256
  have hX : X = UInt8.ofNat X.toNat := by simp
  rcases Jx.qc_ways X X.toNat rfl with ⟨h, hq⟩ | ⟨h, hq⟩ | ⟨h, hq⟩ | ⟨h, hq⟩ | ⟨h, hq⟩ | ⟨h, hq⟩ | ⟨h, n1, n2, n3, n4, n5, n6, n7, hq⟩ | ⟨h, n1, n2, hq⟩
  · rw [hq]
    rcases h with h | h
    · rw [h] at P hX
      rw [show place [34, 92, 8, 12, 10, 13, 9] 34 = 0 by decide +kernel] at P
      subst hX
      clear pp h hq x256
      go_enter Tryd.func62, Tryd.ntmps62
      go_wp2_with fail
      with_reducible refine (P.out _ (by omega) _).mono ?_
      rintro e w1 ⟨rfl, rfl⟩
      go_wp2_with (at_builtin; refine wpList_appL _ byteT rfl (.tmp 10) (.tmp 13) rfl base _ l rfl hown 2 _ [92, 34] rfl 2 rfl rfl (by simp; omega) hb ?_; intro v3 w3 o3 b3)
      all_goals go_ret
      all_goals exact ⟨_, rfl, o3, b3⟩
    · rw [h] at P hX
      rw [show place [34, 92, 8, 12, 10, 13, 9] 92 = 1 by decide +kernel] at P
      subst hX
      clear pp h hq x256
      go_enter Tryd.func62, Tryd.ntmps62
      go_wp2_with fail
      with_reducible refine (P.out _ (by omega) _).mono ?_
      rintro e w1 ⟨rfl, rfl⟩
      go_wp2_with (at_builtin; refine wpList_appL _ byteT rfl (.tmp 10) (.tmp 13) rfl base _ l rfl hown 2 _ [92, 92] rfl 2 rfl rfl (by simp; omega) hb ?_; intro v3 w3 o3 b3)
      all_goals go_ret
      all_goals exact ⟨_, rfl, o3, b3⟩
  · rw [hq]
    rw [h] at P hX
    rw [show place [34, 92, 8, 12, 10, 13, 9] 8 = 2 by decide +kernel] at P
    subst hX
    clear pp h hq x256
    go_enter Tryd.func62, Tryd.ntmps62
    go_wp2_with fail
    with_reducible refine (P.out _ (by omega) _).mono ?_
    rintro e w1 ⟨rfl, rfl⟩
    go_wp2_with (at_builtin; refine wpList_appL _ byteT rfl (.tmp 10) (.tmp 13) rfl base _ l rfl hown 2 _ [92, 98] rfl 2 rfl rfl (by simp; omega) hb ?_; intro v3 w3 o3 b3)
    all_goals go_ret
    all_goals exact ⟨_, rfl, o3, b3⟩
  · rw [hq]
    rw [h] at P hX
    rw [show place [34, 92, 8, 12, 10, 13, 9] 12 = 3 by decide +kernel] at P
    subst hX
    clear pp h hq x256
    go_enter Tryd.func62, Tryd.ntmps62
    go_wp2_with fail
    with_reducible refine (P.out _ (by omega) _).mono ?_
    rintro e w1 ⟨rfl, rfl⟩
    go_wp2_with (at_builtin; refine wpList_appL _ byteT rfl (.tmp 10) (.tmp 13) rfl base _ l rfl hown 2 _ [92, 102] rfl 2 rfl rfl (by simp; omega) hb ?_; intro v3 w3 o3 b3)
    all_goals go_ret
    all_goals exact ⟨_, rfl, o3, b3⟩
  · rw [hq]
    rw [h] at P hX
    rw [show place [34, 92, 8, 12, 10, 13, 9] 10 = 4 by decide +kernel] at P
    subst hX
    clear pp h hq x256
    go_enter Tryd.func62, Tryd.ntmps62
    go_wp2_with fail
    with_reducible refine (P.out _ (by omega) _).mono ?_
    rintro e w1 ⟨rfl, rfl⟩
    go_wp2_with (at_builtin; refine wpList_appL _ byteT rfl (.tmp 10) (.tmp 13) rfl base _ l rfl hown 2 _ [92, 110] rfl 2 rfl rfl (by simp; omega) hb ?_; intro v3 w3 o3 b3)
    all_goals go_ret
    all_goals exact ⟨_, rfl, o3, b3⟩
  · rw [hq]
    rw [h] at P hX
    rw [show place [34, 92, 8, 12, 10, 13, 9] 13 = 5 by decide +kernel] at P
    subst hX
    clear pp h hq x256
    go_enter Tryd.func62, Tryd.ntmps62
    go_wp2_with fail
    with_reducible refine (P.out _ (by omega) _).mono ?_
    rintro e w1 ⟨rfl, rfl⟩
    go_wp2_with (at_builtin; refine wpList_appL _ byteT rfl (.tmp 10) (.tmp 13) rfl base _ l rfl hown 2 _ [92, 114] rfl 2 rfl rfl (by simp; omega) hb ?_; intro v3 w3 o3 b3)
    all_goals go_ret
    all_goals exact ⟨_, rfl, o3, b3⟩
  · rw [hq]
    rw [h] at P hX
    rw [show place [34, 92, 8, 12, 10, 13, 9] 9 = 6 by decide +kernel] at P
    subst hX
    clear pp h hq x256
    go_enter Tryd.func62, Tryd.ntmps62
    go_wp2_with fail
    with_reducible refine (P.out _ (by omega) _).mono ?_
    rintro e w1 ⟨rfl, rfl⟩
    go_wp2_with (at_builtin; refine wpList_appL _ byteT rfl (.tmp 10) (.tmp 13) rfl base _ l rfl hown 2 _ [92, 116] rfl 2 rfl rfl (by simp; omega) hb ?_; intro v3 w3 o3 b3)
    all_goals go_ret
    all_goals exact ⟨_, rfl, o3, b3⟩
  · rw [hq]
    rw [pp (by omega)] at P
    obtain ⟨c, hc⟩ : ∃ c, c = X.toNat := ⟨_, rfl⟩
    rw [← hc] at P h ⊢
    have h3 : (c : Int) < 32 := by omega
    clear pp hX hq n1 n2 n3 n4 n5 n6 n7 x256 hc
    obtain ⟨PX, hP0⟩ : ∃ P, P = c / 16 := ⟨_, rfl⟩
    obtain ⟨O, hO0⟩ : ∃ O, O = c % 16 := ⟨_, rfl⟩
    have p16 : PX < 16 := by omega
    have o16 : O < 16 := by omega
    rw [← hP0, ← hO0, hex_at PX p16, hex_at O o16]
    go_enter Tryd.func62, Tryd.ntmps62
    go_wp2_with fail
    with_reducible refine (P.out _ (by omega) _).mono ?_
    rintro e w1 ⟨rfl, rfl⟩
    go_wp2_with fail
    have hP : (c : Int) / 16 = (PX : Int) := by omega
    have hO : (c : Int) % 16 = (O : Int) := by omega
    have hO2 : ((c : Int)).tmod 16 = (O : Int) := by rw [Int.tmod_eq_emod_of_nonneg (Int.natCast_nonneg _)]; exact hO
    have hP2 : ((c : Int)).tdiv 16 = (PX : Int) := by rw [Int.tdiv_eq_ediv_of_nonneg (Int.natCast_nonneg _)]; exact hP
    have p16i : (PX : Int) < 16 := by omega
    have o16i : (O : Int) < 16 := by omega
    clear hP0 hO0
    have wP : IntKind.u8.wrap (PX : Int) = (PX : Int) := wrapU8 (by omega)
    have wO : IntKind.u8.wrap (O : Int) = (O : Int) := wrapU8 (by omega)
    go_region_held_law (fun _ => True) (trivial) (first | (refine step_appL _ byteT (by rfl) (some 25) rfl (.tmp 17) (.tmp 24) rfl base _ l rfl hown 6 _ [92, 117, 48, 48, (⟨#[48, 49, 50, 51, 52, 53, 54, 55, 56, 57, 97, 98, 99, 100, 101, 102]⟩ : ByteArray)[PX]'p16, (⟨#[48, 49, 50, 51, 52, 53, 54, 55, 56, 57, 97, 98, 99, 100, 101, 102]⟩ : ByteArray)[O]'o16] rfl 6 rfl rfl (by simp; omega) hb ?_; intro v3 w3 o3 b3))
    all_goals
      clear hP hO hO2 hP2 wP wO
      go_wp2_with fail
      go_ret
      exact ⟨_, rfl, o3, b3⟩
  · rw [hq]
    rw [pp (by omega)] at P
    have h3 : ¬ (X.toNat : Int) < 32 := by omega
    clear pp hX hq n1 n2
    go_enter Tryd.func62, Tryd.ntmps62
    go_wp2_with fail
    with_reducible refine (P.out _ (by omega) _).mono ?_
    rintro e w1 ⟨rfl, rfl⟩
    go_wp2_with (at_builtin; refine wpList_appL _ byteT rfl (.tmp 26) (.tmp 28) rfl base _ l rfl hown 1 _ [X] rfl 1 rfl rfl (by simp; omega) hb ?_; intro v3 w3 o3 b3)
    all_goals go_ret
    all_goals exact ⟨_, rfl, o3, b3⟩

set_option maxRecDepth 100000 in
set_option maxHeartbeats 4000000 in
theorem jQuote_any (s : ByteArray) (base : Nat) (v : Value) (l : List UInt8) (w : World) (hs : s.size ≤ 10000000) (hb : base ≤ w.heap.size) (hown : Own w base 5 v l) (hl : l.length ≤ 100000000) :
    Calls Tryd.prog 49 #[v, .string s] w (Made base (l ++ Jx.quo s.data.toList) w) := by
  have sn := fun k h => Jx.qb_snoc (s := s.data.toList) (k := k) h
  have len : s.data.toList.length = s.size := by simp
  rw [len] at sn
  have SN0 := Lib.hid sn
  have LEN := Lib.hid len
  have ALL : Hid (s.data.toList.take s.size = s.data.toList) := List.take_of_length_le (by omega)
  clear sn len
  go_enter Tryd.func49, Tryd.ntmps49
  go_wp2_with (at_builtin; refine wpList_appL _ byteT rfl (.tmp 6) (.tmp 7) rfl base _ l rfl hown 1 _ [34] rfl 1 rfl rfl (by simp; omega) hb ?_; intro v1 w1 o1 b1)
  have s1 := b1.size
  go_loopw [0, 11] (fun v t wr => ∃ (k : Nat) (d : List UInt8), k ≤ s.size ∧ t = .int .i64 (k : Int) ∧ Own wr base 5 v d ∧ Hid (d = l ++ 34 :: Jx.qb (s.data.toList.take k)) ∧ Below base w wr) (fun _ t _ => s.size - (intOf t).toNat)
  case atStart => exact ⟨0, l ++ [34], Nat.zero_le _, rfl, o1, rfl, b1⟩
  case round =>
    obtain ⟨k, d, hk, rfl, ow, D, bl⟩ := hrel
    have gsz := bl.size
    have dl : d.length ≤ l.length + 1 + 6 * s.size := by
      have a := Jx.qb_len (s.data.toList.take k)
      have b : (s.data.toList.take k).length ≤ s.size := by rw [List.length_take, LEN.out]; omega
      rw [D.out, List.length_append, List.length_cons]; omega
    by_cases hlt : k < s.size
    · have sn := SN0.out k hlt
      rw [str_at s k hlt] at sn
      have Q := Lib.hid (quote_any s[k] base _ d wr (by omega) ow (by omega))
      have DN : Hid (d ++ Jx.qc s[k] = l ++ 34 :: Jx.qb (s.data.toList.take (k + 1))) := by show _ = _; rw [sn, D.out]; simp
      clear sn o1 b1
      go_wp2_with fail
      with_reducible refine Q.out.mono ?_
      rintro e w2 ⟨v2, rfl, o2, b2⟩
      go_wp2_with fail
      go_roundw
      case rel => exact ⟨k + 1, d ++ Jx.qc s[k], by omega, by go_num, o2, DN, bl.trans b2⟩
      case measure => simp [intOf]; omega
    · obtain rfl : k = s.size := by omega
      have DE : Hid (d ++ [34] = l ++ Jx.quo s.data.toList) := by show _ = _; rw [D.out, ALL.out]; simp [Jx.quo]
      clear o1 b1
      go_wp2_with (at_builtin; refine wpList_appL _ byteT rfl (.tmp 20) (.tmp 21) rfl base _ d rfl ow 1 _ [34] rfl 1 rfl rfl (by simp; omega) (by omega) ?_; intro v3 w3 o3 b3)
      all_goals go_ret
      all_goals exact ⟨_, rfl, by rw [← DE.out]; exact o3, bl.trans b3⟩
end Go.Proofs.YtjebkedlfhapjaaDoor
