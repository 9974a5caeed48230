/- The document's own answers for layer 6, at every input: Quote. -/
import Derived.Test.YtjebkedlfhapjaaDoorJRef
import Derived.Test.YtjebkedlfhapjaaDoorJNum4
import Derived.Deep.RegionHeldLaw
namespace Go.Proofs.YtjebkedlfhapjaaDoor
open Go.ChangeShapes Go.WideShapes Go.ChangeAt Go.RowKit Mem

theorem own_lit1 (w : World) {base : Nat} (hb : base ≤ w.heap.size) (x : UInt8) : Own (w.alloc (.cells #[.int .u8 (x.toNat : Int)] 5)) base 5 (.slice (some ⟨w.heap.size, 0, none⟩) 1 1) [x] :=
  World.ownsRow_lit w #[.int .u8 (x.toNat : Int)] 1 hb (by decide) rfl
theorem wrapU8 {n : Nat} (h : n < 256) : IntKind.u8.wrap (n : Int) = (n : Int) := by simp [IntKind.wrap, IntKind.bits, IntKind.signed]; omega
/-- A string that a call tells. -/
def Str (l : List UInt8) (w : World) (e : Ending) (w' : World) : Prop := e = .returned (.string ⟨l.toArray⟩) ∧ Below w.heap.size w w'
theorem str_at (s : ByteArray) (k : Nat) (h : k < s.size) : s.data.toList.getD k 0 = s[k] := by
  have h2 : k < s.data.toList.length := by simpa using h
  simp [List.getD, List.getElem?_eq_getElem h2]; rfl
theorem hex_at (k : Nat) (h : k < (⟨#[48, 49, 50, 51, 52, 53, 54, 55, 56, 57, 97, 98, 99, 100, 101, 102]⟩ : ByteArray).size) : Jx.hexd.getD k 0 = (⟨#[48, 49, 50, 51, 52, 53, 54, 55, 56, 57, 97, 98, 99, 100, 101, 102]⟩ : ByteArray)[k] := str_at _ k h

set_option maxRecDepth 100000 in
set_option maxHeartbeats 4000000 in
theorem rjQuote_any (s : ByteArray) (w : World) (hs : s.size ≤ 10000000) :
    Calls Tryd.prog 36 #[.string s] w (Str (Jx.quo s.data.toList) w) := by
  have ol := own_lit1 w (Nat.le_refl _) 34
  have sn := fun k h => Jx.qb_snoc (s := s.data.toList) (k := k) h
  have len : s.data.toList.length = s.size := by simp
  rw [len] at sn
  have SN0 := Lib.hid sn
  have LEN := Lib.hid len
  clear sn len
  go_enter Tryd.func36, Tryd.ntmps36
  go_wp2_with fail
  go_loopw [4, 5] (fun v t wr => ∃ (k : Nat) (d : List UInt8), k ≤ s.size ∧ t = .int .i64 (k : Int) ∧ Own wr w.heap.size 5 v d ∧ Hid (d = 34 :: Jx.qb (s.data.toList.take k)) ∧ Below w.heap.size w wr) (fun _ t _ => s.size - (intOf t).toNat)
  case atStart => exact ⟨0, [34], Nat.zero_le _, rfl, ol, rfl, (Below.refl _ _).alloc (Nat.le_refl _) _⟩
  case round =>
    obtain ⟨k, d, hk, rfl, ow, D, bl⟩ := hrel
    clear ol
    have gsz := bl.size
    have dl : d.length ≤ 1 + 6 * s.size := by
      have a := Jx.qb_len (s.data.toList.take k)
      have b : (s.data.toList.take k).length ≤ s.size := by rw [List.length_take, LEN.out]; omega
      rw [D.out, List.length_cons]; omega
    by_cases hlt : k < s.size
    · have sn := SN0.out k hlt
      rw [str_at s k hlt] at sn
      have SN : Hid (∀ m, Jx.qc s[k] = m → d ++ m = 34 :: Jx.qb (s.data.toList.take (k + 1))) := fun m e => by rw [sn, D.out, e]; rfl
      clear sn
      rcases Jx.qc_ways s[k] s[k].toNat rfl with ⟨h, hq⟩ | ⟨h, hq⟩ | ⟨h, hq⟩ | ⟨h, hq⟩ | ⟨h, hq⟩ | ⟨h, hq⟩ | ⟨h, n1, n2, n3, n4, n5, n6, n7, hq⟩ | ⟨h, n1, n2, hq⟩
      · have hm : s[k].toNat = 34 ∨ s[k].toNat = 92 := h
        clear h
        have HQ := Lib.hid hq
        clear hq
        rcases hm with h | h
        · have q34 : ((s[k].toNat : Int) == 34) = true := by simp; omega
          clear h
          go_wp2_with (at_builtin; refine wpList_appL _ byteT rfl (.tmp 38) (.tmp 40) rfl w.heap.size _ d rfl ow 2 _ [92, s[k]] rfl 2 rfl rfl (by simp; omega) gsz ?_; intro v3 w3 o3 b3)
          go_roundw
          case rel => exact ⟨k + 1, d ++ [92, s[k]], by omega, by go_num, o3, SN.out _ HQ.out, bl.trans b3⟩
          case measure => simp [intOf]; omega
        · have q34 : ((s[k].toNat : Int) == 34) = false := by simp; omega
          have q92 : ((s[k].toNat : Int) == 92) = true := by simp; omega
          clear h
          go_wp2_with (at_builtin; refine wpList_appL _ byteT rfl (.tmp 38) (.tmp 40) rfl w.heap.size _ d rfl ow 2 _ [92, s[k]] rfl 2 rfl rfl (by simp; omega) gsz ?_; intro v3 w3 o3 b3)
          go_roundw
          case rel => exact ⟨k + 1, d ++ [92, s[k]], by omega, by go_num, o3, SN.out _ HQ.out, bl.trans b3⟩
          case measure => simp [intOf]; omega
      · have q34 : ((s[k].toNat : Int) == 34) = false := by simp; omega
        have q92 : ((s[k].toNat : Int) == 92) = false := by simp; omega
        have q8 : ((s[k].toNat : Int) == 8) = true := by simp; omega
        have HQ := Lib.hid hq
        clear h hq
        go_wp2_with (at_builtin; refine wpList_appL _ byteT rfl (.tmp 44) (.tmp 45) rfl w.heap.size _ d rfl ow 2 _ [92, 98] rfl 2 rfl rfl (by simp; omega) gsz ?_; intro v3 w3 o3 b3)
        go_roundw
        case rel => exact ⟨k + 1, d ++ [92, 98], by omega, by go_num, o3, SN.out _ HQ.out, bl.trans b3⟩
        case measure => simp [intOf]; omega
      · have q34 : ((s[k].toNat : Int) == 34) = false := by simp; omega
        have q92 : ((s[k].toNat : Int) == 92) = false := by simp; omega
        have q8 : ((s[k].toNat : Int) == 8) = false := by simp; omega
        have q12 : ((s[k].toNat : Int) == 12) = true := by simp; omega
        have HQ := Lib.hid hq
        clear h hq
        go_wp2_with (at_builtin; refine wpList_appL _ byteT rfl (.tmp 49) (.tmp 50) rfl w.heap.size _ d rfl ow 2 _ [92, 102] rfl 2 rfl rfl (by simp; omega) gsz ?_; intro v3 w3 o3 b3)
        go_roundw
        case rel => exact ⟨k + 1, d ++ [92, 102], by omega, by go_num, o3, SN.out _ HQ.out, bl.trans b3⟩
        case measure => simp [intOf]; omega
      · have q34 : ((s[k].toNat : Int) == 34) = false := by simp; omega
        have q92 : ((s[k].toNat : Int) == 92) = false := by simp; omega
        have q8 : ((s[k].toNat : Int) == 8) = false := by simp; omega
        have q12 : ((s[k].toNat : Int) == 12) = false := by simp; omega
        have q10 : ((s[k].toNat : Int) == 10) = true := by simp; omega
        have HQ := Lib.hid hq
        clear h hq
        go_wp2_with (at_builtin; refine wpList_appL _ byteT rfl (.tmp 54) (.tmp 55) rfl w.heap.size _ d rfl ow 2 _ [92, 110] rfl 2 rfl rfl (by simp; omega) gsz ?_; intro v3 w3 o3 b3)
        go_roundw
        case rel => exact ⟨k + 1, d ++ [92, 110], by omega, by go_num, o3, SN.out _ HQ.out, bl.trans b3⟩
        case measure => simp [intOf]; omega
      · have q34 : ((s[k].toNat : Int) == 34) = false := by simp; omega
        have q92 : ((s[k].toNat : Int) == 92) = false := by simp; omega
        have q8 : ((s[k].toNat : Int) == 8) = false := by simp; omega
        have q12 : ((s[k].toNat : Int) == 12) = false := by simp; omega
        have q10 : ((s[k].toNat : Int) == 10) = false := by simp; omega
        have q13 : ((s[k].toNat : Int) == 13) = true := by simp; omega
        have HQ := Lib.hid hq
        clear h hq
        go_wp2_with (at_builtin; refine wpList_appL _ byteT rfl (.tmp 59) (.tmp 60) rfl w.heap.size _ d rfl ow 2 _ [92, 114] rfl 2 rfl rfl (by simp; omega) gsz ?_; intro v3 w3 o3 b3)
        go_roundw
        case rel => exact ⟨k + 1, d ++ [92, 114], by omega, by go_num, o3, SN.out _ HQ.out, bl.trans b3⟩
        case measure => simp [intOf]; omega
      · have q34 : ((s[k].toNat : Int) == 34) = false := by simp; omega
        have q92 : ((s[k].toNat : Int) == 92) = false := by simp; omega
        have q8 : ((s[k].toNat : Int) == 8) = false := by simp; omega
        have q12 : ((s[k].toNat : Int) == 12) = false := by simp; omega
        have q10 : ((s[k].toNat : Int) == 10) = false := by simp; omega
        have q13 : ((s[k].toNat : Int) == 13) = false := by simp; omega
        have q9 : ((s[k].toNat : Int) == 9) = true := by simp; omega
        have HQ := Lib.hid hq
        clear h hq
        go_wp2_with (at_builtin; refine wpList_appL _ byteT rfl (.tmp 64) (.tmp 65) rfl w.heap.size _ d rfl ow 2 _ [92, 116] rfl 2 rfl rfl (by simp; omega) gsz ?_; intro v3 w3 o3 b3)
        go_roundw
        case rel => exact ⟨k + 1, d ++ [92, 116], by omega, by go_num, o3, SN.out _ HQ.out, bl.trans b3⟩
        case measure => simp [intOf]; omega
      · have q34 : ((s[k].toNat : Int) == 34) = false := by simp; omega
        have q92 : ((s[k].toNat : Int) == 92) = false := by simp; omega
        have q8 : ((s[k].toNat : Int) == 8) = false := by simp; omega
        have q12 : ((s[k].toNat : Int) == 12) = false := by simp; omega
        have q10 : ((s[k].toNat : Int) == 10) = false := by simp; omega
        have q13 : ((s[k].toNat : Int) == 13) = false := by simp; omega
        have q9 : ((s[k].toNat : Int) == 9) = false := by simp; omega
        have h3 : (s[k].toNat : Int) < 32 := by omega
        have HQ := Lib.hid hq
        clear n1 n2 n3 n4 n5 n6 n7 hq
        go_wp2_with fail
        obtain ⟨P, hP0⟩ : ∃ P, P = s[k].toNat / 16 := ⟨_, rfl⟩
        obtain ⟨O, hO0⟩ : ∃ O, O = s[k].toNat % 16 := ⟨_, rfl⟩
        have hP : (s[k].toNat : Int) / 16 = (P : Int) := by omega
        have hO : (s[k].toNat : Int) % 16 = (O : Int) := by omega
        have hO2 : ((s[k].toNat : Int)).tmod 16 = (O : Int) := by rw [Int.tmod_eq_emod_of_nonneg (Int.natCast_nonneg _)]; exact hO
        have hP2 : ((s[k].toNat : Int)).tdiv 16 = (P : Int) := by rw [Int.tdiv_eq_ediv_of_nonneg (Int.natCast_nonneg _)]; exact hP
        have p16 : P < 16 := by omega
        have o16 : O < 16 := by omega
        have p16i : (P : Int) < 16 := by omega
        have o16i : (O : Int) < 16 := by omega
        rw [← hP0, ← hO0, hex_at P p16, hex_at O o16] at HQ
        clear hP0 hO0
        have wP : IntKind.u8.wrap (P : Int) = (P : Int) := wrapU8 (by omega)
        have wO : IntKind.u8.wrap (O : Int) = (O : Int) := wrapU8 (by omega)
        go_region_held_law (fun _ => True) (trivial) (first | (refine step_appL _ byteT (by rfl) (some 30) rfl (.tmp 20) (.tmp 29) rfl w.heap.size _ d rfl ow 6 _ [92, 117, 48, 48, (⟨#[48, 49, 50, 51, 52, 53, 54, 55, 56, 57, 97, 98, 99, 100, 101, 102]⟩ : ByteArray)[P]'p16, (⟨#[48, 49, 50, 51, 52, 53, 54, 55, 56, 57, 97, 98, 99, 100, 101, 102]⟩ : ByteArray)[O]'o16] rfl 6 rfl rfl (by simp; omega) gsz ?_; intro v3 w3 o3 b3))
        all_goals
          clear hP hO hO2 hP2 wP wO
          go_wp2_with fail
          go_roundw
          case rel => exact ⟨k + 1, d ++ _, by omega, by go_num, o3, SN.out _ HQ.out, bl.trans b3⟩
          case measure => simp [intOf]; omega
      · have q34 : ((s[k].toNat : Int) == 34) = false := by simp; omega
        have q92 : ((s[k].toNat : Int) == 92) = false := by simp; omega
        have q8 : ((s[k].toNat : Int) == 8) = false := by simp; omega
        have q12 : ((s[k].toNat : Int) == 12) = false := by simp; omega
        have q10 : ((s[k].toNat : Int) == 10) = false := by simp; omega
        have q13 : ((s[k].toNat : Int) == 13) = false := by simp; omega
        have q9 : ((s[k].toNat : Int) == 9) = false := by simp; omega
        have h3 : ¬ (s[k].toNat : Int) < 32 := by omega
        have HQ := Lib.hid hq
        clear n1 n2 hq h
        go_wp2_with (at_builtin; refine wpList_appL _ byteT rfl (.tmp 31) (.tmp 33) rfl w.heap.size _ d rfl ow 1 _ [s[k]] rfl 1 rfl rfl (by simp; omega) gsz ?_; intro v3 w3 o3 b3)
        go_roundw
        case rel => exact ⟨k + 1, d ++ [s[k]], by omega, by go_num, o3, SN.out _ HQ.out, bl.trans b3⟩
        case measure => simp [intOf]; omega
    · obtain rfl : k = s.size := by omega
      have e : d = 34 :: Jx.qb s.data.toList := by rw [D.out, List.take_of_length_le (by rw [LEN.out]; omega)]
      have E := Lib.hid e
      clear e
      go_wp2_with (at_builtin; refine wpList_appL _ byteT rfl (.tmp 67) (.tmp 68) rfl w.heap.size _ d rfl ow 1 _ [34] rfl 1 rfl rfl (by simp; omega) gsz ?_; intro v3 w3 o3 b3; obtain ⟨A3, c3, e3, hy⟩ := o3.bys; have conv := hy.str byteT strT c3; generalize (d ++ [34]).length = n3 at e3 conv; subst e3)
      go_ret
      exact ⟨by rw [E.out]; rfl, bl.trans b3⟩

end Go.Proofs.YtjebkedlfhapjaaDoor
