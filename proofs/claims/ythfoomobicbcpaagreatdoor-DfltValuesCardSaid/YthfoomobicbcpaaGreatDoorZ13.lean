/- Joined by tools/bundle.py: KRgt. -/
import Derived.Maps.OwnSet
import Derived.Test.YthfoomobicbcpaaGreatDoorZ4
import Derived.Test.YthfoomobicbcpaaGreatDoorZ5
import Derived.Test.YthfoomobicbcpaaGreatDoorZ8
import Derived.Test.YthfoomobicbcpaaGreatDoorZ0
set_option maxRecDepth 100000
set_option maxHeartbeats 16000000
namespace Go.Proofs.YthfoomobicbcpaaGreatDoor
open Go.ChangeShapes Go.WideShapes Go.ChangeAt Go.RowKit Mem Go.Maps Go.WideMaps
def FitP (k n : Int) (s : ByteArray) (ni nk : Nat) : Prop := 1 ≤ k ∧ k ≤ 6 ∧ (k ≠ 2 → k ≠ 3 → n = 0) ∧ (k = 2 → n = 0 ∨ n = 1) ∧ (k ≠ 4 → s = ⟨#[]⟩) ∧ (k < 5 → ni = 0) ∧ (k ≠ 6 → nk = 0) ∧ (k = 6 → nk = ni)
noncomputable def fitb (k n : Int) (s : ByteArray) (ni nk : Nat) : Bool := @decide (FitP k n s ni nk) (Classical.propDecidable _)
theorem fitb_no {k n : Int} {s : ByteArray} {ni nk : Nat} (h : ¬ FitP k n s ni nk) : fitb k n s ni nk = false := by unfold fitb; simpa using h
theorem fitb_yes {k n : Int} {s : ByteArray} {ni nk : Nat} (h : FitP k n s ni nk) : fitb k n s ni nk = true := by unfold fitb; simpa using h
theorem fitb_iff {k n : Int} {s : ByteArray} {ni nk : Nat} : fitb k n s ni nk = true ↔ FitP k n s ni nk := by unfold fitb; simp
theorem fits_1 (n : Int) (s : ByteArray) (ni nk : Nat) (A3 A4 : Option Addr) (c3 c4 : Nat) (w : World) (hb3 : ni ≤ 9223372036854775807) (hb4 : nk ≤ 9223372036854775807) :
 Calls Tryz.prog 92 #[.agg #[.int .i64 1, .int .i64 n, .string s, .slice A3 ni c3, .slice A4 nk c4]] w (Told (fitb 1 n s ni nk) w) := by
 have CS := cell_set
 obtain ⟨F, hF⟩ : ∃ F, F = fitb 1 n s ni nk := ⟨_, rfl⟩
 rw [← hF]
 by_cases hn : n ≠ 0
 · have qn : ((n : Int) == 0) = false := by rw [beq_eq_false_iff_ne]; exact hn
   have Z : Hid (F = false) := hF.trans (fitb_no fun h => absurd (h.2.2.1 (by decide) (by decide)) hn)
   clear hF
   go_enter Tryz.func92, Tryz.ntmps92
   go_wp2_with fail
   go_ret
   exact told_ret Z.out bqq
 · obtain rfl : n = 0 := by omega
   clear hn
   by_cases hs : s ≠ ⟨#[]⟩
   · have sx : (s.toList != (⟨#[]⟩ : ByteArray).toList) = true := by rw [str_bne]; simpa using hs
     have sx2 : (s.toList == (⟨#[]⟩ : ByteArray).toList) = false := by rw [str_beq]; simpa using hs
     have sx3 : (s.toList != []) = true := by have := sx; rwa [show (⟨#[]⟩ : ByteArray).toList = [] by rw [ByteArray.toList_eq]] at this
     have sx4 : (s.toList == []) = false := by have := sx2; rwa [show (⟨#[]⟩ : ByteArray).toList = [] by rw [ByteArray.toList_eq]] at this
     have Z : Hid (F = false) := hF.trans (fitb_no fun h => absurd (h.2.2.2.2.1 (by decide)) hs)
     clear hF
     go_enter Tryz.func92, Tryz.ntmps92
     go_wp2_with fail
     go_ret
     exact told_ret Z.out bqq
   · obtain rfl : s = ⟨#[]⟩ := by by_cases g : s = ⟨#[]⟩; exact g; exact absurd g hs
     clear hs
     by_cases hi : ni ≠ 0
     · have qi : ((ni : Int) == 0) = false := by rw [beq_eq_false_iff_ne]; omega
       have Z : Hid (F = false) := hF.trans (fitb_no fun h => absurd (h.2.2.2.2.2.1 (by decide)) hi)
       clear hF
       go_enter Tryz.func92, Tryz.ntmps92
       go_wp2_with fail
       go_ret
       exact told_ret Z.out bqq
     · obtain rfl : ni = 0 := by omega
       clear hi
       by_cases hk : nk ≠ 0
       · have qk : ((nk : Int) == 0) = false := by rw [beq_eq_false_iff_ne]; omega
         have Z : Hid (F = false) := hF.trans (fitb_no fun h => absurd (h.2.2.2.2.2.2.1 (by decide)) hk)
         clear hF
         go_enter Tryz.func92, Tryz.ntmps92
         go_wp2_with fail
         go_ret
         exact told_ret Z.out bqq
       · obtain rfl : nk = 0 := by omega
         clear hk
         have Z : Hid (F = true) := hF.trans (fitb_yes ⟨by decide, by decide, (fun _ _ => rfl), (fun e => absurd e (by decide)), (fun _ => rfl), (fun _ => rfl), (fun _ => rfl), (fun e => absurd e (by decide))⟩)
         clear hF
         go_enter Tryz.func92, Tryz.ntmps92
         go_wp2_with fail
         go_ret
         exact told_ret Z.out bqq
theorem fits_2 (n : Int) (s : ByteArray) (ni nk : Nat) (A3 A4 : Option Addr) (c3 c4 : Nat) (w : World) (hb3 : ni ≤ 9223372036854775807) (hb4 : nk ≤ 9223372036854775807) :
 Calls Tryz.prog 92 #[.agg #[.int .i64 2, .int .i64 n, .string s, .slice A3 ni c3, .slice A4 nk c4]] w (Told (fitb 2 n s ni nk) w) := by
 have CS := cell_set
 obtain ⟨F, hF⟩ : ∃ F, F = fitb 2 n s ni nk := ⟨_, rfl⟩
 rw [← hF]
 by_cases h1 : n = 1
 · subst h1
   by_cases hs : s ≠ ⟨#[]⟩
   · have sx : (s.toList != (⟨#[]⟩ : ByteArray).toList) = true := by rw [str_bne]; simpa using hs
     have sx2 : (s.toList == (⟨#[]⟩ : ByteArray).toList) = false := by rw [str_beq]; simpa using hs
     have sx3 : (s.toList != []) = true := by have := sx; rwa [show (⟨#[]⟩ : ByteArray).toList = [] by rw [ByteArray.toList_eq]] at this
     have sx4 : (s.toList == []) = false := by have := sx2; rwa [show (⟨#[]⟩ : ByteArray).toList = [] by rw [ByteArray.toList_eq]] at this
     have Z : Hid (F = false) := hF.trans (fitb_no fun h => absurd (h.2.2.2.2.1 (by decide)) hs)
     clear hF
     go_enter Tryz.func92, Tryz.ntmps92
     go_wp2_with fail
     go_ret
     exact told_ret Z.out bqq
   · obtain rfl : s = ⟨#[]⟩ := by by_cases g : s = ⟨#[]⟩; exact g; exact absurd g hs
     clear hs
     by_cases hi : ni ≠ 0
     · have qi : ((ni : Int) == 0) = false := by rw [beq_eq_false_iff_ne]; omega
       have Z : Hid (F = false) := hF.trans (fitb_no fun h => absurd (h.2.2.2.2.2.1 (by decide)) hi)
       clear hF
       go_enter Tryz.func92, Tryz.ntmps92
       go_wp2_with fail
       go_ret
       exact told_ret Z.out bqq
     · obtain rfl : ni = 0 := by omega
       clear hi
       by_cases hk : nk ≠ 0
       · have qk : ((nk : Int) == 0) = false := by rw [beq_eq_false_iff_ne]; omega
         have Z : Hid (F = false) := hF.trans (fitb_no fun h => absurd (h.2.2.2.2.2.2.1 (by decide)) hk)
         clear hF
         go_enter Tryz.func92, Tryz.ntmps92
         go_wp2_with fail
         go_ret
         exact told_ret Z.out bqq
       · obtain rfl : nk = 0 := by omega
         clear hk
         have Z : Hid (F = true) := hF.trans (fitb_yes ⟨by decide, by decide, (fun a _ => absurd rfl a), (fun _ => .inr rfl), (fun _ => rfl), (fun _ => rfl), (fun _ => rfl), (fun e => absurd e (by decide))⟩)
         clear hF
         go_enter Tryz.func92, Tryz.ntmps92
         go_wp2_with fail
         go_ret
         exact told_ret Z.out bqq
 · have q1 : ((n : Int) == 1) = false := by rw [beq_eq_false_iff_ne]; exact h1
   by_cases hn : n ≠ 0
   · have qn : ((n : Int) == 0) = false := by rw [beq_eq_false_iff_ne]; exact hn
     have Z : Hid (F = false) := hF.trans (fitb_no fun h => (h.2.2.2.1 rfl).elim hn h1)
     clear hF
     go_enter Tryz.func92, Tryz.ntmps92
     go_wp2_with fail
     go_ret
     exact told_ret Z.out bqq
   · obtain rfl : n = 0 := by omega
     clear hn h1
     by_cases hs : s ≠ ⟨#[]⟩
     · have sx : (s.toList != (⟨#[]⟩ : ByteArray).toList) = true := by rw [str_bne]; simpa using hs
       have sx2 : (s.toList == (⟨#[]⟩ : ByteArray).toList) = false := by rw [str_beq]; simpa using hs
       have sx3 : (s.toList != []) = true := by have := sx; rwa [show (⟨#[]⟩ : ByteArray).toList = [] by rw [ByteArray.toList_eq]] at this
       have sx4 : (s.toList == []) = false := by have := sx2; rwa [show (⟨#[]⟩ : ByteArray).toList = [] by rw [ByteArray.toList_eq]] at this
       have Z : Hid (F = false) := hF.trans (fitb_no fun h => absurd (h.2.2.2.2.1 (by decide)) hs)
       clear hF
       go_enter Tryz.func92, Tryz.ntmps92
       go_wp2_with fail
       go_ret
       exact told_ret Z.out bqq
     · obtain rfl : s = ⟨#[]⟩ := by by_cases g : s = ⟨#[]⟩; exact g; exact absurd g hs
       clear hs
       by_cases hi : ni ≠ 0
       · have qi : ((ni : Int) == 0) = false := by rw [beq_eq_false_iff_ne]; omega
         have Z : Hid (F = false) := hF.trans (fitb_no fun h => absurd (h.2.2.2.2.2.1 (by decide)) hi)
         clear hF
         go_enter Tryz.func92, Tryz.ntmps92
         go_wp2_with fail
         go_ret
         exact told_ret Z.out bqq
       · obtain rfl : ni = 0 := by omega
         clear hi
         by_cases hk : nk ≠ 0
         · have qk : ((nk : Int) == 0) = false := by rw [beq_eq_false_iff_ne]; omega
           have Z : Hid (F = false) := hF.trans (fitb_no fun h => absurd (h.2.2.2.2.2.2.1 (by decide)) hk)
           clear hF
           go_enter Tryz.func92, Tryz.ntmps92
           go_wp2_with fail
           go_ret
           exact told_ret Z.out bqq
         · obtain rfl : nk = 0 := by omega
           clear hk
           have Z : Hid (F = true) := hF.trans (fitb_yes ⟨by decide, by decide, (fun _ _ => rfl), (fun _ => .inl rfl), (fun _ => rfl), (fun _ => rfl), (fun _ => rfl), (fun e => absurd e (by decide))⟩)
           clear hF
           go_enter Tryz.func92, Tryz.ntmps92
           go_wp2_with fail
           go_ret
           exact told_ret Z.out bqq
theorem fits_3 (n : Int) (s : ByteArray) (ni nk : Nat) (A3 A4 : Option Addr) (c3 c4 : Nat) (w : World) (hb3 : ni ≤ 9223372036854775807) (hb4 : nk ≤ 9223372036854775807) :
 Calls Tryz.prog 92 #[.agg #[.int .i64 3, .int .i64 n, .string s, .slice A3 ni c3, .slice A4 nk c4]] w (Told (fitb 3 n s ni nk) w) := by
 have CS := cell_set
 obtain ⟨F, hF⟩ : ∃ F, F = fitb 3 n s ni nk := ⟨_, rfl⟩
 rw [← hF]
 by_cases hs : s ≠ ⟨#[]⟩
 · have sx : (s.toList != (⟨#[]⟩ : ByteArray).toList) = true := by rw [str_bne]; simpa using hs
   have sx2 : (s.toList == (⟨#[]⟩ : ByteArray).toList) = false := by rw [str_beq]; simpa using hs
   have sx3 : (s.toList != []) = true := by have := sx; rwa [show (⟨#[]⟩ : ByteArray).toList = [] by rw [ByteArray.toList_eq]] at this
   have sx4 : (s.toList == []) = false := by have := sx2; rwa [show (⟨#[]⟩ : ByteArray).toList = [] by rw [ByteArray.toList_eq]] at this
   have Z : Hid (F = false) := hF.trans (fitb_no fun h => absurd (h.2.2.2.2.1 (by decide)) hs)
   clear hF
   go_enter Tryz.func92, Tryz.ntmps92
   go_wp2_with fail
   go_ret
   exact told_ret Z.out bqq
 · obtain rfl : s = ⟨#[]⟩ := by by_cases g : s = ⟨#[]⟩; exact g; exact absurd g hs
   clear hs
   by_cases hi : ni ≠ 0
   · have qi : ((ni : Int) == 0) = false := by rw [beq_eq_false_iff_ne]; omega
     have Z : Hid (F = false) := hF.trans (fitb_no fun h => absurd (h.2.2.2.2.2.1 (by decide)) hi)
     clear hF
     go_enter Tryz.func92, Tryz.ntmps92
     go_wp2_with fail
     go_ret
     exact told_ret Z.out bqq
   · obtain rfl : ni = 0 := by omega
     clear hi
     by_cases hk : nk ≠ 0
     · have qk : ((nk : Int) == 0) = false := by rw [beq_eq_false_iff_ne]; omega
       have Z : Hid (F = false) := hF.trans (fitb_no fun h => absurd (h.2.2.2.2.2.2.1 (by decide)) hk)
       clear hF
       go_enter Tryz.func92, Tryz.ntmps92
       go_wp2_with fail
       go_ret
       exact told_ret Z.out bqq
     · obtain rfl : nk = 0 := by omega
       clear hk
       have Z : Hid (F = true) := hF.trans (fitb_yes ⟨by decide, by decide, (fun _ e => absurd rfl e), (fun e => absurd e (by decide)), (fun _ => rfl), (fun _ => rfl), (fun _ => rfl), (fun e => absurd e (by decide))⟩)
       clear hF
       go_enter Tryz.func92, Tryz.ntmps92
       go_wp2_with fail
       go_ret
       exact told_ret Z.out bqq
theorem fits_4 (n : Int) (s : ByteArray) (ni nk : Nat) (A3 A4 : Option Addr) (c3 c4 : Nat) (w : World) (hb3 : ni ≤ 9223372036854775807) (hb4 : nk ≤ 9223372036854775807) :
 Calls Tryz.prog 92 #[.agg #[.int .i64 4, .int .i64 n, .string s, .slice A3 ni c3, .slice A4 nk c4]] w (Told (fitb 4 n s ni nk) w) := by
 have CS := cell_set
 obtain ⟨F, hF⟩ : ∃ F, F = fitb 4 n s ni nk := ⟨_, rfl⟩
 rw [← hF]
 by_cases hn : n ≠ 0
 · have qn : ((n : Int) == 0) = false := by rw [beq_eq_false_iff_ne]; exact hn
   have Z : Hid (F = false) := hF.trans (fitb_no fun h => absurd (h.2.2.1 (by decide) (by decide)) hn)
   clear hF
   go_enter Tryz.func92, Tryz.ntmps92
   go_wp2_with fail
   go_ret
   exact told_ret Z.out bqq
 · obtain rfl : n = 0 := by omega
   clear hn
   by_cases hi : ni ≠ 0
   · have qi : ((ni : Int) == 0) = false := by rw [beq_eq_false_iff_ne]; omega
     have Z : Hid (F = false) := hF.trans (fitb_no fun h => absurd (h.2.2.2.2.2.1 (by decide)) hi)
     clear hF
     go_enter Tryz.func92, Tryz.ntmps92
     go_wp2_with fail
     go_ret
     exact told_ret Z.out bqq
   · obtain rfl : ni = 0 := by omega
     clear hi
     by_cases hk : nk ≠ 0
     · have qk : ((nk : Int) == 0) = false := by rw [beq_eq_false_iff_ne]; omega
       have Z : Hid (F = false) := hF.trans (fitb_no fun h => absurd (h.2.2.2.2.2.2.1 (by decide)) hk)
       clear hF
       go_enter Tryz.func92, Tryz.ntmps92
       go_wp2_with fail
       go_ret
       exact told_ret Z.out bqq
     · obtain rfl : nk = 0 := by omega
       clear hk
       have Z : Hid (F = true) := hF.trans (fitb_yes ⟨by decide, by decide, (fun _ _ => rfl), (fun e => absurd e (by decide)), (fun e => absurd rfl e), (fun _ => rfl), (fun _ => rfl), (fun e => absurd e (by decide))⟩)
       clear hF
       go_enter Tryz.func92, Tryz.ntmps92
       go_wp2_with fail
       go_ret
       exact told_ret Z.out bqq
theorem fits_5 (n : Int) (s : ByteArray) (ni nk : Nat) (A3 A4 : Option Addr) (c3 c4 : Nat) (w : World) (_hb3 : ni ≤ 9223372036854775807) (hb4 : nk ≤ 9223372036854775807) :
 Calls Tryz.prog 92 #[.agg #[.int .i64 5, .int .i64 n, .string s, .slice A3 ni c3, .slice A4 nk c4]] w (Told (fitb 5 n s ni nk) w) := by
 have CS := cell_set
 obtain ⟨F, hF⟩ : ∃ F, F = fitb 5 n s ni nk := ⟨_, rfl⟩
 rw [← hF]
 by_cases hn : n ≠ 0
 · have qn : ((n : Int) == 0) = false := by rw [beq_eq_false_iff_ne]; exact hn
   have Z : Hid (F = false) := hF.trans (fitb_no fun h => absurd (h.2.2.1 (by decide) (by decide)) hn)
   clear hF
   go_enter Tryz.func92, Tryz.ntmps92
   go_wp2_with fail
   go_ret
   exact told_ret Z.out bqq
 · obtain rfl : n = 0 := by omega
   clear hn
   by_cases hs : s ≠ ⟨#[]⟩
   · have sx : (s.toList != (⟨#[]⟩ : ByteArray).toList) = true := by rw [str_bne]; simpa using hs
     have sx2 : (s.toList == (⟨#[]⟩ : ByteArray).toList) = false := by rw [str_beq]; simpa using hs
     have sx3 : (s.toList != []) = true := by have := sx; rwa [show (⟨#[]⟩ : ByteArray).toList = [] by rw [ByteArray.toList_eq]] at this
     have sx4 : (s.toList == []) = false := by have := sx2; rwa [show (⟨#[]⟩ : ByteArray).toList = [] by rw [ByteArray.toList_eq]] at this
     have Z : Hid (F = false) := hF.trans (fitb_no fun h => absurd (h.2.2.2.2.1 (by decide)) hs)
     clear hF
     go_enter Tryz.func92, Tryz.ntmps92
     go_wp2_with fail
     go_ret
     exact told_ret Z.out bqq
   · obtain rfl : s = ⟨#[]⟩ := by by_cases g : s = ⟨#[]⟩; exact g; exact absurd g hs
     clear hs
     by_cases hk : nk ≠ 0
     · have qk : ((nk : Int) == 0) = false := by rw [beq_eq_false_iff_ne]; omega
       have Z : Hid (F = false) := hF.trans (fitb_no fun h => absurd (h.2.2.2.2.2.2.1 (by decide)) hk)
       clear hF
       go_enter Tryz.func92, Tryz.ntmps92
       go_wp2_with fail
       go_ret
       exact told_ret Z.out bqq
     · obtain rfl : nk = 0 := by omega
       clear hk
       have Z : Hid (F = true) := hF.trans (fitb_yes ⟨by decide, by decide, (fun _ _ => rfl), (fun e => absurd e (by decide)), (fun _ => rfl), (fun e => absurd e (by decide)), (fun _ => rfl), (fun e => absurd e (by decide))⟩)
       clear hF
       go_enter Tryz.func92, Tryz.ntmps92
       go_wp2_with fail
       go_ret
       exact told_ret Z.out bqq
theorem fits_6 (n : Int) (s : ByteArray) (ni nk : Nat) (A3 A4 : Option Addr) (c3 c4 : Nat) (w : World) (hb3 : ni ≤ 9223372036854775807) (_hb4 : nk ≤ 9223372036854775807) :
 Calls Tryz.prog 92 #[.agg #[.int .i64 6, .int .i64 n, .string s, .slice A3 ni c3, .slice A4 nk c4]] w (Told (fitb 6 n s ni nk) w) := by
 have CS := cell_set
 obtain ⟨F, hF⟩ : ∃ F, F = fitb 6 n s ni nk := ⟨_, rfl⟩
 rw [← hF]
 by_cases he : nk = ni
 · subst he
   have qe : ((nk : Int) != (nk : Int)) = false := by simp
   by_cases hn : n ≠ 0
   · have qn : ((n : Int) == 0) = false := by rw [beq_eq_false_iff_ne]; exact hn
     have Z : Hid (F = false) := hF.trans (fitb_no fun h => absurd (h.2.2.1 (by decide) (by decide)) hn)
     clear hF
     go_enter Tryz.func92, Tryz.ntmps92
     go_wp2_with fail
     go_ret
     exact told_ret Z.out bqq
   · obtain rfl : n = 0 := by omega
     clear hn
     by_cases hs : s ≠ ⟨#[]⟩
     · have sx : (s.toList != (⟨#[]⟩ : ByteArray).toList) = true := by rw [str_bne]; simpa using hs
       have sx2 : (s.toList == (⟨#[]⟩ : ByteArray).toList) = false := by rw [str_beq]; simpa using hs
       have sx3 : (s.toList != []) = true := by have := sx; rwa [show (⟨#[]⟩ : ByteArray).toList = [] by rw [ByteArray.toList_eq]] at this
       have sx4 : (s.toList == []) = false := by have := sx2; rwa [show (⟨#[]⟩ : ByteArray).toList = [] by rw [ByteArray.toList_eq]] at this
       have Z : Hid (F = false) := hF.trans (fitb_no fun h => absurd (h.2.2.2.2.1 (by decide)) hs)
       clear hF
       go_enter Tryz.func92, Tryz.ntmps92
       go_wp2_with fail
       go_ret
       exact told_ret Z.out bqq
     · obtain rfl : s = ⟨#[]⟩ := by by_cases g : s = ⟨#[]⟩; exact g; exact absurd g hs
       clear hs
       have Z : Hid (F = true) := hF.trans (fitb_yes ⟨by decide, by decide, (fun _ _ => rfl), (fun e => absurd e (by decide)), (fun _ => rfl), (fun e => absurd e (by decide)), (fun e => absurd rfl e), (fun _ => rfl)⟩)
       clear hF
       go_enter Tryz.func92, Tryz.ntmps92
       go_wp2_with fail
       go_ret
       exact told_ret Z.out bqq
 · have qe : ((nk : Int) != (ni : Int)) = true := by rw [bne_iff_ne]; omega
   have Z : Hid (F = false) := hF.trans (fitb_no fun h => he (h.2.2.2.2.2.2.2 rfl))
   clear hF
   go_enter Tryz.func92, Tryz.ntmps92
   go_wp2_with fail
   go_ret
   exact told_ret Z.out bqq
theorem fits_any (k n : Int) (s : ByteArray) (ni nk : Nat) (A3 A4 : Option Addr) (c3 c4 : Nat) (w : World) (hb3 : ni ≤ 9223372036854775807) (hb4 : nk ≤ 9223372036854775807) :
 Calls Tryz.prog 92 #[.agg #[.int .i64 k, .int .i64 n, .string s, .slice A3 ni c3, .slice A4 nk c4]] w (Told (fitb k n s ni nk) w) := by
 by_cases h0 : k < 1 ∨ 6 < k
 · have Z : Hid (fitb k n s ni nk = false) := fitb_no fun h => by have := h.1; have := h.2.1; omega
   obtain ⟨F, hF⟩ : ∃ F, F = fitb k n s ni nk := ⟨_, rfl⟩
   rw [← hF] at Z ⊢
   have q1 : ((k : Int) == 1) = false := by rw [beq_eq_false_iff_ne]; omega
   have q2 : ((k : Int) == 2) = false := by rw [beq_eq_false_iff_ne]; omega
   have q3 : ((k : Int) == 3) = false := by rw [beq_eq_false_iff_ne]; omega
   have q4 : ((k : Int) == 4) = false := by rw [beq_eq_false_iff_ne]; omega
   have q5 : ((k : Int) == 5) = false := by rw [beq_eq_false_iff_ne]; omega
   have q6 : ((k : Int) == 6) = false := by rw [beq_eq_false_iff_ne]; omega
   clear hF h0
   go_enter Tryz.func92, Tryz.ntmps92
   go_wp2_with fail
   go_ret
   exact told_ret Z.out bqq
 · obtain rfl | rfl | rfl | rfl | rfl | rfl : k = 1 ∨ k = 2 ∨ k = 3 ∨ k = 4 ∨ k = 5 ∨ k = 6 := by omega
   · exact fits_1 n s ni nk A3 A4 c3 c4 w hb3 hb4
   · exact fits_2 n s ni nk A3 A4 c3 c4 w hb3 hb4
   · exact fits_3 n s ni nk A3 A4 c3 c4 w hb3 hb4
   · exact fits_4 n s ni nk A3 A4 c3 c4 w hb3 hb4
   · exact fits_5 n s ni nk A3 A4 c3 c4 w hb3 hb4
   · exact fits_6 n s ni nk A3 A4 c3 c4 w hb3 hb4
def Chars (ks : List ByteArray) (j : Nat) : Prop := ∀ m (h : m < ks.length), m < j → (Num.cU (ks[m]'h).data.toList).isSome = true
noncomputable def charsb (ks : List ByteArray) : Bool := @decide (∀ x ∈ ks, (Num.cU x.data.toList).isSome = true) (Classical.propDecidable _)
theorem charsb_iff {ks : List ByteArray} : charsb ks = true ↔ ∀ x ∈ ks, (Num.cU x.data.toList).isSome = true := by unfold charsb; simp
theorem charsb_no {ks : List ByteArray} {m : Nat} (h : m < ks.length) (hn : (Num.cU (ks[m]'h).data.toList).isSome = false) : charsb ks = false := by
 rcases hc : charsb ks with _ | _
 · rfl
 · have := charsb_iff.1 hc _ (List.getElem_mem h)
   rw [hn] at this; cases this
theorem charsb_yes {ks : List ByteArray} (h : Chars ks ks.length) : charsb ks = true := charsb_iff.2 fun x hx => by
 obtain ⟨m, hm, rfl⟩ := List.getElem_of_mem hx
 exact h m hm hm
theorem characters_any (A : Option Addr) (c : Nat) (ks : List ByteArray) (nk : Nat) (hnk : nk = ks.length) (w : World) (hL : Laid w) (h : FlS w (· < w.heap.size) A (ks.map Value.string)) (hl : nk ≤ 9223372036854775807) (hz : ∀ i (h : i < ks.length), (ks[i]'h).size ≤ 100000000) :
 Calls Tryz.prog 93 #[.slice A nk c] w (Told (charsb ks) w) := by
 have KF := Lib.hid h
 have LW := Lib.hid hL
 have top := hL.top
 have HNK := Lib.hid hnk
 have HZ := Lib.hid hz
 obtain ⟨R, hR⟩ : ∃ R, R = charsb ks := ⟨_, rfl⟩
 rw [← hR]
 have HR := Lib.hid hR
 clear hnk h hL hz hR
 go_enter Tryz.func93, Tryz.ntmps93
 go_wp2_with fail
 go_loopw [7] (fun t wr => ∃ j : Nat, j ≤ nk ∧ t = .int .i64 (j : Int) ∧ Hid (Chars ks j) ∧ Below w.heap.size w wr) (fun t _ => nk - (intOf t).toNat)
 case atStart => exact ⟨0, Nat.zero_le _, rfl, (show Chars ks 0 from fun _ _ h => absurd h (Nat.not_lt_zero _)), bqq⟩
 case round =>
  obtain ⟨m, hm, rfl, CH, bq⟩ := hrel
  have sq := bq.size
  by_cases hmk : m < nk
  · have h1 : m < ks.length := by rw [← HNK.out]; exact hmk
    obtain ⟨b8, o8, e8, hb8, z0⟩ := fl_str KF.out h1
    have hsz := HZ.out m h1
    have zq := (bq.cell (p := ⟨b8, o8 + m, none⟩) hb8).trans z0
    have hlb : b8 < w.heap.size := hb8
    have NO := Lib.hid (charsb_no (ks := ks) h1)
    have NX : Hid ((Num.cU (ks[m]'h1).data.toList).isSome = true → Chars ks (m + 1)) := fun e q h hq => by
     rcases Nat.lt_or_ge q m with g | g
     · exact CH.out q h g
     · obtain rfl : q = m := by omega
       exact e
    generalize ks[m]'h1 = Y at *
    subst e8
    have lq := LW.out.below bq top
    have tq := lq.top
    obtain ⟨FW, GW, cv, gc, lb⟩ := conv_all Y
    have fb := (lb wr).1
    have RG := Lib.hid (Right_any (some ⟨wr.heap.size, 0, none⟩) (GW wr) Y.data.toList (FW wr) (lq.below fb tq) (lb wr).2 (by simp; omega) (by have := gc wr; simpa using this))
    rw [show Y.data.toList.length = Y.size by simp] at RG
    obtain ⟨B, hB⟩ : ∃ B, B = (Num.cU Y.data.toList).isSome := ⟨_, rfl⟩
    unfold Rgt at RG
    rw [← hB] at RG NO NX
    have fs := fb.size
    clear h1 z0 hb8 hB lb gc hsz
    go_wp2_with fail
    with_reducible refine RG.out.mono ?_
    rintro e w2 ⟨rfl, b2⟩
    have bq2 : Below w.heap.size w w2 := bq.trans ((fb.mono sq).trans (b2.mono (by omega)))
    cases B with
    | false =>
     have Z := Lib.hid (HR.out.trans (NO.out rfl))
     go_wp2_with fail
     go_ret
     exact told_ret Z.out bqq
    | true =>
     go_wp2_with fail
     go_roundw
     case rel => exact ⟨m + 1, by omega, by go_num, NX.out (by first | rfl | trivial), bqq⟩
     case measure => simp [intOf]; omega
  · obtain rfl : m = nk := by omega
    have Z := Lib.hid (HR.out.trans (charsb_yes (HNK.out ▸ CH.out)))
    go_wp2_with fail
    go_ret
    exact told_ret Z.out bqq
def keyL (s : ByteArray) : Lit := .string s.data.toList
theorem keyL_inj {a b : ByteArray} (h : keyL a = keyL b) : a = b := by
 unfold keyL at h
 injection h with h
 exact ByteArray.ext (Array.toList_inj.1 h)
theorem keyL_key (a : ByteArray) : WideAt.IsKeyLit (keyL a) := trivial
theorem any_key (acc : List ByteArray) (x : ByteArray) : (acc.map keyL).any (fun y => y.sameKey (keyL x)) = true ↔ x ∈ acc := by
 rw [List.any_eq_true]
 constructor
 · rintro ⟨y, hy, e⟩
   obtain ⟨z, hz, rfl⟩ := List.mem_map.1 hy
   by_cases g : keyL z = keyL x
   · rw [← keyL_inj g]; exact hz
   · rw [Maps.sameKey_ne g] at e; cases e
 · intro h
   exact ⟨_, List.mem_map_of_mem h, WideAt.sameKey_self (keyL_key x)⟩
theorem addKey_in {acc : List ByteArray} {x : ByteArray} (h : x ∈ acc) : Maps.addKey (acc.map keyL) (keyL x) = acc.map keyL := by
 unfold Maps.addKey
 rw [if_pos ((any_key acc x).2 h)]
theorem addKey_out {acc : List ByteArray} {x : ByteArray} (h : x ∉ acc) : Maps.addKey (acc.map keyL) (keyL x) = (acc ++ [x]).map keyL := by
 unfold Maps.addKey
 rw [if_neg fun e => h ((any_key acc x).1 e), List.map_append, List.map_cons, List.map_nil]
theorem addKeys_len : ∀ (xs acc : List ByteArray), ((xs.map keyL).foldl Maps.addKey (acc.map keyL)).length ≤ acc.length + xs.length ∧ (((xs.map keyL).foldl Maps.addKey (acc.map keyL)).length = acc.length + xs.length ↔ xs.Nodup ∧ ∀ x ∈ xs, x ∉ acc)
 | [], acc => by simp
 | x :: r, acc => by
  rw [List.map_cons, List.foldl_cons]
  by_cases h : x ∈ acc
  · rw [addKey_in h]
    have ih := (addKeys_len r acc).1
    refine ⟨by simp; omega, ⟨fun e => by simp at e; omega, fun e => absurd h (e.2 x (by simp))⟩⟩
  · rw [addKey_out h]
    have ih := addKeys_len r (acc ++ [x])
    have l1 : (acc ++ [x]).length + r.length = acc.length + (x :: r).length := by simp; omega
    rw [l1] at ih
    refine ⟨ih.1, ih.2.trans ?_⟩
    constructor
    · rintro ⟨h1, h2⟩
      refine ⟨List.nodup_cons.2 ⟨fun hx => h2 x hx (by simp), h1⟩, fun y hy => ?_⟩
      rcases List.mem_cons.1 hy with e | e
      · subst e; exact h
      · exact fun g => h2 y e (by simp [g])
    · rintro ⟨h1, h2⟩
      refine ⟨(List.nodup_cons.1 h1).2, fun y hy g => ?_⟩
      rcases List.mem_append.1 g with g | g
      · exact h2 y (by simp [hy]) g
      · obtain rfl := List.mem_singleton.1 g
        exact (List.nodup_cons.1 h1).1 hy
def Ks (ks : List ByteArray) (j : Nat) : DataW Unit := Maps.setOf (.agg []) ((ks.take j).map keyL)
theorem Ks_zero (ks : List ByteArray) : Ks ks 0 = .map [] := by simp [Ks, Maps.setOf]
theorem Ks_succ {ks : List ByteArray} {j : Nat} (h : j < ks.length) : Ks ks (j + 1) = (Ks ks j).put (keyL (ks[j]'h)) (.agg []) := by
 unfold Ks
 rw [List.take_succ_eq_append_getElem h, List.map_append, List.map_cons, List.map_nil, Maps.setOf_snoc]
theorem Ks_size (ks : List ByteArray) : Maps.size (Ks ks ks.length) ≤ ks.length ∧ (Maps.size (Ks ks ks.length) = ks.length ↔ ks.Nodup) := by
 unfold Ks
 rw [List.take_length, Maps.size_setOf _ _ (fun x hx => by obtain ⟨y, _, rfl⟩ := List.mem_map.1 hx; exact keyL_key y)]
 have := addKeys_len ks []
 simp only [List.map_nil, List.length_nil, Nat.zero_add, List.not_mem_nil, not_false_eq_true, implies_true, and_true] at this
 exact this
noncomputable def nodupb (ks : List ByteArray) : Bool := @decide ks.Nodup (Classical.propDecidable _)
theorem nodupb_iff {ks : List ByteArray} : nodupb ks = true ↔ ks.Nodup := by unfold nodupb; simp
theorem law_key : Maps.Keyed Tryz.prog 9 := Maps.string_keyed strT
theorem map_t : Tryz.prog.underlying 172 = some (.map 9 173) := by kernel_rfl
theorem run_makeMap_hint (n : Int) (W : World) : (Instr.makeMap 172 (some (.int .i64 n))).run Tryz.prog W = .ok (.map (some W.heap.size)) (W.alloc (.map #[] 0)) := by
 simp [Instr.makeMap, run_underlying map_t, asInt, asIntOf, Result.andThen]
theorem once_any (A : Option Addr) (c : Nat) (ks : List ByteArray) (nk : Nat) (hnk : nk = ks.length) (w : World) (h : FlS w (· < w.heap.size) A (ks.map Value.string)) (hl : nk ≤ 9223372036854775807) (hz : ∀ i (h : i < ks.length), (ks[i]'h).size ≤ 100000000) :
 Calls Tryz.prog 94 #[.slice A nk c] w (Told (nodupb ks) w) := by
 have hmm := run_makeMap_hint
 have KF := Lib.hid h
 have HNK := Lib.hid hnk
 have HZ := Lib.hid hz
 obtain ⟨R, hR⟩ : ∃ R, R = nodupb ks := ⟨_, rfl⟩
 rw [← hR]
 have hq : (((Maps.size (Ks ks nk) : Nat) : Int) == (nk : Int)) = R := by
  have k := (Ks_size ks).2
  rw [← hnk] at k
  rw [hR, Bool.eq_iff_iff, beq_iff_eq, nodupb_iff, ← k]
  omega
 clear hnk h hz hR
 go_enter Tryz.func94, Tryz.ntmps94
 go_wp2_with fail
 go_loopw [11] (fun t wr => ∃ j : Nat, j ≤ nk ∧ t = .int .i64 (j : Int) ∧ wr.ownsMap Tryz.prog 9 (unitElem (H := Unit)) w.heap.size j (Ks ks j) ∧ Below w.heap.size w wr) (fun t _ => nk - (intOf t).toNat)
 case atStart => exact ⟨0, Nat.zero_le _, rfl, by rw [Ks_zero]; exact World.ownsMap_made _ _ _ _, (Below.refl _ _).alloc (Nat.le_refl _) _⟩
 case round =>
  obtain ⟨m, hm, rfl, hown, bq⟩ := hrel
  by_cases hmk : m < nk
  · have h1 : m < ks.length := by rw [← HNK.out]; exact hmk
    obtain ⟨b8, o8, e8, hb8, z0⟩ := fl_str KF.out h1
    have hsz := HZ.out m h1
    have zq := (bq.cell (p := ⟨b8, o8 + m, none⟩) hb8).trans z0
    have hlb : b8 < w.heap.size := hb8
    have KST := Lib.hid (Ks_succ h1)
    have hkey : keyOf Tryz.prog 9 (.string (ks[m]'h1)) = some (keyL (ks[m]'h1)) := keyOf_string_mk strT (by unfold maxLen; omega)
    generalize ks[m]'h1 = Y at *
    subst e8
    clear h1 z0 hb8 hsz hq
    go_wp2_with (first
     | (at_mapUpdate; refine wpList_mapUpdate_own _ rfl _ _ _ 172 rfl 9 173 law_key map_t (unitElem (H := Unit)) w.heap.size m _ rfl hown (by unfold maxLen; omega) _ _ _ rfl rfl hkey _ [] unitElem_mk ?_; intro w1 hown1 hgrow1)
     | fail)
    go_roundw
    case rel => exact ⟨m + 1, by omega, by go_num, KST.out.symm ▸ hown1, bq.grown hgrow1 bq.size (fun j hj => by cases hj; exact Nat.le_refl _)⟩
    case measure => simp [intOf]; omega
  · obtain rfl : m = nk := by omega
    go_wp2_with (first
     | (at_len; refine wpList_len_own _ rfl _ 172 rfl 9 173 map_t _ w.heap.size m _ rfl hown ?_)
     | fail)
    go_ret
    exact told_ret (by first | rfl | exact hq.symm) bq
end Go.Proofs.YthfoomobicbcpaaGreatDoor
namespace Go.Proofs.YthfoomobicbcpaaGreatDoor
open Go.ChangeShapes Go.WideShapes Go.ChangeAt Go.RowKit Mem
noncomputable def rgtb (t : J) (most : Nat) : Bool := decide (t.deep ≤ most) && t.frmb
theorem rgtb_iff {t : J} {most : Nat} : rgtb t most = true ↔ t.deep ≤ most ∧ t.frm := by unfold rgtb; rw [Bool.and_eq_true, decide_eq_true_eq, J.frmb_iff]
theorem J.deeps_le_of {m : Nat} (h1 : 1 ≤ m) : ∀ {l : List J}, (∀ i (h : i < l.length), (l[i]'h).deep + 1 ≤ m) → J.deeps l ≤ m
 | [], _ => by unfold J.deeps; exact h1
 | x :: r, h => by
  have a := h 0 (by simp)
  have b := J.deeps_le_of h1 (l := r) fun i hi => by have := h (i + 1) (by simpa using hi); simpa using this
  unfold J.deeps
  simp only [List.getElem_cons_zero] at a
  omega
theorem rgt_split (k n : Int) (s : ByteArray) (its : List J) (ks : List ByteArray) (most : Nat) :
 rgtb (.mk k n s its ks) most = true ↔ fitb k n s its.length ks.length = true ∧ (Num.cU s.data.toList).isSome = true ∧ charsb ks = true ∧ nodupb ks = true ∧ ¬ ((k = 5 ∨ k = 6) ∧ most = 0) ∧ ∀ i (h : i < its.length), rgtb (its[i]'h) (most - 1) = true := by
 rw [rgtb_iff, fitb_iff, charsb_iff, nodupb_iff]
 have fr : (J.mk k n s its ks).frm ↔ (1 ≤ k ∧ k ≤ 6 ∧ (k ≠ 2 → k ≠ 3 → n = 0) ∧ (k = 2 → n = 0 ∨ n = 1) ∧ (k ≠ 4 → s = Jp.nil_) ∧ (Num.cU s.data.toList).isSome = true ∧ (k < 5 → its = []) ∧ (k ≠ 6 → ks = []) ∧ (k = 6 → ks.length = its.length) ∧ (∀ x ∈ ks, (Num.cU x.data.toList).isSome = true) ∧ ks.Nodup ∧ J.frms its) := by
  conv => lhs; unfold J.frm
 have li : its = [] ↔ its.length = 0 := List.length_eq_zero_iff.symm
 have lk : ks = [] ↔ ks.length = 0 := List.length_eq_zero_iff.symm
 have din := J.deep_in (j := .mk k n s its ks); have dout := J.deep_out (j := .mk k n s its ks)
 simp only [J.k, J.its] at din dout
 constructor
 · rintro ⟨hd, hf⟩
   obtain ⟨f1, f2, f3, f4, f5, f6, f7, f8, f9, f10, f11, f12⟩ := fr.1 hf
   refine ⟨⟨f1, f2, f3, f4, f5, fun h => li.1 (f7 h), fun h => lk.1 (f8 h), f9⟩, f6, f10, f11, ?_, fun i hi => ?_⟩
   · rintro ⟨hk, h0⟩
     rw [din hk] at hd
     have := J.deeps_pos its; omega
   · have hk : k = 5 ∨ k = 6 := by
      by_cases g : k < 5
      · have := li.1 (f7 g); omega
      · omega
     rw [din hk] at hd
     rw [rgtb_iff]
     refine ⟨?_, J.frms_iff.1 f12 i hi⟩
     have := J.deep_at hi; omega
 · rintro ⟨⟨f1, f2, f3, f4, f5, f7, f8, f9⟩, f6, f10, f11, h0, hi⟩
   refine ⟨?_, fr.2 ⟨f1, f2, f3, f4, f5, f6, fun h => li.2 (f7 h), fun h => lk.2 (f8 h), f9, f10, f11, J.frms_iff.2 fun i h => (rgtb_iff.1 (hi i h)).2⟩⟩
   by_cases hk : k = 5 ∨ k = 6
   · rw [din hk]
     have h1 : 1 ≤ most := by
      rcases Nat.eq_zero_or_pos most with e | e
      · exact absurd ⟨hk, e⟩ h0
      · exact e
     refine J.deeps_le_of h1 fun i h => ?_
     have := (rgtb_iff.1 (hi i h)).1; omega
   · rw [dout hk]; exact Nat.zero_le _
theorem bool_no {a : Bool} {p : Prop} (h : a = true → p) (hp : ¬ p) : a = false := by
 cases a with
 | false => rfl
 | true => exact absurd (h rfl) hp
theorem charsb_one (s : ByteArray) : charsb [s] = (Num.cU s.data.toList).isSome := by
 rw [Bool.eq_iff_iff, charsb_iff]; simp
theorem cright_at : ∀ (N : Nat) (t : J), SizeOf.sizeOf t ≤ N → t.wt ≤ 1000000 → ∀ (most : Nat) (M : Int), M = (most : Int) → most ≤ 32 → ∀ (w : World), Laid w → ∀ (A3 A4 : Option Addr) (c3 c4 : Nat),
 TreeC w w.heap.size t [.int .i64 t.k, .int .i64 t.n, .string t.t, .slice A3 t.its.length c3, .slice A4 t.ks.length c4] →
 Calls Tryz.prog 49 #[.agg #[.int .i64 t.k, .int .i64 t.n, .string t.t, .slice A3 t.its.length c3, .slice A4 t.ks.length c4], .int .i64 M] w (Told (rgtb t most) w)
 | 0, t, h => by cases t; simp at h
 | N + 1, .mk k n s its ks, hN => by
  intro hW most M hM hm w hL A3 A4 c3 c4 ht
  have CS := cell_set
  have wt : (J.mk k n s its ks).wt = 1 + s.size + kwt ks + J.wts its := by unfold J.wt; rfl
  have top := hL.top
  have ih : 1 ≤ most → ∀ (i : Nat) (h1 : i < its.length) (W : World) (A3 A4 : Option Addr) (c3 c4 : Nat), Laid W → TreeC W W.heap.size (its[i]'h1) [.int .i64 (its[i]'h1).k, .int .i64 (its[i]'h1).n, .string (its[i]'h1).t, .slice A3 (its[i]'h1).its.length c3, .slice A4 (its[i]'h1).ks.length c4] →
   Calls Tryz.prog 49 #[.agg #[.int .i64 (its[i]'h1).k, .int .i64 (its[i]'h1).n, .string (its[i]'h1).t, .slice A3 (its[i]'h1).its.length c3, .slice A4 (its[i]'h1).ks.length c4], .int .i64 (M - 1)] W (Told (rgtb (its[i]'h1) (most - 1)) W) := fun hp i h1 W A3 A4 c3 c4 l a =>
   cright_at N (its[i]'h1) (by have := J.lt_its (j := .mk k n s its ks) (i := i) h1; simp only [J.its] at this; omega) (by have := wts_at (l := its) h1; omega) (most - 1) (M - 1) (by omega) (by omega) W l A3 A4 c3 c4 a
  simp only [J.k, J.n, J.t, J.its, J.ks] at ht ⊢
  obtain ⟨_, _, _, _, e, hc3, hc4, rt, ft⟩ := ht.out
  simp only [J.k, J.n, J.t, J.its, J.ks, List.cons.injEq, Value.slice.injEq, true_and, and_true] at e hc3 hc4 rt ft
  obtain ⟨⟨rfl, rfl⟩, rfl, rfl⟩ := e
  rw [wt] at hW
  have hss : s.size ≤ 100000000 := by omega
  have hb4 := hc4.2
  have hb3 := hc3.2
  unfold maxLen at hb4 hb3
  have SPL := rgt_split k n s its ks most
  obtain ⟨R, hR⟩ : ∃ R, R = rgtb (.mk k n s its ks) most := ⟨_, rfl⟩
  rw [← hR] at SPL ⊢
  have FITS := Lib.hid (fun W => fits_any k n s its.length ks.length A3 A4 c3 c4 W hb3 hb4)
  have CT : Hid (∀ W, Laid W → Calls Tryz.prog 93 #[.slice (some ⟨W.heap.size, 0, none⟩) 1 1] (W.alloc (.cells #[.string s] 9)) (Told (Num.cU s.data.toList).isSome (W.alloc (.cells #[.string s] 9)))) := fun W l => by
   rw [← charsb_one]
   refine characters_any (some ⟨W.heap.size, 0, none⟩) 1 [s] 1 rfl _ (l.alloc _) (.inr ⟨W.heap.size, 0, rfl, by simp, fun j hj => ?_⟩) (by omega) (fun i hi => ?_)
   · simp only [List.map_cons, List.map_nil, List.length_cons, List.length_nil] at hj ⊢
     obtain rfl : j = 0 := by omega
     simp
   · simp only [List.length_cons, List.length_nil] at hi
     obtain rfl : i = 0 := by omega
     exact hss
  have KZ : ∀ i (h : i < ks.length), (ks[i]'h).size ≤ 100000000 := fun i h => by have := kwt_at (l := ks) h; omega
  have CK : Hid (∀ W, Below w.heap.size w W → Calls Tryz.prog 93 #[.slice A4 ks.length c4] W (Told (charsb ks) W)) := fun W b =>
   characters_any A4 c4 ks _ rfl W (hL.below b top) (ft.keep (Below.keeps b) fun _ h => Nat.lt_of_lt_of_le h b.size) hb4 KZ
  have ON : Hid (∀ W, Below w.heap.size w W → Calls Tryz.prog 94 #[.slice A4 ks.length c4] W (Told (nodupb ks) W)) := fun W b =>
   once_any A4 c4 ks _ rfl W (ft.keep (Below.keeps b) fun _ h => Nat.lt_of_lt_of_le h b.size) hb4 KZ
  have LW := Lib.hid hL
  have RT := Lib.hid rt
  obtain ⟨fb, hfb⟩ : ∃ b, b = fitb k n s its.length ks.length := ⟨_, rfl⟩
  obtain ⟨tb, htb⟩ : ∃ b, b = (Num.cU s.data.toList).isSome := ⟨_, rfl⟩
  obtain ⟨kb, hkb⟩ : ∃ b, b = charsb ks := ⟨_, rfl⟩
  obtain ⟨ob, hob⟩ : ∃ b, b = nodupb ks := ⟨_, rfl⟩
  have FI : Hid (fb = true → k < 5 → its.length = 0) := fun e => by rw [hfb] at e; exact (fitb_iff.1 e).2.2.2.2.2.1
  rw [← hfb, ← htb, ← hkb, ← hob] at SPL
  rw [← hfb] at FITS
  rw [← htb] at CT
  rw [← hkb] at CK
  rw [← hob] at ON
  have FK : Hid (fb = true → k ≤ 6) := fun e => by rw [hfb] at e; exact (fitb_iff.1 e).2.1
  clear hfb htb hkb hob
  obtain ⟨ni, hni⟩ : ∃ m, m = its.length := ⟨_, rfl⟩
  obtain ⟨nk, hnk⟩ : ∃ m, m = ks.length := ⟨_, rfl⟩
  have HNI := Lib.hid hni
  rw [← hni, ← hnk] at FITS ⊢
  rw [← hnk] at CK ON hb4
  rw [← hni] at hb3 FI
  have IH := Lib.hid ih
  have SP := Lib.hid SPL
  have W1 : Below w.heap.size w (w.alloc (.cells #[.int .i64 k, .int .i64 n, .string s, .slice A3 ni c3, .slice A4 nk c4] 25)) := (Below.refl _ _).alloc (Nat.le_refl _) _
  have gz1 : (w.alloc (.cells #[.int .i64 k, .int .i64 n, .string s, .slice A3 ni c3, .slice A4 nk c4] 25)).heap.size = w.heap.size + 1 := by simp
  have GZ1 := Lib.hid gz1
  clear SPL ih hL rt ft ht hni hnk hR hN wt hW hc3 hc4 KZ gz1
  by_cases h0 : (k = 5 ∨ k = 6) ∧ most = 0
  · have Z : Hid (R = false) := bool_no (p := ¬ ((k = 5 ∨ k = 6) ∧ most = 0)) (fun e => (SP.out.1 e).2.2.2.2.1) (fun h => h h0)
    obtain ⟨h5, rfl⟩ := h0
    obtain rfl : M = 0 := by simpa using hM
    clear SP FITS CT CK ON IH RT LW GZ1 FI FK hM
    rcases h5 with rfl | rfl
    all_goals
     go_enter Tryz.func49, Tryz.ntmps49
     go_wp2_with fail
     go_ret
     exact told_ret Z.out bqq
  · have H0 := Lib.hid h0
    clear h0
    obtain h5 | h5 : (k = 5 ∨ k = 6) ∨ ¬ (k = 5 ∨ k = 6) := Classical.em _
    · have hp : 1 ≤ most := by
       rcases Nat.eq_zero_or_pos most with e | e
       · exact absurd ⟨h5, e⟩ H0.out
       · exact e
      have I1 := Lib.hid (IH.out hp)
      have qM : (M == 0) = false := by rw [beq_eq_false_iff_ne]; omega
      have lM : M ≤ 32 := by omega
      have lM0 : 0 < M := by omega
      clear hM hm IH hp FI FK
      rcases h5 with rfl | rfl
      all_goals
       go_enter Tryz.func49, Tryz.ntmps49
       go_wp2_with fail
       with_reducible refine (FITS.out _).mono ?_
       rintro e w2 ⟨rfl, b2⟩
       rw [GZ1.out] at b2
       have s2 := b2.size
       rw [GZ1.out] at s2
       have bw2 : Below w.heap.size w w2 := W1.trans (b2.mono (by omega))
       have hOwn := Nat.lt_of_lt_of_le (n := w.heap.size) sdd (Below.size b2)
       have hOwn1 := Nat.ne_of_gt hOwn
       have hOwn2 := Nat.ne_of_lt hOwn
       have hOwn := ocl b2 w.heap.size 0
       have hOwn := ocl b2 w.heap.size 1
       have hOwn := ocl b2 w.heap.size 2
       have hOwn := ocl b2 w.heap.size 3
       have hOwn := ocl b2 w.heap.size 4
       have hOwn := ofr b2 w.heap.size 0
       have hOwn := ofr b2 w.heap.size 1
       have hOwn := ofr b2 w.heap.size 2
       have hOwn := ofr b2 w.heap.size 3
       have hOwn := ofr b2 w.heap.size 4
       cases fb with
       | false =>
        have Z : Hid (R = false) := bool_no (p := (false = true)) (fun e => (SP.out.1 e).1) (by decide)
        clear SP CT CK ON I1 RT
        go_wp2_with fail
        go_ret
        exact told_ret Z.out bqq
       | true =>
        go_wp2_with fail
        with_reducible refine (CT.out w2 (LW.out.below bw2 top)).mono ?_
        rintro e w3 ⟨rfl, b3⟩
        have z3 : (w2.alloc (.cells #[.string s] 9)).heap.size = w2.heap.size + 1 := by simp
        rw [z3] at b3
        have s3 := b3.size
        rw [z3] at s3
        have hOwn := Nat.lt_of_lt_of_le (n := w.heap.size) sdd (Below.size b3)
        have hOwn1 := Nat.ne_of_gt hOwn
        have hOwn2 := Nat.ne_of_lt hOwn
        have hOwn := ocl b3 w.heap.size 0
        have hOwn := ocl b3 w.heap.size 1
        have hOwn := ocl b3 w.heap.size 2
        have hOwn := ocl b3 w.heap.size 3
        have hOwn := ocl b3 w.heap.size 4
        have hOwn := ofr b3 w.heap.size 0
        have hOwn := ofr b3 w.heap.size 1
        have hOwn := ofr b3 w.heap.size 2
        have hOwn := ofr b3 w.heap.size 3
        have hOwn := ofr b3 w.heap.size 4
        clear z3
        have bw3 : Below w.heap.size w w3 := bqq
        cases tb with
        | false =>
         have Z : Hid (R = false) := bool_no (p := (false = true)) (fun e => (SP.out.1 e).2.1) (by decide)
         clear SP CK ON I1 RT
         go_wp2_with fail
         go_ret
         exact told_ret Z.out bw3
        | true =>
         go_wp2_with fail
         with_reducible refine (CK.out w3 bw3).mono ?_
         rintro e w4 ⟨rfl, b4⟩
         have s4 := b4.size
         have hOwn := Nat.lt_of_lt_of_le (n := w.heap.size) sdd (Below.size b4)
         have hOwn1 := Nat.ne_of_gt hOwn
         have hOwn2 := Nat.ne_of_lt hOwn
         have hOwn := ocl b4 w.heap.size 0
         have hOwn := ocl b4 w.heap.size 1
         have hOwn := ocl b4 w.heap.size 2
         have hOwn := ocl b4 w.heap.size 3
         have hOwn := ocl b4 w.heap.size 4
         have hOwn := ofr b4 w.heap.size 0
         have hOwn := ofr b4 w.heap.size 1
         have hOwn := ofr b4 w.heap.size 2
         have hOwn := ofr b4 w.heap.size 3
         have hOwn := ofr b4 w.heap.size 4
         have bw4 : Below w.heap.size w w4 := bw3.trans (b4.mono (by omega))
         cases kb with
         | false =>
          have Z : Hid (R = false) := bool_no (p := (false = true)) (fun e => (SP.out.1 e).2.2.1) (by decide)
          clear SP ON I1 RT
          go_wp2_with fail
          go_ret
          exact told_ret Z.out bw4
         | true =>
          go_wp2_with fail
          with_reducible refine (ON.out w4 bw4).mono ?_
          rintro e w5 ⟨rfl, b5⟩
          have s5 := b5.size
          have hOwn := Nat.lt_of_lt_of_le (n := w.heap.size) sdd (Below.size b5)
          have hOwn1 := Nat.ne_of_gt hOwn
          have hOwn2 := Nat.ne_of_lt hOwn
          have hOwn := ocl b5 w.heap.size 0
          have hOwn := ocl b5 w.heap.size 1
          have hOwn := ocl b5 w.heap.size 2
          have hOwn := ocl b5 w.heap.size 3
          have hOwn := ocl b5 w.heap.size 4
          have hOwn := ofr b5 w.heap.size 0
          have hOwn := ofr b5 w.heap.size 1
          have hOwn := ofr b5 w.heap.size 2
          have hOwn := ofr b5 w.heap.size 3
          have hOwn := ofr b5 w.heap.size 4
          have bw5 : Below w.heap.size w w5 := bw4.trans (b5.mono (by omega))
          cases ob with
          | false =>
           have Z : Hid (R = false) := bool_no (p := (false = true)) (fun e => (SP.out.1 e).2.2.2.1) (by decide)
           clear SP I1 RT
           go_wp2_with fail
           go_ret
           exact told_ret Z.out bw5
          | true =>
           have SPI : Hid (R = true ↔ ∀ i (h : i < its.length), rgtb (its[i]'h) (most - 1) = true) := by
            show _ ↔ _
            exact SP.out.trans ⟨fun h => h.2.2.2.2.2, fun h => ⟨by first | rfl | trivial, by first | rfl | trivial, by first | rfl | trivial, by first | rfl | trivial, H0.out, h⟩⟩
           clear SP H0
           go_wp2_with fail
           go_loopw [46] (fun t wr => ∃ j : Nat, j ≤ ni ∧ t = .int .i64 (j : Int) ∧ Hid (∀ m (h : m < its.length), m < j → rgtb (its[m]'h) (most - 1) = true) ∧ Below w.heap.size w wr) (fun t _ => ni - (intOf t).toNat)
           case atStart => exact ⟨0, Nat.zero_le _, rfl, fun _ _ h => absurd h (Nat.not_lt_zero _), bw5⟩
           case round =>
            obtain ⟨m, hm, rfl, AL, bq⟩ := hrel
            have sq := bq.size
            by_cases hmk : m < ni
            · have h1 : m < its.length := by rw [← HNI.out]; exact hmk
              obtain ⟨b1, o1, X3, x3, X4, x4, e1, hb1, y0, y1, y2, y3, y4, ty⟩ := (RT.out.below bq).cells h1
              have TY := Lib.hid ty
              have I2 : Hid (∀ W, Below wr.heap.size wr W → Calls Tryz.prog 49 #[.agg #[.int .i64 (its[m]'h1).k, .int .i64 (its[m]'h1).n, .string (its[m]'h1).t, .slice X3 (its[m]'h1).its.length x3, .slice X4 (its[m]'h1).ks.length x4], .int .i64 (M - 1)] W (Told (rgtb (its[m]'h1) (most - 1)) W)) := fun W b =>
               I1.out m h1 W X3 X4 x3 x4 (LW.out.below (bq.trans (b.mono sq)) top) (((TY.out.more sq).below b).more b.size)
              have NO : Hid (rgtb (its[m]'h1) (most - 1) = false → R = false) := fun e => bool_no (p := rgtb (its[m]'h1) (most - 1) = true) (fun g => SPI.out.1 g m h1) (by rw [e]; decide)
              have NX : Hid (rgtb (its[m]'h1) (most - 1) = true → ∀ q (h : q < its.length), q < m + 1 → rgtb (its[q]'h) (most - 1) = true) := fun e q h hq => by
               rcases Nat.lt_or_ge q m with g | g
               · exact AL.out q h g
               · obtain rfl : q = m := by omega
                 exact e
              obtain ⟨B, hB⟩ : ∃ B, B = rgtb (its[m]'h1) (most - 1) := ⟨_, rfl⟩
              rw [← hB] at I2 NO NX
              generalize its[m]'h1 = T at *
              subst e1
              have lb1 : b1 < w.heap.size := hb1
              have nb1 : b1 ≠ wr.heap.size := by omega
              clear ty h1 hB TY
              go_wp2_with fail
              with_reducible refine (I2.out _ bqq).mono ?_
              rintro e w6 ⟨rfl, b6⟩
              have bw6 : Below w.heap.size w w6 := bqq
              cases B with
              | false =>
               have Z := Lib.hid (NO.out (by first | rfl | trivial))
               go_wp2_with fail
               go_ret
               exact told_ret Z.out bw6
              | true =>
               have nx := NX.out (by first | rfl | trivial)
               have NX2 := Lib.hid nx
               clear nx NX
               go_wp2_with fail
               go_roundw
               case rel => exact ⟨m + 1, by omega, by go_num, NX2, bw6⟩
               case measure => simp [intOf]; omega
            · obtain rfl : m = ni := by omega
              have Z : Hid (R = true) := SPI.out.2 fun i h => AL.out i h (by rw [HNI.out]; exact h)
              clear hmk
              go_wp2_with fail
              go_ret
              exact told_ret Z.out bq
    · have q5 : (k == 5) = false := by rw [beq_eq_false_iff_ne]; omega
      have q6 : (k == 6) = false := by rw [beq_eq_false_iff_ne]; omega
      clear hM hm IH RT
      go_enter Tryz.func49, Tryz.ntmps49
      go_wp2_with fail
      with_reducible refine (FITS.out _).mono ?_
      rintro e w2 ⟨rfl, b2⟩
      rw [GZ1.out] at b2
      have s2 := b2.size
      rw [GZ1.out] at s2
      have bw2 : Below w.heap.size w w2 := W1.trans (b2.mono (by omega))
      have hOwn := Nat.lt_of_lt_of_le (n := w.heap.size) sdd (Below.size b2)
      have hOwn1 := Nat.ne_of_gt hOwn
      have hOwn2 := Nat.ne_of_lt hOwn
      have hOwn := ocl b2 w.heap.size 0
      have hOwn := ocl b2 w.heap.size 1
      have hOwn := ocl b2 w.heap.size 2
      have hOwn := ocl b2 w.heap.size 3
      have hOwn := ocl b2 w.heap.size 4
      have hOwn := ofr b2 w.heap.size 0
      have hOwn := ofr b2 w.heap.size 1
      have hOwn := ofr b2 w.heap.size 2
      have hOwn := ofr b2 w.heap.size 3
      have hOwn := ofr b2 w.heap.size 4
      cases fb with
      | false =>
       have Z : Hid (R = false) := bool_no (p := (false = true)) (fun e => (SP.out.1 e).1) (by decide)
       clear SP CT CK ON FI
       go_wp2_with fail
       go_ret
       exact told_ret Z.out bqq
      | true =>
       have n0 : ni = 0 := FI.out rfl (by have := FK.out rfl; omega)
       subst n0
       have hl0 := HNI.out.symm
       clear FI FK
       go_wp2_with fail
       with_reducible refine (CT.out w2 (LW.out.below bw2 top)).mono ?_
       rintro e w3 ⟨rfl, b3⟩
       have z3 : (w2.alloc (.cells #[.string s] 9)).heap.size = w2.heap.size + 1 := by simp
       rw [z3] at b3
       have s3 := b3.size
       rw [z3] at s3
       have hOwn := Nat.lt_of_lt_of_le (n := w.heap.size) sdd (Below.size b3)
       have hOwn1 := Nat.ne_of_gt hOwn
       have hOwn2 := Nat.ne_of_lt hOwn
       have hOwn := ocl b3 w.heap.size 0
       have hOwn := ocl b3 w.heap.size 1
       have hOwn := ocl b3 w.heap.size 2
       have hOwn := ocl b3 w.heap.size 3
       have hOwn := ocl b3 w.heap.size 4
       have hOwn := ofr b3 w.heap.size 0
       have hOwn := ofr b3 w.heap.size 1
       have hOwn := ofr b3 w.heap.size 2
       have hOwn := ofr b3 w.heap.size 3
       have hOwn := ofr b3 w.heap.size 4
       clear z3
       have bw3 : Below w.heap.size w w3 := bqq
       cases tb with
       | false =>
        have Z : Hid (R = false) := bool_no (p := (false = true)) (fun e => (SP.out.1 e).2.1) (by decide)
        clear SP CK ON
        go_wp2_with fail
        go_ret
        exact told_ret Z.out bw3
       | true =>
        go_wp2_with fail
        with_reducible refine (CK.out w3 bw3).mono ?_
        rintro e w4 ⟨rfl, b4⟩
        have s4 := b4.size
        have hOwn := Nat.lt_of_lt_of_le (n := w.heap.size) sdd (Below.size b4)
        have hOwn1 := Nat.ne_of_gt hOwn
        have hOwn2 := Nat.ne_of_lt hOwn
        have hOwn := ocl b4 w.heap.size 0
        have hOwn := ocl b4 w.heap.size 1
        have hOwn := ocl b4 w.heap.size 2
        have hOwn := ocl b4 w.heap.size 3
        have hOwn := ocl b4 w.heap.size 4
        have hOwn := ofr b4 w.heap.size 0
        have hOwn := ofr b4 w.heap.size 1
        have hOwn := ofr b4 w.heap.size 2
        have hOwn := ofr b4 w.heap.size 3
        have hOwn := ofr b4 w.heap.size 4
        have bw4 : Below w.heap.size w w4 := bw3.trans (b4.mono (by omega))
        cases kb with
        | false =>
         have Z : Hid (R = false) := bool_no (p := (false = true)) (fun e => (SP.out.1 e).2.2.1) (by decide)
         clear SP ON
         go_wp2_with fail
         go_ret
         exact told_ret Z.out bw4
        | true =>
         go_wp2_with fail
         with_reducible refine (ON.out w4 bw4).mono ?_
         rintro e w5 ⟨rfl, b5⟩
         have s5 := b5.size
         have hOwn := Nat.lt_of_lt_of_le (n := w.heap.size) sdd (Below.size b5)
         have hOwn1 := Nat.ne_of_gt hOwn
         have hOwn2 := Nat.ne_of_lt hOwn
         have hOwn := ocl b5 w.heap.size 0
         have hOwn := ocl b5 w.heap.size 1
         have hOwn := ocl b5 w.heap.size 2
         have hOwn := ocl b5 w.heap.size 3
         have hOwn := ocl b5 w.heap.size 4
         have hOwn := ofr b5 w.heap.size 0
         have hOwn := ofr b5 w.heap.size 1
         have hOwn := ofr b5 w.heap.size 2
         have hOwn := ofr b5 w.heap.size 3
         have hOwn := ofr b5 w.heap.size 4
         have bw5 : Below w.heap.size w w5 := bw4.trans (b5.mono (by omega))
         cases ob with
         | false =>
          have Z : Hid (R = false) := bool_no (p := (false = true)) (fun e => (SP.out.1 e).2.2.2.1) (by decide)
          clear SP
          go_wp2_with fail
          go_ret
          exact told_ret Z.out bw5
         | true =>
          have Z : Hid (R = true) := SP.out.2 ⟨by first | rfl | trivial, by first | rfl | trivial, by first | rfl | trivial, by first | rfl | trivial, H0.out, fun i h => absurd h (by omega)⟩
          clear SP H0
          go_wp2_with fail
          go_loopw [46] (fun t wr => t = .int .i64 0 ∧ wr = w5) (fun _ _ => 0)
          case atStart => exact ⟨rfl, by first | rfl | trivial⟩
          case round =>
           obtain ⟨rfl, rfl⟩ := hrel
           go_wp2_with fail
           go_ret
           exact told_ret Z.out bw5
theorem jRight_any (t : J) (hW : t.wt ≤ 1000000) (_hD : t.deep ≤ 1000000) (w : World) (hL : Laid w) (A3 A4 : Option Addr) (c3 c4 : Nat) (ht : TreeC w w.heap.size t [.int .i64 t.k, .int .i64 t.n, .string t.t, .slice A3 t.its.length c3, .slice A4 t.ks.length c4]) :
 Calls Tryz.prog 26 #[.agg #[.int .i64 t.k, .int .i64 t.n, .string t.t, .slice A3 t.its.length c3, .slice A4 t.ks.length c4]] w (Told t.rightb w) := by
 have CS := cell_set
 have W1 : Below w.heap.size w (w.alloc (.cells #[.int .i64 t.k, .int .i64 t.n, .string t.t, .slice A3 t.its.length c3, .slice A4 t.ks.length c4] 25)) := (Below.refl _ _).alloc (Nat.le_refl _) _
 have RG : Hid (∀ W, Below w.heap.size w W → Calls Tryz.prog 49 #[.agg #[.int .i64 t.k, .int .i64 t.n, .string t.t, .slice A3 t.its.length c3, .slice A4 t.ks.length c4], .int .i64 32] W (Told t.rightb W)) := fun W b =>
  cright_at _ t (Nat.le_refl _) hW 32 32 rfl (Nat.le_refl _) W (hL.below b hL.top) A3 A4 c3 c4 ((ht.below b).more b.size)
 clear ht hL
 go_enter Tryz.func26, Tryz.ntmps26
 go_wp2_with fail
 with_reducible refine (RG.out _ W1).mono ?_
 rintro e w2 ⟨rfl, b2⟩
 go_wp2_with fail
 go_ret
 exact told_ret rfl (Below.next W1 b2)
end Go.Proofs.YthfoomobicbcpaaGreatDoor
