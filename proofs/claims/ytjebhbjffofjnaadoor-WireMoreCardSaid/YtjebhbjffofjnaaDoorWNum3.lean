/- Plain mathematics of layer 4, more: what a call reads it reads alike if more bytes stand behind. -/
import Derived.Test.YtjebhbjffofjnaaDoorWNum2
namespace Go.Proofs.YtjebhbjffofjnaaDoor.Wr
open Num

theorem cnt_more : ∀ (m : Nat) (D t : List UInt8), cnt m D < D.length → cnt m (D ++ t) = cnt m D := by
  intro m D t h
  refine cnt_is (cnt_le m D) (by rw [List.length_append]; omega) (fun k hk => ?_) ?_
  · rw [List.getD_eq_getElem?_getD, List.getElem?_append_left (by omega), ← List.getD_eq_getElem?_getD]
    exact cnt_big m D k hk
  · by_cases e : cnt m D = m
    · exact .inl e
    · refine .inr (.inr ?_)
      rw [List.getD_eq_getElem?_getD, List.getElem?_append_left h, ← List.getD_eq_getElem?_getD]
      exact cnt_end m D (by have := cnt_le m D; omega) h
theorem val_more : ∀ (k : Nat) (D t : List UInt8), k ≤ D.length → val k (D ++ t) = val k D
  | 0, D, t, _ => by rw [val, val]
  | k + 1, D, t, h => by
    rw [val_snoc, val_snoc, val_more k D t (by omega)]
    rw [List.getD_eq_getElem?_getD, List.getElem?_append_left (by omega), ← List.getD_eq_getElem?_getD]
theorem tak_more {most top : Nat} {D t : List UInt8} (h : (tak most top D).2.2 ≠ 10) : tak most top (D ++ t) = tak most top D := by
  by_cases hs : D.length ≤ cnt (most - 1) D
  · rw [tak_short rfl hs] at h; exact absurd rfl h
  · have hN := cnt_more (most - 1) D t (by omega)
    have hg : (D ++ t).getD (cnt (most - 1) D) 0 = D.getD (cnt (most - 1) D) 0 := by
      rw [List.getD_eq_getElem?_getD, List.getElem?_append_left (by omega), ← List.getD_eq_getElem?_getD]
    have hl : cnt (most - 1) D < (D ++ t).length := by rw [List.length_append]; omega
    by_cases hf : (cnt (most - 1) D = most - 1 ∧ top < (D.getD (cnt (most - 1) D) 0).toNat) ∨ (0 < cnt (most - 1) D ∧ (D.getD (cnt (most - 1) D) 0).toNat = 0)
    · rw [tak_form rfl (by omega) rfl hf, tak_form hN.symm hl (by rw [hg]) hf]
    · rw [tak_ok rfl (by omega) rfl hf, tak_ok hN.symm hl (by rw [hg]) hf]
      rw [val_more _ _ _ (by omega)]
theorem cut_more {l t : List UInt8} {k : Nat} (N : Nat) (hk : k ≤ l.length) : cut l (k : Int) 0 (N : Int) = ([], (k : Int), 10) ∨ ∃ X m, cut l (k : Int) 0 (N : Int) = (X, m, 0) ∧ cut (l ++ t) (k : Int) 0 (N : Int) = (X, m, 0) := by
  by_cases hn : k + N ≤ l.length
  · refine .inr ⟨_, _, cut_good hn, ?_⟩
    rw [cut_good (by rw [List.length_append]; omega), List.drop_append_of_le_length hk, List.take_append_of_le_length (by rw [List.length_drop]; omega)]
  · exact .inl (cut_short hk (by omega))
theorem lnum_more {most top : Nat} {l t : List UInt8} {k : Nat} (hk : k ≤ l.length) : lnum most top l (k : Int) 0 = (0, (k : Int), 10) ∨ (lnum most top l (k : Int) 0).2.2 ≠ 10 ∧ lnum most top (l ++ t) (k : Int) 0 = lnum most top l (k : Int) 0 := by
  obtain ⟨⟨u, c, e⟩, hr⟩ : ∃ r, r = tak most top (l.drop k) := ⟨_, rfl⟩
  have T := tak_err hr.symm
  unfold lnum
  rw [rdy_ok hk, rdy_ok (l := l ++ t) (by rw [List.length_append]; omega), if_neg (by simp), At.good hk hr.symm]
  by_cases h : e = 10
  · subst h
    rcases T with ⟨h, _⟩ | ⟨_, rfl, rfl⟩
    · omega
    · left; simp [zag]
  · right
    have hm := tak_more (t := t) (D := l.drop k) (most := most) (top := top) (by rw [← hr]; exact h)
    rw [← hr] at hm
    rw [At.good (l := l ++ t) (u := u) (c := c) (e := e) (by rw [List.length_append]; omega) (by rw [List.drop_append_of_le_length hk]; exact hm)]
    exact ⟨by show (e : Int) ≠ 10; omega, by simp⟩
theorem boo_more {l t : List UInt8} {k : Nat} (hk : k ≤ l.length) : boo l (k : Int) 0 = (0, (k : Int), 10) ∨ (boo l (k : Int) 0).2.2 ≠ 10 ∧ boo (l ++ t) (k : Int) 0 = boo l (k : Int) 0 := by
  rcases cut_more (t := t) 1 hk with h | ⟨X, m, h1, h2⟩
  · left; unfold boo; rw [show cut l (k : Int) 0 1 = ([], (k : Int), 10) from h]; simp
  · right
    unfold boo
    rw [show cut l (k : Int) 0 1 = (X, m, 0) from h1, show cut (l ++ t) (k : Int) 0 1 = (X, m, 0) from h2]
    refine ⟨?_, rfl⟩
    rw [if_neg (by simp)]
    split <;> simp
theorem bts_more {l t : List UInt8} {k : Nat} (n : Int) (hk : k ≤ l.length) : bts l (k : Int) 0 n = (0, (k : Int), 10) ∨ (bts l (k : Int) 0 n).2.2 ≠ 10 ∧ bts (l ++ t) (k : Int) 0 n = bts l (k : Int) 0 n := by
  obtain ⟨N, hN, _⟩ := most8_nat n
  unfold bts
  rw [hN]
  rcases cut_more (t := t) N hk with h | ⟨X, m, h1, h2⟩
  · left; rw [h]; rfl
  · right; rw [h1, h2]; exact ⟨by simp, rfl⟩
theorem fxd_more {l t : List UInt8} {k : Nat} (n : Int) (hk : k ≤ l.length) : fxd l (k : Int) 0 n = ([], (k : Int), 10) ∨ (fxd l (k : Int) 0 n).2.2 ≠ 10 ∧ fxd (l ++ t) (k : Int) 0 n = fxd l (k : Int) 0 n := by
  obtain ⟨N, hN⟩ := Int.eq_ofNat_of_zero_le (a := max n 0) (by omega)
  unfold fxd
  rw [hN]
  rcases cut_more (t := t) N hk with h | ⟨X, m, h1, h2⟩
  · left; exact h
  · right; rw [h1, h2]; exact ⟨by simp, rfl⟩
theorem byt_more {l t : List UInt8} {k : Nat} (hk : k ≤ l.length) : byt l (k : Int) 0 = ([], (k : Int), 10) ∨ (byt l (k : Int) 0).2.2 ≠ 10 ∧ byt (l ++ t) (k : Int) 0 = byt l (k : Int) 0 := by
  rcases lnum_more (most := 10) (top := 1) (t := t) hk with h | ⟨h1, h2⟩
  · left; unfold byt; rw [h]; simp
  · rcases byt_ways l (k : Int) 0 with ⟨n, r, hr, hl, hb⟩ | ⟨n, m, hn, hl, hb⟩ | ⟨n, m, hn, hl, hb⟩ | ⟨N, m, hN, hl, hc⟩
    · right
      rw [hl] at h1 h2
      refine ⟨by rw [hb]; exact h1, ?_⟩
      rw [hb]; unfold byt; rw [h2, if_pos hr]
    · right
      rw [hl] at h2
      refine ⟨by rw [hb]; simp, ?_⟩
      rw [hb]; unfold byt; rw [h2, if_neg (by simp), if_pos hn]
    · right
      rw [hl] at h2
      refine ⟨by rw [hb]; simp, ?_⟩
      rw [hb]; unfold byt; rw [h2, if_neg (by simp), if_neg (by show ¬ n < 0; omega), if_pos hn]
    · rw [hl] at h2
      have km : ∃ j : Nat, m = (j : Int) ∧ j ≤ l.length := by
        unfold lnum at hl
        rw [rdy_ok hk, if_neg (by simp)] at hl
        obtain ⟨⟨u, c, e⟩, hr⟩ : ∃ r, r = tak 10 1 (l.drop k) := ⟨_, rfl⟩
        rw [At.good hk hr.symm] at hl
        simp only [Prod.mk.injEq] at hl
        have := tak_err hr.symm
        rw [List.length_drop] at this
        exact ⟨k + c, by omega, by omega⟩
      obtain ⟨j, rfl, hj⟩ := km
      rcases cut_more (t := t) N hj with h | ⟨X, m', c1, c2⟩
      · left
        rcases hc with ⟨r, hr, hc, hb⟩ | ⟨X, m', _, _, hc, hb⟩
        · rw [h] at hc; simp only [Prod.mk.injEq] at hc; rw [hb, ← hc.2.2]
        · rw [h] at hc; simp only [Prod.mk.injEq] at hc; omega
      · right
        have hb : byt l (k : Int) 0 = (X, m', 0) := by
          rcases hc with ⟨r, hr, hc, hb⟩ | ⟨X', m'', _, _, hc, hb⟩
          · rw [c1] at hc; simp only [Prod.mk.injEq] at hc; exact absurd hc.2.2.symm hr
          · rw [c1] at hc; rw [hb, hc]
        refine ⟨by rw [hb]; simp, ?_⟩
        rw [hb]; unfold byt
        rw [h2, if_neg (by simp), if_neg (by show ¬ (N : Int) < 0; omega), if_neg (by show ¬ 20000 < (N : Int); omega)]
        show (if (cut (l ++ t) (j : Int) 0 (N : Int)).2.2 ≠ 0 then _ else cut (l ++ t) (j : Int) 0 (N : Int)) = _
        rw [c2, if_neg (by simp)]
theorem txt_more {l t : List UInt8} {k : Nat} (hk : k ≤ l.length) : txt l (k : Int) 0 = ([], (k : Int), 10) ∨ (txt l (k : Int) 0).2.2 ≠ 10 ∧ txt (l ++ t) (k : Int) 0 = txt l (k : Int) 0 := by
  rcases byt_more (t := t) hk with h | ⟨h1, h2⟩
  · left; unfold txt; rw [h, if_neg (by simp)]
  · right
    unfold txt
    rw [h2]
    refine ⟨?_, rfl⟩
    split
    · simp
    · exact h1
end Go.Proofs.YtjebhbjffofjnaaDoor.Wr
