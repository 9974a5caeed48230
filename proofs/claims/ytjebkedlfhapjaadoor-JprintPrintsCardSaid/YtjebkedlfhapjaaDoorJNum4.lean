/- Plain mathematics of layer 6: what Take tells, by the first byte behind the white ones. -/
import Derived.Test.YtjebkedlfhapjaaDoorJNum
namespace Go.Proofs.YtjebkedlfhapjaaDoor.Jx
open Num

section
variable {l : List UInt8} {k q : Nat} (hq : q = k + cnt isW (l.drop k)) (hl : q < l.length)
include hq hl
theorem tak_p (h : punct (byt l q) ≠ 0) : tak l k = (⟨punct (byt l q), 0, [], 0 + q, 1 + q⟩, 0) := by
  have b : byt (l.drop q) 0 = byt l q := byt_drop l q 0
  have := word_p (l := l.drop q) (by rw [b]; exact h)
  rw [b] at this
  exact tak_word hq (by omega) this
theorem tak_t0 (h : byt l q = 34) (ht : txt (l.drop (q + 1)) = none) : tak l k = (Wd.zero, 20) := by
  have b : byt (l.drop q) 0 = byt l q := byt_drop l q 0
  exact tak_err hq (by omega) (word_t0 (by rw [b]; exact h) (by rw [List.drop_drop]; exact ht)) (by decide)
theorem tak_t {s : List UInt8} {n : Nat} (h : byt l q = 34) (ht : txt (l.drop (q + 1)) = some (s, n)) : tak l k = (⟨10, 0, s, 0 + q, n + 1 + q⟩, 0) := by
  have b : byt (l.drop q) 0 = byt l q := byt_drop l q 0
  exact tak_word hq (by omega) (word_t (by rw [b]; exact h) (by rw [List.drop_drop]; exact ht))
theorem tak_n (h : byt l q = 45 ∨ isD (byt l q) = true) (hn : (num (l.drop q)).2.2 = 0) : tak l k = (⟨9, (num (l.drop q)).1, [], 0 + q, (num (l.drop q)).2.1 + q⟩, 0) := by
  have b : byt (l.drop q) 0 = byt l q := byt_drop l q 0
  exact tak_word hq (by omega) (by rw [word_n (by rw [b]; exact h), if_pos hn])
theorem tak_n0 (h : byt l q = 45 ∨ isD (byt l q) = true) (hn : (num (l.drop q)).2.2 ≠ 0) : tak l k = (Wd.zero, (num (l.drop q)).2.2) := by
  have b : byt (l.drop q) 0 = byt l q := byt_drop l q 0
  exact tak_err hq (by omega) (by rw [word_n (by rw [b]; exact h), if_neg hn]) hn
theorem tak_l (h : punct (byt l q) = 0) (h1 : byt l q ≠ 34) (h2 : ¬ (byt l q = 45 ∨ isD (byt l q) = true)) :
    tak l k = if named (l.drop q) sT = true then (⟨7, 1, [], 0 + q, 4 + q⟩, 0) else if named (l.drop q) sF = true then (⟨7, 0, [], 0 + q, 5 + q⟩, 0) else if named (l.drop q) sN = true then (⟨8, 0, [], 0 + q, 4 + q⟩, 0) else (Wd.zero, 20) := by
  have b : byt (l.drop q) 0 = byt l q := byt_drop l q 0
  have e := word_l (l := l.drop q) (by rw [b]; exact h) (by rw [b]; exact h1) (by rw [b]; exact h2)
  split at e
  · rename_i a; rw [if_pos a]; exact tak_word hq (by omega) e
  · rename_i a; rw [if_neg a]
    split at e
    · rename_i a; rw [if_pos a]; exact tak_word hq (by omega) e
    · rename_i a; rw [if_neg a]
      split at e
      · rename_i a; rw [if_pos a]; exact tak_word hq (by omega) e
      · rename_i a; rw [if_neg a]; exact tak_err hq (by omega) e (by decide)
end
theorem tak_e {l : List UInt8} {k q : Nat} (hq : q = k + cnt isW (l.drop k)) (h : q = l.length) : tak l k = (⟨11, 0, [], q, q⟩, 0) := by
  rw [tak_end (by omega), h]

/-- The six signs. -/
def ones : List Nat := [123, 125, 91, 93, 58, 44]
/-- A byte that is none of the first j signs. -/
def NoP (X j : Nat) : Prop := ∀ i, i < j → ones.getD i 0 ≠ X
theorem NoP.go {X j : Nat} (h : NoP X j) (k : ones.getD j 0 ≠ X) : NoP X (j + 1) := fun i hi => by
  rcases Nat.lt_or_ge i j with a | a
  · exact h i a
  · obtain rfl : i = j := by omega
    exact k
theorem NoP.done {X : Nat} (h : NoP X 6) : punct X = 0 := by
  have a := h 0 (by omega); have b := h 1 (by omega); have c := h 2 (by omega); have d := h 3 (by omega); have e := h 4 (by omega); have f := h 5 (by omega)
  simp only [ones, List.getD, List.getElem?_cons_zero, List.getElem?_cons_succ, Option.getD_some] at a b c d e f
  have := punct_is X
  omega
end Go.Proofs.YtjebkedlfhapjaaDoor.Jx
/- Plain mathematics of layer 6: what a text is quoted as. -/
namespace Go.Proofs.YtjebkedlfhapjaaDoor.Jx
open Num

def hexd : List UInt8 := [48, 49, 50, 51, 52, 53, 54, 55, 56, 57, 97, 98, 99, 100, 101, 102]
/-- A byte, quoted. -/
def qc (x : UInt8) : List UInt8 :=
  if x.toNat = 34 ∨ x.toNat = 92 then [92, x] else if x.toNat = 8 then [92, 98] else if x.toNat = 12 then [92, 102] else if x.toNat = 10 then [92, 110] else if x.toNat = 13 then [92, 114] else if x.toNat = 9 then [92, 116]
  else if x.toNat < 32 then [92, 117, 48, 48, hexd.getD (x.toNat / 16) 0, hexd.getD (x.toNat % 16) 0] else [x]
def qb (s : List UInt8) : List UInt8 := s.flatMap qc
def quo (s : List UInt8) : List UInt8 := 34 :: (qb s ++ [34])
theorem qb_nil : qb [] = [] := rfl
theorem qb_cons (x : UInt8) (s : List UInt8) : qb (x :: s) = qc x ++ qb s := rfl
theorem qb_app (s t : List UInt8) : qb (s ++ t) = qb s ++ qb t := by unfold qb; simp
theorem qc_len (x : UInt8) : 1 ≤ (qc x).length ∧ (qc x).length ≤ 6 := by
  unfold qc; split
  · simp
  · split
    · simp
    · split
      · simp
      · split
        · simp
        · split
          · simp
          · split
            · simp
            · split <;> simp
theorem qb_len (s : List UInt8) : (qb s).length ≤ 6 * s.length := by
  induction s with
  | nil => simp [qb]
  | cons x r ih => rw [qb_cons]; have := qc_len x; simp; omega
/-- The loop of quoting: what stands when k bytes are done. -/
theorem qb_snoc {s : List UInt8} {k : Nat} (h : k < s.length) : qb (s.take (k + 1)) = qb (s.take k) ++ qc (s.getD k 0) := by
  rw [take_snoc h, qb_app]; simp [qb]
theorem qc_ways (x : UInt8) (c : Nat) (hc : c = x.toNat) :
    ((c = 34 ∨ c = 92) ∧ qc x = [92, x]) ∨ (c = 8 ∧ qc x = [92, 98]) ∨ (c = 12 ∧ qc x = [92, 102]) ∨ (c = 10 ∧ qc x = [92, 110]) ∨ (c = 13 ∧ qc x = [92, 114]) ∨ (c = 9 ∧ qc x = [92, 116]) ∨
    (c < 32 ∧ c ≠ 34 ∧ c ≠ 92 ∧ c ≠ 8 ∧ c ≠ 12 ∧ c ≠ 10 ∧ c ≠ 13 ∧ c ≠ 9 ∧ qc x = [92, 117, 48, 48, hexd.getD (c / 16) 0, hexd.getD (c % 16) 0]) ∨ (32 ≤ c ∧ c ≠ 34 ∧ c ≠ 92 ∧ qc x = [x]) := by
  subst hc
  unfold qc
  split
  · exact .inl ⟨by assumption, rfl⟩
  · split
    · exact .inr (.inl ⟨by assumption, rfl⟩)
    · split
      · exact .inr (.inr (.inl ⟨by assumption, rfl⟩))
      · split
        · exact .inr (.inr (.inr (.inl ⟨by assumption, rfl⟩)))
        · split
          · exact .inr (.inr (.inr (.inr (.inl ⟨by assumption, rfl⟩))))
          · split
            · exact .inr (.inr (.inr (.inr (.inr (.inl ⟨by assumption, rfl⟩)))))
            · split
              · exact .inr (.inr (.inr (.inr (.inr (.inr (.inl ⟨by assumption, by omega, by omega, by omega, by omega, by omega, by omega, by omega, rfl⟩))))))
              · exact .inr (.inr (.inr (.inr (.inr (.inr (.inr ⟨by omega, by omega, by omega, rfl⟩))))))
end Go.Proofs.YtjebkedlfhapjaaDoor.Jx
/- Plain mathematics of layer 6: a quoted text is one word; words with white bytes ahead are the same words. -/
namespace Go.Proofs.YtjebkedlfhapjaaDoor.Jx
open Num

/-! Quoted texts. -/
theorem qc_big {x : UInt8} (h : 128 ≤ x.toNat) : qc x = [x] := by
  rcases qc_ways x x.toNat rfl with ⟨a, _⟩ | ⟨a, _⟩ | ⟨a, _⟩ | ⟨a, _⟩ | ⟨a, _⟩ | ⟨a, _⟩ | ⟨a, _⟩ | ⟨_, _, _, e⟩
  all_goals first | exact e | omega
/-- A quoted byte's first one is below 128 just if the byte is. -/
theorem qc_small {x : UInt8} (h : x.toNat < 128) : ∃ y r, qc x = y :: r ∧ y.toNat < 128 := by
  rcases qc_ways x x.toNat rfl with ⟨a, e⟩ | ⟨a, e⟩ | ⟨a, e⟩ | ⟨a, e⟩ | ⟨a, e⟩ | ⟨a, e⟩ | ⟨a, _, _, _, _, _, _, _, e⟩ | ⟨_, _, _, e⟩
  all_goals first | exact ⟨_, _, e, by decide⟩ | exact ⟨_, _, e, h⟩
theorem more_bad2 {k f t a s : Nat} {l : List UInt8} (hk : 0 < k) (hf : 128 ≤ f) (h : l = [] ∨ ∃ y r, l = y :: r ∧ y.toNat < 128) : (more k f t a s l).2.2 ≠ 0 := by
  rcases h with rfl | ⟨y, r, rfl, hy⟩
  · rw [more_nil hk]; decide
  · rw [more_bad hk (by omega)]; decide
/-- Bytes that go on with no character don't do so quoted, whatever stands behind. -/
theorem more_qb : ∀ (k f t a s : Nat) (l m : List UInt8), 128 ≤ f → (more k f t a s l).2.2 ≠ 0 → (more k f t a s (qb l ++ 34 :: m)).2.2 ≠ 0
  | 0, _, _, _, _, _, _, _, h => absurd rfl h
  | k + 1, f, t, a, s, [], m, hf, _ => more_bad2 (by omega) hf (.inr ⟨34, m, rfl, by decide⟩)
  | k + 1, f, t, a, s, y :: r, m, hf, h => by
    by_cases hy : y.toNat < 128
    · obtain ⟨z, q, e, hz⟩ := qc_small hy
      rw [qb_cons, e]
      exact more_bad2 (by omega) hf (.inr ⟨z, _, rfl, hz⟩)
    · rw [qb_cons, qc_big (by omega), List.singleton_append, List.cons_append]
      rw [more_cons] at h ⊢
      split at h
      · rename_i hb; rw [if_pos hb]; decide
      · rename_i hb; rw [if_neg hb]
        exact more_qb k 128 191 _ s r m (by omega) h
theorem fst_qb {x : UInt8} {r : List UInt8} (m : List UInt8) (hx : 128 ≤ x.toNat) (h : (fst (x :: r)).2.2 ≠ 0) : (fst (qb (x :: r) ++ 34 :: m)).2.2 ≠ 0 := by
  rw [qb_cons, qc_big hx, List.singleton_append, List.cons_append]
  rw [fst_cons] at h ⊢
  split at h
  · rename_i hb; rw [if_pos hb]; decide
  · rename_i hb; rw [if_neg hb]
    refine more_qb _ _ _ _ _ r m ?_ h
    have := lo_is x.toNat
    omega
theorem more_bigs : ∀ (k f t a s : Nat) (l : List UInt8) {c n : Nat}, 128 ≤ f → more k f t a s l = (c, n, 0) → n = s ∧ ∀ y ∈ l.take k, 128 ≤ y.toNat
  | 0, _, _, _, _, _, _, _, _, h => by
    simp only [more_zero, Prod.mk.injEq] at h
    exact ⟨h.2.1.symm, by simp⟩
  | k + 1, f, t, a, s, [], _, _, _, h => by rw [more_nil (by omega)] at h; simp at h
  | k + 1, f, t, a, s, y :: r, c, n, hf, h => by
    rw [more_cons] at h
    split at h
    · simp at h
    · rename_i hy
      have ih := more_bigs k 128 191 _ s r (by omega) h
      refine ⟨ih.1, ?_⟩
      rw [List.take_succ_cons]
      intro z hz
      rcases List.mem_cons.1 hz with e | e
      · subst e; omega
      · exact ih.2 z e
theorem fst_bigs {x : UInt8} {r : List UInt8} {c n : Nat} (hx : 128 ≤ x.toNat) (h : fst (x :: r) = (c, n, 0)) : ∀ y ∈ (x :: r).take n, 128 ≤ y.toNat := by
  rw [fst_cons] at h
  split at h
  · simp at h
  · rename_i ha
    have lo := lo_is x.toNat
    have m := more_bigs _ _ _ _ _ r (by omega) h
    obtain ⟨k, hk⟩ : ∃ k, Num.ask x.toNat = k + 1 := ⟨Num.ask x.toNat - 1, by omega⟩
    rw [m.1, hk, List.take_succ_cons]
    intro z hz
    rcases List.mem_cons.1 hz with e | e
    · subst e; exact hx
    · exact m.2 z (by rw [hk]; exact e)
theorem qb_bigs : ∀ (l : List UInt8), (∀ y ∈ l, 128 ≤ y.toNat) → qb l = l
  | [], _ => rfl
  | x :: r, h => by rw [qb_cons, qc_big (h x (by simp)), qb_bigs r (fun y hy => h y (by simp [hy]))]; rfl
theorem fst_one {x : UInt8} (r : List UInt8) (h : x.toNat < 128) : fst (x :: r) = (x.toNat, 1, 0) := by
  have a := ask_is x.toNat
  have e : Num.ask x.toNat = 1 := by omega
  rw [fst_cons, e, if_neg (by decide)]
  show more 0 _ _ _ _ _ = _
  rw [more_zero]
  show (x.toNat - 0, 1, 0) = _
  rw [Nat.sub_zero]
theorem of8s {x : UInt8} {n : Nat} (h : x.toNat = n) : [UInt8.ofNat n] = [x] := by rw [of8_eq h]
theorem item_qesc {x : UInt8} {n v : Nat} (t : List UInt8) (y : UInt8) (hy : y.toNat = n) (h : esc n = some v) (hv : x.toNat = v) : item (92 :: y :: t) = some ([x], 2) := by
  unfold item
  rw [if_pos (by rfl)]
  show (match esc y.toNat with | some v => some ([UInt8.ofNat v], 2) | none => _) = _
  rw [hy, h]
  simp only
  rw [of8s hv]
theorem hexd_at (n : Nat) (h : n < 16) : hex (hexd.getD n 0).toNat = (n : Int) := by
  obtain rfl | rfl | rfl | rfl | rfl | rfl | rfl | rfl | rfl | rfl | rfl | rfl | rfl | rfl | rfl | rfl : n = 0 ∨ n = 1 ∨ n = 2 ∨ n = 3 ∨ n = 4 ∨ n = 5 ∨ n = 6 ∨ n = 7 ∨ n = 8 ∨ n = 9 ∨ n = 10 ∨ n = 11 ∨ n = 12 ∨ n = 13 ∨ n = 14 ∨ n = 15 := by omega
  all_goals rfl
theorem item_qu {x : UInt8} (t : List UInt8) (h : x.toNat < 32) : item (92 :: 117 :: 48 :: 48 :: hexd.getD (x.toNat / 16) 0 :: hexd.getD (x.toNat % 16) 0 :: t) = some ([x], 6) := by
  have a := hexd_at (x.toNat / 16) (by omega)
  have b := hexd_at (x.toNat % 16) (by omega)
  have f : four (48 :: 48 :: hexd.getD (x.toNat / 16) 0 :: hexd.getD (x.toNat % 16) 0 :: t) = (x.toNat : Int) := by
    unfold four
    show (if hex 48 < 0 ∨ hex 48 < 0 ∨ hex (hexd.getD (x.toNat / 16) 0).toNat < 0 ∨ hex (hexd.getD (x.toNat % 16) 0).toNat < 0 then -1 else ((hex 48 * 16 + hex 48) * 16 + hex (hexd.getD (x.toNat / 16) 0).toNat) * 16 + hex (hexd.getD (x.toNat % 16) 0).toNat) = _
    rw [a, b, show hex 48 = 0 from rfl, if_neg (by omega)]
    omega
  unfold item
  rw [if_pos (by rfl)]
  show (match esc 117 with | some v => some ([UInt8.ofNat v], 2) | none => if (117 : Nat) = 117 then uni (48 :: 48 :: hexd.getD (x.toNat / 16) 0 :: hexd.getD (x.toNat % 16) 0 :: t) else none) = _
  rw [show esc 117 = none from rfl]
  simp only
  rw [if_pos trivial]
  unfold uni
  rw [f, if_neg (by omega), if_pos (by unfold isC; omega), Int.toNat_natCast, ue_1 (by omega), of8]
theorem item_qc {x : UInt8} (t : List UInt8) (h : x.toNat < 128) : item (qc x ++ t) = some ([x], (qc x).length) ∧ 32 ≤ byt (qc x ++ t) 0 ∧ byt (qc x ++ t) 0 ≠ 34 := by
  rcases qc_ways x x.toNat rfl with ⟨a, e⟩ | ⟨a, e⟩ | ⟨a, e⟩ | ⟨a, e⟩ | ⟨a, e⟩ | ⟨a, e⟩ | ⟨a, _, _, _, _, _, _, _, e⟩ | ⟨a, b, c, e⟩
  · rw [e]
    refine ⟨?_, by show 32 ≤ 92; omega, by show 92 ≠ 34; omega⟩
    rcases a with a | a
    · exact item_qesc t x a rfl a
    · exact item_qesc t x a rfl a
  · rw [e]; exact ⟨item_qesc t 98 rfl rfl a, by show 32 ≤ 92; omega, by show 92 ≠ 34; omega⟩
  · rw [e]; exact ⟨item_qesc t 102 rfl rfl a, by show 32 ≤ 92; omega, by show 92 ≠ 34; omega⟩
  · rw [e]; exact ⟨item_qesc t 110 rfl rfl a, by show 32 ≤ 92; omega, by show 92 ≠ 34; omega⟩
  · rw [e]; exact ⟨item_qesc t 114 rfl rfl a, by show 32 ≤ 92; omega, by show 92 ≠ 34; omega⟩
  · rw [e]; exact ⟨item_qesc t 116 rfl rfl a, by show 32 ≤ 92; omega, by show 92 ≠ 34; omega⟩
  · rw [e]; exact ⟨item_qu t a, by show 32 ≤ 92; omega, by show 92 ≠ 34; omega⟩
  · rw [e]
    refine ⟨?_, a, b⟩
    unfold item
    show (if x.toNat = 92 then _ else if (fst (x :: t)).2.2 = 0 then some ((x :: t).take (fst (x :: t)).2.1, (fst (x :: t)).2.1) else none) = _
    rw [if_neg c, fst_one t h]
    rfl
/-- A text of characters, quoted, is that text, whatever stands behind; any other one is none. -/
theorem txt_qb : ∀ (f : Nat) (s m : List UInt8), s.length < f → txt (qb s ++ 34 :: m) = if (cU s).isSome = true then some (s, (qb s).length + 1) else none
  | 0, _, _, h => absurd h (Nat.not_lt_zero _)
  | f + 1, [], m, _ => by
    rw [qb_nil, List.nil_append, txt_end (by rfl), cU_nil]; rfl
  | f + 1, x :: r, m, h => by
    by_cases hx : x.toNat < 128
    · obtain ⟨hi, h0, h1⟩ := item_qc (qb r ++ 34 :: m) hx
      rw [qb_cons, List.append_assoc, txt_go h0 h1 hi, List.drop_left, txt_qb f r m (by simpa using h), cU_go (fst_one r hx)]
      show Option.map _ _ = if (Option.map (· + 1) (cU r)).isSome = true then _ else _
      rw [Option.isSome_map]
      split
      · simp; omega
      · rfl
    · have b0 : byt (qb (x :: r) ++ 34 :: m) 0 = x.toNat := by rw [qb_cons, qc_big (by omega)]; rfl
      by_cases he : (fst (x :: r)).2.2 = 0
      · obtain ⟨c, n, e⟩ : ∃ c n, fst (x :: r) = (c, n, 0) := ⟨_, _, by rw [← he]⟩
        have hn : 0 < n ∧ n ≤ (x :: r).length := by
          rcases fst_err (x :: r) with ⟨_, _, e', h1, _, h2⟩ | ⟨e', _⟩ | e'
          · rw [e] at e'; simp only [Prod.mk.injEq] at e'; omega
          · rw [e] at e'; simp at e'
          · rw [e] at e'; simp at e'
        have bg := fst_bigs (by omega) e
        obtain ⟨u1, u2, _⟩ := ue_fst e
        have sp : (x :: r) = (x :: r).take n ++ (x :: r).drop n := (List.take_append_drop n _).symm
        have hl : ((x :: r).take n).length = n := by rw [List.length_take]; omega
        have q : qb (x :: r) = (x :: r).take n ++ qb ((x :: r).drop n) := by
          conv => lhs; rw [sp]
          rw [qb_app, qb_bigs _ bg]
        have e2 : fst (qb (x :: r) ++ 34 :: m) = (c, n, 0) := by
          rw [q, List.append_assoc, ← u2, fst_ue u1, u2, hl]
        have t2 : (qb (x :: r) ++ 34 :: m).take n = (x :: r).take n := by
          rw [q, List.append_assoc, List.take_append_of_le_length (by omega), List.take_of_length_le (by omega)]
        have hi : item (qb (x :: r) ++ 34 :: m) = some ((x :: r).take n, n) := by
          unfold item; rw [if_neg (by omega), e2, t2]; rfl
        have d2 : (qb (x :: r) ++ 34 :: m).drop n = qb ((x :: r).drop n) ++ 34 :: m := by
          rw [q, List.append_assoc, List.drop_append_of_le_length (by omega), List.drop_of_length_le (by omega), List.nil_append]
        rw [txt_go (by omega) (by omega) hi, d2, txt_qb f ((x :: r).drop n) m (by rw [List.length_drop]; simp at h hn ⊢; omega), cU_go e, Option.isSome_map]
        split
        · simp only [Option.map_some, Option.some.injEq, Prod.mk.injEq, List.take_append_drop, true_and]
          rw [q, List.length_append, hl]; omega
        · rfl
      · have hi : item (qb (x :: r) ++ 34 :: m) = none := by
          unfold item; rw [if_neg (by omega), if_neg (fst_qb m (by omega) he)]
        rw [txt_no (by omega) hi, cU_bad (by simp) he]; rfl
/-- What Take tells of a quoted text. -/
theorem tak_quo (s m : List UInt8) : tak (quo s ++ m) 0 = if (cU s).isSome = true then (⟨10, 0, s, 0, (quo s).length⟩, 0) else (Wd.zero, 20) := by
  have b : byt (quo s ++ m) 0 = 34 := rfl
  have c : cnt isW (quo s ++ m) = 0 := by
    show cnt isW (34 :: ((qb s ++ [34]) ++ m)) = 0
    unfold cnt; rw [if_neg (by decide)]
  have hq : 0 = 0 + cnt isW ((quo s ++ m).drop 0) := by rw [List.drop_zero, c]
  have hl : 0 < (quo s ++ m).length := by simp [quo]
  have d : (quo s ++ m).drop (0 + 1) = qb s ++ 34 :: m := by show (qb s ++ [34]) ++ m = _; rw [List.append_assoc]; rfl
  have t := txt_qb _ s m (Nat.lt_succ_self _)
  split
  · rename_i h
    rw [if_pos h] at t
    rw [tak_t hq hl b (by rw [d]; exact t)]
    simp [quo]
  · rename_i h
    rw [if_neg h] at t
    exact tak_t0 hq hl b (by rw [d]; exact t)
end Go.Proofs.YtjebkedlfhapjaaDoor.Jx
