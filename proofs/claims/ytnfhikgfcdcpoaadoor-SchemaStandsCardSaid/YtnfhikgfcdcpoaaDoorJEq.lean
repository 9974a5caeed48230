/- Layer 7, the code's own calls: lists of texts. -/
import Derived.Test.YtnfhikgfcdcpoaaDoorJTSame
import Derived.Deep.LoopGhost
import Derived.BigQuiet
import Derived.Test.YtnfhikgfcdcpoaaDoorJPar
namespace Go.Proofs.YtnfhikgfcdcpoaaDoor
open Go.ChangeShapes Go.WideShapes Go.ChangeAt Go.RowKit Mem

/-- The first place of a text among others. -/
def place7 (ks : List ByteArray) (k : ByteArray) : Option Nat := ks.findIdx? fun x => decide (x = k)
theorem place7_at {ks : List ByteArray} {k : ByteArray} {i : Nat} (hi : i < ks.length) (h : ks[i]'hi = k) (hn : ∀ m (g : m < ks.length), m < i → ks[m]'g ≠ k) : place7 ks k = some i := by
  unfold place7
  rw [List.findIdx?_eq_some_iff_getElem]
  exact ⟨hi, by simpa using h, fun j hj => by simpa using hn j (by omega) hj⟩
theorem place7_no {ks : List ByteArray} {k : ByteArray} (hn : ∀ m (g : m < ks.length), ks[m]'g ≠ k) : place7 ks k = none := by
  unfold place7
  rw [List.findIdx?_eq_none_iff]
  intro x hx
  obtain ⟨m, hm, rfl⟩ := List.getElem_of_mem hx
  simpa using hn m hm
theorem place7_lt {ks : List ByteArray} {k : ByteArray} {i : Nat} (h : place7 ks k = some i) : i < ks.length := by
  unfold place7 at h
  rw [List.findIdx?_eq_some_iff_getElem] at h
  exact h.1
theorem place7_any {ks : List ByteArray} {k : ByteArray} : (ks.any fun x => decide (x = k)) = (place7 ks k).isSome := by
  unfold place7
  simp [List.findIdx?_isSome]
def num7 (o : Option Nat) : Int := match o with | none => -1 | some i => (i : Int)
def Idx (ks : List ByteArray) (k : ByteArray) (w : World) (e : Ending) (w' : World) : Prop := e = .returned (.int .i64 (num7 (place7 ks k))) ∧ w' = w
theorem idx_ret {ks : List ByteArray} {k : ByteArray} {o : Option Nat} {w w' : World} {z : Int} (h : place7 ks k = o) (hz : z = num7 o) (hw : w' = w) : Idx ks k w (.returned (.int .i64 z)) w' := by
  subst hz; subst h; exact ⟨rfl, hw⟩

set_option maxRecDepth 100000 in
set_option maxHeartbeats 2000000 in
theorem index_any (S : Nat → Prop) (A : Option Addr) (c : Nat) (ks : List ByteArray) (k : ByteArray) (w : World) (h : FlS w S A (ks.map Value.string)) (hl : ks.length ≤ maxLen) :
    Calls Tryd.prog 62 #[.slice A ks.length c, .string k] w (Idx ks k w) := by
  have F := Lib.hid h
  obtain ⟨nk, hnk⟩ : ∃ m, m = ks.length := ⟨_, rfl⟩
  have HNK := Lib.hid hnk
  rw [← hnk] at hl ⊢
  have hb : nk ≤ 9223372036854775807 := by unfold maxLen at hl; exact hl
  clear hnk h hl
  go_enter Tryd.func62, Tryd.ntmps62
  go_wp2_with fail
  go_loopw [8] (fun t wq => ∃ j : Nat, j ≤ nk ∧ t = .int .i64 (j : Int) ∧ Hid (∀ m (h : m < ks.length), m < j → ks[m]'h ≠ k) ∧ wq = w) (fun t _ => nk - (intOf t).toNat)
  case atStart => exact ⟨0, Nat.zero_le _, rfl, fun _ _ h => absurd h (Nat.not_lt_zero _), rfl⟩
  case round =>
    obtain ⟨m, hm, rfl, NE, rfl⟩ := hrel
    by_cases hmk : m < nk
    · have h1 : m < ks.length := by rw [← HNK.out]; exact hmk
      obtain ⟨b8, o8, e8, hb8, z0⟩ := fl_str F.out h1
      have ne := NE.out
      by_cases hx : ks[m]'h1 = k
      · have Z := Lib.hid (place7_at h1 hx (fun q g hq => ne q g hq))
        rw [hx] at z0
        have sx : (k.toList == k.toList) = true := by simp
        subst e8
        clear ne hx h1
        go_wp2_with fail
        go_ret
        exact idx_ret Z.out rfl rfl
      · have NE2 : Hid (∀ q (h : q < ks.length), q < m + 1 → ks[q]'h ≠ k) := fun q h hq => by
          rcases Nat.lt_or_ge q m with g | g
          · exact ne q h g
          · obtain rfl : q = m := by omega
            exact hx
        have sx : (k.toList == (ks[m]'h1).toList) = false := by rw [str_beq]; simpa using fun e => hx e.symm
        generalize ks[m]'h1 = Y at *
        subst e8
        clear ne hx h1
        go_wp2_with fail
        go_roundw
        case rel => exact ⟨m + 1, by omega, by go_num, NE2, by first | rfl | trivial⟩
        case measure => simp [intOf]; omega
    · obtain rfl : m = nk := by omega
      have Z := Lib.hid (place7_no (ks := ks) (k := k) (fun q g => NE.out q g (by rw [HNK.out]; exact g)))
      clear NE hmk
      go_wp2_with fail
      go_ret
      exact idx_ret Z.out rfl rfl

theorem contains_any (S : Nat → Prop) (A : Option Addr) (c : Nat) (ks : List ByteArray) (k : ByteArray) (w : World) (h : FlS w S A (ks.map Value.string)) (hl : ks.length ≤ maxLen) :
    Calls Tryd.prog 55 #[.slice A ks.length c, .string k] w (fun e w' => e = .returned (.bool (place7 ks k).isSome) ∧ w' = w) := by
  have IX := Lib.hid (index_any S A c ks k w h hl)
  obtain ⟨o, ho⟩ : ∃ o, o = place7 ks k := ⟨_, rfl⟩
  obtain ⟨nk, hnk⟩ : ∃ m, m = ks.length := ⟨_, rfl⟩
  have ix := IX.out
  unfold Idx at ix
  rw [← ho, ← hnk] at ix
  rw [← ho, ← hnk]
  have IX2 := Lib.hid ix
  clear ix IX ho hnk h hl
  cases o with
  | none =>
    go_enter Tryd.func55, Tryd.ntmps55
    go_wp2_with fail
    with_reducible refine IX2.out.mono ?_
    rintro e w1 ⟨rfl, rfl⟩
    have q2 : ¬ (0 : Int) ≤ num7 none := by decide
    go_wp2_with fail
    go_ret
    exact ⟨by simp [num7], rfl⟩
  | some i =>
    go_enter Tryd.func55, Tryd.ntmps55
    go_wp2_with fail
    with_reducible refine IX2.out.mono ?_
    rintro e w1 ⟨rfl, rfl⟩
    have q2 : (0 : Int) ≤ num7 (some i) := by show (0 : Int) ≤ (i : Int); omega
    go_wp2_with fail
    go_ret
    exact ⟨by simp, rfl⟩

def eqs (a b : List ByteArray) : Bool := decide (a = b)
theorem Drewn7.next {w a : World} (h : Drewn7 w a) (n : Nat) : Drewn7 w (a.drewN n) := by obtain ⟨k, rfl⟩ := h; exact ⟨k + n, by simp⟩
def Eqd (r : Bool) (w : World) (e : Ending) (w' : World) : Prop := e = .returned (.bool r) ∧ Drewn7 w w'
theorem eqd_ret {r c : Bool} {w w' : World} (h : r = c) (hw : Drewn7 w w') : Eqd r w (.returned (.bool c)) w' := by subst h; exact ⟨rfl, hw⟩

set_option maxRecDepth 100000 in
set_option maxHeartbeats 2000000 in
theorem equal_any (S : Nat → Prop) (A D : Option Addr) (c d : Nat) (ks ls : List ByteArray) (w : World) (h : FlS w S A (ks.map Value.string)) (h' : FlS w S D (ls.map Value.string)) (hl : ks.length ≤ maxLen) (_hl' : ls.length ≤ maxLen) :
    Calls Tryd.prog 43 #[.slice A ks.length c, .slice D ls.length d] w (Eqd (eqs ks ls) w) := by
  have F := Lib.hid h
  have G := Lib.hid h'
  obtain ⟨R, hR⟩ : ∃ R, R = eqs ks ls := ⟨_, rfl⟩
  rw [← hR]
  unfold eqs at hR
  by_cases hlen : ks.length = ls.length
  · obtain ⟨nk, hnk⟩ : ∃ m, m = ks.length := ⟨_, rfl⟩
    have HNK := Lib.hid hnk
    have HNL : Hid (nk = ls.length) := hnk.trans hlen
    rw [← HNL.out, ← hnk]
    have hb : nk ≤ 9223372036854775807 := by unfold maxLen at hl; omega
    have YES : Hid (ks = ls → R = true) := fun e => by rw [hR]; simpa using e
    have NO : Hid (ks ≠ ls → R = false) := fun e => by rw [hR]; simpa using e
    clear hnk h h' hl hlen hR
    go_enter Tryd.func43, Tryd.ntmps43
    go_wp2_with fail
    go_loopw [13] (fun t wq => ∃ j : Nat, j ≤ nk ∧ t = .int .i64 (j : Int) ∧ Hid (∀ m (h : m < ks.length) (g : m < ls.length), m < j → ks[m]'h = ls[m]'g) ∧ Drewn7 w wq) (fun t _ => nk - (intOf t).toNat)
    case atStart => exact ⟨0, Nat.zero_le _, rfl, fun _ _ _ h => absurd h (Nat.not_lt_zero _), ⟨0, rfl⟩⟩
    case round =>
      obtain ⟨m, hm, rfl, NE, ⟨nd, rfl⟩⟩ := hrel
      by_cases hmk : m < nk
      · have h1 : m < ks.length := by rw [← HNK.out]; exact hmk
        have h2 : m < ls.length := by rw [← HNL.out]; exact hmk
        obtain ⟨b8, o8, e8, hb8, z0⟩ := fl_str F.out h1
        obtain ⟨b9, o9, e9, hb9, z1⟩ := fl_str G.out h2
        have ne := NE.out
        by_cases hx : ks[m]'h1 = ls[m]'h2
        · have NE2 : Hid (∀ q (h : q < ks.length) (g : q < ls.length), q < m + 1 → ks[q]'h = ls[q]'g) := fun q h g hq => by
            rcases Nat.lt_or_ge q m with k | k
            · exact ne q h g k
            · obtain rfl : q = m := by omega
              exact hx
          rw [← hx] at z1
          generalize ks[m]'h1 = Y at *
          have sx : (Y.toList != Y.toList) = false := by rw [str_bne]; simp
          subst e8 e9
          clear ne hx h1 h2
          go_wp2_with fail
          go_quiet (fail)
          go_wp2_with fail
          go_roundw
          case rel => exact ⟨m + 1, by omega, by go_num, NE2, ⟨_, rfl⟩⟩
          case measure => simp [intOf]; omega
        · have Z := Lib.hid (NO.out (fun e => hx (by subst e; rfl)))
          have sx : ((ks[m]'h1).toList != (ls[m]'h2).toList) = true := by rw [str_bne]; simpa using hx
          have sx2 : ((ks[m]'h1).toList == (ls[m]'h2).toList) = false := by rw [str_beq]; simpa using hx
          generalize ks[m]'h1 = Y at *
          generalize ls[m]'h2 = X at *
          subst e8 e9
          clear ne hx h1 h2
          go_wp2_with fail
          go_quiet (fail)
          go_wp2_with fail
          go_ret
          exact eqd_ret Z.out (Drewn7.next ⟨_, rfl⟩ _)
      · obtain rfl : m = nk := by omega
        have Z := Lib.hid (YES.out (List.ext_getElem (by rw [← HNK.out, HNL.out]) fun j g1 g2 => NE.out j g1 g2 (by rw [HNK.out]; exact g1)))
        clear NE hmk
        go_wp2_with fail
        go_ret
        exact eqd_ret Z.out ⟨_, rfl⟩
  · have Z : Hid (R = false) := by show _ = _; rw [hR]; simp only [decide_eq_false_iff_not]; intro e; exact hlen (by rw [e])
    have q : ((ks.length : Int) != (ls.length : Int)) = true := by rw [bne_iff_ne]; omega
    clear hlen hR h h'
    go_enter Tryd.func43, Tryd.ntmps43
    go_wp2_with fail
    go_ret
    exact eqd_ret Z.out ⟨0, rfl⟩
end Go.Proofs.YtnfhikgfcdcpoaaDoor
