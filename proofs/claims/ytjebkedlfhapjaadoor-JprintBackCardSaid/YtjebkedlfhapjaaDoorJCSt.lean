/- Layer 7, the code's own calls: lists of texts. -/
import Derived.Test.YtjebkedlfhapjaaDoorJTSame
import Derived.Deep.LoopGhost
import Derived.BigQuiet
import Derived.Test.YtjebkedlfhapjaaDoorJPar
import Derived.Test.YtjebkedlfhapjaaDoorJC
namespace Go.Proofs.YtjebkedlfhapjaaDoor
open Go.ChangeShapes Go.WideShapes Go.ChangeAt Go.RowKit Mem

/-- The first place of a text among others. -/
def place7 (ks : List ByteArray) (k : ByteArray) : Option Nat := ks.findIdx? fun x => decide (x = k)
theorem place7_at {ks : List ByteArray} {k : ByteArray} {i : Nat} (hi : i < ks.length) (h : ks[i]'hi = k) (hn : ∀ m (g : m < ks.length), m < i → ks[m]'g ≠ k) : place7 ks k = some i := by
  unfold place7
  rw [List.findIdx?_eq_some_iff_getElem]
  exact ⟨hi, by simpa using h, fun j hj => by simpa using hn j (by omega) hj⟩
theorem place7_no {ks : List ByteArray} {k : ByteArray} (hn : ∀ m (g : m < ks.length), ks[m]'g ≠ k) : place7 ks k = none := by
  unfold place7
  rw [List.findIdx?_eq_none_iff]
  intro x hx
  obtain ⟨m, hm, rfl⟩ := List.getElem_of_mem hx
  simpa using hn m hm
theorem place7_lt {ks : List ByteArray} {k : ByteArray} {i : Nat} (h : place7 ks k = some i) : i < ks.length := by
  unfold place7 at h
  rw [List.findIdx?_eq_some_iff_getElem] at h
  exact h.1
theorem place7_any {ks : List ByteArray} {k : ByteArray} : (ks.any fun x => decide (x = k)) = (place7 ks k).isSome := by
  unfold place7
  simp [List.findIdx?_isSome]
def num7 (o : Option Nat) : Int := match o with | none => -1 | some i => (i : Int)
def Idx (ks : List ByteArray) (k : ByteArray) (w : World) (e : Ending) (w' : World) : Prop := e = .returned (.int .i64 (num7 (place7 ks k))) ∧ w' = w
theorem idx_ret {ks : List ByteArray} {k : ByteArray} {o : Option Nat} {w w' : World} {z : Int} (h : place7 ks k = o) (hz : z = num7 o) (hw : w' = w) : Idx ks k w (.returned (.int .i64 z)) w' := by
  subst hz; subst h; exact ⟨rfl, hw⟩

set_option maxRecDepth 100000 in
set_option maxHeartbeats 2000000 in
theorem index_any (S : Nat → Prop) (A : Option Addr) (c : Nat) (ks : List ByteArray) (k : ByteArray) (w : World) (h : FlS w S A (ks.map Value.string)) (hl : ks.length ≤ maxLen) :
    Calls Tryd.prog 89 #[.slice A ks.length c, .string k] w (Idx ks k w) := by
  have F := Lib.hid h
  obtain ⟨nk, hnk⟩ : ∃ m, m = ks.length := ⟨_, rfl⟩
  have HNK := Lib.hid hnk
  rw [← hnk] at hl ⊢
  have hb : nk ≤ 9223372036854775807 := by unfold maxLen at hl; exact hl
  clear hnk h hl
  go_enter Tryd.func89, Tryd.ntmps89
  go_wp2_with fail
  go_loopw [8] (fun t wq => ∃ j : Nat, j ≤ nk ∧ t = .int .i64 (j : Int) ∧ Hid (∀ m (h : m < ks.length), m < j → ks[m]'h ≠ k) ∧ wq = w) (fun t _ => nk - (intOf t).toNat)
  case atStart => exact ⟨0, Nat.zero_le _, rfl, fun _ _ h => absurd h (Nat.not_lt_zero _), rfl⟩
  case round =>
    obtain ⟨m, hm, rfl, NE, rfl⟩ := hrel
    by_cases hmk : m < nk
    · have h1 : m < ks.length := by rw [← HNK.out]; exact hmk
      obtain ⟨b8, o8, e8, hb8, z0⟩ := fl_str F.out h1
      have ne := NE.out
      by_cases hx : ks[m]'h1 = k
      · have Z := Lib.hid (place7_at h1 hx (fun q g hq => ne q g hq))
        rw [hx] at z0
        have sx : (k.toList == k.toList) = true := by simp
        subst e8
        clear ne hx h1
        go_wp2_with fail
        go_ret
        exact idx_ret Z.out rfl rfl
      · have NE2 : Hid (∀ q (h : q < ks.length), q < m + 1 → ks[q]'h ≠ k) := fun q h hq => by
          rcases Nat.lt_or_ge q m with g | g
          · exact ne q h g
          · obtain rfl : q = m := by omega
            exact hx
        have sx : (k.toList == (ks[m]'h1).toList) = false := by rw [str_beq]; simpa using fun e => hx e.symm
        generalize ks[m]'h1 = Y at *
        subst e8
        clear ne hx h1
        go_wp2_with fail
        go_roundw
        case rel => exact ⟨m + 1, by omega, by go_num, NE2, by first | rfl | trivial⟩
        case measure => simp [intOf]; omega
    · obtain rfl : m = nk := by omega
      have Z := Lib.hid (place7_no (ks := ks) (k := k) (fun q g => NE.out q g (by rw [HNK.out]; exact g)))
      clear NE hmk
      go_wp2_with fail
      go_ret
      exact idx_ret Z.out rfl rfl

theorem contains_any (S : Nat → Prop) (A : Option Addr) (c : Nat) (ks : List ByteArray) (k : ByteArray) (w : World) (h : FlS w S A (ks.map Value.string)) (hl : ks.length ≤ maxLen) :
    Calls Tryd.prog 76 #[.slice A ks.length c, .string k] w (fun e w' => e = .returned (.bool (place7 ks k).isSome) ∧ w' = w) := by
  have IX := Lib.hid (index_any S A c ks k w h hl)
  obtain ⟨o, ho⟩ : ∃ o, o = place7 ks k := ⟨_, rfl⟩
  obtain ⟨nk, hnk⟩ : ∃ m, m = ks.length := ⟨_, rfl⟩
  have ix := IX.out
  unfold Idx at ix
  rw [← ho, ← hnk] at ix
  rw [← ho, ← hnk]
  have IX2 := Lib.hid ix
  clear ix IX ho hnk h hl
  cases o with
  | none =>
    go_enter Tryd.func76, Tryd.ntmps76
    go_wp2_with fail
    with_reducible refine IX2.out.mono ?_
    rintro e w1 ⟨rfl, rfl⟩
    have q2 : ¬ (0 : Int) ≤ num7 none := by decide
    go_wp2_with fail
    go_ret
    exact ⟨by simp [num7], rfl⟩
  | some i =>
    go_enter Tryd.func76, Tryd.ntmps76
    go_wp2_with fail
    with_reducible refine IX2.out.mono ?_
    rintro e w1 ⟨rfl, rfl⟩
    have q2 : (0 : Int) ≤ num7 (some i) := by show (0 : Int) ≤ (i : Int); omega
    go_wp2_with fail
    go_ret
    exact ⟨by simp, rfl⟩

def eqs (a b : List ByteArray) : Bool := decide (a = b)
theorem Drewn7.next {w a : World} (h : Drewn7 w a) (n : Nat) : Drewn7 w (a.drewN n) := by obtain ⟨k, rfl⟩ := h; exact ⟨k + n, by simp⟩
def Eqd (r : Bool) (w : World) (e : Ending) (w' : World) : Prop := e = .returned (.bool r) ∧ Drewn7 w w'
theorem eqd_ret {r c : Bool} {w w' : World} (h : r = c) (hw : Drewn7 w w') : Eqd r w (.returned (.bool c)) w' := by subst h; exact ⟨rfl, hw⟩

set_option maxRecDepth 100000 in
set_option maxHeartbeats 2000000 in
theorem equal_any (S : Nat → Prop) (A D : Option Addr) (c d : Nat) (ks ls : List ByteArray) (w : World) (h : FlS w S A (ks.map Value.string)) (h' : FlS w S D (ls.map Value.string)) (hl : ks.length ≤ maxLen) (_hl' : ls.length ≤ maxLen) :
    Calls Tryd.prog 31 #[.slice A ks.length c, .slice D ls.length d] w (Eqd (eqs ks ls) w) := by
  have F := Lib.hid h
  have G := Lib.hid h'
  obtain ⟨R, hR⟩ : ∃ R, R = eqs ks ls := ⟨_, rfl⟩
  rw [← hR]
  unfold eqs at hR
  by_cases hlen : ks.length = ls.length
  · obtain ⟨nk, hnk⟩ : ∃ m, m = ks.length := ⟨_, rfl⟩
    have HNK := Lib.hid hnk
    have HNL : Hid (nk = ls.length) := hnk.trans hlen
    rw [← HNL.out, ← hnk]
    have hb : nk ≤ 9223372036854775807 := by unfold maxLen at hl; omega
    have YES : Hid (ks = ls → R = true) := fun e => by rw [hR]; simpa using e
    have NO : Hid (ks ≠ ls → R = false) := fun e => by rw [hR]; simpa using e
    clear hnk h h' hl hlen hR
    go_enter Tryd.func31, Tryd.ntmps31
    go_wp2_with fail
    go_loopw [13] (fun t wq => ∃ j : Nat, j ≤ nk ∧ t = .int .i64 (j : Int) ∧ Hid (∀ m (h : m < ks.length) (g : m < ls.length), m < j → ks[m]'h = ls[m]'g) ∧ Drewn7 w wq) (fun t _ => nk - (intOf t).toNat)
    case atStart => exact ⟨0, Nat.zero_le _, rfl, fun _ _ _ h => absurd h (Nat.not_lt_zero _), ⟨0, rfl⟩⟩
    case round =>
      obtain ⟨m, hm, rfl, NE, ⟨nd, rfl⟩⟩ := hrel
      by_cases hmk : m < nk
      · have h1 : m < ks.length := by rw [← HNK.out]; exact hmk
        have h2 : m < ls.length := by rw [← HNL.out]; exact hmk
        obtain ⟨b8, o8, e8, hb8, z0⟩ := fl_str F.out h1
        obtain ⟨b9, o9, e9, hb9, z1⟩ := fl_str G.out h2
        have ne := NE.out
        by_cases hx : ks[m]'h1 = ls[m]'h2
        · have NE2 : Hid (∀ q (h : q < ks.length) (g : q < ls.length), q < m + 1 → ks[q]'h = ls[q]'g) := fun q h g hq => by
            rcases Nat.lt_or_ge q m with k | k
            · exact ne q h g k
            · obtain rfl : q = m := by omega
              exact hx
          rw [← hx] at z1
          generalize ks[m]'h1 = Y at *
          have sx : (Y.toList != Y.toList) = false := by rw [str_bne]; simp
          subst e8 e9
          clear ne hx h1 h2
          go_wp2_with fail
          go_quiet (fail)
          go_wp2_with fail
          go_roundw
          case rel => exact ⟨m + 1, by omega, by go_num, NE2, ⟨_, rfl⟩⟩
          case measure => simp [intOf]; omega
        · have Z := Lib.hid (NO.out (fun e => hx (by subst e; rfl)))
          have sx : ((ks[m]'h1).toList != (ls[m]'h2).toList) = true := by rw [str_bne]; simpa using hx
          have sx2 : ((ks[m]'h1).toList == (ls[m]'h2).toList) = false := by rw [str_beq]; simpa using hx
          generalize ks[m]'h1 = Y at *
          generalize ls[m]'h2 = X at *
          subst e8 e9
          clear ne hx h1 h2
          go_wp2_with fail
          go_quiet (fail)
          go_wp2_with fail
          go_ret
          exact eqd_ret Z.out (Drewn7.next ⟨_, rfl⟩ _)
      · obtain rfl : m = nk := by omega
        have Z := Lib.hid (YES.out (List.ext_getElem (by rw [← HNK.out, HNL.out]) fun j g1 g2 => NE.out j g1 g2 (by rw [HNK.out]; exact g1)))
        clear NE hmk
        go_wp2_with fail
        go_ret
        exact eqd_ret Z.out ⟨_, rfl⟩
  · have Z : Hid (R = false) := by show _ = _; rw [hR]; simp only [decide_eq_false_iff_not]; intro e; exact hlen (by rw [e])
    have q : ((ks.length : Int) != (ls.length : Int)) = true := by rw [bne_iff_ne]; omega
    clear hlen hR h h'
    go_enter Tryd.func31, Tryd.ntmps31
    go_wp2_with fail
    go_ret
    exact eqd_ret Z.out ⟨0, rfl⟩
end Go.Proofs.YtjebkedlfhapjaaDoor
/- Plain mathematics of layer 7: what a round of items is; a tree ends behind where it begins. -/
namespace Go.Proofs.YtjebkedlfhapjaaDoor.Jp
open Jx

/-- What a key, its sign and its value are. -/
def kv (f : Nat) (l : List UInt8) (p d : Nat) (ks : List ByteArray) : R :=
  if (tak l p).1.k ≠ 10 then bad 20
  else if (place7 ks (str (tak l p).1.t)).isSome = true then bad 23
  else if (tak l (tak l p).1.x).2 ≠ 0 then bad (tak l (tak l p).1.x).2
  else if (tak l (tak l p).1.x).1.k ≠ 5 then bad 20
  else pval f l (tak l (tak l p).1.x).1.x d
/-- What follows a part. -/
def nxt (r : R) (kn : List ByteArray) (e g : Nat) (l : List UInt8) (d : Nat) (js : List J) : R :=
  if r.2.2 ≠ 0 then bad r.2.2
  else if (tak l r.2.1).2 ≠ 0 then bad (tak l r.2.1).2
  else if (tak l r.2.1).1.k = e then (.mk (kindOf e) 0 nil_ (js ++ [r.1]) kn, (tak l r.2.1).1.x, 0)
  else if (tak l r.2.1).1.k ≠ 6 then bad 20
  else pits g l (tak l r.2.1).1.x d e kn (js ++ [r.1])
theorem pits_4 (g : Nat) (l : List UInt8) (p d : Nat) (ks : List ByteArray) (js : List J) : pits (g + 1) l p d 4 ks js = nxt (pval g l p d) ks 4 g l d js := by
  rw [pits, if_neg (by decide)]; rfl
theorem pits_2 (g : Nat) (l : List UInt8) (p d : Nat) (ks : List ByteArray) (js : List J) (h : (tak l p).2 = 0) : pits (g + 1) l p d 2 ks js = nxt (kv g l p d ks) (ks ++ [str (tak l p).1.t]) 2 g l d js := by
  rw [pits, if_pos rfl, if_neg (by omega), place7_any]
  unfold nxt
  obtain ⟨r, hr⟩ : ∃ r, r = kv g l p d ks := ⟨_, rfl⟩
  rw [← hr]
  unfold kv at hr
  by_cases h1 : (tak l p).1.k = 10
  · rw [if_neg (fun h => h h1)] at hr ⊢
    by_cases h2 : (place7 ks (str (tak l p).1.t)).isSome = true
    · rw [if_pos h2] at hr ⊢; subst hr; rfl
    · rw [if_neg h2] at hr ⊢
      by_cases h3 : (tak l (tak l p).1.x).2 = 0
      · rw [if_neg (fun h => h h3)] at hr ⊢
        by_cases h4 : (tak l (tak l p).1.x).1.k = 5
        · rw [if_neg (fun h => h h4)] at hr ⊢
          rw [← hr]
        · rw [if_pos h4] at hr ⊢; subst hr; rfl
      · rw [if_pos h3] at hr ⊢; rw [hr, if_pos (show (bad (tak l (tak l p).1.x).2).2.2 ≠ 0 from h3)]; rfl
  · rw [if_pos h1] at hr ⊢; subst hr; rfl
theorem pits_bad (g : Nat) (l : List UInt8) (p d e : Nat) (ks : List ByteArray) (js : List J) (he : e = 2 ∨ e = 4) (h : (tak l p).2 ≠ 0) : pits (g + 2) l p d e ks js = bad (tak l p).2 := by
  rcases he with rfl | rfl
  · rw [pits, if_pos rfl, if_pos h]
  · rw [pits_4]
    unfold nxt pval
    rw [if_pos h, if_pos (show (bad (tak l p).2).2.2 ≠ 0 from h)]; rfl

theorem fine_x {l : List UInt8} {p : Nat} (hp : p ≤ l.length) : (tak l p).1.x ≤ l.length := (tak_fine l p hp).1.2.1
theorem nxt_pos {r : R} {kn : List ByteArray} {e g : Nat} {l : List UInt8} {d : Nat} {js : List J} {p : Nat} (he : e = 2 ∨ e = 4) (hr : r.2.2 = 0 → p < r.2.1 ∧ r.2.1 ≤ l.length)
    (hi : ∀ p d kn js, p ≤ l.length → (pits g l p d e kn js).2.2 = 0 → p < (pits g l p d e kn js).2.1 ∧ (pits g l p d e kn js).2.1 ≤ l.length) (h : (nxt r kn e g l d js).2.2 = 0) : p < (nxt r kn e g l d js).2.1 ∧ (nxt r kn e g l d js).2.1 ≤ l.length := by
  unfold nxt at h ⊢
  by_cases h1 : r.2.2 = 0
  · rw [if_neg (by omega)] at h ⊢
    obtain ⟨a, b⟩ := hr h1
    by_cases h2 : (tak l r.2.1).2 = 0
    · rw [if_neg (by omega)] at h ⊢
      have fx := fine_x b
      by_cases h3 : (tak l r.2.1).1.k = e
      · rw [if_pos h3] at h ⊢
        have m := (tak_more b h2 (by omega)).1
        exact ⟨show p < (tak l r.2.1).1.x by omega, fx⟩
      · rw [if_neg h3] at h ⊢
        by_cases h4 : (tak l r.2.1).1.k = 6
        · rw [if_neg (by omega)] at h ⊢
          have m := (tak_more b h2 (by omega)).1
          have := hi _ _ _ _ fx h
          exact ⟨by omega, this.2⟩
        · rw [if_pos h4] at h; cases h
    · rw [if_pos h2] at h; exact absurd h h2
  · rw [if_pos h1] at h; exact absurd h h1
theorem pos (f : Nat) : (∀ (l : List UInt8) (p d : Nat), p ≤ l.length → (pval f l p d).2.2 = 0 → p < (pval f l p d).2.1 ∧ (pval f l p d).2.1 ≤ l.length) ∧
    (∀ (l : List UInt8) (e : Nat), (e = 2 ∨ e = 4) → ∀ (p d : Nat) (ks : List ByteArray) (js : List J), p ≤ l.length → (pits f l p d e ks js).2.2 = 0 → p < (pits f l p d e ks js).2.1 ∧ (pits f l p d e ks js).2.1 ≤ l.length) := by
  induction f with
  | zero =>
    refine ⟨fun l p d _ h => ?_, fun l e _ p d ks js _ h => ?_⟩
    · unfold pval at h; cases h
    · unfold pits at h; cases h
  | succ f ih =>
    refine ⟨fun l p d hp h => ?_, fun l e he p d ks js hp h => ?_⟩
    · unfold pval at h ⊢
      by_cases h0 : (tak l p).2 = 0
      · rw [if_neg (by omega)] at h ⊢
        have fx := fine_x hp
        by_cases h7 : (tak l p).1.k = 7
        · rw [if_pos h7] at h ⊢
          exact ⟨(tak_more hp h0 (by omega)).1, fx⟩
        · rw [if_neg h7] at h ⊢
          by_cases h8 : (tak l p).1.k = 8
          · rw [if_pos h8] at h ⊢
            exact ⟨(tak_more hp h0 (by omega)).1, fx⟩
          · rw [if_neg h8] at h ⊢
            by_cases h9 : (tak l p).1.k = 9
            · rw [if_pos h9] at h ⊢
              exact ⟨(tak_more hp h0 (by omega)).1, fx⟩
            · rw [if_neg h9] at h ⊢
              by_cases h10 : (tak l p).1.k = 10
              · rw [if_pos h10] at h ⊢
                exact ⟨(tak_more hp h0 (by omega)).1, fx⟩
              · rw [if_neg h10] at h ⊢
                by_cases h13 : (tak l p).1.k = 1 ∨ (tak l p).1.k = 3
                · rw [if_pos h13] at h ⊢
                  have m := (tak_more hp h0 (by omega)).1
                  by_cases hd : d = 32
                  · rw [if_pos hd] at h; cases h
                  · rw [if_neg hd] at h ⊢
                    by_cases hz : (tak l (tak l p).1.x).2 = 0 ∧ (tak l (tak l p).1.x).1.k = (tak l p).1.k + 1
                    · rw [if_pos hz] at h ⊢
                      have m2 := (tak_more fx hz.1 (by omega)).1
                      exact ⟨show p < (tak l (tak l p).1.x).1.x by omega, fine_x fx⟩
                    · rw [if_neg hz] at h ⊢
                      have := ih.2 l ((tak l p).1.k + 1) (by omega) _ _ _ _ fx h
                      exact ⟨by omega, this.2⟩
                · rw [if_neg h13] at h; cases h
      · rw [if_pos h0] at h; exact absurd h h0
    · rcases he with rfl | rfl
      · by_cases h0 : (tak l p).2 = 0
        · rw [pits_2 f l p d ks js h0] at h ⊢
          refine nxt_pos (.inl rfl) (fun hr => ?_) (ih.2 l 2 (.inl rfl)) h
          unfold kv at hr ⊢
          by_cases h1 : (tak l p).1.k = 10
          · rw [if_neg (by omega)] at hr ⊢
            have m := (tak_more hp h0 (by omega)).1
            have fx := fine_x hp
            by_cases h2 : (place7 ks (str (tak l p).1.t)).isSome = true
            · rw [if_pos h2] at hr; cases hr
            · rw [if_neg h2] at hr ⊢
              by_cases h3 : (tak l (tak l p).1.x).2 = 0
              · rw [if_neg (by omega)] at hr ⊢
                by_cases h4 : (tak l (tak l p).1.x).1.k = 5
                · rw [if_neg (by omega)] at hr ⊢
                  have m2 := (tak_more fx h3 (by omega)).1
                  have := ih.1 l _ d (fine_x fx) hr
                  exact ⟨by omega, this.2⟩
                · rw [if_pos h4] at hr; cases hr
              · rw [if_pos h3] at hr; exact absurd hr h3
          · rw [if_pos h1] at hr; cases hr
        · rw [pits, if_pos rfl, if_pos h0] at h; exact absurd h h0
      · rw [pits_4] at h ⊢
        exact nxt_pos (.inr rfl) (fun hr => ih.1 l p d hp hr) (ih.2 l 4 (.inr rfl)) h
theorem kv_pos {f : Nat} {l : List UInt8} {p d : Nat} {ks : List ByteArray} (hp : p ≤ l.length) (h0 : (tak l p).2 = 0) (hr : (kv f l p d ks).2.2 = 0) : p < (kv f l p d ks).2.1 ∧ (kv f l p d ks).2.1 ≤ l.length := by
  unfold kv at hr ⊢
  by_cases h1 : (tak l p).1.k = 10
  · rw [if_neg (by omega)] at hr ⊢
    have m := (tak_more hp h0 (by omega)).1
    have fx := fine_x hp
    by_cases h2 : (place7 ks (str (tak l p).1.t)).isSome = true
    · rw [if_pos h2] at hr; cases hr
    · rw [if_neg h2] at hr ⊢
      by_cases h3 : (tak l (tak l p).1.x).2 = 0
      · rw [if_neg (by omega)] at hr ⊢
        by_cases h4 : (tak l (tak l p).1.x).1.k = 5
        · rw [if_neg (by omega)] at hr ⊢
          have m2 := (tak_more fx h3 (by omega)).1
          have := (pos f).1 l _ d (fine_x fx) hr
          exact ⟨by omega, this.2⟩
        · rw [if_pos h4] at hr; cases hr
      · rw [if_pos h3] at hr; exact absurd hr h3
  · rw [if_pos h1] at hr; cases hr
end Go.Proofs.YtjebkedlfhapjaaDoor.Jp
/- Layer 7, the code's own calls: what stands while the parts of a list, or of an object, are gathered. -/
namespace Go.Proofs.YtjebkedlfhapjaaDoor
open Go.ChangeShapes Go.WideShapes Go.ChangeAt Go.RowKit Mem

/-- Five cells stored over the last record of a row of the call's own. -/
theorem Mem.OwnR.put5 {w : World} {base g cap n : Nat} {e : TypeId} {xs : List Value} {z0 z1 z2 z3 z4 : Value} (h : OwnR w base e 5 (.slice (some ⟨g, 0, none⟩) (n + 1) cap) (n + 1) (xs ++ [z0, z1, z2, z3, z4])) (hx : xs.length = n * 5) (x0 x1 x2 x3 x4 : Value) :
    OwnR (((((w.setCell ⟨g, n * 5, none⟩ x0).setCell ⟨g, n * 5 + 1, none⟩ x1).setCell ⟨g, n * 5 + 2, none⟩ x2).setCell ⟨g, n * 5 + 3, none⟩ x3).setCell ⟨g, n * 5 + 4, none⟩ x4) base e 5 (.slice (some ⟨g, 0, none⟩) (n + 1) cap) (n + 1) (xs ++ [x0, x1, x2, x3, x4]) := by
  have s0 := (World.ownsRow.stored h (n * 5) x0).1
  have s1 := (World.ownsRow.stored s0 (n * 5 + 1) x1).1
  have s2 := (World.ownsRow.stored s1 (n * 5 + 2) x2).1
  have s3 := (World.ownsRow.stored s2 (n * 5 + 3) x3).1
  have s4 := (World.ownsRow.stored s3 (n * 5 + 4) x4).1
  have e : (((((xs ++ [z0, z1, z2, z3, z4]).set (n * 5) x0).set (n * 5 + 1) x1).set (n * 5 + 2) x2).set (n * 5 + 3) x3).set (n * 5 + 4) x4 = xs ++ [x0, x1, x2, x3, x4] := by
    rw [← hx]
    simp
  rw [e] at s4
  exact s4

/-- Two stores into two blocks may be told in either order. -/
theorem Mem.setCell_comm (w : World) (a b : Addr) (u v : Value) (h : a.block ≠ b.block) : (w.setCell a u).setCell b v = (w.setCell b v).setCell a u := by
  unfold World.setCell
  congr 1
  apply Array.ext_getElem?
  intro i
  simp only [Array.getElem?_modify]
  by_cases h1 : a.block = i
  · have h2 : b.block ≠ i := fun e => h (h1.trans e.symm)
    simp [h1, h2]
  · simp [h1]
theorem Mem.comm5 {w : World} {g gj i : Nat} {x0 x1 x2 x3 x4 v : Value} (h : gj ≠ g) : (((((w.setCell ⟨gj, 3, none⟩ v).setCell ⟨g, i, none⟩ x0).setCell ⟨g, i + 1, none⟩ x1).setCell ⟨g, i + 2, none⟩ x2).setCell ⟨g, i + 3, none⟩ x3).setCell ⟨g, i + 4, none⟩ x4 =
    (((((w.setCell ⟨g, i, none⟩ x0).setCell ⟨g, i + 1, none⟩ x1).setCell ⟨g, i + 2, none⟩ x2).setCell ⟨g, i + 3, none⟩ x3).setCell ⟨g, i + 4, none⟩ x4).setCell ⟨gj, 3, none⟩ v := by
  rw [setCell_comm w ⟨gj, 3, none⟩ ⟨g, i, none⟩ v x0 h, setCell_comm _ ⟨gj, 3, none⟩ ⟨g, i + 1, none⟩ v x1 h, setCell_comm _ ⟨gj, 3, none⟩ ⟨g, i + 2, none⟩ v x2 h, setCell_comm _ ⟨gj, 3, none⟩ ⟨g, i + 3, none⟩ v x3 h, setCell_comm _ ⟨gj, 3, none⟩ ⟨g, i + 4, none⟩ v x4 h]

def FreeC (N : Nat) (w : World) (v3 v4 : Value) : Nat → Prop := fun b => N ≤ b ∧ b < w.heap.size ∧ some b ≠ v3.ownBlock ∧ some b ≠ v4.ownBlock
/-- A tree in block gj, whose rows, and what they hold, lie from block N on. -/
structure StC (gj N : Nat) (w : World) (kind : Int) (ks : List ByteArray) (js : List J) (css : List (List Value)) (v3 v4 : Value) : Prop where
  o3 : OwnR w N 25 5 v3 js.length css.flatten
  o4 : OwnR w N 9 1 v4 ks.length (ks.map Value.string)
  tr : TreesS w (FreeC N w v3 v4) js css
  ap : ∀ g, some g = v3.ownBlock → some g ≠ v4.ownBlock
  bk : B5 w gj 25 (.int .i64 kind) (.int .i64 0) (.string ⟨#[]⟩) v3 v4
  lt : gj < N
  le : N ≤ w.heap.size
section
variable {gj N : Nat} {w w' : World} {kind : Int} {ks : List ByteArray} {js : List J} {css : List (List Value)} {v3 v4 v3' v4' : Value}
theorem StC.keep (h : StC gj N w kind ks js css v3 v4) (hk : ∀ b, (b = gj ∨ N ≤ b) → b < w.heap.size → w'.heap[b]? = w.heap[b]?) (hs : w.heap.size ≤ w'.heap.size) : StC gj N w' kind ks js css v3 v4 where
  o3 := h.o3.keepb (fun g hg => hk g (.inr (h.o3.base_le hg).1) (h.o3.base_le hg).2)
  o4 := h.o4.keepb (fun g hg => hk g (.inr (h.o4.base_le hg).1) (h.o4.base_le hg).2)
  tr := h.tr.keep (fun p hp => World.cell?_of_block (w := w) (hk p.block (.inr hp.1) hp.2.1)) (fun _ hb => ⟨hb.1, Nat.lt_of_lt_of_le hb.2.1 hs, hb.2.2⟩)
  ap := h.ap
  bk := (hk gj (.inl rfl) h.bk.lt).trans h.bk
  lt := h.lt
  le := Nat.le_trans h.le hs
theorem StC.sav {a b : Nat} (h : StC gj N w kind ks js css v3 v4) (s : Sav a b w.heap.size w w') (ha : a < N) (hb : b < N) (ha' : a ≠ gj) (hb' : b ≠ gj) : StC gj N w' kind ks js css v3 v4 :=
  h.keep (fun k hk hl => s.block k hl (by omega) (by omega)) s.size
theorem StC.below (h : StC gj N w kind ks js css v3 v4) (s : Below w.heap.size w w') : StC gj N w' kind ks js css v3 v4 := h.keep (fun k _ hl => s.block k hl) s.size
theorem StC.alloc (h : StC gj N w kind ks js css v3 v4) (o : Obj) : StC gj N (w.alloc o) kind ks js css v3 v4 := h.below ((Below.refl _ _).alloc (Nat.le_refl _) o)
theorem StC.drewN (h : StC gj N w kind ks js css v3 v4) (m : Nat) : StC gj N (w.drewN m) kind ks js css v3 v4 := h.below (bel_drewN (Below.refl _ _) m)
/-- A key more. -/
theorem StC.key (h : StC gj N w kind ks js css v3 v4) {k : ByteArray} (o4' : OwnR w' N 9 1 v4' (ks.length + 1) (ks.map Value.string ++ [.string k])) (hg : w.grownBy w' v4.ownBlock)
    (hbl : Below N w w') (ob : v4'.ownBlock = v4.ownBlock ∨ ∃ n, v4'.ownBlock = some n ∧ w.heap.size ≤ n) : StC gj N (w'.setCell ⟨gj, 4, none⟩ v4') kind (ks ++ [k]) js css v3 v4' := by
  have hlt := h.lt
  have hne : ∀ g, g < w.heap.size → some g ≠ v4.ownBlock → some g ≠ v4'.ownBlock := fun g hl hn => by
    rcases ob with e | ⟨n, e, hle⟩
    · rw [e]; exact hn
    · rw [e]; intro hh; injection hh; omega
  refine ⟨?_, ?_, ?_, ?_, ?_, h.lt, Nat.le_trans h.le (by simp [World.setCell]; exact hg.size)⟩
  · exact (h.o3.keepb (w' := w') fun g hg' => hg.block g (own_lt h.o3 g hg') (h.ap g hg')).set (by show gj < N; omega) _
  · have := o4'.set (p := ⟨gj, 4, none⟩) (by show gj < N; omega) v4'
    rw [List.length_append, List.map_append]; exact this
  · refine h.tr.keep (fun p hp => ?_) (fun b hb => ⟨hb.1, by have := hg.size; simp [World.setCell]; have := hb.2.1; omega, hb.2.2.1, hne b hb.2.1 hb.2.2.2⟩)
    exact (World.cell?_setCell_other _ _ _ _ (fun e => by have h1 := hp.1; have h2 := congrArg Addr.block e; simp only at h2; omega)).trans (World.cell?_of_block (hg.block p.block hp.2.1 hp.2.2.2))
  · exact fun g hg' => hne g (own_lt h.o3 g hg') (h.ap g hg')
  · exact B5.set4 (h.bk.below hbl hlt) v4'
/-- An item more, stored over a zero that was appended. -/
theorem StC.item5 {g cap : Nat} {j : J} {z0 z1 z2 z3 z4 x0 x1 x2 x3 x4 : Value} (h : StC gj N w kind ks js css v3 v4) (o3' : OwnR w' N 25 5 (.slice (some ⟨g, 0, none⟩) (js.length + 1) cap) (js.length + 1) (css.flatten ++ [z0, z1, z2, z3, z4])) (hg : w.grownBy w' v3.ownBlock)
    (hbl : Below N w w') (ob : some g = v3.ownBlock ∨ w.heap.size ≤ g) (ht : TreeS w (FreeC N w v3 v4) j [x0, x1, x2, x3, x4]) :
    StC gj N ((((((w'.setCell ⟨g, js.length * 5, none⟩ x0).setCell ⟨g, js.length * 5 + 1, none⟩ x1).setCell ⟨g, js.length * 5 + 2, none⟩ x2).setCell ⟨g, js.length * 5 + 3, none⟩ x3).setCell ⟨g, js.length * 5 + 4, none⟩ x4).setCell ⟨gj, 3, none⟩ (.slice (some ⟨g, 0, none⟩) (js.length + 1) cap))
      kind ks (js ++ [j]) (css ++ [[x0, x1, x2, x3, x4]]) (.slice (some ⟨g, 0, none⟩) (js.length + 1) cap) v4 := by
  have hlt := h.lt
  have hN : N ≤ g := (o3'.base_le (g := g) rfl).1
  have five : css.flatten.length = js.length * 5 := h.tr.flat
  have hne : ∀ k, k < w.heap.size → some k ≠ v3.ownBlock → k ≠ g := fun k hl hn e => by
    subst e
    rcases ob with e | e
    · exact hn e
    · omega
  have rest : ∀ k, k ≠ g → k ≠ gj → ((((((w'.setCell ⟨g, js.length * 5, none⟩ x0).setCell ⟨g, js.length * 5 + 1, none⟩ x1).setCell ⟨g, js.length * 5 + 2, none⟩ x2).setCell ⟨g, js.length * 5 + 3, none⟩ x3).setCell ⟨g, js.length * 5 + 4, none⟩ x4).setCell ⟨gj, 3, none⟩ (.slice (some ⟨g, 0, none⟩) (js.length + 1) cap)).heap[k]? = w'.heap[k]? := fun k h1 h2 => by
    rw [Below.heap_setCell _ _ _ _ h2, Below.heap_setCell _ _ _ _ h1, Below.heap_setCell _ _ _ _ h1, Below.heap_setCell _ _ _ _ h1, Below.heap_setCell _ _ _ _ h1, Below.heap_setCell _ _ _ _ h1]
  have sz : ((((((w'.setCell ⟨g, js.length * 5, none⟩ x0).setCell ⟨g, js.length * 5 + 1, none⟩ x1).setCell ⟨g, js.length * 5 + 2, none⟩ x2).setCell ⟨g, js.length * 5 + 3, none⟩ x3).setCell ⟨g, js.length * 5 + 4, none⟩ x4).setCell ⟨gj, 3, none⟩ (.slice (some ⟨g, 0, none⟩) (js.length + 1) cap)).heap.size = w'.heap.size := by simp [World.setCell]
  have bk5 : B5 (((((w'.setCell ⟨g, js.length * 5, none⟩ x0).setCell ⟨g, js.length * 5 + 1, none⟩ x1).setCell ⟨g, js.length * 5 + 2, none⟩ x2).setCell ⟨g, js.length * 5 + 3, none⟩ x3).setCell ⟨g, js.length * 5 + 4, none⟩ x4) gj 25 (.int .i64 kind) (.int .i64 0) (.string ⟨#[]⟩) v3 v4 := by
    have hn : g ≠ gj := by omega
    exact (((((h.bk.below hbl hlt).past hn _).past hn _).past hn _).past hn _).past hn _
  have o3'' := (Mem.OwnR.put5 o3' five x0 x1 x2 x3 x4).set (p := ⟨gj, 3, none⟩) (by show gj < N; omega) (.slice (some ⟨g, 0, none⟩) (js.length + 1) cap)
  have bk6 := B5.set3 bk5 (.slice (some ⟨g, 0, none⟩) (js.length + 1) cap)
  generalize ((((((w'.setCell ⟨g, js.length * 5, none⟩ x0).setCell ⟨g, js.length * 5 + 1, none⟩ x1).setCell ⟨g, js.length * 5 + 2, none⟩ x2).setCell ⟨g, js.length * 5 + 3, none⟩ x3).setCell ⟨g, js.length * 5 + 4, none⟩ x4).setCell ⟨gj, 3, none⟩ (.slice (some ⟨g, 0, none⟩) (js.length + 1) cap)) = W at *
  have hne4 : ∀ k, some k = v4.ownBlock → some k ≠ v3.ownBlock := fun k hg' hn => h.ap k hn hg'
  refine ⟨?_, ?_, ?_, ?_, bk6, h.lt, by rw [sz]; exact Nat.le_trans h.le hg.size⟩
  · rw [List.length_append, List.flatten_append]; simpa using o3''
  · exact h.o4.keepb fun k hk => (rest k (hne k (own_lt h.o4 k hk) (hne4 k hk)) (by have := (h.o4.base_le hk).1; omega)).trans (hg.block k (own_lt h.o4 k hk) (hne4 k hk))
  · refine TreesS.keep (fun p hp => ?_) (fun b hb => ⟨hb.1, by rw [sz]; exact Nat.lt_of_lt_of_le hb.2.1 hg.size, ?_, hb.2.2.2⟩) (h.tr.snoc ht)
    · exact World.cell?_of_block ((rest p.block (hne _ hp.2.1 hp.2.2.1) (by have := hp.1; omega)).trans (hg.block p.block hp.2.1 hp.2.2.1))
    · intro e
      exact hne b hb.2.1 hb.2.2.1 (by injection e)
  · intro k hk e
    have e2 : k = g := by injection hk
    subst e2
    rcases ob with o | o
    · exact h.ap k o e
    · have := own_lt h.o4 k e
      omega
/-- What was gathered, as a tree. -/
theorem StC.tree (h : StC gj N w kind ks js css v3 v4) (hj : js.length ≤ 1000000000) (hk : ks.length ≤ 1000000000) : ∃ A3 c3 A4 c4, v3 = .slice A3 js.length c3 ∧ v4 = .slice A4 ks.length c4 ∧
    TreeS w (Btw N w.heap.size) (.mk kind 0 ⟨#[]⟩ js ks) [.int .i64 kind, .int .i64 0, .string ⟨#[]⟩, .slice A3 js.length c3, .slice A4 ks.length c4] := by
  obtain ⟨A3, c3, e3, h3, f3⟩ := ownR_fls h.o3
  obtain ⟨A4, c4, e4, h4, f4⟩ := ownR_fls h.o4
  exact ⟨A3, c3, A4, c4, e3, e4, TreeS.mk_ ⟨h3, by unfold maxLen; omega⟩ ⟨h4, by unfold maxLen; omega⟩ (trees_fl h.tr f3 (fun b hb => ⟨hb.1, hb.2.1⟩)) f4⟩
theorem StC.start (bk : B5 w gj 25 (.int .i64 kind) (.int .i64 0) (.string ⟨#[]⟩) (.slice none 0 0) (.slice none 0 0)) (lt : gj < N) (le : N ≤ w.heap.size) : StC gj N w kind [] [] [] (.slice none 0 0) (.slice none 0 0) :=
  ⟨OwnR.none_ _ _ _ _, OwnR.none_ _ _ _ _, trivial, fun g hg => by simp [Value.ownBlock] at hg, bk, lt, le⟩
end
end Go.Proofs.YtjebkedlfhapjaaDoor
