/- Joined by tools/bundle.py: JEq VCA VCB VInR. -/
import Derived.Deep.LoopGhost
import Derived.BigQuiet
import Derived.Test.YtlpmcohbbffbfaaDoorQ4
import Derived.Test.YtlpmcohbbffbfaaDoorQ5
import Derived.Test.YtlpmcohbbffbfaaDoorQ6
namespace Go.Proofs.YtlpmcohbbffbfaaDoor
open Go.ChangeShapes Go.WideShapes Go.ChangeAt Go.RowKit Mem
def place7 (ks : List ByteArray) (k : ByteArray) : Option Nat := ks.findIdx? fun x => decide (x = k)
theorem place7_at {ks : List ByteArray} {k : ByteArray} {i : Nat} (hi : i < ks.length) (h : ks[i]'hi = k) (hn : ∀ m (g : m < ks.length), m < i → ks[m]'g ≠ k) : place7 ks k = some i := by
  unfold place7
  rw [List.findIdx?_eq_some_iff_getElem]
  exact ⟨hi, by simpa using h, fun j hj => by simpa using hn j (by omega) hj⟩
theorem place7_no {ks : List ByteArray} {k : ByteArray} (hn : ∀ m (g : m < ks.length), ks[m]'g ≠ k) : place7 ks k = none := by
  unfold place7
  rw [List.findIdx?_eq_none_iff]
  intro x hx
  obtain ⟨m, hm, rfl⟩ := List.getElem_of_mem hx
  simpa using hn m hm
theorem place7_any {ks : List ByteArray} {k : ByteArray} : (ks.any fun x => decide (x = k)) = (place7 ks k).isSome := by
  unfold place7
  simp [List.findIdx?_isSome]
def num7 (o : Option Nat) : Int := match o with | none => -1 | some i => (i : Int)
def Idx (ks : List ByteArray) (k : ByteArray) (w : World) (e : Ending) (w' : World) : Prop := e = .returned (.int .i64 (num7 (place7 ks k))) ∧ w' = w
theorem idx_ret {ks : List ByteArray} {k : ByteArray} {o : Option Nat} {w w' : World} {z : Int} (h : place7 ks k = o) (hz : z = num7 o) (hw : w' = w) : Idx ks k w (.returned (.int .i64 z)) w' := by
  subst hz; subst h; exact ⟨rfl, hw⟩
set_option maxRecDepth 100000 in
set_option maxHeartbeats 2000000 in
theorem index_any (S : Nat → Prop) (A : Option Addr) (c : Nat) (ks : List ByteArray) (k : ByteArray) (w : World) (h : FlS w S A (ks.map Value.string)) (hl : ks.length ≤ maxLen) :
    Calls Tryd.prog 67 #[.slice A ks.length c, .string k] w (Idx ks k w) := by
  have F := Lib.hid h
  obtain ⟨nk, hnk⟩ : ∃ m, m = ks.length := ⟨_, rfl⟩
  have HNK := Lib.hid hnk
  rw [← hnk] at hl ⊢
  have hb : nk ≤ 9223372036854775807 := by unfold maxLen at hl; exact hl
  clear hnk h hl
  go_enter Tryd.func67, Tryd.ntmps67
  go_wp2_with fail
  go_loopw [8] (fun t wq => ∃ j : Nat, j ≤ nk ∧ t = .int .i64 (j : Int) ∧ Hid (∀ m (h : m < ks.length), m < j → ks[m]'h ≠ k) ∧ wq = w) (fun t _ => nk - (intOf t).toNat)
  case atStart => exact ⟨0, Nat.zero_le _, rfl, fun _ _ h => absurd h (Nat.not_lt_zero _), rfl⟩
  case round =>
    obtain ⟨m, hm, rfl, NE, rfl⟩ := hrel
    by_cases hmk : m < nk
    · have h1 : m < ks.length := by rw [← HNK.out]; exact hmk
      obtain ⟨b8, o8, e8, hb8, z0⟩ := fl_str F.out h1
      have ne := NE.out
      by_cases hx : ks[m]'h1 = k
      · have Z := Lib.hid (place7_at h1 hx (fun q g hq => ne q g hq))
        rw [hx] at z0
        have sx : (k.toList == k.toList) = true := by simp
        subst e8
        clear ne hx h1
        go_wp2_with fail
        go_ret
        exact idx_ret Z.out rfl rfl
      · have NE2 : Hid (∀ q (h : q < ks.length), q < m + 1 → ks[q]'h ≠ k) := fun q h hq => by
          rcases Nat.lt_or_ge q m with g | g
          · exact ne q h g
          · obtain rfl : q = m := by omega
            exact hx
        have sx : (k.toList == (ks[m]'h1).toList) = false := by rw [str_beq]; simpa using fun e => hx e.symm
        generalize ks[m]'h1 = Y at *
        subst e8
        clear ne hx h1
        go_wp2_with fail
        go_roundw
        case rel => exact ⟨m + 1, by omega, by go_num, NE2, by first | rfl | trivial⟩
        case measure => simp [intOf]; omega
    · obtain rfl : m = nk := by omega
      have Z := Lib.hid (place7_no (ks := ks) (k := k) (fun q g => NE.out q g (by rw [HNK.out]; exact g)))
      clear NE hmk
      go_wp2_with fail
      go_ret
      exact idx_ret Z.out rfl rfl
theorem contains_any (S : Nat → Prop) (A : Option Addr) (c : Nat) (ks : List ByteArray) (k : ByteArray) (w : World) (h : FlS w S A (ks.map Value.string)) (hl : ks.length ≤ maxLen) :
    Calls Tryd.prog 57 #[.slice A ks.length c, .string k] w (fun e w' => e = .returned (.bool (place7 ks k).isSome) ∧ w' = w) := by
  have IX := Lib.hid (index_any S A c ks k w h hl)
  obtain ⟨o, ho⟩ : ∃ o, o = place7 ks k := ⟨_, rfl⟩
  obtain ⟨nk, hnk⟩ : ∃ m, m = ks.length := ⟨_, rfl⟩
  have ix := IX.out
  unfold Idx at ix
  rw [← ho, ← hnk] at ix
  rw [← ho, ← hnk]
  have IX2 := Lib.hid ix
  clear ix IX ho hnk h hl
  cases o with
  | none =>
    go_enter Tryd.func57, Tryd.ntmps57
    go_wp2_with fail
    with_reducible refine IX2.out.mono ?_
    rintro e w1 ⟨rfl, rfl⟩
    have q2 : ¬ (0 : Int) ≤ num7 none := by decide
    go_wp2_with fail
    go_ret
    exact ⟨by simp [num7], rfl⟩
  | some i =>
    go_enter Tryd.func57, Tryd.ntmps57
    go_wp2_with fail
    with_reducible refine IX2.out.mono ?_
    rintro e w1 ⟨rfl, rfl⟩
    have q2 : (0 : Int) ≤ num7 (some i) := by show (0 : Int) ≤ (i : Int); omega
    go_wp2_with fail
    go_ret
    exact ⟨by simp, rfl⟩
def eqs (a b : List ByteArray) : Bool := decide (a = b)
theorem Drewn7.next {w a : World} (h : Drewn7 w a) (n : Nat) : Drewn7 w (a.drewN n) := by obtain ⟨k, rfl⟩ := h; exact ⟨k + n, by simp⟩
def Eqd (r : Bool) (w : World) (e : Ending) (w' : World) : Prop := e = .returned (.bool r) ∧ Drewn7 w w'
theorem eqd_ret {r c : Bool} {w w' : World} (h : r = c) (hw : Drewn7 w w') : Eqd r w (.returned (.bool c)) w' := by subst h; exact ⟨rfl, hw⟩
set_option maxRecDepth 100000 in
set_option maxHeartbeats 2000000 in
theorem equal_any (S : Nat → Prop) (A D : Option Addr) (c d : Nat) (ks ls : List ByteArray) (w : World) (h : FlS w S A (ks.map Value.string)) (h' : FlS w S D (ls.map Value.string)) (hl : ks.length ≤ maxLen) (_hl' : ls.length ≤ maxLen) :
    Calls Tryd.prog 23 #[.slice A ks.length c, .slice D ls.length d] w (Eqd (eqs ks ls) w) := by
  have F := Lib.hid h
  have G := Lib.hid h'
  obtain ⟨R, hR⟩ : ∃ R, R = eqs ks ls := ⟨_, rfl⟩
  rw [← hR]
  unfold eqs at hR
  by_cases hlen : ks.length = ls.length
  · obtain ⟨nk, hnk⟩ : ∃ m, m = ks.length := ⟨_, rfl⟩
    have HNK := Lib.hid hnk
    have HNL : Hid (nk = ls.length) := hnk.trans hlen
    rw [← HNL.out, ← hnk]
    have hb : nk ≤ 9223372036854775807 := by unfold maxLen at hl; omega
    have YES : Hid (ks = ls → R = true) := fun e => by rw [hR]; simpa using e
    have NO : Hid (ks ≠ ls → R = false) := fun e => by rw [hR]; simpa using e
    clear hnk h h' hl hlen hR
    go_enter Tryd.func23, Tryd.ntmps23
    go_wp2_with fail
    go_loopw [13] (fun t wq => ∃ j : Nat, j ≤ nk ∧ t = .int .i64 (j : Int) ∧ Hid (∀ m (h : m < ks.length) (g : m < ls.length), m < j → ks[m]'h = ls[m]'g) ∧ Drewn7 w wq) (fun t _ => nk - (intOf t).toNat)
    case atStart => exact ⟨0, Nat.zero_le _, rfl, fun _ _ _ h => absurd h (Nat.not_lt_zero _), ⟨0, rfl⟩⟩
    case round =>
      obtain ⟨m, hm, rfl, NE, ⟨nd, rfl⟩⟩ := hrel
      by_cases hmk : m < nk
      · have h1 : m < ks.length := by rw [← HNK.out]; exact hmk
        have h2 : m < ls.length := by rw [← HNL.out]; exact hmk
        obtain ⟨b8, o8, e8, hb8, z0⟩ := fl_str F.out h1
        obtain ⟨b9, o9, e9, hb9, z1⟩ := fl_str G.out h2
        have ne := NE.out
        by_cases hx : ks[m]'h1 = ls[m]'h2
        · have NE2 : Hid (∀ q (h : q < ks.length) (g : q < ls.length), q < m + 1 → ks[q]'h = ls[q]'g) := fun q h g hq => by
            rcases Nat.lt_or_ge q m with k | k
            · exact ne q h g k
            · obtain rfl : q = m := by omega
              exact hx
          rw [← hx] at z1
          generalize ks[m]'h1 = Y at *
          have sx : (Y.toList != Y.toList) = false := by rw [str_bne]; simp
          subst e8 e9
          clear ne hx h1 h2
          go_wp2_with fail
          go_quiet (fail)
          go_wp2_with fail
          go_roundw
          case rel => exact ⟨m + 1, by omega, by go_num, NE2, ⟨_, rfl⟩⟩
          case measure => simp [intOf]; omega
        · have Z := Lib.hid (NO.out (fun e => hx (by subst e; rfl)))
          have sx : ((ks[m]'h1).toList != (ls[m]'h2).toList) = true := by rw [str_bne]; simpa using hx
          have sx2 : ((ks[m]'h1).toList == (ls[m]'h2).toList) = false := by rw [str_beq]; simpa using hx
          generalize ks[m]'h1 = Y at *
          generalize ls[m]'h2 = X at *
          subst e8 e9
          clear ne hx h1 h2
          go_wp2_with fail
          go_quiet (fail)
          go_wp2_with fail
          go_ret
          exact eqd_ret Z.out (Drewn7.next ⟨_, rfl⟩ _)
      · obtain rfl : m = nk := by omega
        have Z := Lib.hid (YES.out (List.ext_getElem (by rw [← HNK.out, HNL.out]) fun j g1 g2 => NE.out j g1 g2 (by rw [HNK.out]; exact g1)))
        clear NE hmk
        go_wp2_with fail
        go_ret
        exact eqd_ret Z.out ⟨_, rfl⟩
  · have Z : Hid (R = false) := by show _ = _; rw [hR]; simp only [decide_eq_false_iff_not]; intro e; exact hlen (by rw [e])
    have q : ((ks.length : Int) != (ls.length : Int)) = true := by rw [bne_iff_ne]; omega
    clear hlen hR h h'
    go_enter Tryd.func23, Tryd.ntmps23
    go_wp2_with fail
    go_ret
    exact eqd_ret Z.out ⟨0, rfl⟩
end Go.Proofs.YtlpmcohbbffbfaaDoor
namespace Go.Proofs.YtlpmcohbbffbfaaDoor
open Go.ChangeShapes Go.WideShapes Go.ChangeAt Go.RowKit Mem
set_option maxRecDepth 100000 in
set_option maxHeartbeats 2000000 in
theorem bequal_any (A D : Option Addr) (c d : Nat) (l m : List UInt8) (w : World) (hl : Bys w w.heap.size A l) (hm : Bys w w.heap.size D m) :
    Calls Tryd.prog 22 #[.slice A l.length c, .slice D m.length d] w (fun e w' => e = .returned (.bool (decide (l = m))) ∧ w' = w) := by
  have c1 := hl.str (P := Tryd.prog) byteT strT c
  have c2 := hm.str (P := Tryd.prog) byteT strT d
  have q : ((⟨l.toArray⟩ : ByteArray).toList == (⟨m.toArray⟩ : ByteArray).toList) = decide (l = m) := by
    rw [str_beq]
    by_cases h : l = m
    · subst h; simp
    · have : ¬ (⟨l.toArray⟩ : ByteArray) = ⟨m.toArray⟩ := fun e => h (bytes_inj e)
      simp [h, this]
  have Q := Lib.hid q
  clear q
  generalize (⟨l.toArray⟩ : ByteArray) = S1 at *
  generalize (⟨m.toArray⟩ : ByteArray) = S2 at *
  generalize decide (l = m) = R at *
  generalize l.length = n1 at *
  generalize m.length = n2 at *
  have q := Q.out
  clear hl hm Q
  cases R
  all_goals
    go_enter Tryd.func22, Tryd.ntmps22
    go_wp2_with fail
    go_ret
    exact ⟨rfl, rfl⟩
noncomputable def vsames (a b : List V) : Bool := @decide (a = b) (Classical.propDecidable _)
theorem vsames_yes {a b : List V} (h : a = b) : vsames a b = true := by unfold vsames; simpa using h
theorem vsames_no {a b : List V} (h : a ≠ b) : vsames a b = false := by unfold vsames; simpa using h
def VSameC (t : V) : Prop := ∀ (u : V) (w : World) (A3 A4 A5 D3 D4 D5 : Option Addr) (c3 c4 c5 d3 d4 d5 : Nat),
    Lies w (· < w.heap.size) t.enc [.int .i64 t.k, .int .i64 t.n, .int .u64 t.bt, .slice A3 t.bs.length c3, .slice A4 t.its.length c4, .slice A5 t.ks.length c5] → Lies w (· < w.heap.size) u.enc [.int .i64 u.k, .int .i64 u.n, .int .u64 u.bt, .slice D3 u.bs.length d3, .slice D4 u.its.length d4, .slice D5 u.ks.length d5] →
    Calls Tryd.prog 8 #[.agg #[.int .i64 t.k, .int .i64 t.n, .int .u64 t.bt, .slice A3 t.bs.length c3, .slice A4 t.its.length c4, .slice A5 t.ks.length c5], .agg #[.int .i64 u.k, .int .i64 u.n, .int .u64 u.bt, .slice D3 u.bs.length d3, .slice D4 u.its.length d4, .slice D5 u.ks.length d5]] w (Told (V.same t u) w)
set_option maxRecDepth 100000 in
set_option maxHeartbeats 4000000 in
theorem vEqF_any (its its' : List V) (IHs : ∀ i (h : i < its.length), VSameC (its[i]'h)) (w : World) (A3 D3 : Option Addr) (c3 d3 : Nat) (rt : RowD w (· < w.heap.size) 6 (its.map V.enc) A3) (ru : RowD w (· < w.heap.size) 6 (its'.map V.enc) D3) (hl : its.length ≤ maxLen) (_hl' : its'.length ≤ maxLen) :
    Calls Tryd.prog 24 #[.slice A3 its.length c3, .slice D3 its'.length d3, .func (.func 8) #[] #[]] w (Told (vsames its its') w) := by
  have CS := cell_set
  obtain ⟨R, hR⟩ : ∃ R, R = vsames its its' := ⟨_, rfl⟩
  have HR := Lib.hid hR
  rw [← hR]
  by_cases hlen : its.length = its'.length
  · have RT := Lib.hid rt; have RU := Lib.hid ru
    obtain ⟨ni, hni⟩ : ∃ m, m = its.length := ⟨_, rfl⟩
    have HNI := Lib.hid hni
    have HLI : Hid (its'.length = ni) := hlen.symm.trans hni.symm
    have ni0 : ni ≤ 9223372036854775807 := by unfold maxLen at hl; omega
    have IH := Lib.hid IHs
    rw [HLI.out, ← HNI.out]
    clear hni hlen rt ru hl hR IHs
    go_enter Tryd.func24, Tryd.ntmps24
    go_wp2_with fail
    go_loopw [17] (fun t wr => ∃ p : Nat, p ≤ ni ∧ t = .int .i64 (p : Int) ∧ Hid (∀ j (h1 : j < its.length) (h2 : j < its'.length), j < p → its[j]'h1 = its'[j]'h2) ∧ Below w.heap.size w wr) (fun t _ => ni - (intOf t).toNat)
    case atStart => exact ⟨0, by omega, rfl, fun _ _ _ h => absurd h (Nat.not_lt_zero _), Below.refl _ _⟩
    case round =>
      obtain ⟨p, hp, rfl, HE, bl⟩ := hrel
      have gsz := bl.size
      by_cases hpn : p < ni
      · have h1 : p < its.length := by rw [← HNI.out]; exact hpn
        have h2 : p < its'.length := by rw [HLI.out]; exact hpn
        obtain ⟨b1, o1, X3, x3, X4, x4, X5, x5, e1, hb1, ⟨y0, y1, y2, y3, y4, y5⟩, ty⟩ := values_at (RT.out.below bl) h1
        obtain ⟨b2, o2, Z3, z3, Z4, z4, Z5, z5, e2, hb2, ⟨v0, v1, v2, v3, v4, v5⟩, tv⟩ := values_at (RU.out.below bl) h2
        have lb1 : b1 < wr.heap.size := by omega
        have lb2 : b2 < wr.heap.size := by omega
        have nb2 : b2 ≠ wr.heap.size := by omega
        have IHp := Lib.hid (IH.out p h1)
        have he := HE.out
        have I2 := Lib.hid (fun W a b => IHp.out (its'[p]'h2) W X3 X4 X5 Z3 Z4 Z5 x3 x4 x5 z3 z4 z5 a b)
        have NO : Hid (V.same (its[p]'h1) (its'[p]'h2) = false → R = false) := fun e => HR.out.trans (vsames_no fun g => by subst g; rw [V.same_yes rfl] at e; exact absurd e (by simp))
        have HE2 : Hid (V.same (its[p]'h1) (its'[p]'h2) = true → ∀ j (h1 : j < its.length) (h2 : j < its'.length), j < p + 1 → its[j]'h1 = its'[j]'h2) := fun e j g1 g2 hj => by
          rcases Nat.lt_or_ge j p with g | g
          · exact he j g1 g2 g
          · obtain rfl : j = p := by omega
            exact V.same_iff.1 e
        obtain ⟨SB, hSB⟩ : ∃ b, b = V.same (its[p]'h1) (its'[p]'h2) := ⟨_, rfl⟩
        rw [← hSB] at I2 NO HE2
        generalize its[p]'h1 = T at *
        generalize its'[p]'h2 = U at *
        subst e1 e2
        have TY := Lib.hid (ty.more gsz); have TV := Lib.hid (tv.more gsz)
        clear he h1 h2 ty tv IHp hSB HE
        cases SB with
        | true =>
          have HE3 := Lib.hid (HE2.out rfl)
          clear HE2 NO
          go_wp2_with fail
          with_reducible refine (I2.out _ (TY.out.on (by (repeat' (first | with_reducible assumption | with_reducible exact Below.refl _ _ | (with_reducible refine Below.alloc ?_ ?_ _; rotate_left; focus ((first | exact Nat.le_refl _ | (simp; done) | (simp; omega) | omega | fail))) | (with_reducible refine Below.setCell ?_ ?_ _; rotate_left; focus ((first | exact Nat.le_refl _ | (simp; done) | (simp; omega) | omega | fail))) | with_reducible refine Mem.bel_drewN ?_ _ | with_reducible refine Below.drew ?_ | (with_reducible refine Mem.bel_call (by with_reducible assumption) ?_ ?_; focus ((first | exact Nat.le_refl _ | (simp; done) | (simp; omega) | omega | fail))) | fail)))) (TV.out.on (by (repeat' (first | with_reducible assumption | with_reducible exact Below.refl _ _ | (with_reducible refine Below.alloc ?_ ?_ _; rotate_left; focus ((first | exact Nat.le_refl _ | (simp; done) | (simp; omega) | omega | fail))) | (with_reducible refine Below.setCell ?_ ?_ _; rotate_left; focus ((first | exact Nat.le_refl _ | (simp; done) | (simp; omega) | omega | fail))) | with_reducible refine Mem.bel_drewN ?_ _ | with_reducible refine Below.drew ?_ | (with_reducible refine Mem.bel_call (by with_reducible assumption) ?_ ?_; focus ((first | exact Nat.le_refl _ | (simp; done) | (simp; omega) | omega | fail))) | fail))))).mono ?_
          rintro e w3 ⟨rfl, b3⟩
          have bl3 : Below w.heap.size w w3 := by (repeat' (first | with_reducible assumption | with_reducible exact Below.refl _ _ | (with_reducible refine Below.alloc ?_ ?_ _; rotate_left; focus ((first | exact Nat.le_refl _ | (simp; done) | (simp; omega) | omega | fail))) | (with_reducible refine Below.setCell ?_ ?_ _; rotate_left; focus ((first | exact Nat.le_refl _ | (simp; done) | (simp; omega) | omega | fail))) | with_reducible refine Mem.bel_drewN ?_ _ | with_reducible refine Below.drew ?_ | (with_reducible refine Mem.bel_call (by with_reducible assumption) ?_ ?_; focus ((first | exact Nat.le_refl _ | (simp; done) | (simp; omega) | omega | fail))) | fail))
          go_wp2_with fail
          go_roundw
          case rel => exact ⟨p + 1, by omega, by go_num, HE3, bl3⟩
          case measure => simp [intOf]; omega
        | false =>
          have Z : Hid (R = false) := NO.out rfl
          clear HE2 NO
          go_wp2_with fail
          with_reducible refine (I2.out _ (TY.out.on (by (repeat' (first | with_reducible assumption | with_reducible exact Below.refl _ _ | (with_reducible refine Below.alloc ?_ ?_ _; rotate_left; focus ((first | exact Nat.le_refl _ | (simp; done) | (simp; omega) | omega | fail))) | (with_reducible refine Below.setCell ?_ ?_ _; rotate_left; focus ((first | exact Nat.le_refl _ | (simp; done) | (simp; omega) | omega | fail))) | with_reducible refine Mem.bel_drewN ?_ _ | with_reducible refine Below.drew ?_ | (with_reducible refine Mem.bel_call (by with_reducible assumption) ?_ ?_; focus ((first | exact Nat.le_refl _ | (simp; done) | (simp; omega) | omega | fail))) | fail)))) (TV.out.on (by (repeat' (first | with_reducible assumption | with_reducible exact Below.refl _ _ | (with_reducible refine Below.alloc ?_ ?_ _; rotate_left; focus ((first | exact Nat.le_refl _ | (simp; done) | (simp; omega) | omega | fail))) | (with_reducible refine Below.setCell ?_ ?_ _; rotate_left; focus ((first | exact Nat.le_refl _ | (simp; done) | (simp; omega) | omega | fail))) | with_reducible refine Mem.bel_drewN ?_ _ | with_reducible refine Below.drew ?_ | (with_reducible refine Mem.bel_call (by with_reducible assumption) ?_ ?_; focus ((first | exact Nat.le_refl _ | (simp; done) | (simp; omega) | omega | fail))) | fail))))).mono ?_
          rintro e w3 ⟨rfl, b3⟩
          have bl3 : Below w.heap.size w w3 := by (repeat' (first | with_reducible assumption | with_reducible exact Below.refl _ _ | (with_reducible refine Below.alloc ?_ ?_ _; rotate_left; focus ((first | exact Nat.le_refl _ | (simp; done) | (simp; omega) | omega | fail))) | (with_reducible refine Below.setCell ?_ ?_ _; rotate_left; focus ((first | exact Nat.le_refl _ | (simp; done) | (simp; omega) | omega | fail))) | with_reducible refine Mem.bel_drewN ?_ _ | with_reducible refine Below.drew ?_ | (with_reducible refine Mem.bel_call (by with_reducible assumption) ?_ ?_; focus ((first | exact Nat.le_refl _ | (simp; done) | (simp; omega) | omega | fail))) | fail))
          go_wp2_with fail
          go_ret
          exact told_ret Z.out (by (repeat' (first | with_reducible assumption | with_reducible exact Below.refl _ _ | (with_reducible refine Below.alloc ?_ ?_ _; rotate_left; focus ((first | exact Nat.le_refl _ | (simp; done) | (simp; omega) | omega | fail))) | (with_reducible refine Below.setCell ?_ ?_ _; rotate_left; focus ((first | exact Nat.le_refl _ | (simp; done) | (simp; omega) | omega | fail))) | with_reducible refine Mem.bel_drewN ?_ _ | with_reducible refine Below.drew ?_ | (with_reducible refine Mem.bel_call (by with_reducible assumption) ?_ ?_; focus ((first | exact Nat.le_refl _ | (simp; done) | (simp; omega) | omega | fail))) | fail)))
      · obtain rfl : p = ni := by omega
        have Z : Hid (R = true) := HR.out.trans (vsames_yes (List.ext_getElem (by rw [← HNI.out, HLI.out]) fun j g1 g2 => HE.out j g1 g2 (by rw [HNI.out]; exact g1)))
        clear HE hpn
        go_wp2_with fail
        go_ret
        exact told_ret Z.out (by (repeat' (first | with_reducible assumption | with_reducible exact Below.refl _ _ | (with_reducible refine Below.alloc ?_ ?_ _; rotate_left; focus ((first | exact Nat.le_refl _ | (simp; done) | (simp; omega) | omega | fail))) | (with_reducible refine Below.setCell ?_ ?_ _; rotate_left; focus ((first | exact Nat.le_refl _ | (simp; done) | (simp; omega) | omega | fail))) | with_reducible refine Mem.bel_drewN ?_ _ | with_reducible refine Below.drew ?_ | (with_reducible refine Mem.bel_call (by with_reducible assumption) ?_ ?_; focus ((first | exact Nat.le_refl _ | (simp; done) | (simp; omega) | omega | fail))) | fail)))
  · have Z : Hid (R = false) := hR.trans (vsames_no fun e => hlen (by rw [e]))
    have q : ((its.length : Int) != (its'.length : Int)) = true := by rw [bne_iff_ne]; omega
    clear hlen rt ru hR IHs
    go_enter Tryd.func24, Tryd.ntmps24
    go_wp2_with fail
    go_ret
    exact told_ret Z.out (by (repeat' (first | with_reducible assumption | with_reducible exact Below.refl _ _ | (with_reducible refine Below.alloc ?_ ?_ _; rotate_left; focus ((first | exact Nat.le_refl _ | (simp; done) | (simp; omega) | omega | fail))) | (with_reducible refine Below.setCell ?_ ?_ _; rotate_left; focus ((first | exact Nat.le_refl _ | (simp; done) | (simp; omega) | omega | fail))) | with_reducible refine Mem.bel_drewN ?_ _ | with_reducible refine Below.drew ?_ | (with_reducible refine Mem.bel_call (by with_reducible assumption) ?_ ?_; focus ((first | exact Nat.le_refl _ | (simp; done) | (simp; omega) | omega | fail))) | fail)))
set_option maxRecDepth 100000 in
set_option maxHeartbeats 8000000 in
theorem vSame_step (k n bt : Int) (bs : List UInt8) (its : List V) (ks : List ByteArray) (IHs : ∀ i (h : i < its.length), VSameC (its[i]'h)) : VSameC (.mk k n bt bs its ks) := by
  intro u w A3 A4 A5 D3 D4 D5 c3 c4 c5 d3 d4 d5 ht hu
  cases u with
  | mk k' n' bt' bs' its' ks' =>
    have CS := cell_set
    obtain ⟨_, _, _, _, _, _, e, l3, r3, l4, r4, l5, f5⟩ := V.out.1 ht
    simp only [V.k, V.n, V.bt, V.bs, V.its, V.ks, List.cons.injEq, Value.slice.injEq, true_and, and_true] at e l3 r3 l4 r4 l5 f5
    obtain ⟨⟨rfl, rfl⟩, ⟨rfl, rfl⟩, rfl, rfl⟩ := e
    obtain ⟨_, _, _, _, _, _, e, m3, s3, m4, s4, m5, g5⟩ := V.out.1 hu
    simp only [V.k, V.n, V.bt, V.bs, V.its, V.ks, List.cons.injEq, Value.slice.injEq, true_and, and_true] at e m3 s3 m4 s4 m5 g5
    obtain ⟨⟨rfl, rfl⟩, ⟨rfl, rfl⟩, rfl, rfl⟩ := e
    simp only [V.k, V.n, V.bt, V.bs, V.its, V.ks]
    obtain ⟨RR, hRR⟩ : ∃ R, R = V.same (.mk k n bt bs its ks) (.mk k' n' bt' bs' its' ks') := ⟨_, rfl⟩
    have HR := Lib.hid hRR
    rw [← hRR]
    have Y3 := Lib.hid (row_bys r3); have Y3' := Lib.hid (row_bys s3)
    have BE := Lib.hid (fun W (b : Below w.heap.size w W) => bequal_any A3 D3 c3 d3 bs bs' W ((Y3.out.below b).more b.size) ((Y3'.out.below b).more b.size))
    have EQ := Lib.hid (fun W (b : Below w.heap.size w W) => equal_any (· < W.heap.size) A5 D5 c5 d5 ks ks' W (FlS.keep (Below.keeps b) (fun _ h => Nat.lt_of_lt_of_le h b.size) f5) (FlS.keep (Below.keeps b) (fun _ h => Nat.lt_of_lt_of_le h b.size) g5) l5.2 m5.2)
    obtain ⟨R, hR⟩ : ∃ R, R = vsames its its' := ⟨_, rfl⟩
    have EFD : Hid (∀ W, Below w.heap.size w W → Calls Tryd.prog 24 #[.slice A4 its.length c4, .slice D4 its'.length d4, .func (.func 8) #[] #[]] W (Told R W)) := fun W b => by
      rw [hR]
      exact vEqF_any its its' IHs W A4 D4 c4 d4 ((r4.below b).more b.size) ((s4.below b).more b.size) l4.2 m4.2
    by_cases hk : k = k'
    rotate_left
    · have Z := Lib.hid (HR.out.trans (V.same_no fun e => hk (by injection e)))
      have q : (k == k') = false := by simpa using hk
      clear hk hRR ht hu r3 r4 f5 s3 s4 g5 IHs BE EQ EFD hR HR
      go_enter Tryd.func8, Tryd.ntmps8
      go_wp2_with fail
      go_ret
      exact told_ret Z.out (by (repeat' (first | with_reducible assumption | with_reducible exact Below.refl _ _ | (with_reducible refine Below.alloc ?_ ?_ _; rotate_left; focus ((first | exact Nat.le_refl _ | (simp; done) | (simp; omega) | omega | fail))) | (with_reducible refine Below.setCell ?_ ?_ _; rotate_left; focus ((first | exact Nat.le_refl _ | (simp; done) | (simp; omega) | omega | fail))) | with_reducible refine Mem.bel_drewN ?_ _ | with_reducible refine Below.drew ?_ | (with_reducible refine Mem.bel_call (by with_reducible assumption) ?_ ?_; focus ((first | exact Nat.le_refl _ | (simp; done) | (simp; omega) | omega | fail))) | fail)))
    subst hk
    by_cases hn : n = n'
    rotate_left
    · have Z := Lib.hid (HR.out.trans (V.same_no fun e => hn (by injection e)))
      have q : (n == n') = false := by simpa using hn
      clear hn hRR ht hu r3 r4 f5 s3 s4 g5 IHs BE EQ EFD hR HR
      go_enter Tryd.func8, Tryd.ntmps8
      go_wp2_with fail
      go_ret
      exact told_ret Z.out (by (repeat' (first | with_reducible assumption | with_reducible exact Below.refl _ _ | (with_reducible refine Below.alloc ?_ ?_ _; rotate_left; focus ((first | exact Nat.le_refl _ | (simp; done) | (simp; omega) | omega | fail))) | (with_reducible refine Below.setCell ?_ ?_ _; rotate_left; focus ((first | exact Nat.le_refl _ | (simp; done) | (simp; omega) | omega | fail))) | with_reducible refine Mem.bel_drewN ?_ _ | with_reducible refine Below.drew ?_ | (with_reducible refine Mem.bel_call (by with_reducible assumption) ?_ ?_; focus ((first | exact Nat.le_refl _ | (simp; done) | (simp; omega) | omega | fail))) | fail)))
    subst hn
    by_cases hb : bt = bt'
    rotate_left
    · have Z := Lib.hid (HR.out.trans (V.same_no fun e => hb (by injection e)))
      have q : (bt == bt') = false := by simpa using hb
      clear hb hRR ht hu r3 r4 f5 s3 s4 g5 IHs BE EQ EFD hR HR
      go_enter Tryd.func8, Tryd.ntmps8
      go_wp2_with fail
      go_ret
      exact told_ret Z.out (by (repeat' (first | with_reducible assumption | with_reducible exact Below.refl _ _ | (with_reducible refine Below.alloc ?_ ?_ _; rotate_left; focus ((first | exact Nat.le_refl _ | (simp; done) | (simp; omega) | omega | fail))) | (with_reducible refine Below.setCell ?_ ?_ _; rotate_left; focus ((first | exact Nat.le_refl _ | (simp; done) | (simp; omega) | omega | fail))) | with_reducible refine Mem.bel_drewN ?_ _ | with_reducible refine Below.drew ?_ | (with_reducible refine Mem.bel_call (by with_reducible assumption) ?_ ?_; focus ((first | exact Nat.le_refl _ | (simp; done) | (simp; omega) | omega | fail))) | fail)))
    subst hb
    by_cases hs : bs = bs'
    rotate_left
    · have Z := Lib.hid (HR.out.trans (V.same_no fun e => hs (by injection e)))
      rw [show decide (bs = bs') = false by simpa using hs] at BE
      clear hs hRR ht hu r3 r4 f5 s3 s4 g5 IHs EQ EFD hR HR
      generalize bs.length = nb at *
      generalize bs'.length = nb' at *
      go_enter Tryd.func8, Tryd.ntmps8
      go_wp2_with fail
      with_reducible refine (BE.out _ (by (repeat' (first | with_reducible assumption | with_reducible exact Below.refl _ _ | (with_reducible refine Below.alloc ?_ ?_ _; rotate_left; focus ((first | exact Nat.le_refl _ | (simp; done) | (simp; omega) | omega | fail))) | (with_reducible refine Below.setCell ?_ ?_ _; rotate_left; focus ((first | exact Nat.le_refl _ | (simp; done) | (simp; omega) | omega | fail))) | with_reducible refine Mem.bel_drewN ?_ _ | with_reducible refine Below.drew ?_ | (with_reducible refine Mem.bel_call (by with_reducible assumption) ?_ ?_; focus ((first | exact Nat.le_refl _ | (simp; done) | (simp; omega) | omega | fail))) | fail)))).mono ?_
      rintro e w3 ⟨rfl, rfl⟩
      go_wp2_with fail
      go_ret
      exact told_ret Z.out (by (repeat' (first | with_reducible assumption | with_reducible exact Below.refl _ _ | (with_reducible refine Below.alloc ?_ ?_ _; rotate_left; focus ((first | exact Nat.le_refl _ | (simp; done) | (simp; omega) | omega | fail))) | (with_reducible refine Below.setCell ?_ ?_ _; rotate_left; focus ((first | exact Nat.le_refl _ | (simp; done) | (simp; omega) | omega | fail))) | with_reducible refine Mem.bel_drewN ?_ _ | with_reducible refine Below.drew ?_ | (with_reducible refine Mem.bel_call (by with_reducible assumption) ?_ ?_; focus ((first | exact Nat.le_refl _ | (simp; done) | (simp; omega) | omega | fail))) | fail)))
    subst hs
    rw [show decide (bs = bs) = true by simp] at BE
    by_cases hks : ks = ks'
    rotate_left
    · have Z := Lib.hid (HR.out.trans (V.same_no fun e => hks (by injection e)))
      rw [show eqs ks ks' = false by unfold eqs; simpa using hks] at EQ
      clear hks hRR ht hu r3 r4 f5 s3 s4 g5 IHs EFD hR HR
      go_enter Tryd.func8, Tryd.ntmps8
      go_wp2_with fail
      with_reducible refine (BE.out _ (by (repeat' (first | with_reducible assumption | with_reducible exact Below.refl _ _ | (with_reducible refine Below.alloc ?_ ?_ _; rotate_left; focus ((first | exact Nat.le_refl _ | (simp; done) | (simp; omega) | omega | fail))) | (with_reducible refine Below.setCell ?_ ?_ _; rotate_left; focus ((first | exact Nat.le_refl _ | (simp; done) | (simp; omega) | omega | fail))) | with_reducible refine Mem.bel_drewN ?_ _ | with_reducible refine Below.drew ?_ | (with_reducible refine Mem.bel_call (by with_reducible assumption) ?_ ?_; focus ((first | exact Nat.le_refl _ | (simp; done) | (simp; omega) | omega | fail))) | fail)))).mono ?_
      rintro e w3 ⟨rfl, rfl⟩
      go_wp2_with fail
      with_reducible refine (EQ.out _ (by (repeat' (first | with_reducible assumption | with_reducible exact Below.refl _ _ | (with_reducible refine Below.alloc ?_ ?_ _; rotate_left; focus ((first | exact Nat.le_refl _ | (simp; done) | (simp; omega) | omega | fail))) | (with_reducible refine Below.setCell ?_ ?_ _; rotate_left; focus ((first | exact Nat.le_refl _ | (simp; done) | (simp; omega) | omega | fail))) | with_reducible refine Mem.bel_drewN ?_ _ | with_reducible refine Below.drew ?_ | (with_reducible refine Mem.bel_call (by with_reducible assumption) ?_ ?_; focus ((first | exact Nat.le_refl _ | (simp; done) | (simp; omega) | omega | fail))) | fail)))).mono ?_
      rintro e w3 ⟨rfl, nd, rfl⟩
      go_wp2_with fail
      go_ret
      exact told_ret Z.out (by (repeat' (first | with_reducible assumption | with_reducible exact Below.refl _ _ | (with_reducible refine Below.alloc ?_ ?_ _; rotate_left; focus ((first | exact Nat.le_refl _ | (simp; done) | (simp; omega) | omega | fail))) | (with_reducible refine Below.setCell ?_ ?_ _; rotate_left; focus ((first | exact Nat.le_refl _ | (simp; done) | (simp; omega) | omega | fail))) | with_reducible refine Mem.bel_drewN ?_ _ | with_reducible refine Below.drew ?_ | (with_reducible refine Mem.bel_call (by with_reducible assumption) ?_ ?_; focus ((first | exact Nat.le_refl _ | (simp; done) | (simp; omega) | omega | fail))) | fail)))
    subst hks
    rw [show eqs ks ks = true by unfold eqs; simp] at EQ
    have Z : Hid (RR = R) := by
      show _ = _
      rw [HR.out, hR]
      by_cases hi : its = its'
      · subst hi; rw [V.same_yes rfl, vsames_yes rfl]
      · rw [V.same_no (fun e => hi (by injection e)), vsames_no hi]
    clear hRR ht hu r3 r4 f5 s3 s4 g5 IHs hR HR
    go_enter Tryd.func8, Tryd.ntmps8
    go_wp2_with fail
    with_reducible refine (BE.out _ (by (repeat' (first | with_reducible assumption | with_reducible exact Below.refl _ _ | (with_reducible refine Below.alloc ?_ ?_ _; rotate_left; focus ((first | exact Nat.le_refl _ | (simp; done) | (simp; omega) | omega | fail))) | (with_reducible refine Below.setCell ?_ ?_ _; rotate_left; focus ((first | exact Nat.le_refl _ | (simp; done) | (simp; omega) | omega | fail))) | with_reducible refine Mem.bel_drewN ?_ _ | with_reducible refine Below.drew ?_ | (with_reducible refine Mem.bel_call (by with_reducible assumption) ?_ ?_; focus ((first | exact Nat.le_refl _ | (simp; done) | (simp; omega) | omega | fail))) | fail)))).mono ?_
    rintro e w3 ⟨rfl, rfl⟩
    go_wp2_with fail
    with_reducible refine (EQ.out _ (by (repeat' (first | with_reducible assumption | with_reducible exact Below.refl _ _ | (with_reducible refine Below.alloc ?_ ?_ _; rotate_left; focus ((first | exact Nat.le_refl _ | (simp; done) | (simp; omega) | omega | fail))) | (with_reducible refine Below.setCell ?_ ?_ _; rotate_left; focus ((first | exact Nat.le_refl _ | (simp; done) | (simp; omega) | omega | fail))) | with_reducible refine Mem.bel_drewN ?_ _ | with_reducible refine Below.drew ?_ | (with_reducible refine Mem.bel_call (by with_reducible assumption) ?_ ?_; focus ((first | exact Nat.le_refl _ | (simp; done) | (simp; omega) | omega | fail))) | fail)))).mono ?_
    rintro e w3 ⟨rfl, nd, rfl⟩
    go_wp2_with fail
    with_reducible refine (EFD.out _ (by (repeat' (first | with_reducible assumption | with_reducible exact Below.refl _ _ | (with_reducible refine Below.alloc ?_ ?_ _; rotate_left; focus ((first | exact Nat.le_refl _ | (simp; done) | (simp; omega) | omega | fail))) | (with_reducible refine Below.setCell ?_ ?_ _; rotate_left; focus ((first | exact Nat.le_refl _ | (simp; done) | (simp; omega) | omega | fail))) | with_reducible refine Mem.bel_drewN ?_ _ | with_reducible refine Below.drew ?_ | (with_reducible refine Mem.bel_call (by with_reducible assumption) ?_ ?_; focus ((first | exact Nat.le_refl _ | (simp; done) | (simp; omega) | omega | fail))) | fail)))).mono ?_
    rintro e w4 ⟨rfl, b4⟩
    have bw : Below w.heap.size w w4 := by (repeat' (first | with_reducible assumption | with_reducible exact Below.refl _ _ | (with_reducible refine Below.alloc ?_ ?_ _; rotate_left; focus ((first | exact Nat.le_refl _ | (simp; done) | (simp; omega) | omega | fail))) | (with_reducible refine Below.setCell ?_ ?_ _; rotate_left; focus ((first | exact Nat.le_refl _ | (simp; done) | (simp; omega) | omega | fail))) | with_reducible refine Mem.bel_drewN ?_ _ | with_reducible refine Below.drew ?_ | (with_reducible refine Mem.bel_call (by with_reducible assumption) ?_ ?_; focus ((first | exact Nat.le_refl _ | (simp; done) | (simp; omega) | omega | fail))) | fail))
    go_wp2_with fail
    go_ret
    exact told_ret Z.out bw
theorem vSame_at : ∀ (N : Nat) (t : V), SizeOf.sizeOf t ≤ N → VSameC t
  | 0, t, h => by cases t; simp at h
  | N + 1, .mk k n bt bs its ks, hN => vSame_step k n bt bs its ks fun i h => vSame_at N (its[i]'h) (by have := V.lt_its (v := .mk k n bt bs its ks) (i := i) h; simp only [V.its] at this; omega)
theorem vSame_any (t : V) : VSameC t := vSame_at _ t (Nat.le_refl _)
end Go.Proofs.YtlpmcohbbffbfaaDoor
namespace Go.Proofs.YtlpmcohbbffbfaaDoor
open Go.ChangeShapes Go.WideShapes Go.ChangeAt Go.RowKit Mem
set_option maxRecDepth 100000 in
set_option maxHeartbeats 8000000 in
theorem vdeep_at : ∀ (N : Nat) (v : V), SizeOf.sizeOf v ≤ N → v.deep ≤ 1000000 → ∀ (w : World) (A3 A4 A5 : Option Addr) (c3 c4 c5 : Nat),
    Lies w (· < w.heap.size) v.enc [.int .i64 v.k, .int .i64 v.n, .int .u64 v.bt, .slice A3 v.bs.length c3, .slice A4 v.its.length c4, .slice A5 v.ks.length c5] →
    Calls Tryd.prog 10 #[.agg #[.int .i64 v.k, .int .i64 v.n, .int .u64 v.bt, .slice A3 v.bs.length c3, .slice A4 v.its.length c4, .slice A5 v.ks.length c5]] w (Num_ v.deep w)
  | 0, v, h => by cases v; simp at h
  | N + 1, .mk k n bt bs its ks, hN => by
    intro hD w A3 A4 A5 c3 c4 c5 ht
    have CS := cell_set
    obtain ⟨_, _, _, _, _, _, e, l3, r3, l4, r4, l5, f5⟩ := V.out.1 ht
    simp only [V.k, V.n, V.bt, V.bs, V.its, V.ks, List.cons.injEq, Value.slice.injEq, true_and, and_true] at e l3 r3 l4 r4 l5 f5
    obtain ⟨⟨rfl, rfl⟩, ⟨rfl, rfl⟩, rfl, rfl⟩ := e
    have din := V.deep_in (v := .mk k n bt bs its ks); have dout := V.deep_out (v := .mk k n bt bs its ks)
    simp only [V.k, V.n, V.bt, V.bs, V.its, V.ks] at din dout ⊢
    by_cases hk : deepK k
    · have d1 := din hk
      rw [d1] at hD ⊢
      have RT := Lib.hid r4
      obtain ⟨ni, hni⟩ : ∃ m, m = its.length := ⟨_, rfl⟩
      have HNI := Lib.hid hni
      have ni0 : ni ≤ 9223372036854775807 := by have := l4.2; unfold maxLen at this; omega
      have IH : Hid (∀ (i : Nat) (h1 : i < its.length) (W : World) (A3 A4 A5 : Option Addr) (c3 c4 c5 : Nat),
          Lies W (· < W.heap.size) (its[i]'h1).enc [.int .i64 (its[i]'h1).k, .int .i64 (its[i]'h1).n, .int .u64 (its[i]'h1).bt, .slice A3 (its[i]'h1).bs.length c3, .slice A4 (its[i]'h1).its.length c4, .slice A5 (its[i]'h1).ks.length c5] →
          Calls Tryd.prog 10 #[.agg #[.int .i64 (its[i]'h1).k, .int .i64 (its[i]'h1).n, .int .u64 (its[i]'h1).bt, .slice A3 (its[i]'h1).bs.length c3, .slice A4 (its[i]'h1).its.length c4, .slice A5 (its[i]'h1).ks.length c5]] W (Num_ (its[i]'h1).deep W)) := fun i h1 W A3 A4 A5 c3 c4 c5 a =>
        vdeep_at N (its[i]'h1) (by have := V.lt_its (v := .mk k n bt bs its ks) (i := i) h1; simp only [V.its] at this; omega) (by have := V.deeps_at h1; omega) W A3 A4 A5 c3 c4 c5 a
      obtain ⟨DI, hDI⟩ : ∃ d, d = V.deeps its := ⟨_, rfl⟩
      obtain ⟨F, hF⟩ : ∃ F : Nat → Nat, F = fun i => V.deeps (its.take i) := ⟨_, rfl⟩
      have F0 : Hid (F 0 = 0) := by show _ = _; rw [hF]; rfl
      have FS : Hid (∀ i (h : i < its.length), F (i + 1) = max (F i) (its[i]'h).deep) := fun i h => by rw [hF]; exact V.deeps_take h
      have FL : Hid (∀ i, F i ≤ DI) := fun i => by rw [hF, hDI]; exact V.deeps_le its i
      have FA : Hid (F ni = DI) := by show _ = _; rw [hF, hDI, hni]; show V.deeps (its.take its.length) = _; rw [List.take_length]
      rw [← hDI] at hD ⊢
      rw [← HNI.out]
      clear hF hDI hni ht r3 r4 f5 hN d1 din dout l3 l4 l5
      have G0 : Below w.heap.size w (w.alloc (.cells #[.int .i64 k, .int .i64 n, .int .u64 bt, .slice A3 bs.length c3, .slice A4 ni c4, .slice A5 ks.length c5] 27)) := (Below.refl _ _).alloc (Nat.le_refl _) _
      have gz0 : (w.alloc (.cells #[.int .i64 k, .int .i64 n, .int .u64 bt, .slice A3 bs.length c3, .slice A4 ni c4, .slice A5 ks.length c5] 27)).heap.size = w.heap.size + 1 := by simp
      have GZ0 := Lib.hid gz0
      have GG := Lib.hid G0
      have H0 := Lib.hid (B6.newat (w := w) (t := 27) (x0 := .int .i64 k) (x1 := .int .i64 n) (x2 := .int .u64 bt) (x3 := .slice A3 bs.length c3) (x4 := .slice A4 ni c4) (x5 := .slice A5 ks.length c5) rfl)
      clear gz0 G0
      generalize bs.length = nb at *
      generalize ks.length = nk at *
      rcases hk with rfl | rfl | rfl | rfl
      all_goals
        go_enter Tryd.func10, Tryd.ntmps10
        go_wp2_with fail
        go_loopw [3, 16] (fun m t wr => ∃ p : Nat, p ≤ ni ∧ t = .int .i64 (p : Int) ∧ m = .int .i64 (F p : Int) ∧ Below (w.heap.size + 1) (w.alloc (.cells #[.int .i64 _, .int .i64 n, .int .u64 bt, .slice A3 nb c3, .slice A4 ni c4, .slice A5 nk c5] 27)) wr) (fun _ t _ => ni - (intOf t).toNat)
        case atStart => exact ⟨0, by omega, rfl, by rw [F0.out]; rfl, Below.refl _ _⟩
        case round =>
          obtain ⟨p, hp, rfl, rfl, bl⟩ := hrel
          have gsz := bl.size
          rw [GZ0.out] at gsz
          have gsz2 : w.heap.size ≤ wr.heap.size := by omega
          have blw := GG.out.trans (bl.mono (by omega))
          obtain ⟨_, _, _, _, _, _, _, _, _, _, _, _⟩ := B6.facts (B6.below H0.out bl (Nat.lt_succ_self _))
          by_cases hpn : p < ni
          · have h1 : p < its.length := by rw [← HNI.out]; exact hpn
            obtain ⟨b1, o1, X3, x3, X4, x4, X5, x5, e1, hb1, ⟨y0, y1, y2, y3, y4, y5⟩, ty⟩ := values_at (RT.out.below blw) h1
            have I2 := Lib.hid (fun W a => IH.out p h1 W X3 X4 X5 x3 x4 x5 a)
            have fs := FS.out p h1
            have fl := FL.out (p + 1)
            generalize its[p]'h1 = T at *
            subst e1
            have TY := Lib.hid ty
            obtain ⟨dT, hdT⟩ : ∃ d, d = T.deep := ⟨_, rfl⟩
            rw [← hdT] at fs I2
            clear ty h1 hdT
            by_cases hm : F p < dT
            · have FS1 : Hid (F (p + 1) = dT) := by show _ = _; omega
              have qm : (dT : Int) > (F p : Int) := by omega
              clear fs fl hm
              go_wp2_with fail
              with_reducible refine (I2.out _ ((TY.out.more gsz2).on (by (repeat' (first | with_reducible assumption | with_reducible exact Below.refl _ _ | (with_reducible refine Below.alloc ?_ ?_ _; rotate_left; focus ((first | exact Nat.le_refl _ | (simp; done) | (simp; omega) | omega | fail))) | (with_reducible refine Below.setCell ?_ ?_ _; rotate_left; focus ((first | exact Nat.le_refl _ | (simp; done) | (simp; omega) | omega | fail))) | with_reducible refine Mem.bel_drewN ?_ _ | with_reducible refine Below.drew ?_ | (with_reducible refine Mem.bel_call (by with_reducible assumption) ?_ ?_; focus ((first | exact Nat.le_refl _ | (simp; done) | (simp; omega) | omega | fail))) | fail))))).mono ?_
              rintro e w3 ⟨rfl, b3'⟩
              have b3 : Below wr.heap.size wr w3 := by (repeat' (first | with_reducible assumption | with_reducible exact Below.refl _ _ | (with_reducible refine Below.alloc ?_ ?_ _; rotate_left; focus ((first | exact Nat.le_refl _ | (simp; done) | (simp; omega) | omega | fail))) | (with_reducible refine Below.setCell ?_ ?_ _; rotate_left; focus ((first | exact Nat.le_refl _ | (simp; done) | (simp; omega) | omega | fail))) | with_reducible refine Mem.bel_drewN ?_ _ | with_reducible refine Below.drew ?_ | (with_reducible refine Mem.bel_call (by with_reducible assumption) ?_ ?_; focus ((first | exact Nat.le_refl _ | (simp; done) | (simp; omega) | omega | fail))) | fail))
              obtain ⟨_, _, _, _, _, _, _, _, _, _, _, _⟩ := B6.facts (B6.below (B6.below H0.out bl (Nat.lt_succ_self _)) b3 (by omega))
              go_wp2_with fail
              go_roundw
              case rel => exact ⟨p + 1, by omega, by go_num, by rw [FS1.out], bl.trans (b3.mono gsz)⟩
              case measure => simp [intOf]; omega
            · have FS1 : Hid (F (p + 1) = F p) := by show _ = _; omega
              have qm : ¬ (dT : Int) > (F p : Int) := by omega
              clear fs fl hm
              go_wp2_with fail
              with_reducible refine (I2.out _ ((TY.out.more gsz2).on (by (repeat' (first | with_reducible assumption | with_reducible exact Below.refl _ _ | (with_reducible refine Below.alloc ?_ ?_ _; rotate_left; focus ((first | exact Nat.le_refl _ | (simp; done) | (simp; omega) | omega | fail))) | (with_reducible refine Below.setCell ?_ ?_ _; rotate_left; focus ((first | exact Nat.le_refl _ | (simp; done) | (simp; omega) | omega | fail))) | with_reducible refine Mem.bel_drewN ?_ _ | with_reducible refine Below.drew ?_ | (with_reducible refine Mem.bel_call (by with_reducible assumption) ?_ ?_; focus ((first | exact Nat.le_refl _ | (simp; done) | (simp; omega) | omega | fail))) | fail))))).mono ?_
              rintro e w3 ⟨rfl, b3'⟩
              have b3 : Below wr.heap.size wr w3 := by (repeat' (first | with_reducible assumption | with_reducible exact Below.refl _ _ | (with_reducible refine Below.alloc ?_ ?_ _; rotate_left; focus ((first | exact Nat.le_refl _ | (simp; done) | (simp; omega) | omega | fail))) | (with_reducible refine Below.setCell ?_ ?_ _; rotate_left; focus ((first | exact Nat.le_refl _ | (simp; done) | (simp; omega) | omega | fail))) | with_reducible refine Mem.bel_drewN ?_ _ | with_reducible refine Below.drew ?_ | (with_reducible refine Mem.bel_call (by with_reducible assumption) ?_ ?_; focus ((first | exact Nat.le_refl _ | (simp; done) | (simp; omega) | omega | fail))) | fail))
              obtain ⟨_, _, _, _, _, _, _, _, _, _, _, _⟩ := B6.facts (B6.below (B6.below H0.out bl (Nat.lt_succ_self _)) b3 (by omega))
              go_wp2_with fail
              go_roundw
              case rel => exact ⟨p + 1, by omega, by go_num, by rw [FS1.out], bl.trans (b3.mono gsz)⟩
              case measure => simp [intOf]; omega
          · obtain rfl : p = ni := by omega
            have Z := Lib.hid FA.out
            clear hpn
            go_wp2_with fail
            go_ret
            exact num_ret (by rw [Z.out]; push_cast; first | rfl | exact IntWalk.wrap64_in _ (by omega)) blw
    · have d0 := dout hk
      unfold deepK at hk
      have q9 : (k == 9) = false := by rw [beq_eq_false_iff_ne]; omega
      have q11 : (k == 11) = false := by rw [beq_eq_false_iff_ne]; omega
      have q12 : (k == 12) = false := by rw [beq_eq_false_iff_ne]; omega
      have q13 : (k == 13) = false := by rw [beq_eq_false_iff_ne]; omega
      have Z := Lib.hid d0
      clear ht r3 r4 f5 din dout hk d0 hD
      generalize V.deep (.mk k n bt bs its ks) = DD at *
      go_enter Tryd.func10, Tryd.ntmps10
      go_wp2_with fail
      go_ret
      exact num_ret (by rw [Z.out]; rfl) (by (repeat' (first | with_reducible assumption | with_reducible exact Below.refl _ _ | (with_reducible refine Below.alloc ?_ ?_ _; rotate_left; focus ((first | exact Nat.le_refl _ | (simp; done) | (simp; omega) | omega | fail))) | (with_reducible refine Below.setCell ?_ ?_ _; rotate_left; focus ((first | exact Nat.le_refl _ | (simp; done) | (simp; omega) | omega | fail))) | with_reducible refine Mem.bel_drewN ?_ _ | with_reducible refine Below.drew ?_ | (with_reducible refine Mem.bel_call (by with_reducible assumption) ?_ ?_; focus ((first | exact Nat.le_refl _ | (simp; done) | (simp; omega) | omega | fail))) | fail)))
end Go.Proofs.YtlpmcohbbffbfaaDoor
namespace Go.Proofs.YtlpmcohbbffbfaaDoor
open Go.RowKit Mem
mutual
/-- Each cell of a datum is one. -/
theorem lies_one {w : World} {S : Nat → Prop} : ∀ {d : D} {cs : List Value}, Lies w S d cs → ∀ u ∈ cs, u.oneCell' = true
  | .i _ _, _, h, u, hu => by rw [lies_i.1 h] at hu; rw [List.mem_singleton.1 hu]; rfl
  | .b _, _, h, u, hu => by rw [lies_b.1 h] at hu; rw [List.mem_singleton.1 hu]; rfl
  | .s _, _, h, u, hu => by rw [lies_s.1 h] at hu; rw [List.mem_singleton.1 hu]; rfl
  | .ag _, _, h, u, hu => liesA_one (lies_ag.1 h) u hu
  | .sl _ _, _, h, u, hu => by obtain ⟨A, c, e, _⟩ := lies_sl.1 h; rw [e] at hu; rw [List.mem_singleton.1 hu]; rfl
theorem liesA_one {w : World} {S : Nat → Prop} : ∀ {fs : List D} {cs : List Value}, LiesA w S fs cs → ∀ u ∈ cs, u.oneCell' = true
  | [], _, h, u, hu => by rw [liesA_nil.1 h] at hu; cases hu
  | d :: r, _, h, u, hu => by
    obtain ⟨c1, c2, e, h1, h2⟩ := liesA_cons.1 h
    rw [e] at hu
    rcases List.mem_append.1 hu with g | g
    · exact lies_one h1 u g
    · exact liesA_one h2 u g
end
section
variable {w w' : World} {S : Nat → Prop} {s : Nat}
theorem ElsS.one : ∀ {ds : List D} {xs : List Value}, ElsS w S s ds xs → ∀ u ∈ xs, u.oneCell' = true
  | [], _, h, u, hu => by have h : _ = _ := h; rw [h] at hu; cases hu
  | d :: r, _, ⟨c1, c2, e, _, h1, h2⟩, u, hu => by
    rw [e] at hu
    rcases List.mem_append.1 hu with g | g
    · exact lies_one h1 u g
    · exact ElsS.one h2 u g
theorem ElsS.len : ∀ {ds : List D} {xs : List Value}, ElsS w S s ds xs → xs.length = ds.length * s
  | [], _, h => by have h : _ = _ := h; rw [h]; simp
  | d :: r, _, ⟨c1, c2, e, hl, _, h2⟩ => by rw [e, List.length_append, hl, ElsS.len h2, List.length_cons, Nat.succ_mul, Nat.add_comm]
theorem RowD.els (hs : 0 < s) : ∀ {ds : List D} {A : Option Addr}, RowD w S s ds A → ∃ xs, ElsS w S s ds xs ∧ FlS w S A xs
  | [], _, _ => ⟨[], rfl, .inl rfl⟩
  | d :: r, A, h => by
    unfold RowD at h
    obtain ⟨g, off, cs, rfl, hg, hl, hc, h1, h2⟩ := h
    obtain ⟨xs, h3, h4⟩ := RowD.els hs h2
    refine ⟨cs ++ xs, ⟨cs, xs, rfl, hl, h1, h3⟩, .inr ⟨g, off, rfl, hg, fun k hk => ?_⟩⟩
    rcases Nat.lt_or_ge k s with q | q
    · rw [hc k q, List.getElem?_append_left (by omega)]
    · rw [List.length_append] at hk
      rw [List.getElem?_append_right (by omega)]
      rcases h4 with h4 | ⟨g', off', e, _, h4⟩
      · rw [h4] at hk; simp at hk; omega
      · simp only [Option.some.injEq, Addr.mk.injEq, and_true] at e
        obtain ⟨rfl, rfl⟩ := e
        rw [show off + k = off + s + (k - cs.length) by omega]
        exact h4 (k - cs.length) (by omega)
end
def InR (w : World) (l s g o : Nat) (ds rest : List D) : Prop :=
  ∃ (S : Nat → Prop) (xs ys : List Value), l ≤ g ∧ g < w.heap.size ∧ (∀ p : Addr, p.block = g → w.frozen? p = false) ∧ (∀ k, k < (xs ++ ys).length → w.cell? ⟨g, o + k, none⟩ = (xs ++ ys)[k]?) ∧ ElsS w S s ds xs ∧ ElsS w (· < l) s rest ys ∧ (∀ b, S b → l ≤ b ∧ b < w.heap.size ∧ b ≠ g) ∧ Unf w S
section
variable {w w' w1 w2 : World} {l s g o : Nat} {ds rest : List D}
theorem InR.block (h : InR w l s g o ds rest) : l ≤ g ∧ g < w.heap.size := by
  obtain ⟨_, _, _, h1, h2, _⟩ := h
  exact ⟨h1, h2⟩
theorem InR.fro (h : InR w l s g o ds rest) (k : Nat) : w.frozen? ⟨g, k, none⟩ = false := by
  obtain ⟨_, _, _, _, _, h3, _⟩ := h
  exact h3 _ rfl
theorem InR.below (h : InR w l s g o ds rest) (b : Below w.heap.size w w') : InR w' l s g o ds rest := by
  obtain ⟨S, xs, ys, h1, h2, h3, h4, h5, h6, h7, h8⟩ := h
  exact ⟨S, xs, ys, h1, Nat.lt_of_lt_of_le h2 b.size, fun p hp => (b.frozen (by rw [hp]; exact h2)).trans (h3 p hp), fun k hk => (b.cell (p := ⟨g, o + k, none⟩) h2).trans (h4 k hk),
    h5.keep (fun p hp => b.cell (h7 _ hp).2.1) fun _ h => h, h6.keep (fun p hp => b.cell (by omega)) fun _ h => h, fun k hk => ⟨(h7 k hk).1, Nat.lt_of_lt_of_le (h7 k hk).2.1 b.size, (h7 k hk).2.2⟩, h8.below (fun k hk => (h7 k hk).2.1) b⟩
theorem InR.start {e : TypeId} {xs : List Value} {n : Nat} {v : Value} (h : OwnR w l e s v n xs) (hn : 0 < n) (he : ElsS w (· < l) s rest xs) (hr : n = rest.length) : ∃ g o c, v = .slice (some ⟨g, o, none⟩) n c ∧ n ≤ c ∧ InR w l s g o [] rest := by
  obtain ⟨A, c, ev, hc, hf⟩ := h.fl
  rcases h.2 with ⟨_, h0⟩ | ⟨g, cap, cur, e1, hg, hh, _⟩
  · omega
  · have eA : A = some ⟨g, 0, none⟩ := by rw [ev] at e1; injection e1
    subst eA
    have hgs : g < w.heap.size := (Array.getElem?_eq_some_iff.1 hh).1
    refine ⟨g, 0, c, ev, hc, fun _ => False, [], xs, hg, hgs, fun p hp => ?_, fun k hk => ?_, rfl, he, fun _ h => h.elim, fun _ h => h.elim⟩
    · unfold World.frozen?; rw [hp, hh]; simp
    · rcases hf with hf | ⟨b, off, e2, _, hf⟩
      · rw [List.nil_append, hf] at hk; exact absurd hk (Nat.not_lt_zero _)
      · simp only [Option.some.injEq, Addr.mk.injEq, and_true] at e2
        obtain ⟨rfl, rfl⟩ := e2
        rw [List.nil_append]
        exact hf k (by simpa using hk)
theorem InR.head {d : D} (h : InR w l s g o ds (d :: rest)) : ∃ cs, cs.length = s ∧ (∀ i, i < s → w.cell? ⟨g, o + ds.length * s + i, none⟩ = cs[i]?) ∧ Lies w (· < l) d cs := by
  obtain ⟨S, xs, ys, h1, h2, h3, h4, h5, ⟨c1, c2, e, hl, hd, _⟩, h7, h8⟩ := h
  refine ⟨c1, hl, fun i hi => ?_, hd⟩
  have := h5.len
  have hk := h4 (ds.length * s + i) (by rw [e]; simp only [List.length_append]; omega)
  rw [Nat.add_assoc, hk, List.getElem?_append_right (by omega), e, List.getElem?_append_left (by omega), show ds.length * s + i - xs.length = i by omega]
theorem InR.put {d d0 : D} {cs : List Value} (h : InR w l s g o ds (d0 :: rest)) (b : Below w.heap.size w w1) (hd : NewD w1 w.heap.size d cs) (hcs : cs.length = s)
    (hc : ∀ p : Addr, p.block ≠ g → w2.cell? p = w1.cell? p) (hf : ∀ p, w2.frozen? p = w1.frozen? p) (hz : w2.heap.size = w1.heap.size)
    (hn : ∀ i, i < s → w2.cell? ⟨g, o + ds.length * s + i, none⟩ = cs[i]?) (ho : ∀ k, k < ds.length * s ∨ ds.length * s + s ≤ k → w2.cell? ⟨g, o + k, none⟩ = w1.cell? ⟨g, o + k, none⟩) : InR w2 l s g o (ds ++ [d]) rest := by
  have hl0 := (h.below b)
  obtain ⟨T, q1, q2, q3⟩ := hd
  obtain ⟨S', xs', ys', _, hgw, _⟩ := id h
  obtain ⟨S, xs, ys, h1, h2, h3, h4, h5, ⟨c1, c2, e, hl, _, h6⟩, h7, h8⟩ := hl0
  have hlen := h5.len
  -- S may be taken as one below w's size: by the first's own
  refine ⟨fun k => S k ∧ k < w1.heap.size ∨ T k, xs ++ cs, c2, h1, by rw [hz]; exact h2, fun p hp => (hf p).trans (h3 p hp), fun k hk => ?_, ?_, ?_, fun k hk => ?_, fun p hp => ?_⟩
  · rw [List.append_assoc]
    simp only [List.length_append] at hk
    rcases Nat.lt_or_ge k (ds.length * s) with q | q
    · rw [ho k (.inl q), h4 k (by rw [e]; simp only [List.length_append]; omega), List.getElem?_append_left (by omega), List.getElem?_append_left (by omega)]
    · rcases Nat.lt_or_ge k (ds.length * s + s) with p | p
      · have := hn (k - ds.length * s) (by omega)
        rw [show o + ds.length * s + (k - ds.length * s) = o + k by omega] at this
        rw [this, List.getElem?_append_right (by omega), List.getElem?_append_left (by omega), hlen]
      · rw [ho k (.inr p), h4 k (by rw [e]; simp only [List.length_append]; omega), e, List.getElem?_append_right (by omega), List.getElem?_append_right (by omega), List.getElem?_append_right (by omega), List.getElem?_append_right (by omega), hl, hcs]
  · refine ElsS.snoc hcs (q2.keep (fun p hp => hc p (fun e => ?_)) fun _ h => .inr h) (h5.keep (fun p hp => hc p (h7 _ hp).2.2) fun k h => .inl ⟨h, (h7 k h).2.1⟩)
    have := q1 _ hp; rw [e] at this; omega
  · exact h6.keep (fun p hp => hc p (by omega)) fun _ h => h
  · rcases hk with ⟨hk, _⟩ | hk
    · exact ⟨(h7 k hk).1, by rw [hz]; exact (h7 k hk).2.1, (h7 k hk).2.2⟩
    · have := q1 k hk
      exact ⟨by omega, by rw [hz]; exact this.2, by omega⟩
  · rcases hp with ⟨hp, _⟩ | hp
    · exact (hf p).trans (h8 p hp)
    · exact (hf p).trans (q3 p hp)
theorem InR.put1 {d d0 : D} {v0 : Value} {j : Nat} (h : InR w l 1 g o ds (d0 :: rest)) (hj : ds.length = j) (b : Below w.heap.size w w1) (hd : NewD w1 w.heap.size d [v0]) : InR (w1.setCell ⟨g, o + j, none⟩ v0) l 1 g o (ds ++ [d]) rest := by
  have hz : (w1.setCell ⟨g, o + j, none⟩ v0).heap.size = w1.heap.size := by simp [World.setCell]
  subst hj
  obtain ⟨cs, hl, hc, _⟩ := (h.below b).head
  refine h.put b hd rfl (fun p hp => World.cell?_setCell_other _ _ _ _ (fun e => hp (by rw [← e]))) (fun p => World.frozen?_setCell _ _ _ _) hz (fun i hi => ?_) fun k hk => ?_
  · obtain rfl : i = 0 := by omega
    rw [cell_set, if_pos ⟨rfl, by omega⟩]
    have := hc 0 (by omega)
    rw [Nat.mul_one, Nat.add_zero] at this
    rw [this, List.getElem?_eq_getElem (by omega)]; rfl
  · rw [cell_set, if_neg (by rintro ⟨_, e⟩; omega)]
theorem InR.put6 {d d0 : D} {v0 v1 v2 v3 v4 v5 : Value} {j : Nat} (h : InR w l 6 g o ds (d0 :: rest)) (hj : ds.length = j) (b : Below w.heap.size w w1) (hd : NewD w1 w.heap.size d [v0, v1, v2, v3, v4, v5]) :
    InR ((((((w1.setCell ⟨g, o + j * 6, none⟩ v0).setCell ⟨g, o + j * 6 + 1, none⟩ v1).setCell ⟨g, o + j * 6 + 2, none⟩ v2).setCell ⟨g, o + j * 6 + 3, none⟩ v3).setCell ⟨g, o + j * 6 + 4, none⟩ v4).setCell ⟨g, o + j * 6 + 5, none⟩ v5) l 6 g o (ds ++ [d]) rest := by
  subst hj
  obtain ⟨cs, hl, hc, _⟩ := (h.below b).head
  have ex : ∀ i, i < 6 → ∃ x, w1.cell? ⟨g, o + ds.length * 6 + i, none⟩ = some x := fun i hi => ⟨_, (hc i hi).trans (List.getElem?_eq_getElem (by omega))⟩
  generalize hm : o + ds.length * 6 = m at *
  obtain ⟨x0, e0⟩ := ex 0 (by omega)
  obtain ⟨x1, e1⟩ := ex 1 (by omega)
  obtain ⟨x2, e2⟩ := ex 2 (by omega)
  obtain ⟨x3, e3⟩ := ex 3 (by omega)
  obtain ⟨x4, e4⟩ := ex 4 (by omega)
  obtain ⟨x5, e5⟩ := ex 5 (by omega)
  rw [Nat.add_zero] at e0
  refine h.put b hd rfl (fun p hp => ?_) (fun p => ?_) (by simp [World.setCell]) (fun i hi => ?_) fun k hk => ?_
  · rw [World.cell?_setCell_other _ _ _ _ (fun e => hp (by rw [← e])), World.cell?_setCell_other _ _ _ _ (fun e => hp (by rw [← e])), World.cell?_setCell_other _ _ _ _ (fun e => hp (by rw [← e])), World.cell?_setCell_other _ _ _ _ (fun e => hp (by rw [← e])), World.cell?_setCell_other _ _ _ _ (fun e => hp (by rw [← e])), World.cell?_setCell_other _ _ _ _ (fun e => hp (by rw [← e]))]
  · simp only [World.frozen?_setCell]
  · rw [hm]
    obtain rfl | rfl | rfl | rfl | rfl | rfl : i = 0 ∨ i = 1 ∨ i = 2 ∨ i = 3 ∨ i = 4 ∨ i = 5 := by omega
    all_goals
      simp only [cell_set, Nat.add_zero, true_and, Nat.add_left_cancel_iff, e0, e1, e2, e3, e4, e5]
      simp
  · simp only [cell_set, true_and]
    rw [if_neg (by omega), if_neg (by omega), if_neg (by omega), if_neg (by omega), if_neg (by omega), if_neg (by omega)]
theorem InR.done (h : InR w l s g o ds []) : NewR w l s ds (some ⟨g, o, none⟩) := by
  obtain ⟨S, xs, ys, h1, h2, h3, h4, h5, h6, h7, h8⟩ := h
  have h6 : ys = [] := h6
  subst h6
  rw [List.append_nil] at h4
  refine ⟨fun b => S b ∨ b = g, fun b hb => ?_, ElsS.row (.inr rfl) (h5.keep (fun _ _ => rfl) fun _ h => .inl h) h4, fun p hp => ?_⟩
  · rcases hb with hb | rfl
    · exact ⟨(h7 b hb).1, (h7 b hb).2.1⟩
    · exact ⟨h1, h2⟩
  · rcases hp with hp | hp
    · exact h8 p hp
    · exact h3 p hp
end
end Go.Proofs.YtlpmcohbbffbfaaDoor
