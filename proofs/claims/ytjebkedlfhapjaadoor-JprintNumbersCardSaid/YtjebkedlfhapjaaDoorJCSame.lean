/- Layer 7, the code's own calls: Same. -/
import Derived.Test.YtjebkedlfhapjaaDoorJCSt
namespace Go.Proofs.YtjebkedlfhapjaaDoor
open Go.ChangeShapes Go.WideShapes Go.ChangeAt Go.RowKit Mem

/-- Are two lists of trees alike? -/
noncomputable def sames (a b : List J) : Bool := @decide (a = b) (Classical.propDecidable _)
theorem sames_yes {a b : List J} (h : a = b) : sames a b = true := by unfold sames; simpa using h
theorem sames_no {a b : List J} (h : a ≠ b) : sames a b = false := by unfold sames; simpa using h
theorem sames_iff {a b : List J} : sames a b = true ↔ a = b := by unfold sames; simp

/-- What is wanted of Same, of a tree. -/
def SameC (t : J) : Prop := ∀ (u : J) (w : World) (A3 A4 D3 D4 : Option Addr) (c3 c4 d3 d4 : Nat),
    TreeC w w.heap.size t [.int .i64 t.k, .int .i64 t.n, .string t.t, .slice A3 t.its.length c3, .slice A4 t.ks.length c4] →
    TreeC w w.heap.size u [.int .i64 u.k, .int .i64 u.n, .string u.t, .slice D3 u.its.length d3, .slice D4 u.ks.length d4] →
    Calls Tryd.prog 17 #[.agg #[.int .i64 t.k, .int .i64 t.n, .string t.t, .slice A3 t.its.length c3, .slice A4 t.ks.length c4], .agg #[.int .i64 u.k, .int .i64 u.n, .string u.t, .slice D3 u.its.length d3, .slice D4 u.ks.length d4]] w (Told (J.same t u) w)

set_option maxRecDepth 100000 in
set_option maxHeartbeats 4000000 in
theorem equalFunc_any (its its' : List J) (IHs : ∀ i (h : i < its.length), SameC (its[i]'h)) (w : World) (A3 D3 : Option Addr) (c3 d3 : Nat) (rt : RowT w w.heap.size its A3) (ru : RowT w w.heap.size its' D3) (hl : its.length ≤ maxLen) (_hl' : its'.length ≤ maxLen) :
    Calls Tryd.prog 32 #[.slice A3 its.length c3, .slice D3 its'.length d3, .func (.func 17) #[] #[]] w (Told (sames its its') w) := by
  have CS := cell_set
  obtain ⟨R, hR⟩ : ∃ R, R = sames its its' := ⟨_, rfl⟩
  have HR := Lib.hid hR
  rw [← hR]
  by_cases hlen : its.length = its'.length
  · have RT := Lib.hid rt; have RU := Lib.hid ru
    obtain ⟨ni, hni⟩ : ∃ m, m = its.length := ⟨_, rfl⟩
    have HNI := Lib.hid hni
    have HLI : Hid (its'.length = ni) := hlen.symm.trans hni.symm
    have ni0 : ni ≤ 9223372036854775807 := by unfold maxLen at hl; omega
    have IH := Lib.hid IHs
    rw [HLI.out, ← HNI.out]
    clear hni hlen rt ru hl hR IHs
    go_enter Tryd.func32, Tryd.ntmps32
    go_wp2_with fail
    go_loopw [17] (fun t wr => ∃ p : Nat, p ≤ ni ∧ t = .int .i64 (p : Int) ∧ Hid (∀ j (h1 : j < its.length) (h2 : j < its'.length), j < p → its[j]'h1 = its'[j]'h2) ∧ Below w.heap.size w wr) (fun t _ => ni - (intOf t).toNat)
    case atStart => exact ⟨0, by omega, rfl, fun _ _ _ h => absurd h (Nat.not_lt_zero _), Below.refl _ _⟩
    case round =>
      obtain ⟨p, hp, rfl, HE, bl⟩ := hrel
      have gsz := bl.size
      by_cases hpn : p < ni
      · have h1 : p < its.length := by rw [← HNI.out]; exact hpn
        have h2 : p < its'.length := by rw [HLI.out]; exact hpn
        obtain ⟨b1, o1, X3, x3, X4, x4, e1, hb1, y0, y1, y2, y3, y4, ty⟩ := (RT.out.below bl).cells h1
        obtain ⟨b2, o2, Z3, z3, Z4, z4, e2, hb2, v0, v1, v2, v3, v4, tv⟩ := (RU.out.below bl).cells h2
        have lb1 : b1 < wr.heap.size := by omega
        have lb2 : b2 < wr.heap.size := by omega
        have nb2 : b2 ≠ wr.heap.size := by omega
        have IHp := Lib.hid (IH.out p h1)
        have he := HE.out
        by_cases hx : its[p]'h1 = its'[p]'h2
        · have HE2 : Hid (∀ j (h1 : j < its.length) (h2 : j < its'.length), j < p + 1 → its[j]'h1 = its'[j]'h2) := fun j g1 g2 hj => by
            rcases Nat.lt_or_ge j p with g | g
            · exact he j g1 g2 g
            · obtain rfl : j = p := by omega
              exact hx
          rw [← hx] at v0 v1 v2 v3 v4 tv
          have I2 := Lib.hid (fun W a b => IHp.out (its[p]'h1) W X3 X4 Z3 Z4 x3 x4 z3 z4 a b)
          rw [J.same_refl] at I2
          generalize its[p]'h1 = T at *
          subst e1 e2
          have TY := Lib.hid (ty.more gsz); have TV := Lib.hid (tv.more gsz)
          clear he hx h1 h2 ty tv IHp
          go_wp2_with fail
          with_reducible refine (I2.out _ (((TY.out.alloc (Nat.le_refl _) _).alloc (by simp) _).more (by simp; omega)) (((TV.out.alloc (Nat.le_refl _) _).alloc (by simp) _).more (by simp; omega))).mono ?_
          rintro e w3 ⟨rfl, b3⟩
          have bl3 : Below w.heap.size w w3 := by (repeat' (first | with_reducible assumption | with_reducible exact Below.refl _ _ | (with_reducible refine Below.alloc ?_ ?_ _; rotate_left; focus ((first | exact Nat.le_refl _ | (simp; done) | (simp; omega) | omega | fail))) | (with_reducible refine Below.setCell ?_ ?_ _; rotate_left; focus ((first | exact Nat.le_refl _ | (simp; done) | (simp; omega) | omega | fail))) | with_reducible refine Mem.bel_drewN ?_ _ | with_reducible refine Below.drew ?_ | (with_reducible refine Mem.bel_call (by with_reducible assumption) ?_ ?_; focus ((first | exact Nat.le_refl _ | (simp; done) | (simp; omega) | omega | fail))) | fail))
          go_wp2_with fail
          go_roundw
          case rel => exact ⟨p + 1, by omega, by go_num, HE2, bl3⟩
          case measure => simp [intOf]; omega
        · have I2 := Lib.hid (fun W a b => IHp.out (its'[p]'h2) W X3 X4 Z3 Z4 x3 x4 z3 z4 a b)
          rw [J.same_no hx] at I2
          have Z : Hid (R = false) := HR.out.trans (sames_no fun e => hx (by subst e; rfl))
          generalize its[p]'h1 = T at *
          generalize its'[p]'h2 = U at *
          subst e1 e2
          have TY := Lib.hid (ty.more gsz); have TV := Lib.hid (tv.more gsz)
          clear he hx h1 h2 ty tv IHp
          go_wp2_with fail
          with_reducible refine (I2.out _ (((TY.out.alloc (Nat.le_refl _) _).alloc (by simp) _).more (by simp; omega)) (((TV.out.alloc (Nat.le_refl _) _).alloc (by simp) _).more (by simp; omega))).mono ?_
          rintro e w3 ⟨rfl, b3⟩
          have bl3 : Below w.heap.size w w3 := by (repeat' (first | with_reducible assumption | with_reducible exact Below.refl _ _ | (with_reducible refine Below.alloc ?_ ?_ _; rotate_left; focus ((first | exact Nat.le_refl _ | (simp; done) | (simp; omega) | omega | fail))) | (with_reducible refine Below.setCell ?_ ?_ _; rotate_left; focus ((first | exact Nat.le_refl _ | (simp; done) | (simp; omega) | omega | fail))) | with_reducible refine Mem.bel_drewN ?_ _ | with_reducible refine Below.drew ?_ | (with_reducible refine Mem.bel_call (by with_reducible assumption) ?_ ?_; focus ((first | exact Nat.le_refl _ | (simp; done) | (simp; omega) | omega | fail))) | fail))
          go_wp2_with fail
          go_ret
          exact told_ret Z.out (by (repeat' (first | with_reducible assumption | with_reducible exact Below.refl _ _ | (with_reducible refine Below.alloc ?_ ?_ _; rotate_left; focus ((first | exact Nat.le_refl _ | (simp; done) | (simp; omega) | omega | fail))) | (with_reducible refine Below.setCell ?_ ?_ _; rotate_left; focus ((first | exact Nat.le_refl _ | (simp; done) | (simp; omega) | omega | fail))) | with_reducible refine Mem.bel_drewN ?_ _ | with_reducible refine Below.drew ?_ | (with_reducible refine Mem.bel_call (by with_reducible assumption) ?_ ?_; focus ((first | exact Nat.le_refl _ | (simp; done) | (simp; omega) | omega | fail))) | fail)))
      · obtain rfl : p = ni := by omega
        have Z : Hid (R = true) := HR.out.trans (sames_yes (List.ext_getElem (by rw [← HNI.out, HLI.out]) fun j g1 g2 => HE.out j g1 g2 (by rw [HNI.out]; exact g1)))
        clear HE hpn
        go_wp2_with fail
        go_ret
        exact told_ret Z.out (by (repeat' (first | with_reducible assumption | with_reducible exact Below.refl _ _ | (with_reducible refine Below.alloc ?_ ?_ _; rotate_left; focus ((first | exact Nat.le_refl _ | (simp; done) | (simp; omega) | omega | fail))) | (with_reducible refine Below.setCell ?_ ?_ _; rotate_left; focus ((first | exact Nat.le_refl _ | (simp; done) | (simp; omega) | omega | fail))) | with_reducible refine Mem.bel_drewN ?_ _ | with_reducible refine Below.drew ?_ | (with_reducible refine Mem.bel_call (by with_reducible assumption) ?_ ?_; focus ((first | exact Nat.le_refl _ | (simp; done) | (simp; omega) | omega | fail))) | fail)))
  · have Z : Hid (R = false) := hR.trans (sames_no fun e => hlen (by rw [e]))
    have q : ((its.length : Int) != (its'.length : Int)) = true := by rw [bne_iff_ne]; omega
    clear hlen rt ru hR IHs
    go_enter Tryd.func32, Tryd.ntmps32
    go_wp2_with fail
    go_ret
    exact told_ret Z.out (by (repeat' (first | with_reducible assumption | with_reducible exact Below.refl _ _ | (with_reducible refine Below.alloc ?_ ?_ _; rotate_left; focus ((first | exact Nat.le_refl _ | (simp; done) | (simp; omega) | omega | fail))) | (with_reducible refine Below.setCell ?_ ?_ _; rotate_left; focus ((first | exact Nat.le_refl _ | (simp; done) | (simp; omega) | omega | fail))) | with_reducible refine Mem.bel_drewN ?_ _ | with_reducible refine Below.drew ?_ | (with_reducible refine Mem.bel_call (by with_reducible assumption) ?_ ?_; focus ((first | exact Nat.le_refl _ | (simp; done) | (simp; omega) | omega | fail))) | fail)))

set_option maxRecDepth 100000 in
set_option maxHeartbeats 4000000 in
theorem same_step (k n : Int) (s : ByteArray) (its : List J) (ks : List ByteArray) (IHs : ∀ i (h : i < its.length), SameC (its[i]'h)) : SameC (.mk k n s its ks) := by
  intro u w A3 A4 D3 D4 c3 c4 d3 d4 ht hu
  cases u with
  | mk k' n' s' its' ks' =>
    have CS := cell_set
    simp only [J.k, J.n, J.t, J.its, J.ks] at ht hu ⊢
    obtain ⟨_, _, _, _, e, hc3, hc4, rt, ft⟩ := ht.out
    simp only [J.k, J.n, J.t, J.its, J.ks, List.cons.injEq, Value.slice.injEq, true_and, and_true] at e hc3 hc4 rt ft
    obtain ⟨⟨rfl, rfl⟩, rfl, rfl⟩ := e
    obtain ⟨_, _, _, _, e, hd3, hd4, ru, fu⟩ := hu.out
    simp only [J.k, J.n, J.t, J.its, J.ks, List.cons.injEq, Value.slice.injEq, true_and, and_true] at e hd3 hd4 ru fu
    obtain ⟨⟨rfl, rfl⟩, rfl, rfl⟩ := e
    have W2 : Below w.heap.size w ((w.alloc (.cells #[.int .i64 k, .int .i64 n, .string s, .slice A3 its.length c3, .slice A4 ks.length c4] 25)).alloc (.cells #[.int .i64 k', .int .i64 n', .string s', .slice D3 its'.length d3, .slice D4 ks'.length d4] 25)) := by (repeat' (first | with_reducible assumption | with_reducible exact Below.refl _ _ | (with_reducible refine Below.alloc ?_ ?_ _; rotate_left; focus ((first | exact Nat.le_refl _ | (simp; done) | (simp; omega) | omega | fail))) | (with_reducible refine Below.setCell ?_ ?_ _; rotate_left; focus ((first | exact Nat.le_refl _ | (simp; done) | (simp; omega) | omega | fail))) | with_reducible refine Mem.bel_drewN ?_ _ | with_reducible refine Below.drew ?_ | (with_reducible refine Mem.bel_call (by with_reducible assumption) ?_ ?_; focus ((first | exact Nat.le_refl _ | (simp; done) | (simp; omega) | omega | fail))) | fail))
    have NO : ∀ {x : Bool}, k = k' ∧ n = n' ∧ s = s' ∧ ks = ks' → sames its its' = x → J.same (.mk k n s its ks) (.mk k' n' s' its' ks') = x := fun {x} h hx => by
      obtain ⟨rfl, rfl, rfl, rfl⟩ := h
      cases x with
      | true => exact J.same_yes (by rw [sames_iff.1 hx])
      | false => exact J.same_no (fun e => by injection e with _ _ _ e _; rw [sames_yes e] at hx; cases hx)
    have NK : ¬ (k = k' ∧ n = n' ∧ s = s' ∧ ks = ks') → J.same (.mk k n s its ks) (.mk k' n' s' its' ks') = false := fun h => J.same_no fun e => h (by injection e with e1 e2 e3 _ e5; exact ⟨e1, e2, e3, e5⟩)
    by_cases hk : k = k'
    · by_cases hn : n = n'
      · have sb := str_beq s s'
        by_cases hs : s = s'
        · have EQ := equal_any (· < w.heap.size) A4 D4 c4 d4 ks ks' _ (FlS.keep (Below.keeps W2) (fun _ h => h) ft) (FlS.keep (Below.keeps W2) (fun _ h => h) fu) hc4.2 hd4.2
          obtain ⟨RR, hRR⟩ : ∃ RR, RR = J.same (.mk k n s its ks) (.mk k' n' s' its' ks') := ⟨_, rfl⟩
          rw [← hRR] at NO NK ⊢
          by_cases hks : ks = ks'
          · obtain ⟨R, hR⟩ : ∃ R, R = sames its its' := ⟨_, rfl⟩
            have EFD : Hid (∀ W, Below w.heap.size w W → Calls Tryd.prog 32 #[.slice A3 its.length c3, .slice D3 its'.length d3, .func (.func 17) #[] #[]] W (Told R W)) := fun W b => by
              rw [hR]
              exact equalFunc_any its its' IHs W A3 D3 c3 d3 ((rt.below b).more b.size) ((ru.below b).more b.size) hc3.2 hd3.2
            have Z := Lib.hid (NO ⟨hk, hn, hs, hks⟩ hR.symm)
            rw [show eqs ks ks' = true by unfold eqs; simpa using hks] at EQ
            subst hk hn hs
            have sb1 : (s.toList == s.toList) = true := by simp
            have EQH := Lib.hid EQ
            clear EQ hR NO NK ht hu rt ru ft fu hks sb IHs hRR
            go_enter Tryd.func17, Tryd.ntmps17
            go_wp2_with fail
            with_reducible refine EQH.out.mono ?_
            rintro e w3 ⟨rfl, nd, rfl⟩
            go_wp2_with fail
            with_reducible refine (EFD.out _ (by (repeat' (first | with_reducible assumption | with_reducible exact Below.refl _ _ | (with_reducible refine Below.alloc ?_ ?_ _; rotate_left; focus ((first | exact Nat.le_refl _ | (simp; done) | (simp; omega) | omega | fail))) | (with_reducible refine Below.setCell ?_ ?_ _; rotate_left; focus ((first | exact Nat.le_refl _ | (simp; done) | (simp; omega) | omega | fail))) | with_reducible refine Mem.bel_drewN ?_ _ | with_reducible refine Below.drew ?_ | (with_reducible refine Mem.bel_call (by with_reducible assumption) ?_ ?_; focus ((first | exact Nat.le_refl _ | (simp; done) | (simp; omega) | omega | fail))) | fail)))).mono ?_
            rintro e w4 ⟨rfl, b4⟩
            have bw : Below w.heap.size w w4 := by (repeat' (first | with_reducible assumption | with_reducible exact Below.refl _ _ | (with_reducible refine Below.alloc ?_ ?_ _; rotate_left; focus ((first | exact Nat.le_refl _ | (simp; done) | (simp; omega) | omega | fail))) | (with_reducible refine Below.setCell ?_ ?_ _; rotate_left; focus ((first | exact Nat.le_refl _ | (simp; done) | (simp; omega) | omega | fail))) | with_reducible refine Mem.bel_drewN ?_ _ | with_reducible refine Below.drew ?_ | (with_reducible refine Mem.bel_call (by with_reducible assumption) ?_ ?_; focus ((first | exact Nat.le_refl _ | (simp; done) | (simp; omega) | omega | fail))) | fail))
            go_wp2_with fail
            go_ret
            exact told_ret Z.out bw
          · have Z := Lib.hid (NK fun h => hks h.2.2.2)
            rw [show eqs ks ks' = false by unfold eqs; simpa using hks] at EQ
            subst hk hn hs
            have sb1 : (s.toList == s.toList) = true := by simp
            have EQH := Lib.hid EQ
            clear EQ NO NK ht hu rt ru ft fu hks sb IHs hRR
            go_enter Tryd.func17, Tryd.ntmps17
            go_wp2_with fail
            with_reducible refine EQH.out.mono ?_
            rintro e w3 ⟨rfl, nd, rfl⟩
            go_wp2_with fail
            go_ret
            exact told_ret Z.out (by (repeat' (first | with_reducible assumption | with_reducible exact Below.refl _ _ | (with_reducible refine Below.alloc ?_ ?_ _; rotate_left; focus ((first | exact Nat.le_refl _ | (simp; done) | (simp; omega) | omega | fail))) | (with_reducible refine Below.setCell ?_ ?_ _; rotate_left; focus ((first | exact Nat.le_refl _ | (simp; done) | (simp; omega) | omega | fail))) | with_reducible refine Mem.bel_drewN ?_ _ | with_reducible refine Below.drew ?_ | (with_reducible refine Mem.bel_call (by with_reducible assumption) ?_ ?_; focus ((first | exact Nat.le_refl _ | (simp; done) | (simp; omega) | omega | fail))) | fail)))
        · have Z := Lib.hid (NK fun h => hs h.2.2.1)
          have sb1 : (s.toList == s'.toList) = false := by rw [sb]; simpa using hs
          generalize J.same (.mk k n s its ks) (.mk k' n' s' its' ks') = RR at *
          subst hk hn
          clear NO NK ht hu rt ru ft fu hs sb IHs
          go_enter Tryd.func17, Tryd.ntmps17
          go_wp2_with fail
          go_ret
          exact told_ret Z.out (by (repeat' (first | with_reducible assumption | with_reducible exact Below.refl _ _ | (with_reducible refine Below.alloc ?_ ?_ _; rotate_left; focus ((first | exact Nat.le_refl _ | (simp; done) | (simp; omega) | omega | fail))) | (with_reducible refine Below.setCell ?_ ?_ _; rotate_left; focus ((first | exact Nat.le_refl _ | (simp; done) | (simp; omega) | omega | fail))) | with_reducible refine Mem.bel_drewN ?_ _ | with_reducible refine Below.drew ?_ | (with_reducible refine Mem.bel_call (by with_reducible assumption) ?_ ?_; focus ((first | exact Nat.le_refl _ | (simp; done) | (simp; omega) | omega | fail))) | fail)))
      · have Z := Lib.hid (NK fun h => hn h.2.1)
        have qn : (n == n') = false := by simpa using hn
        generalize J.same (.mk k n s its ks) (.mk k' n' s' its' ks') = RR at *
        subst hk
        clear NO NK ht hu rt ru ft fu hn IHs
        go_enter Tryd.func17, Tryd.ntmps17
        go_wp2_with fail
        go_ret
        exact told_ret Z.out (by (repeat' (first | with_reducible assumption | with_reducible exact Below.refl _ _ | (with_reducible refine Below.alloc ?_ ?_ _; rotate_left; focus ((first | exact Nat.le_refl _ | (simp; done) | (simp; omega) | omega | fail))) | (with_reducible refine Below.setCell ?_ ?_ _; rotate_left; focus ((first | exact Nat.le_refl _ | (simp; done) | (simp; omega) | omega | fail))) | with_reducible refine Mem.bel_drewN ?_ _ | with_reducible refine Below.drew ?_ | (with_reducible refine Mem.bel_call (by with_reducible assumption) ?_ ?_; focus ((first | exact Nat.le_refl _ | (simp; done) | (simp; omega) | omega | fail))) | fail)))
    · have Z := Lib.hid (NK fun h => hk h.1)
      have qk : (k == k') = false := by simpa using hk
      generalize J.same (.mk k n s its ks) (.mk k' n' s' its' ks') = RR at *
      clear NO NK ht hu rt ru ft fu hk IHs
      go_enter Tryd.func17, Tryd.ntmps17
      go_wp2_with fail
      go_ret
      exact told_ret Z.out (by (repeat' (first | with_reducible assumption | with_reducible exact Below.refl _ _ | (with_reducible refine Below.alloc ?_ ?_ _; rotate_left; focus ((first | exact Nat.le_refl _ | (simp; done) | (simp; omega) | omega | fail))) | (with_reducible refine Below.setCell ?_ ?_ _; rotate_left; focus ((first | exact Nat.le_refl _ | (simp; done) | (simp; omega) | omega | fail))) | with_reducible refine Mem.bel_drewN ?_ _ | with_reducible refine Below.drew ?_ | (with_reducible refine Mem.bel_call (by with_reducible assumption) ?_ ?_; focus ((first | exact Nat.le_refl _ | (simp; done) | (simp; omega) | omega | fail))) | fail)))
theorem same_at : ∀ (N : Nat) (t : J), SizeOf.sizeOf t ≤ N → SameC t
  | 0, t, h => by cases t; simp at h
  | N + 1, .mk k n s its ks, hN => same_step k n s its ks fun i h => same_at N (its[i]'h) (by have := J.lt_its (j := .mk k n s its ks) (i := i) h; simp only [J.its] at this; omega)
theorem same_any (t : J) : SameC t := same_at _ t (Nat.le_refl _)
end Go.Proofs.YtjebkedlfhapjaaDoor
