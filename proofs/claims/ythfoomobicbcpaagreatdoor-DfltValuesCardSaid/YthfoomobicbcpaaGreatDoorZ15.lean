/- Joined by tools/bundle.py: SCC. -/
import Derived.Test.YthfoomobicbcpaaGreatDoorZ5
import Derived.Test.YthfoomobicbcpaaGreatDoorZ7
import Derived.Test.YthfoomobicbcpaaGreatDoorZ8
import Derived.Test.YthfoomobicbcpaaGreatDoorZ0
set_option maxRecDepth 100000
set_option maxHeartbeats 16000000
namespace Go.Proofs.YthfoomobicbcpaaGreatDoor
open Go.ChangeShapes Go.WideShapes Go.ChangeAt Go.RowKit Mem
noncomputable def eqJs (a b : List J) : Bool := @decide (a = b) (Classical.propDecidable _)
theorem eqJs_yes {a b : List J} (h : a = b) : eqJs a b = true := by unfold eqJs; simpa using h
theorem eqJs_no {a b : List J} (h : a ≠ b) : eqJs a b = false := by unfold eqJs; simpa using h
theorem eqJs_iff {a b : List J} : eqJs a b = true ↔ a = b := by unfold eqJs; simp
def SameJ (t : J) : Prop := ∀ (u : J) (w : World) (A3 A4 D3 D4 : Option Addr) (c3 c4 d3 d4 : Nat),
 TreeC w w.heap.size t [.int .i64 t.k, .int .i64 t.n, .string t.t, .slice A3 t.its.length c3, .slice A4 t.ks.length c4] →
 TreeC w w.heap.size u [.int .i64 u.k, .int .i64 u.n, .string u.t, .slice D3 u.its.length d3, .slice D4 u.ks.length d4] →
 Calls Tryz.prog 199 #[.agg #[.int .i64 t.k, .int .i64 t.n, .string t.t, .slice A3 t.its.length c3, .slice A4 t.ks.length c4], .agg #[.int .i64 u.k, .int .i64 u.n, .string u.t, .slice D3 u.its.length d3, .slice D4 u.ks.length d4]] w (Told (J.same t u) w)
theorem eqfJ_any (its its' : List J) (IHs : ∀ i (h : i < its.length), SameJ (its[i]'h)) (w : World) (A3 D3 : Option Addr) (c3 d3 : Nat) (rt : RowT w w.heap.size its A3) (ru : RowT w w.heap.size its' D3) (hl : its.length ≤ maxLen) (_hl' : its'.length ≤ maxLen) :
 Calls Tryz.prog 218 #[.slice A3 its.length c3, .slice D3 its'.length d3, .func (.func 199) #[] #[]] w (Told (eqJs its its') w) := by
 have CS := cell_set
 obtain ⟨R, hR⟩ : ∃ R, R = eqJs its its' := ⟨_, rfl⟩
 have HR := Lib.hid hR
 rw [← hR]
 by_cases hlen : its.length = its'.length
 · have RT := Lib.hid rt; have RU := Lib.hid ru
   obtain ⟨ni, hni⟩ : ∃ m, m = its.length := ⟨_, rfl⟩
   have HNI := Lib.hid hni
   have HLI : Hid (its'.length = ni) := hlen.symm.trans hni.symm
   have ni0 : ni ≤ 9223372036854775807 := by unfold maxLen at hl; omega
   have IH := Lib.hid IHs
   rw [HLI.out, ← HNI.out]
   clear hni hlen rt ru hl hR IHs
   go_enter Tryz.func218, Tryz.ntmps218
   go_wp2_with fail
   go_loopw [17] (fun t wr => ∃ p : Nat, p ≤ ni ∧ t = .int .i64 (p : Int) ∧ Hid (∀ j (h1 : j < its.length) (h2 : j < its'.length), j < p → its[j]'h1 = its'[j]'h2) ∧ Below w.heap.size w wr) (fun t _ => ni - (intOf t).toNat)
   case atStart => exact ⟨0, by omega, rfl, fun _ _ _ h => absurd h (Nat.not_lt_zero _), Below.refl _ _⟩
   case round =>
    obtain ⟨p, hp, rfl, HE, bl⟩ := hrel
    have gsz := bl.size
    by_cases hpn : p < ni
    · have h1 : p < its.length := by rw [← HNI.out]; exact hpn
      have h2 : p < its'.length := by rw [HLI.out]; exact hpn
      obtain ⟨b1, o1, X3, x3, X4, x4, e1, hb1, y0, y1, y2, y3, y4, ty⟩ := (RT.out.below bl).cells h1
      obtain ⟨b2, o2, Z3, z3, Z4, z4, e2, hb2, v0, v1, v2, v3, v4, tv⟩ := (RU.out.below bl).cells h2
      have lb1 : b1 < wr.heap.size := by omega
      have lb2 : b2 < wr.heap.size := by omega
      have nb2 : b2 ≠ wr.heap.size := by omega
      have IHp := Lib.hid (IH.out p h1)
      have he := HE.out
      by_cases hx : its[p]'h1 = its'[p]'h2
      · have HE2 : Hid (∀ j (h1 : j < its.length) (h2 : j < its'.length), j < p + 1 → its[j]'h1 = its'[j]'h2) := fun j g1 g2 hj => by
         rcases Nat.lt_or_ge j p with g | g
         · exact he j g1 g2 g
         · obtain rfl : j = p := by omega
           exact hx
        rw [← hx] at v0 v1 v2 v3 v4 tv
        have I2 := Lib.hid (fun W a b => IHp.out (its[p]'h1) W X3 X4 Z3 Z4 x3 x4 z3 z4 a b)
        rw [J.same_refl] at I2
        generalize its[p]'h1 = T at *
        subst e1 e2
        have TY := Lib.hid (ty.more gsz); have TV := Lib.hid (tv.more gsz)
        clear he hx h1 h2 ty tv IHp
        go_wp2_with fail
        with_reducible refine (I2.out _ (((TY.out.alloc (Nat.le_refl _) _).alloc (by simp) _).more (by simp; omega)) (((TV.out.alloc (Nat.le_refl _) _).alloc (by simp) _).more (by simp; omega))).mono ?_
        rintro e w3 ⟨rfl, b3⟩
        have bl3 : Below w.heap.size w w3 := bqq
        go_wp2_with fail
        go_roundw
        case rel => exact ⟨p + 1, by omega, by go_num, HE2, bl3⟩
        case measure => simp [intOf]; omega
      · have I2 := Lib.hid (fun W a b => IHp.out (its'[p]'h2) W X3 X4 Z3 Z4 x3 x4 z3 z4 a b)
        rw [J.same_no hx] at I2
        have Z : Hid (R = false) := HR.out.trans (eqJs_no fun e => hx (by subst e; rfl))
        generalize its[p]'h1 = T at *
        generalize its'[p]'h2 = U at *
        subst e1 e2
        have TY := Lib.hid (ty.more gsz); have TV := Lib.hid (tv.more gsz)
        clear he hx h1 h2 ty tv IHp
        go_wp2_with fail
        with_reducible refine (I2.out _ (((TY.out.alloc (Nat.le_refl _) _).alloc (by simp) _).more (by simp; omega)) (((TV.out.alloc (Nat.le_refl _) _).alloc (by simp) _).more (by simp; omega))).mono ?_
        rintro e w3 ⟨rfl, b3⟩
        have bl3 : Below w.heap.size w w3 := bqq
        go_wp2_with fail
        go_ret
        exact told_ret Z.out bqq
    · obtain rfl : p = ni := by omega
      have Z : Hid (R = true) := HR.out.trans (eqJs_yes (List.ext_getElem (by rw [← HNI.out, HLI.out]) fun j g1 g2 => HE.out j g1 g2 (by rw [HNI.out]; exact g1)))
      clear HE hpn
      go_wp2_with fail
      go_ret
      exact told_ret Z.out bqq
 · have Z : Hid (R = false) := hR.trans (eqJs_no fun e => hlen (by rw [e]))
   have q : ((its.length : Int) != (its'.length : Int)) = true := by rw [bne_iff_ne]; omega
   clear hlen rt ru hR IHs
   go_enter Tryz.func218, Tryz.ntmps218
   go_wp2_with fail
   go_ret
   exact told_ret Z.out bqq
theorem sameJ_step (k n : Int) (s : ByteArray) (its : List J) (ks : List ByteArray) (IHs : ∀ i (h : i < its.length), SameJ (its[i]'h)) : SameJ (.mk k n s its ks) := by
 intro u w A3 A4 D3 D4 c3 c4 d3 d4 ht hu
 cases u with
 | mk k' n' s' its' ks' =>
  have CS := cell_set
  simp only [J.k, J.n, J.t, J.its, J.ks] at ht hu ⊢
  obtain ⟨_, _, _, _, e, hc3, hc4, rt, ft⟩ := ht.out
  simp only [J.k, J.n, J.t, J.its, J.ks, List.cons.injEq, Value.slice.injEq, true_and, and_true] at e hc3 hc4 rt ft
  obtain ⟨⟨rfl, rfl⟩, rfl, rfl⟩ := e
  obtain ⟨_, _, _, _, e, hd3, hd4, ru, fu⟩ := hu.out
  simp only [J.k, J.n, J.t, J.its, J.ks, List.cons.injEq, Value.slice.injEq, true_and, and_true] at e hd3 hd4 ru fu
  obtain ⟨⟨rfl, rfl⟩, rfl, rfl⟩ := e
  have W2 : Below w.heap.size w ((w.alloc (.cells #[.int .i64 k, .int .i64 n, .string s, .slice A3 its.length c3, .slice A4 ks.length c4] 25)).alloc (.cells #[.int .i64 k', .int .i64 n', .string s', .slice D3 its'.length d3, .slice D4 ks'.length d4] 25)) := bqq
  have NO : ∀ {x : Bool}, k = k' ∧ n = n' ∧ s = s' ∧ ks = ks' → eqJs its its' = x → J.same (.mk k n s its ks) (.mk k' n' s' its' ks') = x := fun {x} h hx => by
   obtain ⟨rfl, rfl, rfl, rfl⟩ := h
   cases x with
   | true => exact J.same_yes (by rw [eqJs_iff.1 hx])
   | false => exact J.same_no (fun e => by injection e with _ _ _ e _; rw [eqJs_yes e] at hx; cases hx)
  have NK : ¬ (k = k' ∧ n = n' ∧ s = s' ∧ ks = ks') → J.same (.mk k n s its ks) (.mk k' n' s' its' ks') = false := fun h => J.same_no fun e => h (by injection e with e1 e2 e3 _ e5; exact ⟨e1, e2, e3, e5⟩)
  by_cases hk : k = k'
  · by_cases hn : n = n'
    · have sb := str_beq s s'
      by_cases hs : s = s'
      · have EQ := equal_any (· < w.heap.size) A4 D4 c4 d4 ks ks' _ (FlS.keep (Below.keeps W2) (fun _ h => h) ft) (FlS.keep (Below.keeps W2) (fun _ h => h) fu) hc4.2 hd4.2
        obtain ⟨RR, hRR⟩ : ∃ RR, RR = J.same (.mk k n s its ks) (.mk k' n' s' its' ks') := ⟨_, rfl⟩
        rw [← hRR] at NO NK ⊢
        by_cases hks : ks = ks'
        · obtain ⟨R, hR⟩ : ∃ R, R = eqJs its its' := ⟨_, rfl⟩
          have EFD : Hid (∀ W, Below w.heap.size w W → Calls Tryz.prog 218 #[.slice A3 its.length c3, .slice D3 its'.length d3, .func (.func 199) #[] #[]] W (Told R W)) := fun W b => by
           rw [hR]
           exact eqfJ_any its its' IHs W A3 D3 c3 d3 ((rt.below b).more b.size) ((ru.below b).more b.size) hc3.2 hd3.2
          have Z := Lib.hid (NO ⟨hk, hn, hs, hks⟩ hR.symm)
          rw [show eqs ks ks' = true by unfold eqs; simpa using hks] at EQ
          subst hk hn hs
          have sb1 : (s.toList == s.toList) = true := by simp
          have EQH := Lib.hid EQ
          clear EQ hR NO NK ht hu rt ru ft fu hks sb IHs hRR
          go_enter Tryz.func199, Tryz.ntmps199
          go_wp2_with fail
          with_reducible refine EQH.out.mono ?_
          rintro e w3 ⟨rfl, nd, rfl⟩
          go_wp2_with fail
          with_reducible refine (EFD.out _ bqq).mono ?_
          rintro e w4 ⟨rfl, b4⟩
          have bw : Below w.heap.size w w4 := bqq
          go_wp2_with fail
          go_ret
          exact told_ret Z.out bw
        · have Z := Lib.hid (NK fun h => hks h.2.2.2)
          rw [show eqs ks ks' = false by unfold eqs; simpa using hks] at EQ
          subst hk hn hs
          have sb1 : (s.toList == s.toList) = true := by simp
          have EQH := Lib.hid EQ
          clear EQ NO NK ht hu rt ru ft fu hks sb IHs hRR
          go_enter Tryz.func199, Tryz.ntmps199
          go_wp2_with fail
          with_reducible refine EQH.out.mono ?_
          rintro e w3 ⟨rfl, nd, rfl⟩
          go_wp2_with fail
          go_ret
          exact told_ret Z.out bqq
      · have Z := Lib.hid (NK fun h => hs h.2.2.1)
        have sb1 : (s.toList == s'.toList) = false := by rw [sb]; simpa using hs
        generalize J.same (.mk k n s its ks) (.mk k' n' s' its' ks') = RR at *
        subst hk hn
        clear NO NK ht hu rt ru ft fu hs sb IHs
        go_enter Tryz.func199, Tryz.ntmps199
        go_wp2_with fail
        go_ret
        exact told_ret Z.out bqq
    · have Z := Lib.hid (NK fun h => hn h.2.1)
      have qn : (n == n') = false := by simpa using hn
      generalize J.same (.mk k n s its ks) (.mk k' n' s' its' ks') = RR at *
      subst hk
      clear NO NK ht hu rt ru ft fu hn IHs
      go_enter Tryz.func199, Tryz.ntmps199
      go_wp2_with fail
      go_ret
      exact told_ret Z.out bqq
  · have Z := Lib.hid (NK fun h => hk h.1)
    have qk : (k == k') = false := by simpa using hk
    generalize J.same (.mk k n s its ks) (.mk k' n' s' its' ks') = RR at *
    clear NO NK ht hu rt ru ft fu hk IHs
    go_enter Tryz.func199, Tryz.ntmps199
    go_wp2_with fail
    go_ret
    exact told_ret Z.out bqq
theorem sameJ_at : ∀ (N : Nat) (t : J), SizeOf.sizeOf t ≤ N → SameJ t
 | 0, t, h => by cases t; simp at h
 | N + 1, .mk k n s its ks, hN => sameJ_step k n s its ks fun i h => sameJ_at N (its[i]'h) (by have := J.lt_its (j := .mk k n s its ks) (i := i) h; simp only [J.its] at this; omega)
theorem sameJ_any (t : J) : SameJ t := sameJ_at _ t (Nat.le_refl _)
end Go.Proofs.YthfoomobicbcpaaGreatDoor
namespace Go.Proofs.YthfoomobicbcpaaGreatDoor
open Go.ChangeShapes Go.WideShapes Go.ChangeAt Go.RowKit Mem
noncomputable def eqb {α : Type} (a b : α) : Bool := @decide (a = b) (Classical.propDecidable _)
theorem eqb_yes {α : Type} {a b : α} (h : a = b) : eqb a b = true := by unfold eqb; simpa using h
theorem eqb_no {α : Type} {a b : α} (h : a ≠ b) : eqb a b = false := by unfold eqb; simpa using h
theorem eqb_iff {α : Type} {a b : α} : eqb a b = true ↔ a = b := by unfold eqb; simp
theorem equalI_any (A A0 : Option Addr) (c d : Nat) (ks ls : List Int) (w : World) (S : Nat → Prop) (h : RowD w S 1 (ks.map (D.i .i64)) A) (h' : RowD w S 1 (ls.map (D.i .i64)) A0) (hl : ks.length ≤ maxLen) :
 Calls Tryz.prog 165 #[.slice A ks.length c, .slice A0 ls.length d] w (Eqd (eqb ks ls) w) := by
 have F := Lib.hid h
 have G := Lib.hid h'
 obtain ⟨R, hR⟩ : ∃ R, R = eqb ks ls := ⟨_, rfl⟩
 rw [← hR]
 by_cases hlen : ks.length = ls.length
 · obtain ⟨nk, hnk⟩ : ∃ m, m = ks.length := ⟨_, rfl⟩
   have HNK := Lib.hid hnk
   have HNL : Hid (nk = ls.length) := hnk.trans hlen
   rw [← HNL.out, ← hnk]
   have hb : nk ≤ 9223372036854775807 := by unfold maxLen at hl; omega
   have YES : Hid (ks = ls → R = true) := fun e => by rw [hR]; exact eqb_yes e
   have NO : Hid (ks ≠ ls → R = false) := fun e => by rw [hR]; exact eqb_no e
   clear hnk h h' hl hlen hR
   go_enter Tryz.func165, Tryz.ntmps165
   go_wp2_with fail
   go_loopw [13] (fun t wq => ∃ j : Nat, j ≤ nk ∧ t = .int .i64 (j : Int) ∧ Hid (∀ m (h : m < ks.length) (g : m < ls.length), m < j → ks[m]'h = ls[m]'g) ∧ Drewn7 w wq) (fun t _ => nk - (intOf t).toNat)
   case atStart => exact ⟨0, Nat.zero_le _, rfl, fun _ _ _ h => absurd h (Nat.not_lt_zero _), ⟨0, rfl⟩⟩
   case round =>
    obtain ⟨m, hm, rfl, NE, ⟨nd, rfl⟩⟩ := hrel
    by_cases hmk : m < nk
    · have h1 : m < ks.length := by rw [← HNK.out]; exact hmk
      have h2 : m < ls.length := by rw [← HNL.out]; exact hmk
      obtain ⟨b8, o8, e8, hb8, z0⟩ := ints_at F.out h1
      obtain ⟨b9, o9, e9, hb9, z1⟩ := ints_at G.out h2
      have ne := NE.out
      by_cases hx : ks[m]'h1 = ls[m]'h2
      · have NE2 : Hid (∀ q (h : q < ks.length) (g : q < ls.length), q < m + 1 → ks[q]'h = ls[q]'g) := fun q h g hq => by
         rcases Nat.lt_or_ge q m with k | k
         · exact ne q h g k
         · obtain rfl : q = m := by omega
           exact hx
        rw [← hx] at z1
        generalize ks[m]'h1 = Y at *
        have sx : (Y != Y) = false := by simp
        subst e8 e9
        clear ne hx h1 h2
        go_wp2_with fail
        go_quiet (fail)
        go_wp2_with fail
        go_roundw
        case rel => exact ⟨m + 1, by omega, by go_num, NE2, ⟨_, rfl⟩⟩
        case measure => simp [intOf]; omega
      · have Z := Lib.hid (NO.out (fun e => hx (by subst e; rfl)))
        have sx : ((ks[m]'h1) != (ls[m]'h2)) = true := by rw [bne_iff_ne]; exact hx
        have sx2 : ((ks[m]'h1) == (ls[m]'h2)) = false := by rw [beq_eq_false_iff_ne]; exact hx
        generalize ks[m]'h1 = Y at *
        generalize ls[m]'h2 = X at *
        subst e8 e9
        clear ne hx h1 h2
        go_wp2_with fail
        go_quiet (fail)
        go_wp2_with fail
        go_ret
        exact eqd_ret Z.out (Drewn7.next ⟨_, rfl⟩ _)
    · obtain rfl : m = nk := by omega
      have Z := Lib.hid (YES.out (List.ext_getElem (by rw [← HNK.out, HNL.out]) fun j g1 g2 => NE.out j g1 g2 (by rw [HNK.out]; exact g1)))
      clear NE hmk
      go_wp2_with fail
      go_ret
      exact eqd_ret Z.out ⟨_, rfl⟩
 · have Z : Hid (R = false) := by show _ = _; rw [hR]; exact eqb_no (fun e => hlen (by rw [e]))
   have q : ((ks.length : Int) != (ls.length : Int)) = true := by rw [bne_iff_ne]; omega
   clear hlen hR h h'
   go_enter Tryz.func165, Tryz.ntmps165
   go_wp2_with fail
   go_ret
   exact eqd_ret Z.out ⟨0, rfl⟩
theorem Fd.ext_ {f g : Fd} (h1 : f.name = g.name) (h2 : f.al = g.al) (h3 : f.ty = g.ty) (h4 : f.has = g.has) (h5 : f.df = g.df) : f = g := by
 cases f; cases g; simp only at h1 h2 h3 h4 h5; subst h1 h2 h3 h4 h5; rfl
theorem Nd.ext_ {f g : Nd} (h1 : f.k = g.k) (h2 : f.name = g.name) (h3 : f.has = g.has) (h4 : f.df = g.df) (h5 : f.size = g.size) (h6 : f.items = g.items) (h7 : f.al = g.al) (h8 : f.sy = g.sy) (h9 : f.br = g.br) (h0 : f.fs = g.fs) : f = g := by
 cases f; cases g; simp only at h1 h2 h3 h4 h5 h6 h7 h8 h9 h0; subst h1 h2 h3 h4 h5 h6 h7 h8 h9 h0; rfl
def SameF (f g : Fd) : Prop := ∀ (w : World) (A1 A3 A4 D1 D3 D4 : Option Addr) (a1 a3 a4 d1 d3 d4 : Nat),
 Lies w (· < w.heap.size) f.enc [.string f.name, .slice A1 f.al.length a1, .int .i64 f.ty, .bool f.has, .int .i64 f.df.k, .int .i64 f.df.n, .string f.df.t, .slice A3 f.df.its.length a3, .slice A4 f.df.ks.length a4] → Lies w (· < w.heap.size) g.enc [.string g.name, .slice D1 g.al.length d1, .int .i64 g.ty, .bool g.has, .int .i64 g.df.k, .int .i64 g.df.n, .string g.df.t, .slice D3 g.df.its.length d3, .slice D4 g.df.ks.length d4] →
 Calls Tryz.prog 167 #[.agg #[.string f.name, .slice A1 f.al.length a1, .int .i64 f.ty, .bool f.has, .int .i64 f.df.k, .int .i64 f.df.n, .string f.df.t, .slice A3 f.df.its.length a3, .slice A4 f.df.ks.length a4], .agg #[.string g.name, .slice D1 g.al.length d1, .int .i64 g.ty, .bool g.has, .int .i64 g.df.k, .int .i64 g.df.n, .string g.df.t, .slice D3 g.df.its.length d3, .slice D4 g.df.ks.length d4]] w (Told (eqb f g) w)
theorem sameF_any (f g : Fd) : SameF f g := by
 intro w A1 A3 A4 D1 D3 D4 a1 a3 a4 d1 d3 d4 hf hg
 have CS := cell_set
 obtain ⟨_, _, _, _, _, _, e, la, fa, ta⟩ := Fd.out.1 hf
 simp only [List.cons.injEq, Value.slice.injEq, true_and, and_true] at e
 obtain ⟨⟨rfl, rfl⟩, ⟨rfl, rfl⟩, rfl, rfl⟩ := e
 obtain ⟨_, _, _, _, _, _, e, lb, fb, tb⟩ := Fd.out.1 hg
 simp only [List.cons.injEq, Value.slice.injEq, true_and, and_true] at e
 obtain ⟨⟨rfl, rfl⟩, ⟨rfl, rfl⟩, rfl, rfl⟩ := e
 obtain ⟨R, hR⟩ : ∃ R, R = eqb f g := ⟨_, rfl⟩
 have HR := Lib.hid hR
 rw [← hR]
 have W2 : Below w.heap.size w ((w.alloc (.cells #[.string f.name, .slice A1 f.al.length a1, .int .i64 f.ty, .bool f.has, .int .i64 f.df.k, .int .i64 f.df.n, .string f.df.t, .slice A3 f.df.its.length a3, .slice A4 f.df.ks.length a4] 61)).alloc (.cells #[.string g.name, .slice D1 g.al.length d1, .int .i64 g.ty, .bool g.has, .int .i64 g.df.k, .int .i64 g.df.n, .string g.df.t, .slice D3 g.df.its.length d3, .slice D4 g.df.ks.length d4] 61)) := bqq
 have EQ := Lib.hid (equal_any (· < w.heap.size) A1 D1 a1 d1 f.al g.al _ (FlS.keep (Below.keeps W2) (fun _ h => h) fa) (FlS.keep (Below.keeps W2) (fun _ h => h) fb) la.2 lb.2)
 have SJ := Lib.hid (fun W (b : Below w.heap.size w W) => sameJ_any f.df g.df W A3 A4 D3 D4 a3 a4 d3 d4 ((ta.below b).more b.size) ((tb.below b).more b.size))
 have sb := str_beq f.name g.name
 clear hf hg la fa ta lb fb tb hR
 by_cases e1 : f.name = g.name
 · have sb1 : (f.name.toList == g.name.toList) = true := by rw [sb]; simpa using e1
   by_cases e2 : f.ty = g.ty
   · have q2 : (f.ty == g.ty) = true := by simpa using e2
     by_cases e3 : f.has = g.has
     · have q3 : (f.has == g.has) = true := by simpa using e3
       have EXT : Hid (f.al = g.al → f.df = g.df → f = g) := fun h1 h2 => Fd.ext_ e1 h1 e2 e3 h2
       by_cases e4 : f.al = g.al
       · have X : eqs f.al g.al = true := by unfold eqs; simpa using e4
         have ez := EQ.out
         rw [X] at ez
         have EZ := Lib.hid ez
         have Z : Hid (J.same f.df g.df = R) := by
          show _ = _
          by_cases e5 : f.df = g.df
          · rw [e5, J.same_refl, HR.out, eqb_yes (EXT.out e4 e5)]
          · rw [J.same_no e5, HR.out, eqb_no (fun e => e5 (by rw [e]))]
         generalize J.same f.df g.df = RR at *
         clear e1 e2 e3 e4 ez X sb W2 EQ
         go_enter Tryz.func167, Tryz.ntmps167
         go_wp2_with fail
         with_reducible refine EZ.out.mono ?_
         rintro e w3 ⟨rfl, nd, rfl⟩
         go_wp2_with fail
         with_reducible refine (SJ.out _ bqq).mono ?_
         rintro e w4 ⟨rfl, b4⟩
         have bw : Below w.heap.size w w4 := bqq
         go_wp2_with fail
         go_ret
         exact told_ret Z.out.symm bw
       · have X : eqs f.al g.al = false := by unfold eqs; simpa using e4
         have ez := EQ.out
         rw [X] at ez
         have EZ := Lib.hid ez
         have Z := Lib.hid (HR.out.trans (eqb_no fun e => e4 (by rw [e])))
         clear e1 e2 e3 e4 ez X sb W2 EQ
         go_enter Tryz.func167, Tryz.ntmps167
         go_wp2_with fail
         with_reducible refine EZ.out.mono ?_
         rintro e w3 ⟨rfl, nd, rfl⟩
         go_wp2_with fail
         go_ret
         exact told_ret Z.out bqq
     · have q3 : (f.has == g.has) = false := by simpa using e3
       have Z := Lib.hid (HR.out.trans (eqb_no fun e => e3 (by rw [e])))
       clear e1 e2 e3 sb
       go_enter Tryz.func167, Tryz.ntmps167
       go_wp2_with fail
       go_ret
       exact told_ret Z.out bqq
   · have q2 : (f.ty == g.ty) = false := by simpa using e2
     have Z := Lib.hid (HR.out.trans (eqb_no fun e => e2 (by rw [e])))
     clear e1 e2 sb
     go_enter Tryz.func167, Tryz.ntmps167
     go_wp2_with fail
     go_ret
     exact told_ret Z.out bqq
 · have sb1 : (f.name.toList == g.name.toList) = false := by rw [sb]; simpa using e1
   have Z := Lib.hid (HR.out.trans (eqb_no fun e => e1 (by rw [e])))
   clear e1 sb
   go_enter Tryz.func167, Tryz.ntmps167
   go_wp2_with fail
   go_ret
   exact told_ret Z.out bqq
theorem eqfF_any (fs gs : List Fd) (w : World) (A D : Option Addr) (c d : Nat) (rt : RowD w (· < w.heap.size) 9 (fs.map Fd.enc) A) (ru : RowD w (· < w.heap.size) 9 (gs.map Fd.enc) D) (hl : fs.length ≤ maxLen) :
 Calls Tryz.prog 166 #[.slice A fs.length c, .slice D gs.length d, .func (.func 167) #[] #[]] w (Told (eqb fs gs) w) := by
 have CS := cell_set
 obtain ⟨R, hR⟩ : ∃ R, R = eqb fs gs := ⟨_, rfl⟩
 have HR := Lib.hid hR
 rw [← hR]
 by_cases hlen : fs.length = gs.length
 · have RT := Lib.hid rt; have RU := Lib.hid ru
   obtain ⟨ni, hni⟩ : ∃ m, m = fs.length := ⟨_, rfl⟩
   have HNI := Lib.hid hni
   have HLI : Hid (gs.length = ni) := hlen.symm.trans hni.symm
   have ni0 : ni ≤ 9223372036854775807 := by unfold maxLen at hl; omega
   rw [HLI.out, ← HNI.out]
   clear hni hlen rt ru hl hR
   go_enter Tryz.func166, Tryz.ntmps166
   go_wp2_with fail
   go_loopw [17] (fun t wr => ∃ p : Nat, p ≤ ni ∧ t = .int .i64 (p : Int) ∧ Hid (∀ j (h1 : j < fs.length) (h2 : j < gs.length), j < p → fs[j]'h1 = gs[j]'h2) ∧ Below w.heap.size w wr) (fun t _ => ni - (intOf t).toNat)
   case atStart => exact ⟨0, by omega, rfl, fun _ _ _ h => absurd h (Nat.not_lt_zero _), Below.refl _ _⟩
   case round =>
    obtain ⟨p, hp, rfl, HE, bl⟩ := hrel
    have gsz := bl.size
    by_cases hpn : p < ni
    · have h1 : p < fs.length := by rw [← HNI.out]; exact hpn
      have h2 : p < gs.length := by rw [HLI.out]; exact hpn
      obtain ⟨b1, o1, X1, x1, X3, x3, X4, x4, e1, hb1, ⟨y0, y1, y2, y3, y4, y5, y6, y7, y8⟩, lx⟩ := fields_at (RT.out.below bl) h1
      obtain ⟨b2, o2, Z1, z1, Z3, z3, Z4, z4, e2, hb2, ⟨v0, v1, v2, v3, v4, v5, v6, v7, v8⟩, lz⟩ := fields_at (RU.out.below bl) h2
      have lb1 : b1 < wr.heap.size := by omega
      have lb2 : b2 < wr.heap.size := by omega
      have nb2 : b2 ≠ wr.heap.size := by omega
      have he := HE.out
      have ST : Hid (fs[p]'h1 = gs[p]'h2 → ∀ j (h1 : j < fs.length) (h2 : j < gs.length), j < p + 1 → fs[j]'h1 = gs[j]'h2) := fun hx j g1 g2 hj => by
       rcases Nat.lt_or_ge j p with g | g
       · exact he j g1 g2 g
       · obtain rfl : j = p := by omega
         exact hx
      have NO : Hid (fs[p]'h1 ≠ gs[p]'h2 → R = false) := fun hx => HR.out.trans (eqb_no fun e => hx (by subst e; rfl))
      generalize fs[p]'h1 = T at *
      generalize gs[p]'h2 = U at *
      have LX := Lib.hid (Fd.out.2 ⟨_, _, _, _, _, _, rfl, lx.1, lx.2.1, lx.2.2⟩); have LZ := Lib.hid (Fd.out.2 ⟨_, _, _, _, _, _, rfl, lz.1, lz.2.1, lz.2.2⟩)
      subst e1 e2
      have I2 : Hid (∀ W, Below wr.heap.size wr W → Calls Tryz.prog 167 #[.agg #[.string T.name, .slice X1 T.al.length x1, .int .i64 T.ty, .bool T.has, .int .i64 T.df.k, .int .i64 T.df.n, .string T.df.t, .slice X3 T.df.its.length x3, .slice X4 T.df.ks.length x4], .agg #[.string U.name, .slice Z1 U.al.length z1, .int .i64 U.ty, .bool U.has, .int .i64 U.df.k, .int .i64 U.df.n, .string U.df.t, .slice Z3 U.df.its.length z3, .slice Z4 U.df.ks.length z4]] W (Told (eqb T U) W)) := fun W b =>
       sameF_any T U W X1 X3 X4 Z1 Z3 Z4 x1 x3 x4 z1 z3 z4 (((LX.out.more gsz).below b).more b.size) (((LZ.out.more gsz).below b).more b.size)
      obtain ⟨RR, hRR⟩ : ∃ RR, RR = eqb T U := ⟨_, rfl⟩
      have HRR := Lib.hid hRR
      rw [← hRR] at I2
      clear he h1 h2 lx lz hRR
      cases RR with
      | true =>
       have HE2 := Lib.hid (ST.out (eqb_iff.1 HRR.out.symm))
       go_wp2_with fail
       with_reducible refine (I2.out _ bqq).mono ?_
       rintro e w3 ⟨rfl, b3⟩
       have bl3 : Below w.heap.size w w3 := bqq
       go_wp2_with fail
       go_roundw
       case rel => exact ⟨p + 1, by omega, by go_num, HE2, bl3⟩
       case measure => simp [intOf]; omega
      | false =>
       have Z := Lib.hid (NO.out fun e => by rw [eqb_yes e] at HRR; cases HRR.out)
       go_wp2_with fail
       with_reducible refine (I2.out _ bqq).mono ?_
       rintro e w3 ⟨rfl, b3⟩
       have bl3 : Below w.heap.size w w3 := bqq
       go_wp2_with fail
       go_ret
       exact told_ret Z.out bl3
    · obtain rfl : p = ni := by omega
      have Z : Hid (R = true) := HR.out.trans (eqb_yes (List.ext_getElem (by rw [← HNI.out, HLI.out]) fun j g1 g2 => HE.out j g1 g2 (by rw [HNI.out]; exact g1)))
      clear HE hpn
      go_wp2_with fail
      go_ret
      exact told_ret Z.out bqq
 · have Z : Hid (R = false) := hR.trans (eqb_no fun e => hlen (by rw [e]))
   have q : ((fs.length : Int) != (gs.length : Int)) = true := by rw [bne_iff_ne]; omega
   clear hlen rt ru hR
   go_enter Tryz.func166, Tryz.ntmps166
   go_wp2_with fail
   go_ret
   exact told_ret Z.out bqq
def SameN (f g : Nd) : Prop := ∀ (w : World) (A2 A3 A4 A9 D2 D3 D4 D9 : Option Addr) (a2 a3 a4 a9 d2 d3 d4 d9 : Nat),
 Lies w (· < w.heap.size) f.enc [.int .i64 f.k, .string f.name, .slice A2 f.al.length a2, .slice A3 f.fs.length a3, .slice A4 f.sy.length a4, .bool f.has, .string f.df, .int .i64 f.size, .int .i64 f.items, .slice A9 f.br.length a9] → Lies w (· < w.heap.size) g.enc [.int .i64 g.k, .string g.name, .slice D2 g.al.length d2, .slice D3 g.fs.length d3, .slice D4 g.sy.length d4, .bool g.has, .string g.df, .int .i64 g.size, .int .i64 g.items, .slice D9 g.br.length d9] →
 Calls Tryz.prog 125 #[.agg #[.int .i64 f.k, .string f.name, .slice A2 f.al.length a2, .slice A3 f.fs.length a3, .slice A4 f.sy.length a4, .bool f.has, .string f.df, .int .i64 f.size, .int .i64 f.items, .slice A9 f.br.length a9], .agg #[.int .i64 g.k, .string g.name, .slice D2 g.al.length d2, .slice D3 g.fs.length d3, .slice D4 g.sy.length d4, .bool g.has, .string g.df, .int .i64 g.size, .int .i64 g.items, .slice D9 g.br.length d9]] w (Told (eqb f g) w)
theorem sameN_0 (f g : Nd)  (ne : f.k ≠ g.k) : SameN f g := by
 intro w A2 A3 A4 A9 D2 D3 D4 D9 a2 a3 a4 a9 d2 d3 d4 d9 hf hg
 have CS := cell_set
 obtain ⟨_, _, _, _, _, _, _, _, e, l2, f2, l3, r3, l4, f4, l9, r9⟩ := Nd.out.1 hf
 simp only [List.cons.injEq, Value.slice.injEq, true_and, and_true] at e
 obtain ⟨⟨rfl, rfl⟩, ⟨rfl, rfl⟩, ⟨rfl, rfl⟩, rfl, rfl⟩ := e
 obtain ⟨_, _, _, _, _, _, _, _, e, m2, g2, m3, s3, m4, g4, m9, s9⟩ := Nd.out.1 hg
 simp only [List.cons.injEq, Value.slice.injEq, true_and, and_true] at e
 obtain ⟨⟨rfl, rfl⟩, ⟨rfl, rfl⟩, ⟨rfl, rfl⟩, rfl, rfl⟩ := e
 obtain ⟨R, hR⟩ : ∃ R, R = eqb f g := ⟨_, rfl⟩
 have HR := Lib.hid hR
 rw [← hR]
 have Z := Lib.hid (HR.out.trans (eqb_no fun e => ne (by rw [e])))
 clear hf hg l2 f2 l3 r3 l4 f4 l9 r9 m2 g2 m3 s3 m4 g4 m9 s9 hR HR
 have qn : (f.k == g.k) = false := by simpa using ne
 clear ne
 go_enter Tryz.func125, Tryz.ntmps125
 simp only [List.append]
 go_wp2_with fail
 go_ret
 exact told_ret Z.out bqq
theorem sameN_1 (f g : Nd) (e0 : f.k = g.k) (ne : f.name ≠ g.name) : SameN f g := by
 intro w A2 A3 A4 A9 D2 D3 D4 D9 a2 a3 a4 a9 d2 d3 d4 d9 hf hg
 have CS := cell_set
 obtain ⟨_, _, _, _, _, _, _, _, e, l2, f2, l3, r3, l4, f4, l9, r9⟩ := Nd.out.1 hf
 simp only [List.cons.injEq, Value.slice.injEq, true_and, and_true] at e
 obtain ⟨⟨rfl, rfl⟩, ⟨rfl, rfl⟩, ⟨rfl, rfl⟩, rfl, rfl⟩ := e
 obtain ⟨_, _, _, _, _, _, _, _, e, m2, g2, m3, s3, m4, g4, m9, s9⟩ := Nd.out.1 hg
 simp only [List.cons.injEq, Value.slice.injEq, true_and, and_true] at e
 obtain ⟨⟨rfl, rfl⟩, ⟨rfl, rfl⟩, ⟨rfl, rfl⟩, rfl, rfl⟩ := e
 obtain ⟨R, hR⟩ : ∃ R, R = eqb f g := ⟨_, rfl⟩
 have HR := Lib.hid hR
 rw [← hR]
 have Z := Lib.hid (HR.out.trans (eqb_no fun e => ne (by rw [e])))
 clear hf hg l2 f2 l3 r3 l4 f4 l9 r9 m2 g2 m3 s3 m4 g4 m9 s9 hR HR
 have q0 : (f.k == g.k) = true := by simpa using e0
 have qn : (f.name.toList == g.name.toList) = false := by rw [str_beq]; simpa using ne
 clear ne e0
 go_enter Tryz.func125, Tryz.ntmps125
 simp only [List.append]
 go_wp2_with fail
 go_ret
 exact told_ret Z.out bqq
theorem sameN_2 (f g : Nd) (e0 : f.k = g.k) (e1 : f.name = g.name) (ne : f.has ≠ g.has) : SameN f g := by
 intro w A2 A3 A4 A9 D2 D3 D4 D9 a2 a3 a4 a9 d2 d3 d4 d9 hf hg
 have CS := cell_set
 obtain ⟨_, _, _, _, _, _, _, _, e, l2, f2, l3, r3, l4, f4, l9, r9⟩ := Nd.out.1 hf
 simp only [List.cons.injEq, Value.slice.injEq, true_and, and_true] at e
 obtain ⟨⟨rfl, rfl⟩, ⟨rfl, rfl⟩, ⟨rfl, rfl⟩, rfl, rfl⟩ := e
 obtain ⟨_, _, _, _, _, _, _, _, e, m2, g2, m3, s3, m4, g4, m9, s9⟩ := Nd.out.1 hg
 simp only [List.cons.injEq, Value.slice.injEq, true_and, and_true] at e
 obtain ⟨⟨rfl, rfl⟩, ⟨rfl, rfl⟩, ⟨rfl, rfl⟩, rfl, rfl⟩ := e
 obtain ⟨R, hR⟩ : ∃ R, R = eqb f g := ⟨_, rfl⟩
 have HR := Lib.hid hR
 rw [← hR]
 have Z := Lib.hid (HR.out.trans (eqb_no fun e => ne (by rw [e])))
 clear hf hg l2 f2 l3 r3 l4 f4 l9 r9 m2 g2 m3 s3 m4 g4 m9 s9 hR HR
 have q0 : (f.k == g.k) = true := by simpa using e0
 have q1 : (f.name.toList == g.name.toList) = true := by rw [str_beq]; simpa using e1
 have qn : (f.has == g.has) = false := by simpa using ne
 clear ne e0 e1
 go_enter Tryz.func125, Tryz.ntmps125
 simp only [List.append]
 go_wp2_with fail
 go_ret
 exact told_ret Z.out bqq
theorem sameN_3 (f g : Nd) (e0 : f.k = g.k) (e1 : f.name = g.name) (e2 : f.has = g.has) (ne : f.df ≠ g.df) : SameN f g := by
 intro w A2 A3 A4 A9 D2 D3 D4 D9 a2 a3 a4 a9 d2 d3 d4 d9 hf hg
 have CS := cell_set
 obtain ⟨_, _, _, _, _, _, _, _, e, l2, f2, l3, r3, l4, f4, l9, r9⟩ := Nd.out.1 hf
 simp only [List.cons.injEq, Value.slice.injEq, true_and, and_true] at e
 obtain ⟨⟨rfl, rfl⟩, ⟨rfl, rfl⟩, ⟨rfl, rfl⟩, rfl, rfl⟩ := e
 obtain ⟨_, _, _, _, _, _, _, _, e, m2, g2, m3, s3, m4, g4, m9, s9⟩ := Nd.out.1 hg
 simp only [List.cons.injEq, Value.slice.injEq, true_and, and_true] at e
 obtain ⟨⟨rfl, rfl⟩, ⟨rfl, rfl⟩, ⟨rfl, rfl⟩, rfl, rfl⟩ := e
 obtain ⟨R, hR⟩ : ∃ R, R = eqb f g := ⟨_, rfl⟩
 have HR := Lib.hid hR
 rw [← hR]
 have Z := Lib.hid (HR.out.trans (eqb_no fun e => ne (by rw [e])))
 clear hf hg l2 f2 l3 r3 l4 f4 l9 r9 m2 g2 m3 s3 m4 g4 m9 s9 hR HR
 have q0 : (f.k == g.k) = true := by simpa using e0
 have q1 : (f.name.toList == g.name.toList) = true := by rw [str_beq]; simpa using e1
 have q2 : (f.has == g.has) = true := by simpa using e2
 have qn : (f.df.toList == g.df.toList) = false := by rw [str_beq]; simpa using ne
 clear ne e0 e1 e2
 go_enter Tryz.func125, Tryz.ntmps125
 simp only [List.append]
 go_wp2_with fail
 go_ret
 exact told_ret Z.out bqq
theorem sameN_4 (f g : Nd) (e0 : f.k = g.k) (e1 : f.name = g.name) (e2 : f.has = g.has) (e3 : f.df = g.df) (ne : f.size ≠ g.size) : SameN f g := by
 intro w A2 A3 A4 A9 D2 D3 D4 D9 a2 a3 a4 a9 d2 d3 d4 d9 hf hg
 have CS := cell_set
 obtain ⟨_, _, _, _, _, _, _, _, e, l2, f2, l3, r3, l4, f4, l9, r9⟩ := Nd.out.1 hf
 simp only [List.cons.injEq, Value.slice.injEq, true_and, and_true] at e
 obtain ⟨⟨rfl, rfl⟩, ⟨rfl, rfl⟩, ⟨rfl, rfl⟩, rfl, rfl⟩ := e
 obtain ⟨_, _, _, _, _, _, _, _, e, m2, g2, m3, s3, m4, g4, m9, s9⟩ := Nd.out.1 hg
 simp only [List.cons.injEq, Value.slice.injEq, true_and, and_true] at e
 obtain ⟨⟨rfl, rfl⟩, ⟨rfl, rfl⟩, ⟨rfl, rfl⟩, rfl, rfl⟩ := e
 obtain ⟨R, hR⟩ : ∃ R, R = eqb f g := ⟨_, rfl⟩
 have HR := Lib.hid hR
 rw [← hR]
 have Z := Lib.hid (HR.out.trans (eqb_no fun e => ne (by rw [e])))
 clear hf hg l2 f2 l3 r3 l4 f4 l9 r9 m2 g2 m3 s3 m4 g4 m9 s9 hR HR
 have q0 : (f.k == g.k) = true := by simpa using e0
 have q1 : (f.name.toList == g.name.toList) = true := by rw [str_beq]; simpa using e1
 have q2 : (f.has == g.has) = true := by simpa using e2
 have q3 : (f.df.toList == g.df.toList) = true := by rw [str_beq]; simpa using e3
 have qn : (f.size == g.size) = false := by simpa using ne
 clear ne e0 e1 e2 e3
 go_enter Tryz.func125, Tryz.ntmps125
 simp only [List.append]
 go_wp2_with fail
 go_ret
 exact told_ret Z.out bqq
theorem sameN_5 (f g : Nd) (e0 : f.k = g.k) (e1 : f.name = g.name) (e2 : f.has = g.has) (e3 : f.df = g.df) (e4 : f.size = g.size) (ne : f.items ≠ g.items) : SameN f g := by
 intro w A2 A3 A4 A9 D2 D3 D4 D9 a2 a3 a4 a9 d2 d3 d4 d9 hf hg
 have CS := cell_set
 obtain ⟨_, _, _, _, _, _, _, _, e, l2, f2, l3, r3, l4, f4, l9, r9⟩ := Nd.out.1 hf
 simp only [List.cons.injEq, Value.slice.injEq, true_and, and_true] at e
 obtain ⟨⟨rfl, rfl⟩, ⟨rfl, rfl⟩, ⟨rfl, rfl⟩, rfl, rfl⟩ := e
 obtain ⟨_, _, _, _, _, _, _, _, e, m2, g2, m3, s3, m4, g4, m9, s9⟩ := Nd.out.1 hg
 simp only [List.cons.injEq, Value.slice.injEq, true_and, and_true] at e
 obtain ⟨⟨rfl, rfl⟩, ⟨rfl, rfl⟩, ⟨rfl, rfl⟩, rfl, rfl⟩ := e
 obtain ⟨R, hR⟩ : ∃ R, R = eqb f g := ⟨_, rfl⟩
 have HR := Lib.hid hR
 rw [← hR]
 have Z := Lib.hid (HR.out.trans (eqb_no fun e => ne (by rw [e])))
 clear hf hg l2 f2 l3 r3 l4 f4 l9 r9 m2 g2 m3 s3 m4 g4 m9 s9 hR HR
 have q0 : (f.k == g.k) = true := by simpa using e0
 have q1 : (f.name.toList == g.name.toList) = true := by rw [str_beq]; simpa using e1
 have q2 : (f.has == g.has) = true := by simpa using e2
 have q3 : (f.df.toList == g.df.toList) = true := by rw [str_beq]; simpa using e3
 have q4 : (f.size == g.size) = true := by simpa using e4
 have qn : (f.items == g.items) = false := by simpa using ne
 clear ne e0 e1 e2 e3 e4
 go_enter Tryz.func125, Tryz.ntmps125
 simp only [List.append]
 go_wp2_with fail
 go_ret
 exact told_ret Z.out bqq
theorem sameN_6 (f g : Nd) (e0 : f.k = g.k) (e1 : f.name = g.name) (e2 : f.has = g.has) (e3 : f.df = g.df) (e4 : f.size = g.size) (e5 : f.items = g.items)  (ne : f.al ≠ g.al) : SameN f g := by
 intro w A2 A3 A4 A9 D2 D3 D4 D9 a2 a3 a4 a9 d2 d3 d4 d9 hf hg
 have CS := cell_set
 obtain ⟨_, _, _, _, _, _, _, _, e, l2, f2, l3, r3, l4, f4, l9, r9⟩ := Nd.out.1 hf
 simp only [List.cons.injEq, Value.slice.injEq, true_and, and_true] at e
 obtain ⟨⟨rfl, rfl⟩, ⟨rfl, rfl⟩, ⟨rfl, rfl⟩, rfl, rfl⟩ := e
 obtain ⟨_, _, _, _, _, _, _, _, e, m2, g2, m3, s3, m4, g4, m9, s9⟩ := Nd.out.1 hg
 simp only [List.cons.injEq, Value.slice.injEq, true_and, and_true] at e
 obtain ⟨⟨rfl, rfl⟩, ⟨rfl, rfl⟩, ⟨rfl, rfl⟩, rfl, rfl⟩ := e
 obtain ⟨R, hR⟩ : ∃ R, R = eqb f g := ⟨_, rfl⟩
 have HR := Lib.hid hR
 rw [← hR]
 have W2 : Below w.heap.size w ((w.alloc (.cells #[.int .i64 f.k, .string f.name, .slice A2 f.al.length a2, .slice A3 f.fs.length a3, .slice A4 f.sy.length a4, .bool f.has, .string f.df, .int .i64 f.size, .int .i64 f.items, .slice A9 f.br.length a9] 59)).alloc (.cells #[.int .i64 g.k, .string g.name, .slice D2 g.al.length d2, .slice D3 g.fs.length d3, .slice D4 g.sy.length d4, .bool g.has, .string g.df, .int .i64 g.size, .int .i64 g.items, .slice D9 g.br.length d9] 59)) := bqq
 have EA := Lib.hid (fun W (b : Below w.heap.size w W) => equal_any (· < w.heap.size) A2 D2 a2 d2 f.al g.al W (FlS.keep (Below.keeps b) (fun _ h => h) f2) (FlS.keep (Below.keeps b) (fun _ h => h) g2) l2.2 m2.2)
 have EB := Lib.hid (fun W (b : Below w.heap.size w W) => equal_any (· < w.heap.size) A4 D4 a4 d4 f.sy g.sy W (FlS.keep (Below.keeps b) (fun _ h => h) f4) (FlS.keep (Below.keeps b) (fun _ h => h) g4) l4.2 m4.2)
 have EI := Lib.hid (fun W (b : Below w.heap.size w W) => equalI_any A9 D9 a9 d9 f.br g.br W (· < w.heap.size) (r9.below b) (s9.below b) l9.2)
 have EF := Lib.hid (fun W (b : Below w.heap.size w W) => eqfF_any f.fs g.fs W A3 D3 a3 d3 ((r3.below b).more b.size) ((s3.below b).more b.size) l3.2)
 clear hf hg l2 f2 l3 r3 l4 f4 l9 r9 m2 g2 m3 s3 m4 g4 m9 s9 hR
 have q0 : (f.k == g.k) = true := by simpa using e0
 have q1 : (f.name.toList == g.name.toList) = true := by rw [str_beq]; simpa using e1
 have q2 : (f.has == g.has) = true := by simpa using e2
 have q3 : (f.df.toList == g.df.toList) = true := by rw [str_beq]; simpa using e3
 have q4 : (f.size == g.size) = true := by simpa using e4
 have q5 : (f.items == g.items) = true := by simpa using e5
 have Z := Lib.hid (HR.out.trans (eqb_no fun e => ne (by rw [e])))
 have x0 := EA.out
 rw [show eqs f.al g.al = false by unfold eqs; simpa using ne] at x0
 have X0 := Lib.hid x0
 clear x0
 clear e0 e1 e2 e3 e4 e5 ne EA EB EI HR EF W2
 go_enter Tryz.func125, Tryz.ntmps125
 simp only [List.append]
 go_wp2_with fail
 with_reducible refine (X0.out _ bqq).mono ?_
 rintro e w3 ⟨rfl, nd0, rfl⟩
 go_wp2_with fail
 go_ret
 exact told_ret Z.out bqq
theorem sameN_7 (f g : Nd) (e0 : f.k = g.k) (e1 : f.name = g.name) (e2 : f.has = g.has) (e3 : f.df = g.df) (e4 : f.size = g.size) (e5 : f.items = g.items) (u0 : f.al = g.al) (ne : f.sy ≠ g.sy) : SameN f g := by
 intro w A2 A3 A4 A9 D2 D3 D4 D9 a2 a3 a4 a9 d2 d3 d4 d9 hf hg
 have CS := cell_set
 obtain ⟨_, _, _, _, _, _, _, _, e, l2, f2, l3, r3, l4, f4, l9, r9⟩ := Nd.out.1 hf
 simp only [List.cons.injEq, Value.slice.injEq, true_and, and_true] at e
 obtain ⟨⟨rfl, rfl⟩, ⟨rfl, rfl⟩, ⟨rfl, rfl⟩, rfl, rfl⟩ := e
 obtain ⟨_, _, _, _, _, _, _, _, e, m2, g2, m3, s3, m4, g4, m9, s9⟩ := Nd.out.1 hg
 simp only [List.cons.injEq, Value.slice.injEq, true_and, and_true] at e
 obtain ⟨⟨rfl, rfl⟩, ⟨rfl, rfl⟩, ⟨rfl, rfl⟩, rfl, rfl⟩ := e
 obtain ⟨R, hR⟩ : ∃ R, R = eqb f g := ⟨_, rfl⟩
 have HR := Lib.hid hR
 rw [← hR]
 have W2 : Below w.heap.size w ((w.alloc (.cells #[.int .i64 f.k, .string f.name, .slice A2 f.al.length a2, .slice A3 f.fs.length a3, .slice A4 f.sy.length a4, .bool f.has, .string f.df, .int .i64 f.size, .int .i64 f.items, .slice A9 f.br.length a9] 59)).alloc (.cells #[.int .i64 g.k, .string g.name, .slice D2 g.al.length d2, .slice D3 g.fs.length d3, .slice D4 g.sy.length d4, .bool g.has, .string g.df, .int .i64 g.size, .int .i64 g.items, .slice D9 g.br.length d9] 59)) := bqq
 have EA := Lib.hid (fun W (b : Below w.heap.size w W) => equal_any (· < w.heap.size) A2 D2 a2 d2 f.al g.al W (FlS.keep (Below.keeps b) (fun _ h => h) f2) (FlS.keep (Below.keeps b) (fun _ h => h) g2) l2.2 m2.2)
 have EB := Lib.hid (fun W (b : Below w.heap.size w W) => equal_any (· < w.heap.size) A4 D4 a4 d4 f.sy g.sy W (FlS.keep (Below.keeps b) (fun _ h => h) f4) (FlS.keep (Below.keeps b) (fun _ h => h) g4) l4.2 m4.2)
 have EI := Lib.hid (fun W (b : Below w.heap.size w W) => equalI_any A9 D9 a9 d9 f.br g.br W (· < w.heap.size) (r9.below b) (s9.below b) l9.2)
 have EF := Lib.hid (fun W (b : Below w.heap.size w W) => eqfF_any f.fs g.fs W A3 D3 a3 d3 ((r3.below b).more b.size) ((s3.below b).more b.size) l3.2)
 clear hf hg l2 f2 l3 r3 l4 f4 l9 r9 m2 g2 m3 s3 m4 g4 m9 s9 hR
 have q0 : (f.k == g.k) = true := by simpa using e0
 have q1 : (f.name.toList == g.name.toList) = true := by rw [str_beq]; simpa using e1
 have q2 : (f.has == g.has) = true := by simpa using e2
 have q3 : (f.df.toList == g.df.toList) = true := by rw [str_beq]; simpa using e3
 have q4 : (f.size == g.size) = true := by simpa using e4
 have q5 : (f.items == g.items) = true := by simpa using e5
 have Z := Lib.hid (HR.out.trans (eqb_no fun e => ne (by rw [e])))
 have x0 := EA.out
 rw [show eqs f.al g.al = true by unfold eqs; simpa using u0] at x0
 have X0 := Lib.hid x0
 clear x0
 have x1 := EB.out
 rw [show eqs f.sy g.sy = false by unfold eqs; simpa using ne] at x1
 have X1 := Lib.hid x1
 clear x1
 clear e0 e1 e2 e3 e4 e5 u0 ne EA EB EI HR EF W2
 go_enter Tryz.func125, Tryz.ntmps125
 simp only [List.append]
 go_wp2_with fail
 with_reducible refine (X0.out _ bqq).mono ?_
 rintro e w3 ⟨rfl, nd0, rfl⟩
 go_wp2_with fail
 with_reducible refine (X1.out _ bqq).mono ?_
 rintro e w4 ⟨rfl, nd1, rfl⟩
 go_wp2_with fail
 go_ret
 exact told_ret Z.out bqq
theorem sameN_8 (f g : Nd) (e0 : f.k = g.k) (e1 : f.name = g.name) (e2 : f.has = g.has) (e3 : f.df = g.df) (e4 : f.size = g.size) (e5 : f.items = g.items) (u0 : f.al = g.al) (u1 : f.sy = g.sy) (ne : f.br ≠ g.br) : SameN f g := by
 intro w A2 A3 A4 A9 D2 D3 D4 D9 a2 a3 a4 a9 d2 d3 d4 d9 hf hg
 have CS := cell_set
 obtain ⟨_, _, _, _, _, _, _, _, e, l2, f2, l3, r3, l4, f4, l9, r9⟩ := Nd.out.1 hf
 simp only [List.cons.injEq, Value.slice.injEq, true_and, and_true] at e
 obtain ⟨⟨rfl, rfl⟩, ⟨rfl, rfl⟩, ⟨rfl, rfl⟩, rfl, rfl⟩ := e
 obtain ⟨_, _, _, _, _, _, _, _, e, m2, g2, m3, s3, m4, g4, m9, s9⟩ := Nd.out.1 hg
 simp only [List.cons.injEq, Value.slice.injEq, true_and, and_true] at e
 obtain ⟨⟨rfl, rfl⟩, ⟨rfl, rfl⟩, ⟨rfl, rfl⟩, rfl, rfl⟩ := e
 obtain ⟨R, hR⟩ : ∃ R, R = eqb f g := ⟨_, rfl⟩
 have HR := Lib.hid hR
 rw [← hR]
 have W2 : Below w.heap.size w ((w.alloc (.cells #[.int .i64 f.k, .string f.name, .slice A2 f.al.length a2, .slice A3 f.fs.length a3, .slice A4 f.sy.length a4, .bool f.has, .string f.df, .int .i64 f.size, .int .i64 f.items, .slice A9 f.br.length a9] 59)).alloc (.cells #[.int .i64 g.k, .string g.name, .slice D2 g.al.length d2, .slice D3 g.fs.length d3, .slice D4 g.sy.length d4, .bool g.has, .string g.df, .int .i64 g.size, .int .i64 g.items, .slice D9 g.br.length d9] 59)) := bqq
 have EA := Lib.hid (fun W (b : Below w.heap.size w W) => equal_any (· < w.heap.size) A2 D2 a2 d2 f.al g.al W (FlS.keep (Below.keeps b) (fun _ h => h) f2) (FlS.keep (Below.keeps b) (fun _ h => h) g2) l2.2 m2.2)
 have EB := Lib.hid (fun W (b : Below w.heap.size w W) => equal_any (· < w.heap.size) A4 D4 a4 d4 f.sy g.sy W (FlS.keep (Below.keeps b) (fun _ h => h) f4) (FlS.keep (Below.keeps b) (fun _ h => h) g4) l4.2 m4.2)
 have EI := Lib.hid (fun W (b : Below w.heap.size w W) => equalI_any A9 D9 a9 d9 f.br g.br W (· < w.heap.size) (r9.below b) (s9.below b) l9.2)
 have EF := Lib.hid (fun W (b : Below w.heap.size w W) => eqfF_any f.fs g.fs W A3 D3 a3 d3 ((r3.below b).more b.size) ((s3.below b).more b.size) l3.2)
 clear hf hg l2 f2 l3 r3 l4 f4 l9 r9 m2 g2 m3 s3 m4 g4 m9 s9 hR
 have q0 : (f.k == g.k) = true := by simpa using e0
 have q1 : (f.name.toList == g.name.toList) = true := by rw [str_beq]; simpa using e1
 have q2 : (f.has == g.has) = true := by simpa using e2
 have q3 : (f.df.toList == g.df.toList) = true := by rw [str_beq]; simpa using e3
 have q4 : (f.size == g.size) = true := by simpa using e4
 have q5 : (f.items == g.items) = true := by simpa using e5
 have Z := Lib.hid (HR.out.trans (eqb_no fun e => ne (by rw [e])))
 have x0 := EA.out
 rw [show eqs f.al g.al = true by unfold eqs; simpa using u0] at x0
 have X0 := Lib.hid x0
 clear x0
 have x1 := EB.out
 rw [show eqs f.sy g.sy = true by unfold eqs; simpa using u1] at x1
 have X1 := Lib.hid x1
 clear x1
 have x2 := EI.out
 rw [eqb_no ne] at x2
 have X2 := Lib.hid x2
 clear x2
 clear e0 e1 e2 e3 e4 e5 u0 u1 ne EA EB EI HR EF W2
 go_enter Tryz.func125, Tryz.ntmps125
 simp only [List.append]
 go_wp2_with fail
 with_reducible refine (X0.out _ bqq).mono ?_
 rintro e w3 ⟨rfl, nd0, rfl⟩
 go_wp2_with fail
 with_reducible refine (X1.out _ bqq).mono ?_
 rintro e w4 ⟨rfl, nd1, rfl⟩
 go_wp2_with fail
 with_reducible refine (X2.out _ bqq).mono ?_
 rintro e w5 ⟨rfl, nd2, rfl⟩
 go_wp2_with fail
 go_ret
 exact told_ret Z.out bqq
theorem sameN_9 (f g : Nd) (e0 : f.k = g.k) (e1 : f.name = g.name) (e2 : f.has = g.has) (e3 : f.df = g.df) (e4 : f.size = g.size) (e5 : f.items = g.items) (u0 : f.al = g.al) (u1 : f.sy = g.sy) (u2 : f.br = g.br) : SameN f g := by
 intro w A2 A3 A4 A9 D2 D3 D4 D9 a2 a3 a4 a9 d2 d3 d4 d9 hf hg
 have CS := cell_set
 obtain ⟨_, _, _, _, _, _, _, _, e, l2, f2, l3, r3, l4, f4, l9, r9⟩ := Nd.out.1 hf
 simp only [List.cons.injEq, Value.slice.injEq, true_and, and_true] at e
 obtain ⟨⟨rfl, rfl⟩, ⟨rfl, rfl⟩, ⟨rfl, rfl⟩, rfl, rfl⟩ := e
 obtain ⟨_, _, _, _, _, _, _, _, e, m2, g2, m3, s3, m4, g4, m9, s9⟩ := Nd.out.1 hg
 simp only [List.cons.injEq, Value.slice.injEq, true_and, and_true] at e
 obtain ⟨⟨rfl, rfl⟩, ⟨rfl, rfl⟩, ⟨rfl, rfl⟩, rfl, rfl⟩ := e
 obtain ⟨R, hR⟩ : ∃ R, R = eqb f g := ⟨_, rfl⟩
 have HR := Lib.hid hR
 rw [← hR]
 have W2 : Below w.heap.size w ((w.alloc (.cells #[.int .i64 f.k, .string f.name, .slice A2 f.al.length a2, .slice A3 f.fs.length a3, .slice A4 f.sy.length a4, .bool f.has, .string f.df, .int .i64 f.size, .int .i64 f.items, .slice A9 f.br.length a9] 59)).alloc (.cells #[.int .i64 g.k, .string g.name, .slice D2 g.al.length d2, .slice D3 g.fs.length d3, .slice D4 g.sy.length d4, .bool g.has, .string g.df, .int .i64 g.size, .int .i64 g.items, .slice D9 g.br.length d9] 59)) := bqq
 have EA := Lib.hid (fun W (b : Below w.heap.size w W) => equal_any (· < w.heap.size) A2 D2 a2 d2 f.al g.al W (FlS.keep (Below.keeps b) (fun _ h => h) f2) (FlS.keep (Below.keeps b) (fun _ h => h) g2) l2.2 m2.2)
 have EB := Lib.hid (fun W (b : Below w.heap.size w W) => equal_any (· < w.heap.size) A4 D4 a4 d4 f.sy g.sy W (FlS.keep (Below.keeps b) (fun _ h => h) f4) (FlS.keep (Below.keeps b) (fun _ h => h) g4) l4.2 m4.2)
 have EI := Lib.hid (fun W (b : Below w.heap.size w W) => equalI_any A9 D9 a9 d9 f.br g.br W (· < w.heap.size) (r9.below b) (s9.below b) l9.2)
 have EF := Lib.hid (fun W (b : Below w.heap.size w W) => eqfF_any f.fs g.fs W A3 D3 a3 d3 ((r3.below b).more b.size) ((s3.below b).more b.size) l3.2)
 clear hf hg l2 f2 l3 r3 l4 f4 l9 r9 m2 g2 m3 s3 m4 g4 m9 s9 hR
 have q0 : (f.k == g.k) = true := by simpa using e0
 have q1 : (f.name.toList == g.name.toList) = true := by rw [str_beq]; simpa using e1
 have q2 : (f.has == g.has) = true := by simpa using e2
 have q3 : (f.df.toList == g.df.toList) = true := by rw [str_beq]; simpa using e3
 have q4 : (f.size == g.size) = true := by simpa using e4
 have q5 : (f.items == g.items) = true := by simpa using e5
 have Z : Hid (eqb f.fs g.fs = R) := by
  show _ = _
  by_cases e9 : f.fs = g.fs
  · rw [eqb_yes e9, HR.out, eqb_yes (Nd.ext_ e0 e1 e2 e3 e4 e5 u0 u1 u2 e9)]
  · rw [eqb_no e9, HR.out, eqb_no (fun e => e9 (by rw [e]))]
 generalize eqb f.fs g.fs = RR at *
 have x0 := EA.out
 rw [show eqs f.al g.al = true by unfold eqs; simpa using u0] at x0
 have X0 := Lib.hid x0
 clear x0
 have x1 := EB.out
 rw [show eqs f.sy g.sy = true by unfold eqs; simpa using u1] at x1
 have X1 := Lib.hid x1
 clear x1
 have x2 := EI.out
 rw [eqb_yes u2] at x2
 have X2 := Lib.hid x2
 clear x2
 clear e0 e1 e2 e3 e4 e5 u0 u1 u2 EA EB EI HR W2
 go_enter Tryz.func125, Tryz.ntmps125
 simp only [List.append]
 go_wp2_with fail
 with_reducible refine (X0.out _ bqq).mono ?_
 rintro e w3 ⟨rfl, nd0, rfl⟩
 go_wp2_with fail
 with_reducible refine (X1.out _ bqq).mono ?_
 rintro e w4 ⟨rfl, nd1, rfl⟩
 go_wp2_with fail
 with_reducible refine (X2.out _ bqq).mono ?_
 rintro e w5 ⟨rfl, nd2, rfl⟩
 go_wp2_with fail
 with_reducible refine (EF.out _ bqq).mono ?_
 rintro e w6 ⟨rfl, b6⟩
 have bw : Below w.heap.size w w6 := bqq
 go_wp2_with fail
 go_ret
 exact told_ret Z.out.symm bw
theorem sameN_any (f g : Nd) : SameN f g := by
 by_cases e0 : f.k = g.k
 rotate_left
 · exact sameN_0 f g  e0
 by_cases e1 : f.name = g.name
 rotate_left
 · exact sameN_1 f g e0 e1
 by_cases e2 : f.has = g.has
 rotate_left
 · exact sameN_2 f g e0 e1 e2
 by_cases e3 : f.df = g.df
 rotate_left
 · exact sameN_3 f g e0 e1 e2 e3
 by_cases e4 : f.size = g.size
 rotate_left
 · exact sameN_4 f g e0 e1 e2 e3 e4
 by_cases e5 : f.items = g.items
 rotate_left
 · exact sameN_5 f g e0 e1 e2 e3 e4 e5
 by_cases u0 : f.al = g.al
 rotate_left
 · exact sameN_6 f g e0 e1 e2 e3 e4 e5  u0
 by_cases u1 : f.sy = g.sy
 rotate_left
 · exact sameN_7 f g e0 e1 e2 e3 e4 e5 u0 u1
 by_cases u2 : f.br = g.br
 rotate_left
 · exact sameN_8 f g e0 e1 e2 e3 e4 e5 u0 u1 u2
 exact sameN_9 f g e0 e1 e2 e3 e4 e5 u0 u1 u2
end Go.Proofs.YthfoomobicbcpaaGreatDoor
