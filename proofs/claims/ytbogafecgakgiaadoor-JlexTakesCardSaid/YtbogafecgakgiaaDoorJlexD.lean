/- Layer 6, the code's own calls at every input: what a text goes on with. -/
import Derived.Test.YtbogafecgakgiaaDoorJlexC
import Derived.Test.YtbogafecgakgiaaDoorUtfB
namespace Go.Proofs.YtbogafecgakgiaaDoor
open Go.ChangeShapes Go.WideShapes Go.ChangeAt Go.RowKit Mem

/-- An escape: its character, where it ends, the error. -/
def escR (l : List UInt8) (k : Nat) : Int × Nat × Nat :=
  if (unt l k).2.2 = true then
    if (unt l (k + 6)).2.2 = true ∧ pair (unt l k).1 (unt l (k + 6)).1 ≠ 0 then (pair (unt l k).1 (unt l (k + 6)).1, k + 12, 0) else ((unt l k).1, k + 6, 0)
  else (((sho l k).1 : Int), (sho l k).2)
/-- What a text goes on with, as the code has it: a character or a surrogate, where it ends, the error. -/
def chrR (l : List UInt8) (k : Nat) : Int × Nat × Nat :=
  if Jx.byt l k = 92 then escR l k else if Jx.byt l k < 32 then (0, k, 20) else (((Num.fst (l.drop k)).1 : Int), k + (Num.fst (l.drop k)).2.1, (Num.fst (l.drop k)).2.2)
theorem chrR_esc {l : List UInt8} {k : Nat} (h : Jx.byt l k = 92) : chrR l k = escR l k := by unfold chrR; rw [if_pos h]
theorem chrR_low {l : List UInt8} {k : Nat} (h : Jx.byt l k < 32) : chrR l k = (0, k, 20) := by unfold chrR; rw [if_neg (by omega), if_pos h]
theorem chrR_plain {l : List UInt8} {k : Nat} (h : Jx.byt l k ≠ 92) (h2 : 32 ≤ Jx.byt l k) : chrR l k = (((Num.fst (l.drop k)).1 : Int), k + (Num.fst (l.drop k)).2.1, (Num.fst (l.drop k)).2.2) := by unfold chrR; rw [if_neg h, if_neg (by omega)]
theorem escR_sho {l : List UInt8} {k : Nat} (h : (unt l k).2.2 = false) : escR l k = (((sho l k).1 : Int), (sho l k).2) := by unfold escR; rw [if_neg (by simp [h])]
theorem escR_pair {l : List UInt8} {k : Nat} (h : (unt l k).2.2 = true) (h2 : (unt l (k + 6)).2.2 = true) (h3 : pair (unt l k).1 (unt l (k + 6)).1 ≠ 0) : escR l k = (pair (unt l k).1 (unt l (k + 6)).1, k + 12, 0) := by unfold escR; rw [if_pos h, if_pos ⟨h2, h3⟩]
theorem escR_one {l : List UInt8} {k : Nat} (h : (unt l k).2.2 = true) (h2 : ¬ ((unt l (k + 6)).2.2 = true ∧ pair (unt l k).1 (unt l (k + 6)).1 ≠ 0)) : escR l k = ((unt l k).1, k + 6, 0) := by unfold escR; rw [if_pos h, if_neg h2]
theorem unt_true {l : List UInt8} {k : Nat} (h : (unt l k).2.2 = true) : Jx.byt l k = 92 ∧ Jx.byt l (k + 1) = 117 ∧ 0 ≤ Jx.four (l.drop (k + 2)) ∧ unt l k = (Jx.four (l.drop (k + 2)), k + 6, true) := by
  by_cases g : Jx.byt l k = 92 ∧ Jx.byt l (k + 1) = 117 ∧ 0 ≤ Jx.four (l.drop (k + 2))
  · exact ⟨g.1, g.2.1, g.2.2, unt_yes g.1 g.2.1 g.2.2⟩
  · rw [unt_no g] at h; cases h
theorem unt_false {l : List UInt8} {k : Nat} (h : (unt l k).2.2 = false) : unt l k = (0, k, false) ∧ ¬ (Jx.byt l k = 92 ∧ Jx.byt l (k + 1) = 117 ∧ 0 ≤ Jx.four (l.drop (k + 2))) := by
  by_cases g : Jx.byt l k = 92 ∧ Jx.byt l (k + 1) = 117 ∧ 0 ≤ Jx.four (l.drop (k + 2))
  · rw [unt_yes g.1 g.2.1 g.2.2] at h; cases h
  · exact ⟨unt_no g, g⟩
theorem esc_small {c v : Nat} (h : Jx.esc c = some v) : v < 128 := by
  rcases esc_ways c with rfl | rfl | rfl | rfl | rfl | rfl | rfl | rfl | ⟨e, _⟩
  all_goals first | (rw [e] at h; cases h) | (have : v = _ := (Option.some.inj h).symm; subst this; decide)
theorem pair_zero {h l : Int} (e : pair h l = 0) : h < 55296 ∨ 56319 < h ∨ l < 56320 ∨ 57343 < l := by
  by_cases k : h < 55296 ∨ 56319 < h ∨ l < 56320 ∨ 57343 < l
  · exact k
  · rw [pair_ok (by omega) (by omega) (by omega) (by omega)] at e; omega
theorem pair_some {h l : Int} (e : pair h l ≠ 0) : 55296 ≤ h ∧ h ≤ 56319 ∧ 56320 ≤ l ∧ l ≤ 57343 := by
  by_cases k : h < 55296 ∨ 56319 < h ∨ l < 56320 ∨ 57343 < l
  · exact absurd (pair_no k) e
  · omega
/-- The code's character, put, is the document's. -/
theorem item_chr {l : List UInt8} {k : Nat} (h0 : 32 ≤ Jx.byt l k) :
    (∃ c n, chrR l k = (c, n, 0) ∧ Num.isC c ∧ k ≤ n ∧ Jx.item (l.drop k) = some (Num.ue c.toNat, n - k)) ∨ (((chrR l k).2.2 ≠ 0 ∨ ¬ Num.isC (chrR l k).1) ∧ Jx.item (l.drop k) = none) := by
  have bd := Jx.byt_drop l k
  have b0 : Jx.byt (l.drop k) 0 = Jx.byt l k := by rw [bd, Nat.add_zero]
  have b1 := bd 1
  by_cases h : Jx.byt l k = 92
  · rw [chrR_esc h]
    by_cases hu : (unt l k).2.2 = true
    · obtain ⟨_, u1, u2, ue⟩ := unt_true hu
      have it := item_u (l := l.drop k) (by rw [b0]; exact h) (by rw [b1]; exact u1)
      rw [List.drop_drop] at it
      have a4 : Jx.byt (l.drop (k + 2)) 4 = Jx.byt l (k + 6) := Jx.byt_drop l (k + 2) 4
      have a5 : Jx.byt (l.drop (k + 2)) 5 = Jx.byt l (k + 7) := Jx.byt_drop l (k + 2) 5
      have a6 : (l.drop (k + 2)).drop 6 = l.drop (k + 8) := List.drop_drop
      rw [it]
      have fl := Jx.four_le (l.drop (k + 2))
      by_cases h2 : (unt l (k + 6)).2.2 = true ∧ pair (unt l k).1 (unt l (k + 6)).1 ≠ 0
      · obtain ⟨v0, v1, v2, ve⟩ := unt_true h2.1
        have p := h2.2
        have er := escR_pair hu h2.1 h2.2
        rw [ue, ve] at p er
        have ps := pair_some p
        have z := uni_pair (l := l.drop (k + 2)) ps.1 ps.2.1 (by rw [a4]; exact v0) (by rw [a5]; exact v1) (by rw [a6]; exact ps.2.2.1) (by rw [a6]; exact ps.2.2.2)
        refine .inl ⟨_, _, er, ?_, by omega, ?_⟩
        · show Num.isC (pair (Jx.four (l.drop (k + 2))) (Jx.four (l.drop (k + 6 + 2))))
          rw [pair_ok ps.1 ps.2.1 ps.2.2.1 ps.2.2.2]; have := ps; unfold Num.isC; simp only at this; omega
        · rw [z, a6, show k + 12 - k = 12 by omega]
      · have er := escR_one hu h2
        rw [ue] at er h2
        rw [er]
        by_cases fc : Num.isC (Jx.four (l.drop (k + 2)))
        · exact .inl ⟨_, _, rfl, fc, by omega, by rw [uni_one fc, show k + 6 - k = 6 by omega]⟩
        · refine .inr ⟨.inr fc, ?_⟩
          by_cases g : 55296 ≤ Jx.four (l.drop (k + 2)) ∧ Jx.four (l.drop (k + 2)) ≤ 56319 ∧ Jx.byt (l.drop (k + 2)) 4 = 92 ∧ Jx.byt (l.drop (k + 2)) 5 = 117
          · refine uni_pair0 g.1 g.2.1 g.2.2.1 g.2.2.2 fun q => h2 ?_
            rw [a6] at q
            rw [a4, a5] at g
            have y := unt_yes g.2.2.1 g.2.2.2 (by show 0 ≤ Jx.four (l.drop (k + 8)); omega)
            rw [y]
            refine ⟨rfl, ?_⟩
            show pair _ (Jx.four (l.drop (k + 8))) ≠ 0
            rw [pair_ok g.1 g.2.1 q.1 q.2]; omega
          · exact uni_none fc g
    · have hu' : (unt l k).2.2 = false := by simpa using hu
      obtain ⟨ue, un⟩ := unt_false hu'
      rw [escR_sho hu']
      cases he : Jx.esc (Jx.byt l (k + 1)) with
      | some v =>
        rw [sho_yes he]
        have hv := esc_small he
        refine .inl ⟨(v : Int), k + 2, rfl, by unfold Num.isC; omega, by omega, ?_⟩
        rw [item_esc (v := v) (by rw [b0]; exact h) (by rw [b1]; exact he), Int.toNat_natCast, Num.ue_1 hv, show k + 2 - k = 2 by omega]
      | none =>
        rw [sho_no he]
        refine .inr ⟨.inl (by simp), ?_⟩
        by_cases h1 : Jx.byt l (k + 1) = 117
        · rw [item_u (by rw [b0]; exact h) (by rw [b1]; exact h1), List.drop_drop]
          have neg : Jx.four (l.drop (k + 2)) < 0 := by
            rcases Int.lt_or_le (Jx.four (l.drop (k + 2))) 0 with q | q
            · exact q
            · exact absurd ⟨h, h1, q⟩ un
          exact uni_none (by unfold Num.isC; omega) (by omega)
        · exact item_none (by rw [b0]; exact h) (by rw [b1]; exact he) (by rw [b1]; exact h1)
  · rw [chrR_plain h h0]
    rcases Num.fst_err (l.drop k) with ⟨c, n, e, n0, n4, nl⟩ | ⟨e, _⟩ | e
    · obtain ⟨ic, ub, _⟩ := Num.ue_fst e
      rw [e]
      refine .inl ⟨(c : Int), k + n, rfl, ic, by omega, ?_⟩
      rw [item_plain (by rw [b0]; exact h) e, Int.toNat_natCast, ub, show k + n - k = n by omega]
    · rw [e]; exact .inr ⟨.inl (by simp), item_bad (by rw [b0]; exact h) (by rw [e]; decide)⟩
    · rw [e]; exact .inr ⟨.inl (by simp), item_bad (by rw [b0]; exact h) (by rw [e]; decide)⟩

theorem unt_next (l : List UInt8) (k : Nat) (hk : k ≤ l.length) : (unt l k).2.1 ≤ l.length ∧ ((unt l k).2.2 = true → (unt l k).2.1 = k + 6) := by
  cases h : (unt l k).2.2 with
  | true =>
    obtain ⟨_, _, u2, e⟩ := unt_true h
    have := Jx.four_len u2
    rw [List.length_drop] at this
    rw [e]; exact ⟨by show k + 6 ≤ l.length; omega, fun _ => rfl⟩
  | false => rw [(unt_false h).1]; exact ⟨hk, fun h => by cases h⟩

set_option maxHeartbeats 1000000 in
theorem escape_any (A : Option Addr) (c : Nat) (l : List UInt8) (k : Nat) (w : World) (hb : Bys w w.heap.size A l) (hl : l.length ≤ 60000000000) (hc : l.length ≤ c) (hk : k < l.length) :
    Calls Tryd.prog 47 #[.slice A l.length c, .int .i64 (k : Int)] w (Ch (escR l k) w) := by
  have U1 := Lib.hid (unit_any A c l k w _ hb hl hc (by omega))
  have S1 := Lib.hid (shortEscape_any A c l k w _ hb hl hk)
  have un := unt_next l k (by omega)
  have es := @escR_sho l k; have ep := @escR_pair l k; have eo := @escR_one l k
  have u2 := fun h => unit_any A c l (k + 6) w _ hb hl hc h
  have so := @sho_yes l k
  generalize escR l k = R at *
  obtain ⟨⟨H, n1, ok1⟩, h1⟩ : ∃ r, r = unt l k := ⟨_, rfl⟩
  rw [← h1] at U1 un es ep eo
  cases ok1 with
  | false =>
    have ES := Lib.hid (es rfl)
    obtain ⟨⟨v, n, e⟩, h2⟩ : ∃ r, r = sho l k := ⟨_, rfl⟩
    rw [← h2] at S1 ES
    clear es ep eo u2 un h1 h2 so
    go_enter Tryd.func47, Tryd.ntmps47
    go_wp2_with fail
    with_reducible refine U1.out.mono ?_
    rintro e w1 ⟨rfl, rfl⟩
    go_wp2_with fail
    with_reducible refine S1.out.mono ?_
    rintro e w1 ⟨rfl, rfl⟩
    go_wp2_with fail
    go_ret3
    exact ch_ret ES.out rfl rfl (Below.refl _ _)
  | true =>
    have n6 := un.2 rfl
    simp only at n6
    subst n6
    have nl : k + 6 ≤ l.length := un.1
    have U2 := Lib.hid (u2 nl)
    obtain ⟨⟨L, n2, ok2⟩, h2⟩ : ∃ r, r = unt l (k + 6) := ⟨_, rfl⟩
    have un2 := unt_next l (k + 6) nl
    rw [← h2] at U2 ep eo un2
    have UA : Hid (∀ z, z = ((k + 6 : Nat) : Int) → Calls Tryd.prog 51 #[.slice A l.length c, .int .i64 z] w (Un (L, n2, ok2) w)) := fun z hz => by rw [hz]; exact U2.out
    clear es u2 un h1 h2 so S1 U2
    cases ok2 with
    | false =>
      have Z := Lib.hid (eo rfl (fun h => by cases h.1))
      clear ep eo un2
      go_enter Tryd.func47, Tryd.ntmps47
      go_wp2_with fail
      with_reducible refine U1.out.mono ?_
      rintro e w1 ⟨rfl, rfl⟩
      go_wp2_with fail
      with_reducible refine (UA.out _ (by first | rfl | (push_cast; omega))).mono ?_
      rintro e w1 ⟨rfl, rfl⟩
      go_wp2_with fail
      go_ret3
      exact ch_ret Z.out (by push_cast; omega) rfl (Below.refl _ _)
    | true =>
      have P := Lib.hid (Pair_any H L w)
      have n12 := un2.2 rfl
      simp only at n12
      subst n12
      by_cases hp : pair H L = 0
      · have Z := Lib.hid (eo rfl (fun h => h.2 hp))
        rw [show Pairs H L w = fun e w' => e = .returned (.tuple #[.int .i32 (0 : Int), .bool false]) ∧ w = w' from by unfold Pairs; rw [hp]; rfl] at P
        clear ep eo un2 hp
        go_enter Tryd.func47, Tryd.ntmps47
        go_wp2_with fail
        with_reducible refine U1.out.mono ?_
        rintro e w1 ⟨rfl, rfl⟩
        go_wp2_with fail
        with_reducible refine (UA.out _ (by first | rfl | (push_cast; omega))).mono ?_
        rintro e w1 ⟨rfl, rfl⟩
        go_wp2_with fail
        with_reducible refine P.out.mono ?_
        rintro e w1 ⟨rfl, rfl⟩
        go_wp2_with fail
        go_ret3
        exact ch_ret Z.out (by push_cast; omega) rfl (Below.refl _ _)
      · have Z := Lib.hid (ep rfl rfl hp)
        rw [show Pairs H L w = fun e w' => e = .returned (.tuple #[.int .i32 (pair H L), .bool true]) ∧ w = w' from by unfold Pairs; rw [show (!(pair H L == 0)) = true by simpa using hp]] at P
        generalize pair H L = PV at *
        clear ep eo un2 hp
        go_enter Tryd.func47, Tryd.ntmps47
        go_wp2_with fail
        with_reducible refine U1.out.mono ?_
        rintro e w1 ⟨rfl, rfl⟩
        go_wp2_with fail
        with_reducible refine (UA.out _ (by first | rfl | (push_cast; omega))).mono ?_
        rintro e w1 ⟨rfl, rfl⟩
        go_wp2_with fail
        with_reducible refine P.out.mono ?_
        rintro e w1 ⟨rfl, rfl⟩
        go_wp2_with fail
        go_ret3
        exact ch_ret Z.out (by push_cast; omega) rfl (Below.refl _ _)

theorem character_any (A : Option Addr) (c : Nat) (l : List UInt8) (k : Nat) (w : World) (hL : Laid w) (hb : Bys w w.heap.size A l) (hl : l.length ≤ 60000000000) (hc : l.length ≤ c) (hk : k < l.length) :
    Calls Tryd.prog 37 #[.slice A l.length c, .int .i64 (k : Int)] w (Ch (chrR l k) w) := by
  have E1 := Lib.hid (escape_any A c l k w hb hl hc hk)
  have T1 := Take_any A c l (k : Int) w hL hb (by omega) hc
  rw [tk_good (by omega)] at T1
  have TK := Lib.hid T1
  obtain ⟨b, off, rfl, hB, hcell⟩ := bys_cell hb hk
  have ce := @chrR_esc l k; have cl := @chrR_low l k; have cp := @chrR_plain l k
  generalize chrR l k = R at *
  generalize Jx.byt l k = X at *
  clear T1 hb
  by_cases h : X = 92
  · have Z := Lib.hid (ce h)
    obtain ⟨⟨v, n, e⟩, h2⟩ : ∃ r, r = escR l k := ⟨_, rfl⟩
    rw [← h2] at E1 Z
    have q : ((X : Int) == 92) = true := by rw [beq_iff_eq]; omega
    clear ce cl cp h2 h
    go_enter Tryd.func37, Tryd.ntmps37
    go_wp2_with fail
    with_reducible refine E1.out.mono ?_
    rintro e w1 ⟨rfl, h1⟩
    go_wp2_with fail
    go_ret3
    exact ch_ret Z.out rfl rfl h1
  · have q : ((X : Int) == 92) = false := by rw [beq_eq_false_iff_ne]; omega
    by_cases h32 : X < 32
    · have Z := Lib.hid (cl h32)
      clear ce cl cp h
      go_enter Tryd.func37, Tryd.ntmps37
      go_wp2_with fail
      all_goals go_ret3
      all_goals exact ch_ret Z.out rfl rfl (Below.refl _ _)
    · have Z := Lib.hid (cp h (by omega))
      obtain ⟨⟨v, n, e⟩, h2⟩ : ∃ r, r = Num.fst (l.drop k) := ⟨_, rfl⟩
      rw [← h2] at TK Z
      clear ce cl cp h2 h
      go_enter Tryd.func37, Tryd.ntmps37
      go_wp2_with fail
      with_reducible refine TK.out.mono ?_
      rintro e w1 ⟨rfl, h1⟩
      go_wp2_with fail
      go_ret3
      exact ch_ret Z.out (by push_cast; omega) rfl h1
end Go.Proofs.YtbogafecgakgiaaDoor
