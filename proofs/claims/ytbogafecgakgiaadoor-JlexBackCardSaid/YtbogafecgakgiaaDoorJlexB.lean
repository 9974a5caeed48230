/- Layer 6, the code's own calls at every input: numbers. -/
import Derived.Test.YtbogafecgakgiaaDoorJlexA
import Derived.Test.YtbogafecgakgiaaDoorJRefE
namespace Go.Proofs.YtbogafecgakgiaaDoor
open Go.ChangeShapes Go.WideShapes Go.ChangeAt Go.RowKit Mem

/-- A word in a block of the call's own is its result. -/
theorem post_rj {fn : Func} {R : Ending → World → Prop} {a : Act} {w : World} {t u : Tmp} {g : Nat} {x0 x1 x2 x3 x4 : Value} (hf : fn.results = #[.cell t 25, .tmp u]) (hd : a.defers = [])
    (hg : a.tmps.getD t undef = .pointer (some ⟨g, 0, none⟩)) (h0 : w.cell? ⟨g, 0, none⟩ = some x0) (h1 : w.cell? ⟨g, 1, none⟩ = some x1) (h2 : w.cell? ⟨g, 2, none⟩ = some x2) (h3 : w.cell? ⟨g, 3, none⟩ = some x3) (h4 : w.cell? ⟨g, 4, none⟩ = some x4)
    (hR : R (.returned (.tuple #[.agg #[x0, x1, x2, x3, x4], a.tmps.getD u undef])) w) : bodyPost Tryd.prog fn R .ret a w := by
  refine bodyPost_ret ?_ hd hR
  rw [Array.getD_eq_getD_getElem?] at hg
  simp [results, hf, hg, go_sem, h0, h1, h2, h3, h4]

/-- The number of N digits, or its negative, and whether int64 has it. -/
def whl (V N : Nat) (m : Bool) : Int × Bool :=
  if 19 < N then (0, false) else match m with
    | true => if V ≤ 9223372036854775808 then (-(V : Int), true) else (0, false)
    | false => if V ≤ 9223372036854775807 then ((V : Int), true) else (0, false)
theorem whl_long {V N : Nat} {m : Bool} (h : 19 < N) : whl V N m = (0, false) := by unfold whl; rw [if_pos h]
theorem whl_below {V N : Nat} (h : ¬ 19 < N) (k : V ≤ 9223372036854775808) : whl V N true = (-(V : Int), true) := by unfold whl; rw [if_neg h]; exact if_pos k
theorem whl_below0 {V N : Nat} (h : ¬ 19 < N) (k : ¬ V ≤ 9223372036854775808) : whl V N true = (0, false) := by unfold whl; rw [if_neg h]; exact if_neg k
theorem whl_up {V N : Nat} (h : ¬ 19 < N) (k : V ≤ 9223372036854775807) : whl V N false = ((V : Int), true) := by unfold whl; rw [if_neg h]; exact if_pos k
theorem whl_up0 {V N : Nat} (h : ¬ 19 < N) (k : ¬ V ≤ 9223372036854775807) : whl V N false = (0, false) := by unfold whl; rw [if_neg h]; exact if_neg k
def Wh (r : Int × Bool) (w : World) (e : Ending) (w' : World) : Prop := e = .returned (.tuple #[.int .i64 r.1, .bool r.2]) ∧ w = w'
theorem wh_ret {r : Int × Bool} {n : Int} {b : Bool} {w : World} (h : r = (n, b)) : Wh r w (.returned (.tuple #[.int .i64 n, .bool b])) w := by subst h; exact ⟨rfl, rfl⟩
theorem neg_back {V : Nat} (h : V ≤ 9223372036854775808) : wrap64 (IntKind.u64.wrap (-(V : Int))) = -(V : Int) := by
  simp only [wrap64, IntKind.wrap, IntKind.bits, IntKind.signed]
  simp; omega

set_option maxRecDepth 100000 in
set_option maxHeartbeats 2000000 in
theorem jwhole_any (A : Option Addr) (c : Nat) (l : List UInt8) (N : Nat) (m : Bool) (w : World) (B : Nat) (hb : Bys w B A l) (hN : N ≤ l.length) (hD : ∀ j, j < N → Jx.isD (Jx.byt l j) = true) :
    Calls Tryd.prog 41 #[.slice A l.length c, .int .i64 (N : Int), .bool m] w (Wh (whl (Jx.val (l.take N)) N m) w) := by
  by_cases h19 : 19 < N
  · rw [whl_long h19]
    clear hD hb
    go_enter Tryd.func41, Tryd.ntmps41
    go_wp2_with fail
    all_goals go_ret2
    all_goals exact ⟨rfl, rfl⟩
  · have CELL := Lib.hid (fun j hj => bys_cell hb (k := j) hj)
    have digits : ∀ i, i < N → 48 ≤ Jx.byt l i ∧ Jx.byt l i ≤ 57 := fun i hi => by
      have := hD i hi; rw [Jx.isD_is] at this; exact this
    have vt := fun j hj => Jx.val_take (d := l) (k := j) hj
    have vl := fun j hj => Jx.val_lt (d := l) j hj
    have HD := Lib.hid hD
    obtain ⟨V, hV⟩ : ∃ V : Nat → Nat, V = fun j => Jx.val (l.take j) := ⟨_, rfl⟩
    have hVj : ∀ j, Jx.val (l.take j) = V j := fun j => by rw [hV]
    simp only [hVj] at vt vl ⊢
    have v0 : V 0 = 0 := by rw [hV]; simp [Jx.val]
    have DGS := Lib.hid digits; have VT := Lib.hid vt; have VL := Lib.hid vl; have V0 := Lib.hid v0
    clear digits vt vl v0 hV hVj hb hD
    go_enter Tryd.func41, Tryd.ntmps41
    go_wp2_with fail
    go_loop [8, 13] (fun u q => ∃ i : Nat, i ≤ N ∧ u = .int .u64 (V i : Int) ∧ q = .int .i64 (i : Int)) (fun _ q => N - (intOf q).toNat)
    case atStart => exact ⟨0, by omega, by rw [V0.out]; rfl, rfl⟩
    case round =>
      obtain ⟨i, hi, rfl, rfl⟩ := hrel
      by_cases hij : i < N
      · have dg := DGS.out i hij
        have vt := VT.out i (by omega)
        have vl := VL.out i (by omega) (fun x hx => HD.out x (by omega))
        have pw : 10 ^ i ≤ 10 ^ 18 := Nat.pow_le_pow_right (by decide) (by omega)
        have vb : V i ≤ 999999999999999999 := by omega
        obtain ⟨b2, off2, rfl, _, cell2⟩ := CELL.out i (by omega)
        clear pw vl
        generalize Jx.byt l i = Y at *
        obtain ⟨y0, y1⟩ := dg
        have VT1 := Lib.hid vt
        generalize V i = U at *
        clear vt
        go_wp2_with fail
        go_round
        case rel => exact ⟨i + 1, by omega, by rw [VT1.out]; congr 1; omega, by go_num⟩
        case measure => simp [intOf]; omega
      · obtain rfl : i = N := by omega
        have vl := VL.out i (by omega) (fun x hx => HD.out x (by omega))
        have pw : 10 ^ i ≤ 10 ^ 19 := Nat.pow_le_pow_right (by decide) (by omega)
        have vb : V i ≤ 9999999999999999999 := by omega
        generalize V i = U at *
        clear pw vl hij hi VT VL V0 DGS HD CELL
        cases m with
        | true =>
          by_cases hk : U ≤ 9223372036854775808
          · have Z := Lib.hid (whl_below (N := i) h19 hk)
            have nb := neg_back hk
            have q : decide ((U : Int) ≤ 9223372036854775808) = true := by simp; omega
            go_wp2_with fail
            all_goals go_ret2
            all_goals exact wh_ret Z.out
          · have Z := Lib.hid (whl_below0 (N := i) h19 hk)
            have q : decide ((U : Int) ≤ 9223372036854775808) = false := by simp; omega
            go_wp2_with fail
            all_goals go_ret2
            all_goals exact wh_ret Z.out
        | false =>
          by_cases hk : U ≤ 9223372036854775807
          · have Z := Lib.hid (whl_up (N := i) h19 hk)
            have q : decide ((U : Int) ≤ 9223372036854775807) = true := by simp; omega
            go_wp2_with fail
            all_goals go_ret2
            all_goals exact wh_ret Z.out
          · have Z := Lib.hid (whl_up0 (N := i) h19 hk)
            have q : decide ((U : Int) ≤ 9223372036854775807) = false := by simp; omega
            go_wp2_with fail
            all_goals go_ret2
            all_goals exact wh_ret Z.out

/-- What a number that no point and no letter stands behind says. -/
theorem numR_whl {m : Nat} {r : List UInt8} (hm : m = 0 ∨ m = 1) (h20 : ¬ (Jx.cnt Jx.isD r = 0 ∨ (Jx.byt r 0 = 48 ∧ 1 < Jx.cnt Jx.isD r))) (h46 : Jx.byt r (Jx.cnt Jx.isD r) ≠ 46) (hL : Jx.isL (Jx.byt r (Jx.cnt Jx.isD r)) = false) :
    Jx.numR m r = if (whl (Jx.val (r.take (Jx.cnt Jx.isD r))) (Jx.cnt Jx.isD r) (m == 1)).2 = true then ((whl (Jx.val (r.take (Jx.cnt Jx.isD r))) (Jx.cnt Jx.isD r) (m == 1)).1, m + Jx.cnt Jx.isD r, 0) else (0, m + Jx.cnt Jx.isD r, 22) := by
  have h20' : ¬ (Jx.cnt Jx.isD r = 0 ∨ (Jx.byt r 0 = 48 ∧ 1 < Jx.cnt Jx.isD r) ∨ (Jx.isL (Jx.byt r (Jx.cnt Jx.isD r)) = true ∧ Jx.byt r (Jx.cnt Jx.isD r) ≠ 101 ∧ Jx.byt r (Jx.cnt Jx.isD r) ≠ 69)) := by
    rw [hL]; rintro (h | h | h)
    · exact h20 (.inl h)
    · exact h20 (.inr h)
    · cases h.1
  have r22 := @numR_22 m r h20'
  have rok := @numR_ok m r h20'
  have rlong := @numR_long r
  rw [hL] at r22 rok
  generalize Jx.cnt Jx.isD r = N at *
  generalize Jx.val (r.take N) = V at *
  by_cases h19 : 19 < N
  · rw [whl_long h19]
    exact r22 (.inr (.inr (.inl (rlong (by omega) h19))))
  · rcases hm with rfl | rfl
    · by_cases hk : V ≤ 9223372036854775807
      · rw [show ((0 : Nat) == 1) = false from rfl, whl_up h19 hk]
        rw [rok (by rintro (h | h | h | h); (· exact h46 h); (· cases h); (· omega); (· omega))]
        rfl
      · rw [show ((0 : Nat) == 1) = false from rfl, whl_up0 h19 hk]
        exact r22 (by omega)
    · by_cases hk : V ≤ 9223372036854775808
      · rw [show ((1 : Nat) == 1) = true from rfl, whl_below h19 hk]
        rw [rok (by rintro (h | h | h | h); (· exact h46 h); (· cases h); (· omega); (· omega))]
        rfl
      · rw [show ((1 : Nat) == 1) = true from rfl, whl_below0 h19 hk]
        exact r22 (by omega)
/-- A number as a word. -/
def numW (r : Int × Nat × Nat) : Jx.Wd × Nat := if r.2.2 = 0 then (⟨9, r.1, [], 0, r.2.1⟩, 0) else (Jx.Wd.zero, r.2.2)
theorem numW_ok {r : Int × Nat × Nat} {n : Int} {k : Nat} (h : r = (n, k, 0)) : numW r = (⟨9, n, [], 0, k⟩, 0) := by subst h; rfl
theorem numW_20 {r : Int × Nat × Nat} {n : Int} {k : Nat} (h : r = (n, k, 20)) : numW r = (⟨0, 0, [], 0, 0⟩, 20) := by subst h; rfl
theorem numW_22 {r : Int × Nat × Nat} {n : Int} {k : Nat} (h : r = (n, k, 22)) : numW r = (⟨0, 0, [], 0, 0⟩, 22) := by subst h; rfl
end Go.Proofs.YtbogafecgakgiaaDoor
