/- Joined by tools/bundle.py: JlexB. -/
import Derived.Test.YthogheglddfniaaGreatDoorW6
import Derived.Test.YthogheglddfniaaGreatDoorW7
import Derived.Test.YthogheglddfniaaGreatDoorW8
import Derived.Test.YthogheglddfniaaGreatDoorW21
import Derived.Test.YthogheglddfniaaGreatDoorW0
set_option maxRecDepth 100000
set_option maxHeartbeats 16000000
namespace Go.Proofs.YthogheglddfniaaGreatDoor
open Go.ChangeShapes Go.WideShapes Go.ChangeAt Go.RowKit Mem
theorem post_rj {fn : Func} {R : Ending → World → Prop} {a : Act} {w : World} {t u : Tmp} {g : Nat} {x0 x1 x2 x3 x4 : Value} (hf : fn.results = #[.cell t 118, .tmp u]) (hd : a.defers = [])
 (hg : a.tmps.getD t undef = .pointer (some ⟨g, 0, none⟩)) (h0 : w.cell? ⟨g, 0, none⟩ = some x0) (h1 : w.cell? ⟨g, 1, none⟩ = some x1) (h2 : w.cell? ⟨g, 2, none⟩ = some x2) (h3 : w.cell? ⟨g, 3, none⟩ = some x3) (h4 : w.cell? ⟨g, 4, none⟩ = some x4)
 (hR : R (.returned (.tuple #[.agg #[x0, x1, x2, x3, x4], a.tmps.getD u undef])) w) : bodyPost Tryz.prog fn R .ret a w := by
 refine bodyPost_ret ?_ hd hR
 rw [Array.getD_eq_getD_getElem?] at hg
 simp [results, hf, hg, go_sem, h0, h1, h2, h3, h4]
def whl (V N : Nat) (m : Bool) : Int × Bool :=
 if 19 < N then (0, false) else match m with
  | true => if V ≤ 9223372036854775808 then (-(V : Int), true) else (0, false)
  | false => if V ≤ 9223372036854775807 then ((V : Int), true) else (0, false)
theorem whl_long {V N : Nat} {m : Bool} (h : 19 < N) : whl V N m = (0, false) := by unfold whl; rw [if_pos h]
theorem whl_below {V N : Nat} (h : ¬ 19 < N) (k : V ≤ 9223372036854775808) : whl V N true = (-(V : Int), true) := by unfold whl; rw [if_neg h]; exact if_pos k
theorem whl_below0 {V N : Nat} (h : ¬ 19 < N) (k : ¬ V ≤ 9223372036854775808) : whl V N true = (0, false) := by unfold whl; rw [if_neg h]; exact if_neg k
theorem whl_up {V N : Nat} (h : ¬ 19 < N) (k : V ≤ 9223372036854775807) : whl V N false = ((V : Int), true) := by unfold whl; rw [if_neg h]; exact if_pos k
theorem whl_up0 {V N : Nat} (h : ¬ 19 < N) (k : ¬ V ≤ 9223372036854775807) : whl V N false = (0, false) := by unfold whl; rw [if_neg h]; exact if_neg k
def Wh (r : Int × Bool) (w : World) (e : Ending) (w' : World) : Prop := e = .returned (.tuple #[.int .i64 r.1, .bool r.2]) ∧ w = w'
theorem wh_ret {r : Int × Bool} {n : Int} {b : Bool} {w : World} (h : r = (n, b)) : Wh r w (.returned (.tuple #[.int .i64 n, .bool b])) w := by subst h; exact ⟨rfl, rfl⟩
theorem neg_back {V : Nat} (h : V ≤ 9223372036854775808) : wrap64 (IntKind.u64.wrap (-(V : Int))) = -(V : Int) := by
 simp only [wrap64, IntKind.wrap, IntKind.bits, IntKind.signed]
 simp; omega
theorem jwhole_any (A : Option Addr) (c : Nat) (l : List UInt8) (N : Nat) (m : Bool) (w : World) (B : Nat) (hb : Bys w B A l) (hN : N ≤ l.length) (hD : ∀ j, j < N → Jx.isD (Jx.byt l j) = true) :
 Calls Tryz.prog 173 #[.slice A l.length c, .int .i64 (N : Int), .bool m] w (Wh (whl (Jx.val (l.take N)) N m) w) := by
 by_cases h19 : 19 < N
 · rw [whl_long h19]
   clear hD hb
   go_enter Tryz.func173, Tryz.ntmps173
   go_wp2_with fail
   all_goals go_ret2
   all_goals exact ⟨rfl, rfl⟩
 · have CELL := Lib.hid (fun j hj => bys_cell hb (k := j) hj)
   have digits : ∀ i, i < N → 48 ≤ Jx.byt l i ∧ Jx.byt l i ≤ 57 := fun i hi => by
    have := hD i hi; rw [Jx.isD_is] at this; exact this
   have vt := fun j hj => Jx.val_take (d := l) (k := j) hj
   have vl := fun j hj => Jx.val_lt (d := l) j hj
   have HD := Lib.hid hD
   obtain ⟨V, hV⟩ : ∃ V : Nat → Nat, V = fun j => Jx.val (l.take j) := ⟨_, rfl⟩
   have hVj : ∀ j, Jx.val (l.take j) = V j := fun j => by rw [hV]
   simp only [hVj] at vt vl ⊢
   have v0 : V 0 = 0 := by rw [hV]; simp [Jx.val]
   have DGS := Lib.hid digits; have VT := Lib.hid vt; have VL := Lib.hid vl; have V0 := Lib.hid v0
   clear digits vt vl v0 hV hVj hb hD
   go_enter Tryz.func173, Tryz.ntmps173
   go_wp2_with fail
   go_loop [8, 13] (fun u q => ∃ i : Nat, i ≤ N ∧ u = .int .u64 (V i : Int) ∧ q = .int .i64 (i : Int)) (fun _ q => N - (intOf q).toNat)
   case atStart => exact ⟨0, by omega, by rw [V0.out]; rfl, rfl⟩
   case round =>
    obtain ⟨i, hi, rfl, rfl⟩ := hrel
    by_cases hij : i < N
    · have dg := DGS.out i hij
      have vt := VT.out i (by omega)
      have vl := VL.out i (by omega) (fun x hx => HD.out x (by omega))
      have pw : 10 ^ i ≤ 10 ^ 18 := Nat.pow_le_pow_right (by decide) (by omega)
      have vb : V i ≤ 999999999999999999 := by omega
      obtain ⟨b2, off2, rfl, _, cell2⟩ := CELL.out i (by omega)
      clear pw vl
      generalize Jx.byt l i = Y at *
      obtain ⟨y0, y1⟩ := dg
      have VT1 := Lib.hid vt
      generalize V i = U at *
      clear vt
      go_wp2_with fail
      go_round
      case rel => exact ⟨i + 1, by omega, by rw [VT1.out]; congr 1; omega, by go_num⟩
      case measure => simp [intOf]; omega
    · obtain rfl : i = N := by omega
      have vl := VL.out i (by omega) (fun x hx => HD.out x (by omega))
      have pw : 10 ^ i ≤ 10 ^ 19 := Nat.pow_le_pow_right (by decide) (by omega)
      have vb : V i ≤ 9999999999999999999 := by omega
      generalize V i = U at *
      clear pw vl hij hi VT VL V0 DGS HD CELL
      cases m with
      | true =>
       by_cases hk : U ≤ 9223372036854775808
       · have Z := Lib.hid (whl_below (N := i) h19 hk)
         have nb := neg_back hk
         have q : decide ((U : Int) ≤ 9223372036854775808) = true := by simp; omega
         go_wp2_with fail
         all_goals go_ret2
         all_goals exact wh_ret Z.out
       · have Z := Lib.hid (whl_below0 (N := i) h19 hk)
         have q : decide ((U : Int) ≤ 9223372036854775808) = false := by simp; omega
         go_wp2_with fail
         all_goals go_ret2
         all_goals exact wh_ret Z.out
      | false =>
       by_cases hk : U ≤ 9223372036854775807
       · have Z := Lib.hid (whl_up (N := i) h19 hk)
         have q : decide ((U : Int) ≤ 9223372036854775807) = true := by simp; omega
         go_wp2_with fail
         all_goals go_ret2
         all_goals exact wh_ret Z.out
       · have Z := Lib.hid (whl_up0 (N := i) h19 hk)
         have q : decide ((U : Int) ≤ 9223372036854775807) = false := by simp; omega
         go_wp2_with fail
         all_goals go_ret2
         all_goals exact wh_ret Z.out
theorem numR_whl {m : Nat} {r : List UInt8} (hm : m = 0 ∨ m = 1) (h20 : ¬ (Jx.cnt Jx.isD r = 0 ∨ (Jx.byt r 0 = 48 ∧ 1 < Jx.cnt Jx.isD r))) (h46 : Jx.byt r (Jx.cnt Jx.isD r) ≠ 46) (hL : Jx.isL (Jx.byt r (Jx.cnt Jx.isD r)) = false) :
 Jx.numR m r = if (whl (Jx.val (r.take (Jx.cnt Jx.isD r))) (Jx.cnt Jx.isD r) (m == 1)).2 = true then ((whl (Jx.val (r.take (Jx.cnt Jx.isD r))) (Jx.cnt Jx.isD r) (m == 1)).1, m + Jx.cnt Jx.isD r, 0) else (0, m + Jx.cnt Jx.isD r, 22) := by
 have h20' : ¬ (Jx.cnt Jx.isD r = 0 ∨ (Jx.byt r 0 = 48 ∧ 1 < Jx.cnt Jx.isD r) ∨ (Jx.isL (Jx.byt r (Jx.cnt Jx.isD r)) = true ∧ Jx.byt r (Jx.cnt Jx.isD r) ≠ 101 ∧ Jx.byt r (Jx.cnt Jx.isD r) ≠ 69)) := by
  rw [hL]; rintro (h | h | h)
  · exact h20 (.inl h)
  · exact h20 (.inr h)
  · cases h.1
 have r22 := @numR_22 m r h20'
 have rok := @numR_ok m r h20'
 have rlong := @numR_long r
 rw [hL] at r22 rok
 generalize Jx.cnt Jx.isD r = N at *
 generalize Jx.val (r.take N) = V at *
 by_cases h19 : 19 < N
 · rw [whl_long h19]
   exact r22 (.inr (.inr (.inl (rlong (by omega) h19))))
 · rcases hm with rfl | rfl
   · by_cases hk : V ≤ 9223372036854775807
     · rw [show ((0 : Nat) == 1) = false from rfl, whl_up h19 hk]
       rw [rok (by rintro (h | h | h | h); (· exact h46 h); (· cases h); (· omega); (· omega))]
       rfl
     · rw [show ((0 : Nat) == 1) = false from rfl, whl_up0 h19 hk]
       exact r22 (by omega)
   · by_cases hk : V ≤ 9223372036854775808
     · rw [show ((1 : Nat) == 1) = true from rfl, whl_below h19 hk]
       rw [rok (by rintro (h | h | h | h); (· exact h46 h); (· cases h); (· omega); (· omega))]
       rfl
     · rw [show ((1 : Nat) == 1) = true from rfl, whl_below0 h19 hk]
       exact r22 (by omega)
def numW (r : Int × Nat × Nat) : Jx.Wd × Nat := if r.2.2 = 0 then (⟨9, r.1, [], 0, r.2.1⟩, 0) else (Jx.Wd.zero, r.2.2)
theorem numW_ok {r : Int × Nat × Nat} {n : Int} {k : Nat} (h : r = (n, k, 0)) : numW r = (⟨9, n, [], 0, k⟩, 0) := by subst h; rfl
theorem numW_20 {r : Int × Nat × Nat} {n : Int} {k : Nat} (h : r = (n, k, 20)) : numW r = (⟨0, 0, [], 0, 0⟩, 20) := by subst h; rfl
theorem numW_22 {r : Int × Nat × Nat} {n : Int} {k : Nat} (h : r = (n, k, 22)) : numW r = (⟨0, 0, [], 0, 0⟩, 22) := by subst h; rfl
end Go.Proofs.YthogheglddfniaaGreatDoor
namespace Go.Proofs.YthogheglddfniaaGreatDoor
open Go.ChangeShapes Go.WideShapes Go.ChangeAt Go.RowKit Mem
def unt (l : List UInt8) (k : Nat) : Int × Nat × Bool := if Jx.byt l k = 92 ∧ Jx.byt l (k + 1) = 117 ∧ 0 ≤ Jx.four (l.drop (k + 2)) then (Jx.four (l.drop (k + 2)), k + 6, true) else (0, k, false)
theorem unt_yes {l : List UInt8} {k : Nat} (h1 : Jx.byt l k = 92) (h2 : Jx.byt l (k + 1) = 117) (h3 : 0 ≤ Jx.four (l.drop (k + 2))) : unt l k = (Jx.four (l.drop (k + 2)), k + 6, true) := by unfold unt; rw [if_pos ⟨h1, h2, h3⟩]
theorem unt_no {l : List UInt8} {k : Nat} (h : ¬ (Jx.byt l k = 92 ∧ Jx.byt l (k + 1) = 117 ∧ 0 ≤ Jx.four (l.drop (k + 2)))) : unt l k = (0, k, false) := by unfold unt; rw [if_neg h]
theorem unt_short {l : List UInt8} {k : Nat} (h : l.length < k + 6) : unt l k = (0, k, false) := unt_no fun ⟨_, _, h3⟩ => by
 have := Jx.four_len h3; rw [List.length_drop] at this; omega
def Un (r : Int × Nat × Bool) (w : World) (e : Ending) (w' : World) : Prop := e = .returned (.tuple #[.int .i32 r.1, .int .i64 (r.2.1 : Int), .bool r.2.2]) ∧ w = w'
theorem un_ret {r : Int × Nat × Bool} {n : Int} {k : Nat} {z : Int} {b : Bool} {w : World} (h : r = (n, k, b)) (hz : z = (k : Int)) : Un r w (.returned (.tuple #[.int .i32 n, .int .i64 z, .bool b])) w := by subst h; subst hz; exact ⟨rfl, rfl⟩
theorem or_hex {a h : Int} (h0 : 0 ≤ a) (h1 : a ≤ 4095) (h2 : 0 ≤ h) (h3 : h < 16) : bits .or .i32 (a * 16) h = a * 16 + h :=
 bits_join .i32 31 (by decide) wraps_i32 4 (a * 16) h (by omega) (by omega) (by omega) h2 (by omega) (by omega)
theorem acc_lt (l : List UInt8) (j : Nat) (hj : j < 4) (h : ∀ i, i < j → 0 ≤ Jx.hex (Jx.byt l i)) : 0 ≤ acc l j ∧ acc l j ≤ 4095 := by
 obtain rfl | rfl | rfl | rfl : j = 0 ∨ j = 1 ∨ j = 2 ∨ j = 3 := by omega
 all_goals
  have a := Jx.hex_le (Jx.byt l 0); have b := Jx.hex_le (Jx.byt l 1); have c := Jx.hex_le (Jx.byt l 2)
  have x0 := h 0; have x1 := h 1; have x2 := h 2
  simp only [acc]
  omega
theorem two_bytes {l : List UInt8} {k : Nat} (h : k + 2 ≤ l.length) : (l.drop k).take 2 = [UInt8.ofNat (Jx.byt l k), UInt8.ofNat (Jx.byt l (k + 1))] := by
 rw [Num.drop_at (l := l) (p := k) (by omega), Num.drop_at (l := l) (p := k + 1) (by omega), ← Jx.byt_toNat, ← Jx.byt_toNat]
 rfl
theorem two_is {l : List UInt8} {k : Nat} (h : k + 2 ≤ l.length) : ((l.drop k).take 2 = [92, 117]) ↔ (Jx.byt l k = 92 ∧ Jx.byt l (k + 1) = 117) := by
 rw [two_bytes h]
 have a := Jx.byt_lt l k; have b := Jx.byt_lt l (k + 1)
 constructor
 · intro e
   simp only [List.cons.injEq, and_true] at e
   have e1 := congrArg UInt8.toNat e.1; have e2 := congrArg UInt8.toNat e.2
   rw [Num.nat8 a] at e1; rw [Num.nat8 b] at e2
   exact ⟨e1, e2⟩
 · rintro ⟨e1, e2⟩; rw [e1, e2]; rfl
theorem unit_any (A : Option Addr) (c : Nat) (l : List UInt8) (k : Nat) (w : World) (B : Nat) (hb : Bys w B A l) (hl : l.length ≤ 60000000000) (hc : l.length ≤ c) (hk : k ≤ l.length) :
 Calls Tryz.prog 191 #[.slice A l.length c, .int .i64 (k : Int)] w (Un (unt l k) w) := by
 by_cases hs : l.length < k + 6
 · rw [unt_short hs]
   have q : decide ((l.length : Int) < (k : Int) + 2 + 4) = true := by simp; omega
   clear hb
   go_enter Tryz.func191, Tryz.ntmps191
   go_wp2_with fail
   all_goals go_ret3
   all_goals exact un_ret rfl rfl
 · obtain ⟨b, off, rfl, hB, _⟩ := bys_cell hb (k := k) (by omega)
   have hconv := bys_mid hb k 2 2 (c - k) (by rw [List.length_take, List.length_drop]; omega)
   have two := two_is (l := l) (k := k) (by omega)
   have CELL := Lib.hid (fun j hj => bys_cell hb (k := j) hj)
   have yes := @unt_yes l k; have no := @unt_no l k
   have bd := Jx.byt_drop l (k + 2)
   obtain ⟨D, hD⟩ : ∃ D, D = l.drop (k + 2) := ⟨_, rfl⟩
   rw [← hD] at yes no bd
   generalize unt l k = R at *
   generalize hX : (l.drop k).take 2 = X at *
   have seq : ((⟨X.toArray⟩ : ByteArray).toList == (⟨#[92, 117]⟩ : ByteArray).toList) = decide (X = [92, 117]) := str_eq X [92, 117]
   have hck : c ≠ k := by omega
   have BD := Lib.hid bd
   clear hX hD bd hb
   by_cases hX : X = [92, 117]
   · have t := two.1 hX
     subst hX
     rw [decide_eq_true rfl] at seq
     have YES := Lib.hid (yes t.1 t.2); have NO := Lib.hid (fun (h : ¬ 0 ≤ Jx.four D) => no (fun k => h k.2.2))
     clear yes no t two
     go_enter Tryz.func191, Tryz.ntmps191
     go_wp2_with fail
     go_loop [4, 5, 28] (fun n x q => ∃ j : Nat, j ≤ 4 ∧ Hid (Hx D j) ∧ q = .int .i64 (j : Int) ∧ n = .int .i32 (acc D j) ∧ x = .int .i64 ((k : Int) + 6)) (fun _ _ q => 4 - (intOf q).toNat)
     case atStart => exact ⟨0, by omega, fun i hi => absurd hi (Nat.not_lt_zero _), rfl, rfl, by first | rfl | go_num⟩
     case round =>
      obtain ⟨j, hj, H, rfl, rfl, rfl⟩ := hrel
      by_cases h4 : j < 4
      · have al := acc_lt D j h4 H.out
        have e1 := BD.out j
        have bad := fun h => Hx.bad (l := D) (j := j) h4 h
        have go := H.out.go
        have ac : acc D (j + 1) = acc D j * 16 + Jx.hex (Jx.byt D j) := rfl
        rw [e1] at bad go ac
        have x256 := Jx.byt_lt l (k + 2 + j)
        obtain ⟨b2, off2, e2, _, cell2⟩ := CELL.out (k + 2 + j) (by omega)
        simp only [Option.some.injEq, Addr.mk.injEq, and_true] at e2
        obtain ⟨rfl, rfl⟩ := e2
        have hx := Lib.hid (hex_any (Jx.byt l (k + 2 + j)) x256)
        have hle := Jx.hex_le (Jx.byt l (k + 2 + j))
        obtain ⟨V, hV⟩ : ∃ V, V = acc D j := ⟨_, rfl⟩
        rw [← hV] at ac al ⊢
        generalize Jx.byt l (k + 2 + j) = X at *
        generalize Jx.hex X = h at *
        have AC := Lib.hid ac
        have GO := Lib.hid go
        have BAD := Lib.hid bad
        obtain ⟨v0, v1⟩ := al
        clear e1 hV ac go bad
        by_cases h0 : 0 ≤ h
        · rw [show max h 0 = h by omega, show decide (0 ≤ h) = true by simpa using h0] at hx
          have oh := or_hex v0 v1 h0 (by omega)
          go_wp2_with fail
          with_reducible refine (hx.out _).mono ?_
          rintro e w1 ⟨rfl, rfl⟩
          go_wp2_with fail
          go_round
          case rel => exact ⟨j + 1, by omega, GO.out h0, by go_num, by rw [AC.out], rfl⟩
          case measure => simp [intOf]; omega
        · rw [show max h 0 = 0 by omega, show decide (0 ≤ h) = false by simpa using h0] at hx
          have Z := Lib.hid (NO.out (by rw [BAD.out (by omega)]; decide))
          go_wp2_with fail
          with_reducible refine (hx.out _).mono ?_
          rintro e w1 ⟨rfl, rfl⟩
          go_wp2_with fail
          all_goals go_ret3
          all_goals exact un_ret Z.out rfl
      · obtain rfl : j = 4 := by omega
        have al := acc_le D 4 (by omega) H.out
        have Z := Lib.hid (YES.out (by rw [H.out.done]; exact al.1))
        have E := Lib.hid H.out.done
        go_wp2_with fail
        all_goals go_ret3
        all_goals exact un_ret (k := k + 6) (by rw [← E.out]; exact Z.out) (by push_cast; omega)
   · have Z := Lib.hid (no (fun t => hX (two.2 ⟨t.1, t.2.1⟩)))
     rw [decide_eq_false hX] at seq
     have seq2 : (X == [92, 117]) = false := by simpa using hX
     have HX := Lib.hid hX
     clear yes no two hX
     go_enter Tryz.func191, Tryz.ntmps191
     go_wp2_with fail
     all_goals go_ret3
     all_goals exact un_ret Z.out rfl
def sho (l : List UInt8) (k : Nat) : Nat × Nat × Nat := match Jx.esc (Jx.byt l (k + 1)) with
 | some v => (v, k + 2, 0)
 | none => (0, k, 20)
theorem sho_yes {l : List UInt8} {k v : Nat} (h : Jx.esc (Jx.byt l (k + 1)) = some v) : sho l k = (v, k + 2, 0) := by unfold sho; rw [h]
theorem sho_no {l : List UInt8} {k : Nat} (h : Jx.esc (Jx.byt l (k + 1)) = none) : sho l k = (0, k, 20) := by unfold sho; rw [h]
def Ch (r : Int × Nat × Nat) (w : World) (e : Ending) (w' : World) : Prop := e = .returned (.tuple #[.int .i32 r.1, .int .i64 (r.2.1 : Int), .int .i64 (r.2.2 : Int)]) ∧ Below w.heap.size w w'
theorem ch_ret {r : Int × Nat × Nat} {n z y : Int} {k e : Nat} {w w' : World} (h : r = (n, k, e)) (hz : z = (k : Int)) (hy : y = (e : Int)) (hb : Below w.heap.size w w') : Ch r w (.returned (.tuple #[.int .i32 n, .int .i64 z, .int .i64 y])) w' := by
 subst h; subst hz; subst hy; exact ⟨rfl, hb⟩
def Chs (r : Nat × Nat × Nat) (w : World) (e : Ending) (w' : World) : Prop := e = .returned (.tuple #[.int .i32 (r.1 : Int), .int .i64 (r.2.1 : Int), .int .i64 (r.2.2 : Int)]) ∧ w = w'
theorem chs_ret {r : Nat × Nat × Nat} {n z y : Int} {m k e : Nat} {w : World} (h : r = (m, k, e)) (hn : n = (m : Int)) (hz : z = (k : Int)) (hy : y = (e : Int)) : Chs r w (.returned (.tuple #[.int .i32 n, .int .i64 z, .int .i64 y])) w := by
 subst h; subst hn; subst hz; subst hy; exact ⟨rfl, rfl⟩
theorem place_esc : ∀ x : Nat, x < 256 → Jx.esc x = none → place [34, 92, 98, 102, 110, 114, 116, 47] x = -1 := by
 have h : ∀ x : Fin 256, Jx.esc x.val = none → place [34, 92, 98, 102, 110, 114, 116, 47] x.val = -1 := by decide +kernel
 exact fun x hx => h ⟨x, hx⟩
theorem shortEscape_any (A : Option Addr) (c : Nat) (l : List UInt8) (k : Nat) (w : World) (B : Nat) (hb : Bys w B A l) (hl : l.length ≤ 60000000000) (hk : k < l.length) :
 Calls Tryz.prog 192 #[.slice A l.length c, .int .i64 (k : Int)] w (Chs (sho l k) w) := by
 have yes := fun v => @sho_yes l k v; have no := @sho_no l k
 generalize sho l k = R at *
 by_cases hs : k + 1 < l.length
 · obtain ⟨b, off, rfl, hB, hcell⟩ := bys_cell hb hs
   have P := Lib.hid (fun z (hz : z = (Jx.byt l (k + 1) : Int)) W => hz ▸ place_any ⟨#[34, 92, 98, 102, 110, 114, 116, 47]⟩ (Jx.byt l (k + 1)) W)
   rw [show (⟨#[34, 92, 98, 102, 110, 114, 116, 47]⟩ : ByteArray).data.toList = [34, 92, 98, 102, 110, 114, 116, 47] from rfl] at P
   have pn := place_esc _ (Jx.byt_lt l (k + 1))
   have ew := esc_ways (Jx.byt l (k + 1))
   have q : (((k : Int) + 1) == (l.length : Int)) = false := by rw [beq_eq_false_iff_ne]; omega
   generalize Jx.byt l (k + 1) = X at *
   have NO := Lib.hid no; have YES := Lib.hid yes; have PN := Lib.hid pn
   clear hb no yes pn
   rcases ew with rfl | rfl | rfl | rfl | rfl | rfl | rfl | rfl | ⟨hn, n1, n2, n3, n4, n5, n6, n7, n8⟩
   · have Z := Lib.hid (YES.out _ (rfl : Jx.esc 34 = some 34))
     rw [show place [34, 92, 98, 102, 110, 114, 116, 47] 34 = 0 by decide +kernel] at P
     go_enter Tryz.func192, Tryz.ntmps192
     go_wp2_with fail
     with_reducible refine (P.out _ (by omega) _).mono ?_
     rintro e w1 ⟨rfl, rfl⟩
     go_wp2_with fail
     all_goals go_ret3
     all_goals exact chs_ret Z.out (by decide +kernel) (by push_cast; omega) rfl
   · have Z := Lib.hid (YES.out _ (rfl : Jx.esc 47 = some 47))
     rw [show place [34, 92, 98, 102, 110, 114, 116, 47] 47 = 7 by decide +kernel] at P
     go_enter Tryz.func192, Tryz.ntmps192
     go_wp2_with fail
     with_reducible refine (P.out _ (by omega) _).mono ?_
     rintro e w1 ⟨rfl, rfl⟩
     go_wp2_with fail
     all_goals go_ret3
     all_goals exact chs_ret Z.out (by decide +kernel) (by push_cast; omega) rfl
   · have Z := Lib.hid (YES.out _ (rfl : Jx.esc 92 = some 92))
     rw [show place [34, 92, 98, 102, 110, 114, 116, 47] 92 = 1 by decide +kernel] at P
     go_enter Tryz.func192, Tryz.ntmps192
     go_wp2_with fail
     with_reducible refine (P.out _ (by omega) _).mono ?_
     rintro e w1 ⟨rfl, rfl⟩
     go_wp2_with fail
     all_goals go_ret3
     all_goals exact chs_ret Z.out (by decide +kernel) (by push_cast; omega) rfl
   · have Z := Lib.hid (YES.out _ (rfl : Jx.esc 98 = some 8))
     rw [show place [34, 92, 98, 102, 110, 114, 116, 47] 98 = 2 by decide +kernel] at P
     go_enter Tryz.func192, Tryz.ntmps192
     go_wp2_with fail
     with_reducible refine (P.out _ (by omega) _).mono ?_
     rintro e w1 ⟨rfl, rfl⟩
     go_wp2_with fail
     all_goals go_ret3
     all_goals exact chs_ret Z.out (by decide +kernel) (by push_cast; omega) rfl
   · have Z := Lib.hid (YES.out _ (rfl : Jx.esc 102 = some 12))
     rw [show place [34, 92, 98, 102, 110, 114, 116, 47] 102 = 3 by decide +kernel] at P
     go_enter Tryz.func192, Tryz.ntmps192
     go_wp2_with fail
     with_reducible refine (P.out _ (by omega) _).mono ?_
     rintro e w1 ⟨rfl, rfl⟩
     go_wp2_with fail
     all_goals go_ret3
     all_goals exact chs_ret Z.out (by decide +kernel) (by push_cast; omega) rfl
   · have Z := Lib.hid (YES.out _ (rfl : Jx.esc 110 = some 10))
     rw [show place [34, 92, 98, 102, 110, 114, 116, 47] 110 = 4 by decide +kernel] at P
     go_enter Tryz.func192, Tryz.ntmps192
     go_wp2_with fail
     with_reducible refine (P.out _ (by omega) _).mono ?_
     rintro e w1 ⟨rfl, rfl⟩
     go_wp2_with fail
     all_goals go_ret3
     all_goals exact chs_ret Z.out (by decide +kernel) (by push_cast; omega) rfl
   · have Z := Lib.hid (YES.out _ (rfl : Jx.esc 114 = some 13))
     rw [show place [34, 92, 98, 102, 110, 114, 116, 47] 114 = 5 by decide +kernel] at P
     go_enter Tryz.func192, Tryz.ntmps192
     go_wp2_with fail
     with_reducible refine (P.out _ (by omega) _).mono ?_
     rintro e w1 ⟨rfl, rfl⟩
     go_wp2_with fail
     all_goals go_ret3
     all_goals exact chs_ret Z.out (by decide +kernel) (by push_cast; omega) rfl
   · have Z := Lib.hid (YES.out _ (rfl : Jx.esc 116 = some 9))
     rw [show place [34, 92, 98, 102, 110, 114, 116, 47] 116 = 6 by decide +kernel] at P
     go_enter Tryz.func192, Tryz.ntmps192
     go_wp2_with fail
     with_reducible refine (P.out _ (by omega) _).mono ?_
     rintro e w1 ⟨rfl, rfl⟩
     go_wp2_with fail
     all_goals go_ret3
     all_goals exact chs_ret Z.out (by decide +kernel) (by push_cast; omega) rfl
   · have Z := Lib.hid (NO.out hn)
     rw [PN.out hn] at P
     clear hn n1 n2 n3 n4 n5 n6 n7 n8
     go_enter Tryz.func192, Tryz.ntmps192
     go_wp2_with fail
     with_reducible refine (P.out _ (by omega) _).mono ?_
     rintro e w1 ⟨rfl, rfl⟩
     go_wp2_with fail
     all_goals go_ret3
     all_goals exact chs_ret Z.out rfl rfl rfl
 · have Z := Lib.hid (no (by rw [Jx.byt_end (by omega)]; rfl))
   have q : (((k : Int) + 1) == (l.length : Int)) = true := by rw [beq_iff_eq]; omega
   clear yes no hb
   go_enter Tryz.func192, Tryz.ntmps192
   go_wp2_with fail
   all_goals go_ret3
   all_goals exact chs_ret Z.out rfl rfl rfl
end Go.Proofs.YthogheglddfniaaGreatDoor
namespace Go.Proofs.YthogheglddfniaaGreatDoor
open Go.ChangeShapes Go.WideShapes Go.ChangeAt Go.RowKit Mem
def escR (l : List UInt8) (k : Nat) : Int × Nat × Nat :=
 if (unt l k).2.2 = true then
  if (unt l (k + 6)).2.2 = true ∧ pair (unt l k).1 (unt l (k + 6)).1 ≠ 0 then (pair (unt l k).1 (unt l (k + 6)).1, k + 12, 0) else ((unt l k).1, k + 6, 0)
 else (((sho l k).1 : Int), (sho l k).2)
def chrR (l : List UInt8) (k : Nat) : Int × Nat × Nat :=
 if Jx.byt l k = 92 then escR l k else if Jx.byt l k < 32 then (0, k, 20) else (((Num.fst (l.drop k)).1 : Int), k + (Num.fst (l.drop k)).2.1, (Num.fst (l.drop k)).2.2)
theorem chrR_esc {l : List UInt8} {k : Nat} (h : Jx.byt l k = 92) : chrR l k = escR l k := by unfold chrR; rw [if_pos h]
theorem chrR_low {l : List UInt8} {k : Nat} (h : Jx.byt l k < 32) : chrR l k = (0, k, 20) := by unfold chrR; rw [if_neg (by omega), if_pos h]
theorem chrR_plain {l : List UInt8} {k : Nat} (h : Jx.byt l k ≠ 92) (h2 : 32 ≤ Jx.byt l k) : chrR l k = (((Num.fst (l.drop k)).1 : Int), k + (Num.fst (l.drop k)).2.1, (Num.fst (l.drop k)).2.2) := by unfold chrR; rw [if_neg h, if_neg (by omega)]
theorem escR_sho {l : List UInt8} {k : Nat} (h : (unt l k).2.2 = false) : escR l k = (((sho l k).1 : Int), (sho l k).2) := by unfold escR; rw [if_neg (by simp [h])]
theorem escR_pair {l : List UInt8} {k : Nat} (h : (unt l k).2.2 = true) (h2 : (unt l (k + 6)).2.2 = true) (h3 : pair (unt l k).1 (unt l (k + 6)).1 ≠ 0) : escR l k = (pair (unt l k).1 (unt l (k + 6)).1, k + 12, 0) := by unfold escR; rw [if_pos h, if_pos ⟨h2, h3⟩]
theorem escR_one {l : List UInt8} {k : Nat} (h : (unt l k).2.2 = true) (h2 : ¬ ((unt l (k + 6)).2.2 = true ∧ pair (unt l k).1 (unt l (k + 6)).1 ≠ 0)) : escR l k = ((unt l k).1, k + 6, 0) := by unfold escR; rw [if_pos h, if_neg h2]
theorem unt_true {l : List UInt8} {k : Nat} (h : (unt l k).2.2 = true) : Jx.byt l k = 92 ∧ Jx.byt l (k + 1) = 117 ∧ 0 ≤ Jx.four (l.drop (k + 2)) ∧ unt l k = (Jx.four (l.drop (k + 2)), k + 6, true) := by
 by_cases g : Jx.byt l k = 92 ∧ Jx.byt l (k + 1) = 117 ∧ 0 ≤ Jx.four (l.drop (k + 2))
 · exact ⟨g.1, g.2.1, g.2.2, unt_yes g.1 g.2.1 g.2.2⟩
 · rw [unt_no g] at h; cases h
theorem unt_false {l : List UInt8} {k : Nat} (h : (unt l k).2.2 = false) : unt l k = (0, k, false) ∧ ¬ (Jx.byt l k = 92 ∧ Jx.byt l (k + 1) = 117 ∧ 0 ≤ Jx.four (l.drop (k + 2))) := by
 by_cases g : Jx.byt l k = 92 ∧ Jx.byt l (k + 1) = 117 ∧ 0 ≤ Jx.four (l.drop (k + 2))
 · rw [unt_yes g.1 g.2.1 g.2.2] at h; cases h
 · exact ⟨unt_no g, g⟩
theorem esc_small {c v : Nat} (h : Jx.esc c = some v) : v < 128 := by
 rcases esc_ways c with rfl | rfl | rfl | rfl | rfl | rfl | rfl | rfl | ⟨e, _⟩
 all_goals first | (rw [e] at h; cases h) | (have : v = _ := (Option.some.inj h).symm; subst this; decide)
theorem pair_some {h l : Int} (e : pair h l ≠ 0) : 55296 ≤ h ∧ h ≤ 56319 ∧ 56320 ≤ l ∧ l ≤ 57343 := by
 by_cases k : h < 55296 ∨ 56319 < h ∨ l < 56320 ∨ 57343 < l
 · exact absurd (pair_no k) e
 · omega
theorem item_chr {l : List UInt8} {k : Nat} (h0 : 32 ≤ Jx.byt l k) :
 (∃ c n, chrR l k = (c, n, 0) ∧ Num.isC c ∧ k ≤ n ∧ Jx.item (l.drop k) = some (Num.ue c.toNat, n - k)) ∨ (((chrR l k).2.2 ≠ 0 ∨ ¬ Num.isC (chrR l k).1) ∧ Jx.item (l.drop k) = none) := by
 have bd := Jx.byt_drop l k
 have b0 : Jx.byt (l.drop k) 0 = Jx.byt l k := by rw [bd, Nat.add_zero]
 have b1 := bd 1
 by_cases h : Jx.byt l k = 92
 · rw [chrR_esc h]
   by_cases hu : (unt l k).2.2 = true
   · obtain ⟨_, u1, u2, ue⟩ := unt_true hu
     have it := item_u (l := l.drop k) (by rw [b0]; exact h) (by rw [b1]; exact u1)
     rw [List.drop_drop] at it
     have a4 : Jx.byt (l.drop (k + 2)) 4 = Jx.byt l (k + 6) := Jx.byt_drop l (k + 2) 4
     have a5 : Jx.byt (l.drop (k + 2)) 5 = Jx.byt l (k + 7) := Jx.byt_drop l (k + 2) 5
     have a6 : (l.drop (k + 2)).drop 6 = l.drop (k + 8) := List.drop_drop
     rw [it]
     have fl := Jx.four_le (l.drop (k + 2))
     by_cases h2 : (unt l (k + 6)).2.2 = true ∧ pair (unt l k).1 (unt l (k + 6)).1 ≠ 0
     · obtain ⟨v0, v1, v2, ve⟩ := unt_true h2.1
       have p := h2.2
       have er := escR_pair hu h2.1 h2.2
       rw [ue, ve] at p er
       have ps := pair_some p
       have z := uni_pair (l := l.drop (k + 2)) ps.1 ps.2.1 (by rw [a4]; exact v0) (by rw [a5]; exact v1) (by rw [a6]; exact ps.2.2.1) (by rw [a6]; exact ps.2.2.2)
       refine .inl ⟨_, _, er, ?_, by omega, ?_⟩
       · show Num.isC (pair (Jx.four (l.drop (k + 2))) (Jx.four (l.drop (k + 6 + 2))))
         rw [pair_ok ps.1 ps.2.1 ps.2.2.1 ps.2.2.2]; have := ps; unfold Num.isC; simp only at this; omega
       · rw [z, a6, show k + 12 - k = 12 by omega]
     · have er := escR_one hu h2
       rw [ue] at er h2
       rw [er]
       by_cases fc : Num.isC (Jx.four (l.drop (k + 2)))
       · exact .inl ⟨_, _, rfl, fc, by omega, by rw [uni_one fc, show k + 6 - k = 6 by omega]⟩
       · refine .inr ⟨.inr fc, ?_⟩
         by_cases g : 55296 ≤ Jx.four (l.drop (k + 2)) ∧ Jx.four (l.drop (k + 2)) ≤ 56319 ∧ Jx.byt (l.drop (k + 2)) 4 = 92 ∧ Jx.byt (l.drop (k + 2)) 5 = 117
         · refine uni_pair0 g.1 g.2.1 g.2.2.1 g.2.2.2 fun q => h2 ?_
           rw [a6] at q
           rw [a4, a5] at g
           have y := unt_yes g.2.2.1 g.2.2.2 (by show 0 ≤ Jx.four (l.drop (k + 8)); omega)
           rw [y]
           refine ⟨rfl, ?_⟩
           show pair _ (Jx.four (l.drop (k + 8))) ≠ 0
           rw [pair_ok g.1 g.2.1 q.1 q.2]; omega
         · exact uni_none fc g
   · have hu' : (unt l k).2.2 = false := by simpa using hu
     obtain ⟨ue, un⟩ := unt_false hu'
     rw [escR_sho hu']
     cases he : Jx.esc (Jx.byt l (k + 1)) with
     | some v =>
      rw [sho_yes he]
      have hv := esc_small he
      refine .inl ⟨(v : Int), k + 2, rfl, by unfold Num.isC; omega, by omega, ?_⟩
      rw [item_esc (v := v) (by rw [b0]; exact h) (by rw [b1]; exact he), Int.toNat_natCast, Num.ue_1 hv, show k + 2 - k = 2 by omega]
     | none =>
      rw [sho_no he]
      refine .inr ⟨.inl (by simp), ?_⟩
      by_cases h1 : Jx.byt l (k + 1) = 117
      · rw [item_u (by rw [b0]; exact h) (by rw [b1]; exact h1), List.drop_drop]
        have neg : Jx.four (l.drop (k + 2)) < 0 := by
         rcases Int.lt_or_le (Jx.four (l.drop (k + 2))) 0 with q | q
         · exact q
         · exact absurd ⟨h, h1, q⟩ un
        exact uni_none (by unfold Num.isC; omega) (by omega)
      · exact item_none (by rw [b0]; exact h) (by rw [b1]; exact he) (by rw [b1]; exact h1)
 · rw [chrR_plain h h0]
   rcases Num.fst_err (l.drop k) with ⟨c, n, e, n0, n4, nl⟩ | ⟨e, _⟩ | e
   · obtain ⟨ic, ub, _⟩ := Num.ue_fst e
     rw [e]
     refine .inl ⟨(c : Int), k + n, rfl, ic, by omega, ?_⟩
     rw [item_plain (by rw [b0]; exact h) e, Int.toNat_natCast, ub, show k + n - k = n by omega]
   · rw [e]; exact .inr ⟨.inl (by simp), item_bad (by rw [b0]; exact h) (by rw [e]; decide)⟩
   · rw [e]; exact .inr ⟨.inl (by simp), item_bad (by rw [b0]; exact h) (by rw [e]; decide)⟩
theorem unt_next (l : List UInt8) (k : Nat) (hk : k ≤ l.length) : (unt l k).2.1 ≤ l.length ∧ ((unt l k).2.2 = true → (unt l k).2.1 = k + 6) := by
 cases h : (unt l k).2.2 with
 | true =>
  obtain ⟨_, _, u2, e⟩ := unt_true h
  have := Jx.four_len u2
  rw [List.length_drop] at this
  rw [e]; exact ⟨by show k + 6 ≤ l.length; omega, fun _ => rfl⟩
 | false => rw [(unt_false h).1]; exact ⟨hk, fun h => by cases h⟩
theorem escape_any (A : Option Addr) (c : Nat) (l : List UInt8) (k : Nat) (w : World) (hb : Bys w w.heap.size A l) (hl : l.length ≤ 60000000000) (hc : l.length ≤ c) (hk : k < l.length) :
 Calls Tryz.prog 183 #[.slice A l.length c, .int .i64 (k : Int)] w (Ch (escR l k) w) := by
 have U1 := Lib.hid (unit_any A c l k w _ hb hl hc (by omega))
 have S1 := Lib.hid (shortEscape_any A c l k w _ hb hl hk)
 have un := unt_next l k (by omega)
 have es := @escR_sho l k; have ep := @escR_pair l k; have eo := @escR_one l k
 have u2 := fun h => unit_any A c l (k + 6) w _ hb hl hc h
 have so := @sho_yes l k
 generalize escR l k = R at *
 obtain ⟨⟨H, n1, ok1⟩, h1⟩ : ∃ r, r = unt l k := ⟨_, rfl⟩
 rw [← h1] at U1 un es ep eo
 cases ok1 with
 | false =>
  have ES := Lib.hid (es rfl)
  obtain ⟨⟨v, n, e⟩, h2⟩ : ∃ r, r = sho l k := ⟨_, rfl⟩
  rw [← h2] at S1 ES
  clear es ep eo u2 un h1 h2 so
  go_enter Tryz.func183, Tryz.ntmps183
  go_wp2_with fail
  with_reducible refine U1.out.mono ?_
  rintro e w1 ⟨rfl, rfl⟩
  go_wp2_with fail
  with_reducible refine S1.out.mono ?_
  rintro e w1 ⟨rfl, rfl⟩
  go_wp2_with fail
  go_ret3
  exact ch_ret ES.out rfl rfl (Below.refl _ _)
 | true =>
  have n6 := un.2 rfl
  simp only at n6
  subst n6
  have nl : k + 6 ≤ l.length := un.1
  have U2 := Lib.hid (u2 nl)
  obtain ⟨⟨L, n2, ok2⟩, h2⟩ : ∃ r, r = unt l (k + 6) := ⟨_, rfl⟩
  have un2 := unt_next l (k + 6) nl
  rw [← h2] at U2 ep eo un2
  have UA : Hid (∀ z, z = ((k + 6 : Nat) : Int) → Calls Tryz.prog 191 #[.slice A l.length c, .int .i64 z] w (Un (L, n2, ok2) w)) := fun z hz => by rw [hz]; exact U2.out
  clear es u2 un h1 h2 so S1 U2
  cases ok2 with
  | false =>
   have Z := Lib.hid (eo rfl (fun h => by cases h.1))
   clear ep eo un2
   go_enter Tryz.func183, Tryz.ntmps183
   go_wp2_with fail
   with_reducible refine U1.out.mono ?_
   rintro e w1 ⟨rfl, rfl⟩
   go_wp2_with fail
   with_reducible refine (UA.out _ (by first | rfl | (push_cast; omega))).mono ?_
   rintro e w1 ⟨rfl, rfl⟩
   go_wp2_with fail
   go_ret3
   exact ch_ret Z.out (by push_cast; omega) rfl (Below.refl _ _)
  | true =>
   have P := Lib.hid (Pair_any H L w)
   have n12 := un2.2 rfl
   simp only at n12
   subst n12
   by_cases hp : pair H L = 0
   · have Z := Lib.hid (eo rfl (fun h => h.2 hp))
     rw [show Pairs H L w = fun e w' => e = .returned (.tuple #[.int .i32 (0 : Int), .bool false]) ∧ w = w' from by unfold Pairs; rw [hp]; rfl] at P
     clear ep eo un2 hp
     go_enter Tryz.func183, Tryz.ntmps183
     go_wp2_with fail
     with_reducible refine U1.out.mono ?_
     rintro e w1 ⟨rfl, rfl⟩
     go_wp2_with fail
     with_reducible refine (UA.out _ (by first | rfl | (push_cast; omega))).mono ?_
     rintro e w1 ⟨rfl, rfl⟩
     go_wp2_with fail
     with_reducible refine P.out.mono ?_
     rintro e w1 ⟨rfl, rfl⟩
     go_wp2_with fail
     go_ret3
     exact ch_ret Z.out (by push_cast; omega) rfl (Below.refl _ _)
   · have Z := Lib.hid (ep rfl rfl hp)
     rw [show Pairs H L w = fun e w' => e = .returned (.tuple #[.int .i32 (pair H L), .bool true]) ∧ w = w' from by unfold Pairs; rw [show (!(pair H L == 0)) = true by simpa using hp]] at P
     generalize pair H L = PV at *
     clear ep eo un2 hp
     go_enter Tryz.func183, Tryz.ntmps183
     go_wp2_with fail
     with_reducible refine U1.out.mono ?_
     rintro e w1 ⟨rfl, rfl⟩
     go_wp2_with fail
     with_reducible refine (UA.out _ (by first | rfl | (push_cast; omega))).mono ?_
     rintro e w1 ⟨rfl, rfl⟩
     go_wp2_with fail
     with_reducible refine P.out.mono ?_
     rintro e w1 ⟨rfl, rfl⟩
     go_wp2_with fail
     go_ret3
     exact ch_ret Z.out (by push_cast; omega) rfl (Below.refl _ _)
theorem character_any (A : Option Addr) (c : Nat) (l : List UInt8) (k : Nat) (w : World) (hL : Laid w) (hb : Bys w w.heap.size A l) (hl : l.length ≤ 60000000000) (hc : l.length ≤ c) (hk : k < l.length) :
 Calls Tryz.prog 169 #[.slice A l.length c, .int .i64 (k : Int)] w (Ch (chrR l k) w) := by
 have E1 := Lib.hid (escape_any A c l k w hb hl hc hk)
 have T1 := Take_any A c l (k : Int) w hL hb (by omega) hc
 rw [tk_good (by omega)] at T1
 have TK := Lib.hid T1
 obtain ⟨b, off, rfl, hB, hcell⟩ := bys_cell hb hk
 have ce := @chrR_esc l k; have cl := @chrR_low l k; have cp := @chrR_plain l k
 generalize chrR l k = R at *
 generalize Jx.byt l k = X at *
 clear T1 hb
 by_cases h : X = 92
 · have Z := Lib.hid (ce h)
   obtain ⟨⟨v, n, e⟩, h2⟩ : ∃ r, r = escR l k := ⟨_, rfl⟩
   rw [← h2] at E1 Z
   have q : ((X : Int) == 92) = true := by rw [beq_iff_eq]; omega
   clear ce cl cp h2 h
   go_enter Tryz.func169, Tryz.ntmps169
   go_wp2_with fail
   with_reducible refine E1.out.mono ?_
   rintro e w1 ⟨rfl, h1⟩
   go_wp2_with fail
   go_ret3
   exact ch_ret Z.out rfl rfl h1
 · have q : ((X : Int) == 92) = false := by rw [beq_eq_false_iff_ne]; omega
   by_cases h32 : X < 32
   · have Z := Lib.hid (cl h32)
     clear ce cl cp h
     go_enter Tryz.func169, Tryz.ntmps169
     go_wp2_with fail
     all_goals go_ret3
     all_goals exact ch_ret Z.out rfl rfl (Below.refl _ _)
   · have Z := Lib.hid (cp h (by omega))
     obtain ⟨⟨v, n, e⟩, h2⟩ : ∃ r, r = Num.fst (l.drop k) := ⟨_, rfl⟩
     rw [← h2] at TK Z
     clear ce cl cp h2 h
     go_enter Tryz.func169, Tryz.ntmps169
     go_wp2_with fail
     with_reducible refine TK.out.mono ?_
     rintro e w1 ⟨rfl, h1⟩
     go_wp2_with fail
     go_ret3
     exact ch_ret Z.out (by push_cast; omega) rfl h1
end Go.Proofs.YthogheglddfniaaGreatDoor
