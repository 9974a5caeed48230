/- The document's own answers for layer 6, at every input: numbers. -/
import Derived.Test.YtheeahnhdehloaaDoorJRef
namespace Go.Proofs.YtheeahnhdehloaaDoor
open Go.ChangeShapes Go.WideShapes Go.ChangeAt Go.RowKit Mem

/-- A number, where it ends, the error. -/
def Nb (r : Int × Nat × Nat) (k : Nat) (w : World) (e : Ending) (w' : World) : Prop := e = .returned (.tuple #[.int .i64 r.1, .int .i64 ((k + r.2.1 : Nat) : Int), .int .i64 (r.2.2 : Int)]) ∧ w = w'
theorem nb_ret {r : Int × Nat × Nat} {k : Nat} {w : World} {a b c : Int} (h1 : a = r.1) (h2 : b = ((k + r.2.1 : Nat) : Int)) (h3 : c = (r.2.2 : Int)) : Nb r k w (.returned (.tuple #[.int .i64 a, .int .i64 b, .int .i64 c])) w := by
  subst h1; subst h2; subst h3; exact ⟨rfl, rfl⟩
/-- What a number's digits say. -/
theorem numR_20 {m : Nat} {r : List UInt8} (h : Jx.cnt Jx.isD r = 0 ∨ (Jx.byt r 0 = 48 ∧ 1 < Jx.cnt Jx.isD r) ∨ (Jx.isL (Jx.byt r (Jx.cnt Jx.isD r)) = true ∧ Jx.byt r (Jx.cnt Jx.isD r) ≠ 101 ∧ Jx.byt r (Jx.cnt Jx.isD r) ≠ 69)) : Jx.numR m r = (0, m + Jx.cnt Jx.isD r, 20) := by
  unfold Jx.numR; rw [if_pos h]
theorem numR_22 {m : Nat} {r : List UInt8} (h : ¬ (Jx.cnt Jx.isD r = 0 ∨ (Jx.byt r 0 = 48 ∧ 1 < Jx.cnt Jx.isD r) ∨ (Jx.isL (Jx.byt r (Jx.cnt Jx.isD r)) = true ∧ Jx.byt r (Jx.cnt Jx.isD r) ≠ 101 ∧ Jx.byt r (Jx.cnt Jx.isD r) ≠ 69)))
    (h2 : Jx.byt r (Jx.cnt Jx.isD r) = 46 ∨ Jx.isL (Jx.byt r (Jx.cnt Jx.isD r)) = true ∨ 9223372036854775808 < Jx.val (r.take (Jx.cnt Jx.isD r)) ∨ (Jx.val (r.take (Jx.cnt Jx.isD r)) = 9223372036854775808 ∧ m = 0)) : Jx.numR m r = (0, m + Jx.cnt Jx.isD r, 22) := by
  unfold Jx.numR; rw [if_neg h, if_pos h2]
theorem numR_ok {m : Nat} {r : List UInt8} (h : ¬ (Jx.cnt Jx.isD r = 0 ∨ (Jx.byt r 0 = 48 ∧ 1 < Jx.cnt Jx.isD r) ∨ (Jx.isL (Jx.byt r (Jx.cnt Jx.isD r)) = true ∧ Jx.byt r (Jx.cnt Jx.isD r) ≠ 101 ∧ Jx.byt r (Jx.cnt Jx.isD r) ≠ 69)))
    (h2 : ¬ (Jx.byt r (Jx.cnt Jx.isD r) = 46 ∨ Jx.isL (Jx.byt r (Jx.cnt Jx.isD r)) = true ∨ 9223372036854775808 < Jx.val (r.take (Jx.cnt Jx.isD r)) ∨ (Jx.val (r.take (Jx.cnt Jx.isD r)) = 9223372036854775808 ∧ m = 0))) :
    Jx.numR m r = (if m = 0 then (Jx.val (r.take (Jx.cnt Jx.isD r)) : Int) else -(Jx.val (r.take (Jx.cnt Jx.isD r)) : Int), m + Jx.cnt Jx.isD r, 0) := by
  unfold Jx.numR; rw [if_neg h, if_neg h2]
theorem numR_long {r : List UInt8} (h0 : Jx.byt r 0 ≠ 48) (h : 19 < Jx.cnt Jx.isD r) : 9223372036854775808 < Jx.val (r.take (Jx.cnt Jx.isD r)) := by
  have hl := Jx.cnt_le Jx.isD r
  have h1 := Jx.cnt_in Jx.isD r (k := 0) (by omega)
  rw [Jx.isD_is] at h1
  have g := Jx.val_ge (d := r) (by omega) (Jx.cnt Jx.isD r - 1) (by omega)
  rw [show Jx.cnt Jx.isD r - 1 + 1 = Jx.cnt Jx.isD r by omega] at g
  have p : 10 ^ 19 ≤ 10 ^ (Jx.cnt Jx.isD r - 1) := Nat.pow_le_pow_right (by decide) (by omega)
  omega
theorem neg_nought : wrap64 (wrap64 (-wrap64 (IntKind.u64.wrap (-1))) - 1) = 0 := by kernel_rfl

set_option maxRecDepth 100000 in
set_option maxHeartbeats 4000000 in
theorem rnumber_0 (A : Option Addr) (c : Nat) (l : List UInt8) (p : Nat) (h45 : Jx.byt l p ≠ 45) (w : World) (hb : Bys w w.heap.size A l) (hl : l.length ≤ 140000000000) (hk : p ≤ l.length) :
    Calls Tryd.prog 39 #[.slice A l.length c, .int .i64 (p : Int)] w (Nb (Jx.numR 0 (l.drop p)) p w) := by
  have AT := Lib.hid (fun j z hz => rat_any A c l j z hz w _ hb)
  have CELL := Lib.hid (fun j hj => bys_cell hb (k := j) hj)
  have hpl : p ≤ l.length := by omega
  have hcl := Jx.cnt_le Jx.isD (l.drop p)
  rw [List.length_drop] at hcl
  have cin := fun j => Jx.cnt_in Jx.isD (l.drop p) (k := j)
  have cout := Jx.cnt_out0 Jx.isD rfl (l.drop p)
  have r20 := @numR_20 0 (l.drop p)
  have r22 := @numR_22 0 (l.drop p)
  have rok := @numR_ok 0 (l.drop p)
  have rlong := @numR_long (l.drop p)
  have vt := fun j hj => Jx.val_take (d := l.drop p) (k := j) hj
  have vl := fun j hj => Jx.val_lt (d := l.drop p) j hj
  have ld : (l.drop p).length = l.length - p := List.length_drop
  have bd := Jx.byt_drop l p
  generalize hN : Jx.cnt Jx.isD (l.drop p) = N at *
  simp only [bd] at *
  obtain ⟨V, hV⟩ : ∃ V : Nat → Nat, V = fun j => Jx.val ((l.drop p).take j) := ⟨_, rfl⟩
  have hVj : ∀ j, Jx.val ((l.drop p).take j) = V j := fun j => by rw [hV]
  simp only [hVj] at r20 r22 rok rlong vt vl
  have v0 : V 0 = 0 := by rw [hV]; simp [Jx.val]
  rw [ld] at vt vl
  have q45 : ((Jx.byt l p : Int) == 45) = false := by simp; omega
  generalize Jx.numR 0 (l.drop p) = R at *
  clear hVj hV ld bd hN hb
  have CIN := Lib.hid cin; have R20 := Lib.hid r20; have R22 := Lib.hid r22; have ROK := Lib.hid rok; have RLONG := Lib.hid rlong; have VT := Lib.hid vt; have VL := Lib.hid vl; have COUT := Lib.hid cout; have V0 := Lib.hid v0
  have PK : Hid ((p : Int) = (p : Int)) := by show _ = _; omega
  clear h45
  skip
  clear cin r20 r22 rok rlong vt vl cout v0
  have AK := Lib.hid (AT.out p)
  obtain ⟨XK, hXK⟩ : ∃ X, X = Jx.byt l p := ⟨_, rfl⟩
  rw [← hXK] at AK q45
  clear hXK
  go_enter Tryd.func39, Tryd.ntmps39
  go_wp2_with fail
  with_reducible refine (AK.out _ rfl).mono ?_
  rintro e w1 ⟨rfl, rfl⟩
  go_wp2_with fail
  skip
  go_loop [1] (fun t => ∃ j : Nat, j ≤ N ∧ t = .int .i64 ((p + j : Nat) : Int)) (fun t => p + N - (intOf t).toNat)
  case atStart => exact ⟨0, by omega, rfl⟩
  case round =>
    obtain ⟨j, hj, rfl⟩ := hrel
    by_cases hjN : j < N
    · have D := Lib.hid (rdigit_any (Jx.byt l (p + j)))
      have aj := AT.out (p + j)
      rw [CIN.out j hjN] at D
      generalize Jx.byt l (p + j) = X at *
      have AJ := Lib.hid aj
      clear aj
      go_wp2_with fail
      with_reducible refine (AJ.out _ (by omega)).mono ?_
      rintro e w1 ⟨rfl, rfl⟩
      go_wp2_with fail
      with_reducible refine (D.out _).mono ?_
      rintro e w1 ⟨rfl, rfl⟩
      go_wp2_with fail
      go_round
      case rel => exact ⟨j + 1, by omega, by go_num⟩
      case measure => simp [intOf]; omega
    · obtain rfl : j = N := by omega
      have D := Lib.hid (rdigit_any (Jx.byt l (p + j)))
      rw [COUT.out] at D
      have LT := Lib.hid (rletter_any (Jx.byt l (p + j)))
      have CP := Lib.hid (fun h => CELL.out p h)
      have c0 : Jx.byt l (p + 0) = Jx.byt l p := by rw [Nat.add_zero]
      simp only [c0] at R20 R22 ROK RLONG
      have hc := R20.out; have hd := R22.out; have he := ROK.out; have hf := RLONG.out
      have aj := AT.out (p + j)
      have digits : ∀ i, i < j → 48 ≤ Jx.byt l (p + i) ∧ Jx.byt l (p + i) ≤ 57 := fun i hi => by
        have := CIN.out i hi; rw [Jx.isD_is] at this; exact this
      have DGS := Lib.hid digits
      clear R20 R22 ROK RLONG CIN COUT c0 digits
      generalize hC : Jx.byt l (p + j) = C at *
      generalize hC0 : Jx.byt l p = C0 at *
      have R20 := Lib.hid hc; have R22 := Lib.hid hd; have ROK := Lib.hid he; have RLONG := Lib.hid hf; have AJ := Lib.hid aj
      clear hc hd he hf aj hC hjN
      clear hC0
      by_cases hN0 : j = 0
      · have Z := Lib.hid (R20.out (.inl hN0))
        subst hN0
        go_wp2_with fail
        with_reducible refine (AJ.out _ (by omega)).mono ?_
        rintro e w1 ⟨rfl, rfl⟩
        go_wp2_with fail
        with_reducible refine (D.out _).mono ?_
        rintro e w1 ⟨rfl, rfl⟩
        go_wp2_with fail
        all_goals go_ret3
        all_goals exact nb_ret (by rw [Z.out]) (by rw [Z.out]; have := PK.out; simp; try omega) (by rw [Z.out]; rfl)
      · have qeq : ((p : Int) + (j : Int) == (p : Int)) = false := by simp; omega
        obtain ⟨b, off, rfl, hB, cell⟩ := CP.out (by omega)
        have j0 : 0 < j := by omega
        clear hN0
        by_cases hA : C0 = 48 ∧ 1 < j
        · have Z := Lib.hid (R20.out (.inr (.inl hA)))
          obtain ⟨hA1, hA2⟩ := hA
          have q48 : ((C0 : Int) == 48) = true := by simp; omega
          clear hA1
          go_wp2_with fail
          with_reducible refine (AJ.out _ (by omega)).mono ?_
          rintro e w1 ⟨rfl, rfl⟩
          go_wp2_with fail
          with_reducible refine (D.out _).mono ?_
          rintro e w1 ⟨rfl, rfl⟩
          go_wp2_with fail
          all_goals go_ret3
          all_goals exact nb_ret (by rw [Z.out]) (by rw [Z.out]; have := PK.out; simp; try omega) (by rw [Z.out]; rfl)
        · have HA := Lib.hid hA
          obtain ⟨LC, hLC⟩ : ∃ b, b = Jx.isL C := ⟨_, rfl⟩
          rw [← hLC] at LT R20 R22 ROK
          clear hLC
          by_cases h48 : C0 = 48
          · have hj1 : decide ((1 : Int) < (j : Int)) = false := by have : ¬ 1 < j := fun h => hA ⟨h48, h⟩; simp; omega
            have q48 : ((C0 : Int) == 48) = true := by simp; omega
            clear hA h48
            go_wp2_with fail
            with_reducible refine (AJ.out _ (by omega)).mono ?_
            rintro e w1 ⟨rfl, rfl⟩
            go_wp2_with fail
            with_reducible refine (D.out _).mono ?_
            rintro e w1 ⟨rfl, rfl⟩
            go_wp2_with fail
            with_reducible refine (AJ.out _ (by omega)).mono ?_
            rintro e w1 ⟨rfl, rfl⟩
            go_wp2_with fail
            with_reducible refine (LT.out _).mono ?_
            rintro e w1 ⟨rfl, rfl⟩
            cases LC with
            | true =>
              by_cases h101 : C = 101
              · have Z := Lib.hid (R22.out (by have := HA.out; omega) (.inr (.inl rfl)))
                have q1 : ((C : Int) != 101) = false := by simp; omega
                have q2 : ((C : Int) == 46) = false := by simp; omega
                clear h101
                go_wp2_with fail
                with_reducible refine (AJ.out _ (by omega)).mono ?_
                rintro e w1 ⟨rfl, rfl⟩
                go_wp2_with fail
                with_reducible refine (AJ.out _ (by omega)).mono ?_
                rintro e w1 ⟨rfl, rfl⟩
                go_wp2_with fail
                with_reducible refine (AJ.out _ (by omega)).mono ?_
                rintro e w1 ⟨rfl, rfl⟩
                go_wp2_with fail
                with_reducible refine (LT.out _).mono ?_
                rintro e w1 ⟨rfl, rfl⟩
                go_wp2_with fail
                all_goals go_ret3
                all_goals exact nb_ret (by rw [Z.out]) (by rw [Z.out]; have := PK.out; simp; try omega) (by rw [Z.out]; rfl)
              · have q1 : ((C : Int) != 101) = true := by simp; omega
                by_cases h69 : C = 69
                · have Z := Lib.hid (R22.out (by have := HA.out; omega) (.inr (.inl rfl)))
                  have q3 : ((C : Int) != 69) = false := by simp; omega
                  have q2 : ((C : Int) == 46) = false := by simp; omega
                  clear h69 h101
                  go_wp2_with fail
                  with_reducible refine (AJ.out _ (by omega)).mono ?_
                  rintro e w1 ⟨rfl, rfl⟩
                  go_wp2_with fail
                  with_reducible refine (AJ.out _ (by omega)).mono ?_
                  rintro e w1 ⟨rfl, rfl⟩
                  go_wp2_with fail
                  with_reducible refine (AJ.out _ (by omega)).mono ?_
                  rintro e w1 ⟨rfl, rfl⟩
                  go_wp2_with fail
                  with_reducible refine (AJ.out _ (by omega)).mono ?_
                  rintro e w1 ⟨rfl, rfl⟩
                  go_wp2_with fail
                  with_reducible refine (LT.out _).mono ?_
                  rintro e w1 ⟨rfl, rfl⟩
                  go_wp2_with fail
                  all_goals go_ret3
                  all_goals exact nb_ret (by rw [Z.out]) (by rw [Z.out]; have := PK.out; simp; try omega) (by rw [Z.out]; rfl)
                · have Z := Lib.hid (R20.out (.inr (.inr ⟨rfl, h101, h69⟩)))
                  have q3 : ((C : Int) != 69) = true := by simp; omega
                  clear h69 h101
                  go_wp2_with fail
                  with_reducible refine (AJ.out _ (by omega)).mono ?_
                  rintro e w1 ⟨rfl, rfl⟩
                  go_wp2_with fail
                  with_reducible refine (AJ.out _ (by omega)).mono ?_
                  rintro e w1 ⟨rfl, rfl⟩
                  go_wp2_with fail
                  all_goals go_ret3
                  all_goals exact nb_ret (by rw [Z.out]) (by rw [Z.out]; have := PK.out; simp; try omega) (by rw [Z.out]; rfl)
            | false =>
              have HA1 := Lib.hid (show ¬ (j = 0 ∨ (C0 = 48 ∧ 1 < j) ∨ (false = true ∧ C ≠ 101 ∧ C ≠ 69)) from fun h => by rcases h with h | h | h; (· omega); (· exact HA.out h); (· cases h.1))
              go_wp2_with fail
              with_reducible refine (AJ.out _ (by omega)).mono ?_
              rintro e w1 ⟨rfl, rfl⟩
              by_cases h46 : C = 46
              · have Z := Lib.hid (R22.out HA1.out (.inl h46))
                have q2 : ((C : Int) == 46) = true := by simp; omega
                clear h46
                go_wp2_with fail
                all_goals go_ret3
                all_goals exact nb_ret (by rw [Z.out]) (by rw [Z.out]; have := PK.out; simp; try omega) (by rw [Z.out]; rfl)
              · have q2 : ((C : Int) == 46) = false := by simp; omega
                go_wp2_with fail
                with_reducible refine (AJ.out _ (by omega)).mono ?_
                rintro e w1 ⟨rfl, rfl⟩
                go_wp2_with fail
                with_reducible refine (LT.out _).mono ?_
                rintro e w1 ⟨rfl, rfl⟩
                have H46 := Lib.hid h46
                clear h46
                by_cases h19 : 19 < j
                · have Z := Lib.hid (R22.out HA1.out (.inr (.inr (.inl (RLONG.out (by have := HA.out; omega) h19)))))
                  go_wp2_with fail
                  all_goals go_ret3
                  all_goals exact nb_ret (by rw [Z.out]) (by rw [Z.out]; have := PK.out; simp; try omega) (by rw [Z.out]; rfl)
                · go_wp2_with fail
                  go_loop [9, 10] (fun u q => ∃ i : Nat, i ≤ j ∧ u = .int .u64 (V i : Int) ∧ q = .int .i64 ((p + i : Nat) : Int)) (fun _ q => p + j - (intOf q).toNat)
                  case atStart => exact ⟨0, by omega, by rw [V0.out]; rfl, rfl⟩
                  case round =>
                    obtain ⟨i, hi, rfl, rfl⟩ := hrel
                    by_cases hij : i < j
                    · have dg := DGS.out i hij
                      have vt := VT.out i (by omega)
                      have vl := VL.out i (by omega) (fun x hx => by have := DGS.out x (by omega); rw [Jx.isD_is]; exact this)
                      have pw : 10 ^ i ≤ 10 ^ 18 := Nat.pow_le_pow_right (by decide) (by omega)
                      have vb : V i ≤ 999999999999999999 := by omega
                      obtain ⟨b2, off2, e2, _, cell2⟩ := CELL.out (p + i) (by omega)
                      simp only [Option.some.injEq, Addr.mk.injEq, and_true] at e2
                      obtain ⟨rfl, rfl⟩ := e2
                      clear pw vl
                      generalize Jx.byt l (p + i) = Y at *
                      obtain ⟨y0, y1⟩ := dg
                      have VT1 := Lib.hid vt
                      generalize V i = U at *
                      clear vt
                      go_wp2_with fail
                      go_round
                      case rel => exact ⟨i + 1, by omega, by rw [VT1.out]; congr 1; omega, by go_num⟩
                      case measure => simp [intOf]; omega
                    · obtain rfl : i = j := by omega
                      have vl := VL.out i (by omega) (fun x hx => by have := DGS.out x (by omega); rw [Jx.isD_is]; exact this)
                      have r22 := R22.out HA1.out
                      have rok := ROK.out HA1.out
                      obtain ⟨X, hX⟩ : ∃ X, X = V i := ⟨_, rfl⟩
                      have HX := Lib.hid hX.symm
                      rw [← hX] at vl r22 ⊢
                      have R22a := Lib.hid r22; have ROKa := Lib.hid rok
                      clear vl hX r22 rok hij
                      by_cases hbig : 9223372036854775808 < X
                      · have Z := Lib.hid (R22a.out (.inr (.inr (.inl hbig))))
                        go_wp2_with fail
                        all_goals go_ret3
                        all_goals exact nb_ret (by rw [Z.out]) (by rw [Z.out]; have := PK.out; simp; try omega) (by rw [Z.out]; rfl)
                      · by_cases heq : X = 9223372036854775808
                        · have Z := Lib.hid (R22a.out (.inr (.inr (.inr ⟨heq, by trivial⟩))))
                          subst heq
                          go_wp2_with fail
                          all_goals go_ret3
                          all_goals exact nb_ret (by rw [Z.out]) (by rw [Z.out]; have := PK.out; simp; try omega) (by rw [Z.out]; rfl)
                        · have Z := Lib.hid (ROKa.out (fun h => by rcases h with h | h | h | h; (· exact H46.out h); (· cases h); (· rw [HX.out] at h; omega); (· first | (rw [HX.out] at h; omega) | (have h2 := h.2; simp at h2))))
                          go_wp2_with fail
                          all_goals go_ret3
                          all_goals exact nb_ret (by rw [Z.out, HX.out]; simp) (by rw [Z.out]; have := PK.out; simp; try omega) (by rw [Z.out]; rfl)
          · have q48 : ((C0 : Int) == 48) = false := by simp; omega
            clear hA h48
            go_wp2_with fail
            with_reducible refine (AJ.out _ (by omega)).mono ?_
            rintro e w1 ⟨rfl, rfl⟩
            go_wp2_with fail
            with_reducible refine (D.out _).mono ?_
            rintro e w1 ⟨rfl, rfl⟩
            go_wp2_with fail
            with_reducible refine (AJ.out _ (by omega)).mono ?_
            rintro e w1 ⟨rfl, rfl⟩
            go_wp2_with fail
            with_reducible refine (LT.out _).mono ?_
            rintro e w1 ⟨rfl, rfl⟩
            cases LC with
            | true =>
              by_cases h101 : C = 101
              · have Z := Lib.hid (R22.out (by have := HA.out; omega) (.inr (.inl rfl)))
                have q1 : ((C : Int) != 101) = false := by simp; omega
                have q2 : ((C : Int) == 46) = false := by simp; omega
                clear h101
                go_wp2_with fail
                with_reducible refine (AJ.out _ (by omega)).mono ?_
                rintro e w1 ⟨rfl, rfl⟩
                go_wp2_with fail
                with_reducible refine (AJ.out _ (by omega)).mono ?_
                rintro e w1 ⟨rfl, rfl⟩
                go_wp2_with fail
                with_reducible refine (AJ.out _ (by omega)).mono ?_
                rintro e w1 ⟨rfl, rfl⟩
                go_wp2_with fail
                with_reducible refine (LT.out _).mono ?_
                rintro e w1 ⟨rfl, rfl⟩
                go_wp2_with fail
                all_goals go_ret3
                all_goals exact nb_ret (by rw [Z.out]) (by rw [Z.out]; have := PK.out; simp; try omega) (by rw [Z.out]; rfl)
              · have q1 : ((C : Int) != 101) = true := by simp; omega
                by_cases h69 : C = 69
                · have Z := Lib.hid (R22.out (by have := HA.out; omega) (.inr (.inl rfl)))
                  have q3 : ((C : Int) != 69) = false := by simp; omega
                  have q2 : ((C : Int) == 46) = false := by simp; omega
                  clear h69 h101
                  go_wp2_with fail
                  with_reducible refine (AJ.out _ (by omega)).mono ?_
                  rintro e w1 ⟨rfl, rfl⟩
                  go_wp2_with fail
                  with_reducible refine (AJ.out _ (by omega)).mono ?_
                  rintro e w1 ⟨rfl, rfl⟩
                  go_wp2_with fail
                  with_reducible refine (AJ.out _ (by omega)).mono ?_
                  rintro e w1 ⟨rfl, rfl⟩
                  go_wp2_with fail
                  with_reducible refine (AJ.out _ (by omega)).mono ?_
                  rintro e w1 ⟨rfl, rfl⟩
                  go_wp2_with fail
                  with_reducible refine (LT.out _).mono ?_
                  rintro e w1 ⟨rfl, rfl⟩
                  go_wp2_with fail
                  all_goals go_ret3
                  all_goals exact nb_ret (by rw [Z.out]) (by rw [Z.out]; have := PK.out; simp; try omega) (by rw [Z.out]; rfl)
                · have Z := Lib.hid (R20.out (.inr (.inr ⟨rfl, h101, h69⟩)))
                  have q3 : ((C : Int) != 69) = true := by simp; omega
                  clear h69 h101
                  go_wp2_with fail
                  with_reducible refine (AJ.out _ (by omega)).mono ?_
                  rintro e w1 ⟨rfl, rfl⟩
                  go_wp2_with fail
                  with_reducible refine (AJ.out _ (by omega)).mono ?_
                  rintro e w1 ⟨rfl, rfl⟩
                  go_wp2_with fail
                  all_goals go_ret3
                  all_goals exact nb_ret (by rw [Z.out]) (by rw [Z.out]; have := PK.out; simp; try omega) (by rw [Z.out]; rfl)
            | false =>
              have HA1 := Lib.hid (show ¬ (j = 0 ∨ (C0 = 48 ∧ 1 < j) ∨ (false = true ∧ C ≠ 101 ∧ C ≠ 69)) from fun h => by rcases h with h | h | h; (· omega); (· exact HA.out h); (· cases h.1))
              go_wp2_with fail
              with_reducible refine (AJ.out _ (by omega)).mono ?_
              rintro e w1 ⟨rfl, rfl⟩
              by_cases h46 : C = 46
              · have Z := Lib.hid (R22.out HA1.out (.inl h46))
                have q2 : ((C : Int) == 46) = true := by simp; omega
                clear h46
                go_wp2_with fail
                all_goals go_ret3
                all_goals exact nb_ret (by rw [Z.out]) (by rw [Z.out]; have := PK.out; simp; try omega) (by rw [Z.out]; rfl)
              · have q2 : ((C : Int) == 46) = false := by simp; omega
                go_wp2_with fail
                with_reducible refine (AJ.out _ (by omega)).mono ?_
                rintro e w1 ⟨rfl, rfl⟩
                go_wp2_with fail
                with_reducible refine (LT.out _).mono ?_
                rintro e w1 ⟨rfl, rfl⟩
                have H46 := Lib.hid h46
                clear h46
                by_cases h19 : 19 < j
                · have Z := Lib.hid (R22.out HA1.out (.inr (.inr (.inl (RLONG.out (by have := HA.out; omega) h19)))))
                  go_wp2_with fail
                  all_goals go_ret3
                  all_goals exact nb_ret (by rw [Z.out]) (by rw [Z.out]; have := PK.out; simp; try omega) (by rw [Z.out]; rfl)
                · go_wp2_with fail
                  go_loop [9, 10] (fun u q => ∃ i : Nat, i ≤ j ∧ u = .int .u64 (V i : Int) ∧ q = .int .i64 ((p + i : Nat) : Int)) (fun _ q => p + j - (intOf q).toNat)
                  case atStart => exact ⟨0, by omega, by rw [V0.out]; rfl, rfl⟩
                  case round =>
                    obtain ⟨i, hi, rfl, rfl⟩ := hrel
                    by_cases hij : i < j
                    · have dg := DGS.out i hij
                      have vt := VT.out i (by omega)
                      have vl := VL.out i (by omega) (fun x hx => by have := DGS.out x (by omega); rw [Jx.isD_is]; exact this)
                      have pw : 10 ^ i ≤ 10 ^ 18 := Nat.pow_le_pow_right (by decide) (by omega)
                      have vb : V i ≤ 999999999999999999 := by omega
                      obtain ⟨b2, off2, e2, _, cell2⟩ := CELL.out (p + i) (by omega)
                      simp only [Option.some.injEq, Addr.mk.injEq, and_true] at e2
                      obtain ⟨rfl, rfl⟩ := e2
                      clear pw vl
                      generalize Jx.byt l (p + i) = Y at *
                      obtain ⟨y0, y1⟩ := dg
                      have VT1 := Lib.hid vt
                      generalize V i = U at *
                      clear vt
                      go_wp2_with fail
                      go_round
                      case rel => exact ⟨i + 1, by omega, by rw [VT1.out]; congr 1; omega, by go_num⟩
                      case measure => simp [intOf]; omega
                    · obtain rfl : i = j := by omega
                      have vl := VL.out i (by omega) (fun x hx => by have := DGS.out x (by omega); rw [Jx.isD_is]; exact this)
                      have r22 := R22.out HA1.out
                      have rok := ROK.out HA1.out
                      obtain ⟨X, hX⟩ : ∃ X, X = V i := ⟨_, rfl⟩
                      have HX := Lib.hid hX.symm
                      rw [← hX] at vl r22 ⊢
                      have R22a := Lib.hid r22; have ROKa := Lib.hid rok
                      clear vl hX r22 rok hij
                      by_cases hbig : 9223372036854775808 < X
                      · have Z := Lib.hid (R22a.out (.inr (.inr (.inl hbig))))
                        go_wp2_with fail
                        all_goals go_ret3
                        all_goals exact nb_ret (by rw [Z.out]) (by rw [Z.out]; have := PK.out; simp; try omega) (by rw [Z.out]; rfl)
                      · by_cases heq : X = 9223372036854775808
                        · have Z := Lib.hid (R22a.out (.inr (.inr (.inr ⟨heq, by trivial⟩))))
                          subst heq
                          go_wp2_with fail
                          all_goals go_ret3
                          all_goals exact nb_ret (by rw [Z.out]) (by rw [Z.out]; have := PK.out; simp; try omega) (by rw [Z.out]; rfl)
                        · have Z := Lib.hid (ROKa.out (fun h => by rcases h with h | h | h | h; (· exact H46.out h); (· cases h); (· rw [HX.out] at h; omega); (· first | (rw [HX.out] at h; omega) | (have h2 := h.2; simp at h2))))
                          go_wp2_with fail
                          all_goals go_ret3
                          all_goals exact nb_ret (by rw [Z.out, HX.out]; simp) (by rw [Z.out]; have := PK.out; simp; try omega) (by rw [Z.out]; rfl)

set_option maxRecDepth 100000 in
set_option maxHeartbeats 4000000 in
theorem rnumber_1 (A : Option Addr) (c : Nat) (l : List UInt8) (k p : Nat) (hp : p = k + 1) (h45 : Jx.byt l k = 45) (w : World) (hb : Bys w w.heap.size A l) (hl : l.length ≤ 140000000000) (hk : k ≤ l.length) :
    Calls Tryd.prog 39 #[.slice A l.length c, .int .i64 (k : Int)] w (Nb (Jx.numR 1 (l.drop p)) k w) := by
  have AT := Lib.hid (fun j z hz => rat_any A c l j z hz w _ hb)
  have CELL := Lib.hid (fun j hj => bys_cell hb (k := j) hj)
  have hpl : p ≤ l.length := by have := Jx.byt_pos (l := l) (i := k) (by omega); omega
  have hcl := Jx.cnt_le Jx.isD (l.drop p)
  rw [List.length_drop] at hcl
  have cin := fun j => Jx.cnt_in Jx.isD (l.drop p) (k := j)
  have cout := Jx.cnt_out0 Jx.isD rfl (l.drop p)
  have r20 := @numR_20 1 (l.drop p)
  have r22 := @numR_22 1 (l.drop p)
  have rok := @numR_ok 1 (l.drop p)
  have rlong := @numR_long (l.drop p)
  have vt := fun j hj => Jx.val_take (d := l.drop p) (k := j) hj
  have vl := fun j hj => Jx.val_lt (d := l.drop p) j hj
  have ld : (l.drop p).length = l.length - p := List.length_drop
  have bd := Jx.byt_drop l p
  generalize hN : Jx.cnt Jx.isD (l.drop p) = N at *
  simp only [bd] at *
  obtain ⟨V, hV⟩ : ∃ V : Nat → Nat, V = fun j => Jx.val ((l.drop p).take j) := ⟨_, rfl⟩
  have hVj : ∀ j, Jx.val ((l.drop p).take j) = V j := fun j => by rw [hV]
  simp only [hVj] at r20 r22 rok rlong vt vl
  have v0 : V 0 = 0 := by rw [hV]; simp [Jx.val]
  rw [ld] at vt vl
  have q45 : ((Jx.byt l k : Int) == 45) = true := by simp; omega
  generalize Jx.numR 1 (l.drop p) = R at *
  clear hVj hV ld bd hN hb
  have CIN := Lib.hid cin; have R20 := Lib.hid r20; have R22 := Lib.hid r22; have ROK := Lib.hid rok; have RLONG := Lib.hid rlong; have VT := Lib.hid vt; have VL := Lib.hid vl; have COUT := Lib.hid cout; have V0 := Lib.hid v0
  have PK : Hid ((p : Int) = (k : Int) + 1) := by show _ = _; omega
  have PK2 : Hid ((k : Int) + 1 = (p : Int)) := by show _ = _; omega
  clear h45 hp
  clear cin r20 r22 rok rlong vt vl cout v0
  have AK := Lib.hid (AT.out k)
  obtain ⟨XK, hXK⟩ : ∃ X, X = Jx.byt l k := ⟨_, rfl⟩
  rw [← hXK] at AK q45
  clear hXK
  go_enter Tryd.func39, Tryd.ntmps39
  go_wp2_with fail
  with_reducible refine (AK.out _ rfl).mono ?_
  rintro e w1 ⟨rfl, rfl⟩
  go_wp2_with fail
  simp only [PK2.out]
  go_loop [1] (fun t => ∃ j : Nat, j ≤ N ∧ t = .int .i64 ((p + j : Nat) : Int)) (fun t => p + N - (intOf t).toNat)
  case atStart => exact ⟨0, by omega, rfl⟩
  case round =>
    obtain ⟨j, hj, rfl⟩ := hrel
    by_cases hjN : j < N
    · have D := Lib.hid (rdigit_any (Jx.byt l (p + j)))
      have aj := AT.out (p + j)
      rw [CIN.out j hjN] at D
      generalize Jx.byt l (p + j) = X at *
      have AJ := Lib.hid aj
      clear aj
      go_wp2_with fail
      with_reducible refine (AJ.out _ (by omega)).mono ?_
      rintro e w1 ⟨rfl, rfl⟩
      go_wp2_with fail
      with_reducible refine (D.out _).mono ?_
      rintro e w1 ⟨rfl, rfl⟩
      go_wp2_with fail
      go_round
      case rel => exact ⟨j + 1, by omega, by go_num⟩
      case measure => simp [intOf]; omega
    · obtain rfl : j = N := by omega
      have D := Lib.hid (rdigit_any (Jx.byt l (p + j)))
      rw [COUT.out] at D
      have LT := Lib.hid (rletter_any (Jx.byt l (p + j)))
      have CP := Lib.hid (fun h => CELL.out p h)
      have c0 : Jx.byt l (p + 0) = Jx.byt l p := by rw [Nat.add_zero]
      simp only [c0] at R20 R22 ROK RLONG
      have hc := R20.out; have hd := R22.out; have he := ROK.out; have hf := RLONG.out
      have aj := AT.out (p + j)
      have digits : ∀ i, i < j → 48 ≤ Jx.byt l (p + i) ∧ Jx.byt l (p + i) ≤ 57 := fun i hi => by
        have := CIN.out i hi; rw [Jx.isD_is] at this; exact this
      have DGS := Lib.hid digits
      clear R20 R22 ROK RLONG CIN COUT c0 digits
      generalize hC : Jx.byt l (p + j) = C at *
      generalize hC0 : Jx.byt l p = C0 at *
      have R20 := Lib.hid hc; have R22 := Lib.hid hd; have ROK := Lib.hid he; have RLONG := Lib.hid hf; have AJ := Lib.hid aj
      clear hc hd he hf aj hC hjN
      clear hC0
      by_cases hN0 : j = 0
      · have Z := Lib.hid (R20.out (.inl hN0))
        subst hN0
        go_wp2_with fail
        with_reducible refine (AJ.out _ (by omega)).mono ?_
        rintro e w1 ⟨rfl, rfl⟩
        go_wp2_with fail
        with_reducible refine (D.out _).mono ?_
        rintro e w1 ⟨rfl, rfl⟩
        go_wp2_with fail
        all_goals go_ret3
        all_goals exact nb_ret (by rw [Z.out]) (by rw [Z.out]; have := PK.out; simp; try omega) (by rw [Z.out]; rfl)
      · have qeq : ((p : Int) + (j : Int) == (p : Int)) = false := by simp; omega
        obtain ⟨b, off, rfl, hB, cell⟩ := CP.out (by omega)
        have j0 : 0 < j := by omega
        clear hN0
        by_cases hA : C0 = 48 ∧ 1 < j
        · have Z := Lib.hid (R20.out (.inr (.inl hA)))
          obtain ⟨hA1, hA2⟩ := hA
          have q48 : ((C0 : Int) == 48) = true := by simp; omega
          clear hA1
          go_wp2_with fail
          with_reducible refine (AJ.out _ (by omega)).mono ?_
          rintro e w1 ⟨rfl, rfl⟩
          go_wp2_with fail
          with_reducible refine (D.out _).mono ?_
          rintro e w1 ⟨rfl, rfl⟩
          go_wp2_with fail
          all_goals go_ret3
          all_goals exact nb_ret (by rw [Z.out]) (by rw [Z.out]; have := PK.out; simp; try omega) (by rw [Z.out]; rfl)
        · have HA := Lib.hid hA
          obtain ⟨LC, hLC⟩ : ∃ b, b = Jx.isL C := ⟨_, rfl⟩
          rw [← hLC] at LT R20 R22 ROK
          clear hLC
          by_cases h48 : C0 = 48
          · have hj1 : decide ((1 : Int) < (j : Int)) = false := by have : ¬ 1 < j := fun h => hA ⟨h48, h⟩; simp; omega
            have q48 : ((C0 : Int) == 48) = true := by simp; omega
            clear hA h48
            go_wp2_with fail
            with_reducible refine (AJ.out _ (by omega)).mono ?_
            rintro e w1 ⟨rfl, rfl⟩
            go_wp2_with fail
            with_reducible refine (D.out _).mono ?_
            rintro e w1 ⟨rfl, rfl⟩
            go_wp2_with fail
            with_reducible refine (AJ.out _ (by omega)).mono ?_
            rintro e w1 ⟨rfl, rfl⟩
            go_wp2_with fail
            with_reducible refine (LT.out _).mono ?_
            rintro e w1 ⟨rfl, rfl⟩
            cases LC with
            | true =>
              by_cases h101 : C = 101
              · have Z := Lib.hid (R22.out (by have := HA.out; omega) (.inr (.inl rfl)))
                have q1 : ((C : Int) != 101) = false := by simp; omega
                have q2 : ((C : Int) == 46) = false := by simp; omega
                clear h101
                go_wp2_with fail
                with_reducible refine (AJ.out _ (by omega)).mono ?_
                rintro e w1 ⟨rfl, rfl⟩
                go_wp2_with fail
                with_reducible refine (AJ.out _ (by omega)).mono ?_
                rintro e w1 ⟨rfl, rfl⟩
                go_wp2_with fail
                with_reducible refine (AJ.out _ (by omega)).mono ?_
                rintro e w1 ⟨rfl, rfl⟩
                go_wp2_with fail
                with_reducible refine (LT.out _).mono ?_
                rintro e w1 ⟨rfl, rfl⟩
                go_wp2_with fail
                all_goals go_ret3
                all_goals exact nb_ret (by rw [Z.out]) (by rw [Z.out]; have := PK.out; simp; try omega) (by rw [Z.out]; rfl)
              · have q1 : ((C : Int) != 101) = true := by simp; omega
                by_cases h69 : C = 69
                · have Z := Lib.hid (R22.out (by have := HA.out; omega) (.inr (.inl rfl)))
                  have q3 : ((C : Int) != 69) = false := by simp; omega
                  have q2 : ((C : Int) == 46) = false := by simp; omega
                  clear h69 h101
                  go_wp2_with fail
                  with_reducible refine (AJ.out _ (by omega)).mono ?_
                  rintro e w1 ⟨rfl, rfl⟩
                  go_wp2_with fail
                  with_reducible refine (AJ.out _ (by omega)).mono ?_
                  rintro e w1 ⟨rfl, rfl⟩
                  go_wp2_with fail
                  with_reducible refine (AJ.out _ (by omega)).mono ?_
                  rintro e w1 ⟨rfl, rfl⟩
                  go_wp2_with fail
                  with_reducible refine (AJ.out _ (by omega)).mono ?_
                  rintro e w1 ⟨rfl, rfl⟩
                  go_wp2_with fail
                  with_reducible refine (LT.out _).mono ?_
                  rintro e w1 ⟨rfl, rfl⟩
                  go_wp2_with fail
                  all_goals go_ret3
                  all_goals exact nb_ret (by rw [Z.out]) (by rw [Z.out]; have := PK.out; simp; try omega) (by rw [Z.out]; rfl)
                · have Z := Lib.hid (R20.out (.inr (.inr ⟨rfl, h101, h69⟩)))
                  have q3 : ((C : Int) != 69) = true := by simp; omega
                  clear h69 h101
                  go_wp2_with fail
                  with_reducible refine (AJ.out _ (by omega)).mono ?_
                  rintro e w1 ⟨rfl, rfl⟩
                  go_wp2_with fail
                  with_reducible refine (AJ.out _ (by omega)).mono ?_
                  rintro e w1 ⟨rfl, rfl⟩
                  go_wp2_with fail
                  all_goals go_ret3
                  all_goals exact nb_ret (by rw [Z.out]) (by rw [Z.out]; have := PK.out; simp; try omega) (by rw [Z.out]; rfl)
            | false =>
              have HA1 := Lib.hid (show ¬ (j = 0 ∨ (C0 = 48 ∧ 1 < j) ∨ (false = true ∧ C ≠ 101 ∧ C ≠ 69)) from fun h => by rcases h with h | h | h; (· omega); (· exact HA.out h); (· cases h.1))
              go_wp2_with fail
              with_reducible refine (AJ.out _ (by omega)).mono ?_
              rintro e w1 ⟨rfl, rfl⟩
              by_cases h46 : C = 46
              · have Z := Lib.hid (R22.out HA1.out (.inl h46))
                have q2 : ((C : Int) == 46) = true := by simp; omega
                clear h46
                go_wp2_with fail
                all_goals go_ret3
                all_goals exact nb_ret (by rw [Z.out]) (by rw [Z.out]; have := PK.out; simp; try omega) (by rw [Z.out]; rfl)
              · have q2 : ((C : Int) == 46) = false := by simp; omega
                go_wp2_with fail
                with_reducible refine (AJ.out _ (by omega)).mono ?_
                rintro e w1 ⟨rfl, rfl⟩
                go_wp2_with fail
                with_reducible refine (LT.out _).mono ?_
                rintro e w1 ⟨rfl, rfl⟩
                have H46 := Lib.hid h46
                clear h46
                by_cases h19 : 19 < j
                · have Z := Lib.hid (R22.out HA1.out (.inr (.inr (.inl (RLONG.out (by have := HA.out; omega) h19)))))
                  go_wp2_with fail
                  all_goals go_ret3
                  all_goals exact nb_ret (by rw [Z.out]) (by rw [Z.out]; have := PK.out; simp; try omega) (by rw [Z.out]; rfl)
                · go_wp2_with fail
                  go_loop [9, 10] (fun u q => ∃ i : Nat, i ≤ j ∧ u = .int .u64 (V i : Int) ∧ q = .int .i64 ((p + i : Nat) : Int)) (fun _ q => p + j - (intOf q).toNat)
                  case atStart => exact ⟨0, by omega, by rw [V0.out]; rfl, rfl⟩
                  case round =>
                    obtain ⟨i, hi, rfl, rfl⟩ := hrel
                    by_cases hij : i < j
                    · have dg := DGS.out i hij
                      have vt := VT.out i (by omega)
                      have vl := VL.out i (by omega) (fun x hx => by have := DGS.out x (by omega); rw [Jx.isD_is]; exact this)
                      have pw : 10 ^ i ≤ 10 ^ 18 := Nat.pow_le_pow_right (by decide) (by omega)
                      have vb : V i ≤ 999999999999999999 := by omega
                      obtain ⟨b2, off2, e2, _, cell2⟩ := CELL.out (p + i) (by omega)
                      simp only [Option.some.injEq, Addr.mk.injEq, and_true] at e2
                      obtain ⟨rfl, rfl⟩ := e2
                      clear pw vl
                      generalize Jx.byt l (p + i) = Y at *
                      obtain ⟨y0, y1⟩ := dg
                      have VT1 := Lib.hid vt
                      generalize V i = U at *
                      clear vt
                      go_wp2_with fail
                      go_round
                      case rel => exact ⟨i + 1, by omega, by rw [VT1.out]; congr 1; omega, by go_num⟩
                      case measure => simp [intOf]; omega
                    · obtain rfl : i = j := by omega
                      have vl := VL.out i (by omega) (fun x hx => by have := DGS.out x (by omega); rw [Jx.isD_is]; exact this)
                      have r22 := R22.out HA1.out
                      have rok := ROK.out HA1.out
                      obtain ⟨X, hX⟩ : ∃ X, X = V i := ⟨_, rfl⟩
                      have HX := Lib.hid hX.symm
                      rw [← hX] at vl r22 ⊢
                      have R22a := Lib.hid r22; have ROKa := Lib.hid rok
                      clear vl hX r22 rok hij
                      by_cases hbig : 9223372036854775808 < X
                      · have Z := Lib.hid (R22a.out (.inr (.inr (.inl hbig))))
                        go_wp2_with fail
                        all_goals go_ret3
                        all_goals exact nb_ret (by rw [Z.out]) (by rw [Z.out]; have := PK.out; simp; try omega) (by rw [Z.out]; rfl)
                      · have Z := Lib.hid (ROKa.out (fun h => by rcases h with h | h | h | h; (· exact H46.out h); (· cases h); (· rw [HX.out] at h; omega); (· first | (rw [HX.out] at h; omega) | (have h2 := h.2; simp at h2))))
                        by_cases hv0 : X = 0
                        · subst hv0
                          go_wp2_with fail
                          all_goals go_ret3
                          all_goals exact nb_ret (by rw [Z.out, HX.out]; simp; exact neg_nought) (by rw [Z.out]; have := PK.out; simp; try omega) (by rw [Z.out]; rfl)
                        · go_wp2_with fail
                          all_goals go_ret3
                          all_goals exact nb_ret (by rw [Z.out, HX.out]; simp; omega) (by rw [Z.out]; have := PK.out; simp; try omega) (by rw [Z.out]; rfl)
          · have q48 : ((C0 : Int) == 48) = false := by simp; omega
            clear hA h48
            go_wp2_with fail
            with_reducible refine (AJ.out _ (by omega)).mono ?_
            rintro e w1 ⟨rfl, rfl⟩
            go_wp2_with fail
            with_reducible refine (D.out _).mono ?_
            rintro e w1 ⟨rfl, rfl⟩
            go_wp2_with fail
            with_reducible refine (AJ.out _ (by omega)).mono ?_
            rintro e w1 ⟨rfl, rfl⟩
            go_wp2_with fail
            with_reducible refine (LT.out _).mono ?_
            rintro e w1 ⟨rfl, rfl⟩
            cases LC with
            | true =>
              by_cases h101 : C = 101
              · have Z := Lib.hid (R22.out (by have := HA.out; omega) (.inr (.inl rfl)))
                have q1 : ((C : Int) != 101) = false := by simp; omega
                have q2 : ((C : Int) == 46) = false := by simp; omega
                clear h101
                go_wp2_with fail
                with_reducible refine (AJ.out _ (by omega)).mono ?_
                rintro e w1 ⟨rfl, rfl⟩
                go_wp2_with fail
                with_reducible refine (AJ.out _ (by omega)).mono ?_
                rintro e w1 ⟨rfl, rfl⟩
                go_wp2_with fail
                with_reducible refine (AJ.out _ (by omega)).mono ?_
                rintro e w1 ⟨rfl, rfl⟩
                go_wp2_with fail
                with_reducible refine (LT.out _).mono ?_
                rintro e w1 ⟨rfl, rfl⟩
                go_wp2_with fail
                all_goals go_ret3
                all_goals exact nb_ret (by rw [Z.out]) (by rw [Z.out]; have := PK.out; simp; try omega) (by rw [Z.out]; rfl)
              · have q1 : ((C : Int) != 101) = true := by simp; omega
                by_cases h69 : C = 69
                · have Z := Lib.hid (R22.out (by have := HA.out; omega) (.inr (.inl rfl)))
                  have q3 : ((C : Int) != 69) = false := by simp; omega
                  have q2 : ((C : Int) == 46) = false := by simp; omega
                  clear h69 h101
                  go_wp2_with fail
                  with_reducible refine (AJ.out _ (by omega)).mono ?_
                  rintro e w1 ⟨rfl, rfl⟩
                  go_wp2_with fail
                  with_reducible refine (AJ.out _ (by omega)).mono ?_
                  rintro e w1 ⟨rfl, rfl⟩
                  go_wp2_with fail
                  with_reducible refine (AJ.out _ (by omega)).mono ?_
                  rintro e w1 ⟨rfl, rfl⟩
                  go_wp2_with fail
                  with_reducible refine (AJ.out _ (by omega)).mono ?_
                  rintro e w1 ⟨rfl, rfl⟩
                  go_wp2_with fail
                  with_reducible refine (LT.out _).mono ?_
                  rintro e w1 ⟨rfl, rfl⟩
                  go_wp2_with fail
                  all_goals go_ret3
                  all_goals exact nb_ret (by rw [Z.out]) (by rw [Z.out]; have := PK.out; simp; try omega) (by rw [Z.out]; rfl)
                · have Z := Lib.hid (R20.out (.inr (.inr ⟨rfl, h101, h69⟩)))
                  have q3 : ((C : Int) != 69) = true := by simp; omega
                  clear h69 h101
                  go_wp2_with fail
                  with_reducible refine (AJ.out _ (by omega)).mono ?_
                  rintro e w1 ⟨rfl, rfl⟩
                  go_wp2_with fail
                  with_reducible refine (AJ.out _ (by omega)).mono ?_
                  rintro e w1 ⟨rfl, rfl⟩
                  go_wp2_with fail
                  all_goals go_ret3
                  all_goals exact nb_ret (by rw [Z.out]) (by rw [Z.out]; have := PK.out; simp; try omega) (by rw [Z.out]; rfl)
            | false =>
              have HA1 := Lib.hid (show ¬ (j = 0 ∨ (C0 = 48 ∧ 1 < j) ∨ (false = true ∧ C ≠ 101 ∧ C ≠ 69)) from fun h => by rcases h with h | h | h; (· omega); (· exact HA.out h); (· cases h.1))
              go_wp2_with fail
              with_reducible refine (AJ.out _ (by omega)).mono ?_
              rintro e w1 ⟨rfl, rfl⟩
              by_cases h46 : C = 46
              · have Z := Lib.hid (R22.out HA1.out (.inl h46))
                have q2 : ((C : Int) == 46) = true := by simp; omega
                clear h46
                go_wp2_with fail
                all_goals go_ret3
                all_goals exact nb_ret (by rw [Z.out]) (by rw [Z.out]; have := PK.out; simp; try omega) (by rw [Z.out]; rfl)
              · have q2 : ((C : Int) == 46) = false := by simp; omega
                go_wp2_with fail
                with_reducible refine (AJ.out _ (by omega)).mono ?_
                rintro e w1 ⟨rfl, rfl⟩
                go_wp2_with fail
                with_reducible refine (LT.out _).mono ?_
                rintro e w1 ⟨rfl, rfl⟩
                have H46 := Lib.hid h46
                clear h46
                by_cases h19 : 19 < j
                · have Z := Lib.hid (R22.out HA1.out (.inr (.inr (.inl (RLONG.out (by have := HA.out; omega) h19)))))
                  go_wp2_with fail
                  all_goals go_ret3
                  all_goals exact nb_ret (by rw [Z.out]) (by rw [Z.out]; have := PK.out; simp; try omega) (by rw [Z.out]; rfl)
                · go_wp2_with fail
                  go_loop [9, 10] (fun u q => ∃ i : Nat, i ≤ j ∧ u = .int .u64 (V i : Int) ∧ q = .int .i64 ((p + i : Nat) : Int)) (fun _ q => p + j - (intOf q).toNat)
                  case atStart => exact ⟨0, by omega, by rw [V0.out]; rfl, rfl⟩
                  case round =>
                    obtain ⟨i, hi, rfl, rfl⟩ := hrel
                    by_cases hij : i < j
                    · have dg := DGS.out i hij
                      have vt := VT.out i (by omega)
                      have vl := VL.out i (by omega) (fun x hx => by have := DGS.out x (by omega); rw [Jx.isD_is]; exact this)
                      have pw : 10 ^ i ≤ 10 ^ 18 := Nat.pow_le_pow_right (by decide) (by omega)
                      have vb : V i ≤ 999999999999999999 := by omega
                      obtain ⟨b2, off2, e2, _, cell2⟩ := CELL.out (p + i) (by omega)
                      simp only [Option.some.injEq, Addr.mk.injEq, and_true] at e2
                      obtain ⟨rfl, rfl⟩ := e2
                      clear pw vl
                      generalize Jx.byt l (p + i) = Y at *
                      obtain ⟨y0, y1⟩ := dg
                      have VT1 := Lib.hid vt
                      generalize V i = U at *
                      clear vt
                      go_wp2_with fail
                      go_round
                      case rel => exact ⟨i + 1, by omega, by rw [VT1.out]; congr 1; omega, by go_num⟩
                      case measure => simp [intOf]; omega
                    · obtain rfl : i = j := by omega
                      have vl := VL.out i (by omega) (fun x hx => by have := DGS.out x (by omega); rw [Jx.isD_is]; exact this)
                      have r22 := R22.out HA1.out
                      have rok := ROK.out HA1.out
                      obtain ⟨X, hX⟩ : ∃ X, X = V i := ⟨_, rfl⟩
                      have HX := Lib.hid hX.symm
                      rw [← hX] at vl r22 ⊢
                      have R22a := Lib.hid r22; have ROKa := Lib.hid rok
                      clear vl hX r22 rok hij
                      by_cases hbig : 9223372036854775808 < X
                      · have Z := Lib.hid (R22a.out (.inr (.inr (.inl hbig))))
                        go_wp2_with fail
                        all_goals go_ret3
                        all_goals exact nb_ret (by rw [Z.out]) (by rw [Z.out]; have := PK.out; simp; try omega) (by rw [Z.out]; rfl)
                      · have Z := Lib.hid (ROKa.out (fun h => by rcases h with h | h | h | h; (· exact H46.out h); (· cases h); (· rw [HX.out] at h; omega); (· first | (rw [HX.out] at h; omega) | (have h2 := h.2; simp at h2))))
                        by_cases hv0 : X = 0
                        · subst hv0
                          go_wp2_with fail
                          all_goals go_ret3
                          all_goals exact nb_ret (by rw [Z.out, HX.out]; simp; exact neg_nought) (by rw [Z.out]; have := PK.out; simp; try omega) (by rw [Z.out]; rfl)
                        · go_wp2_with fail
                          all_goals go_ret3
                          all_goals exact nb_ret (by rw [Z.out, HX.out]; simp; omega) (by rw [Z.out]; have := PK.out; simp; try omega) (by rw [Z.out]; rfl)

theorem rnumber_any (A : Option Addr) (c : Nat) (l : List UInt8) (k : Nat) (w : World) (hb : Bys w w.heap.size A l) (hl : l.length ≤ 140000000000) (hk : k ≤ l.length) :
    Calls Tryd.prog 39 #[.slice A l.length c, .int .i64 (k : Int)] w (Nb (Jx.num (l.drop k)) k w) := by
  unfold Jx.num
  rw [Jx.byt_drop, Nat.add_zero, List.drop_drop]
  by_cases h : Jx.byt l k = 45
  · rw [if_pos h]; exact rnumber_1 A c l k (k + 1) rfl h w hb hl hk
  · rw [if_neg h]; exact rnumber_0 A c l k h w hb hl hk

end Go.Proofs.YtheeahnhdehloaaDoor
