/- The document's own answers for layer 8: a tree's text. -/
import Derived.Test.YtjebkedlfhapjaaDoorKNum
import Derived.Test.YtjebkedlfhapjaaDoorJRBulk
import Derived.Deep.LoopGhost
import Derived.Test.YtjebkedlfhapjaaDoorJRefG
namespace Go.Proofs.YtjebkedlfhapjaaDoor
open Go.ChangeShapes Go.WideShapes Go.ChangeAt Go.RowKit Mem

namespace Jp
open Jx
mutual
theorem prt_wt : ∀ (j : J), j.rng → (prt j).length + 4 ≤ 30 * j.wt
  | .mk k n t its ks, h => by
    unfold J.rng at h
    have ih := prts_wt its (decide (k = 6)) true ks h.2.2
    have nl := nm_len h.1 h.2.1
    have q := qb_len t.data.toList
    have tl : t.data.toList.length = t.size := by rw [Array.length_toList]; rfl
    unfold prt J.wt
    by_cases e1 : k = 1
    · rw [if_pos e1]; simp [sN]; omega
    · rw [if_neg e1]
      by_cases e2 : k = 2
      · rw [if_pos e2]
        split
        · simp [sF]; omega
        · simp [sT]; omega
      · rw [if_neg e2]
        by_cases e3 : k = 3
        · rw [if_pos e3]; omega
        · rw [if_neg e3]
          by_cases e4 : k = 4
          · rw [if_pos e4]; simp [quo]; omega
          · rw [if_neg e4]
            by_cases e6 : k = 6
            · rw [if_pos e6]
              rw [show decide (k = 6) = true by simpa using e6] at ih
              simp; omega
            · rw [if_neg e6]
              rw [show decide (k = 6) = false by simpa using e6] at ih
              simp; omega
theorem prts_wt : ∀ (its : List J) (o c : Bool) (ks : List ByteArray), J.rngs its → (prts o c its ks).length ≤ 30 * J.wts its + 6 * kwt ks
  | [], _, _, _, _ => by rw [prts_nil]; simp
  | j :: r, o, c, ks, h => by
    unfold J.rngs at h
    have a := prt_wt j h.1
    have b := prts_wt r o false ks.tail h.2
    rw [prts_cons]
    unfold J.wts
    have hk : (if o = true then quo (ks.headD nil_).data.toList ++ [58] else []).length + 6 * kwt ks.tail ≤ 6 * kwt ks + 3 := by
      cases ks with
      | nil => cases o <;> simp [quo, kwt, nil_, qb]
      | cons y z =>
        have q := qb_len y.data.toList
        have tl : y.data.toList.length = y.size := by rw [Array.length_toList]; rfl
        cases o
        · simp [kwt]; omega
        · simp [quo, kwt]; omega
    have hc : (if c = true then ([] : List UInt8) else [44]).length ≤ 1 := by cases c <;> simp
    simp only [List.length_append]
    omega
end
/-- What is printed of the first items. -/
def pre (o : Bool) (its : List J) (ks : List ByteArray) (i : Nat) : List UInt8 := prts o true (its.take i) (ks.take i)
def key (o : Bool) (ks : List ByteArray) (i : Nat) : List UInt8 := if o then quo (ks.getD i nil_).data.toList ++ [58] else []
theorem pre_step {o : Bool} {its : List J} {ks : List ByteArray} {i : Nat} (hi : i < its.length) (h1 : o = true → ks.length = its.length) (h2 : o = false → ks = []) :
    pre o its ks (i + 1) = pre o its ks i ++ ((if i = 0 then [] else [44]) ++ (key o ks i ++ prt (its[i]'hi))) := by
  unfold pre
  have em : (its.take i).isEmpty = decide (i = 0) := by
    cases i with
    | zero => simp
    | succ i => cases its with
      | nil => simp at hi
      | cons x r => simp
  rw [List.take_succ_eq_append_getElem hi]
  cases o with
  | false =>
    obtain rfl := h2 rfl
    have := prts_app false [its[i]'hi] [] (fun _ => rfl) (its.take i) [] true (fun e => by cases e) (fun _ => rfl)
    simp only [List.append_nil, List.take_nil, Bool.true_and] at this ⊢
    rw [this, prts_cons, prts_nil, em]
    unfold key
    by_cases h0 : i = 0 <;> simp [h0]
  | true =>
    have hk := h1 rfl
    have hik : i < ks.length := by omega
    rw [List.take_succ_eq_append_getElem hik]
    have := prts_app true [its[i]'hi] [ks[i]'hik] (fun e => by cases e) (its.take i) (ks.take i) true (fun _ => by rw [List.length_take, List.length_take]; omega) (fun e => by cases e)
    rw [this, prts_cons, prts_nil, em]
    have kg : ks.getD i nil_ = ks[i]'hik := by simp [List.getD, List.getElem?_eq_getElem hik]
    unfold key
    rw [kg]
    by_cases h0 : i = 0 <;> simp [h0]
theorem pre_zero (o : Bool) (its : List J) (ks : List ByteArray) : pre o its ks 0 = [] := by unfold pre; rw [List.take_zero, prts_nil]
theorem pre_all {o : Bool} {its : List J} {ks : List ByteArray} (h1 : o = true → ks.length = its.length) (h2 : o = false → ks = []) : pre o its ks its.length = prts o true its ks := by
  unfold pre
  rw [List.take_length]
  cases o with
  | false => rw [h2 rfl]; simp
  | true => rw [← h1 rfl, List.take_length]
theorem pre_le {o : Bool} {its : List J} {ks : List ByteArray} (h1 : o = true → ks.length = its.length) (h2 : o = false → ks = []) : ∀ (n i : Nat), i + n ≤ its.length → (pre o its ks i).length ≤ (pre o its ks (i + n)).length
  | 0, i, _ => Nat.le_refl _
  | n + 1, i, h => by
    have a := pre_le h1 h2 n i (by omega)
    have b := pre_step (o := o) (ks := ks) (i := i + n) (by omega) h1 h2
    rw [← Nat.add_assoc, b, List.length_append]; omega
theorem prt_in (o : Bool) (n : Int) (t : ByteArray) (its : List J) (ks : List ByteArray) : prt (.mk (if o then 6 else 5) n t its ks) = (if o then 123 else 91) :: (prts o true its ks ++ [shut o]) := by
  unfold prt
  cases o <;> rfl
end Jp
theorem J.rngs_at : ∀ {l : List J} (_ : J.rngs l) {i : Nat} (hi : i < l.length), (l[i]'hi).rng
  | [], _, i, hi => absurd hi (Nat.not_lt_zero _)
  | j :: r, h, i, hi => by
    unfold J.rngs at h
    cases i with
    | zero => exact h.1
    | succ i => exact J.rngs_at h.2 (by simpa using hi)
theorem str_ret {a b : List UInt8} {w w' : World} (h : a = b) (hb : Below w.heap.size w w') : Str a w (.returned (.string ⟨b.toArray⟩)) w' := by subst h; exact ⟨rfl, hb⟩
theorem str_ret2 {a : List UInt8} {s : ByteArray} {w w' : World} (h : s = ⟨a.toArray⟩) (hb : Below w.heap.size w w') : Str a w (.returned (.string s)) w' := by subst h; exact ⟨rfl, hb⟩

set_option maxRecDepth 100000 in
set_option maxHeartbeats 3000000 in
theorem rprint_at : ∀ (N : Nat) (t : J), SizeOf.sizeOf t ≤ N → t.wt ≤ 1000000 → t.frm → t.rng → ∀ (w : World) (A3 A4 : Option Addr) (c3 c4 : Nat),
    TreeC w w.heap.size t [.int .i64 t.k, .int .i64 t.n, .string t.t, .slice A3 t.its.length c3, .slice A4 t.ks.length c4] →
    Calls Tryd.prog 21 #[.agg #[.int .i64 t.k, .int .i64 t.n, .string t.t, .slice A3 t.its.length c3, .slice A4 t.ks.length c4]] w (Str (Jp.prt t) w)
  | 0, t, h => by cases t; simp at h
  | N + 1, .mk k n s its ks, hN => by
    intro hW hf hr w A3 A4 c3 c4 ht
    have CS := cell_set
    obtain ⟨_, _, _, _, e, hc3, hc4, rt, ft⟩ := ht.out
    simp only [J.k, J.n, J.t, J.its, J.ks, List.cons.injEq, Value.slice.injEq, true_and, and_true] at e hc3 hc4 rt ft
    obtain ⟨⟨rfl, rfl⟩, rfl, rfl⟩ := e
    have plen := Jp.prt_wt _ hr
    have wt : (J.mk k n s its ks).wt = 1 + s.size + kwt ks + J.wts its := by unfold J.wt; rfl
    have hW2 := hW
    rw [wt] at hW2
    unfold J.frm at hf
    obtain ⟨k1, k6, hn, hb, ht4, hct, hits, hks, hlen, hcu, hnd, hfs⟩ := hf
    unfold J.rng at hr
    obtain ⟨r1, r2, hrs⟩ := hr
    have hss : s.size ≤ 10000000 := by omega
    have IH : Hid (∀ (i : Nat) (h1 : i < its.length) (W : World) (A3 A4 : Option Addr) (c3 c4 : Nat),
        TreeC W W.heap.size (its[i]'h1) [.int .i64 (its[i]'h1).k, .int .i64 (its[i]'h1).n, .string (its[i]'h1).t, .slice A3 (its[i]'h1).its.length c3, .slice A4 (its[i]'h1).ks.length c4] →
        Calls Tryd.prog 21 #[.agg #[.int .i64 (its[i]'h1).k, .int .i64 (its[i]'h1).n, .string (its[i]'h1).t, .slice A3 (its[i]'h1).its.length c3, .slice A4 (its[i]'h1).ks.length c4]] W (Str (Jp.prt (its[i]'h1)) W)) := fun i h1 W A3 A4 c3 c4 a =>
      rprint_at N (its[i]'h1) (by have := J.lt_its (j := .mk k n s its ks) (i := i) h1; simp only [J.its] at this; omega) (by have := wts_at (l := its) h1; omega) (J.frms_iff.1 hfs i h1) (J.rngs_at hrs h1) W A3 A4 c3 c4 a
    have RT := Lib.hid rt; have FT := Lib.hid ft
    have KSZ := Lib.hid (fun i (h : i < ks.length) => (show (ks[i]'h).size ≤ 10000000 by have := kwt_at (l := ks) h; omega))
    have hb4 := hc4.2
    have hb3 := hc3.2
    have hr4 := hc4.1
    unfold maxLen at hb4 hb3
    obtain ⟨ni, hni⟩ : ∃ m, m = its.length := ⟨_, rfl⟩
    obtain ⟨nk, hnk⟩ : ∃ m, m = ks.length := ⟨_, rfl⟩
    have HNI := Lib.hid hni; have HNK := Lib.hid hnk
    simp only [J.k, J.n, J.t, J.its, J.ks]
    rw [← hni] at hb3 ⊢
    rw [← hnk] at hb4 hr4 ⊢
    have W1 : Below w.heap.size w (w.alloc (.cells #[.int .i64 k, .int .i64 n, .string s, .slice A3 ni c3, .slice A4 nk c4] 25)) := (Below.refl _ _).alloc (Nat.le_refl _) _
    have gz1 : (w.alloc (.cells #[.int .i64 k, .int .i64 n, .string s, .slice A3 ni c3, .slice A4 nk c4] 25)).heap.size = w.heap.size + 1 := by simp
    have GZ1 := Lib.hid gz1
    obtain ⟨P, hP⟩ : ∃ P, P = Jp.prt (.mk k n s its ks) := ⟨_, rfl⟩
    rw [← hP] at plen ⊢
    have plen2 : P.length ≤ 30000000 := by omega
    have HP := Lib.hid hP
    have HLEN := Lib.hid hlen; have HKS := Lib.hid hks
    clear ht rt ft hN hc3 hc4 hni hnk gz1 wt hW hW2 hfs hrs plen hcu hnd hct hP hlen hks
    obtain rfl | rfl | rfl | rfl | hk56 : k = 1 ∨ k = 2 ∨ k = 3 ∨ k = 4 ∨ (k = 5 ∨ k = 6) := by omega
    · have Z : Hid (P = Jx.sN) := HP.out.trans (by unfold Jp.prt; rfl)
      clear HP IH hn hb ht4 hits
      go_enter Tryd.func21, Tryd.ntmps21
      go_wp2_with fail
      go_ret
      exact str_ret2 (by rw [Z.out]; rfl) (by (repeat' (first | with_reducible assumption | with_reducible exact Below.refl _ _ | (with_reducible refine Below.alloc ?_ ?_ _; rotate_left; focus ((first | exact Nat.le_refl _ | (simp; done) | (simp; omega) | omega | fail))) | (with_reducible refine Below.setCell ?_ ?_ _; rotate_left; focus ((first | exact Nat.le_refl _ | (simp; done) | (simp; omega) | omega | fail))) | with_reducible refine Mem.bel_drewN ?_ _ | with_reducible refine Below.drew ?_ | (with_reducible refine Mem.bel_call (by with_reducible assumption) ?_ ?_; focus ((first | exact Nat.le_refl _ | (simp; done) | (simp; omega) | omega | fail))) | fail)))
    · rcases hb rfl with rfl | rfl
      · have Z : Hid (P = Jx.sF) := HP.out.trans (by unfold Jp.prt; rfl)
        clear HP IH hn hb ht4 hits
        go_enter Tryd.func21, Tryd.ntmps21
        go_wp2_with fail
        go_ret
        exact str_ret2 (by rw [Z.out]; rfl) (by (repeat' (first | with_reducible assumption | with_reducible exact Below.refl _ _ | (with_reducible refine Below.alloc ?_ ?_ _; rotate_left; focus ((first | exact Nat.le_refl _ | (simp; done) | (simp; omega) | omega | fail))) | (with_reducible refine Below.setCell ?_ ?_ _; rotate_left; focus ((first | exact Nat.le_refl _ | (simp; done) | (simp; omega) | omega | fail))) | with_reducible refine Mem.bel_drewN ?_ _ | with_reducible refine Below.drew ?_ | (with_reducible refine Mem.bel_call (by with_reducible assumption) ?_ ?_; focus ((first | exact Nat.le_refl _ | (simp; done) | (simp; omega) | omega | fail))) | fail)))
      · have Z : Hid (P = Jx.sT) := HP.out.trans (by unfold Jp.prt; rfl)
        clear HP IH hn hb ht4 hits
        go_enter Tryd.func21, Tryd.ntmps21
        go_wp2_with fail
        go_ret
        exact str_ret2 (by rw [Z.out]; rfl) (by (repeat' (first | with_reducible assumption | with_reducible exact Below.refl _ _ | (with_reducible refine Below.alloc ?_ ?_ _; rotate_left; focus ((first | exact Nat.le_refl _ | (simp; done) | (simp; omega) | omega | fail))) | (with_reducible refine Below.setCell ?_ ?_ _; rotate_left; focus ((first | exact Nat.le_refl _ | (simp; done) | (simp; omega) | omega | fail))) | with_reducible refine Mem.bel_drewN ?_ _ | with_reducible refine Below.drew ?_ | (with_reducible refine Mem.bel_call (by with_reducible assumption) ?_ ?_; focus ((first | exact Nat.le_refl _ | (simp; done) | (simp; omega) | omega | fail))) | fail)))
    · have Z : Hid (P = Jx.nm n) := HP.out.trans (by unfold Jp.prt; rfl)
      clear HP IH hn hb ht4 hits
      go_enter Tryd.func21, Tryd.ntmps21
      go_wp2_with fail
      with_reducible refine (rNumber_any n r1 r2 _).mono ?_
      rintro e w2 ⟨rfl, b2⟩
      go_wp2_with fail
      go_ret
      exact str_ret2 (by rw [Z.out]) (W1.trans (b2.mono (show w.heap.size ≤ _ by rw [GZ1.out]; omega)))
    · have Z : Hid (P = Jx.quo s.data.toList) := HP.out.trans (by unfold Jp.prt; rfl)
      clear HP IH hn hb ht4 hits
      go_enter Tryd.func21, Tryd.ntmps21
      go_wp2_with fail
      with_reducible refine (rjQuote_any s _ hss).mono ?_
      rintro e w2 ⟨rfl, b2⟩
      go_wp2_with fail
      go_ret
      exact str_ret2 (by rw [Z.out]) (W1.trans (b2.mono (show w.heap.size ≤ _ by rw [GZ1.out]; omega)))
    · obtain ⟨o, ho⟩ : ∃ o : Bool, k = if o then 6 else 5 := by
        rcases hk56 with e | e
        · exact ⟨false, e⟩
        · exact ⟨true, e⟩
      have ho1 : o = true → ks.length = its.length := fun e => HLEN.out (by rw [ho, e]; rfl)
      have ho2 : o = false → ks = [] := fun e => HKS.out (by rw [ho, e]; decide)
      have pe := HP.out
      rw [ho, Jp.prt_in] at pe
      have PA := Jp.pre_all ho1 ho2
      have PE : Hid (P = (if o then 123 else 91) :: (Jp.pre o its ks ni ++ [Jp.shut o])) := by show _ = _; rw [HNI.out, PA]; exact pe
      have PS := Lib.hid (fun i (h : i < its.length) => Jp.pre_step h ho1 ho2)
      have PL : Hid (∀ i, i ≤ ni → (Jp.pre o its ks i).length ≤ 30000000) := fun i hi => by
        have := Jp.pre_le ho1 ho2 (ni - i) i (by rw [← HNI.out]; omega)
        have e := PE.out
        have pl := congrArg List.length e
        rw [Nat.add_sub_cancel' hi] at this
        simp only [List.length_cons, List.length_append] at pl
        omega
      obtain ⟨F, hF⟩ : ∃ F : Nat → List UInt8, F = Jp.pre o its ks := ⟨_, rfl⟩
      have F0 : Hid (F 0 = []) := by show _ = _; rw [hF, Jp.pre_zero]
      rw [← hF] at PE PS PL
      have NKI : Hid (o = true → nk = ni) := fun e => by have := ho1 e; have := HNK.out; have := HNI.out; omega
      clear HP pe PA hF HLEN HKS hb hn ht4 hits hk56 ho1 ho2
      cases o
      · obtain rfl : k = 5 := ho
        go_enter Tryd.func21, Tryd.ntmps21
        go_wp2_with fail
        go_loopw [3, 4] (fun v t wr => ∃ i : Nat, i ≤ ni ∧ v = .string ⟨(F i).toArray⟩ ∧ t = .int .i64 (i : Int) ∧ Below (w.heap.size + 1) (w.alloc (.cells #[.int .i64 5, .int .i64 n, .string s, .slice A3 ni c3, .slice A4 nk c4] 25)) wr) (fun _ t _ => ni - (intOf t).toNat)
        case atStart => exact ⟨0, Nat.zero_le _, by rw [F0.out], rfl, Below.refl _ _⟩
        case round =>
          obtain ⟨i, hi, rfl, rfl, bl⟩ := hrel
          have gsz := bl.size
          rw [GZ1.out] at gsz
          have blw := W1.trans (bl.mono (by omega))
          have hOwn := Nat.lt_of_lt_of_le (n := w.heap.size) (by first | exact Nat.le_refl _ | assumption | (simp; done) | (simp; omega) | omega) (Below.size bl)
          have hOwn1 := Nat.ne_of_gt hOwn
          have hOwn2 := Nat.ne_of_lt hOwn
          have hOwn := (Below.cell bl (p := ⟨w.heap.size, 0, none⟩) (by first | exact Nat.le_refl _ | assumption | (simp; done) | (simp; omega) | omega)).trans (by go_simp; rfl)
          have hOwn := (Below.cell bl (p := ⟨w.heap.size, 1, none⟩) (by first | exact Nat.le_refl _ | assumption | (simp; done) | (simp; omega) | omega)).trans (by go_simp; rfl)
          have hOwn := (Below.cell bl (p := ⟨w.heap.size, 2, none⟩) (by first | exact Nat.le_refl _ | assumption | (simp; done) | (simp; omega) | omega)).trans (by go_simp; rfl)
          have hOwn := (Below.cell bl (p := ⟨w.heap.size, 3, none⟩) (by first | exact Nat.le_refl _ | assumption | (simp; done) | (simp; omega) | omega)).trans (by go_simp; rfl)
          have hOwn := (Below.cell bl (p := ⟨w.heap.size, 4, none⟩) (by first | exact Nat.le_refl _ | assumption | (simp; done) | (simp; omega) | omega)).trans (by go_simp; rfl)
          have hOwn := (Below.frozen bl (p := ⟨w.heap.size, 0, none⟩) (by first | exact Nat.le_refl _ | assumption | (simp; done) | (simp; omega) | omega)).trans (by go_simp; rfl)
          have hOwn := (Below.frozen bl (p := ⟨w.heap.size, 1, none⟩) (by first | exact Nat.le_refl _ | assumption | (simp; done) | (simp; omega) | omega)).trans (by go_simp; rfl)
          have hOwn := (Below.frozen bl (p := ⟨w.heap.size, 2, none⟩) (by first | exact Nat.le_refl _ | assumption | (simp; done) | (simp; omega) | omega)).trans (by go_simp; rfl)
          have hOwn := (Below.frozen bl (p := ⟨w.heap.size, 3, none⟩) (by first | exact Nat.le_refl _ | assumption | (simp; done) | (simp; omega) | omega)).trans (by go_simp; rfl)
          have hOwn := (Below.frozen bl (p := ⟨w.heap.size, 4, none⟩) (by first | exact Nat.le_refl _ | assumption | (simp; done) | (simp; omega) | omega)).trans (by go_simp; rfl)
          by_cases hin : i < ni
          · have h1 : i < its.length := by rw [← HNI.out]; exact hin
            have ps := PS.out i h1
            have pl0 := PL.out i (by omega)
            have pl1 := PL.out (i + 1) (by omega)
            obtain ⟨b1, o1, X3, x3, X4, x4, e1, hb1, y0, y1, y2, y3, y4, ty⟩ := (RT.out.below blw).cells h1
            have I2 := Lib.hid (fun W a => IH.out i h1 W X3 X4 x3 x4 a)
            have e1' := e1
            generalize its[i]'h1 = T' at *
            have lb1 := Nat.lt_of_lt_of_le hb1 blw.size
            have TY0 := Lib.hid (ty.more (show w.heap.size ≤ _ from blw.size))
            obtain ⟨pj, hpj⟩ : ∃ l, l = Jp.prt T' := ⟨_, rfl⟩
            rw [← hpj] at ps I2
            obtain ⟨a0, ha0⟩ : ∃ l, l = F i := ⟨_, rfl⟩
            obtain ⟨a9, ha9⟩ : ∃ l, l = F (i + 1) := ⟨_, rfl⟩
            have HA9 := Lib.hid ha9
            rw [← ha0] at ps pl0 ⊢
            rw [← ha9] at ps pl1
            subst e1
            clear ty h1 hpj ha9 e1'
            by_cases h0 : i = 0
            · subst h0
              rw [if_pos rfl, List.nil_append] at ps
              simp only [Nat.zero_mul, Nat.add_zero] at y0 y1 y2 y3 y4
              have z0 : a0 = [] := by rw [ha0]; exact F0.out
              subst z0
              clear ha0
              have pq := congrArg List.length ps
              simp only [List.length_append, List.length_nil] at pq
              have E4 : (⟨(([] : List UInt8)).toArray⟩ : ByteArray) ++ ⟨pj.toArray⟩ = ⟨a9.toArray⟩ := by rw [ps]; refine (str_add _ _).trans ?_; first | (congr 2; done) | (congr 2; simp [Jp.key])
              have n4 : ¬ 9223372036854775807 < pj.length := by omega
              have S0 : (⟨([] : List UInt8).toArray⟩ : ByteArray) = ⟨#[]⟩ := rfl
              clear ps pq
              go_wp2_with fail
              with_reducible refine (I2.out _ TY0.out).mono ?_
              rintro e w7 ⟨rfl, b7⟩
              have b7w := bl.trans (b7.mono (by omega))
              have hOwn := Nat.lt_of_lt_of_le (n := w.heap.size) (by first | exact Nat.le_refl _ | assumption | (simp; done) | (simp; omega) | omega) (Below.size b7w)
              have hOwn1 := Nat.ne_of_gt hOwn
              have hOwn2 := Nat.ne_of_lt hOwn
              have hOwn := (Below.cell b7w (p := ⟨w.heap.size, 0, none⟩) (by first | exact Nat.le_refl _ | assumption | (simp; done) | (simp; omega) | omega)).trans (by go_simp; rfl)
              have hOwn := (Below.cell b7w (p := ⟨w.heap.size, 1, none⟩) (by first | exact Nat.le_refl _ | assumption | (simp; done) | (simp; omega) | omega)).trans (by go_simp; rfl)
              have hOwn := (Below.cell b7w (p := ⟨w.heap.size, 2, none⟩) (by first | exact Nat.le_refl _ | assumption | (simp; done) | (simp; omega) | omega)).trans (by go_simp; rfl)
              have hOwn := (Below.cell b7w (p := ⟨w.heap.size, 3, none⟩) (by first | exact Nat.le_refl _ | assumption | (simp; done) | (simp; omega) | omega)).trans (by go_simp; rfl)
              have hOwn := (Below.cell b7w (p := ⟨w.heap.size, 4, none⟩) (by first | exact Nat.le_refl _ | assumption | (simp; done) | (simp; omega) | omega)).trans (by go_simp; rfl)
              have hOwn := (Below.frozen b7w (p := ⟨w.heap.size, 0, none⟩) (by first | exact Nat.le_refl _ | assumption | (simp; done) | (simp; omega) | omega)).trans (by go_simp; rfl)
              have hOwn := (Below.frozen b7w (p := ⟨w.heap.size, 1, none⟩) (by first | exact Nat.le_refl _ | assumption | (simp; done) | (simp; omega) | omega)).trans (by go_simp; rfl)
              have hOwn := (Below.frozen b7w (p := ⟨w.heap.size, 2, none⟩) (by first | exact Nat.le_refl _ | assumption | (simp; done) | (simp; omega) | omega)).trans (by go_simp; rfl)
              have hOwn := (Below.frozen b7w (p := ⟨w.heap.size, 3, none⟩) (by first | exact Nat.le_refl _ | assumption | (simp; done) | (simp; omega) | omega)).trans (by go_simp; rfl)
              have hOwn := (Below.frozen b7w (p := ⟨w.heap.size, 4, none⟩) (by first | exact Nat.le_refl _ | assumption | (simp; done) | (simp; omega) | omega)).trans (by go_simp; rfl)
              go_wp2_with fail
              go_roundw
              case rel => exact ⟨0 + 1, by omega, by rw [← HA9.out], by go_num, b7w⟩
              case measure => simp [intOf]; omega
            · rw [if_neg h0] at ps
              have gi : (0 : Int) < (i : Int) := by omega
              clear ha0
              have E1 : (⟨a0.toArray⟩ : ByteArray) ++ ⟨#[44]⟩ = ⟨(a0 ++ [44]).toArray⟩ := str_add a0 [44]
              have n1 : ¬ 9223372036854775807 < a0.length + 1 := by omega
              have pq := congrArg List.length ps
              simp only [List.length_append, List.length_cons, List.length_nil] at pq
              have E4 : (⟨((a0 ++ [44])).toArray⟩ : ByteArray) ++ ⟨pj.toArray⟩ = ⟨a9.toArray⟩ := by rw [ps]; refine (str_add _ _).trans ?_; first | (congr 2; done) | (congr 2; simp [Jp.key])
              have n4 : ¬ 9223372036854775807 < a0.length + 1 + pj.length := by omega
              clear ps pq
              go_wp2_with fail
              with_reducible refine (I2.out _ TY0.out).mono ?_
              rintro e w7 ⟨rfl, b7⟩
              have b7w := bl.trans (b7.mono (by omega))
              have hOwn := Nat.lt_of_lt_of_le (n := w.heap.size) (by first | exact Nat.le_refl _ | assumption | (simp; done) | (simp; omega) | omega) (Below.size b7w)
              have hOwn1 := Nat.ne_of_gt hOwn
              have hOwn2 := Nat.ne_of_lt hOwn
              have hOwn := (Below.cell b7w (p := ⟨w.heap.size, 0, none⟩) (by first | exact Nat.le_refl _ | assumption | (simp; done) | (simp; omega) | omega)).trans (by go_simp; rfl)
              have hOwn := (Below.cell b7w (p := ⟨w.heap.size, 1, none⟩) (by first | exact Nat.le_refl _ | assumption | (simp; done) | (simp; omega) | omega)).trans (by go_simp; rfl)
              have hOwn := (Below.cell b7w (p := ⟨w.heap.size, 2, none⟩) (by first | exact Nat.le_refl _ | assumption | (simp; done) | (simp; omega) | omega)).trans (by go_simp; rfl)
              have hOwn := (Below.cell b7w (p := ⟨w.heap.size, 3, none⟩) (by first | exact Nat.le_refl _ | assumption | (simp; done) | (simp; omega) | omega)).trans (by go_simp; rfl)
              have hOwn := (Below.cell b7w (p := ⟨w.heap.size, 4, none⟩) (by first | exact Nat.le_refl _ | assumption | (simp; done) | (simp; omega) | omega)).trans (by go_simp; rfl)
              have hOwn := (Below.frozen b7w (p := ⟨w.heap.size, 0, none⟩) (by first | exact Nat.le_refl _ | assumption | (simp; done) | (simp; omega) | omega)).trans (by go_simp; rfl)
              have hOwn := (Below.frozen b7w (p := ⟨w.heap.size, 1, none⟩) (by first | exact Nat.le_refl _ | assumption | (simp; done) | (simp; omega) | omega)).trans (by go_simp; rfl)
              have hOwn := (Below.frozen b7w (p := ⟨w.heap.size, 2, none⟩) (by first | exact Nat.le_refl _ | assumption | (simp; done) | (simp; omega) | omega)).trans (by go_simp; rfl)
              have hOwn := (Below.frozen b7w (p := ⟨w.heap.size, 3, none⟩) (by first | exact Nat.le_refl _ | assumption | (simp; done) | (simp; omega) | omega)).trans (by go_simp; rfl)
              have hOwn := (Below.frozen b7w (p := ⟨w.heap.size, 4, none⟩) (by first | exact Nat.le_refl _ | assumption | (simp; done) | (simp; omega) | omega)).trans (by go_simp; rfl)
              go_wp2_with fail
              go_roundw
              case rel => exact ⟨i + 1, by omega, by rw [← HA9.out], by go_num, b7w⟩
              case measure => simp [intOf]; omega
          · obtain rfl : i = ni := by omega
            have pl0 := PL.out i (by omega)
            obtain ⟨a0, ha0⟩ : ∃ l, l = F i := ⟨_, rfl⟩
            have pe := PE.out
            rw [← ha0] at pl0 pe ⊢
            have Z : Hid (P = 91 :: (a0 ++ [93])) := pe
            have E1 : (⟨#[91]⟩ : ByteArray) ++ ⟨a0.toArray⟩ = ⟨(91 :: a0).toArray⟩ := str_add [91] a0
            have E2 : (⟨(91 :: a0).toArray⟩ : ByteArray) ++ ⟨#[93]⟩ = ⟨(91 :: a0 ++ [93]).toArray⟩ := str_add (91 :: a0) [93]
            have n1 : ¬ 9223372036854775807 < 1 + a0.length := by omega
            have n2 : ¬ 9223372036854775807 < a0.length + 1 + 1 := by omega
            clear hin ha0 pe IH
            go_wp2_with fail
            go_ret
            exact str_ret2 (by first | (rw [Z.out]; done) | (rw [Z.out]; simp [E1, E2, str_add])) (by (repeat' (first | with_reducible assumption | with_reducible exact Below.refl _ _ | (with_reducible refine Below.alloc ?_ ?_ _; rotate_left; focus ((first | exact Nat.le_refl _ | (simp; done) | (simp; omega) | omega | fail))) | (with_reducible refine Below.setCell ?_ ?_ _; rotate_left; focus ((first | exact Nat.le_refl _ | (simp; done) | (simp; omega) | omega | fail))) | with_reducible refine Mem.bel_drewN ?_ _ | with_reducible refine Below.drew ?_ | (with_reducible refine Mem.bel_call (by with_reducible assumption) ?_ ?_; focus ((first | exact Nat.le_refl _ | (simp; done) | (simp; omega) | omega | fail))) | fail)))
      · obtain rfl : k = 6 := ho
        go_enter Tryd.func21, Tryd.ntmps21
        go_wp2_with fail
        go_loopw [3, 4] (fun v t wr => ∃ i : Nat, i ≤ ni ∧ v = .string ⟨(F i).toArray⟩ ∧ t = .int .i64 (i : Int) ∧ Below (w.heap.size + 1) (w.alloc (.cells #[.int .i64 6, .int .i64 n, .string s, .slice A3 ni c3, .slice A4 nk c4] 25)) wr) (fun _ t _ => ni - (intOf t).toNat)
        case atStart => exact ⟨0, Nat.zero_le _, by rw [F0.out], rfl, Below.refl _ _⟩
        case round =>
          obtain ⟨i, hi, rfl, rfl, bl⟩ := hrel
          have gsz := bl.size
          rw [GZ1.out] at gsz
          have blw := W1.trans (bl.mono (by omega))
          have hOwn := Nat.lt_of_lt_of_le (n := w.heap.size) (by first | exact Nat.le_refl _ | assumption | (simp; done) | (simp; omega) | omega) (Below.size bl)
          have hOwn1 := Nat.ne_of_gt hOwn
          have hOwn2 := Nat.ne_of_lt hOwn
          have hOwn := (Below.cell bl (p := ⟨w.heap.size, 0, none⟩) (by first | exact Nat.le_refl _ | assumption | (simp; done) | (simp; omega) | omega)).trans (by go_simp; rfl)
          have hOwn := (Below.cell bl (p := ⟨w.heap.size, 1, none⟩) (by first | exact Nat.le_refl _ | assumption | (simp; done) | (simp; omega) | omega)).trans (by go_simp; rfl)
          have hOwn := (Below.cell bl (p := ⟨w.heap.size, 2, none⟩) (by first | exact Nat.le_refl _ | assumption | (simp; done) | (simp; omega) | omega)).trans (by go_simp; rfl)
          have hOwn := (Below.cell bl (p := ⟨w.heap.size, 3, none⟩) (by first | exact Nat.le_refl _ | assumption | (simp; done) | (simp; omega) | omega)).trans (by go_simp; rfl)
          have hOwn := (Below.cell bl (p := ⟨w.heap.size, 4, none⟩) (by first | exact Nat.le_refl _ | assumption | (simp; done) | (simp; omega) | omega)).trans (by go_simp; rfl)
          have hOwn := (Below.frozen bl (p := ⟨w.heap.size, 0, none⟩) (by first | exact Nat.le_refl _ | assumption | (simp; done) | (simp; omega) | omega)).trans (by go_simp; rfl)
          have hOwn := (Below.frozen bl (p := ⟨w.heap.size, 1, none⟩) (by first | exact Nat.le_refl _ | assumption | (simp; done) | (simp; omega) | omega)).trans (by go_simp; rfl)
          have hOwn := (Below.frozen bl (p := ⟨w.heap.size, 2, none⟩) (by first | exact Nat.le_refl _ | assumption | (simp; done) | (simp; omega) | omega)).trans (by go_simp; rfl)
          have hOwn := (Below.frozen bl (p := ⟨w.heap.size, 3, none⟩) (by first | exact Nat.le_refl _ | assumption | (simp; done) | (simp; omega) | omega)).trans (by go_simp; rfl)
          have hOwn := (Below.frozen bl (p := ⟨w.heap.size, 4, none⟩) (by first | exact Nat.le_refl _ | assumption | (simp; done) | (simp; omega) | omega)).trans (by go_simp; rfl)
          by_cases hin : i < ni
          · have h1 : i < its.length := by rw [← HNI.out]; exact hin
            have ps := PS.out i h1
            have pl0 := PL.out i (by omega)
            have pl1 := PL.out (i + 1) (by omega)
            obtain ⟨b1, o1, X3, x3, X4, x4, e1, hb1, y0, y1, y2, y3, y4, ty⟩ := (RT.out.below blw).cells h1
            have I2 := Lib.hid (fun W a => IH.out i h1 W X3 X4 x3 x4 a)
            have e1' := e1
            generalize its[i]'h1 = T' at *
            have lb1 := Nat.lt_of_lt_of_le hb1 blw.size
            have TY0 := Lib.hid (ty.more (show w.heap.size ≤ _ from blw.size))
            have h8 : i < ks.length := by have := HNK.out; have : nk = ni := (by first | exact NKI.out rfl | exact NKI.out trivial); omega
            obtain ⟨b8, o8, e8, hb8, z0⟩ := fl_str FT.out h8
            have z1 := (blw.cell (p := ⟨b8, o8 + i, none⟩) hb8).trans z0
            have lb8 : b8 < w.heap.size := hb8
            have ysz := KSZ.out i h8
            have kk : Jp.key true ks i = Jx.quo (ks[i]'h8).data.toList ++ [58] := by unfold Jp.key; simp [List.getD, List.getElem?_eq_getElem h8]
            rw [kk] at ps
            have hi4 : (i : Int) < (nk : Int) := by have : nk = ni := (by first | exact NKI.out rfl | exact NKI.out trivial); omega
            generalize ks[i]'h8 = Y at *
            obtain ⟨qy, hqy⟩ : ∃ l, l = Jx.quo Y.data.toList := ⟨_, rfl⟩
            have QC := Lib.hid (fun W => rjQuote_any Y W ysz)
            rw [← hqy] at ps QC
            subst e8
            clear h8 z0 kk hqy ysz
            obtain ⟨pj, hpj⟩ : ∃ l, l = Jp.prt T' := ⟨_, rfl⟩
            rw [← hpj] at ps I2
            obtain ⟨a0, ha0⟩ : ∃ l, l = F i := ⟨_, rfl⟩
            obtain ⟨a9, ha9⟩ : ∃ l, l = F (i + 1) := ⟨_, rfl⟩
            have HA9 := Lib.hid ha9
            rw [← ha0] at ps pl0 ⊢
            rw [← ha9] at ps pl1
            subst e1
            clear ty h1 hpj ha9 e1'
            by_cases h0 : i = 0
            · subst h0
              rw [if_pos rfl, List.nil_append] at ps
              simp only [Nat.zero_mul, Nat.add_zero] at y0 y1 y2 y3 y4 z1
              have z0 : a0 = [] := by rw [ha0]; exact F0.out
              subst z0
              clear ha0
              have pq := congrArg List.length ps
              simp only [List.length_append, List.length_cons, List.length_nil] at pq
              obtain ⟨a2, h2⟩ : ∃ l : List UInt8, l = ([] : List UInt8) ++ qy := ⟨_, rfl⟩
              have E2 : (⟨(([] : List UInt8)).toArray⟩ : ByteArray) ++ ⟨qy.toArray⟩ = ⟨a2.toArray⟩ := by rw [h2]; exact str_add _ _
              have l2 := congrArg List.length h2
              simp only [List.length_append, List.length_nil] at l2
              have n2 : ¬ 9223372036854775807 < qy.length := by omega
              obtain ⟨a3, h3⟩ : ∃ l : List UInt8, l = a2 ++ [58] := ⟨_, rfl⟩
              have E3 : (⟨a2.toArray⟩ : ByteArray) ++ ⟨#[58]⟩ = ⟨a3.toArray⟩ := by rw [h3]; exact str_add _ _
              have l3 := congrArg List.length h3
              simp only [List.length_append, List.length_cons, List.length_nil] at l3
              have n3 : ¬ 9223372036854775807 < a2.length + 1 := by omega
              have E4 : (⟨(a3).toArray⟩ : ByteArray) ++ ⟨pj.toArray⟩ = ⟨a9.toArray⟩ := by rw [ps]; refine (str_add _ _).trans ?_; first | (congr 2; done) | (congr 2; simp [h3, h2])
              have n4 : ¬ 9223372036854775807 < a3.length + pj.length := by omega
              have S0 : (⟨([] : List UInt8).toArray⟩ : ByteArray) = ⟨#[]⟩ := rfl
              clear ps pq h2 h3
              go_wp2_with fail
              with_reducible refine (QC.out _).mono ?_
              rintro e w5 ⟨rfl, b5⟩
              have b5w := bl.trans (b5.mono (by omega))
              have s5 := b5.size
              have blw5 := W1.trans (b5w.mono (by omega))
              have hOwn := Nat.lt_of_lt_of_le (n := w.heap.size) (by first | exact Nat.le_refl _ | assumption | (simp; done) | (simp; omega) | omega) (Below.size b5w)
              have hOwn1 := Nat.ne_of_gt hOwn
              have hOwn2 := Nat.ne_of_lt hOwn
              have hOwn := (Below.cell b5w (p := ⟨w.heap.size, 0, none⟩) (by first | exact Nat.le_refl _ | assumption | (simp; done) | (simp; omega) | omega)).trans (by go_simp; rfl)
              have hOwn := (Below.cell b5w (p := ⟨w.heap.size, 1, none⟩) (by first | exact Nat.le_refl _ | assumption | (simp; done) | (simp; omega) | omega)).trans (by go_simp; rfl)
              have hOwn := (Below.cell b5w (p := ⟨w.heap.size, 2, none⟩) (by first | exact Nat.le_refl _ | assumption | (simp; done) | (simp; omega) | omega)).trans (by go_simp; rfl)
              have hOwn := (Below.cell b5w (p := ⟨w.heap.size, 3, none⟩) (by first | exact Nat.le_refl _ | assumption | (simp; done) | (simp; omega) | omega)).trans (by go_simp; rfl)
              have hOwn := (Below.cell b5w (p := ⟨w.heap.size, 4, none⟩) (by first | exact Nat.le_refl _ | assumption | (simp; done) | (simp; omega) | omega)).trans (by go_simp; rfl)
              have hOwn := (Below.frozen b5w (p := ⟨w.heap.size, 0, none⟩) (by first | exact Nat.le_refl _ | assumption | (simp; done) | (simp; omega) | omega)).trans (by go_simp; rfl)
              have hOwn := (Below.frozen b5w (p := ⟨w.heap.size, 1, none⟩) (by first | exact Nat.le_refl _ | assumption | (simp; done) | (simp; omega) | omega)).trans (by go_simp; rfl)
              have hOwn := (Below.frozen b5w (p := ⟨w.heap.size, 2, none⟩) (by first | exact Nat.le_refl _ | assumption | (simp; done) | (simp; omega) | omega)).trans (by go_simp; rfl)
              have hOwn := (Below.frozen b5w (p := ⟨w.heap.size, 3, none⟩) (by first | exact Nat.le_refl _ | assumption | (simp; done) | (simp; omega) | omega)).trans (by go_simp; rfl)
              have hOwn := (Below.frozen b5w (p := ⟨w.heap.size, 4, none⟩) (by first | exact Nat.le_refl _ | assumption | (simp; done) | (simp; omega) | omega)).trans (by go_simp; rfl)
              have y0 := (b5.cell (p := ⟨b1, o1, none⟩) lb1).trans y0
              have y1 := (b5.cell (p := ⟨b1, o1 + 1, none⟩) lb1).trans y1
              have y2 := (b5.cell (p := ⟨b1, o1 + 2, none⟩) lb1).trans y2
              have y3 := (b5.cell (p := ⟨b1, o1 + 3, none⟩) lb1).trans y3
              have y4 := (b5.cell (p := ⟨b1, o1 + 4, none⟩) lb1).trans y4
              have TY := Lib.hid ((TY0.out.below b5).more s5)
              go_wp2_with fail
              with_reducible refine (I2.out _ TY.out).mono ?_
              rintro e w7 ⟨rfl, b7⟩
              have b7w := b5w.trans (b7.mono (by omega))
              have hOwn := Nat.lt_of_lt_of_le (n := w.heap.size) (by first | exact Nat.le_refl _ | assumption | (simp; done) | (simp; omega) | omega) (Below.size b7w)
              have hOwn1 := Nat.ne_of_gt hOwn
              have hOwn2 := Nat.ne_of_lt hOwn
              have hOwn := (Below.cell b7w (p := ⟨w.heap.size, 0, none⟩) (by first | exact Nat.le_refl _ | assumption | (simp; done) | (simp; omega) | omega)).trans (by go_simp; rfl)
              have hOwn := (Below.cell b7w (p := ⟨w.heap.size, 1, none⟩) (by first | exact Nat.le_refl _ | assumption | (simp; done) | (simp; omega) | omega)).trans (by go_simp; rfl)
              have hOwn := (Below.cell b7w (p := ⟨w.heap.size, 2, none⟩) (by first | exact Nat.le_refl _ | assumption | (simp; done) | (simp; omega) | omega)).trans (by go_simp; rfl)
              have hOwn := (Below.cell b7w (p := ⟨w.heap.size, 3, none⟩) (by first | exact Nat.le_refl _ | assumption | (simp; done) | (simp; omega) | omega)).trans (by go_simp; rfl)
              have hOwn := (Below.cell b7w (p := ⟨w.heap.size, 4, none⟩) (by first | exact Nat.le_refl _ | assumption | (simp; done) | (simp; omega) | omega)).trans (by go_simp; rfl)
              have hOwn := (Below.frozen b7w (p := ⟨w.heap.size, 0, none⟩) (by first | exact Nat.le_refl _ | assumption | (simp; done) | (simp; omega) | omega)).trans (by go_simp; rfl)
              have hOwn := (Below.frozen b7w (p := ⟨w.heap.size, 1, none⟩) (by first | exact Nat.le_refl _ | assumption | (simp; done) | (simp; omega) | omega)).trans (by go_simp; rfl)
              have hOwn := (Below.frozen b7w (p := ⟨w.heap.size, 2, none⟩) (by first | exact Nat.le_refl _ | assumption | (simp; done) | (simp; omega) | omega)).trans (by go_simp; rfl)
              have hOwn := (Below.frozen b7w (p := ⟨w.heap.size, 3, none⟩) (by first | exact Nat.le_refl _ | assumption | (simp; done) | (simp; omega) | omega)).trans (by go_simp; rfl)
              have hOwn := (Below.frozen b7w (p := ⟨w.heap.size, 4, none⟩) (by first | exact Nat.le_refl _ | assumption | (simp; done) | (simp; omega) | omega)).trans (by go_simp; rfl)
              go_wp2_with fail
              go_roundw
              case rel => exact ⟨0 + 1, by omega, by rw [← HA9.out], by go_num, b7w⟩
              case measure => simp [intOf]; omega
            · rw [if_neg h0] at ps
              have gi : (0 : Int) < (i : Int) := by omega
              clear ha0
              have E1 : (⟨a0.toArray⟩ : ByteArray) ++ ⟨#[44]⟩ = ⟨(a0 ++ [44]).toArray⟩ := str_add a0 [44]
              have n1 : ¬ 9223372036854775807 < a0.length + 1 := by omega
              have pq := congrArg List.length ps
              simp only [List.length_append, List.length_cons, List.length_nil] at pq
              obtain ⟨a2, h2⟩ : ∃ l : List UInt8, l = (a0 ++ [44]) ++ qy := ⟨_, rfl⟩
              have E2 : (⟨((a0 ++ [44])).toArray⟩ : ByteArray) ++ ⟨qy.toArray⟩ = ⟨a2.toArray⟩ := by rw [h2]; exact str_add _ _
              have l2 := congrArg List.length h2
              simp only [List.length_append, List.length_cons, List.length_nil] at l2
              have n2 : ¬ 9223372036854775807 < a0.length + 1 + qy.length := by omega
              obtain ⟨a3, h3⟩ : ∃ l : List UInt8, l = a2 ++ [58] := ⟨_, rfl⟩
              have E3 : (⟨a2.toArray⟩ : ByteArray) ++ ⟨#[58]⟩ = ⟨a3.toArray⟩ := by rw [h3]; exact str_add _ _
              have l3 := congrArg List.length h3
              simp only [List.length_append, List.length_cons, List.length_nil] at l3
              have n3 : ¬ 9223372036854775807 < a2.length + 1 := by omega
              have E4 : (⟨(a3).toArray⟩ : ByteArray) ++ ⟨pj.toArray⟩ = ⟨a9.toArray⟩ := by rw [ps]; refine (str_add _ _).trans ?_; first | (congr 2; done) | (congr 2; simp [h3, h2])
              have n4 : ¬ 9223372036854775807 < a3.length + pj.length := by omega
              clear ps pq h2 h3
              go_wp2_with fail
              with_reducible refine (QC.out _).mono ?_
              rintro e w5 ⟨rfl, b5⟩
              have b5w := bl.trans (b5.mono (by omega))
              have s5 := b5.size
              have blw5 := W1.trans (b5w.mono (by omega))
              have hOwn := Nat.lt_of_lt_of_le (n := w.heap.size) (by first | exact Nat.le_refl _ | assumption | (simp; done) | (simp; omega) | omega) (Below.size b5w)
              have hOwn1 := Nat.ne_of_gt hOwn
              have hOwn2 := Nat.ne_of_lt hOwn
              have hOwn := (Below.cell b5w (p := ⟨w.heap.size, 0, none⟩) (by first | exact Nat.le_refl _ | assumption | (simp; done) | (simp; omega) | omega)).trans (by go_simp; rfl)
              have hOwn := (Below.cell b5w (p := ⟨w.heap.size, 1, none⟩) (by first | exact Nat.le_refl _ | assumption | (simp; done) | (simp; omega) | omega)).trans (by go_simp; rfl)
              have hOwn := (Below.cell b5w (p := ⟨w.heap.size, 2, none⟩) (by first | exact Nat.le_refl _ | assumption | (simp; done) | (simp; omega) | omega)).trans (by go_simp; rfl)
              have hOwn := (Below.cell b5w (p := ⟨w.heap.size, 3, none⟩) (by first | exact Nat.le_refl _ | assumption | (simp; done) | (simp; omega) | omega)).trans (by go_simp; rfl)
              have hOwn := (Below.cell b5w (p := ⟨w.heap.size, 4, none⟩) (by first | exact Nat.le_refl _ | assumption | (simp; done) | (simp; omega) | omega)).trans (by go_simp; rfl)
              have hOwn := (Below.frozen b5w (p := ⟨w.heap.size, 0, none⟩) (by first | exact Nat.le_refl _ | assumption | (simp; done) | (simp; omega) | omega)).trans (by go_simp; rfl)
              have hOwn := (Below.frozen b5w (p := ⟨w.heap.size, 1, none⟩) (by first | exact Nat.le_refl _ | assumption | (simp; done) | (simp; omega) | omega)).trans (by go_simp; rfl)
              have hOwn := (Below.frozen b5w (p := ⟨w.heap.size, 2, none⟩) (by first | exact Nat.le_refl _ | assumption | (simp; done) | (simp; omega) | omega)).trans (by go_simp; rfl)
              have hOwn := (Below.frozen b5w (p := ⟨w.heap.size, 3, none⟩) (by first | exact Nat.le_refl _ | assumption | (simp; done) | (simp; omega) | omega)).trans (by go_simp; rfl)
              have hOwn := (Below.frozen b5w (p := ⟨w.heap.size, 4, none⟩) (by first | exact Nat.le_refl _ | assumption | (simp; done) | (simp; omega) | omega)).trans (by go_simp; rfl)
              have y0 := (b5.cell (p := ⟨b1, o1 + i * 5, none⟩) lb1).trans y0
              have y1 := (b5.cell (p := ⟨b1, o1 + i * 5 + 1, none⟩) lb1).trans y1
              have y2 := (b5.cell (p := ⟨b1, o1 + i * 5 + 2, none⟩) lb1).trans y2
              have y3 := (b5.cell (p := ⟨b1, o1 + i * 5 + 3, none⟩) lb1).trans y3
              have y4 := (b5.cell (p := ⟨b1, o1 + i * 5 + 4, none⟩) lb1).trans y4
              have TY := Lib.hid ((TY0.out.below b5).more s5)
              go_wp2_with fail
              with_reducible refine (I2.out _ TY.out).mono ?_
              rintro e w7 ⟨rfl, b7⟩
              have b7w := b5w.trans (b7.mono (by omega))
              have hOwn := Nat.lt_of_lt_of_le (n := w.heap.size) (by first | exact Nat.le_refl _ | assumption | (simp; done) | (simp; omega) | omega) (Below.size b7w)
              have hOwn1 := Nat.ne_of_gt hOwn
              have hOwn2 := Nat.ne_of_lt hOwn
              have hOwn := (Below.cell b7w (p := ⟨w.heap.size, 0, none⟩) (by first | exact Nat.le_refl _ | assumption | (simp; done) | (simp; omega) | omega)).trans (by go_simp; rfl)
              have hOwn := (Below.cell b7w (p := ⟨w.heap.size, 1, none⟩) (by first | exact Nat.le_refl _ | assumption | (simp; done) | (simp; omega) | omega)).trans (by go_simp; rfl)
              have hOwn := (Below.cell b7w (p := ⟨w.heap.size, 2, none⟩) (by first | exact Nat.le_refl _ | assumption | (simp; done) | (simp; omega) | omega)).trans (by go_simp; rfl)
              have hOwn := (Below.cell b7w (p := ⟨w.heap.size, 3, none⟩) (by first | exact Nat.le_refl _ | assumption | (simp; done) | (simp; omega) | omega)).trans (by go_simp; rfl)
              have hOwn := (Below.cell b7w (p := ⟨w.heap.size, 4, none⟩) (by first | exact Nat.le_refl _ | assumption | (simp; done) | (simp; omega) | omega)).trans (by go_simp; rfl)
              have hOwn := (Below.frozen b7w (p := ⟨w.heap.size, 0, none⟩) (by first | exact Nat.le_refl _ | assumption | (simp; done) | (simp; omega) | omega)).trans (by go_simp; rfl)
              have hOwn := (Below.frozen b7w (p := ⟨w.heap.size, 1, none⟩) (by first | exact Nat.le_refl _ | assumption | (simp; done) | (simp; omega) | omega)).trans (by go_simp; rfl)
              have hOwn := (Below.frozen b7w (p := ⟨w.heap.size, 2, none⟩) (by first | exact Nat.le_refl _ | assumption | (simp; done) | (simp; omega) | omega)).trans (by go_simp; rfl)
              have hOwn := (Below.frozen b7w (p := ⟨w.heap.size, 3, none⟩) (by first | exact Nat.le_refl _ | assumption | (simp; done) | (simp; omega) | omega)).trans (by go_simp; rfl)
              have hOwn := (Below.frozen b7w (p := ⟨w.heap.size, 4, none⟩) (by first | exact Nat.le_refl _ | assumption | (simp; done) | (simp; omega) | omega)).trans (by go_simp; rfl)
              go_wp2_with fail
              go_roundw
              case rel => exact ⟨i + 1, by omega, by rw [← HA9.out], by go_num, b7w⟩
              case measure => simp [intOf]; omega
          · obtain rfl : i = ni := by omega
            have pl0 := PL.out i (by omega)
            obtain ⟨a0, ha0⟩ : ∃ l, l = F i := ⟨_, rfl⟩
            have pe := PE.out
            rw [← ha0] at pl0 pe ⊢
            have Z : Hid (P = 123 :: (a0 ++ [125])) := pe
            have E1 : (⟨#[123]⟩ : ByteArray) ++ ⟨a0.toArray⟩ = ⟨(123 :: a0).toArray⟩ := str_add [123] a0
            have E2 : (⟨(123 :: a0).toArray⟩ : ByteArray) ++ ⟨#[125]⟩ = ⟨(123 :: a0 ++ [125]).toArray⟩ := str_add (123 :: a0) [125]
            have n1 : ¬ 9223372036854775807 < 1 + a0.length := by omega
            have n2 : ¬ 9223372036854775807 < a0.length + 1 + 1 := by omega
            clear hin ha0 pe IH
            go_wp2_with fail
            go_ret
            exact str_ret2 (by first | (rw [Z.out]; done) | (rw [Z.out]; simp [E1, E2, str_add])) (by (repeat' (first | with_reducible assumption | with_reducible exact Below.refl _ _ | (with_reducible refine Below.alloc ?_ ?_ _; rotate_left; focus ((first | exact Nat.le_refl _ | (simp; done) | (simp; omega) | omega | fail))) | (with_reducible refine Below.setCell ?_ ?_ _; rotate_left; focus ((first | exact Nat.le_refl _ | (simp; done) | (simp; omega) | omega | fail))) | with_reducible refine Mem.bel_drewN ?_ _ | with_reducible refine Below.drew ?_ | (with_reducible refine Mem.bel_call (by with_reducible assumption) ?_ ?_; focus ((first | exact Nat.le_refl _ | (simp; done) | (simp; omega) | omega | fail))) | fail)))
theorem rprint_any (t : J) (hW : t.wt ≤ 1000000) (hf : t.frm) (hr : t.rng) (w : World) (A3 A4 : Option Addr) (c3 c4 : Nat) (ht : TreeC w w.heap.size t [.int .i64 t.k, .int .i64 t.n, .string t.t, .slice A3 t.its.length c3, .slice A4 t.ks.length c4]) :
    Calls Tryd.prog 21 #[.agg #[.int .i64 t.k, .int .i64 t.n, .string t.t, .slice A3 t.its.length c3, .slice A4 t.ks.length c4]] w (Str (Jp.prt t) w) := rprint_at _ t (Nat.le_refl _) hW hf hr w A3 A4 c3 c4 ht
end Go.Proofs.YtjebkedlfhapjaaDoor
