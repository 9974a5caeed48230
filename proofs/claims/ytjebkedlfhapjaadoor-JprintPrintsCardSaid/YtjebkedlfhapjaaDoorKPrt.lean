/- The document's own answers for layer 8: may a tree be, but for how deep it is? -/
import Derived.Test.YtjebkedlfhapjaaDoorKShA
import Derived.Test.YtjebkedlfhapjaaDoorKShB
import Derived.Test.YtjebkedlfhapjaaDoorKShC
import Derived.Test.YtjebkedlfhapjaaDoorKText
import Derived.Test.YtjebkedlfhapjaaDoorJTSame
namespace Go.Proofs.YtjebkedlfhapjaaDoor
open Go.ChangeShapes Go.WideShapes Go.ChangeAt Go.RowKit Mem

theorem rshape_at : ∀ (N : Nat) (t : J), SizeOf.sizeOf t ≤ N → t.wt ≤ 1000000 → ∀ (w : World) (A3 A4 : Option Addr) (c3 c4 : Nat),
    TreeC w w.heap.size t [.int .i64 t.k, .int .i64 t.n, .string t.t, .slice A3 t.its.length c3, .slice A4 t.ks.length c4] →
    Calls Tryd.prog 24 #[.agg #[.int .i64 t.k, .int .i64 t.n, .string t.t, .slice A3 t.its.length c3, .slice A4 t.ks.length c4]] w (Told t.frmb w)
  | 0, t, h => by cases t; simp at h
  | N + 1, .mk k n s its ks, hN => by
    intro hW w A3 A4 c3 c4 ht
    have wt : (J.mk k n s its ks).wt = 1 + s.size + kwt ks + J.wts its := by unfold J.wt; rfl
    have ih : ShIH its := fun i h1 W A3 A4 c3 c4 a =>
      rshape_at N (its[i]'h1) (by have := J.lt_its (j := .mk k n s its ks) (i := i) h1; simp only [J.its] at this; omega) (by have := wts_at (l := its) h1; omega) W A3 A4 c3 c4 a
    by_cases h0 : k < 1 ∨ 6 < k
    · exact rshape_0 k n s its ks h0 ih hW w A3 A4 c3 c4 ht
    · obtain h | h | h | h | h | h : k = 1 ∨ k = 2 ∨ k = 3 ∨ k = 4 ∨ k = 5 ∨ k = 6 := by omega
      · exact rshape_1 k n s its ks h ih hW w A3 A4 c3 c4 ht
      · exact rshape_2 k n s its ks h ih hW w A3 A4 c3 c4 ht
      · exact rshape_3 k n s its ks h ih hW w A3 A4 c3 c4 ht
      · exact rshape_4 k n s its ks h ih hW w A3 A4 c3 c4 ht
      · exact rshape_5 k n s its ks h ih hW w A3 A4 c3 c4 ht
      · exact rshape_6 k n s its ks h ih hW w A3 A4 c3 c4 ht
theorem rshape_any (t : J) (hW : t.wt ≤ 1000000) (w : World) (A3 A4 : Option Addr) (c3 c4 : Nat) (ht : TreeC w w.heap.size t [.int .i64 t.k, .int .i64 t.n, .string t.t, .slice A3 t.its.length c3, .slice A4 t.ks.length c4]) :
    Calls Tryd.prog 24 #[.agg #[.int .i64 t.k, .int .i64 t.n, .string t.t, .slice A3 t.its.length c3, .slice A4 t.ks.length c4]] w (Told t.frmb w) := rshape_at _ t (Nat.le_refl _) hW w A3 A4 c3 c4 ht
end Go.Proofs.YtjebkedlfhapjaaDoor
/- The document's own answers for layer 8: may a tree be; its text, or why there is none. -/
namespace Go.Proofs.YtjebkedlfhapjaaDoor
open Go.ChangeShapes Go.WideShapes Go.ChangeAt Go.RowKit Mem

noncomputable def J.rightb (t : J) : Bool := decide (t.deep ≤ 32) && t.frmb
theorem J.rightb_iff {t : J} : t.rightb = true ↔ t.deep ≤ 32 ∧ t.frm := by unfold J.rightb; rw [Bool.and_eq_true, decide_eq_true_eq, J.frmb_iff]
/-- What is printed, and the error. -/
noncomputable def Jp.out (t : J) : List UInt8 × Nat := if t.rightb = true then if 20000 < (Jp.prt t).length then ([], 3) else (Jp.prt t, 0) else ([], 2)

set_option maxRecDepth 100000 in
set_option maxHeartbeats 2000000 in
theorem rRight_any (t : J) (hW : t.wt ≤ 1000000) (hD : t.deep ≤ 1000000) (w : World) (A3 A4 : Option Addr) (c3 c4 : Nat) (ht : TreeC w w.heap.size t [.int .i64 t.k, .int .i64 t.n, .string t.t, .slice A3 t.its.length c3, .slice A4 t.ks.length c4]) :
    Calls Tryd.prog 12 #[.agg #[.int .i64 t.k, .int .i64 t.n, .string t.t, .slice A3 t.its.length c3, .slice A4 t.ks.length c4]] w (Told t.rightb w) := by
  have CS := cell_set
  have DP := Lib.hid (fun W h => rdeep_at _ t (Nat.le_refl _) hD W A3 A4 c3 c4 h)
  have SH := Lib.hid (fun W h => rshape_any t hW W A3 A4 c3 c4 h)
  have RB : Hid (t.rightb = (decide (t.deep ≤ 32) && t.frmb)) := rfl
  have W1 : Below w.heap.size w (w.alloc (.cells #[.int .i64 t.k, .int .i64 t.n, .string t.t, .slice A3 t.its.length c3, .slice A4 t.ks.length c4] 25)) := (Below.refl _ _).alloc (Nat.le_refl _) _
  have gz1 : (w.alloc (.cells #[.int .i64 t.k, .int .i64 t.n, .string t.t, .slice A3 t.its.length c3, .slice A4 t.ks.length c4] 25)).heap.size = w.heap.size + 1 := by simp
  have HT1 : Hid (TreeC (w.alloc (.cells #[.int .i64 t.k, .int .i64 t.n, .string t.t, .slice A3 t.its.length c3, .slice A4 t.ks.length c4] 25)) (w.alloc (.cells #[.int .i64 t.k, .int .i64 t.n, .string t.t, .slice A3 t.its.length c3, .slice A4 t.ks.length c4] 25)).heap.size t [.int .i64 t.k, .int .i64 t.n, .string t.t, .slice A3 t.its.length c3, .slice A4 t.ks.length c4]) := (ht.alloc (Nat.le_refl _) _).more (by rw [gz1]; omega)
  have GZ1 := Lib.hid gz1
  obtain ⟨dt, hdt⟩ : ∃ d, d = t.deep := ⟨_, rfl⟩
  obtain ⟨fb, hfb⟩ : ∃ b, b = t.frmb := ⟨_, rfl⟩
  rw [← hdt, ← hfb] at RB
  rw [← hdt] at DP
  rw [← hfb] at SH
  clear hdt hfb ht gz1 hW hD
  by_cases hd : dt ≤ 32
  · have q : (dt : Int) ≤ 32 := by omega
    have HD := Lib.hid hd
    clear hd
    go_enter Tryd.func12, Tryd.ntmps12
    go_wp2_with fail
    with_reducible refine (DP.out _ HT1.out).mono ?_
    rintro e w2 ⟨rfl, b2⟩
    have HT2 := Lib.hid ((HT1.out.below b2).more b2.size)
    rw [GZ1.out] at b2
    have s2 := b2.size
    rw [GZ1.out] at s2
    have hOwn := Nat.lt_of_lt_of_le (n := w.heap.size) (by first | exact Nat.le_refl _ | assumption | (simp; done) | (simp; omega) | omega) (Below.size b2)
    have hOwn1 := Nat.ne_of_gt hOwn
    have hOwn2 := Nat.ne_of_lt hOwn
    have hOwn := (Below.cell b2 (p := ⟨w.heap.size, 0, none⟩) (by first | exact Nat.le_refl _ | assumption | (simp; done) | (simp; omega) | omega)).trans (by go_simp; rfl)
    have hOwn := (Below.cell b2 (p := ⟨w.heap.size, 1, none⟩) (by first | exact Nat.le_refl _ | assumption | (simp; done) | (simp; omega) | omega)).trans (by go_simp; rfl)
    have hOwn := (Below.cell b2 (p := ⟨w.heap.size, 2, none⟩) (by first | exact Nat.le_refl _ | assumption | (simp; done) | (simp; omega) | omega)).trans (by go_simp; rfl)
    have hOwn := (Below.cell b2 (p := ⟨w.heap.size, 3, none⟩) (by first | exact Nat.le_refl _ | assumption | (simp; done) | (simp; omega) | omega)).trans (by go_simp; rfl)
    have hOwn := (Below.cell b2 (p := ⟨w.heap.size, 4, none⟩) (by first | exact Nat.le_refl _ | assumption | (simp; done) | (simp; omega) | omega)).trans (by go_simp; rfl)
    have hOwn := (Below.frozen b2 (p := ⟨w.heap.size, 0, none⟩) (by first | exact Nat.le_refl _ | assumption | (simp; done) | (simp; omega) | omega)).trans (by go_simp; rfl)
    have hOwn := (Below.frozen b2 (p := ⟨w.heap.size, 1, none⟩) (by first | exact Nat.le_refl _ | assumption | (simp; done) | (simp; omega) | omega)).trans (by go_simp; rfl)
    have hOwn := (Below.frozen b2 (p := ⟨w.heap.size, 2, none⟩) (by first | exact Nat.le_refl _ | assumption | (simp; done) | (simp; omega) | omega)).trans (by go_simp; rfl)
    have hOwn := (Below.frozen b2 (p := ⟨w.heap.size, 3, none⟩) (by first | exact Nat.le_refl _ | assumption | (simp; done) | (simp; omega) | omega)).trans (by go_simp; rfl)
    have hOwn := (Below.frozen b2 (p := ⟨w.heap.size, 4, none⟩) (by first | exact Nat.le_refl _ | assumption | (simp; done) | (simp; omega) | omega)).trans (by go_simp; rfl)
    go_wp2_with fail
    with_reducible refine (SH.out _ HT2.out).mono ?_
    rintro e w3 ⟨rfl, b3⟩
    go_wp2_with fail
    go_ret
    exact told_ret (by rw [RB.out]; simp [HD.out]) (W1.trans ((b2.mono (by omega)).trans (b3.mono (by omega))))
  · have q : ¬ (dt : Int) ≤ 32 := by omega
    have HD := Lib.hid hd
    clear hd
    go_enter Tryd.func12, Tryd.ntmps12
    go_wp2_with fail
    with_reducible refine (DP.out _ HT1.out).mono ?_
    rintro e w2 ⟨rfl, b2⟩
    rw [GZ1.out] at b2
    have hOwn := Nat.lt_of_lt_of_le (n := w.heap.size) (by first | exact Nat.le_refl _ | assumption | (simp; done) | (simp; omega) | omega) (Below.size b2)
    have hOwn1 := Nat.ne_of_gt hOwn
    have hOwn2 := Nat.ne_of_lt hOwn
    have hOwn := (Below.cell b2 (p := ⟨w.heap.size, 0, none⟩) (by first | exact Nat.le_refl _ | assumption | (simp; done) | (simp; omega) | omega)).trans (by go_simp; rfl)
    have hOwn := (Below.cell b2 (p := ⟨w.heap.size, 1, none⟩) (by first | exact Nat.le_refl _ | assumption | (simp; done) | (simp; omega) | omega)).trans (by go_simp; rfl)
    have hOwn := (Below.cell b2 (p := ⟨w.heap.size, 2, none⟩) (by first | exact Nat.le_refl _ | assumption | (simp; done) | (simp; omega) | omega)).trans (by go_simp; rfl)
    have hOwn := (Below.cell b2 (p := ⟨w.heap.size, 3, none⟩) (by first | exact Nat.le_refl _ | assumption | (simp; done) | (simp; omega) | omega)).trans (by go_simp; rfl)
    have hOwn := (Below.cell b2 (p := ⟨w.heap.size, 4, none⟩) (by first | exact Nat.le_refl _ | assumption | (simp; done) | (simp; omega) | omega)).trans (by go_simp; rfl)
    have hOwn := (Below.frozen b2 (p := ⟨w.heap.size, 0, none⟩) (by first | exact Nat.le_refl _ | assumption | (simp; done) | (simp; omega) | omega)).trans (by go_simp; rfl)
    have hOwn := (Below.frozen b2 (p := ⟨w.heap.size, 1, none⟩) (by first | exact Nat.le_refl _ | assumption | (simp; done) | (simp; omega) | omega)).trans (by go_simp; rfl)
    have hOwn := (Below.frozen b2 (p := ⟨w.heap.size, 2, none⟩) (by first | exact Nat.le_refl _ | assumption | (simp; done) | (simp; omega) | omega)).trans (by go_simp; rfl)
    have hOwn := (Below.frozen b2 (p := ⟨w.heap.size, 3, none⟩) (by first | exact Nat.le_refl _ | assumption | (simp; done) | (simp; omega) | omega)).trans (by go_simp; rfl)
    have hOwn := (Below.frozen b2 (p := ⟨w.heap.size, 4, none⟩) (by first | exact Nat.le_refl _ | assumption | (simp; done) | (simp; omega) | omega)).trans (by go_simp; rfl)
    go_wp2_with fail
    go_ret
    exact told_ret (by rw [RB.out]; simp [HD.out]) (W1.trans (b2.mono (by omega)))

def PrtS (o : List UInt8 × Nat) (w : World) (e : Ending) (w' : World) : Prop := e = .returned (.tuple #[.string ⟨o.1.toArray⟩, .int .i64 (o.2 : Int)]) ∧ Below w.heap.size w w'
theorem prtS_ret {o : List UInt8 × Nat} {s : ByteArray} {z : Int} {w w' : World} (h1 : s = ⟨o.1.toArray⟩) (h2 : z = (o.2 : Int)) (hb : Below w.heap.size w w') : PrtS o w (.returned (.tuple #[.string s, .int .i64 z])) w' := by subst h1 h2; exact ⟨rfl, hb⟩
set_option maxRecDepth 100000 in
set_option maxHeartbeats 2000000 in
theorem rPrint_any (t : J) (hW : t.wt ≤ 1000000) (hD : t.deep ≤ 1000000) (hr : t.rng) (w : World) (A3 A4 : Option Addr) (c3 c4 : Nat) (ht : TreeC w w.heap.size t [.int .i64 t.k, .int .i64 t.n, .string t.t, .slice A3 t.its.length c3, .slice A4 t.ks.length c4]) :
    Calls Tryd.prog 10 #[.agg #[.int .i64 t.k, .int .i64 t.n, .string t.t, .slice A3 t.its.length c3, .slice A4 t.ks.length c4]] w (PrtS (Jp.out t) w) := by
  have CS := cell_set
  have RT := Lib.hid (fun W h => rRight_any t hW hD W A3 A4 c3 c4 h)
  have W1 : Below w.heap.size w (w.alloc (.cells #[.int .i64 t.k, .int .i64 t.n, .string t.t, .slice A3 t.its.length c3, .slice A4 t.ks.length c4] 25)) := (Below.refl _ _).alloc (Nat.le_refl _) _
  have gz1 : (w.alloc (.cells #[.int .i64 t.k, .int .i64 t.n, .string t.t, .slice A3 t.its.length c3, .slice A4 t.ks.length c4] 25)).heap.size = w.heap.size + 1 := by simp
  have HT1 : Hid (TreeC (w.alloc (.cells #[.int .i64 t.k, .int .i64 t.n, .string t.t, .slice A3 t.its.length c3, .slice A4 t.ks.length c4] 25)) (w.alloc (.cells #[.int .i64 t.k, .int .i64 t.n, .string t.t, .slice A3 t.its.length c3, .slice A4 t.ks.length c4] 25)).heap.size t [.int .i64 t.k, .int .i64 t.n, .string t.t, .slice A3 t.its.length c3, .slice A4 t.ks.length c4]) := (ht.alloc (Nat.le_refl _) _).more (by rw [gz1]; omega)
  have GZ1 := Lib.hid gz1
  obtain ⟨R, hR⟩ : ∃ R, R = Jp.out t := ⟨_, rfl⟩
  rw [← hR]
  unfold Jp.out at hR
  have PL := Jp.prt_wt t hr
  by_cases hb : t.rightb = true
  · rw [if_pos hb] at hR
    have TX := Lib.hid (fun W h => rprint_any t hW (J.rightb_iff.1 hb).2 hr W A3 A4 c3 c4 h)
    rw [hb] at RT
    obtain ⟨P, hP⟩ : ∃ P, P = Jp.prt t := ⟨_, rfl⟩
    rw [← hP] at hR TX PL
    have pl : P.length ≤ 30000000 := by omega
    clear ht gz1 hP hW hD hr PL hb
    by_cases hl : 20000 < P.length
    all_goals
      first
        | rw [if_pos hl] at hR
        | rw [if_neg hl] at hR
      have Z := Lib.hid hR
      first
        | (have ql : (20000 : Int) < (P.length : Int) := by omega)
        | (have ql : ¬ (20000 : Int) < (P.length : Int) := by omega)
      clear hR
      go_enter Tryd.func10, Tryd.ntmps10
      go_wp2_with fail
      with_reducible refine (RT.out _ HT1.out).mono ?_
      rintro e w2 ⟨rfl, b2⟩
      have HT2 := Lib.hid ((HT1.out.below b2).more b2.size)
      rw [GZ1.out] at b2
      have s2 := b2.size
      rw [GZ1.out] at s2
      have hOwn := Nat.lt_of_lt_of_le (n := w.heap.size) (by first | exact Nat.le_refl _ | assumption | (simp; done) | (simp; omega) | omega) (Below.size b2)
      have hOwn1 := Nat.ne_of_gt hOwn
      have hOwn2 := Nat.ne_of_lt hOwn
      have hOwn := (Below.cell b2 (p := ⟨w.heap.size, 0, none⟩) (by first | exact Nat.le_refl _ | assumption | (simp; done) | (simp; omega) | omega)).trans (by go_simp; rfl)
      have hOwn := (Below.cell b2 (p := ⟨w.heap.size, 1, none⟩) (by first | exact Nat.le_refl _ | assumption | (simp; done) | (simp; omega) | omega)).trans (by go_simp; rfl)
      have hOwn := (Below.cell b2 (p := ⟨w.heap.size, 2, none⟩) (by first | exact Nat.le_refl _ | assumption | (simp; done) | (simp; omega) | omega)).trans (by go_simp; rfl)
      have hOwn := (Below.cell b2 (p := ⟨w.heap.size, 3, none⟩) (by first | exact Nat.le_refl _ | assumption | (simp; done) | (simp; omega) | omega)).trans (by go_simp; rfl)
      have hOwn := (Below.cell b2 (p := ⟨w.heap.size, 4, none⟩) (by first | exact Nat.le_refl _ | assumption | (simp; done) | (simp; omega) | omega)).trans (by go_simp; rfl)
      have hOwn := (Below.frozen b2 (p := ⟨w.heap.size, 0, none⟩) (by first | exact Nat.le_refl _ | assumption | (simp; done) | (simp; omega) | omega)).trans (by go_simp; rfl)
      have hOwn := (Below.frozen b2 (p := ⟨w.heap.size, 1, none⟩) (by first | exact Nat.le_refl _ | assumption | (simp; done) | (simp; omega) | omega)).trans (by go_simp; rfl)
      have hOwn := (Below.frozen b2 (p := ⟨w.heap.size, 2, none⟩) (by first | exact Nat.le_refl _ | assumption | (simp; done) | (simp; omega) | omega)).trans (by go_simp; rfl)
      have hOwn := (Below.frozen b2 (p := ⟨w.heap.size, 3, none⟩) (by first | exact Nat.le_refl _ | assumption | (simp; done) | (simp; omega) | omega)).trans (by go_simp; rfl)
      have hOwn := (Below.frozen b2 (p := ⟨w.heap.size, 4, none⟩) (by first | exact Nat.le_refl _ | assumption | (simp; done) | (simp; omega) | omega)).trans (by go_simp; rfl)
      go_wp2_with fail
      with_reducible refine (TX.out _ HT2.out).mono ?_
      rintro e w3 ⟨rfl, b3⟩
      go_wp2_with fail
      go_ret2
      exact prtS_ret (by first | (rw [Z.out]; done) | (rw [Z.out]; rfl) | (rw [Z.out]; simp)) (by first | (rw [Z.out]; done) | (rw [Z.out]; rfl)) (W1.trans ((b2.mono (by omega)).trans (b3.mono (by omega))))
  · rw [if_neg hb] at hR
    have Z := Lib.hid hR
    rw [show t.rightb = false by simpa using hb] at RT
    clear ht gz1 hW hD hr PL hb hR
    go_enter Tryd.func10, Tryd.ntmps10
    go_wp2_with fail
    with_reducible refine (RT.out _ HT1.out).mono ?_
    rintro e w2 ⟨rfl, b2⟩
    rw [GZ1.out] at b2
    have hOwn := Nat.lt_of_lt_of_le (n := w.heap.size) (by first | exact Nat.le_refl _ | assumption | (simp; done) | (simp; omega) | omega) (Below.size b2)
    have hOwn1 := Nat.ne_of_gt hOwn
    have hOwn2 := Nat.ne_of_lt hOwn
    have hOwn := (Below.cell b2 (p := ⟨w.heap.size, 0, none⟩) (by first | exact Nat.le_refl _ | assumption | (simp; done) | (simp; omega) | omega)).trans (by go_simp; rfl)
    have hOwn := (Below.cell b2 (p := ⟨w.heap.size, 1, none⟩) (by first | exact Nat.le_refl _ | assumption | (simp; done) | (simp; omega) | omega)).trans (by go_simp; rfl)
    have hOwn := (Below.cell b2 (p := ⟨w.heap.size, 2, none⟩) (by first | exact Nat.le_refl _ | assumption | (simp; done) | (simp; omega) | omega)).trans (by go_simp; rfl)
    have hOwn := (Below.cell b2 (p := ⟨w.heap.size, 3, none⟩) (by first | exact Nat.le_refl _ | assumption | (simp; done) | (simp; omega) | omega)).trans (by go_simp; rfl)
    have hOwn := (Below.cell b2 (p := ⟨w.heap.size, 4, none⟩) (by first | exact Nat.le_refl _ | assumption | (simp; done) | (simp; omega) | omega)).trans (by go_simp; rfl)
    have hOwn := (Below.frozen b2 (p := ⟨w.heap.size, 0, none⟩) (by first | exact Nat.le_refl _ | assumption | (simp; done) | (simp; omega) | omega)).trans (by go_simp; rfl)
    have hOwn := (Below.frozen b2 (p := ⟨w.heap.size, 1, none⟩) (by first | exact Nat.le_refl _ | assumption | (simp; done) | (simp; omega) | omega)).trans (by go_simp; rfl)
    have hOwn := (Below.frozen b2 (p := ⟨w.heap.size, 2, none⟩) (by first | exact Nat.le_refl _ | assumption | (simp; done) | (simp; omega) | omega)).trans (by go_simp; rfl)
    have hOwn := (Below.frozen b2 (p := ⟨w.heap.size, 3, none⟩) (by first | exact Nat.le_refl _ | assumption | (simp; done) | (simp; omega) | omega)).trans (by go_simp; rfl)
    have hOwn := (Below.frozen b2 (p := ⟨w.heap.size, 4, none⟩) (by first | exact Nat.le_refl _ | assumption | (simp; done) | (simp; omega) | omega)).trans (by go_simp; rfl)
    go_wp2_with fail
    go_ret2
    exact prtS_ret (by first | (rw [Z.out]; done) | (rw [Z.out]; rfl) | (rw [Z.out]; simp)) (by first | (rw [Z.out]; done) | (rw [Z.out]; rfl)) (W1.trans (b2.mono (by omega)))
end Go.Proofs.YtjebkedlfhapjaaDoor
/- Plain mathematics of layer 8: a tree weighs no more than its text is long. -/
namespace Go.Proofs.YtjebkedlfhapjaaDoor
namespace Jp
open Jx Num
theorem qb_ge : ∀ (s : List UInt8), s.length ≤ (qb s).length
  | [] => Nat.zero_le _
  | x :: r => by rw [qb_cons, List.length_append, List.length_cons]; have := qb_ge r; have := (qc_len x).1; omega
theorem quo_ge (s : ByteArray) : s.size + 2 ≤ (quo s.data.toList).length := by
  have := qb_ge s.data.toList
  have e : s.data.toList.length = s.size := by rw [Array.length_toList]; rfl
  simp only [quo, List.length_cons, List.length_append, List.length_nil]; omega
mutual
theorem wt_prt : ∀ (j : J), j.frm → j.wt ≤ (prt j).length
  | .mk k n t its ks, h => by
    unfold J.frm at h
    obtain ⟨k1, k6, hn, hb, ht, hct, hits, hks, hlen, hcu, hnd, hfs⟩ := h
    have z : (nil_).size = 0 := rfl
    unfold J.wt prt
    by_cases e1 : k = 1
    · subst e1
      obtain rfl := ht (by decide); obtain rfl := hits (by decide); obtain rfl := hks (by decide)
      rw [if_pos rfl]; decide
    · rw [if_neg e1]
      by_cases e2 : k = 2
      · subst e2
        obtain rfl := ht (by decide); obtain rfl := hits (by decide); obtain rfl := hks (by decide)
        rw [if_pos rfl]
        split <;> decide
      · rw [if_neg e2]
        by_cases e3 : k = 3
        · subst e3
          obtain rfl := ht (by decide); obtain rfl := hits (by decide); obtain rfl := hks (by decide)
          rw [if_pos rfl]
          have := nm_pos n
          simp only [kwt, J.wts, z]; omega
        · rw [if_neg e3]
          by_cases e4 : k = 4
          · subst e4
            obtain rfl := hits (by decide); obtain rfl := hks (by decide)
            rw [if_pos rfl]
            have := quo_ge t
            simp only [kwt, J.wts]; omega
          · rw [if_neg e4]
            obtain rfl := ht e4
            by_cases e6 : k = 6
            · have := wts_prts its true true ks hfs (fun _ => hlen e6) (fun e => by cases e)
              rw [if_pos e6]
              simp only [List.length_cons, List.length_append, List.length_nil, z]; omega
            · have := wts_prts its false true ks hfs (fun e => by cases e) (fun _ => hks e6)
              rw [if_neg e6]
              simp only [List.length_cons, List.length_append, List.length_nil, z]; omega
theorem wts_prts : ∀ (its : List J) (o c : Bool) (ks : List ByteArray), J.frms its → (o = true → ks.length = its.length) → (o = false → ks = []) → J.wts its + kwt ks ≤ (prts o c its ks).length
  | [], o, c, ks, _, h1, h2 => by
    have : ks = [] := by
      cases o
      · exact h2 rfl
      · exact List.eq_nil_of_length_eq_zero (h1 rfl)
    subst this
    simp [J.wts, kwt]
  | j :: r, o, c, ks, h, h1, h2 => by
    unfold J.frms at h
    have a := wt_prt j h.1
    rw [prts_cons]
    unfold J.wts
    cases o with
    | false =>
      obtain rfl := h2 rfl
      have b := wts_prts r false false [] h.2 (fun e => by cases e) (fun _ => rfl)
      simp only [List.length_append, List.tail_nil, kwt] at b ⊢
      omega
    | true =>
      cases ks with
      | nil => have := h1 rfl; simp at this
      | cons y q =>
        have b := wts_prts r true false q h.2 (fun _ => by have := h1 rfl; simpa using this) (fun e => by cases e)
        have := quo_ge y
        simp only [List.length_append, List.tail_cons, List.headD_cons, kwt, if_true, List.length_cons, List.length_nil] at b ⊢
        omega
end
/-- What is parsed is printed whole. -/
theorem parse_out {l : List UInt8} (hl : l.length ≤ 2000) (h : (parse l).2 = 0) : (parse l).1.rng ∧ (parse l).1.wt ≤ 1000000 ∧ (parse l).1.deep ≤ 1000000 ∧ (parse l).1.rightb = true ∧ (prt (parse l).1).length ≤ l.length ∧ out (parse l).1 = (prt (parse l).1, 0) ∧ parse (prt (parse l).1) = ((parse l).1, 0) := by
  have a := parse_wel h
  have b := parse_snd h
  have w := wt_prt _ a.1
  have r : (parse l).1.rightb = true := J.rightb_iff.2 ⟨b.2, a.1⟩
  refine ⟨a.2.1, by omega, by have := b.2; omega, r, a.2.2.1, ?_, parse_prt a.1 a.2.1 b.2 (by omega)⟩
  unfold out
  rw [if_pos r, if_neg (by omega)]
end Jp
end Go.Proofs.YtjebkedlfhapjaaDoor
