/- The document's own answers for layer 7, at every tree: Same. -/
import Derived.Test.YtjebkedlfhapjaaDoorJT
import Derived.Test.YtjebkedlfhapjaaDoorBase
import Derived.Test.YtjebkedlfhapjaaDoorRec
import Derived.Deep.RegionHeldLaw
namespace Go.Proofs.YtjebkedlfhapjaaDoor
open Go.ChangeShapes Go.WideShapes Go.ChangeAt Go.RowKit Mem

theorem str_beq (a b : ByteArray) : (a.toList == b.toList) = decide (a = b) := by
  rw [Bool.eq_iff_iff, beq_iff_eq, decide_eq_true_eq, ByteArray.toList_eq, ByteArray.toList_eq]
  constructor
  · intro h; exact ByteArray.ext (Array.toList_inj.1 h)
  · intro h; rw [h]
theorem str_bne (a b : ByteArray) : (a.toList != b.toList) = !decide (a = b) := by unfold bne; rw [str_beq]
/-- A world but for what it draws. -/
def Drewn7 (W w : World) : Prop := ∃ n, w = W.drewN n
def Told (b : Bool) (w : World) (e : Ending) (w' : World) : Prop := e = .returned (.bool b) ∧ Below w.heap.size w w'
theorem told_ret {b c : Bool} {w w' : World} (h : b = c) (hb : Below w.heap.size w w') : Told b w (.returned (.bool c)) w' := by subst h; exact ⟨rfl, hb⟩


end Go.Proofs.YtjebkedlfhapjaaDoor
/- The document's own answers for layer 7, at every tree: Deep, Get, Bulk. -/
namespace Go.Proofs.YtjebkedlfhapjaaDoor
open Go.ChangeShapes Go.WideShapes Go.ChangeAt Go.RowKit Mem

mutual
/-- How deep a tree is. -/
def J.deep : J → Nat
  | .mk k _ _ its _ => if k = 5 ∨ k = 6 then J.deeps its else 0
/-- One more than the deepest of some trees; 1 at least. -/
def J.deeps : List J → Nat
  | [] => 1
  | j :: r => max (J.deep j + 1) (J.deeps r)
end
theorem J.deep_in {j : J} (h : j.k = 5 ∨ j.k = 6) : j.deep = J.deeps j.its := by cases j; unfold J.deep; exact if_pos h
theorem J.deep_out {j : J} (h : ¬ (j.k = 5 ∨ j.k = 6)) : j.deep = 0 := by cases j; unfold J.deep; exact if_neg h
theorem J.deeps_snoc (l : List J) (j : J) : J.deeps (l ++ [j]) = max (J.deeps l) (j.deep + 1) := by
  induction l with
  | nil => simp only [List.nil_append, J.deeps]; omega
  | cons x r ih => simp only [List.cons_append, J.deeps, ih]; omega
theorem J.deeps_take {l : List J} {i : Nat} (h : i < l.length) : J.deeps (l.take (i + 1)) = max (J.deeps (l.take i)) ((l[i]'h).deep + 1) := by
  rw [List.take_succ_eq_append_getElem h, J.deeps_snoc]
theorem J.deeps_le (l : List J) (i : Nat) : J.deeps (l.take i) ≤ J.deeps l := by
  induction l generalizing i with
  | nil => simp
  | cons x r ih =>
    cases i with
    | zero => simp only [List.take_zero, J.deeps]; have := ih 0; simp only [List.take_zero, J.deeps] at this; omega
    | succ i => simp only [List.take_succ_cons, J.deeps]; have := ih i; omega
theorem J.deeps_pos (l : List J) : 1 ≤ J.deeps l := by
  cases l with
  | nil => exact Nat.le_refl _
  | cons x r => simp only [J.deeps]; omega
theorem J.deep_at {l : List J} {i : Nat} (h : i < l.length) : (l[i]'h).deep + 1 ≤ J.deeps l := by
  have := J.deeps_take h; have := J.deeps_le l (i + 1); omega

def Num_ (n : Nat) (w : World) (e : Ending) (w' : World) : Prop := e = .returned (.int .i64 (n : Int)) ∧ Below w.heap.size w w'
theorem num_ret {n : Nat} {z : Int} {w w' : World} (h : z = (n : Int)) (hb : Below w.heap.size w w') : Num_ n w (.returned (.int .i64 z)) w' := by subst h; exact ⟨rfl, hb⟩
set_option maxRecDepth 100000 in
set_option maxHeartbeats 4000000 in
theorem rdeep_at : ∀ (N : Nat) (t : J), SizeOf.sizeOf t ≤ N → t.deep ≤ 1000000 → ∀ (w : World) (A3 A4 : Option Addr) (c3 c4 : Nat),
    TreeC w w.heap.size t [.int .i64 t.k, .int .i64 t.n, .string t.t, .slice A3 t.its.length c3, .slice A4 t.ks.length c4] →
    Calls Tryd.prog 23 #[.agg #[.int .i64 t.k, .int .i64 t.n, .string t.t, .slice A3 t.its.length c3, .slice A4 t.ks.length c4]] w (Num_ t.deep w)
  | 0, t, h => by cases t; simp at h
  | N + 1, .mk k n s its ks, hN => by
    intro hD w A3 A4 c3 c4 ht
    have CS := cell_set
    obtain ⟨_, _, _, _, e, hc3, hc4, rt, ft⟩ := ht.out
    simp only [J.k, J.n, J.t, J.its, J.ks, List.cons.injEq, Value.slice.injEq, true_and, and_true] at e hc3 hc4 rt ft
    obtain ⟨⟨rfl, rfl⟩, rfl, rfl⟩ := e
    have din := J.deep_in (j := .mk k n s its ks); have dout := J.deep_out (j := .mk k n s its ks)
    simp only [J.k, J.n, J.t, J.its, J.ks] at din dout ⊢
    by_cases hk : k = 5 ∨ k = 6
    · have d1 := din hk
      rw [d1] at hD ⊢
      have q : ((k != 5) && (k != 6)) = false := by rcases hk with rfl | rfl <;> rfl
      have q5 : (k != 5) = true ∧ (k != 6) = false ∨ (k != 5) = false := by rcases hk with rfl | rfl <;> simp
      have RT := Lib.hid rt
      obtain ⟨ni, hni⟩ : ∃ m, m = its.length := ⟨_, rfl⟩
      have HNI := Lib.hid hni
      have ni0 : ni ≤ 9223372036854775807 := by have := hc3.2; unfold maxLen at this; omega
      have IH : Hid (∀ (i : Nat) (h1 : i < its.length) (W : World) (A3 A4 : Option Addr) (c3 c4 : Nat),
          TreeC W W.heap.size (its[i]'h1) [.int .i64 (its[i]'h1).k, .int .i64 (its[i]'h1).n, .string (its[i]'h1).t, .slice A3 (its[i]'h1).its.length c3, .slice A4 (its[i]'h1).ks.length c4] →
          Calls Tryd.prog 23 #[.agg #[.int .i64 (its[i]'h1).k, .int .i64 (its[i]'h1).n, .string (its[i]'h1).t, .slice A3 (its[i]'h1).its.length c3, .slice A4 (its[i]'h1).ks.length c4]] W (Num_ (its[i]'h1).deep W)) := fun i h1 W A3 A4 c3 c4 a =>
        rdeep_at N (its[i]'h1) (by have := J.lt_its (j := .mk k n s its ks) (i := i) h1; simp only [J.its] at this; omega) (by have := J.deep_at h1; omega) W A3 A4 c3 c4 a
      have DS := Lib.hid (fun i h => J.deeps_take (l := its) (i := i) h)
      have DL := Lib.hid (fun i => J.deeps_le its i)
      have DA : Hid (J.deeps (its.take ni) = J.deeps its) := by show _ = _; rw [hni, List.take_length]
      obtain ⟨DI, hDI⟩ : ∃ d, d = J.deeps its := ⟨_, rfl⟩
      rw [← hDI] at DL DA hD ⊢
      obtain ⟨F, hF⟩ : ∃ F : Nat → Nat, F = fun i => J.deeps (its.take i) := ⟨_, rfl⟩
      have F0 : Hid (F 0 = 1) := by show _ = _; rw [hF]; rfl
      have FS : Hid (∀ i (h : i < its.length), F (i + 1) = max (F i) ((its[i]'h).deep + 1)) := fun i h => by rw [hF]; exact DS.out i h
      have FL : Hid (∀ i, F i ≤ DI) := fun i => by rw [hF]; exact DL.out i
      have FA : Hid (F ni = DI) := by show _ = _; rw [hF]; exact DA.out
      rw [← HNI.out]
      clear DS DL DA hF hDI hni ht rt ft hN d1 din dout hk
      have G0 : Below w.heap.size w (w.alloc (.cells #[.int .i64 k, .int .i64 n, .string s, .slice A3 ni c3, .slice A4 ks.length c4] 25)) := (Below.refl _ _).alloc (Nat.le_refl _) _
      have gz0 : (w.alloc (.cells #[.int .i64 k, .int .i64 n, .string s, .slice A3 ni c3, .slice A4 ks.length c4] 25)).heap.size = w.heap.size + 1 := by simp
      have GZ0 := Lib.hid gz0
      clear gz0 hc3 hc4
      rcases q5 with ⟨q5, q6⟩ | q5
      all_goals
        go_enter Tryd.func23, Tryd.ntmps23
        go_wp2_with fail
        go_loopw [3, 4] (fun m t wr => ∃ p : Nat, p ≤ ni ∧ t = .int .i64 (p : Int) ∧ m = .int .i64 (F p : Int) ∧ Below (w.heap.size + 1) (w.alloc (.cells #[.int .i64 k, .int .i64 n, .string s, .slice A3 ni c3, .slice A4 ks.length c4] 25)) wr) (fun _ t _ => ni - (intOf t).toNat)
        case atStart => exact ⟨0, by omega, rfl, by rw [F0.out]; rfl, Below.refl _ _⟩
        case round =>
          obtain ⟨p, hp, rfl, rfl, bl⟩ := hrel
          have gsz := bl.size
          rw [GZ0.out] at gsz
          have gsz2 : w.heap.size ≤ wr.heap.size := by omega
          have blw := G0.trans (bl.mono (by omega))
          have hOwn := Nat.lt_of_lt_of_le (n := w.heap.size) (by first | exact Nat.le_refl _ | assumption | (simp; done) | (simp; omega) | omega) (Below.size bl)
          have hOwn1 := Nat.ne_of_gt hOwn
          have hOwn2 := Nat.ne_of_lt hOwn
          have hOwn := (Below.cell bl (p := ⟨w.heap.size, 0, none⟩) (by first | exact Nat.le_refl _ | assumption | (simp; done) | (simp; omega) | omega)).trans (by go_simp; rfl)
          have hOwn := (Below.cell bl (p := ⟨w.heap.size, 1, none⟩) (by first | exact Nat.le_refl _ | assumption | (simp; done) | (simp; omega) | omega)).trans (by go_simp; rfl)
          have hOwn := (Below.cell bl (p := ⟨w.heap.size, 2, none⟩) (by first | exact Nat.le_refl _ | assumption | (simp; done) | (simp; omega) | omega)).trans (by go_simp; rfl)
          have hOwn := (Below.cell bl (p := ⟨w.heap.size, 3, none⟩) (by first | exact Nat.le_refl _ | assumption | (simp; done) | (simp; omega) | omega)).trans (by go_simp; rfl)
          have hOwn := (Below.cell bl (p := ⟨w.heap.size, 4, none⟩) (by first | exact Nat.le_refl _ | assumption | (simp; done) | (simp; omega) | omega)).trans (by go_simp; rfl)
          have hOwn := (Below.frozen bl (p := ⟨w.heap.size, 0, none⟩) (by first | exact Nat.le_refl _ | assumption | (simp; done) | (simp; omega) | omega)).trans (by go_simp; rfl)
          have hOwn := (Below.frozen bl (p := ⟨w.heap.size, 1, none⟩) (by first | exact Nat.le_refl _ | assumption | (simp; done) | (simp; omega) | omega)).trans (by go_simp; rfl)
          have hOwn := (Below.frozen bl (p := ⟨w.heap.size, 2, none⟩) (by first | exact Nat.le_refl _ | assumption | (simp; done) | (simp; omega) | omega)).trans (by go_simp; rfl)
          have hOwn := (Below.frozen bl (p := ⟨w.heap.size, 3, none⟩) (by first | exact Nat.le_refl _ | assumption | (simp; done) | (simp; omega) | omega)).trans (by go_simp; rfl)
          have hOwn := (Below.frozen bl (p := ⟨w.heap.size, 4, none⟩) (by first | exact Nat.le_refl _ | assumption | (simp; done) | (simp; omega) | omega)).trans (by go_simp; rfl)
          by_cases hpn : p < ni
          · have h1 : p < its.length := by rw [← HNI.out]; exact hpn
            obtain ⟨b1, o1, X3, x3, X4, x4, e1, hb1, y0, y1, y2, y3, y4, ty⟩ := (RT.out.below blw).cells h1
            have I2 := Lib.hid (fun W a => IH.out p h1 W X3 X4 x3 x4 a)
            have fs := FS.out p h1
            have fl := FL.out (p + 1)
            generalize its[p]'h1 = T at *
            subst e1
            have TY := Lib.hid ty
            obtain ⟨dT, hdT⟩ : ∃ d, d = T.deep := ⟨_, rfl⟩
            rw [← hdT] at fs I2
            clear ty h1 hdT
            by_cases hm : F p < dT + 1
            · have FS1 : Hid (F (p + 1) = dT + 1) := by show _ = _; omega
              have hd1 : dT ≤ 1000000 := by omega
              have qm : (F p : Int) < (dT : Int) + 1 := by omega
              clear fs fl hm
              go_wp2_with fail
              with_reducible refine (I2.out _ (TY.out.more gsz2)).mono ?_
              rintro e w3 ⟨rfl, b3⟩
              go_wp2_with fail
              go_roundw
              case rel => exact ⟨p + 1, by omega, by go_num, by rw [FS1.out]; congr 1, bl.trans (b3.mono gsz)⟩
              case measure => simp [intOf]; omega
            · have FS1 : Hid (F (p + 1) = F p) := by show _ = _; omega
              have hd1 : dT ≤ 1000000 := by omega
              have qm : ¬ (F p : Int) < (dT : Int) + 1 := by omega
              clear fs fl hm
              go_wp2_with fail
              with_reducible refine (I2.out _ (TY.out.more gsz2)).mono ?_
              rintro e w3 ⟨rfl, b3⟩
              go_wp2_with fail
              go_roundw
              case rel => exact ⟨p + 1, by omega, by go_num, by rw [FS1.out], bl.trans (b3.mono gsz)⟩
              case measure => simp [intOf]; omega
          · obtain rfl : p = ni := by omega
            have Z := Lib.hid FA.out
            clear hpn
            go_wp2_with fail
            go_ret
            exact num_ret (by rw [Z.out]) blw
    · have d0 := dout hk
      have q5 : (k != 5) = true := by rw [bne_iff_ne]; omega
      have q6 : (k != 6) = true := by rw [bne_iff_ne]; omega
      have Z := Lib.hid d0
      clear ht rt ft din dout hk
      go_enter Tryd.func23, Tryd.ntmps23
      go_wp2_with fail
      go_ret
      exact num_ret (by rw [Z.out]; rfl) (by (repeat' (first | with_reducible assumption | with_reducible exact Below.refl _ _ | (with_reducible refine Below.alloc ?_ ?_ _; rotate_left; focus ((first | exact Nat.le_refl _ | (simp; done) | (simp; omega) | omega | fail))) | (with_reducible refine Below.setCell ?_ ?_ _; rotate_left; focus ((first | exact Nat.le_refl _ | (simp; done) | (simp; omega) | omega | fail))) | with_reducible refine Mem.bel_drewN ?_ _ | with_reducible refine Below.drew ?_ | (with_reducible refine Mem.bel_call (by with_reducible assumption) ?_ ?_; focus ((first | exact Nat.le_refl _ | (simp; done) | (simp; omega) | omega | fail))) | fail)))
end Go.Proofs.YtjebkedlfhapjaaDoor
