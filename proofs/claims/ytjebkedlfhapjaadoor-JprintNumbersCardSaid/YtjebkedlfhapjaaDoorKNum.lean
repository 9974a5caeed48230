/- The document's own answers for layer 8: a number's digits. -/
import Derived.Test.YtjebkedlfhapjaaDoorKMath
import Derived.Test.YtjebkedlfhapjaaDoorBase
import Derived.Test.YtjebkedlfhapjaaDoorJRBulk
import Derived.Test.YtjebkedlfhapjaaDoorUtfR
import Derived.Deep.LoopGhost
namespace Go.Proofs.YtjebkedlfhapjaaDoor
open Go.ChangeShapes Go.WideShapes Go.ChangeAt Go.RowKit Mem

theorem str_add (a b : List UInt8) : (⟨a.toArray⟩ : ByteArray) ++ ⟨b.toArray⟩ = ⟨(a ++ b).toArray⟩ := by
  apply ByteArray.ext
  rw [ByteArray.data_append]; simp

theorem str_one (w : World) (x : UInt8) (z : Int) (hz : z = (x.toNat : Int)) : (convert 28 9 (.slice (some ⟨w.heap.size, 0, none⟩) 1 1)).run Tryd.prog (w.alloc (.cells #[.int .u8 z] 5)) = .ok (.string ⟨#[x]⟩) (w.alloc (.cells #[.int .u8 z] 5)) := by
  subst hz
  exact Bys.str byteT strT (lit_bys w [x]) 1

set_option maxRecDepth 100000 in
set_option maxHeartbeats 2000000 in
theorem rNumber_any (n : Int) (h1 : -9223372036854775808 ≤ n) (h2 : n ≤ 9223372036854775807) (w : World) :
    Calls Tryd.prog 14 #[.int .i64 n] w (fun e w' => e = .returned (.string ⟨(Jx.nm n).toArray⟩) ∧ Below w.heap.size w w') := by
  obtain ⟨U, hU⟩ : ∃ U, U = n.natAbs := ⟨_, rfl⟩
  have hUb : U ≤ 9223372036854775808 := by omega
  have lenU : (Jx.dig U).length ≤ 19 := Jx.dig_len 19 U (by omega) (by have : (10 : Nat) ^ 19 = 10000000000000000000 := by decide
                                                                       omega)
  have NM : Hid (Jx.nm n = if n < 0 then 45 :: Jx.dig U else Jx.dig U) := by show _ = _; rw [hU]; rfl
  have LU := Lib.hid lenU
  clear lenU
  by_cases hn : n < 0
  all_goals
    go_enter Tryd.func14, Tryd.ntmps14
    go_wp2_with fail
    go_loopw [3, 4] (fun v t wr => ∃ (k : Nat) (l : List UInt8), v = .string ⟨l.toArray⟩ ∧ t = .int .u64 (k : Int) ∧ k ≤ U ∧ Hid (Jx.dig U = Jx.dig k ++ l) ∧ Below w.heap.size w wr) (fun _ t _ => (intOf t).toNat)
    case atStart => exact ⟨U, [], rfl, by go_num, Nat.le_refl _, (by show _ = _; simp), Below.refl _ _⟩
    case round =>
      obtain ⟨k, l, rfl, rfl, hk, HD, bl⟩ := hrel
      have ll : l.length ≤ 19 := by
        have := LU.out
        rw [HD.out, List.length_append] at this; omega
      have gsz := bl.size
      by_cases h10 : 10 ≤ k
      · obtain ⟨M, hM⟩ : ∃ M, M = k % 10 := ⟨_, rfl⟩
        obtain ⟨Q, hQ⟩ : ∃ Q, Q = k / 10 := ⟨_, rfl⟩
        obtain ⟨X, hX⟩ : ∃ X, X = UInt8.ofNat (48 + M) := ⟨_, rfl⟩
        have m10 : M < 10 := by omega
        have HD2 : Hid (Jx.dig U = Jx.dig Q ++ (X :: l)) := by
          show _ = _
          rw [HD.out, Jx.dig_ge h10, hX, hM, hQ]; simp
        have x8 : X.toNat = 48 + M := by rw [hX]; exact Jx.of8n (by omega)
        have q1 : (k : Int) % 10 = (M : Int) := by omega
        have q2 : (k : Int).tmod 10 = (M : Int) := by rw [Int.tmod_eq_emod_of_nonneg (by omega)]; exact q1
        have q3 : (k : Int) / 10 = (Q : Int) := by omega
        have q4 : (k : Int).tdiv 10 = (Q : Int) := by rw [Int.tdiv_eq_ediv_of_nonneg (by omega)]; exact q3
        have kk : (10 : Int) ≤ (k : Int) := by omega
        have A1 : (⟨#[X]⟩ : ByteArray) ++ ⟨l.toArray⟩ = ⟨(X :: l).toArray⟩ := str_add [X] l
        have n1 : ¬ 9223372036854775807 < 1 + l.length := by omega
        have qm : Q < k := by omega
        have qU : Q ≤ U := by omega
        have CV := str_one wr X (48 + (M : Int)) (by rw [x8]; push_cast; rfl)
        clear hM hQ HD hX
        go_wp2_with fail
        go_roundw
        case rel => exact ⟨Q, X :: l, by go_num, by go_num, qU, HD2, (by (repeat' (first | with_reducible assumption | with_reducible exact Below.refl _ _ | (with_reducible refine Below.alloc ?_ ?_ _; rotate_left; focus ((first | exact Nat.le_refl _ | (simp; done) | (simp; omega) | omega | fail))) | (with_reducible refine Below.setCell ?_ ?_ _; rotate_left; focus ((first | exact Nat.le_refl _ | (simp; done) | (simp; omega) | omega | fail))) | with_reducible refine Mem.bel_drewN ?_ _ | with_reducible refine Below.drew ?_ | (with_reducible refine Mem.bel_call (by with_reducible assumption) ?_ ?_; focus ((first | exact Nat.le_refl _ | (simp; done) | (simp; omega) | omega | fail))) | fail)))⟩
        case measure => simp only [intOf]; omega
      · have kk : ¬ (10 : Int) ≤ (k : Int) := by omega
        obtain ⟨X, hX⟩ : ∃ X, X = UInt8.ofNat (48 + k) := ⟨_, rfl⟩
        have x8 : X.toNat = 48 + k := by rw [hX]; exact Jx.of8n (by omega)
        have A1 : (⟨#[X]⟩ : ByteArray) ++ ⟨l.toArray⟩ = ⟨(X :: l).toArray⟩ := str_add [X] l
        have A2 : (⟨#[45]⟩ : ByteArray) ++ ⟨(X :: l).toArray⟩ = ⟨(45 :: X :: l).toArray⟩ := str_add [45] _
        have n1 : ¬ 9223372036854775807 < 1 + l.length := by omega
        have n2 : ¬ 9223372036854775807 < 1 + (l.length + 1) := by omega
        have CV := str_one wr X (48 + (k : Int)) (by rw [x8]; push_cast; rfl)
        have Z : Hid (Jx.dig U = X :: l) := by show _ = _; rw [HD.out, Jx.dig_lt (by omega), ← hX]; rfl
        clear HD hX
        go_wp2_with fail
        go_ret
        refine ⟨?_, (by (repeat' (first | with_reducible assumption | with_reducible exact Below.refl _ _ | (with_reducible refine Below.alloc ?_ ?_ _; rotate_left; focus ((first | exact Nat.le_refl _ | (simp; done) | (simp; omega) | omega | fail))) | (with_reducible refine Below.setCell ?_ ?_ _; rotate_left; focus ((first | exact Nat.le_refl _ | (simp; done) | (simp; omega) | omega | fail))) | with_reducible refine Mem.bel_drewN ?_ _ | with_reducible refine Below.drew ?_ | (with_reducible refine Mem.bel_call (by with_reducible assumption) ?_ ?_; focus ((first | exact Nat.le_refl _ | (simp; done) | (simp; omega) | omega | fail))) | fail)))⟩
        rw [NM.out, Z.out]
        first
          | (rw [if_pos hn]; rfl)
          | (rw [if_neg (by omega)]; rfl)
end Go.Proofs.YtjebkedlfhapjaaDoor
/- The document's own answers for layer 8: may a tree be, but for how deep it is? -/
namespace Go.Proofs.YtjebkedlfhapjaaDoor
open Go.ChangeShapes Go.WideShapes Go.ChangeAt Go.RowKit Mem

noncomputable def J.frmb (t : J) : Bool := @decide t.frm (Classical.propDecidable _)
theorem J.frmb_no {t : J} (h : ¬ t.frm) : t.frmb = false := by unfold J.frmb; simpa using h
theorem J.frmb_yes {t : J} (h : t.frm) : t.frmb = true := by unfold J.frmb; simpa using h
theorem J.frmb_iff {t : J} : t.frmb = true ↔ t.frm := by unfold J.frmb; simp
/-- What a text's count tells. -/
theorem cntI_pos (l : List UInt8) : decide ((0 : Int) ≤ cntI l) = (Num.cU l).isSome := by
  unfold cntI
  rcases Num.cU l with _ | n
  · rfl
  · simp
set_option maxRecDepth 100000 in
set_option maxHeartbeats 2000000 in
theorem rtext_any (s : ByteArray) (w : World) (hs : s.size ≤ 100000000) :
    Calls Tryd.prog 40 #[.string s] w (Told (Num.cU s.data.toList).isSome w) := by
  obtain ⟨c, W', h1, h2, h3, h4⟩ := conv_lays s w
  have ln : s.data.toList.length = s.size := by rw [Array.length_toList]; rfl
  have r := rCount_any (some ⟨w.heap.size, 0, none⟩) c s.data.toList W' h4 (by omega) (by omega)
  rw [ln] at r
  obtain ⟨z, hz⟩ : ∃ z, z = cntI s.data.toList := ⟨_, rfl⟩
  have cp := cntI_pos s.data.toList
  rw [← hz] at r cp
  have R := Lib.hid r
  have Z : Hid ((Num.cU s.data.toList).isSome = decide ((0 : Int) ≤ z)) := cp.symm
  clear r cp hz h4 ln
  by_cases h : (0 : Int) ≤ z
  all_goals
    go_enter Tryd.func40, Tryd.ntmps40
    go_wp2_with fail
    with_reducible refine R.out.mono ?_
    rintro e w2 ⟨rfl, b2⟩
    go_wp2_with fail
    go_ret
    exact told_ret (by first | (rw [Z.out]; done) | (rw [Z.out]; simpa using h)) (h3.trans (b2.mono h3.size))

/-- The answer for each item. -/
def ShIH (its : List J) : Prop := ∀ (i : Nat) (h1 : i < its.length) (W : World) (A3 A4 : Option Addr) (c3 c4 : Nat), TreeC W W.heap.size (its[i]'h1) [.int .i64 (its[i]'h1).k, .int .i64 (its[i]'h1).n, .string (its[i]'h1).t, .slice A3 (its[i]'h1).its.length c3, .slice A4 (its[i]'h1).ks.length c4] → Calls Tryd.prog 24 #[.agg #[.int .i64 (its[i]'h1).k, .int .i64 (its[i]'h1).n, .string (its[i]'h1).t, .slice A3 (its[i]'h1).its.length c3, .slice A4 (its[i]'h1).ks.length c4]] W (Told (its[i]'h1).frmb W)
end Go.Proofs.YtjebkedlfhapjaaDoor
