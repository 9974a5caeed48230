/- The calls of layer 3 at every input: Put as one, Count, Right. -/
import Derived.Test.YtbogafecgakgiaaDoorUtfC
namespace Go.Proofs.YtbogafecgakgiaaDoor
open Go.ChangeShapes Go.WideShapes Go.ChangeAt Go.RowKit Mem

theorem of8i {a b : Nat} (h : a = b) : UInt8.ofNat a = UInt8.ofNat b := by rw [h]
theorem Put_any (c : Int) (hc : Num.isC c) (base : Nat) (v : Value) (l : List UInt8) (w : World) (hL : Laid w) (hp : 1 < base) (hb : base ≤ w.heap.size) (hown : Own w base 5 v l) (hl : l.length ≤ 100000000) :
    Calls Tryd.prog 38 #[v, .int .i32 c] w (MadeE base (l ++ Num.ue c.toNat) 0 w) := by
  have h := hc
  unfold Num.isC at h
  obtain ⟨k, rfl⟩ := Int.eq_ofNat_of_zero_le h.1
  rw [Int.toNat_natCast]
  by_cases h1 : k < 128
  · have := Put_1 (k : Int) hc (by omega) (by omega) base v l w hL hp hb hown hl
    rw [Num.ue_1 h1]
    simpa [rest] using this
  · by_cases h2 : k < 2048
    · have := Put_2 (k : Int) hc (by omega) (by omega) base v l w hL hp hb hown hl
      rw [Num.ue_2 (by omega) h2]
      rw [show (192 + (k : Int) / 64).toNat = 192 + k / 64 by omega] at this
      simpa [rest] using this
    · by_cases h3 : k < 65536
      · have := Put_3 (k : Int) hc (by omega) (by omega) base v l w hL hp hb hown hl
        rw [Num.ue_3 (by omega) h3]
        rw [show (224 + (k : Int) / 4096).toNat = 224 + k / 4096 by omega] at this
        simpa [rest] using this
      · have := Put_4 (k : Int) hc (by omega) (by omega) base v l w hL hp hb hown hl
        rw [Num.ue_4 (by omega)]
        rw [show (240 + (k : Int) / 262144).toNat = 240 + k / 262144 by omega] at this
        simpa [rest] using this

def Cnt (l : List UInt8) (w : World) (e : Ending) (w' : World) : Prop :=
  e = .returned (.tuple #[.int .i64 (((Num.cU l).getD 0 : Nat) : Int), .int .i64 (if (Num.cU l).isSome then 0 else 11)]) ∧ Below w.heap.size w w'
/-- What the loop knows: from place p on stands D, k characters are ahead of it. -/
def Left (L D : List UInt8) (p k : Nat) : Prop := D = L.drop p ∧ p ≤ L.length ∧ k ≤ p ∧ Num.cU L = (Num.cU D).map (· + k)
theorem Left.done {L D : List UInt8} {p k : Nat} (h : Left L D p k) (hd : D = []) : Num.cU L = some k := by
  rw [h.2.2.2, hd, Num.cU_nil]; simp
theorem Left.bad {L D : List UInt8} {p k : Nat} (h : Left L D p k) (hd : D ≠ []) (he : (Num.fst D).2.2 ≠ 0) : Num.cU L = none := by
  rw [h.2.2.2, Num.cU_bad hd he]; rfl
theorem Left.go {L D : List UInt8} {p k c n : Nat} (h : Left L D p k) (he : Num.fst D = (c, n, 0)) (hn : 0 < n) (hn2 : n ≤ D.length) : Left L (D.drop n) (p + n) (k + 1) := by
  have len : D.length = L.length - p := by rw [h.1, List.length_drop]
  refine ⟨by rw [h.1, List.drop_drop], by have := h.2.1; omega, by have := h.2.2.1; omega, ?_⟩
  rw [h.2.2.2, Num.cU_go he, Option.map_map]
  congr 1
  funext j
  simp; omega

set_option maxHeartbeats 1000000 in
theorem Count_any (A : Option Addr) (c : Nat) (l : List UInt8) (w : World) (hL : Laid w) (hb : Bys w w.heap.size A l) (hl : l.length ≤ 140000000000) (hc : l.length ≤ c) :
    Calls Tryd.prog 22 #[.slice A l.length c] w (Cnt l w) := by
  have start : Left l l 0 0 := ⟨rfl, Nat.zero_le _, Nat.le_refl _, by simp⟩
  have START := Lib.hid start
  clear start
  go_enter Tryd.func22, Tryd.ntmps22
  go_wp2_with fail
  go_loopw [0, 4] (fun sv u wr => ∃ (p k n c' : Nat) (A' : Option Addr) (D : List UInt8), Hid (Left l D p k) ∧ Hid (n = D.length) ∧ n ≤ l.length ∧ k ≤ l.length ∧ n ≤ c' ∧ sv = .slice A' n c' ∧ u = .int .i64 (k : Int) ∧ Bys wr w.heap.size A' D ∧ Below w.heap.size w wr) (fun _ u _ => l.length - (intOf u).toNat)
  case atStart => exact ⟨0, 0, l.length, c, A, l, START, rfl, Nat.le_refl _, Nat.zero_le _, hc, rfl, rfl, hb, Below.refl _ _⟩
  case round =>
    obtain ⟨p, k, n, c', A', D, H, hn, nl, kl, nc, rfl, rfl, hy, hbl⟩ := hrel
    have hL0 := hL.1
    have hLr := hL.below hbl hL0
    have kp : k ≤ p ∧ p ≤ l.length ∧ n + p = l.length := by
      have h1 := H.out; have h2 := hn.out; rw [h1.1, List.length_drop] at h2; exact ⟨h1.2.2.1, h1.2.1, by have := h1.2.1; omega⟩
    by_cases h0 : n = 0
    · have Z := Lib.hid (H.out.done (List.length_eq_zero_iff.1 (by have := hn.out; omega)))
      subst h0
      go_wp2_with fail
      go_ret2
      exact ⟨by rw [Z.out]; rfl, hbl⟩
    · have n0 : 0 < n := by omega
      have fa := first_any A' c' D wr hLr (hy.more hbl.size) (by have := hn.out; omega)
      rw [← hn.out] at fa
      have err := Num.fst_err D
      rw [← hn.out] at err
      have hD : D ≠ [] := by intro e; have := hn.out; rw [e] at this; simp at this; omega
      obtain ⟨⟨x, m, er⟩, hr⟩ : ∃ r, r = Num.fst D := ⟨_, rfl⟩
      rw [← hr] at fa err
      have FA := Lib.hid fa
      by_cases he : er = 0
      · subst he
        have hm : 0 < m ∧ m ≤ n := by
          rcases err with ⟨_, _, e, h1, _, h2⟩ | ⟨e, _⟩ | e
          · simp only [Prod.mk.injEq] at e; omega
          · simp at e
          · simp at e
        obtain ⟨m0, m1⟩ := hm
        have GO := Lib.hid (H.out.go hr.symm m0 (by have := hn.out; omega))
        have hcut := hy.cut m c' (by have := hn.out; omega)
        have HN : Hid (n - m = (D.drop m).length) := by unfold Hid; rw [List.length_drop, ← hn.out]
        clear hr fa err hD h0 hn H
        by_cases hck : c' = m
        · rw [if_pos hck] at hcut
          have HC := Lib.hid hcut
          obtain rfl : n = m := by omega
          obtain rfl : c' = n := hck
          clear hcut
          go_wp2_with fail
          refine FA.out.mono ?_
          rintro e w1 ⟨rfl, h1⟩
          go_wp2_with fail
          go_roundw
          case rel => exact ⟨_, k + 1, 0, 0, _, _, GO, (by have := HN.out; unfold Hid; omega), by omega, by omega, by omega, rfl, by go_num, HC.out.below (h1.mono hbl.size), hbl.trans (h1.mono hbl.size)⟩
          case measure => simp [intOf]; omega
        · rw [if_neg hck] at hcut
          have HC := Lib.hid hcut
          clear hcut
          go_wp2_with fail
          refine FA.out.mono ?_
          rintro e w1 ⟨rfl, h1⟩
          go_wp2_with fail
          go_roundw
          case rel => exact ⟨_, k + 1, _, _, _, _, GO, HN, by omega, by omega, by omega, rfl, by go_num, HC.out.below (h1.mono hbl.size), hbl.trans (h1.mono hbl.size)⟩
          case measure => simp [intOf]; omega
      · have Z := Lib.hid (H.out.bad hD (by rw [← hr]; exact he))
        have q1 : ((er : Int) == 0) = false := by simp; omega
        have q2 : ((er : Int) != 0) = true := by simp; omega
        clear hr fa err hD h0 hn H he
        go_wp2_with fail
        refine FA.out.mono ?_
        rintro e w1 ⟨rfl, h1⟩
        go_wp2_with fail
        go_ret2
        exact ⟨by rw [Z.out]; rfl, hbl.trans (h1.mono hbl.size)⟩

def Rgt (l : List UInt8) (w : World) (e : Ending) (w' : World) : Prop := e = .returned (.bool (Num.cU l).isSome) ∧ Below w.heap.size w w'
theorem Right_any (A : Option Addr) (c : Nat) (l : List UInt8) (w : World) (hL : Laid w) (hb : Bys w w.heap.size A l) (hl : l.length ≤ 140000000000) (hc : l.length ≤ c) :
    Calls Tryd.prog 14 #[.slice A l.length c] w (Rgt l w) := by
  have ca := Count_any A c l w hL hb hl hc
  obtain ⟨o, ho⟩ : ∃ o, o = Num.cU l := ⟨_, rfl⟩
  unfold Cnt at ca
  unfold Rgt
  rw [← ho] at ca ⊢
  clear ho
  have CA := Lib.hid ca
  clear ca
  cases o with
  | none =>
    go_enter Tryd.func14, Tryd.ntmps14
    go_wp2_with fail
    refine CA.out.mono ?_
    rintro e w1 ⟨rfl, h1⟩
    go_wp2_with fail
    go_ret
    exact ⟨rfl, h1⟩
  | some n =>
    go_enter Tryd.func14, Tryd.ntmps14
    go_wp2_with fail
    refine CA.out.mono ?_
    rintro e w1 ⟨rfl, h1⟩
    go_wp2_with fail
    go_ret
    exact ⟨rfl, h1⟩

end Go.Proofs.YtbogafecgakgiaaDoor
