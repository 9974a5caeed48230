/- Layer 4: the document's own reader, at every input. -/
import Derived.Test.YtjebhbjffofjnaaDoorWNum
import Derived.Test.YtjebhbjffofjnaaDoorBox
import Derived.Test.YtjebhbjffofjnaaDoorVarintC
import Derived.Test.YtjebhbjffofjnaaDoorUtfS
namespace Go.Proofs.YtjebhbjffofjnaaDoor
open Go.ChangeShapes Go.WideShapes Go.ChangeAt Go.RowKit Mem

/-- The document's reader, in block g. -/
def RSt (w : World) (g : Nat) (A : Option Addr) (l : List UInt8) (c : Nat) (a e : Int) : Prop := B3 w g 30 (.slice A l.length c) (.int .i64 a) (.int .i64 e)
theorem RSt.drewN {w : World} {g c : Nat} {A : Option Addr} {l : List UInt8} {a e : Int} (h : RSt w g A l c a e) (n : Nat) : RSt (w.drewN n) g A l c a e := h
theorem RSt.setAt {w : World} {g c : Nat} {A : Option Addr} {l : List UInt8} {a e : Int} (h : RSt w g A l c a e) (a' : Int) : RSt (w.setCell ⟨g, 1, none⟩ (.int .i64 a')) g A l c a' e := B3.set1 h _
theorem RSt.setE {w : World} {g c : Nat} {A : Option Addr} {l : List UInt8} {a e : Int} (h : RSt w g A l c a e) (e' : Int) : RSt (w.setCell ⟨g, 2, none⟩ (.int .i64 e')) g A l c a e' := B3.set2 h _
theorem RSt.lt {w : World} {g c : Nat} {A : Option Addr} {l : List UInt8} {a e : Int} (h : RSt w g A l c a e) : g < w.heap.size := B3.lt h
theorem RSt.below {w w' : World} {g c B : Nat} {A : Option Addr} {l : List UInt8} {a e : Int} (h : RSt w g A l c a e) (b : Below B w w') (hg : g < B) : RSt w' g A l c a e := B3.below h b hg
theorem RSt.alloc {w : World} {g c : Nat} {A : Option Addr} {l : List UInt8} {a e : Int} (h : RSt w g A l c a e) (o : Obj) : RSt (w.alloc o) g A l c a e := B3.alloc h o
theorem RSt.drew {w : World} {g c : Nat} {A : Option Addr} {l : List UInt8} {a e : Int} (h : RSt w g A l c a e) : RSt w.drew g A l c a e := h
def Saves (v : Value) (a e : Int) (g : Nat) (A : Option Addr) (l : List UInt8) (c : Nat) (w : World) (x : Ending) (w' : World) : Prop := x = .returned v ∧ RSt w' g A l c a e ∧ Save g w w'
def SavesF (r : List UInt8 × Int × Int) (g : Nat) (A : Option Addr) (l : List UInt8) (c : Nat) (w : World) (x : Ending) (w' : World) : Prop :=
  ∃ A' c', x = .returned (.slice A' r.1.length c') ∧ r.1.length ≤ c' ∧ NewBys w.heap.size w' A' r.1 ∧ RSt w' g A l c r.2.1 r.2.2 ∧ Save g w w'

theorem ready_any (g : Nat) (A : Option Addr) (c : Nat) (l : List UInt8) (a e : Int) (w : World) (h : RSt w g A l c a e) :
    Calls Tryd.prog 35 #[.pointer (some ⟨g, 0, none⟩)] w (Saves (.bool (Wr.rdy l a e == 0)) a (Wr.rdy l a e) g A l c w) := by
  obtain ⟨_, _, _, _, _, _⟩ := h.facts
  rcases Wr.rdy_ways l a e with ⟨he, hr⟩ | ⟨rfl, ha, hr⟩ | ⟨rfl, k, rfl, hk, hr⟩
  · have q : (e == 0) = false := by simpa using he
    rw [hr, q]
    go_enter Tryd.func35, Tryd.ntmps35
    go_wp2_with fail
    go_quiet (fail)
    go_wp2_with fail
    go_ret
    exact ⟨rfl, h.drewN _, by (repeat' (first | with_reducible assumption | with_reducible exact Mem.Save.refl _ _ | with_reducible refine Mem.Save.set ?_ _ _ | with_reducible refine Mem.Save.drewN ?_ _ | with_reducible refine Mem.Save.drew ?_ | (with_reducible refine Mem.Save.alloc ?_ ?_ _; rotate_left; focus (first | exact Nat.le_refl _ | assumption | (simp; done) | (simp; omega) | omega | fail)) | (with_reducible refine Mem.Save.call (by with_reducible assumption) ?_ ?_; focus (first | exact Nat.le_refl _ | assumption | (simp; done) | (simp; omega) | omega | fail)) | with_reducible refine Mem.Save.next (by with_reducible assumption) ?_ | fail))⟩
  · rw [hr]
    by_cases h1 : a < 0
    · go_enter Tryd.func35, Tryd.ntmps35
      go_wp2_with fail
      go_quiet (fail)
      go_wp2_with fail
      go_ret
      exact ⟨rfl, (h.drewN _).setE 2, by (repeat' (first | with_reducible assumption | with_reducible exact Mem.Save.refl _ _ | with_reducible refine Mem.Save.set ?_ _ _ | with_reducible refine Mem.Save.drewN ?_ _ | with_reducible refine Mem.Save.drew ?_ | (with_reducible refine Mem.Save.alloc ?_ ?_ _; rotate_left; focus (first | exact Nat.le_refl _ | assumption | (simp; done) | (simp; omega) | omega | fail)) | (with_reducible refine Mem.Save.call (by with_reducible assumption) ?_ ?_; focus (first | exact Nat.le_refl _ | assumption | (simp; done) | (simp; omega) | omega | fail)) | with_reducible refine Mem.Save.next (by with_reducible assumption) ?_ | fail))⟩
    · have h2 : (l.length : Int) < a := by omega
      have q1 : ¬ a < 0 := h1
      go_enter Tryd.func35, Tryd.ntmps35
      go_wp2_with fail
      go_quiet (fail)
      go_wp2_with fail
      go_ret
      exact ⟨rfl, (h.drewN _).setE 2, by (repeat' (first | with_reducible assumption | with_reducible exact Mem.Save.refl _ _ | with_reducible refine Mem.Save.set ?_ _ _ | with_reducible refine Mem.Save.drewN ?_ _ | with_reducible refine Mem.Save.drew ?_ | (with_reducible refine Mem.Save.alloc ?_ ?_ _; rotate_left; focus (first | exact Nat.le_refl _ | assumption | (simp; done) | (simp; omega) | omega | fail)) | (with_reducible refine Mem.Save.call (by with_reducible assumption) ?_ ?_; focus (first | exact Nat.le_refl _ | assumption | (simp; done) | (simp; omega) | omega | fail)) | with_reducible refine Mem.Save.next (by with_reducible assumption) ?_ | fail))⟩
  · rw [hr]
    have q1 : ¬ (k : Int) < 0 := by omega
    have q2 : ¬ (l.length : Int) < (k : Int) := by omega
    go_enter Tryd.func35, Tryd.ntmps35
    go_wp2_with fail
    go_quiet (fail)
    go_wp2_with fail
    go_ret
    exact ⟨rfl, h.drewN _, by (repeat' (first | with_reducible assumption | with_reducible exact Mem.Save.refl _ _ | with_reducible refine Mem.Save.set ?_ _ _ | with_reducible refine Mem.Save.drewN ?_ _ | with_reducible refine Mem.Save.drew ?_ | (with_reducible refine Mem.Save.alloc ?_ ?_ _; rotate_left; focus (first | exact Nat.le_refl _ | assumption | (simp; done) | (simp; omega) | omega | fail)) | (with_reducible refine Mem.Save.call (by with_reducible assumption) ?_ ?_; focus (first | exact Nat.le_refl _ | assumption | (simp; done) | (simp; omega) | omega | fail)) | with_reducible refine Mem.Save.next (by with_reducible assumption) ?_ | fail))⟩
theorem rNumber_any (most top : Nat) (hm : 0 < most) (hm2 : most ≤ 10) (ht : top < 128) (hfit : Hid (128 ^ (most - 1) * (top + 1) ≤ 18446744073709551616)) (g : Nat) (A : Option Addr) (c : Nat) (l : List UInt8) (a e : Int) (w : World) (h : RSt w g A l c a e)
    (hb : Bys w g A l) (hl : l.length ≤ 140000000000) :
    Calls Tryd.prog 45 #[.pointer (some ⟨g, 0, none⟩), .int .i64 (most : Int), .int .u8 (top : Int)] w (Saves (.int .i64 (Wr.lnum most top l a e).1) (Wr.lnum most top l a e).2.1 (Wr.lnum most top l a e).2.2 g A l c w) := by
  have P := Lib.hid (ready_any g A c l a e w h)
  have CS := cell_set
  unfold Wr.lnum
  by_cases hr : Wr.rdy l a e = 0
  · rw [if_neg (by omega)]
    rw [hr] at P
    have T := Lib.hid (fun W hb => rtake_all most top A c l a W hm hm2 ht hfit hb hl)
    generalize Num.zag ((At most top l a).1 : Int) = n at *
    generalize (At most top l a).2.1 = m at *
    generalize (At most top l a).2.2 = r at *
    go_enter Tryd.func45, Tryd.ntmps45
    go_wp2_with fail
    refine P.out.mono ?_
    rintro e w1 ⟨rfl, h1, s1⟩
    obtain ⟨_, _, _, _, _, _⟩ := h1.facts
    have hb1 := (s1.bys hb (Nat.le_refl _)).more (Nat.le_of_lt h1.lt)
    have TQ : ∀ k, Calls Tryd.prog 52 #[.slice A l.length c, .int .i64 a, .int .i64 (most : Int), .int .u8 (top : Int)] (w1.drewN k) (fun x w' => x = .returned (.tuple #[.int .i64 n, .int .i64 m, .int .i64 (r : Int)]) ∧ w' = w1.drewN k) :=
      fun k => (T.out _ (hb1.drewN k)).mono fun _ _ h => ⟨h.1, h.2.symm⟩
    have TQ2 := Lib.hid TQ
    clear TQ
    go_wp2_with fail
    go_quiet ((go_at_call 52; exact Calls.quiet_of_same (TQ2.out _)))
    go_wp2_with fail
    go_ret
    exact ⟨rfl, ((h1.drewN _).setAt m).setE (r : Int), by (repeat' (first | with_reducible assumption | with_reducible exact Mem.Save.refl _ _ | with_reducible refine Mem.Save.set ?_ _ _ | with_reducible refine Mem.Save.drewN ?_ _ | with_reducible refine Mem.Save.drew ?_ | (with_reducible refine Mem.Save.alloc ?_ ?_ _; rotate_left; focus (first | exact Nat.le_refl _ | assumption | (simp; done) | (simp; omega) | omega | fail)) | (with_reducible refine Mem.Save.call (by with_reducible assumption) ?_ ?_; focus (first | exact Nat.le_refl _ | assumption | (simp; done) | (simp; omega) | omega | fail)) | with_reducible refine Mem.Save.next (by with_reducible assumption) ?_ | fail))⟩
  · rw [if_pos hr]
    have q : (Wr.rdy l a e == 0) = false := by simpa using hr
    rw [q] at P
    generalize Wr.rdy l a e = r at *
    go_enter Tryd.func45, Tryd.ntmps45
    go_wp2_with fail
    refine P.out.mono ?_
    rintro e w1 ⟨rfl, h1, s1⟩
    go_wp2_with fail
    go_ret
    exact ⟨rfl, h1, s1⟩
theorem rLong_any (g : Nat) (A : Option Addr) (c : Nat) (l : List UInt8) (a e : Int) (w : World) (h : RSt w g A l c a e) (hb : Bys w g A l) (hl : l.length ≤ 140000000000) :
    Calls Tryd.prog 28 #[.pointer (some ⟨g, 0, none⟩)] w (Saves (.int .i64 (Wr.lnum 10 1 l a e).1) (Wr.lnum 10 1 l a e).2.1 (Wr.lnum 10 1 l a e).2.2 g A l c w) := by
  have P0 : Calls Tryd.prog 45 #[.pointer (some ⟨g, 0, none⟩), .int .i64 10, .int .u8 1] w (Saves (.int .i64 (Wr.lnum 10 1 l a e).1) (Wr.lnum 10 1 l a e).2.1 (Wr.lnum 10 1 l a e).2.2 g A l c w) := rNumber_any 10 1 (by decide) (by decide) (by decide) fit10 g A c l a e w h hb hl
  have P := Lib.hid P0
  clear P0
  generalize Wr.lnum 10 1 l a e = R at *
  obtain ⟨n, m, r⟩ := R
  go_enter Tryd.func28, Tryd.ntmps28
  go_wp2_with fail
  refine P.out.mono ?_
  rintro e w1 ⟨rfl, h1, s1⟩
  go_wp2_with fail
  go_ret
  exact ⟨rfl, h1, s1⟩
theorem rInt_any (g : Nat) (A : Option Addr) (c : Nat) (l : List UInt8) (a e : Int) (w : World) (h : RSt w g A l c a e) (hb : Bys w g A l) (hl : l.length ≤ 140000000000) :
    Calls Tryd.prog 27 #[.pointer (some ⟨g, 0, none⟩)] w (Saves (.int .i64 (Wr.lnum 5 15 l a e).1) (Wr.lnum 5 15 l a e).2.1 (Wr.lnum 5 15 l a e).2.2 g A l c w) := by
  have P0 : Calls Tryd.prog 45 #[.pointer (some ⟨g, 0, none⟩), .int .i64 5, .int .u8 15] w (Saves (.int .i64 (Wr.lnum 5 15 l a e).1) (Wr.lnum 5 15 l a e).2.1 (Wr.lnum 5 15 l a e).2.2 g A l c w) := rNumber_any 5 15 (by decide) (by decide) (by decide) fit5 g A c l a e w h hb hl
  have P := Lib.hid P0
  clear P0
  generalize Wr.lnum 5 15 l a e = R at *
  obtain ⟨n, m, r⟩ := R
  go_enter Tryd.func27, Tryd.ntmps27
  go_wp2_with fail
  refine P.out.mono ?_
  rintro e w1 ⟨rfl, h1, s1⟩
  go_wp2_with fail
  go_ret
  exact ⟨rfl, h1, s1⟩

theorem savesF_nil {a e : Int} {g c c' : Nat} {A A' : Option Addr} {l : List UInt8} {w w' : World} {x : Ending} (hx : x = .returned (.slice A' 0 c')) (h : RSt w' g A l c a e) (s : Save g w w') : SavesF ([], a, e) g A l c w x w' :=
  ⟨A', c', hx, Nat.zero_le _, NewBys.nil _ _ _, h, s⟩
theorem savesF_out {X : List UInt8} {a e : Int} {g n c : Nat} {A : Option Addr} {l : List UInt8} {w w' : World} {x : Ending} (hn : X.length = n) (h : SavesF (X, a, e) g A l c w x w') :
    ∃ A' c', x = .returned (.slice A' n c') ∧ n ≤ c' ∧ NewBys w.heap.size w' A' X ∧ RSt w' g A l c a e ∧ Save g w w' := by subst hn; exact h
theorem savesF_is {X : List UInt8} {a e : Int} {g n c c' : Nat} {A A' : Option Addr} {l : List UInt8} {w w' : World} {x : Ending} (hn : X.length = n) (hx : x = .returned (.slice A' n c')) (hc : n ≤ c') (y : NewBys w.heap.size w' A' X) (h : RSt w' g A l c a e) (s : Save g w w') :
    SavesF (X, a, e) g A l c w x w' := by subst hn; exact ⟨A', c', hx, hc, y, h, s⟩

set_option maxRecDepth 100000 in
set_option maxHeartbeats 1000000 in
theorem rFixed_nat (g : Nat) (A : Option Addr) (c : Nat) (l : List UInt8) (a e n : Int) (N : Nat) (hn : n = (N : Int) ∨ n < 0 ∧ N = 0) (w : World) (h : RSt w g A l c a e) (hb : Bys w g A l) (hl : l.length ≤ 140000000000) (hc : l.length ≤ c) :
    Calls Tryd.prog 31 #[.pointer (some ⟨g, 0, none⟩), .int .i64 n] w (SavesF (Wr.cut l a e (N : Int)) g A l c w) := by
  have P := Lib.hid (ready_any g A c l a e w h)
  have CS := cell_set
  have g0 := h.lt
  rcases Wr.cut_ways l a e N with ⟨hr, hy⟩ | ⟨k, rfl, rfl, hk, h0, ⟨hN, hy⟩ | ⟨hN, hy⟩⟩
  · rw [hy]
    have q : (Wr.rdy l a e == 0) = false := by simpa using hr
    rw [q] at P
    generalize Wr.rdy l a e = r at *
    clear hy hn
    go_enter Tryd.func31, Tryd.ntmps31
    go_wp2_with fail
    refine P.out.mono ?_
    rintro e w1 ⟨rfl, h1, s1⟩
    go_wp2_with fail
    go_ret
    exact savesF_nil rfl h1 s1
  · rw [hy]
    rw [h0] at P
    clear hy h0
    rcases hn with rfl | ⟨hn, rfl⟩
    · have q : (l.length : Int) - (k : Int) < (N : Int) := by omega
      have q1 : ¬ (N : Int) < 0 := by omega
      go_enter Tryd.func31, Tryd.ntmps31
      go_wp2_with fail
      refine P.out.mono ?_
      rintro e w1 ⟨rfl, h1, s1⟩
      obtain ⟨_, _, _, _, _, _⟩ := h1.facts
      go_wp2_with fail
      go_quiet (fail)
      go_wp2_with fail
      go_ret
      exact savesF_nil rfl ((h1.drewN _).setE 10) (by (repeat' (first | with_reducible assumption | with_reducible exact Mem.Save.refl _ _ | with_reducible refine Mem.Save.set ?_ _ _ | with_reducible refine Mem.Save.drewN ?_ _ | with_reducible refine Mem.Save.drew ?_ | (with_reducible refine Mem.Save.alloc ?_ ?_ _; rotate_left; focus (first | exact Nat.le_refl _ | assumption | (simp; done) | (simp; omega) | omega | fail)) | (with_reducible refine Mem.Save.call (by with_reducible assumption) ?_ ?_; focus (first | exact Nat.le_refl _ | assumption | (simp; done) | (simp; omega) | omega | fail)) | with_reducible refine Mem.Save.next (by with_reducible assumption) ?_ | fail)))
    · omega
  · rw [hy]
    rw [h0] at P
    have len : ((l.drop k).take N).length = N := by rw [List.length_take, List.length_drop]; omega
    have hcut := (hb.cut k c hc).front N
    have LEN := Lib.hid len
    have HC := Lib.hid hcut
    clear hy h0 hcut len
    generalize (l.drop k).take N = X at *
    have q : ¬ (l.length : Int) - (k : Int) < (N : Int) := by omega
    have qa : (0 : Int) ≤ (k : Int) := by omega
    have qb : (k : Int) ≤ (k : Int) + (N : Int) := by omega
    have qc : (k : Int) + (N : Int) ≤ (c : Int) := by omega
    have qd : (k : Int) ≤ (c : Int) := by omega
    have wz : wrap64 ((k : Int) + (N : Int)) = (k : Int) + (N : Int) := IntWalk.wrap64_in _ (by omega)
    have wz2 : IntKind.i64.wrap ((k : Int) + (N : Int)) = (k : Int) + (N : Int) := IntWalk.i64_in _ (by omega)
    have wz3 : wrap64 (k : Int) = (k : Int) := IntWalk.wrap64_in _ (by omega)
    have wz4 : IntKind.i64.wrap (k : Int) = (k : Int) := IntWalk.i64_in _ (by omega)
    by_cases hck : c = k
    · have HC2 := HC.out
      rw [if_pos hck] at HC2
      have HC := Lib.hid HC2
      clear HC2
      obtain rfl : N = 0 := by omega
      have en : n = 0 ∨ n < 0 := by omega
      clear hn wz wz2 qb qc
      obtain rfl : c = k := hck
      rcases en with rfl | hn
      · skip
        have sl : ∀ W, (Instr.slice 22 (.slice A l.length c) (some (.int .i64 (c : Int))) (some (.int .i64 (c : Int))) none).run Tryd.prog W = .ok (.slice A 0 0) W := by
          intro W
          go_simp
          try omega
        go_enter Tryd.func31, Tryd.ntmps31
        go_wp2_with fail
        refine P.out.mono ?_
        rintro e w1 ⟨rfl, h1, s1⟩
        have g1 := h1.lt
        obtain ⟨_, _, _, _, _, _⟩ := h1.facts
        go_wp2_with fail
        go_quiet (fail)
        go_wp2_with fail
        obtain ⟨w2, hw2⟩ : ∃ w2, w2 = w1.drewN nq := ⟨_, rfl⟩
        have h2 : RSt w2 g A l c (c : Int) 0 := hw2 ▸ h1.drewN nq
        have s2 : Save g w w2 := hw2 ▸ s1.drewN nq
        rw [← hw2]
        clear hw2
        have g2 := h2.lt
        obtain ⟨_, _, _, _, _, _⟩ := h2.facts
        go_region_held_law (fun w' => w'.cell? ⟨g, 0, none⟩ = some (.slice A l.length c) ∧ w'.cell? ⟨g, 1, none⟩ = some (.int .i64 (c : Int))) (exact ⟨by first | assumption | (go_simp; done), by first | assumption | (go_simp; done)⟩) (first
          | (refine step_appd _ byteT (by rfl) (some 42) rfl (.tmp 26) (.tmp 41) rfl w2.heap.size _ [] rfl (own_lit w2 (Nat.le_refl _)).drew g _ _ X (by rw [LEN.out]; rfl) ((s2.bys HC.out (Nat.le_refl _)).alloc (Nat.le_of_lt g2) _ |>.drew) (by have := LEN.out; simp; omega) (by simp) ?_; intro v2 w3 o2 b2; have h3 := ((h2.alloc (.cells #[] 5)).drew).below b2 g2; have g3 := h3.lt; obtain ⟨_, _, _, _, _, _⟩ := h3.facts))
        all_goals
          go_wp2_with fail
          go_ret
          rw [List.nil_append] at o2
          obtain ⟨A2, c2, rfl, hc2, y2⟩ := o2.new
          have s3 : Save g w w3 := s2.trans (Save.of ((((Below.refl _ _).alloc (Nat.le_refl _) _).drew).trans b2) (Nat.le_of_lt g2))
          refine savesF_is (n := X.length) rfl rfl hc2 ((y2.less (B' := w2.heap.size) (Nat.le_refl _)).set (by exact g2) _ |>.less s2.size) ((h3.setAt _)) (Save.set s3 _ _)
      · have q1 : n < 0 := hn
        have sl : ∀ W, (Instr.slice 22 (.slice A l.length c) (some (.int .i64 (c : Int))) (some (.int .i64 (c : Int))) none).run Tryd.prog W = .ok (.slice A 0 0) W := by
          intro W
          go_simp
          try omega
        go_enter Tryd.func31, Tryd.ntmps31
        go_wp2_with fail
        refine P.out.mono ?_
        rintro e w1 ⟨rfl, h1, s1⟩
        have g1 := h1.lt
        obtain ⟨_, _, _, _, _, _⟩ := h1.facts
        go_wp2_with fail
        go_quiet (fail)
        go_wp2_with fail
        obtain ⟨w2, hw2⟩ : ∃ w2, w2 = w1.drewN nq := ⟨_, rfl⟩
        have h2 : RSt w2 g A l c (c : Int) 0 := hw2 ▸ h1.drewN nq
        have s2 : Save g w w2 := hw2 ▸ s1.drewN nq
        rw [← hw2]
        clear hw2
        have g2 := h2.lt
        obtain ⟨_, _, _, _, _, _⟩ := h2.facts
        go_region_held_law (fun w' => w'.cell? ⟨g, 0, none⟩ = some (.slice A l.length c) ∧ w'.cell? ⟨g, 1, none⟩ = some (.int .i64 (c : Int))) (exact ⟨by first | assumption | (go_simp; done), by first | assumption | (go_simp; done)⟩) (first
          | (refine step_appd _ byteT (by rfl) (some 42) rfl (.tmp 26) (.tmp 41) rfl w2.heap.size _ [] rfl (own_lit w2 (Nat.le_refl _)).drew g _ _ X (by rw [LEN.out]; rfl) ((s2.bys HC.out (Nat.le_refl _)).alloc (Nat.le_of_lt g2) _ |>.drew) (by have := LEN.out; simp; omega) (by simp) ?_; intro v2 w3 o2 b2; have h3 := ((h2.alloc (.cells #[] 5)).drew).below b2 g2; have g3 := h3.lt; obtain ⟨_, _, _, _, _, _⟩ := h3.facts))
        all_goals
          go_wp2_with fail
          go_ret
          rw [List.nil_append] at o2
          obtain ⟨A2, c2, rfl, hc2, y2⟩ := o2.new
          have s3 : Save g w w3 := s2.trans (Save.of ((((Below.refl _ _).alloc (Nat.le_refl _) _).drew).trans b2) (Nat.le_of_lt g2))
          refine savesF_is (n := X.length) rfl rfl hc2 ((y2.less (B' := w2.heap.size) (Nat.le_refl _)).set (by exact g2) _ |>.less s2.size) ((h3.setAt _)) (Save.set s3 _ _)
    · have HC2 := HC.out
      rw [if_neg hck] at HC2
      have HC := Lib.hid HC2
      clear HC2
      rcases hn with rfl | ⟨hn, rfl⟩
      · have q1 : ¬ (N : Int) < 0 := by omega
        have sl : ∀ W, (Instr.slice 22 (.slice A l.length c) (some (.int .i64 (k : Int))) (some (.int .i64 ((k : Int) + (N : Int)))) none).run Tryd.prog W = .ok (.slice (A.map (·.add k)) N (c - k)) W := by
          intro W
          go_simp
          try omega
        go_enter Tryd.func31, Tryd.ntmps31
        go_wp2_with fail
        refine P.out.mono ?_
        rintro e w1 ⟨rfl, h1, s1⟩
        have g1 := h1.lt
        obtain ⟨_, _, _, _, _, _⟩ := h1.facts
        go_wp2_with fail
        go_quiet (fail)
        go_wp2_with fail
        obtain ⟨w2, hw2⟩ : ∃ w2, w2 = w1.drewN nq := ⟨_, rfl⟩
        have h2 : RSt w2 g A l c (k : Int) 0 := hw2 ▸ h1.drewN nq
        have s2 : Save g w w2 := hw2 ▸ s1.drewN nq
        rw [← hw2]
        clear hw2
        have g2 := h2.lt
        obtain ⟨_, _, _, _, _, _⟩ := h2.facts
        go_region_held_law (fun w' => w'.cell? ⟨g, 0, none⟩ = some (.slice A l.length c) ∧ w'.cell? ⟨g, 1, none⟩ = some (.int .i64 (k : Int))) (exact ⟨by first | assumption | (go_simp; done), by first | assumption | (go_simp; done)⟩) (first
          | (refine step_appd _ byteT (by rfl) (some 42) rfl (.tmp 26) (.tmp 41) rfl w2.heap.size _ [] rfl (own_lit w2 (Nat.le_refl _)).drew g _ _ X (by rw [LEN.out]; rfl) ((s2.bys HC.out (Nat.le_refl _)).alloc (Nat.le_of_lt g2) _ |>.drew) (by have := LEN.out; simp; omega) (by simp) ?_; intro v2 w3 o2 b2; have h3 := ((h2.alloc (.cells #[] 5)).drew).below b2 g2; have g3 := h3.lt; obtain ⟨_, _, _, _, _, _⟩ := h3.facts))
        all_goals
          go_wp2_with fail
          go_ret
          rw [List.nil_append] at o2
          obtain ⟨A2, c2, rfl, hc2, y2⟩ := o2.new
          have s3 : Save g w w3 := s2.trans (Save.of ((((Below.refl _ _).alloc (Nat.le_refl _) _).drew).trans b2) (Nat.le_of_lt g2))
          refine savesF_is (n := X.length) rfl rfl hc2 ((y2.less (B' := w2.heap.size) (Nat.le_refl _)).set (by exact g2) _ |>.less s2.size) ((h3.setAt _)) (Save.set s3 _ _)
      · clear wz wz2 qb qc
        have sl : ∀ W, (Instr.slice 22 (.slice A l.length c) (some (.int .i64 (k : Int))) (some (.int .i64 (k : Int))) none).run Tryd.prog W = .ok (.slice (A.map (·.add k)) 0 (c - k)) W := by
          intro W
          go_simp
          try omega
        go_enter Tryd.func31, Tryd.ntmps31
        go_wp2_with fail
        refine P.out.mono ?_
        rintro e w1 ⟨rfl, h1, s1⟩
        have g1 := h1.lt
        obtain ⟨_, _, _, _, _, _⟩ := h1.facts
        go_wp2_with fail
        go_quiet (fail)
        go_wp2_with fail
        obtain ⟨w2, hw2⟩ : ∃ w2, w2 = w1.drewN nq := ⟨_, rfl⟩
        have h2 : RSt w2 g A l c (k : Int) 0 := hw2 ▸ h1.drewN nq
        have s2 : Save g w w2 := hw2 ▸ s1.drewN nq
        rw [← hw2]
        clear hw2
        have g2 := h2.lt
        obtain ⟨_, _, _, _, _, _⟩ := h2.facts
        go_region_held_law (fun w' => w'.cell? ⟨g, 0, none⟩ = some (.slice A l.length c) ∧ w'.cell? ⟨g, 1, none⟩ = some (.int .i64 (k : Int))) (exact ⟨by first | assumption | (go_simp; done), by first | assumption | (go_simp; done)⟩) (first
          | (refine step_appd _ byteT (by rfl) (some 42) rfl (.tmp 26) (.tmp 41) rfl w2.heap.size _ [] rfl (own_lit w2 (Nat.le_refl _)).drew g _ _ X (by rw [LEN.out]; rfl) ((s2.bys HC.out (Nat.le_refl _)).alloc (Nat.le_of_lt g2) _ |>.drew) (by have := LEN.out; simp; omega) (by simp) ?_; intro v2 w3 o2 b2; have h3 := ((h2.alloc (.cells #[] 5)).drew).below b2 g2; have g3 := h3.lt; obtain ⟨_, _, _, _, _, _⟩ := h3.facts))
        all_goals
          go_wp2_with fail
          go_ret
          rw [List.nil_append] at o2
          obtain ⟨A2, c2, rfl, hc2, y2⟩ := o2.new
          have s3 : Save g w w3 := s2.trans (Save.of ((((Below.refl _ _).alloc (Nat.le_refl _) _).drew).trans b2) (Nat.le_of_lt g2))
          refine savesF_is (n := X.length) rfl rfl hc2 ((y2.less (B' := w2.heap.size) (Nat.le_refl _)).set (by exact g2) _ |>.less s2.size) ((h3.setAt _)) (Save.set s3 _ _)
end Go.Proofs.YtjebhbjffofjnaaDoor
