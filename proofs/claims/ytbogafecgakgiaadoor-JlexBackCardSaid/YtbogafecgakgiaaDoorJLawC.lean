/- The laws of layer 6, walked: a quoted text is a word. -/
import Derived.Test.YtbogafecgakgiaaDoorJLawB
import Derived.Test.YtbogafecgakgiaaDoorJNum5
import Derived.Test.YtbogafecgakgiaaDoorUtfD
import Derived.Lib.ConvBytes
namespace Go.Proofs.YtbogafecgakgiaaDoor
open Go.ChangeShapes Go.WideShapes Go.ChangeAt Go.RowKit Mem

/-- The bytes of a string, as a conversion lays them. -/
def Laysb (s : ByteArray) (W W' : World) : Prop := Below W.heap.size W W' ∧ Bys W' W'.heap.size (some ⟨W.heap.size, 0, none⟩) s.data.toList
theorem conv_lays (s : ByteArray) (W : World) : ∃ c W', (convert 9 22 (.string s)).run Tryd.prog W = .ok (.slice (some ⟨W.heap.size, 0, none⟩) s.size c) W' ∧ s.size ≤ c ∧ Laysb s W W' := by
  refine ⟨_, _, Lib.run_convert_string_bytes W 9 22 5 s strT byteT.sl byteT.el, ?_, ?_, ?_⟩
  · exact grownCap_ge W s.size 0 _
  · exact ⟨rfl, rfl, rfl, by rw [Lib.bytesWorld_size]; omega, fun g hg => Lib.bytesWorld_at_old W 5 s g hg⟩
  · refine .inr ⟨_, 0, rfl, by rw [Lib.bytesWorld_size]; omega, fun k hk => ?_⟩
    rw [Nat.zero_add]
    exact Lib.bytesWorld_cell W 5 s k (by simpa using hk)
theorem conv_all (s : ByteArray) : ∃ (F : World → World) (G : World → Nat), (∀ W, (convert 9 22 (.string s)).run Tryd.prog W = .ok (.slice (some ⟨W.heap.size, 0, none⟩) s.size (G W)) (F W)) ∧ (∀ W, s.size ≤ G W) ∧ ∀ W, Laysb s W (F W) :=
  ⟨fun W => (conv_lays s W).choose_spec.choose, fun W => (conv_lays s W).choose, fun W => (conv_lays s W).choose_spec.choose_spec.1, fun W => (conv_lays s W).choose_spec.choose_spec.2.1, fun W => (conv_lays s W).choose_spec.choose_spec.2.2⟩
theorem bys_spot {w : World} {B g h : Nat} {l : List UInt8} (y : Bys w B (some ⟨g, 0, none⟩) l) (e : g = h) : Bys w B (some ⟨h, 0, none⟩) l := e ▸ y
theorem takI_zero (l : List UInt8) : Jx.takI l 0 = Jx.tak l 0 := by unfold Jx.takI; rw [if_neg (by omega)]; rfl

theorem tkW_of {r : Jx.Wd × Nat} {k a x er : Nat} {n : Int} {t : List UInt8} {w w' : World} {e : Ending} (hr : r = (⟨k, n, t, a, x⟩, er)) (h : TkW r w e w') :
    e = .returned (.tuple #[.agg #[.int .i64 (k : Int), .int .i64 n, .string ⟨t.toArray⟩, .int .i64 (a : Int), .int .i64 (x : Int)], .int .i64 (er : Int)]) ∧ Below w.heap.size w w' := by subst hr; exact h
set_option maxRecDepth 100000 in
set_option maxHeartbeats 4000000 in
theorem jlexBack_walk (s : ByteArray) (A : Option Addr) (l : List UInt8) (c : Nat) (w : World) (_ : s.size ≤ maxLen) (_hc : l.length ≤ c) (hb : Bys w w.heap.size A l) (hL : Laid w) :
    Calls Tryd.prog 5 #[.string s, .slice A l.length c] w fun e w' => e = .returned (.bool true) ∧ Below w.heap.size w w' := by
  have WK := Lib.hid (works6_any w hL)
  by_cases hs : 2000 < s.size
  · have q : decide ((2000 : Int) < (s.size : Int)) = true := by simp; omega
    go_enter Tryd.func5, Tryd.ntmps5
    go_wp2_with fail
    refine WK.out.mono ?_
    rintro e w1 ⟨rfl, b1⟩
    go_wp2_with fail
    go_ret
    exact ⟨rfl, b1⟩
  · have q : decide ((2000 : Int) < (s.size : Int)) = false := by simp; omega
    by_cases hl : 2000 < l.length
    · have q2 : decide ((2000 : Int) < (l.length : Int)) = true := by simp; omega
      go_enter Tryd.func5, Tryd.ntmps5
      go_wp2_with fail
      refine WK.out.mono ?_
      rintro e w1 ⟨rfl, b1⟩
      go_wp2_with fail
      go_ret
      exact ⟨rfl, b1⟩
    · have q2 : decide ((2000 : Int) < (l.length : Int)) = false := by simp; omega
      have hp := hL.1
      have put := fun W => jQuote_any s W.heap.size (.slice none 0 0) [] W (by omega) (Nat.le_refl _) (Own.none_ _ _ _) (by simp)
      have ql := quo_len s
      have tq := Jx.tak_quo s.data.toList l
      obtain ⟨E, hE⟩ : ∃ E, E = Jx.quo s.data.toList := ⟨_, rfl⟩
      rw [← hE] at ql tq
      simp only [← hE, List.nil_append] at put
      have tk : ∀ A5 n c5 W, (E ++ l).length = n → Laid W → Bys W W.heap.size A5 (E ++ l) → n ≤ c5 → Calls Tryd.prog 8 #[.slice A5 n c5, .int .i64 0] W (TkW (Jx.tak (E ++ l) 0) W) := by
        intro A5 n c5 W hn h1 h2 h3
        subst hn
        rw [← takI_zero]
        exact jTake_any A5 c5 (E ++ l) 0 W h1 h2 (by simp; omega) h3
      have sl : s.data.toList.length = s.size := by simp
      have rg : ∀ A7 c7 W, Laid W → Bys W W.heap.size A7 s.data.toList → s.size ≤ c7 → Calls Tryd.prog 14 #[.slice A7 s.size c7] W (Rgt s.data.toList W) := by
        intro A7 c7 W h1 h2 h3
        rw [← sl]
        exact Right_any A7 c7 s.data.toList W h1 h2 (by omega) (by omega)
      have RG := Lib.hid rg
      clear rg
      have PUT := Lib.hid put
      have TK := Lib.hid tk
      have TQ := Lib.hid tq
      obtain ⟨F, G, cv, gc, lb⟩ := conv_all s
      have LBB := Lib.hid (fun W => (lb W).1)
      have LBY := Lib.hid (fun W => (lb W).2)
      have GC := Lib.hid gc
      have SL := Lib.hid sl
      clear put tk tq hE lb gc sl
      go_enter Tryd.func5, Tryd.ntmps5
      go_wp2_with fail
      refine WK.out.mono ?_
      rintro e w1 ⟨rfl, b1⟩
      have s1 := b1.size
      go_wp2_with fail
      refine (PUT.out _).mono ?_
      rintro e w2 ⟨v2, rfl, o2, b2⟩
      obtain ⟨A2, c2, rfl, y2, hc2⟩ := o2.room
      have s2 := b2.size
      have B2 := b1.trans (b2.mono s1)
      clear o2
      go_wp2_with (first
        | (at_builtin; refine wpList_app _ byteT rfl (.tmp 23) (.tmp 24) rfl w2.heap.size _ E rfl o4 _ A c l rfl (hb.below (B2.trans (h24.mono B2.size))) (by omega) h24.size ?_; intro v5 w5 o5 h5; have h25 := h24.trans h5; clear h5 h24 o4; obtain ⟨A5, c5, rfl, y5, hc5⟩ := o5.room; clear o5; have B5 := B2.trans (h25.mono B2.size))
        | (at_builtin; refine wpList_app _ byteT rfl (.tmp 21) (.tmp 22) rfl w2.heap.size _ [] rfl (own_lit w2 (Nat.le_refl _)) _ A2 c2 E rfl (y2.alloc (Nat.le_refl _) _) (by simp; omega) (by simp) ?_; intro v4 w4 o4 h4; rw [List.nil_append] at o4; have h24 : Below w2.heap.size w2 w4 := ((Below.refl _ _).alloc (Nat.le_refl _) _).trans h4; clear h4))
      with_reducible refine (TK.out A5 _ c5 _ (by simp) (hL.below B5 hp) y5 (by simpa using hc5)).mono ?_
      intro e w6 h6
      by_cases hok : (Num.cU s.data.toList).isSome = true
      · obtain ⟨e6, b6⟩ := tkW_of (TQ.out.trans (if_pos hok)) h6
        subst e6
        clear h6
        have B6 := B5.trans (b6.mono B5.size)
        have s6 := B6.size
        go_wp2_with fail
        with_reducible refine (RG.out _ _ _ (hL.below ((B6.alloc s6 _).trans ((LBB.out _).mono (by simp; omega))) hp) (by refine bys_spot (LBY.out _) (by simp)) (GC.out _)).mono ?_
        intro e w9 h9
        obtain ⟨e9, b9⟩ := h9
        rw [hok] at e9
        subst e9
        have hB9 := ((B6.alloc s6 _).trans ((LBB.out _).mono (by simp; omega))).trans (b9.mono (Nat.le_trans (by simp; omega) (Below.size (LBB.out _))))
        have x0 := (b9.cell (p := ⟨w6.heap.size, 0, none⟩) (Nat.lt_of_lt_of_le (by simp) (Below.size (LBB.out _)))).trans (((LBB.out _).cell (p := ⟨w6.heap.size, 0, none⟩) (by simp)).trans (by go_simp; rfl))
        have x2 := (b9.cell (p := ⟨w6.heap.size, 2, none⟩) (Nat.lt_of_lt_of_le (by simp) (Below.size (LBB.out _)))).trans (((LBB.out _).cell (p := ⟨w6.heap.size, 2, none⟩) (by simp)).trans (by go_simp; rfl))
        have x3 := (b9.cell (p := ⟨w6.heap.size, 3, none⟩) (Nat.lt_of_lt_of_le (by simp) (Below.size (LBB.out _)))).trans (((LBB.out _).cell (p := ⟨w6.heap.size, 3, none⟩) (by simp)).trans (by go_simp; rfl))
        have x4 := (b9.cell (p := ⟨w6.heap.size, 4, none⟩) (Nat.lt_of_lt_of_le (by simp) (Below.size (LBB.out _)))).trans (((LBB.out _).cell (p := ⟨w6.heap.size, 4, none⟩) (by simp)).trans (by go_simp; rfl))
        go_wp2_with fail
        go_ret
        exact ⟨rfl, hB9⟩
      · obtain ⟨rfl, b6⟩ := tkW_of (TQ.out.trans (if_neg hok)) h6
        clear h6
        have B6 := B5.trans (b6.mono B5.size)
        have s6 := B6.size
        go_wp2_with fail
        with_reducible refine (RG.out _ _ _ (hL.below ((B6.alloc s6 _).trans ((LBB.out _).mono (by simp; omega))) hp) (by refine bys_spot (LBY.out _) (by simp)) (GC.out _)).mono ?_
        intro e w9 h9
        obtain ⟨e9, b9⟩ := h9
        rw [show (Num.cU s.data.toList).isSome = false by simpa using hok] at e9
        subst e9
        have hB9 := ((B6.alloc s6 _).trans ((LBB.out _).mono (by simp; omega))).trans (b9.mono (Nat.le_trans (by simp; omega) (Below.size (LBB.out _))))
        go_wp2_with fail
        go_ret
        exact ⟨rfl, hB9⟩
end Go.Proofs.YtbogafecgakgiaaDoor
