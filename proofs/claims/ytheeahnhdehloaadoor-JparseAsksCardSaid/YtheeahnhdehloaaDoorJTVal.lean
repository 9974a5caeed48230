/- The document's own answers for layer 7: a value. -/
import Derived.Test.YtheeahnhdehloaaDoorJTWords
import Derived.Test.YtheeahnhdehloaaDoorRec
namespace Go.Proofs.YtheeahnhdehloaaDoor
open Go.ChangeShapes Go.WideShapes Go.ChangeAt Go.RowKit Mem

/-- From one block on, below another. -/
def Btw (a b : Nat) : Nat → Prop := fun x => a ≤ x ∧ x < b
theorem KeepS.refl (S : Nat → Prop) (w : World) : KeepS S w w := fun _ _ => rfl
theorem KeepS.trans {S : Nat → Prop} {a b c : World} (h : KeepS S a b) (k : KeepS S b c) : KeepS S a c := fun p hp => (k p hp).trans (h p hp)
theorem KeepS.set {S : Nat → Prop} {w w' : World} (h : KeepS S w w') {g : Nat} (hg : ∀ b, S b → b ≠ g) (i : Nat) (u : Value) : KeepS S w (w'.setCell ⟨g, i, none⟩ u) := fun p hp =>
  (World.cell?_setCell_other _ _ _ _ (fun e => hg _ hp (by subst e; rfl))).trans (h p hp)
/-- A tree that a call made, where it ends, the error. -/
def Pv (r : Jp.R) (ws : List Jx.Wd) (l : List UInt8) (i0 p0 : Nat) (w : World) (e : Ending) (w' : World) : Prop :=
  ∃ A3 c3 A4 c4 z, e = .returned (.tuple #[.agg #[.int .i64 r.1.k, .int .i64 r.1.n, .string r.1.t, .slice A3 r.1.its.length c3, .slice A4 r.1.ks.length c4], .int .i64 z, .int .i64 (r.2.2 : Int)]) ∧
    TreeS w' (Btw w.heap.size w'.heap.size) r.1 [.int .i64 r.1.k, .int .i64 r.1.n, .string r.1.t, .slice A3 r.1.its.length c3, .slice A4 r.1.ks.length c4] ∧
    (r.2.2 = 0 → ∃ i : Nat, z = (i : Int) ∧ i0 < i ∧ p0 < r.2.1 ∧ Jp.At ws l i r.2.1) ∧ Below w.heap.size w w'
theorem pv_bad {r : Jp.R} {ws : List Jx.Wd} {l : List UInt8} {w w' : World} {er i0 p0 : Nat} {z y : Int} (h : r = Jp.bad er) (he : er ≠ 0) (hy : y = (er : Int)) (hb : Below w.heap.size w w') :
    Pv r ws l i0 p0 w (.returned (.tuple #[.agg #[.int .i64 0, .int .i64 0, .string ⟨#[]⟩, .slice none 0 0, .slice none 0 0], .int .i64 z, .int .i64 y])) w' := by
  subst h; subst hy
  exact ⟨none, 0, none, 0, z, rfl, TreeS.zero_ _ _, fun h => absurd h he, hb⟩
theorem pv_leaf {r : Jp.R} {ws : List Jx.Wd} {l : List UInt8} {w w' : World} {k n z : Int} {s : ByteArray} {i q i0 p0 : Nat} (h : r = (.mk k n s [] [], q, 0)) (hz : z = (i : Int)) (ha : Jp.At ws l i q) (hl : i0 < i) (hp : p0 < q) (hb : Below w.heap.size w w') :
    Pv r ws l i0 p0 w (.returned (.tuple #[.agg #[.int .i64 k, .int .i64 n, .string s, .slice none 0 0, .slice none 0 0], .int .i64 z, .int .i64 0])) w' := by
  subst h
  exact ⟨none, 0, none, 0, z, rfl, TreeS.leaf _ _ _ _ _, fun _ => ⟨i, hz, hl, hp, ha⟩, hb⟩
/-- A tree in a result's block, and two numbers. -/
theorem post_j3 {fn : Func} {R : Ending → World → Prop} {a : Act} {w : World} {t u v : Tmp} {g : Nat} {x0 x1 x2 x3 x4 : Value} (hf : fn.results = #[.cell t 27, .tmp u, .tmp v]) (hd : a.defers = [])
    (hg : a.tmps.getD t undef = .pointer (some ⟨g, 0, none⟩)) (h0 : w.cell? ⟨g, 0, none⟩ = some x0) (h1 : w.cell? ⟨g, 1, none⟩ = some x1) (h2 : w.cell? ⟨g, 2, none⟩ = some x2) (h3 : w.cell? ⟨g, 3, none⟩ = some x3) (h4 : w.cell? ⟨g, 4, none⟩ = some x4)
    (hR : R (.returned (.tuple #[.agg #[x0, x1, x2, x3, x4], a.tmps.getD u undef, a.tmps.getD v undef])) w) : bodyPost Tryd.prog fn R .ret a w := by
  refine bodyPost_ret ?_ hd hR
  rw [Array.getD_eq_getD_getElem?] at hg
  simp [results, hf, hg, go_sem, h0, h1, h2, h3, h4]
theorem wrong_any (k n a x : Int) (t : ByteArray) (w : World) : Calls Tryd.prog 22 #[.agg #[.int .i64 k, .int .i64 n, .string t, .int .i64 a, .int .i64 x]] w fun e w' => e = .returned (.int .i64 (if k = 0 then n else 20)) ∧ Below w.heap.size w w' := by
  by_cases hk : k = 0
  · subst hk
    rw [if_pos rfl]
    go_enter Tryd.func22, Tryd.ntmps22
    go_wp2_with fail
    go_ret
    exact ⟨rfl, by (repeat' (first | with_reducible assumption | with_reducible exact Below.refl _ _ | (with_reducible refine Below.alloc ?_ ?_ _; rotate_left; focus ((first | exact Nat.le_refl _ | (simp; done) | (simp; omega) | omega | fail))) | (with_reducible refine Below.setCell ?_ ?_ _; rotate_left; focus ((first | exact Nat.le_refl _ | (simp; done) | (simp; omega) | omega | fail))) | with_reducible refine Mem.bel_drewN ?_ _ | with_reducible refine Below.drew ?_ | (with_reducible refine Mem.bel_call (by with_reducible assumption) ?_ ?_; focus ((first | exact Nat.le_refl _ | (simp; done) | (simp; omega) | omega | fail))) | fail))⟩
  · rw [if_neg hk]
    have q : (k == 0) = false := by simpa using hk
    clear hk
    go_enter Tryd.func22, Tryd.ntmps22
    go_wp2_with fail
    go_ret
    exact ⟨rfl, by (repeat' (first | with_reducible assumption | with_reducible exact Below.refl _ _ | (with_reducible refine Below.alloc ?_ ?_ _; rotate_left; focus ((first | exact Nat.le_refl _ | (simp; done) | (simp; omega) | omega | fail))) | (with_reducible refine Below.setCell ?_ ?_ _; rotate_left; focus ((first | exact Nat.le_refl _ | (simp; done) | (simp; omega) | omega | fail))) | with_reducible refine Mem.bel_drewN ?_ _ | with_reducible refine Below.drew ?_ | (with_reducible refine Mem.bel_call (by with_reducible assumption) ?_ ?_; focus ((first | exact Nat.le_refl _ | (simp; done) | (simp; omega) | omega | fail))) | fail))⟩
theorem tak_k {l : List UInt8} {p : Nat} (hp : p ≤ l.length) (h : (Jx.tak l p).2 = 0) : 1 ≤ (Jx.tak l p).1.k := by
  rcases Jx.tak_ways l p hp with e | e | e | ⟨w, q, h0, hq, hw, ho, e⟩
  · rw [e]; show 1 ≤ 11; omega
  · rw [e] at h; cases h
  · rw [e] at h; cases h
  · rw [e]; obtain ⟨_, _, _, h4, _⟩ := ho; exact h4

/-- What the walk of a value wants of the items. -/
def ItsC (f : Nat) : Prop := ∀ (ws : List Jx.Wd) (l : List UInt8) (i p d e : Nat) (w : World) (A : Option Addr) (c : Nat), 2 * (l.length + 1 - p) + 1 < f → l.length ≤ 100000000 → Jp.At ws l i p → d ≤ 32 → (e = 2 ∨ e = 4) → ws.length ≤ c → ws.length ≤ 100000001 → Fl w w.heap.size A (wcs ws) →
  Calls Tryd.prog 31 #[.slice A ws.length c, .int .i64 (i : Int), .int .i64 (d : Int), .int .i64 (e : Int)] w
    (Pv (if (Jx.tak l p).2 = 0 ∧ (Jx.tak l p).1.k = e then (.mk (Jp.kindOf e) 0 Jp.nil_ [] [], (Jx.tak l p).1.x, 0) else Jp.pits f l p d e [] []) ws l i p w)
def ValC (f : Nat) : Prop := ∀ (ws : List Jx.Wd) (l : List UInt8) (i p d : Nat) (w : World) (A : Option Addr) (c : Nat), 2 * (l.length + 1 - p) < f → l.length ≤ 100000000 → Jp.At ws l i p → d ≤ 32 → ws.length ≤ c → ws.length ≤ 100000001 → Fl w w.heap.size A (wcs ws) →
  Calls Tryd.prog 21 #[.slice A ws.length c, .int .i64 (i : Int), .int .i64 (d : Int)] w (Pv (Jp.pval f l p d) ws l i p w)

set_option maxRecDepth 100000 in
set_option maxHeartbeats 4000000 in
theorem value_step (f : Nat) (hI : ItsC f) : ValC (f + 1) := by
  intro ws l i p d w A c hf hll ha hd hc hwl hF
  have CS := cell_set
  have hi := ha.lt
  have aw := ha.word
  have an := fun g hk => ha.next g hk
  have tk := fun g => tak_k (p := p) ha.1 g
  obtain ⟨b, o, rfl, hB, x0, x1, x2, x3, x4⟩ := fl_word hF hi
  obtain ⟨R, hR⟩ : ∃ R, R = Jp.pval (f + 1) l p d := ⟨_, rfl⟩
  rw [← hR]
  unfold Jp.pval at hR
  obtain ⟨⟨⟨K, n, T, a, x⟩, er⟩, hr⟩ : ∃ r, r = Jx.tak l p := ⟨_, rfl⟩
  rw [← hr] at aw an tk hR
  unfold Jp.wd at aw
  have b0 : Below w.heap.size w ((w.alloc (.cells #[.int .i64 0, .int .i64 0, .string ⟨#[]⟩, .slice none 0 0, .slice none 0 0] 27))) := (Below.refl _ _).alloc (Nat.le_refl _) _
  by_cases he : er = 0
  · subst he
    rw [if_pos rfl] at aw
    simp only at aw hR tk an
    rw [aw] at x0 x1 x2 x3 x4
    simp only at x0 x1 x2 x3 x4
    have k1 := tk trivial
    rw [if_neg (by simp)] at hR
    have hil : i ≤ 100000001 := by omega
    generalize hWL : ws.length = WL at *
    have HWL := Lib.hid hWL
    clear hr aw tk hWL
    by_cases h7 : K = 7
    · subst h7
      rw [if_pos rfl] at hR
      have Z := Lib.hid hR
      have AN := Lib.hid (an trivial (by decide))
      clear hR an hI hF ha
      go_enter Tryd.func21, Tryd.ntmps21
      go_wp2_with fail
      try simp only [Exit.inBlock, Exit.then]
      refine post_j3 (x0 := .int .i64 2) (x1 := .int .i64 n) (x2 := .string ⟨#[]⟩) (x3 := (.slice none 0 0)) (x4 := (.slice none 0 0)) rfl rfl rfl (by go_simp) (by go_simp) (by go_simp) (by go_simp) (by go_simp) ?_
      exact pv_leaf Z.out (by push_cast; omega) AN.out.1 (by omega) AN.out.2 (by (repeat' (first | with_reducible assumption | with_reducible exact Below.refl _ _ | (with_reducible refine Below.alloc ?_ ?_ _; rotate_left; focus ((first | exact Nat.le_refl _ | (simp; done) | (simp; omega) | omega | fail))) | (with_reducible refine Below.setCell ?_ ?_ _; rotate_left; focus ((first | exact Nat.le_refl _ | (simp; done) | (simp; omega) | omega | fail))) | with_reducible refine Mem.bel_drewN ?_ _ | with_reducible refine Below.drew ?_ | (with_reducible refine Mem.bel_call (by with_reducible assumption) ?_ ?_; focus ((first | exact Nat.le_refl _ | (simp; done) | (simp; omega) | omega | fail))) | fail)))
    · have q7 : ((K : Int) == 7) = false := by rw [beq_eq_false_iff_ne]; omega
      rw [if_neg h7] at hR
      by_cases h8 : K = 8
      · subst h8
        rw [if_pos rfl] at hR
        have Z := Lib.hid hR
        have AN := Lib.hid (an trivial (by decide))
        clear hR an hI hF ha
        go_enter Tryd.func21, Tryd.ntmps21
        go_wp2_with fail
        try simp only [Exit.inBlock, Exit.then]
        refine post_j3 (x0 := .int .i64 1) (x1 := .int .i64 0) (x2 := .string ⟨#[]⟩) (x3 := (.slice none 0 0)) (x4 := (.slice none 0 0)) rfl rfl rfl (by go_simp) (by go_simp) (by go_simp) (by go_simp) (by go_simp) ?_
        exact pv_leaf Z.out (by push_cast; omega) AN.out.1 (by omega) AN.out.2 (by (repeat' (first | with_reducible assumption | with_reducible exact Below.refl _ _ | (with_reducible refine Below.alloc ?_ ?_ _; rotate_left; focus ((first | exact Nat.le_refl _ | (simp; done) | (simp; omega) | omega | fail))) | (with_reducible refine Below.setCell ?_ ?_ _; rotate_left; focus ((first | exact Nat.le_refl _ | (simp; done) | (simp; omega) | omega | fail))) | with_reducible refine Mem.bel_drewN ?_ _ | with_reducible refine Below.drew ?_ | (with_reducible refine Mem.bel_call (by with_reducible assumption) ?_ ?_; focus ((first | exact Nat.le_refl _ | (simp; done) | (simp; omega) | omega | fail))) | fail)))
      · have q8 : ((K : Int) == 8) = false := by rw [beq_eq_false_iff_ne]; omega
        rw [if_neg h8] at hR
        by_cases h9 : K = 9
        · subst h9
          rw [if_pos rfl] at hR
          have Z := Lib.hid hR
          have AN := Lib.hid (an trivial (by decide))
          clear hR an hI hF ha
          go_enter Tryd.func21, Tryd.ntmps21
          go_wp2_with fail
          try simp only [Exit.inBlock, Exit.then]
          refine post_j3 (x0 := .int .i64 3) (x1 := .int .i64 n) (x2 := .string ⟨#[]⟩) (x3 := (.slice none 0 0)) (x4 := (.slice none 0 0)) rfl rfl rfl (by go_simp) (by go_simp) (by go_simp) (by go_simp) (by go_simp) ?_
          exact pv_leaf Z.out (by push_cast; omega) AN.out.1 (by omega) AN.out.2 (by (repeat' (first | with_reducible assumption | with_reducible exact Below.refl _ _ | (with_reducible refine Below.alloc ?_ ?_ _; rotate_left; focus ((first | exact Nat.le_refl _ | (simp; done) | (simp; omega) | omega | fail))) | (with_reducible refine Below.setCell ?_ ?_ _; rotate_left; focus ((first | exact Nat.le_refl _ | (simp; done) | (simp; omega) | omega | fail))) | with_reducible refine Mem.bel_drewN ?_ _ | with_reducible refine Below.drew ?_ | (with_reducible refine Mem.bel_call (by with_reducible assumption) ?_ ?_; focus ((first | exact Nat.le_refl _ | (simp; done) | (simp; omega) | omega | fail))) | fail)))
        · have q9 : ((K : Int) == 9) = false := by rw [beq_eq_false_iff_ne]; omega
          rw [if_neg h9] at hR
          by_cases h10 : K = 10
          · subst h10
            rw [if_pos rfl] at hR
            have Z := Lib.hid hR
            have AN := Lib.hid (an trivial (by decide))
            clear hR an hI hF ha
            go_enter Tryd.func21, Tryd.ntmps21
            go_wp2_with fail
            try simp only [Exit.inBlock, Exit.then]
            refine post_j3 (x0 := .int .i64 4) (x1 := .int .i64 0) (x2 := .string ⟨T.toArray⟩) (x3 := (.slice none 0 0)) (x4 := (.slice none 0 0)) rfl rfl rfl (by go_simp) (by go_simp) (by go_simp) (by go_simp) (by go_simp) ?_
            exact pv_leaf Z.out (by push_cast; omega) AN.out.1 (by omega) AN.out.2 (by (repeat' (first | with_reducible assumption | with_reducible exact Below.refl _ _ | (with_reducible refine Below.alloc ?_ ?_ _; rotate_left; focus ((first | exact Nat.le_refl _ | (simp; done) | (simp; omega) | omega | fail))) | (with_reducible refine Below.setCell ?_ ?_ _; rotate_left; focus ((first | exact Nat.le_refl _ | (simp; done) | (simp; omega) | omega | fail))) | with_reducible refine Mem.bel_drewN ?_ _ | with_reducible refine Below.drew ?_ | (with_reducible refine Mem.bel_call (by with_reducible assumption) ?_ ?_; focus ((first | exact Nat.le_refl _ | (simp; done) | (simp; omega) | omega | fail))) | fail)))
          · have q10 : ((K : Int) == 10) = false := by rw [beq_eq_false_iff_ne]; omega
            rw [if_neg h10] at hR
            by_cases h13 : K = 1 ∨ K = 3
            · rw [if_pos h13] at hR
              have an1 := (an trivial (by omega))
              by_cases h32 : d = 32
              · subst h32
                rw [if_pos rfl] at hR
                have Z := Lib.hid hR
                clear hR an an1 hI hF ha h7 h8 h9 h10
                rcases h13 with rfl | rfl
                all_goals
                  go_enter Tryd.func21, Tryd.ntmps21
                  go_wp2_with fail
                  try simp only [Exit.inBlock, Exit.then]
                  refine post_j3 (x0 := .int .i64 0) (x1 := .int .i64 0) (x2 := .string ⟨#[]⟩) (x3 := (.slice none 0 0)) (x4 := (.slice none 0 0)) rfl rfl rfl (by go_simp) (by go_simp) (by go_simp) (by go_simp) (by go_simp) ?_
                  exact pv_bad Z.out (by decide) rfl (by (repeat' (first | with_reducible assumption | with_reducible exact Below.refl _ _ | (with_reducible refine Below.alloc ?_ ?_ _; rotate_left; focus ((first | exact Nat.le_refl _ | (simp; done) | (simp; omega) | omega | fail))) | (with_reducible refine Below.setCell ?_ ?_ _; rotate_left; focus ((first | exact Nat.le_refl _ | (simp; done) | (simp; omega) | omega | fail))) | with_reducible refine Mem.bel_drewN ?_ _ | with_reducible refine Below.drew ?_ | (with_reducible refine Mem.bel_call (by with_reducible assumption) ?_ ?_; focus ((first | exact Nat.le_refl _ | (simp; done) | (simp; omega) | omega | fail))) | fail)))
              · rw [if_neg h32] at hR
                have qd : ((d : Int) == 32) = false := by rw [beq_eq_false_iff_ne]; omega
                have IT := hI ws l (i + 1) x (d + 1) (K + 1)
                rw [HWL.out] at IT
                have W2 : Below w.heap.size w ((w.alloc (.cells #[.int .i64 0, .int .i64 0, .string ⟨#[]⟩, .slice none 0 0, .slice none 0 0] 27)).alloc (.cells #[.int .i64 (K : Int), .int .i64 n, .string ⟨T.toArray⟩, .int .i64 (a : Int), .int .i64 (x : Int)] 51)) := b0.alloc (by simp) _
                have sz2 : ((w.alloc (.cells #[.int .i64 0, .int .i64 0, .string ⟨#[]⟩, .slice none 0 0, .slice none 0 0] 27)).alloc (.cells #[.int .i64 (K : Int), .int .i64 n, .string ⟨T.toArray⟩, .int .i64 (a : Int), .int .i64 (x : Int)] 51)).heap.size = w.heap.size + 2 := by simp
                have IT1 := IT _ (some ⟨b, o, none⟩) c (by have := an1.2; have := an1.1.1; omega) hll an1.1 (by omega) (by omega) hc hwl ((hF.below W2).more (by rw [sz2]; omega))
                rw [← hR] at IT1
                have ITC : Hid (∀ z1 z2 z3, z1 = ((i + 1 : Nat) : Int) → z2 = ((d + 1 : Nat) : Int) → z3 = ((K + 1 : Nat) : Int) → Calls Tryd.prog 31 #[.slice (some ⟨b, o, none⟩) WL c, .int .i64 z1, .int .i64 z2, .int .i64 z3] ((w.alloc (.cells #[.int .i64 0, .int .i64 0, .string ⟨#[]⟩, .slice none 0 0, .slice none 0 0] 27)).alloc (.cells #[.int .i64 (K : Int), .int .i64 n, .string ⟨T.toArray⟩, .int .i64 (a : Int), .int .i64 (x : Int)] 51)) (Pv R ws l (i + 1) x ((w.alloc (.cells #[.int .i64 0, .int .i64 0, .string ⟨#[]⟩, .slice none 0 0, .slice none 0 0] 27)).alloc (.cells #[.int .i64 (K : Int), .int .i64 n, .string ⟨T.toArray⟩, .int .i64 (a : Int), .int .i64 (x : Int)] 51)))) := fun z1 z2 z3 e1 e2 e3 => by subst e1 e2 e3; exact IT1
                have SZ2 := Lib.hid sz2
                have PX := an1.2
                have W2H := Lib.hid W2
                have q13 : ((K : Int) == 1) = true ∨ ((K : Int) == 1) = false ∧ ((K : Int) == 3) = true := by rcases h13 with rfl | rfl <;> simp
                clear IT IT1 an an1 hI hF ha hR h7 h8 h9 h10 h13 h32 sz2 W2
                have kb : K ≤ 3 := by rcases q13 with h | ⟨_, h⟩ <;> rw [beq_iff_eq] at h <;> omega
                rcases q13 with q1 | ⟨q1, q3⟩
                all_goals
                  go_enter Tryd.func21, Tryd.ntmps21
                  go_wp2_with fail
                  with_reducible refine (ITC.out _ _ _ (by push_cast; omega) (by push_cast; omega) (by push_cast; omega)).mono ?_
                  rintro e w3 ⟨A3, c3, A4, c4, z, rfl, tr, nx, b3⟩
                  have hOwn := Nat.lt_of_lt_of_le (n := w.heap.size) (by first | exact Nat.le_refl _ | assumption | (simp; done) | (simp; omega) | omega) (Below.size b3)
                  have hOwn1 := Nat.ne_of_gt hOwn
                  have hOwn2 := Nat.ne_of_lt hOwn
                  have hOwn := (Below.cell b3 (p := ⟨w.heap.size, 0, none⟩) (by first | exact Nat.le_refl _ | assumption | (simp; done) | (simp; omega) | omega)).trans (by go_simp; rfl)
                  have hOwn := (Below.cell b3 (p := ⟨w.heap.size, 1, none⟩) (by first | exact Nat.le_refl _ | assumption | (simp; done) | (simp; omega) | omega)).trans (by go_simp; rfl)
                  have hOwn := (Below.cell b3 (p := ⟨w.heap.size, 2, none⟩) (by first | exact Nat.le_refl _ | assumption | (simp; done) | (simp; omega) | omega)).trans (by go_simp; rfl)
                  have hOwn := (Below.cell b3 (p := ⟨w.heap.size, 3, none⟩) (by first | exact Nat.le_refl _ | assumption | (simp; done) | (simp; omega) | omega)).trans (by go_simp; rfl)
                  have hOwn := (Below.cell b3 (p := ⟨w.heap.size, 4, none⟩) (by first | exact Nat.le_refl _ | assumption | (simp; done) | (simp; omega) | omega)).trans (by go_simp; rfl)
                  have hOwn := (Below.frozen b3 (p := ⟨w.heap.size, 0, none⟩) (by first | exact Nat.le_refl _ | assumption | (simp; done) | (simp; omega) | omega)).trans (by go_simp; rfl)
                  have hOwn := (Below.frozen b3 (p := ⟨w.heap.size, 1, none⟩) (by first | exact Nat.le_refl _ | assumption | (simp; done) | (simp; omega) | omega)).trans (by go_simp; rfl)
                  have hOwn := (Below.frozen b3 (p := ⟨w.heap.size, 2, none⟩) (by first | exact Nat.le_refl _ | assumption | (simp; done) | (simp; omega) | omega)).trans (by go_simp; rfl)
                  have hOwn := (Below.frozen b3 (p := ⟨w.heap.size, 3, none⟩) (by first | exact Nat.le_refl _ | assumption | (simp; done) | (simp; omega) | omega)).trans (by go_simp; rfl)
                  have hOwn := (Below.frozen b3 (p := ⟨w.heap.size, 4, none⟩) (by first | exact Nat.le_refl _ | assumption | (simp; done) | (simp; omega) | omega)).trans (by go_simp; rfl)
                  go_wp2_with fail
                  try simp only [Exit.inBlock, Exit.then]
                  refine post_j3 (x0 := .int .i64 R.1.k) (x1 := .int .i64 R.1.n) (x2 := .string R.1.t) (x3 := (.slice A3 R.1.its.length c3)) (x4 := (.slice A4 R.1.ks.length c4)) rfl rfl rfl (by go_simp) (by go_simp) (by go_simp) (by go_simp) (by go_simp) ?_
                  refine ⟨A3, c3, A4, c4, z, rfl, TreeS.keep ?_ ?_ tr, (fun h => by obtain ⟨i', h1, h2, h3, h4⟩ := nx h; exact ⟨i', h1, by omega, by omega, h4⟩), by (repeat' (first | with_reducible assumption | with_reducible exact Below.refl _ _ | (with_reducible refine Below.alloc ?_ ?_ _; rotate_left; focus ((first | exact Nat.le_refl _ | (simp; done) | (simp; omega) | omega | fail))) | (with_reducible refine Below.setCell ?_ ?_ _; rotate_left; focus ((first | exact Nat.le_refl _ | (simp; done) | (simp; omega) | omega | fail))) | with_reducible refine Mem.bel_drewN ?_ _ | with_reducible refine Below.drew ?_ | (with_reducible refine Mem.bel_call (by with_reducible assumption) ?_ ?_; focus ((first | exact Nat.le_refl _ | (simp; done) | (simp; omega) | omega | fail))) | fail))⟩
                  · rw [SZ2.out]
                    repeat (refine KeepS.set ?_ (fun b hb => by have := hb.1; omega) _ _)
                    exact KeepS.refl _ _
                  · intro b hb
                    have h1 := hb.1
                    rw [SZ2.out] at h1
                    exact ⟨by omega, by simpa using hb.2⟩
            · rw [if_neg h13] at hR
              have Z := Lib.hid hR
              have WR := Lib.hid (wrong_any (K : Int) n (a : Int) (x : Int) ⟨T.toArray⟩)
              have q0 : ((K : Int) = 0) = False := by simp; omega
              rw [if_neg (by omega)] at WR
              have q1 : ((K : Int) == 1) = false := by rw [beq_eq_false_iff_ne]; omega
              have q3 : ((K : Int) == 3) = false := by rw [beq_eq_false_iff_ne]; omega
              clear hR an hI hF ha h7 h8 h9 h10 h13 q0
              go_enter Tryd.func21, Tryd.ntmps21
              go_wp2_with fail
              with_reducible refine (WR.out _).mono ?_
              rintro e w3 ⟨rfl, b3⟩
              have hOwn := Nat.lt_of_lt_of_le (n := w.heap.size) (by first | exact Nat.le_refl _ | assumption | (simp; done) | (simp; omega) | omega) (Below.size b3)
              have hOwn1 := Nat.ne_of_gt hOwn
              have hOwn2 := Nat.ne_of_lt hOwn
              have hOwn := (Below.cell b3 (p := ⟨w.heap.size, 0, none⟩) (by first | exact Nat.le_refl _ | assumption | (simp; done) | (simp; omega) | omega)).trans (by go_simp; rfl)
              have hOwn := (Below.cell b3 (p := ⟨w.heap.size, 1, none⟩) (by first | exact Nat.le_refl _ | assumption | (simp; done) | (simp; omega) | omega)).trans (by go_simp; rfl)
              have hOwn := (Below.cell b3 (p := ⟨w.heap.size, 2, none⟩) (by first | exact Nat.le_refl _ | assumption | (simp; done) | (simp; omega) | omega)).trans (by go_simp; rfl)
              have hOwn := (Below.cell b3 (p := ⟨w.heap.size, 3, none⟩) (by first | exact Nat.le_refl _ | assumption | (simp; done) | (simp; omega) | omega)).trans (by go_simp; rfl)
              have hOwn := (Below.cell b3 (p := ⟨w.heap.size, 4, none⟩) (by first | exact Nat.le_refl _ | assumption | (simp; done) | (simp; omega) | omega)).trans (by go_simp; rfl)
              have hOwn := (Below.frozen b3 (p := ⟨w.heap.size, 0, none⟩) (by first | exact Nat.le_refl _ | assumption | (simp; done) | (simp; omega) | omega)).trans (by go_simp; rfl)
              have hOwn := (Below.frozen b3 (p := ⟨w.heap.size, 1, none⟩) (by first | exact Nat.le_refl _ | assumption | (simp; done) | (simp; omega) | omega)).trans (by go_simp; rfl)
              have hOwn := (Below.frozen b3 (p := ⟨w.heap.size, 2, none⟩) (by first | exact Nat.le_refl _ | assumption | (simp; done) | (simp; omega) | omega)).trans (by go_simp; rfl)
              have hOwn := (Below.frozen b3 (p := ⟨w.heap.size, 3, none⟩) (by first | exact Nat.le_refl _ | assumption | (simp; done) | (simp; omega) | omega)).trans (by go_simp; rfl)
              have hOwn := (Below.frozen b3 (p := ⟨w.heap.size, 4, none⟩) (by first | exact Nat.le_refl _ | assumption | (simp; done) | (simp; omega) | omega)).trans (by go_simp; rfl)
              go_wp2_with fail
              try simp only [Exit.inBlock, Exit.then]
              refine post_j3 (x0 := .int .i64 0) (x1 := .int .i64 0) (x2 := .string ⟨#[]⟩) (x3 := (.slice none 0 0)) (x4 := (.slice none 0 0)) rfl rfl rfl (by go_simp) (by go_simp) (by go_simp) (by go_simp) (by go_simp) ?_
              exact pv_bad Z.out (by decide) rfl (by (repeat' (first | with_reducible assumption | with_reducible exact Below.refl _ _ | (with_reducible refine Below.alloc ?_ ?_ _; rotate_left; focus ((first | exact Nat.le_refl _ | (simp; done) | (simp; omega) | omega | fail))) | (with_reducible refine Below.setCell ?_ ?_ _; rotate_left; focus ((first | exact Nat.le_refl _ | (simp; done) | (simp; omega) | omega | fail))) | with_reducible refine Mem.bel_drewN ?_ _ | with_reducible refine Below.drew ?_ | (with_reducible refine Mem.bel_call (by with_reducible assumption) ?_ ?_; focus ((first | exact Nat.le_refl _ | (simp; done) | (simp; omega) | omega | fail))) | fail)))
  · rw [if_neg he] at aw
    simp only at hR
    rw [aw] at x0 x1 x2 x3 x4
    simp only at x0 x1 x2 x3 x4
    rw [if_pos he] at hR
    have Z := Lib.hid hR
    have WR := Lib.hid (wrong_any 0 (er : Int) 0 0 ⟨#[]⟩)
    rw [if_pos rfl] at WR
    have HE := Lib.hid he
    have HWL : Hid True := trivial
    generalize ws.length = WL at *
    clear hR an hI hF ha aw hr he tk
    go_enter Tryd.func21, Tryd.ntmps21
    go_wp2_with fail
    with_reducible refine (WR.out _).mono ?_
    rintro e w3 ⟨rfl, b3⟩
    have hOwn := Nat.lt_of_lt_of_le (n := w.heap.size) (by first | exact Nat.le_refl _ | assumption | (simp; done) | (simp; omega) | omega) (Below.size b3)
    have hOwn1 := Nat.ne_of_gt hOwn
    have hOwn2 := Nat.ne_of_lt hOwn
    have hOwn := (Below.cell b3 (p := ⟨w.heap.size, 0, none⟩) (by first | exact Nat.le_refl _ | assumption | (simp; done) | (simp; omega) | omega)).trans (by go_simp; rfl)
    have hOwn := (Below.cell b3 (p := ⟨w.heap.size, 1, none⟩) (by first | exact Nat.le_refl _ | assumption | (simp; done) | (simp; omega) | omega)).trans (by go_simp; rfl)
    have hOwn := (Below.cell b3 (p := ⟨w.heap.size, 2, none⟩) (by first | exact Nat.le_refl _ | assumption | (simp; done) | (simp; omega) | omega)).trans (by go_simp; rfl)
    have hOwn := (Below.cell b3 (p := ⟨w.heap.size, 3, none⟩) (by first | exact Nat.le_refl _ | assumption | (simp; done) | (simp; omega) | omega)).trans (by go_simp; rfl)
    have hOwn := (Below.cell b3 (p := ⟨w.heap.size, 4, none⟩) (by first | exact Nat.le_refl _ | assumption | (simp; done) | (simp; omega) | omega)).trans (by go_simp; rfl)
    have hOwn := (Below.frozen b3 (p := ⟨w.heap.size, 0, none⟩) (by first | exact Nat.le_refl _ | assumption | (simp; done) | (simp; omega) | omega)).trans (by go_simp; rfl)
    have hOwn := (Below.frozen b3 (p := ⟨w.heap.size, 1, none⟩) (by first | exact Nat.le_refl _ | assumption | (simp; done) | (simp; omega) | omega)).trans (by go_simp; rfl)
    have hOwn := (Below.frozen b3 (p := ⟨w.heap.size, 2, none⟩) (by first | exact Nat.le_refl _ | assumption | (simp; done) | (simp; omega) | omega)).trans (by go_simp; rfl)
    have hOwn := (Below.frozen b3 (p := ⟨w.heap.size, 3, none⟩) (by first | exact Nat.le_refl _ | assumption | (simp; done) | (simp; omega) | omega)).trans (by go_simp; rfl)
    have hOwn := (Below.frozen b3 (p := ⟨w.heap.size, 4, none⟩) (by first | exact Nat.le_refl _ | assumption | (simp; done) | (simp; omega) | omega)).trans (by go_simp; rfl)
    go_wp2_with fail
    try simp only [Exit.inBlock, Exit.then]
    refine post_j3 (x0 := .int .i64 0) (x1 := .int .i64 0) (x2 := .string ⟨#[]⟩) (x3 := (.slice none 0 0)) (x4 := (.slice none 0 0)) rfl rfl rfl (by go_simp) (by go_simp) (by go_simp) (by go_simp) (by go_simp) ?_
    exact pv_bad Z.out HE.out rfl (by (repeat' (first | with_reducible assumption | with_reducible exact Below.refl _ _ | (with_reducible refine Below.alloc ?_ ?_ _; rotate_left; focus ((first | exact Nat.le_refl _ | (simp; done) | (simp; omega) | omega | fail))) | (with_reducible refine Below.setCell ?_ ?_ _; rotate_left; focus ((first | exact Nat.le_refl _ | (simp; done) | (simp; omega) | omega | fail))) | with_reducible refine Mem.bel_drewN ?_ _ | with_reducible refine Below.drew ?_ | (with_reducible refine Mem.bel_call (by with_reducible assumption) ?_ ?_; focus ((first | exact Nat.le_refl _ | (simp; done) | (simp; omega) | omega | fail))) | fail)))
end Go.Proofs.YtheeahnhdehloaaDoor
/- What stands while a list's, or an object's, items are gathered. -/
namespace Go.Proofs.YtheeahnhdehloaaDoor
open Go.ChangeShapes Go.WideShapes Go.ChangeAt Go.RowKit Mem

theorem jrecT : RecT Tryd.prog 24 27 5 (.agg #[.int .i64 0, .int .i64 0, .string ⟨#[]⟩, .slice none 0 0, .slice none 0 0]) 80 := ⟨by kernel_rfl, by kernel_rfl, rfl, by decide, by decide⟩
theorem srecT : RecT Tryd.prog 25 9 1 (.string ⟨#[]⟩) 16 := ⟨by kernel_rfl, by kernel_rfl, rfl, by decide, by decide⟩

/-- A row of the call's own as a place and a list of cells, in blocks of the call's own. -/
theorem ownR_fls {w : World} {base : Nat} {e : TypeId} {s : Nat} {v : Value} {n : Nat} {xs : List Value} (h : OwnR w base e s v n xs) : ∃ A c, v = .slice A n c ∧ n ≤ c ∧ FlS w (Btw base w.heap.size) A xs := by
  by_cases hl : n = 0
  · subst hl
    have hx : xs = [] := List.length_eq_zero_iff.1 (by have := h.1; simpa using this)
    rcases h.2 with ⟨rfl, _⟩ | ⟨g, cap, cur, rfl, _⟩
    · exact ⟨_, _, rfl, Nat.zero_le _, .inl hx⟩
    · exact ⟨_, _, rfl, Nat.zero_le _, .inl hx⟩
  · obtain ⟨g, cap, hv, hbg, hlt⟩ := World.ownsRow.form h (Nat.pos_of_ne_zero hl)
    subst hv
    refine ⟨_, _, rfl, ?_, .inr ⟨g, 0, rfl, ⟨hbg, hlt⟩, fun k hk => ?_⟩⟩
    · rcases h.2 with ⟨e, h0⟩ | ⟨g, cap, cur, e, _, _, hc, _⟩
      · omega
      · injection e with _ _ e
        omega
    · rw [show 0 + k = k by omega]
      exact World.ownsRow.cellAt h k (by rw [← h.1]; exact hk)
/-- A row of trees of the call's own is a row of trees. -/
theorem trees_fl {w : World} {S S' : Nat → Prop} {l : List J} {q : List (List Value)} {A : Option Addr} (h : TreesS w S l q) (hf : FlS w S' A q.flatten) (hS : ∀ b, S b → S' b) : RowS w S' l A := by
  have h' := TreesS.keep (w := w) (w' := w) (fun _ _ => rfl) hS h
  rcases hf with hf | ⟨b, off, rfl, hb, hc⟩
  · have := h.flat
    rw [hf] at this
    cases l with
    | nil => exact RowS.nil_ _ _ _
    | cons x r => simp at this
  · exact h'.row hb hc

def Free (w wr : World) (v3 v4 : Value) : Nat → Prop := fun b => w.heap.size + 2 ≤ b ∧ b < wr.heap.size ∧ some b ≠ v3.ownBlock ∧ some b ≠ v4.ownBlock
structure St (w wr : World) (kind : Int) (ks : List ByteArray) (js : List J) (css : List (List Value)) (v3 v4 : Value) : Prop where
  o3 : OwnR wr (w.heap.size + 2) 27 5 v3 js.length css.flatten
  o4 : OwnR wr (w.heap.size + 2) 9 1 v4 ks.length (ks.map Value.string)
  tr : TreesS wr (Free w wr v3 v4) js css
  ap : ∀ g, some g = v3.ownBlock → some g ≠ v4.ownBlock
  bk : B5 wr (w.heap.size + 1) 27 (.int .i64 kind) (.int .i64 0) (.string ⟨#[]⟩) v3 v4
  bl : Below (w.heap.size + 1) (w.alloc (.cells #[.int .i64 0, .int .i64 0, .string ⟨#[]⟩, .slice none 0 0, .slice none 0 0] 27)) wr
section
variable {w wr w' : World} {kind : Int} {ks : List ByteArray} {js : List J} {css : List (List Value)} {v3 v4 v3' v4' : Value}
theorem St.lt (h : St w wr kind ks js css v3 v4) : w.heap.size + 2 ≤ wr.heap.size := h.bk.lt
theorem St.below (h : St w wr kind ks js css v3 v4) (hb : Below wr.heap.size wr w') : St w w' kind ks js css v3 v4 where
  o3 := h.o3.below hb
  o4 := h.o4.below hb
  tr := h.tr.keep (fun p hp => hb.cell hp.2.1) (fun b hb' => ⟨hb'.1, Nat.lt_of_lt_of_le hb'.2.1 hb.size, hb'.2.2⟩)
  ap := h.ap
  bk := h.bk.below hb h.bk.lt
  bl := h.bl.trans (hb.mono (by have := h.lt; omega))
theorem St.drewN (h : St w wr kind ks js css v3 v4) (m : Nat) : St w (wr.drewN m) kind ks js css v3 v4 := h.below (bel_drewN (Below.refl _ _) m)
theorem St.alloc (h : St w wr kind ks js css v3 v4) (o : Obj) : St w (wr.alloc o) kind ks js css v3 v4 := h.below ((Below.refl _ _).alloc (Nat.le_refl _) o)
theorem own_lt {base : Nat} {e : TypeId} {s : Nat} {v : Value} {n : Nat} {xs : List Value} (h : OwnR wr base e s v n xs) (g : Nat) (hg : some g = v.ownBlock) : g < wr.heap.size := (h.base_le hg).2
/-- A key more. -/
theorem St.key (h : St w wr kind ks js css v3 v4) {k : ByteArray} (o4' : OwnR w' (w.heap.size + 2) 9 1 v4' (ks.length + 1) (ks.map Value.string ++ [.string k])) (hg : wr.grownBy w' v4.ownBlock)
    (hbl : Below (w.heap.size + 2) wr w') (ob : v4'.ownBlock = v4.ownBlock ∨ ∃ n, v4'.ownBlock = some n ∧ wr.heap.size ≤ n) : St w (w'.setCell ⟨w.heap.size + 1, 4, none⟩ v4') kind (ks ++ [k]) js css v3 v4' := by
  have hne : ∀ g, g < wr.heap.size → some g ≠ v4.ownBlock → some g ≠ v4'.ownBlock := fun g hl hn => by
    rcases ob with e | ⟨n, e, hle⟩
    · rw [e]; exact hn
    · rw [e]; intro hh; injection hh; omega
  refine ⟨?_, ?_, ?_, ?_, ?_, ?_⟩
  · exact (h.o3.keepb (w' := w') fun g hg' => hg.block g (own_lt h.o3 g hg') (h.ap g hg')).set (by show w.heap.size + 1 < w.heap.size + 2; omega) _
  · have := o4'.set (p := ⟨w.heap.size + 1, 4, none⟩) (by show w.heap.size + 1 < w.heap.size + 2; omega) v4'
    rw [List.length_append, List.map_append]; exact this
  · refine h.tr.keep (fun p hp => ?_) (fun b hb => ⟨hb.1, by have := hg.size; simp [World.setCell]; have := hb.2.1; omega, hb.2.2.1, hne b hb.2.1 hb.2.2.2⟩)
    exact (World.cell?_setCell_other _ _ _ _ (fun e => by have h1 := hp.1; have h2 := congrArg Addr.block e; simp only at h2; omega)).trans (World.cell?_of_block (hg.block p.block hp.2.1 hp.2.2.2))
  · exact fun g hg' => hne g (own_lt h.o3 g hg') (h.ap g hg')
  · exact B5.set4 (h.bk.below hbl (by omega)) v4'
  · exact (h.bl.trans (hbl.mono (by omega))).setCell (by show w.heap.size + 1 ≤ w.heap.size + 1; omega) _
/-- An item more. -/
theorem St.item (h : St w wr kind ks js css v3 v4) {j : J} {cs : List Value} (o3' : OwnR w' (w.heap.size + 2) 27 5 v3' (js.length + 1) (css.flatten ++ cs)) (hg : wr.grownBy w' v3.ownBlock)
    (hbl : Below (w.heap.size + 2) wr w') (ob : v3'.ownBlock = v3.ownBlock ∨ ∃ n, v3'.ownBlock = some n ∧ wr.heap.size ≤ n) (ht : TreeS wr (Free w wr v3 v4) j cs) : St w (w'.setCell ⟨w.heap.size + 1, 3, none⟩ v3') kind ks (js ++ [j]) (css ++ [cs]) v3' v4 := by
  have hne : ∀ g, g < wr.heap.size → some g ≠ v3.ownBlock → some g ≠ v3'.ownBlock := fun g hl hn => by
    rcases ob with e | ⟨n, e, hle⟩
    · rw [e]; exact hn
    · rw [e]; intro hh; injection hh; omega
  have hne4 : ∀ g, some g = v4.ownBlock → some g ≠ v3.ownBlock := fun g hg' hn => h.ap g hn hg'
  refine ⟨?_, ?_, ?_, ?_, ?_, ?_⟩
  · have := o3'.set (p := ⟨w.heap.size + 1, 3, none⟩) (by show w.heap.size + 1 < w.heap.size + 2; omega) v3'
    rw [List.length_append, List.flatten_append]; simpa using this
  · exact (h.o4.keepb (w' := w') fun g hg' => hg.block g (own_lt h.o4 g hg') (hne4 g hg')).set (by show w.heap.size + 1 < w.heap.size + 2; omega) _
  · refine TreesS.keep (fun p hp => ?_) (fun b hb => ⟨hb.1, by have := hg.size; simp [World.setCell]; have := hb.2.1; omega, hne b hb.2.1 hb.2.2.1, hb.2.2.2⟩) (h.tr.snoc ht)
    exact (World.cell?_setCell_other _ _ _ _ (fun e => by have h1 := hp.1; have h2 := congrArg Addr.block e; simp only at h2; omega)).trans (World.cell?_of_block (hg.block p.block hp.2.1 hp.2.2.1))
  · intro g hg' e
    rcases ob with e' | ⟨n, e', hle⟩
    · exact h.ap g (hg'.trans e') e
    · have := own_lt h.o4 g e
      rw [e'] at hg'; injection hg'; omega
  · exact B5.set3 (h.bk.below hbl (by omega)) v3'
  · exact (h.bl.trans (hbl.mono (by omega))).setCell (by show w.heap.size + 1 ≤ w.heap.size + 1; omega) _
/-- What was gathered, as a tree. -/
theorem St.tree (h : St w wr kind ks js css v3 v4) (hj : js.length ≤ 1000000000) (hk : ks.length ≤ 1000000000) : ∃ A3 c3 A4 c4, v3 = .slice A3 js.length c3 ∧ v4 = .slice A4 ks.length c4 ∧
    TreeS wr (Btw (w.heap.size + 2) wr.heap.size) (.mk kind 0 ⟨#[]⟩ js ks) [.int .i64 kind, .int .i64 0, .string ⟨#[]⟩, .slice A3 js.length c3, .slice A4 ks.length c4] := by
  obtain ⟨A3, c3, e3, h3, f3⟩ := ownR_fls h.o3
  obtain ⟨A4, c4, e4, h4, f4⟩ := ownR_fls h.o4
  exact ⟨A3, c3, A4, c4, e3, e4, TreeS.mk_ ⟨h3, by unfold maxLen; omega⟩ ⟨h4, by unfold maxLen; omega⟩ (trees_fl h.tr f3 (fun b hb => ⟨hb.1, hb.2.1⟩)) f4⟩
theorem St.start (kind : Int) (e : wr = (w.alloc (.cells #[.int .i64 0, .int .i64 0, .string ⟨#[]⟩, .slice none 0 0, .slice none 0 0] 27)).alloc (.cells #[.int .i64 kind, .int .i64 0, .string ⟨#[]⟩, .slice none 0 0, .slice none 0 0] 27)) :
    St w wr kind [] [] [] (.slice none 0 0) (.slice none 0 0) := by
  subst e
  refine ⟨OwnR.none_ _ _ _ _, OwnR.none_ _ _ _ _, trivial, fun g hg => ?_, B5.newat (by simp), (Below.refl _ _).alloc (by simp) _⟩
  simp [Value.ownBlock] at hg
end
end Go.Proofs.YtheeahnhdehloaaDoor
