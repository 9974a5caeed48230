/- Joined by tools/bundle.py: DC7 DC8 VEx DEx DWk DC9. -/
import Derived.Test.YthfoomobicbcpaaGreatDoorZ4
import Derived.Test.YthfoomobicbcpaaGreatDoorZ5
import Derived.Test.YthfoomobicbcpaaGreatDoorZ6
import Derived.Test.YthfoomobicbcpaaGreatDoorZ12
import Derived.Test.YthfoomobicbcpaaGreatDoorZ13
import Derived.Test.YthfoomobicbcpaaGreatDoorZ14
import Derived.Test.YthfoomobicbcpaaGreatDoorZ17
import Derived.Test.YthfoomobicbcpaaGreatDoorZ0
set_option maxRecDepth 100000
set_option maxHeartbeats 16000000
namespace Go.Proofs.YthfoomobicbcpaaGreatDoor
open Go.ChangeShapes Go.WideShapes Go.ChangeAt Go.RowKit Mem
theorem dval_le {s : Sc} (hs : ScG s) (d : Nat) : ∀ a j left v l, 0 ≤ a → a < (s.nodes.length : Int) → JG j → dval s d a j left = some (v, l) → l ≤ left :=
 fun a j left v l h0 h1 hj h => Nat.le_of_lt (dval_ok hs d a j left v l h0 h1 hj h).2.2.1
theorem value13_at {s : Sc} (hs : ScG s) (A : Option Addr) (c : Nat) : ∀ d : Nat, d ≤ 20 → CallV s A c (dval s d) (20 - (d : Int))
 | 0, _ => by
  have e : dval s 0 = fun a j left => dstep none (s.node a) j left := by funext a j left; rfl
  rw [e]
  exact value13_step hs (o := none) (ar := 20 - ((0 : Nat) : Int)) (fun _ => by omega) (fun B h => by cases h)
 | d + 1, hd => by
  have e : dval s (d + 1) = fun a j left => dstep (some (dval s d)) (s.node a) j left := by funext a j left; rfl
  rw [e]
  refine value13_step hs (o := some (dval s d)) (ar := 20 - ((d + 1 : Nat) : Int)) (fun h => by cases h) (fun B h => ?_)
  injection h with h
  subst h
  refine ⟨⟨by omega, by omega, by omega⟩, ?_, dval_le hs d⟩
  have := value13_at hs A c d (by omega)
  have e2 : 20 - ((d + 1 : Nat) : Int) + 1 = 20 - (d : Int) := by omega
  rw [e2]; exact this
def zV : V := .mk 0 0 0 [] [] []
def resV : Except Int V → V
 | .ok v => v
 | .error _ => zV
def resE : Except Int V → Int
 | .ok _ => 0
 | .error z => z
def tellE (o : Option V) : Except Int V := match o with
 | none => .error 35
 | some v => .ok v
def DP (r : Except Int V) (w : World) (e : Ending) (w' : World) : Prop :=
 Below w.heap.size w w' ∧ ∃ A3 A4 A5 c3 c4 c5, e = .returned (.tuple #[.agg #[.int .i64 (resV r).k, .int .i64 (resV r).n, .int .u64 (resV r).bt, .slice A3 (resV r).bs.length c3, .slice A4 (resV r).its.length c4, .slice A5 (resV r).ks.length c5], .int .i64 (resE r)]) ∧
  Lies w' (New w w') (resV r).enc [.int .i64 (resV r).k, .int .i64 (resV r).n, .int .u64 (resV r).bt, .slice A3 (resV r).bs.length c3, .slice A4 (resV r).its.length c4, .slice A5 (resV r).ks.length c5]
theorem dp_no {r : Except Int V} {w w' : World} {z z' : Int} (h : r = .error z) (hz : z' = z) (b : Below w.heap.size w w') : DP r w (.returned (.tuple #[.agg #[.int .i64 0, .int .i64 0, .int .u64 0, .slice none 0 0, .slice none 0 0, .slice none 0 0], .int .i64 z'])) w' := by
 subst h; subst hz
 exact ⟨b, none, none, none, 0, 0, 0, rfl, leaf_in _ _ _⟩
theorem dp_yes {r : Except Int V} {v : V} {w w' : World} {z' : Int} {k n bt : Int} {A3 A4 A5 : Option Addr} {l3 c3 l4 c4 l5 c5 : Nat} (h : r = .ok v) (hz : z' = 0) (b : Below w.heap.size w w') (hl : Lies w' (New w w') v.enc [.int .i64 k, .int .i64 n, .int .u64 bt, .slice A3 l3 c3, .slice A4 l4 c4, .slice A5 l5 c5]) :
 DP r w (.returned (.tuple #[.agg #[.int .i64 k, .int .i64 n, .int .u64 bt, .slice A3 l3 c3, .slice A4 l4 c4, .slice A5 l5 c5], .int .i64 z'])) w' := by
 subst h; subst hz
 obtain ⟨B3, d3, B4, d4, B5, d5, e, _⟩ := V.out.1 hl
 simp only [List.cons.injEq, Value.int.injEq, Value.slice.injEq, true_and, and_true] at e
 obtain ⟨rfl, rfl, rfl, ⟨rfl, rfl, rfl⟩, ⟨rfl, rfl, rfl⟩, rfl, rfl, rfl⟩ := e
 exact ⟨b, _, _, _, _, _, _, rfl, hl⟩
theorem sets_new {w0 w2 : World} {G B : Nat} {d : D} {cs : List Value} {v0 v1 v2 v3 v4 v5 : Value} (hG : G < B) (hB : w0.heap.size ≤ B) (hv : Lies w2 (fun b => B ≤ b ∧ b < w2.heap.size) d cs) : Lies ((((((w2.setCell ⟨G, 0, none⟩ v0).setCell ⟨G, 1, none⟩ v1).setCell ⟨G, 2, none⟩ v2).setCell ⟨G, 3, none⟩ v3).setCell ⟨G, 4, none⟩ v4).setCell ⟨G, 5, none⟩ v5) (New w0 ((((((w2.setCell ⟨G, 0, none⟩ v0).setCell ⟨G, 1, none⟩ v1).setCell ⟨G, 2, none⟩ v2).setCell ⟨G, 3, none⟩ v3).setCell ⟨G, 4, none⟩ v4).setCell ⟨G, 5, none⟩ v5)) d cs := by
 have sz : ((((((w2.setCell ⟨G, 0, none⟩ v0).setCell ⟨G, 1, none⟩ v1).setCell ⟨G, 2, none⟩ v2).setCell ⟨G, 3, none⟩ v3).setCell ⟨G, 4, none⟩ v4).setCell ⟨G, 5, none⟩ v5).heap.size = w2.heap.size := by simp [World.setCell]
 have nb : ∀ b, (B ≤ b ∧ b < w2.heap.size) → b ≠ G := fun b hb => by omega
 exact (lies_set (lies_set (lies_set (lies_set (lies_set (lies_set hv nb) nb) nb) nb) nb) nb).keep (fun _ _ => rfl) fun b hb => ⟨Nat.le_trans hB hb.1, by rw [sz]; exact hb.2⟩
theorem dp_yes2 {r : Except Int V} {v : V} {w w2 : World} {G B : Nat} {z' : Int} {k n bt : Int} {A3 A4 A5 : Option Addr} {l3 c3 l4 c4 l5 c5 : Nat} {v0 v1 v2 v3 v4 v5 : Value} (h : r = .ok v) (hz : z' = 0) (hG : G < B) (hB : w.heap.size ≤ B) {o : Obj} (b : Below w.heap.size w (((((((w2.setCell ⟨G, 0, none⟩ v0).setCell ⟨G, 1, none⟩ v1).setCell ⟨G, 2, none⟩ v2).setCell ⟨G, 3, none⟩ v3).setCell ⟨G, 4, none⟩ v4).setCell ⟨G, 5, none⟩ v5).alloc o)) (hl : Lies w2 (fun b => B ≤ b ∧ b < w2.heap.size) v.enc [.int .i64 k, .int .i64 n, .int .u64 bt, .slice A3 l3 c3, .slice A4 l4 c4, .slice A5 l5 c5]) :
 DP r w (.returned (.tuple #[.agg #[.int .i64 k, .int .i64 n, .int .u64 bt, .slice A3 l3 c3, .slice A4 l4 c4, .slice A5 l5 c5], .int .i64 z'])) (((((((w2.setCell ⟨G, 0, none⟩ v0).setCell ⟨G, 1, none⟩ v1).setCell ⟨G, 2, none⟩ v2).setCell ⟨G, 3, none⟩ v3).setCell ⟨G, 4, none⟩ v4).setCell ⟨G, 5, none⟩ v5).alloc o) :=
 dp_yes h hz b ((sets_new hG hB hl).keep (fun _ hp => ((Below.refl _ _).alloc (Nat.le_refl _) o : Below ((((((w2.setCell ⟨G, 0, none⟩ v0).setCell ⟨G, 1, none⟩ v1).setCell ⟨G, 2, none⟩ v2).setCell ⟨G, 3, none⟩ v3).setCell ⟨G, 4, none⟩ v4).setCell ⟨G, 5, none⟩ v5).heap.size ((((((w2.setCell ⟨G, 0, none⟩ v0).setCell ⟨G, 1, none⟩ v1).setCell ⟨G, 2, none⟩ v2).setCell ⟨G, 3, none⟩ v3).setCell ⟨G, 4, none⟩ v4).setCell ⟨G, 5, none⟩ v5) _).cell hp.2) fun _ hb => ⟨hb.1, Nat.lt_of_lt_of_le hb.2 ((Below.refl _ _).alloc (Nat.le_refl _) o : Below ((((((w2.setCell ⟨G, 0, none⟩ v0).setCell ⟨G, 1, none⟩ v1).setCell ⟨G, 2, none⟩ v2).setCell ⟨G, 3, none⟩ v3).setCell ⟨G, 4, none⟩ v4).setCell ⟨G, 5, none⟩ v5).heap.size ((((((w2.setCell ⟨G, 0, none⟩ v0).setCell ⟨G, 1, none⟩ v1).setCell ⟨G, 2, none⟩ v2).setCell ⟨G, 3, none⟩ v3).setCell ⟨G, 4, none⟩ v4).setCell ⟨G, 5, none⟩ v5) _).size⟩)
theorem told13_any {s : Sc} (hs : ScG s) (a : Int) (h0 : 0 ≤ a) (h1 : a < (s.nodes.length : Int)) (j : J) (hj : JG j) (w : World) (hL : LaidN w) (A : Option Addr) (c : Nat) (hl : Len s.nodes.length c) (hn : RowD w (· < w.heap.size) 10 (s.nodes.map Nd.enc) A) (A3 A4 : Option Addr) (c3 c4 : Nat) (ht : TreeS w (· < w.heap.size) j [.int .i64 j.k, .int .i64 j.n, .string j.t, .slice A3 j.its.length c3, .slice A4 j.ks.length c4]) :
 Calls Tryz.prog 37 #[.slice A s.nodes.length c, .int .i64 a, .agg #[.int .i64 j.k, .int .i64 j.n, .string j.t, .slice A3 j.its.length c3, .slice A4 j.ks.length c4]] w (DP (tellE (dtold s a j)) w) := by
 have CS := cell_set
 obtain ⟨nn, hnn⟩ : ∃ m, m = s.nodes.length := ⟨_, rfl⟩
 obtain ⟨W, hW⟩ : ∃ W, W = (((w.alloc (.cells #[.int .i64 j.k, .int .i64 j.n, .string j.t, .slice A3 j.its.length c3, .slice A4 j.ks.length c4] 25)).alloc (.cells #[.int .i64 0, .int .i64 0, .int .u64 0, .slice none 0 0, .slice none 0 0, .slice none 0 0] 42)).alloc (.cells #[.slice A nn c, .int .i64 1000] 119)) := ⟨_, rfl⟩
 have ZS : Hid (W.heap.size = w.heap.size + 3) := by show _ = _; rw [hW]; simp
 have BW : Hid (Below w.heap.size w W) := by rw [hW]; exact (((Below.refl _ _).alloc (Nat.le_refl _) _).alloc (by simp) _).alloc (by simp; omega) _
 have W6 : Hid (B6 W (w.heap.size + 1) 42 (.int .i64 0) (.int .i64 0) (.int .u64 0) (.slice none 0 0) (.slice none 0 0) (.slice none 0 0)) := by rw [hW]; exact (B6.newat (by simp)).alloc _
 have WT : Hid (B2 W (w.heap.size + 2) 119 (.slice A nn c) (.int .i64 1000)) := by rw [hW]; exact B2.newat (by simp)
 have TWW : TW s A c W (w.heap.size + 2) 1000 := ⟨by rw [← hnn]; exact WT.out, hn.keep (fun p hp => BW.out.cell hp) (fun b hb => by omega), LaidN.below hL BW.out, by have := hL.top; omega, hl, Nat.le_refl _⟩
 obtain ⟨R0, hR0⟩ : ∃ R, R = dval s 20 a j 1000 := ⟨_, rfl⟩
 obtain ⟨R, hR⟩ : ∃ R, R = tellE (dtold s a j) := ⟨_, rfl⟩
 rw [← hR]
 have HR : Hid (R = tellE (R0.map Prod.fst)) := by show _ = _; rw [hR, hR0]; rfl
 have VC := Lib.hid (value13_at hs A c 20 (Nat.le_refl _) a j 1000 (w.heap.size + 2) W (· < w.heap.size) A3 A4 c3 c4 h0 h1 hj TWW (fun b hb => ⟨by rw [ZS.out]; omega, by omega⟩) (TreeS.keep (fun p hp => BW.out.cell hp) (fun _ h => h) ht))
 rw [← hR0, ← hnn, show 20 - ((20 : Nat) : Int) = 0 from rfl] at VC
 rw [← hnn] at h1 ⊢
 clear hR hR0 TWW hn ht hL hj hs hl hnn
 go_enter Tryz.func37, Tryz.ntmps37
 go_wp2_with fail
 rw [← hW]
 clear hW
 with_reducible refine VC.out.mono ?_
 rintro e w1 hp
 obtain ⟨⟨vk, vn, vb, Z3, Z4, Z5, z3, q3, z4, q4, z5, q5, rfl, hv⟩, sv, zz, b2, hz⟩ := hp
 have s1 := sv.size
 rw [ZS.out] at s1
 have Y6 : Hid (B6 w1 (w.heap.size + 1) 42 (.int .i64 0) (.int .i64 0) (.int .u64 0) (.slice none 0 0) (.slice none 0 0) (.slice none 0 0)) := Blk.sav W6.out sv (by rw [ZS.out]; omega) (by omega) (by omega)
 have BW1 : Hid (Below w.heap.size w w1) := BW.out.trans (sv.bel (by omega) (by omega) (by rw [ZS.out]; omega))
 have HV := Lib.hid hv
 have l6 := Y6.out.lt
 have bw1 := BW1.out
 obtain ⟨_, _, _, _, _, _, _, _, _, _, _, _⟩ := B6.facts Y6.out
 have BA : Hid (Below w1.heap.size w1 (w1.alloc (.cells #[.int .i64 vk, .int .i64 vn, .int .u64 vb, .slice Z3 z3 q3, .slice Z4 z4 q4, .slice Z5 z5 q5] 42))) := (Below.refl _ _).alloc (Nat.le_refl _) _
 have SA : Hid ((w1.alloc (.cells #[.int .i64 vk, .int .i64 vn, .int .u64 vb, .slice Z3 z3 q3, .slice Z4 z4 q4, .slice Z5 z5 q5] 42)).heap.size = w1.heap.size + 1) := by show _ = _; simp
 have bwa : Below w.heap.size w (w1.alloc (.cells #[.int .i64 vk, .int .i64 vn, .int .u64 vb, .slice Z3 z3 q3, .slice Z4 z4 q4, .slice Z5 z5 q5] 42)) := BW1.out.trans (BA.out.mono BW1.out.size)
 clear hv hz b2 sv VC
 cases R0 with
 | none =>
  have Z : Hid (R = .error 35) := HR.out
  clear HR
  go_wp2_with fail
  try simp only [Exit.inBlock, Exit.then]
  refine post_V2 (x0 := .int .i64 0) (x1 := .int .i64 0) (x2 := .int .u64 0) (x3 := .slice none 0 0) (x4 := .slice none 0 0) (x5 := .slice none 0 0) rfl rfl rfl (by go_simp) (by go_simp) (by go_simp) (by go_simp) (by go_simp) (by go_simp) ?_
  exact dp_no Z.out (by first | rfl | simp [Act.eval]) bqq
 | some p =>
  obtain ⟨v, l⟩ := p
  have Z : Hid (R = .ok v) := HR.out
  have LV2 : Hid (Lies w1 (fun b => w.heap.size + 3 ≤ b ∧ b < w1.heap.size) v.enc [.int .i64 vk, .int .i64 vn, .int .u64 vb, .slice Z3 z3 q3, .slice Z4 z4 q4, .slice Z5 z5 q5]) := (HV.out v rfl).keep (fun _ _ => rfl) fun b hb => ⟨by have := hb.1; rw [ZS.out] at this; exact this, hb.2⟩
  clear HR HV
  go_wp2_with fail
  try simp only [Exit.inBlock, Exit.then]
  refine post_V2 (x0 := .int .i64 vk) (x1 := .int .i64 vn) (x2 := .int .u64 vb) (x3 := .slice Z3 z3 q3) (x4 := .slice Z4 z4 q4) (x5 := .slice Z5 z5 q5) rfl rfl rfl (by go_simp) (by go_simp) (by go_simp) (by go_simp) (by go_simp) (by go_simp) ?_
  exact dp_yes2 (B := w.heap.size + 3) Z.out (by first | rfl | simp [Act.eval]) (by omega) (by omega) bqq LV2.out
noncomputable def ofR (s : Sc) (a : Int) (j : J) : Except Int V := @ite _ (s.right ∧ (0 ≤ a ∧ a < (s.nodes.length : Int)) ∧ j.rightb = true) (Classical.propDecidable _) (tellE (dtold s a j)) (.error 2)
theorem ofR_yes {s : Sc} {a : Int} {j : J} (h : s.right ∧ (0 ≤ a ∧ a < (s.nodes.length : Int)) ∧ j.rightb = true) : ofR s a j = tellE (dtold s a j) := by unfold ofR; rw [if_pos h]
theorem ofR_no {s : Sc} {a : Int} {j : J} (h : ¬ (s.right ∧ (0 ≤ a ∧ a < (s.nodes.length : Int)) ∧ j.rightb = true)) : ofR s a j = .error 2 := by unfold ofR; rw [if_neg h]
theorem dp_pass {r r' : Except Int V} {w W2 w5 : World} {G : Nat} {v0 v1 v2 v3 v4 v5 : Value} {vk vn vb er : Int} {z3 z4 z5 q3 q4 q5 : Nat} {Z3 Z4 Z5 : Option Addr} (hr : r' = r) (hG1 : G < W2.heap.size) (hw : w.heap.size ≤ W2.heap.size) (b : Below w.heap.size w ((((((w5.setCell ⟨G, 0, none⟩ v0).setCell ⟨G, 1, none⟩ v1).setCell ⟨G, 2, none⟩ v2).setCell ⟨G, 3, none⟩ v3).setCell ⟨G, 4, none⟩ v4).setCell ⟨G, 5, none⟩ v5))
 (h : vk = (resV r).k ∧ vn = (resV r).n ∧ vb = (resV r).bt ∧ z3 = (resV r).bs.length ∧ z4 = (resV r).its.length ∧ z5 = (resV r).ks.length ∧ er = resE r) (hl : Lies w5 (New W2 w5) (resV r).enc [.int .i64 vk, .int .i64 vn, .int .u64 vb, .slice Z3 z3 q3, .slice Z4 z4 q4, .slice Z5 z5 q5]) (e' : Int) (he : e' = er) :
 DP r' w (.returned (.tuple #[.agg #[.int .i64 vk, .int .i64 vn, .int .u64 vb, .slice Z3 z3 q3, .slice Z4 z4 q4, .slice Z5 z5 q5], .int .i64 e'])) ((((((w5.setCell ⟨G, 0, none⟩ v0).setCell ⟨G, 1, none⟩ v1).setCell ⟨G, 2, none⟩ v2).setCell ⟨G, 3, none⟩ v3).setCell ⟨G, 4, none⟩ v4).setCell ⟨G, 5, none⟩ v5) := by
 obtain ⟨rfl, rfl, rfl, rfl, rfl, rfl, rfl⟩ := h
 subst hr; subst he
 exact ⟨b, Z3, Z4, Z5, q3, q4, q5, rfl, sets_new (B := W2.heap.size) hG1 hw hl⟩
theorem of13_any {s : Sc} (hm : s.sm) (hr : s.rng) (a : Int) (j : J) (hjr : j.rng) (hjw : j.wt ≤ 2500) (hjd : j.deep ≤ 1000000) (w : World) (hL : LaidN w) (A A3 A4 : Option Addr) (c c3 c4 : Nat) (hs : Lies w (· < w.heap.size) s.enc [.slice A s.nodes.length c, .int .i64 s.root]) (ht : TreeS w (· < w.heap.size) j [.int .i64 j.k, .int .i64 j.n, .string j.t, .slice A3 j.its.length c3, .slice A4 j.ks.length c4]) :
 Calls Tryz.prog 14 #[.agg #[.slice A s.nodes.length c, .int .i64 s.root], .int .i64 a, .agg #[.int .i64 j.k, .int .i64 j.n, .string j.t, .slice A3 j.its.length c3, .slice A4 j.ks.length c4]] w (DP (ofR s a j) w) := by
 have CS := cell_set
 obtain ⟨_, _, e, la, ra⟩ := Sc.out.1 hs
 simp only [List.cons.injEq, Value.slice.injEq, true_and, and_true] at e
 obtain ⟨rfl, rfl⟩ := e
 obtain ⟨nn, hnn⟩ : ∃ m, m = s.nodes.length := ⟨_, rfl⟩
 obtain ⟨rt, hrt⟩ : ∃ m, m = s.root := ⟨_, rfl⟩
 obtain ⟨W, hW⟩ : ∃ W, W = (((w.alloc (.cells #[.slice A nn c, .int .i64 rt] 30)).alloc (.cells #[.int .i64 j.k, .int .i64 j.n, .string j.t, .slice A3 j.its.length c3, .slice A4 j.ks.length c4] 25)).alloc (.cells #[.int .i64 0, .int .i64 0, .int .u64 0, .slice none 0 0, .slice none 0 0, .slice none 0 0] 42)) := ⟨_, rfl⟩
 have ZS : Hid (W.heap.size = w.heap.size + 3) := by show _ = _; rw [hW]; simp
 have BW : Hid (Below w.heap.size w W) := by rw [hW]; exact (((Below.refl _ _).alloc (Nat.le_refl _) _).alloc (by simp) _).alloc (by simp; omega) _
 have W2 : Hid (B2 W w.heap.size 30 (.slice A nn c) (.int .i64 rt)) := by rw [hW]; exact ((B2.newat rfl).alloc _).alloc _
 have W5 : Hid (B5 W (w.heap.size + 1) 25 (.int .i64 j.k) (.int .i64 j.n) (.string j.t) (.slice A3 j.its.length c3) (.slice A4 j.ks.length c4)) := by rw [hW]; exact (B5.newat (by simp)).alloc _
 have W6 : Hid (B6 W (w.heap.size + 2) 42 (.int .i64 0) (.int .i64 0) (.int .u64 0) (.slice none 0 0) (.slice none 0 0) (.slice none 0 0)) := by rw [hW]; exact B6.newat (by simp)
 have SR := Lib.hid (fun W (b : Below w.heap.size w W) => sRightT_any s hm W (LaidN.below hL b) A c (hs.on b))
 have JR := Lib.hid (fun W (b : Below w.heap.size w W) => jRight_any j (by omega) hjd W (LaidN.below hL b) A3 A4 c3 c4 (TreeS.keep (fun p hp => b.cell hp) (fun _ h => Nat.lt_of_lt_of_le h b.size) ht))
 have TC : Hid (s.right → 0 ≤ a → a < (s.nodes.length : Int) → j.rightb = true → ∀ W, Below w.heap.size w W → Calls Tryz.prog 37 #[.slice A s.nodes.length c, .int .i64 a, .agg #[.int .i64 j.k, .int .i64 j.n, .string j.t, .slice A3 j.its.length c3, .slice A4 j.ks.length c4]] W (DP (tellE (dtold s a j)) W)) := fun q1 q2 q3 q4 W b =>
  told13_any ⟨q1, hr, hm⟩ a q2 q3 j ⟨.inl (J.rightb_iff.1 q4).2, hjr, hjw⟩ W (LaidN.below hL b) A c la ((ra.below b).more b.size) A3 A4 c3 c4 (TreeS.keep (fun p hp => b.cell hp) (fun _ h => Nat.lt_of_lt_of_le h b.size) ht)
 have AM := Lib.hid (dAmong_pure a (nn : Int))
 obtain ⟨R, hR⟩ : ∃ R, R = ofR s a j := ⟨_, rfl⟩
 have HY : Hid (s.right ∧ (0 ≤ a ∧ a < (s.nodes.length : Int)) ∧ j.rightb = true → R = tellE (dtold s a j)) := fun h => hR.trans (ofR_yes h)
 have HX : Hid (¬ (s.right ∧ (0 ≤ a ∧ a < (s.nodes.length : Int)) ∧ j.rightb = true) → R = .error 2) := fun h => hR.trans (ofR_no h)
 rw [← hR]
 have HNN := Lib.hid hnn
 rw [← hnn] at SR TC HY HX ⊢
 rw [← hrt] at SR ⊢
 obtain ⟨r, hrr⟩ : ∃ r, r = tellE (dtold s a j) := ⟨_, rfl⟩
 rw [← hrr] at TC HY
 obtain ⟨rb, hrb⟩ : ∃ b, b = j.rightb := ⟨_, rfl⟩
 rw [← hrb] at JR TC HY HX
 obtain ⟨Q, hQ⟩ : ∃ Q : Prop, Q = s.right := ⟨_, rfl⟩
 rw [← hQ] at SR TC HY HX
 clear hR hrr hrb hQ hs ht hL hm hr hjr hjw hjd la ra hnn hrt
 go_enter Tryz.func14, Tryz.ntmps14
 go_wp2_with fail
 rw [← hW]
 clear hW
 with_reducible refine (SR.out _ BW.out).mono ?_
 rintro e w1 ⟨b, rfl, hbb, b1⟩
 have s1 := b1.size
 rw [ZS.out] at s1
 have BW1 : Hid (Below w.heap.size w w1) := BW.out.trans (b1.mono BW.out.size)
 have Y2 := Lib.hid (B2.below W2.out b1 W2.out.lt)
 have Y5 := Lib.hid (B5.below W5.out b1 W5.out.lt)
 have Y6 := Lib.hid (B6.below W6.out b1 W6.out.lt)
 obtain ⟨_, _, _, _⟩ := B2.facts Y2.out
 obtain ⟨_, _, _, _, _, _, _, _, _, _⟩ := B5.facts Y5.out
 obtain ⟨_, _, _, _, _, _, _, _, _, _, _, _⟩ := B6.facts Y6.out
 have HBB := Lib.hid hbb
 have bw1 := BW1.out
 clear hbb b1 W2 W5 W6
 cases b with
 | false =>
  have Z : Hid (R = .error 2) := HX.out fun h => by have := HBB.out.2 h.1; cases this
  clear HX HY TC JR AM HBB
  go_wp2_with fail
  try simp only [Exit.inBlock, Exit.then]
  refine post_V2 (x0 := .int .i64 0) (x1 := .int .i64 0) (x2 := .int .u64 0) (x3 := .slice none 0 0) (x4 := .slice none 0 0) (x5 := .slice none 0 0) rfl rfl rfl (by go_simp) (by go_simp) (by go_simp) (by go_simp) (by go_simp) (by go_simp) ?_
  exact dp_no Z.out (by first | rfl | simp [Act.eval]) bqq
 | true =>
  have HQ := Lib.hid (HBB.out.1 (by first | rfl | trivial))
  clear HBB
  by_cases ha : 0 ≤ a ∧ a < (nn : Int)
  rotate_left
  · have Z : Hid (R = .error 2) := HX.out fun h => ha h.2.1
    rw [show decide (0 ≤ a ∧ a < (nn : Int)) = false by simpa using ha] at AM
    clear HX HY TC JR ha
    go_wp2_with fail
    with_reducible refine (AM.out _).mono ?_
    rintro e w3 ⟨rfl, rfl⟩
    go_wp2_with fail
    try simp only [Exit.inBlock, Exit.then]
    refine post_V2 (x0 := .int .i64 0) (x1 := .int .i64 0) (x2 := .int .u64 0) (x3 := .slice none 0 0) (x4 := .slice none 0 0) (x5 := .slice none 0 0) rfl rfl rfl (by go_simp) (by go_simp) (by go_simp) (by go_simp) (by go_simp) (by go_simp) ?_
    exact dp_no Z.out (by first | rfl | simp [Act.eval]) bqq
  rw [show decide (0 ≤ a ∧ a < (nn : Int)) = true by simpa using ha] at AM
  have HA := Lib.hid ha
  clear ha
  go_wp2_with fail
  with_reducible refine (AM.out _).mono ?_
  rintro e w3 ⟨rfl, rfl⟩
  go_wp2_with fail
  with_reducible refine (JR.out _ BW1.out).mono ?_
  rintro e w4 ⟨rfl, b4⟩
  have s4 := b4.size
  have BW4 : Hid (Below w.heap.size w w4) := BW1.out.trans (b4.mono BW1.out.size)
  have X2 := Lib.hid (B2.below Y2.out b4 Y2.out.lt)
  have X5 := Lib.hid (B5.below Y5.out b4 Y5.out.lt)
  have X6 := Lib.hid (B6.below Y6.out b4 Y6.out.lt)
  have l6 := X6.out.lt
  obtain ⟨_, _, _, _⟩ := B2.facts X2.out
  obtain ⟨_, _, _, _, _, _, _, _, _, _⟩ := B5.facts X5.out
  obtain ⟨_, _, _, _, _, _, _, _, _, _, _, _⟩ := B6.facts X6.out
  have bw4 := BW4.out
  clear b4 Y2 Y5 Y6 AM JR bw1
  cases rb with
  | false =>
   have Z : Hid (R = .error 2) := HX.out fun h => by have := h.2.2; cases this
   clear HX HY TC
   go_wp2_with fail
   try simp only [Exit.inBlock, Exit.then]
   refine post_V2 (x0 := .int .i64 0) (x1 := .int .i64 0) (x2 := .int .u64 0) (x3 := .slice none 0 0) (x4 := .slice none 0 0) (x5 := .slice none 0 0) rfl rfl rfl (by go_simp) (by go_simp) (by go_simp) (by go_simp) (by go_simp) (by go_simp) ?_
   exact dp_no Z.out (by first | rfl | simp [Act.eval]) bqq
  | true =>
   have Z : Hid (R = r) := HY.out ⟨HQ.out, HA.out, rfl⟩
   have TC2 := Lib.hid (TC.out HQ.out HA.out.1 HA.out.2 rfl w4 BW4.out)
   clear HX HY TC
   go_wp2_with fail
   with_reducible refine TC2.out.mono ?_
   rintro e w5 ⟨b5, Z3, Z4, Z5, q3, q4, q5, rfl, hlv⟩
   have s5 := b5.size
   have BW5 : Hid (Below w.heap.size w w5) := BW4.out.trans (b5.mono BW4.out.size)
   have V6 := Lib.hid (B6.below X6.out b5 X6.out.lt)
   have l7 := V6.out.lt
   obtain ⟨_, _, _, _, _, _, _, _, _, _, _, _⟩ := B6.facts V6.out
   have bw5 := BW5.out
   obtain ⟨vk, hvk⟩ : ∃ x, x = (resV r).k := ⟨_, rfl⟩
   obtain ⟨vn, hvn⟩ : ∃ x, x = (resV r).n := ⟨_, rfl⟩
   obtain ⟨vb, hvb⟩ : ∃ x, x = (resV r).bt := ⟨_, rfl⟩
   obtain ⟨z3, hz3⟩ : ∃ x, x = (resV r).bs.length := ⟨_, rfl⟩
   obtain ⟨z4, hz4⟩ : ∃ x, x = (resV r).its.length := ⟨_, rfl⟩
   obtain ⟨z5, hz5⟩ : ∃ x, x = (resV r).ks.length := ⟨_, rfl⟩
   obtain ⟨er, her⟩ : ∃ x, x = resE r := ⟨_, rfl⟩
   rw [← hvk, ← hvn, ← hvb, ← hz3, ← hz4, ← hz5] at hlv ⊢
   rw [← her]
   have HE : Hid (vk = (resV r).k ∧ vn = (resV r).n ∧ vb = (resV r).bt ∧ z3 = (resV r).bs.length ∧ z4 = (resV r).its.length ∧ z5 = (resV r).ks.length ∧ er = resE r) := ⟨hvk, hvn, hvb, hz3, hz4, hz5, her⟩
   have HLV := Lib.hid hlv
   clear hvk hvn hvb hz3 hz4 hz5 her hlv
   clear TC2 X2 X5 X6 V6 bw4 b5
   go_wp2_with fail
   try simp only [Exit.inBlock, Exit.then]
   refine post_V2 (x0 := .int .i64 vk) (x1 := .int .i64 vn) (x2 := .int .u64 vb) (x3 := .slice Z3 z3 q3) (x4 := .slice Z4 z4 q4) (x5 := .slice Z5 z5 q5) rfl rfl rfl (by go_simp) (by go_simp) (by go_simp) (by go_simp) (by go_simp) (by go_simp) ?_
   exact dp_pass (G := w.heap.size + 2) Z.out l6 BW4.out.size bqq HE.out HLV.out _ (by first | rfl | simp [Act.eval])
def lays (w : World) : List Obj → World
 | [] => w
 | o :: r => lays (w.alloc o) r
theorem lays_size : ∀ (os : List Obj) (w : World), (lays w os).heap.size = w.heap.size + os.length
 | [], _ => rfl
 | o :: r, w => by unfold lays; rw [lays_size r]; simp; omega
theorem lays_below : ∀ (os : List Obj) (w : World), Below w.heap.size w (lays w os)
 | [], _ => Below.refl _ _
 | o :: r, w => by
  unfold lays
  exact ((Below.refl w.heap.size w).alloc (Nat.le_refl _) o).trans ((lays_below r (w.alloc o)).mono (by simp))
theorem lays_at : ∀ (os : List Obj) (w : World) {i : Nat} (h : i < os.length), (lays w os).heap[w.heap.size + i]? = some (os[i]'h)
 | [], _, _, h => absurd h (Nat.not_lt_zero _)
 | o :: r, w, i, h => by
  unfold lays
  cases i with
  | zero => rw [(lays_below r (w.alloc o)).block _ (by simp)]; exact heap_alloc_new w o
  | succ i =>
   have := lays_at r (w.alloc o) (i := i) (by simpa using h)
   rw [show (w.alloc o).heap.size + i = w.heap.size + (i + 1) by simp; omega] at this
   exact this
def un13 : Nd := ⟨13, ⟨#[]⟩, [], [], [], false, ⟨#[]⟩, 0, 0, [1, 2]⟩
def exA : Sc := ⟨[un13, Nd.z 3, Nd.z 1], 0⟩
def exB : Sc := ⟨[Nd.z 7], 0⟩
theorem exA_met : met exA 33 0 = some 3 := by
 simp [met, metK, Sc.kidsAt, Sc.kind, Nd.kids, exA, un13, Nd.z, named]
theorem exB_met : met exB 33 0 = some 1 := by
 simp [met, metK, Sc.kidsAt, Nd.kids, exB, Nd.z]
theorem exA_right : exA.right := by
 refine ⟨⟨by decide, by decide, rfl, exA_met⟩, ?_, ?_, by decide⟩
 · intro n hn
   unfold exA at hn
   simp only [List.mem_cons, List.not_mem_nil, or_false] at hn
   rcases hn with rfl | rfl | rfl
   · exact (ok_13 rfl).2 ⟨⟨by decide, by decide, by decide, by decide⟩, rfl⟩
   · exact (ok_prim (by decide)).2 rfl
   · exact (ok_prim (by decide)).2 rfl
 · intro i hi
   have h9 : exA.kind (i : Int) ≠ 9 := by
    obtain rfl | rfl | rfl : i = 0 ∨ i = 1 ∨ i = 2 := by have : exA.nodes.length = 3 := rfl; omega
    · decide
    · decide
    · decide
   rw [Sc.wt_fix, if_neg h9]; decide
theorem exB_right : exB.right := by
 refine ⟨⟨by decide, by decide, rfl, exB_met⟩, ?_, ?_, by decide⟩
 · intro n hn
   unfold exB at hn
   simp only [List.mem_cons, List.not_mem_nil, or_false] at hn
   subst hn
   exact (ok_prim (by decide)).2 rfl
 · intro i hi
   have h9 : exB.kind (i : Int) ≠ 9 := by
    obtain rfl : i = 0 := by have : exB.nodes.length = 1 := rfl; omega
    decide
   rw [Sc.wt_fix, if_neg h9]; decide
theorem sm_of {s : Sc} (h1 : s.nodes.length ≤ 2500) (h : ∀ n ∈ s.nodes, n.sm) : s.sm := ⟨h1, fun _ hi => h _ (List.getElem_mem hi)⟩
theorem exA_sm : exA.sm := by
 refine sm_of (by decide) fun n hn => ?_
 unfold exA at hn
 simp only [List.mem_cons, List.not_mem_nil, or_false] at hn
 rcases hn with rfl | rfl | rfl
 all_goals exact ⟨by decide, by decide, by decide, by decide, by decide, by decide, fun i h => absurd h (Nat.not_lt_zero _)⟩
theorem exB_sm : exB.sm := by
 refine sm_of (by decide) fun n hn => ?_
 unfold exB at hn
 simp only [List.mem_cons, List.not_mem_nil, or_false] at hn
 subst hn
 exact ⟨by decide, by decide, by decide, by decide, by decide, by decide, fun i h => absurd h (Nat.not_lt_zero _)⟩
theorem exA_rng : exA.rng := by
 refine ⟨by unfold I64; decide, fun n hn => ?_⟩
 unfold exA at hn
 simp only [List.mem_cons, List.not_mem_nil, or_false] at hn
 rcases hn with rfl | rfl | rfl
 all_goals exact ⟨by unfold I64; decide, by unfold I64; decide, by unfold I64; decide, by unfold I64; decide, fun f hf => by cases hf⟩
theorem exB_rng : exB.rng := by
 refine ⟨by unfold I64; decide, fun n hn => ?_⟩
 unfold exB at hn
 simp only [List.mem_cons, List.not_mem_nil, or_false] at hn
 subst hn
 exact ⟨by unfold I64; decide, by unfold I64; decide, by unfold I64; decide, by unfold I64; decide, fun f hf => by cases hf⟩
def jSeven : J := .mk 3 7 ⟨#[]⟩ [] []
def jNull : J := .mk 1 0 ⟨#[]⟩ [] []
def jFf : J := .mk 4 0 ⟨#[195, 191]⟩ [] []
def vSeven : V := .mk 13 0 0 [] [.mk 3 7 0 [] [] []] []
def vFf : V := .mk 7 0 0 [255] [] []
theorem frm_leaf (k n : Int) (t : ByteArray) (h1 : 1 ≤ k ∧ k ≤ 4) (h2 : k ≠ 2 → k ≠ 3 → n = 0) (h3 : k = 2 → n = 0 ∨ n = 1) (h4 : k ≠ 4 → t = ⟨#[]⟩) (h5 : (Num.cU t.data.toList).isSome = true) : (J.mk k n t [] []).rightb = true := by
 refine J.rightb_iff.2 ⟨?_, ?_⟩
 · rw [J.deep_out (by simp only [J.k]; omega)]; omega
 · unfold J.frm
   exact ⟨h1.1, by omega, h2, h3, h4, h5, (fun _ => rfl), (fun _ => rfl), (fun _ => rfl), (fun _ h => by cases h), List.nodup_nil, J.frms_nil⟩
theorem cU_no : (Num.cU (⟨#[]⟩ : ByteArray).data.toList).isSome = true := by show (Num.cU []).isSome = true; rw [Num.cU_nil]; rfl
theorem jSeven_r : jSeven.rightb = true := frm_leaf _ _ _ (by decide) (by decide) (by decide) (by decide) cU_no
theorem jNull_r : jNull.rightb = true := frm_leaf _ _ _ (by decide) (by decide) (by decide) (by decide) cU_no
theorem jFf_r : jFf.rightb = true := frm_leaf _ _ _ (by decide) (by decide) (by decide) (by decide) (by
 show (Num.cU [195, 191]).isSome = true
 rw [Num.cU_go (c := 255) (n := 2) (by decide), show List.drop 2 [(195 : UInt8), 191] = [] from rfl, Num.cU_nil]; rfl)
theorem told_seven : dtold exA 0 jSeven = some vSeven := by rfl
theorem told_null : dtold exA 0 jNull = none := by rfl
theorem told_ff : dtold exB 0 jFf = some vFf := by rfl
theorem of_seven : ofR exA 0 jSeven = .ok vSeven := by rw [ofR_yes ⟨exA_right, by decide, jSeven_r⟩, told_seven]; rfl
theorem of_null : ofR exA 0 jNull = .error 35 := by rw [ofR_yes ⟨exA_right, by decide, jNull_r⟩, told_null]; rfl
theorem of_ff : ofR exB 0 jFf = .ok vFf := by rw [ofR_yes ⟨exB_right, by decide, jFf_r⟩, told_ff]; rfl
theorem row_one13 {w : World} {S : Nat → Prop} {s g : Nat} {a : D} {c : List Value} (hg : S g) (hc : c.length = s) (h1 : ∀ j, j < s → w.cell? ⟨g, j, none⟩ = c[j]?) (l1 : Lies w S a c) : RowD w S s [a] (some ⟨g, 0, none⟩) := by
 unfold RowD
 exact ⟨g, 0, c, rfl, hg, hc, fun j hj => by rw [Nat.zero_add]; exact h1 j hj, l1, RowD.nil_ _ _ _ _⟩
theorem row_two13 {w : World} {S : Nat → Prop} {s g : Nat} {a b : D} {c d : List Value} (hg : S g) (hc : c.length = s) (hd : d.length = s) (h1 : ∀ j, j < s → w.cell? ⟨g, j, none⟩ = c[j]?) (h2 : ∀ j, j < s → w.cell? ⟨g, s + j, none⟩ = d[j]?) (l1 : Lies w S a c) (l2 : Lies w S b d) : RowD w S s [a, b] (some ⟨g, 0, none⟩) := by
 unfold RowD
 refine ⟨g, 0, c, rfl, hg, hc, fun j hj => by rw [Nat.zero_add]; exact h1 j hj, l1, ?_⟩
 unfold RowD
 exact ⟨g, 0 + s, d, rfl, hg, hd, fun j hj => by rw [Nat.zero_add]; exact h2 j hj, l2, RowD.nil_ _ _ _ _⟩
theorem row_three {w : World} {S : Nat → Prop} {s g : Nat} {a b d : D} {c1 c2 c3 : List Value} (hg : S g) (q1 : c1.length = s) (q2 : c2.length = s) (q3 : c3.length = s) (h1 : ∀ j, j < s → w.cell? ⟨g, j, none⟩ = c1[j]?) (h2 : ∀ j, j < s → w.cell? ⟨g, s + j, none⟩ = c2[j]?) (h3 : ∀ j, j < s → w.cell? ⟨g, s + s + j, none⟩ = c3[j]?) (l1 : Lies w S a c1) (l2 : Lies w S b c2) (l3 : Lies w S d c3) : RowD w S s [a, b, d] (some ⟨g, 0, none⟩) := by
 unfold RowD
 refine ⟨g, 0, c1, rfl, hg, q1, fun j hj => by rw [Nat.zero_add]; exact h1 j hj, l1, ?_⟩
 unfold RowD
 refine ⟨g, 0 + s, c2, rfl, hg, q2, fun j hj => by rw [Nat.zero_add]; exact h2 j hj, l2, ?_⟩
 unfold RowD
 exact ⟨g, 0 + s + s, c3, rfl, hg, q3, fun j hj => by rw [Nat.zero_add]; exact h3 j hj, l3, RowD.nil_ _ _ _ _⟩
theorem tleaf {w : World} {S : Nat → Prop} (k n : Int) (t : ByteArray) : TreeS w S (.mk k n t [] []) [.int .i64 k, .int .i64 n, .string t, .slice none 0 0, .slice none 0 0] := by
 unfold TreeS
 exact ⟨none, 0, none, 0, rfl, ⟨Nat.le_refl _, Nat.zero_le _⟩, ⟨Nat.le_refl _, Nat.zero_le _⟩, (by unfold RowS; trivial), .inl rfl⟩
theorem leaf_small (k n : Int) (t : ByteArray) (ht : t.size ≤ 100) : (J.mk k n t [] []).wt ≤ 2500 := by
 rw [J.wt_out]
 show 1 + t.size + kwt [] + J.wts [] ≤ 2500
 rw [kwt_nil]
 unfold J.wts
 omega
theorem leaf_rng (k n : Int) (t : ByteArray) (h : -9223372036854775808 ≤ n ∧ n ≤ 9223372036854775807) : (J.mk k n t [] []).rng := by
 unfold J.rng
 exact ⟨h.1, h.2, J.rngs_nil⟩
def exAO (w : World) : List Obj := [.cells #[.int .i64 1, .int .i64 2] 3, .cells #[.int .i64 13, .string ⟨#[]⟩, .slice none 0 0, .slice none 0 0, .slice none 0 0, .bool false, .string ⟨#[]⟩, .int .i64 0, .int .i64 0, .slice (some ⟨w.heap.size, 0, none⟩) 2 2, .int .i64 3, .string ⟨#[]⟩, .slice none 0 0, .slice none 0 0, .slice none 0 0, .bool false, .string ⟨#[]⟩, .int .i64 0, .int .i64 0, .slice none 0 0, .int .i64 1, .string ⟨#[]⟩, .slice none 0 0, .slice none 0 0, .slice none 0 0, .bool false, .string ⟨#[]⟩, .int .i64 0, .int .i64 0, .slice none 0 0] 59, .cells #[.slice (some ⟨w.heap.size + 1, 0, none⟩) 3 3, .int .i64 0] 30]
def exAW (w : World) : World := lays w (exAO w)
theorem exAW_size (w : World) : (exAW w).heap.size = w.heap.size + 3 := lays_size _ w
theorem exAW_cell (w : World) {i : Nat} (h : i < (exAO w).length) (cs : Array Value) (t : TypeId) (e : (exAO w)[i]'h = .cells cs t) (j : Nat) : (exAW w).cell? ⟨w.heap.size + i, j, none⟩ = cs[j]? := by
 refine cell_of_row _ _ _ _ t (0, 0) ?_
 have := lays_at (exAO w) w (i := i) h
 rw [e] at this
 exact this
theorem exA_lies (w : World) : Lies (exAW w) (· < (exAW w).heap.size) exA.enc [.slice (some ⟨w.heap.size + 1, 0, none⟩) 3 3, .int .i64 0] := by
 have hS := exAW_size w
 have c0 := fun j => exAW_cell w (i := 0) (show 0 < 3 by decide) _ _ rfl j
 have c1 := fun j => exAW_cell w (i := 1) (show 1 < 3 by decide) _ _ rfl j
 refine Sc.out.2 ⟨_, 3, rfl, ⟨Nat.le_refl _, by unfold maxLen; decide⟩, ?_⟩
 have li : RowD (exAW w) (· < (exAW w).heap.size) 1 ([1, 2].map (D.i .i64)) (some ⟨w.heap.size, 0, none⟩) := by
  refine row_two13 (c := [.int .i64 1]) (d := [.int .i64 2]) (by rw [hS]; omega) rfl rfl (fun j hj => ?_) (fun j hj => ?_) (lies_i.2 rfl) (lies_i.2 rfl)
  · obtain rfl : j = 0 := by omega
    exact c0 0
  · obtain rfl : j = 0 := by omega
    exact c0 1
 have l1 : Lies (exAW w) (· < (exAW w).heap.size) un13.enc [.int .i64 13, .string ⟨#[]⟩, .slice none 0 0, .slice none 0 0, .slice none 0 0, .bool false, .string ⟨#[]⟩, .int .i64 0, .int .i64 0, .slice (some ⟨w.heap.size, 0, none⟩) 2 2] :=
  Nd.out.2 ⟨none, 0, none, 0, none, 0, _, 2, rfl, ⟨Nat.le_refl _, Nat.zero_le _⟩, .inl rfl, ⟨Nat.le_refl _, Nat.zero_le _⟩, RowD.nil_ _ _ _ _, ⟨Nat.le_refl _, Nat.zero_le _⟩, .inl rfl, ⟨Nat.le_refl _, by unfold maxLen; decide⟩, li⟩
 refine row_three (by rw [hS]; omega) rfl rfl rfl (fun j hj => ?_) (fun j hj => ?_) (fun j hj => ?_) l1 z_lies z_lies
 all_goals
  rw [c1]
  obtain rfl | rfl | rfl | rfl | rfl | rfl | rfl | rfl | rfl | rfl : j = 0 ∨ j = 1 ∨ j = 2 ∨ j = 3 ∨ j = 4 ∨ j = 5 ∨ j = 6 ∨ j = 7 ∨ j = 8 ∨ j = 9 := by omega
  all_goals rfl
theorem exB_lies (U : World) : Lies (U.alloc (.cells #[.int .i64 7, .string ⟨#[]⟩, .slice none 0 0, .slice none 0 0, .slice none 0 0, .bool false, .string ⟨#[]⟩, .int .i64 0, .int .i64 0, .slice none 0 0] 59)) (· < (U.alloc (.cells #[.int .i64 7, .string ⟨#[]⟩, .slice none 0 0, .slice none 0 0, .slice none 0 0, .bool false, .string ⟨#[]⟩, .int .i64 0, .int .i64 0, .slice none 0 0] 59)).heap.size) exB.enc [.slice (some ⟨U.heap.size, 0, none⟩) 1 1, .int .i64 0] := by
 refine Sc.out.2 ⟨_, 1, rfl, ⟨Nat.le_refl _, by unfold maxLen; decide⟩, ?_⟩
 refine row_one13 (by simp) rfl (fun j hj => ?_) (z_lies (k := 7))
 rw [(Blk.new U 59 _).cell]
 obtain rfl | rfl | rfl | rfl | rfl | rfl | rfl | rfl | rfl | rfl : j = 0 ∨ j = 1 ∨ j = 2 ∨ j = 3 ∨ j = 4 ∨ j = 5 ∨ j = 6 ∨ j = 7 ∨ j = 8 ∨ j = 9 := by omega
 all_goals rfl
def OfA (k n bt : Int) (l3 l4 : Nat) (er : Int) (Q : World → Option Addr → Option Addr → Prop) (U : World) (e : Ending) (u : World) : Prop :=
 Below U.heap.size U u ∧ ∃ A3 A4 A5 c3 c4 c5, e = .returned (.tuple #[.agg #[.int .i64 k, .int .i64 n, .int .u64 bt, .slice A3 l3 c3, .slice A4 l4 c4, .slice A5 0 c5], .int .i64 er]) ∧ Q u A3 A4
theorem works13_any (w : World) (hL : LaidN w) : Calls Tryz.prog 13 #[] w (Told true w) := by
 have CS := cell_set
 obtain ⟨W, hW⟩ : ∃ W, W = exAW w := ⟨_, rfl⟩
 have ls : Lies W (· < W.heap.size) exA.enc [.slice (some ⟨w.heap.size + 1, 0, none⟩) 3 3, .int .i64 0] := by rw [hW]; exact exA_lies w
 have b0 : Below w.heap.size w W := by rw [hW]; exact lays_below _ w
 have zW : W.heap.size = w.heap.size + 3 := by rw [hW]; exact exAW_size w
 have S0 : Hid (B2 W (w.heap.size + 2) 30 (.slice (some ⟨w.heap.size + 1, 0, none⟩) 3 3) (.int .i64 0)) := by
  show (W.heap)[w.heap.size + 2]? = _
  rw [hW]
  exact lays_at (exAO w) w (i := 2) (show 2 < 3 by decide)
 have LW := Lib.hid (hL.below b0)
 have OF1 : Hid (∀ U, Below W.heap.size W U → Calls Tryz.prog 14 #[.agg #[.slice (some ⟨w.heap.size + 1, 0, none⟩) 3 3, .int .i64 0], .int .i64 0, .agg #[.int .i64 3, .int .i64 7, .string ⟨#[]⟩, .slice none 0 0, .slice none 0 0]] U (OfA 13 0 0 0 1 0 (fun u _ A4 => ∃ g o, A4 = some ⟨g, o, none⟩ ∧ g < u.heap.size ∧ u.cell? ⟨g, o + 1, none⟩ = some (.int .i64 7)) U)) := fun U b => by
  have := of13_any exA_sm exA_rng 0 jSeven (leaf_rng _ _ _ (by decide)) (leaf_small _ _ _ (by decide)) (by rw [J.deep_out (by decide)]; omega) U (LW.out.below b) _ none none 3 0 0 (ls.on b) (tleaf _ _ _)
  rw [of_seven] at this
  refine this.mono fun e u h => ?_
  obtain ⟨bu, A3, A4, A5, c3, c4, c5, rfl, hl⟩ := h
  refine ⟨bu, A3, A4, A5, c3, c4, c5, rfl, ?_⟩
  obtain ⟨B3, d3, B4, d4, B5, d5, e, _, _, _, r4, _⟩ := V.out.1 hl
  simp only [List.cons.injEq, Value.slice.injEq, true_and, and_true] at e
  obtain ⟨⟨rfl, rfl⟩, ⟨rfl, rfl⟩, rfl, rfl⟩ := e
  obtain ⟨g, o, _, _, _, _, _, _, eA, hg, ⟨_, y1, _⟩, _⟩ := values_at (l := [.mk 3 7 0 [] [] []]) r4 (i := 0) (by decide)
  exact ⟨g, o, eA, hg.2, by rw [Nat.zero_mul, Nat.add_zero] at y1; exact y1⟩
 have OF0 : Hid (∀ U, Below W.heap.size W U → Calls Tryz.prog 14 #[.agg #[.slice (some ⟨w.heap.size + 1, 0, none⟩) 3 3, .int .i64 0], .int .i64 0, .agg #[.int .i64 1, .int .i64 0, .string ⟨#[]⟩, .slice none 0 0, .slice none 0 0]] U (OfA 0 0 0 0 0 35 (fun _ _ _ => True) U)) := fun U b => by
  have := of13_any exA_sm exA_rng 0 jNull (leaf_rng _ _ _ (by decide)) (leaf_small _ _ _ (by decide)) (by rw [J.deep_out (by decide)]; omega) U (LW.out.below b) _ none none 3 0 0 (ls.on b) (tleaf _ _ _)
  rw [of_null] at this
  refine this.mono fun e u h => ?_
  obtain ⟨bu, A3, A4, A5, c3, c4, c5, rfl, hl⟩ := h
  exact ⟨bu, A3, A4, A5, c3, c4, c5, rfl, trivial⟩
 have OF2 : Hid (∀ U, Below W.heap.size W U → Calls Tryz.prog 14 #[.agg #[.slice (some ⟨U.heap.size, 0, none⟩) 1 1, .int .i64 0], .int .i64 0, .agg #[.int .i64 4, .int .i64 0, .string ⟨#[195, 191]⟩, .slice none 0 0, .slice none 0 0]] (U.alloc (.cells #[.int .i64 7, .string ⟨#[]⟩, .slice none 0 0, .slice none 0 0, .slice none 0 0, .bool false, .string ⟨#[]⟩, .int .i64 0, .int .i64 0, .slice none 0 0] 59)) (OfA 7 0 0 1 0 0 (fun u A3 _ => ∃ g o, A3 = some ⟨g, o, none⟩ ∧ g < u.heap.size ∧ u.cell? ⟨g, o, none⟩ = some (.int .u8 255)) (U.alloc (.cells #[.int .i64 7, .string ⟨#[]⟩, .slice none 0 0, .slice none 0 0, .slice none 0 0, .bool false, .string ⟨#[]⟩, .int .i64 0, .int .i64 0, .slice none 0 0] 59)))) := fun U b => by
  have := of13_any exB_sm exB_rng 0 jFf (leaf_rng _ _ _ (by decide)) (leaf_small _ _ _ (by decide)) (by rw [J.deep_out (by decide)]; omega) (U.alloc (.cells #[.int .i64 7, .string ⟨#[]⟩, .slice none 0 0, .slice none 0 0, .slice none 0 0, .bool false, .string ⟨#[]⟩, .int .i64 0, .int .i64 0, .slice none 0 0] 59)) (LW.out.below (b.alloc b.size _)) _ none none 1 0 0 (exB_lies U) (tleaf _ _ _)
  rw [of_ff] at this
  refine this.mono fun e u h => ?_
  obtain ⟨bu, A3, A4, A5, c3, c4, c5, rfl, hl⟩ := h
  refine ⟨bu, A3, A4, A5, c3, c4, c5, rfl, ?_⟩
  obtain ⟨B3, d3, B4, d4, B5, d5, e, _, r3, _⟩ := V.out.1 hl
  simp only [List.cons.injEq, Value.slice.injEq, true_and, and_true] at e
  obtain ⟨⟨rfl, rfl⟩, ⟨rfl, rfl⟩, rfl, rfl⟩ := e
  obtain ⟨g, o, cs, eA, hg, hl2, hc, hd⟩ := r3.at_ (i := 0) (by decide)
  have := hc 0 (by decide)
  rw [lies_i.1 hd] at this
  exact ⟨g, o, eA, hg.2, by simpa using this⟩
 have b0H := Lib.hid b0
 clear ls LW hL b0
 go_enter Tryz.func13, Tryz.ntmps13
 go_wp2_with fail
 have HW := Lib.hid hW
 simp only [exAW, exAO, lays] at hW
 rw [← hW]
 clear hW HW
 obtain ⟨_, _, _, _⟩ := B2.facts S0.out
 with_reducible refine (OF1.out _ (Below.refl _ _)).mono ?_
 rintro e w1 ⟨b1, A3, A4, A5, c3, c4, c5, rfl, g1, o1, rfl, lg1, y1⟩
 have s1 := b1.size
 obtain ⟨U1, hU1⟩ : ∃ U, U = w1.alloc (.cells #[.int .i64 13, .int .i64 0, .int .u64 0, .slice A3 0 c3, .slice (some ⟨g1, o1, none⟩) 1 c4, .slice A5 0 c5] 42) := ⟨_, rfl⟩
 have BU1 : Hid (Below w1.heap.size w1 U1) := by rw [hU1]; exact (Below.refl _ _).alloc (Nat.le_refl _) _
 have VB1 : Hid (B6 U1 w1.heap.size 42 (.int .i64 13) (.int .i64 0) (.int .u64 0) (.slice A3 0 c3) (.slice (some ⟨g1, o1, none⟩) 1 c4) (.slice A5 0 c5)) := by rw [hU1]; exact B6.newat rfl
 have ZU1 : Hid (U1.heap.size = w1.heap.size + 1) := by show _ = _; rw [hU1]; simp
 have BW1 : Hid (Below W.heap.size W U1) := b1.trans (BU1.out.mono s1)
 have S1 := Lib.hid (B2.below S0.out BW1.out S0.out.lt)
 obtain ⟨t0, t1, _, _⟩ := B2.facts (B2.below S0.out b1 S0.out.lt)
 have lw1 : w.heap.size + 2 < w1.heap.size := by omega
 have lw1b : ¬ w.heap.size + 2 = w1.heap.size := by omega
 go_wp2_with fail
 rw [← hU1]
 clear hU1
 with_reducible refine (OF0.out _ BW1.out).mono ?_
 rintro e w2 ⟨b2, B3, B4, B5, d3, d4, d5, rfl, _⟩
 have s2 := b2.size
 have zu1 := ZU1.out
 obtain ⟨U2, hU2⟩ : ∃ U, U = w2.alloc (.cells #[.int .i64 0, .int .i64 0, .int .u64 0, .slice B3 0 d3, .slice B4 0 d4, .slice B5 0 d5] 42) := ⟨_, rfl⟩
 have BU2 : Hid (Below w2.heap.size w2 U2) := by rw [hU2]; exact (Below.refl _ _).alloc (Nat.le_refl _) _
 have ZU2 : Hid (U2.heap.size = w2.heap.size + 1) := by show _ = _; rw [hU2]; simp
 have BW2 : Hid (Below W.heap.size W U2) := (BW1.out.trans (b2.mono BW1.out.size)).trans (BU2.out.mono (by omega))
 have VB2 := Lib.hid (B6.below (B6.below VB1.out b2 (by omega)) BU2.out (by omega))
 have Y2 : Hid (U2.cell? ⟨g1, o1 + 1, none⟩ = some (.int .i64 7)) := (((BU1.out.trans (b2.mono (by omega))).trans (BU2.out.mono (by omega))).cell lg1).trans y1
 have of2 := OF2.out U2 BW2.out
 rw [ZU2.out] at of2
 have OF2' := Lib.hid of2
 clear of2
 go_wp2_with fail
 rw [← hU2]
 clear hU2
 with_reducible refine OF2'.out.mono ?_
 rintro e w3 ⟨b3, C3, C4, C5, e3, e4, e5, rfl, g2, o2, rfl, lg2, y2⟩
 have s3 := b3.size
 have zu2 := ZU2.out
 have BA : Hid (Below U2.heap.size U2 w3) := ((Below.refl _ _).alloc (Nat.le_refl _) _).trans (b3.mono (by simp))
 have VB3 := Lib.hid (B6.below VB2.out BA.out (by omega))
 have Y3 : w3.cell? ⟨g1, o1 + 1, none⟩ = some (.int .i64 7) := (BA.out.cell (by show g1 < _; omega)).trans Y2.out
 have z3 := BA.out.size
 obtain ⟨_, _, _, _, _, _, _, _, _, _, _, _⟩ := B6.facts VB3.out
 have bw3 : Below w.heap.size w w3 := b0H.out.trans ((BW2.out.trans (BA.out.mono BW2.out.size)).mono b0H.out.size)
 have lv1 : w1.heap.size < w3.heap.size := by omega
 have lv2 : ¬ w1.heap.size = w3.heap.size := by omega
 have lv3 : g1 < w3.heap.size := by omega
 have lv4 : ¬ g1 = w3.heap.size := by omega
 have lv5 : ¬ g2 = w3.heap.size := by omega
 clear OF1 OF0 OF2 S0 S1 VB1 VB2 VB3 BU1 BU2 BW1 BW2 BA Y2 b1 b2 b3 b0H
 go_wp2_with fail
 go_ret
 exact told_ret rfl (bw3.alloc bw3.size _)
noncomputable def fldR (s : Sc) (i k : Int) : Except Int V := @ite _ (s.right ∧ (0 ≤ i ∧ i < (s.nodes.length : Int)) ∧ 0 ≤ k ∧ k < ((s.node i).fs.length : Int)) (Classical.propDecidable _) (match (s.node i).fs[k.toNat]? with | none => .error 2 | some f => if f.has = true then tellE (dtold s f.ty f.df) else .error 60) (.error 2)
theorem fldR_no {s : Sc} {i k : Int} (h : ¬ (s.right ∧ (0 ≤ i ∧ i < (s.nodes.length : Int)) ∧ 0 ≤ k ∧ k < ((s.node i).fs.length : Int))) : fldR s i k = .error 2 := by unfold fldR; rw [if_neg h]
theorem fldR_at {s : Sc} (h : s.right) {p q : Nat} (hp : p < s.nodes.length) (hq : q < (s.nodes[p]'hp).fs.length) : fldR s (p : Int) (q : Int) = if ((s.nodes[p]'hp).fs[q]'hq).has = true then tellE (dtold s ((s.nodes[p]'hp).fs[q]'hq).ty ((s.nodes[p]'hp).fs[q]'hq).df) else .error 60 := by
 have e : (s.node (p : Int)) = s.nodes[p]'hp := Sc.node_at hp
 unfold fldR
 rw [if_pos (show s.right ∧ (0 ≤ (p : Int) ∧ (p : Int) < (s.nodes.length : Int)) ∧ 0 ≤ (q : Int) ∧ (q : Int) < ((s.node (p : Int)).fs.length : Int) from ⟨h, ⟨by omega, by omega⟩, by omega, by rw [e]; omega⟩), e, Int.toNat_natCast, List.getElem?_eq_getElem hq]
theorem field_in {s : Sc} (h : ScG s) {p : Nat} (hp : p < s.nodes.length) {f : Fd} (hf : f ∈ (s.nodes[p]'hp).fs) : (s.nodes[p]'hp).k = 9 ∧ (0 ≤ f.ty ∧ f.ty < (s.nodes.length : Int)) ∧ JG f.df := by
 have ok := h.right.2.1 _ (List.getElem_mem hp)
 have k9 : (s.nodes[p]'hp).k = 9 := Classical.byContradiction fun g => by
  have := ok.2.2.2.1
  rw [if_neg g] at this
  rw [this] at hf
  cases hf
 exact ⟨k9, kid_in h.right.1 hp (by unfold Nd.kids; rw [if_pos k9]; exact List.mem_map_of_mem hf), h.df hp k9 hf⟩
theorem field13_any {s : Sc} (hm : s.sm) (hr : s.rng) (i k : Int) (w : World) (hL : LaidN w) (A : Option Addr) (c : Nat) (hs : Lies w (· < w.heap.size) s.enc [.slice A s.nodes.length c, .int .i64 s.root]) :
 Calls Tryz.prog 17 #[.agg #[.slice A s.nodes.length c, .int .i64 s.root], .int .i64 i, .int .i64 k] w (DP (fldR s i k) w) := by
 have CS := cell_set
 obtain ⟨_, _, e, la, ra⟩ := Sc.out.1 hs
 simp only [List.cons.injEq, Value.slice.injEq, true_and, and_true] at e
 obtain ⟨rfl, rfl⟩ := e
 obtain ⟨nn, hnn⟩ : ∃ m, m = s.nodes.length := ⟨_, rfl⟩
 obtain ⟨rt, hrt⟩ : ∃ m, m = s.root := ⟨_, rfl⟩
 obtain ⟨W, hW⟩ : ∃ W, W = ((w.alloc (.cells #[.slice A nn c, .int .i64 rt] 30)).alloc (.cells #[.int .i64 0, .int .i64 0, .int .u64 0, .slice none 0 0, .slice none 0 0, .slice none 0 0] 42)) := ⟨_, rfl⟩
 have ZS : Hid (W.heap.size = w.heap.size + 2) := by show _ = _; rw [hW]; simp
 have BW : Hid (Below w.heap.size w W) := by rw [hW]; exact ((Below.refl _ _).alloc (Nat.le_refl _) _).alloc (by simp) _
 have W2 : Hid (B2 W w.heap.size 30 (.slice A nn c) (.int .i64 rt)) := by rw [hW]; exact (B2.newat rfl).alloc _
 have W6 : Hid (B6 W (w.heap.size + 1) 42 (.int .i64 0) (.int .i64 0) (.int .u64 0) (.slice none 0 0) (.slice none 0 0) (.slice none 0 0)) := by rw [hW]; exact B6.newat (by simp)
 have SR := Lib.hid (fun W (b : Below w.heap.size w W) => sRightT_any s hm W (LaidN.below hL b) A c (hs.on b))
 have TC : Hid (∀ (q1 : s.right) (p : Nat) (hp : p < s.nodes.length) (f : Fd), f ∈ (s.nodes[p]'hp).fs → ∀ W, Below w.heap.size w W → ∀ D3 D4 d3 d4, TreeS W (· < W.heap.size) f.df [.int .i64 f.df.k, .int .i64 f.df.n, .string f.df.t, .slice D3 f.df.its.length d3, .slice D4 f.df.ks.length d4] → Calls Tryz.prog 37 #[.slice A nn c, .int .i64 f.ty, .agg #[.int .i64 f.df.k, .int .i64 f.df.n, .string f.df.t, .slice D3 f.df.its.length d3, .slice D4 f.df.ks.length d4]] W (DP (tellE (dtold s f.ty f.df)) W)) := fun q1 p hp f hf W b D3 D4 d3 d4 ht => by
  obtain ⟨k9, hi, hj⟩ := field_in ⟨q1, hr, hm⟩ hp hf
  rw [hnn]
  exact told13_any ⟨q1, hr, hm⟩ f.ty hi.1 hi.2 f.df hj W (LaidN.below hL b) A c la ((ra.below b).more b.size) D3 D4 d3 d4 ht
 have AM := Lib.hid (dAmong_pure i (nn : Int))
 have AK := Lib.hid (fun z => dAmong_pure k z)
 have RA := Lib.hid ra
 have HM := Lib.hid hm
 obtain ⟨R, hR⟩ : ∃ R, R = fldR s i k := ⟨_, rfl⟩
 have HX : Hid (¬ (s.right ∧ (0 ≤ i ∧ i < (s.nodes.length : Int)) ∧ 0 ≤ k ∧ k < ((s.node i).fs.length : Int)) → R = .error 2) := fun h => hR.trans (fldR_no h)
 have HY : Hid (∀ (h : s.right) (p q : Nat) (hp : p < s.nodes.length) (hq : q < (s.nodes[p]'hp).fs.length), i = (p : Int) → k = (q : Int) → R = if ((s.nodes[p]'hp).fs[q]'hq).has = true then tellE (dtold s ((s.nodes[p]'hp).fs[q]'hq).ty ((s.nodes[p]'hp).fs[q]'hq).df) else .error 60) := fun h p q hp hq e1 e2 => by rw [hR, e1, e2]; exact fldR_at h hp hq
 rw [← hR]
 have HNN := Lib.hid hnn
 rw [← hnn] at SR HX ⊢
 rw [← hrt] at SR ⊢
 have nmax : nn ≤ 9223372036854775807 := by have := la.2; unfold maxLen at this; omega
 clear hR hs hL hm hr la ra hnn hrt
 go_enter Tryz.func17, Tryz.ntmps17
 go_wp2_with fail
 rw [← hW]
 clear hW
 with_reducible refine (SR.out _ BW.out).mono ?_
 rintro e w1 ⟨b, rfl, hbb, b1⟩
 have s1 := b1.size
 rw [ZS.out] at s1
 have BW1 : Hid (Below w.heap.size w w1) := BW.out.trans (b1.mono BW.out.size)
 have Y2 := Lib.hid (B2.below W2.out b1 W2.out.lt)
 have Y6 := Lib.hid (B6.below W6.out b1 W6.out.lt)
 obtain ⟨_, _, _, _⟩ := B2.facts Y2.out
 obtain ⟨_, _, _, _, _, _, _, _, _, _, _, _⟩ := B6.facts Y6.out
 have HBB := Lib.hid hbb
 have bw1 := BW1.out
 clear hbb b1 W2 W6
 cases b with
 | false =>
  have Z : Hid (R = .error 2) := HX.out fun h => by have := HBB.out.2 h.1; cases this
  clear HX HY TC AM AK HBB
  go_wp2_with fail
  try simp only [Exit.inBlock, Exit.then]
  refine post_V2 (x0 := .int .i64 0) (x1 := .int .i64 0) (x2 := .int .u64 0) (x3 := .slice none 0 0) (x4 := .slice none 0 0) (x5 := .slice none 0 0) rfl rfl rfl (by go_simp) (by go_simp) (by go_simp) (by go_simp) (by go_simp) (by go_simp) ?_
  exact dp_no Z.out (by first | rfl | simp [Act.eval]) bqq
 | true =>
  have HQ := Lib.hid (HBB.out.1 (by first | rfl | trivial))
  clear HBB
  by_cases ha : 0 ≤ i ∧ i < (nn : Int)
  rotate_left
  · have Z : Hid (R = .error 2) := HX.out fun h => ha h.2.1
    rw [show decide (0 ≤ i ∧ i < (nn : Int)) = false by simpa using ha] at AM
    clear HX HY TC AK ha
    go_wp2_with fail
    with_reducible refine (AM.out _).mono ?_
    rintro e w3 ⟨rfl, rfl⟩
    go_wp2_with fail
    try simp only [Exit.inBlock, Exit.then]
    refine post_V2 (x0 := .int .i64 0) (x1 := .int .i64 0) (x2 := .int .u64 0) (x3 := .slice none 0 0) (x4 := .slice none 0 0) (x5 := .slice none 0 0) rfl rfl rfl (by go_simp) (by go_simp) (by go_simp) (by go_simp) (by go_simp) (by go_simp) ?_
    exact dp_no Z.out (by first | rfl | simp [Act.eval]) bqq
  rw [show decide (0 ≤ i ∧ i < (nn : Int)) = true by simpa using ha] at AM
  obtain ⟨p, rfl⟩ : ∃ p : Nat, i = (p : Int) := ⟨i.toNat, by omega⟩
  have hp : p < s.nodes.length := by rw [← HNN.out]; omega
  have hpn : (p : Int) < (nn : Int) := ha.2
  obtain ⟨g1, o1, X2, x2, X3, x3, X4, x4, X9, x9, e1, hg1, ⟨_, _, _, u3, _, _, _, _, _, _⟩, hnd⟩ := nodes_at (RA.out.below BW1.out) hp
  have RF := (Nd.out.1 hnd)
  obtain ⟨_, _, Y3, y3, _, _, _, _, en, _, _, lf, rf, _, _, _, _⟩ := RF
  simp only [List.cons.injEq, Value.slice.injEq, true_and, and_true] at en
  obtain ⟨-, ⟨rfl, rfl⟩, -, -⟩ := en
  have HX2 : Hid (¬ (0 ≤ k ∧ k < ((s.nodes[p]'hp).fs.length : Int)) → R = .error 2) := fun h => HX.out fun q => h (by have := q.2.2; rw [Sc.node_at hp] at this; exact this)
  have HY2 : Hid (∀ (q : Nat) (hq : q < (s.nodes[p]'hp).fs.length), k = (q : Int) → R = if ((s.nodes[p]'hp).fs[q]'hq).has = true then tellE (dtold s ((s.nodes[p]'hp).fs[q]'hq).ty ((s.nodes[p]'hp).fs[q]'hq).df) else .error 60) := fun q hq e => HY.out HQ.out p q hp hq rfl e
  have TC1 : Hid (∀ f, f ∈ (s.nodes[p]'hp).fs → ∀ W, Below w.heap.size w W → ∀ D3 D4 d3 d4, TreeS W (· < W.heap.size) f.df [.int .i64 f.df.k, .int .i64 f.df.n, .string f.df.t, .slice D3 f.df.its.length d3, .slice D4 f.df.ks.length d4] → Calls Tryz.prog 37 #[.slice A nn c, .int .i64 f.ty, .agg #[.int .i64 f.df.k, .int .i64 f.df.n, .string f.df.t, .slice D3 f.df.its.length d3, .slice D4 f.df.ks.length d4]] W (DP (tellE (dtold s f.ty f.df)) W)) := TC.out HQ.out p hp
  generalize s.nodes[p]'hp = nd at *
  obtain ⟨nf, hnf⟩ : ∃ m, m = nd.fs.length := ⟨_, rfl⟩
  rw [← hnf] at u3 lf HX2
  have lfm := lf.2
  unfold maxLen at lfm
  have lg1 : g1 < w.heap.size := hg1
  subst e1
  have HX3 := Lib.hid hnf
  have AKF := Lib.hid (AK.out (nf : Int))
  clear hnd ha HX HY TC
  by_cases hk : 0 ≤ k ∧ k < (nf : Int)
  rotate_left
  · have Z : Hid (R = .error 2) := HX2.out hk
    rw [show decide (0 ≤ k ∧ k < (nf : Int)) = false by simpa using hk] at AKF
    clear HX2 HY2 TC1 hk hnf rf lf
    go_wp2_with fail
    with_reducible refine (AM.out _).mono ?_
    rintro e w3 ⟨rfl, rfl⟩
    go_wp2_with fail
    with_reducible refine (AKF.out _).mono ?_
    rintro e w3 ⟨rfl, rfl⟩
    go_wp2_with fail
    try simp only [Exit.inBlock, Exit.then]
    refine post_V2 (x0 := .int .i64 0) (x1 := .int .i64 0) (x2 := .int .u64 0) (x3 := .slice none 0 0) (x4 := .slice none 0 0) (x5 := .slice none 0 0) rfl rfl rfl (by go_simp) (by go_simp) (by go_simp) (by go_simp) (by go_simp) (by go_simp) ?_
    exact dp_no Z.out (by first | rfl | simp [Act.eval]) bqq
  rw [show decide (0 ≤ k ∧ k < (nf : Int)) = true by simpa using hk] at AKF
  obtain ⟨q, rfl⟩ : ∃ q : Nat, k = (q : Int) := ⟨k.toNat, by omega⟩
  have hq : q < nd.fs.length := by omega
  have hqn : (q : Int) < (nf : Int) := hk.2
  obtain ⟨g2, o2, A1, c1, D3, d3, D4, d4, e2, hg2, ⟨f0, f1, f2, f3, f4, f5, f6, f7, f8⟩, _, _, tx⟩ := fields_at rf hq
  have HR2 := Lib.hid (HY2.out q hq rfl)
  have TC2 := Lib.hid (TC1.out _ (List.getElem_mem hq))
  generalize nd.fs[q]'hq = T at *
  generalize T.has = tb at *
  subst e2
  have lg2 : g2 < w.heap.size := hg2
  have TX := Lib.hid tx
  have BA : Hid (Below w1.heap.size w1 (w1.alloc (.cells #[.string T.name, .slice A1 T.al.length c1, .int .i64 T.ty, .bool tb, .int .i64 T.df.k, .int .i64 T.df.n, .string T.df.t, .slice D3 T.df.its.length d3, .slice D4 T.df.ks.length d4] 61))) := (Below.refl _ _).alloc (Nat.le_refl _) _
  have BWA : Hid (Below w.heap.size w (w1.alloc (.cells #[.string T.name, .slice A1 T.al.length c1, .int .i64 T.ty, .bool tb, .int .i64 T.df.k, .int .i64 T.df.n, .string T.df.t, .slice D3 T.df.its.length d3, .slice D4 T.df.ks.length d4] 61))) := bw1.trans (BA.out.mono bw1.size)
  have Z6 := Lib.hid (B6.alloc Y6.out (.cells #[.string T.name, .slice A1 T.al.length c1, .int .i64 T.ty, .bool tb, .int .i64 T.df.k, .int .i64 T.df.n, .string T.df.t, .slice D3 T.df.its.length d3, .slice D4 T.df.ks.length d4] 61))
  have TC3 := Lib.hid (TC2.out _ BWA.out D3 D4 d3 d4 (TreeS.keep (fun p hp => BA.out.cell (by have : p.block < w.heap.size := hp; omega)) (fun b hb => by have : b < w.heap.size := hb; simp; omega) TX.out))
  have bwa := BWA.out
  have lz6 := Z6.out.lt
  clear HX2 HY2 TC1 TC2 hk hnf rf lf tx hq
  have lr8 : w.heap.size < w1.heap.size := by omega
  have lr9 : ¬ w.heap.size = w1.heap.size := by omega
  have lr6 : w.heap.size + 1 < w1.heap.size := by omega
  have lr7 : ¬ w.heap.size + 1 = w1.heap.size := by omega
  cases tb with
  | false =>
   have Z : Hid (R = .error 60) := HR2.out
   clear HR2 TC3
   go_wp2_with fail
   with_reducible refine (AM.out _).mono ?_
   rintro e w3 ⟨rfl, rfl⟩
   go_wp2_with fail
   with_reducible refine (AKF.out _).mono ?_
   rintro e w3 ⟨rfl, rfl⟩
   go_wp2_with fail
   try simp only [Exit.inBlock, Exit.then]
   refine post_V2 (x0 := .int .i64 0) (x1 := .int .i64 0) (x2 := .int .u64 0) (x3 := .slice none 0 0) (x4 := .slice none 0 0) (x5 := .slice none 0 0) rfl rfl rfl (by go_simp) (by go_simp) (by go_simp) (by go_simp) (by go_simp) (by go_simp) ?_
   exact dp_no Z.out (by first | rfl | simp [Act.eval]) bqq
  | true =>
  have Z0 : Hid (R = tellE (dtold s T.ty T.df)) := HR2.out
  obtain ⟨r, hr⟩ : ∃ r, r = tellE (dtold s T.ty T.df) := ⟨_, rfl⟩
  rw [← hr] at TC3 Z0
  have Z : Hid (R = r) := Z0.out
  clear HR2 hr Z0
  go_wp2_with fail
  with_reducible refine (AM.out _).mono ?_
  rintro e w3 ⟨rfl, rfl⟩
  go_wp2_with fail
  with_reducible refine (AKF.out _).mono ?_
  rintro e w3 ⟨rfl, rfl⟩
  go_wp2_with fail
  with_reducible refine TC3.out.mono ?_
  rintro e w5 ⟨b5, Z3, Z4, Z5, q3, q4, q5, rfl, hlv⟩
  have s5 := b5.size
  have BW5 : Hid (Below w.heap.size w w5) := BWA.out.trans (b5.mono BWA.out.size)
  have V6 := Lib.hid (B6.below Z6.out b5 lz6)
  have l7 := V6.out.lt
  obtain ⟨_, _, _, _, _, _, _, _, _, _, _, _⟩ := B6.facts V6.out
  have bw5 := BW5.out
  obtain ⟨vk, hvk⟩ : ∃ x, x = (resV r).k := ⟨_, rfl⟩
  obtain ⟨vn, hvn⟩ : ∃ x, x = (resV r).n := ⟨_, rfl⟩
  obtain ⟨vb, hvb⟩ : ∃ x, x = (resV r).bt := ⟨_, rfl⟩
  obtain ⟨z3, hz3⟩ : ∃ x, x = (resV r).bs.length := ⟨_, rfl⟩
  obtain ⟨z4, hz4⟩ : ∃ x, x = (resV r).its.length := ⟨_, rfl⟩
  obtain ⟨z5, hz5⟩ : ∃ x, x = (resV r).ks.length := ⟨_, rfl⟩
  obtain ⟨er, her⟩ : ∃ x, x = resE r := ⟨_, rfl⟩
  rw [← hvk, ← hvn, ← hvb, ← hz3, ← hz4, ← hz5] at hlv ⊢
  rw [← her]
  have HE : Hid (vk = (resV r).k ∧ vn = (resV r).n ∧ vb = (resV r).bt ∧ z3 = (resV r).bs.length ∧ z4 = (resV r).its.length ∧ z5 = (resV r).ks.length ∧ er = resE r) := ⟨hvk, hvn, hvb, hz3, hz4, hz5, her⟩
  have HLV := Lib.hid hlv
  clear hvk hvn hvb hz3 hz4 hz5 her hlv
  clear TC3 Z6 V6 b5 AM AKF
  go_wp2_with fail
  try simp only [Exit.inBlock, Exit.then]
  refine post_V2 (x0 := .int .i64 vk) (x1 := .int .i64 vn) (x2 := .int .u64 vb) (x3 := .slice Z3 z3 q3) (x4 := .slice Z4 z4 q4) (x5 := .slice Z5 z5 q5) rfl rfl rfl (by go_simp) (by go_simp) (by go_simp) (by go_simp) (by go_simp) (by go_simp) ?_
  exact dp_pass (G := w.heap.size + 1) Z.out lz6 BWA.out.size bqq HE.out HLV.out _ (by first | rfl | simp [Act.eval])
end Go.Proofs.YthfoomobicbcpaaGreatDoor
