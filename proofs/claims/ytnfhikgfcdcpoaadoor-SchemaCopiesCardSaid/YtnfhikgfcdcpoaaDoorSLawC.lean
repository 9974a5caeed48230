/- The laws of layer 10, walked: copies. -/
import Derived.Test.YtnfhikgfcdcpoaaDoorSLaw
import Derived.Test.YtnfhikgfcdcpoaaDoorSReg
import Derived.Test.YtnfhikgfcdcpoaaDoorSSame
namespace Go.Proofs.YtnfhikgfcdcpoaaDoor
open Go.ChangeShapes Go.WideShapes Go.ChangeAt Go.RowKit Mem

/-- The frame at the region of the two copies. -/
def frC (sv p1 v3 v4 v11 v12 v13 v14 : Value) : Act := { tmps := #[sv, p1, .bool false, v3, v4, undef, undef, undef, sv, .bool false, undef, v11, v12, v13, v14, undef, undef, undef, undef, undef, undef, undef, undef, undef, undef, undef, undef, undef, undef, undef, undef, undef, undef, undef, undef, undef, undef, undef, undef, undef, undef, undef, undef, undef, undef, undef, undef, undef, undef, undef, undef, undef, undef, undef, undef, undef, undef, undef, undef, undef, undef, undef, undef, undef, undef, undef, undef, undef, undef, undef, undef, undef, undef, undef, undef, undef], defers := [] }
/-- What holds in the region of the two copies, whichever of its operations are done. -/
def InvC (sc : Sc) (base : Nat) (w0 : World) (sv p1 : Value) (l : Array Bool) (a : Act) (W : World) : Prop :=
  ∃ b0 b1 b2 b3 b4 b5 b6 b7 v3 v4 v11 v12 v13 v14 l1 h1 l2 h2 l3 h3 l4 h4, l = #[b0, b1, b2, b3, b4, b5, b6, b7] ∧ a = frC sv p1 v3 v4 v11 v12 v13 v14 ∧
    Sides sc base w0 W b1 b4 b6 v12 v3 l1 h1 l3 h3 b3 b5 b7 v14 v4 l2 h2 l4 h4 ∧ (b0 = true → v11 = sv) ∧ (b2 = true → v13 = sv)
theorem side_none (sc : Sc) (base : Nat) (w : World) (v u : Value) : Side sc base w false false false v u 0 0 0 0 := ⟨(fun h => by cases h), (fun h => by cases h), (fun h => by cases h), Nat.zero_le _, Nat.zero_le _, .inl (Nat.le_refl _)⟩

set_option maxRecDepth 100000 in
set_option maxHeartbeats 8000000 in
theorem schemaCopies_walk (sc : Sc) (w : World) (A : Option Addr) (c : Nat) (hs : Lies w (· < w.heap.size) sc.enc [.slice A sc.nodes.length c, .int .i64 sc.root]) (hL : LaidN w) :
    Calls Tryd.prog 3 #[.agg #[.slice A sc.nodes.length c, .int .i64 sc.root]] w fun e w' => e = .returned (.bool true) ∧ Below w.heap.size w w' := by
  have CS := cell_set
  have HS := Lib.hid (fun W (b : Below w.heap.size w W) => (hs.below b).more b.size)
  have WK := Lib.hid (fun W (b : Below w.heap.size w W) => works10_any W (hL.below b))
  have GR := Lib.hid (fun W b => sgreat_any sc W A c (HS.out W b))
  have CP := Lib.hid (fun (sm : sc.sm) W b => sCopy_any sc sm W A c (HS.out W b))
  have SA := Lib.hid (fun W (b : Below w.heap.size w W) B d hb => rSame_eq sc W B A d c hb (HS.out W b))
  have W1 : Below w.heap.size w (w.alloc (.cells #[.slice A sc.nodes.length c, .int .i64 sc.root] 24)) := (Below.refl _ _).alloc (Nat.le_refl _) _
  have gz1 : (w.alloc (.cells #[.slice A sc.nodes.length c, .int .i64 sc.root] 24)).heap.size = w.heap.size + 1 := by simp
  have GZ1 := Lib.hid gz1
  clear hs gz1 HS
  go_enter Tryd.func3, Tryd.ntmps3
  go_wp2_with fail
  with_reducible refine (GR.out _ W1).mono ?_
  rintro e w2 ⟨gj, rfl, hgj, b2⟩
  have HGJ := Lib.hid hgj
  clear hgj
  have hOwn0 := (b2.cell (p := ⟨w.heap.size, 0, none⟩) (by rw [GZ1.out]; exact Nat.lt_succ_self _)).trans (by go_simp : _ = some (Value.slice A sc.nodes.length c))
  have hOwn1c := (b2.cell (p := ⟨w.heap.size, 1, none⟩) (by rw [GZ1.out]; exact Nat.lt_succ_self _)).trans (by go_simp : _ = some (Value.int .i64 sc.root))
  rw [GZ1.out] at b2
  have z2 := b2.size
  rw [GZ1.out] at z2
  have bw2 : Below w.heap.size w w2 := W1.trans (b2.mono (by omega))
  have hOwn := Nat.lt_of_lt_of_le (n := w.heap.size) (by first | exact Nat.le_refl _ | assumption | (simp; done) | (simp; omega) | omega) (Below.size b2)
  have hOwn1 := Nat.ne_of_gt hOwn
  have hOwn2 := Nat.ne_of_lt hOwn
  have hOwn := (Below.cell b2 (p := ⟨w.heap.size, 0, none⟩) (by first | exact Nat.le_refl _ | assumption | (simp; done) | (simp; omega) | omega)).trans (by go_simp; rfl)
  have hOwn := (Below.cell b2 (p := ⟨w.heap.size, 1, none⟩) (by first | exact Nat.le_refl _ | assumption | (simp; done) | (simp; omega) | omega)).trans (by go_simp; rfl)
  have hOwn := (Below.frozen b2 (p := ⟨w.heap.size, 0, none⟩) (by first | exact Nat.le_refl _ | assumption | (simp; done) | (simp; omega) | omega)).trans (by go_simp; rfl)
  have hOwn := (Below.frozen b2 (p := ⟨w.heap.size, 1, none⟩) (by first | exact Nat.le_refl _ | assumption | (simp; done) | (simp; omega) | omega)).trans (by go_simp; rfl)
  cases gj with
  | true =>
    go_wp2_with fail
    with_reducible refine (WK.out _ bw2).mono ?_
    rintro e w3 ⟨rfl, b3⟩
    go_wp2_with fail
    go_ret
    exact ⟨rfl, bw2.trans (b3.mono bw2.size)⟩
  | false =>
    have CPS := Lib.hid (CP.out (by first | exact HGJ.out rfl | exact HGJ.out trivial))
    clear CP HGJ
    go_wp2_with fail
    refine wp_region_inv (InvC sc (w.heap.size + 1) w2 (.agg #[.slice A sc.nodes.length c, .int .i64 sc.root]) (.pointer (some ⟨w.heap.size, 0, none⟩))) (by kernel_rfl) ?_ ?_ ?_
    · exact ⟨false, false, false, false, false, false, false, false, undef, undef, undef, undef, undef, undef, 0, 0, 0, 0, 0, 0, 0, 0, rfl, rfl, ⟨(Below.refl _ _).drew, side_none .., side_none .., .inl (Nat.le_refl _), .inl (Nat.le_refl _), .inl (Nat.le_refl _), .inl (Nat.le_refl _)⟩, (fun h => by cases h), (fun h => by cases h)⟩
    · rintro l a W ⟨b0, b1, b2, b3, b4, b5, b6, b7, v3, v4, v11, v12, v13, v14, l1, h1, l2, h2, l3, h3, l4, h4, rfl, rfl, HI, hv0, hv2⟩ i o ho hg haf K hK
      have bel := HI.bel
      have x0 := (bel.cell (p := ⟨w.heap.size, 0, none⟩) (Nat.lt_succ_self _)).trans hOwn0
      have x1 := (bel.cell (p := ⟨w.heap.size, 1, none⟩) (Nat.lt_succ_self _)).trans hOwn1c
      have bW : Below w.heap.size w W := bw2.trans (bel.mono (Nat.le_succ _))
      have hi : i < 8 := by
        rcases Nat.lt_or_ge i 8 with g | g
        · exact g
        · rw [List.getElem?_toArray, List.getElem?_eq_none (by simpa using g)] at ho
          cases ho
      have HI2 := Lib.hid HI
      have HV0 := Lib.hid hv0
      have HV2 := Lib.hid hv2
      clear HI hv0 hv2
      have AF := fun k e (hk : o.after[k]? = some e) (hb : Region.binds .any e = true) => haf e (Array.mem_iff_getElem?.2 ⟨k, hk⟩) hb
      clear haf
      obtain rfl | rfl | rfl | rfl | rfl | rfl | rfl | rfl : i = 0 ∨ i = 1 ∨ i = 2 ∨ i = 3 ∨ i = 4 ∨ i = 5 ∨ i = 6 ∨ i = 7 := by omega
      · obtain rfl := Option.some.inj ho
        obtain rfl : b0 = false := hg
        clear AF
        unfold frC
        go_simp
        exact hK.out _ _ ⟨true, b1, b2, b3, b4, b5, b6, b7, v3, v4, .agg #[.slice A sc.nodes.length c, .int .i64 sc.root], v12, v13, v14, l1, h1, l2, h2, l3, h3, l4, h4, rfl, rfl, HI2.out, (fun _ => rfl), HV2.out⟩
      · obtain rfl := Option.some.inj ho
        obtain rfl : b1 = false := hg
        have e0 : b0 = true := AF 0 _ rfl rfl
        obtain rfl := HV0.out e0
        clear AF
        unfold frC
        go_simp
        go_wp2_with ((go_at_call 8; refine (CPS.out _ bW).mono ?_; rintro e w1 ⟨v, rfl, cp, bb⟩))
        exact hK.out _ _ ⟨b0, true, b2, b3, b4, b5, b6, b7, v3, v4, _, v, v13, v14, _, _, l2, h2, l3, h3, l4, h4, rfl, rfl, HI2.out.copy z2 bb cp, (fun _ => rfl), HV2.out⟩
      · obtain rfl := Option.some.inj ho
        obtain rfl : b2 = false := hg
        clear AF
        unfold frC
        go_simp
        exact hK.out _ _ ⟨b0, b1, true, b3, b4, b5, b6, b7, v3, v4, v11, v12, .agg #[.slice A sc.nodes.length c, .int .i64 sc.root], v14, l1, h1, l2, h2, l3, h3, l4, h4, rfl, rfl, HI2.out, HV0.out, (fun _ => rfl)⟩
      · obtain rfl := Option.some.inj ho
        obtain rfl : b3 = false := hg
        have e0 : b2 = true := AF 0 _ rfl rfl
        obtain rfl := HV2.out e0
        clear AF
        unfold frC
        go_simp
        go_wp2_with ((go_at_call 8; refine (CPS.out _ bW).mono ?_; rintro e w1 ⟨v, rfl, cp, bb⟩))
        exact hK.out _ _ ⟨b0, b1, b2, true, b4, b5, b6, b7, v3, v4, v11, v12, _, v, l1, h1, _, _, l3, h3, l4, h4, rfl, rfl, (HI2.out.swap.copy z2 bb cp).swap, HV0.out, (fun _ => rfl)⟩
      · obtain rfl := Option.some.inj ho
        obtain rfl : b4 = false := hg
        clear AF
        unfold frC
        go_simp
        exact hK.out _ _ ⟨b0, b1, b2, b3, true, b5, b6, b7, _, v4, v11, v12, v13, v14, l1, h1, l2, h2, _, _, l4, h4, rfl, rfl, HI2.out.box z2 _ _ _, HV0.out, HV2.out⟩
      · obtain rfl := Option.some.inj ho
        obtain rfl : b5 = false := hg
        clear AF
        unfold frC
        go_simp
        exact hK.out _ _ ⟨b0, b1, b2, b3, b4, true, b6, b7, v3, _, v11, v12, v13, v14, l1, h1, l2, h2, l3, h3, _, _, rfl, rfl, (HI2.out.swap.box z2 _ _ _).swap, HV0.out, HV2.out⟩
      · obtain rfl := Option.some.inj ho
        obtain rfl : b6 = false := hg
        obtain rfl : b4 = true := AF 0 _ rfl rfl
        obtain rfl : b1 = true := AF 1 _ rfl rfl
        obtain ⟨A1, c1, S1, e12, _⟩ := (HI2.out.one.cp rfl).1
        obtain ⟨e3, _, ⟨y0, hy0⟩, ⟨y1, hy1⟩, f0, f1⟩ := (HI2.out.one.bx rfl).1
        have PT := Lib.hid (HI2.out.put e12)
        obtain rfl := e12
        obtain rfl := e3
        clear AF
        unfold frC
        go_simp
        exact hK.out _ _ ⟨b0, true, b2, b3, true, b5, true, b7, _, v4, v11, _, v13, v14, l1, h1, l2, h2, l3, h3, l4, h4, rfl, rfl, PT.out, HV0.out, HV2.out⟩
      · obtain rfl := Option.some.inj ho
        obtain rfl : b7 = false := hg
        obtain rfl : b5 = true := AF 0 _ rfl rfl
        obtain rfl : b3 = true := AF 1 _ rfl rfl
        obtain ⟨A1, c1, S1, e12, _⟩ := (HI2.out.two.cp rfl).1
        obtain ⟨e3, _, ⟨y0, hy0⟩, ⟨y1, hy1⟩, f0, f1⟩ := (HI2.out.two.bx rfl).1
        have PT := Lib.hid ((HI2.out.swap.put e12).swap)
        obtain rfl := e12
        obtain rfl := e3
        clear AF
        unfold frC
        go_simp
        exact hK.out _ _ ⟨b0, b1, b2, true, b4, true, b6, true, v3, _, v11, v12, v13, _, l1, h1, l2, h2, l3, h3, l4, h4, rfl, rfl, PT.out, HV0.out, HV2.out⟩
    · rintro l a W ⟨b0, b1, b2, b3, b4, b5, b6, b7, v3, v4, v11, v12, v13, v14, l1, h1, l2, h2, l3, h3, l4, h4, rfl, rfl, HI, hv0, hv2⟩ hall
      obtain rfl : b0 = true := hall 0 _ rfl (fun e he hb => by
        obtain ⟨k, hk⟩ := Array.mem_iff_getElem?.1 he
        have kl : k < 10 := by
          rcases Nat.lt_or_ge k 10 with g | g
          · exact g
          · rw [List.getElem?_toArray, List.getElem?_eq_none (by first | (simp; done) | (simp; omega))] at hk
            cases hk
        obtain rfl | rfl | rfl | rfl | rfl | rfl | rfl | rfl | rfl | rfl : k = 0 ∨ k = 1 ∨ k = 2 ∨ k = 3 ∨ k = 4 ∨ k = 5 ∨ k = 6 ∨ k = 7 ∨ k = 8 ∨ k = 9 := by omega
        all_goals first
          | (obtain rfl := Option.some.inj hk; first | rfl | cases hb)
          | cases hk)
      obtain rfl : b2 = true := hall 2 _ rfl (fun e he hb => by
        obtain ⟨k, hk⟩ := Array.mem_iff_getElem?.1 he
        have kl : k < 10 := by
          rcases Nat.lt_or_ge k 10 with g | g
          · exact g
          · rw [List.getElem?_toArray, List.getElem?_eq_none (by first | (simp; done) | (simp; omega))] at hk
            cases hk
        obtain rfl | rfl | rfl | rfl | rfl | rfl | rfl | rfl | rfl | rfl : k = 0 ∨ k = 1 ∨ k = 2 ∨ k = 3 ∨ k = 4 ∨ k = 5 ∨ k = 6 ∨ k = 7 ∨ k = 8 ∨ k = 9 := by omega
        all_goals first
          | (obtain rfl := Option.some.inj hk; first | rfl | cases hb)
          | cases hk)
      obtain rfl : b4 = true := hall 4 _ rfl (fun e he hb => by
        obtain ⟨k, hk⟩ := Array.mem_iff_getElem?.1 he
        have kl : k < 10 := by
          rcases Nat.lt_or_ge k 10 with g | g
          · exact g
          · rw [List.getElem?_toArray, List.getElem?_eq_none (by first | (simp; done) | (simp; omega))] at hk
            cases hk
        obtain rfl | rfl | rfl | rfl | rfl | rfl | rfl | rfl | rfl | rfl : k = 0 ∨ k = 1 ∨ k = 2 ∨ k = 3 ∨ k = 4 ∨ k = 5 ∨ k = 6 ∨ k = 7 ∨ k = 8 ∨ k = 9 := by omega
        all_goals first
          | (obtain rfl := Option.some.inj hk; first | rfl | cases hb)
          | cases hk)
      obtain rfl : b5 = true := hall 5 _ rfl (fun e he hb => by
        obtain ⟨k, hk⟩ := Array.mem_iff_getElem?.1 he
        have kl : k < 10 := by
          rcases Nat.lt_or_ge k 10 with g | g
          · exact g
          · rw [List.getElem?_toArray, List.getElem?_eq_none (by first | (simp; done) | (simp; omega))] at hk
            cases hk
        obtain rfl | rfl | rfl | rfl | rfl | rfl | rfl | rfl | rfl | rfl : k = 0 ∨ k = 1 ∨ k = 2 ∨ k = 3 ∨ k = 4 ∨ k = 5 ∨ k = 6 ∨ k = 7 ∨ k = 8 ∨ k = 9 := by omega
        all_goals first
          | (obtain rfl := Option.some.inj hk; first | rfl | cases hb)
          | cases hk)
      obtain rfl : b1 = true := hall 1 _ rfl (fun e he hb => by
        obtain ⟨k, hk⟩ := Array.mem_iff_getElem?.1 he
        have kl : k < 10 := by
          rcases Nat.lt_or_ge k 10 with g | g
          · exact g
          · rw [List.getElem?_toArray, List.getElem?_eq_none (by first | (simp; done) | (simp; omega))] at hk
            cases hk
        obtain rfl | rfl | rfl | rfl | rfl | rfl | rfl | rfl | rfl | rfl : k = 0 ∨ k = 1 ∨ k = 2 ∨ k = 3 ∨ k = 4 ∨ k = 5 ∨ k = 6 ∨ k = 7 ∨ k = 8 ∨ k = 9 := by omega
        all_goals first
          | (obtain rfl := Option.some.inj hk; first | rfl | cases hb)
          | cases hk)
      obtain rfl : b3 = true := hall 3 _ rfl (fun e he hb => by
        obtain ⟨k, hk⟩ := Array.mem_iff_getElem?.1 he
        have kl : k < 10 := by
          rcases Nat.lt_or_ge k 10 with g | g
          · exact g
          · rw [List.getElem?_toArray, List.getElem?_eq_none (by first | (simp; done) | (simp; omega))] at hk
            cases hk
        obtain rfl | rfl | rfl | rfl | rfl | rfl | rfl | rfl | rfl | rfl : k = 0 ∨ k = 1 ∨ k = 2 ∨ k = 3 ∨ k = 4 ∨ k = 5 ∨ k = 6 ∨ k = 7 ∨ k = 8 ∨ k = 9 := by omega
        all_goals first
          | (obtain rfl := Option.some.inj hk; first | rfl | cases hb)
          | cases hk)
      obtain rfl : b6 = true := hall 6 _ rfl (fun e he hb => by
        obtain ⟨k, hk⟩ := Array.mem_iff_getElem?.1 he
        have kl : k < 10 := by
          rcases Nat.lt_or_ge k 10 with g | g
          · exact g
          · rw [List.getElem?_toArray, List.getElem?_eq_none (by first | (simp; done) | (simp; omega))] at hk
            cases hk
        obtain rfl | rfl | rfl | rfl | rfl | rfl | rfl | rfl | rfl | rfl : k = 0 ∨ k = 1 ∨ k = 2 ∨ k = 3 ∨ k = 4 ∨ k = 5 ∨ k = 6 ∨ k = 7 ∨ k = 8 ∨ k = 9 := by omega
        all_goals first
          | (obtain rfl := Option.some.inj hk; first | rfl | cases hb)
          | cases hk)
      obtain rfl : b7 = true := hall 7 _ rfl (fun e he hb => by
        obtain ⟨k, hk⟩ := Array.mem_iff_getElem?.1 he
        have kl : k < 10 := by
          rcases Nat.lt_or_ge k 10 with g | g
          · exact g
          · rw [List.getElem?_toArray, List.getElem?_eq_none (by first | (simp; done) | (simp; omega))] at hk
            cases hk
        obtain rfl | rfl | rfl | rfl | rfl | rfl | rfl | rfl | rfl | rfl : k = 0 ∨ k = 1 ∨ k = 2 ∨ k = 3 ∨ k = 4 ∨ k = 5 ∨ k = 6 ∨ k = 7 ∨ k = 8 ∨ k = 9 := by omega
        all_goals first
          | (obtain rfl := Option.some.inj hk; first | rfl | cases hb)
          | cases hk)
      obtain rfl := hv0 rfl
      obtain rfl := hv2 rfl
      obtain ⟨bel, one, two, cc, cb, bc, bb⟩ := HI
      obtain ⟨⟨A1, c1, S1, rfl, hS1, hl1, hf1⟩, hB1⟩ := one.cp rfl
      obtain ⟨⟨A2, c2, S2, rfl, hS2, hl2, hf2⟩, hB2⟩ := two.cp rfl
      obtain ⟨⟨rfl, hk3, _⟩, hB3⟩ := one.bx rfl
      obtain ⟨⟨rfl, hk4, _⟩, hB4⟩ := two.bx rfl
      obtain ⟨_, _, _, _, e, g0, g1⟩ := one.hd rfl
      obtain ⟨rfl, rfl⟩ : _ ∧ _ := by simpa using e
      obtain ⟨_, _, _, _, e, d0, d1⟩ := two.hd rfl
      obtain ⟨rfl, rfl⟩ : _ ∧ _ := by simpa using e
      have sz1 := one.szc; have sz2 := two.szc; have sz3 := one.szb; have sz4 := two.szb; have ap1 := one.ap; have ap2 := two.ap
      have x0 := (bel.cell (p := ⟨w.heap.size, 0, none⟩) (Nat.lt_succ_self _)).trans hOwn0
      have x1 := (bel.cell (p := ⟨w.heap.size, 1, none⟩) (Nat.lt_succ_self _)).trans hOwn1c
      have bW : Below w.heap.size w W := bw2.trans (bel.mono (Nat.le_succ _))
      have ng : ¬ S1 l3 := fun h => by have := hS1 _ h; omega
      have nd : ¬ S1 l4 := fun h => by have := hS1 _ h; omega
      have n0 : ¬ S1 w.heap.size := fun h => by have := hS1 _ h; omega
      have n12 : ∀ k, S2 k → ¬ S1 k := fun k h2 h1 => by have := hS1 _ h1; have := hS2 _ h2; omega
      have SD1 := Lib.hid (SA.out W bW A1 c1 (hl1.keep (fun _ _ => rfl) fun k h => by have := hS1 _ h; omega))
      have Z1 : Hid (∀ k, S1 k → w.heap.size ≤ k) := fun k h => by have := (hS1 k h).1; omega
      have Z2 : Hid (∀ k, S2 k → k < W.heap.size) := fun k h => by have := (hS2 k h).2; omega
      have ZS1 : Hid (∀ k, S1 k → k < W.heap.size) := fun k h => by have := (hS1 k h).2; omega
      have N12 := Lib.hid n12; have NG := Lib.hid ng; have ND := Lib.hid nd; have N0 := Lib.hid n0
      have HL1 := Lib.hid hl1; have HL2 := Lib.hid hl2; have HF1 := Lib.hid hf1
      have hl3 : l3 < W.heap.size := by omega
      have hl4 : l4 < W.heap.size := by omega
      have hl0 : w.heap.size < W.heap.size := by omega
      clear hl1 hl2 hf1 hf2 n12 ng nd n0 one two cc cb bc bb hk3 hk4 hS1 hS2 hB1 hB2 hB3 hB4 ap1 ap2 sz1 sz2 sz3 sz4 hall hv0 hv2 hOwn0 hOwn1c
      unfold frC
      go_wp2_with fail
      with_reducible refine (SD1.out).mono ?_
      rintro e X ⟨rfl, bX⟩
      have zX := bX.size
      have bwX : Below w.heap.size w X := bW.trans (bX.mono bW.size)
      have g0 := (bX.cell (p := ⟨l3, 0, none⟩) hl3).trans g0
      have g1 := (bX.cell (p := ⟨l3, 1, none⟩) hl3).trans g1
      have d0 := (bX.cell (p := ⟨l4, 0, none⟩) hl4).trans d0
      have d1 := (bX.cell (p := ⟨l4, 1, none⟩) hl4).trans d1
      have x0 := (bX.cell (p := ⟨w.heap.size, 0, none⟩) hl0).trans x0
      have x1 := (bX.cell (p := ⟨w.heap.size, 1, none⟩) hl0).trans x1
      have L1 := Lib.hid (HL1.out.keep (w' := X) (fun p hp => bX.cell (ZS1.out _ hp)) fun _ h => h)
      have L2 := Lib.hid (HL2.out.keep (w' := X) (fun p hp => bX.cell (Z2.out _ hp)) fun _ h => h)
      have F1 := Lib.hid (fun p hp => (bX.frozen (p := p) (ZS1.out _ hp)).trans (HF1.out p hp))
      have ZX2 : Hid (∀ k, S2 k → k < X.heap.size) := fun k h => Nat.lt_of_lt_of_le (Z2.out k h) zX
      clear HL1 HL2 HF1 Z2 ZS1 SD1 GR CPS bX bel b2 bw2 W1 GZ1
      obtain ⟨_, _, e, _, r1⟩ := Sc.out.1 L1.out
      simp only [List.cons.injEq, Value.slice.injEq, true_and, and_true] at e
      obtain ⟨rfl, rfl⟩ := e
      obtain ⟨_, _, e, lb, _⟩ := Sc.out.1 L2.out
      simp only [List.cons.injEq, Value.slice.injEq, true_and, and_true] at e
      obtain ⟨rfl, rfl⟩ := e
      have lb := lb.2
      unfold maxLen at lb
      have R1 := Lib.hid r1
      obtain ⟨n, hn⟩ : ∃ m, m = sc.nodes.length := ⟨_, rfl⟩
      have HN := Lib.hid hn
      rw [← hn] at g0 d0 x0 lb L1 L2 SA
      clear r1 hn
      go_wp2_with fail
      go_loopw [22] (fun t wr => ∃ j : Nat, j ≤ n ∧ t = .int .i64 (j : Int) ∧ Hid (Sim S1 X wr)) (fun t _ => n - (intOf t).toNat)
      case atStart => exact ⟨0, Nat.zero_le _, rfl, Sim.refl⟩
      case round =>
        obtain ⟨j, hj, rfl, SIM⟩ := hrel
        have gw0 := (SIM.out.cell (p := ⟨l3, 0, none⟩) NG.out).trans g0
        have gw1 := (SIM.out.cell (p := ⟨l3, 1, none⟩) NG.out).trans g1
        by_cases hjn : j < n
        · have qj : (j : Int) < (n : Int) := by omega
          obtain ⟨g, off, A2', c2', A3, c3, A4, c4, A9, c9, e, hg, ⟨k0, _, _, k3, k4, _⟩, lz⟩ := nodes_at R1.out (i := j) (by rw [← HN.out]; exact hjn)
          obtain rfl := e
          obtain ⟨_, _, _, _, _, _, _, _, e, _, _, len3, row3, len4, row4, _, _⟩ := Nd.out.1 lz
          simp only [List.cons.injEq, Value.slice.injEq, true_and, and_true] at e
          obtain ⟨⟨rfl, rfl⟩, ⟨rfl, rfl⟩, ⟨rfl, rfl⟩, rfl, rfl⟩ := e
          have gl3 : g ≠ l3 := fun e => NG.out (e ▸ hg)
          obtain ⟨m0, q0⟩ := SIM.out.int k0
          have q3 := SIM.out.slice k3
          have q4 := SIM.out.slice k4
          have f0 := (SIM.out.fro ⟨g, off + j * 10, none⟩).trans (F1.out ⟨g, off + j * 10, none⟩ hg)
          have SIM2 := Lib.hid (SIM.out.set_int hg k0 (-1))
          have K3 := Lib.hid k3; have K4 := Lib.hid k4
          have RW3 := Lib.hid row3; have RW4 := Lib.hid row4
          have lb3 := len3.2; have lb4 := len4.2
          unfold maxLen at lb3 lb4
          obtain ⟨fs, hfs⟩ : ∃ fs, fs = (sc.nodes[j]'(by rw [← HN.out]; exact hjn)).fs := ⟨_, rfl⟩
          obtain ⟨sy, hsy⟩ : ∃ sy, sy = (sc.nodes[j]'(by rw [← HN.out]; exact hjn)).sy := ⟨_, rfl⟩
          rw [← hfs] at q3 RW3 lb3 K3
          rw [← hsy] at q4 RW4 lb4 K4
          obtain ⟨nf, hnf⟩ : ∃ m, m = fs.length := ⟨_, rfl⟩
          obtain ⟨ns, hns⟩ : ∃ m, m = sy.length := ⟨_, rfl⟩
          have HNF := Lib.hid hnf; have HNS := Lib.hid hns
          rw [← hnf] at q3 lb3 K3
          rw [← hns] at q4 lb4 K4
          clear k0 k3 k4 lz len3 len4 row3 row4 hfs hsy hnf hns SIM
          go_wp2_with fail
          go_loopw [37] (fun t wq => ∃ m : Nat, m ≤ nf ∧ t = .int .i64 (m : Int) ∧ Hid (Sim S1 X wq)) (fun t _ => nf - (intOf t).toNat)
          case atStart => exact ⟨0, Nat.zero_le _, rfl, SIM2.out⟩
          case round =>
            obtain ⟨m, hm, rfl, SM⟩ := hrel
            by_cases hmn : m < nf
            · have qm : (m : Int) < (nf : Int) := by omega
              have v0 := (SM.out.cell (p := ⟨l3, 0, none⟩) NG.out).trans g0
              have v1 := (SM.out.cell (p := ⟨l3, 1, none⟩) NG.out).trans g1
              have v3 := SM.out.slice K3.out
              obtain ⟨h, o, _, _, _, _, _, _, e, hh, ⟨f0, _⟩, _⟩ := fields_at RW3.out (i := m) (by rw [← HNF.out]; exact hmn)
              obtain rfl := e
              obtain ⟨t0, p0⟩ := SM.out.str f0
              have z0 := (SM.out.fro ⟨h, o + m * 9, none⟩).trans (F1.out ⟨h, o + m * 9, none⟩ hh)
              have SM2 := Lib.hid (SM.out.set_str hh f0 ⟨#[63]⟩)
              clear f0 SM
              go_wp2_with fail
              go_roundw
              case rel => exact ⟨m + 1, by omega, by go_num, SM2⟩
              case measure => simp [intOf]; omega
            · obtain rfl : m = nf := by omega
              have qm : ¬ (m : Int) < (m : Int) := by omega
              have v0 := (SM.out.cell (p := ⟨l3, 0, none⟩) NG.out).trans g0
              have v1 := (SM.out.cell (p := ⟨l3, 1, none⟩) NG.out).trans g1
              have v4 := SM.out.slice K4.out
              go_wp2_with fail
              go_loopw [57] (fun t wu => ∃ i : Nat, i ≤ ns ∧ t = .int .i64 (i : Int) ∧ Hid (Sim S1 X wu)) (fun t _ => ns - (intOf t).toNat)
              case atStart => exact ⟨0, Nat.zero_le _, rfl, SM⟩
              case round =>
                obtain ⟨i, hi, rfl, SU⟩ := hrel
                by_cases hin : i < ns
                · have qi : (i : Int) < (ns : Int) := by omega
                  have v0 := (SU.out.cell (p := ⟨l3, 0, none⟩) NG.out).trans g0
                  have v1 := (SU.out.cell (p := ⟨l3, 1, none⟩) NG.out).trans g1
                  have v4 := SU.out.slice K4.out
                  obtain ⟨h, o, e, hh, f0⟩ := strs_at RW4.out (k := i) (by rw [← HNS.out]; exact hin)
                  obtain rfl := e
                  obtain ⟨t0, p0⟩ := SU.out.str f0
                  have z0 := (SU.out.fro ⟨h, o + i, none⟩).trans (F1.out ⟨h, o + i, none⟩ hh)
                  have SU2 := Lib.hid (SU.out.set_str hh f0 ⟨#[63]⟩)
                  clear f0 SU
                  go_wp2_with fail
                  go_roundw
                  case rel => exact ⟨i + 1, by omega, by go_num, SU2⟩
                  case measure => simp [intOf]; omega
                · obtain rfl : i = ns := by omega
                  have qi : ¬ (i : Int) < (i : Int) := by omega
                  go_wp2_with fail
                  go_roundw
                  case rel => exact ⟨j + 1, by omega, by go_num, SU⟩
                  case measure => simp [intOf]; omega
        · obtain rfl : j = n := by omega
          have qj : ¬ (j : Int) < (j : Int) := by omega
          have dw0 := (SIM.out.cell (p := ⟨l4, 0, none⟩) ND.out).trans d0
          have dw1 := (SIM.out.cell (p := ⟨l4, 1, none⟩) ND.out).trans d1
          have xw0 := (SIM.out.cell (p := ⟨w.heap.size, 0, none⟩) N0.out).trans x0
          have xw1 := (SIM.out.cell (p := ⟨w.heap.size, 1, none⟩) N0.out).trans x1
          have bwr : Below w.heap.size w wr := bwX.trans (SIM.out.below Z1.out)
          have SD2 := Lib.hid (SA.out wr bwr A2 c2 ((SIM.out.lies N12.out L2.out).keep (fun _ _ => rfl) fun k h => by have := ZX2.out k h; rw [SIM.out.size]; exact this))
          go_wp2_with fail
          with_reducible refine (SD2.out).mono ?_
          rintro e Y ⟨rfl, bY⟩
          go_wp2_with fail
          with_reducible refine (WK.out _ (bwr.trans (bY.mono bwr.size))).mono ?_
          rintro e Z ⟨rfl, bZ⟩
          go_wp2_with fail
          go_ret
          exact ⟨rfl, (bwr.trans (bY.mono bwr.size)).trans (bZ.mono (Nat.le_trans bwr.size bY.size))⟩
end Go.Proofs.YtnfhikgfcdcpoaaDoor
