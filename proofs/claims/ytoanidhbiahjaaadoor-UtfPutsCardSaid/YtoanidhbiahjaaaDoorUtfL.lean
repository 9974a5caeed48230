/- The walks of the laws of layer 3. -/
import Derived.Test.YtoanidhbiahjaaaDoorUtfD
import Derived.Test.YtoanidhbiahjaaaDoorUtfS
namespace Go.Proofs.YtoanidhbiahjaaaDoor
open Go.ChangeShapes Go.WideShapes Go.ChangeAt Go.RowKit Mem

theorem ue_8364 : Num.ue 8364 = [226, 130, 172] := by decide
set_option maxRecDepth 100000 in
theorem tk_ex1 : tk [192, 128] 0 = (0, 0, 11) := by decide
set_option maxRecDepth 100000 in
theorem tk_ex2 : tk [226, 130] 0 = (0, 0, 10) := by decide
def Ends3 (n next e : Int) (w : World) (x : Ending) (w' : World) : Prop :=
  x = .returned (.tuple #[.int .i32 n, .int .i64 next, .int .i64 e]) ∧ Below w.heap.size w w'
theorem ex_1 (w : World) (hL : Laid w) : Calls Tryd.prog 8 #[.slice (some ⟨w.heap.size, 0, none⟩) 2 2, .int .i64 0] (w.alloc (.cells #[.int .u8 192, .int .u8 128] 5)) (Ends3 0 0 11 w) := by
  have h := Take_any _ 2 [192, 128] 0 _ (hL.alloc _) (lit_bys w [192, 128]) (by decide) (by decide)
  rw [tk_ex1] at h
  exact h.mono fun _ _ ⟨h1, h2⟩ => ⟨h1, ((Below.refl _ _).alloc (Nat.le_refl _) _).trans (h2.mono (by simp))⟩
theorem ex_2 (g c : Nat) (w : World) (hL : Laid w) (hb : Bys w w.heap.size (some ⟨g, 0, none⟩) [226, 130, 172]) (hc : 3 ≤ c) : Calls Tryd.prog 8 #[.slice (some ⟨g, 0, none⟩) 2 c, .int .i64 0] w (Ends3 0 0 10 w) := by
  have h := Take_any _ c [226, 130] 0 w hL (hb.front 2) (by decide) (by show 2 ≤ c; omega)
  rw [tk_ex2] at h
  exact h
theorem pair_ex : pair 55357 56832 = 128512 := by decide

set_option maxHeartbeats 1000000 in
theorem works_any (w : World) (hL : Laid w) : Calls Tryd.prog 7 #[] w (Yes w.heap.size w) := by
  have p1 := Put_any 8364 (by decide) w.heap.size _ [] w hL hL.1 (Nat.le_refl _) (Own.none_ _ _ _) (by decide)
  rw [show (8364 : Int).toNat = 8364 from rfl, ue_8364, List.nil_append] at p1
  have p2 := fun W => Pair_any 55357 56832 W
  unfold Pairs at p2
  rw [pair_ex] at p2
  have P1 := Lib.hid p1
  have P2 := Lib.hid p2
  clear p1 p2
  go_enter Tryd.func7, Tryd.ntmps7
  go_wp2_with fail
  refine P1.out.mono ?_
  rintro e w1 ⟨v1, rfl, o1, h1⟩
  obtain ⟨g1, c1, rfl, y1, r1⟩ := o1.room1 (by simp)
  have r3 : 3 ≤ c1 := r1
  have r2 : (2 : Int) ≤ (c1 : Int) := by omega
  have L1 := hL.below h1 hL.1
  clear o1 r1
  simp only [List.length_cons, List.length_nil, Nat.zero_add]
  go_wp2_with fail
  refine (ex_1 _ L1).mono ?_
  rintro e w2 ⟨rfl, h2⟩
  have L2 := L1.below h2 L1.1
  have y2 := (y1.below h2).more h2.size
  go_wp2_with fail
  refine (ex_2 _ _ _ L2 y2 r3).mono ?_
  rintro e w3 ⟨rfl, h3⟩
  have y3 := (y2.below h3).more h3.size
  go_wp2_with fail
  refine (P2.out _).mono ?_
  rintro e w' ⟨rfl, rfl⟩
  have s3 : (convert 22 9 (.slice (some ⟨g1, 0, none⟩) 3 c1)).run Tryd.prog w3 = .ok (.string ⟨[226, 130, 172].toArray⟩) w3 := y3.str byteT strT c1
  go_wp2_with fail
  go_ret
  exact ⟨rfl, Below.next (Below.next h1 h2) h3⟩

theorem fst_le (l : List UInt8) : (Num.fst l).1 ≤ 1114111 := by
  rcases Num.fst_err l with ⟨c, n, e, _⟩ | ⟨e, _⟩ | e
  · have := (Num.ue_fst e).1.2.1; rw [e]; simp only; omega
  · rw [e]; simp
  · rw [e]; simp
theorem tk_le (l : List UInt8) (at_ : Int) : (tk l at_).1 ≤ 1114111 := by
  unfold tk; split
  · simp
  · exact fst_le _

set_option maxHeartbeats 1000000 in
theorem utfTakes_walk (A : Option Addr) (l : List UInt8) (c : Nat) (at_ : Int) (w : World) (hc : l.length ≤ c) (hb : Bys w w.heap.size A l) (w1 : (Lit.int .i64 at_).wf = true) (hL : Laid w) :
    Calls Tryd.prog 3 #[.slice A l.length c, .int .i64 at_] w (Yes w.heap.size w) := by
  obtain ⟨a0, a1⟩ := fit_i64 w1
  clear w1
  by_cases hl : l.length ≤ 2000
  · have q : ¬ (2000 : Int) < (l.length : Int) := by omega
    have t := fun W hL hb => Take_any A c l at_ W hL hb (by omega) hc
    have r := fun W hb => rTake_any A c l at_ W hb (by omega) hc
    have cn := fun W hL hb => Count_any A c l W hL hb (by omega) hc
    have rc := fun W hb => rCount_any A c l W hb (by omega) hc
    have rg := fun W hL hb => Right_any A c l W hL hb (by omega) hc
    have cle := Num.cU_le l.length l
    have xle := tk_le l at_
    obtain ⟨⟨x, to, er⟩, hr⟩ : ∃ r, r = tk l at_ := ⟨_, rfl⟩
    rw [← hr] at t r xle
    have x0 : (0 : Int) ≤ (x : Int) := by omega
    have x1 : (x : Int) ≤ 1114111 := by simp only at xle; omega
    clear xle
    unfold Cnt at cn
    unfold Rgt at rg
    unfold cntI at rc
    have T := Lib.hid t
    have R := Lib.hid r
    clear t r hr
    obtain ⟨o, ho⟩ : ∃ o, o = Num.cU l := ⟨_, rfl⟩
    rw [← ho] at cn rc rg cle
    clear ho
    cases o with
    | none =>
      have CN := Lib.hid cn
      have RC := Lib.hid rc
      have RG := Lib.hid rg
      clear cn rc rg cle
      go_enter Tryd.func3, Tryd.ntmps3
      go_wp2_with fail
      refine (T.out _ hL hb).mono ?_
      rintro e w1 ⟨rfl, h1⟩
      have L1 := hL.below h1 hL.1
      have b1 := (hb.below h1).more h1.size
      go_wp2_with fail
      refine (R.out _ b1).mono ?_
      rintro e w2 ⟨rfl, h2⟩
      have L2 := L1.below h2 L1.1
      have b2 := (b1.below h2).more h2.size
      go_wp2_with fail
      refine (CN.out _ L2 b2).mono ?_
      rintro e w3 ⟨rfl, h3⟩
      have L3 := L2.below h3 L2.1
      have b3 := (b2.below h3).more h3.size
      go_wp2_with fail
      refine (RC.out _ b3).mono ?_
      rintro e w4 ⟨rfl, h4⟩
      have L4 := L3.below h4 L3.1
      have b4 := (b3.below h4).more h4.size
      go_wp2_with fail
      refine (RG.out _ L4 b4).mono ?_
      rintro e w5 ⟨rfl, h5⟩
      have L5 := L4.below h5 L4.1
      go_wp2_with fail
      refine (works_any _ L5).mono ?_
      rintro e w6 ⟨rfl, h6⟩
      go_wp2_with fail
      go_ret
      exact ⟨rfl, Below.next (Below.next (Below.next (Below.next (Below.next h1 h2) h3) h4) h5) h6⟩
    | some n =>
      have nle := cle n (Nat.le_refl _) rfl
      have CN := Lib.hid cn
      have RC := Lib.hid rc
      have RG := Lib.hid rg
      have n0 : (0 : Int) ≤ (n : Int) := by omega
      clear cn rc rg cle
      go_enter Tryd.func3, Tryd.ntmps3
      go_wp2_with fail
      refine (T.out _ hL hb).mono ?_
      rintro e w1 ⟨rfl, h1⟩
      have L1 := hL.below h1 hL.1
      have b1 := (hb.below h1).more h1.size
      go_wp2_with fail
      refine (R.out _ b1).mono ?_
      rintro e w2 ⟨rfl, h2⟩
      have L2 := L1.below h2 L1.1
      have b2 := (b1.below h2).more h2.size
      go_wp2_with fail
      refine (CN.out _ L2 b2).mono ?_
      rintro e w3 ⟨rfl, h3⟩
      have L3 := L2.below h3 L2.1
      have b3 := (b2.below h3).more h3.size
      go_wp2_with fail
      refine (RC.out _ b3).mono ?_
      rintro e w4 ⟨rfl, h4⟩
      have L4 := L3.below h4 L3.1
      have b4 := (b3.below h4).more h4.size
      go_wp2_with fail
      refine (RG.out _ L4 b4).mono ?_
      rintro e w5 ⟨rfl, h5⟩
      have L5 := L4.below h5 L4.1
      go_wp2_with fail
      refine (works_any _ L5).mono ?_
      rintro e w6 ⟨rfl, h6⟩
      go_wp2_with fail
      go_ret
      exact ⟨rfl, Below.next (Below.next (Below.next (Below.next (Below.next h1 h2) h3) h4) h5) h6⟩
  · have q : (2000 : Int) < (l.length : Int) := by omega
    go_enter Tryd.func3, Tryd.ntmps3
    go_wp2_with fail
    refine (works_any _ hL).mono ?_
    rintro e w3 ⟨rfl, h3⟩
    go_wp2_with fail
    go_ret
    exact ⟨rfl, h3⟩

set_option maxHeartbeats 2000000 in
theorem utfCounts_walk (A1 : Option Addr) (a : List UInt8) (c1 : Nat) (A2 : Option Addr) (b : List UInt8) (c2 : Nat) (c : Int) (w : World) (hc1 : a.length ≤ c1) (b1 : Bys w w.heap.size A1 a) (hc2 : b.length ≤ c2) (b2 : Bys w w.heap.size A2 b) (wn : (Lit.int .i32 c).wf = true) (hL : Laid w) :
    Calls Tryd.prog 6 #[.slice A1 a.length c1, .slice A2 b.length c2, .int .i32 c] w (Yes w.heap.size w) := by
  obtain ⟨n0, n1⟩ := fit_i32 wn
  clear wn
  by_cases ha : a.length ≤ 2000
  · have qa : ¬ (2000 : Int) < (a.length : Int) := by omega
    by_cases hb : b.length ≤ 2000
    · have qb : ¬ (2000 : Int) < (b.length : Int) := by omega
      have ca := fun W hL hb => Count_any A1 c1 a W hL hb (by omega) hc1
      have cb := fun W hL hb => Count_any A2 c2 b W hL hb (by omega) hc2
      have cle1 := Num.cU_le a.length a
      have cle2 := Num.cU_le b.length b
      have app := Num.cU_app a.length a b
      have cab := fun A c W hL hb hc => Count_any A c (a ++ b) W hL hb (by rw [List.length_append]; omega) hc
      unfold Cnt at ca cb cab
      obtain ⟨oa, ho⟩ : ∃ o, o = Num.cU a := ⟨_, rfl⟩
      rw [← ho] at ca cle1 app
      clear ho
      obtain ⟨ob, ho⟩ : ∃ o, o = Num.cU b := ⟨_, rfl⟩
      rw [← ho] at cb cle2 app
      clear ho
      obtain ⟨oc, ho⟩ : ∃ o, o = Num.cU (a ++ b) := ⟨_, rfl⟩
      rw [← ho] at cab app
      clear ho
      have CA := Lib.hid ca
      have CB := Lib.hid cb
      have CAB := Lib.hid cab
      have lab : (a ++ b).length = a.length + b.length := List.length_append
      obtain ⟨C, hC⟩ : ∃ C, C = a ++ b := ⟨_, rfl⟩
      have HC := Lib.hid hC
      rw [← hC] at CAB lab
      have cl : C.length ≤ 4000 := by omega
      clear ca cb cab hC lab
      cases oa with
      | none =>
        generalize (if ob.isSome = true then (0 : Int) else 11) = f at CB
        generalize (if oc.isSome = true then (0 : Int) else 11) = g at CAB
        generalize ((ob.getD 0 : Nat) : Int) = fn at CB
        generalize ((oc.getD 0 : Nat) : Int) = gn at CAB
        clear app cle1 cle2
        by_cases s1 : c < 65536
        · go_enter Tryd.func6, Tryd.ntmps6
          go_wp2_with fail
          refine (works_any _ hL).mono ?_
          rintro e w1 ⟨rfl, h1⟩
          have L1 := hL.below h1 hL.1
          have y11 := (b1.below h1).more h1.size
          have y21 := (b2.below h1).more h1.size
          go_wp2_with fail
          refine (CA.out _ L1 y11).mono ?_
          rintro e w2 ⟨rfl, h2⟩
          have L2 := L1.below h2 L1.1
          have y12 := (y11.below h2).more h2.size
          have y22 := (y21.below h2).more h2.size
          go_wp2_with fail
          refine (CB.out _ L2 y22).mono ?_
          rintro e w3 ⟨rfl, h3⟩
          have L3 := L2.below h3 L2.1
          have y13 := (y12.below h3).more h3.size
          have y23 := (y22.below h3).more h3.size
          have h13 := Below.next (Below.next h1 h2) h3
          have s3 := h13.size
          go_wp2_with (first
            | (at_builtin; refine wpList_app _ byteT rfl (.tmp 39) (.tmp 40) rfl w3.heap.size _ [] rfl (own_lit w3 (Nat.le_refl _)) _ A1 c1 a rfl (y13.alloc (Nat.le_refl _) _) (by simp; omega) (by simp) ?_; intro v4 w4 o4 h4; rw [List.nil_append] at o4; have h34 : Below w3.heap.size w3 w4 := ((Below.refl _ _).alloc (Nat.le_refl _) _).trans h4; have y24 := y23.below h34; clear h4)
            | (at_builtin; refine wpList_app _ byteT rfl (.tmp 41) (.tmp 42) rfl w3.heap.size _ a rfl o4 _ A2 c2 b rfl y24 (by omega) h34.size ?_; intro v5 w5 o5 h5; have h35 := h34.trans h5; clear h5 h34 o4 y24))
          have L5 := L3.below h35 L3.1
          rw [← HC.out] at o5
          obtain ⟨A5, c5, rfl, y5, r5⟩ := o5.room
          clear o5
          go_wp2_with fail
          refine (CAB.out A5 c5 _ L5 y5 r5).mono ?_
          rintro e w6 ⟨rfl, h6⟩
          have L6 := L5.below h6 L5.1
          have fin := Below.next (Below.next h13 h35) h6
          go_wp2_with fail
          refine (Split_no c (by omega) _).mono ?_
          rintro e w' ⟨rfl, rfl⟩
          go_wp2_with fail
          go_ret
          exact ⟨rfl, fin⟩
          
        · by_cases s2 : 1114111 < c
          · go_enter Tryd.func6, Tryd.ntmps6
            go_wp2_with fail
            refine (works_any _ hL).mono ?_
            rintro e w1 ⟨rfl, h1⟩
            have L1 := hL.below h1 hL.1
            have y11 := (b1.below h1).more h1.size
            have y21 := (b2.below h1).more h1.size
            go_wp2_with fail
            refine (CA.out _ L1 y11).mono ?_
            rintro e w2 ⟨rfl, h2⟩
            have L2 := L1.below h2 L1.1
            have y12 := (y11.below h2).more h2.size
            have y22 := (y21.below h2).more h2.size
            go_wp2_with fail
            refine (CB.out _ L2 y22).mono ?_
            rintro e w3 ⟨rfl, h3⟩
            have L3 := L2.below h3 L2.1
            have y13 := (y12.below h3).more h3.size
            have y23 := (y22.below h3).more h3.size
            have h13 := Below.next (Below.next h1 h2) h3
            have s3 := h13.size
            go_wp2_with (first
              | (at_builtin; refine wpList_app _ byteT rfl (.tmp 39) (.tmp 40) rfl w3.heap.size _ [] rfl (own_lit w3 (Nat.le_refl _)) _ A1 c1 a rfl (y13.alloc (Nat.le_refl _) _) (by simp; omega) (by simp) ?_; intro v4 w4 o4 h4; rw [List.nil_append] at o4; have h34 : Below w3.heap.size w3 w4 := ((Below.refl _ _).alloc (Nat.le_refl _) _).trans h4; have y24 := y23.below h34; clear h4)
              | (at_builtin; refine wpList_app _ byteT rfl (.tmp 41) (.tmp 42) rfl w3.heap.size _ a rfl o4 _ A2 c2 b rfl y24 (by omega) h34.size ?_; intro v5 w5 o5 h5; have h35 := h34.trans h5; clear h5 h34 o4 y24))
            have L5 := L3.below h35 L3.1
            rw [← HC.out] at o5
            obtain ⟨A5, c5, rfl, y5, r5⟩ := o5.room
            clear o5
            go_wp2_with fail
            refine (CAB.out A5 c5 _ L5 y5 r5).mono ?_
            rintro e w6 ⟨rfl, h6⟩
            have L6 := L5.below h6 L5.1
            have fin := Below.next (Below.next h13 h35) h6
            go_wp2_with fail
            refine (Split_no c (by omega) _).mono ?_
            rintro e w' ⟨rfl, rfl⟩
            go_wp2_with fail
            go_ret
            exact ⟨rfl, fin⟩
            
          · have s1 : 65536 ≤ c := by omega
            have s2 : c ≤ 1114111 := by omega
            have pr := fun W => Pair_any (55296 + (c - 65536) / 1024) (56320 + (c - 65536) % 1024) W
            unfold Pairs at pr
            rw [split_pair s1 s2, show (!(c == 0)) = true by simp; omega] at pr
            have PR := Lib.hid pr
            clear pr
            go_enter Tryd.func6, Tryd.ntmps6
            go_wp2_with fail
            refine (works_any _ hL).mono ?_
            rintro e w1 ⟨rfl, h1⟩
            have L1 := hL.below h1 hL.1
            have y11 := (b1.below h1).more h1.size
            have y21 := (b2.below h1).more h1.size
            go_wp2_with fail
            refine (CA.out _ L1 y11).mono ?_
            rintro e w2 ⟨rfl, h2⟩
            have L2 := L1.below h2 L1.1
            have y12 := (y11.below h2).more h2.size
            have y22 := (y21.below h2).more h2.size
            go_wp2_with fail
            refine (CB.out _ L2 y22).mono ?_
            rintro e w3 ⟨rfl, h3⟩
            have L3 := L2.below h3 L2.1
            have y13 := (y12.below h3).more h3.size
            have y23 := (y22.below h3).more h3.size
            have h13 := Below.next (Below.next h1 h2) h3
            have s3 := h13.size
            go_wp2_with (first
              | (at_builtin; refine wpList_app _ byteT rfl (.tmp 39) (.tmp 40) rfl w3.heap.size _ [] rfl (own_lit w3 (Nat.le_refl _)) _ A1 c1 a rfl (y13.alloc (Nat.le_refl _) _) (by simp; omega) (by simp) ?_; intro v4 w4 o4 h4; rw [List.nil_append] at o4; have h34 : Below w3.heap.size w3 w4 := ((Below.refl _ _).alloc (Nat.le_refl _) _).trans h4; have y24 := y23.below h34; clear h4)
              | (at_builtin; refine wpList_app _ byteT rfl (.tmp 41) (.tmp 42) rfl w3.heap.size _ a rfl o4 _ A2 c2 b rfl y24 (by omega) h34.size ?_; intro v5 w5 o5 h5; have h35 := h34.trans h5; clear h5 h34 o4 y24))
            have L5 := L3.below h35 L3.1
            rw [← HC.out] at o5
            obtain ⟨A5, c5, rfl, y5, r5⟩ := o5.room
            clear o5
            go_wp2_with fail
            refine (CAB.out A5 c5 _ L5 y5 r5).mono ?_
            rintro e w6 ⟨rfl, h6⟩
            have L6 := L5.below h6 L5.1
            have fin := Below.next (Below.next h13 h35) h6
            go_wp2_with fail
            refine (Split_ok c s1 s2 _).mono ?_
            rintro e w' ⟨rfl, rfl⟩
            go_wp2_with fail
            refine (PR.out _).mono ?_
            rintro e w' ⟨rfl, rfl⟩
            go_wp2_with fail
            go_ret
            exact ⟨rfl, fin⟩
            
      | some n =>
        have app1 := app n (Nat.le_refl _) rfl
        subst app1
        have nle := cle1 n (Nat.le_refl _) rfl
        cases ob with
        | none =>
          clear app cle1 cle2
          by_cases s1 : c < 65536
          · go_enter Tryd.func6, Tryd.ntmps6
            go_wp2_with fail
            refine (works_any _ hL).mono ?_
            rintro e w1 ⟨rfl, h1⟩
            have L1 := hL.below h1 hL.1
            have y11 := (b1.below h1).more h1.size
            have y21 := (b2.below h1).more h1.size
            go_wp2_with fail
            refine (CA.out _ L1 y11).mono ?_
            rintro e w2 ⟨rfl, h2⟩
            have L2 := L1.below h2 L1.1
            have y12 := (y11.below h2).more h2.size
            have y22 := (y21.below h2).more h2.size
            go_wp2_with fail
            refine (CB.out _ L2 y22).mono ?_
            rintro e w3 ⟨rfl, h3⟩
            have L3 := L2.below h3 L2.1
            have y13 := (y12.below h3).more h3.size
            have y23 := (y22.below h3).more h3.size
            have h13 := Below.next (Below.next h1 h2) h3
            have s3 := h13.size
            go_wp2_with (first
              | (at_builtin; refine wpList_app _ byteT rfl (.tmp 39) (.tmp 40) rfl w3.heap.size _ [] rfl (own_lit w3 (Nat.le_refl _)) _ A1 c1 a rfl (y13.alloc (Nat.le_refl _) _) (by simp; omega) (by simp) ?_; intro v4 w4 o4 h4; rw [List.nil_append] at o4; have h34 : Below w3.heap.size w3 w4 := ((Below.refl _ _).alloc (Nat.le_refl _) _).trans h4; have y24 := y23.below h34; clear h4)
              | (at_builtin; refine wpList_app _ byteT rfl (.tmp 41) (.tmp 42) rfl w3.heap.size _ a rfl o4 _ A2 c2 b rfl y24 (by omega) h34.size ?_; intro v5 w5 o5 h5; have h35 := h34.trans h5; clear h5 h34 o4 y24))
            have L5 := L3.below h35 L3.1
            rw [← HC.out] at o5
            obtain ⟨A5, c5, rfl, y5, r5⟩ := o5.room
            clear o5
            go_wp2_with fail
            refine (CAB.out A5 c5 _ L5 y5 r5).mono ?_
            rintro e w6 ⟨rfl, h6⟩
            have L6 := L5.below h6 L5.1
            have fin := Below.next (Below.next h13 h35) h6
            go_wp2_with fail
            refine (Split_no c (by omega) _).mono ?_
            rintro e w' ⟨rfl, rfl⟩
            go_wp2_with fail
            go_ret
            exact ⟨rfl, fin⟩
            
          · by_cases s2 : 1114111 < c
            · go_enter Tryd.func6, Tryd.ntmps6
              go_wp2_with fail
              refine (works_any _ hL).mono ?_
              rintro e w1 ⟨rfl, h1⟩
              have L1 := hL.below h1 hL.1
              have y11 := (b1.below h1).more h1.size
              have y21 := (b2.below h1).more h1.size
              go_wp2_with fail
              refine (CA.out _ L1 y11).mono ?_
              rintro e w2 ⟨rfl, h2⟩
              have L2 := L1.below h2 L1.1
              have y12 := (y11.below h2).more h2.size
              have y22 := (y21.below h2).more h2.size
              go_wp2_with fail
              refine (CB.out _ L2 y22).mono ?_
              rintro e w3 ⟨rfl, h3⟩
              have L3 := L2.below h3 L2.1
              have y13 := (y12.below h3).more h3.size
              have y23 := (y22.below h3).more h3.size
              have h13 := Below.next (Below.next h1 h2) h3
              have s3 := h13.size
              go_wp2_with (first
                | (at_builtin; refine wpList_app _ byteT rfl (.tmp 39) (.tmp 40) rfl w3.heap.size _ [] rfl (own_lit w3 (Nat.le_refl _)) _ A1 c1 a rfl (y13.alloc (Nat.le_refl _) _) (by simp; omega) (by simp) ?_; intro v4 w4 o4 h4; rw [List.nil_append] at o4; have h34 : Below w3.heap.size w3 w4 := ((Below.refl _ _).alloc (Nat.le_refl _) _).trans h4; have y24 := y23.below h34; clear h4)
                | (at_builtin; refine wpList_app _ byteT rfl (.tmp 41) (.tmp 42) rfl w3.heap.size _ a rfl o4 _ A2 c2 b rfl y24 (by omega) h34.size ?_; intro v5 w5 o5 h5; have h35 := h34.trans h5; clear h5 h34 o4 y24))
              have L5 := L3.below h35 L3.1
              rw [← HC.out] at o5
              obtain ⟨A5, c5, rfl, y5, r5⟩ := o5.room
              clear o5
              go_wp2_with fail
              refine (CAB.out A5 c5 _ L5 y5 r5).mono ?_
              rintro e w6 ⟨rfl, h6⟩
              have L6 := L5.below h6 L5.1
              have fin := Below.next (Below.next h13 h35) h6
              go_wp2_with fail
              refine (Split_no c (by omega) _).mono ?_
              rintro e w' ⟨rfl, rfl⟩
              go_wp2_with fail
              go_ret
              exact ⟨rfl, fin⟩
              
            · have s1 : 65536 ≤ c := by omega
              have s2 : c ≤ 1114111 := by omega
              have pr := fun W => Pair_any (55296 + (c - 65536) / 1024) (56320 + (c - 65536) % 1024) W
              unfold Pairs at pr
              rw [split_pair s1 s2, show (!(c == 0)) = true by simp; omega] at pr
              have PR := Lib.hid pr
              clear pr
              go_enter Tryd.func6, Tryd.ntmps6
              go_wp2_with fail
              refine (works_any _ hL).mono ?_
              rintro e w1 ⟨rfl, h1⟩
              have L1 := hL.below h1 hL.1
              have y11 := (b1.below h1).more h1.size
              have y21 := (b2.below h1).more h1.size
              go_wp2_with fail
              refine (CA.out _ L1 y11).mono ?_
              rintro e w2 ⟨rfl, h2⟩
              have L2 := L1.below h2 L1.1
              have y12 := (y11.below h2).more h2.size
              have y22 := (y21.below h2).more h2.size
              go_wp2_with fail
              refine (CB.out _ L2 y22).mono ?_
              rintro e w3 ⟨rfl, h3⟩
              have L3 := L2.below h3 L2.1
              have y13 := (y12.below h3).more h3.size
              have y23 := (y22.below h3).more h3.size
              have h13 := Below.next (Below.next h1 h2) h3
              have s3 := h13.size
              go_wp2_with (first
                | (at_builtin; refine wpList_app _ byteT rfl (.tmp 39) (.tmp 40) rfl w3.heap.size _ [] rfl (own_lit w3 (Nat.le_refl _)) _ A1 c1 a rfl (y13.alloc (Nat.le_refl _) _) (by simp; omega) (by simp) ?_; intro v4 w4 o4 h4; rw [List.nil_append] at o4; have h34 : Below w3.heap.size w3 w4 := ((Below.refl _ _).alloc (Nat.le_refl _) _).trans h4; have y24 := y23.below h34; clear h4)
                | (at_builtin; refine wpList_app _ byteT rfl (.tmp 41) (.tmp 42) rfl w3.heap.size _ a rfl o4 _ A2 c2 b rfl y24 (by omega) h34.size ?_; intro v5 w5 o5 h5; have h35 := h34.trans h5; clear h5 h34 o4 y24))
              have L5 := L3.below h35 L3.1
              rw [← HC.out] at o5
              obtain ⟨A5, c5, rfl, y5, r5⟩ := o5.room
              clear o5
              go_wp2_with fail
              refine (CAB.out A5 c5 _ L5 y5 r5).mono ?_
              rintro e w6 ⟨rfl, h6⟩
              have L6 := L5.below h6 L5.1
              have fin := Below.next (Below.next h13 h35) h6
              go_wp2_with fail
              refine (Split_ok c s1 s2 _).mono ?_
              rintro e w' ⟨rfl, rfl⟩
              go_wp2_with fail
              refine (PR.out _).mono ?_
              rintro e w' ⟨rfl, rfl⟩
              go_wp2_with fail
              go_ret
              exact ⟨rfl, fin⟩
              
        | some m =>
          have mle := cle2 m (Nat.le_refl _) rfl
          have sum : Hid (((some m).map (· + n)).getD 0 = m + n) := rfl
          have q1 : (((m + n : Nat) : Int) != (n : Int) + (m : Int)) = false := by simp; omega
          clear app cle1 cle2
          by_cases s1 : c < 65536
          · go_enter Tryd.func6, Tryd.ntmps6
            go_wp2_with fail
            refine (works_any _ hL).mono ?_
            rintro e w1 ⟨rfl, h1⟩
            have L1 := hL.below h1 hL.1
            have y11 := (b1.below h1).more h1.size
            have y21 := (b2.below h1).more h1.size
            go_wp2_with fail
            refine (CA.out _ L1 y11).mono ?_
            rintro e w2 ⟨rfl, h2⟩
            have L2 := L1.below h2 L1.1
            have y12 := (y11.below h2).more h2.size
            have y22 := (y21.below h2).more h2.size
            go_wp2_with fail
            refine (CB.out _ L2 y22).mono ?_
            rintro e w3 ⟨rfl, h3⟩
            have L3 := L2.below h3 L2.1
            have y13 := (y12.below h3).more h3.size
            have y23 := (y22.below h3).more h3.size
            have h13 := Below.next (Below.next h1 h2) h3
            have s3 := h13.size
            go_wp2_with (first
              | (at_builtin; refine wpList_app _ byteT rfl (.tmp 39) (.tmp 40) rfl w3.heap.size _ [] rfl (own_lit w3 (Nat.le_refl _)) _ A1 c1 a rfl (y13.alloc (Nat.le_refl _) _) (by simp; omega) (by simp) ?_; intro v4 w4 o4 h4; rw [List.nil_append] at o4; have h34 : Below w3.heap.size w3 w4 := ((Below.refl _ _).alloc (Nat.le_refl _) _).trans h4; have y24 := y23.below h34; clear h4)
              | (at_builtin; refine wpList_app _ byteT rfl (.tmp 41) (.tmp 42) rfl w3.heap.size _ a rfl o4 _ A2 c2 b rfl y24 (by omega) h34.size ?_; intro v5 w5 o5 h5; have h35 := h34.trans h5; clear h5 h34 o4 y24))
            have L5 := L3.below h35 L3.1
            rw [← HC.out] at o5
            obtain ⟨A5, c5, rfl, y5, r5⟩ := o5.room
            clear o5
            go_wp2_with fail
            refine (CAB.out A5 c5 _ L5 y5 r5).mono ?_
            rintro e w6 ⟨rfl, h6⟩
            have L6 := L5.below h6 L5.1
            have fin := Below.next (Below.next h13 h35) h6
            go_wp2_with fail
            refine (Split_no c (by omega) _).mono ?_
            rintro e w' ⟨rfl, rfl⟩
            go_wp2_with fail
            go_ret
            exact ⟨rfl, fin⟩
            
          · by_cases s2 : 1114111 < c
            · go_enter Tryd.func6, Tryd.ntmps6
              go_wp2_with fail
              refine (works_any _ hL).mono ?_
              rintro e w1 ⟨rfl, h1⟩
              have L1 := hL.below h1 hL.1
              have y11 := (b1.below h1).more h1.size
              have y21 := (b2.below h1).more h1.size
              go_wp2_with fail
              refine (CA.out _ L1 y11).mono ?_
              rintro e w2 ⟨rfl, h2⟩
              have L2 := L1.below h2 L1.1
              have y12 := (y11.below h2).more h2.size
              have y22 := (y21.below h2).more h2.size
              go_wp2_with fail
              refine (CB.out _ L2 y22).mono ?_
              rintro e w3 ⟨rfl, h3⟩
              have L3 := L2.below h3 L2.1
              have y13 := (y12.below h3).more h3.size
              have y23 := (y22.below h3).more h3.size
              have h13 := Below.next (Below.next h1 h2) h3
              have s3 := h13.size
              go_wp2_with (first
                | (at_builtin; refine wpList_app _ byteT rfl (.tmp 39) (.tmp 40) rfl w3.heap.size _ [] rfl (own_lit w3 (Nat.le_refl _)) _ A1 c1 a rfl (y13.alloc (Nat.le_refl _) _) (by simp; omega) (by simp) ?_; intro v4 w4 o4 h4; rw [List.nil_append] at o4; have h34 : Below w3.heap.size w3 w4 := ((Below.refl _ _).alloc (Nat.le_refl _) _).trans h4; have y24 := y23.below h34; clear h4)
                | (at_builtin; refine wpList_app _ byteT rfl (.tmp 41) (.tmp 42) rfl w3.heap.size _ a rfl o4 _ A2 c2 b rfl y24 (by omega) h34.size ?_; intro v5 w5 o5 h5; have h35 := h34.trans h5; clear h5 h34 o4 y24))
              have L5 := L3.below h35 L3.1
              rw [← HC.out] at o5
              obtain ⟨A5, c5, rfl, y5, r5⟩ := o5.room
              clear o5
              go_wp2_with fail
              refine (CAB.out A5 c5 _ L5 y5 r5).mono ?_
              rintro e w6 ⟨rfl, h6⟩
              have L6 := L5.below h6 L5.1
              have fin := Below.next (Below.next h13 h35) h6
              go_wp2_with fail
              refine (Split_no c (by omega) _).mono ?_
              rintro e w' ⟨rfl, rfl⟩
              go_wp2_with fail
              go_ret
              exact ⟨rfl, fin⟩
              
            · have s1 : 65536 ≤ c := by omega
              have s2 : c ≤ 1114111 := by omega
              have pr := fun W => Pair_any (55296 + (c - 65536) / 1024) (56320 + (c - 65536) % 1024) W
              unfold Pairs at pr
              rw [split_pair s1 s2, show (!(c == 0)) = true by simp; omega] at pr
              have PR := Lib.hid pr
              clear pr
              go_enter Tryd.func6, Tryd.ntmps6
              go_wp2_with fail
              refine (works_any _ hL).mono ?_
              rintro e w1 ⟨rfl, h1⟩
              have L1 := hL.below h1 hL.1
              have y11 := (b1.below h1).more h1.size
              have y21 := (b2.below h1).more h1.size
              go_wp2_with fail
              refine (CA.out _ L1 y11).mono ?_
              rintro e w2 ⟨rfl, h2⟩
              have L2 := L1.below h2 L1.1
              have y12 := (y11.below h2).more h2.size
              have y22 := (y21.below h2).more h2.size
              go_wp2_with fail
              refine (CB.out _ L2 y22).mono ?_
              rintro e w3 ⟨rfl, h3⟩
              have L3 := L2.below h3 L2.1
              have y13 := (y12.below h3).more h3.size
              have y23 := (y22.below h3).more h3.size
              have h13 := Below.next (Below.next h1 h2) h3
              have s3 := h13.size
              go_wp2_with (first
                | (at_builtin; refine wpList_app _ byteT rfl (.tmp 39) (.tmp 40) rfl w3.heap.size _ [] rfl (own_lit w3 (Nat.le_refl _)) _ A1 c1 a rfl (y13.alloc (Nat.le_refl _) _) (by simp; omega) (by simp) ?_; intro v4 w4 o4 h4; rw [List.nil_append] at o4; have h34 : Below w3.heap.size w3 w4 := ((Below.refl _ _).alloc (Nat.le_refl _) _).trans h4; have y24 := y23.below h34; clear h4)
                | (at_builtin; refine wpList_app _ byteT rfl (.tmp 41) (.tmp 42) rfl w3.heap.size _ a rfl o4 _ A2 c2 b rfl y24 (by omega) h34.size ?_; intro v5 w5 o5 h5; have h35 := h34.trans h5; clear h5 h34 o4 y24))
              have L5 := L3.below h35 L3.1
              rw [← HC.out] at o5
              obtain ⟨A5, c5, rfl, y5, r5⟩ := o5.room
              clear o5
              go_wp2_with fail
              refine (CAB.out A5 c5 _ L5 y5 r5).mono ?_
              rintro e w6 ⟨rfl, h6⟩
              have L6 := L5.below h6 L5.1
              have fin := Below.next (Below.next h13 h35) h6
              go_wp2_with fail
              refine (Split_ok c s1 s2 _).mono ?_
              rintro e w' ⟨rfl, rfl⟩
              go_wp2_with fail
              refine (PR.out _).mono ?_
              rintro e w' ⟨rfl, rfl⟩
              go_wp2_with fail
              go_ret
              exact ⟨rfl, fin⟩
              
    · have qb : (2000 : Int) < (b.length : Int) := by omega
      go_enter Tryd.func6, Tryd.ntmps6
      go_wp2_with fail
      refine (works_any _ hL).mono ?_
      rintro e w3 ⟨rfl, h3⟩
      go_wp2_with fail
      go_ret
      exact ⟨rfl, h3⟩
  · have qa : (2000 : Int) < (a.length : Int) := by omega
    go_enter Tryd.func6, Tryd.ntmps6
    go_wp2_with fail
    refine (works_any _ hL).mono ?_
    rintro e w3 ⟨rfl, h3⟩
    go_wp2_with fail
    go_ret
    exact ⟨rfl, h3⟩

end Go.Proofs.YtoanidhbiahjaaaDoor
