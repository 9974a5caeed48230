/- The walks of UtfPuts and UtfBack. -/
import Derived.Test.YtoanidhbiahjaaaDoorUtfL
namespace Go.Proofs.YtoanidhbiahjaaaDoor
open Go.ChangeShapes Go.WideShapes Go.ChangeAt Go.RowKit Mem

theorem pair_lo (h l : Int) : 0 ≤ pair h l ∧ pair h l ≤ 1114111 := by unfold pair; split <;> omega
theorem tk_zero (l : List UInt8) : tk l 0 = ((Num.fst l).1, ((Num.fst l).2.1 : Int), (Num.fst l).2.2) := by
  have := tk_good (l := l) (k := 0) (Nat.zero_le _)
  simpa using this
theorem tk_ue {ahead tail : List UInt8} {k : Nat} (h : Num.isC (k : Int)) : tk (ahead ++ Num.ue k ++ tail) (ahead.length : Int) = (k, (ahead.length : Int) + ((Num.ue k).length : Int), 0) := by
  rw [tk_good (by simp), List.append_assoc, List.drop_left, Num.fst_ue h]

set_option maxHeartbeats 2000000 in
theorem utfPuts_walk (A : Option Addr) (l : List UInt8) (c : Nat) (z : Int) (low : Int) (w : World) (_hc : l.length ≤ c) (hb : Bys w w.heap.size A l) (wz : (Lit.int .i32 z).wf = true) (wl : (Lit.int .i32 low).wf = true) (hL : Laid w) :
    Calls Tryd.prog 4 #[.slice A l.length c, .int .i32 z, .int .i32 low] w (Yes w.heap.size w) := by
  obtain ⟨z0, z1⟩ := fit_i32 wz
  obtain ⟨u0, u1⟩ := fit_i32 wl
  clear wz wl
  by_cases hl : l.length ≤ 2000
  · have q : ¬ (2000 : Int) < (l.length : Int) := by omega
    have pl := pair_lo z low
    have pr := fun W => Pair_any z low W
    have rp := fun W => rPair_any z low z0 z1 u0 u1 W
    unfold Pairs at pr
    generalize pair z low = p at *
    obtain ⟨p0, p1⟩ := pl
    have PR := Lib.hid pr
    have RP := Lib.hid rp
    clear pr rp
    have cv : ∀ W : World, Bys W w.heap.size A l → (convert 22 9 (.slice A l.length c)).run Tryd.prog W = .ok (.string ⟨l.toArray⟩) W := fun W h => h.str byteT strT c
    have CV := Lib.hid cv
    clear cv
    by_cases hz : Num.isC z
    · have el := (Num.ue_len z.toNat).2
      have put := fun v W hLW hp hs ho => Put_any z hz w.heap.size v l W hLW hp hs ho (by omega)
      have rput := fun W y (e : y = z) => rPut_int y z e hz W
      have WZ : Hid (IntKind.i64.wrap z = z) := IntWalk.i64_in _ (by omega)
      obtain ⟨E, hE⟩ : ∃ E, E = Num.ue z.toNat := ⟨_, rfl⟩
      rw [← hE] at put rput el
      obtain ⟨B, hB⟩ : ∃ B, B = l ++ E := ⟨_, rfl⟩
      rw [← hB] at put
      have HB := Lib.hid hB
      have PUT := Lib.hid put
      have RPUT := Lib.hid rput
      have CH := Lib.hid (fun W => chr_yes z hz W)
      clear put rput hE hB hz
      have hstr : (⟨l.toArray⟩ : ByteArray) ++ ⟨E.toArray⟩ = ⟨B.toArray⟩ := by rw [HB.out]; apply ByteArray.ext; simp
      by_cases hp : p = 0
      · subst hp
        go_enter Tryd.func4, Tryd.ntmps4
        go_wp2_with (at_builtin; refine wpList_app _ byteT rfl (.tmp 18) (.tmp 19) rfl w.heap.size _ [] rfl (own_lit w (Nat.le_refl _)) _ A c l rfl (hb.alloc (Nat.le_refl _) _) (by simp; omega) (by simp) ?_; intro v2 w2 o2 h2; rw [List.nil_append] at o2; have h12 : Below w.heap.size w w2 := ((Below.refl _ _).alloc (Nat.le_refl _) _).trans h2; have L2 := hL.below h12 hL.1; have b2 := hb.below h12; clear h2)
        refine (PUT.out v2 w2 L2 hL.1 h12.size o2).mono ?_
        rintro e w3 ⟨v3, rfl, o3, h3⟩
        have h13 := h12.trans h3
        have L3 := hL.below h13 hL.1
        have b3 := hb.below h13
        obtain ⟨A3, c3, rfl, y3, r3⟩ := o3.room
        have sb3 := CV.out _ b3
        go_wp2_with fail
        refine (CH.out _).mono ?_
        rintro e w' ⟨rfl, rfl⟩
        go_wp2_with fail
        have b3d := b3.drew
        go_region_held_law (fun w' => (convert 22 9 (.slice A l.length c)).run Tryd.prog w' = .ok (.string ⟨l.toArray⟩) w') (first | exact CV.out _ b3d | exact CV.out _ (by assumption)) (first | (go_at_call 15; refine (RPUT.out _ _ WZ.out).mono ?_; rintro e w4 ⟨A4, rfl, y4, h4⟩; have s4 := y4.str byteT strT E.length; have b4 := b3d.below (h4.mono h13.size); have h14 := (h13.drew).trans (h4.mono h13.size); have L4 := hL.below h14 hL.1; have y5 := (y3.drew).below h4; have s5 := y5.str byteT strT c3))
        all_goals
          go_wp2_with fail
          refine (PR.out _).mono ?_
          rintro e w' ⟨rfl, rfl⟩
          go_wp2_with fail
          refine (RP.out _).mono ?_
          rintro e w' ⟨rfl, rfl⟩
          go_wp2_with fail
          refine (works_any _ L4).mono ?_
          rintro e w9 ⟨rfl, h9⟩
          go_wp2_with fail
          go_ret
          exact ⟨rfl, Below.next h14 h9⟩
      · have k1 : (p == 0) = false := by simpa using hp
        have k2 : (p != 0) = true := by simpa using hp
        clear hp
        go_enter Tryd.func4, Tryd.ntmps4
        go_wp2_with (at_builtin; refine wpList_app _ byteT rfl (.tmp 18) (.tmp 19) rfl w.heap.size _ [] rfl (own_lit w (Nat.le_refl _)) _ A c l rfl (hb.alloc (Nat.le_refl _) _) (by simp; omega) (by simp) ?_; intro v2 w2 o2 h2; rw [List.nil_append] at o2; have h12 : Below w.heap.size w w2 := ((Below.refl _ _).alloc (Nat.le_refl _) _).trans h2; have L2 := hL.below h12 hL.1; have b2 := hb.below h12; clear h2)
        refine (PUT.out v2 w2 L2 hL.1 h12.size o2).mono ?_
        rintro e w3 ⟨v3, rfl, o3, h3⟩
        have h13 := h12.trans h3
        have L3 := hL.below h13 hL.1
        have b3 := hb.below h13
        obtain ⟨A3, c3, rfl, y3, r3⟩ := o3.room
        have sb3 := CV.out _ b3
        go_wp2_with fail
        refine (CH.out _).mono ?_
        rintro e w' ⟨rfl, rfl⟩
        go_wp2_with fail
        have b3d := b3.drew
        go_region_held_law (fun w' => (convert 22 9 (.slice A l.length c)).run Tryd.prog w' = .ok (.string ⟨l.toArray⟩) w') (first | exact CV.out _ b3d | exact CV.out _ (by assumption)) (first | (go_at_call 15; refine (RPUT.out _ _ WZ.out).mono ?_; rintro e w4 ⟨A4, rfl, y4, h4⟩; have s4 := y4.str byteT strT E.length; have b4 := b3d.below (h4.mono h13.size); have h14 := (h13.drew).trans (h4.mono h13.size); have L4 := hL.below h14 hL.1; have y5 := (y3.drew).below h4; have s5 := y5.str byteT strT c3))
        all_goals
          go_wp2_with fail
          refine (PR.out _).mono ?_
          rintro e w' ⟨rfl, rfl⟩
          go_wp2_with fail
          refine (RP.out _).mono ?_
          rintro e w' ⟨rfl, rfl⟩
          go_wp2_with fail
          refine (works_any _ L4).mono ?_
          rintro e w9 ⟨rfl, h9⟩
          go_wp2_with fail
          go_ret
          exact ⟨rfl, Below.next h14 h9⟩
    · have put := fun v W => Put_no z hz v W
      have PUT := Lib.hid put
      have CH := Lib.hid (fun W => chr_no z hz W)
      clear put hz
      by_cases hp : p = 0
      · subst hp
        go_enter Tryd.func4, Tryd.ntmps4
        go_wp2_with (at_builtin; refine wpList_app _ byteT rfl (.tmp 18) (.tmp 19) rfl w.heap.size _ [] rfl (own_lit w (Nat.le_refl _)) _ A c l rfl (hb.alloc (Nat.le_refl _) _) (by simp; omega) (by simp) ?_; intro v2 w2 o2 h2; rw [List.nil_append] at o2; have h12 : Below w.heap.size w w2 := ((Below.refl _ _).alloc (Nat.le_refl _) _).trans h2; have L2 := hL.below h12 hL.1; have b2 := hb.below h12; clear h2)
        refine (PUT.out v2 w2).mono ?_
        rintro e w' ⟨rfl, rfl⟩
        obtain ⟨A3, c3, rfl, y3, r3⟩ := o2.room
        have s3 := y3.str byteT strT c3
        have sb2 := CV.out _ b2
        go_wp2_with fail
        refine (CH.out _).mono ?_
        rintro e w' ⟨rfl, rfl⟩
        go_wp2_with fail
        refine (PR.out _).mono ?_
        rintro e w' ⟨rfl, rfl⟩
        go_wp2_with fail
        refine (RP.out _).mono ?_
        rintro e w' ⟨rfl, rfl⟩
        go_wp2_with fail
        refine (works_any _ L2).mono ?_
        rintro e w9 ⟨rfl, h9⟩
        go_wp2_with fail
        go_ret
        exact ⟨rfl, Below.next h12 h9⟩
      · have k1 : (p == 0) = false := by simpa using hp
        have k2 : (p != 0) = true := by simpa using hp
        clear hp
        go_enter Tryd.func4, Tryd.ntmps4
        go_wp2_with (at_builtin; refine wpList_app _ byteT rfl (.tmp 18) (.tmp 19) rfl w.heap.size _ [] rfl (own_lit w (Nat.le_refl _)) _ A c l rfl (hb.alloc (Nat.le_refl _) _) (by simp; omega) (by simp) ?_; intro v2 w2 o2 h2; rw [List.nil_append] at o2; have h12 : Below w.heap.size w w2 := ((Below.refl _ _).alloc (Nat.le_refl _) _).trans h2; have L2 := hL.below h12 hL.1; have b2 := hb.below h12; clear h2)
        refine (PUT.out v2 w2).mono ?_
        rintro e w' ⟨rfl, rfl⟩
        obtain ⟨A3, c3, rfl, y3, r3⟩ := o2.room
        have s3 := y3.str byteT strT c3
        have sb2 := CV.out _ b2
        go_wp2_with fail
        refine (CH.out _).mono ?_
        rintro e w' ⟨rfl, rfl⟩
        go_wp2_with fail
        refine (PR.out _).mono ?_
        rintro e w' ⟨rfl, rfl⟩
        go_wp2_with fail
        refine (RP.out _).mono ?_
        rintro e w' ⟨rfl, rfl⟩
        go_wp2_with fail
        refine (works_any _ L2).mono ?_
        rintro e w9 ⟨rfl, h9⟩
        go_wp2_with fail
        go_ret
        exact ⟨rfl, Below.next h12 h9⟩
  · have q : (2000 : Int) < (l.length : Int) := by omega
    go_enter Tryd.func4, Tryd.ntmps4
    go_wp2_with fail
    refine (works_any _ hL).mono ?_
    rintro e w3 ⟨rfl, h3⟩
    go_wp2_with fail
    go_ret
    exact ⟨rfl, h3⟩

set_option maxHeartbeats 2000000 in
theorem utfBack_walk (z : Int) (A1 : Option Addr) (ahead : List UInt8) (c1 : Nat) (A2 : Option Addr) (tail : List UInt8) (c2 : Nat) (w : World) (wz : (Lit.int .i32 z).wf = true) (_hc1 : ahead.length ≤ c1) (b1 : Bys w w.heap.size A1 ahead) (hc2 : tail.length ≤ c2) (b2 : Bys w w.heap.size A2 tail) (hL : Laid w) :
    Calls Tryd.prog 5 #[.int .i32 z, .slice A1 ahead.length c1, .slice A2 tail.length c2] w (Yes w.heap.size w) := by
  obtain ⟨z0, z1⟩ := fit_i32 wz
  clear wz
  by_cases ha : ahead.length ≤ 2000
  · have qa : ¬ (2000 : Int) < (ahead.length : Int) := by omega
    by_cases ht : tail.length ≤ 2000
    · have qt : ¬ (2000 : Int) < (tail.length : Int) := by omega
      have tt := fun W hLW hbW => Take_any A2 c2 tail 0 W hLW hbW (by omega) hc2
      rw [tk_zero] at tt
      have err := Num.fst_err tail
      have uef := fun x n h => Num.ue_fst (l := tail) (c := x) (n := n) h
      obtain ⟨⟨x, n, er⟩, hr⟩ : ∃ r, r = Num.fst tail := ⟨_, rfl⟩
      rw [← hr] at tt err uef
      clear hr
      have TT := Lib.hid tt
      clear tt
      by_cases he : er = 0
      · subst he
        have hn : 0 < n ∧ n ≤ tail.length := by
          rcases err with ⟨_, _, e, h1, _, h2⟩ | ⟨e, _⟩ | e
          · simp only [Prod.mk.injEq] at e; omega
          · simp at e
          · simp at e
        obtain ⟨n0, n1⟩ := hn
        obtain ⟨xc, xe, _⟩ := uef x n rfl
        have xlen : (Num.ue x).length = n := by rw [xe, List.length_take]; omega
        have put2 := fun W hLW => Put_any (x : Int) xc W.heap.size _ [] W hLW hLW.1 (Nat.le_refl _) (Own.none_ _ _ _) (by decide)
        rw [Int.toNat_natCast, List.nil_append] at put2
        rw [xe] at put2
        have PUT2 := Lib.hid put2
        obtain ⟨b, off, rfl⟩ : ∃ b off, A2 = some ⟨b, off, none⟩ := by
          rcases b2 with h | ⟨b, off, rfl, _⟩
          · subst h; simp at n1; omega
          · exact ⟨b, off, rfl⟩
        have i1 : (n : Int) ≤ (c2 : Int) := by omega
        have i2 : n ≤ tail.length := n1
        have i3 : ¬ tail.length < n := by omega
        have i4 : decide (tail.length < n) = false := by simp; omega
        have TL : Hid ((tail.take n).length = n) := by unfold Hid; rw [List.length_take]; omega
        have tne : tail.take n ≠ [] := by intro e; have := congrArg List.length e; rw [TL.out] at this; simp at this; omega
        have TNE := Lib.hid tne
        have cvt : ∀ (W : World) (B : Nat), Bys W B (some ⟨b, off, none⟩) tail → ∀ k, (convert 22 9 (.slice (some ⟨b, off, none⟩) n c2)).run Tryd.prog (W.drewN k) = .ok (.string ⟨(tail.take n).toArray⟩) (W.drewN k) := fun W B h k => by
          have h2 := ((h.front n).drewN k).str byteT strT c2
          rw [TL.out] at h2
          exact h2
        have CVT := Lib.hid cvt
        clear err uef xe xc xlen put2 tne cvt
        by_cases hz : Num.isC z
        · obtain ⟨k, rfl⟩ := Int.eq_ofNat_of_zero_le hz.1
          have el := (Num.ue_len k).2
          have put := fun v W hLW hp hs ho => Put_any (k : Int) hz w.heap.size v ahead W hLW hp hs ho (by omega)
          rw [Int.toNat_natCast] at put
          have tku := tk_ue (ahead := ahead) (tail := tail) hz
          obtain ⟨E, hE⟩ : ∃ E, E = Num.ue k := ⟨_, rfl⟩
          rw [← hE] at put el tku
          obtain ⟨B, hB⟩ : ∃ B, B = ahead ++ E := ⟨_, rfl⟩
          rw [← hB] at put tku
          have lB : B.length = ahead.length + E.length := by rw [hB, List.length_append]
          obtain ⟨C, hC⟩ : ∃ C, C = B ++ tail := ⟨_, rfl⟩
          rw [← hC] at tku
          have lC : C.length = B.length + tail.length := by rw [hC, List.length_append]
          have tk2 := fun A c W hLW hbW hc => Take_any A c C (ahead.length : Int) W hLW hbW (by omega) hc
          rw [tku] at tk2
          have TK := Lib.hid tk2
          have HC := Lib.hid hC
          have PUT := Lib.hid put
          have q5 : ((ahead.length : Int) + (E.length : Int) != (B.length : Int)) = false := by simp; omega
          have q6 : ((ahead.length : Int) + (E.length : Int) == (B.length : Int)) = true := by simp; omega
          have q7 : B.length ≤ 2004 := by omega
          clear put tk2 tku hE hB hC lB lC hz
          go_enter Tryd.func5, Tryd.ntmps5
          go_wp2_with fail
          refine (works_any _ hL).mono ?_
          rintro e w1 ⟨rfl, h1⟩
          have s1 := h1.size
          have L1 := hL.below h1 hL.1
          have y1 := b1.below h1
          go_wp2_with (at_builtin; refine wpList_app _ byteT rfl (.tmp 28) (.tmp 29) rfl w.heap.size _ [] rfl (own_lit w1 s1) _ A1 c1 ahead rfl (y1.alloc s1 _) (by simp; omega) (by simp; omega) ?_; intro v2 w2 o2 h2; rw [List.nil_append] at o2; have h12 : Below w.heap.size w w2 := (h1.alloc s1 _).trans h2; have L2 := hL.below h12 hL.1; clear h2)
          refine (PUT.out v2 w2 L2 hL.1 h12.size o2).mono ?_
          rintro e w3 ⟨v3, rfl, o3, h3⟩
          have h13 := h12.trans h3
          have L3 := hL.below h13 hL.1
          obtain ⟨A3, c3, rfl, y3, r3⟩ := o3.room
          have t3 := b2.below h13
          have y3' := y3
          clear o2 h3
          go_wp2_with (first
            | (at_builtin; refine wpList_app _ byteT rfl (.tmp 38) (.tmp 39) rfl w3.heap.size _ [] rfl (own_lit w3 (Nat.le_refl _)) _ A3 c3 B rfl (y3.alloc (Nat.le_refl _) _) (by simp; omega) (by simp) ?_; intro v4 w4 o4 h4; rw [List.nil_append] at o4; have h34 : Below w3.heap.size w3 w4 := ((Below.refl _ _).alloc (Nat.le_refl _) _).trans h4; have t4 := (t3.more h13.size).below h34; clear h4)
            | (at_builtin; refine wpList_app _ byteT rfl (.tmp 40) (.tmp 41) rfl w3.heap.size _ B rfl o4 _ _ c2 tail rfl t4 (by omega) h34.size ?_; intro v5 w5 o5 h5; have h35 := h34.trans h5; clear h5 h34 o4 t4))
          have h15 := Below.next h13 h35
          have L5 := hL.below h15 hL.1
          rw [← HC.out] at o5
          obtain ⟨A5, c5, rfl, y5, r5⟩ := o5.room
          clear o5
          go_wp2_with fail
          refine (TK.out A5 c5 w5 L5 y5 r5).mono ?_
          rintro e w6 ⟨rfl, h6⟩
          have h16 := Below.next h15 h6
          have L6 := hL.below h16 hL.1
          have t6 := (b2.below h16).more h16.size
          go_wp2_with fail
          refine (TT.out _ L6 t6).mono ?_
          rintro e w7 ⟨rfl, h7⟩
          have h17 := Below.next h16 h7
          have L7 := hL.below h17 hL.1
          have t7 := (t6.below h7).more h7.size
          go_wp2_with fail
          refine (PUT2.out _ L7).mono ?_
          rintro e w8 ⟨v8, rfl, o8, h8⟩
          obtain ⟨g8, c8, rfl, y8, r8⟩ := o8.room1 TNE.out
          rw [TL.out]
          have h18 := Below.next h17 h8
          have cv1 := CVT.out _ _ (t7.below h8)
          have cv2 : ∀ k, (convert 22 9 (.slice (some ⟨g8, 0, none⟩) n c8)).run Tryd.prog (w8.drewN k) = .ok (.string ⟨(tail.take n).toArray⟩) (w8.drewN k) := fun k => by
            have h2 := (y8.drewN k).str byteT strT c8
            rw [TL.out] at h2
            exact h2
          go_wp2_with fail
          go_quiet (fail)
          go_wp2_with fail
          go_ret
          exact ⟨rfl, bel_drewN h18 nq⟩
        · have put := fun v W => Put_no z hz v W
          have PUT := Lib.hid put
          clear put hz
          go_enter Tryd.func5, Tryd.ntmps5
          go_wp2_with fail
          refine (works_any _ hL).mono ?_
          rintro e w1 ⟨rfl, h1⟩
          have s1 := h1.size
          have L1 := hL.below h1 hL.1
          have y1 := b1.below h1
          go_wp2_with (at_builtin; refine wpList_app _ byteT rfl (.tmp 28) (.tmp 29) rfl w.heap.size _ [] rfl (own_lit w1 s1) _ A1 c1 ahead rfl (y1.alloc s1 _) (by simp; omega) (by simp; omega) ?_; intro v2 w2 o2 h2; rw [List.nil_append] at o2; have h12 : Below w.heap.size w w2 := (h1.alloc s1 _).trans h2; have L2 := hL.below h12 hL.1; clear h2)
          refine (PUT.out v2 w2).mono ?_
          rintro e w' ⟨rfl, rfl⟩
          have h16 := h12
          have L6 := L2
          have t6 := (b2.below h16).more h16.size
          go_wp2_with fail
          refine (TT.out _ L6 t6).mono ?_
          rintro e w7 ⟨rfl, h7⟩
          have h17 := Below.next h16 h7
          have L7 := hL.below h17 hL.1
          have t7 := (t6.below h7).more h7.size
          go_wp2_with fail
          refine (PUT2.out _ L7).mono ?_
          rintro e w8 ⟨v8, rfl, o8, h8⟩
          obtain ⟨g8, c8, rfl, y8, r8⟩ := o8.room1 TNE.out
          rw [TL.out]
          have h18 := Below.next h17 h8
          have cv1 := CVT.out _ _ (t7.below h8)
          have cv2 : ∀ k, (convert 22 9 (.slice (some ⟨g8, 0, none⟩) n c8)).run Tryd.prog (w8.drewN k) = .ok (.string ⟨(tail.take n).toArray⟩) (w8.drewN k) := fun k => by
            have h2 := (y8.drewN k).str byteT strT c8
            rw [TL.out] at h2
            exact h2
          go_wp2_with fail
          go_quiet (fail)
          go_wp2_with fail
          go_ret
          exact ⟨rfl, bel_drewN h18 nq⟩
      · have hx : x = 0 ∧ n = 0 := by
          rcases err with ⟨_, _, e, h1, _, h2⟩ | ⟨e, _⟩ | e <;> (simp only [Prod.mk.injEq] at e; omega)
        obtain ⟨rfl, rfl⟩ := hx
        have q1 : ((er : Int) == 0) = false := by simp; omega
        have q2 : ((er : Int) != 0) = true := by simp; omega
        clear err uef he
        by_cases hz : Num.isC z
        · obtain ⟨k, rfl⟩ := Int.eq_ofNat_of_zero_le hz.1
          have el := (Num.ue_len k).2
          have put := fun v W hLW hp hs ho => Put_any (k : Int) hz w.heap.size v ahead W hLW hp hs ho (by omega)
          rw [Int.toNat_natCast] at put
          have tku := tk_ue (ahead := ahead) (tail := tail) hz
          obtain ⟨E, hE⟩ : ∃ E, E = Num.ue k := ⟨_, rfl⟩
          rw [← hE] at put el tku
          obtain ⟨B, hB⟩ : ∃ B, B = ahead ++ E := ⟨_, rfl⟩
          rw [← hB] at put tku
          have lB : B.length = ahead.length + E.length := by rw [hB, List.length_append]
          obtain ⟨C, hC⟩ : ∃ C, C = B ++ tail := ⟨_, rfl⟩
          rw [← hC] at tku
          have lC : C.length = B.length + tail.length := by rw [hC, List.length_append]
          have tk2 := fun A c W hLW hbW hc => Take_any A c C (ahead.length : Int) W hLW hbW (by omega) hc
          rw [tku] at tk2
          have TK := Lib.hid tk2
          have HC := Lib.hid hC
          have PUT := Lib.hid put
          have q5 : ((ahead.length : Int) + (E.length : Int) != (B.length : Int)) = false := by simp; omega
          have q6 : ((ahead.length : Int) + (E.length : Int) == (B.length : Int)) = true := by simp; omega
          have q7 : B.length ≤ 2004 := by omega
          clear put tk2 tku hE hB hC lB lC hz
          go_enter Tryd.func5, Tryd.ntmps5
          go_wp2_with fail
          refine (works_any _ hL).mono ?_
          rintro e w1 ⟨rfl, h1⟩
          have s1 := h1.size
          have L1 := hL.below h1 hL.1
          have y1 := b1.below h1
          go_wp2_with (at_builtin; refine wpList_app _ byteT rfl (.tmp 28) (.tmp 29) rfl w.heap.size _ [] rfl (own_lit w1 s1) _ A1 c1 ahead rfl (y1.alloc s1 _) (by simp; omega) (by simp; omega) ?_; intro v2 w2 o2 h2; rw [List.nil_append] at o2; have h12 : Below w.heap.size w w2 := (h1.alloc s1 _).trans h2; have L2 := hL.below h12 hL.1; clear h2)
          refine (PUT.out v2 w2 L2 hL.1 h12.size o2).mono ?_
          rintro e w3 ⟨v3, rfl, o3, h3⟩
          have h13 := h12.trans h3
          have L3 := hL.below h13 hL.1
          obtain ⟨A3, c3, rfl, y3, r3⟩ := o3.room
          have t3 := b2.below h13
          have y3' := y3
          clear o2 h3
          go_wp2_with (first
            | (at_builtin; refine wpList_app _ byteT rfl (.tmp 38) (.tmp 39) rfl w3.heap.size _ [] rfl (own_lit w3 (Nat.le_refl _)) _ A3 c3 B rfl (y3.alloc (Nat.le_refl _) _) (by simp; omega) (by simp) ?_; intro v4 w4 o4 h4; rw [List.nil_append] at o4; have h34 : Below w3.heap.size w3 w4 := ((Below.refl _ _).alloc (Nat.le_refl _) _).trans h4; have t4 := (t3.more h13.size).below h34; clear h4)
            | (at_builtin; refine wpList_app _ byteT rfl (.tmp 40) (.tmp 41) rfl w3.heap.size _ B rfl o4 _ _ c2 tail rfl t4 (by omega) h34.size ?_; intro v5 w5 o5 h5; have h35 := h34.trans h5; clear h5 h34 o4 t4))
          have h15 := Below.next h13 h35
          have L5 := hL.below h15 hL.1
          rw [← HC.out] at o5
          obtain ⟨A5, c5, rfl, y5, r5⟩ := o5.room
          clear o5
          go_wp2_with fail
          refine (TK.out A5 c5 w5 L5 y5 r5).mono ?_
          rintro e w6 ⟨rfl, h6⟩
          have h16 := Below.next h15 h6
          have L6 := hL.below h16 hL.1
          have t6 := (b2.below h16).more h16.size
          go_wp2_with fail
          refine (TT.out _ L6 t6).mono ?_
          rintro e w7 ⟨rfl, h7⟩
          have h17 := Below.next h16 h7
          go_wp2_with fail
          go_ret
          exact ⟨rfl, h17⟩
        · have put := fun v W => Put_no z hz v W
          have PUT := Lib.hid put
          clear put hz
          go_enter Tryd.func5, Tryd.ntmps5
          go_wp2_with fail
          refine (works_any _ hL).mono ?_
          rintro e w1 ⟨rfl, h1⟩
          have s1 := h1.size
          have L1 := hL.below h1 hL.1
          have y1 := b1.below h1
          go_wp2_with (at_builtin; refine wpList_app _ byteT rfl (.tmp 28) (.tmp 29) rfl w.heap.size _ [] rfl (own_lit w1 s1) _ A1 c1 ahead rfl (y1.alloc s1 _) (by simp; omega) (by simp; omega) ?_; intro v2 w2 o2 h2; rw [List.nil_append] at o2; have h12 : Below w.heap.size w w2 := (h1.alloc s1 _).trans h2; have L2 := hL.below h12 hL.1; clear h2)
          refine (PUT.out v2 w2).mono ?_
          rintro e w' ⟨rfl, rfl⟩
          have h16 := h12
          have L6 := L2
          have t6 := (b2.below h16).more h16.size
          go_wp2_with fail
          refine (TT.out _ L6 t6).mono ?_
          rintro e w7 ⟨rfl, h7⟩
          have h17 := Below.next h16 h7
          go_wp2_with fail
          go_ret
          exact ⟨rfl, h17⟩
    · have qt : (2000 : Int) < (tail.length : Int) := by omega
      go_enter Tryd.func5, Tryd.ntmps5
      go_wp2_with fail
      refine (works_any _ hL).mono ?_
      rintro e w3 ⟨rfl, h3⟩
      go_wp2_with fail
      go_ret
      exact ⟨rfl, h3⟩
  · have qa : (2000 : Int) < (ahead.length : Int) := by omega
    go_enter Tryd.func5, Tryd.ntmps5
    go_wp2_with fail
    refine (works_any _ hL).mono ?_
    rintro e w3 ⟨rfl, h3⟩
    go_wp2_with fail
    go_ret
    exact ⟨rfl, h3⟩

end Go.Proofs.YtoanidhbiahjaaaDoor
