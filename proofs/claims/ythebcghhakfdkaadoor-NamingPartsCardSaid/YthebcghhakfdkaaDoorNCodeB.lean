/- Layer 9, the code's own calls at every input: full names, their parts; words of kinds. -/
import Derived.Test.YthebcghhakfdkaaDoorNCode
namespace Go.Proofs.YthebcghhakfdkaaDoor
open Go.ChangeShapes Go.WideShapes Go.ChangeAt Go.RowKit Mem

theorem clone_any (s : ByteArray) (hs : s.size ≤ 1000000000) (w : World) : Calls Tryd.prog 26 #[.string s] w (Ans (.string s) w) := by
  have C := Lib.hid (fun W => Tryd.stringslite_Clone s W (by omega))
  go_enter Tryd.func26, Tryd.ntmps26
  go_wp2_with fail
  refine (C.out _).mono ?_
  rintro e w1 ⟨rfl, b1⟩
  go_wp2_with fail
  go_ret
  exact ⟨rfl, b1⟩
theorem lastIndex_any (s : ByteArray) (hs : s.size ≤ 1000000000) (w : World) : Calls Tryd.prog 27 #[.string s, .string ⟨#[46]⟩] w (Pure (.int .i64 (Nm.dot s.data.toList)) w) := by
  refine (Tryd.strings_LastIndex_one s ⟨#[46]⟩ rfl (by omega) w).mono ?_
  rintro e w' ⟨h1, h2⟩
  refine ⟨?_, h2.symm⟩
  rw [h1]
  show Ending.returned (Value.int .i64 (Lib.lastIndexByte s 46)) = _
  rw [Nm.last_dot]
theorem contains_any (s : ByteArray) (w : World) : Calls Tryd.prog 28 #[.string s, .string ⟨#[46]⟩] w (Pure (.bool (decide (0 ≤ Nm.dot s.data.toList))) w) := by
  refine (Tryd.strings_Contains_one s 46 w).mono ?_
  rintro e w' ⟨h1, h2⟩
  exact ⟨by rw [h1, Nm.has_dot], h2.symm⟩

set_option maxRecDepth 100000 in
set_option maxHeartbeats 2000000 in
theorem nSpace_any (s : ByteArray) (hs : s.size ≤ 1000000000) (w : World) (_hL : LaidN w) : Calls Tryd.prog 10 #[.string s] w (Ans (.string (sst (Nm.space s.data.toList))) w) := by
  have ln := len_str s
  have dt := Nm.dot_lt s.data.toList
  have DT := Lib.hid (fun W => lastIndex_any s hs W)
  have ch := fun m z h1 h2 => cut_h s m z h1 h2
  have EX : ∃ k : Nat, k ≤ s.size ∧ (0 ≤ Nm.dot s.data.toList → Nm.dot s.data.toList = (k : Int)) ∧ (Nm.dot s.data.toList < 0 → k = 0) ∧ Nm.space s.data.toList = s.data.toList.take k := by
    rcases Int.lt_or_le (Nm.dot s.data.toList) 0 with h | h
    · refine ⟨0, Nat.zero_le _, fun g => by omega, fun _ => rfl, ?_⟩
      unfold Nm.space; rw [if_pos h]; rfl
    · refine ⟨(Nm.dot s.data.toList).toNat, by omega, fun _ => by omega, fun g => by omega, ?_⟩
      unfold Nm.space; rw [if_neg (by omega)]
  obtain ⟨k, hk, e1, e2, e3⟩ := EX
  have CL := Lib.hid (fun W => clone_any (sst (s.data.toList.take k)) (by rw [sst_size, List.length_take]; omega) W)
  rw [e3]
  have sh := fun W => ch k (k : Int) rfl hk W
  have EXT : s.extract 0 (max (Nm.dot s.data.toList) 0).toNat = sst (s.data.toList.take k) := by
    rw [ext_h, show (max (Nm.dot s.data.toList) 0).toNat = k by omega]
  have HX := Lib.hid EXT
  clear EXT
  generalize sst (s.data.toList.take k) = T at *
  obtain ⟨D, hD⟩ : ∃ D, D = Nm.dot s.data.toList := ⟨_, rfl⟩
  rw [← hD] at dt DT e1 e2 HX
  clear ch hD e3
  rcases Int.lt_or_le D 0 with h | h
  · obtain rfl : k = 0 := e2 h
    obtain rfl : D = -1 := by omega
    rw [show ((0 : Nat) : Int) = 0 from rfl] at sh
    clear e1 e2 dt
    go_enter Tryd.func10, Tryd.ntmps10
    go_wp2_with fail
    with_reducible refine (DT.out _).mono ?_
    rintro e w1 ⟨rfl, rfl⟩
    go_wp2_with fail
    try rw [HX.out]
    refine (CL.out _).mono ?_
    rintro e w1 ⟨rfl, b1⟩
    go_wp2_with fail
    go_ret
    exact ⟨rfl, b1⟩
  · obtain rfl : D = (k : Int) := e1 h
    have q : ¬ (k : Int) < 0 := by omega
    have q2 : (0 : Int) ≤ (k : Int) := by omega
    clear e1 e2 dt
    go_enter Tryd.func10, Tryd.ntmps10
    go_wp2_with fail
    with_reducible refine (DT.out _).mono ?_
    rintro e w1 ⟨rfl, rfl⟩
    go_wp2_with fail
    try rw [HX.out]
    refine (CL.out _).mono ?_
    rintro e w1 ⟨rfl, b1⟩
    go_wp2_with fail
    go_ret
    exact ⟨rfl, b1⟩

set_option maxRecDepth 100000 in
set_option maxHeartbeats 2000000 in
theorem nLast_any (s : ByteArray) (hs : s.size ≤ 1000000000) (w : World) (_hL : LaidN w) : Calls Tryd.prog 12 #[.string s] w (Ans (.string (sst (Nm.last s.data.toList))) w) := by
  have ln := len_str s
  have dt := Nm.dot_lt s.data.toList
  have DT := Lib.hid (fun W => lastIndex_any s hs W)
  have cl := fun m z h1 h2 => cut_l s m z h1 h2
  unfold Nm.last
  obtain ⟨D, hD⟩ : ∃ D, D = Nm.dot s.data.toList := ⟨_, rfl⟩
  rw [← hD] at dt DT ⊢
  rw [ln] at dt
  have dl := dt.1
  have dh := dt.2
  have sl := fun W => cl (D + 1).toNat (D + 1) (by omega) (by omega) W
  have CL := Lib.hid (fun W => clone_any (sst (s.data.toList.drop (D + 1).toNat)) (by rw [sst_size, List.length_drop]; omega) W)
  generalize s.data.toList.drop (D + 1).toNat = T at *
  generalize sst T = T2 at *
  clear hD cl
  go_enter Tryd.func12, Tryd.ntmps12
  go_wp2_with fail
  with_reducible refine (DT.out _).mono ?_
  rintro e w1 ⟨rfl, rfl⟩
  go_wp2_with fail
  refine (CL.out _).mono ?_
  rintro e w1 ⟨rfl, b1⟩
  go_wp2_with fail
  go_ret
  exact ⟨rfl, b1⟩

theorem parts_cell (w : World) (L : List ByteArray) (i : Nat) (h : i < L.length) : (w.alloc (.cells (L.map Value.string).toArray 9)).cell? ⟨w.heap.size, i, none⟩ = some (.string (L.getD i ⟨#[]⟩)) := by
  have hh : (w.alloc (.cells (L.map Value.string).toArray 9)).heap[w.heap.size]? = some (.cells (L.map Value.string).toArray 9 (0, 0)) := heap_alloc_new w _
  rw [cell_of_row _ _ _ _ _ _ hh]
  simp [List.getD, List.getElem?_eq_getElem h]

set_option maxRecDepth 100000 in
set_option maxHeartbeats 2000000 in
theorem nFull_any (s : ByteArray) (hs : s.size ≤ 1000000000) (w : World) (_hL : LaidN w) : Calls Tryd.prog 8 #[.string s] w (Ans (.bool (Nm.full s.data.toList)) w) := by
  have ln := len_str s
  have FP := Nm.full_parts' s.data.toList
  rw [ln] at FP
  obtain ⟨R, hR⟩ : ∃ R, R = Nm.full s.data.toList := ⟨_, rfl⟩
  rw [← hR] at FP ⊢
  by_cases h1 : 100 < s.size
  · have q : (100 : Int) < (s.size : Int) := by omega
    have Z : Hid (R = false) := by show _ = _; rw [FP, decide_eq_false (by omega)]; rfl
    clear hR FP
    go_enter Tryd.func8, Tryd.ntmps8
    go_wp2_with fail
    go_ret
    exact ⟨by first | (rw [Z.out]; done) | (rw [Z.out]; rfl), Below.refl _ _⟩
  · have q : ¬ (100 : Int) < (s.size : Int) := by omega
    rw [decide_eq_true (by omega), Bool.true_and] at FP
    have SPL := Lib.hid (fun W => split_any s hs W)
    have FPH := Lib.hid FP
    have hsz : s.size ≤ 100 := by omega
    clear FP hR h1
    go_enter Tryd.func8, Tryd.ntmps8
    go_wp2_with fail
    refine (SPL.out _).mono ?_
    rintro e w1 ⟨L, hL, rfl, rfl⟩
    have KL : Hid (∀ i, i < L.length → (L.getD i ⟨#[]⟩).size ≤ 1000000000) := fun i hi => by
      have := Nm.parts_small s.data.toList ((L.getD i ⟨#[]⟩).data.toList) (by rw [← hL]; exact List.mem_map.2 ⟨_, by simp [List.getD, List.getElem?_eq_getElem hi], rfl⟩)
      rw [len_str] at this
      omega
    have RA : Hid (R = L.all fun x => Nm.simple x.data.toList) := by show _ = _; rw [FPH.out, ← hL, List.all_map]; rfl
    have nb : L.length ≤ 101 := by have a := congrArg List.length hL; have b := Nm.parts_count s.data.toList; rw [List.length_map] at a; omega
    have CE := fun i h => parts_cell w L i h
    have NB : w.heap.size < (w.alloc (.cells (L.map Value.string).toArray 9)).heap.size := by simp
    have BW : Below w.heap.size w (w.alloc (.cells (L.map Value.string).toArray 9)) := (Below.refl _ _).alloc (Nat.le_refl _) _
    generalize w.alloc (.cells (L.map Value.string).toArray 9) = w2 at *
    obtain ⟨n, hn⟩ : ∃ n, n = L.length := ⟨_, rfl⟩
    rw [← hn] at CE KL nb ⊢
    have HN := Lib.hid hn
    clear hL hn FPH SPL
    have CEH := Lib.hid CE
    clear CE
    go_wp2_with fail
    go_loopw [11] (fun t wr => ∃ j : Nat, j ≤ n ∧ t = .int .i64 (j : Int) ∧ Hid (∀ m, m < j → Nm.simple (L.getD m ⟨#[]⟩).data.toList = true) ∧ wr = w2) (fun t _ => n - (intOf t).toNat)
    case atStart => exact ⟨0, Nat.zero_le _, rfl, fun _ h => absurd h (Nat.not_lt_zero _), rfl⟩
    case round =>
      obtain ⟨j, hj, rfl, AL, rfl⟩ := hrel
      by_cases hjn : j < n
      · have qj : (j : Int) < (n : Int) := by omega
        have cj := CEH.out j hjn
        have SJ := Lib.hid (fun W => nSimple_pure (L.getD j ⟨#[]⟩) (KL.out j hjn) W)
        have NX : Hid (Nm.simple (L.getD j ⟨#[]⟩).data.toList = true → ∀ m, m < j + 1 → Nm.simple (L.getD m ⟨#[]⟩).data.toList = true) := fun e m hm => by
          rcases Nat.lt_or_ge m j with g | g
          · exact AL.out m g
          · obtain rfl : m = j := by omega
            exact e
        have XJ : Hid (Nm.simple (L.getD j ⟨#[]⟩).data.toList = false → R = false) := fun e => by
          rw [RA.out, List.all_eq_false]
          exact ⟨L.getD j ⟨#[]⟩, by rw [List.getD, List.getElem?_eq_getElem (by rw [← HN.out]; exact hjn)]; simp, by rw [e]; decide⟩
        generalize L.getD j ⟨#[]⟩ = P at *
        obtain ⟨b, hb⟩ : ∃ b, b = Nm.simple P.data.toList := ⟨_, rfl⟩
        rw [← hb] at SJ NX XJ
        clear hb
        go_wp2_with fail
        with_reducible refine (SJ.out _).mono ?_
        rintro e w1 ⟨rfl, rfl⟩
        cases b with
        | true =>
          have NX2 := Lib.hid (NX.out rfl)
          go_wp2_with fail
          go_roundw
          case rel => exact ⟨j + 1, by omega, by go_num, NX2, by first | rfl | trivial⟩
          case measure => simp [intOf]; omega
        | false =>
          have Z := Lib.hid (XJ.out rfl)
          go_wp2_with fail
          go_ret
          exact ⟨by first | (rw [Z.out]; done) | (rw [Z.out]; rfl), BW⟩
      · obtain rfl : j = n := by omega
        have qj : ¬ (j : Int) < (j : Int) := by omega
        have Z : Hid (R = true) := by
          show _ = _
          rw [RA.out, List.all_eq_true]
          intro x hx
          obtain ⟨m, hm, rfl⟩ := List.getElem_of_mem hx
          have := AL.out m (by rw [HN.out]; exact hm)
          rwa [List.getD, List.getElem?_eq_getElem hm, Option.getD_some] at this
        clear hjn
        go_wp2_with fail
        go_ret
        exact ⟨by first | (rw [Z.out]; done) | (rw [Z.out]; rfl), BW⟩

set_option maxRecDepth 100000 in
set_option maxHeartbeats 2000000 in
theorem nJoin_any (a b : ByteArray) (ha : a.size ≤ 1000000000) (hb : b.size ≤ 1000000000) (w : World) (hL : LaidN w) : Calls Tryd.prog 18 #[.string a, .string b] w (Ans (joined (Nm.join a.data.toList b.data.toList)) w) := by
  have la := len_str a
  have lb := len_str b
  have SUM := sum_str a b
  have FB := Lib.hid (fun W h => nFull_any b hb W h)
  have FA := Lib.hid (fun W h => nFull_any a ha W h)
  have CO := Lib.hid (fun W => contains_any b W)
  have CL := Lib.hid (fun W => clone_any b hb W)
  have OB := Lib.hid (sst_out b)
  have JN := Lib.hid (@Nm.join_not a.data.toList b.data.toList)
  have JH := Lib.hid (@Nm.join_has a.data.toList b.data.toList)
  have JI := Lib.hid (@Nm.join_in a.data.toList b.data.toList)
  have EA : Hid (a = ⟨#[]⟩ → a.data.toList = []) := fun e => by subst e; rfl
  have EB : Hid (a ≠ ⟨#[]⟩ → a.data.toList ≠ []) := fun h e => h (by rw [← sst_out a, e]; rfl)
  rw [la, lb] at JI
  obtain ⟨R, hR⟩ : ∃ R, R = Nm.join a.data.toList b.data.toList := ⟨_, rfl⟩
  rw [← hR] at JN JH JI ⊢
  obtain ⟨S0, hS0⟩ : ∃ S0, S0 = sst (a.data.toList ++ 46 :: b.data.toList) := ⟨_, rfl⟩
  rw [← hS0] at SUM
  have HS0 := Lib.hid hS0
  clear hS0
  unfold Ans at FA FB CL
  clear hR la lb
  have s1 : ¬ 9223372036854775807 < a.size + 1 := by omega
  have s2 : ¬ 9223372036854775807 < a.size + 1 + b.size := by omega
  generalize Nm.full b.data.toList = FLB at *
  generalize Nm.full a.data.toList = FLA at *
  cases FLB with
  | false =>
    have Z := Lib.hid (JN.out rfl)
    clear JH JI SUM FA CO CL EA EB
    go_enter Tryd.func18, Tryd.ntmps18
    go_wp2_with fail
    with_reducible refine (FB.out _ hL).mono ?_
    rintro e w1 ⟨rfl, b1⟩
    go_wp2_with fail
    go_ret2
    exact ⟨by rw [joined_no Z.out]; rfl, b1⟩
  | true =>
    by_cases hz : a = ⟨#[]⟩
    · have Z := Lib.hid (JH.out rfl (.inl (EA.out hz)))
      subst hz
      clear JN JH JI SUM FA CO EA EB
      go_enter Tryd.func18, Tryd.ntmps18
      go_wp2_with fail
      with_reducible refine (FB.out _ hL).mono ?_
      rintro e w1 ⟨rfl, b1⟩
      go_wp2_with fail
      with_reducible refine (CL.out _).mono ?_
      rintro e w2 ⟨rfl, b2⟩
      go_wp2_with fail
      go_ret2
      exact ⟨by rw [joined_yes Z.out OB.out.symm]; rfl, b1.trans (b2.mono b1.size)⟩
    · obtain ⟨n1, n2, n3, n4, n5⟩ := ne_facts hz
      have hne := Lib.hid (EB.out hz)
      obtain ⟨D, hD⟩ : ∃ D, D = Nm.dot b.data.toList := ⟨_, rfl⟩
      rw [← hD] at CO JH JI
      clear hD EA EB
      by_cases hd : 0 ≤ D
      · have Z := Lib.hid (JH.out rfl (.inr hd))
        rw [decide_eq_true hd] at CO
        clear JN JH JI SUM FA
        go_enter Tryd.func18, Tryd.ntmps18
        go_wp2_with fail
        with_reducible refine (FB.out _ hL).mono ?_
        rintro e w1 ⟨rfl, b1⟩
        go_wp2_with fail
        with_reducible refine (CO.out _).mono ?_
        rintro e w2 ⟨rfl, rfl⟩
        go_wp2_with fail
        with_reducible refine (CL.out _).mono ?_
        rintro e w2 ⟨rfl, b2⟩
        go_wp2_with fail
        go_ret2
        exact ⟨by rw [joined_yes Z.out OB.out.symm]; rfl, b1.trans (b2.mono b1.size)⟩
      · rw [decide_eq_false hd] at CO
        have JJ := Lib.hid (JI.out rfl hne.out (by omega))
        clear JN JH JI CL
        cases FLA with
        | false =>
          have Z := Lib.hid (JJ.out.trans (if_neg fun g => by cases g.1))
          clear JJ SUM
          go_enter Tryd.func18, Tryd.ntmps18
          go_wp2_with fail
          with_reducible refine (FB.out _ hL).mono ?_
          rintro e w1 ⟨rfl, b1⟩
          have L1 := hL.below b1
          go_wp2_with fail
          with_reducible refine (CO.out _).mono ?_
          rintro e w2 ⟨rfl, rfl⟩
          go_wp2_with fail
          with_reducible refine (FA.out _ L1).mono ?_
          rintro e w2 ⟨rfl, b2⟩
          go_wp2_with fail
          go_ret2
          exact ⟨by rw [joined_no Z.out]; rfl, b1.trans (b2.mono b1.size)⟩
        | true =>
          have wr1 : wrap64 ((a.size : Int) + 1) = (a.size : Int) + 1 := IntWalk.wrap64_in _ ⟨by omega, by omega⟩
          have wr2 : wrap64 ((a.size : Int) + 1 + (b.size : Int)) = (a.size : Int) + 1 + (b.size : Int) := IntWalk.wrap64_in _ ⟨by omega, by omega⟩
          by_cases hl : a.size + 1 + b.size ≤ 100
          · have q : ¬ (100 : Int) < (a.size : Int) + 1 + (b.size : Int) := by omega
            have Z := Lib.hid (JJ.out.trans (if_pos ⟨rfl, hl⟩))
            clear JJ
            go_enter Tryd.func18, Tryd.ntmps18
            go_wp2_with fail
            with_reducible refine (FB.out _ hL).mono ?_
            rintro e w1 ⟨rfl, b1⟩
            have L1 := hL.below b1
            go_wp2_with fail
            with_reducible refine (CO.out _).mono ?_
            rintro e w2 ⟨rfl, rfl⟩
            go_wp2_with fail
            with_reducible refine (FA.out _ L1).mono ?_
            rintro e w2 ⟨rfl, b2⟩
            go_wp2_with fail
            go_ret2
            exact ⟨by rw [joined_yes Z.out HS0.out]; rfl, b1.trans (b2.mono b1.size)⟩
          · have q : (100 : Int) < (a.size : Int) + 1 + (b.size : Int) := by omega
            have Z := Lib.hid (JJ.out.trans (if_neg fun g => hl g.2))
            clear JJ SUM
            go_enter Tryd.func18, Tryd.ntmps18
            go_wp2_with fail
            with_reducible refine (FB.out _ hL).mono ?_
            rintro e w1 ⟨rfl, b1⟩
            have L1 := hL.below b1
            go_wp2_with fail
            with_reducible refine (CO.out _).mono ?_
            rintro e w2 ⟨rfl, rfl⟩
            go_wp2_with fail
            with_reducible refine (FA.out _ L1).mono ?_
            rintro e w2 ⟨rfl, b2⟩
            go_wp2_with fail
            go_ret2
            exact ⟨by rw [joined_no Z.out]; rfl, b1.trans (b2.mono b1.size)⟩

set_option maxRecDepth 100000 in
theorem nResolve_any (n s a : ByteArray) (g : Bool) (hn : n.size ≤ 1000000000) (hs : s.size ≤ 1000000000) (ha : a.size ≤ 1000000000) (w : World) (hL : LaidN w) : Calls Tryd.prog 19 #[.string n, .string s, .bool g, .string a] w (Ans (joined (Nm.join (if g then s.data.toList else a.data.toList) n.data.toList)) w) := by
  have JA := Lib.hid (nJoin_any a n ha hn w hL)
  have JS := Lib.hid (nJoin_any s n hs hn w hL)
  unfold joined at JA JS ⊢
  unfold Ans at JA JS
  cases g with
  | true =>
    rw [if_pos rfl]
    generalize (Nm.join s.data.toList n.data.toList) = J at *
    clear JA
    go_enter Tryd.func19, Tryd.ntmps19
    go_wp2_with fail
    with_reducible refine (JS.out).mono ?_
    rintro e w1 ⟨rfl, b1⟩
    go_wp2_with fail
    go_ret2
    exact ⟨rfl, b1⟩
  | false =>
    rw [if_neg (by decide)]
    generalize (Nm.join a.data.toList n.data.toList) = J at *
    clear JS
    go_enter Tryd.func19, Tryd.ntmps19
    go_wp2_with fail
    with_reducible refine (JA.out).mono ?_
    rintro e w1 ⟨rfl, b1⟩
    go_wp2_with fail
    go_ret2
    exact ⟨rfl, b1⟩
end Go.Proofs.YthebcghhakfdkaaDoor
