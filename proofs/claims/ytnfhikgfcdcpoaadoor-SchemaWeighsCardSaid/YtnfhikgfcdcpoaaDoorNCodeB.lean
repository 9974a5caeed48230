/- Layer 9, the code's own calls at every input: full names, their parts; words of kinds. -/
import Derived.Test.YtnfhikgfcdcpoaaDoorNCode
namespace Go.Proofs.YtnfhikgfcdcpoaaDoor
open Go.ChangeShapes Go.WideShapes Go.ChangeAt Go.RowKit Mem

theorem sclone_any (s : ByteArray) (hs : s.size ≤ 1000000000) (w : World) : Calls Tryd.prog 32 #[.string s] w (Ans (.string s) w) := by
  have C := Lib.hid (fun W => Tryd.stringslite_Clone s W (by omega))
  go_enter Tryd.func32, Tryd.ntmps32
  go_wp2_with fail
  refine (C.out _).mono ?_
  rintro e w1 ⟨rfl, b1⟩
  go_wp2_with fail
  go_ret
  exact ⟨rfl, b1⟩



theorem parts_cell (w : World) (L : List ByteArray) (i : Nat) (h : i < L.length) : (w.alloc (.cells (L.map Value.string).toArray 9)).cell? ⟨w.heap.size, i, none⟩ = some (.string (L.getD i ⟨#[]⟩)) := by
  have hh : (w.alloc (.cells (L.map Value.string).toArray 9)).heap[w.heap.size]? = some (.cells (L.map Value.string).toArray 9 (0, 0)) := heap_alloc_new w _
  rw [cell_of_row _ _ _ _ _ _ hh]
  simp [List.getD, List.getElem?_eq_getElem h]

set_option maxRecDepth 100000 in
set_option maxHeartbeats 2000000 in
theorem nFull_any (s : ByteArray) (hs : s.size ≤ 1000000000) (w : World) (_hL : LaidN w) : Calls Tryd.prog 50 #[.string s] w (Ans (.bool (Nm.full s.data.toList)) w) := by
  have ln := len_str s
  have FP := Nm.full_parts' s.data.toList
  rw [ln] at FP
  obtain ⟨R, hR⟩ : ∃ R, R = Nm.full s.data.toList := ⟨_, rfl⟩
  rw [← hR] at FP ⊢
  by_cases h1 : 100 < s.size
  · have q : (100 : Int) < (s.size : Int) := by omega
    have Z : Hid (R = false) := by show _ = _; rw [FP, decide_eq_false (by omega)]; rfl
    clear hR FP
    go_enter Tryd.func50, Tryd.ntmps50
    go_wp2_with fail
    go_ret
    exact ⟨by first | (rw [Z.out]; done) | (rw [Z.out]; rfl), Below.refl _ _⟩
  · have q : ¬ (100 : Int) < (s.size : Int) := by omega
    rw [decide_eq_true (by omega), Bool.true_and] at FP
    have SPL := Lib.hid (fun W => split_any s hs W)
    have FPH := Lib.hid FP
    have hsz : s.size ≤ 100 := by omega
    clear FP hR h1
    go_enter Tryd.func50, Tryd.ntmps50
    go_wp2_with fail
    refine (SPL.out _).mono ?_
    rintro e w1 ⟨L, hL, rfl, rfl⟩
    have KL : Hid (∀ i, i < L.length → (L.getD i ⟨#[]⟩).size ≤ 1000000000) := fun i hi => by
      have := Nm.parts_small s.data.toList ((L.getD i ⟨#[]⟩).data.toList) (by rw [← hL]; exact List.mem_map.2 ⟨_, by simp [List.getD, List.getElem?_eq_getElem hi], rfl⟩)
      rw [len_str] at this
      omega
    have RA : Hid (R = L.all fun x => Nm.simple x.data.toList) := by show _ = _; rw [FPH.out, ← hL, List.all_map]; rfl
    have nb : L.length ≤ 101 := by have a := congrArg List.length hL; have b := Nm.parts_count s.data.toList; rw [List.length_map] at a; omega
    have CE := fun i h => parts_cell w L i h
    have NB : w.heap.size < (w.alloc (.cells (L.map Value.string).toArray 9)).heap.size := by simp
    have BW : Below w.heap.size w (w.alloc (.cells (L.map Value.string).toArray 9)) := (Below.refl _ _).alloc (Nat.le_refl _) _
    generalize w.alloc (.cells (L.map Value.string).toArray 9) = w2 at *
    obtain ⟨n, hn⟩ : ∃ n, n = L.length := ⟨_, rfl⟩
    rw [← hn] at CE KL nb ⊢
    have HN := Lib.hid hn
    clear hL hn FPH SPL
    have CEH := Lib.hid CE
    clear CE
    go_wp2_with fail
    go_loopw [11] (fun t wr => ∃ j : Nat, j ≤ n ∧ t = .int .i64 (j : Int) ∧ Hid (∀ m, m < j → Nm.simple (L.getD m ⟨#[]⟩).data.toList = true) ∧ wr = w2) (fun t _ => n - (intOf t).toNat)
    case atStart => exact ⟨0, Nat.zero_le _, rfl, fun _ h => absurd h (Nat.not_lt_zero _), rfl⟩
    case round =>
      obtain ⟨j, hj, rfl, AL, rfl⟩ := hrel
      by_cases hjn : j < n
      · have qj : (j : Int) < (n : Int) := by omega
        have cj := CEH.out j hjn
        have SJ := Lib.hid (fun W => nSimple_pure (L.getD j ⟨#[]⟩) (KL.out j hjn) W)
        have NX : Hid (Nm.simple (L.getD j ⟨#[]⟩).data.toList = true → ∀ m, m < j + 1 → Nm.simple (L.getD m ⟨#[]⟩).data.toList = true) := fun e m hm => by
          rcases Nat.lt_or_ge m j with g | g
          · exact AL.out m g
          · obtain rfl : m = j := by omega
            exact e
        have XJ : Hid (Nm.simple (L.getD j ⟨#[]⟩).data.toList = false → R = false) := fun e => by
          rw [RA.out, List.all_eq_false]
          exact ⟨L.getD j ⟨#[]⟩, by rw [List.getD, List.getElem?_eq_getElem (by rw [← HN.out]; exact hjn)]; simp, by rw [e]; decide⟩
        generalize L.getD j ⟨#[]⟩ = P at *
        obtain ⟨b, hb⟩ : ∃ b, b = Nm.simple P.data.toList := ⟨_, rfl⟩
        rw [← hb] at SJ NX XJ
        clear hb
        go_wp2_with fail
        with_reducible refine (SJ.out _).mono ?_
        rintro e w1 ⟨rfl, rfl⟩
        cases b with
        | true =>
          have NX2 := Lib.hid (NX.out rfl)
          go_wp2_with fail
          go_roundw
          case rel => exact ⟨j + 1, by omega, by go_num, NX2, by first | rfl | trivial⟩
          case measure => simp [intOf]; omega
        | false =>
          have Z := Lib.hid (XJ.out rfl)
          go_wp2_with fail
          go_ret
          exact ⟨by first | (rw [Z.out]; done) | (rw [Z.out]; rfl), BW⟩
      · obtain rfl : j = n := by omega
        have qj : ¬ (j : Int) < (j : Int) := by omega
        have Z : Hid (R = true) := by
          show _ = _
          rw [RA.out, List.all_eq_true]
          intro x hx
          obtain ⟨m, hm, rfl⟩ := List.getElem_of_mem hx
          have := AL.out m (by rw [HN.out]; exact hm)
          rwa [List.getD, List.getElem?_eq_getElem hm, Option.getD_some] at this
        clear hjn
        go_wp2_with fail
        go_ret
        exact ⟨by first | (rw [Z.out]; done) | (rw [Z.out]; rfl), BW⟩


end Go.Proofs.YtnfhikgfcdcpoaaDoor
