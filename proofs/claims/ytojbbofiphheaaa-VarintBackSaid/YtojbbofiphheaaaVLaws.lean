/- The walks of the laws of layer 2. -/
import Derived.Test.YtojbbofiphheaaaVarintC
namespace Go.Proofs.Ytojbbofiphheaaa
open Go.ChangeShapes Go.WideShapes Go.ChangeAt Go.RowKit Mem

theorem fit_i64 {a : Int} (h : (Lit.int .i64 a).wf = true) : -9223372036854775808 ≤ a ∧ a ≤ 9223372036854775807 := by
  simpa [Lit.wf, IntKind.min, IntKind.max, IntKind.signed, IntKind.bits] using h

theorem strT : Try.prog.underlying 9 = some .string := by kernel_rfl
theorem enc_1 : Num.enc (Num.zig (-1)).toNat = [1] := by
  rw [show (Num.zig (-1)).toNat = 1 by decide, Num.enc_small (by decide)]; rfl
theorem enc_64 : Num.enc (Num.zig 64).toNat = [128, 1] := by
  rw [show (Num.zig 64).toNat = 128 by decide, Num.enc_big (by decide), Num.enc_small (by decide)]; rfl

def Yes (base : Nat) (w : World) (e : Ending) (w' : World) : Prop := e = .returned (.bool true) ∧ Below base w w'

/-- Bytes that a call made, as a slice; and their string. -/
def Row (l : List UInt8) (n : Nat) (w : World) (e : Ending) (w' : World) : Prop :=
  ∃ A c, e = .returned (.slice A n c) ∧ l.length = n ∧ Bys w' w'.heap.size A l ∧ (convert 22 9 (.slice A n c)).run Try.prog w' = .ok (.string ⟨l.toArray⟩) w' ∧ Below w.heap.size w w'
theorem Made.row {l : List UInt8} {n : Nat} {w w' : World} {e : Ending} (h : Made w.heap.size l w e w') (hn : l.length = n) : Row l n w e w' := by
  obtain ⟨v, rfl, ho, hb⟩ := h
  obtain ⟨A, c, rfl, hy⟩ := ho.bys
  subst hn
  exact ⟨A, c, rfl, rfl, hy, hy.str byteT strT c, hb⟩

theorem put_nil (n : Int) (h0 : -9223372036854775808 ≤ n) (h1 : n ≤ 9223372036854775807) (w : World) :
    Calls Try.prog 7 #[.slice none 0 0, .int .i64 n] w (Row (Num.enc (Num.zig n).toNat) (Num.enc (Num.zig n).toNat).length w) :=
  (put_any n h0 h1 w.heap.size _ [] w (Nat.le_refl _) (Own.none_ _ _ _) (by decide)).mono fun _ _ h => Made.row (by simpa using h) rfl
theorem rput_row (n : Int) (h0 : -9223372036854775808 ≤ n) (h1 : n ≤ 9223372036854775807) (w : World) :
    Calls Try.prog 8 #[.int .i64 n] w (Row (Num.enc (Num.zig n).toNat) (Num.enc (Num.zig n).toNat).length w) :=
  (rput_any n h0 h1 w).mono fun _ _ h => Made.row h rfl

/-- The literals of the examples, and what is taken of them. -/
def Ends (n next e : Int) (w : World) (x : Ending) (w' : World) : Prop :=
  x = .returned (.tuple #[.int .i64 n, .int .i64 next, .int .i64 e]) ∧ Below w.heap.size w w'
theorem lit_bys (w : World) (l : List UInt8) : Bys (w.alloc (.cells (cels l).toArray 5)) (w.alloc (.cells (cels l).toArray 5)).heap.size (some ⟨w.heap.size, 0, none⟩) l := by
  refine .inr ⟨_, _, rfl, by simp, fun k hk => ?_⟩
  have h : (w.alloc (.cells (cels l).toArray 5)).heap[w.heap.size]? = some (.cells (cels l).toArray 5 (0, 0)) := heap_alloc_new w _
  rw [cell_of_row _ _ _ _ _ _ h, show 0 + k = k by omega]
  simpa using cels_at hk
theorem ex_1 (w : World) : Calls Try.prog 11 #[.slice (some ⟨w.heap.size, 0, none⟩) 3 3, .int .i64 1] (w.alloc (.cells #[.int .u8 1, .int .u8 128, .int .u8 1] 5)) (Ends 64 3 0 w) := by
  have h := Take_any _ 3 [1, 128, 1] 1 _ (lit_bys w [1, 128, 1]) (by decide)
  rw [show At 10 1 [1, 128, 1] 1 = (128, 3, 0) by decide, show Num.zag ((128 : Nat) : Int) = 64 by decide] at h
  exact h.mono fun _ _ ⟨h1, h2⟩ => ⟨h1, ((Below.refl _ _).alloc (Nat.le_refl _) _).trans (h2.mono (by simp))⟩
theorem ex_2 (w : World) : Calls Try.prog 11 #[.slice (some ⟨w.heap.size, 0, none⟩) 2 2, .int .i64 0] (w.alloc (.cells #[.int .u8 128, .int .u8 0] 5)) (Ends 0 0 11 w) := by
  have h := Take_any _ 2 [128, 0] 0 _ (lit_bys w [128, 0]) (by decide)
  rw [show At 10 1 [128, 0] 0 = (0, 0, 11) by decide, show Num.zag ((0 : Nat) : Int) = 0 by decide] at h
  exact h.mono fun _ _ ⟨h1, h2⟩ => ⟨h1, ((Below.refl _ _).alloc (Nat.le_refl _) _).trans (h2.mono (by simp))⟩
theorem ex_3 (w : World) : Calls Try.prog 13 #[.slice (some ⟨w.heap.size, 0, none⟩) 1 1, .int .i64 0] (w.alloc (.cells #[.int .u8 128] 5)) (Ends 0 0 10 w) := by
  have h := TakeInt_any _ 1 [128] 0 _ (lit_bys w [128]) (by decide)
  rw [show At 5 15 [128] 0 = (0, 0, 10) by decide, show Num.zag ((0 : Nat) : Int) = 0 by decide] at h
  exact h.mono fun _ _ ⟨h1, h2⟩ => ⟨h1, ((Below.refl _ _).alloc (Nat.le_refl _) _).trans (h2.mono (by simp))⟩

theorem works_any (w : World) : Calls Try.prog 10 #[] w (Yes w.heap.size w) := by
  have p1 := fun W => put_nil (-1) (by decide) (by decide) W
  have p2 := fun W => put_nil 64 (by decide) (by decide) W
  rw [enc_1] at p1
  rw [enc_64] at p2
  have P1 := Lib.hid p1
  have P2 := Lib.hid p2
  clear p1 p2
  go_enter Try.func10, Try.ntmps10
  go_wp2_with fail
  refine (ex_1 _).mono ?_
  rintro e w1 ⟨rfl, h1⟩
  go_wp2_with fail
  refine (ex_2 _).mono ?_
  rintro e w2 ⟨rfl, h2⟩
  go_wp2_with fail
  refine (ex_3 _).mono ?_
  rintro e w3 ⟨rfl, h3⟩
  go_wp2_with fail
  refine (P1.out _).mono ?_
  rintro e w4 ⟨A4, c4, rfl, _, _, s4, h4⟩
  simp only [List.length_cons, List.length_nil, Nat.zero_add] at s4
  go_wp2_with fail
  refine (P2.out _).mono ?_
  rintro e w5 ⟨A5, c5, rfl, _, _, s5, h5⟩
  simp only [List.length_cons, List.length_nil, Nat.zero_add] at s5
  go_wp2_with fail
  go_ret
  exact ⟨rfl, (((h1.trans (h2.mono h1.size)).trans (h3.mono (Nat.le_trans h1.size h2.size))).trans (h4.mono (Nat.le_trans h1.size (Nat.le_trans h2.size h3.size)))).trans (h5.mono (Nat.le_trans h1.size (Nat.le_trans h2.size (Nat.le_trans h3.size h4.size))))⟩

/-- A slice of bytes that came in. -/
theorem of_row {w : World} {a : Option Addr} {len cap : Nat} {zs : List Int}
    (h : (a = none ∧ len = 0 ∧ cap = 0 ∧ zs = []) ∨ ∃ x, a = some x ∧ len ≤ cap ∧ cap ≤ maxLen ∧ zs.length = cap ∧ (∀ i, i < zs.length → w.cell? (x.add i) = some (.int .u8 (zs.getD i 0))) ∧ ∀ n ∈ zs, (Lit.int .u8 n).wf = true) :
    ∃ l : List UInt8, l.length = len ∧ l.length ≤ cap ∧ Bys w w.heap.size a l := by
  rcases h with ⟨rfl, rfl, _, _⟩ | ⟨x, rfl, hl, hm, hz, hc, hw⟩
  · exact ⟨[], rfl, Nat.zero_le _, .inl rfl⟩
  · refine ⟨(zs.take len).map fun n => UInt8.ofNat n.toNat, by simp; omega, by simp; omega, ?_⟩
    by_cases h0 : len = 0
    · subst h0; exact .inl (by simp)
    · obtain ⟨b, off, spot⟩ := x
      have h1 := hc 0 (by omega)
      have hs : spot = none := by simpa [Addr.add] using World.cell?_spot h1
      subst hs
      refine .inr ⟨b, off, rfl, by simpa [Addr.add] using World.block_lt_of_cell? _ _ h1, fun k hk => ?_⟩
      have hk' : k < len := by simp at hk; omega
      have h2 := hc k (by omega)
      rw [Mem.add_plain] at h2
      rw [h2]
      have hmem : zs.getD k 0 ∈ zs := by simp [List.getD, List.getElem?_eq_getElem (show k < zs.length by omega)]
      have h3 := hw _ hmem
      have h4 : 0 ≤ zs.getD k 0 ∧ zs.getD k 0 ≤ 255 := by simpa [Lit.wf, IntKind.min, IntKind.max, IntKind.signed, IntKind.bits] using h3
      have h5 : ((zs.take len).map fun n => UInt8.ofNat n.toNat).getD k 0 = UInt8.ofNat (zs.getD k 0).toNat := by
        simp [List.getD, hk', List.getElem?_eq_getElem (show k < zs.length by omega)]
      rw [h5]
      unfold cel
      rw [Num.toNat_ofNat (by omega)]
      congr 2
      omega

theorem Below.next {w a b : World} (h : Below w.heap.size w a) (k : Below a.heap.size a b) : Below w.heap.size w b := h.trans (k.mono h.size)

theorem varintTakes_walk (A : Option Addr) (l : List UInt8) (c : Nat) (at_ : Int) (w : World) (_hc : l.length ≤ c) (hb : Bys w w.heap.size A l) (w1 : (Lit.int .i64 at_).wf = true) :
    Calls Try.prog 4 #[.slice A l.length c, .int .i64 at_] w (Yes w.heap.size w) := by
  obtain ⟨a0, a1⟩ := fit_i64 w1
  clear w1
  by_cases hl : l.length ≤ 3000
  · have t := Take_any A c l at_
    have r := Long_any A c l at_
    have u := TakeInt_any A c l at_
    have v := Int_any A c l at_
    generalize Num.zag ((At 10 1 l at_).1 : Int) = n at *
    generalize (At 10 1 l at_).2.1 = next at *
    generalize (At 10 1 l at_).2.2 = er at *
    generalize Num.zag ((At 5 15 l at_).1 : Int) = m at *
    generalize (At 5 15 l at_).2.1 = to at *
    generalize (At 5 15 l at_).2.2 = bad at *
    have T := Lib.hid t
    have R := Lib.hid r
    have U := Lib.hid u
    have V := Lib.hid v
    clear t r u v
    have q : ¬ (3000 : Int) < (l.length : Int) := by omega
    go_enter Try.func4, Try.ntmps4
    go_wp2_with fail
    refine (T.out _ hb (by omega)).mono ?_
    rintro e w1 ⟨rfl, h1⟩
    have hb1 := (hb.below h1).more h1.size
    go_wp2_with fail
    refine (R.out _ hb1 (by omega)).mono ?_
    rintro e w' ⟨rfl, rfl⟩
    go_wp2_with fail
    refine (U.out _ hb1 (by omega)).mono ?_
    rintro e w2 ⟨rfl, h2⟩
    have hb2 := (hb1.below h2).more h2.size
    go_wp2_with fail
    refine (V.out _ hb2 (by omega)).mono ?_
    rintro e w' ⟨rfl, rfl⟩
    go_wp2_with fail
    refine (works_any _).mono ?_
    rintro e w3 ⟨rfl, h3⟩
    go_wp2_with fail
    go_ret
    exact ⟨rfl, Below.next (Below.next h1 h2) h3⟩
  · have q : (3000 : Int) < (l.length : Int) := by omega
    go_enter Try.func4, Try.ntmps4
    go_wp2_with fail
    refine (works_any _).mono ?_
    rintro e w3 ⟨rfl, h3⟩
    go_wp2_with fail
    go_ret
    exact ⟨rfl, h3⟩

end Go.Proofs.Ytojbbofiphheaaa
