/- Taking a number: the calls of layer 2, and the document's own answers, at every input. -/
import Derived.Test.YtjebhbjffofjnaaDoorVarint
namespace Go.Proofs.YtjebhbjffofjnaaDoor
open Go.ChangeShapes Go.WideShapes Go.ChangeAt Go.RowKit Mem

/-- What gather leaves: the number or the error; the cursor of block g behind the number; below g all as it was. -/
def Gathered (g k : Nat) (r : Nat × Nat × Nat) (w : World) (e : Ending) (w' : World) : Prop :=
  e = .returned (.tuple #[.int .u64 (r.1 : Int), .int .i64 (r.2.2 : Int)]) ∧ Below g w w' ∧ (r.2.2 = 0 → w'.cell? ⟨g, 1, none⟩ = some (.int .i64 ((k + r.2.1 : Nat) : Int)))

/-- What a round's world holds. -/
structure Cur (g h k c most top : Nat) (A : Option Addr) (l : List UInt8) (w wr : World) : Prop where
  c0 : wr.cell? ⟨g, 0, none⟩ = some (.slice A l.length c)
  c1 : wr.cell? ⟨g, 1, none⟩ = some (.int .i64 (k : Int))
  fr : wr.frozen? ⟨g, 1, none⟩ = false
  d0 : wr.cell? ⟨h, 0, none⟩ = some (.int .i64 (most : Int))
  d1 : wr.cell? ⟨h, 1, none⟩ = some (.int .u8 (top : Int))
  bl : Below g w wr
theorem Cur.drewN {g h k c most top : Nat} {A : Option Addr} {l : List UInt8} {w wr : World} (H : Cur g h k c most top A l w wr) (m : Nat) : Cur g h k c most top A l w (wr.drewN m) :=
  ⟨H.c0, H.c1, H.fr, H.d0, H.d1, bel_drewN H.bl m⟩
theorem Cur.move {g h k c most top : Nat} {A : Option Addr} {l : List UInt8} {w wr : World} (H : Cur g h k c most top A l w wr) (hg : g < h) (j : Nat) : Cur g h j c most top A l w (wr.setCell ⟨g, 1, none⟩ (.int .i64 (j : Int))) :=
  ⟨(World.cell?_setCell_other _ _ _ _ (by simp)).trans H.c0, World.cell?_setCell_same _ _ _ H.c1, (World.frozen?_setCell _ _ _ _).trans H.fr,
   (World.cell?_setCell_other _ _ _ _ (by intro e; injection e; omega)).trans H.d0, (World.cell?_setCell_other _ _ _ _ (by intro e; injection e; omega)).trans H.d1, H.bl.setCell (Nat.le_refl _) _⟩


set_option maxRecDepth 100000 in
set_option maxHeartbeats 1000000 in
theorem gather_any (most top g k c : Nat) (A : Option Addr) (l : List UInt8) (w : World) (hm : 0 < most) (hm2 : most ≤ 10) (ht : top < 128) (hfit : 128 ^ (most - 1) * (top + 1) ≤ 18446744073709551616)
    (hA : Bys w g A l) (hl : l.length ≤ 140000000000) (hk : k ≤ l.length) (hg : g < w.heap.size)
    (h0 : w.cell? ⟨g, 0, none⟩ = some (.slice A l.length c)) (h1 : w.cell? ⟨g, 1, none⟩ = some (.int .i64 (k : Int))) (hf : w.frozen? ⟨g, 1, none⟩ = false) :
    Calls Tryd.prog 63 #[.func (Fn.func 64) #[.pointer (some ⟨g, 0, none⟩)] #[], .agg #[.int .i64 (most : Int), .int .u8 (top : Int)]] w (Gathered g k (Num.tak most top (l.drop k)) w) := by
  obtain ⟨L, hL⟩ : ∃ L, L = l.drop k := ⟨_, rfl⟩
  rw [← hL]
  have len : L.length = l.length - k := by rw [hL, List.length_drop]
  have at_ : ∀ i, L.getD i 0 = l.getD (k + i) 0 := fun i => by rw [hL]; simp [List.getD, List.getElem?_drop]
  clear hL
  obtain ⟨N, hN⟩ : ∃ N, N = Num.cnt (most - 1) L := ⟨_, rfl⟩
  have a1 := Num.cnt_le (most - 1) L
  have a2 := Num.cnt_le_len (most - 1) L
  have bigs := Num.cnt_big (most - 1) L
  have ends := Num.cnt_end (most - 1) L
  rw [← hN] at a1 a2 bigs ends
  have HN := Lib.hid hN
  have AT := Lib.hid at_
  have LEN := Lib.hid len
  have BIGS := Lib.hid bigs
  have ENDS := Lib.hid ends
  rw [len] at a2
  have HF := Lib.hid hfit
  clear hN at_ len bigs ends hfit
  go_enter Tryd.func63, Tryd.ntmps63
  go_wp2_with fail
  go_loopw [6, 7] (fun u p wr => ∃ j : Nat, j ≤ N ∧ u = .int .u64 (Num.val j L : Int) ∧ p = .int .i64 (j : Int) ∧ Cur g w.heap.size (k + j) c most top A l w wr) (fun _ p _ => most - (intOf p).toNat)
  case atStart => exact ⟨0, by omega, rfl, rfl, by go_simp, by go_simp, by go_simp, by go_simp, by go_simp, (Below.refl _ _).alloc (by omega) _⟩
  case round =>
    obtain ⟨j, g0, rfl, rfl, H⟩ := hrel
    have stp : k + j < l.length → Calls Tryd.prog 64 #[.pointer (some ⟨g, 0, none⟩)] wr (Moved (.tuple #[.int .u8 ((L.getD j 0).toNat : Int), .bool true]) g (k + j) wr) := fun hlt => by
      rcases hA with h | ⟨b, off, rfl, hb, hc⟩
      · subst h; simp at hlt
      · exact step_more g c l.length (k + j) b off _ wr hl hlt H.c0 H.c1 (by rw [AT.out j]; exact (H.bl.cell (p := ⟨b, off + (k + j), none⟩) hb).trans (hc _ hlt)) H.fr
    by_cases hj : j < N
    · have big : 128 ≤ (L.getD j 0).toNat := BIGS.out j hj
      have lt := (L.getD j 0).toNat_lt
      obtain ⟨X, hX⟩ : ∃ X, X = (L.getD j 0).toNat := ⟨_, rfl⟩
      rw [← hX] at stp big lt
      have HX := Lib.hid hX
      clear hX
      have q1 : ((j : Int) == (most : Int) - 1) = false := by simp; omega
      have q2 : ((X : Int) == 0) = false := by simp; omega
      have q3 : ¬ (X : Int) < 128 := by omega
      go_wp2_with fail
      refine (stp (by omega)).mono ?_
      rintro e w' ⟨rfl, m, rfl⟩
      have H2 := (H.drewN m).move hg (k + j + 1)
      generalize (wr.drewN m).setCell ⟨g, 1, none⟩ (.int .i64 ((k + j + 1 : Nat) : Int)) = w2 at *
      have d0 := H2.d0
      have d1 := H2.d1
      go_wp2_with fail
      all_goals
        go_roundw
        case rel => exact ⟨j + 1, by omega, by rw [Num.gat_step HX.out (Num.val_fit L (by omega) hm2)], by go_num, H2⟩
        case measure => simp [intOf]; omega
    · obtain rfl : j = N := by omega
      by_cases hend : k + j = l.length
      · have T := Lib.hid (Num.tak_short (most := most) (top := top) HN.out (by rw [LEN.out]; omega))
        go_wp2_with fail
        refine (step_end g c l.length A _ H.c0 (by rw [← hend]; exact H.c1)).mono ?_
        rintro e w' ⟨rfl, m, rfl⟩
        have hbl := bel_drewN H.bl m
        go_wp2_with fail
        go_ret2
        exact ⟨by rw [T.out]; rfl, hbl, fun h => by rw [T.out] at h; exact absurd h (by decide)⟩
      · have Llt : j < L.length := by rw [LEN.out]; omega
        have lt := (L.getD j 0).toNat_lt
        have en := ENDS.out
        obtain ⟨X, hX⟩ : ∃ X, X = (L.getD j 0).toNat := ⟨_, rfl⟩
        rw [← hX] at stp lt en
        have HX := Lib.hid hX
        have EN := Lib.hid en
        clear hX en
        by_cases f1 : j = most - 1
        · have q1 : ((j : Int) == (most : Int) - 1) = true := by simp; omega
          by_cases f2 : top < X
          · have T := Lib.hid (Num.tak_form (most := most) (top := top) HN.out Llt HX.out (.inl ⟨f1, f2⟩))
            have q2 : (top : Int) < (X : Int) := by omega
            clear f1
            go_wp2_with fail
            refine (stp (by omega)).mono ?_
            rintro e w' ⟨rfl, m, rfl⟩
            have H2 := (H.drewN m).move hg (k + j + 1)
            generalize (wr.drewN m).setCell ⟨g, 1, none⟩ (.int .i64 ((k + j + 1 : Nat) : Int)) = w2 at *
            have d0 := H2.d0
            have d1 := H2.d1
            go_wp2_with fail
            all_goals
              go_ret2
              exact ⟨by rw [T.out]; rfl, H2.bl, fun h => by rw [T.out] at h; exact absurd h (by decide)⟩
          · have q2 : ¬ (top : Int) < (X : Int) := by omega
            by_cases f3 : 0 < j ∧ X = 0
            · have T := Lib.hid (Num.tak_form (most := most) (top := top) HN.out Llt HX.out (.inr f3))
              obtain ⟨f4, f5⟩ := f3
              have q3 : (0 : Int) < (j : Int) := by omega
              have q4 : ((X : Int) == 0) = true := by simp; omega
              clear f1 f5
              go_wp2_with fail
              refine (stp (by omega)).mono ?_
              rintro e w' ⟨rfl, m, rfl⟩
              have H2 := (H.drewN m).move hg (k + j + 1)
              generalize (wr.drewN m).setCell ⟨g, 1, none⟩ (.int .i64 ((k + j + 1 : Nat) : Int)) = w2 at *
              have d0 := H2.d0
              have d1 := H2.d1
              go_wp2_with fail
              all_goals
                go_ret2
                exact ⟨by rw [T.out]; rfl, H2.bl, fun h => by rw [T.out] at h; exact absurd h (by decide)⟩
            · have T := Lib.hid (Num.tak_ok (most := most) (top := top) HN.out Llt HX.out (by omega))
              have FIT : Hid (Num.val (j + 1) L < 18446744073709551616) := Nat.lt_of_lt_of_le (Num.tak_lt T.out ht) HF.out
              have q5 : (X : Int) < 128 := by omega
              by_cases f4 : 0 < j
              · have q4 : ((X : Int) == 0) = false := by simp; omega
                clear f1 f3
                go_wp2_with fail
                refine (stp (by omega)).mono ?_
                rintro e w' ⟨rfl, m, rfl⟩
                have H2 := (H.drewN m).move hg (k + j + 1)
                generalize (wr.drewN m).setCell ⟨g, 1, none⟩ (.int .i64 ((k + j + 1 : Nat) : Int)) = w2 at *
                have d0 := H2.d0
                have d1 := H2.d1
                go_wp2_with fail
                all_goals
                  go_ret2
                  exact ⟨by rw [T.out, Num.gat_step HX.out FIT.out]; rfl, H2.bl, fun _ => by rw [T.out]; exact H2.c1⟩
              · clear f1 f3
                go_wp2_with fail
                refine (stp (by omega)).mono ?_
                rintro e w' ⟨rfl, m, rfl⟩
                have H2 := (H.drewN m).move hg (k + j + 1)
                generalize (wr.drewN m).setCell ⟨g, 1, none⟩ (.int .i64 ((k + j + 1 : Nat) : Int)) = w2 at *
                have d0 := H2.d0
                have d1 := H2.d1
                go_wp2_with fail
                all_goals
                  go_ret2
                  exact ⟨by rw [T.out, Num.gat_step HX.out FIT.out]; rfl, H2.bl, fun _ => by rw [T.out]; exact H2.c1⟩
        · have q1 : ((j : Int) == (most : Int) - 1) = false := by simp; omega
          have q5 : (X : Int) < 128 := by have := EN.out (by omega) Llt; omega
          by_cases f3 : 0 < j ∧ X = 0
          · have T := Lib.hid (Num.tak_form (most := most) (top := top) HN.out Llt HX.out (.inr f3))
            obtain ⟨f4, f5⟩ := f3
            have q3 : (0 : Int) < (j : Int) := by omega
            have q4 : ((X : Int) == 0) = true := by simp; omega
            clear f5
            go_wp2_with fail
            refine (stp (by omega)).mono ?_
            rintro e w' ⟨rfl, m, rfl⟩
            have H2 := (H.drewN m).move hg (k + j + 1)
            generalize (wr.drewN m).setCell ⟨g, 1, none⟩ (.int .i64 ((k + j + 1 : Nat) : Int)) = w2 at *
            have d0 := H2.d0
            have d1 := H2.d1
            go_wp2_with fail
            all_goals
              go_ret2
              exact ⟨by rw [T.out]; rfl, H2.bl, fun h => by rw [T.out] at h; exact absurd h (by decide)⟩
          · have T := Lib.hid (Num.tak_ok (most := most) (top := top) HN.out Llt HX.out (by omega))
            have FIT : Hid (Num.val (j + 1) L < 18446744073709551616) := Nat.lt_of_lt_of_le (Num.tak_lt T.out ht) HF.out
            by_cases f4 : 0 < j
            · have q4 : ((X : Int) == 0) = false := by simp; omega
              clear f3
              go_wp2_with fail
              refine (stp (by omega)).mono ?_
              rintro e w' ⟨rfl, m, rfl⟩
              have H2 := (H.drewN m).move hg (k + j + 1)
              generalize (wr.drewN m).setCell ⟨g, 1, none⟩ (.int .i64 ((k + j + 1 : Nat) : Int)) = w2 at *
              have d0 := H2.d0
              have d1 := H2.d1
              go_wp2_with fail
              all_goals
                go_ret2
                exact ⟨by rw [T.out, Num.gat_step HX.out FIT.out]; rfl, H2.bl, fun _ => by rw [T.out]; exact H2.c1⟩
            · clear f3
              go_wp2_with fail
              refine (stp (by omega)).mono ?_
              rintro e w' ⟨rfl, m, rfl⟩
              have H2 := (H.drewN m).move hg (k + j + 1)
              generalize (wr.drewN m).setCell ⟨g, 1, none⟩ (.int .i64 ((k + j + 1 : Nat) : Int)) = w2 at *
              have d0 := H2.d0
              have d1 := H2.d1
              go_wp2_with fail
              all_goals
                go_ret2
                exact ⟨by rw [T.out, Num.gat_step HX.out FIT.out]; rfl, H2.bl, fun _ => by rw [T.out]; exact H2.c1⟩


/-- What both calls take at a place: the number's Zig, where it ends, the error. -/
def At (most top : Nat) (l : List UInt8) (at_ : Int) : Nat × Int × Nat :=
  if at_ < 0 ∨ (l.length : Int) < at_ then (0, at_, 2)
  else ((Num.tak most top (l.drop at_.toNat)).1, at_ + ((Num.tak most top (l.drop at_.toNat)).2.1 : Int), (Num.tak most top (l.drop at_.toNat)).2.2)
theorem At.bad {most top : Nat} {l : List UInt8} {at_ : Int} (h : at_ < 0 ∨ (l.length : Int) < at_) : At most top l at_ = (0, at_, 2) := by unfold At; rw [if_pos h]
theorem At.good {most top : Nat} {l : List UInt8} {k : Nat} (h : k ≤ l.length) {u c e : Nat} (ht : Num.tak most top (l.drop k) = (u, c, e)) : At most top l (k : Int) = (u, (k : Int) + (c : Int), e) := by
  unfold At; rw [if_neg (by omega), Int.toNat_natCast, ht]

def Took (r : Nat × Int × Nat) (w : World) (e : Ending) (w' : World) : Prop :=
  e = .returned (.tuple #[.int .u64 (r.1 : Int), .int .i64 r.2.1, .int .i64 (r.2.2 : Int)]) ∧ Below w.heap.size w w'

theorem take_bad (most top : Nat) (A : Option Addr) (c : Nat) (l : List UInt8) (at_ : Int) (w : World) (h : at_ < 0 ∨ (l.length : Int) < at_) :
    Calls Tryd.prog 54 #[.slice A l.length c, .int .i64 at_, .agg #[.int .i64 (most : Int), .int .u8 (top : Int)]] w (Took (0, at_, 2) w) := by
  by_cases h1 : at_ < 0
  · clear h
    go_enter Tryd.func54, Tryd.ntmps54
    go_wp2_with fail
    go_ret3
    exact ⟨rfl, (Below.refl _ _).alloc (Nat.le_refl _) _⟩
  · have h2 : (l.length : Int) < at_ := by omega
    clear h
    go_enter Tryd.func54, Tryd.ntmps54
    go_wp2_with fail
    go_ret3
    exact ⟨rfl, (Below.refl _ _).alloc (Nat.le_refl _) _⟩

theorem take_good (most top : Nat) (A : Option Addr) (c : Nat) (l : List UInt8) (k : Nat) (w : World) (hm : 0 < most) (hm2 : most ≤ 10) (ht : top < 128) (hfit : Hid (128 ^ (most - 1) * (top + 1) ≤ 18446744073709551616))
    (hb : Bys w w.heap.size A l) (hl : l.length ≤ 140000000000) (hk : k ≤ l.length) :
    Calls Tryd.prog 54 #[.slice A l.length c, .int .i64 (k : Int), .agg #[.int .i64 (most : Int), .int .u8 (top : Int)]] w
      (Took ((Num.tak most top (l.drop k)).1, (k : Int) + ((Num.tak most top (l.drop k)).2.1 : Int), (Num.tak most top (l.drop k)).2.2) w) := by
  obtain ⟨⟨u, n, e⟩, hr⟩ : ∃ r, r = Num.tak most top (l.drop k) := ⟨_, rfl⟩
  have R := Lib.hid hr
  have er := Num.tak_err hr.symm
  have ub := Num.tak_lt hr.symm ht
  have len : (l.drop k).length = l.length - k := List.length_drop
  rw [← hr]
  clear hr
  have hn : n ≤ 140000000000 := by rcases er with ⟨_, _, h⟩ | ⟨_, _, h⟩ <;> omega
  have hkn : k + n ≤ l.length := by rcases er with ⟨_, _, h⟩ | ⟨_, _, h⟩ <;> omega
  have LEN := Lib.hid len
  have ER := Lib.hid er
  have UB := Lib.hid ub
  clear len er ub
  have t1 : (0 : Int) ≤ (k : Int) := by omega
  have t2 : ¬ (l.length : Int) < (k : Int) := by omega
  have gc := fun W hA hg h0 h1 hf => gather_any most top (w.heap.size + 1) k c A l W hm hm2 ht hfit.out hA hl hk hg h0 h1 hf
  have GC := Lib.hid gc
  clear gc
  by_cases he : e = 0
  · subst he
    go_enter Tryd.func54, Tryd.ntmps54
    go_wp2_with fail
    refine (GC.out _ ((hb.alloc (Nat.le_refl _) _).alloc (by simp) _ |>.more (by omega)) (by simp) (by go_simp) (by go_simp) (by go_simp)).mono ?_
    rw [← R.out]
    rintro e w1 ⟨rfl, b1, c1⟩
    have c2 := c1 rfl
    have B1 : Below w.heap.size w w1 := (((Below.refl _ _).alloc (Nat.le_refl _) _).alloc (by simp) _).trans (b1.mono (by omega))
    clear c1
    go_wp2_with fail
    go_quiet (fail)
    go_wp2_with fail
    go_ret3
    exact ⟨by simp, bel_drewN B1 nq⟩
  · have q1 : ((e : Int) == 0) = false := by simp; omega
    have cz : u = 0 ∧ n = 0 := by have := ER.out; omega
    obtain ⟨rfl, rfl⟩ := cz
    clear he
    go_enter Tryd.func54, Tryd.ntmps54
    go_wp2_with fail
    refine (GC.out _ ((hb.alloc (Nat.le_refl _) _).alloc (by simp) _ |>.more (by omega)) (by simp) (by go_simp) (by go_simp) (by go_simp)).mono ?_
    rw [← R.out]
    rintro e w1 ⟨rfl, b1, c1⟩
    have B1 : Below w.heap.size w w1 := (((Below.refl _ _).alloc (Nat.le_refl _) _).alloc (by simp) _).trans (b1.mono (by omega))
    clear c1
    go_wp2_with fail
    go_ret3
    exact ⟨by simp, B1⟩

end Go.Proofs.YtjebhbjffofjnaaDoor
