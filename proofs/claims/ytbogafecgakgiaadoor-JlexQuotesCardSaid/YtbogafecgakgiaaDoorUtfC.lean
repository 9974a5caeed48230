/- The calls of layer 3 at every input: those that put, and that count. -/
import Derived.Test.YtbogafecgakgiaaDoorUtfB
import Derived.Deep.RegionHeldLaw
namespace Go.Proofs.YtbogafecgakgiaaDoor
open Go.ChangeShapes Go.WideShapes Go.ChangeAt Go.RowKit Mem

/-- A list of bytes, and behind it others, in a row of the call's own, and an error. -/
def MadeE (base : Nat) (l : List UInt8) (e : Int) (w : World) (x : Ending) (w' : World) : Prop := ∃ v, x = .returned (.tuple #[v, .int .i64 e]) ∧ Own w' base 5 v l ∧ Below base w w'

theorem Put_no (c : Int) (h : ¬ Num.isC c) (v : Value) (w : World) :
    Calls Tryd.prog 38 #[v, .int .i32 c] w fun e w' => e = .returned (.tuple #[v, .int .i64 2]) ∧ w = w' := by
  have nd := needed_any c
  rw [Num.need_0 h] at nd
  have ND := Lib.hid nd
  clear nd h
  go_enter Tryd.func38, Tryd.ntmps38
  go_wp2_with fail
  refine (ND.out _).mono ?_
  rintro e w' ⟨rfl, rfl⟩
  go_wp2_with fail
  go_ret2
  exact ⟨rfl, rfl⟩

/-- The bytes behind the first one that are still to be put. -/
def rest : Nat → Nat → List UInt8
  | 0, _ => []
  | m + 1, c => UInt8.ofNat (128 + c / 64 ^ m % 64) :: rest m c

theorem rest_go {d l : List UInt8} {m : Nat} {c : Int} {x : Int} (h : d ++ rest (m + 1) c.toNat = l) (h0 : 0 ≤ c) (hx : x = 128 + c / 64 ^ m % 64) : Hid (d ++ [UInt8.ofNat x.toNat] ++ rest m c.toNat = l) := by
  unfold Hid
  subst hx
  obtain ⟨k, rfl⟩ := Int.eq_ofNat_of_zero_le h0
  rw [← h, List.append_assoc, List.singleton_append, rest, Int.toNat_natCast]
  have e : ((k : Int) / 64 ^ m % 64) = ((k / 64 ^ m % 64 : Nat) : Int) := by simp
  rw [show (128 + (k : Int) / 64 ^ m % 64).toNat = 128 + k / 64 ^ m % 64 by rw [e]; omega]
theorem rest_len (m c : Nat) : (rest m c).length = m := by
  induction m with
  | zero => rfl
  | succ m ih => simp [rest, ih]
theorem at_i64 {a b : Int} (h : a = b) : Value.int .i64 a = .int .i64 b := by rw [h]
set_option maxHeartbeats 1000000 in
theorem Put_1 (c : Int) (hc : Num.isC c) (h0 : 0 ≤ c) (h1 : c ≤ 127) (base : Nat) (v : Value) (l : List UInt8) (w : World) (hL : Laid w) (hp : 1 < base) (hb : base ≤ w.heap.size) (hown : Own w base 5 v l) (hl : l.length ≤ 100000000) :
    Calls Tryd.prog 38 #[v, .int .i32 c] w (MadeE base (l ++ UInt8.ofNat (c).toNat :: rest 0 c.toNat) 0 w) := by
  have nd := needed_any c
  rw [show Num.need c = 1 by unfold Num.isC at hc; have := need_is c; omega] at nd
  have mk := hL.2 1 (by omega)
  rw [show Num.mark 1 = 0 from rfl] at mk
  have ND := Lib.hid nd
  have LEAD := Lib.hid (Num.lead_1 (q := c) (by omega) (by omega))
  clear nd hc
  go_enter Tryd.func38, Tryd.ntmps38
  go_wp2_with fail
  refine (ND.out _).mono ?_
  rintro e w' ⟨rfl, rfl⟩
  go_wp2_with fail
  go_region_held_law (fun w' => w'.cell? ⟨1, 1, none⟩ = some (.int .u8 0)) (first | exact mk | exact (hL.alloc _).drew.2 1 (by omega) | assumption) (first | (refine step_app1 _ byteT (by rfl) (some 26) rfl (.tmp 16) (.tmp 25) rfl base _ l rfl hown 1 _ (by have := LEAD.out; first | omega | (rw [this]; omega)) (by have := LEAD.out; first | omega | (rw [this]; omega)) rfl (by omega) hb ?_; intro v2 w2 o2 h2; have m2 := (h2.cell (p := ⟨1, 1, none⟩) hp).trans mk))
  all_goals
    rename_i hHeld
    rw [LEAD.out] at o2
    clear m2 hHeld
    obtain ⟨LL, hLL⟩ : ∃ LL, LL = l ++ UInt8.ofNat (c).toNat :: rest 0 c.toNat := ⟨_, rfl⟩
    have len : LL.length ≤ 100000004 := by rw [hLL, List.length_append, List.length_cons, rest_len]; omega
    rw [← hLL]
    have start : Hid (l ++ [UInt8.ofNat (c).toNat] ++ rest 0 c.toNat = LL) := by unfold Hid; rw [hLL, List.append_assoc, List.singleton_append]
    have HLL := Lib.hid hLL
    clear hLL
    generalize bits BinOp.or IntKind.u8 0 (IntKind.u8.wrap c) = zz
    generalize IntKind.u8.wrap c = zw
    go_wp2_with fail
    go_loopw [0, 7] (fun sv f wr => ∃ (m : Nat) (d : List UInt8), m ≤ 0 ∧ f = .int .i64 (6 * (m : Int)) ∧ Own wr base 5 sv d ∧ Hid (d ++ rest m c.toNat = LL) ∧ Below base w wr) (fun _ f _ => (intOf f).toNat)
    case atStart => exact ⟨0, _, by omega, at_i64 (by omega), o2, start, h2⟩
    case round =>
      obtain ⟨m, d, m3, rfl, go, ge, gb⟩ := hrel
      clear o2 h2 start
      have gsz : base ≤ wr.heap.size := by have := gb.size; omega
      have gl : d.length ≤ 100000004 := by have := congrArg List.length ge.out; simp at this; omega
      obtain rfl : m = 0 := by omega
      · go_wp2_with fail
        go_ret2
        exact ⟨_, rfl, by have := ge.out; rw [rest, List.append_nil] at this; rw [← HLL.out, ← this]; exact go, gb⟩

set_option maxHeartbeats 1000000 in
theorem Put_2 (c : Int) (hc : Num.isC c) (h0 : 128 ≤ c) (h1 : c ≤ 2047) (base : Nat) (v : Value) (l : List UInt8) (w : World) (hL : Laid w) (hp : 1 < base) (hb : base ≤ w.heap.size) (hown : Own w base 5 v l) (hl : l.length ≤ 100000000) :
    Calls Tryd.prog 38 #[v, .int .i32 c] w (MadeE base (l ++ UInt8.ofNat (192 + c / 64).toNat :: rest 1 c.toNat) 0 w) := by
  have nd := needed_any c
  rw [show Num.need c = 2 by unfold Num.isC at hc; have := need_is c; omega] at nd
  have mk := hL.2 2 (by omega)
  rw [show Num.mark 2 = 192 from rfl] at mk
  have ND := Lib.hid nd
  have LEAD := Lib.hid (Num.lead_2 (q := c / 64) (by omega) (by omega))
  clear nd hc
  go_enter Tryd.func38, Tryd.ntmps38
  go_wp2_with fail
  refine (ND.out _).mono ?_
  rintro e w' ⟨rfl, rfl⟩
  go_wp2_with fail
  go_region_held_law (fun w' => w'.cell? ⟨1, 2, none⟩ = some (.int .u8 192)) (first | exact mk | exact (hL.alloc _).drew.2 2 (by omega) | assumption) (first | (refine step_app1 _ byteT (by rfl) (some 26) rfl (.tmp 16) (.tmp 25) rfl base _ l rfl hown 1 _ (by have := LEAD.out; first | omega | (rw [this]; omega)) (by have := LEAD.out; first | omega | (rw [this]; omega)) rfl (by omega) hb ?_; intro v2 w2 o2 h2; have m2 := (h2.cell (p := ⟨1, 2, none⟩) hp).trans mk))
  all_goals
    rename_i hHeld
    rw [LEAD.out] at o2
    clear m2 hHeld
    obtain ⟨LL, hLL⟩ : ∃ LL, LL = l ++ UInt8.ofNat (192 + c / 64).toNat :: rest 1 c.toNat := ⟨_, rfl⟩
    have len : LL.length ≤ 100000004 := by rw [hLL, List.length_append, List.length_cons, rest_len]; omega
    rw [← hLL]
    have start : Hid (l ++ [UInt8.ofNat (192 + c / 64).toNat] ++ rest 1 c.toNat = LL) := by unfold Hid; rw [hLL, List.append_assoc, List.singleton_append]
    have HLL := Lib.hid hLL
    clear hLL
    generalize bits BinOp.or IntKind.u8 192 (IntKind.u8.wrap (c / 64)) = zz
    generalize IntKind.u8.wrap (c / 64) = zw
    go_wp2_with fail
    go_loopw [0, 7] (fun sv f wr => ∃ (m : Nat) (d : List UInt8), m ≤ 1 ∧ f = .int .i64 (6 * (m : Int)) ∧ Own wr base 5 sv d ∧ Hid (d ++ rest m c.toNat = LL) ∧ Below base w wr) (fun _ f _ => (intOf f).toNat)
    case atStart => exact ⟨1, _, by omega, at_i64 (by omega), o2, start, h2⟩
    case round =>
      obtain ⟨m, d, m3, rfl, go, ge, gb⟩ := hrel
      clear o2 h2 start
      have gsz : base ≤ wr.heap.size := by have := gb.size; omega
      have gl : d.length ≤ 100000004 := by have := congrArg List.length ge.out; simp at this; omega
      obtain rfl | rfl : m = 0 ∨ m = 1 := by omega
      · go_wp2_with fail
        go_ret2
        exact ⟨_, rfl, by have := ge.out; rw [rest, List.append_nil] at this; rw [← HLL.out, ← this]; exact go, gb⟩
      · have t8 := Lib.hid (Num.tail_8 (c))
        go_wp2_with (at_builtin; refine wpList_app1 _ byteT rfl (.tmp 31) (.tmp 38) rfl base _ d rfl go 1 _ (by have := t8.out; first | omega | (rw [this]; omega)) (by have := t8.out; first | omega | (rw [this]; omega)) rfl (by omega) gsz ?_; intro v' w1 hown1 hb1)
        go_roundw
        case rel => exact ⟨0, _, by omega, at_i64 (by omega), hown1, rest_go ge.out (by omega) (by have := t8.out; first | omega | (rw [this]; omega)), gb.trans hb1⟩
        case measure => simp [intOf]

set_option maxHeartbeats 1000000 in
theorem Put_3 (c : Int) (hc : Num.isC c) (h0 : 2048 ≤ c) (h1 : c ≤ 65535) (base : Nat) (v : Value) (l : List UInt8) (w : World) (hL : Laid w) (hp : 1 < base) (hb : base ≤ w.heap.size) (hown : Own w base 5 v l) (hl : l.length ≤ 100000000) :
    Calls Tryd.prog 38 #[v, .int .i32 c] w (MadeE base (l ++ UInt8.ofNat (224 + c / 4096).toNat :: rest 2 c.toNat) 0 w) := by
  have nd := needed_any c
  rw [show Num.need c = 3 by unfold Num.isC at hc; have := need_is c; omega] at nd
  have mk := hL.2 3 (by omega)
  rw [show Num.mark 3 = 224 from rfl] at mk
  have ND := Lib.hid nd
  have LEAD := Lib.hid (Num.lead_3 (q := c / 4096) (by omega) (by omega))
  clear nd hc
  go_enter Tryd.func38, Tryd.ntmps38
  go_wp2_with fail
  refine (ND.out _).mono ?_
  rintro e w' ⟨rfl, rfl⟩
  go_wp2_with fail
  go_region_held_law (fun w' => w'.cell? ⟨1, 3, none⟩ = some (.int .u8 224)) (first | exact mk | exact (hL.alloc _).drew.2 3 (by omega) | assumption) (first | (refine step_app1 _ byteT (by rfl) (some 26) rfl (.tmp 16) (.tmp 25) rfl base _ l rfl hown 1 _ (by have := LEAD.out; first | omega | (rw [this]; omega)) (by have := LEAD.out; first | omega | (rw [this]; omega)) rfl (by omega) hb ?_; intro v2 w2 o2 h2; have m2 := (h2.cell (p := ⟨1, 3, none⟩) hp).trans mk))
  all_goals
    rename_i hHeld
    rw [LEAD.out] at o2
    clear m2 hHeld
    obtain ⟨LL, hLL⟩ : ∃ LL, LL = l ++ UInt8.ofNat (224 + c / 4096).toNat :: rest 2 c.toNat := ⟨_, rfl⟩
    have len : LL.length ≤ 100000004 := by rw [hLL, List.length_append, List.length_cons, rest_len]; omega
    rw [← hLL]
    have start : Hid (l ++ [UInt8.ofNat (224 + c / 4096).toNat] ++ rest 2 c.toNat = LL) := by unfold Hid; rw [hLL, List.append_assoc, List.singleton_append]
    have HLL := Lib.hid hLL
    clear hLL
    generalize bits BinOp.or IntKind.u8 224 (IntKind.u8.wrap (c / 4096)) = zz
    generalize IntKind.u8.wrap (c / 4096) = zw
    go_wp2_with fail
    go_loopw [0, 7] (fun sv f wr => ∃ (m : Nat) (d : List UInt8), m ≤ 2 ∧ f = .int .i64 (6 * (m : Int)) ∧ Own wr base 5 sv d ∧ Hid (d ++ rest m c.toNat = LL) ∧ Below base w wr) (fun _ f _ => (intOf f).toNat)
    case atStart => exact ⟨2, _, by omega, at_i64 (by omega), o2, start, h2⟩
    case round =>
      obtain ⟨m, d, m3, rfl, go, ge, gb⟩ := hrel
      clear o2 h2 start
      have gsz : base ≤ wr.heap.size := by have := gb.size; omega
      have gl : d.length ≤ 100000004 := by have := congrArg List.length ge.out; simp at this; omega
      obtain rfl | rfl | rfl : m = 0 ∨ m = 1 ∨ m = 2 := by omega
      · go_wp2_with fail
        go_ret2
        exact ⟨_, rfl, by have := ge.out; rw [rest, List.append_nil] at this; rw [← HLL.out, ← this]; exact go, gb⟩
      · have t8 := Lib.hid (Num.tail_8 (c))
        go_wp2_with (at_builtin; refine wpList_app1 _ byteT rfl (.tmp 31) (.tmp 38) rfl base _ d rfl go 1 _ (by have := t8.out; first | omega | (rw [this]; omega)) (by have := t8.out; first | omega | (rw [this]; omega)) rfl (by omega) gsz ?_; intro v' w1 hown1 hb1)
        go_roundw
        case rel => exact ⟨0, _, by omega, at_i64 (by omega), hown1, rest_go ge.out (by omega) (by have := t8.out; first | omega | (rw [this]; omega)), gb.trans hb1⟩
        case measure => simp [intOf]
      · have t8 := Lib.hid (Num.tail_8 (c / 64))
        go_wp2_with (at_builtin; refine wpList_app1 _ byteT rfl (.tmp 31) (.tmp 38) rfl base _ d rfl go 1 _ (by have := t8.out; first | omega | (rw [this]; omega)) (by have := t8.out; first | omega | (rw [this]; omega)) rfl (by omega) gsz ?_; intro v' w1 hown1 hb1)
        go_roundw
        case rel => exact ⟨1, _, by omega, at_i64 (by omega), hown1, rest_go ge.out (by omega) (by have := t8.out; first | omega | (rw [this]; omega)), gb.trans hb1⟩
        case measure => simp [intOf]

set_option maxHeartbeats 1000000 in
theorem Put_4 (c : Int) (hc : Num.isC c) (h0 : 65536 ≤ c) (h1 : c ≤ 1114111) (base : Nat) (v : Value) (l : List UInt8) (w : World) (hL : Laid w) (hp : 1 < base) (hb : base ≤ w.heap.size) (hown : Own w base 5 v l) (hl : l.length ≤ 100000000) :
    Calls Tryd.prog 38 #[v, .int .i32 c] w (MadeE base (l ++ UInt8.ofNat (240 + c / 262144).toNat :: rest 3 c.toNat) 0 w) := by
  have nd := needed_any c
  rw [show Num.need c = 4 by unfold Num.isC at hc; have := need_is c; omega] at nd
  have mk := hL.2 4 (by omega)
  rw [show Num.mark 4 = 240 from rfl] at mk
  have ND := Lib.hid nd
  have LEAD := Lib.hid (Num.lead_4 (q := c / 262144) (by omega) (by omega))
  clear nd hc
  go_enter Tryd.func38, Tryd.ntmps38
  go_wp2_with fail
  refine (ND.out _).mono ?_
  rintro e w' ⟨rfl, rfl⟩
  go_wp2_with fail
  go_region_held_law (fun w' => w'.cell? ⟨1, 4, none⟩ = some (.int .u8 240)) (first | exact mk | exact (hL.alloc _).drew.2 4 (by omega) | assumption) (first | (refine step_app1 _ byteT (by rfl) (some 26) rfl (.tmp 16) (.tmp 25) rfl base _ l rfl hown 1 _ (by have := LEAD.out; first | omega | (rw [this]; omega)) (by have := LEAD.out; first | omega | (rw [this]; omega)) rfl (by omega) hb ?_; intro v2 w2 o2 h2; have m2 := (h2.cell (p := ⟨1, 4, none⟩) hp).trans mk))
  all_goals
    rename_i hHeld
    rw [LEAD.out] at o2
    clear m2 hHeld
    obtain ⟨LL, hLL⟩ : ∃ LL, LL = l ++ UInt8.ofNat (240 + c / 262144).toNat :: rest 3 c.toNat := ⟨_, rfl⟩
    have len : LL.length ≤ 100000004 := by rw [hLL, List.length_append, List.length_cons, rest_len]; omega
    rw [← hLL]
    have start : Hid (l ++ [UInt8.ofNat (240 + c / 262144).toNat] ++ rest 3 c.toNat = LL) := by unfold Hid; rw [hLL, List.append_assoc, List.singleton_append]
    have HLL := Lib.hid hLL
    clear hLL
    generalize bits BinOp.or IntKind.u8 240 (IntKind.u8.wrap (c / 262144)) = zz
    generalize IntKind.u8.wrap (c / 262144) = zw
    go_wp2_with fail
    go_loopw [0, 7] (fun sv f wr => ∃ (m : Nat) (d : List UInt8), m ≤ 3 ∧ f = .int .i64 (6 * (m : Int)) ∧ Own wr base 5 sv d ∧ Hid (d ++ rest m c.toNat = LL) ∧ Below base w wr) (fun _ f _ => (intOf f).toNat)
    case atStart => exact ⟨3, _, by omega, at_i64 (by omega), o2, start, h2⟩
    case round =>
      obtain ⟨m, d, m3, rfl, go, ge, gb⟩ := hrel
      clear o2 h2 start
      have gsz : base ≤ wr.heap.size := by have := gb.size; omega
      have gl : d.length ≤ 100000004 := by have := congrArg List.length ge.out; simp at this; omega
      obtain rfl | rfl | rfl | rfl : m = 0 ∨ m = 1 ∨ m = 2 ∨ m = 3 := by omega
      · go_wp2_with fail
        go_ret2
        exact ⟨_, rfl, by have := ge.out; rw [rest, List.append_nil] at this; rw [← HLL.out, ← this]; exact go, gb⟩
      · have t8 := Lib.hid (Num.tail_8 (c))
        go_wp2_with (at_builtin; refine wpList_app1 _ byteT rfl (.tmp 31) (.tmp 38) rfl base _ d rfl go 1 _ (by have := t8.out; first | omega | (rw [this]; omega)) (by have := t8.out; first | omega | (rw [this]; omega)) rfl (by omega) gsz ?_; intro v' w1 hown1 hb1)
        go_roundw
        case rel => exact ⟨0, _, by omega, at_i64 (by omega), hown1, rest_go ge.out (by omega) (by have := t8.out; first | omega | (rw [this]; omega)), gb.trans hb1⟩
        case measure => simp [intOf]
      · have t8 := Lib.hid (Num.tail_8 (c / 64))
        go_wp2_with (at_builtin; refine wpList_app1 _ byteT rfl (.tmp 31) (.tmp 38) rfl base _ d rfl go 1 _ (by have := t8.out; first | omega | (rw [this]; omega)) (by have := t8.out; first | omega | (rw [this]; omega)) rfl (by omega) gsz ?_; intro v' w1 hown1 hb1)
        go_roundw
        case rel => exact ⟨1, _, by omega, at_i64 (by omega), hown1, rest_go ge.out (by omega) (by have := t8.out; first | omega | (rw [this]; omega)), gb.trans hb1⟩
        case measure => simp [intOf]
      · have t8 := Lib.hid (Num.tail_8 (c / 4096))
        go_wp2_with (at_builtin; refine wpList_app1 _ byteT rfl (.tmp 31) (.tmp 38) rfl base _ d rfl go 1 _ (by have := t8.out; first | omega | (rw [this]; omega)) (by have := t8.out; first | omega | (rw [this]; omega)) rfl (by omega) gsz ?_; intro v' w1 hown1 hb1)
        go_roundw
        case rel => exact ⟨2, _, by omega, at_i64 (by omega), hown1, rest_go ge.out (by omega) (by have := t8.out; first | omega | (rw [this]; omega)), gb.trans hb1⟩
        case measure => simp [intOf]

end Go.Proofs.YtbogafecgakgiaaDoor
