/- The calls of layer 2, and the document's own answers for it, at every input. -/
import Derived.Test.YtjebhbjffofjnaaDoorZig
import Derived.Test.YtjebhbjffofjnaaDoorVarNum
import Derived.Test.YtjebhbjffofjnaaDoorBase
import Derived.Outline
import Derived.LoopTactic
namespace Go.Proofs.YtjebhbjffofjnaaDoor
open Go.ChangeShapes Go.WideShapes Go.ChangeAt Go.RowKit Mem

theorem put_step {z : Int} {d l : List UInt8} {b : Int} (h : d ++ Num.enc z.toNat = l) (h0 : 128 ≤ z) (h1 : z ≤ 18446744073709551615) (hb : b = z % 256 % 128 + 128) :
    Hid (d ++ [UInt8.ofNat b.toNat] ++ Num.enc (z / 128).toNat = l) := by
  unfold Hid
  subst hb
  rw [← h, Num.enc_big (u := z.toNat) (by omega), List.append_assoc, List.singleton_append, show (z % 256 % 128 + 128).toNat = z.toNat % 128 + 128 by omega, show (z / 128).toNat = z.toNat / 128 by omega]
theorem put_end {z : Int} {d l : List UInt8} {base : Nat} {v : Value} {w w' : World} (h : d ++ Num.enc z.toNat = l) (h0 : z < 128) (ho : Own w' base 5 v (d ++ [UInt8.ofNat z.toNat])) (hb : Below base w w') :
    Made base l w (.returned v) w' := by
  rw [Num.enc_small (by omega)] at h
  exact ⟨v, rfl, h ▸ ho, hb⟩

theorem put_any (n : Int) (h0 : -9223372036854775808 ≤ n) (h1 : n ≤ 9223372036854775807) (base : Nat) (v : Value) (l : List UInt8) (w : World) (hb : base ≤ w.heap.size) (hown : Own w base 5 v l) (hl : l.length ≤ 100000000) :
    Calls Tryd.prog 17 #[v, .int .i64 n] w (Made base (l ++ Num.enc (Num.zig n).toNat) w) := by
  have a0 := Num.zig_lo n
  have a1 := Num.zig_hi h0 h1
  have el := Num.enc_length_le (u := (Num.zig n).toNat) (by omega)
  go_enter Tryd.func17, Tryd.ntmps17
  go_wp2_with fail
  refine (zig_any _ h0 h1 _).mono ?_
  rintro e w' ⟨rfl, rfl⟩
  go_wp2_with fail
  go_loopw [0, 5] (fun sv u wr => ∃ (z : Int) (d : List UInt8), 0 ≤ z ∧ z ≤ 18446744073709551615 ∧ u = .int .u64 z ∧ Own wr base 5 sv d ∧ Hid (d ++ Num.enc z.toNat = l ++ Num.enc (Num.zig n).toNat) ∧ Below base w wr) (fun _ u _ => (intOf u).toNat)
  case atStart => exact ⟨Num.zig n, l, a0, a1, rfl, hown, rfl, Below.refl _ _⟩
  case round =>
    obtain ⟨z, d, g0, g1, rfl, go, ge, gb⟩ := hrel
    have gsz : base ≤ wr.heap.size := by have := gb.size; omega
    have gl : d.length ≤ 100000010 := by have := congrArg List.length ge.out; simp at this; omega
    by_cases hz : 128 ≤ z
    · have o1 := Num.or_128 (x := z % 256) (by omega) (by omega)
      have o2 : 0 ≤ bits .or .u8 (z % 256) 128 ∧ bits .or .u8 (z % 256) 128 ≤ 255 := by rw [o1]; omega
      have O1 := Lib.hid o1
      have p1 := o2.1
      have p2 := o2.2
      clear o1 o2
      go_wp2_with (at_builtin; refine wpList_app1 _ byteT rfl (.tmp 10) (.tmp 14) rfl base _ d rfl go 1 _ p1 p2 rfl (by omega) gsz ?_; intro v' w1 hown1 hb1)
      go_roundw
      case rel => exact ⟨z / 128, _, by omega, by omega, rfl, hown1, put_step ge.out hz g1 O1.out, gb.trans hb1⟩
      case measure => simp [intOf]; omega
    · go_wp2_with (at_builtin; refine wpList_app1 _ byteT rfl (.tmp 18) (.tmp 21) rfl base _ d rfl go 1 z g0 (by omega) rfl (by omega) gsz ?_; intro v' w1 hown1 hb1)
      go_ret
      exact put_end ge.out (by omega) hown1 (gb.trans hb1)

theorem put_step8 {z : Int} {d l : List UInt8} (h : d ++ Num.enc z.toNat = l) (h0 : 128 ≤ z) :
    Hid (d ++ [UInt8.ofNat (z % 128 + 128).toNat] ++ Num.enc (z / 128).toNat = l) := by
  unfold Hid
  rw [← h, Num.enc_big (u := z.toNat) (by omega), List.append_assoc, List.singleton_append, show (z % 128 + 128).toNat = z.toNat % 128 + 128 by omega, show (z / 128).toNat = z.toNat / 128 by omega]

theorem rput_any (n : Int) (h0 : -9223372036854775808 ≤ n) (h1 : n ≤ 9223372036854775807) (w : World) :
    Calls Tryd.prog 37 #[.int .i64 n] w (Made w.heap.size (Num.enc (Num.zig n).toNat) w) := by
  have a0 := Num.zig_lo n
  have a1 := Num.zig_hi h0 h1
  have b0 := Num.width_lo n
  have b1 := Num.width_hi h0 h1
  have el := Num.enc_length_le (u := (Num.zig n).toNat) (by omega)
  obtain ⟨base, hbase⟩ : ∃ base, base = w.heap.size := ⟨_, rfl⟩
  rw [← hbase]
  have hb : base ≤ w.heap.size := by omega
  clear hbase
  go_enter Tryd.func37, Tryd.ntmps37
  go_wp2_with fail
  refine (rzig_any _ h0 h1 _).mono ?_
  rintro e w' ⟨rfl, rfl⟩
  go_wp2_with fail
  go_loopw [3, 4, 5] (fun u sv i wr => ∃ (z k : Int) (d : List UInt8), 0 ≤ z ∧ z ≤ 18446744073709551615 ∧ u = .int .u64 z ∧ 1 ≤ k ∧ k ≤ Num.width n ∧ i = .int .i64 k ∧ Hid (k + Num.parts z = Num.width n + 1) ∧ Own wr base 5 sv d ∧ Hid (d ++ Num.enc z.toNat = Num.enc (Num.zig n).toNat) ∧ Below base w wr) (fun u _ _ _ => (intOf u).toNat)
  case atStart => exact ⟨Num.zig n, 1, [], a0, a1, rfl, by omega, by omega, rfl, Int.add_comm _ _, Own.none_ _ _ _, rfl, Below.refl _ _⟩
  case round =>
    obtain ⟨z, k, d, g0, g1, rfl, g2, g3, rfl, gk, go, ge, gb⟩ := hrel
    have gsz : base ≤ wr.heap.size := by have := gb.size; omega
    have gl : d.length ≤ 10 := by have := congrArg List.length ge.out; simp at this; omega
    by_cases hz : 128 ≤ z
    · have hp := Lib.hid (Num.parts_big (u := z) (by omega) g1)
      have hk : k < Num.width n := by have := hp.out; have := gk.out; have := Num.parts_lo (z / 128); omega
      have p1 : 0 ≤ z % 128 + 128 := by omega
      have p2 : z % 128 + 128 ≤ 255 := by omega
      go_wp2_with (first
        | (go_at_call 48; refine (rwidth_any _ (by omega) (by omega) _).mono ?_; rintro e w' ⟨rfl, rfl⟩)
        | (at_builtin; refine wpList_app1 _ byteT rfl (.tmp 14) (.tmp 19) rfl base _ d rfl go 1 _ p1 p2 rfl (by omega) gsz ?_; intro v' w1 hown1 hb1))
      go_roundw
      case rel => exact ⟨z / 128, k + 1, _, by omega, by omega, rfl, by omega, by omega, rfl, (by have := hp.out; have := gk.out; unfold Hid; omega), hown1, put_step8 ge.out hz, gb.trans hb1⟩
      case measure => simp [intOf]; omega
    · have hp := Lib.hid (Num.parts_small (u := z) (by omega))
      have hk : ¬ k < Num.width n := by have := hp.out; have := gk.out; omega
      go_wp2_with (first
        | (go_at_call 48; refine (rwidth_any _ (by omega) (by omega) _).mono ?_; rintro e w' ⟨rfl, rfl⟩)
        | (at_builtin; refine wpList_app1 _ byteT rfl (.tmp 23) (.tmp 26) rfl base _ d rfl go 1 z g0 (by omega) rfl (by omega) gsz ?_; intro v' w1 hown1 hb1))
      go_ret
      exact put_end ge.out (by omega) hown1 (gb.trans hb1)


/-- A cursor in block g: the slice, and the place. -/
def Drawn (v : Value) (w : World) (e : Ending) (w' : World) : Prop := e = .returned v ∧ ∃ m, w' = w.drewN m
def Moved (v : Value) (g k : Nat) (w : World) (e : Ending) (w' : World) : Prop := e = .returned v ∧ ∃ m, w' = (w.drewN m).setCell ⟨g, 1, none⟩ (.int .i64 ((k + 1 : Nat) : Int))

theorem step_end (g c n : Nat) (A : Option Addr) (w : World) (h0 : w.cell? ⟨g, 0, none⟩ = some (.slice A n c)) (h1 : w.cell? ⟨g, 1, none⟩ = some (.int .i64 (n : Int))) :
    Calls Tryd.prog 64 #[.pointer (some ⟨g, 0, none⟩)] w (Drawn (.tuple #[.int .u8 0, .bool false]) w) := by
  go_enter Tryd.func64, Tryd.ntmps64
  go_wp2_with fail
  go_quiet (fail)
  go_wp2_with fail
  go_ret2
  exact ⟨rfl, nq, rfl⟩

theorem step_more (g c n k b off : Nat) (x : Int) (w : World) (hn : n ≤ 140000000000) (hk : k < n) (h0 : w.cell? ⟨g, 0, none⟩ = some (.slice (some ⟨b, off, none⟩) n c)) (h1 : w.cell? ⟨g, 1, none⟩ = some (.int .i64 (k : Int)))
    (hc : w.cell? ⟨b, off + k, none⟩ = some (.int .u8 x)) (hf : w.frozen? ⟨g, 1, none⟩ = false) :
    Calls Tryd.prog 64 #[.pointer (some ⟨g, 0, none⟩)] w (Moved (.tuple #[.int .u8 x, .bool true]) g k w) := by
  have t1 : ((k : Int) == (n : Int)) = false := by simp; omega
  have t2 : (0 : Int) ≤ (k : Int) := by omega
  have t3 : (k : Int) < (n : Int) := by omega
  go_enter Tryd.func64, Tryd.ntmps64
  go_wp2_with fail
  go_quiet (fail)
  go_wp2_with fail
  go_quiet (fail)
  go_wp2_with fail
  go_ret2
  exact ⟨rfl, _, rfl⟩

end Go.Proofs.YtjebhbjffofjnaaDoor
