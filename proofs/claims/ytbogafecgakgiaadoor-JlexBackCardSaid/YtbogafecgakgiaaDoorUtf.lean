/- The calls of layer 3 at every input: those that only reckon. -/
import Derived.Test.YtbogafecgakgiaaDoorUNum
import Derived.Test.YtbogafecgakgiaaDoorBase
namespace Go.Proofs.YtbogafecgakgiaaDoor
open Go.ChangeShapes Go.WideShapes Go.ChangeAt Go.RowKit Mem

/-- The tables, where they lie: the number of the last one; utf's marks; jlex's words of letters. -/
def spells : List Value := [.string ⟨#[116, 114, 117, 101]⟩, .int .i64 7, .int .i64 1, .string ⟨#[102, 97, 108, 115, 101]⟩, .int .i64 7, .int .i64 0, .string ⟨#[110, 117, 108, 108]⟩, .int .i64 8, .int .i64 0]
structure Laid (w : World) : Prop where
  top : 1 < w.heap.size
  marks : ∀ n, n < 5 → w.cell? ⟨1, n, none⟩ = some (.int .u8 (Num.mark n : Int))
  spell : ∀ n, n < 9 → w.cell? ⟨0, n, none⟩ = spells[n]?
theorem Laid.below {B : Nat} {w w' : World} (h : Laid w) (hb : Below B w w') (hB : 1 < B) : Laid w' where
  top := Nat.lt_of_lt_of_le h.top hb.size
  marks := fun n hn => (hb.cell (p := ⟨1, n, none⟩) (Nat.lt_of_le_of_lt (by show 1 ≤ 1; decide) hB)).trans (h.marks n hn)
  spell := fun n hn => (hb.cell (p := ⟨0, n, none⟩) (Nat.lt_of_le_of_lt (by show 0 ≤ 1; decide) hB)).trans (h.spell n hn)
theorem Laid.alloc {w : World} (h : Laid w) (o : Obj) : Laid (w.alloc o) := h.below ((Below.refl w.heap.size w).alloc (Nat.le_refl _) o) h.1
theorem Laid.drewN {w : World} (h : Laid w) (k : Nat) : Laid (w.drewN k) := h.below (B := w.heap.size) (bel_drewN (Below.refl _ _) k) h.1
theorem Laid.drew {w : World} (h : Laid w) : Laid w.drew := h.below (B := w.heap.size) (Below.refl _ _).drew h.1

set_option maxRecDepth 100000 in
theorem asked_any (x : Nat) (h : x < 256) (w : World) : Calls Tryd.prog 44 #[.int .u8 (x : Int)] w fun e w' => e = .returned (.int .i64 (Num.ask x : Int)) ∧ w = w' := by
  have a := Num.ask_is x
  obtain ⟨k, hk⟩ : ∃ k, k = Num.ask x := ⟨_, rfl⟩
  rw [← hk] at a ⊢
  clear hk
  rcases a with ⟨rfl, a1 | ⟨a1, a2⟩⟩ | ⟨rfl, a1⟩ | ⟨rfl, a1, a2⟩ | ⟨rfl, a1, a2⟩ | ⟨rfl, a1, a2⟩
  all_goals
    go_enter Tryd.func44, Tryd.ntmps44
    go_wp2_with fail
    go_ret
    exact ⟨rfl, rfl⟩

theorem second_any (x : Nat) (w : World) : Calls Tryd.prog 45 #[.int .u8 (x : Int)] w fun e w' => e = .returned (.tuple #[.int .u8 (Num.lo x : Int), .int .u8 (Num.hi x : Int)]) ∧ w = w' := by
  by_cases h1 : x = 224
  · subst h1
    go_enter Tryd.func45, Tryd.ntmps45
    go_wp2_with fail
    go_ret2
    exact ⟨rfl, rfl⟩
  · by_cases h2 : x = 237
    · subst h2
      go_enter Tryd.func45, Tryd.ntmps45
      go_wp2_with fail
      go_ret2
      exact ⟨rfl, rfl⟩
    · by_cases h3 : x = 240
      · subst h3
        go_enter Tryd.func45, Tryd.ntmps45
        go_wp2_with fail
        go_ret2
        exact ⟨rfl, rfl⟩
      · by_cases h4 : x = 244
        · subst h4
          go_enter Tryd.func45, Tryd.ntmps45
          go_wp2_with fail
          go_ret2
          exact ⟨rfl, rfl⟩
        · have q1 : ((x : Int) == 224) = false := by simp; omega
          have q2 : ((x : Int) == 237) = false := by simp; omega
          have q3 : ((x : Int) == 240) = false := by simp; omega
          have q4 : ((x : Int) == 244) = false := by simp; omega
          have e1 : Num.lo x = 128 := by have := Num.lo_is x; omega
          have e2 : Num.hi x = 191 := by have := Num.hi_is x; omega
          rw [e1, e2]
          clear h1 h2 h3 h4 e1 e2
          go_enter Tryd.func45, Tryd.ntmps45
          go_wp2_with fail
          go_ret2
          exact ⟨rfl, rfl⟩

theorem need_is (c : Int) : (Num.need c = 0 ∧ c < 0) ∨ (Num.need c = 0 ∧ 1114111 < c) ∨ (Num.need c = 0 ∧ 55296 ≤ c ∧ c ≤ 57343) ∨ (Num.need c = 1 ∧ 0 ≤ c ∧ c < 128) ∨ (Num.need c = 2 ∧ 128 ≤ c ∧ c < 2048) ∨
    (Num.need c = 3 ∧ 2048 ≤ c ∧ c < 55296) ∨ (Num.need c = 3 ∧ 57343 < c ∧ c < 65536) ∨ (Num.need c = 4 ∧ 65536 ≤ c ∧ c ≤ 1114111) := by
  unfold Num.need
  split
  · omega
  · split
    · omega
    · split
      · omega
      · split <;> omega
set_option maxRecDepth 100000 in
theorem needed_any (c : Int) (w : World) : Calls Tryd.prog 49 #[.int .i32 c] w fun e w' => e = .returned (.int .i64 (Num.need c : Int)) ∧ w = w' := by
  have a := need_is c
  obtain ⟨k, hk⟩ : ∃ k, k = Num.need c := ⟨_, rfl⟩
  rw [← hk] at a ⊢
  clear hk
  rcases a with ⟨rfl, a1⟩ | ⟨rfl, a1⟩ | ⟨rfl, a1, a2⟩ | ⟨rfl, a1, a2⟩ | ⟨rfl, a1, a2⟩ | ⟨rfl, a1, a2⟩ | ⟨rfl, a1, a2⟩ | ⟨rfl, a1, a2⟩
  all_goals
    go_enter Tryd.func49, Tryd.ntmps49
    go_wp2_with fail
    go_ret
    exact ⟨rfl, rfl⟩

/-- Which character two surrogates are. -/
def pair (h l : Int) : Int := if h < 55296 ∨ 56319 < h ∨ l < 56320 ∨ 57343 < l then 0 else 65536 + (h - 55296) * 1024 + l - 56320
theorem pair_ok {h l : Int} (h1 : 55296 ≤ h) (h2 : h ≤ 56319) (h3 : 56320 ≤ l) (h4 : l ≤ 57343) : pair h l = 65536 + (h - 55296) * 1024 + l - 56320 := by unfold pair; rw [if_neg (by omega)]
theorem pair_no {h l : Int} (k : h < 55296 ∨ 56319 < h ∨ l < 56320 ∨ 57343 < l) : pair h l = 0 := by unfold pair; rw [if_pos k]
def Pairs (h l : Int) (w : World) (e : Ending) (w' : World) : Prop := e = .returned (.tuple #[.int .i32 (pair h l), .bool (!(pair h l == 0))]) ∧ w = w'
set_option maxRecDepth 100000 in
theorem Pair_any (h l : Int) (w : World) : Calls Tryd.prog 53 #[.int .i32 h, .int .i32 l] w (Pairs h l w) := by
  by_cases k : h < 55296 ∨ 56319 < h ∨ l < 56320 ∨ 57343 < l
  · have e : ∀ x w', x = Ending.returned (.tuple #[.int .i32 0, .bool false]) ∧ w = w' → Pairs h l w x w' := fun x w' ⟨h1, h2⟩ => ⟨by rw [pair_no k]; exact h1, h2⟩
    refine Calls.mono ?_ e
    clear e
    by_cases k1 : h < 55296
    · clear k
      go_enter Tryd.func53, Tryd.ntmps53
      go_wp2_with fail
      go_ret2
      exact ⟨rfl, rfl⟩
    · by_cases k2 : 56320 ≤ h
      · clear k
        go_enter Tryd.func53, Tryd.ntmps53
        go_wp2_with fail
        go_ret2
        exact ⟨rfl, rfl⟩
      · by_cases k3 : l < 56320
        · clear k
          go_enter Tryd.func53, Tryd.ntmps53
          go_wp2_with fail
          go_ret2
          exact ⟨rfl, rfl⟩
        · have k4 : 57343 < l := by omega
          clear k
          go_enter Tryd.func53, Tryd.ntmps53
          go_wp2_with fail
          go_ret2
          exact ⟨rfl, rfl⟩
  · have k1 : 55296 ≤ h := by omega
    have k2 : h ≤ 56319 := by omega
    have k3 : 56320 ≤ l := by omega
    have k4 : l ≤ 57343 := by omega
    clear k
    have e : ∀ x w', x = Ending.returned (.tuple #[.int .i32 (65536 + (h - 55296) * 1024 + l - 56320), .bool true]) ∧ w = w' → Pairs h l w x w' := fun x w' ⟨h1, h2⟩ => by
      refine ⟨?_, h2⟩
      rw [pair_ok k1 k2 k3 k4, show (!(65536 + (h - 55296) * 1024 + l - 56320 == 0)) = true by simp; omega]
      exact h1
    refine Calls.mono ?_ e
    clear e
    go_enter Tryd.func53, Tryd.ntmps53
    go_wp2_with fail
    go_ret2
    exact ⟨rfl, rfl⟩

theorem split_pair {c : Int} (h1 : 65536 ≤ c) (h2 : c ≤ 1114111) : pair (55296 + (c - 65536) / 1024) (56320 + (c - 65536) % 1024) = c := by
  rw [pair_ok (by omega) (by omega) (by omega) (by omega)]; omega

end Go.Proofs.YtbogafecgakgiaaDoor
