/- The calls of layer 3 at every input: those that only reckon. -/
import Derived.Test.YtnfhikgfcdcpoaaDoorUNum
import Derived.Test.YtnfhikgfcdcpoaaDoorBase
import Derived.Test.YtnfhikgfcdcpoaaDoorLaid
import Derived.Deep.RegionHeldLaw
namespace Go.Proofs.YtnfhikgfcdcpoaaDoor
open Go.ChangeShapes Go.WideShapes Go.ChangeAt Go.RowKit Mem


set_option maxRecDepth 100000 in
theorem asked_any (x : Nat) (h : x < 256) (w : World) : Calls Tryd.prog 86 #[.int .u8 (x : Int)] w fun e w' => e = .returned (.int .i64 (Num.ask x : Int)) ∧ w = w' := by
  have a := Num.ask_is x
  obtain ⟨k, hk⟩ : ∃ k, k = Num.ask x := ⟨_, rfl⟩
  rw [← hk] at a ⊢
  clear hk
  rcases a with ⟨rfl, a1 | ⟨a1, a2⟩⟩ | ⟨rfl, a1⟩ | ⟨rfl, a1, a2⟩ | ⟨rfl, a1, a2⟩ | ⟨rfl, a1, a2⟩
  all_goals
    go_enter Tryd.func86, Tryd.ntmps86
    go_wp2_with fail
    go_ret
    exact ⟨rfl, rfl⟩

theorem second_any (x : Nat) (w : World) : Calls Tryd.prog 87 #[.int .u8 (x : Int)] w fun e w' => e = .returned (.tuple #[.int .u8 (Num.lo x : Int), .int .u8 (Num.hi x : Int)]) ∧ w = w' := by
  by_cases h1 : x = 224
  · subst h1
    go_enter Tryd.func87, Tryd.ntmps87
    go_wp2_with fail
    go_ret2
    exact ⟨rfl, rfl⟩
  · by_cases h2 : x = 237
    · subst h2
      go_enter Tryd.func87, Tryd.ntmps87
      go_wp2_with fail
      go_ret2
      exact ⟨rfl, rfl⟩
    · by_cases h3 : x = 240
      · subst h3
        go_enter Tryd.func87, Tryd.ntmps87
        go_wp2_with fail
        go_ret2
        exact ⟨rfl, rfl⟩
      · by_cases h4 : x = 244
        · subst h4
          go_enter Tryd.func87, Tryd.ntmps87
          go_wp2_with fail
          go_ret2
          exact ⟨rfl, rfl⟩
        · have q1 : ((x : Int) == 224) = false := by simp; omega
          have q2 : ((x : Int) == 237) = false := by simp; omega
          have q3 : ((x : Int) == 240) = false := by simp; omega
          have q4 : ((x : Int) == 244) = false := by simp; omega
          have e1 : Num.lo x = 128 := by have := Num.lo_is x; omega
          have e2 : Num.hi x = 191 := by have := Num.hi_is x; omega
          rw [e1, e2]
          clear h1 h2 h3 h4 e1 e2
          go_enter Tryd.func87, Tryd.ntmps87
          go_wp2_with fail
          go_ret2
          exact ⟨rfl, rfl⟩

theorem need_is (c : Int) : (Num.need c = 0 ∧ c < 0) ∨ (Num.need c = 0 ∧ 1114111 < c) ∨ (Num.need c = 0 ∧ 55296 ≤ c ∧ c ≤ 57343) ∨ (Num.need c = 1 ∧ 0 ≤ c ∧ c < 128) ∨ (Num.need c = 2 ∧ 128 ≤ c ∧ c < 2048) ∨
    (Num.need c = 3 ∧ 2048 ≤ c ∧ c < 55296) ∨ (Num.need c = 3 ∧ 57343 < c ∧ c < 65536) ∨ (Num.need c = 4 ∧ 65536 ≤ c ∧ c ≤ 1114111) := by
  unfold Num.need
  split
  · omega
  · split
    · omega
    · split
      · omega
      · split <;> omega

/-- Which character two surrogates are. -/
def pair (h l : Int) : Int := if h < 55296 ∨ 56319 < h ∨ l < 56320 ∨ 57343 < l then 0 else 65536 + (h - 55296) * 1024 + l - 56320
theorem pair_ok {h l : Int} (h1 : 55296 ≤ h) (h2 : h ≤ 56319) (h3 : 56320 ≤ l) (h4 : l ≤ 57343) : pair h l = 65536 + (h - 55296) * 1024 + l - 56320 := by unfold pair; rw [if_neg (by omega)]
theorem pair_no {h l : Int} (k : h < 55296 ∨ 56319 < h ∨ l < 56320 ∨ 57343 < l) : pair h l = 0 := by unfold pair; rw [if_pos k]
def Pairs (h l : Int) (w : World) (e : Ending) (w' : World) : Prop := e = .returned (.tuple #[.int .i32 (pair h l), .bool (!(pair h l == 0))]) ∧ w = w'

theorem split_pair {c : Int} (h1 : 65536 ≤ c) (h2 : c ≤ 1114111) : pair (55296 + (c - 65536) / 1024) (56320 + (c - 65536) % 1024) = c := by
  rw [pair_ok (by omega) (by omega) (by omega) (by omega)]; omega

end Go.Proofs.YtnfhikgfcdcpoaaDoor
/- The calls of layer 3 at every input: those that read bytes. -/
namespace Go.Proofs.YtnfhikgfcdcpoaaDoor
open Go.ChangeShapes Go.WideShapes Go.ChangeAt Go.RowKit Mem

/-- What stands first: the character, how many bytes, the error. -/
def Fst (r : Nat × Nat × Nat) (w : World) (e : Ending) (w' : World) : Prop :=
  e = .returned (.tuple #[.int .i32 (r.1 : Int), .int .i64 (r.2.1 : Int), .int .i64 (r.2.2 : Int)]) ∧ Below w.heap.size w w'

/-- What the loop knows: at place p so much is gathered. -/
def Gat (L : List UInt8) (s p f t a : Nat) : Prop := Num.fst L = Num.more (s - p) f t a s (L.drop p) ∧ ((p = 1 ∧ a < 128) ∨ (p = 2 ∧ a < 8192) ∨ (p = 3 ∧ a < 524288) ∨ (p = 4 ∧ a < 33554432))
theorem Gat.done {L : List UInt8} {s f t a : Nat} (h : Gat L s s f t a) : Num.fst L = (a, s, 0) := by
  have := h.1; rwa [Nat.sub_self, Num.more_zero] at this
theorem Gat.short {L : List UInt8} {s p f t a : Nat} (h : Gat L s p f t a) (hp : p < s) (hl : p = L.length) : Num.fst L = (0, 0, 10) := by rw [h.1]; exact Num.more_end (by omega) hl
theorem Gat.bad {L : List UInt8} {s p f t a X : Nat} (h : Gat L s p f t a) (hp : p < s) (hl : p < L.length) (hX : X = (L.getD p 0).toNat) (hy : X < f ∨ t < X) : Num.fst L = (0, 0, 11) := by
  rw [h.1]; exact Num.more_bad_at (by omega) hl hX hy
theorem Gat.go {L : List UInt8} {s p f t a X : Nat} (h : Gat L s p f t a) (hp : p < s) (hs : s ≤ 4) (hl : p < L.length) (hX : X = (L.getD p 0).toNat) (h1 : f ≤ X) (h2 : X ≤ t) (h3 : X - 128 < 64) : Gat L s (p + 1) 128 191 (a * 64 + (X - 128)) := by
  refine ⟨?_, ?_⟩
  · rw [h.1, Num.more_go_at (by omega) hl hX h1 h2, Nat.sub_sub]
  · have := h.2; omega
theorem Gat.lt {L : List UInt8} {s p f t a : Nat} (h : Gat L s p f t a) (hp : p < s) (hs : s ≤ 4) : a < 524288 := by have := h.2; omega
theorem gat_first {x : UInt8} {r : List UInt8} (h : Num.ask x.toNat ≠ 0) : Gat (x :: r) (Num.ask x.toNat) 1 (Num.lo x.toNat) (Num.hi x.toNat) (x.toNat - Num.mark (Num.ask x.toNat)) := by
  refine ⟨?_, ?_⟩
  · rw [Num.fst_cons, if_neg h]; rfl
  · have a := Num.ask_is x.toNat
    refine .inl ⟨rfl, ?_⟩
    rcases a with ⟨a, _⟩ | ⟨a, _⟩ | ⟨a, _⟩ | ⟨a, _⟩ | ⟨a, _⟩
    · omega
    · rw [a, show Num.mark 1 = 0 from rfl]; omega
    · rw [a, show Num.mark 2 = 192 from rfl]; omega
    · rw [a, show Num.mark 3 = 224 from rfl]; omega
    · rw [a, show Num.mark 4 = 240 from rfl]; omega

set_option maxHeartbeats 1000000 in
theorem first_any (A : Option Addr) (c : Nat) (l : List UInt8) (w : World) (hL : Laid w) (hb : Bys w w.heap.size A l) (hl : l.length ≤ 140000000000) :
    Calls Tryd.prog 85 #[.slice A l.length c] w (Fst (Num.fst l) w) := by
  cases l with
  | nil =>
    go_enter Tryd.func85, Tryd.ntmps85
    go_wp2_with fail
    go_ret3
    exact ⟨rfl, Below.refl _ _⟩
  | cons x r =>
    obtain ⟨b, off, rfl, hbB, hc⟩ : ∃ b off, A = some ⟨b, off, none⟩ ∧ b < w.heap.size ∧ ∀ k, k < (x :: r).length → w.cell? ⟨b, off + k, none⟩ = some (cel ((x :: r).getD k 0)) := by
      rcases hb with h | h
      · cases h
      · exact h
    have c0 := hc 0 (by simp)
    have lt := x.toNat_lt
    have gf := gat_first (x := x) (r := r)
    have z0 := fun h : Num.ask x.toNat = 0 => (by rw [Num.fst_cons, if_pos h] : Num.fst (x :: r) = (0, 0, 11))
    have ak := Num.ask_is x.toNat
    have lk := Num.lo_is x.toNat
    have hk := Num.hi_is x.toNat
    have mk : Num.mark (Num.ask x.toNat) ≤ x.toNat := by
      rcases ak with ⟨a, _⟩ | ⟨a, _⟩ | ⟨a, _⟩ | ⟨a, _⟩ | ⟨a, _⟩
      · rw [a, show Num.mark 0 = 0 from rfl]; omega
      · rw [a, show Num.mark 1 = 0 from rfl]; omega
      · rw [a, show Num.mark 2 = 192 from rfl]; omega
      · rw [a, show Num.mark 3 = 224 from rfl]; omega
      · rw [a, show Num.mark 4 = 240 from rfl]; omega
    have ask := asked_any x.toNat lt
    have sec := second_any x.toNat
    have lm := hL.2 (Num.ask x.toNat) (by omega)
    have len : 0 < (x :: r).length := by simp
    obtain ⟨L, hLL⟩ : ∃ L, L = x :: r := ⟨_, rfl⟩
    rw [← hLL] at hc c0 gf z0 hl len ⊢
    have e0 : L.getD 0 0 = x := by rw [hLL]; rfl
    rw [e0] at c0
    unfold cel at c0
    rw [Nat.add_zero] at c0
    clear hLL
    generalize x.toNat = X at *
    generalize Num.ask X = N at *
    generalize Num.mark N = M at *
    generalize Num.lo X = F at *
    generalize Num.hi X = T at *
    have N4 : N ≤ 4 := by omega
    have F1 : 128 ≤ F := by omega
    have F2 : F ≤ 160 := by omega
    have T1 : 143 ≤ T := by omega
    have T2 : T ≤ 191 := by omega
    have M1 : M ≤ X := by omega
    have HC := Lib.hid hc
    have ASK := Lib.hid ask
    have SEC := Lib.hid sec
    clear hc ask sec ak lk hk mk e0 hb
    by_cases h0 : N = 0
    · have Z := Lib.hid (z0 h0)
      subst h0
      clear z0 gf
      go_enter Tryd.func85, Tryd.ntmps85
      go_wp2_with fail
      refine (ASK.out _).mono ?_
      rintro e w' ⟨rfl, rfl⟩
      go_wp2_with fail
      go_ret3
      exact ⟨by rw [Z.out]; rfl, Below.refl _ _⟩
    · have G := Lib.hid (gf h0)
      have q0 : ((N : Int) == 0) = false := by simp; omega
      have i0 : (0 : Int) ≤ (N : Int) := by omega
      have i1 : (N : Int) < 5 := by omega
      have N1 : 1 ≤ N := by omega
      clear z0 gf h0
      go_enter Tryd.func85, Tryd.ntmps85
      go_wp2_with fail
      refine (ASK.out _).mono ?_
      rintro e w' ⟨rfl, rfl⟩
      go_wp2_with fail
      go_quiet (fail)
      go_wp2_with fail
      refine (SEC.out _).mono ?_
      rintro e w' ⟨rfl, rfl⟩
      go_wp2_with fail
      have xm : (X : Int) - (M : Int) = ((X - M : Nat) : Int) := by omega
      go_loop [2, 3, 5, 6, 7] (fun u s f t p => ∃ (p' f' t' a' : Nat), 1 ≤ p' ∧ p' ≤ N ∧ p' ≤ L.length ∧ f' ≤ 160 ∧ 128 ≤ f' ∧ t' ≤ 191 ∧ Hid (Gat L N p' f' t' a') ∧ u = .int .i32 (a' : Int) ∧ s = .int .i64 (N : Int) ∧ f = .int .u8 (f' : Int) ∧ t = .int .u8 (t' : Int) ∧ p = .int .i64 (p' : Int)) (fun _ _ _ _ p => N - (intOf p).toNat)
      case atStart => exact ⟨1, F, T, X - M, by omega, N1, len, F2, F1, T2, G, by rw [xm], rfl, rfl, rfl, rfl⟩
      case round =>
        obtain ⟨p, f, t, a, p1, pN, pL, f2, f1, t2, g, rfl, rfl, rfl, rfl, rfl⟩ := hrel
        clear xm
        by_cases hp : p = N
        · have Z := Lib.hid (Gat.done (hp ▸ g.out))
          have Lt : ¬ p < N := by omega
          clear hp
          go_wp2_with fail
          go_ret3
          exact ⟨by rw [Z.out]; rfl, bel_drewN (Below.refl _ _) nq⟩
        · have Lt : p < N := by omega
          by_cases hl2 : p = L.length
          · have Z := Lib.hid (Gat.short g.out (by omega) hl2)
            have q1 : ((p : Int) == (L.length : Int)) = true := by simp; omega
            clear hp hl2
            go_wp2_with fail
            go_ret3
            exact ⟨by rw [Z.out]; rfl, bel_drewN (Below.refl _ _) nq⟩
          · have pl : p < L.length := by omega
            have cp := HC.out p pl
            unfold cel at cp
            have lp := (L.getD p 0).toNat_lt
            have ag := Gat.lt g.out Lt N4
            have gb := Gat.bad g.out Lt pl rfl
            have gg := Gat.go g.out Lt N4 pl rfl
            generalize (L.getD p 0).toNat = Y at *
            by_cases hy : Y < f ∨ t < Y
            · have Z := Lib.hid (gb hy)
              clear gb gg hp hl2
              by_cases hy1 : Y < f
              · clear hy
                go_wp2_with fail
                go_ret3
                exact ⟨by rw [Z.out]; rfl, bel_drewN (Below.refl _ _) nq⟩
              · have hy2 : t < Y := by omega
                clear hy
                go_wp2_with fail
                go_ret3
                exact ⟨by rw [Z.out]; rfl, bel_drewN (Below.refl _ _) nq⟩
            · have y1 : ¬ Y < f := by omega
              have y2 : ¬ t < Y := by omega
              have GG := Lib.hid (gg (by omega) (by omega) (by omega))
              have y3 : (128 : Int) ≤ (Y : Int) := by omega
              clear gb gg hp hl2 hy
              go_wp2_with fail
              go_round
              case rel => exact ⟨p + 1, 128, 191, a * 64 + (Y - 128), by omega, by omega, by omega, by omega, by omega, by omega, GG, by congr 1; omega, rfl, rfl, rfl, by go_num⟩
              case measure => simp [intOf]; omega

/-- What Take tells: the character, the place, the error. -/
def tk (l : List UInt8) (at_ : Int) : Nat × Int × Nat :=
  if at_ < 0 ∨ (l.length : Int) < at_ then (0, at_, 2)
  else ((Num.fst (l.drop at_.toNat)).1, at_ + ((Num.fst (l.drop at_.toNat)).2.1 : Int), (Num.fst (l.drop at_.toNat)).2.2)
theorem tk_bad {l : List UInt8} {at_ : Int} (h : at_ < 0 ∨ (l.length : Int) < at_) : tk l at_ = (0, at_, 2) := by unfold tk; rw [if_pos h]
theorem tk_good {l : List UInt8} {k : Nat} (h : k ≤ l.length) : tk l (k : Int) = ((Num.fst (l.drop k)).1, (k : Int) + ((Num.fst (l.drop k)).2.1 : Int), (Num.fst (l.drop k)).2.2) := by
  unfold tk; rw [if_neg (by omega), Int.toNat_natCast]
def Tk (r : Nat × Int × Nat) (w : World) (e : Ending) (w' : World) : Prop :=
  e = .returned (.tuple #[.int .i32 (r.1 : Int), .int .i64 r.2.1, .int .i64 (r.2.2 : Int)]) ∧ Below w.heap.size w w'


end Go.Proofs.YtnfhikgfcdcpoaaDoor
/- The calls of layer 3 at every input: those that put, and that count. -/
namespace Go.Proofs.YtnfhikgfcdcpoaaDoor
open Go.ChangeShapes Go.WideShapes Go.ChangeAt Go.RowKit Mem

/-- A list of bytes, and behind it others, in a row of the call's own, and an error. -/
def MadeE (base : Nat) (l : List UInt8) (e : Int) (w : World) (x : Ending) (w' : World) : Prop := ∃ v, x = .returned (.tuple #[v, .int .i64 e]) ∧ Own w' base 5 v l ∧ Below base w w'


/-- The bytes behind the first one that are still to be put. -/
def rest : Nat → Nat → List UInt8
  | 0, _ => []
  | m + 1, c => UInt8.ofNat (128 + c / 64 ^ m % 64) :: rest m c

theorem rest_go {d l : List UInt8} {m : Nat} {c : Int} {x : Int} (h : d ++ rest (m + 1) c.toNat = l) (h0 : 0 ≤ c) (hx : x = 128 + c / 64 ^ m % 64) : Hid (d ++ [UInt8.ofNat x.toNat] ++ rest m c.toNat = l) := by
  unfold Hid
  subst hx
  obtain ⟨k, rfl⟩ := Int.eq_ofNat_of_zero_le h0
  rw [← h, List.append_assoc, List.singleton_append, rest, Int.toNat_natCast]
  have e : ((k : Int) / 64 ^ m % 64) = ((k / 64 ^ m % 64 : Nat) : Int) := by simp
  rw [show (128 + (k : Int) / 64 ^ m % 64).toNat = 128 + k / 64 ^ m % 64 by rw [e]; omega]
theorem rest_len (m c : Nat) : (rest m c).length = m := by
  induction m with
  | zero => rfl
  | succ m ih => simp [rest, ih]
theorem at_i64 {a b : Int} (h : a = b) : Value.int .i64 a = .int .i64 b := by rw [h]




end Go.Proofs.YtnfhikgfcdcpoaaDoor
/- The calls of layer 3 at every input: Put as one, Count, Right. -/
namespace Go.Proofs.YtnfhikgfcdcpoaaDoor
open Go.ChangeShapes Go.WideShapes Go.ChangeAt Go.RowKit Mem

theorem of8i {a b : Nat} (h : a = b) : UInt8.ofNat a = UInt8.ofNat b := by rw [h]

def Cnt (l : List UInt8) (w : World) (e : Ending) (w' : World) : Prop :=
  e = .returned (.tuple #[.int .i64 (((Num.cU l).getD 0 : Nat) : Int), .int .i64 (if (Num.cU l).isSome then 0 else 11)]) ∧ Below w.heap.size w w'
/-- What the loop knows: from place p on stands D, k characters are ahead of it. -/
def Left (L D : List UInt8) (p k : Nat) : Prop := D = L.drop p ∧ p ≤ L.length ∧ k ≤ p ∧ Num.cU L = (Num.cU D).map (· + k)
theorem Left.done {L D : List UInt8} {p k : Nat} (h : Left L D p k) (hd : D = []) : Num.cU L = some k := by
  rw [h.2.2.2, hd, Num.cU_nil]; simp
theorem Left.bad {L D : List UInt8} {p k : Nat} (h : Left L D p k) (hd : D ≠ []) (he : (Num.fst D).2.2 ≠ 0) : Num.cU L = none := by
  rw [h.2.2.2, Num.cU_bad hd he]; rfl
theorem Left.go {L D : List UInt8} {p k c n : Nat} (h : Left L D p k) (he : Num.fst D = (c, n, 0)) (hn : 0 < n) (hn2 : n ≤ D.length) : Left L (D.drop n) (p + n) (k + 1) := by
  have len : D.length = L.length - p := by rw [h.1, List.length_drop]
  refine ⟨by rw [h.1, List.drop_drop], by have := h.2.1; omega, by have := h.2.2.1; omega, ?_⟩
  rw [h.2.2.2, Num.cU_go he, Option.map_map]
  congr 1
  funext j
  simp; omega

set_option maxHeartbeats 1000000 in
theorem Count_any (A : Option Addr) (c : Nat) (l : List UInt8) (w : World) (hL : Laid w) (hb : Bys w w.heap.size A l) (hl : l.length ≤ 140000000000) (hc : l.length ≤ c) :
    Calls Tryd.prog 82 #[.slice A l.length c] w (Cnt l w) := by
  have start : Left l l 0 0 := ⟨rfl, Nat.zero_le _, Nat.le_refl _, by simp⟩
  have START := Lib.hid start
  clear start
  go_enter Tryd.func82, Tryd.ntmps82
  go_wp2_with fail
  go_loopw [0, 4] (fun sv u wr => ∃ (p k n c' : Nat) (A' : Option Addr) (D : List UInt8), Hid (Left l D p k) ∧ Hid (n = D.length) ∧ n ≤ l.length ∧ k ≤ l.length ∧ n ≤ c' ∧ sv = .slice A' n c' ∧ u = .int .i64 (k : Int) ∧ Bys wr w.heap.size A' D ∧ Below w.heap.size w wr) (fun _ u _ => l.length - (intOf u).toNat)
  case atStart => exact ⟨0, 0, l.length, c, A, l, START, rfl, Nat.le_refl _, Nat.zero_le _, hc, rfl, rfl, hb, Below.refl _ _⟩
  case round =>
    obtain ⟨p, k, n, c', A', D, H, hn, nl, kl, nc, rfl, rfl, hy, hbl⟩ := hrel
    have hL0 := hL.1
    have hLr := hL.below hbl hL0
    have kp : k ≤ p ∧ p ≤ l.length ∧ n + p = l.length := by
      have h1 := H.out; have h2 := hn.out; rw [h1.1, List.length_drop] at h2; exact ⟨h1.2.2.1, h1.2.1, by have := h1.2.1; omega⟩
    by_cases h0 : n = 0
    · have Z := Lib.hid (H.out.done (List.length_eq_zero_iff.1 (by have := hn.out; omega)))
      subst h0
      go_wp2_with fail
      go_ret2
      exact ⟨by rw [Z.out]; rfl, hbl⟩
    · have n0 : 0 < n := by omega
      have fa := first_any A' c' D wr hLr (hy.more hbl.size) (by have := hn.out; omega)
      rw [← hn.out] at fa
      have err := Num.fst_err D
      rw [← hn.out] at err
      have hD : D ≠ [] := by intro e; have := hn.out; rw [e] at this; simp at this; omega
      obtain ⟨⟨x, m, er⟩, hr⟩ : ∃ r, r = Num.fst D := ⟨_, rfl⟩
      rw [← hr] at fa err
      have FA := Lib.hid fa
      by_cases he : er = 0
      · subst he
        have hm : 0 < m ∧ m ≤ n := by
          rcases err with ⟨_, _, e, h1, _, h2⟩ | ⟨e, _⟩ | e
          · simp only [Prod.mk.injEq] at e; omega
          · simp at e
          · simp at e
        obtain ⟨m0, m1⟩ := hm
        have GO := Lib.hid (H.out.go hr.symm m0 (by have := hn.out; omega))
        have hcut := hy.cut m c' (by have := hn.out; omega)
        have HN : Hid (n - m = (D.drop m).length) := by unfold Hid; rw [List.length_drop, ← hn.out]
        clear hr fa err hD h0 hn H
        by_cases hck : c' = m
        · rw [if_pos hck] at hcut
          have HC := Lib.hid hcut
          obtain rfl : n = m := by omega
          obtain rfl : c' = n := hck
          clear hcut
          go_wp2_with fail
          refine FA.out.mono ?_
          rintro e w1 ⟨rfl, h1⟩
          go_wp2_with fail
          go_roundw
          case rel => exact ⟨_, k + 1, 0, 0, _, _, GO, (by have := HN.out; unfold Hid; omega), by omega, by omega, by omega, rfl, by go_num, HC.out.below (h1.mono hbl.size), hbl.trans (h1.mono hbl.size)⟩
          case measure => simp [intOf]; omega
        · rw [if_neg hck] at hcut
          have HC := Lib.hid hcut
          clear hcut
          go_wp2_with fail
          refine FA.out.mono ?_
          rintro e w1 ⟨rfl, h1⟩
          go_wp2_with fail
          go_roundw
          case rel => exact ⟨_, k + 1, _, _, _, _, GO, HN, by omega, by omega, by omega, rfl, by go_num, HC.out.below (h1.mono hbl.size), hbl.trans (h1.mono hbl.size)⟩
          case measure => simp [intOf]; omega
      · have Z := Lib.hid (H.out.bad hD (by rw [← hr]; exact he))
        have q1 : ((er : Int) == 0) = false := by simp; omega
        have q2 : ((er : Int) != 0) = true := by simp; omega
        clear hr fa err hD h0 hn H he
        go_wp2_with fail
        refine FA.out.mono ?_
        rintro e w1 ⟨rfl, h1⟩
        go_wp2_with fail
        go_ret2
        exact ⟨by rw [Z.out]; rfl, hbl.trans (h1.mono hbl.size)⟩

def Rgt (l : List UInt8) (w : World) (e : Ending) (w' : World) : Prop := e = .returned (.bool (Num.cU l).isSome) ∧ Below w.heap.size w w'
theorem Right_any (A : Option Addr) (c : Nat) (l : List UInt8) (w : World) (hL : Laid w) (hb : Bys w w.heap.size A l) (hl : l.length ≤ 140000000000) (hc : l.length ≤ c) :
    Calls Tryd.prog 76 #[.slice A l.length c] w (Rgt l w) := by
  have ca := Count_any A c l w hL hb hl hc
  obtain ⟨o, ho⟩ : ∃ o, o = Num.cU l := ⟨_, rfl⟩
  unfold Cnt at ca
  unfold Rgt
  rw [← ho] at ca ⊢
  clear ho
  have CA := Lib.hid ca
  clear ca
  cases o with
  | none =>
    go_enter Tryd.func76, Tryd.ntmps76
    go_wp2_with fail
    refine CA.out.mono ?_
    rintro e w1 ⟨rfl, h1⟩
    go_wp2_with fail
    go_ret
    exact ⟨rfl, h1⟩
  | some n =>
    go_enter Tryd.func76, Tryd.ntmps76
    go_wp2_with fail
    refine CA.out.mono ?_
    rintro e w1 ⟨rfl, h1⟩
    go_wp2_with fail
    go_ret
    exact ⟨rfl, h1⟩

end Go.Proofs.YtnfhikgfcdcpoaaDoor
