/- Joined by tools/bundle.py: Utf UtfR JRefD JNum4. -/
import Derived.Deep.RegionHeldLaw
import Derived.LoopN
import Derived.Test.YthogheglddfniaaGreatDoorW1
import Derived.Test.YthogheglddfniaaGreatDoorW4
import Derived.Test.YthogheglddfniaaGreatDoorW6
import Derived.Test.YthogheglddfniaaGreatDoorW0
set_option maxRecDepth 100000
set_option maxHeartbeats 16000000
namespace Go.Proofs.YthogheglddfniaaGreatDoor
open Go.ChangeShapes Go.WideShapes Go.ChangeAt Go.RowKit Mem
theorem asked_any (x : Nat) (h : x < 256) (w : World) : Calls Tryz.prog 186 #[.int .u8 (x : Int)] w fun e w' => e = .returned (.int .i64 (Num.ask x : Int)) ∧ w = w' := by
 have a := Num.ask_is x
 obtain ⟨k, hk⟩ : ∃ k, k = Num.ask x := ⟨_, rfl⟩
 rw [← hk] at a ⊢
 clear hk
 rcases a with ⟨rfl, a1 | ⟨a1, a2⟩⟩ | ⟨rfl, a1⟩ | ⟨rfl, a1, a2⟩ | ⟨rfl, a1, a2⟩ | ⟨rfl, a1, a2⟩
 all_goals
  go_enter Tryz.func186, Tryz.ntmps186
  go_wp2_with fail
  go_ret
  exact ⟨rfl, rfl⟩
theorem second_any (x : Nat) (w : World) : Calls Tryz.prog 187 #[.int .u8 (x : Int)] w fun e w' => e = .returned (.tuple #[.int .u8 (Num.lo x : Int), .int .u8 (Num.hi x : Int)]) ∧ w = w' := by
 by_cases h1 : x = 224
 · subst h1
   go_enter Tryz.func187, Tryz.ntmps187
   go_wp2_with fail
   go_ret2
   exact ⟨rfl, rfl⟩
 · by_cases h2 : x = 237
   · subst h2
     go_enter Tryz.func187, Tryz.ntmps187
     go_wp2_with fail
     go_ret2
     exact ⟨rfl, rfl⟩
   · by_cases h3 : x = 240
     · subst h3
       go_enter Tryz.func187, Tryz.ntmps187
       go_wp2_with fail
       go_ret2
       exact ⟨rfl, rfl⟩
     · by_cases h4 : x = 244
       · subst h4
         go_enter Tryz.func187, Tryz.ntmps187
         go_wp2_with fail
         go_ret2
         exact ⟨rfl, rfl⟩
       · have q1 : ((x : Int) == 224) = false := by simp; omega
         have q2 : ((x : Int) == 237) = false := by simp; omega
         have q3 : ((x : Int) == 240) = false := by simp; omega
         have q4 : ((x : Int) == 244) = false := by simp; omega
         have e1 : Num.lo x = 128 := by have := Num.lo_is x; omega
         have e2 : Num.hi x = 191 := by have := Num.hi_is x; omega
         rw [e1, e2]
         clear h1 h2 h3 h4 e1 e2
         go_enter Tryz.func187, Tryz.ntmps187
         go_wp2_with fail
         go_ret2
         exact ⟨rfl, rfl⟩
theorem need_is (c : Int) : (Num.need c = 0 ∧ c < 0) ∨ (Num.need c = 0 ∧ 1114111 < c) ∨ (Num.need c = 0 ∧ 55296 ≤ c ∧ c ≤ 57343) ∨ (Num.need c = 1 ∧ 0 ≤ c ∧ c < 128) ∨ (Num.need c = 2 ∧ 128 ≤ c ∧ c < 2048) ∨
 (Num.need c = 3 ∧ 2048 ≤ c ∧ c < 55296) ∨ (Num.need c = 3 ∧ 57343 < c ∧ c < 65536) ∨ (Num.need c = 4 ∧ 65536 ≤ c ∧ c ≤ 1114111) := by
 unfold Num.need
 split
 · omega
 · split
   · omega
   · split
     · omega
     · split <;> omega
theorem needed_any (c : Int) (w : World) : Calls Tryz.prog 185 #[.int .i32 c] w fun e w' => e = .returned (.int .i64 (Num.need c : Int)) ∧ w = w' := by
 have a := need_is c
 obtain ⟨k, hk⟩ : ∃ k, k = Num.need c := ⟨_, rfl⟩
 rw [← hk] at a ⊢
 clear hk
 rcases a with ⟨rfl, a1⟩ | ⟨rfl, a1⟩ | ⟨rfl, a1, a2⟩ | ⟨rfl, a1, a2⟩ | ⟨rfl, a1, a2⟩ | ⟨rfl, a1, a2⟩ | ⟨rfl, a1, a2⟩ | ⟨rfl, a1, a2⟩
 all_goals
  go_enter Tryz.func185, Tryz.ntmps185
  go_wp2_with fail
  go_ret
  exact ⟨rfl, rfl⟩
def pair (h l : Int) : Int := if h < 55296 ∨ 56319 < h ∨ l < 56320 ∨ 57343 < l then 0 else 65536 + (h - 55296) * 1024 + l - 56320
theorem pair_ok {h l : Int} (h1 : 55296 ≤ h) (h2 : h ≤ 56319) (h3 : 56320 ≤ l) (h4 : l ≤ 57343) : pair h l = 65536 + (h - 55296) * 1024 + l - 56320 := by unfold pair; rw [if_neg (by omega)]
theorem pair_no {h l : Int} (k : h < 55296 ∨ 56319 < h ∨ l < 56320 ∨ 57343 < l) : pair h l = 0 := by unfold pair; rw [if_pos k]
def Pairs (h l : Int) (w : World) (e : Ending) (w' : World) : Prop := e = .returned (.tuple #[.int .i32 (pair h l), .bool (!(pair h l == 0))]) ∧ w = w'
theorem Pair_any (h l : Int) (w : World) : Calls Tryz.prog 193 #[.int .i32 h, .int .i32 l] w (Pairs h l w) := by
 by_cases k : h < 55296 ∨ 56319 < h ∨ l < 56320 ∨ 57343 < l
 · have e : ∀ x w', x = Ending.returned (.tuple #[.int .i32 0, .bool false]) ∧ w = w' → Pairs h l w x w' := fun x w' ⟨h1, h2⟩ => ⟨by rw [pair_no k]; exact h1, h2⟩
   refine Calls.mono ?_ e
   clear e
   by_cases k1 : h < 55296
   · clear k
     go_enter Tryz.func193, Tryz.ntmps193
     go_wp2_with fail
     go_ret2
     exact ⟨rfl, rfl⟩
   · by_cases k2 : 56320 ≤ h
     · clear k
       go_enter Tryz.func193, Tryz.ntmps193
       go_wp2_with fail
       go_ret2
       exact ⟨rfl, rfl⟩
     · by_cases k3 : l < 56320
       · clear k
         go_enter Tryz.func193, Tryz.ntmps193
         go_wp2_with fail
         go_ret2
         exact ⟨rfl, rfl⟩
       · have k4 : 57343 < l := by omega
         clear k
         go_enter Tryz.func193, Tryz.ntmps193
         go_wp2_with fail
         go_ret2
         exact ⟨rfl, rfl⟩
 · have k1 : 55296 ≤ h := by omega
   have k2 : h ≤ 56319 := by omega
   have k3 : 56320 ≤ l := by omega
   have k4 : l ≤ 57343 := by omega
   clear k
   have e : ∀ x w', x = Ending.returned (.tuple #[.int .i32 (65536 + (h - 55296) * 1024 + l - 56320), .bool true]) ∧ w = w' → Pairs h l w x w' := fun x w' ⟨h1, h2⟩ => by
    refine ⟨?_, h2⟩
    rw [pair_ok k1 k2 k3 k4, show (!(65536 + (h - 55296) * 1024 + l - 56320 == 0)) = true by simp; omega]
    exact h1
   refine Calls.mono ?_ e
   clear e
   go_enter Tryz.func193, Tryz.ntmps193
   go_wp2_with fail
   go_ret2
   exact ⟨rfl, rfl⟩
end Go.Proofs.YthogheglddfniaaGreatDoor
namespace Go.Proofs.YthogheglddfniaaGreatDoor
open Go.ChangeShapes Go.WideShapes Go.ChangeAt Go.RowKit Mem
def Fst (r : Nat × Nat × Nat) (w : World) (e : Ending) (w' : World) : Prop :=
 e = .returned (.tuple #[.int .i32 (r.1 : Int), .int .i64 (r.2.1 : Int), .int .i64 (r.2.2 : Int)]) ∧ Below w.heap.size w w'
def Gat (L : List UInt8) (s p f t a : Nat) : Prop := Num.fst L = Num.more (s - p) f t a s (L.drop p) ∧ ((p = 1 ∧ a < 128) ∨ (p = 2 ∧ a < 8192) ∨ (p = 3 ∧ a < 524288) ∨ (p = 4 ∧ a < 33554432))
theorem Gat.done {L : List UInt8} {s f t a : Nat} (h : Gat L s s f t a) : Num.fst L = (a, s, 0) := by
 have := h.1; rwa [Nat.sub_self, Num.more_zero] at this
theorem Gat.short {L : List UInt8} {s p f t a : Nat} (h : Gat L s p f t a) (hp : p < s) (hl : p = L.length) : Num.fst L = (0, 0, 10) := by rw [h.1]; exact Num.more_end (by omega) hl
theorem Gat.bad {L : List UInt8} {s p f t a X : Nat} (h : Gat L s p f t a) (hp : p < s) (hl : p < L.length) (hX : X = (L.getD p 0).toNat) (hy : X < f ∨ t < X) : Num.fst L = (0, 0, 11) := by
 rw [h.1]; exact Num.more_bad_at (by omega) hl hX hy
theorem Gat.go {L : List UInt8} {s p f t a X : Nat} (h : Gat L s p f t a) (hp : p < s) (hs : s ≤ 4) (hl : p < L.length) (hX : X = (L.getD p 0).toNat) (h1 : f ≤ X) (h2 : X ≤ t) (h3 : X - 128 < 64) : Gat L s (p + 1) 128 191 (a * 64 + (X - 128)) := by
 refine ⟨?_, ?_⟩
 · rw [h.1, Num.more_go_at (by omega) hl hX h1 h2, Nat.sub_sub]
 · have := h.2; omega
theorem Gat.lt {L : List UInt8} {s p f t a : Nat} (h : Gat L s p f t a) (hp : p < s) (hs : s ≤ 4) : a < 524288 := by have := h.2; omega
theorem gat_first {x : UInt8} {r : List UInt8} (h : Num.ask x.toNat ≠ 0) : Gat (x :: r) (Num.ask x.toNat) 1 (Num.lo x.toNat) (Num.hi x.toNat) (x.toNat - Num.mark (Num.ask x.toNat)) := by
 refine ⟨?_, ?_⟩
 · rw [Num.fst_cons, if_neg h]; rfl
 · have a := Num.ask_is x.toNat
   refine .inl ⟨rfl, ?_⟩
   rcases a with ⟨a, _⟩ | ⟨a, _⟩ | ⟨a, _⟩ | ⟨a, _⟩ | ⟨a, _⟩
   · omega
   · rw [a, show Num.mark 1 = 0 from rfl]; omega
   · rw [a, show Num.mark 2 = 192 from rfl]; omega
   · rw [a, show Num.mark 3 = 224 from rfl]; omega
   · rw [a, show Num.mark 4 = 240 from rfl]; omega
theorem first_any (A : Option Addr) (c : Nat) (l : List UInt8) (w : World) (hL : Laid w) (hb : Bys w w.heap.size A l) (hl : l.length ≤ 140000000000) :
 Calls Tryz.prog 174 #[.slice A l.length c] w (Fst (Num.fst l) w) := by
 cases l with
 | nil =>
  go_enter Tryz.func174, Tryz.ntmps174
  go_wp2_with fail
  go_ret3
  exact ⟨rfl, Below.refl _ _⟩
 | cons x r =>
  obtain ⟨b, off, rfl, hbB, hc⟩ : ∃ b off, A = some ⟨b, off, none⟩ ∧ b < w.heap.size ∧ ∀ k, k < (x :: r).length → w.cell? ⟨b, off + k, none⟩ = some (cel ((x :: r).getD k 0)) := by
   rcases hb with h | h
   · cases h
   · exact h
  have c0 := hc 0 (by simp)
  have lt := x.toNat_lt
  have gf := gat_first (x := x) (r := r)
  have z0 := fun h : Num.ask x.toNat = 0 => (by rw [Num.fst_cons, if_pos h] : Num.fst (x :: r) = (0, 0, 11))
  have ak := Num.ask_is x.toNat
  have lk := Num.lo_is x.toNat
  have hk := Num.hi_is x.toNat
  have mk : Num.mark (Num.ask x.toNat) ≤ x.toNat := by
   rcases ak with ⟨a, _⟩ | ⟨a, _⟩ | ⟨a, _⟩ | ⟨a, _⟩ | ⟨a, _⟩
   · rw [a, show Num.mark 0 = 0 from rfl]; omega
   · rw [a, show Num.mark 1 = 0 from rfl]; omega
   · rw [a, show Num.mark 2 = 192 from rfl]; omega
   · rw [a, show Num.mark 3 = 224 from rfl]; omega
   · rw [a, show Num.mark 4 = 240 from rfl]; omega
  have ask := asked_any x.toNat lt
  have sec := second_any x.toNat
  have lm := hL.2 (Num.ask x.toNat) (by omega)
  have len : 0 < (x :: r).length := by simp
  obtain ⟨L, hLL⟩ : ∃ L, L = x :: r := ⟨_, rfl⟩
  rw [← hLL] at hc c0 gf z0 hl len ⊢
  have e0 : L.getD 0 0 = x := by rw [hLL]; rfl
  rw [e0] at c0
  unfold cel at c0
  rw [Nat.add_zero] at c0
  clear hLL
  generalize x.toNat = X at *
  generalize Num.ask X = N at *
  generalize Num.mark N = M at *
  generalize Num.lo X = F at *
  generalize Num.hi X = T at *
  have N4 : N ≤ 4 := by omega
  have F1 : 128 ≤ F := by omega
  have F2 : F ≤ 160 := by omega
  have T1 : 143 ≤ T := by omega
  have T2 : T ≤ 191 := by omega
  have M1 : M ≤ X := by omega
  have HC := Lib.hid hc
  have ASK := Lib.hid ask
  have SEC := Lib.hid sec
  clear hc ask sec ak lk hk mk e0 hb
  by_cases h0 : N = 0
  · have Z := Lib.hid (z0 h0)
    subst h0
    clear z0 gf
    go_enter Tryz.func174, Tryz.ntmps174
    go_wp2_with fail
    refine (ASK.out _).mono ?_
    rintro e w' ⟨rfl, rfl⟩
    go_wp2_with fail
    go_ret3
    exact ⟨by rw [Z.out]; rfl, Below.refl _ _⟩
  · have G := Lib.hid (gf h0)
    have q0 : ((N : Int) == 0) = false := by simp; omega
    have i0 : (0 : Int) ≤ (N : Int) := by omega
    have i1 : (N : Int) < 5 := by omega
    have N1 : 1 ≤ N := by omega
    clear z0 gf h0
    go_enter Tryz.func174, Tryz.ntmps174
    go_wp2_with fail
    refine (ASK.out _).mono ?_
    rintro e w' ⟨rfl, rfl⟩
    go_wp2_with fail
    go_quiet (fail)
    go_wp2_with fail
    refine (SEC.out _).mono ?_
    rintro e w' ⟨rfl, rfl⟩
    go_wp2_with fail
    have xm : (X : Int) - (M : Int) = ((X - M : Nat) : Int) := by omega
    go_loop [2, 3, 5, 6, 7] (fun u s f t p => ∃ (p' f' t' a' : Nat), 1 ≤ p' ∧ p' ≤ N ∧ p' ≤ L.length ∧ f' ≤ 160 ∧ 128 ≤ f' ∧ t' ≤ 191 ∧ Hid (Gat L N p' f' t' a') ∧ u = .int .i32 (a' : Int) ∧ s = .int .i64 (N : Int) ∧ f = .int .u8 (f' : Int) ∧ t = .int .u8 (t' : Int) ∧ p = .int .i64 (p' : Int)) (fun _ _ _ _ p => N - (intOf p).toNat)
    case atStart => exact ⟨1, F, T, X - M, by omega, N1, len, F2, F1, T2, G, by rw [xm], rfl, rfl, rfl, rfl⟩
    case round =>
     obtain ⟨p, f, t, a, p1, pN, pL, f2, f1, t2, g, rfl, rfl, rfl, rfl, rfl⟩ := hrel
     clear xm
     by_cases hp : p = N
     · have Z := Lib.hid (Gat.done (hp ▸ g.out))
       have Lt : ¬ p < N := by omega
       clear hp
       go_wp2_with fail
       go_ret3
       exact ⟨by rw [Z.out]; rfl, bel_drewN (Below.refl _ _) nq⟩
     · have Lt : p < N := by omega
       by_cases hl2 : p = L.length
       · have Z := Lib.hid (Gat.short g.out (by omega) hl2)
         have q1 : ((p : Int) == (L.length : Int)) = true := by simp; omega
         clear hp hl2
         go_wp2_with fail
         go_ret3
         exact ⟨by rw [Z.out]; rfl, bel_drewN (Below.refl _ _) nq⟩
       · have pl : p < L.length := by omega
         have cp := HC.out p pl
         unfold cel at cp
         have lp := (L.getD p 0).toNat_lt
         have ag := Gat.lt g.out Lt N4
         have gb := Gat.bad g.out Lt pl rfl
         have gg := Gat.go g.out Lt N4 pl rfl
         generalize (L.getD p 0).toNat = Y at *
         by_cases hy : Y < f ∨ t < Y
         · have Z := Lib.hid (gb hy)
           clear gb gg hp hl2
           by_cases hy1 : Y < f
           · clear hy
             go_wp2_with fail
             go_ret3
             exact ⟨by rw [Z.out]; rfl, bel_drewN (Below.refl _ _) nq⟩
           · have hy2 : t < Y := by omega
             clear hy
             go_wp2_with fail
             go_ret3
             exact ⟨by rw [Z.out]; rfl, bel_drewN (Below.refl _ _) nq⟩
         · have y1 : ¬ Y < f := by omega
           have y2 : ¬ t < Y := by omega
           have GG := Lib.hid (gg (by omega) (by omega) (by omega))
           have y3 : (128 : Int) ≤ (Y : Int) := by omega
           clear gb gg hp hl2 hy
           go_wp2_with fail
           go_round
           case rel => exact ⟨p + 1, 128, 191, a * 64 + (Y - 128), by omega, by omega, by omega, by omega, by omega, by omega, GG, by congr 1; omega, rfl, rfl, rfl, by go_num⟩
           case measure => simp [intOf]; omega
def tk (l : List UInt8) (at_ : Int) : Nat × Int × Nat :=
 if at_ < 0 ∨ (l.length : Int) < at_ then (0, at_, 2)
 else ((Num.fst (l.drop at_.toNat)).1, at_ + ((Num.fst (l.drop at_.toNat)).2.1 : Int), (Num.fst (l.drop at_.toNat)).2.2)
theorem tk_bad {l : List UInt8} {at_ : Int} (h : at_ < 0 ∨ (l.length : Int) < at_) : tk l at_ = (0, at_, 2) := by unfold tk; rw [if_pos h]
theorem tk_good {l : List UInt8} {k : Nat} (h : k ≤ l.length) : tk l (k : Int) = ((Num.fst (l.drop k)).1, (k : Int) + ((Num.fst (l.drop k)).2.1 : Int), (Num.fst (l.drop k)).2.2) := by
 unfold tk; rw [if_neg (by omega), Int.toNat_natCast]
def Tk (r : Nat × Int × Nat) (w : World) (e : Ending) (w' : World) : Prop :=
 e = .returned (.tuple #[.int .i32 (r.1 : Int), .int .i64 r.2.1, .int .i64 (r.2.2 : Int)]) ∧ Below w.heap.size w w'
theorem Take_any (A : Option Addr) (c : Nat) (l : List UInt8) (at_ : Int) (w : World) (hL : Laid w) (hb : Bys w w.heap.size A l) (hl : l.length ≤ 140000000000) (hc : l.length ≤ c) :
 Calls Tryz.prog 184 #[.slice A l.length c, .int .i64 at_] w (Tk (tk l at_) w) := by
 by_cases h : at_ < 0 ∨ (l.length : Int) < at_
 · rw [tk_bad h]
   by_cases h1 : at_ < 0
   · clear h
     go_enter Tryz.func184, Tryz.ntmps184
     go_wp2_with fail
     go_ret3
     exact ⟨rfl, Below.refl _ _⟩
   · have h2 : (l.length : Int) < at_ := by omega
     clear h
     go_enter Tryz.func184, Tryz.ntmps184
     go_wp2_with fail
     go_ret3
     exact ⟨rfl, Below.refl _ _⟩
 · obtain ⟨k, rfl⟩ := Int.eq_ofNat_of_zero_le (a := at_) (by omega)
   have hk : k ≤ l.length := by omega
   have h1 : ¬ (l.length : Int) < (k : Int) := by omega
   have h2 : (0 : Int) ≤ (k : Int) := by omega
   have kl := hl
   have hcut := hb.cut k c hc
   have fa : ∀ A' n c', n = l.length - k → Bys w w.heap.size A' (l.drop k) → Calls Tryz.prog 174 #[.slice A' n c'] w (Fst (Num.fst (l.drop k)) w) := fun A' n c' hn hA => by
    have := first_any A' c' (l.drop k) w hL hA (by rw [List.length_drop]; omega)
    rw [List.length_drop, ← hn] at this
    exact this
   rw [tk_good hk]
   have err := Num.fst_err (l.drop k)
   rw [List.length_drop] at err
   obtain ⟨⟨x, n, er⟩, hr⟩ : ∃ r, r = Num.fst (l.drop k) := ⟨_, rfl⟩
   rw [← hr] at fa err ⊢
   have n0 : n ≤ 140000000000 := by
    rcases err with ⟨_, _, e, _⟩ | ⟨e, _⟩ | e <;> (simp only [Prod.mk.injEq] at e; omega)
   have FA := Lib.hid fa
   clear fa hr err h
   by_cases hck : c = k
   · subst hck
     rw [if_pos rfl] at hcut
     have HC := Lib.hid hcut
     clear hcut
     go_enter Tryz.func184, Tryz.ntmps184
     go_wp2_with fail
     with_reducible refine (FA.out _ _ _ (by omega) HC.out).mono ?_
     rintro e w1 ⟨rfl, h1⟩
     go_wp2_with fail
     go_ret3
     exact ⟨rfl, h1⟩
   · rw [if_neg hck] at hcut
     have HC := Lib.hid hcut
     clear hcut
     go_enter Tryz.func184, Tryz.ntmps184
     go_wp2_with fail
     with_reducible refine (FA.out _ _ _ (by omega) HC.out).mono ?_
     rintro e w1 ⟨rfl, h1⟩
     go_wp2_with fail
     go_ret3
     exact ⟨rfl, h1⟩
end Go.Proofs.YthogheglddfniaaGreatDoor
namespace Go.Proofs.YthogheglddfniaaGreatDoor
open Go.ChangeShapes Go.WideShapes Go.ChangeAt Go.RowKit Mem
def MadeE (base : Nat) (l : List UInt8) (e : Int) (w : World) (x : Ending) (w' : World) : Prop := ∃ v, x = .returned (.tuple #[v, .int .i64 e]) ∧ Own w' base 5 v l ∧ Below base w w'
theorem Put_no (c : Int) (h : ¬ Num.isC c) (v : Value) (w : World) :
 Calls Tryz.prog 170 #[v, .int .i32 c] w fun e w' => e = .returned (.tuple #[v, .int .i64 2]) ∧ w = w' := by
 have nd := needed_any c
 rw [Num.need_0 h] at nd
 have ND := Lib.hid nd
 clear nd h
 go_enter Tryz.func170, Tryz.ntmps170
 go_wp2_with fail
 refine (ND.out _).mono ?_
 rintro e w' ⟨rfl, rfl⟩
 go_wp2_with fail
 go_ret2
 exact ⟨rfl, rfl⟩
def rest : Nat → Nat → List UInt8
 | 0, _ => []
 | m + 1, c => UInt8.ofNat (128 + c / 64 ^ m % 64) :: rest m c
theorem rest_go {d l : List UInt8} {m : Nat} {c : Int} {x : Int} (h : d ++ rest (m + 1) c.toNat = l) (h0 : 0 ≤ c) (hx : x = 128 + c / 64 ^ m % 64) : Hid (d ++ [UInt8.ofNat x.toNat] ++ rest m c.toNat = l) := by
 unfold Hid
 subst hx
 obtain ⟨k, rfl⟩ := Int.eq_ofNat_of_zero_le h0
 rw [← h, List.append_assoc, List.singleton_append, rest, Int.toNat_natCast]
 have e : ((k : Int) / 64 ^ m % 64) = ((k / 64 ^ m % 64 : Nat) : Int) := by simp
 rw [show (128 + (k : Int) / 64 ^ m % 64).toNat = 128 + k / 64 ^ m % 64 by rw [e]; omega]
theorem rest_len (m c : Nat) : (rest m c).length = m := by
 induction m with
 | zero => rfl
 | succ m ih => simp [rest, ih]
theorem at_i64 {a b : Int} (h : a = b) : Value.int .i64 a = .int .i64 b := by rw [h]
theorem Put_1 (c : Int) (hc : Num.isC c) (h0 : 0 ≤ c) (h1 : c ≤ 127) (base : Nat) (v : Value) (l : List UInt8) (w : World) (hL : Laid w) (hp : 5 < base) (hb : base ≤ w.heap.size) (hown : Own w base 5 v l) (hl : l.length ≤ 100000000) :
 Calls Tryz.prog 170 #[v, .int .i32 c] w (MadeE base (l ++ UInt8.ofNat (c).toNat :: rest 0 c.toNat) 0 w) := by
 have nd := needed_any c
 rw [show Num.need c = 1 by unfold Num.isC at hc; have := need_is c; omega] at nd
 have mk := hL.2 1 (by omega)
 rw [show Num.mark 1 = 0 from rfl] at mk
 have ND := Lib.hid nd
 have LEAD := Lib.hid (Num.lead_1 (q := c) (by omega) (by omega))
 clear nd hc
 go_enter Tryz.func170, Tryz.ntmps170
 go_wp2_with fail
 refine (ND.out _).mono ?_
 rintro e w' ⟨rfl, rfl⟩
 go_wp2_with fail
 go_region_held_law (fun w' => w'.cell? ⟨5, 1, none⟩ = some (.int .u8 0)) (first | exact mk | exact (hL.alloc _).drew.2 1 (by omega) | assumption) (first | (refine step_app1 _ byteT (by rfl) (some 26) rfl (.tmp 16) (.tmp 25) rfl base _ l rfl hown 1 _ (by have := LEAD.out; first | omega | (rw [this]; omega)) (by have := LEAD.out; first | omega | (rw [this]; omega)) rfl (by omega) hb ?_; intro v2 w2 o2 h2; have m2 := (h2.cell (p := ⟨5, 1, none⟩) (by show 5 < base; omega)).trans mk))
 all_goals
  rename_i hHeld
  rw [LEAD.out] at o2
  clear m2 hHeld
  obtain ⟨LL, hLL⟩ : ∃ LL, LL = l ++ UInt8.ofNat (c).toNat :: rest 0 c.toNat := ⟨_, rfl⟩
  have len : LL.length ≤ 100000004 := by rw [hLL, List.length_append, List.length_cons, rest_len]; omega
  rw [← hLL]
  have start : Hid (l ++ [UInt8.ofNat (c).toNat] ++ rest 0 c.toNat = LL) := by unfold Hid; rw [hLL, List.append_assoc, List.singleton_append]
  have HLL := Lib.hid hLL
  clear hLL
  generalize bits BinOp.or IntKind.u8 0 (IntKind.u8.wrap c) = zz
  generalize IntKind.u8.wrap c = zw
  go_wp2_with fail
  go_loopw [0, 7] (fun sv f wr => ∃ (m : Nat) (d : List UInt8), m ≤ 0 ∧ f = .int .i64 (6 * (m : Int)) ∧ Own wr base 5 sv d ∧ Hid (d ++ rest m c.toNat = LL) ∧ Below base w wr) (fun _ f _ => (intOf f).toNat)
  case atStart => exact ⟨0, _, by omega, at_i64 (by omega), o2, start, h2⟩
  case round =>
   obtain ⟨m, d, m3, rfl, go, ge, gb⟩ := hrel
   clear o2 h2 start
   have gsz : base ≤ wr.heap.size := by have := gb.size; omega
   have gl : d.length ≤ 100000004 := by have := congrArg List.length ge.out; simp at this; omega
   obtain rfl : m = 0 := by omega
   · go_wp2_with fail
     go_ret2
     exact ⟨_, rfl, by have := ge.out; rw [rest, List.append_nil] at this; rw [← HLL.out, ← this]; exact go, gb⟩
theorem Put_2 (c : Int) (hc : Num.isC c) (h0 : 128 ≤ c) (h1 : c ≤ 2047) (base : Nat) (v : Value) (l : List UInt8) (w : World) (hL : Laid w) (hp : 5 < base) (hb : base ≤ w.heap.size) (hown : Own w base 5 v l) (hl : l.length ≤ 100000000) :
 Calls Tryz.prog 170 #[v, .int .i32 c] w (MadeE base (l ++ UInt8.ofNat (192 + c / 64).toNat :: rest 1 c.toNat) 0 w) := by
 have nd := needed_any c
 rw [show Num.need c = 2 by unfold Num.isC at hc; have := need_is c; omega] at nd
 have mk := hL.2 2 (by omega)
 rw [show Num.mark 2 = 192 from rfl] at mk
 have ND := Lib.hid nd
 have LEAD := Lib.hid (Num.lead_2 (q := c / 64) (by omega) (by omega))
 clear nd hc
 go_enter Tryz.func170, Tryz.ntmps170
 go_wp2_with fail
 refine (ND.out _).mono ?_
 rintro e w' ⟨rfl, rfl⟩
 go_wp2_with fail
 go_region_held_law (fun w' => w'.cell? ⟨5, 2, none⟩ = some (.int .u8 192)) (first | exact mk | exact (hL.alloc _).drew.2 2 (by omega) | assumption) (first | (refine step_app1 _ byteT (by rfl) (some 26) rfl (.tmp 16) (.tmp 25) rfl base _ l rfl hown 1 _ (by have := LEAD.out; first | omega | (rw [this]; omega)) (by have := LEAD.out; first | omega | (rw [this]; omega)) rfl (by omega) hb ?_; intro v2 w2 o2 h2; have m2 := (h2.cell (p := ⟨5, 2, none⟩) (by show 5 < base; omega)).trans mk))
 all_goals
  rename_i hHeld
  rw [LEAD.out] at o2
  clear m2 hHeld
  obtain ⟨LL, hLL⟩ : ∃ LL, LL = l ++ UInt8.ofNat (192 + c / 64).toNat :: rest 1 c.toNat := ⟨_, rfl⟩
  have len : LL.length ≤ 100000004 := by rw [hLL, List.length_append, List.length_cons, rest_len]; omega
  rw [← hLL]
  have start : Hid (l ++ [UInt8.ofNat (192 + c / 64).toNat] ++ rest 1 c.toNat = LL) := by unfold Hid; rw [hLL, List.append_assoc, List.singleton_append]
  have HLL := Lib.hid hLL
  clear hLL
  generalize bits BinOp.or IntKind.u8 192 (IntKind.u8.wrap (c / 64)) = zz
  generalize IntKind.u8.wrap (c / 64) = zw
  go_wp2_with fail
  go_loopw [0, 7] (fun sv f wr => ∃ (m : Nat) (d : List UInt8), m ≤ 1 ∧ f = .int .i64 (6 * (m : Int)) ∧ Own wr base 5 sv d ∧ Hid (d ++ rest m c.toNat = LL) ∧ Below base w wr) (fun _ f _ => (intOf f).toNat)
  case atStart => exact ⟨1, _, by omega, at_i64 (by omega), o2, start, h2⟩
  case round =>
   obtain ⟨m, d, m3, rfl, go, ge, gb⟩ := hrel
   clear o2 h2 start
   have gsz : base ≤ wr.heap.size := by have := gb.size; omega
   have gl : d.length ≤ 100000004 := by have := congrArg List.length ge.out; simp at this; omega
   obtain rfl | rfl : m = 0 ∨ m = 1 := by omega
   · go_wp2_with fail
     go_ret2
     exact ⟨_, rfl, by have := ge.out; rw [rest, List.append_nil] at this; rw [← HLL.out, ← this]; exact go, gb⟩
   · have t8 := Lib.hid (Num.tail_8 (c))
     go_wp2_with (at_builtin; refine wpList_app1 _ byteT rfl (.tmp 31) (.tmp 38) rfl base _ d rfl go 1 _ (by have := t8.out; first | omega | (rw [this]; omega)) (by have := t8.out; first | omega | (rw [this]; omega)) rfl (by omega) gsz ?_; intro v' w1 hown1 hb1)
     go_roundw
     case rel => exact ⟨0, _, by omega, at_i64 (by omega), hown1, rest_go ge.out (by omega) (by have := t8.out; first | omega | (rw [this]; omega)), gb.trans hb1⟩
     case measure => simp [intOf]
theorem Put_3 (c : Int) (hc : Num.isC c) (h0 : 2048 ≤ c) (h1 : c ≤ 65535) (base : Nat) (v : Value) (l : List UInt8) (w : World) (hL : Laid w) (hp : 5 < base) (hb : base ≤ w.heap.size) (hown : Own w base 5 v l) (hl : l.length ≤ 100000000) :
 Calls Tryz.prog 170 #[v, .int .i32 c] w (MadeE base (l ++ UInt8.ofNat (224 + c / 4096).toNat :: rest 2 c.toNat) 0 w) := by
 have nd := needed_any c
 rw [show Num.need c = 3 by unfold Num.isC at hc; have := need_is c; omega] at nd
 have mk := hL.2 3 (by omega)
 rw [show Num.mark 3 = 224 from rfl] at mk
 have ND := Lib.hid nd
 have LEAD := Lib.hid (Num.lead_3 (q := c / 4096) (by omega) (by omega))
 clear nd hc
 go_enter Tryz.func170, Tryz.ntmps170
 go_wp2_with fail
 refine (ND.out _).mono ?_
 rintro e w' ⟨rfl, rfl⟩
 go_wp2_with fail
 go_region_held_law (fun w' => w'.cell? ⟨5, 3, none⟩ = some (.int .u8 224)) (first | exact mk | exact (hL.alloc _).drew.2 3 (by omega) | assumption) (first | (refine step_app1 _ byteT (by rfl) (some 26) rfl (.tmp 16) (.tmp 25) rfl base _ l rfl hown 1 _ (by have := LEAD.out; first | omega | (rw [this]; omega)) (by have := LEAD.out; first | omega | (rw [this]; omega)) rfl (by omega) hb ?_; intro v2 w2 o2 h2; have m2 := (h2.cell (p := ⟨5, 3, none⟩) (by show 5 < base; omega)).trans mk))
 all_goals
  rename_i hHeld
  rw [LEAD.out] at o2
  clear m2 hHeld
  obtain ⟨LL, hLL⟩ : ∃ LL, LL = l ++ UInt8.ofNat (224 + c / 4096).toNat :: rest 2 c.toNat := ⟨_, rfl⟩
  have len : LL.length ≤ 100000004 := by rw [hLL, List.length_append, List.length_cons, rest_len]; omega
  rw [← hLL]
  have start : Hid (l ++ [UInt8.ofNat (224 + c / 4096).toNat] ++ rest 2 c.toNat = LL) := by unfold Hid; rw [hLL, List.append_assoc, List.singleton_append]
  have HLL := Lib.hid hLL
  clear hLL
  generalize bits BinOp.or IntKind.u8 224 (IntKind.u8.wrap (c / 4096)) = zz
  generalize IntKind.u8.wrap (c / 4096) = zw
  go_wp2_with fail
  go_loopw [0, 7] (fun sv f wr => ∃ (m : Nat) (d : List UInt8), m ≤ 2 ∧ f = .int .i64 (6 * (m : Int)) ∧ Own wr base 5 sv d ∧ Hid (d ++ rest m c.toNat = LL) ∧ Below base w wr) (fun _ f _ => (intOf f).toNat)
  case atStart => exact ⟨2, _, by omega, at_i64 (by omega), o2, start, h2⟩
  case round =>
   obtain ⟨m, d, m3, rfl, go, ge, gb⟩ := hrel
   clear o2 h2 start
   have gsz : base ≤ wr.heap.size := by have := gb.size; omega
   have gl : d.length ≤ 100000004 := by have := congrArg List.length ge.out; simp at this; omega
   obtain rfl | rfl | rfl : m = 0 ∨ m = 1 ∨ m = 2 := by omega
   · go_wp2_with fail
     go_ret2
     exact ⟨_, rfl, by have := ge.out; rw [rest, List.append_nil] at this; rw [← HLL.out, ← this]; exact go, gb⟩
   · have t8 := Lib.hid (Num.tail_8 (c))
     go_wp2_with (at_builtin; refine wpList_app1 _ byteT rfl (.tmp 31) (.tmp 38) rfl base _ d rfl go 1 _ (by have := t8.out; first | omega | (rw [this]; omega)) (by have := t8.out; first | omega | (rw [this]; omega)) rfl (by omega) gsz ?_; intro v' w1 hown1 hb1)
     go_roundw
     case rel => exact ⟨0, _, by omega, at_i64 (by omega), hown1, rest_go ge.out (by omega) (by have := t8.out; first | omega | (rw [this]; omega)), gb.trans hb1⟩
     case measure => simp [intOf]
   · have t8 := Lib.hid (Num.tail_8 (c / 64))
     go_wp2_with (at_builtin; refine wpList_app1 _ byteT rfl (.tmp 31) (.tmp 38) rfl base _ d rfl go 1 _ (by have := t8.out; first | omega | (rw [this]; omega)) (by have := t8.out; first | omega | (rw [this]; omega)) rfl (by omega) gsz ?_; intro v' w1 hown1 hb1)
     go_roundw
     case rel => exact ⟨1, _, by omega, at_i64 (by omega), hown1, rest_go ge.out (by omega) (by have := t8.out; first | omega | (rw [this]; omega)), gb.trans hb1⟩
     case measure => simp [intOf]
theorem Put_4 (c : Int) (hc : Num.isC c) (h0 : 65536 ≤ c) (h1 : c ≤ 1114111) (base : Nat) (v : Value) (l : List UInt8) (w : World) (hL : Laid w) (hp : 5 < base) (hb : base ≤ w.heap.size) (hown : Own w base 5 v l) (hl : l.length ≤ 100000000) :
 Calls Tryz.prog 170 #[v, .int .i32 c] w (MadeE base (l ++ UInt8.ofNat (240 + c / 262144).toNat :: rest 3 c.toNat) 0 w) := by
 have nd := needed_any c
 rw [show Num.need c = 4 by unfold Num.isC at hc; have := need_is c; omega] at nd
 have mk := hL.2 4 (by omega)
 rw [show Num.mark 4 = 240 from rfl] at mk
 have ND := Lib.hid nd
 have LEAD := Lib.hid (Num.lead_4 (q := c / 262144) (by omega) (by omega))
 clear nd hc
 go_enter Tryz.func170, Tryz.ntmps170
 go_wp2_with fail
 refine (ND.out _).mono ?_
 rintro e w' ⟨rfl, rfl⟩
 go_wp2_with fail
 go_region_held_law (fun w' => w'.cell? ⟨5, 4, none⟩ = some (.int .u8 240)) (first | exact mk | exact (hL.alloc _).drew.2 4 (by omega) | assumption) (first | (refine step_app1 _ byteT (by rfl) (some 26) rfl (.tmp 16) (.tmp 25) rfl base _ l rfl hown 1 _ (by have := LEAD.out; first | omega | (rw [this]; omega)) (by have := LEAD.out; first | omega | (rw [this]; omega)) rfl (by omega) hb ?_; intro v2 w2 o2 h2; have m2 := (h2.cell (p := ⟨5, 4, none⟩) (by show 5 < base; omega)).trans mk))
 all_goals
  rename_i hHeld
  rw [LEAD.out] at o2
  clear m2 hHeld
  obtain ⟨LL, hLL⟩ : ∃ LL, LL = l ++ UInt8.ofNat (240 + c / 262144).toNat :: rest 3 c.toNat := ⟨_, rfl⟩
  have len : LL.length ≤ 100000004 := by rw [hLL, List.length_append, List.length_cons, rest_len]; omega
  rw [← hLL]
  have start : Hid (l ++ [UInt8.ofNat (240 + c / 262144).toNat] ++ rest 3 c.toNat = LL) := by unfold Hid; rw [hLL, List.append_assoc, List.singleton_append]
  have HLL := Lib.hid hLL
  clear hLL
  generalize bits BinOp.or IntKind.u8 240 (IntKind.u8.wrap (c / 262144)) = zz
  generalize IntKind.u8.wrap (c / 262144) = zw
  go_wp2_with fail
  go_loopw [0, 7] (fun sv f wr => ∃ (m : Nat) (d : List UInt8), m ≤ 3 ∧ f = .int .i64 (6 * (m : Int)) ∧ Own wr base 5 sv d ∧ Hid (d ++ rest m c.toNat = LL) ∧ Below base w wr) (fun _ f _ => (intOf f).toNat)
  case atStart => exact ⟨3, _, by omega, at_i64 (by omega), o2, start, h2⟩
  case round =>
   obtain ⟨m, d, m3, rfl, go, ge, gb⟩ := hrel
   clear o2 h2 start
   have gsz : base ≤ wr.heap.size := by have := gb.size; omega
   have gl : d.length ≤ 100000004 := by have := congrArg List.length ge.out; simp at this; omega
   obtain rfl | rfl | rfl | rfl : m = 0 ∨ m = 1 ∨ m = 2 ∨ m = 3 := by omega
   · go_wp2_with fail
     go_ret2
     exact ⟨_, rfl, by have := ge.out; rw [rest, List.append_nil] at this; rw [← HLL.out, ← this]; exact go, gb⟩
   · have t8 := Lib.hid (Num.tail_8 (c))
     go_wp2_with (at_builtin; refine wpList_app1 _ byteT rfl (.tmp 31) (.tmp 38) rfl base _ d rfl go 1 _ (by have := t8.out; first | omega | (rw [this]; omega)) (by have := t8.out; first | omega | (rw [this]; omega)) rfl (by omega) gsz ?_; intro v' w1 hown1 hb1)
     go_roundw
     case rel => exact ⟨0, _, by omega, at_i64 (by omega), hown1, rest_go ge.out (by omega) (by have := t8.out; first | omega | (rw [this]; omega)), gb.trans hb1⟩
     case measure => simp [intOf]
   · have t8 := Lib.hid (Num.tail_8 (c / 64))
     go_wp2_with (at_builtin; refine wpList_app1 _ byteT rfl (.tmp 31) (.tmp 38) rfl base _ d rfl go 1 _ (by have := t8.out; first | omega | (rw [this]; omega)) (by have := t8.out; first | omega | (rw [this]; omega)) rfl (by omega) gsz ?_; intro v' w1 hown1 hb1)
     go_roundw
     case rel => exact ⟨1, _, by omega, at_i64 (by omega), hown1, rest_go ge.out (by omega) (by have := t8.out; first | omega | (rw [this]; omega)), gb.trans hb1⟩
     case measure => simp [intOf]
   · have t8 := Lib.hid (Num.tail_8 (c / 4096))
     go_wp2_with (at_builtin; refine wpList_app1 _ byteT rfl (.tmp 31) (.tmp 38) rfl base _ d rfl go 1 _ (by have := t8.out; first | omega | (rw [this]; omega)) (by have := t8.out; first | omega | (rw [this]; omega)) rfl (by omega) gsz ?_; intro v' w1 hown1 hb1)
     go_roundw
     case rel => exact ⟨2, _, by omega, at_i64 (by omega), hown1, rest_go ge.out (by omega) (by have := t8.out; first | omega | (rw [this]; omega)), gb.trans hb1⟩
     case measure => simp [intOf]
end Go.Proofs.YthogheglddfniaaGreatDoor
namespace Go.Proofs.YthogheglddfniaaGreatDoor
open Go.ChangeShapes Go.WideShapes Go.ChangeAt Go.RowKit Mem
theorem Put_any (c : Int) (hc : Num.isC c) (base : Nat) (v : Value) (l : List UInt8) (w : World) (hL : Laid w) (hp : 5 < base) (hb : base ≤ w.heap.size) (hown : Own w base 5 v l) (hl : l.length ≤ 100000000) :
 Calls Tryz.prog 170 #[v, .int .i32 c] w (MadeE base (l ++ Num.ue c.toNat) 0 w) := by
 have h := hc
 unfold Num.isC at h
 obtain ⟨k, rfl⟩ := Int.eq_ofNat_of_zero_le h.1
 rw [Int.toNat_natCast]
 by_cases h1 : k < 128
 · have := Put_1 (k : Int) hc (by omega) (by omega) base v l w hL hp hb hown hl
   rw [Num.ue_1 h1]
   simpa [rest] using this
 · by_cases h2 : k < 2048
   · have := Put_2 (k : Int) hc (by omega) (by omega) base v l w hL hp hb hown hl
     rw [Num.ue_2 (by omega) h2]
     rw [show (192 + (k : Int) / 64).toNat = 192 + k / 64 by omega] at this
     simpa [rest] using this
   · by_cases h3 : k < 65536
     · have := Put_3 (k : Int) hc (by omega) (by omega) base v l w hL hp hb hown hl
       rw [Num.ue_3 (by omega) h3]
       rw [show (224 + (k : Int) / 4096).toNat = 224 + k / 4096 by omega] at this
       simpa [rest] using this
     · have := Put_4 (k : Int) hc (by omega) (by omega) base v l w hL hp hb hown hl
       rw [Num.ue_4 (by omega)]
       rw [show (240 + (k : Int) / 262144).toNat = 240 + k / 262144 by omega] at this
       simpa [rest] using this
def Cnt (l : List UInt8) (w : World) (e : Ending) (w' : World) : Prop :=
 e = .returned (.tuple #[.int .i64 (((Num.cU l).getD 0 : Nat) : Int), .int .i64 (if (Num.cU l).isSome then 0 else 11)]) ∧ Below w.heap.size w w'
def Left (L D : List UInt8) (p k : Nat) : Prop := D = L.drop p ∧ p ≤ L.length ∧ k ≤ p ∧ Num.cU L = (Num.cU D).map (· + k)
theorem Left.done {L D : List UInt8} {p k : Nat} (h : Left L D p k) (hd : D = []) : Num.cU L = some k := by
 rw [h.2.2.2, hd, Num.cU_nil]; simp
theorem Left.bad {L D : List UInt8} {p k : Nat} (h : Left L D p k) (hd : D ≠ []) (he : (Num.fst D).2.2 ≠ 0) : Num.cU L = none := by
 rw [h.2.2.2, Num.cU_bad hd he]; rfl
theorem Left.go {L D : List UInt8} {p k c n : Nat} (h : Left L D p k) (he : Num.fst D = (c, n, 0)) (hn : 0 < n) (hn2 : n ≤ D.length) : Left L (D.drop n) (p + n) (k + 1) := by
 have len : D.length = L.length - p := by rw [h.1, List.length_drop]
 refine ⟨by rw [h.1, List.drop_drop], by have := h.2.1; omega, by have := h.2.2.1; omega, ?_⟩
 rw [h.2.2.2, Num.cU_go he, Option.map_map]
 congr 1
 funext j
 simp; omega
theorem Count_any (A : Option Addr) (c : Nat) (l : List UInt8) (w : World) (hL : Laid w) (hb : Bys w w.heap.size A l) (hl : l.length ≤ 140000000000) (hc : l.length ≤ c) :
 Calls Tryz.prog 155 #[.slice A l.length c] w (Cnt l w) := by
 have start : Left l l 0 0 := ⟨rfl, Nat.zero_le _, Nat.le_refl _, by simp⟩
 have START := Lib.hid start
 clear start
 go_enter Tryz.func155, Tryz.ntmps155
 go_wp2_with fail
 go_loopw [0, 4] (fun sv u wr => ∃ (p k n c' : Nat) (A' : Option Addr) (D : List UInt8), Hid (Left l D p k) ∧ Hid (n = D.length) ∧ n ≤ l.length ∧ k ≤ l.length ∧ n ≤ c' ∧ sv = .slice A' n c' ∧ u = .int .i64 (k : Int) ∧ Bys wr w.heap.size A' D ∧ Below w.heap.size w wr) (fun _ u _ => l.length - (intOf u).toNat)
 case atStart => exact ⟨0, 0, l.length, c, A, l, START, rfl, Nat.le_refl _, Nat.zero_le _, hc, rfl, rfl, hb, Below.refl _ _⟩
 case round =>
  obtain ⟨p, k, n, c', A', D, H, hn, nl, kl, nc, rfl, rfl, hy, hbl⟩ := hrel
  have hL0 := hL.1
  have hLr := hL.below hbl hL0
  have kp : k ≤ p ∧ p ≤ l.length ∧ n + p = l.length := by
   have h1 := H.out; have h2 := hn.out; rw [h1.1, List.length_drop] at h2; exact ⟨h1.2.2.1, h1.2.1, by have := h1.2.1; omega⟩
  by_cases h0 : n = 0
  · have Z := Lib.hid (H.out.done (List.length_eq_zero_iff.1 (by have := hn.out; omega)))
    subst h0
    go_wp2_with fail
    go_ret2
    exact ⟨by rw [Z.out]; rfl, hbl⟩
  · have n0 : 0 < n := by omega
    have fa := first_any A' c' D wr hLr (hy.more hbl.size) (by have := hn.out; omega)
    rw [← hn.out] at fa
    have err := Num.fst_err D
    rw [← hn.out] at err
    have hD : D ≠ [] := by intro e; have := hn.out; rw [e] at this; simp at this; omega
    obtain ⟨⟨x, m, er⟩, hr⟩ : ∃ r, r = Num.fst D := ⟨_, rfl⟩
    rw [← hr] at fa err
    have FA := Lib.hid fa
    by_cases he : er = 0
    · subst he
      have hm : 0 < m ∧ m ≤ n := by
       rcases err with ⟨_, _, e, h1, _, h2⟩ | ⟨e, _⟩ | e
       · simp only [Prod.mk.injEq] at e; omega
       · simp at e
       · simp at e
      obtain ⟨m0, m1⟩ := hm
      have GO := Lib.hid (H.out.go hr.symm m0 (by have := hn.out; omega))
      have hcut := hy.cut m c' (by have := hn.out; omega)
      have HN : Hid (n - m = (D.drop m).length) := by unfold Hid; rw [List.length_drop, ← hn.out]
      clear hr fa err hD h0 hn H
      by_cases hck : c' = m
      · rw [if_pos hck] at hcut
        have HC := Lib.hid hcut
        obtain rfl : n = m := by omega
        obtain rfl : c' = n := hck
        clear hcut
        go_wp2_with fail
        refine FA.out.mono ?_
        rintro e w1 ⟨rfl, h1⟩
        go_wp2_with fail
        go_roundw
        case rel => exact ⟨_, k + 1, 0, 0, _, _, GO, (by have := HN.out; unfold Hid; omega), by omega, by omega, by omega, rfl, by go_num, HC.out.below (h1.mono hbl.size), hbl.trans (h1.mono hbl.size)⟩
        case measure => simp [intOf]; omega
      · rw [if_neg hck] at hcut
        have HC := Lib.hid hcut
        clear hcut
        go_wp2_with fail
        refine FA.out.mono ?_
        rintro e w1 ⟨rfl, h1⟩
        go_wp2_with fail
        go_roundw
        case rel => exact ⟨_, k + 1, _, _, _, _, GO, HN, by omega, by omega, by omega, rfl, by go_num, HC.out.below (h1.mono hbl.size), hbl.trans (h1.mono hbl.size)⟩
        case measure => simp [intOf]; omega
    · have Z := Lib.hid (H.out.bad hD (by rw [← hr]; exact he))
      have q1 : ((er : Int) == 0) = false := by simp; omega
      have q2 : ((er : Int) != 0) = true := by simp; omega
      clear hr fa err hD h0 hn H he
      go_wp2_with fail
      refine FA.out.mono ?_
      rintro e w1 ⟨rfl, h1⟩
      go_wp2_with fail
      go_ret2
      exact ⟨by rw [Z.out]; rfl, hbl.trans (h1.mono hbl.size)⟩
def Rgt (l : List UInt8) (w : World) (e : Ending) (w' : World) : Prop := e = .returned (.bool (Num.cU l).isSome) ∧ Below w.heap.size w w'
theorem Right_any (A : Option Addr) (c : Nat) (l : List UInt8) (w : World) (hL : Laid w) (hb : Bys w w.heap.size A l) (hl : l.length ≤ 140000000000) (hc : l.length ≤ c) :
 Calls Tryz.prog 125 #[.slice A l.length c] w (Rgt l w) := by
 have ca := Count_any A c l w hL hb hl hc
 obtain ⟨o, ho⟩ : ∃ o, o = Num.cU l := ⟨_, rfl⟩
 unfold Cnt at ca
 unfold Rgt
 rw [← ho] at ca ⊢
 clear ho
 have CA := Lib.hid ca
 clear ca
 cases o with
 | none =>
  go_enter Tryz.func125, Tryz.ntmps125
  go_wp2_with fail
  refine CA.out.mono ?_
  rintro e w1 ⟨rfl, h1⟩
  go_wp2_with fail
  go_ret
  exact ⟨rfl, h1⟩
 | some n =>
  go_enter Tryz.func125, Tryz.ntmps125
  go_wp2_with fail
  refine CA.out.mono ?_
  rintro e w1 ⟨rfl, h1⟩
  go_wp2_with fail
  go_ret
  exact ⟨rfl, h1⟩
def Lays (l : List UInt8) (w : World) (e : Ending) (w' : World) : Prop := ∃ A, e = .returned (.slice A l.length l.length) ∧ Bys w' w'.heap.size A l ∧ Below w.heap.size w w'
def TxAt (D : List UInt8) (q : Nat) (d : List UInt8) : Prop := q ≤ D.length ∧ d.length ≤ q ∧ Jx.txt D = (Jx.txt (D.drop q)).map fun r => (d ++ r.1, q + r.2)
theorem txAt_start (D : List UInt8) : TxAt D 0 [] := ⟨Nat.zero_le _, Nat.le_refl _, by
 rw [List.drop_zero]
 cases Jx.txt D with
 | none => rfl
 | some r => simp⟩
theorem TxAt.bad {D d : List UInt8} {q : Nat} (h : TxAt D q d) (k : Jx.byt (D.drop q) 0 < 32) : Jx.txt D = none := by rw [h.2.2, Jx.txt_bad k]; rfl
theorem TxAt.done {D d : List UInt8} {q : Nat} (h : TxAt D q d) (k : Jx.byt (D.drop q) 0 = 34) : Jx.txt D = some (d, q + 1) := by rw [h.2.2, Jx.txt_end k]; simp
theorem TxAt.no {D d : List UInt8} {q : Nat} (h : TxAt D q d) (k : Jx.byt (D.drop q) 0 ≠ 34) (i : Jx.item (D.drop q) = none) : Jx.txt D = none := by rw [h.2.2, Jx.txt_no k i]; rfl
theorem TxAt.go {D d o : List UInt8} {q n : Nat} (h : TxAt D q d) (k0 : 32 ≤ Jx.byt (D.drop q) 0) (k : Jx.byt (D.drop q) 0 ≠ 34) (i : Jx.item (D.drop q) = some (o, n)) : TxAt D (q + n) (d ++ o) ∧ 1 ≤ n := by
 have hn := Jx.item_len i
 rw [List.length_drop] at hn
 refine ⟨⟨by have := h.1; omega, by have := h.2.1; simp; omega, ?_⟩, hn.1⟩
 rw [h.2.2, Jx.txt_go k0 k i, Option.map_map, List.drop_drop]
 congr 1
 funext r
 simp; omega
theorem item_plain {l : List UInt8} {c n : Nat} (h : Jx.byt l 0 ≠ 92) (e : Num.fst l = (c, n, 0)) : Jx.item l = some (l.take n, n) := by unfold Jx.item; rw [if_neg h, e]; rfl
theorem item_bad {l : List UInt8} (h : Jx.byt l 0 ≠ 92) (e : (Num.fst l).2.2 ≠ 0) : Jx.item l = none := by unfold Jx.item; rw [if_neg h, if_neg e]
theorem item_esc {l : List UInt8} {v : Nat} (h : Jx.byt l 0 = 92) (e : Jx.esc (Jx.byt l 1) = some v) : Jx.item l = some ([UInt8.ofNat v], 2) := by unfold Jx.item; rw [if_pos h, e]
theorem item_none {l : List UInt8} (h : Jx.byt l 0 = 92) (e : Jx.esc (Jx.byt l 1) = none) (k : Jx.byt l 1 ≠ 117) : Jx.item l = none := by unfold Jx.item; rw [if_pos h, e]; simp only; rw [if_neg k]
theorem item_u {l : List UInt8} (h : Jx.byt l 0 = 92) (k : Jx.byt l 1 = 117) : Jx.item l = Jx.uni (l.drop 2) := by
 unfold Jx.item; rw [if_pos h, k, show Jx.esc 117 = none from rfl]; simp only; rw [if_pos trivial]
theorem uni_pair {l : List UInt8} (h1 : 55296 ≤ Jx.four l) (h2 : Jx.four l ≤ 56319) (h3 : Jx.byt l 4 = 92) (h4 : Jx.byt l 5 = 117) (h5 : 56320 ≤ Jx.four (l.drop 6)) (h6 : Jx.four (l.drop 6) ≤ 57343) :
 Jx.uni l = some (Num.ue (pair (Jx.four l) (Jx.four (l.drop 6))).toNat, 12) := by
 unfold Jx.uni; rw [if_pos ⟨h1, h2, h3, h4⟩, if_pos ⟨h5, h6⟩, pair_ok h1 h2 h5 h6]
theorem uni_pair0 {l : List UInt8} (h1 : 55296 ≤ Jx.four l) (h2 : Jx.four l ≤ 56319) (h3 : Jx.byt l 4 = 92) (h4 : Jx.byt l 5 = 117) (h5 : ¬ (56320 ≤ Jx.four (l.drop 6) ∧ Jx.four (l.drop 6) ≤ 57343)) : Jx.uni l = none := by
 unfold Jx.uni; rw [if_pos ⟨h1, h2, h3, h4⟩, if_neg h5]
theorem uni_one {l : List UInt8} (h : Num.isC (Jx.four l)) : Jx.uni l = some (Num.ue (Jx.four l).toNat, 6) := by
 have h' := h
 unfold Num.isC at h'
 unfold Jx.uni; rw [if_neg (by omega), if_pos h]
theorem uni_none {l : List UInt8} (h : ¬ Num.isC (Jx.four l)) (k : ¬ (55296 ≤ Jx.four l ∧ Jx.four l ≤ 56319 ∧ Jx.byt l 4 = 92 ∧ Jx.byt l 5 = 117)) : Jx.uni l = none := by
 unfold Jx.uni; rw [if_neg k, if_neg h]
theorem esc_ways (c : Nat) : c = 34 ∨ c = 47 ∨ c = 92 ∨ c = 98 ∨ c = 102 ∨ c = 110 ∨ c = 114 ∨ c = 116 ∨ (Jx.esc c = none ∧ c ≠ 34 ∧ c ≠ 47 ∧ c ≠ 92 ∧ c ≠ 98 ∧ c ≠ 102 ∧ c ≠ 110 ∧ c ≠ 114 ∧ c ≠ 116) := by
 by_cases h : c = 34 ∨ c = 47 ∨ c = 92 ∨ c = 98 ∨ c = 102 ∨ c = 110 ∨ c = 114 ∨ c = 116
 · omega
 · refine .inr (.inr (.inr (.inr (.inr (.inr (.inr (.inr ⟨?_, by omega⟩)))))))
   unfold Jx.esc
   rw [if_neg (by omega), if_neg (by omega), if_neg (by omega), if_neg (by omega), if_neg (by omega), if_neg (by omega)]
theorem TxAt.at {D d : List UInt8} {q q' : Nat} (h : TxAt D q d) (e : q = q') : TxAt D q' d := e ▸ h
end Go.Proofs.YthogheglddfniaaGreatDoor
namespace Go.Proofs.YthogheglddfniaaGreatDoor.Jx
open Num
section
variable {l : List UInt8} {k q : Nat} (hq : q = k + cnt isW (l.drop k)) (hl : q < l.length)
include hq hl
theorem tak_p (h : punct (byt l q) ≠ 0) : tak l k = (⟨punct (byt l q), 0, [], 0 + q, 1 + q⟩, 0) := by
 have b : byt (l.drop q) 0 = byt l q := byt_drop l q 0
 have := word_p (l := l.drop q) (by rw [b]; exact h)
 rw [b] at this
 exact tak_word hq (by omega) this
theorem tak_t {s : List UInt8} {n : Nat} (h : byt l q = 34) (ht : txt (l.drop (q + 1)) = some (s, n)) : tak l k = (⟨10, 0, s, 0 + q, n + 1 + q⟩, 0) := by
 have b : byt (l.drop q) 0 = byt l q := byt_drop l q 0
 exact tak_word hq (by omega) (word_t (by rw [b]; exact h) (by rw [List.drop_drop]; exact ht))
theorem tak_n (h : byt l q = 45 ∨ isD (byt l q) = true) (hn : (num (l.drop q)).2.2 = 0) : tak l k = (⟨9, (num (l.drop q)).1, [], 0 + q, (num (l.drop q)).2.1 + q⟩, 0) := by
 have b : byt (l.drop q) 0 = byt l q := byt_drop l q 0
 exact tak_word hq (by omega) (by rw [word_n (by rw [b]; exact h), if_pos hn])
theorem tak_l (h : punct (byt l q) = 0) (h1 : byt l q ≠ 34) (h2 : ¬ (byt l q = 45 ∨ isD (byt l q) = true)) :
 tak l k = if named (l.drop q) sT = true then (⟨7, 1, [], 0 + q, 4 + q⟩, 0) else if named (l.drop q) sF = true then (⟨7, 0, [], 0 + q, 5 + q⟩, 0) else if named (l.drop q) sN = true then (⟨8, 0, [], 0 + q, 4 + q⟩, 0) else (Wd.zero, 20) := by
 have b : byt (l.drop q) 0 = byt l q := byt_drop l q 0
 have e := word_l (l := l.drop q) (by rw [b]; exact h) (by rw [b]; exact h1) (by rw [b]; exact h2)
 split at e
 · rename_i a; rw [if_pos a]; exact tak_word hq (by omega) e
 · rename_i a; rw [if_neg a]
   split at e
   · rename_i a; rw [if_pos a]; exact tak_word hq (by omega) e
   · rename_i a; rw [if_neg a]
     split at e
     · rename_i a; rw [if_pos a]; exact tak_word hq (by omega) e
     · rename_i a; rw [if_neg a]; exact tak_err hq (by omega) e (by decide)
end
theorem tak_e {l : List UInt8} {k q : Nat} (hq : q = k + cnt isW (l.drop k)) (h : q = l.length) : tak l k = (⟨11, 0, [], q, q⟩, 0) := by
 rw [tak_end (by omega), h]
def ones : List Nat := [123, 125, 91, 93, 58, 44]
end Go.Proofs.YthogheglddfniaaGreatDoor.Jx
namespace Go.Proofs.YthogheglddfniaaGreatDoor.Jx
open Num
def hexd : List UInt8 := [48, 49, 50, 51, 52, 53, 54, 55, 56, 57, 97, 98, 99, 100, 101, 102]
def qc (x : UInt8) : List UInt8 :=
 if x.toNat = 34 ∨ x.toNat = 92 then [92, x] else if x.toNat = 8 then [92, 98] else if x.toNat = 12 then [92, 102] else if x.toNat = 10 then [92, 110] else if x.toNat = 13 then [92, 114] else if x.toNat = 9 then [92, 116]
 else if x.toNat < 32 then [92, 117, 48, 48, hexd.getD (x.toNat / 16) 0, hexd.getD (x.toNat % 16) 0] else [x]
def qb (s : List UInt8) : List UInt8 := s.flatMap qc
def quo (s : List UInt8) : List UInt8 := 34 :: (qb s ++ [34])
theorem qb_nil : qb [] = [] := rfl
theorem qb_cons (x : UInt8) (s : List UInt8) : qb (x :: s) = qc x ++ qb s := rfl
theorem qb_app (s t : List UInt8) : qb (s ++ t) = qb s ++ qb t := by unfold qb; simp
theorem qc_len (x : UInt8) : 1 ≤ (qc x).length ∧ (qc x).length ≤ 6 := by
 unfold qc; split
 · simp
 · split
   · simp
   · split
     · simp
     · split
       · simp
       · split
         · simp
         · split
           · simp
           · split <;> simp
theorem qc_ways (x : UInt8) (c : Nat) (hc : c = x.toNat) :
 ((c = 34 ∨ c = 92) ∧ qc x = [92, x]) ∨ (c = 8 ∧ qc x = [92, 98]) ∨ (c = 12 ∧ qc x = [92, 102]) ∨ (c = 10 ∧ qc x = [92, 110]) ∨ (c = 13 ∧ qc x = [92, 114]) ∨ (c = 9 ∧ qc x = [92, 116]) ∨
 (c < 32 ∧ c ≠ 34 ∧ c ≠ 92 ∧ c ≠ 8 ∧ c ≠ 12 ∧ c ≠ 10 ∧ c ≠ 13 ∧ c ≠ 9 ∧ qc x = [92, 117, 48, 48, hexd.getD (c / 16) 0, hexd.getD (c % 16) 0]) ∨ (32 ≤ c ∧ c ≠ 34 ∧ c ≠ 92 ∧ qc x = [x]) := by
 subst hc
 unfold qc
 split
 · exact .inl ⟨by assumption, rfl⟩
 · split
   · exact .inr (.inl ⟨by assumption, rfl⟩)
   · split
     · exact .inr (.inr (.inl ⟨by assumption, rfl⟩))
     · split
       · exact .inr (.inr (.inr (.inl ⟨by assumption, rfl⟩)))
       · split
         · exact .inr (.inr (.inr (.inr (.inl ⟨by assumption, rfl⟩))))
         · split
           · exact .inr (.inr (.inr (.inr (.inr (.inl ⟨by assumption, rfl⟩)))))
           · split
             · exact .inr (.inr (.inr (.inr (.inr (.inr (.inl ⟨by assumption, by omega, by omega, by omega, by omega, by omega, by omega, by omega, rfl⟩))))))
             · exact .inr (.inr (.inr (.inr (.inr (.inr (.inr ⟨by omega, by omega, by omega, rfl⟩))))))
end Go.Proofs.YthogheglddfniaaGreatDoor.Jx
namespace Go.Proofs.YthogheglddfniaaGreatDoor.Jx
open Num
theorem qc_big {x : UInt8} (h : 128 ≤ x.toNat) : qc x = [x] := by
 rcases qc_ways x x.toNat rfl with ⟨a, _⟩ | ⟨a, _⟩ | ⟨a, _⟩ | ⟨a, _⟩ | ⟨a, _⟩ | ⟨a, _⟩ | ⟨a, _⟩ | ⟨_, _, _, e⟩
 all_goals first | exact e | omega
theorem qc_small {x : UInt8} (h : x.toNat < 128) : ∃ y r, qc x = y :: r ∧ y.toNat < 128 := by
 rcases qc_ways x x.toNat rfl with ⟨a, e⟩ | ⟨a, e⟩ | ⟨a, e⟩ | ⟨a, e⟩ | ⟨a, e⟩ | ⟨a, e⟩ | ⟨a, _, _, _, _, _, _, _, e⟩ | ⟨_, _, _, e⟩
 all_goals first | exact ⟨_, _, e, by decide⟩ | exact ⟨_, _, e, h⟩
theorem more_bad2 {k f t a s : Nat} {l : List UInt8} (hk : 0 < k) (hf : 128 ≤ f) (h : l = [] ∨ ∃ y r, l = y :: r ∧ y.toNat < 128) : (more k f t a s l).2.2 ≠ 0 := by
 rcases h with rfl | ⟨y, r, rfl, hy⟩
 · rw [more_nil hk]; decide
 · rw [more_bad hk (by omega)]; decide
theorem more_qb : ∀ (k f t a s : Nat) (l m : List UInt8), 128 ≤ f → (more k f t a s l).2.2 ≠ 0 → (more k f t a s (qb l ++ 34 :: m)).2.2 ≠ 0
 | 0, _, _, _, _, _, _, _, h => absurd rfl h
 | k + 1, f, t, a, s, [], m, hf, _ => more_bad2 (by omega) hf (.inr ⟨34, m, rfl, by decide⟩)
 | k + 1, f, t, a, s, y :: r, m, hf, h => by
  by_cases hy : y.toNat < 128
  · obtain ⟨z, q, e, hz⟩ := qc_small hy
    rw [qb_cons, e]
    exact more_bad2 (by omega) hf (.inr ⟨z, _, rfl, hz⟩)
  · rw [qb_cons, qc_big (by omega), List.singleton_append, List.cons_append]
    rw [more_cons] at h ⊢
    split at h
    · rename_i hb; rw [if_pos hb]; decide
    · rename_i hb; rw [if_neg hb]
      exact more_qb k 128 191 _ s r m (by omega) h
theorem fst_qb {x : UInt8} {r : List UInt8} (m : List UInt8) (hx : 128 ≤ x.toNat) (h : (fst (x :: r)).2.2 ≠ 0) : (fst (qb (x :: r) ++ 34 :: m)).2.2 ≠ 0 := by
 rw [qb_cons, qc_big hx, List.singleton_append, List.cons_append]
 rw [fst_cons] at h ⊢
 split at h
 · rename_i hb; rw [if_pos hb]; decide
 · rename_i hb; rw [if_neg hb]
   refine more_qb _ _ _ _ _ r m ?_ h
   have := lo_is x.toNat
   omega
theorem more_bigs : ∀ (k f t a s : Nat) (l : List UInt8) {c n : Nat}, 128 ≤ f → more k f t a s l = (c, n, 0) → n = s ∧ ∀ y ∈ l.take k, 128 ≤ y.toNat
 | 0, _, _, _, _, _, _, _, _, h => by
  simp only [more_zero, Prod.mk.injEq] at h
  exact ⟨h.2.1.symm, by simp⟩
 | k + 1, f, t, a, s, [], _, _, _, h => by rw [more_nil (by omega)] at h; simp at h
 | k + 1, f, t, a, s, y :: r, c, n, hf, h => by
  rw [more_cons] at h
  split at h
  · simp at h
  · rename_i hy
    have ih := more_bigs k 128 191 _ s r (by omega) h
    refine ⟨ih.1, ?_⟩
    rw [List.take_succ_cons]
    intro z hz
    rcases List.mem_cons.1 hz with e | e
    · subst e; omega
    · exact ih.2 z e
theorem fst_bigs {x : UInt8} {r : List UInt8} {c n : Nat} (hx : 128 ≤ x.toNat) (h : fst (x :: r) = (c, n, 0)) : ∀ y ∈ (x :: r).take n, 128 ≤ y.toNat := by
 rw [fst_cons] at h
 split at h
 · simp at h
 · rename_i ha
   have lo := lo_is x.toNat
   have m := more_bigs _ _ _ _ _ r (by omega) h
   obtain ⟨k, hk⟩ : ∃ k, Num.ask x.toNat = k + 1 := ⟨Num.ask x.toNat - 1, by omega⟩
   rw [m.1, hk, List.take_succ_cons]
   intro z hz
   rcases List.mem_cons.1 hz with e | e
   · subst e; exact hx
   · exact m.2 z (by rw [hk]; exact e)
theorem qb_bigs : ∀ (l : List UInt8), (∀ y ∈ l, 128 ≤ y.toNat) → qb l = l
 | [], _ => rfl
 | x :: r, h => by rw [qb_cons, qc_big (h x (by simp)), qb_bigs r (fun y hy => h y (by simp [hy]))]; rfl
theorem fst_one {x : UInt8} (r : List UInt8) (h : x.toNat < 128) : fst (x :: r) = (x.toNat, 1, 0) := by
 have a := ask_is x.toNat
 have e : Num.ask x.toNat = 1 := by omega
 rw [fst_cons, e, if_neg (by decide)]
 show more 0 _ _ _ _ _ = _
 rw [more_zero]
 show (x.toNat - 0, 1, 0) = _
 rw [Nat.sub_zero]
theorem of8s {x : UInt8} {n : Nat} (h : x.toNat = n) : [UInt8.ofNat n] = [x] := by rw [of8_eq h]
theorem item_qesc {x : UInt8} {n v : Nat} (t : List UInt8) (y : UInt8) (hy : y.toNat = n) (h : esc n = some v) (hv : x.toNat = v) : item (92 :: y :: t) = some ([x], 2) := by
 unfold item
 rw [if_pos (by rfl)]
 show (match esc y.toNat with | some v => some ([UInt8.ofNat v], 2) | none => _) = _
 rw [hy, h]
 simp only
 rw [of8s hv]
theorem hexd_at (n : Nat) (h : n < 16) : hex (hexd.getD n 0).toNat = (n : Int) := by
 obtain rfl | rfl | rfl | rfl | rfl | rfl | rfl | rfl | rfl | rfl | rfl | rfl | rfl | rfl | rfl | rfl : n = 0 ∨ n = 1 ∨ n = 2 ∨ n = 3 ∨ n = 4 ∨ n = 5 ∨ n = 6 ∨ n = 7 ∨ n = 8 ∨ n = 9 ∨ n = 10 ∨ n = 11 ∨ n = 12 ∨ n = 13 ∨ n = 14 ∨ n = 15 := by omega
 all_goals rfl
theorem item_qu {x : UInt8} (t : List UInt8) (h : x.toNat < 32) : item (92 :: 117 :: 48 :: 48 :: hexd.getD (x.toNat / 16) 0 :: hexd.getD (x.toNat % 16) 0 :: t) = some ([x], 6) := by
 have a := hexd_at (x.toNat / 16) (by omega)
 have b := hexd_at (x.toNat % 16) (by omega)
 have f : four (48 :: 48 :: hexd.getD (x.toNat / 16) 0 :: hexd.getD (x.toNat % 16) 0 :: t) = (x.toNat : Int) := by
  unfold four
  show (if hex 48 < 0 ∨ hex 48 < 0 ∨ hex (hexd.getD (x.toNat / 16) 0).toNat < 0 ∨ hex (hexd.getD (x.toNat % 16) 0).toNat < 0 then -1 else ((hex 48 * 16 + hex 48) * 16 + hex (hexd.getD (x.toNat / 16) 0).toNat) * 16 + hex (hexd.getD (x.toNat % 16) 0).toNat) = _
  rw [a, b, show hex 48 = 0 from rfl, if_neg (by omega)]
  omega
 unfold item
 rw [if_pos (by rfl)]
 show (match esc 117 with | some v => some ([UInt8.ofNat v], 2) | none => if (117 : Nat) = 117 then uni (48 :: 48 :: hexd.getD (x.toNat / 16) 0 :: hexd.getD (x.toNat % 16) 0 :: t) else none) = _
 rw [show esc 117 = none from rfl]
 simp only
 rw [if_pos trivial]
 unfold uni
 rw [f, if_neg (by omega), if_pos (by unfold isC; omega), Int.toNat_natCast, ue_1 (by omega), of8]
theorem item_qc {x : UInt8} (t : List UInt8) (h : x.toNat < 128) : item (qc x ++ t) = some ([x], (qc x).length) ∧ 32 ≤ byt (qc x ++ t) 0 ∧ byt (qc x ++ t) 0 ≠ 34 := by
 rcases qc_ways x x.toNat rfl with ⟨a, e⟩ | ⟨a, e⟩ | ⟨a, e⟩ | ⟨a, e⟩ | ⟨a, e⟩ | ⟨a, e⟩ | ⟨a, _, _, _, _, _, _, _, e⟩ | ⟨a, b, c, e⟩
 · rw [e]
   refine ⟨?_, by show 32 ≤ 92; omega, by show 92 ≠ 34; omega⟩
   rcases a with a | a
   · exact item_qesc t x a rfl a
   · exact item_qesc t x a rfl a
 · rw [e]; exact ⟨item_qesc t 98 rfl rfl a, by show 32 ≤ 92; omega, by show 92 ≠ 34; omega⟩
 · rw [e]; exact ⟨item_qesc t 102 rfl rfl a, by show 32 ≤ 92; omega, by show 92 ≠ 34; omega⟩
 · rw [e]; exact ⟨item_qesc t 110 rfl rfl a, by show 32 ≤ 92; omega, by show 92 ≠ 34; omega⟩
 · rw [e]; exact ⟨item_qesc t 114 rfl rfl a, by show 32 ≤ 92; omega, by show 92 ≠ 34; omega⟩
 · rw [e]; exact ⟨item_qesc t 116 rfl rfl a, by show 32 ≤ 92; omega, by show 92 ≠ 34; omega⟩
 · rw [e]; exact ⟨item_qu t a, by show 32 ≤ 92; omega, by show 92 ≠ 34; omega⟩
 · rw [e]
   refine ⟨?_, a, b⟩
   unfold item
   show (if x.toNat = 92 then _ else if (fst (x :: t)).2.2 = 0 then some ((x :: t).take (fst (x :: t)).2.1, (fst (x :: t)).2.1) else none) = _
   rw [if_neg c, fst_one t h]
   rfl
theorem txt_qb : ∀ (f : Nat) (s m : List UInt8), s.length < f → txt (qb s ++ 34 :: m) = if (cU s).isSome = true then some (s, (qb s).length + 1) else none
 | 0, _, _, h => absurd h (Nat.not_lt_zero _)
 | f + 1, [], m, _ => by
  rw [qb_nil, List.nil_append, txt_end (by rfl), cU_nil]; rfl
 | f + 1, x :: r, m, h => by
  by_cases hx : x.toNat < 128
  · obtain ⟨hi, h0, h1⟩ := item_qc (qb r ++ 34 :: m) hx
    rw [qb_cons, List.append_assoc, txt_go h0 h1 hi, List.drop_left, txt_qb f r m (by simpa using h), cU_go (fst_one r hx)]
    show Option.map _ _ = if (Option.map (· + 1) (cU r)).isSome = true then _ else _
    rw [Option.isSome_map]
    split
    · simp; omega
    · rfl
  · have b0 : byt (qb (x :: r) ++ 34 :: m) 0 = x.toNat := by rw [qb_cons, qc_big (by omega)]; rfl
    by_cases he : (fst (x :: r)).2.2 = 0
    · obtain ⟨c, n, e⟩ : ∃ c n, fst (x :: r) = (c, n, 0) := ⟨_, _, by rw [← he]⟩
      have hn : 0 < n ∧ n ≤ (x :: r).length := by
       rcases fst_err (x :: r) with ⟨_, _, e', h1, _, h2⟩ | ⟨e', _⟩ | e'
       · rw [e] at e'; simp only [Prod.mk.injEq] at e'; omega
       · rw [e] at e'; simp at e'
       · rw [e] at e'; simp at e'
      have bg := fst_bigs (by omega) e
      obtain ⟨u1, u2, _⟩ := ue_fst e
      have sp : (x :: r) = (x :: r).take n ++ (x :: r).drop n := (List.take_append_drop n _).symm
      have hl : ((x :: r).take n).length = n := by rw [List.length_take]; omega
      have q : qb (x :: r) = (x :: r).take n ++ qb ((x :: r).drop n) := by
       conv => lhs; rw [sp]
       rw [qb_app, qb_bigs _ bg]
      have e2 : fst (qb (x :: r) ++ 34 :: m) = (c, n, 0) := by
       rw [q, List.append_assoc, ← u2, fst_ue u1, u2, hl]
      have t2 : (qb (x :: r) ++ 34 :: m).take n = (x :: r).take n := by
       rw [q, List.append_assoc, List.take_append_of_le_length (by omega), List.take_of_length_le (by omega)]
      have hi : item (qb (x :: r) ++ 34 :: m) = some ((x :: r).take n, n) := by
       unfold item; rw [if_neg (by omega), e2, t2]; rfl
      have d2 : (qb (x :: r) ++ 34 :: m).drop n = qb ((x :: r).drop n) ++ 34 :: m := by
       rw [q, List.append_assoc, List.drop_append_of_le_length (by omega), List.drop_of_length_le (by omega), List.nil_append]
      rw [txt_go (by omega) (by omega) hi, d2, txt_qb f ((x :: r).drop n) m (by rw [List.length_drop]; simp at h hn ⊢; omega), cU_go e, Option.isSome_map]
      split
      · simp only [Option.map_some, Option.some.injEq, Prod.mk.injEq, List.take_append_drop, true_and]
        rw [q, List.length_append, hl]; omega
      · rfl
    · have hi : item (qb (x :: r) ++ 34 :: m) = none := by
       unfold item; rw [if_neg (by omega), if_neg (fst_qb m (by omega) he)]
      rw [txt_no (by omega) hi, cU_bad (by simp) he]; rfl
end Go.Proofs.YthogheglddfniaaGreatDoor.Jx
