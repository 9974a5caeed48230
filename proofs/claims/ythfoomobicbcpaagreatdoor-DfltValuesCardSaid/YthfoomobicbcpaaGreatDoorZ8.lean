/- Joined by tools/bundle.py: Utf UtfR JNum4 JTVal JGetC DC0 NamR NamC NShelf. -/
import Derived.Deep.RegionHeldLaw
import Derived.LoopN
import Derived.Lib.SlBytesConst
import Derived.Lib.SplitLaws
import Derived.Lib.LastIndexByte
import Derived.Shelf.Small.Strs
import Derived.Shelf.Utf8.RuneCount
import Derived.Shelf.LaysM
import Derived.Shelf.Strconv.Clone
import Derived.Shelf.Strings.Search1
import Derived.Shelf.Strings.Search2
import Derived.Shelf.Strings.Search3
import Derived.Shelf.Strings.Count
import Derived.Shelf.Strings.Shaped
import Derived.Shelf.Strings.LastIndex
import Derived.Shelf.Strings.Split
import Derived.Shelf.Strings.SplitShaped
import Derived.Shelf.Strings.RuneCount
import Derived.Shelf.Unicode.DecodeSlow
import Derived.Shelf.Unicode.DecodeAny
import Derived.Shelf.Slices.Equal
import Derived.Ground.Names2Prog
import Derived.Shelf.Slices.Clone
import Derived.Ground.SlgnProg
import Derived.Shelf.SlicesE.Clone
import Derived.Test.YthfoomobicbcpaaGreatDoorProg
import Derived.Test.YthfoomobicbcpaaGreatDoorZ1
import Derived.Test.YthfoomobicbcpaaGreatDoorZ2
import Derived.Test.YthfoomobicbcpaaGreatDoorZ4
import Derived.Test.YthfoomobicbcpaaGreatDoorZ5
import Derived.Test.YthfoomobicbcpaaGreatDoorZ7
import Derived.Test.YthfoomobicbcpaaGreatDoorZ0
set_option maxRecDepth 100000
set_option maxHeartbeats 16000000
namespace Go.Proofs.YthfoomobicbcpaaGreatDoor
open Go.ChangeShapes Go.WideShapes Go.ChangeAt Go.RowKit Mem
theorem asked_any (x : Nat) (h : x < 256) (w : World) : Calls Tryz.prog 204 #[.int .u8 (x : Int)] w fun e w' => e = .returned (.int .i64 (Num.ask x : Int)) ∧ w = w' := by
 have a := Num.ask_is x
 obtain ⟨k, hk⟩ : ∃ k, k = Num.ask x := ⟨_, rfl⟩
 rw [← hk] at a ⊢
 clear hk
 rcases a with ⟨rfl, a1 | ⟨a1, a2⟩⟩ | ⟨rfl, a1⟩ | ⟨rfl, a1, a2⟩ | ⟨rfl, a1, a2⟩ | ⟨rfl, a1, a2⟩
 all_goals
  go_enter Tryz.func204, Tryz.ntmps204
  go_wp2_with fail
  go_ret
  exact ⟨rfl, rfl⟩
theorem second_any (x : Nat) (w : World) : Calls Tryz.prog 205 #[.int .u8 (x : Int)] w fun e w' => e = .returned (.tuple #[.int .u8 (Num.lo x : Int), .int .u8 (Num.hi x : Int)]) ∧ w = w' := by
 by_cases h1 : x = 224
 · subst h1
   go_enter Tryz.func205, Tryz.ntmps205
   go_wp2_with fail
   go_ret2
   exact ⟨rfl, rfl⟩
 · by_cases h2 : x = 237
   · subst h2
     go_enter Tryz.func205, Tryz.ntmps205
     go_wp2_with fail
     go_ret2
     exact ⟨rfl, rfl⟩
   · by_cases h3 : x = 240
     · subst h3
       go_enter Tryz.func205, Tryz.ntmps205
       go_wp2_with fail
       go_ret2
       exact ⟨rfl, rfl⟩
     · by_cases h4 : x = 244
       · subst h4
         go_enter Tryz.func205, Tryz.ntmps205
         go_wp2_with fail
         go_ret2
         exact ⟨rfl, rfl⟩
       · have q1 : ((x : Int) == 224) = false := by simp; omega
         have q2 : ((x : Int) == 237) = false := by simp; omega
         have q3 : ((x : Int) == 240) = false := by simp; omega
         have q4 : ((x : Int) == 244) = false := by simp; omega
         have e1 : Num.lo x = 128 := by have := Num.lo_is x; omega
         have e2 : Num.hi x = 191 := by have := Num.hi_is x; omega
         rw [e1, e2]
         clear h1 h2 h3 h4 e1 e2
         go_enter Tryz.func205, Tryz.ntmps205
         go_wp2_with fail
         go_ret2
         exact ⟨rfl, rfl⟩
end Go.Proofs.YthfoomobicbcpaaGreatDoor
namespace Go.Proofs.YthfoomobicbcpaaGreatDoor
open Go.ChangeShapes Go.WideShapes Go.ChangeAt Go.RowKit Mem
def Fst (r : Nat × Nat × Nat) (w : World) (e : Ending) (w' : World) : Prop :=
 e = .returned (.tuple #[.int .i32 (r.1 : Int), .int .i64 (r.2.1 : Int), .int .i64 (r.2.2 : Int)]) ∧ Below w.heap.size w w'
def Gat (L : List UInt8) (s p f t a : Nat) : Prop := Num.fst L = Num.more (s - p) f t a s (L.drop p) ∧ ((p = 1 ∧ a < 128) ∨ (p = 2 ∧ a < 8192) ∨ (p = 3 ∧ a < 524288) ∨ (p = 4 ∧ a < 33554432))
theorem Gat.done {L : List UInt8} {s f t a : Nat} (h : Gat L s s f t a) : Num.fst L = (a, s, 0) := by
 have := h.1; rwa [Nat.sub_self, Num.more_zero] at this
theorem Gat.short {L : List UInt8} {s p f t a : Nat} (h : Gat L s p f t a) (hp : p < s) (hl : p = L.length) : Num.fst L = (0, 0, 10) := by rw [h.1]; exact Num.more_end (by omega) hl
theorem Gat.bad {L : List UInt8} {s p f t a X : Nat} (h : Gat L s p f t a) (hp : p < s) (hl : p < L.length) (hX : X = (L.getD p 0).toNat) (hy : X < f ∨ t < X) : Num.fst L = (0, 0, 11) := by
 rw [h.1]; exact Num.more_bad_at (by omega) hl hX hy
theorem Gat.go {L : List UInt8} {s p f t a X : Nat} (h : Gat L s p f t a) (hp : p < s) (hs : s ≤ 4) (hl : p < L.length) (hX : X = (L.getD p 0).toNat) (h1 : f ≤ X) (h2 : X ≤ t) (h3 : X - 128 < 64) : Gat L s (p + 1) 128 191 (a * 64 + (X - 128)) := by
 refine ⟨?_, ?_⟩
 · rw [h.1, Num.more_go_at (by omega) hl hX h1 h2, Nat.sub_sub]
 · have := h.2; omega
theorem Gat.lt {L : List UInt8} {s p f t a : Nat} (h : Gat L s p f t a) (hp : p < s) (hs : s ≤ 4) : a < 524288 := by have := h.2; omega
theorem gat_first {x : UInt8} {r : List UInt8} (h : Num.ask x.toNat ≠ 0) : Gat (x :: r) (Num.ask x.toNat) 1 (Num.lo x.toNat) (Num.hi x.toNat) (x.toNat - Num.mark (Num.ask x.toNat)) := by
 refine ⟨?_, ?_⟩
 · rw [Num.fst_cons, if_neg h]; rfl
 · have a := Num.ask_is x.toNat
   refine .inl ⟨rfl, ?_⟩
   rcases a with ⟨a, _⟩ | ⟨a, _⟩ | ⟨a, _⟩ | ⟨a, _⟩ | ⟨a, _⟩
   · omega
   · rw [a, show Num.mark 1 = 0 from rfl]; omega
   · rw [a, show Num.mark 2 = 192 from rfl]; omega
   · rw [a, show Num.mark 3 = 224 from rfl]; omega
   · rw [a, show Num.mark 4 = 240 from rfl]; omega
theorem first_any (A : Option Addr) (c : Nat) (l : List UInt8) (w : World) (hL : Laid w) (hb : Bys w w.heap.size A l) (hl : l.length ≤ 140000000000) :
 Calls Tryz.prog 178 #[.slice A l.length c] w (Fst (Num.fst l) w) := by
 cases l with
 | nil =>
  go_enter Tryz.func178, Tryz.ntmps178
  go_wp2_with fail
  go_ret3
  exact ⟨rfl, Below.refl _ _⟩
 | cons x r =>
  obtain ⟨b, off, rfl, hbB, hc⟩ : ∃ b off, A = some ⟨b, off, none⟩ ∧ b < w.heap.size ∧ ∀ k, k < (x :: r).length → w.cell? ⟨b, off + k, none⟩ = some (cel ((x :: r).getD k 0)) := by
   rcases hb with h | h
   · cases h
   · exact h
  have c0 := hc 0 (by simp)
  have lt := x.toNat_lt
  have gf := gat_first (x := x) (r := r)
  have z0 := fun h : Num.ask x.toNat = 0 => (by rw [Num.fst_cons, if_pos h] : Num.fst (x :: r) = (0, 0, 11))
  have ak := Num.ask_is x.toNat
  have lk := Num.lo_is x.toNat
  have hk := Num.hi_is x.toNat
  have mk : Num.mark (Num.ask x.toNat) ≤ x.toNat := by
   rcases ak with ⟨a, _⟩ | ⟨a, _⟩ | ⟨a, _⟩ | ⟨a, _⟩ | ⟨a, _⟩
   · rw [a, show Num.mark 0 = 0 from rfl]; omega
   · rw [a, show Num.mark 1 = 0 from rfl]; omega
   · rw [a, show Num.mark 2 = 192 from rfl]; omega
   · rw [a, show Num.mark 3 = 224 from rfl]; omega
   · rw [a, show Num.mark 4 = 240 from rfl]; omega
  have ask := asked_any x.toNat lt
  have sec := second_any x.toNat
  have lm := hL.2 (Num.ask x.toNat) (by omega)
  have len : 0 < (x :: r).length := by simp
  obtain ⟨L, hLL⟩ : ∃ L, L = x :: r := ⟨_, rfl⟩
  rw [← hLL] at hc c0 gf z0 hl len ⊢
  have e0 : L.getD 0 0 = x := by rw [hLL]; rfl
  rw [e0] at c0
  unfold cel at c0
  rw [Nat.add_zero] at c0
  clear hLL
  generalize x.toNat = X at *
  generalize Num.ask X = N at *
  generalize Num.mark N = M at *
  generalize Num.lo X = F at *
  generalize Num.hi X = T at *
  have N4 : N ≤ 4 := by omega
  have F1 : 128 ≤ F := by omega
  have F2 : F ≤ 160 := by omega
  have T1 : 143 ≤ T := by omega
  have T2 : T ≤ 191 := by omega
  have M1 : M ≤ X := by omega
  have HC := Lib.hid hc
  have ASK := Lib.hid ask
  have SEC := Lib.hid sec
  clear hc ask sec ak lk hk mk e0 hb
  by_cases h0 : N = 0
  · have Z := Lib.hid (z0 h0)
    subst h0
    clear z0 gf
    go_enter Tryz.func178, Tryz.ntmps178
    go_wp2_with fail
    refine (ASK.out _).mono ?_
    rintro e w' ⟨rfl, rfl⟩
    go_wp2_with fail
    go_ret3
    exact ⟨by rw [Z.out]; rfl, Below.refl _ _⟩
  · have G := Lib.hid (gf h0)
    have q0 : ((N : Int) == 0) = false := by simp; omega
    have i0 : (0 : Int) ≤ (N : Int) := by omega
    have i1 : (N : Int) < 5 := by omega
    have N1 : 1 ≤ N := by omega
    clear z0 gf h0
    go_enter Tryz.func178, Tryz.ntmps178
    go_wp2_with fail
    refine (ASK.out _).mono ?_
    rintro e w' ⟨rfl, rfl⟩
    go_wp2_with fail
    go_quiet (fail)
    go_wp2_with fail
    refine (SEC.out _).mono ?_
    rintro e w' ⟨rfl, rfl⟩
    go_wp2_with fail
    have xm : (X : Int) - (M : Int) = ((X - M : Nat) : Int) := by omega
    go_loop [2, 3, 5, 6, 7] (fun u s f t p => ∃ (p' f' t' a' : Nat), 1 ≤ p' ∧ p' ≤ N ∧ p' ≤ L.length ∧ f' ≤ 160 ∧ 128 ≤ f' ∧ t' ≤ 191 ∧ Hid (Gat L N p' f' t' a') ∧ u = .int .i32 (a' : Int) ∧ s = .int .i64 (N : Int) ∧ f = .int .u8 (f' : Int) ∧ t = .int .u8 (t' : Int) ∧ p = .int .i64 (p' : Int)) (fun _ _ _ _ p => N - (intOf p).toNat)
    case atStart => exact ⟨1, F, T, X - M, by omega, N1, len, F2, F1, T2, G, by rw [xm], rfl, rfl, rfl, rfl⟩
    case round =>
     obtain ⟨p, f, t, a, p1, pN, pL, f2, f1, t2, g, rfl, rfl, rfl, rfl, rfl⟩ := hrel
     clear xm
     by_cases hp : p = N
     · have Z := Lib.hid (Gat.done (hp ▸ g.out))
       have Lt : ¬ p < N := by omega
       clear hp
       go_wp2_with fail
       go_ret3
       exact ⟨by rw [Z.out]; rfl, bel_drewN (Below.refl _ _) nq⟩
     · have Lt : p < N := by omega
       by_cases hl2 : p = L.length
       · have Z := Lib.hid (Gat.short g.out (by omega) hl2)
         have q1 : ((p : Int) == (L.length : Int)) = true := by simp; omega
         clear hp hl2
         go_wp2_with fail
         go_ret3
         exact ⟨by rw [Z.out]; rfl, bel_drewN (Below.refl _ _) nq⟩
       · have pl : p < L.length := by omega
         have cp := HC.out p pl
         unfold cel at cp
         have lp := (L.getD p 0).toNat_lt
         have ag := Gat.lt g.out Lt N4
         have gb := Gat.bad g.out Lt pl rfl
         have gg := Gat.go g.out Lt N4 pl rfl
         generalize (L.getD p 0).toNat = Y at *
         by_cases hy : Y < f ∨ t < Y
         · have Z := Lib.hid (gb hy)
           clear gb gg hp hl2
           by_cases hy1 : Y < f
           · clear hy
             go_wp2_with fail
             go_ret3
             exact ⟨by rw [Z.out]; rfl, bel_drewN (Below.refl _ _) nq⟩
           · have hy2 : t < Y := by omega
             clear hy
             go_wp2_with fail
             go_ret3
             exact ⟨by rw [Z.out]; rfl, bel_drewN (Below.refl _ _) nq⟩
         · have y1 : ¬ Y < f := by omega
           have y2 : ¬ t < Y := by omega
           have GG := Lib.hid (gg (by omega) (by omega) (by omega))
           have y3 : (128 : Int) ≤ (Y : Int) := by omega
           clear gb gg hp hl2 hy
           go_wp2_with fail
           go_round
           case rel => exact ⟨p + 1, 128, 191, a * 64 + (Y - 128), by omega, by omega, by omega, by omega, by omega, by omega, GG, by congr 1; omega, rfl, rfl, rfl, by go_num⟩
           case measure => simp [intOf]; omega
def tk (l : List UInt8) (at_ : Int) : Nat × Int × Nat :=
 if at_ < 0 ∨ (l.length : Int) < at_ then (0, at_, 2)
 else ((Num.fst (l.drop at_.toNat)).1, at_ + ((Num.fst (l.drop at_.toNat)).2.1 : Int), (Num.fst (l.drop at_.toNat)).2.2)
theorem tk_bad {l : List UInt8} {at_ : Int} (h : at_ < 0 ∨ (l.length : Int) < at_) : tk l at_ = (0, at_, 2) := by unfold tk; rw [if_pos h]
theorem tk_good {l : List UInt8} {k : Nat} (h : k ≤ l.length) : tk l (k : Int) = ((Num.fst (l.drop k)).1, (k : Int) + ((Num.fst (l.drop k)).2.1 : Int), (Num.fst (l.drop k)).2.2) := by
 unfold tk; rw [if_neg (by omega), Int.toNat_natCast]
def Tk (r : Nat × Int × Nat) (w : World) (e : Ending) (w' : World) : Prop :=
 e = .returned (.tuple #[.int .i32 (r.1 : Int), .int .i64 r.2.1, .int .i64 (r.2.2 : Int)]) ∧ Below w.heap.size w w'
theorem Take_any (A : Option Addr) (c : Nat) (l : List UInt8) (at_ : Int) (w : World) (hL : Laid w) (hb : Bys w w.heap.size A l) (hl : l.length ≤ 140000000000) (hc : l.length ≤ c) :
 Calls Tryz.prog 200 #[.slice A l.length c, .int .i64 at_] w (Tk (tk l at_) w) := by
 by_cases h : at_ < 0 ∨ (l.length : Int) < at_
 · rw [tk_bad h]
   by_cases h1 : at_ < 0
   · clear h
     go_enter Tryz.func200, Tryz.ntmps200
     go_wp2_with fail
     go_ret3
     exact ⟨rfl, Below.refl _ _⟩
   · have h2 : (l.length : Int) < at_ := by omega
     clear h
     go_enter Tryz.func200, Tryz.ntmps200
     go_wp2_with fail
     go_ret3
     exact ⟨rfl, Below.refl _ _⟩
 · obtain ⟨k, rfl⟩ := Int.eq_ofNat_of_zero_le (a := at_) (by omega)
   have hk : k ≤ l.length := by omega
   have h1 : ¬ (l.length : Int) < (k : Int) := by omega
   have h2 : (0 : Int) ≤ (k : Int) := by omega
   have kl := hl
   have hcut := hb.cut k c hc
   have fa : ∀ A' n c', n = l.length - k → Bys w w.heap.size A' (l.drop k) → Calls Tryz.prog 178 #[.slice A' n c'] w (Fst (Num.fst (l.drop k)) w) := fun A' n c' hn hA => by
    have := first_any A' c' (l.drop k) w hL hA (by rw [List.length_drop]; omega)
    rw [List.length_drop, ← hn] at this
    exact this
   rw [tk_good hk]
   have err := Num.fst_err (l.drop k)
   rw [List.length_drop] at err
   obtain ⟨⟨x, n, er⟩, hr⟩ : ∃ r, r = Num.fst (l.drop k) := ⟨_, rfl⟩
   rw [← hr] at fa err ⊢
   have n0 : n ≤ 140000000000 := by
    rcases err with ⟨_, _, e, _⟩ | ⟨e, _⟩ | e <;> (simp only [Prod.mk.injEq] at e; omega)
   have FA := Lib.hid fa
   clear fa hr err h
   by_cases hck : c = k
   · subst hck
     rw [if_pos rfl] at hcut
     have HC := Lib.hid hcut
     clear hcut
     go_enter Tryz.func200, Tryz.ntmps200
     go_wp2_with fail
     with_reducible refine (FA.out _ _ _ (by omega) HC.out).mono ?_
     rintro e w1 ⟨rfl, h1⟩
     go_wp2_with fail
     go_ret3
     exact ⟨rfl, h1⟩
   · rw [if_neg hck] at hcut
     have HC := Lib.hid hcut
     clear hcut
     go_enter Tryz.func200, Tryz.ntmps200
     go_wp2_with fail
     with_reducible refine (FA.out _ _ _ (by omega) HC.out).mono ?_
     rintro e w1 ⟨rfl, h1⟩
     go_wp2_with fail
     go_ret3
     exact ⟨rfl, h1⟩
end Go.Proofs.YthfoomobicbcpaaGreatDoor
namespace Go.Proofs.YthfoomobicbcpaaGreatDoor
open Go.ChangeShapes Go.WideShapes Go.ChangeAt Go.RowKit Mem
def rest : Nat → Nat → List UInt8
 | 0, _ => []
 | m + 1, c => UInt8.ofNat (128 + c / 64 ^ m % 64) :: rest m c
end Go.Proofs.YthfoomobicbcpaaGreatDoor
namespace Go.Proofs.YthfoomobicbcpaaGreatDoor
open Go.ChangeShapes Go.WideShapes Go.ChangeAt Go.RowKit Mem
def Cnt (l : List UInt8) (w : World) (e : Ending) (w' : World) : Prop :=
 e = .returned (.tuple #[.int .i64 (((Num.cU l).getD 0 : Nat) : Int), .int .i64 (if (Num.cU l).isSome then 0 else 11)]) ∧ Below w.heap.size w w'
def Left (L D : List UInt8) (p k : Nat) : Prop := D = L.drop p ∧ p ≤ L.length ∧ k ≤ p ∧ Num.cU L = (Num.cU D).map (· + k)
theorem Left.done {L D : List UInt8} {p k : Nat} (h : Left L D p k) (hd : D = []) : Num.cU L = some k := by
 rw [h.2.2.2, hd, Num.cU_nil]; simp
theorem Left.bad {L D : List UInt8} {p k : Nat} (h : Left L D p k) (hd : D ≠ []) (he : (Num.fst D).2.2 ≠ 0) : Num.cU L = none := by
 rw [h.2.2.2, Num.cU_bad hd he]; rfl
theorem Left.go {L D : List UInt8} {p k c n : Nat} (h : Left L D p k) (he : Num.fst D = (c, n, 0)) (hn : 0 < n) (hn2 : n ≤ D.length) : Left L (D.drop n) (p + n) (k + 1) := by
 have len : D.length = L.length - p := by rw [h.1, List.length_drop]
 refine ⟨by rw [h.1, List.drop_drop], by have := h.2.1; omega, by have := h.2.2.1; omega, ?_⟩
 rw [h.2.2.2, Num.cU_go he, Option.map_map]
 congr 1
 funext j
 simp; omega
theorem Count_any (A : Option Addr) (c : Nat) (l : List UInt8) (w : World) (hL : Laid w) (hb : Bys w w.heap.size A l) (hl : l.length ≤ 140000000000) (hc : l.length ≤ c) :
 Calls Tryz.prog 137 #[.slice A l.length c] w (Cnt l w) := by
 have start : Left l l 0 0 := ⟨rfl, Nat.zero_le _, Nat.le_refl _, by simp⟩
 have START := Lib.hid start
 clear start
 go_enter Tryz.func137, Tryz.ntmps137
 go_wp2_with fail
 go_loopw [0, 4] (fun sv u wr => ∃ (p k n c' : Nat) (A' : Option Addr) (D : List UInt8), Hid (Left l D p k) ∧ Hid (n = D.length) ∧ n ≤ l.length ∧ k ≤ l.length ∧ n ≤ c' ∧ sv = .slice A' n c' ∧ u = .int .i64 (k : Int) ∧ Bys wr w.heap.size A' D ∧ Below w.heap.size w wr) (fun _ u _ => l.length - (intOf u).toNat)
 case atStart => exact ⟨0, 0, l.length, c, A, l, START, rfl, Nat.le_refl _, Nat.zero_le _, hc, rfl, rfl, hb, Below.refl _ _⟩
 case round =>
  obtain ⟨p, k, n, c', A', D, H, hn, nl, kl, nc, rfl, rfl, hy, hbl⟩ := hrel
  have hL0 := hL.1
  have hLr := hL.below hbl hL0
  have kp : k ≤ p ∧ p ≤ l.length ∧ n + p = l.length := by
   have h1 := H.out; have h2 := hn.out; rw [h1.1, List.length_drop] at h2; exact ⟨h1.2.2.1, h1.2.1, by have := h1.2.1; omega⟩
  by_cases h0 : n = 0
  · have Z := Lib.hid (H.out.done (List.length_eq_zero_iff.1 (by have := hn.out; omega)))
    subst h0
    go_wp2_with fail
    go_ret2
    exact ⟨by rw [Z.out]; rfl, hbl⟩
  · have n0 : 0 < n := by omega
    have fa := first_any A' c' D wr hLr (hy.more hbl.size) (by have := hn.out; omega)
    rw [← hn.out] at fa
    have err := Num.fst_err D
    rw [← hn.out] at err
    have hD : D ≠ [] := by intro e; have := hn.out; rw [e] at this; simp at this; omega
    obtain ⟨⟨x, m, er⟩, hr⟩ : ∃ r, r = Num.fst D := ⟨_, rfl⟩
    rw [← hr] at fa err
    have FA := Lib.hid fa
    by_cases he : er = 0
    · subst he
      have hm : 0 < m ∧ m ≤ n := by
       rcases err with ⟨_, _, e, h1, _, h2⟩ | ⟨e, _⟩ | e
       · simp only [Prod.mk.injEq] at e; omega
       · simp at e
       · simp at e
      obtain ⟨m0, m1⟩ := hm
      have GO := Lib.hid (H.out.go hr.symm m0 (by have := hn.out; omega))
      have hcut := hy.cut m c' (by have := hn.out; omega)
      have HN : Hid (n - m = (D.drop m).length) := by unfold Hid; rw [List.length_drop, ← hn.out]
      clear hr fa err hD h0 hn H
      by_cases hck : c' = m
      · rw [if_pos hck] at hcut
        have HC := Lib.hid hcut
        obtain rfl : n = m := by omega
        obtain rfl : c' = n := hck
        clear hcut
        go_wp2_with fail
        refine FA.out.mono ?_
        rintro e w1 ⟨rfl, h1⟩
        go_wp2_with fail
        go_roundw
        case rel => exact ⟨_, k + 1, 0, 0, _, _, GO, (by have := HN.out; unfold Hid; omega), by omega, by omega, by omega, rfl, by go_num, HC.out.below (h1.mono hbl.size), hbl.trans (h1.mono hbl.size)⟩
        case measure => simp [intOf]; omega
      · rw [if_neg hck] at hcut
        have HC := Lib.hid hcut
        clear hcut
        go_wp2_with fail
        refine FA.out.mono ?_
        rintro e w1 ⟨rfl, h1⟩
        go_wp2_with fail
        go_roundw
        case rel => exact ⟨_, k + 1, _, _, _, _, GO, HN, by omega, by omega, by omega, rfl, by go_num, HC.out.below (h1.mono hbl.size), hbl.trans (h1.mono hbl.size)⟩
        case measure => simp [intOf]; omega
    · have Z := Lib.hid (H.out.bad hD (by rw [← hr]; exact he))
      have q1 : ((er : Int) == 0) = false := by simp; omega
      have q2 : ((er : Int) != 0) = true := by simp; omega
      clear hr fa err hD h0 hn H he
      go_wp2_with fail
      refine FA.out.mono ?_
      rintro e w1 ⟨rfl, h1⟩
      go_wp2_with fail
      go_ret2
      exact ⟨by rw [Z.out]; rfl, hbl.trans (h1.mono hbl.size)⟩
def Rgt (l : List UInt8) (w : World) (e : Ending) (w' : World) : Prop := e = .returned (.bool (Num.cU l).isSome) ∧ Below w.heap.size w w'
theorem Right_any (A : Option Addr) (c : Nat) (l : List UInt8) (w : World) (hL : Laid w) (hb : Bys w w.heap.size A l) (hl : l.length ≤ 140000000000) (hc : l.length ≤ c) :
 Calls Tryz.prog 86 #[.slice A l.length c] w (Rgt l w) := by
 have ca := Count_any A c l w hL hb hl hc
 obtain ⟨o, ho⟩ : ∃ o, o = Num.cU l := ⟨_, rfl⟩
 unfold Cnt at ca
 unfold Rgt
 rw [← ho] at ca ⊢
 clear ho
 have CA := Lib.hid ca
 clear ca
 cases o with
 | none =>
  go_enter Tryz.func86, Tryz.ntmps86
  go_wp2_with fail
  refine CA.out.mono ?_
  rintro e w1 ⟨rfl, h1⟩
  go_wp2_with fail
  go_ret
  exact ⟨rfl, h1⟩
 | some n =>
  go_enter Tryz.func86, Tryz.ntmps86
  go_wp2_with fail
  refine CA.out.mono ?_
  rintro e w1 ⟨rfl, h1⟩
  go_wp2_with fail
  go_ret
  exact ⟨rfl, h1⟩
def Lays (l : List UInt8) (w : World) (e : Ending) (w' : World) : Prop := ∃ A, e = .returned (.slice A l.length l.length) ∧ Bys w' w'.heap.size A l ∧ Below w.heap.size w w'
end Go.Proofs.YthfoomobicbcpaaGreatDoor
namespace Go.Proofs.YthfoomobicbcpaaGreatDoor.Jx
open Num
section
variable {l : List UInt8} {k q : Nat} (hq : q = k + cnt isW (l.drop k)) (hl : q < l.length)
include hq hl
end
end Go.Proofs.YthfoomobicbcpaaGreatDoor.Jx
namespace Go.Proofs.YthfoomobicbcpaaGreatDoor.Jx
open Num
def hexd : List UInt8 := [48, 49, 50, 51, 52, 53, 54, 55, 56, 57, 97, 98, 99, 100, 101, 102]
def qc (x : UInt8) : List UInt8 :=
 if x.toNat = 34 ∨ x.toNat = 92 then [92, x] else if x.toNat = 8 then [92, 98] else if x.toNat = 12 then [92, 102] else if x.toNat = 10 then [92, 110] else if x.toNat = 13 then [92, 114] else if x.toNat = 9 then [92, 116]
 else if x.toNat < 32 then [92, 117, 48, 48, hexd.getD (x.toNat / 16) 0, hexd.getD (x.toNat % 16) 0] else [x]
def qb (s : List UInt8) : List UInt8 := s.flatMap qc
end Go.Proofs.YthfoomobicbcpaaGreatDoor.Jx
namespace Go.Proofs.YthfoomobicbcpaaGreatDoor
open Go.ChangeShapes Go.WideShapes Go.ChangeAt Go.RowKit Mem
theorem KeepS.trans {S : Nat → Prop} {a b c : World} (h : KeepS S a b) (k : KeepS S b c) : KeepS S a c := fun p hp => (k p hp).trans (h p hp)
end Go.Proofs.YthfoomobicbcpaaGreatDoor
namespace Go.Proofs.YthfoomobicbcpaaGreatDoor
open Go.ChangeShapes Go.WideShapes Go.ChangeAt Go.RowKit Mem
theorem post_j2 {fn : Func} {R : Ending → World → Prop} {a : Act} {w : World} {t u : Tmp} {g : Nat} {x0 x1 x2 x3 x4 : Value} (hf : fn.results = #[.cell t 25, .tmp u]) (hd : a.defers = [])
 (hg : a.tmps.getD t undef = .pointer (some ⟨g, 0, none⟩)) (h0 : w.cell? ⟨g, 0, none⟩ = some x0) (h1 : w.cell? ⟨g, 1, none⟩ = some x1) (h2 : w.cell? ⟨g, 2, none⟩ = some x2) (h3 : w.cell? ⟨g, 3, none⟩ = some x3) (h4 : w.cell? ⟨g, 4, none⟩ = some x4)
 (hR : R (.returned (.tuple #[.agg #[x0, x1, x2, x3, x4], a.tmps.getD u undef])) w) : bodyPost Tryz.prog fn R .ret a w := by
 refine bodyPost_ret ?_ hd hR
 rw [Array.getD_eq_getD_getElem?] at hg
 simp [results, hf, hg, go_sem, h0, h1, h2, h3, h4]
def GotS (S : Nat → Prop) (o : Option J) (w : World) (e : Ending) (w' : World) : Prop :=
 ∃ A3 c3 A4 c4, e = .returned (.tuple #[.agg #[.int .i64 (gotten o).k, .int .i64 (gotten o).n, .string (gotten o).t, .slice A3 (gotten o).its.length c3, .slice A4 (gotten o).ks.length c4], .bool o.isSome]) ∧
  TreeS w' S (gotten o) [.int .i64 (gotten o).k, .int .i64 (gotten o).n, .string (gotten o).t, .slice A3 (gotten o).its.length c3, .slice A4 (gotten o).ks.length c4] ∧ Below w.heap.size w w'
theorem gotS_none {S : Nat → Prop} {o : Option J} {w w' : World} {b : Bool} (h : o = none) (hb : b = false) (hw : Below w.heap.size w w') : GotS S o w (.returned (.tuple #[.agg #[.int .i64 0, .int .i64 0, .string ⟨#[]⟩, .slice none 0 0, .slice none 0 0], .bool b])) w' := by
 subst h; subst hb
 exact ⟨none, 0, none, 0, rfl, TreeS.zero_ _ _, hw⟩
theorem gotS_some {S : Nat → Prop} {o : Option J} {j : J} {w w' : World} (hS : ∀ b, S b → b < w.heap.size) {A3 A4 : Option Addr} {c3 c4 : Nat} {b : Bool} (h : o = some j) (hb : b = true) (ht : TreeS w S j [.int .i64 j.k, .int .i64 j.n, .string j.t, .slice A3 j.its.length c3, .slice A4 j.ks.length c4]) (hw : Below w.heap.size w w') :
 GotS S o w (.returned (.tuple #[.agg #[.int .i64 j.k, .int .i64 j.n, .string j.t, .slice A3 j.its.length c3, .slice A4 j.ks.length c4], .bool b])) w' := by
 subst h; subst hb
 exact ⟨A3, c3, A4, c4, rfl, TreeS.keep (fun p hp => hw.cell (hS _ hp)) (fun _ h => h) ht, hw⟩
theorem post_jb {fn : Func} {R : Ending → World → Prop} {a : Act} {w : World} {t u : Tmp} {g : Nat} {x0 x1 x2 x3 x4 : Value} (hf : fn.results = #[.cell t 25, .tmp u]) (hd : a.defers = [])
 (hg : a.tmps.getD t undef = .pointer (some ⟨g, 0, none⟩)) (h0 : w.cell? ⟨g, 0, none⟩ = some x0) (h1 : w.cell? ⟨g, 1, none⟩ = some x1) (h2 : w.cell? ⟨g, 2, none⟩ = some x2) (h3 : w.cell? ⟨g, 3, none⟩ = some x3) (h4 : w.cell? ⟨g, 4, none⟩ = some x4)
 (hR : R (.returned (.tuple #[.agg #[x0, x1, x2, x3, x4], a.tmps.getD u undef])) w) : bodyPost Tryz.prog fn R .ret a w := post_j2 hf hd hg h0 h1 h2 h3 h4 hR
theorem get_anyS (S : Nat → Prop) (j : J) (key : ByteArray) (w : World) (hS : ∀ b, S b → b < w.heap.size) (A3 A4 : Option Addr) (c3 c4 : Nat) (ht : TreeS w S j [.int .i64 j.k, .int .i64 j.n, .string j.t, .slice A3 j.its.length c3, .slice A4 j.ks.length c4]) :
 Calls Tryz.prog 103 #[.agg #[.int .i64 j.k, .int .i64 j.n, .string j.t, .slice A3 j.its.length c3, .slice A4 j.ks.length c4], .string key] w (GotS S (j.get key) w) := by
 have CS := cell_set
 obtain ⟨_, _, _, _, e, hc3, hc4, rt, ft⟩ := ht.out
 simp only [List.cons.injEq, Value.slice.injEq, true_and, and_true] at e
 obtain ⟨⟨rfl, rfl⟩, rfl, rfl⟩ := e
 have W2 : Below w.heap.size w ((w.alloc (.cells #[.int .i64 j.k, .int .i64 j.n, .string j.t, .slice A3 j.its.length c3, .slice A4 j.ks.length c4] 25)).alloc (.cells #[.int .i64 0, .int .i64 0, .string ⟨#[]⟩, .slice none 0 0, .slice none 0 0] 25)) := bqq
 have ix := index_any S A4 c4 j.ks key _ (FlS.keep (fun p hp => W2.cell (hS _ hp)) (fun _ h => h) ft) hc4.2
 unfold Idx at ix
 obtain ⟨o, ho⟩ : ∃ o, o = place7 j.ks key := ⟨_, rfl⟩
 obtain ⟨R, hR⟩ : ∃ R, R = j.get key := ⟨_, rfl⟩
 rw [← ho] at ix
 rw [← hR]
 unfold J.get at hR
 rw [← ho] at hR
 have IX := Lib.hid ix
 have hl3 := hc3.2
 have HO := Lib.hid ho
 clear ix ho
 by_cases hk : j.k = 6
 · rw [if_pos hk] at hR
   have qk : (j.k != 6) = false := by rw [bne_eq_false_iff_eq]; exact hk
   cases o with
   | none =>
    have Z : Hid (R = none) := hR.trans rfl
    have q1 : num7 none < 0 := by decide
    have ix := IX.out
    have IX2 := Lib.hid ix
    clear hR hk ht rt ft hc3 hc4 hl3 IX ix HO
    generalize j.k = jk at *
    go_enter Tryz.func103, Tryz.ntmps103
    go_wp2_with fail
    with_reducible refine IX2.out.mono ?_
    rintro e w3 ⟨rfl, rfl⟩
    go_wp2_with fail
    try simp only [Exit.inBlock, Exit.then]
    refine post_jb (x0 := .int .i64 0) (x1 := .int .i64 0) (x2 := .string ⟨#[]⟩) (x3 := .slice none 0 0) (x4 := .slice none 0 0) rfl rfl rfl (by go_simp) (by go_simp) (by go_simp) (by go_simp) (by go_simp) ?_
    exact gotS_none Z.out rfl bqq
   | some i =>
    have hik := place7_lt HO.out.symm
    have ix := IX.out
    rw [show num7 (some i) = (i : Int) from rfl] at ix
    have IX2 := Lib.hid ix
    have hb4 := hc4.2
    unfold maxLen at hb4 hl3
    by_cases hi : i < j.its.length
    · have Z : Hid (R = some (j.its[i]'hi)) := hR.trans (by show j.its[i]? = _; exact List.getElem?_eq_getElem hi)
      obtain ⟨b1, o1, X3, x3, X4, x4, e1, hb1, y0, y1, y2, y3, y4, ty⟩ := RowS.cells rt hi
      generalize j.its[i]'hi = T at *
      obtain ⟨ni, hni⟩ : ∃ n, n = j.its.length := ⟨_, rfl⟩
      have hin : i < ni := by omega
      rw [← hni] at IX2 hl3 W2 ⊢
      subst e1
      have TY := Lib.hid ty
      clear hR hk ht rt ft hc3 hc4 IX ix HO hi hni ty
      generalize j.k = jk at *
      have lb1 : b1 < w.heap.size := hS _ hb1
      have nb0 : b1 ≠ w.heap.size := by omega
      have nb1 : b1 ≠ w.heap.size + 1 := by omega
      have q2 : ¬ (ni : Int) ≤ (i : Int) := by omega
      have q3 : ¬ (i : Int) < 0 := by omega
      go_enter Tryz.func103, Tryz.ntmps103
      go_wp2_with fail
      with_reducible refine IX2.out.mono ?_
      rintro e w3 ⟨rfl, rfl⟩
      go_wp2_with fail
      try simp only [Exit.inBlock, Exit.then]
      refine post_jb (x0 := .int .i64 T.k) (x1 := .int .i64 T.n) (x2 := .string T.t) (x3 := .slice X3 T.its.length x3) (x4 := .slice X4 T.ks.length x4) rfl rfl rfl (by go_simp) (by go_simp) (by go_simp) (by go_simp) (by go_simp) ?_
      exact gotS_some hS Z.out rfl TY.out bqq
    · have Z : Hid (R = none) := hR.trans (by show j.its[i]? = _; exact List.getElem?_eq_none (by omega))
      obtain ⟨ni, hni⟩ : ∃ n, n = j.its.length := ⟨_, rfl⟩
      have hin : ni ≤ i := by omega
      rw [← hni] at IX2 hl3 W2 ⊢
      clear hR hk ht rt ft hc3 hc4 IX ix HO hi hni
      generalize j.k = jk at *
      have q2 : (ni : Int) ≤ (i : Int) := by omega
      have q3 : ¬ (i : Int) < 0 := by omega
      go_enter Tryz.func103, Tryz.ntmps103
      go_wp2_with fail
      with_reducible refine IX2.out.mono ?_
      rintro e w3 ⟨rfl, rfl⟩
      go_wp2_with fail
      try simp only [Exit.inBlock, Exit.then]
      refine post_jb (x0 := .int .i64 0) (x1 := .int .i64 0) (x2 := .string ⟨#[]⟩) (x3 := .slice none 0 0) (x4 := .slice none 0 0) rfl rfl rfl (by go_simp) (by go_simp) (by go_simp) (by go_simp) (by go_simp) ?_
      exact gotS_none Z.out rfl bqq
 · rw [if_neg hk] at hR
   have qk : (j.k != 6) = true := by rw [bne_iff_ne]; exact hk
   have Z := Lib.hid hR
   clear hR hk ht rt ft hc3 hc4 hl3
   go_enter Tryz.func103, Tryz.ntmps103
   go_wp2_with fail
   with_reducible refine IX.out.mono ?_
   rintro e w3 ⟨rfl, rfl⟩
   go_wp2_with fail
   try simp only [Exit.inBlock, Exit.then]
   refine post_jb (x0 := .int .i64 0) (x1 := .int .i64 0) (x2 := .string ⟨#[]⟩) (x3 := .slice none 0 0) (x4 := .slice none 0 0) rfl rfl rfl (by go_simp) (by go_simp) (by go_simp) (by go_simp) (by go_simp) ?_
   exact gotS_none Z.out rfl bqq
theorem post_V2 {fn : Func} {R : Ending → World → Prop} {a : Act} {w : World} {t u : Tmp} {g : Nat} {x0 x1 x2 x3 x4 x5 : Value} (hf : fn.results = #[.cell t 42, .tmp u]) (hd : a.defers = [])
 (hg : a.tmps.getD t undef = .pointer (some ⟨g, 0, none⟩)) (h0 : w.cell? ⟨g, 0, none⟩ = some x0) (h1 : w.cell? ⟨g, 1, none⟩ = some x1) (h2 : w.cell? ⟨g, 2, none⟩ = some x2) (h3 : w.cell? ⟨g, 3, none⟩ = some x3) (h4 : w.cell? ⟨g, 4, none⟩ = some x4) (h5 : w.cell? ⟨g, 5, none⟩ = some x5)
 (hR : R (.returned (.tuple #[.agg #[x0, x1, x2, x3, x4, x5], a.tmps.getD u undef])) w) : bodyPost Tryz.prog fn R .ret a w := by
 refine bodyPost_ret ?_ hd hR
 rw [Array.getD_eq_getD_getElem?] at hg
 simp [results, hf, hg, go_sem, h0, h1, h2, h3, h4, h5]
abbrev New (w w' : World) : Nat → Prop := fun b => w.heap.size ≤ b ∧ b < w'.heap.size
def VP (R : Option V) (w : World) (e : Ending) (w' : World) : Prop :=
 ∃ (k n bt : Int) (A3 A4 A5 : Option Addr) (l3 c3 l4 c4 l5 c5 : Nat), e = .returned (.tuple #[.agg #[.int .i64 k, .int .i64 n, .int .u64 bt, .slice A3 l3 c3, .slice A4 l4 c4, .slice A5 l5 c5], .bool R.isSome]) ∧
  ∀ v, R = some v → Lies w' (New w w') v.enc [.int .i64 k, .int .i64 n, .int .u64 bt, .slice A3 l3 c3, .slice A4 l4 c4, .slice A5 l5 c5]
theorem vp_no {R : Option V} {w w' : World} {k n bt : Int} {A3 A4 A5 : Option Addr} {l3 c3 l4 c4 l5 c5 : Nat} {b : Bool} (h : R = none) (hb : b = false) : VP R w (.returned (.tuple #[.agg #[.int .i64 k, .int .i64 n, .int .u64 bt, .slice A3 l3 c3, .slice A4 l4 c4, .slice A5 l5 c5], .bool b])) w' := by
 subst h; subst hb
 exact ⟨k, n, bt, A3, A4, A5, l3, c3, l4, c4, l5, c5, rfl, fun v h => by cases h⟩
theorem vp_yes {R : Option V} {v : V} {w w' : World} {k n bt : Int} {A3 A4 A5 : Option Addr} {l3 c3 l4 c4 l5 c5 : Nat} {b : Bool} (h : R = some v) (hb : b = true) (hl : Lies w' (New w w') v.enc [.int .i64 k, .int .i64 n, .int .u64 bt, .slice A3 l3 c3, .slice A4 l4 c4, .slice A5 l5 c5]) :
 VP R w (.returned (.tuple #[.agg #[.int .i64 k, .int .i64 n, .int .u64 bt, .slice A3 l3 c3, .slice A4 l4 c4, .slice A5 l5 c5], .bool b])) w' := by
 subst h; subst hb
 exact ⟨k, n, bt, A3, A4, A5, l3, c3, l4, c4, l5, c5, rfl, fun v h => by cases h; exact hl⟩
theorem leaf_in {w : World} {S : Nat → Prop} (k n bt : Int) : Lies w S (V.mk k n bt [] [] []).enc [.int .i64 k, .int .i64 n, .int .u64 bt, .slice none 0 0, .slice none 0 0, .slice none 0 0] :=
 V.out.2 ⟨none, 0, none, 0, none, 0, rfl, ⟨Nat.le_refl _, Nat.zero_le _⟩, RowD.nil_ _ _ _ _, ⟨Nat.le_refl _, Nat.zero_le _⟩, RowD.nil_ _ _ _ _, ⟨Nat.le_refl _, Nat.zero_le _⟩, .inl rfl⟩
theorem asked13_any (k : Int) (w : World) : Calls Tryz.prog 126 #[.int .i64 k] w (Sole (.int .i64 (askedK k)) w) := by
 by_cases h : 1 ≤ k ∧ k ≤ 14
 · obtain rfl | rfl | rfl | rfl | rfl | rfl | rfl | rfl | rfl | rfl | rfl | rfl | rfl | rfl : k = 1 ∨ k = 2 ∨ k = 3 ∨ k = 4 ∨ k = 5 ∨ k = 6 ∨ k = 7 ∨ k = 8 ∨ k = 9 ∨ k = 10 ∨ k = 11 ∨ k = 12 ∨ k = 13 ∨ k = 14 := by omega
   all_goals
    clear h
    go_enter Tryz.func126, Tryz.ntmps126
    go_wp2_with fail
    go_ret
    exact ⟨rfl, rfl⟩
 · have e : askedK k = 4 := by unfold askedK; rw [if_neg (by omega), if_neg (by omega), if_neg (by omega), if_neg (by omega), if_neg (by omega)]
   rw [e]
   have q1 : (k == 1) = false := by rw [beq_eq_false_iff_ne]; omega
   have q2 : (k == 2) = false := by rw [beq_eq_false_iff_ne]; omega
   have q3 : (k == 3) = false := by rw [beq_eq_false_iff_ne]; omega
   have q4 : (k == 4) = false := by rw [beq_eq_false_iff_ne]; omega
   have q5 : (k == 5) = false := by rw [beq_eq_false_iff_ne]; omega
   have q6 : (k == 6) = false := by rw [beq_eq_false_iff_ne]; omega
   have q11 : (k == 11) = false := by rw [beq_eq_false_iff_ne]; omega
   have q12 : (k == 12) = false := by rw [beq_eq_false_iff_ne]; omega
   have q9 : (k == 9) = false := by rw [beq_eq_false_iff_ne]; omega
   clear h e
   go_enter Tryz.func126, Tryz.ntmps126
   go_wp2_with fail
   go_ret
   exact ⟨rfl, rfl⟩
theorem dAmong_pure (p c : Int) (w : World) : Calls Tryz.prog 36 #[.int .i64 p, .int .i64 c] w (fun e w' => e = .returned (.bool (decide (0 ≤ p ∧ p < c))) ∧ w' = w) := by
 by_cases h0 : 0 ≤ p
 · by_cases h1 : p < c
   · rw [show decide (0 ≤ p ∧ p < c) = true by simp [h0, h1]]
     go_enter Tryz.func36, Tryz.ntmps36
     go_wp2_with fail
     go_ret
     exact ⟨rfl, rfl⟩
   · rw [show decide (0 ≤ p ∧ p < c) = false by simp [h1]]
     go_enter Tryz.func36, Tryz.ntmps36
     go_wp2_with fail
     go_ret
     exact ⟨rfl, rfl⟩
 · rw [show decide (0 ≤ p ∧ p < c) = false by simp [h0]]
   go_enter Tryz.func36, Tryz.ntmps36
   go_wp2_with fail
   go_ret
   exact ⟨rfl, rfl⟩
def MakesB (E F B : Nat) (w : World) (e : Ending) (w' : World) : Prop := ∃ a b c, e = .returned (.func (.func 219) #[] #[.pointer (some ⟨a, 0, none⟩), .pointer (some ⟨b, 0, none⟩), .pointer (some ⟨c, 0, none⟩)]) ∧
 w'.cell? ⟨a, 0, none⟩ = some (.int .u64 E) ∧ w'.cell? ⟨b, 0, none⟩ = some (.int .u64 F) ∧ w'.cell? ⟨c, 0, none⟩ = some (.int .u64 B) ∧ Below w.heap.size w w'
theorem maker64b (w : World) : Calls Tryz.prog 201 #[.int .u64 11, .int .u64 52] w fun e w' => MakesB 11 52 1023 w e w' := by
 go_enter Tryz.func201, Tryz.ntmps201
 go_wp2
 all_goals go_ret
 exact ⟨_, _, _, rfl, by rw [World.cell?_alloc_lt _ _ _ (by simp <;> omega), World.cell?_alloc_lt _ _ _ (by simp)]; simp [World.cell?_alloc_at],
  by rw [World.cell?_alloc_lt _ _ _ (by simp)]; simp [World.cell?_alloc_at], by simp [World.cell?_alloc_at], bqq⟩
theorem maker32b (w : World) : Calls Tryz.prog 201 #[.int .u64 8, .int .u64 23] w fun e w' => MakesB 8 23 127 w e w' := by
 go_enter Tryz.func201, Tryz.ntmps201
 go_wp2
 all_goals go_ret
 exact ⟨_, _, _, rfl, by rw [World.cell?_alloc_lt _ _ _ (by simp <;> omega), World.cell?_alloc_lt _ _ _ (by simp)]; simp [World.cell?_alloc_at],
  by rw [World.cell?_alloc_lt _ _ _ (by simp)]; simp [World.cell?_alloc_at], by simp [World.cell?_alloc_at], bqq⟩
theorem double13_any (n : Int) (h0 : -9223372036854775808 ≤ n) (h1 : n ≤ 9223372036854775807) (w : World) :
 Calls Tryz.prog 173 #[.int .i64 n] w fun e w' => e = .returned (.int .u64 (Fp.fp 11 52 1023 n : Nat)) ∧ Below w.heap.size w w' := by
 go_enter Tryz.func173, Tryz.ntmps173
 go_wp2_with fail
 refine (maker64b _).mono ?_
 rintro e w1 ⟨a, b, c, rfl, ca, cb, cc, hg⟩
 go_wp2_with fail
 refine (make64 n h0 h1 a b c w1 ca cb cc).mono ?_
 rintro e w2 ⟨rfl, rfl⟩
 go_wp2_with fail
 all_goals go_ret
 exact ⟨rfl, hg⟩
theorem float13_any (n : Int) (h0 : -9223372036854775808 ≤ n) (h1 : n ≤ 9223372036854775807) (w : World) :
 Calls Tryz.prog 172 #[.int .i64 n] w fun e w' => e = .returned (.int .u32 (Fp.fp 8 23 127 n : Nat)) ∧ Below w.heap.size w w' := by
 have hf := Fp.fp32_lt n h0 h1
 go_enter Tryz.func172, Tryz.ntmps172
 go_wp2_with fail
 refine (maker32b _).mono ?_
 rintro e w1 ⟨a, b, c, rfl, ca, cb, cc, hg⟩
 go_wp2_with fail
 refine (make32 n h0 h1 a b c w1 ca cb cc).mono ?_
 rintro e w2 ⟨rfl, rfl⟩
 go_wp2_with fail
 all_goals go_ret
 exact ⟨rfl, hg⟩
def VPB (R : Option V) (w : World) (e : Ending) (w' : World) : Prop := VP R w e w' ∧ Below w.heap.size w w'
theorem number13_any (k n : Int) (hn : I64 n) (w : World) : Calls Tryz.prog 129 #[.int .i64 k, .int .i64 n] w (VPB (dnumV k n) w) := by
 obtain ⟨R, hR⟩ : ∃ R, R = dnumV k n := ⟨_, rfl⟩
 rw [← hR]
 unfold dnumV at hR
 unfold I64 at hn
 have CS := cell_set
 have z0 : Hid (B6 ((w.alloc (.cells #[.int .i64 0, .int .i64 0, .int .u64 0, .slice none 0 0, .slice none 0 0, .slice none 0 0] 42)).alloc (.cells #[.int .i64 k, .int .i64 0, .int .u64 0, .slice none 0 0, .slice none 0 0, .slice none 0 0] 42)) w.heap.size 42 (.int .i64 0) (.int .i64 0) (.int .u64 0) (.slice none 0 0) (.slice none 0 0) (.slice none 0 0)) := (B6.newat rfl).alloc _
 have z1 : Hid (B6 ((w.alloc (.cells #[.int .i64 0, .int .i64 0, .int .u64 0, .slice none 0 0, .slice none 0 0, .slice none 0 0] 42)).alloc (.cells #[.int .i64 k, .int .i64 0, .int .u64 0, .slice none 0 0, .slice none 0 0, .slice none 0 0] 42)) (w.heap.size + 1) 42 (.int .i64 k) (.int .i64 0) (.int .u64 0) (.slice none 0 0) (.slice none 0 0) (.slice none 0 0)) := B6.newat (by simp)
 have bw : Hid (Below w.heap.size w ((w.alloc (.cells #[.int .i64 0, .int .i64 0, .int .u64 0, .slice none 0 0, .slice none 0 0, .slice none 0 0] 42)).alloc (.cells #[.int .i64 k, .int .i64 0, .int .u64 0, .slice none 0 0, .slice none 0 0, .slice none 0 0] 42))) := ((Below.refl _ _).alloc (Nat.le_refl _) _).alloc (by simp) _
 by_cases h5 : k = 5
 · subst h5
   have Z : Hid (R = some (.mk 5 0 ((Fp.fp 8 23 127 n : Nat) : Int) [] [] [])) := hR
   have hf := Fp.fp32_lt n hn.1 hn.2
   have FL := Lib.hid (fun W => float13_any n hn.1 hn.2 W)
   obtain ⟨F, hF⟩ : ∃ F, F = Fp.fp 8 23 127 n := ⟨_, rfl⟩
   rw [← hF] at Z hf FL
   clear hR hF hn
   go_enter Tryz.func129, Tryz.ntmps129
   go_wp2_with fail
   with_reducible refine (FL.out _).mono ?_
   rintro e w1 ⟨rfl, b1⟩
   have s1 := b1.size
   have y0 := Lib.hid (B6.below z0.out b1 z0.out.lt)
   have y1 := Lib.hid (B6.below z1.out b1 z1.out.lt)
   have l0 := y0.out.lt
   have l1 := y1.out.lt
   have bw1 : Below w.heap.size w w1 := bw.out.trans (b1.mono bw.out.size)
   obtain ⟨_, _, _, _, _, _, _, _, _, _, _, _⟩ := B6.facts y0.out
   obtain ⟨_, _, _, _, _, _, _, _, _, _, _, _⟩ := B6.facts y1.out
   have wz : IntKind.u64.wrap (F : Int) = (F : Int) := wrapNat (by omega)
   clear z0 z1 y0 y1 FL
   go_wp2_with fail
   try simp only [Exit.inBlock, Exit.then]
   refine post_V2 (x0 := .int .i64 5) (x1 := .int .i64 0) (x2 := .int .u64 (F : Int)) (x3 := .slice none 0 0) (x4 := .slice none 0 0) (x5 := .slice none 0 0) rfl rfl rfl (by go_simp) (by go_simp) (by go_simp; try rw [wz]) (by go_simp) (by go_simp) (by go_simp) ?_
   exact ⟨vp_yes Z.out rfl (leaf_in _ _ _), bqq⟩
 have q5 : (k == 5) = false := by rw [beq_eq_false_iff_ne]; exact h5
 rw [if_neg h5] at hR
 by_cases h6 : k = 6
 · subst h6
   have Z : Hid (R = some (.mk 6 0 ((Fp.fp 11 52 1023 n : Nat) : Int) [] [] [])) := hR
   have FL := Lib.hid (fun W => double13_any n hn.1 hn.2 W)
   obtain ⟨F, hF⟩ : ∃ F, F = Fp.fp 11 52 1023 n := ⟨_, rfl⟩
   rw [← hF] at Z FL
   clear hR hF hn q5 h5
   go_enter Tryz.func129, Tryz.ntmps129
   go_wp2_with fail
   with_reducible refine (FL.out _).mono ?_
   rintro e w1 ⟨rfl, b1⟩
   have s1 := b1.size
   have y0 := Lib.hid (B6.below z0.out b1 z0.out.lt)
   have y1 := Lib.hid (B6.below z1.out b1 z1.out.lt)
   have l0 := y0.out.lt
   have l1 := y1.out.lt
   have bw1 : Below w.heap.size w w1 := bw.out.trans (b1.mono bw.out.size)
   obtain ⟨_, _, _, _, _, _, _, _, _, _, _, _⟩ := B6.facts y0.out
   obtain ⟨_, _, _, _, _, _, _, _, _, _, _, _⟩ := B6.facts y1.out
   clear z0 z1 y0 y1 FL
   go_wp2_with fail
   try simp only [Exit.inBlock, Exit.then]
   refine post_V2 (x0 := .int .i64 6) (x1 := .int .i64 0) (x2 := .int .u64 (F : Int)) (x3 := .slice none 0 0) (x4 := .slice none 0 0) (x5 := .slice none 0 0) rfl rfl rfl (by go_simp) (by go_simp) (by go_simp) (by go_simp) (by go_simp) (by go_simp) ?_
   exact ⟨vp_yes Z.out rfl (leaf_in _ _ _), bqq⟩
 have q6 : (k == 6) = false := by rw [beq_eq_false_iff_ne]; exact h6
 rw [if_neg h6] at hR
 clear z0 z1 bw
 by_cases h3 : k = 3
 · subst h3
   by_cases hr : -2147483648 ≤ n ∧ n ≤ 2147483647
   · have Z : Hid (R = some (.mk 3 n 0 [] [] [])) := hR.trans (if_neg fun g => g.2 hr)
     obtain ⟨r1, r2⟩ := hr
     clear hR hn q5 q6 h5 h6
     go_enter Tryz.func129, Tryz.ntmps129
     go_wp2_with fail
     try simp only [Exit.inBlock, Exit.then]
     refine post_V2 (x0 := .int .i64 3) (x1 := .int .i64 n) (x2 := .int .u64 0) (x3 := .slice none 0 0) (x4 := .slice none 0 0) (x5 := .slice none 0 0) rfl rfl rfl (by go_simp) (by go_simp) (by go_simp) (by go_simp) (by go_simp) (by go_simp) ?_
     exact ⟨vp_yes Z.out (by first | rfl | simp [Act.eval]) (leaf_in _ _ _), bqq⟩
   · have Z : Hid (R = none) := hR.trans (if_pos ⟨rfl, hr⟩)
     clear hR hn q5 q6 h5 h6
     by_cases r1 : -2147483648 ≤ n
     · have r2 : ¬ n ≤ 2147483647 := fun g => hr ⟨r1, g⟩
       clear hr
       go_enter Tryz.func129, Tryz.ntmps129
       go_wp2_with fail
       try simp only [Exit.inBlock, Exit.then]
       refine post_V2 (x0 := .int .i64 3) (x1 := .int .i64 n) (x2 := .int .u64 0) (x3 := .slice none 0 0) (x4 := .slice none 0 0) (x5 := .slice none 0 0) rfl rfl rfl (by go_simp) (by go_simp) (by go_simp) (by go_simp) (by go_simp) (by go_simp) ?_
       exact ⟨vp_no Z.out (by first | rfl | simp [Act.eval]), bqq⟩
     · clear hr
       go_enter Tryz.func129, Tryz.ntmps129
       go_wp2_with fail
       try simp only [Exit.inBlock, Exit.then]
       refine post_V2 (x0 := .int .i64 3) (x1 := .int .i64 n) (x2 := .int .u64 0) (x3 := .slice none 0 0) (x4 := .slice none 0 0) (x5 := .slice none 0 0) rfl rfl rfl (by go_simp) (by go_simp) (by go_simp) (by go_simp) (by go_simp) (by go_simp) ?_
       exact ⟨vp_no Z.out (by first | rfl | simp [Act.eval]), bqq⟩
 · have Z : Hid (R = some (.mk k n 0 [] [] [])) := hR.trans (if_neg fun g => h3 g.1)
   have q3 : (k != 3) = true := by rw [bne_iff_ne]; exact h3
   clear hR hn h5 h6 h3
   go_enter Tryz.func129, Tryz.ntmps129
   go_wp2_with fail
   try simp only [Exit.inBlock, Exit.then]
   refine post_V2 (x0 := .int .i64 k) (x1 := .int .i64 n) (x2 := .int .u64 0) (x3 := .slice none 0 0) (x4 := .slice none 0 0) (x5 := .slice none 0 0) rfl rfl rfl (by go_simp) (by go_simp) (by go_simp) (by go_simp) (by go_simp) (by go_simp) ?_
   exact ⟨vp_yes Z.out (by first | rfl | simp [Act.eval]) (leaf_in _ _ _), bqq⟩
def sst (l : List UInt8) : ByteArray := ⟨l.toArray⟩
theorem sst_out (s : ByteArray) : sst s.data.toList = s := by unfold sst; simp
theorem sst_in (l : List UInt8) : (sst l).data.toList = l := by unfold sst; simp
theorem len_str (s : ByteArray) : s.data.toList.length = s.size := by rw [Array.length_toList]; rfl
theorem idx_str (s : ByteArray) (j : Nat) (h : j < s.size) (W : World) : (Instr.index 9 (.string s) (.int .i64 (j : Int))).run Tryz.prog W = .ok (.int .u8 ((Jx.byt s.data.toList j : Nat) : Int)) W := by
 rw [run_index_string _ _ _ _ _ strT, dif_pos ⟨by omega, by omega⟩]
 congr 2
 unfold Jx.byt
 have e : s.data.toList.getD j 0 = s[j]'h := by
  rw [List.getD, List.getElem?_eq_getElem (by rw [len_str]; exact h)]
  simp
  rfl
 rw [e]
 rfl
def Pure (v : Value) (w : World) (e : Ending) (w' : World) : Prop := e = .returned v ∧ w = w'
theorem pure_ret {v v' : Value} {w : World} (h : v = v') : Pure v w (.returned v') w := by subst h; exact ⟨rfl, rfl⟩
theorem simple_iff {l : List UInt8} : Nm.simple l = true ↔ l.length ≠ 0 ∧ l.length ≤ 100 ∧ Nm.lt (Jx.byt l 0) = true ∧ ∀ j, j < l.length → Nm.ch (Jx.byt l j) = true := by
 unfold Nm.simple Nm.chs
 simp only [Bool.and_eq_true, decide_eq_true_eq, List.all_eq_true]
 constructor
 · rintro ⟨⟨⟨h1, h2⟩, h3⟩, h4⟩
   refine ⟨h1, h2, h3, fun j hj => ?_⟩
   have := h4 _ (List.getElem_mem hj)
   unfold Jx.byt
   rw [List.getD, List.getElem?_eq_getElem hj]
   exact this
 · rintro ⟨h1, h2, h3, h4⟩
   refine ⟨⟨⟨h1, h2⟩, h3⟩, fun x hx => ?_⟩
   obtain ⟨j, hj, rfl⟩ := List.getElem_of_mem hx
   have := h4 j hj
   unfold Jx.byt at this
   rw [List.getD, List.getElem?_eq_getElem hj] at this
   exact this
theorem simple_no {l : List UInt8} (h : ¬ (l.length ≠ 0 ∧ l.length ≤ 100 ∧ Nm.lt (Jx.byt l 0) = true ∧ ∀ j, j < l.length → Nm.ch (Jx.byt l j) = true)) : Nm.simple l = false := by
 rcases hs : Nm.simple l with _ | _
 · rfl
 · exact absurd (simple_iff.1 hs) h
end Go.Proofs.YthfoomobicbcpaaGreatDoor
namespace Go.Proofs.YthfoomobicbcpaaGreatDoor.Nm
open Jx
def parts : List UInt8 → List (List UInt8)
 | [] => [[]]
 | c :: l => if c = 46 then [] :: parts l else match parts l with
  | [] => [[c]]
  | p :: r => (c :: p) :: r
theorem parts_ne : ∀ l : List UInt8, parts l ≠ []
 | [] => by simp [parts]
 | c :: l => by
  unfold parts
  split
  · simp
  · split <;> simp
theorem parts_app : ∀ a b : List UInt8, parts (a ++ 46 :: b) = parts a ++ parts b
 | [], b => by simp [parts]
 | c :: a, b => by
  rw [List.cons_append, parts, parts_app a b]
  conv => rhs; rw [parts]
  split
  · rfl
  · have := parts_ne a
    rcases h : parts a with _ | ⟨p, r⟩
    · exact absurd h this
    · rfl
theorem parts_no : ∀ b : List UInt8, (∀ x ∈ b, x ≠ 46) → parts b = [b]
 | [], _ => rfl
 | c :: b, h => by
  rw [parts, if_neg (h c (by simp)), parts_no b fun x hx => h x (by simp [hx])]
theorem parts_small : ∀ (l : List UInt8) (p : List UInt8), p ∈ parts l → p.length ≤ l.length
 | [], p, h => by simp [parts] at h; subst h; simp
 | c :: l, p, h => by
  have ih := parts_small l
  rw [parts] at h
  split at h
  · rcases List.mem_cons.1 h with rfl | g
    · simp
    · have := ih p g; rw [List.length_cons]; omega
  · have ne := parts_ne l
    rcases hp : parts l with _ | ⟨q, r⟩
    · exact absurd hp ne
    · rw [hp] at h ih
      rcases List.mem_cons.1 h with rfl | g
      · have := ih q (by simp); simp only [List.length_cons]; omega
      · have := ih p (List.mem_cons_of_mem _ g); rw [List.length_cons]; omega
theorem parts_count : ∀ l : List UInt8, (parts l).length ≤ l.length + 1
 | [] => by simp [parts]
 | c :: l => by
  have ih := parts_count l
  rw [parts]
  split
  · simp only [List.length_cons]; omega
  · have ne := parts_ne l
    rcases hp : parts l with _ | ⟨q, r⟩
    · exact absurd hp ne
    · rw [hp] at ih; simp only [List.length_cons] at ih ⊢; omega
theorem splitK_parts : ∀ l : List UInt8, Lib.splitK [46] 0 (Lib.count l [46]) l = parts l
 | [] => by rw [Lib.count_one]; rfl
 | c :: l => by
  have ih := splitK_parts l
  by_cases hc : c = 46
  · subst hc
    rw [Lib.count_cons_eq, Nat.add_comm, Lib.splitK]
    have e : Lib.index (46 :: l) [46] = 0 := by rw [Lib.index]; simp [List.isPrefixOf]
    rw [e, if_neg (by decide), parts, if_pos rfl, ← ih]
    rfl
  · rw [Lib.count_cons_ne c 46 l hc, parts, if_neg hc]
    have hp : ([46] : List UInt8).isPrefixOf (c :: l) = false := by simp [List.isPrefixOf, Ne.symm hc]
    have e : Lib.index (c :: l) [46] = if Lib.index l [46] == -1 then -1 else Lib.index l [46] + 1 := by rw [Lib.index, hp]; simp
    rcases hk : Lib.count l [46] with _ | k
    · rw [hk, Lib.splitK] at ih
      rw [← ih, Lib.splitK]
    · rw [hk, Lib.splitK] at ih
      rw [Lib.splitK, e]
      by_cases hm : Lib.index l [46] = -1
      · rw [if_pos (beq_iff_eq.2 hm)] at ih
        rw [if_pos (beq_iff_eq.2 hm), if_pos (by decide), ← ih]
      · have hge := Lib.index_ge l [46]
        rw [if_neg (fun g => hm (beq_iff_eq.1 g))] at ih
        rw [if_neg (fun g => hm (beq_iff_eq.1 g)), if_neg (fun g => by have := beq_iff_eq.1 g; omega), ← ih]
        obtain ⟨j, hj⟩ : ∃ j : Nat, Lib.index l [46] = j := ⟨(Lib.index l [46]).toNat, by omega⟩
        rw [hj, show ((j : Int) + 1).toNat + 0 = j + 1 by omega, show (j : Int).toNat + 0 = j by omega, show ((j : Int) + 1).toNat = j + 1 by omega, show (j : Int).toNat = j by omega]
        show _ = (c :: l.take j) :: _
        rw [List.take_succ_cons, List.length_singleton, List.drop_succ_cons]
theorem no_dot {l : List UInt8} (h : dot l < 0) : ∀ x ∈ l, x ≠ 46 := by
 intro x hx e
 obtain ⟨j, hj, rfl⟩ := List.getElem_of_mem hx
 apply dotN_no l.length l h j hj
 unfold byt
 rw [List.getD, List.getElem?_eq_getElem hj, Option.getD_some, e]
 rfl
theorem whole_dot {l : List UInt8} (hd : 0 ≤ dot l) : space l ++ 46 :: last l = l := by
 obtain ⟨k, hk, hkl, h46, _⟩ := dot_place hd
 have es : space l = l.take k := by unfold space; rw [if_neg (by omega), hk]; rfl
 have el : last l = l.drop (k + 1) := by unfold last; rw [hk]; rfl
 rw [es, el]
 have h1 : l.drop k = 46 :: l.drop (k + 1) := by
  rw [List.drop_eq_getElem_cons hkl]
  congr 1
  have : (l[k]'hkl).toNat = 46 := by
   rw [← h46]; unfold byt; simp [List.getD, List.getElem?_eq_getElem hkl]
  exact UInt8.toNat_inj.1 this
 rw [← h1, List.take_append_drop]
theorem full_all : ∀ (n : Nat) (l : List UInt8), l.length ≤ n → full l = (decide (l.length ≤ 100) && (parts l).all simple)
 | n, l, hn => by
  rcases Int.lt_or_le (dot l) 0 with h | h
  · rw [full_one h, parts_no l (no_dot h)]
    by_cases h100 : l.length ≤ 100
    · simp [h100]
    · simp only [h100, decide_false, Bool.false_and]
      unfold simple
      simp [h100]
  · have w := whole_dot h
    have hl : (space l).length < l.length := by
     have := congrArg List.length w
     rw [List.length_append, List.length_cons] at this
     omega
    cases n with
    | zero => omega
    | succ n =>
     have ih := full_all n (space l) (by omega)
     have e : parts l = parts (space l) ++ [last l] := by
      rw [← parts_no (last l) (no_dot (last_no l)), ← parts_app, w]
     rw [full_go h, ih, e, List.all_append]
     by_cases h100 : l.length ≤ 100
     · have h2 : (space l).length ≤ 100 := by omega
       simp [h100, h2, Bool.and_comm]
     · simp [h100]
theorem full_parts' (l : List UInt8) : full l = (decide (l.length ≤ 100) && (parts l).all simple) := full_all _ l (Nat.le_refl _)
theorem kindF_skip {f k : Nat} {s : List UInt8} (h : word (k : Int) ≠ s) : kindF (f + 1) k s = kindF f (k + 1) s := by
 rw [kindF, if_neg fun g => h g.2]
theorem kindF_hit {f k : Nat} {s : List UInt8} (h0 : s ≠ []) (h : word (k : Int) = s) : kindF (f + 1) k s = k := by
 rw [kindF, if_pos ⟨h0, h⟩]
theorem kindF_from {j : Nat} {l : List UInt8} (h0 : l ≠ []) (hj : word (j : Int) = l) : ∀ (f k : Nat), k ≤ j → j < k + f → (∀ m : Nat, k ≤ m → m < j → word (m : Int) ≠ l) → kindF f k l = j
 | 0, k, h1, h2, _ => by omega
 | f + 1, k, h1, h2, h => by
  rcases Nat.lt_or_ge k j with g | g
  · rw [kindF_skip (h k (Nat.le_refl _) g), kindF_from h0 hj f (k + 1) g (by omega) fun m a b => h m (by omega) b]
  · obtain rfl : k = j := by omega
    exact kindF_hit h0 hj
theorem kindF_none {l : List UInt8} : ∀ (f k : Nat), (∀ m : Nat, k ≤ m → m < k + f → word (m : Int) ≠ l) → kindF f k l = 0
 | 0, _, _ => rfl
 | f + 1, k, h => by rw [kindF_skip (h k (Nat.le_refl _) (by omega)), kindF_none f (k + 1) fun m a b => h m (by omega) (by omega)]
theorem kind_first {j : Nat} {l : List UInt8} (hj : j < 15) (h : ∀ m : Nat, m < j → word (m : Int) ≠ l) (e : word (j : Int) = l) : kind l = j := by
 rcases Nat.eq_zero_or_pos j with rfl | hp
 · rw [← e]; decide
 · have h0 : l ≠ [] := fun g => h 0 hp (by rw [g]; decide)
   unfold kind
   exact kindF_from h0 e 14 1 hp (by omega) fun m _ b => h m b
theorem kind_none {l : List UInt8} (h : ∀ m : Nat, m < 15 → word (m : Int) ≠ l) : kind l = 0 := by
 unfold kind
 exact kindF_none 14 1 fun m _ b => h m (by omega)
end Go.Proofs.YthfoomobicbcpaaGreatDoor.Nm
namespace Go.Proofs
open Go.Shelf
def Tryz.lays146_ren : Go.Shelf.Ren := ⟨fun | 146 => 187 | 221 => 212 | 268 => 225 | 138 => 226 | 143 => 188 | 195 => 237 | 197 => 238 | 218 => 239 | 219 => 213 | 260 => 243 | 217 => 206 | 225 => 227 | 224 => 228 | 267 => 229 | 266 => 222 | 314 => 240 | n => n, fun | 9 => 9 | 31 => 23 | 3 => 3 | 4 => 4 | 0 => 0 | 105 => 264 | 21 => 21 | 5 => 5 | 46 => 236 | 119 => 269 | 139 => 272 | 138 => 271 | 146 => 266 | 51 => 123 | n => n, fun | 1 => 4 | 3 => 5 | 4 => 6 | n => n⟩
theorem Tryz.lays146 : Go.Proofs.Lays.n146 Tryz.prog Tryz.lays146_ren := {
 mixed := by kernel_rfl
 f138 := Tryz.func226.trans (congrArg some (by kernel_rfl))
 f143 := Tryz.func188.trans (congrArg some (by kernel_rfl))
 f146 := Tryz.func187.trans (congrArg some (by kernel_rfl))
 f195 := Tryz.func237.trans (congrArg some (by kernel_rfl))
 f197 := Tryz.func238.trans (congrArg some (by kernel_rfl))
 f217 := Tryz.func206.trans (congrArg some (by kernel_rfl))
 f218 := Tryz.func239.trans (congrArg some (by kernel_rfl))
 f219 := Tryz.func213.trans (congrArg some (by kernel_rfl))
 f221 := Tryz.func212.trans (congrArg some (by kernel_rfl))
 f224 := Tryz.func228.trans (congrArg some (by kernel_rfl))
 f225 := Tryz.func227.trans (congrArg some (by kernel_rfl))
 f260 := Tryz.func243.trans (congrArg some (by kernel_rfl))
 f266 := Tryz.func222.trans (congrArg some (by kernel_rfl))
 f267 := Tryz.func229.trans (congrArg some (by kernel_rfl))
 f268 := Tryz.func225.trans (congrArg some (by kernel_rfl))
 f314 := Tryz.func240.trans (congrArg some (by kernel_rfl))
 t0 := Tryz.underlying0
 a0 := Tryz.isAgg0
 z0 := Tryz.sizeOf0
 v0 := Tryz.zeroValue0
 t3 := Tryz.underlying3
 a3 := Tryz.isAgg3
 z3 := Tryz.sizeOf3
 v3 := Tryz.zeroValue3
 t4 := Tryz.underlying4
 a4 := Tryz.isAgg4
 z4 := Tryz.sizeOf4
 v4 := Tryz.zeroValue4
 t5 := Tryz.underlying5
 a5 := Tryz.isAgg5
 z5 := Tryz.sizeOf5
 v5 := Tryz.zeroValue5
 t9 := Tryz.underlying9
 a9 := Tryz.isAgg9
 z9 := Tryz.sizeOf9
 v9 := Tryz.zeroValue9
 t21 := Tryz.underlying21
 a21 := Tryz.isAgg21
 z21 := Tryz.sizeOf21
 v21 := Tryz.zeroValue21
 t31 := Tryz.underlying23
 a31 := Tryz.isAgg23
 z31 := Tryz.sizeOf23
 v31 := Tryz.zeroValue23
 t46 := Tryz.underlying236
 a46 := Tryz.isAgg236
 z46 := Tryz.sizeOf236
 v46 := Tryz.zeroValue236
 t51 := Tryz.underlying123
 a51 := Tryz.isAgg123
 z51 := Tryz.sizeOf123
 v51 := Tryz.zeroValue123
 t105 := Tryz.underlying264
 a105 := Tryz.isAgg264
 z105 := Tryz.sizeOf264
 v105 := Tryz.zeroValue264
 t119 := Tryz.underlying269
 a119 := Tryz.isAgg269
 z119 := Tryz.sizeOf269
 t138 := Tryz.underlying271
 a138 := Tryz.isAgg271
 z138 := Tryz.sizeOf271
 v138 := Tryz.zeroValue271
 t139 := Tryz.underlying272
 a139 := Tryz.isAgg272
 z139 := Tryz.sizeOf272
 v139 := Tryz.zeroValue272
 t146 := Tryz.underlying266
 a146 := Tryz.isAgg266
 z146 := Tryz.sizeOf266
 v146 := Tryz.zeroValue266
 g1 := by kernel_rfl
 g3 := by kernel_rfl
 g4 := by kernel_rfl }
def Tryz.laysM316_ren : Go.Shelf.Ren := ⟨fun | 316 => 154 | n => n, fun | 9 => 9 | 3 => 3 | 4 => 4 | 37 => 39 | 0 => 0 | 127 => 232 | 5 => 5 | n => n, fun | n => n⟩
theorem Tryz.laysM316 : Go.Proofs.LaysM.n316 Tryz.prog Tryz.laysM316_ren := {
 mixed := by kernel_rfl
 f316 := Tryz.func154.trans (congrArg some (by kernel_rfl))
 t0 := Tryz.underlying0
 a0 := Tryz.isAgg0
 z0 := Tryz.sizeOf0
 v0 := Tryz.zeroValue0
 t3 := Tryz.underlying3
 a3 := Tryz.isAgg3
 z3 := Tryz.sizeOf3
 v3 := Tryz.zeroValue3
 t4 := Tryz.underlying4
 a4 := Tryz.isAgg4
 z4 := Tryz.sizeOf4
 v4 := Tryz.zeroValue4
 t9 := Tryz.underlying9
 a9 := Tryz.isAgg9
 z9 := Tryz.sizeOf9
 v9 := Tryz.zeroValue9
 t37 := Tryz.underlying39
 a37 := Tryz.isAgg39
 z37 := Tryz.sizeOf39
 v37 := Tryz.zeroValue39
 t127 := Tryz.underlying232
 a127 := Tryz.isAgg232
 z127 := Tryz.sizeOf232
 v127 := Tryz.zeroValue232
 t5 := Tryz.underlying5
 a5 := Tryz.isAgg5
 z5 := Tryz.sizeOf5
 v5 := Tryz.zeroValue5
 i0 := by kernel_rfl
 i3 := by kernel_rfl
 i4 := by kernel_rfl
 i5 := by kernel_rfl
 i9 := by kernel_rfl
 i37 := by kernel_rfl
 i127 := by kernel_rfl }
open Go.RowKit in
theorem Tryz.stringslite_Clone (s : ByteArray) (w : World) (hlim : s.size ≤ 281474976710656) :
 Calls Tryz.prog 154 #[.string s] w fun e w' => e = .returned (.string s) ∧ Below w.heap.size w w' := Any.stringslite_Clone Tryz.laysM316 s w hlim
end Go.Proofs
