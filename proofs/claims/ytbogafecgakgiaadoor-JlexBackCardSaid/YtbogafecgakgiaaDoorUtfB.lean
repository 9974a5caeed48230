/- The calls of layer 3 at every input: those that read bytes. -/
import Derived.Test.YtbogafecgakgiaaDoorUtf
namespace Go.Proofs.YtbogafecgakgiaaDoor
open Go.ChangeShapes Go.WideShapes Go.ChangeAt Go.RowKit Mem

/-- What stands first: the character, how many bytes, the error. -/
def Fst (r : Nat × Nat × Nat) (w : World) (e : Ending) (w' : World) : Prop :=
  e = .returned (.tuple #[.int .i32 (r.1 : Int), .int .i64 (r.2.1 : Int), .int .i64 (r.2.2 : Int)]) ∧ Below w.heap.size w w'

/-- What the loop knows: at place p so much is gathered. -/
def Gat (L : List UInt8) (s p f t a : Nat) : Prop := Num.fst L = Num.more (s - p) f t a s (L.drop p) ∧ ((p = 1 ∧ a < 128) ∨ (p = 2 ∧ a < 8192) ∨ (p = 3 ∧ a < 524288) ∨ (p = 4 ∧ a < 33554432))
theorem Gat.done {L : List UInt8} {s f t a : Nat} (h : Gat L s s f t a) : Num.fst L = (a, s, 0) := by
  have := h.1; rwa [Nat.sub_self, Num.more_zero] at this
theorem Gat.short {L : List UInt8} {s p f t a : Nat} (h : Gat L s p f t a) (hp : p < s) (hl : p = L.length) : Num.fst L = (0, 0, 10) := by rw [h.1]; exact Num.more_end (by omega) hl
theorem Gat.bad {L : List UInt8} {s p f t a X : Nat} (h : Gat L s p f t a) (hp : p < s) (hl : p < L.length) (hX : X = (L.getD p 0).toNat) (hy : X < f ∨ t < X) : Num.fst L = (0, 0, 11) := by
  rw [h.1]; exact Num.more_bad_at (by omega) hl hX hy
theorem Gat.go {L : List UInt8} {s p f t a X : Nat} (h : Gat L s p f t a) (hp : p < s) (hs : s ≤ 4) (hl : p < L.length) (hX : X = (L.getD p 0).toNat) (h1 : f ≤ X) (h2 : X ≤ t) (h3 : X - 128 < 64) : Gat L s (p + 1) 128 191 (a * 64 + (X - 128)) := by
  refine ⟨?_, ?_⟩
  · rw [h.1, Num.more_go_at (by omega) hl hX h1 h2, Nat.sub_sub]
  · have := h.2; omega
theorem Gat.lt {L : List UInt8} {s p f t a : Nat} (h : Gat L s p f t a) (hp : p < s) (hs : s ≤ 4) : a < 524288 := by have := h.2; omega
theorem gat_first {x : UInt8} {r : List UInt8} (h : Num.ask x.toNat ≠ 0) : Gat (x :: r) (Num.ask x.toNat) 1 (Num.lo x.toNat) (Num.hi x.toNat) (x.toNat - Num.mark (Num.ask x.toNat)) := by
  refine ⟨?_, ?_⟩
  · rw [Num.fst_cons, if_neg h]; rfl
  · have a := Num.ask_is x.toNat
    refine .inl ⟨rfl, ?_⟩
    rcases a with ⟨a, _⟩ | ⟨a, _⟩ | ⟨a, _⟩ | ⟨a, _⟩ | ⟨a, _⟩
    · omega
    · rw [a, show Num.mark 1 = 0 from rfl]; omega
    · rw [a, show Num.mark 2 = 192 from rfl]; omega
    · rw [a, show Num.mark 3 = 224 from rfl]; omega
    · rw [a, show Num.mark 4 = 240 from rfl]; omega

set_option maxHeartbeats 1000000 in
theorem first_any (A : Option Addr) (c : Nat) (l : List UInt8) (w : World) (hL : Laid w) (hb : Bys w w.heap.size A l) (hl : l.length ≤ 140000000000) :
    Calls Tryd.prog 35 #[.slice A l.length c] w (Fst (Num.fst l) w) := by
  cases l with
  | nil =>
    go_enter Tryd.func35, Tryd.ntmps35
    go_wp2_with fail
    go_ret3
    exact ⟨rfl, Below.refl _ _⟩
  | cons x r =>
    obtain ⟨b, off, rfl, hbB, hc⟩ : ∃ b off, A = some ⟨b, off, none⟩ ∧ b < w.heap.size ∧ ∀ k, k < (x :: r).length → w.cell? ⟨b, off + k, none⟩ = some (cel ((x :: r).getD k 0)) := by
      rcases hb with h | h
      · cases h
      · exact h
    have c0 := hc 0 (by simp)
    have lt := x.toNat_lt
    have gf := gat_first (x := x) (r := r)
    have z0 := fun h : Num.ask x.toNat = 0 => (by rw [Num.fst_cons, if_pos h] : Num.fst (x :: r) = (0, 0, 11))
    have ak := Num.ask_is x.toNat
    have lk := Num.lo_is x.toNat
    have hk := Num.hi_is x.toNat
    have mk : Num.mark (Num.ask x.toNat) ≤ x.toNat := by
      rcases ak with ⟨a, _⟩ | ⟨a, _⟩ | ⟨a, _⟩ | ⟨a, _⟩ | ⟨a, _⟩
      · rw [a, show Num.mark 0 = 0 from rfl]; omega
      · rw [a, show Num.mark 1 = 0 from rfl]; omega
      · rw [a, show Num.mark 2 = 192 from rfl]; omega
      · rw [a, show Num.mark 3 = 224 from rfl]; omega
      · rw [a, show Num.mark 4 = 240 from rfl]; omega
    have ask := asked_any x.toNat lt
    have sec := second_any x.toNat
    have lm := hL.2 (Num.ask x.toNat) (by omega)
    have len : 0 < (x :: r).length := by simp
    obtain ⟨L, hLL⟩ : ∃ L, L = x :: r := ⟨_, rfl⟩
    rw [← hLL] at hc c0 gf z0 hl len ⊢
    have e0 : L.getD 0 0 = x := by rw [hLL]; rfl
    rw [e0] at c0
    unfold cel at c0
    rw [Nat.add_zero] at c0
    clear hLL
    generalize x.toNat = X at *
    generalize Num.ask X = N at *
    generalize Num.mark N = M at *
    generalize Num.lo X = F at *
    generalize Num.hi X = T at *
    have N4 : N ≤ 4 := by omega
    have F1 : 128 ≤ F := by omega
    have F2 : F ≤ 160 := by omega
    have T1 : 143 ≤ T := by omega
    have T2 : T ≤ 191 := by omega
    have M1 : M ≤ X := by omega
    have HC := Lib.hid hc
    have ASK := Lib.hid ask
    have SEC := Lib.hid sec
    clear hc ask sec ak lk hk mk e0 hb
    by_cases h0 : N = 0
    · have Z := Lib.hid (z0 h0)
      subst h0
      clear z0 gf
      go_enter Tryd.func35, Tryd.ntmps35
      go_wp2_with fail
      refine (ASK.out _).mono ?_
      rintro e w' ⟨rfl, rfl⟩
      go_wp2_with fail
      go_ret3
      exact ⟨by rw [Z.out]; rfl, Below.refl _ _⟩
    · have G := Lib.hid (gf h0)
      have q0 : ((N : Int) == 0) = false := by simp; omega
      have i0 : (0 : Int) ≤ (N : Int) := by omega
      have i1 : (N : Int) < 5 := by omega
      have N1 : 1 ≤ N := by omega
      clear z0 gf h0
      go_enter Tryd.func35, Tryd.ntmps35
      go_wp2_with fail
      refine (ASK.out _).mono ?_
      rintro e w' ⟨rfl, rfl⟩
      go_wp2_with fail
      go_quiet (fail)
      go_wp2_with fail
      refine (SEC.out _).mono ?_
      rintro e w' ⟨rfl, rfl⟩
      go_wp2_with fail
      have xm : (X : Int) - (M : Int) = ((X - M : Nat) : Int) := by omega
      go_loop [2, 3, 5, 6, 7] (fun u s f t p => ∃ (p' f' t' a' : Nat), 1 ≤ p' ∧ p' ≤ N ∧ p' ≤ L.length ∧ f' ≤ 160 ∧ 128 ≤ f' ∧ t' ≤ 191 ∧ Hid (Gat L N p' f' t' a') ∧ u = .int .i32 (a' : Int) ∧ s = .int .i64 (N : Int) ∧ f = .int .u8 (f' : Int) ∧ t = .int .u8 (t' : Int) ∧ p = .int .i64 (p' : Int)) (fun _ _ _ _ p => N - (intOf p).toNat)
      case atStart => exact ⟨1, F, T, X - M, by omega, N1, len, F2, F1, T2, G, by rw [xm], rfl, rfl, rfl, rfl⟩
      case round =>
        obtain ⟨p, f, t, a, p1, pN, pL, f2, f1, t2, g, rfl, rfl, rfl, rfl, rfl⟩ := hrel
        clear xm
        by_cases hp : p = N
        · have Z := Lib.hid (Gat.done (hp ▸ g.out))
          have Lt : ¬ p < N := by omega
          clear hp
          go_wp2_with fail
          go_ret3
          exact ⟨by rw [Z.out]; rfl, bel_drewN (Below.refl _ _) nq⟩
        · have Lt : p < N := by omega
          by_cases hl2 : p = L.length
          · have Z := Lib.hid (Gat.short g.out (by omega) hl2)
            have q1 : ((p : Int) == (L.length : Int)) = true := by simp; omega
            clear hp hl2
            go_wp2_with fail
            go_ret3
            exact ⟨by rw [Z.out]; rfl, bel_drewN (Below.refl _ _) nq⟩
          · have pl : p < L.length := by omega
            have cp := HC.out p pl
            unfold cel at cp
            have lp := (L.getD p 0).toNat_lt
            have ag := Gat.lt g.out Lt N4
            have gb := Gat.bad g.out Lt pl rfl
            have gg := Gat.go g.out Lt N4 pl rfl
            generalize (L.getD p 0).toNat = Y at *
            by_cases hy : Y < f ∨ t < Y
            · have Z := Lib.hid (gb hy)
              clear gb gg hp hl2
              by_cases hy1 : Y < f
              · clear hy
                go_wp2_with fail
                go_ret3
                exact ⟨by rw [Z.out]; rfl, bel_drewN (Below.refl _ _) nq⟩
              · have hy2 : t < Y := by omega
                clear hy
                go_wp2_with fail
                go_ret3
                exact ⟨by rw [Z.out]; rfl, bel_drewN (Below.refl _ _) nq⟩
            · have y1 : ¬ Y < f := by omega
              have y2 : ¬ t < Y := by omega
              have GG := Lib.hid (gg (by omega) (by omega) (by omega))
              have y3 : (128 : Int) ≤ (Y : Int) := by omega
              clear gb gg hp hl2 hy
              go_wp2_with fail
              go_round
              case rel => exact ⟨p + 1, 128, 191, a * 64 + (Y - 128), by omega, by omega, by omega, by omega, by omega, by omega, GG, by congr 1; omega, rfl, rfl, rfl, by go_num⟩
              case measure => simp [intOf]; omega

/-- What Take tells: the character, the place, the error. -/
def tk (l : List UInt8) (at_ : Int) : Nat × Int × Nat :=
  if at_ < 0 ∨ (l.length : Int) < at_ then (0, at_, 2)
  else ((Num.fst (l.drop at_.toNat)).1, at_ + ((Num.fst (l.drop at_.toNat)).2.1 : Int), (Num.fst (l.drop at_.toNat)).2.2)
theorem tk_bad {l : List UInt8} {at_ : Int} (h : at_ < 0 ∨ (l.length : Int) < at_) : tk l at_ = (0, at_, 2) := by unfold tk; rw [if_pos h]
theorem tk_good {l : List UInt8} {k : Nat} (h : k ≤ l.length) : tk l (k : Int) = ((Num.fst (l.drop k)).1, (k : Int) + ((Num.fst (l.drop k)).2.1 : Int), (Num.fst (l.drop k)).2.2) := by
  unfold tk; rw [if_neg (by omega), Int.toNat_natCast]
def Tk (r : Nat × Int × Nat) (w : World) (e : Ending) (w' : World) : Prop :=
  e = .returned (.tuple #[.int .i32 (r.1 : Int), .int .i64 r.2.1, .int .i64 (r.2.2 : Int)]) ∧ Below w.heap.size w w'

theorem Take_any (A : Option Addr) (c : Nat) (l : List UInt8) (at_ : Int) (w : World) (hL : Laid w) (hb : Bys w w.heap.size A l) (hl : l.length ≤ 140000000000) (hc : l.length ≤ c) :
    Calls Tryd.prog 48 #[.slice A l.length c, .int .i64 at_] w (Tk (tk l at_) w) := by
  by_cases h : at_ < 0 ∨ (l.length : Int) < at_
  · rw [tk_bad h]
    by_cases h1 : at_ < 0
    · clear h
      go_enter Tryd.func48, Tryd.ntmps48
      go_wp2_with fail
      go_ret3
      exact ⟨rfl, Below.refl _ _⟩
    · have h2 : (l.length : Int) < at_ := by omega
      clear h
      go_enter Tryd.func48, Tryd.ntmps48
      go_wp2_with fail
      go_ret3
      exact ⟨rfl, Below.refl _ _⟩
  · obtain ⟨k, rfl⟩ := Int.eq_ofNat_of_zero_le (a := at_) (by omega)
    have hk : k ≤ l.length := by omega
    have h1 : ¬ (l.length : Int) < (k : Int) := by omega
    have h2 : (0 : Int) ≤ (k : Int) := by omega
    have kl := hl
    have hcut := hb.cut k c hc
    have fa : ∀ A' n c', n = l.length - k → Bys w w.heap.size A' (l.drop k) → Calls Tryd.prog 35 #[.slice A' n c'] w (Fst (Num.fst (l.drop k)) w) := fun A' n c' hn hA => by
      have := first_any A' c' (l.drop k) w hL hA (by rw [List.length_drop]; omega)
      rw [List.length_drop, ← hn] at this
      exact this
    rw [tk_good hk]
    have err := Num.fst_err (l.drop k)
    rw [List.length_drop] at err
    obtain ⟨⟨x, n, er⟩, hr⟩ : ∃ r, r = Num.fst (l.drop k) := ⟨_, rfl⟩
    rw [← hr] at fa err ⊢
    have n0 : n ≤ 140000000000 := by
      rcases err with ⟨_, _, e, _⟩ | ⟨e, _⟩ | e <;> (simp only [Prod.mk.injEq] at e; omega)
    have FA := Lib.hid fa
    clear fa hr err h
    by_cases hck : c = k
    · subst hck
      rw [if_pos rfl] at hcut
      have HC := Lib.hid hcut
      clear hcut
      go_enter Tryd.func48, Tryd.ntmps48
      go_wp2_with fail
      with_reducible refine (FA.out _ _ _ (by omega) HC.out).mono ?_
      rintro e w1 ⟨rfl, h1⟩
      go_wp2_with fail
      go_ret3
      exact ⟨rfl, h1⟩
    · rw [if_neg hck] at hcut
      have HC := Lib.hid hcut
      clear hcut
      go_enter Tryd.func48, Tryd.ntmps48
      go_wp2_with fail
      with_reducible refine (FA.out _ _ _ (by omega) HC.out).mono ?_
      rintro e w1 ⟨rfl, h1⟩
      go_wp2_with fail
      go_ret3
      exact ⟨rfl, h1⟩

end Go.Proofs.YtbogafecgakgiaaDoor
