/- Plain mathematics of layer 4: what a reader answers, as functions of the bytes, the place and the refusal. -/
import Derived.Test.YtjebhbjffofjnaaDoorUNum
import Derived.Test.YtjebhbjffofjnaaDoorVarintB
import Derived.Laws.Bits64b
import Derived.Laws.BitsAllLaws
namespace Go.Proofs.YtjebhbjffofjnaaDoor.Wr
open Num

/-- What a reader refuses with before it reads. -/
def rdy (l : List UInt8) (a e : Int) : Int := if e = 0 ∧ (a < 0 ∨ (l.length : Int) < a) then 2 else e
theorem rdy_bad {l : List UInt8} {a e : Int} (h : e ≠ 0) : rdy l a e = e := by unfold rdy; rw [if_neg (by omega)]
theorem rdy_arg {l : List UInt8} {a : Int} (h : a < 0 ∨ (l.length : Int) < a) : rdy l a 0 = 2 := by unfold rdy; rw [if_pos ⟨rfl, h⟩]
theorem rdy_ok {l : List UInt8} {k : Nat} (h : k ≤ l.length) : rdy l (k : Int) 0 = 0 := by unfold rdy; rw [if_neg (by omega)]
theorem rdy_zero {l : List UInt8} {a e : Int} (h : rdy l a e = 0) : e = 0 ∧ ∃ k : Nat, a = (k : Int) ∧ k ≤ l.length := by
  unfold rdy at h
  split at h
  · omega
  · obtain ⟨k, rfl⟩ := Int.eq_ofNat_of_zero_le (a := a) (by omega)
    exact ⟨h, k, rfl, by omega⟩
/-- The three ways of a reader that is asked. -/
theorem rdy_ways (l : List UInt8) (a e : Int) : (e ≠ 0 ∧ rdy l a e = e) ∨ (e = 0 ∧ (a < 0 ∨ (l.length : Int) < a) ∧ rdy l a e = 2) ∨ (e = 0 ∧ ∃ k : Nat, a = (k : Int) ∧ k ≤ l.length ∧ rdy l a e = 0) := by
  by_cases he : e = 0
  · subst he
    by_cases h : a < 0 ∨ (l.length : Int) < a
    · exact .inr (.inl ⟨rfl, h, rdy_arg h⟩)
    · obtain ⟨k, rfl⟩ := Int.eq_ofNat_of_zero_le (a := a) (by omega)
      exact .inr (.inr ⟨rfl, k, rfl, by omega, rdy_ok (by omega)⟩)
  · exact .inl ⟨he, rdy_bad he⟩

/-- The next n bytes. -/
def cut (l : List UInt8) (a e n : Int) : List UInt8 × Int × Int :=
  if rdy l a e ≠ 0 then ([], a, rdy l a e) else if (l.length : Int) - a < n then ([], a, 10) else ((l.drop a.toNat).take n.toNat, a + n, 0)
theorem cut_bad {l : List UInt8} {a e : Int} (n : Int) (h : rdy l a e ≠ 0) : cut l a e n = ([], a, rdy l a e) := by unfold cut; rw [if_pos h]
theorem cut_short {l : List UInt8} {k n : Nat} (h : k ≤ l.length) (hn : l.length < k + n) : cut l (k : Int) 0 (n : Int) = ([], (k : Int), 10) := by
  unfold cut; rw [if_neg (by rw [rdy_ok h]; decide), if_pos (by omega)]
theorem cut_good {l : List UInt8} {k n : Nat} (hn : k + n ≤ l.length) : cut l (k : Int) 0 (n : Int) = ((l.drop k).take n, ((k + n : Nat) : Int), 0) := by
  unfold cut; rw [if_neg (by rw [rdy_ok (by omega)]; decide), if_neg (by omega), Int.toNat_natCast, Int.toNat_natCast]; simp
theorem cut_ways (l : List UInt8) (a e : Int) (n : Nat) :
    (rdy l a e ≠ 0 ∧ cut l a e n = ([], a, rdy l a e)) ∨ ∃ k : Nat, a = (k : Int) ∧ e = 0 ∧ k ≤ l.length ∧ rdy l a e = 0 ∧ ((l.length < k + n ∧ cut l a e n = ([], a, 10)) ∨ (k + n ≤ l.length ∧ cut l a e n = ((l.drop k).take n, ((k + n : Nat) : Int), 0))) := by
  by_cases h : rdy l a e = 0
  · obtain ⟨rfl, k, rfl, hk⟩ := rdy_zero h
    refine .inr ⟨k, rfl, rfl, hk, h, ?_⟩
    by_cases hn : l.length < k + n
    · exact .inl ⟨hn, cut_short hk hn⟩
    · exact .inr ⟨by omega, cut_good (by omega)⟩
  · exact .inl ⟨h, cut_bad _ h⟩
theorem ten : (10 : Int) ≠ 0 := by decide
theorem elev : (11 : Int) ≠ 0 := by decide
theorem fift : (15 : Int) ≠ 0 := by decide
theorem zag0 : zag ((0 : Nat) : Int) = 0 := by decide
/-- What a cut tells: refused, nothing and where it stood; or just so many. -/
theorem cut_tells (l : List UInt8) (a e : Int) (n : Nat) : (cut l a e n).2.2 ≠ 0 ∧ (cut l a e n).1 = [] ∧ (cut l a e n).2.1 = a ∨ (cut l a e n).2.2 = 0 ∧ (cut l a e n).1.length = n ∧ (cut l a e n).1.length ≤ l.length := by
  rcases cut_ways l a e n with ⟨h, hc⟩ | ⟨k, _, _, _, _, ⟨_, hc⟩ | ⟨h, hc⟩⟩
  · rw [hc]; exact .inl ⟨h, rfl, rfl⟩
  · rw [hc]; exact .inl ⟨ten, rfl, rfl⟩
  · rw [hc]
    have len : ((l.drop k).take n).length = n := by rw [List.length_take, List.length_drop]; omega
    exact .inr ⟨rfl, len, by show ((l.drop k).take n).length ≤ _; omega⟩

theorem cut_or (l : List UInt8) (a e : Int) (n : Nat) : (∃ r, r ≠ 0 ∧ cut l a e n = ([], a, r)) ∨ ∃ X m, X.length = n ∧ n ≤ l.length ∧ cut l a e n = (X, m, 0) := by
  rcases cut_ways l a e n with ⟨h, hc⟩ | ⟨k, _, _, _, _, ⟨_, hc⟩ | ⟨h, hc⟩⟩
  · exact .inl ⟨_, h, hc⟩
  · exact .inl ⟨_, ten, hc⟩
  · exact .inr ⟨_, _, by rw [List.length_take, List.length_drop]; omega, by omega, hc⟩
theorem cut_one (l : List UInt8) (a e : Int) : (∃ r, r ≠ 0 ∧ cut l a e 1 = ([], a, r)) ∨ ∃ x m, cut l a e 1 = ([x], m, 0) := by
  rcases cut_or l a e 1 with h | ⟨X, m, hX, _, h⟩
  · exact .inl h
  · match X, hX with
    | [x], _ => exact .inr ⟨x, m, h⟩
def most8 (n : Int) : Int := min (max n 0) 8
theorem most8_nat (n : Int) : ∃ N : Nat, most8 n = (N : Int) ∧ N ≤ 8 := by
  obtain ⟨N, hN⟩ := Int.eq_ofNat_of_zero_le (a := most8 n) (by unfold most8; omega)
  exact ⟨N, hN, by unfold most8 at hN; omega⟩
def boo (l : List UInt8) (a e : Int) : Int × Int × Int :=
  if (cut l a e 1).2.2 ≠ 0 then (0, (cut l a e 1).2) else if 1 < ((cut l a e 1).1.getD 0 0).toNat then (0, a, 11) else ((((cut l a e 1).1.getD 0 0).toNat : Int), (cut l a e 1).2)
def lnum (most top : Nat) (l : List UInt8) (a e : Int) : Int × Int × Int :=
  if rdy l a e ≠ 0 then (0, a, rdy l a e) else (zag ((At most top l a).1 : Int), (At most top l a).2.1, ((At most top l a).2.2 : Int))
/-- A number, its lowest byte first. -/
def low : List UInt8 → Nat
  | [] => 0
  | b :: r => b.toNat + 256 * low r
theorem low_lt : ∀ l : List UInt8, low l < 256 ^ l.length
  | [] => by decide
  | b :: r => by
    have h := low_lt r
    have hb := b.toNat_lt
    simp only [low, List.length_cons, Nat.pow_succ]
    omega
theorem low_app : ∀ l m : List UInt8, low (l ++ m) = low l + 256 ^ l.length * low m
  | [], m => by simp [low]
  | b :: r, m => by
    simp only [List.cons_append, low, low_app r m, List.length_cons, Nat.pow_succ]
    rw [Nat.mul_add, ← Nat.mul_assoc, Nat.mul_comm 256 (256 ^ r.length)]; omega
theorem low_snoc {L : List UInt8} {j : Nat} (h : j < L.length) : low (L.take (j + 1)) = low (L.take j) + 256 ^ j * (L.getD j 0).toNat := by
  have e : L.take (j + 1) = L.take j ++ [L.getD j 0] := by
    rw [List.take_add_one, List.getD_eq_getElem?_getD, List.getElem?_eq_getElem h]; rfl
  rw [e, low_app, List.length_take, Nat.min_eq_left (by omega)]
  simp [low]
theorem low_fit {L : List UInt8} (j : Nat) (h : L.length ≤ 8) : low (L.take j) < 18446744073709551616 := by
  have h1 := low_lt (L.take j)
  have h2 : 256 ^ (L.take j).length ≤ 256 ^ 8 := Nat.pow_le_pow_right (by decide) (by rw [List.length_take]; omega)
  have h3 : (256 : Nat) ^ 8 = 18446744073709551616 := by decide
  omega
theorem or_bytes {u k x : Nat} (hu : u < 256 ^ k) (h : u + 256 ^ k * x < 18446744073709551616) :
    bits .or .u64 (u : Int) (((256 ^ k * x : Nat) : Int)) = ((u + 256 ^ k * x : Nat) : Int) := by
  have hp : 256 ^ k = 2 ^ (8 * k) := by rw [Nat.pow_mul]
  rw [bits_or_u64_nat u (256 ^ k * x) (by omega) (by omega)]
  congr 1
  rw [hp] at hu ⊢
  have := Nat.shiftLeft_add_eq_or_of_lt hu x
  rw [Nat.shiftLeft_eq, Nat.mul_comm] at this
  rw [Nat.or_comm, ← this, Nat.add_comm]
theorem bits_step {L : List UInt8} {j X : Nat} (hX : X = (L.getD j 0).toNat) (hj : j < L.length) (h8 : L.length ≤ 8) :
    bits .or .u64 ((low (L.take j) : Nat) : Int) (IntKind.u64.wrap ((X : Int) * 2 ^ (j * 8))) = ((low (L.take (j + 1)) : Nat) : Int) := by
  subst hX
  have fit := low_fit (j + 1) h8
  have lt := low_lt (L.take j)
  rw [List.length_take, Nat.min_eq_left (by omega)] at lt
  rw [low_snoc hj] at fit ⊢
  have e : (((L.getD j 0).toNat : Nat) : Int) * 2 ^ (j * 8) = ((256 ^ j * (L.getD j 0).toNat : Nat) : Int) := by
    rw [Nat.mul_comm (256 ^ j), Int.natCast_mul, show (256 : Nat) ^ j = 2 ^ (j * 8) by rw [Nat.mul_comm j 8, Nat.pow_mul]]
    simp
  rw [e, IntKind.wrap_u64, ← or_bytes lt fit]
  congr 1
  omega
def bts (l : List UInt8) (a e n : Int) : Int × Int × Int := ((low (cut l a e (most8 n)).1 : Int), (cut l a e (most8 n)).2)
def fxd (l : List UInt8) (a e n : Int) : List UInt8 × Int × Int := cut l a e (max n 0)
def byt (l : List UInt8) (a e : Int) : List UInt8 × Int × Int :=
  if (lnum 10 1 l a e).2.2 ≠ 0 then ([], a, (lnum 10 1 l a e).2.2) else if (lnum 10 1 l a e).1 < 0 then ([], a, 11) else if 20000 < (lnum 10 1 l a e).1 then ([], a, 15)
  else if (cut l (lnum 10 1 l a e).2.1 0 (lnum 10 1 l a e).1).2.2 ≠ 0 then ([], a, (cut l (lnum 10 1 l a e).2.1 0 (lnum 10 1 l a e).1).2.2) else cut l (lnum 10 1 l a e).2.1 0 (lnum 10 1 l a e).1
def txt (l : List UInt8) (a e : Int) : List UInt8 × Int × Int := if (byt l a e).2.2 = 0 ∧ cU (byt l a e).1 = none then ([], a, 11) else byt l a e
def fin (l : List UInt8) (a e : Int) : Int := if rdy l a e = 0 ∧ a < (l.length : Int) then 12 else rdy l a e

theorem lnum_tells (most top : Nat) (l : List UInt8) (a e : Int) : (lnum most top l a e).2.2 ≠ 0 → (lnum most top l a e).1 = 0 ∧ (lnum most top l a e).2.1 = a := by
  unfold lnum
  split
  · exact fun _ => ⟨rfl, rfl⟩
  · rename_i h
    obtain ⟨rfl, k, rfl, hk⟩ := rdy_zero (l := l) (a := a) (e := e) (by omega)
    obtain ⟨⟨u, n, e⟩, hr⟩ : ∃ r, r = tak most top (l.drop k) := ⟨_, rfl⟩
    rw [At.good hk hr.symm]
    rcases tak_err hr.symm with ⟨h, _⟩ | ⟨_, rfl, rfl⟩
    · intro h2; exact absurd (by show (e : Int) = 0; omega) h2
    · exact fun _ => ⟨zag0, by simp⟩
theorem byt_tells (l : List UInt8) (a e : Int) : (byt l a e).2.2 ≠ 0 ∧ (byt l a e).1 = [] ∧ (byt l a e).2.1 = a ∨ (byt l a e).2.2 = 0 ∧ (byt l a e).1.length ≤ l.length := by
  unfold byt
  split
  · exact .inl ⟨by assumption, rfl, rfl⟩
  · split
    · exact .inl ⟨elev, rfl, rfl⟩
    · split
      · exact .inl ⟨fift, rfl, rfl⟩
      · split
        · exact .inl ⟨by assumption, rfl, rfl⟩
        · rename_i h1 h2 h3 h4
          obtain ⟨n, hn⟩ := Int.eq_ofNat_of_zero_le (a := (lnum 10 1 l a e).1) (by omega)
          rw [hn] at h4 ⊢
          rcases cut_tells l (lnum 10 1 l a e).2.1 0 n with ⟨h, _⟩ | ⟨h, _, h'⟩
          · exact absurd h h4
          · exact .inr ⟨h, h'⟩
theorem byt_ways (l : List UInt8) (a e : Int) :
    (∃ n r, r ≠ 0 ∧ lnum 10 1 l a e = (n, a, r) ∧ byt l a e = ([], a, r)) ∨ (∃ n m, n < 0 ∧ lnum 10 1 l a e = (n, m, 0) ∧ byt l a e = ([], a, 11)) ∨ (∃ n m, 20000 < n ∧ lnum 10 1 l a e = (n, m, 0) ∧ byt l a e = ([], a, 15)) ∨
    ∃ (N : Nat) (m : Int), N ≤ 20000 ∧ lnum 10 1 l a e = ((N : Int), m, 0) ∧ ((∃ r, r ≠ 0 ∧ cut l m 0 (N : Int) = ([], m, r) ∧ byt l a e = ([], a, r)) ∨ ∃ X m', X.length = N ∧ N ≤ l.length ∧ cut l m 0 (N : Int) = (X, m', 0) ∧ byt l a e = (X, m', 0)) := by
  have T := lnum_tells 10 1 l a e
  unfold byt
  obtain ⟨⟨n, m, r⟩, hr⟩ : ∃ r, r = lnum 10 1 l a e := ⟨_, rfl⟩
  rw [← hr] at T ⊢
  by_cases h : r = 0
  · subst h
    refine .inr ?_
    rw [if_neg (by simp)]
    by_cases h1 : n < 0
    · exact .inl ⟨n, m, h1, rfl, by rw [if_pos h1]⟩
    · refine .inr ?_
      rw [if_neg h1]
      by_cases h2 : 20000 < n
      · exact .inl ⟨n, m, h2, rfl, by rw [if_pos h2]⟩
      · obtain ⟨N, rfl⟩ := Int.eq_ofNat_of_zero_le (a := n) (by omega)
        refine .inr ⟨N, m, by omega, rfl, ?_⟩
        rw [if_neg h2]
        rcases cut_or l m 0 N with ⟨r, hr, hc⟩ | ⟨X, m', hX, hN, hc⟩
        · exact .inl ⟨r, hr, hc, by rw [hc, if_pos hr]⟩
        · exact .inr ⟨X, m', hX, hN, hc, by rw [hc, if_neg (by simp)]⟩
  · obtain ⟨h1, h2⟩ := T h
    obtain rfl : m = a := h2
    exact .inl ⟨n, r, h, rfl, by rw [if_pos h]⟩
theorem txt_ways (l : List UInt8) (a e : Int) :
    (∃ r, r ≠ 0 ∧ byt l a e = ([], a, r) ∧ txt l a e = ([], a, r)) ∨ ∃ X m, X.length ≤ l.length ∧ byt l a e = (X, m, 0) ∧ (cU X = none ∧ txt l a e = ([], a, 11) ∨ ∃ k, cU X = some k ∧ txt l a e = (X, m, 0)) := by
  have T := byt_tells l a e
  unfold txt
  obtain ⟨⟨X, m, r⟩, hr⟩ : ∃ r, r = byt l a e := ⟨_, rfl⟩
  rw [← hr] at T ⊢
  rcases T with ⟨h, h1, h2⟩ | ⟨h, h1⟩
  · obtain rfl : X = [] := h1
    obtain rfl : m = a := h2
    exact .inl ⟨r, h, rfl, by rw [if_neg (fun k => h k.1)]⟩
  · obtain rfl : r = 0 := h
    refine .inr ⟨X, m, h1, rfl, ?_⟩
    cases hc : cU X with
    | none => exact .inl ⟨rfl, by rw [if_pos ⟨rfl, rfl⟩]⟩
    | some k => exact .inr ⟨k, rfl, by rw [if_neg (fun k => by simp at k)]⟩
theorem fin_ways (l : List UInt8) (a e : Int) : (∃ r, r ≠ 0 ∧ rdy l a e = r ∧ fin l a e = r) ∨ ∃ k : Nat, a = (k : Int) ∧ rdy l a e = 0 ∧ ((k < l.length ∧ fin l a e = 12) ∨ (k = l.length ∧ fin l a e = 0)) := by
  unfold fin
  rcases rdy_ways l a e with ⟨h, hr⟩ | ⟨rfl, h, hr⟩ | ⟨rfl, k, rfl, hk, hr⟩
  · exact .inl ⟨e, h, hr, by rw [hr, if_neg (fun k => h k.1)]⟩
  · exact .inl ⟨2, by simp, hr, by rw [hr, if_neg (by simp)]⟩
  · refine .inr ⟨k, rfl, hr, ?_⟩
    rw [hr]
    by_cases h : k < l.length
    · exact .inl ⟨h, by rw [if_pos ⟨rfl, by omega⟩]⟩
    · exact .inr ⟨by omega, by rw [if_neg (by omega)]⟩
/-- The lowest n bytes of a number, the lowest first. -/
def lowb : Nat → Nat → List UInt8
  | _, 0 => []
  | u, n + 1 => UInt8.ofNat (u % 256) :: lowb (u / 256) n
theorem lowb_len : ∀ (n u : Nat), (lowb u n).length = n
  | 0, _ => rfl
  | n + 1, u => by simp [lowb, lowb_len n]
theorem lowb_step {z : Int} {d l : List UInt8} {k : Nat} (h : d ++ lowb z.toNat (k + 1) = l) (h0 : 0 ≤ z) : d ++ [UInt8.ofNat (z % 256).toNat] ++ lowb (z / 256).toNat k = l := by
  rw [← h, lowb, List.append_assoc, List.singleton_append, show (z % 256).toNat = z.toNat % 256 by omega, show (z / 256).toNat = z.toNat / 256 by omega]
theorem low_lowb : ∀ (n u : Nat), u < 256 ^ n → low (lowb u n) = u
  | 0, u, h => by simp at h; subst h; rfl
  | n + 1, u, h => by
    rw [lowb, low, low_lowb n (u / 256) (by rw [Nat.pow_succ] at h; omega), toNat_ofNat (by omega)]
    omega
theorem low_back {L : List UInt8} {j : Nat} (h : j < L.length) : low (L.drop j) = low (L.drop (j + 1)) * 256 + (L.getD j 0).toNat := by
  have e : L.drop j = L.getD j 0 :: L.drop (j + 1) := by
    rw [List.getD_eq_getElem?_getD, List.getElem?_eq_getElem h]; exact List.drop_eq_getElem_cons h
  rw [e]; show (L.getD j 0).toNat + 256 * low (L.drop (j + 1)) = _; omega
theorem low_fit2 {L : List UInt8} (j : Nat) (h : L.length ≤ 8) : low (L.drop j) < 18446744073709551616 := by
  have h1 := low_lt (L.drop j)
  have h2 : 256 ^ (L.drop j).length ≤ 256 ^ 8 := Nat.pow_le_pow_right (by decide) (by rw [List.length_drop]; omega)
  have h3 : (256 : Nat) ^ 8 = 18446744073709551616 := by decide
  omega
end Go.Proofs.YtjebhbjffofjnaaDoor.Wr
