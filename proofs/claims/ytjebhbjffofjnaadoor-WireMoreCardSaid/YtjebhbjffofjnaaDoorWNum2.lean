/- Plain mathematics of layer 4, more: what is put is read; what a call reads of a longer list. -/
import Derived.Test.YtjebhbjffofjnaaDoorWNum
namespace Go.Proofs.YtjebhbjffofjnaaDoor.Wr
open Num

theorem next_drop {L p r : List UInt8} {k : Nat} (h : L.drop k = p ++ r) : L.drop (k + p.length) = r := by rw [← List.drop_drop, h, List.drop_left]
theorem drop_len {L p r : List UInt8} {k : Nat} (h : L.drop k = p ++ r) (hk : k ≤ L.length) : k + p.length + r.length = L.length := by
  have := congrArg List.length h
  rw [List.length_drop, List.length_append] at this; omega
theorem cut_at {L p r : List UInt8} {k : Nat} (h : L.drop k = p ++ r) (hk : k ≤ L.length) : cut L (k : Int) 0 (p.length : Int) = (p, ((k + p.length : Nat) : Int), 0) := by
  have := drop_len h hk
  rw [cut_good (by omega), h, List.take_left]
theorem boo_at {L r : List UInt8} {x : UInt8} {k : Nat} (h : L.drop k = [x] ++ r) (hk : k ≤ L.length) (hx : x.toNat ≤ 1) : boo L (k : Int) 0 = ((x.toNat : Int), ((k + 1 : Nat) : Int), 0) := by
  have hc : cut L (k : Int) 0 1 = ([x], ((k + 1 : Nat) : Int), 0) := cut_at h hk
  unfold boo
  rw [hc, if_neg (by simp)]
  show (if 1 < x.toNat then (0, (k : Int), 11) else ((x.toNat : Int), ((k + 1 : Nat) : Int), 0)) = _
  rw [if_neg (by omega)]
theorem lnum_at {most top k u : Nat} {L r : List UInt8} (h : L.drop k = enc u ++ r) (hk : k ≤ L.length) (ht : tak most top (enc u ++ r) = (u, (enc u).length, 0)) : lnum most top L (k : Int) 0 = (zag (u : Int), ((k + (enc u).length : Nat) : Int), 0) := by
  unfold lnum
  rw [rdy_ok hk, if_neg (by simp), At.good hk (h ▸ ht)]
  simp
theorem tak_zig {n : Int} (h0 : -9223372036854775808 ≤ n) (h1 : n ≤ 9223372036854775807) (r : List UInt8) : tak 10 1 (enc (zig n).toNat ++ r) = ((zig n).toNat, (enc (zig n).toNat).length, 0) := by
  have a0 := zig_lo n
  have a1 := zig_hi h0 h1
  exact tak_enc r (by omega) (enc_length_le (by omega)) (fun _ => by
    have e : (128 : Nat) ^ (10 - 1) * (1 + 1) = 18446744073709551616 := by decide
    omega)
theorem tak_zig32 {n : Int} (h0 : -2147483648 ≤ n) (h1 : n ≤ 2147483647) (r : List UInt8) : tak 5 15 (enc (zig n).toNat ++ r) = ((zig n).toNat, (enc (zig n).toNat).length, 0) := by
  have a0 := zig_lo n
  have a1 := zig_hi32 h0 h1
  have e : (128 : Nat) ^ (5 - 1) * (15 + 1) = 4294967296 := by decide
  refine tak_enc r (by omega) ?_ (fun _ => by omega)
  have := enc_length (u := (zig n).toNat) (by omega)
  have hp : parts ((zig n).toNat : Int) ≤ 5 := by
    have h := parts_mono (u := ((zig n).toNat : Int)) (v := 4294967295) (by omega)
    have : parts 4294967295 = 5 := by decide
    omega
  omega
theorem zag_zigN (n : Int) : zag (((zig n).toNat : Nat) : Int) = n := by
  have := zig_lo n
  rw [Int.toNat_of_nonneg this, zag_zig]
theorem long_at {n : Int} (h0 : -9223372036854775808 ≤ n) (h1 : n ≤ 9223372036854775807) {L r : List UInt8} {k : Nat} (h : L.drop k = enc (zig n).toNat ++ r) (hk : k ≤ L.length) : lnum 10 1 L (k : Int) 0 = (n, ((k + (enc (zig n).toNat).length : Nat) : Int), 0) := by
  rw [lnum_at h hk (tak_zig h0 h1 r), zag_zigN]
theorem int_at {n : Int} (h0 : -2147483648 ≤ n) (h1 : n ≤ 2147483647) {L r : List UInt8} {k : Nat} (h : L.drop k = enc (zig n).toNat ++ r) (hk : k ≤ L.length) : lnum 5 15 L (k : Int) 0 = (n, ((k + (enc (zig n).toNat).length : Nat) : Int), 0) := by
  rw [lnum_at h hk (tak_zig32 h0 h1 r), zag_zigN]
theorem bits_at {u N : Nat} {n : Int} (hN : most8 n = (N : Int)) {L r : List UInt8} {k : Nat} (h : L.drop k = lowb u N ++ r) (hk : k ≤ L.length) : bts L (k : Int) 0 n = ((low (lowb u N) : Int), ((k + N : Nat) : Int), 0) := by
  have hc := cut_at h hk
  rw [lowb_len] at hc
  unfold bts
  rw [hN, hc]
theorem low_mod : ∀ (n u : Nat), low (lowb u n) = u % 256 ^ n
  | 0, u => by simp [lowb, low, Nat.mod_one]
  | n + 1, u => by
    rw [lowb, low, low_mod n (u / 256), toNat_ofNat (by omega), Nat.pow_succ, Nat.mul_comm (256 ^ n) 256, Nat.mod_mul]
def sz (x : List UInt8) : List UInt8 := enc (zig (x.length : Int)).toNat ++ x
theorem byt_at {L r x : List UInt8} {k : Nat} (h : L.drop k = sz x ++ r) (hk : k ≤ L.length) (hx : x.length ≤ 20000) : byt L (k : Int) 0 = (x, ((k + (sz x).length : Nat) : Int), 0) := by
  have h1 : L.drop k = enc (zig (x.length : Int)).toNat ++ (x ++ r) := by rw [h, sz, List.append_assoc]
  have l1 := long_at (n := (x.length : Int)) (by omega) (by omega) h1 hk
  have d1 := next_drop h1
  have k1 := drop_len h1 hk
  have c1 := cut_at d1 (by omega)
  unfold byt
  rw [l1]
  show (if (0 : Int) ≠ 0 then _ else if (x.length : Int) < 0 then _ else if 20000 < (x.length : Int) then _ else _) = _
  rw [if_neg (by simp), if_neg (by omega), if_neg (by omega), c1]
  show (if (0 : Int) ≠ 0 then _ else _) = _
  rw [if_neg (by simp)]
  unfold sz
  rw [List.length_append, Nat.add_assoc]
theorem txt_at {L r x : List UInt8} {k : Nat} (h : L.drop k = sz x ++ r) (hk : k ≤ L.length) (hx : x.length ≤ 20000) : (cU x = none ∧ txt L (k : Int) 0 = ([], (k : Int), 11)) ∨ (∃ n, cU x = some n) ∧ txt L (k : Int) 0 = (x, ((k + (sz x).length : Nat) : Int), 0) := by
  have hb := byt_at h hk hx
  unfold txt
  rw [hb]
  cases hc : cU x with
  | none => exact .inl ⟨rfl, by rw [if_pos ⟨rfl, rfl⟩]⟩
  | some n => exact .inr ⟨⟨n, rfl⟩, by rw [if_neg (fun k => by simp at k)]⟩
/-- All that the law of what is put and read again asks of the plain functions. -/
theorem back_plain (t : UInt8) (ht : t.toNat ≤ 1) (n m z : Int) (x s tl : List UInt8) (n0 : -9223372036854775808 ≤ n) (n1 : n ≤ 9223372036854775807) (m0 : -2147483648 ≤ m) (m1 : m ≤ 2147483647) (z0 : 0 ≤ z) (z1 : z ≤ 18446744073709551615)
    (hx : x.length ≤ 2000) (hs : s.length ≤ 2000) (L : List UInt8)
    (hL : L = (((((([t] ++ enc (zig m).toNat) ++ enc (zig n).toNat) ++ lowb z.toNat 8) ++ lowb z.toNat 4) ++ sz x) ++ sz s) ++ tl) :
    ∃ k1 k2 k3 k4 k5 k6 k7 : Nat, boo L 0 0 = ((t.toNat : Int), (k1 : Int), 0) ∧ lnum 5 15 L (k1 : Int) 0 = (m, (k2 : Int), 0) ∧ lnum 10 1 L (k2 : Int) 0 = (n, (k3 : Int), 0) ∧ bts L (k3 : Int) 0 8 = (z, (k4 : Int), 0) ∧
      bts L (k4 : Int) 0 4 = (z % 4294967296, (k5 : Int), 0) ∧ byt L (k5 : Int) 0 = (x, (k6 : Int), 0) ∧
      ((cU s = none ∧ txt L (k6 : Int) 0 = ([], (k6 : Int), 11)) ∨ (∃ j, cU s = some j) ∧ txt L (k6 : Int) 0 = (s, (k7 : Int), 0)) ∧ k7 + tl.length = L.length := by
  have d0 : L.drop 0 = [t] ++ (enc (zig m).toNat ++ (enc (zig n).toNat ++ (lowb z.toNat 8 ++ (lowb z.toNat 4 ++ (sz x ++ (sz s ++ tl)))))) := by rw [List.drop_zero, hL]; simp only [List.append_assoc]
  have l0 := drop_len d0 (by omega)
  have d1 := next_drop d0
  have l1 := drop_len d1 (by omega)
  have d2 := next_drop d1
  have l2 := drop_len d2 (by omega)
  have d3 := next_drop d2
  have l3 := drop_len d3 (by omega)
  have d4 := next_drop d3
  have l4 := drop_len d4 (by omega)
  have d5 := next_drop d4
  have l5 := drop_len d5 (by omega)
  have d6 := next_drop d5
  have l6 := drop_len d6 (by omega)
  have b0 := boo_at d0 (by omega) ht
  have b1 := int_at m0 m1 d1 (by omega)
  have b2 := long_at n0 n1 d2 (by omega)
  have b3 := bits_at (n := 8) (by decide) d3 (by omega)
  rw [lowb_len] at d4
  have b4 := bits_at (n := 4) (by decide) d4 (by rw [lowb_len] at l4; omega)
  have b5 := byt_at d5 (by omega) (by omega)
  have b6 := txt_at d6 (by omega) (by omega)
  have e8 : ((low (lowb z.toNat 8) : Nat) : Int) = z := by
    rw [low_mod, show (256 : Nat) ^ 8 = 18446744073709551616 by decide]; omega
  have e4 : ((low (lowb z.toNat 4) : Nat) : Int) = z % 4294967296 := by
    rw [low_mod, show (256 : Nat) ^ 4 = 4294967296 by decide]; omega
  rw [e8] at b3
  rw [e4] at b4
  rw [lowb_len] at b5 b6 l6
  refine ⟨_, _, _, _, _, _, _, b0, b1, b2, b3, b4, by rw [lowb_len] at b5; exact b5, by rw [lowb_len] at b6; exact b6, by rw [lowb_len] at l6; omega⟩
end Go.Proofs.YtjebhbjffofjnaaDoor.Wr
