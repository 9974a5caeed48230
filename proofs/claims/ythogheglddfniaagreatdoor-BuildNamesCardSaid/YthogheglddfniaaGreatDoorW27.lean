/- Joined by tools/bundle.py: KMath KText KPrt. -/
import Derived.Deep.LoopGhost
import Derived.Deep.RegionHeldLaw
import Derived.Test.YthogheglddfniaaGreatDoorW1
import Derived.Test.YthogheglddfniaaGreatDoorW3
import Derived.Test.YthogheglddfniaaGreatDoorW4
import Derived.Test.YthogheglddfniaaGreatDoorW5
import Derived.Test.YthogheglddfniaaGreatDoorW6
import Derived.Test.YthogheglddfniaaGreatDoorW7
import Derived.Test.YthogheglddfniaaGreatDoorW10
import Derived.Test.YthogheglddfniaaGreatDoorW26
import Derived.Test.YthogheglddfniaaGreatDoorW0
set_option maxRecDepth 100000
set_option maxHeartbeats 16000000
namespace Go.Proofs.YthogheglddfniaaGreatDoor.Jx
open Num
def dig (u : Nat) : List UInt8 := if u < 10 then [UInt8.ofNat (48 + u)] else dig (u / 10) ++ [UInt8.ofNat (48 + u % 10)]
termination_by u
decreasing_by omega
def nm (n : Int) : List UInt8 := if n < 0 then 45 :: dig n.natAbs else dig n.natAbs
theorem dig_lt {u : Nat} (h : u < 10) : dig u = [UInt8.ofNat (48 + u)] := by rw [dig, if_pos h]
theorem dig_ge {u : Nat} (h : 10 ≤ u) : dig u = dig (u / 10) ++ [UInt8.ofNat (48 + u % 10)] := by rw [dig, if_neg (by omega)]
theorem of8n {n : Nat} (h : n < 256) : (UInt8.ofNat n).toNat = n := UInt8.toNat_ofNat_of_lt' h
theorem dig_all (u : Nat) : ∀ x ∈ dig u, 48 ≤ x.toNat ∧ x.toNat ≤ 57 := by
 induction u using Nat.strongRecOn with
 | _ u ih =>
  by_cases h : u < 10
  · rw [dig_lt h]; intro x hx
    rw [List.mem_singleton.1 hx, of8n (by omega)]; omega
  · rw [dig_ge (by omega)]; intro x hx
    rcases List.mem_append.1 hx with g | g
    · exact ih (u / 10) (by omega) x g
    · rw [List.mem_singleton.1 g, of8n (by omega)]; omega
theorem dig_val (u : Nat) : val (dig u) = u := by
 induction u using Nat.strongRecOn with
 | _ u ih =>
  by_cases h : u < 10
  · rw [dig_lt h, show [UInt8.ofNat (48 + u)] = [] ++ [UInt8.ofNat (48 + u)] from rfl, val_snoc, of8n (by omega)]
    show 0 * 10 + _ = _; omega
  · rw [dig_ge (by omega), val_snoc, ih (u / 10) (by omega), of8n (by omega)]; omega
theorem dig_pos (u : Nat) : 1 ≤ (dig u).length := by
 by_cases h : u < 10
 · rw [dig_lt h]; simp
 · rw [dig_ge (by omega)]; simp
theorem dig_len : ∀ (k u : Nat), 1 ≤ k → u < 10 ^ k → (dig u).length ≤ k
 | 0, _, h, _ => absurd h (by omega)
 | k + 1, u, _, h => by
  by_cases g : u < 10
  · rw [dig_lt g]; simp
  · rw [dig_ge (by omega), List.length_append]
    have h1 : u / 10 < 10 ^ k := by rw [Nat.pow_succ] at h; omega
    rcases Nat.eq_zero_or_pos k with e | e
    · subst e; simp at h; omega
    · have := dig_len k (u / 10) e h1; simp; omega
theorem byt_mem {l : List UInt8} {i : Nat} (h : i < l.length) : byt l i = (l[i]'h).toNat := by
 unfold byt; simp [List.getD, List.getElem?_eq_getElem h]
theorem dig_byt {u i : Nat} (h : i < (dig u).length) : 48 ≤ byt (dig u) i ∧ byt (dig u) i ≤ 57 := by
 rw [byt_mem h]; exact dig_all u _ (List.getElem_mem h)
theorem dig_head (u : Nat) : u ≠ 0 → byt (dig u) 0 ≠ 48 := by
 induction u using Nat.strongRecOn with
 | _ u ih =>
  intro h0
  by_cases h : u < 10
  · rw [dig_lt h, byt_zero, of8n (by omega)]; omega
  · rw [dig_ge (by omega), byt_app (by have := dig_pos (u / 10); omega)]
    exact ih (u / 10) (by omega) (by omega)
def Bnd (m : List UInt8) : Prop := isL (byt m 0) = false ∧ byt m 0 ≠ 46
theorem Bnd.dig {m : List UInt8} (h : Bnd m) : isD (byt m 0) = false := by
 have := h.1
 rcases hd : isD (byt m 0) with _ | _
 · rfl
 · rw [isD_is] at hd
   have : isL (byt m 0) = true := isL_is.2 (.inl hd)
   rw [h.1] at this; cases this
theorem Bnd.nil : Bnd [] := ⟨rfl, by decide⟩
theorem cnt_dig {u : Nat} {m : List UInt8} (h : isD (byt m 0) = false) : cnt isD (Jx.dig u ++ m) = (Jx.dig u).length := by
 refine cnt_eq (by simp) (fun j hj => ?_) (.inr ?_)
 · rw [byt_app hj, isD_is]; exact dig_byt hj
 · rw [byt_app2 (Nat.le_refl _), Nat.sub_self]; exact h
theorem numR_dig {u s : Nat} {m : List UInt8} (hm : Bnd m) (hu : u ≤ 9223372036854775808) (hs : u = 9223372036854775808 → s ≠ 0) : numR s (Jx.dig u ++ m) = (if s = 0 then (u : Int) else -(u : Int), s + (Jx.dig u).length, 0) := by
 have c := cnt_dig (u := u) hm.dig
 have p := dig_pos u
 have t : (Jx.dig u ++ m).take (Jx.dig u).length = Jx.dig u := by simp
 have b : byt (Jx.dig u ++ m) (Jx.dig u).length = byt m 0 := by rw [byt_app2 (Nat.le_refl _), Nat.sub_self]
 unfold numR
 rw [c, t, b, dig_val, if_neg, if_neg]
 · rintro (h | h | h | h)
   · exact hm.2 h
   · rw [hm.1] at h; cases h
   · omega
   · exact hs h.1 h.2
 · rintro (h | h | h)
   · omega
   · rw [byt_app (by omega)] at h
     by_cases h0 : u = 0
     · subst h0
       rw [dig_lt (by omega)] at h; simp at h
     · exact dig_head u h0 h.1
   · rw [hm.1] at h; cases h.1
theorem nm_pos (n : Int) : 1 ≤ (nm n).length := by
 unfold nm; split
 · simp
 · exact dig_pos _
theorem num_nm {n : Int} {m : List UInt8} (hm : Bnd m) (h1 : -9223372036854775808 ≤ n) (h2 : n ≤ 9223372036854775807) : num (nm n ++ m) = (n, (nm n).length, 0) := by
 unfold num nm
 by_cases h : n < 0
 · rw [if_pos h, List.cons_append, if_pos (by rfl), List.drop_succ_cons, List.drop_zero, numR_dig hm (by omega) (by omega), if_neg (by omega)]
   refine Prod.ext ?_ (Prod.ext ?_ rfl)
   · show -((n.natAbs : Nat) : Int) = n; omega
   · show 1 + (Jx.dig n.natAbs).length = (45 :: Jx.dig n.natAbs).length; rw [List.length_cons]; omega
 · rw [if_neg h, if_neg, numR_dig hm (by omega) (by omega), if_pos rfl, Nat.zero_add]
   · refine Prod.ext ?_ rfl
     show ((n.natAbs : Nat) : Int) = n; omega
   · have := dig_pos n.natAbs
     rw [byt_app (by omega)]
     have := dig_byt (u := n.natAbs) (i := 0) (by omega); omega
theorem nm_byt (n : Int) : byt (nm n) 0 = 45 ∨ isD (byt (nm n) 0) = true := by
 unfold nm; split
 · exact .inl rfl
 · refine .inr ?_
   rw [isD_is]; have := dig_pos n.natAbs; exact dig_byt (by omega)
section
variable {l s m : List UInt8} {p : Nat} (h : l.drop p = s ++ m)
include h
theorem at_byt {i : Nat} (hi : i < s.length) : byt l (p + i) = byt s i := by rw [← byt_drop, h, byt_app hi]
theorem at_lt (hs : 0 < s.length) : p < l.length := by
 rcases Nat.lt_or_ge p l.length with g | g
 · exact g
 · rw [List.drop_of_length_le g] at h
   have := congrArg List.length h
   simp at this; omega
theorem at_cnt (hs : 0 < s.length) (hw : isW (byt s 0) = false) : p = p + cnt isW (l.drop p) := by
 have e : cnt isW (l.drop p) = 0 := by
  refine cnt_eq (Nat.zero_le _) (fun j hj => absurd hj (Nat.not_lt_zero _)) (.inr ?_)
  rw [h, byt_app hs]; exact hw
 omega
theorem at_next : l.drop (p + s.length) = m := by rw [← List.drop_drop, h, List.drop_left]
theorem at_len (hp : p ≤ l.length) : p + s.length + m.length = l.length := by
 have := congrArg List.length h
 simp at this; omega
end
theorem tk_sign {l m : List UInt8} {p k : Nat} {c : UInt8} (h : l.drop p = c :: m) (hk : punct c.toNat = k) (h0 : k ≠ 0) : tak l p = (⟨k, 0, [], 0 + p, 1 + p⟩, 0) := by
 subst hk
 have h' : l.drop p = [c] ++ m := h
 have hw : isW (byt [c] 0) = false := by
  rw [byt_zero]
  rcases hw : isW c.toNat with _ | _
  · rfl
  · rw [isW_is] at hw; have := punct_is c.toNat; omega
 have b : byt l p = c.toNat := at_byt h' (i := 0) (by simp)
 rw [tak_p (at_cnt h' (by simp) hw) (at_lt h' (by simp)) (by rw [b]; exact h0), b]
theorem named_at {s m : List UInt8} (hm : isL (byt m 0) = false) : named (s ++ m) s = true := by
 unfold named
 rw [List.take_left, byt_app2 (Nat.le_refl _), Nat.sub_self, hm]; simp
theorem tk_true {l m : List UInt8} {p : Nat} (h : l.drop p = sT ++ m) (hm : Bnd m) : tak l p = (⟨7, 1, [], 0 + p, 4 + p⟩, 0) := by
 have b : byt l p = 116 := at_byt h (i := 0) (by decide)
 rw [tak_l (at_cnt h (by decide) (by decide)) (at_lt h (by decide)) (by rw [b]; decide) (by rw [b]; decide) (by rw [b]; decide), h, if_pos (named_at hm.1)]
theorem tk_false {l m : List UInt8} {p : Nat} (h : l.drop p = sF ++ m) (hm : Bnd m) : tak l p = (⟨7, 0, [], 0 + p, 5 + p⟩, 0) := by
 have b : byt l p = 102 := at_byt h (i := 0) (by decide)
 rw [tak_l (at_cnt h (by decide) (by decide)) (at_lt h (by decide)) (by rw [b]; decide) (by rw [b]; decide) (by rw [b]; decide), h, if_neg, if_pos (named_at hm.1)]
 unfold named sT sF; simp
theorem tk_null {l m : List UInt8} {p : Nat} (h : l.drop p = sN ++ m) (hm : Bnd m) : tak l p = (⟨8, 0, [], 0 + p, 4 + p⟩, 0) := by
 have b : byt l p = 110 := at_byt h (i := 0) (by decide)
 rw [tak_l (at_cnt h (by decide) (by decide)) (at_lt h (by decide)) (by rw [b]; decide) (by rw [b]; decide) (by rw [b]; decide), h, if_neg, if_neg, if_pos (named_at hm.1)]
 · unfold named sF sN; simp
 · unfold named sT sN; simp
theorem tk_num {l m : List UInt8} {p : Nat} {n : Int} (h : l.drop p = nm n ++ m) (hm : Bnd m) (h1 : -9223372036854775808 ≤ n) (h2 : n ≤ 9223372036854775807) : tak l p = (⟨9, n, [], 0 + p, (nm n).length + p⟩, 0) := by
 have hp := nm_pos n
 have b : byt l p = byt (nm n) 0 := at_byt h (i := 0) (by omega)
 have nb := nm_byt n
 have hw : isW (byt (nm n) 0) = false := by
  rcases hw : isW (byt (nm n) 0) with _ | _
  · rfl
  · rw [isW_is] at hw; rw [isD_is] at nb; omega
 have e := num_nm hm h1 h2
 rw [tak_n (at_cnt h (by omega) hw) (at_lt h (by omega)) (by rw [b]; exact nb) (by rw [h, e]), h, e]
theorem tk_quo {l s m : List UInt8} {p : Nat} (h : l.drop p = quo s ++ m) (hs : (cU s).isSome = true) : tak l p = (⟨10, 0, s, 0 + p, (quo s).length + p⟩, 0) := by
 have b : byt l p = 34 := at_byt h (i := 0) (by simp [quo])
 have d : l.drop (p + 1) = qb s ++ 34 :: m := by
  rw [← List.drop_drop, h]; show (qb s ++ [34]) ++ m = _; rw [List.append_assoc]; rfl
 have t := txt_qb _ s m (Nat.lt_succ_self _)
 rw [if_pos hs, ← d] at t
 rw [tak_t (at_cnt h (by simp [quo]) (by rfl)) (at_lt h (by simp [quo])) b t]
 simp [quo]
end Go.Proofs.YthogheglddfniaaGreatDoor.Jx
namespace Go.Proofs.YthogheglddfniaaGreatDoor
open Num
namespace Jp
open Jx
mutual
/-- A tree as a text. -/
def prt : J → List UInt8
 | .mk k n t its ks => if k = 1 then sN else if k = 2 then (if n = 0 then sF else sT) else if k = 3 then nm n else if k = 4 then quo t.data.toList
  else if k = 6 then 123 :: (prts true true its ks ++ [125]) else 91 :: (prts false true its ks ++ [93])
/-- Items, with their keys (o), behind others or as the first ones (c). -/
def prts (o c : Bool) : List J → List ByteArray → List UInt8
 | [], _ => []
 | j :: r, ks => (if c then [] else [44]) ++ ((if o then quo (ks.headD nil_).data.toList ++ [58] else []) ++ (prt j ++ prts o false r ks.tail))
end
theorem prts_nil (o c : Bool) (ks : List ByteArray) : prts o c [] ks = [] := by unfold prts; rfl
theorem prts_cons (o c : Bool) (j : J) (r : List J) (ks : List ByteArray) : prts o c (j :: r) ks = (if c then [] else [44]) ++ ((if o then quo (ks.headD nil_).data.toList ++ [58] else []) ++ (prt j ++ prts o false r ks.tail)) := by rw [prts]
theorem prts_comma (o : Bool) {r : List J} (ks : List ByteArray) (h : r ≠ []) : prts o false r ks = 44 :: prts o true r ks := by
 cases r with
 | nil => exact absurd rfl h
 | cons j r => rw [prts_cons, prts_cons]; simp
theorem str_out (t : ByteArray) : str t.data.toList = t := by unfold str; simp
theorem nxt_close {r : R} {kn : List ByteArray} {e g d a x : Nat} {l : List UInt8} {js : List J} (h1 : r.2.2 = 0) (h2 : tak l r.2.1 = (⟨e, 0, [], a, x⟩, 0)) : nxt r kn e g l d js = (.mk (kindOf e) 0 nil_ (js ++ [r.1]) kn, x, 0) := by
 unfold nxt; rw [if_neg (by omega), h2]; simp
theorem nxt_comma {r : R} {kn : List ByteArray} {e g d a x : Nat} {l : List UInt8} {js : List J} (h1 : r.2.2 = 0) (h2 : tak l r.2.1 = (⟨6, 0, [], a, x⟩, 0)) (he : e = 2 ∨ e = 4) : nxt r kn e g l d js = pits g l x d e kn (js ++ [r.1]) := by
 unfold nxt; rw [if_neg (by omega), h2, if_neg (by simp), if_neg (by simp; omega), if_neg (by simp)]
theorem kv_go {f d a x b y p : Nat} {l s : List UInt8} {ks : List ByteArray} (h1 : tak l p = (⟨10, 0, s, a, x⟩, 0)) (h2 : place7 ks (str s) = none) (h3 : tak l x = (⟨5, 0, [], b, y⟩, 0)) : kv f l p d ks = pval f l y d := by
 unfold kv; rw [h1]; simp only; rw [if_neg (by decide), h2, if_neg (by simp), h3, if_neg (by simp), if_neg (by simp)]
theorem pval_kind {f l p d} {j : J} {x : Nat} (h : pval (f + 1) l p d = (j, x, 0)) : (tak l p).2 = 0 ∧ (tak l p).1.k ≠ 4 := by
 unfold pval at h
 by_cases h0 : (tak l p).2 = 0
 · refine ⟨h0, fun h4 => ?_⟩
   rw [if_neg (fun h => h h0), h4, if_neg (by decide), if_neg (by decide), if_neg (by decide), if_neg (by decide), if_neg (by decide)] at h
   have := congrArg (fun r => r.2.2) h
   simp [bad] at this
 · rw [if_pos h0] at h
   have := congrArg (fun r => r.2.2) h
   exact absurd this h0
theorem place7_nodup {ks0 r : List ByteArray} {k : ByteArray} (h : (ks0 ++ k :: r).Nodup) : place7 ks0 k = none := by
 rcases hp : place7 ks0 k with _ | i
 · rfl
 · exfalso
   have a := place7_any (ks := ks0) (k := k)
   rw [hp] at a
   obtain ⟨x, hx, e⟩ := List.any_eq_true.1 (a.trans rfl)
   have e' : x = k := by simpa using e
   subst e'
   exact (List.nodup_append.1 h).2.2 x hx x (by simp) rfl
def endOf (o : Bool) : Nat := if o then 2 else 4
def shut (o : Bool) : UInt8 := if o then 125 else 93
theorem tk_shut {l m : List UInt8} {p : Nat} {o : Bool} (h : l.drop p = shut o :: m) : tak l p = (⟨endOf o, 0, [], 0 + p, 1 + p⟩, 0) := by
 cases o
 · exact tk_sign (c := 93) h rfl (by decide)
 · exact tk_sign (c := 125) h rfl (by decide)
theorem stp_shut (o : Bool) (m : List UInt8) : Bnd (shut o :: m) := by
 cases o
 · exact ⟨rfl, by show (93 : Nat) ≠ 46; decide⟩
 · exact ⟨rfl, by show (125 : Nat) ≠ 46; decide⟩
theorem stp_comma (m : List UInt8) : Bnd (44 :: m) := ⟨rfl, by show (44 : Nat) ≠ 46; decide⟩
theorem prt_pos (j : J) : 1 ≤ (prt j).length := by
 cases j with
 | mk k n t its ks =>
  unfold prt
  repeat' split
  all_goals first
   | decide
   | exact nm_pos _
   | simp [quo]
end Jp
end Go.Proofs.YthogheglddfniaaGreatDoor
namespace Go.Proofs.YthogheglddfniaaGreatDoor.Jp
open Num Jx
theorem pos_len {l m s : List UInt8} {p : Nat} (h : l.drop p = s ++ m) (hs : 1 ≤ s.length) : p ≤ l.length := by
 rcases Nat.lt_or_ge l.length p with g | g
 · rw [List.drop_of_length_le (by omega)] at h
   have := congrArg List.length h
   simp at this; omega
 · exact g
mutual
theorem pval_prt : ∀ (j : J) (f : Nat) (l m : List UInt8) (p d : Nat), l.drop p = prt j ++ m → Bnd m → j.frm → j.rng → j.deep + d ≤ 32 → 2 * (l.length + 1 - p) < f → pval f l p d = (j, p + (prt j).length, 0)
 | .mk k n t its ks, 0, l, m, p, d, h, hm, hf, hr, hd, hF => absurd hF (Nat.not_lt_zero _)
 | .mk k n t its ks, f + 1, l, m, p, d, h, hm, hf, hr, hd, hF => by
  have hp : p ≤ l.length := pos_len h (prt_pos _)
  unfold J.frm at hf
  obtain ⟨k1, k6, hn, hb, ht, hct, hits, hks, hlen, hcu, hnd, hfs⟩ := hf
  unfold J.rng at hr
  obtain ⟨r1, r2, hrs⟩ := hr
  unfold prt at h ⊢
  by_cases e1 : k = 1
  · subst e1
    rw [if_pos rfl] at h ⊢
    obtain rfl := hn (by decide) (by decide); obtain rfl := ht (by decide); obtain rfl := hits (by decide); obtain rfl := hks (by decide)
    have tk := tk_null h hm
    unfold pval; rw [tk]; simp [sN]; omega
  · rw [if_neg e1] at h ⊢
    by_cases e2 : k = 2
    · subst e2
      rw [if_pos rfl] at h ⊢
      obtain rfl := ht (by decide); obtain rfl := hits (by decide); obtain rfl := hks (by decide)
      rcases hb rfl with rfl | rfl
      · rw [if_pos rfl] at h ⊢
        have tk := tk_false h hm
        unfold pval; rw [tk]; simp [sF]; omega
      · rw [if_neg (by decide)] at h ⊢
        have tk := tk_true h hm
        unfold pval; rw [tk]; simp [sT]; omega
    · rw [if_neg e2] at h ⊢
      by_cases e3 : k = 3
      · subst e3
        rw [if_pos rfl] at h ⊢
        obtain rfl := ht (by decide); obtain rfl := hits (by decide); obtain rfl := hks (by decide)
        have tk := tk_num h hm r1 r2
        unfold pval; rw [tk]; simp; omega
      · rw [if_neg e3] at h ⊢
        obtain rfl := hn e2 e3
        by_cases e4 : k = 4
        · subst e4
          rw [if_pos rfl] at h ⊢
          obtain rfl := hits (by decide); obtain rfl := hks (by decide)
          have tk := tk_quo h hct
          unfold pval; rw [tk]; simp [str_out]; omega
        · rw [if_neg e4] at h ⊢
          obtain rfl := ht e4
          obtain ⟨o, ho⟩ : ∃ o : Bool, (o = true ∧ k = 6) ∨ (o = false ∧ k = 5) := by
           rcases Int.lt_or_le k 6 with g | g
           · exact ⟨false, .inr ⟨rfl, by omega⟩⟩
           · exact ⟨true, .inl ⟨rfl, by omega⟩⟩
          have din := J.deep_in (j := .mk k 0 nil_ its ks) (by show k = 5 ∨ k = 6; omega)
          rw [din] at hd
          have dp := J.deeps_pos its
          simp only [J.its] at hd
          have tx : (if k = 6 then 123 :: (prts true true its ks ++ [125]) else 91 :: (prts false true its ks ++ [93])) = (if o then 123 else 91) :: (prts o true its ks ++ [shut o]) := by
           rcases ho with ⟨rfl, rfl⟩ | ⟨rfl, rfl⟩ <;> rfl
          rw [tx] at h ⊢
          have kk : kindOf (endOf o) = k := by rcases ho with ⟨rfl, rfl⟩ | ⟨rfl, rfl⟩ <;> rfl
          have tk : tak l p = (⟨endOf o - 1, 0, [], 0 + p, 1 + p⟩, 0) := by
           rcases ho with ⟨rfl, rfl⟩ | ⟨rfl, rfl⟩
           · exact tk_sign (c := 123) h rfl (by decide)
           · exact tk_sign (c := 91) h rfl (by decide)
          have h1 : l.drop (1 + p) = prts o true its ks ++ (shut o :: m) := by
           have := at_next (s := [if o then 123 else 91]) (m := (prts o true its ks ++ [shut o]) ++ m) h
           rw [Nat.add_comm 1 p, List.append_assoc] at *
           exact this
          have ke : endOf o = 2 ∨ endOf o = 4 := by cases o; exact .inr rfl; exact .inl rfl
          have kee : endOf o - 1 + 1 = endOf o := by omega
          unfold pval
          rw [tk]
          simp only
          rw [if_neg (by decide), if_neg (by omega), if_neg (by omega), if_neg (by omega), if_neg (by omega), if_pos (by omega), if_neg (by omega), kee]
          by_cases hi : its = []
          · subst hi
            have ks0 : ks = [] := by
             rcases ho with ⟨rfl, rfl⟩ | ⟨rfl, rfl⟩
             · exact List.eq_nil_of_length_eq_zero (hlen rfl)
             · exact hks (by decide)
            subst ks0
            rw [prts_nil, List.nil_append] at h1
            have tk2 := tk_shut h1
            rw [tk2, if_pos ⟨rfl, rfl⟩, kk, prts_nil]
            simp; omega
          · have ih := pits_prts its ks o f l m (1 + p) (d + 1) [] [] hi h1 hfs hrs (by omega) (by
             rcases ho with ⟨rfl, rfl⟩ | ⟨rfl, rfl⟩
             · intro _; exact (hlen rfl)
             · intro e; cases e) (by
             rcases ho with ⟨rfl, rfl⟩ | ⟨rfl, rfl⟩
             · intro e; cases e
             · intro _; exact hks (by decide)) hcu (by simpa using hnd) (by have := at_len h hp; simp at this; omega)
            rw [if_neg ?_, ih]
            · simp only [List.nil_append, kk]
              refine Prod.ext rfl (Prod.ext ?_ rfl)
              simp; omega
            · rintro ⟨g1, g2⟩
              cases o with
              | true =>
               cases its with
               | nil => exact hi rfl
               | cons j r =>
                cases ks with
                | nil => rcases ho with ⟨_, rfl⟩ | ⟨g, _⟩
                         · have := hlen rfl; simp at this
                         · cases g
                | cons y q =>
                 rw [prts_cons] at h1
                 simp only [if_true, List.nil_append, List.headD_cons, List.append_assoc] at h1
                 have := tk_quo h1 (hcu y (by simp))
                 rw [this] at g2; cases g2
              | false =>
               cases its with
               | nil => exact hi rfl
               | cons j r =>
                rw [prts_cons] at h1
                simp only [if_true, Bool.false_eq_true, if_false, List.nil_append, List.append_assoc] at h1
                have st : Bnd (prts false false r ks.tail ++ shut false :: m) := by
                 by_cases hr0 : r = []
                 · subst hr0; rw [prts_nil]; exact stp_shut _ _
                 · rw [prts_comma _ _ hr0]; exact stp_comma _
                unfold J.frms at hfs
                unfold J.rngs at hrs
                unfold J.deeps at hd
                have iv := pval_prt j (f + 2 * (l.length + 1) + 1) l _ (1 + p) (d + 1) h1 st hfs.1 hrs.1 (by omega) (by omega)
                exact (pval_kind iv).2 g2
theorem pits_prts : ∀ (its : List J) (ks : List ByteArray) (o : Bool) (f : Nat) (l m : List UInt8) (p d : Nat) (ks0 : List ByteArray) (js0 : List J), its ≠ [] → l.drop p = prts o true its ks ++ (shut o :: m) → J.frms its → J.rngs its → J.deeps its + d ≤ 33 →
 (o = true → ks.length = its.length) → (o = false → ks = []) → (∀ x ∈ ks, (cU x.data.toList).isSome = true) → (ks0 ++ ks).Nodup → 2 * (l.length + 1 - p) + 1 < f →
 pits f l p d (endOf o) ks0 js0 = (.mk (kindOf (endOf o)) 0 nil_ (js0 ++ its) (ks0 ++ ks), p + (prts o true its ks).length + 1, 0)
 | [], _, _, _, _, _, _, _, _, _, hi, _, _, _, _, _, _, _, _, _ => absurd rfl hi
 | j :: r, ks, o, 0, l, m, p, d, ks0, js0, hi, h, hfs, hrs, hd, hl, hk, hcu, hnd, hF => absurd hF (Nat.not_lt_zero _)
 | j :: r, ks, o, f + 1, l, m, p, d, ks0, js0, hi, h, hfs, hrs, hd, hl, hk, hcu, hnd, hF => by
  unfold J.frms at hfs
  unfold J.rngs at hrs
  unfold J.deeps at hd
  have st : Bnd (prts o false r ks.tail ++ shut o :: m) := by
   by_cases hr0 : r = []
   · subst hr0; rw [prts_nil]; exact stp_shut _ _
   · rw [prts_comma _ _ hr0]; exact stp_comma _
  rw [prts_cons] at h ⊢
  simp only [if_true, List.nil_append, List.append_assoc] at h ⊢
  -- what follows one item
  have go : ∀ (kn : List ByteArray) (q : Nat), l.drop q = prt j ++ (prts o false r ks.tail ++ shut o :: m) → p ≤ q → kn ++ ks.tail = ks0 ++ ks →
   nxt (pval f l q d) kn (endOf o) f l d js0 = (.mk (kindOf (endOf o)) 0 nil_ (js0 ++ j :: r) (ks0 ++ ks), q + (prt j).length + (prts o false r ks.tail).length + 1, 0) := by
   intro kn q hq hpq hkn
   have hql := pos_len hq (prt_pos _)
   have iv := pval_prt j f l _ q d hq st hfs.1 hrs.1 (by omega) (by omega)
   have hx := at_next hq
   have pp := prt_pos j
   have ke : endOf o = 2 ∨ endOf o = 4 := by cases o; exact .inr rfl; exact .inl rfl
   by_cases hr0 : r = []
   · subst hr0
     have tl : ks.tail = [] := by
      cases o
      · rw [hk rfl]; rfl
      · have := hl rfl
        cases ks with
        | nil => rfl
        | cons y z => simp at this; subst this; rfl
     rw [tl, List.append_nil] at hkn
     rw [prts_nil, List.nil_append] at hx
     have t := tk_shut hx
     rw [nxt_close (by rw [iv]) (by rw [iv]; exact t), iv, prts_nil, hkn]
     refine Prod.ext rfl (Prod.ext ?_ rfl)
     simp; omega
   · rw [prts_comma _ _ hr0] at hx ⊢
     have t := tk_sign (k := 6) (c := 44) hx rfl (by decide)
     rw [nxt_comma (by rw [iv]) (by rw [iv]; exact t) ke, iv]
     simp only
     have hx2 : l.drop (1 + (q + (prt j).length)) = prts o true r ks.tail ++ shut o :: m := by
      rw [Nat.add_comm, ← List.drop_drop, hx]; rfl
     have lw := at_len hq hql
     have ih := pits_prts r ks.tail o f l m (1 + (q + (prt j).length)) d kn (js0 ++ [j]) hr0 hx2 hfs.2 hrs.2 (by omega) (by
      intro e; have := hl e; simp at this ⊢; omega) (by intro e; rw [hk e]; rfl) (fun x hx => hcu x (List.mem_of_mem_tail hx)) (by rw [hkn]; exact hnd) (by omega)
     rw [ih, hkn]
     refine Prod.ext (by simp) (Prod.ext ?_ rfl)
     simp; omega
  cases o with
  | false =>
   obtain rfl := hk rfl
   simp only [Bool.false_eq_true, if_false, List.nil_append] at h ⊢
   have g := go ks0 p h (Nat.le_refl _) (by simp)
   rw [show endOf false = 4 from rfl] at g ⊢
   rw [pits_4, g]
   refine Prod.ext rfl (Prod.ext ?_ rfl)
   simp; omega
  | true =>
   cases ks with
   | nil => have := hl rfl; simp at this
   | cons y z =>
    simp only [if_true, List.headD_cons, List.append_assoc, List.tail_cons] at h ⊢ go
    have t1 := tk_quo h (hcu y (by simp))
    have hx := at_next h
    have t2 := tk_sign (k := 5) (c := 58) hx rfl (by decide)
    have hx2 : l.drop (1 + (p + (quo y.data.toList).length)) = prt j ++ (prts true false r z ++ shut true :: m) := by
     rw [Nat.add_comm, ← List.drop_drop, hx]; rfl
    have kvg := kv_go (f := f) (d := d) (ks := ks0) t1 (by rw [str_out]; exact place7_nodup hnd) (by rw [Nat.add_comm (quo y.data.toList).length p]; exact t2)
    have g := go (ks0 ++ [y]) _ hx2 (by omega) (by simp)
    rw [show endOf true = 2 from rfl] at g ⊢
    rw [pits_2 f l p d ks0 js0 (by rw [t1]), kvg, t1]
    simp only [str_out]
    rw [g]
    refine Prod.ext rfl (Prod.ext ?_ rfl)
    simp; omega
end
theorem parse_prt {j : J} (hf : j.frm) (hr : j.rng) (hd : j.deep ≤ 32) (hl : (prt j).length ≤ 20000) : parse (prt j) = (j, 0) := by
 have pv := pval_prt j (2 * (prt j).length + 3) (prt j) [] 0 0 (by simp) Bnd.nil hf hr (by omega) (by omega)
 unfold parse
 rw [if_neg (by omega), pv, Nat.zero_add, if_neg (by simp), tak_e (l := prt j) (q := (prt j).length) (by rw [List.drop_length]; rfl) rfl]
 simp
end Go.Proofs.YthogheglddfniaaGreatDoor.Jp
namespace Go.Proofs.YthogheglddfniaaGreatDoor.Jx
open Num
theorem ue_bigs {c : Nat} (h : 128 ≤ c) (h2 : c < 1114112) : ∀ y ∈ ue c, 128 ≤ y.toNat := by
 by_cases h3 : c < 2048
 · rw [ue_2 h h3]; intro y hy
   simp only [List.mem_cons, List.not_mem_nil, or_false] at hy
   rcases hy with rfl | rfl <;> rw [of8n (by omega)] <;> omega
 · by_cases h4 : c < 65536
   · rw [ue_3 (by omega) h4]; intro y hy
     simp only [List.mem_cons, List.not_mem_nil, or_false] at hy
     rcases hy with rfl | rfl | rfl <;> rw [of8n (by omega)] <;> omega
   · rw [ue_4 (by omega)]; intro y hy
     simp only [List.mem_cons, List.not_mem_nil, or_false] at hy
     rcases hy with rfl | rfl | rfl | rfl <;> rw [of8n (by omega)] <;> omega
theorem qb_one (x : UInt8) : qb [x] = qc x := by rw [qb_cons, qb_nil, List.append_nil]
theorem qc_plain {x : UInt8} (h : 32 ≤ x.toNat) (h1 : x.toNat ≠ 34) (h2 : x.toNat ≠ 92) : qc x = [x] := by
 rcases qc_ways x x.toNat rfl with ⟨a, _⟩ | ⟨a, _⟩ | ⟨a, _⟩ | ⟨a, _⟩ | ⟨a, _⟩ | ⟨a, _⟩ | ⟨a, _⟩ | ⟨_, _, _, e⟩
 all_goals first | exact e | omega
theorem qc_two {x : UInt8} (h : x.toNat = 34 ∨ x.toNat = 47 ∨ x.toNat = 92 ∨ x.toNat = 8 ∨ x.toNat = 12 ∨ x.toNat = 10 ∨ x.toNat = 13 ∨ x.toNat = 9) : (qc x).length ≤ 2 := by
 rcases qc_ways x x.toNat rfl with ⟨a, e⟩ | ⟨a, e⟩ | ⟨a, e⟩ | ⟨a, e⟩ | ⟨a, e⟩ | ⟨a, e⟩ | ⟨a, _, _, _, _, _, _, _, e⟩ | ⟨_, _, _, e⟩
 all_goals first | (rw [e]; simp; done) | omega
theorem qb_ue {c : Nat} (h2 : c < 1114112) : (qb (ue c)).length ≤ 6 := by
 by_cases h : c < 128
 · rw [ue_1 h, qb_one]; exact (qc_len _).2
 · rw [qb_bigs _ (ue_bigs (by omega) h2)]; have := ue_len c; omega
theorem item_short {l o : List UInt8} {n : Nat} (h : item l = some (o, n)) (h0 : 32 ≤ byt l 0) (h1 : byt l 0 ≠ 34) : (qb o).length ≤ n := by
 unfold item at h
 split at h
 · split at h
   · rename_i v hv
     simp only [Option.some.injEq, Prod.mk.injEq] at h
     obtain ⟨rfl, rfl⟩ := h
     rw [qb_one]
     unfold esc at hv
     refine qc_two ?_
     repeat' (split at hv)
     all_goals first
      | (simp only [Option.some.injEq] at hv; rw [of8n (by omega)]; omega)
      | cases hv
   · split at h
     · unfold uni at h
       split at h
       · split at h
         · rename_i a b
           simp only [Option.some.injEq, Prod.mk.injEq] at h
           obtain ⟨rfl, rfl⟩ := h
           have := qb_ue (c := (65536 + (four (l.drop 2) - 55296) * 1024 + four ((l.drop 2).drop 6) - 56320).toNat) (by omega)
           omega
         · cases h
       · split at h
         · rename_i a b
           simp only [Option.some.injEq, Prod.mk.injEq] at h
           obtain ⟨rfl, rfl⟩ := h
           have := four_le (l.drop 2)
           exact qb_ue (by omega)
         · cases h
     · cases h
 · rename_i h92
   split at h
   · rename_i h2
     simp only [Option.some.injEq, Prod.mk.injEq] at h
     obtain ⟨rfl, rfl⟩ := h
     cases l with
     | nil => simp [byt] at h0
     | cons x r =>
      rw [byt_zero] at h0 h1 h92
      by_cases hx : x.toNat < 128
      · rw [fst_one r hx]
        show (qb [x]).length ≤ 1
        rw [qb_one, qc_plain h0 h1 h92]; simp
      · obtain ⟨c, k, e⟩ : ∃ c k, fst (x :: r) = (c, k, 0) := ⟨_, _, by rw [← h2]⟩
        have bg := fst_bigs (by omega) e
        rw [e]
        show (qb ((x :: r).take k)).length ≤ k
        rw [qb_bigs _ bg, List.length_take]; omega
   · cases h
theorem txtF_short : ∀ (f : Nat) {l o : List UInt8} {n : Nat}, txtF f l = some (o, n) → (qb o).length + 1 ≤ n
 | 0, _, _, _, h => by cases h
 | f + 1, l, o, n, h => by
  unfold txtF at h
  split at h
  · cases h
  · split at h
    · simp only [Option.some.injEq, Prod.mk.injEq] at h
      obtain ⟨rfl, rfl⟩ := h
      simp [qb]
    · split at h
      · cases h
      · rename_i g1 g2 _ o1 n1 hi
        obtain ⟨⟨o2, n2⟩, h2, e⟩ := Option.map_eq_some_iff.1 h
        simp only [Prod.mk.injEq] at e
        obtain ⟨rfl, rfl⟩ := e
        have a := item_short hi (by omega) g2
        have b := txtF_short f h2
        rw [qb_app, List.length_append]; omega
theorem numR_short {s : Nat} {r : List UInt8} (h : (numR s r).2.2 = 0) (hs : s ≤ 1) : (nm (numR s r).1).length ≤ (numR s r).2.1 := by
 have v := val_lt (d := r) (cnt isD r) (cnt_le _ _) (fun j hj => cnt_in isD r hj)
 unfold numR at h ⊢
 split at h
 · cases h
 · rename_i h1
   rw [if_neg h1]
   split at h
   · cases h
   · rename_i h2
     rw [if_neg h2]
     have c1 : 1 ≤ cnt isD r := by
      rcases Nat.eq_zero_or_pos (cnt isD r) with e | e
      · exact absurd (.inl e) h1
      · exact e
     have d := dig_len (cnt isD r) (val (r.take (cnt isD r))) c1 v
     show (nm (if s = 0 then _ else _)).length ≤ s + cnt isD r
     generalize val (r.take (cnt isD r)) = u at *
     by_cases h0 : s = 0
     · rw [if_pos h0]
       unfold nm
       rw [if_neg (by omega), Int.natAbs_natCast]; omega
     · rw [if_neg h0]
       unfold nm
       rw [Int.natAbs_neg, Int.natAbs_natCast]
       split
       · rw [List.length_cons]; omega
       · omega
theorem num_short {l : List UInt8} (h : (num l).2.2 = 0) : (nm (num l).1).length ≤ (num l).2.1 := by
 unfold num at h ⊢
 split
 · rename_i h1; rw [if_pos h1] at h; exact numR_short h (by omega)
 · rename_i h1; rw [if_neg h1] at h; exact numR_short h (by omega)
structure Shr (w : Wd) (p : Nat) : Prop where
 tru : w.k = 7 → (w.n = 0 ∧ 5 + p ≤ w.x) ∨ (w.n = 1 ∧ 4 + p ≤ w.x)
 nul : w.k = 8 → 4 + p ≤ w.x
 num : w.k = 9 → (nm w.n).length + p ≤ w.x
 txt : w.k = 10 → (quo w.t).length + p ≤ w.x
theorem Shr.no {w : Wd} {p : Nat} (h : w.k < 7 ∨ 10 < w.k) : Shr w p := ⟨fun e => by omega, fun e => by omega, fun e => by omega, fun e => by omega⟩
theorem word_short {l : List UInt8} {w : Wd} (h : word l = (w, 0)) : Shr w 0 := by
 by_cases h0 : punct (byt l 0) = 0
 · by_cases h1 : byt l 0 = 34
   · rcases ht : Jx.txt (l.drop 1) with _ | ⟨s, k⟩
     · rw [word_t0 h1 ht] at h; cases h
     · rw [word_t h1 ht] at h
       obtain rfl := (Prod.mk.inj h).1
       have := txtF_short _ ht
       exact ⟨(fun e => by cases e), (fun e => by cases e), (fun e => by cases e), (fun _ => by show (quo s).length + 0 ≤ k + 1; simp [quo]; omega)⟩
   · by_cases h2 : byt l 0 = 45 ∨ isD (byt l 0) = true
     · rw [word_n h2] at h
       split at h
       · rename_i hn
         obtain rfl := (Prod.mk.inj h).1
         have := num_short hn
         exact ⟨(fun e => by cases e), (fun e => by cases e), (fun _ => by show (nm (num l).1).length + 0 ≤ (num l).2.1; omega), (fun e => by cases e)⟩
       · have := (Prod.mk.inj h).2; rename_i hn; exact absurd this hn
     · have e := word_l h0 h1 h2
       rw [h] at e
       repeat' split at e
       · obtain rfl := (Prod.mk.inj e).1
         exact ⟨fun _ => .inr ⟨rfl, Nat.le_refl _⟩, (fun e => by cases e), (fun e => by cases e), (fun e => by cases e)⟩
       · obtain rfl := (Prod.mk.inj e).1
         exact ⟨fun _ => .inl ⟨rfl, Nat.le_refl _⟩, (fun e => by cases e), (fun e => by cases e), (fun e => by cases e)⟩
       · obtain rfl := (Prod.mk.inj e).1
         exact ⟨(fun e => by cases e), fun _ => Nat.le_refl _, (fun e => by cases e), (fun e => by cases e)⟩
       · have := (Prod.mk.inj e).2; cases this
 · rw [word_p h0] at h
   obtain rfl := (Prod.mk.inj h).1
   have := punct_is (byt l 0)
   exact Shr.no (.inl (by show punct _ < 7; omega))
theorem tak_short {l : List UInt8} {p : Nat} (hp : p ≤ l.length) (h : (tak l p).2 = 0) : Shr (tak l p).1 p := by
 rcases tak_ways l p hp with e | e | e | ⟨w, q, hq, _, hw, _, e⟩
 · rw [e]; exact Shr.no (.inr (by show 10 < 11; omega))
 · rw [e] at h; cases h
 · rw [e] at h; cases h
 · have s := word_short hw
   rw [e]
   refine ⟨fun g => ?_, fun g => ?_, fun g => ?_, fun g => ?_⟩
   · rcases s.tru g with ⟨a, b⟩ | ⟨a, b⟩
     · exact .inl ⟨a, by show 5 + p ≤ w.x + q; omega⟩
     · exact .inr ⟨a, by show 4 + p ≤ w.x + q; omega⟩
   · have := s.nul g; show 4 + p ≤ w.x + q; omega
   · have := s.num g; show (nm w.n).length + p ≤ w.x + q; omega
   · have := s.txt g; show (quo w.t).length + p ≤ w.x + q; omega
end Go.Proofs.YthogheglddfniaaGreatDoor.Jx
namespace Go.Proofs.YthogheglddfniaaGreatDoor
open Num
namespace Jp
open Jx
theorem prts_app (o : Bool) (r : List J) (kr : List ByteArray) (ho : o = false → kr = []) : ∀ (js : List J) (ks : List ByteArray) (c : Bool), (o = true → ks.length = js.length) → (o = false → ks = []) → prts o c (js ++ r) (ks ++ kr) = prts o c js ks ++ prts o (c && js.isEmpty) r kr
 | [], ks, c, h1, h2 => by
  have : ks = [] := by
   cases o
   · exact h2 rfl
   · exact List.eq_nil_of_length_eq_zero (h1 rfl)
  subst this
  rw [prts_nil]; simp
 | j :: q, ks, c, h1, h2 => by
  cases o with
  | false =>
   obtain rfl := h2 rfl
   obtain rfl := ho rfl
   have ih := prts_app false r [] (fun _ => rfl) q [] false (fun e => by cases e) (fun _ => rfl)
   rw [List.cons_append, prts_cons, prts_cons]
   simp only [List.append_nil, List.tail_nil, Bool.false_and, List.append_assoc, List.isEmpty_cons, Bool.and_false] at ih ⊢
   rw [ih]
  | true =>
   cases ks with
   | nil => have := h1 rfl; simp at this
   | cons y z =>
    have ih := prts_app true r kr ho q z false (fun _ => by have := h1 rfl; simpa using this) (fun e => by cases e)
    rw [List.cons_append, List.cons_append, prts_cons, prts_cons]
    simp only [List.headD_cons, List.tail_cons, Bool.false_and, List.append_assoc, List.isEmpty_cons, Bool.and_false] at ih ⊢
    rw [ih]
structure Pd (o : Bool) (ks : List ByteArray) (js : List J) : Prop where
 len : o = true → ks.length = js.length
 nok : o = false → ks = []
 rt : ∀ x ∈ ks, (cU x.data.toList).isSome = true
 nd : ks.Nodup
 fm : J.frms js
 rg : J.rngs js
theorem Pd.nil (o : Bool) : Pd o [] [] := ⟨fun _ => rfl, fun _ => rfl, (fun _ h => by cases h), List.nodup_nil, J.frms_nil, J.rngs_nil⟩
theorem Pd.tree {o : Bool} {ks : List ByteArray} {js : List J} (h : Pd o ks js) : (J.mk (kindOf (endOf o)) 0 nil_ js ks).frm ∧ (J.mk (kindOf (endOf o)) 0 nil_ js ks).rng ∧ (prt (J.mk (kindOf (endOf o)) 0 nil_ js ks)).length = (prts o true js ks).length + 2 := by
 refine ⟨?_, ?_, ?_⟩
 · unfold J.frm
   cases o
   · exact ⟨by decide, by decide, fun _ _ => rfl, fun _ => .inl rfl, fun _ => rfl, by show (cU []).isSome = true; rw [cU_nil]; rfl, fun e => absurd e (by decide), fun _ => h.nok rfl, fun e => absurd e (by decide), h.rt, h.nd, h.fm⟩
   · exact ⟨by decide, by decide, fun _ _ => rfl, fun _ => .inl rfl, fun _ => rfl, by show (cU []).isSome = true; rw [cU_nil]; rfl, fun e => absurd e (by decide), fun e => absurd rfl e, fun _ => h.len rfl, h.rt, h.nd, h.fm⟩
 · unfold J.rng
   exact ⟨by decide, by decide, h.rg⟩
 · unfold prt
   cases o
   · rw [if_neg (by decide), if_neg (by decide), if_neg (by decide), if_neg (by decide), if_neg (by decide)]; simp
   · rw [if_neg (by decide), if_neg (by decide), if_neg (by decide), if_neg (by decide), if_pos (by decide)]; simp
def one (js : List J) : Nat := if js = [] then 0 else 1
theorem Pd.item4 {ks : List ByteArray} {js : List J} {j : J} (h : Pd false ks js) (hf : j.frm) (hr : j.rng) : Pd false ks (js ++ [j]) ∧ (prts false true (js ++ [j]) ks).length = (prts false true js ks).length + one js + (prt j).length := by
 refine ⟨⟨(fun e => by cases e), h.nok, h.rt, h.nd, J.frms_snoc h.fm hf, J.rngs_snoc h.rg hr⟩, ?_⟩
 obtain rfl := h.nok rfl
 have := prts_app false [j] [] (fun _ => rfl) js [] true (fun e => by cases e) (fun _ => rfl)
 rw [List.append_nil] at this
 rw [this, prts_cons, prts_nil]
 unfold one
 cases js <;> simp <;> omega
theorem Pd.item2 {ks : List ByteArray} {js : List J} {j : J} {k : ByteArray} (h : Pd true ks js) (hf : j.frm) (hr : j.rng) (hk : (cU k.data.toList).isSome = true) (hn : ¬ (place7 ks k).isSome = true) :
 Pd true (ks ++ [k]) (js ++ [j]) ∧ (prts true true (js ++ [j]) (ks ++ [k])).length = (prts true true js ks).length + one js + (quo k.data.toList).length + 1 + (prt j).length := by
 refine ⟨⟨fun _ => by simp [h.len rfl], (fun e => by cases e), fun x hx => ?_, ?_, J.frms_snoc h.fm hf, J.rngs_snoc h.rg hr⟩, ?_⟩
 · rcases List.mem_append.1 hx with g | g
   · exact h.rt x g
   · rw [List.mem_singleton.1 g]; exact hk
 · rw [List.nodup_append]
   refine ⟨h.nd, by simp, fun x hx y hy => ?_⟩
   rw [List.mem_singleton.1 hy]
   intro e
   subst e
   apply hn
   rw [← place7_any, List.any_eq_true]
   exact ⟨_, hx, by simp⟩
 · have := prts_app true [j] [k] (fun e => by cases e) js ks true (fun _ => h.len rfl) (fun e => by cases e)
   rw [this, prts_cons, prts_nil]
   unfold one
   cases js <;> simp <;> omega
def Wel (p : Nat) (r : R) : Prop := r.2.2 = 0 → r.1.frm ∧ r.1.rng ∧ (prt r.1).length + p ≤ r.2.1
theorem nxt_wel {r : R} {kn : List ByteArray} {o : Bool} {g : Nat} {l : List UInt8} {d : Nat} {js : List J} {L p : Nat} (hl : r.2.2 = 0 → r.2.1 ≤ l.length) (hg : r.2.2 = 0 → Pd o kn (js ++ [r.1]) ∧ (prts o true (js ++ [r.1]) kn).length + p ≤ L + r.2.1)
 (hi : ∀ q kn js, q ≤ l.length → Pd o kn js → (pits g l q d (endOf o) kn js).2.2 = 0 → (pits g l q d (endOf o) kn js).1.frm ∧ (pits g l q d (endOf o) kn js).1.rng ∧ (prt (pits g l q d (endOf o) kn js).1).length + q ≤ (prts o true js kn).length + one js + 1 + (pits g l q d (endOf o) kn js).2.1)
 (h : (nxt r kn (endOf o) g l d js).2.2 = 0) : (nxt r kn (endOf o) g l d js).1.frm ∧ (nxt r kn (endOf o) g l d js).1.rng ∧ (prt (nxt r kn (endOf o) g l d js).1).length + p ≤ L + 1 + (nxt r kn (endOf o) g l d js).2.1 := by
 unfold nxt at h ⊢
 by_cases g1 : r.2.2 = 0
 · rw [if_neg (fun h => h g1)] at h ⊢
   have ⟨pd, pl⟩ := hg g1
   by_cases g2 : (tak l r.2.1).2 = 0
   · rw [if_neg (fun h => h g2)] at h ⊢
     by_cases g3 : (tak l r.2.1).1.k = endOf o
     · rw [if_pos g3] at h ⊢
       have t := pd.tree
       have m := tak_more (hl g1) g2 (by rw [g3]; cases o <;> decide)
       refine ⟨t.1, t.2.1, ?_⟩
       rw [t.2.2]
       show _ ≤ L + 1 + (tak l r.2.1).1.x
       omega
     · rw [if_neg g3] at h ⊢
       by_cases g4 : (tak l r.2.1).1.k = 6
       · rw [if_neg (fun h => h g4)] at h ⊢
         have m := tak_more (hl g1) g2 (by omega)
         have i := hi _ _ _ m.2.1 pd h
         refine ⟨i.1, i.2.1, ?_⟩
         have o1 : one (js ++ [r.1]) = 1 := by unfold one; rw [if_neg (by simp)]
         rw [o1] at i
         omega
       · rw [if_pos g4] at h; cases h
   · rw [if_pos g2] at h; exact absurd h g2
 · rw [if_pos g1] at h; exact absurd h g1
theorem wel_all (f : Nat) : (∀ (l : List UInt8) (p d : Nat), p ≤ l.length → Wel p (pval f l p d)) ∧
 (∀ (l : List UInt8) (o : Bool) (d p : Nat) (ks : List ByteArray) (js : List J), p ≤ l.length → Pd o ks js → (pits f l p d (endOf o) ks js).2.2 = 0 → (pits f l p d (endOf o) ks js).1.frm ∧ (pits f l p d (endOf o) ks js).1.rng ∧ (prt (pits f l p d (endOf o) ks js).1).length + p ≤ (prts o true js ks).length + one js + 1 + (pits f l p d (endOf o) ks js).2.1) := by
 induction f with
 | zero =>
  refine ⟨fun l p d _ h => ?_, fun l o d p ks js _ _ h => ?_⟩
  · unfold pval at h; cases h
  · unfold pits at h; cases h
 | succ f ih =>
  refine ⟨fun l p d hp h => ?_, fun l o d p ks js hp hg h => ?_⟩
  · unfold pval at h ⊢
    by_cases h0 : (tak l p).2 = 0
    · rw [if_neg (fun h => h h0)] at h ⊢
      have fx := fine_x hp
      have sh := tak_short hp h0
      have fi := (tak_fine l p hp).1
      have nilU : (cU nil_.data.toList).isSome = true := by show (cU []).isSome = true; rw [cU_nil]; rfl
      by_cases h7 : (tak l p).1.k = 7
      · rw [if_pos h7]
        refine ⟨?_, ?_, ?_⟩
        · unfold J.frm
          refine ⟨by decide, by decide, fun e => absurd rfl e, fun _ => ?_, fun _ => rfl, nilU, fun _ => rfl, fun _ => rfl, fun e => absurd e (by decide), (fun _ h => by cases h), List.nodup_nil, J.frms_nil⟩
          rcases sh.tru h7 with e | e
          · exact .inl e.1
          · exact .inr e.1
        · unfold J.rng; exact ⟨fi.2.2.2.1, fi.2.2.2.2.1, J.rngs_nil⟩
        · show (prt (.mk 2 (tak l p).1.n nil_ [] [])).length + p ≤ (tak l p).1.x
          unfold prt
          rw [if_neg (by decide), if_pos rfl]
          rcases sh.tru h7 with ⟨a, b⟩ | ⟨a, b⟩
          · rw [if_pos a]; simpa [sF] using b
          · rw [if_neg (by omega)]; simpa [sT] using b
      · rw [if_neg h7] at h ⊢
        by_cases h8 : (tak l p).1.k = 8
        · rw [if_pos h8]
          refine ⟨?_, ?_, ?_⟩
          · unfold J.frm
            exact ⟨by decide, by decide, fun _ _ => rfl, fun _ => .inl rfl, fun _ => rfl, nilU, fun _ => rfl, fun _ => rfl, fun e => absurd e (by decide), (fun _ h => by cases h), List.nodup_nil, J.frms_nil⟩
          · unfold J.rng; exact ⟨by decide, by decide, J.rngs_nil⟩
          · show (prt (.mk 1 0 nil_ [] [])).length + p ≤ (tak l p).1.x
            unfold prt
            rw [if_pos rfl]
            simpa [sN] using sh.nul h8
        · rw [if_neg h8] at h ⊢
          by_cases h9 : (tak l p).1.k = 9
          · rw [if_pos h9]
            refine ⟨?_, ?_, ?_⟩
            · unfold J.frm
              exact ⟨by decide, by decide, fun _ e => absurd rfl e, fun e => absurd e (by decide), fun _ => rfl, nilU, fun _ => rfl, fun _ => rfl, fun e => absurd e (by decide), (fun _ h => by cases h), List.nodup_nil, J.frms_nil⟩
            · unfold J.rng; exact ⟨fi.2.2.2.1, fi.2.2.2.2.1, J.rngs_nil⟩
            · show (prt (.mk 3 (tak l p).1.n nil_ [] [])).length + p ≤ (tak l p).1.x
              unfold prt
              rw [if_neg (by decide), if_neg (by decide), if_pos rfl]
              exact sh.num h9
          · rw [if_neg h9] at h ⊢
            by_cases h10 : (tak l p).1.k = 10
            · rw [if_pos h10]
              have so : (str (tak l p).1.t).data.toList = (tak l p).1.t := by unfold str; simp
              refine ⟨?_, ?_, ?_⟩
              · unfold J.frm
                exact ⟨by decide, by decide, fun _ _ => rfl, fun e => absurd e (by decide), fun e => absurd rfl e, by rw [so]; exact tak_right h10, fun _ => rfl, fun _ => rfl, fun e => absurd e (by decide), (fun _ h => by cases h), List.nodup_nil, J.frms_nil⟩
              · unfold J.rng; exact ⟨by decide, by decide, J.rngs_nil⟩
              · show (prt (.mk 4 0 (str (tak l p).1.t) [] [])).length + p ≤ (tak l p).1.x
                unfold prt
                rw [if_neg (by decide), if_neg (by decide), if_neg (by decide), if_pos rfl, so]
                exact sh.txt h10
            · rw [if_neg h10] at h ⊢
              by_cases h13 : (tak l p).1.k = 1 ∨ (tak l p).1.k = 3
              · rw [if_pos h13] at h ⊢
                have m := tak_more hp h0 (by omega)
                obtain ⟨o, ho⟩ : ∃ o : Bool, endOf o = (tak l p).1.k + 1 := by
                 rcases h13 with e | e
                 · exact ⟨true, by rw [e]; rfl⟩
                 · exact ⟨false, by rw [e]; rfl⟩
                rw [← ho] at h ⊢
                by_cases h32 : d = 32
                · rw [if_pos h32] at h; cases h
                · rw [if_neg h32] at h ⊢
                  by_cases hz : (tak l (tak l p).1.x).2 = 0 ∧ (tak l (tak l p).1.x).1.k = endOf o
                  · rw [if_pos hz]
                    have m2 := tak_more fx hz.1 (by rw [hz.2]; cases o <;> decide)
                    have t := (Pd.nil o).tree
                    refine ⟨t.1, t.2.1, ?_⟩
                    show (prt (.mk (kindOf (endOf o)) 0 nil_ [] [])).length + p ≤ (tak l (tak l p).1.x).1.x
                    rw [t.2.2, prts_nil]
                    simp; omega
                  · rw [if_neg hz] at h ⊢
                    have i := ih.2 l o (d + 1) _ [] [] fx (Pd.nil o) h
                    refine ⟨i.1, i.2.1, ?_⟩
                    have := i.2.2
                    rw [prts_nil, show one [] = 0 from rfl] at this
                    simp at this; omega
              · rw [if_neg h13] at h; cases h
    · rw [if_pos h0] at h; exact absurd h h0
  · cases o with
    | true =>
     rw [show endOf true = 2 from rfl] at h ⊢
     by_cases h0 : (tak l p).2 = 0
     · rw [pits_2 f l p d ks js h0] at h ⊢
       have fx := fine_x hp
       refine nxt_wel (o := true) (fun hr => (kv_pos hp h0 hr).2) (fun hr => ?_) (fun q kn js hq hg => ih.2 l true d q kn js hq hg) h
       unfold kv at hr ⊢
       by_cases g1 : (tak l p).1.k = 10
       · rw [if_neg (fun h => h g1)] at hr ⊢
         by_cases g2 : (place7 ks (str (tak l p).1.t)).isSome = true
         · rw [if_pos g2] at hr; cases hr
         · rw [if_neg g2] at hr ⊢
           by_cases g3 : (tak l (tak l p).1.x).2 = 0
           · rw [if_neg (fun h => h g3)] at hr ⊢
             by_cases g4 : (tak l (tak l p).1.x).1.k = 5
             · rw [if_neg (fun h => h g4)] at hr ⊢
               have m2 := tak_more fx g3 (by omega)
               have i := ih.1 l _ d (fine_x fx) hr
               have so : (str (tak l p).1.t).data.toList = (tak l p).1.t := by unfold str; simp
               have k := hg.item2 (k := str (tak l p).1.t) i.1 i.2.1 (by rw [so]; exact tak_right g1) g2
               refine ⟨k.1, ?_⟩
               rw [k.2, so]
               have := (tak_short hp h0).txt g1
               omega
             · rw [if_pos g4] at hr; cases hr
           · rw [if_pos g3] at hr; exact absurd hr g3
       · rw [if_pos g1] at hr; cases hr
     · rw [pits, if_pos rfl, if_pos h0] at h; exact absurd h h0
    | false =>
     rw [show endOf false = 4 from rfl] at h ⊢
     rw [pits_4] at h ⊢
     refine nxt_wel (o := false) (fun hr => ((pos f).1 l p d hp hr).2) (fun hr => ?_) (fun q kn js hq hg => ih.2 l false d q kn js hq hg) h
     have i := ih.1 l p d hp hr
     have k := hg.item4 i.1 i.2.1
     refine ⟨k.1, ?_⟩
     rw [k.2]; omega
theorem parse_wel {l : List UInt8} (h : (parse l).2 = 0) : (parse l).1.frm ∧ (parse l).1.rng ∧ (prt (parse l).1).length ≤ l.length ∧ l.length ≤ 20000 := by
 unfold parse at h ⊢
 by_cases h0 : 20000 < l.length
 · rw [if_pos h0] at h; cases h
 · rw [if_neg h0] at h ⊢
   by_cases h1 : (pval (2 * l.length + 3) l 0 0).2.2 = 0
   · rw [if_neg (fun h => h h1)] at h ⊢
     have t := (wel_all _).1 l 0 0 (Nat.zero_le _) h1
     have ps := ((pos _).1 l 0 0 (Nat.zero_le _) h1).2
     by_cases h2 : (tak l (pval (2 * l.length + 3) l 0 0).2.1).2 = 0
     · rw [if_neg (fun h => h h2)] at h ⊢
       by_cases h3 : (tak l (pval (2 * l.length + 3) l 0 0).2.1).1.k = 11
       · rw [if_neg (fun h => h h3)]; exact ⟨t.1, t.2.1, by have := t.2.2; show (prt (pval (2 * l.length + 3) l 0 0).1).length ≤ l.length; omega, by omega⟩
       · rw [if_pos h3] at h; cases h
     · rw [if_pos h2] at h; exact absurd h h2
   · rw [if_pos h1] at h; exact absurd h h1
end Jp
end Go.Proofs.YthogheglddfniaaGreatDoor
namespace Go.Proofs.YthogheglddfniaaGreatDoor
open Go.ChangeShapes Go.WideShapes Go.ChangeAt Go.RowKit Mem
namespace Jp
open Jx
def pre (o : Bool) (its : List J) (ks : List ByteArray) (i : Nat) : List UInt8 := prts o true (its.take i) (ks.take i)
def key (o : Bool) (ks : List ByteArray) (i : Nat) : List UInt8 := if o then quo (ks.getD i nil_).data.toList ++ [58] else []
end Jp
end Go.Proofs.YthogheglddfniaaGreatDoor
namespace Go.Proofs.YthogheglddfniaaGreatDoor
open Go.ChangeShapes Go.WideShapes Go.ChangeAt Go.RowKit Mem
noncomputable def Jp.out (t : J) : List UInt8 × Nat := if t.rightb = true then if 20000 < (Jp.prt t).length then ([], 3) else (Jp.prt t, 0) else ([], 2)
end Go.Proofs.YthogheglddfniaaGreatDoor
namespace Go.Proofs.YthogheglddfniaaGreatDoor
namespace Jp
open Jx Num
theorem qb_ge : ∀ (s : List UInt8), s.length ≤ (qb s).length
 | [] => Nat.zero_le _
 | x :: r => by rw [qb_cons, List.length_append, List.length_cons]; have := qb_ge r; have := (qc_len x).1; omega
theorem quo_ge (s : ByteArray) : s.size + 2 ≤ (quo s.data.toList).length := by
 have := qb_ge s.data.toList
 have e : s.data.toList.length = s.size := by rw [Array.length_toList]; rfl
 simp only [quo, List.length_cons, List.length_append, List.length_nil]; omega
mutual
theorem wt_prt : ∀ (j : J), j.frm → j.wt ≤ (prt j).length
 | .mk k n t its ks, h => by
  unfold J.frm at h
  obtain ⟨k1, k6, hn, hb, ht, hct, hits, hks, hlen, hcu, hnd, hfs⟩ := h
  have z : (nil_).size = 0 := rfl
  unfold J.wt prt
  by_cases e1 : k = 1
  · subst e1
    obtain rfl := ht (by decide); obtain rfl := hits (by decide); obtain rfl := hks (by decide)
    rw [if_pos rfl]; decide
  · rw [if_neg e1]
    by_cases e2 : k = 2
    · subst e2
      obtain rfl := ht (by decide); obtain rfl := hits (by decide); obtain rfl := hks (by decide)
      rw [if_pos rfl]
      split <;> decide
    · rw [if_neg e2]
      by_cases e3 : k = 3
      · subst e3
        obtain rfl := ht (by decide); obtain rfl := hits (by decide); obtain rfl := hks (by decide)
        rw [if_pos rfl]
        have := nm_pos n
        simp only [kwt, J.wts, z]; omega
      · rw [if_neg e3]
        by_cases e4 : k = 4
        · subst e4
          obtain rfl := hits (by decide); obtain rfl := hks (by decide)
          rw [if_pos rfl]
          have := quo_ge t
          simp only [kwt, J.wts]; omega
        · rw [if_neg e4]
          obtain rfl := ht e4
          by_cases e6 : k = 6
          · have := wts_prts its true true ks hfs (fun _ => hlen e6) (fun e => by cases e)
            rw [if_pos e6]
            simp only [List.length_cons, List.length_append, List.length_nil, z]; omega
          · have := wts_prts its false true ks hfs (fun e => by cases e) (fun _ => hks e6)
            rw [if_neg e6]
            simp only [List.length_cons, List.length_append, List.length_nil, z]; omega
theorem wts_prts : ∀ (its : List J) (o c : Bool) (ks : List ByteArray), J.frms its → (o = true → ks.length = its.length) → (o = false → ks = []) → J.wts its + kwt ks ≤ (prts o c its ks).length
 | [], o, c, ks, _, h1, h2 => by
  have : ks = [] := by
   cases o
   · exact h2 rfl
   · exact List.eq_nil_of_length_eq_zero (h1 rfl)
  subst this
  simp [J.wts, kwt]
 | j :: r, o, c, ks, h, h1, h2 => by
  unfold J.frms at h
  have a := wt_prt j h.1
  rw [prts_cons]
  unfold J.wts
  cases o with
  | false =>
   obtain rfl := h2 rfl
   have b := wts_prts r false false [] h.2 (fun e => by cases e) (fun _ => rfl)
   simp only [List.length_append, List.tail_nil, kwt] at b ⊢
   omega
  | true =>
   cases ks with
   | nil => have := h1 rfl; simp at this
   | cons y q =>
    have b := wts_prts r true false q h.2 (fun _ => by have := h1 rfl; simpa using this) (fun e => by cases e)
    have := quo_ge y
    simp only [List.length_append, List.tail_cons, List.headD_cons, kwt, if_true, List.length_cons, List.length_nil] at b ⊢
    omega
end
theorem parse_out {l : List UInt8} (hl : l.length ≤ 2000) (h : (parse l).2 = 0) : (parse l).1.rng ∧ (parse l).1.wt ≤ 1000000 ∧ (parse l).1.deep ≤ 1000000 ∧ (parse l).1.rightb = true ∧ (prt (parse l).1).length ≤ l.length ∧ out (parse l).1 = (prt (parse l).1, 0) ∧ parse (prt (parse l).1) = ((parse l).1, 0) := by
 have a := parse_wel h
 have b := parse_snd h
 have w := wt_prt _ a.1
 have r : (parse l).1.rightb = true := J.rightb_iff.2 ⟨b.2, a.1⟩
 refine ⟨a.2.1, by omega, by have := b.2; omega, r, a.2.2.1, ?_, parse_prt a.1 a.2.1 b.2 (by omega)⟩
 unfold out
 rw [if_pos r, if_neg (by omega)]
end Jp
end Go.Proofs.YthogheglddfniaaGreatDoor
