/- Joined by tools/bundle.py: VInR Utf SCA. -/
import Derived.Deep.RegionHeldLaw
import Derived.Deep.LoopGhost
import Derived.BigQuiet
import Derived.Lib.SliceRun
import Derived.Test.YtpmgjpchpmkklaaGreatDoorT1
import Derived.Test.YtpmgjpchpmkklaaGreatDoorT3
import Derived.Test.YtpmgjpchpmkklaaGreatDoorT4
import Derived.Test.YtpmgjpchpmkklaaGreatDoorT0
set_option maxRecDepth 100000
set_option maxHeartbeats 16000000
namespace Go.Proofs.YtpmgjpchpmkklaaGreatDoor
open Go.RowKit Mem
mutual
/-- Each cell of a datum is one. -/
theorem lies_one {w : World} {S : Nat → Prop} : ∀ {d : D} {cs : List Value}, Lies w S d cs → ∀ u ∈ cs, u.oneCell' = true
 | .i _ _, _, h, u, hu => by rw [lies_i.1 h] at hu; rw [List.mem_singleton.1 hu]; rfl
 | .b _, _, h, u, hu => by rw [lies_b.1 h] at hu; rw [List.mem_singleton.1 hu]; rfl
 | .s _, _, h, u, hu => by rw [lies_s.1 h] at hu; rw [List.mem_singleton.1 hu]; rfl
 | .ag _, _, h, u, hu => liesA_one (lies_ag.1 h) u hu
 | .sl _ _, _, h, u, hu => by obtain ⟨A, c, e, _⟩ := lies_sl.1 h; rw [e] at hu; rw [List.mem_singleton.1 hu]; rfl
theorem liesA_one {w : World} {S : Nat → Prop} : ∀ {fs : List D} {cs : List Value}, LiesA w S fs cs → ∀ u ∈ cs, u.oneCell' = true
 | [], _, h, u, hu => by rw [liesA_nil.1 h] at hu; cases hu
 | d :: r, _, h, u, hu => by
  obtain ⟨c1, c2, e, h1, h2⟩ := liesA_cons.1 h
  rw [e] at hu
  rcases List.mem_append.1 hu with g | g
  · exact lies_one h1 u g
  · exact liesA_one h2 u g
end
section
variable {w w' : World} {S : Nat → Prop} {s : Nat}
theorem ElsS.one : ∀ {ds : List D} {xs : List Value}, ElsS w S s ds xs → ∀ u ∈ xs, u.oneCell' = true
 | [], _, h, u, hu => by have h : _ = _ := h; rw [h] at hu; cases hu
 | d :: r, _, ⟨c1, c2, e, _, h1, h2⟩, u, hu => by
  rw [e] at hu
  rcases List.mem_append.1 hu with g | g
  · exact lies_one h1 u g
  · exact ElsS.one h2 u g
theorem ElsS.len : ∀ {ds : List D} {xs : List Value}, ElsS w S s ds xs → xs.length = ds.length * s
 | [], _, h => by have h : _ = _ := h; rw [h]; simp
 | d :: r, _, ⟨c1, c2, e, hl, _, h2⟩ => by rw [e, List.length_append, hl, ElsS.len h2, List.length_cons, Nat.succ_mul, Nat.add_comm]
theorem RowD.els (hs : 0 < s) : ∀ {ds : List D} {A : Option Addr}, RowD w S s ds A → ∃ xs, ElsS w S s ds xs ∧ FlS w S A xs
 | [], _, _ => ⟨[], rfl, .inl rfl⟩
 | d :: r, A, h => by
  unfold RowD at h
  obtain ⟨g, off, cs, rfl, hg, hl, hc, h1, h2⟩ := h
  obtain ⟨xs, h3, h4⟩ := RowD.els hs h2
  refine ⟨cs ++ xs, ⟨cs, xs, rfl, hl, h1, h3⟩, .inr ⟨g, off, rfl, hg, fun k hk => ?_⟩⟩
  rcases Nat.lt_or_ge k s with q | q
  · rw [hc k q, List.getElem?_append_left (by omega)]
  · rw [List.length_append] at hk
    rw [List.getElem?_append_right (by omega)]
    rcases h4 with h4 | ⟨g', off', e, _, h4⟩
    · rw [h4] at hk; simp at hk; omega
    · simp only [Option.some.injEq, Addr.mk.injEq, and_true] at e
      obtain ⟨rfl, rfl⟩ := e
      rw [show off + k = off + s + (k - cs.length) by omega]
      exact h4 (k - cs.length) (by omega)
end
def InR (w : World) (l s g o : Nat) (ds rest : List D) : Prop :=
 ∃ (S : Nat → Prop) (xs ys : List Value), l ≤ g ∧ g < w.heap.size ∧ (∀ p : Addr, p.block = g → w.frozen? p = false) ∧ (∀ k, k < (xs ++ ys).length → w.cell? ⟨g, o + k, none⟩ = (xs ++ ys)[k]?) ∧ ElsS w S s ds xs ∧ ElsS w (· < l) s rest ys ∧ (∀ b, S b → l ≤ b ∧ b < w.heap.size ∧ b ≠ g) ∧ Unf w S
section
variable {w w' w1 w2 : World} {l s g o : Nat} {ds rest : List D}
theorem InR.block (h : InR w l s g o ds rest) : l ≤ g ∧ g < w.heap.size := by
 obtain ⟨_, _, _, h1, h2, _⟩ := h
 exact ⟨h1, h2⟩
theorem InR.fro (h : InR w l s g o ds rest) (k : Nat) : w.frozen? ⟨g, k, none⟩ = false := by
 obtain ⟨_, _, _, _, _, h3, _⟩ := h
 exact h3 _ rfl
theorem InR.below (h : InR w l s g o ds rest) (b : Below w.heap.size w w') : InR w' l s g o ds rest := by
 obtain ⟨S, xs, ys, h1, h2, h3, h4, h5, h6, h7, h8⟩ := h
 exact ⟨S, xs, ys, h1, Nat.lt_of_lt_of_le h2 b.size, fun p hp => (b.frozen (by rw [hp]; exact h2)).trans (h3 p hp), fun k hk => (b.cell (p := ⟨g, o + k, none⟩) h2).trans (h4 k hk),
  h5.keep (fun p hp => b.cell (h7 _ hp).2.1) fun _ h => h, h6.keep (fun p hp => b.cell (by omega)) fun _ h => h, fun k hk => ⟨(h7 k hk).1, Nat.lt_of_lt_of_le (h7 k hk).2.1 b.size, (h7 k hk).2.2⟩, h8.below (fun k hk => (h7 k hk).2.1) b⟩
theorem InR.start {e : TypeId} {xs : List Value} {n : Nat} {v : Value} (h : OwnR w l e s v n xs) (hn : 0 < n) (he : ElsS w (· < l) s rest xs) (hr : n = rest.length) : ∃ g o c, v = .slice (some ⟨g, o, none⟩) n c ∧ n ≤ c ∧ InR w l s g o [] rest := by
 obtain ⟨A, c, ev, hc, hf⟩ := h.fl
 rcases h.2 with ⟨_, h0⟩ | ⟨g, cap, cur, e1, hg, hh, _⟩
 · omega
 · have eA : A = some ⟨g, 0, none⟩ := by rw [ev] at e1; injection e1
   subst eA
   have hgs : g < w.heap.size := (Array.getElem?_eq_some_iff.1 hh).1
   refine ⟨g, 0, c, ev, hc, fun _ => False, [], xs, hg, hgs, fun p hp => ?_, fun k hk => ?_, rfl, he, fun _ h => h.elim, fun _ h => h.elim⟩
   · unfold World.frozen?; rw [hp, hh]; simp
   · rcases hf with hf | ⟨b, off, e2, _, hf⟩
     · rw [List.nil_append, hf] at hk; exact absurd hk (Nat.not_lt_zero _)
     · simp only [Option.some.injEq, Addr.mk.injEq, and_true] at e2
       obtain ⟨rfl, rfl⟩ := e2
       rw [List.nil_append]
       exact hf k (by simpa using hk)
theorem InR.head {d : D} (h : InR w l s g o ds (d :: rest)) : ∃ cs, cs.length = s ∧ (∀ i, i < s → w.cell? ⟨g, o + ds.length * s + i, none⟩ = cs[i]?) ∧ Lies w (· < l) d cs := by
 obtain ⟨S, xs, ys, h1, h2, h3, h4, h5, ⟨c1, c2, e, hl, hd, _⟩, h7, h8⟩ := h
 refine ⟨c1, hl, fun i hi => ?_, hd⟩
 have := h5.len
 have hk := h4 (ds.length * s + i) (by rw [e]; simp only [List.length_append]; omega)
 rw [Nat.add_assoc, hk, List.getElem?_append_right (by omega), e, List.getElem?_append_left (by omega), show ds.length * s + i - xs.length = i by omega]
theorem InR.put {d d0 : D} {cs : List Value} (h : InR w l s g o ds (d0 :: rest)) (b : Below w.heap.size w w1) (hd : NewD w1 w.heap.size d cs) (hcs : cs.length = s)
 (hc : ∀ p : Addr, p.block ≠ g → w2.cell? p = w1.cell? p) (hf : ∀ p, w2.frozen? p = w1.frozen? p) (hz : w2.heap.size = w1.heap.size)
 (hn : ∀ i, i < s → w2.cell? ⟨g, o + ds.length * s + i, none⟩ = cs[i]?) (ho : ∀ k, k < ds.length * s ∨ ds.length * s + s ≤ k → w2.cell? ⟨g, o + k, none⟩ = w1.cell? ⟨g, o + k, none⟩) : InR w2 l s g o (ds ++ [d]) rest := by
 have hl0 := (h.below b)
 obtain ⟨T, q1, q2, q3⟩ := hd
 obtain ⟨S', xs', ys', _, hgw, _⟩ := id h
 obtain ⟨S, xs, ys, h1, h2, h3, h4, h5, ⟨c1, c2, e, hl, _, h6⟩, h7, h8⟩ := hl0
 have hlen := h5.len
 -- S may be taken as one below w's size: by the first's own
 refine ⟨fun k => S k ∧ k < w1.heap.size ∨ T k, xs ++ cs, c2, h1, by rw [hz]; exact h2, fun p hp => (hf p).trans (h3 p hp), fun k hk => ?_, ?_, ?_, fun k hk => ?_, fun p hp => ?_⟩
 · rw [List.append_assoc]
   simp only [List.length_append] at hk
   rcases Nat.lt_or_ge k (ds.length * s) with q | q
   · rw [ho k (.inl q), h4 k (by rw [e]; simp only [List.length_append]; omega), List.getElem?_append_left (by omega), List.getElem?_append_left (by omega)]
   · rcases Nat.lt_or_ge k (ds.length * s + s) with p | p
     · have := hn (k - ds.length * s) (by omega)
       rw [show o + ds.length * s + (k - ds.length * s) = o + k by omega] at this
       rw [this, List.getElem?_append_right (by omega), List.getElem?_append_left (by omega), hlen]
     · rw [ho k (.inr p), h4 k (by rw [e]; simp only [List.length_append]; omega), e, List.getElem?_append_right (by omega), List.getElem?_append_right (by omega), List.getElem?_append_right (by omega), List.getElem?_append_right (by omega), hl, hcs]
 · refine ElsS.snoc hcs (q2.keep (fun p hp => hc p (fun e => ?_)) fun _ h => .inr h) (h5.keep (fun p hp => hc p (h7 _ hp).2.2) fun k h => .inl ⟨h, (h7 k h).2.1⟩)
   have := q1 _ hp; rw [e] at this; omega
 · exact h6.keep (fun p hp => hc p (by omega)) fun _ h => h
 · rcases hk with ⟨hk, _⟩ | hk
   · exact ⟨(h7 k hk).1, by rw [hz]; exact (h7 k hk).2.1, (h7 k hk).2.2⟩
   · have := q1 k hk
     exact ⟨by omega, by rw [hz]; exact this.2, by omega⟩
 · rcases hp with ⟨hp, _⟩ | hp
   · exact (hf p).trans (h8 p hp)
   · exact (hf p).trans (q3 p hp)
theorem InR.put1 {d d0 : D} {v0 : Value} {j : Nat} (h : InR w l 1 g o ds (d0 :: rest)) (hj : ds.length = j) (b : Below w.heap.size w w1) (hd : NewD w1 w.heap.size d [v0]) : InR (w1.setCell ⟨g, o + j, none⟩ v0) l 1 g o (ds ++ [d]) rest := by
 have hz : (w1.setCell ⟨g, o + j, none⟩ v0).heap.size = w1.heap.size := by simp [World.setCell]
 subst hj
 obtain ⟨cs, hl, hc, _⟩ := (h.below b).head
 refine h.put b hd rfl (fun p hp => World.cell?_setCell_other _ _ _ _ (fun e => hp (by rw [← e]))) (fun p => World.frozen?_setCell _ _ _ _) hz (fun i hi => ?_) fun k hk => ?_
 · obtain rfl : i = 0 := by omega
   rw [cell_set, if_pos ⟨rfl, by omega⟩]
   have := hc 0 (by omega)
   rw [Nat.mul_one, Nat.add_zero] at this
   rw [this, List.getElem?_eq_getElem (by omega)]; rfl
 · rw [cell_set, if_neg (by rintro ⟨_, e⟩; omega)]
theorem InR.put6 {d d0 : D} {v0 v1 v2 v3 v4 v5 : Value} {j : Nat} (h : InR w l 6 g o ds (d0 :: rest)) (hj : ds.length = j) (b : Below w.heap.size w w1) (hd : NewD w1 w.heap.size d [v0, v1, v2, v3, v4, v5]) :
 InR ((((((w1.setCell ⟨g, o + j * 6, none⟩ v0).setCell ⟨g, o + j * 6 + 1, none⟩ v1).setCell ⟨g, o + j * 6 + 2, none⟩ v2).setCell ⟨g, o + j * 6 + 3, none⟩ v3).setCell ⟨g, o + j * 6 + 4, none⟩ v4).setCell ⟨g, o + j * 6 + 5, none⟩ v5) l 6 g o (ds ++ [d]) rest := by
 subst hj
 obtain ⟨cs, hl, hc, _⟩ := (h.below b).head
 have ex : ∀ i, i < 6 → ∃ x, w1.cell? ⟨g, o + ds.length * 6 + i, none⟩ = some x := fun i hi => ⟨_, (hc i hi).trans (List.getElem?_eq_getElem (by omega))⟩
 generalize hm : o + ds.length * 6 = m at *
 obtain ⟨x0, e0⟩ := ex 0 (by omega)
 obtain ⟨x1, e1⟩ := ex 1 (by omega)
 obtain ⟨x2, e2⟩ := ex 2 (by omega)
 obtain ⟨x3, e3⟩ := ex 3 (by omega)
 obtain ⟨x4, e4⟩ := ex 4 (by omega)
 obtain ⟨x5, e5⟩ := ex 5 (by omega)
 rw [Nat.add_zero] at e0
 refine h.put b hd rfl (fun p hp => ?_) (fun p => ?_) (by simp [World.setCell]) (fun i hi => ?_) fun k hk => ?_
 · rw [World.cell?_setCell_other _ _ _ _ (fun e => hp (by rw [← e])), World.cell?_setCell_other _ _ _ _ (fun e => hp (by rw [← e])), World.cell?_setCell_other _ _ _ _ (fun e => hp (by rw [← e])), World.cell?_setCell_other _ _ _ _ (fun e => hp (by rw [← e])), World.cell?_setCell_other _ _ _ _ (fun e => hp (by rw [← e])), World.cell?_setCell_other _ _ _ _ (fun e => hp (by rw [← e]))]
 · simp only [World.frozen?_setCell]
 · rw [hm]
   obtain rfl | rfl | rfl | rfl | rfl | rfl : i = 0 ∨ i = 1 ∨ i = 2 ∨ i = 3 ∨ i = 4 ∨ i = 5 := by omega
   all_goals
    simp only [cell_set, Nat.add_zero, true_and, Nat.add_left_cancel_iff, e0, e1, e2, e3, e4, e5]
    simp
 · simp only [cell_set, true_and]
   rw [if_neg (by omega), if_neg (by omega), if_neg (by omega), if_neg (by omega), if_neg (by omega), if_neg (by omega)]
theorem InR.done (h : InR w l s g o ds []) : NewR w l s ds (some ⟨g, o, none⟩) := by
 obtain ⟨S, xs, ys, h1, h2, h3, h4, h5, h6, h7, h8⟩ := h
 have h6 : ys = [] := h6
 subst h6
 rw [List.append_nil] at h4
 refine ⟨fun b => S b ∨ b = g, fun b hb => ?_, ElsS.row (.inr rfl) (h5.keep (fun _ _ => rfl) fun _ h => .inl h) h4, fun p hp => ?_⟩
 · rcases hb with hb | rfl
   · exact ⟨(h7 b hb).1, (h7 b hb).2.1⟩
   · exact ⟨h1, h2⟩
 · rcases hp with hp | hp
   · exact h8 p hp
   · exact h3 p hp
end
end Go.Proofs.YtpmgjpchpmkklaaGreatDoor
namespace Go.Proofs.YtpmgjpchpmkklaaGreatDoor
open Go.ChangeShapes Go.WideShapes Go.ChangeAt Go.RowKit Mem
theorem asked_any (x : Nat) (h : x < 256) (w : World) : Calls Tryz.prog 90 #[.int .u8 (x : Int)] w fun e w' => e = .returned (.int .i64 (Num.ask x : Int)) ∧ w = w' := by
 have a := Num.ask_is x
 obtain ⟨k, hk⟩ : ∃ k, k = Num.ask x := ⟨_, rfl⟩
 rw [← hk] at a ⊢
 clear hk
 rcases a with ⟨rfl, a1 | ⟨a1, a2⟩⟩ | ⟨rfl, a1⟩ | ⟨rfl, a1, a2⟩ | ⟨rfl, a1, a2⟩ | ⟨rfl, a1, a2⟩
 all_goals
  go_enter Tryz.func90, Tryz.ntmps90
  go_wp2_with fail
  go_ret
  exact ⟨rfl, rfl⟩
theorem second_any (x : Nat) (w : World) : Calls Tryz.prog 91 #[.int .u8 (x : Int)] w fun e w' => e = .returned (.tuple #[.int .u8 (Num.lo x : Int), .int .u8 (Num.hi x : Int)]) ∧ w = w' := by
 by_cases h1 : x = 224
 · subst h1
   go_enter Tryz.func91, Tryz.ntmps91
   go_wp2_with fail
   go_ret2
   exact ⟨rfl, rfl⟩
 · by_cases h2 : x = 237
   · subst h2
     go_enter Tryz.func91, Tryz.ntmps91
     go_wp2_with fail
     go_ret2
     exact ⟨rfl, rfl⟩
   · by_cases h3 : x = 240
     · subst h3
       go_enter Tryz.func91, Tryz.ntmps91
       go_wp2_with fail
       go_ret2
       exact ⟨rfl, rfl⟩
     · by_cases h4 : x = 244
       · subst h4
         go_enter Tryz.func91, Tryz.ntmps91
         go_wp2_with fail
         go_ret2
         exact ⟨rfl, rfl⟩
       · have q1 : ((x : Int) == 224) = false := by simp; omega
         have q2 : ((x : Int) == 237) = false := by simp; omega
         have q3 : ((x : Int) == 240) = false := by simp; omega
         have q4 : ((x : Int) == 244) = false := by simp; omega
         have e1 : Num.lo x = 128 := by have := Num.lo_is x; omega
         have e2 : Num.hi x = 191 := by have := Num.hi_is x; omega
         rw [e1, e2]
         clear h1 h2 h3 h4 e1 e2
         go_enter Tryz.func91, Tryz.ntmps91
         go_wp2_with fail
         go_ret2
         exact ⟨rfl, rfl⟩
end Go.Proofs.YtpmgjpchpmkklaaGreatDoor
namespace Go.Proofs.YtpmgjpchpmkklaaGreatDoor
open Go.ChangeShapes Go.WideShapes Go.ChangeAt Go.RowKit Mem
def Fst (r : Nat × Nat × Nat) (w : World) (e : Ending) (w' : World) : Prop :=
 e = .returned (.tuple #[.int .i32 (r.1 : Int), .int .i64 (r.2.1 : Int), .int .i64 (r.2.2 : Int)]) ∧ Below w.heap.size w w'
def Gat (L : List UInt8) (s p f t a : Nat) : Prop := Num.fst L = Num.more (s - p) f t a s (L.drop p) ∧ ((p = 1 ∧ a < 128) ∨ (p = 2 ∧ a < 8192) ∨ (p = 3 ∧ a < 524288) ∨ (p = 4 ∧ a < 33554432))
theorem Gat.done {L : List UInt8} {s f t a : Nat} (h : Gat L s s f t a) : Num.fst L = (a, s, 0) := by
 have := h.1; rwa [Nat.sub_self, Num.more_zero] at this
theorem Gat.short {L : List UInt8} {s p f t a : Nat} (h : Gat L s p f t a) (hp : p < s) (hl : p = L.length) : Num.fst L = (0, 0, 10) := by rw [h.1]; exact Num.more_end (by omega) hl
theorem Gat.bad {L : List UInt8} {s p f t a X : Nat} (h : Gat L s p f t a) (hp : p < s) (hl : p < L.length) (hX : X = (L.getD p 0).toNat) (hy : X < f ∨ t < X) : Num.fst L = (0, 0, 11) := by
 rw [h.1]; exact Num.more_bad_at (by omega) hl hX hy
theorem Gat.go {L : List UInt8} {s p f t a X : Nat} (h : Gat L s p f t a) (hp : p < s) (hs : s ≤ 4) (hl : p < L.length) (hX : X = (L.getD p 0).toNat) (h1 : f ≤ X) (h2 : X ≤ t) (h3 : X - 128 < 64) : Gat L s (p + 1) 128 191 (a * 64 + (X - 128)) := by
 refine ⟨?_, ?_⟩
 · rw [h.1, Num.more_go_at (by omega) hl hX h1 h2, Nat.sub_sub]
 · have := h.2; omega
theorem Gat.lt {L : List UInt8} {s p f t a : Nat} (h : Gat L s p f t a) (hp : p < s) (hs : s ≤ 4) : a < 524288 := by have := h.2; omega
theorem gat_first {x : UInt8} {r : List UInt8} (h : Num.ask x.toNat ≠ 0) : Gat (x :: r) (Num.ask x.toNat) 1 (Num.lo x.toNat) (Num.hi x.toNat) (x.toNat - Num.mark (Num.ask x.toNat)) := by
 refine ⟨?_, ?_⟩
 · rw [Num.fst_cons, if_neg h]; rfl
 · have a := Num.ask_is x.toNat
   refine .inl ⟨rfl, ?_⟩
   rcases a with ⟨a, _⟩ | ⟨a, _⟩ | ⟨a, _⟩ | ⟨a, _⟩ | ⟨a, _⟩
   · omega
   · rw [a, show Num.mark 1 = 0 from rfl]; omega
   · rw [a, show Num.mark 2 = 192 from rfl]; omega
   · rw [a, show Num.mark 3 = 224 from rfl]; omega
   · rw [a, show Num.mark 4 = 240 from rfl]; omega
theorem first_any (A : Option Addr) (c : Nat) (l : List UInt8) (w : World) (hL : Laid w) (hb : Bys w w.heap.size A l) (hl : l.length ≤ 140000000000) :
 Calls Tryz.prog 74 #[.slice A l.length c] w (Fst (Num.fst l) w) := by
 cases l with
 | nil =>
  go_enter Tryz.func74, Tryz.ntmps74
  go_wp2_with fail
  go_ret3
  exact ⟨rfl, Below.refl _ _⟩
 | cons x r =>
  obtain ⟨b, off, rfl, hbB, hc⟩ : ∃ b off, A = some ⟨b, off, none⟩ ∧ b < w.heap.size ∧ ∀ k, k < (x :: r).length → w.cell? ⟨b, off + k, none⟩ = some (cel ((x :: r).getD k 0)) := by
   rcases hb with h | h
   · cases h
   · exact h
  have c0 := hc 0 (by simp)
  have lt := x.toNat_lt
  have gf := gat_first (x := x) (r := r)
  have z0 := fun h : Num.ask x.toNat = 0 => (by rw [Num.fst_cons, if_pos h] : Num.fst (x :: r) = (0, 0, 11))
  have ak := Num.ask_is x.toNat
  have lk := Num.lo_is x.toNat
  have hk := Num.hi_is x.toNat
  have mk : Num.mark (Num.ask x.toNat) ≤ x.toNat := by
   rcases ak with ⟨a, _⟩ | ⟨a, _⟩ | ⟨a, _⟩ | ⟨a, _⟩ | ⟨a, _⟩
   · rw [a, show Num.mark 0 = 0 from rfl]; omega
   · rw [a, show Num.mark 1 = 0 from rfl]; omega
   · rw [a, show Num.mark 2 = 192 from rfl]; omega
   · rw [a, show Num.mark 3 = 224 from rfl]; omega
   · rw [a, show Num.mark 4 = 240 from rfl]; omega
  have ask := asked_any x.toNat lt
  have sec := second_any x.toNat
  have lm := hL.2 (Num.ask x.toNat) (by omega)
  have len : 0 < (x :: r).length := by simp
  obtain ⟨L, hLL⟩ : ∃ L, L = x :: r := ⟨_, rfl⟩
  rw [← hLL] at hc c0 gf z0 hl len ⊢
  have e0 : L.getD 0 0 = x := by rw [hLL]; rfl
  rw [e0] at c0
  unfold cel at c0
  rw [Nat.add_zero] at c0
  clear hLL
  generalize x.toNat = X at *
  generalize Num.ask X = N at *
  generalize Num.mark N = M at *
  generalize Num.lo X = F at *
  generalize Num.hi X = T at *
  have N4 : N ≤ 4 := by omega
  have F1 : 128 ≤ F := by omega
  have F2 : F ≤ 160 := by omega
  have T1 : 143 ≤ T := by omega
  have T2 : T ≤ 191 := by omega
  have M1 : M ≤ X := by omega
  have HC := Lib.hid hc
  have ASK := Lib.hid ask
  have SEC := Lib.hid sec
  clear hc ask sec ak lk hk mk e0 hb
  by_cases h0 : N = 0
  · have Z := Lib.hid (z0 h0)
    subst h0
    clear z0 gf
    go_enter Tryz.func74, Tryz.ntmps74
    go_wp2_with fail
    refine (ASK.out _).mono ?_
    rintro e w' ⟨rfl, rfl⟩
    go_wp2_with fail
    go_ret3
    exact ⟨by rw [Z.out]; rfl, Below.refl _ _⟩
  · have G := Lib.hid (gf h0)
    have q0 : ((N : Int) == 0) = false := by simp; omega
    have i0 : (0 : Int) ≤ (N : Int) := by omega
    have i1 : (N : Int) < 5 := by omega
    have N1 : 1 ≤ N := by omega
    clear z0 gf h0
    go_enter Tryz.func74, Tryz.ntmps74
    go_wp2_with fail
    refine (ASK.out _).mono ?_
    rintro e w' ⟨rfl, rfl⟩
    go_wp2_with fail
    go_quiet (fail)
    go_wp2_with fail
    refine (SEC.out _).mono ?_
    rintro e w' ⟨rfl, rfl⟩
    go_wp2_with fail
    have xm : (X : Int) - (M : Int) = ((X - M : Nat) : Int) := by omega
    go_loop [2, 3, 5, 6, 7] (fun u s f t p => ∃ (p' f' t' a' : Nat), 1 ≤ p' ∧ p' ≤ N ∧ p' ≤ L.length ∧ f' ≤ 160 ∧ 128 ≤ f' ∧ t' ≤ 191 ∧ Hid (Gat L N p' f' t' a') ∧ u = .int .i32 (a' : Int) ∧ s = .int .i64 (N : Int) ∧ f = .int .u8 (f' : Int) ∧ t = .int .u8 (t' : Int) ∧ p = .int .i64 (p' : Int)) (fun _ _ _ _ p => N - (intOf p).toNat)
    case atStart => exact ⟨1, F, T, X - M, by omega, N1, len, F2, F1, T2, G, by rw [xm], rfl, rfl, rfl, rfl⟩
    case round =>
     obtain ⟨p, f, t, a, p1, pN, pL, f2, f1, t2, g, rfl, rfl, rfl, rfl, rfl⟩ := hrel
     clear xm
     by_cases hp : p = N
     · have Z := Lib.hid (Gat.done (hp ▸ g.out))
       have Lt : ¬ p < N := by omega
       clear hp
       go_wp2_with fail
       go_ret3
       exact ⟨by rw [Z.out]; rfl, bel_drewN (Below.refl _ _) nq⟩
     · have Lt : p < N := by omega
       by_cases hl2 : p = L.length
       · have Z := Lib.hid (Gat.short g.out (by omega) hl2)
         have q1 : ((p : Int) == (L.length : Int)) = true := by simp; omega
         clear hp hl2
         go_wp2_with fail
         go_ret3
         exact ⟨by rw [Z.out]; rfl, bel_drewN (Below.refl _ _) nq⟩
       · have pl : p < L.length := by omega
         have cp := HC.out p pl
         unfold cel at cp
         have lp := (L.getD p 0).toNat_lt
         have ag := Gat.lt g.out Lt N4
         have gb := Gat.bad g.out Lt pl rfl
         have gg := Gat.go g.out Lt N4 pl rfl
         generalize (L.getD p 0).toNat = Y at *
         by_cases hy : Y < f ∨ t < Y
         · have Z := Lib.hid (gb hy)
           clear gb gg hp hl2
           by_cases hy1 : Y < f
           · clear hy
             go_wp2_with fail
             go_ret3
             exact ⟨by rw [Z.out]; rfl, bel_drewN (Below.refl _ _) nq⟩
           · have hy2 : t < Y := by omega
             clear hy
             go_wp2_with fail
             go_ret3
             exact ⟨by rw [Z.out]; rfl, bel_drewN (Below.refl _ _) nq⟩
         · have y1 : ¬ Y < f := by omega
           have y2 : ¬ t < Y := by omega
           have GG := Lib.hid (gg (by omega) (by omega) (by omega))
           have y3 : (128 : Int) ≤ (Y : Int) := by omega
           clear gb gg hp hl2 hy
           go_wp2_with fail
           go_round
           case rel => exact ⟨p + 1, 128, 191, a * 64 + (Y - 128), by omega, by omega, by omega, by omega, by omega, by omega, GG, by congr 1; omega, rfl, rfl, rfl, by go_num⟩
           case measure => simp [intOf]; omega
def tk (l : List UInt8) (at_ : Int) : Nat × Int × Nat :=
 if at_ < 0 ∨ (l.length : Int) < at_ then (0, at_, 2)
 else ((Num.fst (l.drop at_.toNat)).1, at_ + ((Num.fst (l.drop at_.toNat)).2.1 : Int), (Num.fst (l.drop at_.toNat)).2.2)
end Go.Proofs.YtpmgjpchpmkklaaGreatDoor
namespace Go.Proofs.YtpmgjpchpmkklaaGreatDoor
open Go.ChangeShapes Go.WideShapes Go.ChangeAt Go.RowKit Mem
def rest : Nat → Nat → List UInt8
 | 0, _ => []
 | m + 1, c => UInt8.ofNat (128 + c / 64 ^ m % 64) :: rest m c
end Go.Proofs.YtpmgjpchpmkklaaGreatDoor
namespace Go.Proofs.YtpmgjpchpmkklaaGreatDoor
open Go.ChangeShapes Go.WideShapes Go.ChangeAt Go.RowKit Mem
def Cnt (l : List UInt8) (w : World) (e : Ending) (w' : World) : Prop :=
 e = .returned (.tuple #[.int .i64 (((Num.cU l).getD 0 : Nat) : Int), .int .i64 (if (Num.cU l).isSome then 0 else 11)]) ∧ Below w.heap.size w w'
def Left (L D : List UInt8) (p k : Nat) : Prop := D = L.drop p ∧ p ≤ L.length ∧ k ≤ p ∧ Num.cU L = (Num.cU D).map (· + k)
theorem Left.done {L D : List UInt8} {p k : Nat} (h : Left L D p k) (hd : D = []) : Num.cU L = some k := by
 rw [h.2.2.2, hd, Num.cU_nil]; simp
theorem Left.bad {L D : List UInt8} {p k : Nat} (h : Left L D p k) (hd : D ≠ []) (he : (Num.fst D).2.2 ≠ 0) : Num.cU L = none := by
 rw [h.2.2.2, Num.cU_bad hd he]; rfl
theorem Left.go {L D : List UInt8} {p k c n : Nat} (h : Left L D p k) (he : Num.fst D = (c, n, 0)) (hn : 0 < n) (hn2 : n ≤ D.length) : Left L (D.drop n) (p + n) (k + 1) := by
 have len : D.length = L.length - p := by rw [h.1, List.length_drop]
 refine ⟨by rw [h.1, List.drop_drop], by have := h.2.1; omega, by have := h.2.2.1; omega, ?_⟩
 rw [h.2.2.2, Num.cU_go he, Option.map_map]
 congr 1
 funext j
 simp; omega
theorem Count_any (A : Option Addr) (c : Nat) (l : List UInt8) (w : World) (hL : Laid w) (hb : Bys w w.heap.size A l) (hl : l.length ≤ 140000000000) (hc : l.length ≤ c) :
 Calls Tryz.prog 51 #[.slice A l.length c] w (Cnt l w) := by
 have start : Left l l 0 0 := ⟨rfl, Nat.zero_le _, Nat.le_refl _, by simp⟩
 have START := Lib.hid start
 clear start
 go_enter Tryz.func51, Tryz.ntmps51
 go_wp2_with fail
 go_loopw [0, 4] (fun sv u wr => ∃ (p k n c' : Nat) (A' : Option Addr) (D : List UInt8), Hid (Left l D p k) ∧ Hid (n = D.length) ∧ n ≤ l.length ∧ k ≤ l.length ∧ n ≤ c' ∧ sv = .slice A' n c' ∧ u = .int .i64 (k : Int) ∧ Bys wr w.heap.size A' D ∧ Below w.heap.size w wr) (fun _ u _ => l.length - (intOf u).toNat)
 case atStart => exact ⟨0, 0, l.length, c, A, l, START, rfl, Nat.le_refl _, Nat.zero_le _, hc, rfl, rfl, hb, Below.refl _ _⟩
 case round =>
  obtain ⟨p, k, n, c', A', D, H, hn, nl, kl, nc, rfl, rfl, hy, hbl⟩ := hrel
  have hL0 := hL.1
  have hLr := hL.below hbl hL0
  have kp : k ≤ p ∧ p ≤ l.length ∧ n + p = l.length := by
   have h1 := H.out; have h2 := hn.out; rw [h1.1, List.length_drop] at h2; exact ⟨h1.2.2.1, h1.2.1, by have := h1.2.1; omega⟩
  by_cases h0 : n = 0
  · have Z := Lib.hid (H.out.done (List.length_eq_zero_iff.1 (by have := hn.out; omega)))
    subst h0
    go_wp2_with fail
    go_ret2
    exact ⟨by rw [Z.out]; rfl, hbl⟩
  · have n0 : 0 < n := by omega
    have fa := first_any A' c' D wr hLr (hy.more hbl.size) (by have := hn.out; omega)
    rw [← hn.out] at fa
    have err := Num.fst_err D
    rw [← hn.out] at err
    have hD : D ≠ [] := by intro e; have := hn.out; rw [e] at this; simp at this; omega
    obtain ⟨⟨x, m, er⟩, hr⟩ : ∃ r, r = Num.fst D := ⟨_, rfl⟩
    rw [← hr] at fa err
    have FA := Lib.hid fa
    by_cases he : er = 0
    · subst he
      have hm : 0 < m ∧ m ≤ n := by
       rcases err with ⟨_, _, e, h1, _, h2⟩ | ⟨e, _⟩ | e
       · simp only [Prod.mk.injEq] at e; omega
       · simp at e
       · simp at e
      obtain ⟨m0, m1⟩ := hm
      have GO := Lib.hid (H.out.go hr.symm m0 (by have := hn.out; omega))
      have hcut := hy.cut m c' (by have := hn.out; omega)
      have HN : Hid (n - m = (D.drop m).length) := by unfold Hid; rw [List.length_drop, ← hn.out]
      clear hr fa err hD h0 hn H
      by_cases hck : c' = m
      · rw [if_pos hck] at hcut
        have HC := Lib.hid hcut
        obtain rfl : n = m := by omega
        obtain rfl : c' = n := hck
        clear hcut
        go_wp2_with fail
        refine FA.out.mono ?_
        rintro e w1 ⟨rfl, h1⟩
        go_wp2_with fail
        go_roundw
        case rel => exact ⟨_, k + 1, 0, 0, _, _, GO, (by have := HN.out; unfold Hid; omega), by omega, by omega, by omega, rfl, by go_num, HC.out.below (h1.mono hbl.size), hbl.trans (h1.mono hbl.size)⟩
        case measure => simp [intOf]; omega
      · rw [if_neg hck] at hcut
        have HC := Lib.hid hcut
        clear hcut
        go_wp2_with fail
        refine FA.out.mono ?_
        rintro e w1 ⟨rfl, h1⟩
        go_wp2_with fail
        go_roundw
        case rel => exact ⟨_, k + 1, _, _, _, _, GO, HN, by omega, by omega, by omega, rfl, by go_num, HC.out.below (h1.mono hbl.size), hbl.trans (h1.mono hbl.size)⟩
        case measure => simp [intOf]; omega
    · have Z := Lib.hid (H.out.bad hD (by rw [← hr]; exact he))
      have q1 : ((er : Int) == 0) = false := by simp; omega
      have q2 : ((er : Int) != 0) = true := by simp; omega
      clear hr fa err hD h0 hn H he
      go_wp2_with fail
      refine FA.out.mono ?_
      rintro e w1 ⟨rfl, h1⟩
      go_wp2_with fail
      go_ret2
      exact ⟨by rw [Z.out]; rfl, hbl.trans (h1.mono hbl.size)⟩
def Rgt (l : List UInt8) (w : World) (e : Ending) (w' : World) : Prop := e = .returned (.bool (Num.cU l).isSome) ∧ Below w.heap.size w w'
theorem Right_any (A : Option Addr) (c : Nat) (l : List UInt8) (w : World) (hL : Laid w) (hb : Bys w w.heap.size A l) (hl : l.length ≤ 140000000000) (hc : l.length ≤ c) :
 Calls Tryz.prog 27 #[.slice A l.length c] w (Rgt l w) := by
 have ca := Count_any A c l w hL hb hl hc
 obtain ⟨o, ho⟩ : ∃ o, o = Num.cU l := ⟨_, rfl⟩
 unfold Cnt at ca
 unfold Rgt
 rw [← ho] at ca ⊢
 clear ho
 have CA := Lib.hid ca
 clear ca
 cases o with
 | none =>
  go_enter Tryz.func27, Tryz.ntmps27
  go_wp2_with fail
  refine CA.out.mono ?_
  rintro e w1 ⟨rfl, h1⟩
  go_wp2_with fail
  go_ret
  exact ⟨rfl, h1⟩
 | some n =>
  go_enter Tryz.func27, Tryz.ntmps27
  go_wp2_with fail
  refine CA.out.mono ?_
  rintro e w1 ⟨rfl, h1⟩
  go_wp2_with fail
  go_ret
  exact ⟨rfl, h1⟩
def Sole (v : Value) (w : World) (e : Ending) (w' : World) : Prop := e = .returned v ∧ w' = w
theorem sNamed_pure (k : Int) (w : World) : Calls Tryz.prog 23 #[.int .i64 k] w (Sole (.bool (named k)) w) := by
 obtain ⟨b, hb⟩ : ∃ b, b = named k := ⟨_, rfl⟩
 rw [← hb]
 unfold named at hb
 by_cases h9 : k = 9
 · subst h9
   obtain rfl : b = true := by rw [hb]; decide
   clear hb
   go_enter Tryz.func23, Tryz.ntmps23
   go_wp2_with fail
   go_ret
   exact ⟨rfl, rfl⟩
 · have q9 : ((k : Int) == 9) = false := by rw [beq_eq_false_iff_ne]; exact h9
   by_cases h10 : k = 10
   · subst h10
     obtain rfl : b = true := by rw [hb]; decide
     clear hb q9
     go_enter Tryz.func23, Tryz.ntmps23
     go_wp2_with fail
     go_ret
     exact ⟨rfl, rfl⟩
   · have q10 : ((k : Int) == 10) = false := by rw [beq_eq_false_iff_ne]; exact h10
     by_cases h14 : k = 14
     · subst h14
       obtain rfl : b = true := by rw [hb]; decide
       clear hb q9 q10
       go_enter Tryz.func23, Tryz.ntmps23
       go_wp2_with fail
       go_ret
       exact ⟨rfl, rfl⟩
     · have q14 : ((k : Int) == 14) = false := by rw [beq_eq_false_iff_ne]; exact h14
       obtain rfl : b = false := by rw [hb, decide_eq_false_iff_not]; omega
       clear hb
       go_enter Tryz.func23, Tryz.ntmps23
       go_wp2_with fail
       go_ret
       exact ⟨rfl, rfl⟩
theorem sClone_any (l : List Int) (hs : l.length ≤ 100000000) (w : World) (A : Option Addr) (c : Nat) (h : RowD w (· < w.heap.size) 1 (l.map (D.i .i64)) A) :
 Calls Tryz.prog 83 #[.slice A l.length c] w (KidsA l w) := by
 have FL := Lib.hid (fls_fl (B := w.heap.size) (ints_fl h) (fun _ h => h))
 have nq := fun (A : Option Addr) (n c : Nat) (W : World) => Lib.run_eql_slice_nil (P := Tryz.prog) W 40 3 A n c 0 0 intT.sl
 cases A with
 | none =>
  obtain rfl : l = [] := by
   rcases l with _ | ⟨x, r⟩
   · rfl
   · obtain ⟨_, _, e, _⟩ := ints_at h (i := 0) (by simp)
     cases e
  clear h FL
  go_enter Tryz.func83, Tryz.ntmps83
  go_wp2_with fail
  go_ret
  exact kids_ret (OwnR.none_ _ w.heap.size 3 1) (Nat.le_refl _) rfl rfl (by decide) (Below.refl _ _)
 | some ad =>
  have W1 : Below w.heap.size w (w.alloc (.cells #[] 3)) := (Below.refl _ _).alloc (Nat.le_refl _) _
  have FW := Lib.hid (Fl.below FL.out W1)
  have O0 := Lib.hid (own_litR w 3 1 (Nat.le_refl w.heap.size))
  obtain ⟨n, hn⟩ : ∃ n, n = l.length := ⟨_, rfl⟩
  have HN := Lib.hid hn
  rw [← hn] at hs ⊢
  clear h FL hn
  go_enter Tryz.func83, Tryz.ntmps83
  go_wp2_with (at_builtin; refine wpList_appRs _ intT rfl (.tmp 5) (.tmp 6) rfl w.heap.size _ 0 _ rfl O0.out w.heap.size (some ad) n c (l.map (Value.int .i64)) rfl (by rw [List.length_map, HN.out]; omega) FW.out (by intro u hu; obtain ⟨x, _, rfl⟩ := List.mem_map.1 hu; rfl) (by omega) (by simp) ?_; intro v3 w3 o3 b3)
  go_ret
  exact kids_ret o3 (Nat.le_refl _) rfl (by rw [HN.out]; omega) (by rw [← HN.out]; omega) (W1.trans b3)
theorem sKids_9 (n : Nd) (hk : n.k = 9) (hs : n.fs.length ≤ 100000000) (w : World) (A2 A3 A4 A9 : Option Addr) (c2 c3 c4 c9 : Nat)
 (h : Lies w (· < w.heap.size) n.enc [.int .i64 n.k, .string n.name, .slice A2 n.al.length c2, .slice A3 n.fs.length c3, .slice A4 n.sy.length c4, .bool n.has, .string n.df, .int .i64 n.size, .int .i64 n.items, .slice A9 n.br.length c9]) :
 Calls Tryz.prog 64 #[.agg #[.int .i64 n.k, .string n.name, .slice A2 n.al.length c2, .slice A3 n.fs.length c3, .slice A4 n.sy.length c4, .bool n.has, .string n.df, .int .i64 n.size, .int .i64 n.items, .slice A9 n.br.length c9]] w (KidsA n.kids w) := by
 have CS := cell_set
 have ek : n.kids = n.fs.map Fd.ty := by unfold Nd.kids; rw [if_pos hk]
 obtain ⟨_, _, _, _, _, _, _, _, e, _, _, len3, row3, _, _, len9, row9⟩ := Nd.out.1 h
 simp only [List.cons.injEq, Value.slice.injEq, true_and, and_true] at e
 obtain ⟨⟨rfl, rfl⟩, ⟨rfl, rfl⟩, ⟨rfl, rfl⟩, rfl, rfl⟩ := e
 rw [ek, hk]
 have RW := Lib.hid row3
 obtain ⟨fs, hfs⟩ : ∃ fs, fs = n.fs := ⟨_, rfl⟩
 rw [← hfs] at hs RW ⊢
 obtain ⟨m, hm⟩ : ∃ m, m = fs.length := ⟨_, rfl⟩
 have HM := Lib.hid hm
 rw [← hm] at hs ⊢
 have W1 : Below w.heap.size w (w.alloc (.cells #[.int .i64 9, .string n.name, .slice A2 n.al.length c2, .slice A3 m c3, .slice A4 n.sy.length c4, .bool n.has, .string n.df, .int .i64 n.size, .int .i64 n.items, .slice A9 n.br.length c9] 42)) := (Below.refl _ _).alloc (Nat.le_refl _) _
 have gz : (w.alloc (.cells #[.int .i64 9, .string n.name, .slice A2 n.al.length c2, .slice A3 m c3, .slice A4 n.sy.length c4, .bool n.has, .string n.df, .int .i64 n.size, .int .i64 n.items, .slice A9 n.br.length c9] 42)).heap.size = w.heap.size + 1 := by simp
 have GZ := Lib.hid gz
 clear h row3 row9 hm hfs ek len3 len9 gz
 generalize n.al.length = e2 at *
 generalize n.sy.length = e4 at *
 generalize n.br.length = e9 at *
 have SZ : Hid (∀ (W : World) (o : Obj), (W.alloc o).heap.size = W.heap.size + 1) := fun W o => by simp
 have BK := Lib.hid (Blk.new w 42 #[.int .i64 9, .string n.name, .slice A2 e2 c2, .slice A3 m c3, .slice A4 e4 c4, .bool n.has, .string n.df, .int .i64 n.size, .int .i64 n.items, .slice A9 e9 c9])
 go_enter Tryz.func64, Tryz.ntmps64
 go_wp2_with (at_make; refine wpList_mkR0 _ intT rfl (.const (.int .i64 0)) (.tmp 12) rfl (w.heap.size + 1) _ m rfl rfl rfl (by omega) (by rw [GZ.out]; exact Nat.le_refl _) ?_; intro v0 w0 o0 b0; have z0 := b0.size; rw [GZ.out] at z0; have k3 := (b0.cell (p := ⟨w.heap.size, 3, none⟩) (Nat.lt_succ_self _)).trans ((BK.out).cell 3); simp at k3)
 go_loopw [17, 3] (fun t v wr => ∃ j : Nat, j ≤ m ∧ t = .int .i64 (j : Int) ∧ OwnR wr (w.heap.size + 1) 3 1 v j (((fs.take j).map Fd.ty).map (Value.int .i64)) ∧ Hid (Below (w.heap.size + 1) (w.alloc (.cells #[.int .i64 9, .string n.name, .slice A2 e2 c2, .slice A3 m c3, .slice A4 e4 c4, .bool n.has, .string n.df, .int .i64 n.size, .int .i64 n.items, .slice A9 e9 c9] 42)) wr)) (fun t _ _ => m - (intOf t).toNat)
 case atStart => exact ⟨0, Nat.zero_le _, rfl, o0, b0⟩
 case round =>
  obtain ⟨j, hj, rfl, ow, bl⟩ := hrel
  have bl2 := bl.out
  have z := bl2.size
  rw [GZ.out] at z
  have k3 := (bl2.cell (p := ⟨w.heap.size, 3, none⟩) (Nat.lt_succ_self _)).trans ((BK.out).cell 3)
  simp at k3
  by_cases hjm : j < m
  · have q : (j : Int) < (m : Int) := by omega
    obtain ⟨g, off, A1, c1, B3, d3, B4, d4, e, hg, ⟨f0, f1, f2, f3, f4, f5, f6, f7, f8⟩, _⟩ := fields_at RW.out (i := j) (by rw [← HM.out]; exact hjm)
    obtain rfl := e
    have hgw : g < w.heap.size := hg
    have y0 := (bl2.cell (p := ⟨g, off + j * 9, none⟩) (Nat.lt_succ_of_lt hgw)).trans ((W1.cell (p := ⟨g, off + j * 9, none⟩) hgw).trans f0)
    have y1 := (bl2.cell (p := ⟨g, off + j * 9 + 1, none⟩) (Nat.lt_succ_of_lt hgw)).trans ((W1.cell (p := ⟨g, off + j * 9 + 1, none⟩) hgw).trans f1)
    have y2 := (bl2.cell (p := ⟨g, off + j * 9 + 2, none⟩) (Nat.lt_succ_of_lt hgw)).trans ((W1.cell (p := ⟨g, off + j * 9 + 2, none⟩) hgw).trans f2)
    have y3 := (bl2.cell (p := ⟨g, off + j * 9 + 3, none⟩) (Nat.lt_succ_of_lt hgw)).trans ((W1.cell (p := ⟨g, off + j * 9 + 3, none⟩) hgw).trans f3)
    have y4 := (bl2.cell (p := ⟨g, off + j * 9 + 4, none⟩) (Nat.lt_succ_of_lt hgw)).trans ((W1.cell (p := ⟨g, off + j * 9 + 4, none⟩) hgw).trans f4)
    have y5 := (bl2.cell (p := ⟨g, off + j * 9 + 5, none⟩) (Nat.lt_succ_of_lt hgw)).trans ((W1.cell (p := ⟨g, off + j * 9 + 5, none⟩) hgw).trans f5)
    have y6 := (bl2.cell (p := ⟨g, off + j * 9 + 6, none⟩) (Nat.lt_succ_of_lt hgw)).trans ((W1.cell (p := ⟨g, off + j * 9 + 6, none⟩) hgw).trans f6)
    have y7 := (bl2.cell (p := ⟨g, off + j * 9 + 7, none⟩) (Nat.lt_succ_of_lt hgw)).trans ((W1.cell (p := ⟨g, off + j * 9 + 7, none⟩) hgw).trans f7)
    have y8 := (bl2.cell (p := ⟨g, off + j * 9 + 8, none⟩) (Nat.lt_succ_of_lt hgw)).trans ((W1.cell (p := ⟨g, off + j * 9 + 8, none⟩) hgw).trans f8)
    have TK : Hid ((fs.take (j + 1)).map Fd.ty = (fs.take j).map Fd.ty ++ [(fs[j]'(by rw [← HM.out]; exact hjm)).ty]) := by
     show _ = _
     rw [List.take_succ_eq_append_getElem (by rw [← HM.out]; exact hjm), List.map_append]; rfl
    generalize fs[j]'(by rw [← HM.out]; exact hjm) = F at *
    generalize F.al.length = l1 at *
    generalize F.df.its.length = l3 at *
    generalize F.df.ks.length = l4 at *
    clear f0 f1 f2 f3 f4 f5 f6 f7 f8
    have ow2 := ow.alloc (.cells #[.string F.name, .slice A1 l1 c1, .int .i64 F.ty, .bool F.has, .int .i64 F.df.k, .int .i64 F.df.n, .string F.df.t, .slice B3 l3 d3, .slice B4 l4 d4] 51)
    go_wp2_with (at_builtin; refine wpList_appR1 _ intT rfl (.tmp 21) (.tmp 24) rfl (w.heap.size + 1) _ j _ rfl ow2 1 #[.int .i64 F.ty] (by rw [SZ.out]; rfl) rfl (by simp [Value.oneCell']) (by omega) (by simp; omega) ?_; intro v3 w3 o3 b3 _)
    go_roundw
    case rel => exact ⟨j + 1, by omega, by go_num, by rw [TK.out, List.map_append]; exact o3, (bl2.alloc (by omega) _).trans b3⟩
    case measure => simp [intOf]; omega
  · obtain rfl : j = m := by omega
    have q : ¬ (j : Int) < (j : Int) := by omega
    have TK : fs.take j = fs := by rw [HM.out, List.take_length]
    rw [TK] at ow
    have OW := Lib.hid ow
    clear ow
    go_wp2_with fail
    go_ret
    exact kids_ret OW.out (Nat.le_succ _) rfl (by rw [List.length_map]; exact HM.out) (by rw [List.length_map, ← HM.out]; omega) (W1.trans (bl2.mono (Nat.le_succ _)))
theorem sKids_11 (n : Nd) (hk : n.k = 11) (w : World) (A2 A3 A4 A9 : Option Addr) (c2 c3 c4 c9 : Nat)
 (h : Lies w (· < w.heap.size) n.enc [.int .i64 n.k, .string n.name, .slice A2 n.al.length c2, .slice A3 n.fs.length c3, .slice A4 n.sy.length c4, .bool n.has, .string n.df, .int .i64 n.size, .int .i64 n.items, .slice A9 n.br.length c9]) :
 Calls Tryz.prog 64 #[.agg #[.int .i64 n.k, .string n.name, .slice A2 n.al.length c2, .slice A3 n.fs.length c3, .slice A4 n.sy.length c4, .bool n.has, .string n.df, .int .i64 n.size, .int .i64 n.items, .slice A9 n.br.length c9]] w (KidsA n.kids w) := by
 have CS := cell_set
 have ek : n.kids = [n.items] := by unfold Nd.kids; rw [if_neg (by omega), if_pos (by omega)]
 obtain ⟨_, _, _, _, _, _, _, _, e, _, _, len3, row3, _, _, len9, row9⟩ := Nd.out.1 h
 simp only [List.cons.injEq, Value.slice.injEq, true_and, and_true] at e
 obtain ⟨⟨rfl, rfl⟩, ⟨rfl, rfl⟩, ⟨rfl, rfl⟩, rfl, rfl⟩ := e
 rw [ek, hk]
 clear h row3 row9 ek len3 len9
 have W1 : Below w.heap.size w (w.alloc (.cells #[.int .i64 11, .string n.name, .slice A2 n.al.length c2, .slice A3 n.fs.length c3, .slice A4 n.sy.length c4, .bool n.has, .string n.df, .int .i64 n.size, .int .i64 n.items, .slice A9 n.br.length c9] 42)) := (Below.refl _ _).alloc (Nat.le_refl _) _
 have W2 : Below w.heap.size w ((w.alloc (.cells #[.int .i64 11, .string n.name, .slice A2 n.al.length c2, .slice A3 n.fs.length c3, .slice A4 n.sy.length c4, .bool n.has, .string n.df, .int .i64 n.size, .int .i64 n.items, .slice A9 n.br.length c9] 42)).alloc (.cells #[.int .i64 n.items] 3)) := W1.alloc (by simp) _
 have BK := Lib.hid (Blk.new (w.alloc (.cells #[.int .i64 11, .string n.name, .slice A2 n.al.length c2, .slice A3 n.fs.length c3, .slice A4 n.sy.length c4, .bool n.has, .string n.df, .int .i64 n.size, .int .i64 n.items, .slice A9 n.br.length c9] 42)) 3 #[.int .i64 n.items])
 go_enter Tryz.func64, Tryz.ntmps64
 go_wp2_with fail
 go_ret
 refine ⟨_, _, rfl, ⟨Nat.le_refl _, by unfold maxLen; simp⟩, row_ints (.inr ⟨_, 0, rfl, ⟨by simp, by simp⟩, fun k hk => ?_⟩), W2⟩
 have hk0 : k = 0 := by simpa using hk
 subst hk0
 have z := (BK.out).cell 0
 simp at z ⊢
 try exact z
theorem sKids_12 (n : Nd) (hk : n.k = 12) (w : World) (A2 A3 A4 A9 : Option Addr) (c2 c3 c4 c9 : Nat)
 (h : Lies w (· < w.heap.size) n.enc [.int .i64 n.k, .string n.name, .slice A2 n.al.length c2, .slice A3 n.fs.length c3, .slice A4 n.sy.length c4, .bool n.has, .string n.df, .int .i64 n.size, .int .i64 n.items, .slice A9 n.br.length c9]) :
 Calls Tryz.prog 64 #[.agg #[.int .i64 n.k, .string n.name, .slice A2 n.al.length c2, .slice A3 n.fs.length c3, .slice A4 n.sy.length c4, .bool n.has, .string n.df, .int .i64 n.size, .int .i64 n.items, .slice A9 n.br.length c9]] w (KidsA n.kids w) := by
 have CS := cell_set
 have ek : n.kids = [n.items] := by unfold Nd.kids; rw [if_neg (by omega), if_pos (by omega)]
 obtain ⟨_, _, _, _, _, _, _, _, e, _, _, len3, row3, _, _, len9, row9⟩ := Nd.out.1 h
 simp only [List.cons.injEq, Value.slice.injEq, true_and, and_true] at e
 obtain ⟨⟨rfl, rfl⟩, ⟨rfl, rfl⟩, ⟨rfl, rfl⟩, rfl, rfl⟩ := e
 rw [ek, hk]
 clear h row3 row9 ek len3 len9
 have W1 : Below w.heap.size w (w.alloc (.cells #[.int .i64 12, .string n.name, .slice A2 n.al.length c2, .slice A3 n.fs.length c3, .slice A4 n.sy.length c4, .bool n.has, .string n.df, .int .i64 n.size, .int .i64 n.items, .slice A9 n.br.length c9] 42)) := (Below.refl _ _).alloc (Nat.le_refl _) _
 have W2 : Below w.heap.size w ((w.alloc (.cells #[.int .i64 12, .string n.name, .slice A2 n.al.length c2, .slice A3 n.fs.length c3, .slice A4 n.sy.length c4, .bool n.has, .string n.df, .int .i64 n.size, .int .i64 n.items, .slice A9 n.br.length c9] 42)).alloc (.cells #[.int .i64 n.items] 3)) := W1.alloc (by simp) _
 have BK := Lib.hid (Blk.new (w.alloc (.cells #[.int .i64 12, .string n.name, .slice A2 n.al.length c2, .slice A3 n.fs.length c3, .slice A4 n.sy.length c4, .bool n.has, .string n.df, .int .i64 n.size, .int .i64 n.items, .slice A9 n.br.length c9] 42)) 3 #[.int .i64 n.items])
 go_enter Tryz.func64, Tryz.ntmps64
 go_wp2_with fail
 go_ret
 refine ⟨_, _, rfl, ⟨Nat.le_refl _, by unfold maxLen; simp⟩, row_ints (.inr ⟨_, 0, rfl, ⟨by simp, by simp⟩, fun k hk => ?_⟩), W2⟩
 have hk0 : k = 0 := by simpa using hk
 subst hk0
 have z := (BK.out).cell 0
 simp at z ⊢
 try exact z
theorem sKids_13 (n : Nd) (hk : n.k = 13) (hs : n.br.length ≤ 100000000) (w : World) (A2 A3 A4 A9 : Option Addr) (c2 c3 c4 c9 : Nat)
 (h : Lies w (· < w.heap.size) n.enc [.int .i64 n.k, .string n.name, .slice A2 n.al.length c2, .slice A3 n.fs.length c3, .slice A4 n.sy.length c4, .bool n.has, .string n.df, .int .i64 n.size, .int .i64 n.items, .slice A9 n.br.length c9]) :
 Calls Tryz.prog 64 #[.agg #[.int .i64 n.k, .string n.name, .slice A2 n.al.length c2, .slice A3 n.fs.length c3, .slice A4 n.sy.length c4, .bool n.has, .string n.df, .int .i64 n.size, .int .i64 n.items, .slice A9 n.br.length c9]] w (KidsA n.kids w) := by
 have CS := cell_set
 have ek : n.kids = n.br := by unfold Nd.kids; rw [if_neg (by omega), if_neg (by omega), if_pos hk]
 obtain ⟨_, _, _, _, _, _, _, _, e, _, _, len3, row3, _, _, len9, row9⟩ := Nd.out.1 h
 simp only [List.cons.injEq, Value.slice.injEq, true_and, and_true] at e
 obtain ⟨⟨rfl, rfl⟩, ⟨rfl, rfl⟩, ⟨rfl, rfl⟩, rfl, rfl⟩ := e
 rw [ek, hk]
 have W1 : Below w.heap.size w (w.alloc (.cells #[.int .i64 13, .string n.name, .slice A2 n.al.length c2, .slice A3 n.fs.length c3, .slice A4 n.sy.length c4, .bool n.has, .string n.df, .int .i64 n.size, .int .i64 n.items, .slice A9 n.br.length c9] 42)) := (Below.refl _ _).alloc (Nat.le_refl _) _
 have CL := Lib.hid (sClone_any n.br hs (w.alloc (.cells #[.int .i64 13, .string n.name, .slice A2 n.al.length c2, .slice A3 n.fs.length c3, .slice A4 n.sy.length c4, .bool n.has, .string n.df, .int .i64 n.size, .int .i64 n.items, .slice A9 n.br.length c9] 42)) A9 c9 (row9.on W1))
 clear h row3 row9 ek len3 len9
 go_enter Tryz.func64, Tryz.ntmps64
 go_wp2_with fail
 with_reducible refine CL.out.mono ?_
 rintro e w3 ⟨A, c, rfl, hl, hr, b3⟩
 have HR := Lib.hid hr
 clear hr
 go_wp2_with fail
 go_ret
 refine ⟨A, c, rfl, hl, (HR.out).keep (fun _ _ => rfl) fun g hg => ⟨by have := hg.1; simp at this; omega, hg.2⟩, W1.trans (b3.mono (by simp))⟩
theorem sKids_0 (n : Nd) (h9 : n.k ≠ 9) (h11 : n.k ≠ 11) (h12 : n.k ≠ 12) (h13 : n.k ≠ 13) (w : World) (A2 A3 A4 A9 : Option Addr) (c2 c3 c4 c9 : Nat)
 (h : Lies w (· < w.heap.size) n.enc [.int .i64 n.k, .string n.name, .slice A2 n.al.length c2, .slice A3 n.fs.length c3, .slice A4 n.sy.length c4, .bool n.has, .string n.df, .int .i64 n.size, .int .i64 n.items, .slice A9 n.br.length c9]) :
 Calls Tryz.prog 64 #[.agg #[.int .i64 n.k, .string n.name, .slice A2 n.al.length c2, .slice A3 n.fs.length c3, .slice A4 n.sy.length c4, .bool n.has, .string n.df, .int .i64 n.size, .int .i64 n.items, .slice A9 n.br.length c9]] w (KidsA n.kids w) := by
 have CS := cell_set
 have ek : n.kids = [] := by unfold Nd.kids; rw [if_neg h9, if_neg (by omega), if_neg h13]
 obtain ⟨_, _, _, _, _, _, _, _, e, _, _, len3, row3, _, _, len9, row9⟩ := Nd.out.1 h
 simp only [List.cons.injEq, Value.slice.injEq, true_and, and_true] at e
 obtain ⟨⟨rfl, rfl⟩, ⟨rfl, rfl⟩, ⟨rfl, rfl⟩, rfl, rfl⟩ := e
 rw [ek]
 obtain ⟨k, hk⟩ : ∃ k, k = n.k := ⟨_, rfl⟩
 rw [← hk] at h9 h11 h12 h13 ⊢
 have q9 : ((k : Int) == 9) = false := by rw [beq_eq_false_iff_ne]; exact h9
 have q11 : ((k : Int) == 11) = false := by rw [beq_eq_false_iff_ne]; exact h11
 have q12 : ((k : Int) == 12) = false := by rw [beq_eq_false_iff_ne]; exact h12
 have q13 : ((k : Int) == 13) = false := by rw [beq_eq_false_iff_ne]; exact h13
 have W1 : Below w.heap.size w (w.alloc (.cells #[.int .i64 k, .string n.name, .slice A2 n.al.length c2, .slice A3 n.fs.length c3, .slice A4 n.sy.length c4, .bool n.has, .string n.df, .int .i64 n.size, .int .i64 n.items, .slice A9 n.br.length c9] 42)) := (Below.refl _ _).alloc (Nat.le_refl _) _
 clear h row3 row9 ek len3 len9 hk h9 h11 h12 h13
 go_enter Tryz.func64, Tryz.ntmps64
 go_wp2_with fail
 go_ret
 exact kids_ret (OwnR.none_ _ w.heap.size 3 1) (Nat.le_refl _) rfl rfl (by decide) W1
theorem sKids_any (n : Nd) (h3 : n.fs.length ≤ 100000000) (h9 : n.br.length ≤ 100000000) (w : World) (A2 A3 A4 A9 : Option Addr) (c2 c3 c4 c9 : Nat)
 (h : Lies w (· < w.heap.size) n.enc [.int .i64 n.k, .string n.name, .slice A2 n.al.length c2, .slice A3 n.fs.length c3, .slice A4 n.sy.length c4, .bool n.has, .string n.df, .int .i64 n.size, .int .i64 n.items, .slice A9 n.br.length c9]) :
 Calls Tryz.prog 64 #[.agg #[.int .i64 n.k, .string n.name, .slice A2 n.al.length c2, .slice A3 n.fs.length c3, .slice A4 n.sy.length c4, .bool n.has, .string n.df, .int .i64 n.size, .int .i64 n.items, .slice A9 n.br.length c9]] w (KidsA n.kids w) := by
 by_cases k9 : n.k = 9
 · exact sKids_9 n k9 h3 w A2 A3 A4 A9 c2 c3 c4 c9 h
 · by_cases k11 : n.k = 11
   · exact sKids_11 n k11 w A2 A3 A4 A9 c2 c3 c4 c9 h
   · by_cases k12 : n.k = 12
     · exact sKids_12 n k12 w A2 A3 A4 A9 c2 c3 c4 c9 h
     · by_cases k13 : n.k = 13
       · exact sKids_13 n k13 h9 w A2 A3 A4 A9 c2 c3 c4 c9 h
       · exact sKids_0 n k9 k11 k12 k13 w A2 A3 A4 A9 c2 c3 c4 c9 h
end Go.Proofs.YtpmgjpchpmkklaaGreatDoor
