/- Joined by tools/bundle.py: DvS VEl Mkr GatX Zig Prom SCA JRef. -/
import Derived.Test.YthfoomobicbcpaaGreatDoorRows
import Derived.WalkKit
import Derived.ProofKit
import Derived.OpenShut
import Derived.Deep.QuietTactic
import Derived.BigQuiet
import Derived.Lib.Hide
import Derived.WalkMore
import Derived.Deep.LoopGhost
import Derived.Lib.SliceRun
import Derived.Test.YthfoomobicbcpaaGreatDoorZ1
import Derived.Test.YthfoomobicbcpaaGreatDoorZ3
import Derived.Test.YthfoomobicbcpaaGreatDoorZ4
import Derived.Test.YthfoomobicbcpaaGreatDoorZ6
import Derived.Test.YthfoomobicbcpaaGreatDoorZ0
set_option maxRecDepth 100000
set_option maxHeartbeats 16000000
namespace Go.Proofs.YthfoomobicbcpaaGreatDoor
open Go.RowKit Mem
theorem dleaf_is {s : Sc} (hs : s.right) {p : Nat} (hp : p < s.nodes.length) {j : J} (hj : JG j) (hk : j.k = askedK (s.nodes[p]'hp).k) (hl : ¬ deepK (s.nodes[p]'hp).k) {v : V} (h : dleaf (s.nodes[p]'hp) j = some v) : V.is s v (p : Int) ∧ v.deep = 0 := by
 have ok := hs.2.1 _ (List.getElem_mem hp)
 have k1 := ok.1
 have k14 := ok.2.1
 have hs14 : (s.nodes[p]'hp).k = 14 → (s.nodes[p]'hp).size ≤ 1000 := fun e => by have := ok.2.2.2.2.2.1; rw [if_pos e] at this; exact this.2
 have hf : j.frm := hj.1.resolve_right fun e => by
  subst e
  have : (0 : Int) = askedK (s.nodes[p]'hp).k := hk
  unfold askedK at this
  repeat' split at this
  all_goals omega
 obtain ⟨f1, f2, f3, f4, f5, f6, f7, f8, f9⟩ := J.frm_out hf
 have hr := J.rng_out hj.2.1
 unfold I64 at hr
 have hL := fun k n bt bs (e : k = (s.nodes[p]'hp).k) (g : ¬ deepK k) => (V.is_leaf hp (k := k) (n := n) (bt := bt) (bs := bs) (its := []) (ks := []) hs14 e (by unfold deepK at g; exact g)).2
 generalize s.nodes[p]'hp = nd at *
 have dp : ∀ {k n bt : Int} {bs : List UInt8}, ¬ deepK k → (V.mk k n bt bs [] []).deep = 0 := fun g => V.deep_out g
 unfold dleaf at h
 by_cases ht : textK nd.k
 · rw [if_pos ht] at h
   have e4 : j.k = 4 := by
    rw [hk]; unfold askedK; unfold textK at ht
    rw [if_neg (by omega), if_neg (by omega), if_neg (by omega), if_neg (by omega), if_neg (by omega)]
   unfold dtextV at h
   by_cases h10 : nd.k = 10
   · rw [if_pos h10] at h
     cases hp : place7 nd.sy j.t with
     | none => rw [hp] at h; cases h
     | some i =>
      rw [hp] at h; cases h
      have := place7_lt hp
      have g : ¬ deepK 10 := by decide
      exact ⟨hL _ _ _ _ h10.symm g ⟨by unfold VJust; simp, (fun e => by cases e), (fun e => by cases e), (fun _ => by omega), (fun e => by cases e), (fun e => by cases e), (fun e => by cases e), (fun e => by cases e)⟩, dp g⟩
   rw [if_neg h10] at h
   by_cases h8 : nd.k = 8
   · rw [if_pos h8] at h
     split at h
     next hz =>
      cases h
      have g : ¬ deepK 8 := by decide
      have e : j.t.data.toList.length = j.t.size := by simp
      exact ⟨hL _ _ _ _ h8.symm g ⟨by unfold VJust; simp, (fun e => by cases e), (fun e => by cases e), (fun e => by cases e), (fun e => by cases e), (fun e => by cases e), (fun _ => ⟨f5, by omega⟩), (fun e => by cases e)⟩, dp g⟩
     next => cases h
   rw [if_neg h8] at h
   by_cases h7 : nd.k = 7
   · rw [if_pos h7] at h
     cases hp : octsT 20000 j.t with
     | none => rw [hp] at h; cases h
     | some l =>
      rw [hp] at h; cases h
      have := octsT_len hp
      have g : ¬ deepK 7 := by decide
      exact ⟨hL _ _ _ _ h7.symm g ⟨by unfold VJust; simp, (fun e => by cases e), (fun e => by cases e), (fun e => by cases e), (fun e => by cases e), (fun _ => this.1), (fun e => by cases e), (fun e => by cases e)⟩, dp g⟩
   rw [if_neg h7] at h
   have h14 : nd.k = 14 := by unfold textK at ht; omega
   cases hp : octsT nd.size.toNat j.t with
   | none => rw [hp] at h; cases h
   | some l =>
    rw [hp] at h
    simp only [Option.bind_some] at h
    split at h
    next hz =>
     cases h
     have g : ¬ deepK 14 := by decide
     exact ⟨hL _ _ _ _ h14.symm g ⟨by unfold VJust; simp, (fun e => by cases e), (fun e => by cases e), (fun e => by cases e), (fun e => by cases e), (fun e => by cases e), (fun e => by cases e), (fun _ => hz)⟩, dp g⟩
    next => cases h
 rw [if_neg ht] at h
 have g : ¬ deepK nd.k := hl
 unfold textK at ht
 unfold deepK at hl
 unfold dnumV at h
 by_cases h5 : nd.k = 5
 · rw [if_pos h5] at h; cases h
   have := Fp.fp32_lt j.n hr.1.1 hr.1.2
   have g : ¬ deepK 5 := by decide
   exact ⟨hL _ _ _ _ h5.symm g ⟨by unfold VJust; simp, (fun e => by cases e), (fun e => by cases e), (fun e => by cases e), (fun _ => by omega), (fun e => by cases e), (fun e => by cases e), (fun e => by cases e)⟩, dp g⟩
 rw [if_neg h5] at h
 by_cases h6 : nd.k = 6
 · rw [if_pos h6] at h; cases h
   have g : ¬ deepK 6 := by decide
   exact ⟨hL _ _ _ _ h6.symm g ⟨by unfold VJust; simp, (fun e => by cases e), (fun e => by cases e), (fun e => by cases e), (fun e => by cases e), (fun e => by cases e), (fun e => by cases e), (fun e => by cases e)⟩, dp g⟩
 rw [if_neg h6] at h
 split at h
 · cases h
 next h3 =>
  cases h
  have q : nd.k = 1 ∨ nd.k = 2 ∨ nd.k = 3 ∨ nd.k = 4 := by omega
  have n1 : nd.k = 1 → j.n = 0 := fun e => by
   have : j.k = 1 := by rw [hk, e]; rfl
   exact f3 (by omega) (by omega)
  refine ⟨hL _ _ _ _ rfl g ⟨?_, (fun e => f4 (by rw [hk, e]; rfl)), (fun e => by omega), (fun e => by omega), (fun e => by omega), (fun e => by omega), (fun e => by omega), (fun e => by omega)⟩, dp g⟩
  unfold VJust
  refine ⟨?_, .inr (.inr rfl), .inr (.inr (.inr rfl)), .inr (.inr (.inr (.inr rfl))), .inr rfl⟩
  rcases q with q | q | q | q
  · exact .inr (.inr (.inr (.inr (.inr (n1 q)))))
  · exact .inl q
  · exact .inr (.inl q)
  · exact .inr (.inr (.inl q))
def Dok (s : Sc) (a : Int) (d : Nat) (left : Nat) (v : V) (l' : Nat) : Prop := V.is s v a ∧ v.deep ≤ d ∧ l' < left ∧ v.wt + l' * 2502 ≤ left * 2502
theorem keysFit_iff {ks : List ByteArray} : keysFit ks = true ↔ ∀ x ∈ ks, x.size ≤ 20000 := by unfold keysFit; simp
theorem dparted_ok {s : Sc} (h : ScG s) {d : Nat} {B : DB} (hB : ∀ a j left v l', 0 ≤ a → a < (s.nodes.length : Int) → JG j → B a j left = some (v, l') → Dok s a d left v l')
 {p : Nat} (hp : p < s.nodes.length) {j : J} (hj : JG j) (hk : (s.nodes[p]'hp).k ≠ 13 → j.k = askedK (s.nodes[p]'hp).k) (hl : deepK (s.nodes[p]'hp).k) {left : Nat} {v : V} {l' : Nat} (hv : dparted B (s.nodes[p]'hp) j left = some (v, l')) :
 V.is s v (p : Int) ∧ v.deep ≤ d + 1 ∧ l' ≤ left ∧ v.wt + l' * 2502 ≤ left * 2502 + 2502 := by
 have ok := h.right.2.1 _ (List.getElem_mem hp)
 have kin := fun k => kid_in h.right.1 hp (k := k)
 have SJ := fun f (h9 : (s.nodes[p]'hp).k = 9) hf => said_JG h hj hp h9 (f := f) hf
 have wj := J.wt_out j
 have wj2 := hj.2.2
 have dn : ∀ {k n bt : Int} {its : List V} {ks : List ByteArray}, deepK k → (V.mk k n bt [] its ks).deep = V.deeps its + 1 := fun g => V.deep_in g
 have ww : ∀ {k n bt : Int} {its : List V} {ks : List ByteArray}, (V.mk k n bt [] its ks).wt = 1 + kwt ks + V.wts its := by intros; unfold V.wt; simp
 have I9 := fun n bt its ks => V.is_9 hp (n := n) (bt := bt) (bs := []) (its := its) (ks := ks)
 have I11 := fun n bt its ks => V.is_11 hp (n := n) (bt := bt) (bs := []) (its := its) (ks := ks)
 have I12 := fun n bt its ks => V.is_12 hp (n := n) (bt := bt) (bs := []) (its := its) (ks := ks)
 have I13 := fun n bt its ks => V.is_13 hp (n := n) (bt := bt) (bs := []) (its := its) (ks := ks)
 have fz : j.k = 6 → j.frm := fun e => hj.1.resolve_right fun e2 => by subst e2; cases e
 generalize s.nodes[p]'hp = nd at *
 -- a list of one kind
 have LS : ∀ (a : Int) (its : List J) (p : List V × Nat), 0 ≤ a ∧ a < (s.nodes.length : Int) → (∀ x ∈ its, JG x) → dlist B a its left = some p → p.1.length = its.length ∧ its.length ≤ 300 ∧ (∀ i (h : i < p.1.length), V.is s (p.1[i]'h) a) ∧ V.deeps p.1 ≤ d ∧ p.2 ≤ left ∧ V.wts p.1 + p.2 * 2502 ≤ left * 2502 := by
  intro a its p ha hJ hd
  obtain ⟨vs, l⟩ := p
  unfold dlist at hd
  split at hd
  · cases hd
  · obtain ⟨new, e, q1, q2, q3, q4, q5⟩ := dgo_ok (Q := fun _ v => V.is s v a) (d := d) its left [] vs l (fun x hx left v l' hb => hB a x left v l' ha.1 ha.2 (hJ x hx) hb) hd
    rw [List.nil_append] at e
    subst e
    exact ⟨q1, by omega, fun i h => q2 i h (by have h2 : i < vs.length := h; omega), q3, q4, q5⟩
 unfold dparted at hv
 by_cases h9 : nd.k = 9
 · rw [if_pos h9] at hv
   cases hg : dgo (fun f => B f.ty (said j f)) nd.fs left [] with
   | none => rw [hg] at hv; cases hv
   | some p =>
    obtain ⟨vs, l⟩ := p
    rw [hg] at hv
    simp only [Option.map_some, Option.some.injEq, Prod.mk.injEq] at hv
    obtain ⟨rfl, rfl⟩ := hv
    obtain ⟨new, e, q1, q2, q3, q4, q5⟩ := dgo_ok (Q := fun (f : Fd) v => V.is s v f.ty) (d := d) nd.fs left [] vs l (fun f hf left v l' hb => by
     have hi := kin f.ty (by unfold Nd.kids; rw [if_pos h9]; exact List.mem_map_of_mem hf)
     exact hB f.ty (said j f) left v l' hi.1 hi.2 (SJ f h9 hf) hb) hg
    rw [List.nil_append] at e
    subst e
    have f40 : nd.fs.length ≤ 300 := by
     have := ok.2.2.2.1
     rw [if_pos h9] at this
     have := this.1.1
     rw [List.length_map] at this
     omega
    refine ⟨(I9 _ _ _ _ h9 f40).2 ⟨by unfold VJust; simp, q1, fun i h g => q2 i h g⟩, ?_, q4, ?_⟩
    · rw [dn (by decide)]; omega
    · rw [ww]; rw [kwt_nil]; omega
 rw [if_neg h9] at hv
 by_cases h13 : nd.k = 13
 · rw [if_pos h13] at hv
   cases hg : dlist B (nd.br.getD 0 0) [j] left with
   | none => rw [hg] at hv; cases hv
   | some p =>
    rw [hg] at hv
    simp only [Option.map_some, Option.some.injEq, Prod.mk.injEq] at hv
    obtain ⟨rfl, rfl⟩ := hv
    have o13 := ok.2.2.2.2.2.2.2
    rw [if_pos h13] at o13
    have hb0 : 0 < nd.br.length := List.length_pos_iff.2 o13.1
    have hm : nd.br.getD 0 0 ∈ nd.br := by rw [List.getD_eq_getElem?_getD, List.getElem?_eq_getElem hb0]; exact List.getElem_mem hb0
    have hi := kin _ (by unfold Nd.kids; rw [if_neg h9, if_neg (by omega), if_pos h13]; exact hm)
    obtain ⟨q1, q2, q3, q4, q5, q6⟩ := LS _ [j] p hi (fun x hx => by rw [List.mem_singleton.1 hx]; exact hj) hg
    have q1 : p.1.length = 1 := q1
    refine ⟨(I13 _ _ _ _ h13).2 ⟨by unfold VJust; simp, ⟨Int.le_refl _, by omega⟩, q1, by omega, q3 0 (by omega)⟩, ?_, q5, ?_⟩
    · rw [dn (by decide)]; omega
    · rw [ww]; rw [kwt_nil]; omega
 rw [if_neg h13] at hv
 have IT : nd.k = 11 ∨ nd.k = 12 → 0 ≤ nd.items ∧ nd.items < (s.nodes.length : Int) := fun e => kin _ (by unfold Nd.kids; rw [if_neg h9, if_pos e]; exact List.mem_singleton.2 rfl)
 by_cases h12 : nd.k = 12
 · rw [if_pos h12] at hv
   split at hv
   next hkf =>
    cases hg : dlist B nd.items j.its left with
    | none => rw [hg] at hv; cases hv
    | some p =>
     rw [hg] at hv
     simp only [Option.map_some, Option.some.injEq, Prod.mk.injEq] at hv
     obtain ⟨rfl, rfl⟩ := hv
     obtain ⟨q1, q2, q3, q4, q5, q6⟩ := LS _ j.its p (IT (.inr h12)) (fun x hx => hj.mem hx) hg
     have e6 : j.k = 6 := by rw [hk h13, h12]; rfl
     obtain ⟨f1, f2, f3, f4, f5, f6, f7, f8, f9⟩ := J.frm_out (fz e6)
     refine ⟨(I12 _ _ _ _ h12).2 ⟨by unfold VJust; simp, ⟨by rw [f7 e6, q1], keysOk_iff.2 fun x hx => ⟨keysFit_iff.1 hkf x hx, f8 x hx⟩⟩, by omega, fun i h => q3 i h⟩, ?_, q5, ?_⟩
     · rw [dn (by decide)]; omega
     · rw [ww]; omega
   next => cases hv
 rw [if_neg h12] at hv
 have h11 : nd.k = 11 := by unfold deepK at hl; omega
 cases hg : dlist B nd.items j.its left with
 | none => rw [hg] at hv; cases hv
 | some p =>
  rw [hg] at hv
  simp only [Option.map_some, Option.some.injEq, Prod.mk.injEq] at hv
  obtain ⟨rfl, rfl⟩ := hv
  obtain ⟨q1, q2, q3, q4, q5, q6⟩ := LS _ j.its p (IT (.inl h11)) (fun x hx => hj.mem hx) hg
  refine ⟨(I11 _ _ _ _ h11).2 ⟨by unfold VJust; simp, by omega, fun i h => q3 i h⟩, ?_, q5, ?_⟩
  · rw [dn (by decide)]; omega
  · rw [ww]; rw [kwt_nil]; omega
theorem dstep_ok {s : Sc} (h : ScG s) {d : Nat} {o : Option DB} (hB : ∀ B, o = some B → ∃ d', d = d' + 1 ∧ ∀ a j left v l', 0 ≤ a → a < (s.nodes.length : Int) → JG j → B a j left = some (v, l') → Dok s a d' left v l')
 {a : Int} (h0 : 0 ≤ a) (h1 : a < (s.nodes.length : Int)) {j : J} (hj : JG j) {left : Nat} {v : V} {l' : Nat} (hv : dstep o (s.node a) j left = some (v, l')) : Dok s a d left v l' := by
 have hp : a.toNat < s.nodes.length := by omega
 obtain ⟨p, rfl⟩ : ∃ p : Nat, a = (p : Int) := ⟨a.toNat, by omega⟩
 rw [Int.toNat_natCast] at hp
 rw [Sc.node_at hp] at hv
 unfold dstep at hv
 split at hv
 · cases hv
 next hn =>
  have hk : (s.nodes[p]'hp).k ≠ 13 → j.k = askedK (s.nodes[p]'hp).k := fun e => Classical.byContradiction fun g => hn (.inr ⟨e, g⟩)
  have hl0 : left ≠ 0 := fun e => hn (.inl e)
  split at hv
  next hd =>
   cases o with
   | none => cases hv
   | some B =>
    obtain ⟨d', rfl, hB'⟩ := hB B rfl
    obtain ⟨q1, q2, q3, q4⟩ := dparted_ok h hB' hp hj hk hd hv
    obtain ⟨l1, rfl⟩ : ∃ l1, left = l1 + 1 := ⟨left - 1, by omega⟩
    rw [Nat.add_sub_cancel] at q3 q4
    exact ⟨q1, q2, by omega, by rw [Nat.add_mul]; omega⟩
  next hd =>
   cases hg : dleaf (s.nodes[p]'hp) j with
   | none => rw [hg] at hv; cases hv
   | some x =>
    rw [hg] at hv
    simp only [Option.map_some, Option.some.injEq, Prod.mk.injEq] at hv
    obtain ⟨rfl, rfl⟩ := hv
    have n13 : (s.nodes[p]'hp).k ≠ 13 := fun e => hd (by rw [e]; decide)
    obtain ⟨q1, q2⟩ := dleaf_is h.right hp hj (hk n13) hd hg
    have := (dleaf_wt hg).1
    have := J.wt_out j
    have := hj.2.2
    obtain ⟨l1, rfl⟩ : ∃ l1, left = l1 + 1 := ⟨left - 1, by omega⟩
    refine ⟨q1, by omega, by omega, ?_⟩
    rw [Nat.add_sub_cancel, Nat.add_mul]; omega
theorem dval_ok {s : Sc} (h : ScG s) : ∀ (d : Nat) (a : Int) (j : J) (left : Nat) (v : V) (l' : Nat), 0 ≤ a → a < (s.nodes.length : Int) → JG j → dval s d a j left = some (v, l') → Dok s a d left v l'
 | 0, a, j, left, v, l', h0, h1, hj, hv => dstep_ok h (o := none) (fun B e => by cases e) h0 h1 hj (by unfold dval at hv; exact hv)
 | d + 1, a, j, left, v, l', h0, h1, hj, hv => dstep_ok h (o := some (dval s d)) (fun B e => ⟨d, rfl, by injection e with e; subst e; exact dval_ok h d⟩) h0 h1 hj (by unfold dval at hv; exact hv)
def dtold (s : Sc) (a : Int) (j : J) : Option V := (dval s 20 a j 1000).map Prod.fst
theorem dtold_ok {s : Sc} (h : ScG s) {a : Int} {j : J} {v : V} (h0 : 0 ≤ a) (h1 : a < (s.nodes.length : Int)) (hj : JG j) (hv : dtold s a j = some v) : V.is s v a ∧ v.deep ≤ 20 ∧ v.wt ≤ 2502000 := by
 unfold dtold at hv
 cases hd : dval s 20 a j 1000 with
 | none => rw [hd] at hv; cases hv
 | some p =>
  obtain ⟨x, l⟩ := p
  rw [hd] at hv
  cases hv
  obtain ⟨q1, q2, q3, q4⟩ := dval_ok h 20 a j 1000 _ l h0 h1 hj hd
  exact ⟨q1, q2, by show x.wt ≤ _; omega⟩
end Go.Proofs.YthfoomobicbcpaaGreatDoor
namespace Go.Proofs.YthfoomobicbcpaaGreatDoor
open Go.ChangeShapes Go.WideShapes Go.ChangeAt Go.RowKit Mem
theorem valueT : RecT Tryz.prog 40 42 6 (.agg #[.int .i64 0, .int .i64 0, .int .u64 0, .slice none 0 0, .slice none 0 0, .slice none 0 0]) 96 := ⟨by kernel_rfl, by kernel_rfl, rfl, by decide, by decide⟩
theorem els_octs {w : World} {S : Nat → Prop} : ∀ (l : List UInt8), ElsS w S 1 (l.map u8D) (l.map cel)
 | [] => rfl
 | x :: r => ⟨[cel x], r.map cel, rfl, rfl, lies_i.2 rfl, els_octs r⟩
end Go.Proofs.YthfoomobicbcpaaGreatDoor
namespace Go.Proofs.YthfoomobicbcpaaGreatDoor
open Go.RowKit Mem
section
variable {w w' : World} {S S' : Nat → Prop} {s : Nat}
theorem ElsS.put {d' : D} {u : Value} {i : Nat} (hi : i < s) : ∀ {ds : List D} {xs : List Value} {j : Nat} (_ : ElsS w S s ds xs) (hj : j < ds.length), (∀ cs, cs.length = s → Lies w S (ds[j]'hj) cs → Lies w S d' (cs.set i u)) → ElsS w S s (ds.set j d') (xs.set (j * s + i) u)
 | d :: r, xs, 0, ⟨c1, c2, e, h1, h2, h3⟩, _, hd => by
  subst e
  refine ⟨c1.set i u, c2, ?_, by simpa using h1, hd c1 h1 h2, h3⟩
  rw [Nat.zero_mul, Nat.zero_add, List.set_append_left _ _ (by omega)]
 | d :: r, xs, j + 1, ⟨c1, c2, e, h1, h2, h3⟩, hj, hd => by
  subst e
  have k := ElsS.put hi (j := j) h3 (by simpa using hj) hd
  refine ⟨c1, c2.set (j * s + i) u, ?_, h1, h2, k⟩
  have q : (j + 1) * s + i = s + (j * s + i) := by rw [Nat.add_mul]; omega
  rw [q, List.set_append_right _ _ (by omega), show s + (j * s + i) - c1.length = j * s + i by omega]
end
section
variable {T X X' : Nat → Prop} {w w' : World} {base g r r' : Nat} {e : TypeId} {s : Nat} {v v' : Value} {ds : List D}
def GatX (T : Nat → Prop) (w : World) (base r : Nat) (e : TypeId) (s : Nat) (v : Value) (ds : List D) : Prop :=
 ∃ (S : Nat → Prop) (xs : List Value), OwnR w base e s v ds.length xs ∧ ElsS w S s ds xs ∧ (∀ b, S b → (T b ∨ base ≤ b) ∧ b < w.heap.size ∧ some b ≠ v.ownBlock ∧ b ≠ r) ∧ some r ≠ v.ownBlock
theorem GatX.none_ (T : Nat → Prop) (w : World) (base r : Nat) (e : TypeId) (s : Nat) : GatX T w base r e s (.slice none 0 0) [] :=
 ⟨fun _ => False, [], OwnR.none_ _ _ _ _, rfl, fun _ h => h.elim, fun h => by cases h⟩
theorem GatX.keep (h : GatX T w base r e s v ds) (hb : ∀ k, k < w.heap.size → T k ∨ base ≤ k → k ≠ r → w'.heap[k]? = w.heap[k]?) (hs : w.heap.size ≤ w'.heap.size) (hr : r' = r ∨ w.heap.size ≤ r') : GatX T w' base r' e s v ds := by
 obtain ⟨S, xs, h1, h2, h3, h4⟩ := h
 have nr : ∀ k, k < w.heap.size → k ≠ r → k ≠ r' := fun k hk hn e => by rcases hr with z | z; exact hn (e.trans z); omega
 refine ⟨S, xs, h1.keepb fun q hq => ?_, h2.keep (fun p hp => World.cell?_of_block (hb _ (h3 _ hp).2.1 (h3 _ hp).1 (h3 _ hp).2.2.2)) fun _ h => h, fun b hs' => ⟨(h3 b hs').1, Nat.lt_of_lt_of_le (h3 b hs').2.1 hs, (h3 b hs').2.2.1, nr b (h3 b hs').2.1 (h3 b hs').2.2.2⟩, fun hq => ?_⟩
 · have := h1.base_le hq
   exact hb q this.2 (.inr this.1) (fun e => h4 (by rw [← e]; exact hq))
 · have := h1.base_le hq
   exact nr r' this.2 (fun e => h4 (e ▸ hq)) rfl
theorem GatX.below (h : GatX T w base r e s v ds) (b : Below w.heap.size w w') : GatX T w' base r e s v ds := h.keep (fun k hk _ _ => b.block k hk) b.size (.inl rfl)
theorem GatX.sav (h : GatX T w base r e s v ds) (hg : g < base) (hT : ∀ b, T b → b < g) (sv : Sav g r w.heap.size w w') (hr : r' = r ∨ w.heap.size ≤ r') : GatX T w' base r' e s v ds :=
 h.keep (fun k hk h1 h2 => sv.block k hk (fun e => by rcases h1 with z | z; have := hT _ z; omega; omega) h2) sv.size hr
theorem GatX.own (h : GatX T w base r e s v ds) {b : Nat} (hb : v.ownBlock = some b) : base ≤ b ∧ b < w.heap.size ∧ b ≠ r := by
 obtain ⟨S, xs, h1, _, _, h4⟩ := h
 exact ⟨(h1.base_le hb.symm).1, (h1.base_le hb.symm).2, fun e => h4 (by rw [hb, e])⟩
theorem GatX.done (h : GatX T w base r e s v ds) : ∃ A c, v = .slice A ds.length c ∧ ds.length ≤ c ∧ RowD w (fun b => (T b ∨ base ≤ b) ∧ b < w.heap.size ∧ b ≠ r) s ds A := by
 obtain ⟨S, xs, h1, h2, h3, h4⟩ := h
 obtain ⟨A, c, ev, hc, hf⟩ := h1.fl
 refine ⟨A, c, ev, hc, ?_⟩
 rcases h1.2 with ⟨e0, hn⟩ | ⟨g, cap, cur, e1, hg, hh, _⟩
 · obtain rfl : ds = [] := List.length_eq_zero_iff.1 hn
   exact RowD.nil_ _ _ _ _
 · have eA : A = some ⟨g, 0, none⟩ := by rw [ev] at e1; injection e1
   subst eA
   have hgs : g < w.heap.size := (Array.getElem?_eq_some_iff.1 hh).1
   refine ElsS.row (S := fun b => (T b ∨ base ≤ b) ∧ b < w.heap.size ∧ b ≠ r) (off := 0) ⟨.inr hg, hgs, fun e => h4 (by rw [ev, ← e]; rfl)⟩ (h2.keep (fun _ _ => rfl) fun b h => ⟨(h3 b h).1, (h3 b h).2.1, (h3 b h).2.2.2⟩) fun k hk => ?_
   rcases hf with hf | ⟨b, off, e2, _, hf⟩
   · rw [hf] at hk; exact absurd hk (Nat.not_lt_zero _)
   · simp only [Option.some.injEq, Addr.mk.injEq, and_true] at e2
     obtain ⟨rfl, rfl⟩ := e2
     exact hf k hk
end
section
open Go
variable {P : Program} (w : World) {t e : TypeId} {s : Nat} {z : Value} {y : Nat}
theorem wpList_gax (hu : RecT P t e s z y) {ops : Array Oper} {rest : List Oper} {o : Oper} {a : Act} {Q : Exit → Act → World → Prop} (hgd : o.guard = none) (sO x : Operand)
 (ho : o.op = .call { callee := .builtin .append, args := #[sO, x], argTypes := #[t, t] })
 (T : Nat → Prop) (base r : Nat) (v : Value) (ds : List D) (hs : a.eval sO = v) (hg : GatX T w base r e s v ds) (c : Nat) (cs : Array Value) (hx : a.eval x = .slice (some ⟨w.heap.size, 0, none⟩) 1 c) (hl : cs.size = s)
 (h1 : ∀ u ∈ cs.toList, u.oneCell' = true) (hlen : ds.length + 1 ≤ 1000000000) (hbase : base ≤ w.heap.size) (hr : r < w.heap.size) (d : D) (hd : Lies w (fun b => (T b ∨ base ≤ b) ∧ b < w.heap.size ∧ some b ≠ v.ownBlock ∧ b ≠ r) d cs.toList)
 (h : ∀ v' w', GatX T w' base r e s v' (ds ++ [d]) → Below base w w' → (∀ k, k < w.heap.size → some k ≠ v.ownBlock → w'.heap[k]? = w.heap[k]?) → (∀ b, v'.ownBlock = some b → v.ownBlock = some b ∨ w.heap.size ≤ b) → wpList P ops Q rest (a.put o.dst v') w') : wpList P ops Q (o :: rest) a (w.alloc (.cells cs e)) := by
 obtain ⟨S, xs, k1, k2, k3, k4⟩ := hg
 refine wpList_appRg1 w hu hgd _ rfl sO x ho base v ds.length xs hs k1 c cs hx hl h1 hlen hbase fun v' w' r1 r2 r3 r4 => h v' w' ⟨fun b => (T b ∨ base ≤ b) ∧ b < w.heap.size ∧ some b ≠ v.ownBlock ∧ b ≠ r, xs ++ cs.toList, by simpa using r1, ?_, fun b hs => ?_, ?_⟩ r2 (fun k hk hn => r3.block k hk hn) fun b hb => ?_
 · exact ElsS.snoc (by simpa using hl) (hd.keep (fun p hp => World.cell?_of_block (r3.block _ hp.2.1 hp.2.2.1)) fun _ h => h) (k2.keep (fun p hp => World.cell?_of_block (r3.block _ (k3 _ hp).2.1 (k3 _ hp).2.2.1)) fun b hb => k3 b hb)
 · exact ⟨hs.1, Nat.lt_of_lt_of_le hs.2.1 r3.size, ne_own hs.2.2.1 r4 (by have := hs.2.1; omega), hs.2.2.2⟩
 · exact ne_own k4 r4 (by omega)
 · rcases r4 with q | q <;> rw [q] at hb
   · exact .inl hb
   · injection hb with hb
     exact .inr (by omega)
end
end Go.Proofs.YthfoomobicbcpaaGreatDoor
namespace Go.Proofs.YthfoomobicbcpaaGreatDoor
open Go.ChangeShapes Go.WideShapes Go.ChangeAt Go.RowKit
theorem retInt {k : IntKind} {a b : Int} (h : a = b) : Ending.returned (.int k a) = .returned (.int k b) := by rw [h]
theorem bits_any (u : Int) (h0 : 0 ≤ u) (h1 : u ≤ 18446744073709551615) (w : World) :
 Calls Tryz.prog 220 #[.int .u64 u] w fun e w' => e = .returned (.int .i64 (Num.bl u)) ∧ w = w' := by
 have hb := Num.bl_hi h1
 go_enter Tryz.func220, Tryz.ntmps220
 go_wp2
 go_step3
 go_wp2
 go_step3
 go_wp2
 go_loop [0, 3] (fun a c => ∃ v n : Int, 0 ≤ v ∧ v ≤ u ∧ 0 ≤ n ∧ n + Num.bl v = Num.bl u ∧ a = .int .u64 v ∧ c = .int .i64 n) (fun a _ => (intOf a).toNat)
 case atStart => exact ⟨u, 0, h0, by omega, by omega, by omega, rfl, rfl⟩
 case round =>
  obtain ⟨v, n, g0, g1, g2, g3, rfl, rfl⟩ := hrel
  have g4 := Num.bl_lo v
  by_cases hv : v = 0
  · subst hv
    have G := Lib.hid g3; clear g3
    go_wp2
    go_ret
    exact ⟨retInt (by have := G.out; rw [Num.bl_zero] at this; omega), rfl⟩
  · have hv0 : (v == 0) = false := by simp [hv]
    have hv1 : 0 < v := by omega
    by_cases hv2 : 255 < v
    · have H := Lib.hid (Num.bl_8 hv2 (by omega)); have p := Num.bl_pos (u := v / 256) (by omega)
      have g5 : n + 8 ≤ 64 := by have := H.out; omega
      have G := Lib.hid g3
      clear g3 hv
      go_wp2
      go_round
      case rel => exact ⟨v / 256, n + 8, by omega, by omega, by omega, by have := H.out; have := G.out; omega, rfl, rfl⟩
      case measure => simp [intOf]; omega
    · have H := Lib.hid (Num.bl_step hv1 (by omega)); have p := Num.bl_pos hv1
      have g5 : n + 1 ≤ 64 := by omega
      have G := Lib.hid g3
      clear g3 hv
      go_wp2
      go_round
      case rel => exact ⟨v / 2, n + 1, by omega, by omega, by omega, by have := H.out; have := G.out; omega, rfl, rfl⟩
      case measure => simp [intOf]; omega
theorem wrapNat {x : Nat} (h : x < 18446744073709551616) : IntKind.u64.wrap (x : Int) = (x : Int) := by rw [IntKind.wrap_u64]; omega
theorem Round_any (u d : Nat) (hu : u < 18446744073709551616) (hd : d ≤ 64) (w : World) :
 Calls Tryz.prog 233 #[.int .u64 u, .int .u64 d] w fun e w' => e = .returned (.int .u64 (Fp.rnd u d : Nat)) ∧ w = w' := by
 by_cases h : d = 0
 · subst h
   go_enter Tryz.func233, Tryz.ntmps233
   go_wp2
   all_goals go_ret
   exact ⟨retInt (by rw [Fp.rnd_zero]), rfl⟩
 · have hg : 2 ^ (d - 1) < 2 ^ 64 := Nat.pow_lt_pow_right (by decide) (by omega)
   have hP : 2 ^ d = 2 ^ (d - 1) * 2 := by rw [← Nat.pow_succ]; congr 1; omega
   have hm := Nat.div_add_mod u (2 ^ d)
   have hr : u % 2 ^ d < 2 ^ d := Nat.mod_lt _ (Nat.two_pow_pos _)
   have hq : u / 2 ^ d < 9223372036854775808 := by rw [Nat.div_lt_iff_lt_mul (Nat.two_pow_pos _), hP]; have := Nat.two_pow_pos (d - 1); omega
   have E1 : ((u : Int) / 2 ^ d) = ((u / 2 ^ d : Nat) : Int) := by simp
   have E2 : IntKind.u64.wrap (((u / 2 ^ d : Nat) : Int) * 2 ^ d) = ((2 ^ d * (u / 2 ^ d) : Nat) : Int) := by
    rw [show (((u / 2 ^ d : Nat) : Int) * 2 ^ d) = ((2 ^ d * (u / 2 ^ d) : Nat) : Int) by rw [Nat.mul_comm]; simp]; exact wrapNat (by omega)
   have E3 : IntKind.u64.wrap ((u : Int) - ((2 ^ d * (u / 2 ^ d) : Nat) : Int)) = ((u % 2 ^ d : Nat) : Int) := by
    rw [show ((u : Int) - ((2 ^ d * (u / 2 ^ d) : Nat) : Int)) = ((u % 2 ^ d : Nat) : Int) by omega]; exact wrapNat (by omega)
   have E4 : IntKind.u64.wrap (2 ^ (d - 1)) = ((2 ^ (d - 1) : Nat) : Int) := by
    rw [show ((2 : Int) ^ (d - 1)) = ((2 ^ (d - 1) : Nat) : Int) by simp]; exact wrapNat (by omega)
   have E5 : IntKind.u64.wrap (((u / 2 ^ d : Nat) : Int) + 1) = ((u / 2 ^ d + 1 : Nat) : Int) := wrapNat (x := u / 2 ^ d + 1) (by omega)
   have E6 : ((u / 2 ^ d : Nat) : Int).tmod 2 = ((u / 2 ^ d % 2 : Nat) : Int) := by rw [Int.tmod_eq_emod_of_nonneg (Int.natCast_nonneg _)]; rfl
   have F : (Fp.rnd u d = u / 2 ^ d + if 2 ^ (d - 1) < u % 2 ^ d ∨ (u % 2 ^ d = 2 ^ (d - 1) ∧ u / 2 ^ d % 2 = 1) then 1 else 0) := by unfold Fp.rnd Fp.up; rw [if_neg h]
   have E := Lib.hid (And.intro E1 (And.intro E2 (And.intro E3 (And.intro E4 (And.intro E5 (And.intro E6 F))))))
   clear E1 E2 E3 E4 E5 E6 F hm hP
   go_enter Tryz.func233, Tryz.ntmps233
   go_wp2
   all_goals go_ret
   all_goals refine ⟨retInt ?_, rfl⟩
   all_goals (obtain ⟨E1, E2, E3, E4, E5, E6, F⟩ := E.out; clear E; rw [F]; clear F hg hr hq h)
   all_goals simp only [E1, E2, E3, E4, E5, E6] at *
   all_goals (clear E1 E2 E3 E4 E5 E6; generalize u / 2 ^ d = q at *; generalize u % 2 ^ d = r at *; generalize 2 ^ (d - 1) = g at *)
   all_goals simp only [beq_iff_eq, beq_eq_false_iff_ne] at *
   all_goals split <;> omega
theorem Round_at (u d : Nat) (z : Int) (hz : z = (d : Int)) (hu : u < 18446744073709551616) (hd : d < 64) (w : World) :
 Calls Tryz.prog 233 #[.int .u64 u, .int .u64 z] w fun e w' => e = .returned (.int .u64 (Fp.rnd u d : Nat)) ∧ w = w' := by
 subst hz; exact Round_any u d hu (by omega) w
theorem moved_any (s q : Nat) (h0 : s ≠ 0) (hs : s < 18446744073709551616) (hq : q ≤ 52) (w : World) :
 Calls Tryz.prog 221 #[.int .u64 s, .int .u64 s.log2, .int .u64 q] w fun e w' => e = .returned (.int .u64 (Fp.mv s s.log2 q : Nat)) ∧ w = w' := by
 have hp := Fp.log2_hi (s := s) hs
 by_cases c : q < s.log2
 · have F : Fp.mv s s.log2 q = Fp.rnd s (s.log2 - q) := by unfold Fp.mv; rw [if_pos c]
   rw [F]; clear F
   generalize s.log2 = p at *
   go_enter Tryz.func221, Tryz.ntmps221
   go_wp2_with fail
   refine (Round_at s (p - q) _ (by omega) hs (by omega) _).mono ?_
   rintro e w1 ⟨rfl, rfl⟩
   go_wp2_with fail
   all_goals go_ret
   exact ⟨rfl, rfl⟩
 · have F : Fp.mv s s.log2 q = s * 2 ^ (q - s.log2) := by unfold Fp.mv; rw [if_neg c]
   have hm : Fp.mv s s.log2 q < 18446744073709551616 := by
    have := Fp.mv_lt h0 (q := q) (by omega)
    have h2 : 2 ^ (q + 1) ≤ 2 ^ 53 := Nat.pow_le_pow_right (by decide) (by omega)
    omega
   rw [F] at hm ⊢; clear F
   generalize s.log2 = p at *
   go_enter Tryz.func221, Tryz.ntmps221
   go_wp2
   all_goals go_ret
   refine ⟨retInt ?_, rfl⟩
   rw [show ((s : Int) * 2 ^ (q - p)) = ((s * 2 ^ (q - p) : Nat) : Int) by simp]
   exact wrapNat hm
theorem moved_at (s q : Nat) (y z : Int) (hy : y = (s : Int)) (hz : z = (s.log2 : Int)) (h0 : s ≠ 0) (hs : s < 18446744073709551616) (hq : q ≤ 52) (w : World) :
 Calls Tryz.prog 221 #[.int .u64 y, .int .u64 z, .int .u64 q] w fun e w' => e = .returned (.int .u64 (Fp.mv s s.log2 q : Nat)) ∧ w = w' := by
 subst hy; subst hz; exact moved_any s q h0 hs hq w
theorem bits_at (s : Nat) (y : Int) (hy : y = (s : Int)) (h0 : s ≠ 0) (hs : s < 18446744073709551616) (w : World) :
 Calls Tryz.prog 220 #[.int .u64 y] w fun e w' => e = .returned (.int .i64 ((s.log2 : Nat) + 1)) ∧ w = w' := by
 subst hy
 refine (bits_any s (by omega) (by omega) w).mono ?_
 rintro e w' ⟨rfl, rfl⟩
 exact ⟨by rw [Fp.bl_log2 s h0 hs], rfl⟩
theorem make64 (n : Int) (h0 : -9223372036854775808 ≤ n) (h1 : n ≤ 9223372036854775807) (a b c : Nat) (w : World)
 (ha : w.cell? ⟨a, 0, none⟩ = some (.int .u64 11)) (hb : w.cell? ⟨b, 0, none⟩ = some (.int .u64 52)) (hc : w.cell? ⟨c, 0, none⟩ = some (.int .u64 1023)) :
 Calls Tryz.prog 219 #[.int .i64 n, .pointer (some ⟨a, 0, none⟩), .pointer (some ⟨b, 0, none⟩), .pointer (some ⟨c, 0, none⟩)] w fun e w' => e = .returned (.int .u64 (Fp.fp 11 52 1023 n : Nat)) ∧ w = w' := by
 by_cases hn : n = 0
 · subst hn
   go_enter Tryz.func219, Tryz.ntmps219
   go_wp2
   all_goals go_ret
   exact ⟨by simp [Fp.fp, Fp.mag], rfl⟩
 · obtain ⟨s, hs⟩ : ∃ s, s = n.natAbs := ⟨_, rfl⟩
   have s0 : s ≠ 0 := by omega
   have s1 : s < 18446744073709551616 := by omega
   have p1 := Fp.log2_hi (s := s) s1
   have m1 := Fp.mv_le s0 52
   have MV := Lib.hid (moved_at s 52)
   have BT := Lib.hid (bits_at s)
   have FF : Hid (Fp.fp 11 52 1023 n = if n < 0 then 2 ^ 63 + ((1023 + s.log2 - 1) * 2 ^ 52 + Fp.mv s s.log2 52) else (1023 + s.log2 - 1) * 2 ^ 52 + Fp.mv s s.log2 52) := Lib.hid (by
    unfold Fp.fp Fp.mag; rw [← hs, if_neg s0])
   generalize hM : Fp.mv s s.log2 52 = M at *
   generalize hp : s.log2 = p at *
   clear hM hp
   by_cases ng : n < 0
   · have hs' : n = -(s : Int) := by omega
     clear hs
     go_enter Tryz.func219, Tryz.ntmps219
     go_wp2_with fail
     refine (BT.out _ (by first | rfl | omega | (simp only [IntKind.wrap_u64]; omega)) s0 s1 _).mono ?_
     rintro e w1 ⟨rfl, rfl⟩
     go_wp2_with fail
     refine (MV.out _ _ (by first | rfl | omega | (simp only [IntKind.wrap_u64]; omega)) (by first | rfl | omega | (simp only [IntKind.wrap_u64]; omega)) s0 s1 (by decide) _).mono ?_
     rintro e w1 ⟨rfl, rfl⟩
     go_wp2_with fail
     all_goals go_ret
     refine ⟨retInt ?_, rfl⟩
     rw [FF.out, if_pos ng]
     first | omega | (simp only [IntKind.wrap_u64]; omega)
   · have hs' : n = (s : Int) := by omega
     clear hs
     go_enter Tryz.func219, Tryz.ntmps219
     go_wp2_with fail
     refine (BT.out _ (by first | rfl | omega | (simp only [IntKind.wrap_u64]; omega)) s0 s1 _).mono ?_
     rintro e w1 ⟨rfl, rfl⟩
     go_wp2_with fail
     refine (MV.out _ _ (by first | rfl | omega | (simp only [IntKind.wrap_u64]; omega)) (by first | rfl | omega | (simp only [IntKind.wrap_u64]; omega)) s0 s1 (by decide) _).mono ?_
     rintro e w1 ⟨rfl, rfl⟩
     go_wp2_with fail
     all_goals go_ret
     refine ⟨retInt ?_, rfl⟩
     rw [FF.out, if_neg (by omega)]
     first | omega | (simp only [IntKind.wrap_u64]; omega)
theorem make32 (n : Int) (h0 : -9223372036854775808 ≤ n) (h1 : n ≤ 9223372036854775807) (a b c : Nat) (w : World)
 (ha : w.cell? ⟨a, 0, none⟩ = some (.int .u64 8)) (hb : w.cell? ⟨b, 0, none⟩ = some (.int .u64 23)) (hc : w.cell? ⟨c, 0, none⟩ = some (.int .u64 127)) :
 Calls Tryz.prog 219 #[.int .i64 n, .pointer (some ⟨a, 0, none⟩), .pointer (some ⟨b, 0, none⟩), .pointer (some ⟨c, 0, none⟩)] w fun e w' => e = .returned (.int .u64 (Fp.fp 8 23 127 n : Nat)) ∧ w = w' := by
 by_cases hn : n = 0
 · subst hn
   go_enter Tryz.func219, Tryz.ntmps219
   go_wp2
   all_goals go_ret
   exact ⟨by simp [Fp.fp, Fp.mag], rfl⟩
 · obtain ⟨s, hs⟩ : ∃ s, s = n.natAbs := ⟨_, rfl⟩
   have s0 : s ≠ 0 := by omega
   have s1 : s < 18446744073709551616 := by omega
   have p1 := Fp.log2_hi (s := s) s1
   have m1 := Fp.mv_le s0 23
   have MV := Lib.hid (moved_at s 23)
   have BT := Lib.hid (bits_at s)
   have FF : Hid (Fp.fp 8 23 127 n = if n < 0 then 2 ^ 31 + ((127 + s.log2 - 1) * 2 ^ 23 + Fp.mv s s.log2 23) else (127 + s.log2 - 1) * 2 ^ 23 + Fp.mv s s.log2 23) := Lib.hid (by
    unfold Fp.fp Fp.mag; rw [← hs, if_neg s0])
   generalize hM : Fp.mv s s.log2 23 = M at *
   generalize hp : s.log2 = p at *
   clear hM hp
   by_cases ng : n < 0
   · have hs' : n = -(s : Int) := by omega
     clear hs
     go_enter Tryz.func219, Tryz.ntmps219
     go_wp2_with fail
     refine (BT.out _ (by first | rfl | omega | (simp only [IntKind.wrap_u64]; omega)) s0 s1 _).mono ?_
     rintro e w1 ⟨rfl, rfl⟩
     go_wp2_with fail
     refine (MV.out _ _ (by first | rfl | omega | (simp only [IntKind.wrap_u64]; omega)) (by first | rfl | omega | (simp only [IntKind.wrap_u64]; omega)) s0 s1 (by decide) _).mono ?_
     rintro e w1 ⟨rfl, rfl⟩
     go_wp2_with fail
     all_goals go_ret
     refine ⟨retInt ?_, rfl⟩
     rw [FF.out, if_pos ng]
     first | omega | (simp only [IntKind.wrap_u64]; omega)
   · have hs' : n = (s : Int) := by omega
     clear hs
     go_enter Tryz.func219, Tryz.ntmps219
     go_wp2_with fail
     refine (BT.out _ (by first | rfl | omega | (simp only [IntKind.wrap_u64]; omega)) s0 s1 _).mono ?_
     rintro e w1 ⟨rfl, rfl⟩
     go_wp2_with fail
     refine (MV.out _ _ (by first | rfl | omega | (simp only [IntKind.wrap_u64]; omega)) (by first | rfl | omega | (simp only [IntKind.wrap_u64]; omega)) s0 s1 (by decide) _).mono ?_
     rintro e w1 ⟨rfl, rfl⟩
     go_wp2_with fail
     all_goals go_ret
     refine ⟨retInt ?_, rfl⟩
     rw [FF.out, if_neg (by omega)]
     first | omega | (simp only [IntKind.wrap_u64]; omega)
end Go.Proofs.YthfoomobicbcpaaGreatDoor
namespace Go.Proofs.YthfoomobicbcpaaGreatDoor
open Go.ChangeShapes Go.WideShapes Go.ChangeAt Go.RowKit Mem
def Sole (v : Value) (w : World) (e : Ending) (w' : World) : Prop := e = .returned v ∧ w' = w
theorem sNamed_pure (k : Int) (w : World) : Calls Tryz.prog 73 #[.int .i64 k] w (Sole (.bool (named k)) w) := by
 obtain ⟨b, hb⟩ : ∃ b, b = named k := ⟨_, rfl⟩
 rw [← hb]
 unfold named at hb
 by_cases h9 : k = 9
 · subst h9
   obtain rfl : b = true := by rw [hb]; decide
   clear hb
   go_enter Tryz.func73, Tryz.ntmps73
   go_wp2_with fail
   go_ret
   exact ⟨rfl, rfl⟩
 · have q9 : ((k : Int) == 9) = false := by rw [beq_eq_false_iff_ne]; exact h9
   by_cases h10 : k = 10
   · subst h10
     obtain rfl : b = true := by rw [hb]; decide
     clear hb q9
     go_enter Tryz.func73, Tryz.ntmps73
     go_wp2_with fail
     go_ret
     exact ⟨rfl, rfl⟩
   · have q10 : ((k : Int) == 10) = false := by rw [beq_eq_false_iff_ne]; exact h10
     by_cases h14 : k = 14
     · subst h14
       obtain rfl : b = true := by rw [hb]; decide
       clear hb q9 q10
       go_enter Tryz.func73, Tryz.ntmps73
       go_wp2_with fail
       go_ret
       exact ⟨rfl, rfl⟩
     · have q14 : ((k : Int) == 14) = false := by rw [beq_eq_false_iff_ne]; exact h14
       obtain rfl : b = false := by rw [hb, decide_eq_false_iff_not]; omega
       clear hb
       go_enter Tryz.func73, Tryz.ntmps73
       go_wp2_with fail
       go_ret
       exact ⟨rfl, rfl⟩
theorem sClone_any (l : List Int) (hs : l.length ≤ 100000000) (w : World) (A : Option Addr) (c : Nat) (h : RowD w (· < w.heap.size) 1 (l.map (D.i .i64)) A) :
 Calls Tryz.prog 109 #[.slice A l.length c] w (KidsA l w) := by
 have FL := Lib.hid (fls_fl (B := w.heap.size) (ints_fl h) (fun _ h => h))
 have nq := fun (A : Option Addr) (n c : Nat) (W : World) => Lib.run_eql_slice_nil (P := Tryz.prog) W 57 3 A n c 0 0 intT.sl
 cases A with
 | none =>
  obtain rfl : l = [] := by
   rcases l with _ | ⟨x, r⟩
   · rfl
   · obtain ⟨_, _, e, _⟩ := ints_at h (i := 0) (by simp)
     cases e
  clear h FL
  go_enter Tryz.func109, Tryz.ntmps109
  go_wp2_with fail
  go_ret
  exact kids_ret (OwnR.none_ _ w.heap.size 3 1) (Nat.le_refl _) rfl rfl (by decide) (Below.refl _ _)
 | some ad =>
  have W1 : Below w.heap.size w (w.alloc (.cells #[] 3)) := (Below.refl _ _).alloc (Nat.le_refl _) _
  have FW := Lib.hid (Fl.below FL.out W1)
  have O0 := Lib.hid (own_litR w 3 1 (Nat.le_refl w.heap.size))
  obtain ⟨n, hn⟩ : ∃ n, n = l.length := ⟨_, rfl⟩
  have HN := Lib.hid hn
  rw [← hn] at hs ⊢
  clear h FL hn
  go_enter Tryz.func109, Tryz.ntmps109
  go_wp2_with (at_builtin; refine wpList_appRs _ intT rfl (.tmp 5) (.tmp 6) rfl w.heap.size _ 0 _ rfl O0.out w.heap.size (some ad) n c (l.map (Value.int .i64)) rfl (by rw [List.length_map, HN.out]; omega) FW.out (by intro u hu; obtain ⟨x, _, rfl⟩ := List.mem_map.1 hu; rfl) (by omega) (by simp) ?_; intro v3 w3 o3 b3)
  go_ret
  exact kids_ret o3 (Nat.le_refl _) rfl (by rw [HN.out]; omega) (by rw [← HN.out]; omega) (W1.trans b3)
theorem sKids_9 (n : Nd) (hk : n.k = 9) (hs : n.fs.length ≤ 100000000) (w : World) (A2 A3 A4 A9 : Option Addr) (c2 c3 c4 c9 : Nat)
 (h : Lies w (· < w.heap.size) n.enc [.int .i64 n.k, .string n.name, .slice A2 n.al.length c2, .slice A3 n.fs.length c3, .slice A4 n.sy.length c4, .bool n.has, .string n.df, .int .i64 n.size, .int .i64 n.items, .slice A9 n.br.length c9]) :
 Calls Tryz.prog 153 #[.agg #[.int .i64 n.k, .string n.name, .slice A2 n.al.length c2, .slice A3 n.fs.length c3, .slice A4 n.sy.length c4, .bool n.has, .string n.df, .int .i64 n.size, .int .i64 n.items, .slice A9 n.br.length c9]] w (KidsA n.kids w) := by
 have CS := cell_set
 have ek : n.kids = n.fs.map Fd.ty := by unfold Nd.kids; rw [if_pos hk]
 obtain ⟨_, _, _, _, _, _, _, _, e, _, _, len3, row3, _, _, len9, row9⟩ := Nd.out.1 h
 simp only [List.cons.injEq, Value.slice.injEq, true_and, and_true] at e
 obtain ⟨⟨rfl, rfl⟩, ⟨rfl, rfl⟩, ⟨rfl, rfl⟩, rfl, rfl⟩ := e
 rw [ek, hk]
 have RW := Lib.hid row3
 obtain ⟨fs, hfs⟩ : ∃ fs, fs = n.fs := ⟨_, rfl⟩
 rw [← hfs] at hs RW ⊢
 obtain ⟨m, hm⟩ : ∃ m, m = fs.length := ⟨_, rfl⟩
 have HM := Lib.hid hm
 rw [← hm] at hs ⊢
 have W1 : Below w.heap.size w (w.alloc (.cells #[.int .i64 9, .string n.name, .slice A2 n.al.length c2, .slice A3 m c3, .slice A4 n.sy.length c4, .bool n.has, .string n.df, .int .i64 n.size, .int .i64 n.items, .slice A9 n.br.length c9] 59)) := (Below.refl _ _).alloc (Nat.le_refl _) _
 have gz : (w.alloc (.cells #[.int .i64 9, .string n.name, .slice A2 n.al.length c2, .slice A3 m c3, .slice A4 n.sy.length c4, .bool n.has, .string n.df, .int .i64 n.size, .int .i64 n.items, .slice A9 n.br.length c9] 59)).heap.size = w.heap.size + 1 := by simp
 have GZ := Lib.hid gz
 clear h row3 row9 hm hfs ek len3 len9 gz
 generalize n.al.length = e2 at *
 generalize n.sy.length = e4 at *
 generalize n.br.length = e9 at *
 have SZ : Hid (∀ (W : World) (o : Obj), (W.alloc o).heap.size = W.heap.size + 1) := fun W o => by simp
 have BK := Lib.hid (Blk.new w 59 #[.int .i64 9, .string n.name, .slice A2 e2 c2, .slice A3 m c3, .slice A4 e4 c4, .bool n.has, .string n.df, .int .i64 n.size, .int .i64 n.items, .slice A9 e9 c9])
 go_enter Tryz.func153, Tryz.ntmps153
 go_wp2_with (at_make; refine wpList_mkR0 _ intT rfl (.const (.int .i64 0)) (.tmp 12) rfl (w.heap.size + 1) _ m rfl rfl rfl (by omega) (by rw [GZ.out]; exact Nat.le_refl _) ?_; intro v0 w0 o0 b0; have z0 := b0.size; rw [GZ.out] at z0; have k3 := (b0.cell (p := ⟨w.heap.size, 3, none⟩) (Nat.lt_succ_self _)).trans ((BK.out).cell 3); simp at k3)
 go_loopw [17, 3] (fun t v wr => ∃ j : Nat, j ≤ m ∧ t = .int .i64 (j : Int) ∧ OwnR wr (w.heap.size + 1) 3 1 v j (((fs.take j).map Fd.ty).map (Value.int .i64)) ∧ Hid (Below (w.heap.size + 1) (w.alloc (.cells #[.int .i64 9, .string n.name, .slice A2 e2 c2, .slice A3 m c3, .slice A4 e4 c4, .bool n.has, .string n.df, .int .i64 n.size, .int .i64 n.items, .slice A9 e9 c9] 59)) wr)) (fun t _ _ => m - (intOf t).toNat)
 case atStart => exact ⟨0, Nat.zero_le _, rfl, o0, b0⟩
 case round =>
  obtain ⟨j, hj, rfl, ow, bl⟩ := hrel
  have bl2 := bl.out
  have z := bl2.size
  rw [GZ.out] at z
  have k3 := (bl2.cell (p := ⟨w.heap.size, 3, none⟩) (Nat.lt_succ_self _)).trans ((BK.out).cell 3)
  simp at k3
  by_cases hjm : j < m
  · have q : (j : Int) < (m : Int) := by omega
    obtain ⟨g, off, A1, c1, B3, d3, B4, d4, e, hg, ⟨f0, f1, f2, f3, f4, f5, f6, f7, f8⟩, _⟩ := fields_at RW.out (i := j) (by rw [← HM.out]; exact hjm)
    obtain rfl := e
    have hgw : g < w.heap.size := hg
    have y0 := (bl2.cell (p := ⟨g, off + j * 9, none⟩) (Nat.lt_succ_of_lt hgw)).trans ((W1.cell (p := ⟨g, off + j * 9, none⟩) hgw).trans f0)
    have y1 := (bl2.cell (p := ⟨g, off + j * 9 + 1, none⟩) (Nat.lt_succ_of_lt hgw)).trans ((W1.cell (p := ⟨g, off + j * 9 + 1, none⟩) hgw).trans f1)
    have y2 := (bl2.cell (p := ⟨g, off + j * 9 + 2, none⟩) (Nat.lt_succ_of_lt hgw)).trans ((W1.cell (p := ⟨g, off + j * 9 + 2, none⟩) hgw).trans f2)
    have y3 := (bl2.cell (p := ⟨g, off + j * 9 + 3, none⟩) (Nat.lt_succ_of_lt hgw)).trans ((W1.cell (p := ⟨g, off + j * 9 + 3, none⟩) hgw).trans f3)
    have y4 := (bl2.cell (p := ⟨g, off + j * 9 + 4, none⟩) (Nat.lt_succ_of_lt hgw)).trans ((W1.cell (p := ⟨g, off + j * 9 + 4, none⟩) hgw).trans f4)
    have y5 := (bl2.cell (p := ⟨g, off + j * 9 + 5, none⟩) (Nat.lt_succ_of_lt hgw)).trans ((W1.cell (p := ⟨g, off + j * 9 + 5, none⟩) hgw).trans f5)
    have y6 := (bl2.cell (p := ⟨g, off + j * 9 + 6, none⟩) (Nat.lt_succ_of_lt hgw)).trans ((W1.cell (p := ⟨g, off + j * 9 + 6, none⟩) hgw).trans f6)
    have y7 := (bl2.cell (p := ⟨g, off + j * 9 + 7, none⟩) (Nat.lt_succ_of_lt hgw)).trans ((W1.cell (p := ⟨g, off + j * 9 + 7, none⟩) hgw).trans f7)
    have y8 := (bl2.cell (p := ⟨g, off + j * 9 + 8, none⟩) (Nat.lt_succ_of_lt hgw)).trans ((W1.cell (p := ⟨g, off + j * 9 + 8, none⟩) hgw).trans f8)
    have TK : Hid ((fs.take (j + 1)).map Fd.ty = (fs.take j).map Fd.ty ++ [(fs[j]'(by rw [← HM.out]; exact hjm)).ty]) := by
     show _ = _
     rw [List.take_succ_eq_append_getElem (by rw [← HM.out]; exact hjm), List.map_append]; rfl
    generalize fs[j]'(by rw [← HM.out]; exact hjm) = F at *
    generalize F.al.length = l1 at *
    generalize F.df.its.length = l3 at *
    generalize F.df.ks.length = l4 at *
    clear f0 f1 f2 f3 f4 f5 f6 f7 f8
    have ow2 := ow.alloc (.cells #[.string F.name, .slice A1 l1 c1, .int .i64 F.ty, .bool F.has, .int .i64 F.df.k, .int .i64 F.df.n, .string F.df.t, .slice B3 l3 d3, .slice B4 l4 d4] 61)
    go_wp2_with (at_builtin; refine wpList_appR1 _ intT rfl (.tmp 21) (.tmp 24) rfl (w.heap.size + 1) _ j _ rfl ow2 1 #[.int .i64 F.ty] (by rw [SZ.out]; rfl) rfl (by simp [Value.oneCell']) (by omega) (by simp; omega) ?_; intro v3 w3 o3 b3 _)
    go_roundw
    case rel => exact ⟨j + 1, by omega, by go_num, by rw [TK.out, List.map_append]; exact o3, (bl2.alloc (by omega) _).trans b3⟩
    case measure => simp [intOf]; omega
  · obtain rfl : j = m := by omega
    have q : ¬ (j : Int) < (j : Int) := by omega
    have TK : fs.take j = fs := by rw [HM.out, List.take_length]
    rw [TK] at ow
    have OW := Lib.hid ow
    clear ow
    go_wp2_with fail
    go_ret
    exact kids_ret OW.out (Nat.le_succ _) rfl (by rw [List.length_map]; exact HM.out) (by rw [List.length_map, ← HM.out]; omega) (W1.trans (bl2.mono (Nat.le_succ _)))
theorem sKids_11 (n : Nd) (hk : n.k = 11) (w : World) (A2 A3 A4 A9 : Option Addr) (c2 c3 c4 c9 : Nat)
 (h : Lies w (· < w.heap.size) n.enc [.int .i64 n.k, .string n.name, .slice A2 n.al.length c2, .slice A3 n.fs.length c3, .slice A4 n.sy.length c4, .bool n.has, .string n.df, .int .i64 n.size, .int .i64 n.items, .slice A9 n.br.length c9]) :
 Calls Tryz.prog 153 #[.agg #[.int .i64 n.k, .string n.name, .slice A2 n.al.length c2, .slice A3 n.fs.length c3, .slice A4 n.sy.length c4, .bool n.has, .string n.df, .int .i64 n.size, .int .i64 n.items, .slice A9 n.br.length c9]] w (KidsA n.kids w) := by
 have CS := cell_set
 have ek : n.kids = [n.items] := by unfold Nd.kids; rw [if_neg (by omega), if_pos (by omega)]
 obtain ⟨_, _, _, _, _, _, _, _, e, _, _, len3, row3, _, _, len9, row9⟩ := Nd.out.1 h
 simp only [List.cons.injEq, Value.slice.injEq, true_and, and_true] at e
 obtain ⟨⟨rfl, rfl⟩, ⟨rfl, rfl⟩, ⟨rfl, rfl⟩, rfl, rfl⟩ := e
 rw [ek, hk]
 clear h row3 row9 ek len3 len9
 have W1 : Below w.heap.size w (w.alloc (.cells #[.int .i64 11, .string n.name, .slice A2 n.al.length c2, .slice A3 n.fs.length c3, .slice A4 n.sy.length c4, .bool n.has, .string n.df, .int .i64 n.size, .int .i64 n.items, .slice A9 n.br.length c9] 59)) := (Below.refl _ _).alloc (Nat.le_refl _) _
 have W2 : Below w.heap.size w ((w.alloc (.cells #[.int .i64 11, .string n.name, .slice A2 n.al.length c2, .slice A3 n.fs.length c3, .slice A4 n.sy.length c4, .bool n.has, .string n.df, .int .i64 n.size, .int .i64 n.items, .slice A9 n.br.length c9] 59)).alloc (.cells #[.int .i64 n.items] 3)) := W1.alloc (by simp) _
 have BK := Lib.hid (Blk.new (w.alloc (.cells #[.int .i64 11, .string n.name, .slice A2 n.al.length c2, .slice A3 n.fs.length c3, .slice A4 n.sy.length c4, .bool n.has, .string n.df, .int .i64 n.size, .int .i64 n.items, .slice A9 n.br.length c9] 59)) 3 #[.int .i64 n.items])
 go_enter Tryz.func153, Tryz.ntmps153
 go_wp2_with fail
 go_ret
 refine ⟨_, _, rfl, ⟨Nat.le_refl _, by unfold maxLen; simp⟩, row_ints (.inr ⟨_, 0, rfl, ⟨by simp, by simp⟩, fun k hk => ?_⟩), W2⟩
 have hk0 : k = 0 := by simpa using hk
 subst hk0
 have z := (BK.out).cell 0
 simp at z ⊢
 try exact z
theorem sKids_12 (n : Nd) (hk : n.k = 12) (w : World) (A2 A3 A4 A9 : Option Addr) (c2 c3 c4 c9 : Nat)
 (h : Lies w (· < w.heap.size) n.enc [.int .i64 n.k, .string n.name, .slice A2 n.al.length c2, .slice A3 n.fs.length c3, .slice A4 n.sy.length c4, .bool n.has, .string n.df, .int .i64 n.size, .int .i64 n.items, .slice A9 n.br.length c9]) :
 Calls Tryz.prog 153 #[.agg #[.int .i64 n.k, .string n.name, .slice A2 n.al.length c2, .slice A3 n.fs.length c3, .slice A4 n.sy.length c4, .bool n.has, .string n.df, .int .i64 n.size, .int .i64 n.items, .slice A9 n.br.length c9]] w (KidsA n.kids w) := by
 have CS := cell_set
 have ek : n.kids = [n.items] := by unfold Nd.kids; rw [if_neg (by omega), if_pos (by omega)]
 obtain ⟨_, _, _, _, _, _, _, _, e, _, _, len3, row3, _, _, len9, row9⟩ := Nd.out.1 h
 simp only [List.cons.injEq, Value.slice.injEq, true_and, and_true] at e
 obtain ⟨⟨rfl, rfl⟩, ⟨rfl, rfl⟩, ⟨rfl, rfl⟩, rfl, rfl⟩ := e
 rw [ek, hk]
 clear h row3 row9 ek len3 len9
 have W1 : Below w.heap.size w (w.alloc (.cells #[.int .i64 12, .string n.name, .slice A2 n.al.length c2, .slice A3 n.fs.length c3, .slice A4 n.sy.length c4, .bool n.has, .string n.df, .int .i64 n.size, .int .i64 n.items, .slice A9 n.br.length c9] 59)) := (Below.refl _ _).alloc (Nat.le_refl _) _
 have W2 : Below w.heap.size w ((w.alloc (.cells #[.int .i64 12, .string n.name, .slice A2 n.al.length c2, .slice A3 n.fs.length c3, .slice A4 n.sy.length c4, .bool n.has, .string n.df, .int .i64 n.size, .int .i64 n.items, .slice A9 n.br.length c9] 59)).alloc (.cells #[.int .i64 n.items] 3)) := W1.alloc (by simp) _
 have BK := Lib.hid (Blk.new (w.alloc (.cells #[.int .i64 12, .string n.name, .slice A2 n.al.length c2, .slice A3 n.fs.length c3, .slice A4 n.sy.length c4, .bool n.has, .string n.df, .int .i64 n.size, .int .i64 n.items, .slice A9 n.br.length c9] 59)) 3 #[.int .i64 n.items])
 go_enter Tryz.func153, Tryz.ntmps153
 go_wp2_with fail
 go_ret
 refine ⟨_, _, rfl, ⟨Nat.le_refl _, by unfold maxLen; simp⟩, row_ints (.inr ⟨_, 0, rfl, ⟨by simp, by simp⟩, fun k hk => ?_⟩), W2⟩
 have hk0 : k = 0 := by simpa using hk
 subst hk0
 have z := (BK.out).cell 0
 simp at z ⊢
 try exact z
theorem sKids_13 (n : Nd) (hk : n.k = 13) (hs : n.br.length ≤ 100000000) (w : World) (A2 A3 A4 A9 : Option Addr) (c2 c3 c4 c9 : Nat)
 (h : Lies w (· < w.heap.size) n.enc [.int .i64 n.k, .string n.name, .slice A2 n.al.length c2, .slice A3 n.fs.length c3, .slice A4 n.sy.length c4, .bool n.has, .string n.df, .int .i64 n.size, .int .i64 n.items, .slice A9 n.br.length c9]) :
 Calls Tryz.prog 153 #[.agg #[.int .i64 n.k, .string n.name, .slice A2 n.al.length c2, .slice A3 n.fs.length c3, .slice A4 n.sy.length c4, .bool n.has, .string n.df, .int .i64 n.size, .int .i64 n.items, .slice A9 n.br.length c9]] w (KidsA n.kids w) := by
 have CS := cell_set
 have ek : n.kids = n.br := by unfold Nd.kids; rw [if_neg (by omega), if_neg (by omega), if_pos hk]
 obtain ⟨_, _, _, _, _, _, _, _, e, _, _, len3, row3, _, _, len9, row9⟩ := Nd.out.1 h
 simp only [List.cons.injEq, Value.slice.injEq, true_and, and_true] at e
 obtain ⟨⟨rfl, rfl⟩, ⟨rfl, rfl⟩, ⟨rfl, rfl⟩, rfl, rfl⟩ := e
 rw [ek, hk]
 have W1 : Below w.heap.size w (w.alloc (.cells #[.int .i64 13, .string n.name, .slice A2 n.al.length c2, .slice A3 n.fs.length c3, .slice A4 n.sy.length c4, .bool n.has, .string n.df, .int .i64 n.size, .int .i64 n.items, .slice A9 n.br.length c9] 59)) := (Below.refl _ _).alloc (Nat.le_refl _) _
 have CL := Lib.hid (sClone_any n.br hs (w.alloc (.cells #[.int .i64 13, .string n.name, .slice A2 n.al.length c2, .slice A3 n.fs.length c3, .slice A4 n.sy.length c4, .bool n.has, .string n.df, .int .i64 n.size, .int .i64 n.items, .slice A9 n.br.length c9] 59)) A9 c9 (row9.on W1))
 clear h row3 row9 ek len3 len9
 go_enter Tryz.func153, Tryz.ntmps153
 go_wp2_with fail
 with_reducible refine CL.out.mono ?_
 rintro e w3 ⟨A, c, rfl, hl, hr, b3⟩
 have HR := Lib.hid hr
 clear hr
 go_wp2_with fail
 go_ret
 refine ⟨A, c, rfl, hl, (HR.out).keep (fun _ _ => rfl) fun g hg => ⟨by have := hg.1; simp at this; omega, hg.2⟩, W1.trans (b3.mono (by simp))⟩
theorem sKids_0 (n : Nd) (h9 : n.k ≠ 9) (h11 : n.k ≠ 11) (h12 : n.k ≠ 12) (h13 : n.k ≠ 13) (w : World) (A2 A3 A4 A9 : Option Addr) (c2 c3 c4 c9 : Nat)
 (h : Lies w (· < w.heap.size) n.enc [.int .i64 n.k, .string n.name, .slice A2 n.al.length c2, .slice A3 n.fs.length c3, .slice A4 n.sy.length c4, .bool n.has, .string n.df, .int .i64 n.size, .int .i64 n.items, .slice A9 n.br.length c9]) :
 Calls Tryz.prog 153 #[.agg #[.int .i64 n.k, .string n.name, .slice A2 n.al.length c2, .slice A3 n.fs.length c3, .slice A4 n.sy.length c4, .bool n.has, .string n.df, .int .i64 n.size, .int .i64 n.items, .slice A9 n.br.length c9]] w (KidsA n.kids w) := by
 have CS := cell_set
 have ek : n.kids = [] := by unfold Nd.kids; rw [if_neg h9, if_neg (by omega), if_neg h13]
 obtain ⟨_, _, _, _, _, _, _, _, e, _, _, len3, row3, _, _, len9, row9⟩ := Nd.out.1 h
 simp only [List.cons.injEq, Value.slice.injEq, true_and, and_true] at e
 obtain ⟨⟨rfl, rfl⟩, ⟨rfl, rfl⟩, ⟨rfl, rfl⟩, rfl, rfl⟩ := e
 rw [ek]
 obtain ⟨k, hk⟩ : ∃ k, k = n.k := ⟨_, rfl⟩
 rw [← hk] at h9 h11 h12 h13 ⊢
 have q9 : ((k : Int) == 9) = false := by rw [beq_eq_false_iff_ne]; exact h9
 have q11 : ((k : Int) == 11) = false := by rw [beq_eq_false_iff_ne]; exact h11
 have q12 : ((k : Int) == 12) = false := by rw [beq_eq_false_iff_ne]; exact h12
 have q13 : ((k : Int) == 13) = false := by rw [beq_eq_false_iff_ne]; exact h13
 have W1 : Below w.heap.size w (w.alloc (.cells #[.int .i64 k, .string n.name, .slice A2 n.al.length c2, .slice A3 n.fs.length c3, .slice A4 n.sy.length c4, .bool n.has, .string n.df, .int .i64 n.size, .int .i64 n.items, .slice A9 n.br.length c9] 59)) := (Below.refl _ _).alloc (Nat.le_refl _) _
 clear h row3 row9 ek len3 len9 hk h9 h11 h12 h13
 go_enter Tryz.func153, Tryz.ntmps153
 go_wp2_with fail
 go_ret
 exact kids_ret (OwnR.none_ _ w.heap.size 3 1) (Nat.le_refl _) rfl rfl (by decide) W1
theorem sKids_any (n : Nd) (h3 : n.fs.length ≤ 100000000) (h9 : n.br.length ≤ 100000000) (w : World) (A2 A3 A4 A9 : Option Addr) (c2 c3 c4 c9 : Nat)
 (h : Lies w (· < w.heap.size) n.enc [.int .i64 n.k, .string n.name, .slice A2 n.al.length c2, .slice A3 n.fs.length c3, .slice A4 n.sy.length c4, .bool n.has, .string n.df, .int .i64 n.size, .int .i64 n.items, .slice A9 n.br.length c9]) :
 Calls Tryz.prog 153 #[.agg #[.int .i64 n.k, .string n.name, .slice A2 n.al.length c2, .slice A3 n.fs.length c3, .slice A4 n.sy.length c4, .bool n.has, .string n.df, .int .i64 n.size, .int .i64 n.items, .slice A9 n.br.length c9]] w (KidsA n.kids w) := by
 by_cases k9 : n.k = 9
 · exact sKids_9 n k9 h3 w A2 A3 A4 A9 c2 c3 c4 c9 h
 · by_cases k11 : n.k = 11
   · exact sKids_11 n k11 w A2 A3 A4 A9 c2 c3 c4 c9 h
   · by_cases k12 : n.k = 12
     · exact sKids_12 n k12 w A2 A3 A4 A9 c2 c3 c4 c9 h
     · by_cases k13 : n.k = 13
       · exact sKids_13 n k13 h9 w A2 A3 A4 A9 c2 c3 c4 c9 h
       · exact sKids_0 n k9 k11 k12 k13 w A2 A3 A4 A9 c2 c3 c4 c9 h
def acc (l : List UInt8) : Nat → Int
 | 0 => 0
 | j + 1 => acc l j * 16 + Jx.hex (Jx.byt l j)
end Go.Proofs.YthfoomobicbcpaaGreatDoor
