/- Joined by tools/bundle.py: JSnd. -/
import Derived.Test.YthogheglddfniaaGreatDoorW1
import Derived.Test.YthogheglddfniaaGreatDoorW3
import Derived.Test.YthogheglddfniaaGreatDoorW25
import Derived.Test.YthogheglddfniaaGreatDoorW0
set_option maxRecDepth 100000
set_option maxHeartbeats 16000000
namespace Go.Proofs.YthogheglddfniaaGreatDoor
open Num
theorem Num.cU_ue {c : Nat} (h : isC (c : Int)) : (cU (ue c)).isSome = true := by
 rw [cU_go (by simpa using fst_ue h []), List.drop_length, cU_nil]; rfl
theorem Num.cU_join {a b : List UInt8} (ha : (cU a).isSome = true) (hb : (cU b).isSome = true) : (cU (a ++ b)).isSome = true := by
 obtain ⟨n, hn⟩ := Option.isSome_iff_exists.1 ha
 rw [cU_app a.length a b n (Nat.le_refl _) hn, Option.isSome_map]; exact hb
theorem Num.cU_fst {l : List UInt8} (h : (fst l).2.2 = 0) : (cU (l.take (fst l).2.1)).isSome = true := by
 rcases fst_err l with ⟨c, n, e, _⟩ | ⟨e, _⟩ | e
 · obtain ⟨h1, h2, _⟩ := ue_fst e
   rw [e, ← h2]; exact cU_ue h1
 · rw [e] at h; cases h
 · rw [e] at h; cases h
namespace Jx
theorem item_right {l o : List UInt8} {n : Nat} (h : item l = some (o, n)) : (cU o).isSome = true := by
 unfold item at h
 split at h
 · split at h
   · rename_i v hv
     simp only [Option.some.injEq, Prod.mk.injEq] at h
     obtain ⟨rfl, _⟩ := h
     have hv2 : v < 128 := by
      unfold esc at hv
      repeat' (split at hv)
      all_goals first
       | (simp only [Option.some.injEq] at hv; omega)
       | cases hv
     rw [← ue_1 hv2]
     exact cU_ue (by unfold isC; omega)
   · split at h
     · unfold uni at h
       split at h
       · split at h
         · rename_i h1 h2
           simp only [Option.some.injEq, Prod.mk.injEq] at h
           obtain ⟨rfl, _⟩ := h
           exact cU_ue (by unfold isC; omega)
         · cases h
       · split at h
         · rename_i h1 h2
           simp only [Option.some.injEq, Prod.mk.injEq] at h
           obtain ⟨rfl, _⟩ := h
           have h3 := h2
           unfold isC at h3
           exact cU_ue (by rw [Int.toNat_of_nonneg h3.1]; exact h2)
         · cases h
     · cases h
 · split at h
   · rename_i h1
     simp only [Option.some.injEq, Prod.mk.injEq] at h
     obtain ⟨rfl, _⟩ := h
     exact cU_fst h1
   · cases h
theorem txtF_right : ∀ (f : Nat) {l o : List UInt8} {n : Nat}, txtF f l = some (o, n) → (cU o).isSome = true
 | 0, _, _, _, h => by cases h
 | f + 1, l, o, n, h => by
  unfold txtF at h
  split at h
  · cases h
  · split at h
    · simp only [Option.some.injEq, Prod.mk.injEq] at h
      obtain ⟨rfl, _⟩ := h
      rw [cU_nil]; rfl
    · split at h
      · cases h
      · rename_i o1 n1 hi
        obtain ⟨⟨o2, n2⟩, h2, e⟩ := Option.map_eq_some_iff.1 h
        simp only [Prod.mk.injEq] at e
        obtain ⟨rfl, _⟩ := e
        exact cU_join (item_right hi) (txtF_right f h2)
theorem word_right {l : List UInt8} (h : (word l).1.k = 10) : (cU (word l).1.t).isSome = true := by
 unfold word at h ⊢
 split
 · rename_i h1
   rw [if_pos h1] at h
   have h' : punct (byt l 0) = 10 := h
   have : punct (byt l 0) ≤ 6 := by unfold punct; repeat' split
                                    all_goals omega
   omega
 · rename_i h1
   rw [if_neg h1] at h
   split
   · rename_i h2
     rw [if_pos h2] at h
     split
     · rename_i h3; rw [h3] at h; cases h
     · rename_i s k h3
       exact txtF_right _ h3
   · rename_i h2
     rw [if_neg h2] at h
     repeat' split at h
     all_goals cases h
theorem tak_right {l : List UInt8} {p : Nat} (h : (tak l p).1.k = 10) : (cU (tak l p).1.t).isSome = true := by
 unfold tak at h ⊢
 split
 · rename_i h1; rw [if_pos h1] at h; cases h
 · rename_i h1
   rw [if_neg h1] at h
   split
   · rename_i h2
     rw [if_pos h2] at h
     exact word_right h
   · rename_i h2; rw [if_neg h2] at h; cases h
end Jx
def right7 (s : ByteArray) : Prop := (cU s.data.toList).isSome = true ∧ s.size ≤ 100000000
mutual
/-- A tree without a key twice, of texts of characters. -/
def J.snd : J → Prop
 | .mk k _ t its ks => right7 t ∧ (k = 6 → ks.length = its.length) ∧ (ks ≠ [] → k = 6) ∧ (∀ x, x ∈ ks → right7 x) ∧ ks.Nodup ∧ J.snds its
def J.snds : List J → Prop
 | [] => True
 | j :: r => J.snd j ∧ J.snds r
end
theorem J.snds_snoc {l : List J} {j : J} (h : J.snds l) (hj : j.snd) : J.snds (l ++ [j]) := by
 induction l with
 | nil => unfold J.snds; exact ⟨hj, by unfold J.snds; trivial⟩
 | cons x r ih => unfold J.snds at h; rw [List.cons_append]; unfold J.snds; exact ⟨h.1, ih h.2⟩
theorem right7_nil : right7 ⟨#[]⟩ := ⟨by rw [show (⟨#[]⟩ : ByteArray).data.toList = [] from rfl, cU_nil]; rfl, by decide⟩
theorem right7_str {t : List UInt8} (h : (cU t).isSome = true) (hl : t.length ≤ 100000000) : right7 (Jp.str t) := ⟨by unfold Jp.str; simpa using h, by unfold Jp.str; simpa [ByteArray.size] using hl⟩
theorem J.snd_leaf (k n : Int) {t : ByteArray} (h : right7 t) : (J.mk k n t [] []).snd := by
 unfold J.snd; exact ⟨h, (fun _ => rfl), (fun h => absurd rfl h), (fun _ h => by cases h), List.nodup_nil, (by unfold J.snds; trivial)⟩
namespace Jp
open Jx
structure Gd (e d : Nat) (ks : List ByteArray) (js : List J) : Prop where
 len : e = 2 → ks.length = js.length
 nok : e = 4 → ks = []
 rt : ∀ x, x ∈ ks → right7 x
 nd : ks.Nodup
 sn : J.snds js
 dp : ∀ i (h : i < js.length), (js[i]'h).deep + d ≤ 32
theorem Gd.nil (e d : Nat) : Gd e d [] [] := ⟨(fun _ => rfl), (fun _ => rfl), (fun _ h => by cases h), List.nodup_nil, (by unfold J.snds; trivial), (fun _ h => absurd h (Nat.not_lt_zero _))⟩
theorem Gd.tree {e d : Nat} {ks : List ByteArray} {js : List J} (h : Gd e d ks js) (he : e = 2 ∨ e = 4) (h1 : 1 ≤ d) (h32 : d ≤ 32) : (J.mk (kindOf e) 0 nil_ js ks).snd ∧ (J.mk (kindOf e) 0 nil_ js ks).deep + (d - 1) ≤ 32 := by
 constructor
 · unfold J.snd
   refine ⟨right7_nil, fun hk => ?_, fun hk => ?_, h.rt, h.nd, h.sn⟩
   · rcases he with rfl | rfl
     · exact h.len rfl
     · unfold kindOf at hk; simp at hk
   · rcases he with rfl | rfl
     · rfl
     · exact absurd (h.nok rfl) hk
 · have : (J.mk (kindOf e) 0 nil_ js ks).deep ≤ 33 - d := by
    have dk : (kindOf e) = 5 ∨ (kindOf e) = 6 := by rcases he with rfl | rfl <;> decide
    rw [J.deep_in (j := J.mk (kindOf e) 0 nil_ js ks) dk]
    show J.deeps js ≤ _
    have key : ∀ (l : List J), (∀ i (h : i < l.length), (l[i]'h).deep + d ≤ 32) → J.deeps l ≤ 33 - d := by
     intro l
     induction l with
     | nil => intro _; unfold J.deeps; omega
     | cons x r ih =>
      intro hh
      unfold J.deeps
      have h0 := hh 0 (by simp)
      have hr := ih (fun i hi => by have := hh (i + 1) (by simpa using hi); simpa using this)
      simp at h0
      omega
    exact key js h.dp
   omega
theorem Gd.item4 {d : Nat} {ks : List ByteArray} {js : List J} {j : J} (h : Gd 4 d ks js) (hs : j.snd) (hd : j.deep + d ≤ 32) : Gd 4 d ks (js ++ [j]) where
 len := fun e => by cases e
 nok := h.nok
 rt := h.rt
 nd := h.nd
 sn := J.snds_snoc h.sn hs
 dp := fun i hi => by
  rcases Nat.lt_or_ge i js.length with g | g
  · rw [List.getElem_append_left g]; exact h.dp i g
  · obtain rfl : i = js.length := by simp at hi; omega
    simpa using hd
theorem Gd.item2 {d : Nat} {ks : List ByteArray} {js : List J} {j : J} {k : ByteArray} (h : Gd 2 d ks js) (hs : j.snd) (hd : j.deep + d ≤ 32) (hk : right7 k) (hn : ¬ (place7 ks k).isSome = true) : Gd 2 d (ks ++ [k]) (js ++ [j]) where
 len := fun _ => by simp [h.len rfl]
 nok := fun e => by cases e
 rt := fun x hx => by
  rcases List.mem_append.1 hx with g | g
  · exact h.rt x g
  · rw [List.mem_singleton.1 g]; exact hk
 nd := by
  rw [List.nodup_append]
  refine ⟨h.nd, by simp, fun x hx y hy => ?_⟩
  rw [List.mem_singleton.1 hy]
  intro e
  subst e
  apply hn
  rw [← place7_any, List.any_eq_true]
  exact ⟨_, hx, by simp⟩
 sn := J.snds_snoc h.sn hs
 dp := fun i hi => by
  rcases Nat.lt_or_ge i js.length with g | g
  · rw [List.getElem_append_left g]; exact h.dp i g
  · obtain rfl : i = js.length := by simp at hi; omega
    simpa using hd
theorem nxt_gd {r : R} {kn : List ByteArray} {e g : Nat} {l : List UInt8} {d : Nat} {js : List J} (he : e = 2 ∨ e = 4) (h1 : 1 ≤ d) (h32 : d ≤ 32) (hl : r.2.2 = 0 → r.2.1 ≤ l.length) (hg : r.2.2 = 0 → Gd e d kn (js ++ [r.1]))
 (hi : ∀ p kn js, p ≤ l.length → Gd e d kn js → (pits g l p d e kn js).2.2 = 0 → (pits g l p d e kn js).1.snd ∧ (pits g l p d e kn js).1.deep + (d - 1) ≤ 32) (h : (nxt r kn e g l d js).2.2 = 0) : (nxt r kn e g l d js).1.snd ∧ (nxt r kn e g l d js).1.deep + (d - 1) ≤ 32 := by
 unfold nxt at h ⊢
 by_cases g1 : r.2.2 = 0
 · rw [if_neg (fun h => h g1)] at h ⊢
   by_cases g2 : (tak l r.2.1).2 = 0
   · rw [if_neg (fun h => h g2)] at h ⊢
     by_cases g3 : (tak l r.2.1).1.k = e
     · rw [if_pos g3] at h ⊢
       exact (hg g1).tree he h1 h32
     · rw [if_neg g3] at h ⊢
       by_cases g4 : (tak l r.2.1).1.k = 6
       · rw [if_neg (fun h => h g4)] at h ⊢
         exact hi _ _ _ (fine_x (hl g1)) (hg g1) h
       · rw [if_pos g4] at h; cases h
   · rw [if_pos g2] at h; exact absurd h g2
 · rw [if_pos g1] at h; exact absurd h g1
theorem snd_all (f : Nat) : (∀ (l : List UInt8) (p d : Nat), l.length ≤ 100000000 → p ≤ l.length → d ≤ 32 → (pval f l p d).2.2 = 0 → (pval f l p d).1.snd ∧ (pval f l p d).1.deep + d ≤ 32) ∧
 (∀ (l : List UInt8) (e : Nat), l.length ≤ 100000000 → (e = 2 ∨ e = 4) → ∀ (d : Nat), 1 ≤ d → d ≤ 32 → ∀ (p : Nat) (ks : List ByteArray) (js : List J), p ≤ l.length → Gd e d ks js → (pits f l p d e ks js).2.2 = 0 → (pits f l p d e ks js).1.snd ∧ (pits f l p d e ks js).1.deep + (d - 1) ≤ 32) := by
 induction f with
 | zero =>
  refine ⟨fun l p d _ _ _ h => ?_, fun l e _ _ d _ _ p ks js _ _ h => ?_⟩
  · unfold pval at h; cases h
  · unfold pits at h; cases h
 | succ f ih =>
  refine ⟨fun l p d hl hp hd h => ?_, fun l e hl he d h1 h32 p ks js hp hg h => ?_⟩
  · unfold pval at h ⊢
    by_cases h0 : (tak l p).2 = 0
    · rw [if_neg (fun h => h h0)] at h ⊢
      have fx := fine_x hp
      have leaf : ∀ (k n : Int) (t : ByteArray), (¬ (k = 5 ∨ k = 6)) → right7 t → (J.mk k n t [] []).snd ∧ (J.mk k n t [] []).deep + d ≤ 32 := fun k n t hk ht => ⟨J.snd_leaf k n ht, by rw [J.deep_out (j := .mk k n t [] []) hk]; omega⟩
      by_cases h7 : (tak l p).1.k = 7
      · rw [if_pos h7]; exact leaf 2 _ _ (by decide) right7_nil
      · rw [if_neg h7] at h ⊢
        by_cases h8 : (tak l p).1.k = 8
        · rw [if_pos h8]; exact leaf 1 _ _ (by decide) right7_nil
        · rw [if_neg h8] at h ⊢
          by_cases h9 : (tak l p).1.k = 9
          · rw [if_pos h9]; exact leaf 3 _ _ (by decide) right7_nil
          · rw [if_neg h9] at h ⊢
            by_cases h10 : (tak l p).1.k = 10
            · rw [if_pos h10]
              exact leaf 4 _ _ (by decide) (right7_str (tak_right h10) (Nat.le_trans (tak_fine l p hp).1.2.2.2.2.2 hl))
            · rw [if_neg h10] at h ⊢
              by_cases h13 : (tak l p).1.k = 1 ∨ (tak l p).1.k = 3
              · rw [if_pos h13] at h ⊢
                by_cases h32 : d = 32
                · rw [if_pos h32] at h; cases h
                · rw [if_neg h32] at h ⊢
                  have he : (tak l p).1.k + 1 = 2 ∨ (tak l p).1.k + 1 = 4 := by omega
                  by_cases hz : (tak l (tak l p).1.x).2 = 0 ∧ (tak l (tak l p).1.x).1.k = (tak l p).1.k + 1
                  · rw [if_pos hz]
                    have := (Gd.nil ((tak l p).1.k + 1) (d + 1)).tree he (by omega) (by omega)
                    exact ⟨this.1, by have := this.2; simpa using this⟩
                  · rw [if_neg hz] at h ⊢
                    have := ih.2 l _ hl he (d + 1) (by omega) (by omega) _ [] [] fx (Gd.nil _ _) h
                    exact ⟨this.1, by have := this.2; simpa using this⟩
              · rw [if_neg h13] at h; cases h
    · rw [if_pos h0] at h; exact absurd h h0
  · rcases he with rfl | rfl
    · by_cases h0 : (tak l p).2 = 0
      · rw [pits_2 f l p d ks js h0] at h ⊢
        have fx := fine_x hp
        refine nxt_gd (.inl rfl) h1 h32 (fun hr => (kv_pos hp h0 hr).2) (fun hr => ?_) (fun p kn js hp hg => ih.2 l 2 hl (.inl rfl) d h1 h32 p kn js hp hg) h
        unfold kv at hr ⊢
        by_cases g1 : (tak l p).1.k = 10
        · rw [if_neg (fun h => h g1)] at hr ⊢
          by_cases g2 : (place7 ks (str (tak l p).1.t)).isSome = true
          · rw [if_pos g2] at hr; cases hr
          · rw [if_neg g2] at hr ⊢
            by_cases g3 : (tak l (tak l p).1.x).2 = 0
            · rw [if_neg (fun h => h g3)] at hr ⊢
              by_cases g4 : (tak l (tak l p).1.x).1.k = 5
              · rw [if_neg (fun h => h g4)] at hr ⊢
                have := ih.1 l _ d hl (fine_x fx) h32 hr
                exact hg.item2 this.1 this.2 (right7_str (tak_right g1) (Nat.le_trans (tak_fine l p hp).1.2.2.2.2.2 hl)) g2
              · rw [if_pos g4] at hr; cases hr
            · rw [if_pos g3] at hr; exact absurd hr g3
        · rw [if_pos g1] at hr; cases hr
      · rw [pits, if_pos rfl, if_pos h0] at h; exact absurd h h0
    · rw [pits_4] at h ⊢
      refine nxt_gd (.inr rfl) h1 h32 (fun hr => ((pos f).1 l p d hp hr).2) (fun hr => ?_) (fun p kn js hp hg => ih.2 l 4 hl (.inr rfl) d h1 h32 p kn js hp hg) h
      have := ih.1 l p d hl hp h32 hr
      exact hg.item4 this.1 this.2
theorem parse_snd {l : List UInt8} (h : (parse l).2 = 0) : (parse l).1.snd ∧ (parse l).1.deep ≤ 32 := by
 unfold parse at h ⊢
 by_cases h0 : 20000 < l.length
 · rw [if_pos h0] at h; cases h
 · rw [if_neg h0] at h ⊢
   by_cases h1 : (pval (2 * l.length + 3) l 0 0).2.2 = 0
   · rw [if_neg (fun h => h h1)] at h ⊢
     have := (snd_all _).1 l 0 0 (by omega) (Nat.zero_le _) (by omega) h1
     by_cases h2 : (tak l (pval (2 * l.length + 3) l 0 0).2.1).2 = 0
     · rw [if_neg (fun h => h h2)] at h ⊢
       by_cases h3 : (tak l (pval (2 * l.length + 3) l 0 0).2.1).1.k = 11
       · rw [if_neg (fun h => h h3)]; exact this
       · rw [if_pos h3] at h; cases h
     · rw [if_pos h2] at h; exact absurd h h2
   · rw [if_pos h1] at h; exact absurd h h1
end Jp
end Go.Proofs.YthogheglddfniaaGreatDoor
