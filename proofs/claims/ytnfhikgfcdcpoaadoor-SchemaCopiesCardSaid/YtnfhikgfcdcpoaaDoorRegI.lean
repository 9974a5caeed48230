/- A region that draws its order, by an invariant over which of its operations are done. (Program-free.) -/
import Derived.Deep.RegionHeld
namespace Go.Proofs.YtnfhikgfcdcpoaaDoor.Mem
open Go

section
variable {P : Program} {md : Region.Mode} {ops : Array Oper} {Q : Exit → Act → World → Prop}
/-- What one operation is to do, of a state of which I holds, so that I holds behind it. -/
def RunsI (P : Program) (Q : Exit → Act → World → Prop) (o : Oper) (a : Act) (w : World) (K : Act → World → Prop) : Prop :=
  ∀ K' : Act → World → Prop, Shut (∀ a w, K a w → K' a w) → if Region.wanted o (yielded ops a.tmps) = true then Oper.wp P o a w K' Q else K' (a.put o.dst undef) w
theorem count_less {l : Array Bool} {i : Nat} (h : l.getD i true = false) : (l.setIfInBounds i true).toList.count false + 1 ≤ l.toList.count false ∧ (l.setIfInBounds i true).size = l.size := by
  refine ⟨?_, Array.size_setIfInBounds ..⟩
  have hi : i < l.size := by
    rcases Nat.lt_or_ge i l.size with g | g
    · exact g
    · simp [Array.getD, Nat.not_lt.2 g] at h
  have e : l.toList[i]'(by simpa using hi) = false := by simpa [Array.getD, hi] using h
  rw [Array.toList_setIfInBounds, List.count_set (by simpa using hi), e]
  have : 0 < l.toList.count false := List.count_pos_iff.2 (by rw [← e]; exact List.getElem_mem _)
  rw [if_pos (by decide), if_neg (by decide)]
  omega
theorem wpAny_inv (I : Array Bool → Act → World → Prop)
    (hs : ∀ l a w, I l a w → ∀ i o, ops[i]? = some o → l.getD i true = false → (∀ e ∈ o.after, Region.binds md e = true → l.getD e.on false = true) → RunsI (ops := ops) P Q o a w (fun a' w' => I (l.setIfInBounds i true) a' w'))
    (hd : ∀ l a w, I l a w → (∀ i o, ops[i]? = some o → (∀ e ∈ o.after, Region.binds md e = true → l.getD e.on false = true) → l.getD i true = true) → Q .normal a w) :
    ∀ (fuel : Nat) (l : Array Bool) (a : Act) (w : World), l.size = ops.size → l.toList.count false ≤ fuel → I l a w → wpAny P md ops Q fuel l a w
  | 0, l, a, w, hz, hc, hI => by
    have hr : Region.ready md ops l = [] := by
      rcases h : Region.ready md ops l with _ | ⟨i, r⟩
      · rfl
      · have := (mem_ready (md := md) (ops := ops) (listed := l) (j := i)).1 (by rw [h]; exact List.mem_cons_self)
        have := count_less this.1
        omega
    exact ⟨hr, hd l a w hI (done_of hr)⟩
  | fuel + 1, l, a, w, hz, hc, hI => by
    refine ⟨fun hr => hd l a w hI (done_of hr), fun i hi => ?_⟩
    obtain ⟨h1, o, ho, h2⟩ := mem_ready.1 hi
    have c := count_less h1
    exact wpOp_step ho fun K' hK => hs l a w hI i o ho h1 h2 K' fun a' w' hI' => hK a' w' (wpAny_inv I hs hd fuel _ a' w' (by rw [c.2]; exact hz) (by omega) hI')
where
  done_of {l : Array Bool} (hr : Region.ready md ops l = []) : ∀ i o, ops[i]? = some o → (∀ e ∈ o.after, Region.binds md e = true → l.getD e.on false = true) → l.getD i true = true := fun i o ho h => by
    cases hg : l.getD i true with
    | true => rfl
    | false =>
      have : i ∈ Region.ready md ops l := mem_ready.2 ⟨hg, o, ho, h⟩
      rw [hr] at this
      cases this
/-- The region, whole. -/
theorem wp_region_inv (I : Array Bool → Act → World → Prop) {id : Nat} {a : Act} {w : World} (hm : P.follows .mixedOrders = true) (h0 : I (Array.replicate ops.size false) a w.drew)
    (hs : ∀ l a w, I l a w → ∀ i o, ops[i]? = some o → l.getD i true = false → (∀ e ∈ o.after, Region.binds .any e = true → l.getD e.on false = true) → RunsI (ops := ops) P Q o a w (fun a' w' => I (l.setIfInBounds i true) a' w'))
    (hd : ∀ l a w, I l a w → (∀ i o, ops[i]? = some o → (∀ e ∈ o.after, Region.binds .any e = true → l.getD e.on false = true) → l.getD i true = true) → Q .normal a w) : (Code.region id ops true).wp P Q a w :=
  wp_region_any hm (wpAny_inv I hs hd ops.size _ a _ (by simp) (by rw [Array.toList_replicate, List.count_replicate]; simp) h0)
end
end Go.Proofs.YtnfhikgfcdcpoaaDoor.Mem
