/- Plain mathematics of layer 10: weights, round by round, up to where they stay. -/
import Derived.Test.YtnfhikgfcdcpoaaDoorSMath
namespace Go.Proofs.YtnfhikgfcdcpoaaDoor

/-- What some kids weigh beside w, at most 1001. -/
def capF (W : Nat → Nat) : List Int → Nat → Nat
  | [], w => w
  | k :: r, w => capF W r (min (w + W k.toNat) 1001)
/-- The weights after some rounds. -/
def wtR (s : Sc) : Nat → Nat → Nat
  | 0, _ => 1
  | r + 1, i => if s.kind i = 9 then capF (wtR s r) (s.kidsAt i) 1 else 1
theorem capF_mono {W V : Nat → Nat} (h : ∀ i, W i ≤ V i) : ∀ (l : List Int) (a b : Nat), a ≤ b → capF W l a ≤ capF V l b
  | [], _, _, hab => hab
  | k :: r, a, b, hab => by
    unfold capF
    exact capF_mono h r _ _ (by have := h k.toNat; omega)
theorem capF_le (W : Nat → Nat) : ∀ (l : List Int) (a : Nat), a ≤ 1001 → capF W l a ≤ 1001
  | [], _, h => h
  | k :: r, a, h => by
    unfold capF
    exact capF_le W r _ (by omega)
theorem capF_ge (W : Nat → Nat) : ∀ (l : List Int) (a : Nat), min a 1001 ≤ capF W l a
  | [], a => by unfold capF; omega
  | k :: r, a => by
    unfold capF
    have := capF_ge W r (min (a + W k.toNat) 1001)
    omega
theorem wtR_le (s : Sc) : ∀ (r i : Nat), wtR s r i ≤ 1001
  | 0, _ => by unfold wtR; omega
  | r + 1, i => by
    unfold wtR
    split
    · exact capF_le _ _ _ (by omega)
    · omega
theorem wtR_pos (s : Sc) : ∀ (r i : Nat), 1 ≤ wtR s r i
  | 0, _ => by unfold wtR; omega
  | r + 1, i => by
    unfold wtR
    split
    · have := capF_ge (wtR s r) (s.kidsAt i) 1; omega
    · omega
theorem wtR_mono (s : Sc) : ∀ (r i : Nat), wtR s r i ≤ wtR s (r + 1) i
  | 0, i => by have := wtR_pos s 1 i; unfold wtR at this ⊢; exact this
  | r + 1, i => by
    rw [wtR, wtR]
    split
    · exact capF_mono (wtR_mono s r) _ _ _ (Nat.le_refl _)
    · omega
theorem wtR_out {s : Sc} {i : Nat} (h : s.nodes.length ≤ i) : ∀ r, wtR s r i = 1
  | 0 => by unfold wtR; rfl
  | r + 1 => by
    unfold wtR
    have : s.kind i ≠ 9 := by
      unfold Sc.kind
      rw [if_pos (by omega), Int.toNat_natCast, List.getElem?_eq_none h]
      decide
    rw [if_neg this]
/-- The sum of the first n. -/
def sumN (W : Nat → Nat) : Nat → Nat
  | 0 => 0
  | n + 1 => sumN W n + W n
theorem sumN_le {W V : Nat → Nat} (h : ∀ i, W i ≤ V i) : ∀ n, sumN W n ≤ sumN V n
  | 0 => Nat.le_refl _
  | n + 1 => by unfold sumN; have := sumN_le h n; have := h n; omega
theorem sumN_lt {W V : Nat → Nat} (h : ∀ i, W i ≤ V i) : ∀ {n i : Nat}, i < n → W i < V i → sumN W n < sumN V n
  | 0, _, hi, _ => absurd hi (Nat.not_lt_zero _)
  | n + 1, i, hi, hl => by
    unfold sumN
    rcases Nat.lt_or_ge i n with g | g
    · have := sumN_lt h g hl; have := h n; omega
    · obtain rfl : i = n := by omega
      have := sumN_le h i; omega
theorem sumN_bound {W : Nat → Nat} {M : Nat} (h : ∀ i, W i ≤ M) : ∀ n, sumN W n ≤ M * n
  | 0 => Nat.zero_le _
  | n + 1 => by unfold sumN; have := sumN_bound h n; have := h n; rw [Nat.mul_succ]; omega
theorem wtR_stays {s : Sc} {r : Nat} (h : wtR s (r + 1) = wtR s r) : ∀ k, wtR s (r + k) = wtR s r
  | 0 => rfl
  | k + 1 => by
    have ih := wtR_stays h k
    funext i
    show wtR s (r + k + 1) i = _
    rw [wtR, ih, ← h, wtR]
    rw [h]
theorem wtR_stable (s : Sc) : ∃ r, r ≤ 1001 * s.nodes.length ∧ wtR s (r + 1) = wtR s r := by
  by_cases h : ∃ r, r ≤ 1001 * s.nodes.length ∧ wtR s (r + 1) = wtR s r
  · exact h
  · exfalso
    have grow : ∀ r, r ≤ 1001 * s.nodes.length → sumN (wtR s r) s.nodes.length < sumN (wtR s (r + 1)) s.nodes.length := fun r hr => by
      have ne : wtR s (r + 1) ≠ wtR s r := fun e => h ⟨r, hr, e⟩
      have : ∃ i, i < s.nodes.length ∧ wtR s r i < wtR s (r + 1) i := by
        apply Classical.byContradiction
        intro hn
        apply ne
        funext i
        have m := wtR_mono s r i
        rcases Nat.lt_or_ge i s.nodes.length with g | g
        · rcases Nat.lt_or_ge (wtR s r i) (wtR s (r + 1) i) with g2 | g2
          · exact absurd ⟨i, g, g2⟩ hn
          · omega
        · rw [wtR_out g, wtR_out g]
      obtain ⟨i, hi, hl⟩ := this
      exact sumN_lt (wtR_mono s r) hi hl
    have least : ∀ r, r ≤ 1001 * s.nodes.length + 1 → r ≤ sumN (wtR s r) s.nodes.length := by
      intro r
      induction r with
      | zero => exact fun _ => Nat.zero_le _
      | succ r ih => intro hr; have := ih (by omega); have := grow r (by omega); omega
    have a := least (1001 * s.nodes.length + 1) (Nat.le_refl _)
    have b := sumN_bound (wtR_le s (1001 * s.nodes.length + 1)) s.nodes.length
    omega
/-- A node's weight. -/
def Sc.wt (s : Sc) (i : Nat) : Nat := wtR s (1001 * s.nodes.length) i
theorem Sc.wt_fix (s : Sc) (i : Nat) : s.wt i = if s.kind i = 9 then capF s.wt (s.kidsAt i) 1 else 1 := by
  obtain ⟨r, hr, he⟩ := wtR_stable s
  have e1 : wtR s (1001 * s.nodes.length) = wtR s r := by
    have := wtR_stays he (1001 * s.nodes.length - r)
    rwa [show r + (1001 * s.nodes.length - r) = 1001 * s.nodes.length by omega] at this
  have e2 : s.wt = wtR s r := e1
  rw [e2, ← he, wtR, he]
theorem Sc.wt_le (s : Sc) (i : Nat) : 1 ≤ s.wt i ∧ s.wt i ≤ 1001 := ⟨wtR_pos _ _ _, wtR_le _ _ _⟩
/-- What Weight tells. -/
noncomputable def Sc.weight (s : Sc) (a : Int) : Nat := @ite _ (0 ≤ a ∧ a < (s.nodes.length : Int) ∧ s.ordered) (Classical.propDecidable _) (s.wt a.toNat) 0
theorem Sc.weight_in {s : Sc} {i : Nat} (h : s.ordered) (hi : i < s.nodes.length) : s.weight (i : Int) = s.wt i := by
  unfold Sc.weight
  rw [if_pos ⟨by omega, by omega, h⟩, Int.toNat_natCast]
theorem Sc.weight_out {s : Sc} {a : Int} (h : ¬ s.ordered) : s.weight a = 0 := by
  unfold Sc.weight
  rw [if_neg fun g => h g.2.2]
theorem capF_snoc (W : Nat → Nat) (k : Int) : ∀ (l : List Int) (w : Nat), capF W (l ++ [k]) w = min (capF W l w + W k.toNat) 1001
  | [], w => rfl
  | x :: r, w => by
    rw [List.cons_append]
    unfold capF
    exact capF_snoc W k r _
end Go.Proofs.YtnfhikgfcdcpoaaDoor
/- Plain mathematics of layer 10: kids met one by one, and what is a part of itself. -/
namespace Go.Proofs.YtnfhikgfcdcpoaaDoor

/-- A kid is met: which node is the next one then. -/
def meetM (s : Sc) (f m : Nat) (p : Int) : Option Nat := if p < 0 ∨ (m : Int) < p ∨ (p < (m : Int) ∧ named (s.kind p) = false) then none else if p = (m : Int) then met s f m else some m
theorem metK_cons (s : Sc) (f m : Nat) (k : Int) (r : List Int) : metK s f (k :: r) m = (meetM s f m k).bind (metK s f r) := by
  rw [metK]
  unfold meetM
  split
  · rfl
  · split
    · cases met s f m <;> rfl
    · rfl
theorem metK_some {s : Sc} {f m m' : Nat} {k : Int} {r : List Int} (h : meetM s f m k = some m') : metK s f (k :: r) m = metK s f r m' := by rw [metK_cons, h]; rfl
theorem metK_none {s : Sc} {f m : Nat} {k : Int} {r : List Int} (h : meetM s f m k = none) : metK s f (k :: r) m = none := by rw [metK_cons, h]; rfl
theorem meetM_le {s : Sc} {f m m' : Nat} {p : Int} (hm : m ≤ s.nodes.length) (h : meetM s f m p = some m') : m' ≤ s.nodes.length := by
  unfold meetM at h
  split at h
  · cases h
  · split at h
    · exact (met_good s f m m' h).2.1
    · injection h with h; omega
theorem met_in {s : Sc} {f m : Nat} (h : m < s.nodes.length) : met s (f + 1) m = metK s f (s.kidsAt m) (m + 1) := by rw [met, if_neg (by omega)]
theorem met_out {s : Sc} {f m : Nat} (h : s.nodes.length ≤ m) : met s f m = none := by
  cases f with
  | zero => rw [met]
  | succ f => rw [met, if_pos h]

/-- A Record has a node as a field's Type. -/
def Sc.edge (s : Sc) (i j : Nat) : Prop := s.kind i = 9 ∧ (j : Int) ∈ s.kidsAt i
/-- A Record has a node as a part. -/
inductive Sc.path (s : Sc) : Nat → Nat → Prop where
  | one {i j : Nat} (h : s.edge i j) : Sc.path s i j
  | more {i j k : Nat} (h : Sc.path s i j) (e : s.edge j k) : Sc.path s i k
theorem capF_in (W : Nat → Nat) : ∀ (l : List Int) (a : Nat) (k : Int), k ∈ l → min (a + W k.toNat) 1001 ≤ capF W l a
  | [], _, _, h => by simp at h
  | q :: r, a, k, h => by
    unfold capF
    rcases List.mem_cons.1 h with e | e
    · subst e
      have := capF_ge W r (min (a + W k.toNat) 1001); omega
    · have := capF_in W r (min (a + W q.toNat) 1001) k e; omega
theorem edge_wt {s : Sc} {i j : Nat} (h : s.edge i j) : min (1 + s.wt j) 1001 ≤ s.wt i := by
  rw [s.wt_fix i, if_pos h.1]
  have := capF_in s.wt (s.kidsAt i) 1 _ h.2
  simpa using this
theorem path_wt {s : Sc} {i j : Nat} (h : s.path i j) : min (1 + s.wt j) 1001 ≤ s.wt i := by
  induction h with
  | one h => exact edge_wt h
  | more h e ih => have := edge_wt e; omega
theorem path_self {s : Sc} {i : Nat} (h : s.path i i) : s.wt i = 1001 := by
  have := path_wt h; have := (s.wt_le i).2; omega
/-- A list of weights as far as they are known, while a node is weighed. -/
def Wok (s : Sc) (a : Nat) (W : List Nat) : Prop := ∀ i (h : i < W.length), W[i]'h = 0 ∨ W[i]'h = s.wt i ∨ (W[i]'h = 1001 ∧ s.path i a)
/-- What a call leaves of it. -/
def Won (s : Sc) (W W' : List Nat) : Prop := W'.length = W.length ∧ ∀ i (h : i < W.length) (h' : i < W'.length), (W[i]'h ≠ 0 → W'[i]'h' = W[i]'h) ∧ (W[i]'h = 0 → W'[i]'h' = 0 ∨ W'[i]'h' = s.wt i)
theorem Won.refl (s : Sc) (W : List Nat) : Won s W W := ⟨rfl, fun _ _ _ => ⟨fun _ => rfl, fun h => .inl h⟩⟩
theorem Won.trans {s : Sc} {A B C : List Nat} (h : Won s A B) (k : Won s B C) : Won s A C := by
  refine ⟨k.1.trans h.1, fun i h1 h2 => ?_⟩
  have h3 : i < B.length := by rw [h.1]; exact h1
  obtain ⟨a1, a2⟩ := h.2 i h1 h3
  obtain ⟨b1, b2⟩ := k.2 i h3 h2
  constructor
  · intro e; rw [b1 (by rw [a1 e]; exact e), a1 e]
  · intro e
    rcases a2 e with g | g
    · exact b2 g
    · right
      rw [b1 (by rw [g]; have := (s.wt_le i).1; omega), g]
/-- How many are not known as yet. -/
def zeros (W : List Nat) : Nat := W.countP (· == 0)
theorem zeros_won {s : Sc} : ∀ {W W' : List Nat}, Won s W W' → zeros W' ≤ zeros W
  | [], W', h => by
    have : W' = [] := List.length_eq_zero_iff.1 h.1
    subst this; exact Nat.le_refl _
  | x :: r, [], h => by have := h.1; simp at this
  | x :: r, y :: q, h => by
    have key : ∀ (A B : List Nat), A.length = B.length → (∀ i (h : i < A.length) (h' : i < B.length), A[i]'h ≠ 0 → B[i]'h' = A[i]'h) → zeros B ≤ zeros A := by
      intro A
      induction A with
      | nil => intro B e _; have : B = [] := List.length_eq_zero_iff.1 e.symm; subst this; exact Nat.le_refl _
      | cons a A ih =>
        intro B e hB
        cases B with
        | nil => simp at e
        | cons b B =>
          have h1 := ih B (by simpa using e) (fun i h1 h2 => hB (i + 1) (by simpa using h1) (by simpa using h2))
          have h0 := hB 0 (by simp) (by simp)
          simp only [List.getElem_cons_zero] at h0
          unfold zeros at h1 ⊢
          rw [List.countP_cons, List.countP_cons]
          by_cases ea : a = 0
          · subst ea; simp; split <;> omega
          · rw [h0 ea]; omega
    exact key _ _ h.1.symm fun i h1 h2 => (h.2 i h1 h2).1
theorem zeros_set {W : List Nat} {a v : Nat} (ha : a < W.length) (h0 : W[a]'ha = 0) (hv : v ≠ 0) : zeros (W.set a v) + 1 = zeros W := by
  induction W generalizing a with
  | nil => simp at ha
  | cons x r ih =>
    cases a with
    | zero =>
      simp only [List.getElem_cons_zero] at h0
      subst h0
      unfold zeros
      simp [hv]
    | succ a =>
      have := ih (a := a) (by simpa using ha) (by simpa using h0)
      unfold zeros at this ⊢
      rw [List.set_cons_succ, List.countP_cons, List.countP_cons]
      omega
/-- While the node a is weighed, its parts may be. -/
theorem Wok.part {s : Sc} {a : Nat} {W : List Nat} (h : Wok s a W) (_ha : a < W.length) {k : Nat} (e : s.edge a k) : Wok s k (W.set a 1001) := by
  intro i hi
  rw [List.length_set] at hi
  rw [List.getElem_set]
  split
  · rename_i e2; subst e2
    exact .inr (.inr ⟨rfl, .one e⟩)
  · rcases h i hi with g | g | ⟨g1, g2⟩
    · exact .inl g
    · exact .inr (.inl g)
    · exact .inr (.inr ⟨g1, .more g2 e⟩)
theorem Wok.won {s : Sc} {a : Nat} {W W' : List Nat} (h : Wok s a W) (k : Won s W W') : Wok s a W' := by
  intro i hi
  have h1 : i < W.length := by rw [← k.1]; exact hi
  obtain ⟨k1, k2⟩ := k.2 i h1 hi
  by_cases e : W[i]'h1 = 0
  · rcases k2 e with g | g
    · exact .inl g
    · exact .inr (.inl g)
  · rw [k1 e]; exact h i h1
/-- What is known of a node is its weight. -/
theorem Wok.self {s : Sc} {a : Nat} {W : List Nat} (h : Wok s a W) (ha : a < W.length) (h0 : W[a]'ha ≠ 0) : W[a]'ha = s.wt a := by
  rcases h a ha with g | g | ⟨g1, g2⟩
  · exact absurd g h0
  · exact g
  · rw [g1, path_self g2]
/-- The node's own weight is put at last. -/
theorem Won.put {s : Sc} {a : Nat} {W W' : List Nat} (ha : a < W.length) (h0 : W[a]'ha = 0) (k : Won s (W.set a 1001) W') : Won s W (W'.set a (s.wt a)) := by
  have kl : W'.length = W.length := by rw [k.1, List.length_set]
  refine ⟨by rw [List.length_set, kl], fun i h1 h2 => ?_⟩
  rw [List.length_set] at h2
  rw [List.getElem_set]
  split
  · rename_i e; subst e
    exact ⟨fun g => absurd h0 g, fun _ => .inr rfl⟩
  · rename_i e
    have := k.2 i (by rw [List.length_set]; exact h1) h2
    rw [List.getElem_set, if_neg e] at this
    exact this
theorem wok_zero (s : Sc) (a n : Nat) : Wok s a (List.replicate n 0) := fun i h => .inl (by simp)
/-- Between calls each is not known, or known. -/
def Wfin (s : Sc) (W : List Nat) : Prop := ∀ i (h : i < W.length), W[i]'h = 0 ∨ W[i]'h = s.wt i
theorem Wfin.ok {s : Sc} {W : List Nat} (h : Wfin s W) (a : Nat) : Wok s a W := fun i hi => (h i hi).elim .inl fun g => .inr (.inl g)
theorem Wfin.won {s : Sc} {W W' : List Nat} (h : Wfin s W) (k : Won s W W') : Wfin s W' := by
  intro i hi
  have h1 : i < W.length := by rw [← k.1]; exact hi
  obtain ⟨k1, k2⟩ := k.2 i h1 hi
  by_cases e : W[i]'h1 = 0
  · exact k2 e
  · rw [k1 e]; exact h i h1
end Go.Proofs.YtnfhikgfcdcpoaaDoor
