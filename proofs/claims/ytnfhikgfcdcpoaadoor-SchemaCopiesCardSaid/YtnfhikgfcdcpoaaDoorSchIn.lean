/- Schemas that came in: from their reading to how they lie. -/
import Derived.Test.YtnfhikgfcdcpoaaDoorSch
import Derived.Test.YtnfhikgfcdcpoaaDoorJTIn
namespace Go.Proofs.YtnfhikgfcdcpoaaDoor
open Go.ChangeShapes Go.WideShapes Go.ChangeAt Go.RowKit Mem

section
variable {P : Program}
theorem typed_int {d : D} {t : TypeId} {k : IntKind} (h : Typed P d t) (hu : P.underlying t = some (.int k)) : ∃ n, d = .i k n ∧ (Lit.int k n).wf = true := by
  cases d with
  | i k' n =>
    unfold Typed at h
    rw [hu] at h
    obtain ⟨h1, h2⟩ := h
    simp only [Option.some.injEq] at h1
    injection h1 with h1
    subst h1
    exact ⟨n, rfl, h2⟩
  | b x => unfold Typed at h; rw [hu] at h; cases h
  | s x => unfold Typed at h; rw [hu] at h; cases h
  | ag fs => unfold Typed at h; obtain ⟨_, h, _⟩ := h; rw [hu] at h; cases h
  | sl n l => unfold Typed at h; obtain ⟨_, h, _⟩ := h; rw [hu] at h; cases h
theorem typed_bool {d : D} {t : TypeId} (h : Typed P d t) (hu : P.underlying t = some .bool) : ∃ x, d = .b x := by
  cases d with
  | i k' n => unfold Typed at h; rw [hu] at h; cases h.1
  | b x => exact ⟨x, rfl⟩
  | s x => unfold Typed at h; rw [hu] at h; cases h
  | ag fs => unfold Typed at h; obtain ⟨_, h, _⟩ := h; rw [hu] at h; cases h
  | sl n l => unfold Typed at h; obtain ⟨_, h, _⟩ := h; rw [hu] at h; cases h
theorem typed_str {d : D} {t : TypeId} (h : Typed P d t) (hu : P.underlying t = some .string) : ∃ x, d = .s x := by
  cases d with
  | i k' n => unfold Typed at h; rw [hu] at h; cases h.1
  | b x => unfold Typed at h; rw [hu] at h; cases h
  | s x => exact ⟨x, rfl⟩
  | ag fs => unfold Typed at h; obtain ⟨_, h, _⟩ := h; rw [hu] at h; cases h
  | sl n l => unfold Typed at h; obtain ⟨_, h, _⟩ := h; rw [hu] at h; cases h
theorem typed_slice {d : D} {t e : TypeId} (h : Typed P d t) (hu : P.underlying t = some (.slice e)) : ∃ l, d = .sl (P.cellsOf e) l ∧ TypedR P l e := by
  cases d with
  | i k' n => unfold Typed at h; rw [hu] at h; cases h.1
  | b x => unfold Typed at h; rw [hu] at h; cases h
  | s x => unfold Typed at h; rw [hu] at h; cases h
  | ag fs => unfold Typed at h; obtain ⟨_, h, _⟩ := h; rw [hu] at h; cases h
  | sl n l =>
    unfold Typed at h
    obtain ⟨e', h1, h2, h3⟩ := h
    rw [hu] at h1
    simp only [Option.some.injEq] at h1
    injection h1 with h1
    subst h1; subst h2
    exact ⟨l, rfl, h3⟩
theorem typed_struct {d : D} {t : TypeId} {ts : List TypeId} (h : Typed P d t) (hu : (fieldsOf P t).map (fun L => L.toList.map (·.2)) = some ts) : ∃ ds, d = .ag ds ∧ TypedA P ds ts := by
  unfold fieldsOf at hu
  cases d with
  | i k' n => unfold Typed at h; rw [h.1] at hu; cases hu
  | b x => unfold Typed at h; rw [h] at hu; cases hu
  | s x => unfold Typed at h; rw [h] at hu; cases hu
  | ag ds =>
    unfold Typed at h
    obtain ⟨fs, h1, h2⟩ := h
    rw [h1] at hu
    simp only [Option.map_some, Array.toList_map, List.map_map, Option.some.injEq] at hu
    refine ⟨ds, rfl, ?_⟩
    rw [← hu]
    exact h2
  | sl n l => unfold Typed at h; obtain ⟨_, h, _⟩ := h; rw [h] at hu; cases hu
theorem typedA_cons {ds : List D} {t : TypeId} {q : List TypeId} (h : TypedA P ds (t :: q)) : ∃ d r, ds = d :: r ∧ Typed P d t ∧ TypedA P r q := by
  cases ds with
  | nil => unfold TypedA at h; cases h
  | cons d r =>
    unfold TypedA at h
    obtain ⟨t', q', e, h1, h2⟩ := h
    injection e with e1 e2
    subst e1; subst e2
    exact ⟨d, r, rfl, h1, h2⟩
theorem typedA_nil {ds : List D} (h : TypedA P ds []) : ds = [] := by
  cases ds with
  | nil => rfl
  | cons d r => unfold TypedA at h; obtain ⟨t', q', e, _⟩ := h; cases e
theorem typedR_map {α : Type} {Q : α → Prop} {f : α → D} {t : TypeId} : ∀ {l : List D}, (∀ d ∈ l, Typed P d t → ∃ x, d = f x ∧ Q x) → TypedR P l t → ∃ xs : List α, l = xs.map f ∧ ∀ x ∈ xs, Q x
  | [], _, _ => ⟨[], rfl, fun _ h => by cases h⟩
  | d :: r, hf, h => by
    unfold TypedR at h
    obtain ⟨x, rfl, hx⟩ := hf d (by simp) h.1
    obtain ⟨xs, rfl, hq⟩ := typedR_map (fun d hd => hf d (by simp [hd])) h.2
    refine ⟨x :: xs, rfl, fun y hy => ?_⟩
    rcases List.mem_cons.1 hy with e | e
    · subst e; exact hx
    · exact hq y e
end
theorem rngs_of {l : List J} (h : ∀ j ∈ l, j.rng) : J.rngs l := by
  induction l with
  | nil => exact J.rngs_nil
  | cons x r ih => unfold J.rngs; exact ⟨h x (by simp), ih fun j hj => h j (by simp [hj])⟩
/-- A number of 64 bits. -/
def I64 (n : Int) : Prop := -9223372036854775808 ≤ n ∧ n ≤ 9223372036854775807
def Fd.rng (f : Fd) : Prop := I64 f.ty ∧ f.df.rng
def Nd.rng (n : Nd) : Prop := I64 n.k ∧ I64 n.size ∧ I64 n.items ∧ (∀ b ∈ n.br, I64 b) ∧ ∀ f ∈ n.fs, f.rng
def Sc.rng (s : Sc) : Prop := I64 s.root ∧ ∀ n ∈ s.nodes, n.rng

theorem strs_typed {d : D} {t : TypeId} (h : Typed Tryd.prog d t) (hu : Tryd.prog.underlying t = some (.slice 9)) : ∃ l : List ByteArray, d = .sl 1 (l.map D.s) := by
  obtain ⟨l, rfl, hl⟩ := typed_slice h hu
  obtain ⟨xs, rfl, _⟩ := typedR_map (Q := fun _ => True) (f := D.s) (fun d _ hd => by
    obtain ⟨x, rfl⟩ := typed_str hd strT
    exact ⟨x, rfl, trivial⟩) hl
  exact ⟨xs, by rw [show Tryd.prog.cellsOf 9 = 1 by kernel_rfl]⟩
set_option maxRecDepth 100000 in
theorem json_typed : ∀ (N : Nat) (d : D), SizeOf.sizeOf d ≤ N → Typed Tryd.prog d 36 → ∃ j : J, d = j.enc ∧ j.rng
  | 0, d, h, _ => by cases d <;> simp at h
  | N + 1, d, hN, h => by
    obtain ⟨ds, rfl, ha⟩ := typed_struct (ts := [3, 2, 9, 34, 29]) h (by kernel_rfl)
    obtain ⟨d0, r, rfl, h0, ha⟩ := typedA_cons ha
    obtain ⟨d1, r, rfl, h1, ha⟩ := typedA_cons ha
    obtain ⟨d2, r, rfl, h2, ha⟩ := typedA_cons ha
    obtain ⟨d3, r, rfl, h3, ha⟩ := typedA_cons ha
    obtain ⟨d4, r, rfl, h4, ha⟩ := typedA_cons ha
    obtain rfl := typedA_nil ha
    obtain ⟨k, rfl, _⟩ := typed_int h0 (by kernel_rfl : Tryd.prog.underlying 3 = some (.int .i64))
    obtain ⟨n, rfl, hn⟩ := typed_int h1 (by kernel_rfl : Tryd.prog.underlying 2 = some (.int .i64))
    obtain ⟨t, rfl⟩ := typed_str h2 strT
    obtain ⟨l, rfl, hl⟩ := typed_slice h3 (by kernel_rfl : Tryd.prog.underlying 34 = some (.slice 36))
    obtain ⟨ks, rfl⟩ := strs_typed h4 (by kernel_rfl)
    obtain ⟨its, rfl, hr⟩ := typedR_map (Q := J.rng) (f := J.enc) (fun d hd ht => json_typed N d (by
      have := List.sizeOf_lt_of_mem hd
      simp only [D.ag.sizeOf_spec, D.sl.sizeOf_spec, List.cons.sizeOf_spec] at hN
      omega) ht) hl
    refine ⟨.mk k n t its ks, ?_, ?_⟩
    · unfold J.enc
      rw [show Tryd.prog.cellsOf 36 = 5 by kernel_rfl, J.encs_map]
    · unfold J.rng
      have := fit_i64 hn
      exact ⟨this.1, this.2, rngs_of hr⟩
set_option maxRecDepth 100000 in
theorem field_typed {d : D} (h : Typed Tryd.prog d 38) : ∃ f : Fd, d = f.enc ∧ f.rng := by
  obtain ⟨ds, rfl, ha⟩ := typed_struct (ts := [9, 29, 3, 4, 36]) h (by kernel_rfl)
  obtain ⟨d0, r, rfl, h0, ha⟩ := typedA_cons ha
  obtain ⟨d1, r, rfl, h1, ha⟩ := typedA_cons ha
  obtain ⟨d2, r, rfl, h2, ha⟩ := typedA_cons ha
  obtain ⟨d3, r, rfl, h3, ha⟩ := typedA_cons ha
  obtain ⟨d4, r, rfl, h4, ha⟩ := typedA_cons ha
  obtain rfl := typedA_nil ha
  obtain ⟨nm, rfl⟩ := typed_str h0 strT
  obtain ⟨al, rfl⟩ := strs_typed h1 (by kernel_rfl)
  obtain ⟨ty, rfl, ht⟩ := typed_int h2 (by kernel_rfl : Tryd.prog.underlying 3 = some (.int .i64))
  obtain ⟨hs, rfl⟩ := typed_bool h3 (by kernel_rfl)
  obtain ⟨j, rfl, hj⟩ := json_typed _ _ (Nat.le_refl _) h4
  exact ⟨⟨nm, al, ty, hs, j⟩, rfl, fit_i64 ht, hj⟩
set_option maxRecDepth 100000 in
theorem node_typed {d : D} (h : Typed Tryd.prog d 33) : ∃ n : Nd, d = n.enc ∧ n.rng := by
  obtain ⟨ds, rfl, ha⟩ := typed_struct (ts := [3, 9, 29, 30, 29, 4, 9, 3, 3, 31]) h (by kernel_rfl)
  obtain ⟨d0, r, rfl, h0, ha⟩ := typedA_cons ha
  obtain ⟨d1, r, rfl, h1, ha⟩ := typedA_cons ha
  obtain ⟨d2, r, rfl, h2, ha⟩ := typedA_cons ha
  obtain ⟨d3, r, rfl, h3, ha⟩ := typedA_cons ha
  obtain ⟨d4, r, rfl, h4, ha⟩ := typedA_cons ha
  obtain ⟨d5, r, rfl, h5, ha⟩ := typedA_cons ha
  obtain ⟨d6, r, rfl, h6, ha⟩ := typedA_cons ha
  obtain ⟨d7, r, rfl, h7, ha⟩ := typedA_cons ha
  obtain ⟨d8, r, rfl, h8, ha⟩ := typedA_cons ha
  obtain ⟨d9, r, rfl, h9, ha⟩ := typedA_cons ha
  obtain rfl := typedA_nil ha
  have it : Tryd.prog.underlying 3 = some (.int .i64) := by kernel_rfl
  obtain ⟨k, rfl, hk⟩ := typed_int h0 it
  obtain ⟨nm, rfl⟩ := typed_str h1 strT
  obtain ⟨al, rfl⟩ := strs_typed h2 (by kernel_rfl)
  obtain ⟨l3, rfl, hl3⟩ := typed_slice h3 (by kernel_rfl : Tryd.prog.underlying 30 = some (.slice 38))
  obtain ⟨fs, rfl, hfs⟩ := typedR_map (Q := Fd.rng) (f := Fd.enc) (fun d _ hd => field_typed hd) hl3
  obtain ⟨sy, rfl⟩ := strs_typed h4 (by kernel_rfl)
  obtain ⟨hs, rfl⟩ := typed_bool h5 (by kernel_rfl)
  obtain ⟨df, rfl⟩ := typed_str h6 strT
  obtain ⟨sz, rfl, hsz⟩ := typed_int h7 it
  obtain ⟨im, rfl, him⟩ := typed_int h8 it
  obtain ⟨l9, rfl, hl9⟩ := typed_slice h9 (by kernel_rfl : Tryd.prog.underlying 31 = some (.slice 3))
  obtain ⟨br, rfl, hbr⟩ := typedR_map (Q := I64) (f := D.i .i64) (fun d _ hd => by
    obtain ⟨n, rfl, hn⟩ := typed_int hd it
    exact ⟨n, rfl, fit_i64 hn⟩) hl9
  refine ⟨⟨k, nm, al, fs, sy, hs, df, sz, im, br⟩, ?_, fit_i64 hk, fit_i64 hsz, fit_i64 him, hbr, hfs⟩
  unfold Nd.enc
  rw [show Tryd.prog.cellsOf 38 = 9 by kernel_rfl, show Tryd.prog.cellsOf 3 = 1 by kernel_rfl]
set_option maxRecDepth 100000 in
theorem schema_typed {d : D} (h : Typed Tryd.prog d 24) : ∃ s : Sc, d = s.enc ∧ s.rng := by
  obtain ⟨ds, rfl, ha⟩ := typed_struct (ts := [22, 3]) h (by kernel_rfl)
  obtain ⟨d0, r, rfl, h0, ha⟩ := typedA_cons ha
  obtain ⟨d1, r, rfl, h1, ha⟩ := typedA_cons ha
  obtain rfl := typedA_nil ha
  obtain ⟨l, rfl, hl⟩ := typed_slice h0 (by kernel_rfl : Tryd.prog.underlying 22 = some (.slice 33))
  obtain ⟨ns, rfl, hns⟩ := typedR_map (Q := Nd.rng) (f := Nd.enc) (fun d _ hd => node_typed hd) hl
  obtain ⟨rt, rfl, hrt⟩ := typed_int h1 (by kernel_rfl : Tryd.prog.underlying 3 = some (.int .i64))
  refine ⟨⟨ns, rt⟩, ?_, fit_i64 hrt, hns⟩
  unfold Sc.enc
  rw [show Tryd.prog.cellsOf 33 = 10 by kernel_rfl]
/-- A schema that came in. -/
theorem schema_of_trod {H : Type} {enc : TypeId × Value → H} {w : World} {sp : Nat → Bool} {held : Bool} {fuel : Nat} {cs : List Value} {x : DataW H × List MemPlace} (h : DataW.trod enc Tryd.prog w 0 sp held fuel 24 cs = some x) :
    ∃ s : Sc, Lies w (· < w.heap.size) s.enc cs ∧ s.rng := by
  obtain ⟨d, h1, h2, _⟩ := lies_of_trod [24, 22, 3, 33, 9, 29, 30, 38, 4, 36, 2, 34, 31] (by kernel_rfl) fuel fuel (Nat.le_refl _) (by simp) h
  obtain ⟨s, rfl, hs⟩ := schema_typed h2
  exact ⟨s, h1, hs⟩
end Go.Proofs.YtnfhikgfcdcpoaaDoor
