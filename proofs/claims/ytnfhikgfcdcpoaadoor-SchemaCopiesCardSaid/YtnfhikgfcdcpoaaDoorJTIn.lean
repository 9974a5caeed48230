/- Trees of JSON that came in: from their reading to how they lie. -/
import Derived.Test.YtnfhikgfcdcpoaaDoorJT
import Derived.Test.YtnfhikgfcdcpoaaDoorBase
import Derived.Deep.Slices
import Derived.KernelRfl
namespace Go.Proofs.YtnfhikgfcdcpoaaDoor
open Go.ChangeShapes Go.WideShapes Go.ChangeAt Go.RowKit Mem

mutual
/-- Numbers of 64 bits. -/
def J.rng : J → Prop
  | .mk _ n _ its _ => -9223372036854775808 ≤ n ∧ n ≤ 9223372036854775807 ∧ J.rngs its
def J.rngs : List J → Prop
  | [] => True
  | j :: r => J.rng j ∧ J.rngs r
end
theorem J.rngs_nil : J.rngs [] := by unfold J.rngs; trivial
theorem J.rngs_snoc {l : List J} {j : J} (h : J.rngs l) (hj : j.rng) : J.rngs (l ++ [j]) := by
  induction l with
  | nil => unfold J.rngs; exact ⟨hj, J.rngs_nil⟩
  | cons x r ih => unfold J.rngs at h; rw [List.cons_append]; unfold J.rngs; exact ⟨h.1, ih h.2⟩
/-- From rows that stand one behind the other to trees, and to texts. -/
theorem rows_of {w : World} {B b off : Nat} (hb : b < B) : ∀ (n : Nat), (∀ i, i < n → ∃ cs j, (∀ k, k < 5 → w.cell? ⟨b, off + i * 5 + k, none⟩ = cs[k]?) ∧ TreeC w B j cs ∧ j.rng) → ∃ its : List J, its.length = n ∧ RowT w B its (some ⟨b, off, none⟩) ∧ J.rngs its
  | 0, _ => ⟨[], rfl, RowS.nil_ _ _ _, J.rngs_nil⟩
  | n + 1, h => by
    obtain ⟨its, hl, hr, hg⟩ := rows_of hb n (fun i hi => h i (by omega))
    obtain ⟨cs, j, hc, ht, hj⟩ := h n (by omega)
    exact ⟨its ++ [j], by simp [hl], RowS.snoc (S := (· < B)) hb ht (off := off + n * 5) hr (by rw [hl]) hc, J.rngs_snoc hg hj⟩
theorem strs_of {w : World} {b off : Nat} : ∀ (n : Nat), (∀ i, i < n → ∃ s : ByteArray, w.cell? ⟨b, off + i, none⟩ = some (.string s)) → ∃ ks : List ByteArray, ks.length = n ∧ ∀ i, i < n → w.cell? ⟨b, off + i, none⟩ = (ks.map Value.string)[i]?
  | 0, _ => ⟨[], rfl, fun i hi => absurd hi (Nat.not_lt_zero _)⟩
  | n + 1, h => by
    obtain ⟨ks, hl, hk⟩ := strs_of n (fun i hi => h i (by omega))
    obtain ⟨s, hs⟩ := h n (by omega)
    refine ⟨ks ++ [s], by simp [hl], fun i hi => ?_⟩
    rcases Nat.lt_or_ge i n with g | g
    · rw [hk i g, List.map_append, List.getElem?_append_left (by simpa [hl] using g)]
    · obtain rfl : i = n := by omega
      rw [hs, List.map_append, List.getElem?_append_right (by simp [hl])]
      simp [hl]

variable {H : Type} {enc : TypeId × Value → H} {w : World} {sp : Nat → Bool} {held : Bool}
/-- A struct's fields: where each stands, and its type. -/
def fieldsOf (P : Program) (t : TypeId) : Option (Array (Nat × TypeId)) := match P.underlying t with
  | some (.struct fs) => some (fs.map fun f => (f.offset, f.type))
  | _ => none
theorem fields_of {P : Program} {t : TypeId} {L : Array (Nat × TypeId)} (h : fieldsOf P t = some L) : ∃ fs, P.underlying t = some (.struct fs) ∧ fs.size = L.size ∧ ∀ (i : Nat) (f : Field), fs[i]? = some f → L[i]? = some (f.offset, f.type) := by
  unfold fieldsOf at h
  split at h
  · rename_i fs hu
    simp only [Option.some.injEq] at h
    subst h
    exact ⟨fs, hu, by simp, fun i f hf => by rw [Array.getElem?_map, hf]; rfl⟩
  · cases h
/-- The cells of a slice's i-th element, with how it reads. -/
theorem slice_elem {P : Program} {t e : TypeId} {fuel : Nat} {cs : List Value} {x : DataW H × List MemPlace} {base : Nat} (ht : P.underlying t = some (.slice e)) (h : DataW.trod enc P w base sp held fuel t cs = some x) :
    cs = [.slice none 0 0] ∨ ∃ a len cap n, fuel = n + 1 ∧ cs = [.slice (some a) len cap] ∧ len ≤ cap ∧ cap ≤ maxLen ∧ ∀ i, i < len → ∃ cs' y, w.cells? base (a.add (i * P.cellsOf e)) (P.cellsOf e) = some cs' ∧ DataW.trod enc P w base sp held n e cs' = some y := by
  rcases DataW.trod_slice ht h with ⟨e, _⟩ | ⟨a, len, cap, elems, rest, n, hf, hc, _, _, hl, hm, hlen, hel, _⟩
  · exact .inl e
  · refine .inr ⟨a, len, cap, n, hf, hc, hl, hm, fun i hi => ?_⟩
    have := hel i hi
    rw [List.getElem?_eq_getElem (by omega)] at this
    obtain ⟨cs', h1, h2⟩ := Option.bind_eq_some_iff.1 this
    exact ⟨cs', _, h1, h2⟩
set_option maxRecDepth 100000 in
theorem tree_of_trod : ∀ (N fuel : Nat), fuel ≤ N → ∀ {cs : List Value} {x : DataW H × List MemPlace}, DataW.trod enc Tryd.prog w 0 sp held fuel 36 cs = some x → ∃ j, TreeC w w.heap.size j cs ∧ j.rng
  | 0, 0, _, _, _, h => by simp [DataW.trod] at h
  | N + 1, fuel, hf, cs, x, h => by
    obtain ⟨fs, hu, hsz, hfs⟩ := fields_of (P := Tryd.prog) (t := 36) (L := #[(0, 3), (1, 2), (2, 9), (3, 34), (4, 29)]) (by kernel_rfl)
    obtain ⟨xs, m, rfl, rfl, hl, hxl, hall⟩ := DataW.trod_struct hu h
    rw [hsz] at hxl
    have fld : ∀ i, i < 5 → ∃ f, fs[i]? = some f := fun i hi => ⟨fs[i]'(by rw [hsz]; exact hi), by simp [hsz, hi]⟩
    obtain ⟨f0, g0⟩ := fld 0 (by omega); obtain ⟨f1, g1⟩ := fld 1 (by omega); obtain ⟨f2, g2⟩ := fld 2 (by omega); obtain ⟨f3, g3⟩ := fld 3 (by omega); obtain ⟨f4, g4⟩ := fld 4 (by omega)
    have p0 := hfs 0 f0 g0; have p1 := hfs 1 f1 g1; have p2 := hfs 2 f2 g2; have p3 := hfs 3 f3 g3; have p4 := hfs 4 f4 g4
    simp only [List.getElem?_toArray, List.getElem?_cons_zero, List.getElem?_cons_succ, Option.some.injEq, Prod.mk.injEq] at p0 p1 p2 p3 p4
    obtain ⟨o0, t0⟩ := p0; obtain ⟨o1, t1⟩ := p1; obtain ⟨o2, t2⟩ := p2; obtain ⟨o3, t3⟩ := p3; obtain ⟨o4, t4⟩ := p4
    have ci : Tryd.prog.cellsOf 3 = 1 := by kernel_rfl
    have ci64 : Tryd.prog.cellsOf 2 = 1 := by kernel_rfl
    have cstr : Tryd.prog.cellsOf 9 = 1 := by kernel_rfl
    have csj : Tryd.prog.cellsOf 34 = 1 := by kernel_rfl
    have css : Tryd.prog.cellsOf 29 = 1 := by kernel_rfl
    have cj : Tryd.prog.cellsOf 36 = 5 := by kernel_rfl
    rw [cj] at hl
    match cs, hl with
    | [v0, v1, v2, v3, v4], _ =>
      have a0 := hall 0 f0 g0; have a1 := hall 1 f1 g1; have a2 := hall 2 f2 g2; have a3 := hall 3 f3 g3; have a4 := hall 4 f4 g4
      simp only [← o0, ← o1, ← o2, ← o3, ← o4, ← t0, ← t1, ← t2, ← t3, ← t4, ci, ci64, cstr, csj, css, List.drop_zero, List.drop_succ_cons, List.take_succ_cons, List.take_zero] at a0 a1 a2 a3 a4
      have get : ∀ i, i < 5 → ∃ y, xs[i]? = some y := fun i hi => ⟨xs[i]'(by rw [hxl]; exact hi), List.getElem?_eq_getElem _⟩
      obtain ⟨y0, e0⟩ := get 0 (by omega); obtain ⟨y1, e1⟩ := get 1 (by omega); obtain ⟨y2, e2⟩ := get 2 (by omega); obtain ⟨y3, e3⟩ := get 3 (by omega); obtain ⟨y4, e4⟩ := get 4 (by omega)
      rw [e0] at a0; rw [e1] at a1; rw [e2] at a2; rw [e3] at a3; rw [e4] at a4
      obtain ⟨k, hk, _⟩ := DataW.trod_int (by kernel_rfl : Tryd.prog.underlying 3 = some (.int .i64)) a0
      obtain ⟨n, hn, _, hwf⟩ := DataW.trod_int (by kernel_rfl : Tryd.prog.underlying 2 = some (.int .i64)) a1
      obtain ⟨s, hs, _⟩ := DataW.trod_string strT a2
      simp only [List.cons.injEq, and_true] at hk hn hs
      subst hk hn hs
      have items : ∃ A3 c3 its, v3 = .slice A3 (List.length its) c3 ∧ (its.length ≤ c3 ∧ its.length ≤ maxLen) ∧ RowT w w.heap.size its A3 ∧ J.rngs its := by
        rcases slice_elem (by kernel_rfl : Tryd.prog.underlying 34 = some (.slice 36)) a3 with e | ⟨a, len, cap, n', hfu, e, hlc, hcm, hx⟩
        · simp only [List.cons.injEq, and_true] at e
          exact ⟨none, 0, [], e, ⟨Nat.le_refl _, Nat.zero_le _⟩, RowS.nil_ _ _ _, J.rngs_nil⟩
        · simp only [List.cons.injEq, and_true] at e
          by_cases h0 : len = 0
          · subst h0
            exact ⟨some a, cap, [], e, ⟨Nat.zero_le _, Nat.zero_le _⟩, RowS.nil_ _ _ _, J.rngs_nil⟩
          · rw [cj] at hx
            obtain ⟨b, off, spot⟩ := a
            have c0 : ∃ v, w.cell? ⟨b, off, spot⟩ = some v := by
              obtain ⟨cs', _, h1, _⟩ := hx 0 (by omega)
              obtain ⟨_, hlen, hcell⟩ := World.cells?_some h1
              have := hcell 0 (by omega)
              rw [Nat.zero_mul, show ((⟨b, off, spot⟩ : Addr).add 0).add 0 = ⟨b, off, spot⟩ by cases spot <;> rfl] at this
              exact ⟨cs'[0]'(by omega), by rw [this]; exact List.getElem?_eq_getElem _⟩
            obtain ⟨v, hv⟩ := c0
            obtain rfl : spot = none := World.cell?_spot hv
            have hbl : b < w.heap.size := World.block_lt_of_cell? _ _ hv
            obtain ⟨its, hil, hr, hg⟩ := rows_of (w := w) (B := w.heap.size) (b := b) (off := off) hbl len (fun i hi => by
              obtain ⟨cs', _, h1, h2⟩ := hx i (by omega)
              obtain ⟨_, hlen, hcell⟩ := World.cells?_some h1
              obtain ⟨j, hj, hjr⟩ := tree_of_trod N n' (by omega) h2
              refine ⟨cs', j, fun k hk => ?_, hj, hjr⟩
              have := hcell k (by omega)
              rw [Mem.add_plain, Mem.add_plain] at this
              exact this)
            exact ⟨some ⟨b, off, none⟩, cap, its, by rw [hil]; exact e, ⟨by omega, by omega⟩, hr, hg⟩
      have keys : ∃ A4 c4 ks, v4 = .slice A4 (List.length ks) c4 ∧ (ks.length ≤ c4 ∧ ks.length ≤ maxLen) ∧ Fl w w.heap.size A4 (ks.map Value.string) := by
        rcases slice_elem (by kernel_rfl : Tryd.prog.underlying 29 = some (.slice 9)) a4 with e | ⟨a, len, cap, n', hfu, e, hlc, hcm, hx⟩
        · simp only [List.cons.injEq, and_true] at e
          exact ⟨none, 0, [], e, ⟨Nat.le_refl _, Nat.zero_le _⟩, .inl rfl⟩
        · simp only [List.cons.injEq, and_true] at e
          by_cases h0 : len = 0
          · subst h0
            exact ⟨some a, cap, [], e, ⟨Nat.zero_le _, Nat.zero_le _⟩, .inl rfl⟩
          · rw [cstr] at hx
            have each : ∀ i, i < len → ∃ s : ByteArray, w.cell? (a.add i) = some (.string s) := fun i hi => by
              obtain ⟨cs', _, h1, h2⟩ := hx i (by omega)
              obtain ⟨_, hlen, hcell⟩ := World.cells?_some h1
              obtain ⟨s, hs, _⟩ := DataW.trod_string strT h2
              have := hcell 0 (by omega)
              rw [hs, Nat.mul_one] at this
              exact ⟨s, by rw [← show (a.add i).add 0 = a.add i by cases a with | mk b o sp => cases sp <;> rfl]; exact this⟩
            obtain ⟨b, off, spot⟩ := a
            obtain ⟨s0, hs0⟩ := each 0 (by omega)
            rw [show (⟨b, off, spot⟩ : Addr).add 0 = ⟨b, off, spot⟩ by cases spot <;> rfl] at hs0
            obtain rfl : spot = none := World.cell?_spot hs0
            have hbl : b < w.heap.size := World.block_lt_of_cell? _ _ hs0
            obtain ⟨ks, hkl, hk⟩ := strs_of (w := w) (b := b) (off := off) len (fun i hi => by
              obtain ⟨s, hs⟩ := each i hi
              rw [Mem.add_plain] at hs
              exact ⟨s, hs⟩)
            exact ⟨some ⟨b, off, none⟩, cap, ks, by rw [hkl]; exact e, ⟨by omega, by omega⟩, .inr ⟨b, off, rfl, hbl, fun i hi => hk i (by simpa [hkl] using hi)⟩⟩
      obtain ⟨A3, c3, its, rfl, h3, hr, hg⟩ := items
      obtain ⟨A4, c4, ks, rfl, h4, hk⟩ := keys
      refine ⟨.mk k n s its ks, TreeS.mk_ h3 h4 hr hk, ?_⟩
      unfold J.rng
      have := fit_i64 hwf
      exact ⟨this.1, this.2, hg⟩
end Go.Proofs.YtnfhikgfcdcpoaaDoor
