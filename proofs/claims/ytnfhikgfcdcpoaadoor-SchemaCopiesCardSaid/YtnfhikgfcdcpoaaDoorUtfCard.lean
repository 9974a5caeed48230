/- Tables of plain data, of whatever program: from 'it reads as listed' to its cells, one by one. (Booleans, integers, strings; arrays and structs of them.) -/
import Derived.LaidLaws
import Derived.ChangeArms
import Derived.OpenShut
import Derived.FnData
import Derived.MakeChecks
import Derived.Test.YtnfhikgfcdcpoaaDoorLaid
import Derived.Test.YtnfhikgfcdcpoaaDoorRows
import Derived.LaidMore
import Derived.KernelRfl
namespace Go.Proofs.YtnfhikgfcdcpoaaDoor.Tab

/-- The cells of a plain datum. -/
def flat {H : Type} : Nat → DataW H → List Value
  | _ + 1, .lit (.bool b) => [.bool b]
  | _ + 1, .lit (.int k n) => [.int k n]
  | _ + 1, .lit (.string s) => [.string ⟨s.toArray⟩]
  | f + 1, .agg ds => ds.flatMap (flat f)
  | _, _ => []
/-- A type of plain data, whose parts stand one behind the other. -/
def plainT (P : Program) : Nat → TypeId → Bool
  | 0, _ => false
  | f + 1, t => match P.underlying t with
    | some .bool => true
    | some (.int _) => true
    | some .string => true
    | some (.array n e) => plainT P f e && P.cellsOf t == ((List.replicate n e).map P.cellsOf).sum
    | some (.struct fs) => (fs.toList.all fun x => plainT P f x.type) && P.cellsOf t == (fs.toList.map fun x => P.cellsOf x.type).sum &&
        (List.range fs.size).all fun i => match fs[i]? with
          | some x => x.offset == ((fs.toList.take i).map fun x => P.cellsOf x.type).sum
          | none => true
    | _ => false

theorem cut_all {β : Type} (g : β → List Value) (cs : List Value) : ∀ (ys : List (Nat × β)) (o : Nat), cs.length = o + (ys.map (·.1)).sum →
    (∀ i y, ys[i]? = some y → (cs.drop (o + ((ys.take i).map (·.1)).sum)).take y.1 = g y.2) → cs.drop o = ys.flatMap fun y => g y.2
  | [], o, hl, _ => by simp at hl; simp [List.drop_eq_nil_of_le (Nat.le_of_eq hl)]
  | y :: r, o, hl, h => by
    have h0 := h 0 y rfl
    simp only [List.take_zero, List.map_nil, List.sum_nil, Nat.add_zero] at h0
    have h1 := cut_all g cs r (o + y.1) (by simp at hl; omega) (fun i z hz => by
      have := h (i + 1) z (by simpa using hz)
      simp only [List.take_succ_cons, List.map_cons, List.sum_cons] at this
      rw [Nat.add_assoc]; exact this)
    rw [List.flatMap_cons, ← h0, ← h1, ← List.drop_drop, List.take_append_drop]

theorem sum_take_rep (c : Nat) : ∀ (n i : Nat), i ≤ n → ((List.replicate n c).take i).sum = i * c
  | n, 0, _ => by simp
  | 0, i + 1, h => absurd h (by omega)
  | n + 1, i + 1, h => by rw [List.replicate_succ, List.take_succ_cons, List.sum_cons, sum_take_rep c n i (by omega), Nat.succ_mul, Nat.add_comm]

theorem trod_flat {H : Type} {enc : TypeId × Value → H} {P : Program} {w : World} {base : Nat} {sp : Nat → Bool} {held : Bool} : ∀ (f : Nat) {fuel : Nat} {t : TypeId} {cs : List Value} {d : DataW H} {p : List MemPlace},
    plainT P f t = true → DataW.trod enc P w base sp held fuel t cs = some (d, p) → cs = flat f d
  | 0, _, _, _, _, _, h, _ => by simp [plainT] at h
  | f + 1, fuel, t, cs, d, p, h, hd => by
    unfold plainT at h
    split at h
    · rename_i hu
      cases fuel with
      | zero => simp [DataW.trod] at hd
      | succ n =>
        unfold DataW.trod at hd
        rw [hu] at hd
        split at hd <;> simp_all
        rw [← hd.1]; rfl
    · rename_i k hu
      obtain ⟨z, rfl, hx, _⟩ := DataW.trod_int hu hd
      obtain rfl := (Prod.mk.inj hx).1
      rfl
    · rename_i hu
      obtain ⟨s, rfl, hx, _⟩ := DataW.trod_string hu hd
      obtain rfl := (Prod.mk.inj hx).1
      simp [flat]
    · rename_i n e hu
      simp only [Bool.and_eq_true, beq_iff_eq] at h
      obtain ⟨he, hc⟩ := h
      obtain ⟨xs, m, rfl, hx, hl, hn, hall⟩ := DataW.trod_array hu hd
      obtain rfl := (Prod.mk.inj hx).1
      have rep : (xs.map fun x => (P.cellsOf e, x.1)).map (·.1) = List.replicate n (P.cellsOf e) := by
        rw [List.map_map, ← hn]; exact List.map_const'
      have := cut_all (flat f) cs (xs.map fun x => (P.cellsOf e, x.1)) 0 (by rw [rep, hl, hc, List.map_replicate]; omega) (fun i y hy => by
        rw [List.getElem?_map] at hy
        obtain ⟨x, hx, rfl⟩ := Option.map_eq_some_iff.1 hy
        have hi : i < n := by rw [← hn]; exact (List.getElem?_eq_some_iff.1 hx).1
        have := hall i hi
        rw [hx] at this
        rw [List.map_take, rep, sum_take_rep _ _ _ (by omega), Nat.zero_add]
        exact trod_flat f he (p := x.2) this)
      rw [List.drop_zero] at this
      rw [this]
      simp [flat, List.flatMap_map]
    · rename_i fs hu
      simp only [Bool.and_eq_true, beq_iff_eq, List.all_eq_true] at h
      obtain ⟨⟨he, hc⟩, ho⟩ := h
      obtain ⟨xs, m, rfl, hx, hl, hn, hall⟩ := DataW.trod_struct hu hd
      obtain rfl := (Prod.mk.inj hx).1
      have hz : (fs.toList.zip xs).length = fs.size := by simp [hn]
      have rep : ((fs.toList.zip xs).map fun x => (P.cellsOf x.1.type, x.2.1)).map (·.1) = fs.toList.map fun x => P.cellsOf x.type := by
        rw [List.map_map]
        have : (fs.toList.zip xs).map Prod.fst = fs.toList := List.map_fst_zip (by simp [hn])
        conv => rhs; rw [← this]
        rw [List.map_map]; rfl
      have := cut_all (flat f) cs ((fs.toList.zip xs).map fun x => (P.cellsOf x.1.type, x.2.1)) 0 (by rw [rep, hl, hc]; omega) (fun i y hy => by
        rw [List.getElem?_map] at hy
        obtain ⟨x, hx, rfl⟩ := Option.map_eq_some_iff.1 hy
        obtain ⟨h1, h2⟩ := List.getElem?_zip_eq_some.1 hx
        have hf : fs[i]? = some x.1 := by simpa using h1
        have hi : i < fs.size := (Array.getElem?_eq_some_iff.1 hf).1
        have := hall i x.1 hf
        rw [h2] at this
        have o := ho i (List.mem_range.2 hi)
        rw [hf] at o
        simp only [beq_iff_eq] at o
        rw [List.map_take, rep, Nat.zero_add, ← List.map_take, ← o]
        exact trod_flat f (he x.1 (List.mem_of_getElem? h1)) (p := x.2.2) this)
      rw [List.drop_zero] at this
      rw [this]
      have hm : (fs.toList.zip xs).map Prod.snd = xs := List.map_snd_zip (by simp [hn])
      show _ = (xs.map (·.1)).flatMap (flat f)
      rw [List.flatMap_map, List.flatMap_map]
      conv => rhs; rw [← hm]
      rw [List.flatMap_map]
    · cases h

/-- A listed variable's cells, wherever it stands on the list. -/
theorem cells_of_laid {P : Program} {w : World} {n : String} {d : DataW Unit} {g : Nat} {t : TypeId} (f : Nat) (hg : P.globalNamed n = some g) (ht : (P.globals[g]?).map (·.type) = some t) (hp : plainT P f t = true) :
    ∀ {l : List (String × DataW Unit)} {ps : List MemPlace}, DataW.LaidVars P w l ps → (n, d) ∈ l → ∀ i, w.cell? ⟨g, i, none⟩ = (flat f d)[i]?
  | [], _, _, hm => by cases hm
  | (n', d') :: r, ps, h, hm => by
    obtain ⟨g', t', cs, fuel, p, q, h1, h2, h3, h4, h5, _⟩ := h
    rcases List.mem_cons.1 hm with e | e
    · cases e
      obtain rfl := Option.some.inj (hg.symm.trans h1)
      obtain rfl := Option.some.inj (ht.symm.trans h2)
      intro i
      rw [World.var?_cell hg h3 i, ← trod_flat f hp h4, Array.getElem?_toList]
    · exact cells_of_laid f hg ht hp h5 e
theorem cells_of_laidH {P : Program} {w : World} {n : String} {d : DataW Unit} {g : Nat} {t : TypeId} (f : Nat) {l : List (String × DataW Unit)} (h : laidMetH P l w) (hh : (l.all fun x => x.2.handleName?.isNone) = true)
    (hm : (n, d) ∈ l) (hg : P.globalNamed n = some g) (ht : (P.globals[g]?).map (·.type) = some t) (hp : plainT P f t = true) : ∀ i, w.cell? ⟨g, i, none⟩ = (flat f d)[i]? := by
  rw [MakeChecks.laidMetH_plain _ _ _ hh] at h
  obtain ⟨ps, hv, _⟩ := h
  exact cells_of_laid f hg ht hp hv hm
theorem var_of_laid {P : Program} {w : World} {n : String} {d : DataW Unit} {g : Nat} {t : TypeId} (f : Nat) (hg : P.globalNamed n = some g) (ht : (P.globals[g]?).map (·.type) = some t) (hp : plainT P f t = true) :
    ∀ {l : List (String × DataW Unit)} {ps : List MemPlace}, DataW.LaidVars P w l ps → (n, d) ∈ l → w.var? P n = some (flat f d).toArray
  | [], _, _, hm => by cases hm
  | (n', d') :: r, ps, h, hm => by
    obtain ⟨g', t', cs, fuel, p, q, h1, h2, h3, h4, h5, _⟩ := h
    rcases List.mem_cons.1 hm with e | e
    · cases e
      obtain rfl := Option.some.inj (hg.symm.trans h1)
      obtain rfl := Option.some.inj (ht.symm.trans h2)
      rw [h3, ← trod_flat f hp h4, Array.toArray_toList]
    · exact var_of_laid f hg ht hp h5 e
theorem var_of_laidH {P : Program} {w : World} {n : String} {d : DataW Unit} {g : Nat} {t : TypeId} (f : Nat) {l : List (String × DataW Unit)} (h : laidMetH P l w) (hh : (l.all fun x => x.2.handleName?.isNone) = true)
    (hm : (n, d) ∈ l) (hg : P.globalNamed n = some g) (ht : (P.globals[g]?).map (·.type) = some t) (hp : plainT P f t = true) : w.var? P n = some (flat f d).toArray := by
  rw [MakeChecks.laidMetH_plain _ _ _ hh] at h
  obtain ⟨ps, hv, _⟩ := h
  exact var_of_laid f hg ht hp hv hm
end Go.Proofs.YtnfhikgfcdcpoaaDoor.Tab
/- From a row's condition (the listed tables read as listed) to what the walks ask. -/
namespace Go.Proofs.YtnfhikgfcdcpoaaDoor
open Go.ChangeShapes Go.WideShapes Go.ChangeAt Go.RowKit Mem

theorem laid_of {W : World} (h : laidMetH Tryd.prog [("unicode/utf8.acceptRanges", Rows.laid_unicode_utf8_acceptRanges), ("avocet/utf.marks", Rows.laid_avocet_utf_marks), ("avocet/naming.words", Rows.laid_avocet_naming_words), ("unicode/utf8.first", Rows.laid_unicode_utf8_first)] W) : Laid W := by
  have m := Tab.cells_of_laidH (n := "avocet/utf.marks") (d := Rows.laid_avocet_utf_marks) (g := 4) (t := 115) 2 h (by kernel_rfl) (by simp) (by kernel_rfl) (by kernel_rfl) (by kernel_rfl)
  have k := Tab.cells_of_laidH (n := "avocet/naming.words") (d := Rows.laid_avocet_naming_words) (g := 0) (t := 87) 2 h (by kernel_rfl) (by simp) (by kernel_rfl) (by kernel_rfl) (by kernel_rfl)
  have r := Tab.cells_of_laidH (n := "unicode/utf8.acceptRanges") (d := Rows.laid_unicode_utf8_acceptRanges) (g := 3) (t := 108) 3 h (by kernel_rfl) (by simp) (by kernel_rfl) (by kernel_rfl) (by kernel_rfl)
  constructor
  · exact World.block_lt_of_cell? _ _ (m 0)
  · intro n hn
    rw [m n]
    obtain rfl | rfl | rfl | rfl | rfl : n = 0 ∨ n = 1 ∨ n = 2 ∨ n = 3 ∨ n = 4 := by omega
    all_goals rfl
  · intro n hn
    rw [k n]
    obtain rfl | rfl | rfl | rfl | rfl | rfl | rfl | rfl | rfl | rfl | rfl | rfl | rfl | rfl | rfl : n = 0 ∨ n = 1 ∨ n = 2 ∨ n = 3 ∨ n = 4 ∨ n = 5 ∨ n = 6 ∨ n = 7 ∨ n = 8 ∨ n = 9 ∨ n = 10 ∨ n = 11 ∨ n = 12 ∨ n = 13 ∨ n = 14 := by omega
    all_goals rfl

end Go.Proofs.YtnfhikgfcdcpoaaDoor
