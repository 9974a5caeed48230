/- The document's own answers for layer 6, at every input: All. -/
import Derived.Test.YtjebkedlfhapjaaDoorJRefE
import Derived.Test.YtjebkedlfhapjaaDoorRec
namespace Go.Proofs.YtjebkedlfhapjaaDoor
open Go.ChangeShapes Go.WideShapes Go.ChangeAt Go.RowKit Mem

/-- A word's cells. -/
def wcells (x : Jx.Wd) : List Value := [.int .i64 (x.k : Int), .int .i64 x.n, .string ⟨x.t.toArray⟩, .int .i64 (x.a : Int), .int .i64 (x.x : Int)]
def wcs (ws : List Jx.Wd) : List Value := ws.flatMap wcells
theorem wcs_snoc (d : List Jx.Wd) (x : Jx.Wd) : wcs (d ++ [x]) = wcs d ++ wcells x := by simp [wcs]
theorem wcs_len (d : List Jx.Wd) : (wcs d).length = d.length * 5 := by
  induction d with
  | nil => rfl
  | cons x r ih => simp [wcs, wcells] at ih ⊢; omega
/-- All words, and the error. -/
def Alls (T : TypeId) (r : List Jx.Wd × Nat) (w : World) (e : Ending) (w' : World) : Prop :=
  ∃ v, e = .returned (.tuple #[v, .int .i64 (r.2 : Int)]) ∧ OwnR w' w.heap.size T 5 v r.1.length (wcs r.1) ∧ Below w.heap.size w w'
theorem alls_bad {T : TypeId} {r : List Jx.Wd × Nat} {er : Nat} {w w' : World} (h : r = ([], er)) (hb : Below w.heap.size w w') : Alls T r w (.returned (.tuple #[.slice none 0 0, .int .i64 (er : Int)])) w' := by
  subst h; exact ⟨_, rfl, OwnR.none_ _ _ _ _, hb⟩
theorem alls_ok {T : TypeId} {r : List Jx.Wd × Nat} {d : List Jx.Wd} {v : Value} {w w' : World} (h : r = (d, 0)) (ho : OwnR w' w.heap.size T 5 v d.length (wcs d)) (hb : Below w.heap.size w w') : Alls T r w (.returned (.tuple #[v, .int .i64 0])) w' := by
  subst h; exact ⟨_, rfl, ho, hb⟩
theorem tkW_out {k a x er : Nat} {n : Int} {t : List UInt8} {w w' : World} {e : Ending} (h : TkW (⟨k, n, t, a, x⟩, er) w e w') :
    e = .returned (.tuple #[.agg #[.int .i64 (k : Int), .int .i64 n, .string ⟨t.toArray⟩, .int .i64 (a : Int), .int .i64 (x : Int)], .int .i64 (er : Int)]) ∧ Below w.heap.size w w' := h
theorem ownR_snoc {w : World} {base : Nat} {T : TypeId} {v : Value} {d : List Jx.Wd} {x : Jx.Wd} (h : OwnR w base T 5 v (d.length + 1) (wcs d ++ wcells x)) : OwnR w base T 5 v (d ++ [x]).length (wcs (d ++ [x])) := by
  rw [wcs_snoc, List.length_append]; exact h


theorem fl_word {w : World} {B : Nat} {A : Option Addr} {d : List Jx.Wd} (h : Fl w B A (wcs d)) {i : Nat} (hi : i < d.length) : ∃ b off, A = some ⟨b, off, none⟩ ∧ b < B ∧
    w.cell? ⟨b, off + i * 5, none⟩ = some (.int .i64 ((d[i]'hi).k : Int)) ∧ w.cell? ⟨b, off + i * 5 + 1, none⟩ = some (.int .i64 (d[i]'hi).n) ∧ w.cell? ⟨b, off + i * 5 + 2, none⟩ = some (.string ⟨(d[i]'hi).t.toArray⟩) ∧
    w.cell? ⟨b, off + i * 5 + 3, none⟩ = some (.int .i64 ((d[i]'hi).a : Int)) ∧ w.cell? ⟨b, off + i * 5 + 4, none⟩ = some (.int .i64 ((d[i]'hi).x : Int)) := by
  have at_ : ∀ j, j < 5 → (wcs d)[i * 5 + j]? = (wcells (d[i]'hi))[j]? := by
    have e : wcs d = wcs (d.take i) ++ (wcells (d[i]'hi) ++ wcs (d.drop (i + 1))) := by
      have h1 : d = d.take i ++ (d[i]'hi :: d.drop (i + 1)) := by rw [← List.drop_eq_getElem_cons hi, List.take_append_drop]
      exact (congrArg wcs h1).trans (by unfold wcs; rw [List.flatMap_append, List.flatMap_cons])
    have hl : (wcs (d.take i)).length = i * 5 := by rw [wcs_len, List.length_take, Nat.min_eq_left (Nat.le_of_lt hi)]
    intro j hj
    rw [e, List.getElem?_append_right (by omega), hl, show i * 5 + j - i * 5 = j by omega, List.getElem?_append_left (by simpa [wcells] using hj)]
  rcases h with h | ⟨b, off, rfl, hb, hc⟩
  · have := wcs_len d; rw [h] at this; simp at this; omega
  · have hl := wcs_len d
    refine ⟨b, off, rfl, hb, ?_, ?_, ?_, ?_, ?_⟩
    · have := hc (i * 5 + 0) (by omega); rw [at_ 0 (by omega)] at this; exact this
    · have := hc (i * 5 + 1) (by omega); rw [at_ 1 (by omega)] at this; exact this
    · have := hc (i * 5 + 2) (by omega); rw [at_ 2 (by omega)] at this; exact this
    · have := hc (i * 5 + 3) (by omega); rw [at_ 3 (by omega)] at this; exact this
    · have := hc (i * 5 + 4) (by omega); rw [at_ 4 (by omega)] at this; exact this
end Go.Proofs.YtjebkedlfhapjaaDoor
