/- Plain mathematics of layer 10: which schemas may be, as the chapter has it. -/
import Derived.Test.YtnfhikgfcdcpoaaDoorSWt
import Derived.Test.YtnfhikgfcdcpoaaDoorNam
import Derived.Test.YtnfhikgfcdcpoaaDoorKFrm
namespace Go.Proofs.YtnfhikgfcdcpoaaDoor

/-- The tree that is zero. -/
def zJ : J := .mk 0 0 ⟨#[]⟩ [] []
def okName (t : ByteArray) : Prop := Nm.full t.data.toList = true ∧ Nm.kind t.data.toList = 0
def okFulls (l : List ByteArray) : Prop := l.length ≤ 40 ∧ ∀ t ∈ l, Nm.full t.data.toList = true
def okSimples (l : List ByteArray) : Prop := l.length ≤ 40 ∧ ∀ t ∈ l, Nm.simple t.data.toList = true
/-- A field's other names and its default. -/
def Fd.ok (f : Fd) : Prop := okSimples f.al ∧ (if f.has = true then f.df.deep ≤ 32 ∧ f.df.frm else f.df = zJ)
/-- May a node be? -/
def Nd.ok (s : Sc) (n : Nd) : Prop := 1 ≤ n.k ∧ n.k ≤ 14 ∧
  (if named n.k = true then okName n.name ∧ okFulls n.al else n.name = ⟨#[]⟩ ∧ n.al = []) ∧
  (if n.k = 9 then okSimples (n.fs.map Fd.name) ∧ (n.fs.map Fd.name).Nodup ∧ ∀ f ∈ n.fs, f.ok else n.fs = []) ∧
  (if n.k = 10 then n.sy ≠ [] ∧ okSimples n.sy ∧ n.sy.Nodup ∧ (if n.has = true then n.df ∈ n.sy else n.df = ⟨#[]⟩) else n.sy = [] ∧ n.has = false ∧ n.df = ⟨#[]⟩) ∧
  (if n.k = 14 then 0 ≤ n.size ∧ n.size ≤ 1000 else n.size = 0) ∧
  (if n.k = 11 ∨ n.k = 12 then True else n.items = 0) ∧
  (if n.k = 13 then n.br ≠ [] ∧ n.br.length ≤ 10 ∧ (∀ b ∈ n.br, s.kind b ≠ 13) ∧ n.br.Pairwise (fun a b => a ≠ b ∧ (s.kind a ≠ s.kind b ∨ named (s.kind a) = true)) else n.br = [])
/-- The names of the nodes that have one. -/
def Sc.names (s : Sc) : List ByteArray := (s.nodes.filter fun n => named n.k).map Nd.name
/-- May a schema be? -/
def Sc.right (s : Sc) : Prop := s.ordered ∧ (∀ n ∈ s.nodes, n.ok s) ∧ (∀ i, i < s.nodes.length → s.wt i ≤ 1000) ∧ s.names.Nodup
/-- No two nodes have the same name. -/
def Sc.uniq (s : Sc) : Prop := ∀ i (h : i < s.nodes.length), named (s.nodes[i]'h).k = true → s.find (s.nodes[i]'h).name = some i
theorem ba_beq {a b : ByteArray} : (a == b) = true ↔ a = b := by
  obtain ⟨a⟩ := a
  obtain ⟨b⟩ := b
  constructor
  · intro h
    have : (a == b) = true := h
    rw [eq_of_beq this]
  · intro h
    obtain rfl := ByteArray.mk.inj h
    show (a == a) = true
    simp
theorem uniq_of : ∀ (l : List Nd), ((l.filter fun n => named n.k).map Nd.name).Nodup → ∀ i (h : i < l.length), named (l[i]'h).k = true → (l.findIdx? fun n => named n.k && n.name == (l[i]'h).name) = some i
  | [], _, i, h, _ => absurd h (Nat.not_lt_zero _)
  | n :: r, hd, i, h, hn => by
    rw [List.findIdx?_cons]
    cases i with
    | zero =>
      have : (named n.k && n.name == ((n :: r)[0]'h).name) = true := by
        have e : (n :: r)[0]'h = n := rfl
        rw [e] at hn ⊢
        rw [hn, Bool.true_and]; exact ba_beq.2 rfl
      rw [if_pos this]
    | succ i =>
      have e : (n :: r)[i + 1]'h = r[i]'(by simpa using h) := rfl
      rw [e] at hn ⊢
      have ne : ¬ (named n.k && n.name == (r[i]'(by simpa using h)).name) = true := by
        intro g
        rw [Bool.and_eq_true] at g
        obtain ⟨g1, g2⟩ := g
        rw [List.filter_cons, if_pos g1, List.map_cons, List.nodup_cons] at hd
        apply hd.1
        rw [ba_beq.1 g2]
        exact List.mem_map_of_mem (List.mem_filter.2 ⟨List.getElem_mem _, hn⟩)
      have hd2 : ((r.filter fun n => named n.k).map Nd.name).Nodup := by
        rw [List.filter_cons] at hd
        split at hd
        · rw [List.map_cons, List.nodup_cons] at hd; exact hd.2
        · exact hd
      rw [if_neg ne, uniq_of r hd2 i (by simpa using h) hn]
      rfl
theorem Sc.right_is {s : Sc} (h : s.right) : s.ordered ∧ s.uniq ∧ ∀ i, i < s.nodes.length → s.wt i ≤ 1000 :=
  ⟨h.1, fun i hi hn => uniq_of s.nodes h.2.2.2 i hi hn, h.2.2.1⟩
/-- The chapter's example. -/
def ex10 : Sc := ⟨[⟨9, ⟨#[114]⟩, [], [⟨⟨#[102]⟩, [], 1, false, zJ⟩], [], false, ⟨#[]⟩, 0, 0, []⟩, ⟨13, ⟨#[]⟩, [], [], [], false, ⟨#[]⟩, 0, 0, [2, 0]⟩, ⟨1, ⟨#[]⟩, [], [], [], false, ⟨#[]⟩, 0, 0, []⟩], 0⟩
theorem ex10_met : met ex10 33 0 = some 3 := by
  have k0 : ex10.kidsAt 0 = [1] := by decide
  have k1 : ex10.kidsAt 1 = [2, 0] := by decide
  have k2 : ex10.kidsAt 2 = [] := by decide
  have l : ex10.nodes.length = 3 := rfl
  have n0 : ex10.kind 0 = 9 := by decide
  have d : named 9 = true := by decide
  simp [met, metK, k0, k1, k2, l, n0, d]
theorem ex10_wt : ex10.wt 0 = 2 ∧ ex10.wt 1 = 1 ∧ ex10.wt 2 = 1 := by
  have h2 : ex10.wt 2 = 1 := by rw [Sc.wt_fix, if_neg (by decide)]
  have h1 : ex10.wt 1 = 1 := by rw [Sc.wt_fix, if_neg (by decide)]
  have k0 : ex10.kidsAt 0 = [1] := by decide
  refine ⟨?_, h1, h2⟩
  rw [Sc.wt_fix, if_pos (by decide), k0]
  simp [capF, h1]
theorem right_ex : ex10.right := by
  refine ⟨⟨by decide, by decide, rfl, ex10_met⟩, ?_, ?_, by decide⟩
  · intro n hn
    unfold ex10 at hn
    simp only [List.mem_cons, List.not_mem_nil, or_false] at hn
    rcases hn with rfl | rfl | rfl
    · refine ⟨by decide, by decide, ?_, ?_, ?_, rfl, rfl, rfl⟩
      · exact ⟨⟨by decide, by decide⟩, by decide, fun t h => by cases h⟩
      · refine ⟨⟨by decide, by decide⟩, by decide, ?_⟩
        intro f hf
        simp only [List.mem_singleton] at hf
        subst hf
        exact ⟨⟨by decide, fun t h => by cases h⟩, rfl⟩
      · exact ⟨rfl, rfl, rfl⟩
    · refine ⟨by decide, by decide, ⟨rfl, rfl⟩, rfl, ⟨rfl, rfl, rfl⟩, rfl, rfl, ?_⟩
      exact ⟨by decide, by decide, by decide, by decide⟩
    · exact ⟨by decide, by decide, ⟨rfl, rfl⟩, rfl, ⟨rfl, rfl, rfl⟩, rfl, rfl, rfl⟩
  · intro i hi
    obtain ⟨a, b, c⟩ := ex10_wt
    obtain rfl | rfl | rfl : i = 0 ∨ i = 1 ∨ i = 2 := by have : ex10.nodes.length = 3 := rfl; omega
    · rw [a]; decide
    · rw [b]; decide
    · rw [c]; decide
end Go.Proofs.YtnfhikgfcdcpoaaDoor
