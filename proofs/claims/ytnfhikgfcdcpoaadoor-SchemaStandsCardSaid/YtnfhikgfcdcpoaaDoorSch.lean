/- Schemas: what they are, and how they lie in memory. (Program-free.) -/
import Derived.Test.YtnfhikgfcdcpoaaDoorDat
import Derived.Test.YtnfhikgfcdcpoaaDoorJT
namespace Go.Proofs.YtnfhikgfcdcpoaaDoor
open Go.RowKit Mem

mutual
/-- A tree as a datum. -/
def J.enc : J → D
  | .mk k n t its ks => .ag [.i .i64 k, .i .i64 n, .s t, .sl 5 (J.encs its), .sl 1 (ks.map D.s)]
def J.encs : List J → List D
  | [] => []
  | j :: r => J.enc j :: J.encs r
end
theorem J.encs_map : ∀ (l : List J), J.encs l = l.map J.enc
  | [] => by unfold J.encs; rfl
  | j :: r => by unfold J.encs; rw [J.encs_map r]; rfl
theorem J.encs_len (l : List J) : (J.encs l).length = l.length := by rw [J.encs_map, List.length_map]
theorem row_strs {w : World} {S : Nat → Prop} : ∀ {l : List ByteArray} {A : Option Addr}, RowD w S 1 (l.map D.s) A ↔ FlS w S A (l.map Value.string)
  | [], A => ⟨fun _ => .inl rfl, fun _ => RowD.nil_ _ _ _ _⟩
  | t :: r, A => by
    constructor
    · intro h
      have one := fun i (hi : i < (t :: r).length) => h.at_ (i := i) (by simpa using hi)
      obtain ⟨g, off, cs, rfl, hg, _⟩ := one 0 (by simp)
      refine .inr ⟨g, off, rfl, hg, fun k hk => ?_⟩
      have hk' : k < (t :: r).length := by simpa using hk
      obtain ⟨g', off', cs', e, _, hl, hc, hd⟩ := one k hk'
      simp only [Option.some.injEq, Addr.mk.injEq, and_true] at e
      obtain ⟨rfl, rfl⟩ := e
      have := hc 0 (by omega)
      rw [List.getElem_map] at hd
      rw [lies_s.1 hd] at this
      rw [Nat.mul_one, Nat.add_zero] at this
      rw [this, List.getElem?_map, List.getElem?_eq_getElem hk']
      rfl
    · intro h
      rcases h with h | ⟨g, off, rfl, hg, hc⟩
      · simp at h
      · have := RowD.of (w := w) (S := S) (n := 1) (g := g) (off := off) hg (t :: r).length (fun i => D.s ((t :: r).getD i ⟨#[]⟩)) (fun i => [.string ((t :: r).getD i ⟨#[]⟩)]) (fun i hi => by
          refine ⟨rfl, fun j hj => ?_, lies_s.2 rfl⟩
          obtain rfl : j = 0 := by omega
          rw [Nat.mul_one, Nat.add_zero, hc i (by simpa using hi), List.getElem?_map, List.getElem?_eq_getElem hi]
          simp [List.getD, List.getElem?_eq_getElem hi])
        have e : (List.range (t :: r).length).map (fun i => D.s ((t :: r).getD i ⟨#[]⟩)) = (t :: r).map D.s := by
          apply List.ext_getElem
          · simp
          · intro i h1 h2
            have hi : i < (t :: r).length := by simpa using h1
            rw [List.getElem_map, List.getElem_map, List.getElem_range, List.getD, List.getElem?_eq_getElem hi]
            rfl
        rw [e] at this
        exact this
section
variable {w : World} {S : Nat → Prop}
mutual
theorem tree_lies : ∀ {j : J} {cs : List Value}, Lies w S j.enc cs ↔ TreeS w S j cs
  | .mk k n t its ks, cs => by
    unfold J.enc TreeS
    rw [lies_ag]
    simp only [liesA_cons, liesA_nil, lies_i, lies_s, lies_sl, J.encs_len, List.length_map]
    constructor
    · rintro ⟨_, _, rfl, rfl, _, _, rfl, rfl, _, _, rfl, rfl, _, _, rfl, ⟨A3, c3, rfl, h1, h2, h3⟩, _, _, rfl, ⟨A4, c4, rfl, h4, h5, h6⟩, rfl⟩
      exact ⟨A3, c3, A4, c4, rfl, ⟨h1, h2⟩, ⟨h4, h5⟩, rows_lies.1 h3, row_strs.1 h6⟩
    · rintro ⟨A3, c3, A4, c4, rfl, ⟨h1, h2⟩, ⟨h4, h5⟩, h3, h6⟩
      exact ⟨[_], _, rfl, rfl, [_], _, rfl, rfl, [_], _, rfl, rfl, [_], _, rfl, ⟨A3, c3, rfl, h1, h2, rows_lies.2 h3⟩, [_], [], rfl, ⟨A4, c4, rfl, h4, h5, row_strs.2 h6⟩, rfl⟩
theorem rows_lies : ∀ {l : List J} {A : Option Addr}, RowD w S 5 (J.encs l) A ↔ RowS w S l A
  | [], A => by unfold J.encs RowD RowS; exact Iff.rfl
  | j :: r, A => by
    unfold J.encs RowD RowS
    constructor
    · rintro ⟨g, off, cs, rfl, hg, hl, hc, h1, h2⟩
      exact ⟨g, off, cs, rfl, hg, hc, tree_lies.1 h1, rows_lies.1 h2⟩
    · rintro ⟨g, off, cs, rfl, hg, hc, h1, h2⟩
      exact ⟨g, off, cs, rfl, hg, h1.five, hc, tree_lies.2 h1, rows_lies.2 h2⟩
end
end

/-- A record's field: its name, other names, its type, whether it has a default, the default. -/
structure Fd where
  name : ByteArray
  al : List ByteArray
  ty : Int
  has : Bool
  df : J
/-- A node. -/
structure Nd where
  k : Int
  name : ByteArray
  al : List ByteArray
  fs : List Fd
  sy : List ByteArray
  has : Bool
  df : ByteArray
  size : Int
  items : Int
  br : List Int
/-- A schema. -/
structure Sc where
  nodes : List Nd
  root : Int
def Fd.enc (f : Fd) : D := .ag [.s f.name, .sl 1 (f.al.map D.s), .i .i64 f.ty, .b f.has, f.df.enc]
def Nd.enc (n : Nd) : D := .ag [.i .i64 n.k, .s n.name, .sl 1 (n.al.map D.s), .sl 9 (n.fs.map Fd.enc), .sl 1 (n.sy.map D.s), .b n.has, .s n.df, .i .i64 n.size, .i .i64 n.items, .sl 1 (n.br.map (D.i .i64))]
def Sc.enc (s : Sc) : D := .ag [.sl 10 (s.nodes.map Nd.enc), .i .i64 s.root]
section
variable {w : World} {S : Nat → Prop}
/-- A length that a slice may have. -/
def Len (n c : Nat) : Prop := n ≤ c ∧ n ≤ maxLen
theorem Fd.out {f : Fd} {cs : List Value} : Lies w S f.enc cs ↔ ∃ A1 c1 B3 d3 B4 d4, cs = [.string f.name, .slice A1 f.al.length c1, .int .i64 f.ty, .bool f.has, .int .i64 f.df.k, .int .i64 f.df.n, .string f.df.t, .slice B3 f.df.its.length d3, .slice B4 f.df.ks.length d4] ∧
    Len f.al.length c1 ∧ FlS w S A1 (f.al.map Value.string) ∧ TreeS w S f.df [.int .i64 f.df.k, .int .i64 f.df.n, .string f.df.t, .slice B3 f.df.its.length d3, .slice B4 f.df.ks.length d4] := by
  unfold Fd.enc
  rw [lies_ag]
  simp only [liesA_cons, liesA_nil, lies_i, lies_s, lies_b, lies_sl, List.length_map, tree_lies, row_strs]
  constructor
  · rintro ⟨_, _, rfl, rfl, _, _, rfl, ⟨A1, c1, rfl, h1, h2, h3⟩, _, _, rfl, rfl, _, _, rfl, rfl, cs, _, rfl, ht, rfl⟩
    obtain ⟨B3, d3, B4, d4, e, _⟩ := ht.out
    subst e
    exact ⟨A1, c1, B3, d3, B4, d4, rfl, ⟨h1, h2⟩, h3, ht⟩
  · rintro ⟨A1, c1, B3, d3, B4, d4, rfl, ⟨h1, h2⟩, h3, ht⟩
    exact ⟨[_], _, rfl, rfl, [_], _, rfl, ⟨A1, c1, rfl, h1, h2, h3⟩, [_], _, rfl, rfl, [_], _, rfl, rfl, _, [], rfl, ht, rfl⟩
theorem Nd.out {n : Nd} {cs : List Value} : Lies w S n.enc cs ↔ ∃ A2 c2 A3 c3 A4 c4 A9 c9, cs = [.int .i64 n.k, .string n.name, .slice A2 n.al.length c2, .slice A3 n.fs.length c3, .slice A4 n.sy.length c4, .bool n.has, .string n.df, .int .i64 n.size, .int .i64 n.items, .slice A9 n.br.length c9] ∧
    Len n.al.length c2 ∧ FlS w S A2 (n.al.map Value.string) ∧ Len n.fs.length c3 ∧ RowD w S 9 (n.fs.map Fd.enc) A3 ∧ Len n.sy.length c4 ∧ FlS w S A4 (n.sy.map Value.string) ∧ Len n.br.length c9 ∧ RowD w S 1 (n.br.map (D.i .i64)) A9 := by
  unfold Nd.enc
  rw [lies_ag]
  simp only [liesA_cons, liesA_nil, lies_i, lies_s, lies_b, lies_sl, List.length_map, row_strs]
  constructor
  · rintro ⟨_, _, rfl, rfl, _, _, rfl, rfl, _, _, rfl, ⟨A2, c2, rfl, h1, h2, h3⟩, _, _, rfl, ⟨A3, c3, rfl, h4, h5, h6⟩, _, _, rfl, ⟨A4, c4, rfl, h7, h8, h9⟩, _, _, rfl, rfl, _, _, rfl, rfl, _, _, rfl, rfl, _, _, rfl, rfl, _, _, rfl, ⟨A9, c9, rfl, ha, hb, hc⟩, rfl⟩
    exact ⟨A2, c2, A3, c3, A4, c4, A9, c9, rfl, ⟨h1, h2⟩, h3, ⟨h4, h5⟩, h6, ⟨h7, h8⟩, h9, ⟨ha, hb⟩, hc⟩
  · rintro ⟨A2, c2, A3, c3, A4, c4, A9, c9, rfl, ⟨h1, h2⟩, h3, ⟨h4, h5⟩, h6, ⟨h7, h8⟩, h9, ⟨ha, hb⟩, hc⟩
    exact ⟨[_], _, rfl, rfl, [_], _, rfl, rfl, [_], _, rfl, ⟨A2, c2, rfl, h1, h2, h3⟩, [_], _, rfl, ⟨A3, c3, rfl, h4, h5, h6⟩, [_], _, rfl, ⟨A4, c4, rfl, h7, h8, h9⟩, [_], _, rfl, rfl, [_], _, rfl, rfl, [_], _, rfl, rfl, [_], _, rfl, rfl, [_], [], rfl, ⟨A9, c9, rfl, ha, hb, hc⟩, rfl⟩
theorem Sc.out {s : Sc} {cs : List Value} : Lies w S s.enc cs ↔ ∃ A c, cs = [.slice A s.nodes.length c, .int .i64 s.root] ∧ Len s.nodes.length c ∧ RowD w S 10 (s.nodes.map Nd.enc) A := by
  unfold Sc.enc
  rw [lies_ag]
  simp only [liesA_cons, liesA_nil, lies_i, lies_sl, List.length_map]
  constructor
  · rintro ⟨_, _, rfl, ⟨A, c, rfl, h1, h2, h3⟩, _, _, rfl, rfl, rfl⟩
    exact ⟨A, c, rfl, ⟨h1, h2⟩, h3⟩
  · rintro ⟨A, c, rfl, ⟨h1, h2⟩, h3⟩
    exact ⟨[_], _, rfl, ⟨A, c, rfl, h1, h2, h3⟩, [_], [], rfl, rfl, rfl⟩
/-- The i-th node's cells. -/
theorem nodes_at {l : List Nd} {A : Option Addr} (h : RowD w S 10 (l.map Nd.enc) A) {i : Nat} (hi : i < l.length) : ∃ g off A2 c2 A3 c3 A4 c4 A9 c9, A = some ⟨g, off, none⟩ ∧ S g ∧
    (w.cell? ⟨g, off + i * 10, none⟩ = some (.int .i64 (l[i]'hi).k) ∧ w.cell? ⟨g, off + i * 10 + 1, none⟩ = some (.string (l[i]'hi).name) ∧ w.cell? ⟨g, off + i * 10 + 2, none⟩ = some (.slice A2 (l[i]'hi).al.length c2) ∧
      w.cell? ⟨g, off + i * 10 + 3, none⟩ = some (.slice A3 (l[i]'hi).fs.length c3) ∧ w.cell? ⟨g, off + i * 10 + 4, none⟩ = some (.slice A4 (l[i]'hi).sy.length c4) ∧ w.cell? ⟨g, off + i * 10 + 5, none⟩ = some (.bool (l[i]'hi).has) ∧
      w.cell? ⟨g, off + i * 10 + 6, none⟩ = some (.string (l[i]'hi).df) ∧ w.cell? ⟨g, off + i * 10 + 7, none⟩ = some (.int .i64 (l[i]'hi).size) ∧ w.cell? ⟨g, off + i * 10 + 8, none⟩ = some (.int .i64 (l[i]'hi).items) ∧ w.cell? ⟨g, off + i * 10 + 9, none⟩ = some (.slice A9 (l[i]'hi).br.length c9)) ∧
    Lies w S (l[i]'hi).enc [.int .i64 (l[i]'hi).k, .string (l[i]'hi).name, .slice A2 (l[i]'hi).al.length c2, .slice A3 (l[i]'hi).fs.length c3, .slice A4 (l[i]'hi).sy.length c4, .bool (l[i]'hi).has, .string (l[i]'hi).df, .int .i64 (l[i]'hi).size, .int .i64 (l[i]'hi).items, .slice A9 (l[i]'hi).br.length c9] := by
  obtain ⟨g, off, cs, e, hg, hl, hc, hd⟩ := h.at_ (i := i) (by simpa using hi)
  rw [List.getElem_map] at hd
  obtain ⟨A2, c2, A3, c3, A4, c4, A9, c9, rfl, _⟩ := Nd.out.1 hd
  exact ⟨g, off, A2, c2, A3, c3, A4, c4, A9, c9, e, hg, ⟨hc 0 (by omega), hc 1 (by omega), hc 2 (by omega), hc 3 (by omega), hc 4 (by omega), hc 5 (by omega), hc 6 (by omega), hc 7 (by omega), hc 8 (by omega), hc 9 (by omega)⟩, hd⟩
/-- The i-th field's cells. -/
theorem fields_at {l : List Fd} {A : Option Addr} (h : RowD w S 9 (l.map Fd.enc) A) {i : Nat} (hi : i < l.length) : ∃ g off A1 c1 B3 d3 B4 d4, A = some ⟨g, off, none⟩ ∧ S g ∧
    (w.cell? ⟨g, off + i * 9, none⟩ = some (.string (l[i]'hi).name) ∧ w.cell? ⟨g, off + i * 9 + 1, none⟩ = some (.slice A1 (l[i]'hi).al.length c1) ∧ w.cell? ⟨g, off + i * 9 + 2, none⟩ = some (.int .i64 (l[i]'hi).ty) ∧ w.cell? ⟨g, off + i * 9 + 3, none⟩ = some (.bool (l[i]'hi).has) ∧
      w.cell? ⟨g, off + i * 9 + 4, none⟩ = some (.int .i64 (l[i]'hi).df.k) ∧ w.cell? ⟨g, off + i * 9 + 5, none⟩ = some (.int .i64 (l[i]'hi).df.n) ∧ w.cell? ⟨g, off + i * 9 + 6, none⟩ = some (.string (l[i]'hi).df.t) ∧
      w.cell? ⟨g, off + i * 9 + 7, none⟩ = some (.slice B3 (l[i]'hi).df.its.length d3) ∧ w.cell? ⟨g, off + i * 9 + 8, none⟩ = some (.slice B4 (l[i]'hi).df.ks.length d4)) ∧
    Len (l[i]'hi).al.length c1 ∧ FlS w S A1 ((l[i]'hi).al.map Value.string) ∧ TreeS w S (l[i]'hi).df [.int .i64 (l[i]'hi).df.k, .int .i64 (l[i]'hi).df.n, .string (l[i]'hi).df.t, .slice B3 (l[i]'hi).df.its.length d3, .slice B4 (l[i]'hi).df.ks.length d4] := by
  obtain ⟨g, off, cs, e, hg, hl, hc, hd⟩ := h.at_ (i := i) (by simpa using hi)
  rw [List.getElem_map] at hd
  obtain ⟨A1, c1, B3, d3, B4, d4, rfl, h1, h2, h3⟩ := Fd.out.1 hd
  exact ⟨g, off, A1, c1, B3, d3, B4, d4, e, hg, ⟨hc 0 (by omega), hc 1 (by omega), hc 2 (by omega), hc 3 (by omega), hc 4 (by omega), hc 5 (by omega), hc 6 (by omega), hc 7 (by omega), hc 8 (by omega)⟩, h1, h2, h3⟩
theorem ints_at {l : List Int} {A : Option Addr} (h : RowD w S 1 (l.map (D.i .i64)) A) {i : Nat} (hi : i < l.length) : ∃ g off, A = some ⟨g, off, none⟩ ∧ S g ∧ w.cell? ⟨g, off + i, none⟩ = some (.int .i64 (l[i]'hi)) := by
  obtain ⟨g, off, cs, e, hg, hl, hc, hd⟩ := h.at_ (i := i) (by simpa using hi)
  rw [List.getElem_map] at hd
  rw [lies_i.1 hd] at hc
  have := hc 0 (by omega)
  rw [Nat.mul_one, Nat.add_zero] at this
  exact ⟨g, off, e, hg, this⟩
end
end Go.Proofs.YtnfhikgfcdcpoaaDoor
