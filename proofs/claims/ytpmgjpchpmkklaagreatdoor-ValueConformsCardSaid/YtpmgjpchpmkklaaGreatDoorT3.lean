/- Joined by tools/bundle.py: Sch JTIn SchIn Row Val SMath. -/
import Derived.Deep.Slices
import Derived.KernelRfl
import Derived.OwnWalk
import Derived.Test.YtpmgjpchpmkklaaGreatDoorT1
import Derived.Test.YtpmgjpchpmkklaaGreatDoorT2
import Derived.Test.YtpmgjpchpmkklaaGreatDoorT0
set_option maxRecDepth 100000
set_option maxHeartbeats 16000000
namespace Go.Proofs.YtpmgjpchpmkklaaGreatDoor
open Go.RowKit Mem
mutual
/-- A tree as a datum. -/
def J.enc : J → D
 | .mk k n t its ks => .ag [.i .i64 k, .i .i64 n, .s t, .sl 5 (J.encs its), .sl 1 (ks.map D.s)]
def J.encs : List J → List D
 | [] => []
 | j :: r => J.enc j :: J.encs r
end
theorem J.encs_map : ∀ (l : List J), J.encs l = l.map J.enc
 | [] => by unfold J.encs; rfl
 | j :: r => by unfold J.encs; rw [J.encs_map r]; rfl
theorem J.encs_len (l : List J) : (J.encs l).length = l.length := by rw [J.encs_map, List.length_map]
theorem row_strs {w : World} {S : Nat → Prop} : ∀ {l : List ByteArray} {A : Option Addr}, RowD w S 1 (l.map D.s) A ↔ FlS w S A (l.map Value.string)
 | [], A => ⟨fun _ => .inl rfl, fun _ => RowD.nil_ _ _ _ _⟩
 | t :: r, A => by
  constructor
  · intro h
    have one := fun i (hi : i < (t :: r).length) => h.at_ (i := i) (by simpa using hi)
    obtain ⟨g, off, cs, rfl, hg, _⟩ := one 0 (by simp)
    refine .inr ⟨g, off, rfl, hg, fun k hk => ?_⟩
    have hk' : k < (t :: r).length := by simpa using hk
    obtain ⟨g', off', cs', e, _, hl, hc, hd⟩ := one k hk'
    simp only [Option.some.injEq, Addr.mk.injEq, and_true] at e
    obtain ⟨rfl, rfl⟩ := e
    have := hc 0 (by omega)
    rw [List.getElem_map] at hd
    rw [lies_s.1 hd] at this
    rw [Nat.mul_one, Nat.add_zero] at this
    rw [this, List.getElem?_map, List.getElem?_eq_getElem hk']
    rfl
  · intro h
    rcases h with h | ⟨g, off, rfl, hg, hc⟩
    · simp at h
    · have := RowD.of (w := w) (S := S) (n := 1) (g := g) (off := off) hg (t :: r).length (fun i => D.s ((t :: r).getD i ⟨#[]⟩)) (fun i => [.string ((t :: r).getD i ⟨#[]⟩)]) (fun i hi => by
       refine ⟨rfl, fun j hj => ?_, lies_s.2 rfl⟩
       obtain rfl : j = 0 := by omega
       rw [Nat.mul_one, Nat.add_zero, hc i (by simpa using hi), List.getElem?_map, List.getElem?_eq_getElem hi]
       simp [List.getD, List.getElem?_eq_getElem hi])
      have e : (List.range (t :: r).length).map (fun i => D.s ((t :: r).getD i ⟨#[]⟩)) = (t :: r).map D.s := by
       apply List.ext_getElem
       · simp
       · intro i h1 h2
         have hi : i < (t :: r).length := by simpa using h1
         rw [List.getElem_map, List.getElem_map, List.getElem_range, List.getD, List.getElem?_eq_getElem hi]
         rfl
      rw [e] at this
      exact this
section
variable {w : World} {S : Nat → Prop}
mutual
theorem tree_lies : ∀ {j : J} {cs : List Value}, Lies w S j.enc cs ↔ TreeS w S j cs
 | .mk k n t its ks, cs => by
  unfold J.enc TreeS
  rw [lies_ag]
  simp only [liesA_cons, liesA_nil, lies_i, lies_s, lies_sl, J.encs_len, List.length_map]
  constructor
  · rintro ⟨_, _, rfl, rfl, _, _, rfl, rfl, _, _, rfl, rfl, _, _, rfl, ⟨A3, c3, rfl, h1, h2, h3⟩, _, _, rfl, ⟨A4, c4, rfl, h4, h5, h6⟩, rfl⟩
    exact ⟨A3, c3, A4, c4, rfl, ⟨h1, h2⟩, ⟨h4, h5⟩, rows_lies.1 h3, row_strs.1 h6⟩
  · rintro ⟨A3, c3, A4, c4, rfl, ⟨h1, h2⟩, ⟨h4, h5⟩, h3, h6⟩
    exact ⟨[_], _, rfl, rfl, [_], _, rfl, rfl, [_], _, rfl, rfl, [_], _, rfl, ⟨A3, c3, rfl, h1, h2, rows_lies.2 h3⟩, [_], [], rfl, ⟨A4, c4, rfl, h4, h5, row_strs.2 h6⟩, rfl⟩
theorem rows_lies : ∀ {l : List J} {A : Option Addr}, RowD w S 5 (J.encs l) A ↔ RowS w S l A
 | [], A => by unfold J.encs RowD RowS; exact Iff.rfl
 | j :: r, A => by
  unfold J.encs RowD RowS
  constructor
  · rintro ⟨g, off, cs, rfl, hg, hl, hc, h1, h2⟩
    exact ⟨g, off, cs, rfl, hg, hc, tree_lies.1 h1, rows_lies.1 h2⟩
  · rintro ⟨g, off, cs, rfl, hg, hc, h1, h2⟩
    exact ⟨g, off, cs, rfl, hg, h1.five, hc, tree_lies.2 h1, rows_lies.2 h2⟩
end
end
structure Fd where
 name : ByteArray
 al : List ByteArray
 ty : Int
 has : Bool
 df : J
structure Nd where
 k : Int
 name : ByteArray
 al : List ByteArray
 fs : List Fd
 sy : List ByteArray
 has : Bool
 df : ByteArray
 size : Int
 items : Int
 br : List Int
structure Sc where
 nodes : List Nd
 root : Int
def Fd.enc (f : Fd) : D := .ag [.s f.name, .sl 1 (f.al.map D.s), .i .i64 f.ty, .b f.has, f.df.enc]
def Nd.enc (n : Nd) : D := .ag [.i .i64 n.k, .s n.name, .sl 1 (n.al.map D.s), .sl 9 (n.fs.map Fd.enc), .sl 1 (n.sy.map D.s), .b n.has, .s n.df, .i .i64 n.size, .i .i64 n.items, .sl 1 (n.br.map (D.i .i64))]
def Sc.enc (s : Sc) : D := .ag [.sl 10 (s.nodes.map Nd.enc), .i .i64 s.root]
section
variable {w : World} {S : Nat → Prop}
def Len (n c : Nat) : Prop := n ≤ c ∧ n ≤ maxLen
theorem Fd.out {f : Fd} {cs : List Value} : Lies w S f.enc cs ↔ ∃ A1 c1 B3 d3 B4 d4, cs = [.string f.name, .slice A1 f.al.length c1, .int .i64 f.ty, .bool f.has, .int .i64 f.df.k, .int .i64 f.df.n, .string f.df.t, .slice B3 f.df.its.length d3, .slice B4 f.df.ks.length d4] ∧
 Len f.al.length c1 ∧ FlS w S A1 (f.al.map Value.string) ∧ TreeS w S f.df [.int .i64 f.df.k, .int .i64 f.df.n, .string f.df.t, .slice B3 f.df.its.length d3, .slice B4 f.df.ks.length d4] := by
 unfold Fd.enc
 rw [lies_ag]
 simp only [liesA_cons, liesA_nil, lies_i, lies_s, lies_b, lies_sl, List.length_map, tree_lies, row_strs]
 constructor
 · rintro ⟨_, _, rfl, rfl, _, _, rfl, ⟨A1, c1, rfl, h1, h2, h3⟩, _, _, rfl, rfl, _, _, rfl, rfl, cs, _, rfl, ht, rfl⟩
   obtain ⟨B3, d3, B4, d4, e, _⟩ := ht.out
   subst e
   exact ⟨A1, c1, B3, d3, B4, d4, rfl, ⟨h1, h2⟩, h3, ht⟩
 · rintro ⟨A1, c1, B3, d3, B4, d4, rfl, ⟨h1, h2⟩, h3, ht⟩
   exact ⟨[_], _, rfl, rfl, [_], _, rfl, ⟨A1, c1, rfl, h1, h2, h3⟩, [_], _, rfl, rfl, [_], _, rfl, rfl, _, [], rfl, ht, rfl⟩
theorem Nd.out {n : Nd} {cs : List Value} : Lies w S n.enc cs ↔ ∃ A2 c2 A3 c3 A4 c4 A9 c9, cs = [.int .i64 n.k, .string n.name, .slice A2 n.al.length c2, .slice A3 n.fs.length c3, .slice A4 n.sy.length c4, .bool n.has, .string n.df, .int .i64 n.size, .int .i64 n.items, .slice A9 n.br.length c9] ∧
 Len n.al.length c2 ∧ FlS w S A2 (n.al.map Value.string) ∧ Len n.fs.length c3 ∧ RowD w S 9 (n.fs.map Fd.enc) A3 ∧ Len n.sy.length c4 ∧ FlS w S A4 (n.sy.map Value.string) ∧ Len n.br.length c9 ∧ RowD w S 1 (n.br.map (D.i .i64)) A9 := by
 unfold Nd.enc
 rw [lies_ag]
 simp only [liesA_cons, liesA_nil, lies_i, lies_s, lies_b, lies_sl, List.length_map, row_strs]
 constructor
 · rintro ⟨_, _, rfl, rfl, _, _, rfl, rfl, _, _, rfl, ⟨A2, c2, rfl, h1, h2, h3⟩, _, _, rfl, ⟨A3, c3, rfl, h4, h5, h6⟩, _, _, rfl, ⟨A4, c4, rfl, h7, h8, h9⟩, _, _, rfl, rfl, _, _, rfl, rfl, _, _, rfl, rfl, _, _, rfl, rfl, _, _, rfl, ⟨A9, c9, rfl, ha, hb, hc⟩, rfl⟩
   exact ⟨A2, c2, A3, c3, A4, c4, A9, c9, rfl, ⟨h1, h2⟩, h3, ⟨h4, h5⟩, h6, ⟨h7, h8⟩, h9, ⟨ha, hb⟩, hc⟩
 · rintro ⟨A2, c2, A3, c3, A4, c4, A9, c9, rfl, ⟨h1, h2⟩, h3, ⟨h4, h5⟩, h6, ⟨h7, h8⟩, h9, ⟨ha, hb⟩, hc⟩
   exact ⟨[_], _, rfl, rfl, [_], _, rfl, rfl, [_], _, rfl, ⟨A2, c2, rfl, h1, h2, h3⟩, [_], _, rfl, ⟨A3, c3, rfl, h4, h5, h6⟩, [_], _, rfl, ⟨A4, c4, rfl, h7, h8, h9⟩, [_], _, rfl, rfl, [_], _, rfl, rfl, [_], _, rfl, rfl, [_], _, rfl, rfl, [_], [], rfl, ⟨A9, c9, rfl, ha, hb, hc⟩, rfl⟩
theorem Sc.out {s : Sc} {cs : List Value} : Lies w S s.enc cs ↔ ∃ A c, cs = [.slice A s.nodes.length c, .int .i64 s.root] ∧ Len s.nodes.length c ∧ RowD w S 10 (s.nodes.map Nd.enc) A := by
 unfold Sc.enc
 rw [lies_ag]
 simp only [liesA_cons, liesA_nil, lies_i, lies_sl, List.length_map]
 constructor
 · rintro ⟨_, _, rfl, ⟨A, c, rfl, h1, h2, h3⟩, _, _, rfl, rfl, rfl⟩
   exact ⟨A, c, rfl, ⟨h1, h2⟩, h3⟩
 · rintro ⟨A, c, rfl, ⟨h1, h2⟩, h3⟩
   exact ⟨[_], _, rfl, ⟨A, c, rfl, h1, h2, h3⟩, [_], [], rfl, rfl, rfl⟩
theorem nodes_at {l : List Nd} {A : Option Addr} (h : RowD w S 10 (l.map Nd.enc) A) {i : Nat} (hi : i < l.length) : ∃ g off A2 c2 A3 c3 A4 c4 A9 c9, A = some ⟨g, off, none⟩ ∧ S g ∧
 (w.cell? ⟨g, off + i * 10, none⟩ = some (.int .i64 (l[i]'hi).k) ∧ w.cell? ⟨g, off + i * 10 + 1, none⟩ = some (.string (l[i]'hi).name) ∧ w.cell? ⟨g, off + i * 10 + 2, none⟩ = some (.slice A2 (l[i]'hi).al.length c2) ∧
  w.cell? ⟨g, off + i * 10 + 3, none⟩ = some (.slice A3 (l[i]'hi).fs.length c3) ∧ w.cell? ⟨g, off + i * 10 + 4, none⟩ = some (.slice A4 (l[i]'hi).sy.length c4) ∧ w.cell? ⟨g, off + i * 10 + 5, none⟩ = some (.bool (l[i]'hi).has) ∧
  w.cell? ⟨g, off + i * 10 + 6, none⟩ = some (.string (l[i]'hi).df) ∧ w.cell? ⟨g, off + i * 10 + 7, none⟩ = some (.int .i64 (l[i]'hi).size) ∧ w.cell? ⟨g, off + i * 10 + 8, none⟩ = some (.int .i64 (l[i]'hi).items) ∧ w.cell? ⟨g, off + i * 10 + 9, none⟩ = some (.slice A9 (l[i]'hi).br.length c9)) ∧
 Lies w S (l[i]'hi).enc [.int .i64 (l[i]'hi).k, .string (l[i]'hi).name, .slice A2 (l[i]'hi).al.length c2, .slice A3 (l[i]'hi).fs.length c3, .slice A4 (l[i]'hi).sy.length c4, .bool (l[i]'hi).has, .string (l[i]'hi).df, .int .i64 (l[i]'hi).size, .int .i64 (l[i]'hi).items, .slice A9 (l[i]'hi).br.length c9] := by
 obtain ⟨g, off, cs, e, hg, hl, hc, hd⟩ := h.at_ (i := i) (by simpa using hi)
 rw [List.getElem_map] at hd
 obtain ⟨A2, c2, A3, c3, A4, c4, A9, c9, rfl, _⟩ := Nd.out.1 hd
 exact ⟨g, off, A2, c2, A3, c3, A4, c4, A9, c9, e, hg, ⟨hc 0 (by omega), hc 1 (by omega), hc 2 (by omega), hc 3 (by omega), hc 4 (by omega), hc 5 (by omega), hc 6 (by omega), hc 7 (by omega), hc 8 (by omega), hc 9 (by omega)⟩, hd⟩
theorem fields_at {l : List Fd} {A : Option Addr} (h : RowD w S 9 (l.map Fd.enc) A) {i : Nat} (hi : i < l.length) : ∃ g off A1 c1 B3 d3 B4 d4, A = some ⟨g, off, none⟩ ∧ S g ∧
 (w.cell? ⟨g, off + i * 9, none⟩ = some (.string (l[i]'hi).name) ∧ w.cell? ⟨g, off + i * 9 + 1, none⟩ = some (.slice A1 (l[i]'hi).al.length c1) ∧ w.cell? ⟨g, off + i * 9 + 2, none⟩ = some (.int .i64 (l[i]'hi).ty) ∧ w.cell? ⟨g, off + i * 9 + 3, none⟩ = some (.bool (l[i]'hi).has) ∧
  w.cell? ⟨g, off + i * 9 + 4, none⟩ = some (.int .i64 (l[i]'hi).df.k) ∧ w.cell? ⟨g, off + i * 9 + 5, none⟩ = some (.int .i64 (l[i]'hi).df.n) ∧ w.cell? ⟨g, off + i * 9 + 6, none⟩ = some (.string (l[i]'hi).df.t) ∧
  w.cell? ⟨g, off + i * 9 + 7, none⟩ = some (.slice B3 (l[i]'hi).df.its.length d3) ∧ w.cell? ⟨g, off + i * 9 + 8, none⟩ = some (.slice B4 (l[i]'hi).df.ks.length d4)) ∧
 Len (l[i]'hi).al.length c1 ∧ FlS w S A1 ((l[i]'hi).al.map Value.string) ∧ TreeS w S (l[i]'hi).df [.int .i64 (l[i]'hi).df.k, .int .i64 (l[i]'hi).df.n, .string (l[i]'hi).df.t, .slice B3 (l[i]'hi).df.its.length d3, .slice B4 (l[i]'hi).df.ks.length d4] := by
 obtain ⟨g, off, cs, e, hg, hl, hc, hd⟩ := h.at_ (i := i) (by simpa using hi)
 rw [List.getElem_map] at hd
 obtain ⟨A1, c1, B3, d3, B4, d4, rfl, h1, h2, h3⟩ := Fd.out.1 hd
 exact ⟨g, off, A1, c1, B3, d3, B4, d4, e, hg, ⟨hc 0 (by omega), hc 1 (by omega), hc 2 (by omega), hc 3 (by omega), hc 4 (by omega), hc 5 (by omega), hc 6 (by omega), hc 7 (by omega), hc 8 (by omega)⟩, h1, h2, h3⟩
theorem ints_at {l : List Int} {A : Option Addr} (h : RowD w S 1 (l.map (D.i .i64)) A) {i : Nat} (hi : i < l.length) : ∃ g off, A = some ⟨g, off, none⟩ ∧ S g ∧ w.cell? ⟨g, off + i, none⟩ = some (.int .i64 (l[i]'hi)) := by
 obtain ⟨g, off, cs, e, hg, hl, hc, hd⟩ := h.at_ (i := i) (by simpa using hi)
 rw [List.getElem_map] at hd
 rw [lies_i.1 hd] at hc
 have := hc 0 (by omega)
 rw [Nat.mul_one, Nat.add_zero] at this
 exact ⟨g, off, e, hg, this⟩
end
end Go.Proofs.YtpmgjpchpmkklaaGreatDoor
namespace Go.Proofs.YtpmgjpchpmkklaaGreatDoor
open Go.ChangeShapes Go.WideShapes Go.ChangeAt Go.RowKit Mem
mutual
/-- Numbers of 64 bits. -/
def J.rng : J → Prop
 | .mk _ n _ its _ => -9223372036854775808 ≤ n ∧ n ≤ 9223372036854775807 ∧ J.rngs its
def J.rngs : List J → Prop
 | [] => True
 | j :: r => J.rng j ∧ J.rngs r
end
theorem J.rngs_nil : J.rngs [] := by unfold J.rngs; trivial
variable {H : Type} {enc : TypeId × Value → H} {w : World} {sp : Nat → Bool} {held : Bool}
def fieldsOf (P : Program) (t : TypeId) : Option (Array (Nat × TypeId)) := match P.underlying t with
 | some (.struct fs) => some (fs.map fun f => (f.offset, f.type))
 | _ => none
section
variable {P : Program}
theorem typed_int {d : D} {t : TypeId} {k : IntKind} (h : Typed P d t) (hu : P.underlying t = some (.int k)) : ∃ n, d = .i k n ∧ (Lit.int k n).wf = true := by
 cases d with
 | i k' n =>
  unfold Typed at h
  rw [hu] at h
  obtain ⟨h1, h2⟩ := h
  simp only [Option.some.injEq] at h1
  injection h1 with h1
  subst h1
  exact ⟨n, rfl, h2⟩
 | b x => unfold Typed at h; rw [hu] at h; cases h
 | s x => unfold Typed at h; rw [hu] at h; cases h
 | ag fs => unfold Typed at h; obtain ⟨_, h, _⟩ := h; rw [hu] at h; cases h
 | sl n l => unfold Typed at h; obtain ⟨_, h, _⟩ := h; rw [hu] at h; cases h
theorem typed_bool {d : D} {t : TypeId} (h : Typed P d t) (hu : P.underlying t = some .bool) : ∃ x, d = .b x := by
 cases d with
 | i k' n => unfold Typed at h; rw [hu] at h; cases h.1
 | b x => exact ⟨x, rfl⟩
 | s x => unfold Typed at h; rw [hu] at h; cases h
 | ag fs => unfold Typed at h; obtain ⟨_, h, _⟩ := h; rw [hu] at h; cases h
 | sl n l => unfold Typed at h; obtain ⟨_, h, _⟩ := h; rw [hu] at h; cases h
theorem typed_str {d : D} {t : TypeId} (h : Typed P d t) (hu : P.underlying t = some .string) : ∃ x, d = .s x := by
 cases d with
 | i k' n => unfold Typed at h; rw [hu] at h; cases h.1
 | b x => unfold Typed at h; rw [hu] at h; cases h
 | s x => exact ⟨x, rfl⟩
 | ag fs => unfold Typed at h; obtain ⟨_, h, _⟩ := h; rw [hu] at h; cases h
 | sl n l => unfold Typed at h; obtain ⟨_, h, _⟩ := h; rw [hu] at h; cases h
theorem typed_slice {d : D} {t e : TypeId} (h : Typed P d t) (hu : P.underlying t = some (.slice e)) : ∃ l, d = .sl (P.cellsOf e) l ∧ TypedR P l e := by
 cases d with
 | i k' n => unfold Typed at h; rw [hu] at h; cases h.1
 | b x => unfold Typed at h; rw [hu] at h; cases h
 | s x => unfold Typed at h; rw [hu] at h; cases h
 | ag fs => unfold Typed at h; obtain ⟨_, h, _⟩ := h; rw [hu] at h; cases h
 | sl n l =>
  unfold Typed at h
  obtain ⟨e', h1, h2, h3⟩ := h
  rw [hu] at h1
  simp only [Option.some.injEq] at h1
  injection h1 with h1
  subst h1; subst h2
  exact ⟨l, rfl, h3⟩
theorem typed_struct {d : D} {t : TypeId} {ts : List TypeId} (h : Typed P d t) (hu : (fieldsOf P t).map (fun L => L.toList.map (·.2)) = some ts) : ∃ ds, d = .ag ds ∧ TypedA P ds ts := by
 unfold fieldsOf at hu
 cases d with
 | i k' n => unfold Typed at h; rw [h.1] at hu; cases hu
 | b x => unfold Typed at h; rw [h] at hu; cases hu
 | s x => unfold Typed at h; rw [h] at hu; cases hu
 | ag ds =>
  unfold Typed at h
  obtain ⟨fs, h1, h2⟩ := h
  rw [h1] at hu
  simp only [Option.map_some, Array.toList_map, List.map_map, Option.some.injEq] at hu
  refine ⟨ds, rfl, ?_⟩
  rw [← hu]
  exact h2
 | sl n l => unfold Typed at h; obtain ⟨_, h, _⟩ := h; rw [h] at hu; cases hu
theorem typedA_cons {ds : List D} {t : TypeId} {q : List TypeId} (h : TypedA P ds (t :: q)) : ∃ d r, ds = d :: r ∧ Typed P d t ∧ TypedA P r q := by
 cases ds with
 | nil => unfold TypedA at h; cases h
 | cons d r =>
  unfold TypedA at h
  obtain ⟨t', q', e, h1, h2⟩ := h
  injection e with e1 e2
  subst e1; subst e2
  exact ⟨d, r, rfl, h1, h2⟩
theorem typedA_nil {ds : List D} (h : TypedA P ds []) : ds = [] := by
 cases ds with
 | nil => rfl
 | cons d r => unfold TypedA at h; obtain ⟨t', q', e, _⟩ := h; cases e
theorem typedR_map {α : Type} {Q : α → Prop} {f : α → D} {t : TypeId} : ∀ {l : List D}, (∀ d ∈ l, Typed P d t → ∃ x, d = f x ∧ Q x) → TypedR P l t → ∃ xs : List α, l = xs.map f ∧ ∀ x ∈ xs, Q x
 | [], _, _ => ⟨[], rfl, fun _ h => by cases h⟩
 | d :: r, hf, h => by
  unfold TypedR at h
  obtain ⟨x, rfl, hx⟩ := hf d (by simp) h.1
  obtain ⟨xs, rfl, hq⟩ := typedR_map (fun d hd => hf d (by simp [hd])) h.2
  refine ⟨x :: xs, rfl, fun y hy => ?_⟩
  rcases List.mem_cons.1 hy with e | e
  · subst e; exact hx
  · exact hq y e
end
theorem rngs_of {l : List J} (h : ∀ j ∈ l, j.rng) : J.rngs l := by
 induction l with
 | nil => exact J.rngs_nil
 | cons x r ih => unfold J.rngs; exact ⟨h x (by simp), ih fun j hj => h j (by simp [hj])⟩
def I64 (n : Int) : Prop := -9223372036854775808 ≤ n ∧ n ≤ 9223372036854775807
def Fd.rng (f : Fd) : Prop := I64 f.ty ∧ f.df.rng
def Nd.rng (n : Nd) : Prop := I64 n.k ∧ I64 n.size ∧ I64 n.items ∧ (∀ b ∈ n.br, I64 b) ∧ ∀ f ∈ n.fs, f.rng
def Sc.rng (s : Sc) : Prop := I64 s.root ∧ ∀ n ∈ s.nodes, n.rng
theorem strs_typed {d : D} {t : TypeId} (h : Typed Tryz.prog d t) (hu : Tryz.prog.underlying t = some (.slice 9)) : ∃ l : List ByteArray, d = .sl 1 (l.map D.s) := by
 obtain ⟨l, rfl, hl⟩ := typed_slice h hu
 obtain ⟨xs, rfl, _⟩ := typedR_map (Q := fun _ => True) (f := D.s) (fun d _ hd => by
  obtain ⟨x, rfl⟩ := typed_str hd strT
  exact ⟨x, rfl, trivial⟩) hl
 exact ⟨xs, by rw [show Tryz.prog.cellsOf 9 = 1 by kernel_rfl]⟩
theorem json_typed : ∀ (N : Nat) (d : D), SizeOf.sizeOf d ≤ N → Typed Tryz.prog d 49 → ∃ j : J, d = j.enc ∧ j.rng
 | 0, d, h, _ => by cases d <;> simp at h
 | N + 1, d, hN, h => by
  obtain ⟨ds, rfl, ha⟩ := typed_struct (ts := [3, 2, 9, 47, 28]) h (by kernel_rfl)
  obtain ⟨d0, r, rfl, h0, ha⟩ := typedA_cons ha
  obtain ⟨d1, r, rfl, h1, ha⟩ := typedA_cons ha
  obtain ⟨d2, r, rfl, h2, ha⟩ := typedA_cons ha
  obtain ⟨d3, r, rfl, h3, ha⟩ := typedA_cons ha
  obtain ⟨d4, r, rfl, h4, ha⟩ := typedA_cons ha
  obtain rfl := typedA_nil ha
  obtain ⟨k, rfl, _⟩ := typed_int h0 (by kernel_rfl : Tryz.prog.underlying 3 = some (.int .i64))
  obtain ⟨n, rfl, hn⟩ := typed_int h1 (by kernel_rfl : Tryz.prog.underlying 2 = some (.int .i64))
  obtain ⟨t, rfl⟩ := typed_str h2 strT
  obtain ⟨l, rfl, hl⟩ := typed_slice h3 (by kernel_rfl : Tryz.prog.underlying 47 = some (.slice 49))
  obtain ⟨ks, rfl⟩ := strs_typed h4 (by kernel_rfl)
  obtain ⟨its, rfl, hr⟩ := typedR_map (Q := J.rng) (f := J.enc) (fun d hd ht => json_typed N d (by
   have := List.sizeOf_lt_of_mem hd
   simp only [D.ag.sizeOf_spec, D.sl.sizeOf_spec, List.cons.sizeOf_spec] at hN
   omega) ht) hl
  refine ⟨.mk k n t its ks, ?_, ?_⟩
  · unfold J.enc
    rw [show Tryz.prog.cellsOf 49 = 5 by kernel_rfl, J.encs_map]
  · unfold J.rng
    have := fit_i64 hn
    exact ⟨this.1, this.2, rngs_of hr⟩
theorem field_typed {d : D} (h : Typed Tryz.prog d 51) : ∃ f : Fd, d = f.enc ∧ f.rng := by
 obtain ⟨ds, rfl, ha⟩ := typed_struct (ts := [9, 28, 3, 4, 49]) h (by kernel_rfl)
 obtain ⟨d0, r, rfl, h0, ha⟩ := typedA_cons ha
 obtain ⟨d1, r, rfl, h1, ha⟩ := typedA_cons ha
 obtain ⟨d2, r, rfl, h2, ha⟩ := typedA_cons ha
 obtain ⟨d3, r, rfl, h3, ha⟩ := typedA_cons ha
 obtain ⟨d4, r, rfl, h4, ha⟩ := typedA_cons ha
 obtain rfl := typedA_nil ha
 obtain ⟨nm, rfl⟩ := typed_str h0 strT
 obtain ⟨al, rfl⟩ := strs_typed h1 (by kernel_rfl)
 obtain ⟨ty, rfl, ht⟩ := typed_int h2 (by kernel_rfl : Tryz.prog.underlying 3 = some (.int .i64))
 obtain ⟨hs, rfl⟩ := typed_bool h3 (by kernel_rfl)
 obtain ⟨j, rfl, hj⟩ := json_typed _ _ (Nat.le_refl _) h4
 exact ⟨⟨nm, al, ty, hs, j⟩, rfl, fit_i64 ht, hj⟩
theorem node_typed {d : D} (h : Typed Tryz.prog d 42) : ∃ n : Nd, d = n.enc ∧ n.rng := by
 obtain ⟨ds, rfl, ha⟩ := typed_struct (ts := [3, 9, 28, 39, 28, 4, 9, 3, 3, 40]) h (by kernel_rfl)
 obtain ⟨d0, r, rfl, h0, ha⟩ := typedA_cons ha
 obtain ⟨d1, r, rfl, h1, ha⟩ := typedA_cons ha
 obtain ⟨d2, r, rfl, h2, ha⟩ := typedA_cons ha
 obtain ⟨d3, r, rfl, h3, ha⟩ := typedA_cons ha
 obtain ⟨d4, r, rfl, h4, ha⟩ := typedA_cons ha
 obtain ⟨d5, r, rfl, h5, ha⟩ := typedA_cons ha
 obtain ⟨d6, r, rfl, h6, ha⟩ := typedA_cons ha
 obtain ⟨d7, r, rfl, h7, ha⟩ := typedA_cons ha
 obtain ⟨d8, r, rfl, h8, ha⟩ := typedA_cons ha
 obtain ⟨d9, r, rfl, h9, ha⟩ := typedA_cons ha
 obtain rfl := typedA_nil ha
 have it : Tryz.prog.underlying 3 = some (.int .i64) := by kernel_rfl
 obtain ⟨k, rfl, hk⟩ := typed_int h0 it
 obtain ⟨nm, rfl⟩ := typed_str h1 strT
 obtain ⟨al, rfl⟩ := strs_typed h2 (by kernel_rfl)
 obtain ⟨l3, rfl, hl3⟩ := typed_slice h3 (by kernel_rfl : Tryz.prog.underlying 39 = some (.slice 51))
 obtain ⟨fs, rfl, hfs⟩ := typedR_map (Q := Fd.rng) (f := Fd.enc) (fun d _ hd => field_typed hd) hl3
 obtain ⟨sy, rfl⟩ := strs_typed h4 (by kernel_rfl)
 obtain ⟨hs, rfl⟩ := typed_bool h5 (by kernel_rfl)
 obtain ⟨df, rfl⟩ := typed_str h6 strT
 obtain ⟨sz, rfl, hsz⟩ := typed_int h7 it
 obtain ⟨im, rfl, him⟩ := typed_int h8 it
 obtain ⟨l9, rfl, hl9⟩ := typed_slice h9 (by kernel_rfl : Tryz.prog.underlying 40 = some (.slice 3))
 obtain ⟨br, rfl, hbr⟩ := typedR_map (Q := I64) (f := D.i .i64) (fun d _ hd => by
  obtain ⟨n, rfl, hn⟩ := typed_int hd it
  exact ⟨n, rfl, fit_i64 hn⟩) hl9
 refine ⟨⟨k, nm, al, fs, sy, hs, df, sz, im, br⟩, ?_, fit_i64 hk, fit_i64 hsz, fit_i64 him, hbr, hfs⟩
 unfold Nd.enc
 rw [show Tryz.prog.cellsOf 51 = 9 by kernel_rfl, show Tryz.prog.cellsOf 3 = 1 by kernel_rfl]
theorem schema_typed {d : D} (h : Typed Tryz.prog d 24) : ∃ s : Sc, d = s.enc ∧ s.rng := by
 obtain ⟨ds, rfl, ha⟩ := typed_struct (ts := [22, 3]) h (by kernel_rfl)
 obtain ⟨d0, r, rfl, h0, ha⟩ := typedA_cons ha
 obtain ⟨d1, r, rfl, h1, ha⟩ := typedA_cons ha
 obtain rfl := typedA_nil ha
 obtain ⟨l, rfl, hl⟩ := typed_slice h0 (by kernel_rfl : Tryz.prog.underlying 22 = some (.slice 42))
 obtain ⟨ns, rfl, hns⟩ := typedR_map (Q := Nd.rng) (f := Nd.enc) (fun d _ hd => node_typed hd) hl
 obtain ⟨rt, rfl, hrt⟩ := typed_int h1 (by kernel_rfl : Tryz.prog.underlying 3 = some (.int .i64))
 refine ⟨⟨ns, rt⟩, ?_, fit_i64 hrt, hns⟩
 unfold Sc.enc
 rw [show Tryz.prog.cellsOf 42 = 10 by kernel_rfl]
theorem schema_of_trod {H : Type} {enc : TypeId × Value → H} {w : World} {sp : Nat → Bool} {held : Bool} {fuel : Nat} {cs : List Value} {x : DataW H × List MemPlace} (h : DataW.trod enc Tryz.prog w 0 sp held fuel 24 cs = some x) :
 ∃ s : Sc, Lies w (· < w.heap.size) s.enc cs ∧ s.rng := by
 obtain ⟨d, h1, h2, _⟩ := lies_of_trod [24, 22, 3, 42, 9, 28, 39, 51, 4, 49, 2, 47, 40] (by kernel_rfl) fuel fuel (Nat.le_refl _) (by simp) h
 obtain ⟨s, rfl, hs⟩ := schema_typed h2
 exact ⟨s, h1, hs⟩
end Go.Proofs.YtpmgjpchpmkklaaGreatDoor
namespace Go.Proofs.YtpmgjpchpmkklaaGreatDoor.Mem
open Go Go.RowKit
section
variable {P : Program} (w : World) {t e : TypeId} {s : Nat} {z : Value} {y : Nat}
theorem run_appRs (hu : RecT P t e s z y) (base : Nat) (ty : TypeId) (v : Value) (n : Nat) (xs : List Value) (hown : OwnR w base e s v n xs) (B : Nat) (A : Option Addr) (m c : Nat) (news : List Value) (hl : news.length = m * s)
 (hr : Fl w B A news) (h1 : ∀ u ∈ news, u.oneCell' = true) (hlen : n + m ≤ 1000000000) (hbase : base ≤ w.heap.size) :
 ∃ v' w', (Builtin.append_ #[t, t] ty #[v, .slice A m c]).run P w = .ok v' w' ∧ OwnR w' base e s v' (n + m) (xs ++ news) ∧ Below base w w' := by
 obtain ⟨i, hi, hzz⟩ := Option.map_eq_some_iff.1 hu.info
 simp only [Prod.mk.injEq] at hzz
 obtain ⟨hz, hsz, hby⟩ := hzz
 have step : ∀ ad : Addr, (∀ j u, news[j]? = some u → w.cell? (ad.add j) = some u) → ∃ v' w', (Builtin.append_ #[t, t] ty #[v, .slice (some ad) m c]).run P w = .ok v' w' ∧ OwnR w' base e s v' (n + m) (xs ++ news) ∧ Below base w w' := by
  intro ad hc
  obtain ⟨v', w', h2, h3, h4, _⟩ := run_appR (P := P) w hu base ty v n xs hown ad m c news hl hc h1 hlen hbase
  exact ⟨v', w', h2, h3, h4⟩
 rcases hr with h | ⟨b, off, rfl, _, hc⟩
 · subst h
   have hm : m = 0 := by
    rcases Nat.eq_zero_or_pos m with h | h
    · exact h
    · have := Nat.mul_pos h hu.pos; simp at hl; omega
   subst hm
   cases A with
   | none =>
    refine ⟨v, w, ?_, by simpa using hown, Below.refl _ _⟩
    rcases hown.2 with ⟨rfl, rfl, hn⟩ | ⟨g, cap, cur, rfl, _, _, hnc, _⟩
    · simp [Builtin.append_, run_underlying hu.sl, sizeOf, typeInfo, hi, Builtin.lenOf, Builtin.firstCells]
    · simp [Builtin.append_, run_underlying hu.sl, sizeOf, typeInfo, hi, Builtin.lenOf, Builtin.firstCells, hnc, storeCells]
   | some ad => exact step ad (by intro j u hj; simp at hj)
 · refine step _ (fun j u hj => ?_)
   have hj' : j < news.length := (List.getElem?_eq_some_iff.1 hj).1
   rw [add_plain, hc j hj']
   exact hj
theorem wpList_appRs (hu : RecT P t e s z y) {ops : Array Oper} {rest : List Oper} {o : Oper} {a : Act} {Q : Exit → Act → World → Prop} (hgd : o.guard = none) (sO x : Operand)
 (ho : o.op = .call { callee := .builtin .append, args := #[sO, x], argTypes := #[t, t] })
 (base : Nat) (v : Value) (n : Nat) (xs : List Value) (hs : a.eval sO = v) (hown : OwnR w base e s v n xs) (B : Nat) (A : Option Addr) (m c : Nat) (news : List Value) (hx : a.eval x = .slice A m c) (hl : news.length = m * s)
 (hr : Fl w B A news) (h1 : ∀ u ∈ news, u.oneCell' = true) (hlen : n + m ≤ 1000000000) (hbase : base ≤ w.heap.size)
 (h : ∀ v' w', OwnR w' base e s v' (n + m) (xs ++ news) → Below base w w' → wpList P ops Q rest (a.put o.dst v') w') : wpList P ops Q (o :: rest) a w :=
 wpList_plain hgd fun _ hK => by
  obtain ⟨v', w', hrun, h2, h3⟩ := run_appRs (P := P) w hu base o.type v n xs hown B A m c news hl hr h1 hlen hbase
  unfold Oper.wp execOp
  simp only [ho, resolve, invoke, builtin, Sem.run_bind, Sem.run_pure, Result.andThen_ok, List.map_toArray, List.map_cons, List.map_nil, hs, hx, hrun]
  exact hK _ _ (h v' w' h2 h3)
end
end Go.Proofs.YtpmgjpchpmkklaaGreatDoor.Mem
namespace Go.Proofs.YtpmgjpchpmkklaaGreatDoor
open Go.RowKit Mem
theorem own_new {w : World} {base : Nat} {e : TypeId} {s : Nat} {v : Value} {n : Nat} {xs : List Value} (h : OwnR w base e s v n xs) : ∃ A c, v = .slice A n c ∧ n ≤ c ∧ FlS w (fun b => base ≤ b ∧ b < w.heap.size) A xs := by
 obtain ⟨A, c, rfl, hc, hf⟩ := h.fl
 refine ⟨A, c, rfl, hc, ?_⟩
 rcases hf with hf | ⟨b, off, rfl, hb, hf⟩
 · exact .inl hf
 · exact .inr ⟨b, off, rfl, ⟨(h.base_le (g := b) rfl).1, hb⟩, hf⟩
theorem row_of {α : Type} {w : World} {S : Nat → Prop} (d : α → D) (v : α → Value) (hd : ∀ x, Lies w S (d x) [v x]) {l : List α} {A : Option Addr} (h : FlS w S A (l.map v)) : RowD w S 1 (l.map d) A := by
 rcases l with _ | ⟨x0, r⟩
 · exact RowD.nil_ _ _ _ _
 · rcases h with h | ⟨g, off, rfl, hg, hc⟩
   · simp at h
   · have := RowD.of (w := w) (S := S) (n := 1) (g := g) (off := off) hg (x0 :: r).length (fun i => d ((x0 :: r).getD i x0)) (fun i => [v ((x0 :: r).getD i x0)]) (fun i hi => by
      refine ⟨rfl, fun j hj => ?_, hd _⟩
      obtain rfl : j = 0 := by omega
      rw [Nat.mul_one, Nat.add_zero, hc i (by simpa using hi), List.getElem?_map, List.getElem?_eq_getElem hi]
      simp [List.getD, List.getElem?_eq_getElem hi])
     have e : (List.range (x0 :: r).length).map (fun i => d ((x0 :: r).getD i x0)) = (x0 :: r).map d := by
      apply List.ext_getElem
      · simp
      · intro i h1 h2
        have hi : i < (x0 :: r).length := by simpa using h1
        rw [List.getElem_map, List.getElem_map, List.getElem_range, List.getD, List.getElem?_eq_getElem hi]
        rfl
     rw [e] at this
     exact this
theorem row_ints {w : World} {S : Nat → Prop} {l : List Int} {A : Option Addr} (h : FlS w S A (l.map (Value.int .i64))) : RowD w S 1 (l.map (D.i .i64)) A := row_of (D.i .i64) (Value.int .i64) (fun _ => lies_i.2 rfl) h
theorem ints_fl {w : World} {S : Nat → Prop} {l : List Int} {A : Option Addr} (h : RowD w S 1 (l.map (D.i .i64)) A) : FlS w S A (l.map (Value.int .i64)) := by
 rcases l with _ | ⟨x0, r⟩
 · exact .inl rfl
 · obtain ⟨g, off, rfl, hg, _⟩ := ints_at h (i := 0) (by simp)
   refine .inr ⟨g, off, rfl, hg, fun k hk => ?_⟩
   have hk' : k < (x0 :: r).length := by simpa using hk
   obtain ⟨g', off', e, _, hc⟩ := ints_at h hk'
   simp only [Option.some.injEq, Addr.mk.injEq, and_true] at e
   obtain ⟨rfl, rfl⟩ := e
   rw [hc, List.getElem?_map, List.getElem?_eq_getElem hk']
   rfl
theorem fls_fl {w : World} {S : Nat → Prop} {B : Nat} {A : Option Addr} {xs : List Value} (h : FlS w S A xs) (hS : ∀ b, S b → b < B) : Fl w B A xs := by
 rcases h with h | ⟨g, off, rfl, hg, hc⟩
 · exact .inl h
 · exact .inr ⟨g, off, rfl, hS g hg, hc⟩
end Go.Proofs.YtpmgjpchpmkklaaGreatDoor
namespace Go.Proofs.YtpmgjpchpmkklaaGreatDoor.Mem
open Go Go.RowKit
section
variable {P : Program} (w : World) {t e : TypeId} {s : Nat} {z : Value} {y : Nat}
theorem own_litR (e : TypeId) (s : Nat) {base : Nat} (hb : base ≤ w.heap.size) : OwnR (w.alloc (.cells #[] e)) base e s (.slice (some ⟨w.heap.size, 0, none⟩) 0 0) 0 [] :=
 ⟨by simp, .inr ⟨w.heap.size, 0, #[], rfl, hb, heap_alloc_new w _, Nat.le_refl _, Nat.zero_le _, by simp, by simp⟩⟩
theorem wpList_mkR0 (hu : RecT P t e s z y) {ops : Array Oper} {rest : List Oper} {o : Oper} {a : Act} {Q : Exit → Act → World → Prop} (hgd : o.guard = none) (l c : Operand)
 (ho : o.op = .makeSlice t l c) (base : Nat) (C : Int) (n : Nat) (hl : a.eval l = .int .i64 0) (hc : a.eval c = .int .i64 C) (hC : C = (n : Int)) (hn : n ≤ 1000000000) (hbase : base ≤ w.heap.size)
 (h : ∀ v' w', OwnR w' base e s v' 0 [] → Below base w w' → wpList P ops Q rest (a.put o.dst v') w') : wpList P ops Q (o :: rest) a w := by
 obtain ⟨i, hi, hz, hs, hy⟩ := info_parts hu.info
 refine wpList_make_own w hgd l c t ho base e i z s hu.sl hi hz hs .i64 .i64 C n hl hc hC ?_ (by unfold maxLen; omega) hbase fun w' r1 r2 => h _ w' r1 ((Below.refl _ _).grown r2 hbase (fun _ h => by simp at h))
 rw [hy]
 have := Nat.mul_le_mul hu.by_ hn
 omega
end
end Go.Proofs.YtpmgjpchpmkklaaGreatDoor.Mem
namespace Go.Proofs.YtpmgjpchpmkklaaGreatDoor
open Go.ChangeShapes Go.WideShapes Go.ChangeAt Go.RowKit Mem
theorem intT : RecT Tryz.prog 40 3 1 (.int .i64 0) 8 := ⟨by kernel_rfl, by kernel_rfl, rfl, by decide, by decide⟩
theorem textT : RecT Tryz.prog 28 9 1 (.string ⟨#[]⟩) 16 := ⟨by kernel_rfl, by kernel_rfl, rfl, by decide, by decide⟩
def KidsA (l : List Int) (w : World) (e : Ending) (w' : World) : Prop :=
 ∃ A c, e = .returned (.slice A l.length c) ∧ Len l.length c ∧ RowD w' (fun b => w.heap.size ≤ b ∧ b < w'.heap.size) 1 (l.map (D.i .i64)) A ∧ Below w.heap.size w w'
theorem kids_ret {l : List Int} {n : Nat} {base : Nat} {v : Value} {w w' : World} {xs : List Value} (h : OwnR w' base 3 1 v n xs) (hb : w.heap.size ≤ base) (hx : xs = l.map (Value.int .i64)) (hn : n = l.length) (hl : l.length ≤ 1000000000) (bl : Below w.heap.size w w') :
 KidsA l w (.returned v) w' := by
 obtain ⟨A, c, rfl, hc, hf⟩ := own_new h
 subst hx hn
 refine ⟨A, c, rfl, ⟨hc, by unfold maxLen; omega⟩, row_ints ?_, bl⟩
 rcases hf with hf | ⟨g, o, e, ⟨h1, h2⟩, h3⟩
 · exact .inl hf
 · exact .inr ⟨g, o, e, ⟨Nat.le_trans hb h1, h2⟩, h3⟩
end Go.Proofs.YtpmgjpchpmkklaaGreatDoor
namespace Go.Proofs.YtpmgjpchpmkklaaGreatDoor
open Go.RowKit Mem
def ElsS (w : World) (S : Nat → Prop) (s : Nat) : List D → List Value → Prop
 | [], xs => xs = []
 | d :: r, xs => ∃ c1 c2, xs = c1 ++ c2 ∧ c1.length = s ∧ Lies w S d c1 ∧ ElsS w S s r c2
section
variable {w w' : World} {S S' : Nat → Prop} {s : Nat}
theorem ElsS.keep (hk : ∀ p : Addr, S p.block → w'.cell? p = w.cell? p) (hS : ∀ g, S g → S' g) : ∀ {ds : List D} {xs : List Value}, ElsS w S s ds xs → ElsS w' S' s ds xs
 | [], _, h => h
 | _ :: _, _, ⟨c1, c2, e, h1, h2, h3⟩ => ⟨c1, c2, e, h1, h2.keep hk hS, ElsS.keep hk hS h3⟩
theorem ElsS.snoc {d : D} {c : List Value} (hl : c.length = s) (hd : Lies w S d c) : ∀ {ds : List D} {xs : List Value}, ElsS w S s ds xs → ElsS w S s (ds ++ [d]) (xs ++ c)
 | [], xs, h => by
  have e : xs = [] := h
  subst e
  exact ⟨c, [], by simp, hl, hd, rfl⟩
 | x :: r, xs, ⟨c1, c2, e, h1, h2, h3⟩ => ⟨c1, c2 ++ c, by rw [e, List.append_assoc], h1, h2, ElsS.snoc hl hd h3⟩
theorem ElsS.row {g : Nat} (hg : S g) : ∀ {ds : List D} {xs : List Value} {off : Nat}, ElsS w S s ds xs → (∀ k, k < xs.length → w.cell? ⟨g, off + k, none⟩ = xs[k]?) → RowD w S s ds (some ⟨g, off, none⟩)
 | [], _, _, _, _ => RowD.nil_ _ _ _ _
 | d :: r, xs, off, ⟨c1, c2, e, h1, h2, h3⟩, hc => by
  subst e
  unfold RowD
  refine ⟨g, off, c1, rfl, hg, h1, fun j hj => ?_, h2, ElsS.row hg h3 fun k hk => ?_⟩
  · rw [hc j (by rw [List.length_append]; omega), List.getElem?_append_left (by omega)]
  · rw [show off + s + k = off + (s + k) by omega, hc (s + k) (by rw [List.length_append]; omega), List.getElem?_append_right (by omega), show s + k - c1.length = k by omega]
end
def Unf (w : World) (S : Nat → Prop) : Prop := ∀ p : Addr, S p.block → w.frozen? p = false
def NewD (w : World) (l : Nat) (d : D) (cs : List Value) : Prop := ∃ S : Nat → Prop, (∀ b, S b → l ≤ b ∧ b < w.heap.size) ∧ Lies w S d cs ∧ Unf w S
def NewR (w : World) (l s : Nat) (ds : List D) (A : Option Addr) : Prop := ∃ S : Nat → Prop, (∀ b, S b → l ≤ b ∧ b < w.heap.size) ∧ RowD w S s ds A ∧ Unf w S
section
variable {w w' : World} {l l' s : Nat} {d : D} {cs : List Value} {ds : List D} {A : Option Addr}
theorem Unf.below {S : Nat → Prop} (h : Unf w S) (hS : ∀ b, S b → b < w.heap.size) (hb : Below w.heap.size w w') : Unf w' S := fun p hp => (hb.frozen (hS _ hp)).trans (h p hp)
theorem NewR.below (h : NewR w l s ds A) (hb : Below w.heap.size w w') : NewR w' l s ds A := by
 obtain ⟨S, h1, h2, h3⟩ := h
 exact ⟨S, fun b hs => ⟨(h1 b hs).1, Nat.lt_of_lt_of_le (h1 b hs).2 hb.size⟩, h2.keep (fun p hp => hb.cell (h1 _ hp).2) fun _ h => h, h3.below (fun b hs => (h1 b hs).2) hb⟩
theorem NewD.less (h : NewD w l d cs) (hl : l' ≤ l) : NewD w l' d cs := by
 obtain ⟨S, h1, h2⟩ := h
 exact ⟨S, fun b hs => ⟨Nat.le_trans hl (h1 b hs).1, (h1 b hs).2⟩, h2⟩
theorem NewR.less (h : NewR w l s ds A) (hl : l' ≤ l) : NewR w l' s ds A := by
 obtain ⟨S, h1, h2⟩ := h
 exact ⟨S, fun b hs => ⟨Nat.le_trans hl (h1 b hs).1, (h1 b hs).2⟩, h2⟩
theorem NewD.set (h : NewD w l d cs) {g i : Nat} (hg : g < l) (v : Value) : NewD (w.setCell ⟨g, i, none⟩ v) l d cs := by
 obtain ⟨S, h1, h2, h3⟩ := h
 refine ⟨S, fun b hs => ⟨(h1 b hs).1, by simp [World.setCell]; exact (h1 b hs).2⟩, h2.keep (fun p hp => World.cell?_setCell_other w _ _ _ (fun e => ?_)) fun _ h => h, fun p hp => (World.frozen?_setCell _ _ _ _).trans (h3 p hp)⟩
 subst e; have := (h1 _ hp).1; simp at this; omega
theorem NewR.set (h : NewR w l s ds A) {g i : Nat} (hg : g < l) (v : Value) : NewR (w.setCell ⟨g, i, none⟩ v) l s ds A := by
 obtain ⟨S, h1, h2, h3⟩ := h
 refine ⟨S, fun b hs => ⟨(h1 b hs).1, by simp [World.setCell]; exact (h1 b hs).2⟩, h2.keep (fun p hp => World.cell?_setCell_other w _ _ _ (fun e => ?_)) fun _ h => h, fun p hp => (World.frozen?_setCell _ _ _ _).trans (h3 p hp)⟩
 subst e; have := (h1 _ hp).1; simp at this; omega
theorem NewR.nil_ (w : World) (l s : Nat) (A : Option Addr) : NewR w l s [] A := ⟨fun _ => False, fun _ h => h.elim, RowD.nil_ _ _ _ _, fun _ h => h.elim⟩
end
def GatS (w : World) (base : Nat) (e : TypeId) (s : Nat) (v : Value) (ds : List D) : Prop :=
 ∃ (S : Nat → Prop) (xs : List Value), OwnR w base e s v ds.length xs ∧ ElsS w S s ds xs ∧ (∀ b, S b → base ≤ b ∧ b < w.heap.size ∧ some b ≠ v.ownBlock) ∧ Unf w S
section
variable {w w' : World} {base : Nat} {e : TypeId} {s : Nat} {v : Value} {ds : List D}
theorem GatS.none_ (w : World) (base : Nat) (e : TypeId) (s : Nat) : GatS w base e s (.slice none 0 0) [] :=
 ⟨fun _ => False, [], OwnR.none_ _ _ _ _, rfl, fun _ h => h.elim, fun _ h => h.elim⟩
theorem GatS.below (h : GatS w base e s v ds) (hb : Below w.heap.size w w') : GatS w' base e s v ds := by
 obtain ⟨S, xs, h1, h2, h3, h4⟩ := h
 exact ⟨S, xs, h1.below hb, h2.keep (fun p hp => hb.cell (h3 _ hp).2.1) fun _ h => h, fun b hs => ⟨(h3 b hs).1, Nat.lt_of_lt_of_le (h3 b hs).2.1 hb.size, (h3 b hs).2.2⟩, h4.below (fun b hs => (h3 b hs).2.1) hb⟩
theorem GatS.done (h : GatS w base e s v ds) : ∃ A c, v = .slice A ds.length c ∧ ds.length ≤ c ∧ NewR w base s ds A := by
 obtain ⟨S, xs, h1, h2, h3, h4⟩ := h
 obtain ⟨A, c, ev, hc, hf⟩ := h1.fl
 refine ⟨A, c, ev, hc, ?_⟩
 rcases h1.2 with ⟨e0, hn⟩ | ⟨g, cap, cur, e1, hg, hh, _⟩
 · obtain rfl : ds = [] := List.length_eq_zero_iff.1 hn
   exact NewR.nil_ _ _ _ _
 · have eA : A = some ⟨g, 0, none⟩ := by rw [ev] at e1; injection e1
   subst eA
   have hgs : g < w.heap.size := (Array.getElem?_eq_some_iff.1 hh).1
   refine ⟨fun b => S b ∨ b = g, fun b hs => ?_, ?_, fun p hp => ?_⟩
   · rcases hs with hs | rfl
     · exact ⟨(h3 b hs).1, (h3 b hs).2.1⟩
     · exact ⟨hg, hgs⟩
   · refine ElsS.row (.inr rfl) (h2.keep (fun _ _ => rfl) fun _ h => .inl h) fun k hk => ?_
     rcases hf with hf | ⟨b, off, e2, _, hf⟩
     · rw [hf] at hk; exact absurd hk (Nat.not_lt_zero _)
     · simp only [Option.some.injEq, Addr.mk.injEq, and_true] at e2
       obtain ⟨rfl, rfl⟩ := e2
       exact hf k hk
   · rcases hp with hp | hp
     · exact h4 p hp
     · unfold World.frozen?; rw [hp, hh]; simp
end
section
open Go
variable {P : Program} (w : World) {t e : TypeId} {s : Nat} {z : Value} {y : Nat}
theorem wpList_gat (hu : RecT P t e s z y) {ops : Array Oper} {rest : List Oper} {o : Oper} {a : Act} {Q : Exit → Act → World → Prop} (hgd : o.guard = none) (sO x : Operand)
 (ho : o.op = .call { callee := .builtin .append, args := #[sO, x], argTypes := #[t, t] })
 (base : Nat) (v : Value) (ds : List D) (hs : a.eval sO = v) (w0 : World) (hg : GatS w0 base e s v ds) (h0 : Below w0.heap.size w0 w) (c : Nat) (cs : Array Value) (hx : a.eval x = .slice (some ⟨w.heap.size, 0, none⟩) 1 c) (hl : cs.size = s)
 (h1 : ∀ u ∈ cs.toList, u.oneCell' = true) (hlen : ds.length + 1 ≤ 1000000000) (hbase : base ≤ w0.heap.size) (d : D) (hd : NewD w w0.heap.size d cs.toList)
 (h : ∀ v' w', GatS w' base e s v' (ds ++ [d]) → Below base w w' → wpList P ops Q rest (a.put o.dst v') w') : wpList P ops Q (o :: rest) a (w.alloc (.cells cs e)) := by
 obtain ⟨S, xs, k1, k2, k3, k4⟩ := hg.below h0
 obtain ⟨S1, m1, m2, m3⟩ := hd
 have ow : ∀ g, v.ownBlock = some g → g < w0.heap.size := fun g e0 => by
  obtain ⟨S', xs', q1, _⟩ := hg
  exact (q1.base_le e0.symm).2
 refine wpList_appRg1 w hu hgd _ rfl sO x ho base v ds.length xs hs k1 c cs hx hl h1 hlen (Nat.le_trans hbase h0.size) fun v' w' r1 r2 r3 r4 => h v' w' ⟨fun b => S b ∨ S1 b, xs ++ cs.toList, by simpa using r1, ?_, fun b hs => ?_, fun p hp => ?_⟩ r2
 · refine ElsS.snoc (by simpa using hl) (m2.keep (fun p hp => ?_) fun _ h => .inr h) (k2.keep (fun p hp => ?_) fun _ h => .inl h)
   · have a1 := m1 _ hp
     exact World.cell?_of_block (r3.block _ a1.2 (fun e0 => by have := ow _ e0.symm; omega))
   · have a1 := k3 _ hp
     exact World.cell?_of_block (r3.block _ a1.2.1 a1.2.2)
 · rcases hs with hs | hs
   · have a1 := k3 b hs
     exact ⟨a1.1, Nat.lt_of_lt_of_le a1.2.1 r3.size, ne_own a1.2.2 r4 (by omega)⟩
   · have a1 := m1 b hs
     exact ⟨Nat.le_trans hbase a1.1, Nat.lt_of_lt_of_le a1.2 r3.size, ne_own (fun e0 => by have := ow _ e0.symm; omega) r4 (by omega)⟩
 · rcases hp with hp | hp
   · have a1 := k3 _ hp
     exact (World.frozen?_of_block (r3.block _ a1.2.1 a1.2.2)).trans (k4 p hp)
   · have a1 := m1 _ hp
     exact (World.frozen?_of_block (r3.block _ a1.2 (fun e0 => by have := ow _ e0.symm; omega))).trans (m3 p hp)
end
end Go.Proofs.YtpmgjpchpmkklaaGreatDoor
namespace Go.Proofs.YtpmgjpchpmkklaaGreatDoor
open Go.ChangeShapes Go.WideShapes Go.ChangeAt Go.RowKit Mem
inductive V where
 | mk (k n bt : Int) (bs : List UInt8) (its : List V) (ks : List ByteArray)
namespace V
def k : V → Int | .mk k _ _ _ _ _ => k
def n : V → Int | .mk _ n _ _ _ _ => n
def bt : V → Int | .mk _ _ b _ _ _ => b
def bs : V → List UInt8 | .mk _ _ _ b _ _ => b
def its : V → List V | .mk _ _ _ _ i _ => i
def ks : V → List ByteArray | .mk _ _ _ _ _ k => k
theorem lt_its {v : V} {i : Nat} (h : i < v.its.length) : SizeOf.sizeOf (v.its[i]'h) < SizeOf.sizeOf v := by
 cases v with
 | mk k n b bs its ks =>
  have h' : i < its.length := h
  have := List.sizeOf_lt_of_mem (List.getElem_mem h')
  show SizeOf.sizeOf (its[i]'h') < _
  simp only [mk.sizeOf_spec]; omega
end V
def u8D (x : UInt8) : D := .i .u8 ((x.toNat : Nat) : Int)
mutual
def V.enc : V → D
 | .mk k n b bs its ks => .ag [.i .i64 k, .i .i64 n, .i .u64 b, .sl 1 (bs.map u8D), .sl 6 (V.encs its), .sl 1 (ks.map D.s)]
def V.encs : List V → List D
 | [] => []
 | j :: r => V.enc j :: V.encs r
end
theorem V.encs_map : ∀ (l : List V), V.encs l = l.map V.enc
 | [] => by unfold V.encs; rfl
 | j :: r => by unfold V.encs; rw [V.encs_map r]; rfl
theorem row_bys {w : World} {B : Nat} : ∀ {l : List UInt8} {A : Option Addr}, RowD w (· < B) 1 (l.map u8D) A → Bys w B A l
 | [], _, _ => .inl rfl
 | x :: r, A, h => by
  obtain ⟨g, off, cs, e, hg, _, _, _⟩ := h.at_ (i := 0) (by simp)
  refine .inr ⟨g, off, e, hg, fun k hk => ?_⟩
  obtain ⟨g', off', cs', e', _, hl, hc, hd⟩ := h.at_ (i := k) (by simpa using hk)
  rw [e] at e'
  simp only [Option.some.injEq, Addr.mk.injEq, and_true] at e'
  obtain ⟨rfl, rfl⟩ := e'
  have := hc 0 (by omega)
  rw [List.getElem_map] at hd
  rw [lies_i.1 hd] at this
  rw [Nat.mul_one, Nat.add_zero] at this
  rw [this, List.getD_eq_getElem?_getD, List.getElem?_eq_getElem hk]
  rfl
theorem row_cel {w : World} {S : Nat → Prop} : ∀ {l : List UInt8} {A : Option Addr}, RowD w S 1 (l.map u8D) A → FlS w S A (l.map cel)
 | [], _, _ => .inl rfl
 | x :: r, A, h => by
  obtain ⟨g, off, cs, e, hg, _, _, _⟩ := h.at_ (i := 0) (by simp)
  refine .inr ⟨g, off, e, hg, fun k hk => ?_⟩
  have hk' : k < (x :: r).length := by simpa using hk
  obtain ⟨g', off', cs', e', _, hl, hc, hd⟩ := h.at_ (i := k) (by simpa using hk')
  rw [e] at e'
  simp only [Option.some.injEq, Addr.mk.injEq, and_true] at e'
  obtain ⟨rfl, rfl⟩ := e'
  have := hc 0 (by omega)
  rw [List.getElem_map] at hd
  rw [lies_i.1 hd] at this
  rw [Nat.mul_one, Nat.add_zero] at this
  rw [this, List.getElem?_map, List.getElem?_eq_getElem hk']
  rfl
section
variable {w : World} {S : Nat → Prop}
theorem V.out {v : V} {cs : List Value} : Lies w S v.enc cs ↔ ∃ A3 c3 A4 c4 A5 c5, cs = [.int .i64 v.k, .int .i64 v.n, .int .u64 v.bt, .slice A3 v.bs.length c3, .slice A4 v.its.length c4, .slice A5 v.ks.length c5] ∧
 Len v.bs.length c3 ∧ RowD w S 1 (v.bs.map u8D) A3 ∧ Len v.its.length c4 ∧ RowD w S 6 (v.its.map V.enc) A4 ∧ Len v.ks.length c5 ∧ FlS w S A5 (v.ks.map Value.string) := by
 cases v with
 | mk k n b bs its ks =>
 simp only [V.k, V.n, V.bt, V.bs, V.its, V.ks]
 unfold V.enc
 rw [lies_ag]
 simp only [liesA_cons, liesA_nil, lies_i, lies_sl, List.length_map, row_strs, V.encs_map]
 constructor
 · rintro ⟨_, _, rfl, rfl, _, _, rfl, rfl, _, _, rfl, rfl, _, _, rfl, ⟨A3, c3, rfl, h1, h2, h3⟩, _, _, rfl, ⟨A4, c4, rfl, h4, h5, h6⟩, _, _, rfl, ⟨A5, c5, rfl, h7, h8, h9⟩, rfl⟩
   exact ⟨A3, c3, A4, c4, A5, c5, rfl, ⟨h1, h2⟩, h3, ⟨h4, h5⟩, h6, ⟨h7, h8⟩, h9⟩
 · rintro ⟨A3, c3, A4, c4, A5, c5, rfl, ⟨h1, h2⟩, h3, ⟨h4, h5⟩, h6, ⟨h7, h8⟩, h9⟩
   exact ⟨[_], _, rfl, rfl, [_], _, rfl, rfl, [_], _, rfl, rfl, [_], _, rfl, ⟨A3, c3, rfl, h1, h2, h3⟩, [_], _, rfl, ⟨A4, c4, rfl, h4, h5, h6⟩, [_], [], rfl, ⟨A5, c5, rfl, h7, h8, h9⟩, rfl⟩
theorem values_at {l : List V} {A : Option Addr} (h : RowD w S 6 (l.map V.enc) A) {i : Nat} (hi : i < l.length) : ∃ g off A3 c3 A4 c4 A5 c5, A = some ⟨g, off, none⟩ ∧ S g ∧
 (w.cell? ⟨g, off + i * 6, none⟩ = some (.int .i64 (l[i]'hi).k) ∧ w.cell? ⟨g, off + i * 6 + 1, none⟩ = some (.int .i64 (l[i]'hi).n) ∧ w.cell? ⟨g, off + i * 6 + 2, none⟩ = some (.int .u64 (l[i]'hi).bt) ∧
  w.cell? ⟨g, off + i * 6 + 3, none⟩ = some (.slice A3 (l[i]'hi).bs.length c3) ∧ w.cell? ⟨g, off + i * 6 + 4, none⟩ = some (.slice A4 (l[i]'hi).its.length c4) ∧ w.cell? ⟨g, off + i * 6 + 5, none⟩ = some (.slice A5 (l[i]'hi).ks.length c5)) ∧
 Lies w S (l[i]'hi).enc [.int .i64 (l[i]'hi).k, .int .i64 (l[i]'hi).n, .int .u64 (l[i]'hi).bt, .slice A3 (l[i]'hi).bs.length c3, .slice A4 (l[i]'hi).its.length c4, .slice A5 (l[i]'hi).ks.length c5] := by
 obtain ⟨g, off, cs, e, hg, hl, hc, hd⟩ := h.at_ (i := i) (by simpa using hi)
 rw [List.getElem_map] at hd
 obtain ⟨A3, c3, A4, c4, A5, c5, rfl, _⟩ := V.out.1 hd
 exact ⟨g, off, A3, c3, A4, c4, A5, c5, e, hg, ⟨hc 0 (by omega), hc 1 (by omega), hc 2 (by omega), hc 3 (by omega), hc 4 (by omega), hc 5 (by omega)⟩, hd⟩
end
mutual
/-- Numbers of 64 bits. -/
def V.rng : V → Prop
 | .mk k n b _ its _ => I64 k ∧ I64 n ∧ (0 ≤ b ∧ b ≤ 18446744073709551615) ∧ V.rngs its
def V.rngs : List V → Prop
 | [] => True
 | j :: r => V.rng j ∧ V.rngs r
end
theorem vrngs_of {l : List V} (h : ∀ j ∈ l, j.rng) : V.rngs l := by
 induction l with
 | nil => unfold V.rngs; trivial
 | cons x r ih => unfold V.rngs; exact ⟨h x (by simp), ih fun j hj => h j (by simp [hj])⟩
theorem fit_u64 {a : Int} (h : (Lit.int .u64 a).wf = true) : 0 ≤ a ∧ a ≤ 18446744073709551615 := by
 simpa [Lit.wf, IntKind.min, IntKind.max, IntKind.signed, IntKind.bits] using h
theorem fit_u8 {a : Int} (h : (Lit.int .u8 a).wf = true) : 0 ≤ a ∧ a ≤ 255 := by
 simpa [Lit.wf, IntKind.min, IntKind.max, IntKind.signed, IntKind.bits] using h
theorem value_typed : ∀ (N : Nat) (d : D), SizeOf.sizeOf d ≤ N → Typed Tryz.prog d 30 → ∃ v : V, d = v.enc ∧ v.rng
 | 0, d, h, _ => by cases d <;> simp at h
 | N + 1, d, hN, h => by
  obtain ⟨ds, rfl, ha⟩ := typed_struct (ts := [3, 2, 25, 26, 27, 28]) h (by kernel_rfl)
  obtain ⟨d0, r, rfl, h0, ha⟩ := typedA_cons ha
  obtain ⟨d1, r, rfl, h1, ha⟩ := typedA_cons ha
  obtain ⟨d2, r, rfl, h2, ha⟩ := typedA_cons ha
  obtain ⟨d3, r, rfl, h3, ha⟩ := typedA_cons ha
  obtain ⟨d4, r, rfl, h4, ha⟩ := typedA_cons ha
  obtain ⟨d5, r, rfl, h5, ha⟩ := typedA_cons ha
  obtain rfl := typedA_nil ha
  obtain ⟨k, rfl, hk⟩ := typed_int h0 (by kernel_rfl : Tryz.prog.underlying 3 = some (.int .i64))
  obtain ⟨n, rfl, hn⟩ := typed_int h1 (by kernel_rfl : Tryz.prog.underlying 2 = some (.int .i64))
  obtain ⟨b, rfl, hb⟩ := typed_int h2 (by kernel_rfl : Tryz.prog.underlying 25 = some (.int .u64))
  obtain ⟨l3, rfl, hl3⟩ := typed_slice h3 (by kernel_rfl : Tryz.prog.underlying 26 = some (.slice 5))
  obtain ⟨bs, rfl, _⟩ := typedR_map (Q := fun _ => True) (f := u8D) (fun d _ hd => by
   obtain ⟨z, rfl, hz⟩ := typed_int hd (by kernel_rfl : Tryz.prog.underlying 5 = some (.int .u8))
   have hz := fit_u8 hz
   refine ⟨UInt8.ofNat z.toNat, ?_, trivial⟩
   unfold u8D
   rw [UInt8.toNat_ofNat_of_lt' (by show z.toNat < 256; omega), show ((z.toNat : Nat) : Int) = z by omega]) hl3
  obtain ⟨l, rfl, hl⟩ := typed_slice h4 (by kernel_rfl : Tryz.prog.underlying 27 = some (.slice 30))
  obtain ⟨ks, rfl⟩ := strs_typed h5 (by kernel_rfl)
  obtain ⟨its, rfl, hr⟩ := typedR_map (Q := V.rng) (f := V.enc) (fun d hd ht => value_typed N d (by
   have := List.sizeOf_lt_of_mem hd
   simp only [D.ag.sizeOf_spec, D.sl.sizeOf_spec, List.cons.sizeOf_spec] at hN
   omega) ht) hl
  refine ⟨.mk k n b bs its ks, ?_, ?_⟩
  · unfold V.enc
    rw [show Tryz.prog.cellsOf 30 = 6 by kernel_rfl, show Tryz.prog.cellsOf 5 = 1 by kernel_rfl, V.encs_map]
  · unfold V.rng
    exact ⟨fit_i64 hk, fit_i64 hn, fit_u64 hb, vrngs_of hr⟩
theorem value_of_trod {H : Type} {enc : TypeId × Value → H} {w : World} {sp : Nat → Bool} {held : Bool} {fuel : Nat} {cs : List Value} {x : DataW H × List MemPlace} (h : DataW.trod enc Tryz.prog w 0 sp held fuel 30 cs = some x) :
 ∃ v : V, Lies w (· < w.heap.size) v.enc cs ∧ v.rng := by
 obtain ⟨d, h1, h2, _⟩ := lies_of_trod [30, 3, 2, 25, 26, 5, 27, 28, 9] (by kernel_rfl) _ _ (Nat.le_refl _) (by simp) h
 obtain ⟨v, rfl, hv⟩ := value_typed _ _ (Nat.le_refl _) h2
 exact ⟨v, h1, hv⟩
end Go.Proofs.YtpmgjpchpmkklaaGreatDoor
namespace Go.Proofs.YtpmgjpchpmkklaaGreatDoor
def named (k : Int) : Bool := decide (k = 9 ∨ k = 10 ∨ k = 14)
def Nd.kids (n : Nd) : List Int := if n.k = 9 then n.fs.map Fd.ty else if n.k = 11 ∨ n.k = 12 then [n.items] else if n.k = 13 then n.br else []
def Sc.kind (s : Sc) (i : Int) : Int := if 0 ≤ i then ((s.nodes[i.toNat]?).map Nd.k).getD 0 else 0
def Sc.kidsAt (s : Sc) (i : Nat) : List Int := ((s.nodes[i]?).map Nd.kids).getD []
mutual
/-- From a node that is the next one, which one is the next then. -/
def met (s : Sc) : Nat → Nat → Option Nat
 | 0, _ => none
 | f + 1, at_ => if s.nodes.length ≤ at_ then none else metK s f (s.kidsAt at_) (at_ + 1)
/-- .. behind some kids. -/
def metK (s : Sc) : Nat → List Int → Nat → Option Nat
 | _, [], next => some next
 | f, k :: r, next => if k < 0 ∨ (next : Int) < k ∨ (k < (next : Int) ∧ named (s.kind k) = false) then none
  else if k = (next : Int) then (match met s f next with
   | none => none
   | some nx => metK s f r nx)
  else metK s f r next
end
def Sc.ordered (s : Sc) : Prop := 1 ≤ s.nodes.length ∧ s.nodes.length ≤ 200 ∧ s.root = 0 ∧ met s 33 0 = some s.nodes.length
def Good (s : Sc) (a b : Nat) : Prop := (∀ j, a ≤ j → j < b → ∀ k ∈ s.kidsAt j, 0 ≤ k ∧ k < (b : Int) ∧ (k ≤ (j : Int) → named (s.kind k) = true)) ∧ ∀ i, a < i → i < b → ∃ j, a ≤ j ∧ j < i ∧ (i : Int) ∈ s.kidsAt j
mutual
theorem met_good (s : Sc) : ∀ (f a b : Nat), met s f a = some b → a < b ∧ b ≤ s.nodes.length ∧ Good s a b
 | 0, _, _, h => by unfold met at h; cases h
 | f + 1, a, b, h => by
  unfold met at h
  by_cases h0 : s.nodes.length ≤ a
  · rw [if_pos h0] at h; cases h
  · rw [if_neg h0] at h
    obtain ⟨h1, h2, h3, h4, h5⟩ := metK_good s f (s.kidsAt a) a (a + 1) b h (by omega) (by omega) (fun k hk => hk) (fun j h1 h2 => by omega) (fun i h1 h2 => by omega)
    refine ⟨by omega, h2, fun j hj hb k hk => ?_, h5⟩
    rcases Nat.eq_or_lt_of_le hj with e | e
    · subst e; exact h3 k hk
    · exact h4 j e hb k hk
/-- .. behind some kids of the node a: the nodes behind it, up to the next one, are good. -/
theorem metK_good (s : Sc) : ∀ (f : Nat) (l : List Int) (a next b : Nat), metK s f l next = some b → a < next → next ≤ s.nodes.length → (∀ k ∈ l, k ∈ s.kidsAt a) →
 (∀ j, a < j → j < next → ∀ k ∈ s.kidsAt j, 0 ≤ k ∧ k < (next : Int) ∧ (k ≤ (j : Int) → named (s.kind k) = true)) →
 (∀ i, a < i → i < next → ∃ j, a ≤ j ∧ j < i ∧ (i : Int) ∈ s.kidsAt j) →
 next ≤ b ∧ b ≤ s.nodes.length ∧ (∀ k ∈ l, 0 ≤ k ∧ k < (b : Int) ∧ (k ≤ (a : Int) → named (s.kind k) = true)) ∧
  (∀ j, a < j → j < b → ∀ k ∈ s.kidsAt j, 0 ≤ k ∧ k < (b : Int) ∧ (k ≤ (j : Int) → named (s.kind k) = true)) ∧
  (∀ i, a < i → i < b → ∃ j, a ≤ j ∧ j < i ∧ (i : Int) ∈ s.kidsAt j)
 | f, [], a, next, b, h, ha, hn, _, hg, hi => by
  unfold metK at h
  simp only [Option.some.injEq] at h
  subst h
  exact ⟨Nat.le_refl _, hn, fun k hk => by simp at hk, hg, hi⟩
 | f, k :: r, a, next, b, h, ha, hn, hl, hg, hi => by
  unfold metK at h
  by_cases h0 : k < 0 ∨ (next : Int) < k ∨ (k < (next : Int) ∧ named (s.kind k) = false)
  · rw [if_pos h0] at h; cases h
  · rw [if_neg h0] at h
    have hk0 : 0 ≤ k := by omega
    by_cases h1 : k = (next : Int)
    · rw [if_pos h1] at h
      rcases hm : met s f next with _ | nx
      · rw [hm] at h; cases h
      · rw [hm] at h
        obtain ⟨g1, g2, g3, g4⟩ := met_good s f next nx hm
        have step := metK_good s f r a nx b h (by omega) g2 (fun k hk => hl k (by simp [hk])) (fun j h1 h2 k hk => by
         rcases Nat.lt_or_ge j next with g | g
         · have := hg j h1 g k hk; exact ⟨this.1, by omega, this.2.2⟩
         · exact g3 j g h2 k hk) (fun i h3 h2 => by
         rcases Nat.lt_trichotomy i next with g | g | g
         · exact hi i h3 g
         · subst g
           exact ⟨a, Nat.le_refl _, ha, by rw [← h1]; exact hl k (by simp)⟩
         · obtain ⟨j, e1, e2, e3⟩ := g4 i g h2
           exact ⟨j, by omega, e2, e3⟩)
        obtain ⟨s1, s2, s3, s4, s5⟩ := step
        refine ⟨by omega, s2, fun q hq => ?_, s4, s5⟩
        rcases List.mem_cons.1 hq with e | e
        · subst e; exact ⟨hk0, by omega, fun hh => by omega⟩
        · exact s3 q e
    · rw [if_neg h1] at h
      obtain ⟨s1, s2, s3, s4, s5⟩ := metK_good s f r a next b h ha hn (fun k hk => hl k (by simp [hk])) hg hi
      refine ⟨s1, s2, fun q hq => ?_, s4, s5⟩
      rcases List.mem_cons.1 hq with e | e
      · subst e
        have nk : named (s.kind q) = true := by
         rcases hq : named (s.kind q) with _ | _
         · exact absurd (.inr (.inr ⟨by omega, hq⟩)) h0
         · rfl
        exact ⟨hk0, by omega, fun _ => nk⟩
      · exact s3 q e
end
theorem ordered_good {s : Sc} (h : s.ordered) : Good s 0 s.nodes.length := (met_good s _ _ _ h.2.2.2).2.2
end Go.Proofs.YtpmgjpchpmkklaaGreatDoor
