/- Joined by tools/bundle.py: Sch Row Mkr JTSame. -/
import Derived.OwnWalk
import Derived.Deep.RegionHeldLaw
import Derived.Test.YthogheglddfniaaGreatDoorW1
import Derived.Test.YthogheglddfniaaGreatDoorW2
import Derived.Test.YthogheglddfniaaGreatDoorW0
set_option maxRecDepth 100000
set_option maxHeartbeats 16000000
namespace Go.Proofs.YthogheglddfniaaGreatDoor
open Go.RowKit Mem
mutual
/-- A tree as a datum. -/
def J.enc : J → D
 | .mk k n t its ks => .ag [.i .i64 k, .i .i64 n, .s t, .sl 5 (J.encs its), .sl 1 (ks.map D.s)]
def J.encs : List J → List D
 | [] => []
 | j :: r => J.enc j :: J.encs r
end
theorem J.encs_map : ∀ (l : List J), J.encs l = l.map J.enc
 | [] => by unfold J.encs; rfl
 | j :: r => by unfold J.encs; rw [J.encs_map r]; rfl
theorem J.encs_len (l : List J) : (J.encs l).length = l.length := by rw [J.encs_map, List.length_map]
theorem row_strs {w : World} {S : Nat → Prop} : ∀ {l : List ByteArray} {A : Option Addr}, RowD w S 1 (l.map D.s) A ↔ FlS w S A (l.map Value.string)
 | [], A => ⟨fun _ => .inl rfl, fun _ => RowD.nil_ _ _ _ _⟩
 | t :: r, A => by
  constructor
  · intro h
    have one := fun i (hi : i < (t :: r).length) => h.at_ (i := i) (by simpa using hi)
    obtain ⟨g, off, cs, rfl, hg, _⟩ := one 0 (by simp)
    refine .inr ⟨g, off, rfl, hg, fun k hk => ?_⟩
    have hk' : k < (t :: r).length := by simpa using hk
    obtain ⟨g', off', cs', e, _, hl, hc, hd⟩ := one k hk'
    simp only [Option.some.injEq, Addr.mk.injEq, and_true] at e
    obtain ⟨rfl, rfl⟩ := e
    have := hc 0 (by omega)
    rw [List.getElem_map] at hd
    rw [lies_s.1 hd] at this
    rw [Nat.mul_one, Nat.add_zero] at this
    rw [this, List.getElem?_map, List.getElem?_eq_getElem hk']
    rfl
  · intro h
    rcases h with h | ⟨g, off, rfl, hg, hc⟩
    · simp at h
    · have := RowD.of (w := w) (S := S) (n := 1) (g := g) (off := off) hg (t :: r).length (fun i => D.s ((t :: r).getD i ⟨#[]⟩)) (fun i => [.string ((t :: r).getD i ⟨#[]⟩)]) (fun i hi => by
       refine ⟨rfl, fun j hj => ?_, lies_s.2 rfl⟩
       obtain rfl : j = 0 := by omega
       rw [Nat.mul_one, Nat.add_zero, hc i (by simpa using hi), List.getElem?_map, List.getElem?_eq_getElem hi]
       simp [List.getD, List.getElem?_eq_getElem hi])
      have e : (List.range (t :: r).length).map (fun i => D.s ((t :: r).getD i ⟨#[]⟩)) = (t :: r).map D.s := by
       apply List.ext_getElem
       · simp
       · intro i h1 h2
         have hi : i < (t :: r).length := by simpa using h1
         rw [List.getElem_map, List.getElem_map, List.getElem_range, List.getD, List.getElem?_eq_getElem hi]
         rfl
      rw [e] at this
      exact this
section
variable {w : World} {S : Nat → Prop}
mutual
theorem tree_lies : ∀ {j : J} {cs : List Value}, Lies w S j.enc cs ↔ TreeS w S j cs
 | .mk k n t its ks, cs => by
  unfold J.enc TreeS
  rw [lies_ag]
  simp only [liesA_cons, liesA_nil, lies_i, lies_s, lies_sl, J.encs_len, List.length_map]
  constructor
  · rintro ⟨_, _, rfl, rfl, _, _, rfl, rfl, _, _, rfl, rfl, _, _, rfl, ⟨A3, c3, rfl, h1, h2, h3⟩, _, _, rfl, ⟨A4, c4, rfl, h4, h5, h6⟩, rfl⟩
    exact ⟨A3, c3, A4, c4, rfl, ⟨h1, h2⟩, ⟨h4, h5⟩, rows_lies.1 h3, row_strs.1 h6⟩
  · rintro ⟨A3, c3, A4, c4, rfl, ⟨h1, h2⟩, ⟨h4, h5⟩, h3, h6⟩
    exact ⟨[_], _, rfl, rfl, [_], _, rfl, rfl, [_], _, rfl, rfl, [_], _, rfl, ⟨A3, c3, rfl, h1, h2, rows_lies.2 h3⟩, [_], [], rfl, ⟨A4, c4, rfl, h4, h5, row_strs.2 h6⟩, rfl⟩
theorem rows_lies : ∀ {l : List J} {A : Option Addr}, RowD w S 5 (J.encs l) A ↔ RowS w S l A
 | [], A => by unfold J.encs RowD RowS; exact Iff.rfl
 | j :: r, A => by
  unfold J.encs RowD RowS
  constructor
  · rintro ⟨g, off, cs, rfl, hg, hl, hc, h1, h2⟩
    exact ⟨g, off, cs, rfl, hg, hc, tree_lies.1 h1, rows_lies.1 h2⟩
  · rintro ⟨g, off, cs, rfl, hg, hc, h1, h2⟩
    exact ⟨g, off, cs, rfl, hg, h1.five, hc, tree_lies.2 h1, rows_lies.2 h2⟩
end
end
structure Fd where
 name : ByteArray
 al : List ByteArray
 ty : Int
 has : Bool
 df : J
structure Nd where
 k : Int
 name : ByteArray
 al : List ByteArray
 fs : List Fd
 sy : List ByteArray
 has : Bool
 df : ByteArray
 size : Int
 items : Int
 br : List Int
structure Sc where
 nodes : List Nd
 root : Int
def Fd.enc (f : Fd) : D := .ag [.s f.name, .sl 1 (f.al.map D.s), .i .i64 f.ty, .b f.has, f.df.enc]
def Nd.enc (n : Nd) : D := .ag [.i .i64 n.k, .s n.name, .sl 1 (n.al.map D.s), .sl 9 (n.fs.map Fd.enc), .sl 1 (n.sy.map D.s), .b n.has, .s n.df, .i .i64 n.size, .i .i64 n.items, .sl 1 (n.br.map (D.i .i64))]
def Sc.enc (s : Sc) : D := .ag [.sl 10 (s.nodes.map Nd.enc), .i .i64 s.root]
section
variable {w : World} {S : Nat → Prop}
def Len (n c : Nat) : Prop := n ≤ c ∧ n ≤ maxLen
theorem Fd.out {f : Fd} {cs : List Value} : Lies w S f.enc cs ↔ ∃ A1 c1 B3 d3 B4 d4, cs = [.string f.name, .slice A1 f.al.length c1, .int .i64 f.ty, .bool f.has, .int .i64 f.df.k, .int .i64 f.df.n, .string f.df.t, .slice B3 f.df.its.length d3, .slice B4 f.df.ks.length d4] ∧
 Len f.al.length c1 ∧ FlS w S A1 (f.al.map Value.string) ∧ TreeS w S f.df [.int .i64 f.df.k, .int .i64 f.df.n, .string f.df.t, .slice B3 f.df.its.length d3, .slice B4 f.df.ks.length d4] := by
 unfold Fd.enc
 rw [lies_ag]
 simp only [liesA_cons, liesA_nil, lies_i, lies_s, lies_b, lies_sl, List.length_map, tree_lies, row_strs]
 constructor
 · rintro ⟨_, _, rfl, rfl, _, _, rfl, ⟨A1, c1, rfl, h1, h2, h3⟩, _, _, rfl, rfl, _, _, rfl, rfl, cs, _, rfl, ht, rfl⟩
   obtain ⟨B3, d3, B4, d4, e, _⟩ := ht.out
   subst e
   exact ⟨A1, c1, B3, d3, B4, d4, rfl, ⟨h1, h2⟩, h3, ht⟩
 · rintro ⟨A1, c1, B3, d3, B4, d4, rfl, ⟨h1, h2⟩, h3, ht⟩
   exact ⟨[_], _, rfl, rfl, [_], _, rfl, ⟨A1, c1, rfl, h1, h2, h3⟩, [_], _, rfl, rfl, [_], _, rfl, rfl, _, [], rfl, ht, rfl⟩
theorem Nd.out {n : Nd} {cs : List Value} : Lies w S n.enc cs ↔ ∃ A2 c2 A3 c3 A4 c4 A9 c9, cs = [.int .i64 n.k, .string n.name, .slice A2 n.al.length c2, .slice A3 n.fs.length c3, .slice A4 n.sy.length c4, .bool n.has, .string n.df, .int .i64 n.size, .int .i64 n.items, .slice A9 n.br.length c9] ∧
 Len n.al.length c2 ∧ FlS w S A2 (n.al.map Value.string) ∧ Len n.fs.length c3 ∧ RowD w S 9 (n.fs.map Fd.enc) A3 ∧ Len n.sy.length c4 ∧ FlS w S A4 (n.sy.map Value.string) ∧ Len n.br.length c9 ∧ RowD w S 1 (n.br.map (D.i .i64)) A9 := by
 unfold Nd.enc
 rw [lies_ag]
 simp only [liesA_cons, liesA_nil, lies_i, lies_s, lies_b, lies_sl, List.length_map, row_strs]
 constructor
 · rintro ⟨_, _, rfl, rfl, _, _, rfl, rfl, _, _, rfl, ⟨A2, c2, rfl, h1, h2, h3⟩, _, _, rfl, ⟨A3, c3, rfl, h4, h5, h6⟩, _, _, rfl, ⟨A4, c4, rfl, h7, h8, h9⟩, _, _, rfl, rfl, _, _, rfl, rfl, _, _, rfl, rfl, _, _, rfl, rfl, _, _, rfl, ⟨A9, c9, rfl, ha, hb, hc⟩, rfl⟩
   exact ⟨A2, c2, A3, c3, A4, c4, A9, c9, rfl, ⟨h1, h2⟩, h3, ⟨h4, h5⟩, h6, ⟨h7, h8⟩, h9, ⟨ha, hb⟩, hc⟩
 · rintro ⟨A2, c2, A3, c3, A4, c4, A9, c9, rfl, ⟨h1, h2⟩, h3, ⟨h4, h5⟩, h6, ⟨h7, h8⟩, h9, ⟨ha, hb⟩, hc⟩
   exact ⟨[_], _, rfl, rfl, [_], _, rfl, rfl, [_], _, rfl, ⟨A2, c2, rfl, h1, h2, h3⟩, [_], _, rfl, ⟨A3, c3, rfl, h4, h5, h6⟩, [_], _, rfl, ⟨A4, c4, rfl, h7, h8, h9⟩, [_], _, rfl, rfl, [_], _, rfl, rfl, [_], _, rfl, rfl, [_], _, rfl, rfl, [_], [], rfl, ⟨A9, c9, rfl, ha, hb, hc⟩, rfl⟩
theorem Sc.out {s : Sc} {cs : List Value} : Lies w S s.enc cs ↔ ∃ A c, cs = [.slice A s.nodes.length c, .int .i64 s.root] ∧ Len s.nodes.length c ∧ RowD w S 10 (s.nodes.map Nd.enc) A := by
 unfold Sc.enc
 rw [lies_ag]
 simp only [liesA_cons, liesA_nil, lies_i, lies_sl, List.length_map]
 constructor
 · rintro ⟨_, _, rfl, ⟨A, c, rfl, h1, h2, h3⟩, _, _, rfl, rfl, rfl⟩
   exact ⟨A, c, rfl, ⟨h1, h2⟩, h3⟩
 · rintro ⟨A, c, rfl, ⟨h1, h2⟩, h3⟩
   exact ⟨[_], _, rfl, ⟨A, c, rfl, h1, h2, h3⟩, [_], [], rfl, rfl, rfl⟩
theorem nodes_at {l : List Nd} {A : Option Addr} (h : RowD w S 10 (l.map Nd.enc) A) {i : Nat} (hi : i < l.length) : ∃ g off A2 c2 A3 c3 A4 c4 A9 c9, A = some ⟨g, off, none⟩ ∧ S g ∧
 (w.cell? ⟨g, off + i * 10, none⟩ = some (.int .i64 (l[i]'hi).k) ∧ w.cell? ⟨g, off + i * 10 + 1, none⟩ = some (.string (l[i]'hi).name) ∧ w.cell? ⟨g, off + i * 10 + 2, none⟩ = some (.slice A2 (l[i]'hi).al.length c2) ∧
  w.cell? ⟨g, off + i * 10 + 3, none⟩ = some (.slice A3 (l[i]'hi).fs.length c3) ∧ w.cell? ⟨g, off + i * 10 + 4, none⟩ = some (.slice A4 (l[i]'hi).sy.length c4) ∧ w.cell? ⟨g, off + i * 10 + 5, none⟩ = some (.bool (l[i]'hi).has) ∧
  w.cell? ⟨g, off + i * 10 + 6, none⟩ = some (.string (l[i]'hi).df) ∧ w.cell? ⟨g, off + i * 10 + 7, none⟩ = some (.int .i64 (l[i]'hi).size) ∧ w.cell? ⟨g, off + i * 10 + 8, none⟩ = some (.int .i64 (l[i]'hi).items) ∧ w.cell? ⟨g, off + i * 10 + 9, none⟩ = some (.slice A9 (l[i]'hi).br.length c9)) ∧
 Lies w S (l[i]'hi).enc [.int .i64 (l[i]'hi).k, .string (l[i]'hi).name, .slice A2 (l[i]'hi).al.length c2, .slice A3 (l[i]'hi).fs.length c3, .slice A4 (l[i]'hi).sy.length c4, .bool (l[i]'hi).has, .string (l[i]'hi).df, .int .i64 (l[i]'hi).size, .int .i64 (l[i]'hi).items, .slice A9 (l[i]'hi).br.length c9] := by
 obtain ⟨g, off, cs, e, hg, hl, hc, hd⟩ := h.at_ (i := i) (by simpa using hi)
 rw [List.getElem_map] at hd
 obtain ⟨A2, c2, A3, c3, A4, c4, A9, c9, rfl, _⟩ := Nd.out.1 hd
 exact ⟨g, off, A2, c2, A3, c3, A4, c4, A9, c9, e, hg, ⟨hc 0 (by omega), hc 1 (by omega), hc 2 (by omega), hc 3 (by omega), hc 4 (by omega), hc 5 (by omega), hc 6 (by omega), hc 7 (by omega), hc 8 (by omega), hc 9 (by omega)⟩, hd⟩
theorem fields_at {l : List Fd} {A : Option Addr} (h : RowD w S 9 (l.map Fd.enc) A) {i : Nat} (hi : i < l.length) : ∃ g off A1 c1 B3 d3 B4 d4, A = some ⟨g, off, none⟩ ∧ S g ∧
 (w.cell? ⟨g, off + i * 9, none⟩ = some (.string (l[i]'hi).name) ∧ w.cell? ⟨g, off + i * 9 + 1, none⟩ = some (.slice A1 (l[i]'hi).al.length c1) ∧ w.cell? ⟨g, off + i * 9 + 2, none⟩ = some (.int .i64 (l[i]'hi).ty) ∧ w.cell? ⟨g, off + i * 9 + 3, none⟩ = some (.bool (l[i]'hi).has) ∧
  w.cell? ⟨g, off + i * 9 + 4, none⟩ = some (.int .i64 (l[i]'hi).df.k) ∧ w.cell? ⟨g, off + i * 9 + 5, none⟩ = some (.int .i64 (l[i]'hi).df.n) ∧ w.cell? ⟨g, off + i * 9 + 6, none⟩ = some (.string (l[i]'hi).df.t) ∧
  w.cell? ⟨g, off + i * 9 + 7, none⟩ = some (.slice B3 (l[i]'hi).df.its.length d3) ∧ w.cell? ⟨g, off + i * 9 + 8, none⟩ = some (.slice B4 (l[i]'hi).df.ks.length d4)) ∧
 Len (l[i]'hi).al.length c1 ∧ FlS w S A1 ((l[i]'hi).al.map Value.string) ∧ TreeS w S (l[i]'hi).df [.int .i64 (l[i]'hi).df.k, .int .i64 (l[i]'hi).df.n, .string (l[i]'hi).df.t, .slice B3 (l[i]'hi).df.its.length d3, .slice B4 (l[i]'hi).df.ks.length d4] := by
 obtain ⟨g, off, cs, e, hg, hl, hc, hd⟩ := h.at_ (i := i) (by simpa using hi)
 rw [List.getElem_map] at hd
 obtain ⟨A1, c1, B3, d3, B4, d4, rfl, h1, h2, h3⟩ := Fd.out.1 hd
 exact ⟨g, off, A1, c1, B3, d3, B4, d4, e, hg, ⟨hc 0 (by omega), hc 1 (by omega), hc 2 (by omega), hc 3 (by omega), hc 4 (by omega), hc 5 (by omega), hc 6 (by omega), hc 7 (by omega), hc 8 (by omega)⟩, h1, h2, h3⟩
theorem ints_at {l : List Int} {A : Option Addr} (h : RowD w S 1 (l.map (D.i .i64)) A) {i : Nat} (hi : i < l.length) : ∃ g off, A = some ⟨g, off, none⟩ ∧ S g ∧ w.cell? ⟨g, off + i, none⟩ = some (.int .i64 (l[i]'hi)) := by
 obtain ⟨g, off, cs, e, hg, hl, hc, hd⟩ := h.at_ (i := i) (by simpa using hi)
 rw [List.getElem_map] at hd
 rw [lies_i.1 hd] at hc
 have := hc 0 (by omega)
 rw [Nat.mul_one, Nat.add_zero] at this
 exact ⟨g, off, e, hg, this⟩
end
end Go.Proofs.YthogheglddfniaaGreatDoor
namespace Go.Proofs.YthogheglddfniaaGreatDoor.Mem
open Go Go.RowKit
section
variable {P : Program} (w : World) {t e : TypeId} {s : Nat} {z : Value} {y : Nat}
theorem run_appRs (hu : RecT P t e s z y) (base : Nat) (ty : TypeId) (v : Value) (n : Nat) (xs : List Value) (hown : OwnR w base e s v n xs) (B : Nat) (A : Option Addr) (m c : Nat) (news : List Value) (hl : news.length = m * s)
 (hr : Fl w B A news) (h1 : ∀ u ∈ news, u.oneCell' = true) (hlen : n + m ≤ 1000000000) (hbase : base ≤ w.heap.size) :
 ∃ v' w', (Builtin.append_ #[t, t] ty #[v, .slice A m c]).run P w = .ok v' w' ∧ OwnR w' base e s v' (n + m) (xs ++ news) ∧ Below base w w' := by
 obtain ⟨i, hi, hzz⟩ := Option.map_eq_some_iff.1 hu.info
 simp only [Prod.mk.injEq] at hzz
 obtain ⟨hz, hsz, hby⟩ := hzz
 have step : ∀ ad : Addr, (∀ j u, news[j]? = some u → w.cell? (ad.add j) = some u) → ∃ v' w', (Builtin.append_ #[t, t] ty #[v, .slice (some ad) m c]).run P w = .ok v' w' ∧ OwnR w' base e s v' (n + m) (xs ++ news) ∧ Below base w w' := by
  intro ad hc
  obtain ⟨v', w', h2, h3, h4, _⟩ := run_appR (P := P) w hu base ty v n xs hown ad m c news hl hc h1 hlen hbase
  exact ⟨v', w', h2, h3, h4⟩
 rcases hr with h | ⟨b, off, rfl, _, hc⟩
 · subst h
   have hm : m = 0 := by
    rcases Nat.eq_zero_or_pos m with h | h
    · exact h
    · have := Nat.mul_pos h hu.pos; simp at hl; omega
   subst hm
   cases A with
   | none =>
    refine ⟨v, w, ?_, by simpa using hown, Below.refl _ _⟩
    rcases hown.2 with ⟨rfl, rfl, hn⟩ | ⟨g, cap, cur, rfl, _, _, hnc, _⟩
    · simp [Builtin.append_, run_underlying hu.sl, sizeOf, typeInfo, hi, Builtin.lenOf, Builtin.firstCells]
    · simp [Builtin.append_, run_underlying hu.sl, sizeOf, typeInfo, hi, Builtin.lenOf, Builtin.firstCells, hnc, storeCells]
   | some ad => exact step ad (by intro j u hj; simp at hj)
 · refine step _ (fun j u hj => ?_)
   have hj' : j < news.length := (List.getElem?_eq_some_iff.1 hj).1
   rw [add_plain, hc j hj']
   exact hj
theorem wpList_appRs (hu : RecT P t e s z y) {ops : Array Oper} {rest : List Oper} {o : Oper} {a : Act} {Q : Exit → Act → World → Prop} (hgd : o.guard = none) (sO x : Operand)
 (ho : o.op = .call { callee := .builtin .append, args := #[sO, x], argTypes := #[t, t] })
 (base : Nat) (v : Value) (n : Nat) (xs : List Value) (hs : a.eval sO = v) (hown : OwnR w base e s v n xs) (B : Nat) (A : Option Addr) (m c : Nat) (news : List Value) (hx : a.eval x = .slice A m c) (hl : news.length = m * s)
 (hr : Fl w B A news) (h1 : ∀ u ∈ news, u.oneCell' = true) (hlen : n + m ≤ 1000000000) (hbase : base ≤ w.heap.size)
 (h : ∀ v' w', OwnR w' base e s v' (n + m) (xs ++ news) → Below base w w' → wpList P ops Q rest (a.put o.dst v') w') : wpList P ops Q (o :: rest) a w :=
 wpList_plain hgd fun _ hK => by
  obtain ⟨v', w', hrun, h2, h3⟩ := run_appRs (P := P) w hu base o.type v n xs hown B A m c news hl hr h1 hlen hbase
  unfold Oper.wp execOp
  simp only [ho, resolve, invoke, builtin, Sem.run_bind, Sem.run_pure, Result.andThen_ok, List.map_toArray, List.map_cons, List.map_nil, hs, hx, hrun]
  exact hK _ _ (h v' w' h2 h3)
end
end Go.Proofs.YthogheglddfniaaGreatDoor.Mem
namespace Go.Proofs.YthogheglddfniaaGreatDoor
open Go.RowKit Mem
theorem own_new {w : World} {base : Nat} {e : TypeId} {s : Nat} {v : Value} {n : Nat} {xs : List Value} (h : OwnR w base e s v n xs) : ∃ A c, v = .slice A n c ∧ n ≤ c ∧ FlS w (fun b => base ≤ b ∧ b < w.heap.size) A xs := by
 obtain ⟨A, c, rfl, hc, hf⟩ := h.fl
 refine ⟨A, c, rfl, hc, ?_⟩
 rcases hf with hf | ⟨b, off, rfl, hb, hf⟩
 · exact .inl hf
 · exact .inr ⟨b, off, rfl, ⟨(h.base_le (g := b) rfl).1, hb⟩, hf⟩
theorem row_of {α : Type} {w : World} {S : Nat → Prop} (d : α → D) (v : α → Value) (hd : ∀ x, Lies w S (d x) [v x]) {l : List α} {A : Option Addr} (h : FlS w S A (l.map v)) : RowD w S 1 (l.map d) A := by
 rcases l with _ | ⟨x0, r⟩
 · exact RowD.nil_ _ _ _ _
 · rcases h with h | ⟨g, off, rfl, hg, hc⟩
   · simp at h
   · have := RowD.of (w := w) (S := S) (n := 1) (g := g) (off := off) hg (x0 :: r).length (fun i => d ((x0 :: r).getD i x0)) (fun i => [v ((x0 :: r).getD i x0)]) (fun i hi => by
      refine ⟨rfl, fun j hj => ?_, hd _⟩
      obtain rfl : j = 0 := by omega
      rw [Nat.mul_one, Nat.add_zero, hc i (by simpa using hi), List.getElem?_map, List.getElem?_eq_getElem hi]
      simp [List.getD, List.getElem?_eq_getElem hi])
     have e : (List.range (x0 :: r).length).map (fun i => d ((x0 :: r).getD i x0)) = (x0 :: r).map d := by
      apply List.ext_getElem
      · simp
      · intro i h1 h2
        have hi : i < (x0 :: r).length := by simpa using h1
        rw [List.getElem_map, List.getElem_map, List.getElem_range, List.getD, List.getElem?_eq_getElem hi]
        rfl
     rw [e] at this
     exact this
theorem row_ints {w : World} {S : Nat → Prop} {l : List Int} {A : Option Addr} (h : FlS w S A (l.map (Value.int .i64))) : RowD w S 1 (l.map (D.i .i64)) A := row_of (D.i .i64) (Value.int .i64) (fun _ => lies_i.2 rfl) h
theorem ints_fl {w : World} {S : Nat → Prop} {l : List Int} {A : Option Addr} (h : RowD w S 1 (l.map (D.i .i64)) A) : FlS w S A (l.map (Value.int .i64)) := by
 rcases l with _ | ⟨x0, r⟩
 · exact .inl rfl
 · obtain ⟨g, off, rfl, hg, _⟩ := ints_at h (i := 0) (by simp)
   refine .inr ⟨g, off, rfl, hg, fun k hk => ?_⟩
   have hk' : k < (x0 :: r).length := by simpa using hk
   obtain ⟨g', off', e, _, hc⟩ := ints_at h hk'
   simp only [Option.some.injEq, Addr.mk.injEq, and_true] at e
   obtain ⟨rfl, rfl⟩ := e
   rw [hc, List.getElem?_map, List.getElem?_eq_getElem hk']
   rfl
theorem fls_fl {w : World} {S : Nat → Prop} {B : Nat} {A : Option Addr} {xs : List Value} (h : FlS w S A xs) (hS : ∀ b, S b → b < B) : Fl w B A xs := by
 rcases h with h | ⟨g, off, rfl, hg, hc⟩
 · exact .inl h
 · exact .inr ⟨g, off, rfl, hS g hg, hc⟩
end Go.Proofs.YthogheglddfniaaGreatDoor
namespace Go.Proofs.YthogheglddfniaaGreatDoor.Mem
open Go Go.RowKit
section
variable {P : Program} (w : World) {t e : TypeId} {s : Nat} {z : Value} {y : Nat}
theorem own_litR (e : TypeId) (s : Nat) {base : Nat} (hb : base ≤ w.heap.size) : OwnR (w.alloc (.cells #[] e)) base e s (.slice (some ⟨w.heap.size, 0, none⟩) 0 0) 0 [] :=
 ⟨by simp, .inr ⟨w.heap.size, 0, #[], rfl, hb, heap_alloc_new w _, Nat.le_refl _, Nat.zero_le _, by simp, by simp⟩⟩
theorem wpList_mkR0 (hu : RecT P t e s z y) {ops : Array Oper} {rest : List Oper} {o : Oper} {a : Act} {Q : Exit → Act → World → Prop} (hgd : o.guard = none) (l c : Operand)
 (ho : o.op = .makeSlice t l c) (base : Nat) (C : Int) (n : Nat) (hl : a.eval l = .int .i64 0) (hc : a.eval c = .int .i64 C) (hC : C = (n : Int)) (hn : n ≤ 1000000000) (hbase : base ≤ w.heap.size)
 (h : ∀ v' w', OwnR w' base e s v' 0 [] → Below base w w' → wpList P ops Q rest (a.put o.dst v') w') : wpList P ops Q (o :: rest) a w := by
 obtain ⟨i, hi, hz, hs, hy⟩ := info_parts hu.info
 refine wpList_make_own w hgd l c t ho base e i z s hu.sl hi hz hs .i64 .i64 C n hl hc hC ?_ (by unfold maxLen; omega) hbase fun w' r1 r2 => h _ w' r1 ((Below.refl _ _).grown r2 hbase (fun _ h => by simp at h))
 rw [hy]
 have := Nat.mul_le_mul hu.by_ hn
 omega
end
end Go.Proofs.YthogheglddfniaaGreatDoor.Mem
namespace Go.Proofs.YthogheglddfniaaGreatDoor
open Go.ChangeShapes Go.WideShapes Go.ChangeAt Go.RowKit Mem
theorem intT : RecT Tryz.prog 39 3 1 (.int .i64 0) 8 := ⟨by kernel_rfl, by kernel_rfl, rfl, by decide, by decide⟩
theorem textT : RecT Tryz.prog 23 9 1 (.string ⟨#[]⟩) 16 := ⟨by kernel_rfl, by kernel_rfl, rfl, by decide, by decide⟩
def KidsA (l : List Int) (w : World) (e : Ending) (w' : World) : Prop :=
 ∃ A c, e = .returned (.slice A l.length c) ∧ Len l.length c ∧ RowD w' (fun b => w.heap.size ≤ b ∧ b < w'.heap.size) 1 (l.map (D.i .i64)) A ∧ Below w.heap.size w w'
theorem kids_ret {l : List Int} {n : Nat} {base : Nat} {v : Value} {w w' : World} {xs : List Value} (h : OwnR w' base 3 1 v n xs) (hb : w.heap.size ≤ base) (hx : xs = l.map (Value.int .i64)) (hn : n = l.length) (hl : l.length ≤ 1000000000) (bl : Below w.heap.size w w') :
 KidsA l w (.returned v) w' := by
 obtain ⟨A, c, rfl, hc, hf⟩ := own_new h
 subst hx hn
 refine ⟨A, c, rfl, ⟨hc, by unfold maxLen; omega⟩, row_ints ?_, bl⟩
 rcases hf with hf | ⟨g, o, e, ⟨h1, h2⟩, h3⟩
 · exact .inl hf
 · exact .inr ⟨g, o, e, ⟨Nat.le_trans hb h1, h2⟩, h3⟩
end Go.Proofs.YthogheglddfniaaGreatDoor
namespace Go.Proofs.YthogheglddfniaaGreatDoor
open Go.RowKit Mem
def ElsS (w : World) (S : Nat → Prop) (s : Nat) : List D → List Value → Prop
 | [], xs => xs = []
 | d :: r, xs => ∃ c1 c2, xs = c1 ++ c2 ∧ c1.length = s ∧ Lies w S d c1 ∧ ElsS w S s r c2
section
variable {w w' : World} {S S' : Nat → Prop} {s : Nat}
theorem ElsS.keep (hk : ∀ p : Addr, S p.block → w'.cell? p = w.cell? p) (hS : ∀ g, S g → S' g) : ∀ {ds : List D} {xs : List Value}, ElsS w S s ds xs → ElsS w' S' s ds xs
 | [], _, h => h
 | _ :: _, _, ⟨c1, c2, e, h1, h2, h3⟩ => ⟨c1, c2, e, h1, h2.keep hk hS, ElsS.keep hk hS h3⟩
theorem ElsS.snoc {d : D} {c : List Value} (hl : c.length = s) (hd : Lies w S d c) : ∀ {ds : List D} {xs : List Value}, ElsS w S s ds xs → ElsS w S s (ds ++ [d]) (xs ++ c)
 | [], xs, h => by
  have e : xs = [] := h
  subst e
  exact ⟨c, [], by simp, hl, hd, rfl⟩
 | x :: r, xs, ⟨c1, c2, e, h1, h2, h3⟩ => ⟨c1, c2 ++ c, by rw [e, List.append_assoc], h1, h2, ElsS.snoc hl hd h3⟩
theorem ElsS.row {g : Nat} (hg : S g) : ∀ {ds : List D} {xs : List Value} {off : Nat}, ElsS w S s ds xs → (∀ k, k < xs.length → w.cell? ⟨g, off + k, none⟩ = xs[k]?) → RowD w S s ds (some ⟨g, off, none⟩)
 | [], _, _, _, _ => RowD.nil_ _ _ _ _
 | d :: r, xs, off, ⟨c1, c2, e, h1, h2, h3⟩, hc => by
  subst e
  unfold RowD
  refine ⟨g, off, c1, rfl, hg, h1, fun j hj => ?_, h2, ElsS.row hg h3 fun k hk => ?_⟩
  · rw [hc j (by rw [List.length_append]; omega), List.getElem?_append_left (by omega)]
  · rw [show off + s + k = off + (s + k) by omega, hc (s + k) (by rw [List.length_append]; omega), List.getElem?_append_right (by omega), show s + k - c1.length = k by omega]
end
def Unf (w : World) (S : Nat → Prop) : Prop := ∀ p : Addr, S p.block → w.frozen? p = false
def NewD (w : World) (l : Nat) (d : D) (cs : List Value) : Prop := ∃ S : Nat → Prop, (∀ b, S b → l ≤ b ∧ b < w.heap.size) ∧ Lies w S d cs ∧ Unf w S
def NewR (w : World) (l s : Nat) (ds : List D) (A : Option Addr) : Prop := ∃ S : Nat → Prop, (∀ b, S b → l ≤ b ∧ b < w.heap.size) ∧ RowD w S s ds A ∧ Unf w S
section
variable {w w' : World} {l l' s : Nat} {d : D} {cs : List Value} {ds : List D} {A : Option Addr}
theorem Unf.below {S : Nat → Prop} (h : Unf w S) (hS : ∀ b, S b → b < w.heap.size) (hb : Below w.heap.size w w') : Unf w' S := fun p hp => (hb.frozen (hS _ hp)).trans (h p hp)
theorem NewR.below (h : NewR w l s ds A) (hb : Below w.heap.size w w') : NewR w' l s ds A := by
 obtain ⟨S, h1, h2, h3⟩ := h
 exact ⟨S, fun b hs => ⟨(h1 b hs).1, Nat.lt_of_lt_of_le (h1 b hs).2 hb.size⟩, h2.keep (fun p hp => hb.cell (h1 _ hp).2) fun _ h => h, h3.below (fun b hs => (h1 b hs).2) hb⟩
theorem NewD.less (h : NewD w l d cs) (hl : l' ≤ l) : NewD w l' d cs := by
 obtain ⟨S, h1, h2⟩ := h
 exact ⟨S, fun b hs => ⟨Nat.le_trans hl (h1 b hs).1, (h1 b hs).2⟩, h2⟩
theorem NewR.less (h : NewR w l s ds A) (hl : l' ≤ l) : NewR w l' s ds A := by
 obtain ⟨S, h1, h2⟩ := h
 exact ⟨S, fun b hs => ⟨Nat.le_trans hl (h1 b hs).1, (h1 b hs).2⟩, h2⟩
theorem NewD.set (h : NewD w l d cs) {g i : Nat} (hg : g < l) (v : Value) : NewD (w.setCell ⟨g, i, none⟩ v) l d cs := by
 obtain ⟨S, h1, h2, h3⟩ := h
 refine ⟨S, fun b hs => ⟨(h1 b hs).1, by simp [World.setCell]; exact (h1 b hs).2⟩, h2.keep (fun p hp => World.cell?_setCell_other w _ _ _ (fun e => ?_)) fun _ h => h, fun p hp => (World.frozen?_setCell _ _ _ _).trans (h3 p hp)⟩
 subst e; have := (h1 _ hp).1; simp at this; omega
theorem NewR.set (h : NewR w l s ds A) {g i : Nat} (hg : g < l) (v : Value) : NewR (w.setCell ⟨g, i, none⟩ v) l s ds A := by
 obtain ⟨S, h1, h2, h3⟩ := h
 refine ⟨S, fun b hs => ⟨(h1 b hs).1, by simp [World.setCell]; exact (h1 b hs).2⟩, h2.keep (fun p hp => World.cell?_setCell_other w _ _ _ (fun e => ?_)) fun _ h => h, fun p hp => (World.frozen?_setCell _ _ _ _).trans (h3 p hp)⟩
 subst e; have := (h1 _ hp).1; simp at this; omega
theorem NewR.nil_ (w : World) (l s : Nat) (A : Option Addr) : NewR w l s [] A := ⟨fun _ => False, fun _ h => h.elim, RowD.nil_ _ _ _ _, fun _ h => h.elim⟩
end
def GatS (w : World) (base : Nat) (e : TypeId) (s : Nat) (v : Value) (ds : List D) : Prop :=
 ∃ (S : Nat → Prop) (xs : List Value), OwnR w base e s v ds.length xs ∧ ElsS w S s ds xs ∧ (∀ b, S b → base ≤ b ∧ b < w.heap.size ∧ some b ≠ v.ownBlock) ∧ Unf w S
section
variable {w w' : World} {base : Nat} {e : TypeId} {s : Nat} {v : Value} {ds : List D}
theorem GatS.none_ (w : World) (base : Nat) (e : TypeId) (s : Nat) : GatS w base e s (.slice none 0 0) [] :=
 ⟨fun _ => False, [], OwnR.none_ _ _ _ _, rfl, fun _ h => h.elim, fun _ h => h.elim⟩
theorem GatS.below (h : GatS w base e s v ds) (hb : Below w.heap.size w w') : GatS w' base e s v ds := by
 obtain ⟨S, xs, h1, h2, h3, h4⟩ := h
 exact ⟨S, xs, h1.below hb, h2.keep (fun p hp => hb.cell (h3 _ hp).2.1) fun _ h => h, fun b hs => ⟨(h3 b hs).1, Nat.lt_of_lt_of_le (h3 b hs).2.1 hb.size, (h3 b hs).2.2⟩, h4.below (fun b hs => (h3 b hs).2.1) hb⟩
theorem GatS.done (h : GatS w base e s v ds) : ∃ A c, v = .slice A ds.length c ∧ ds.length ≤ c ∧ NewR w base s ds A := by
 obtain ⟨S, xs, h1, h2, h3, h4⟩ := h
 obtain ⟨A, c, ev, hc, hf⟩ := h1.fl
 refine ⟨A, c, ev, hc, ?_⟩
 rcases h1.2 with ⟨e0, hn⟩ | ⟨g, cap, cur, e1, hg, hh, _⟩
 · obtain rfl : ds = [] := List.length_eq_zero_iff.1 hn
   exact NewR.nil_ _ _ _ _
 · have eA : A = some ⟨g, 0, none⟩ := by rw [ev] at e1; injection e1
   subst eA
   have hgs : g < w.heap.size := (Array.getElem?_eq_some_iff.1 hh).1
   refine ⟨fun b => S b ∨ b = g, fun b hs => ?_, ?_, fun p hp => ?_⟩
   · rcases hs with hs | rfl
     · exact ⟨(h3 b hs).1, (h3 b hs).2.1⟩
     · exact ⟨hg, hgs⟩
   · refine ElsS.row (.inr rfl) (h2.keep (fun _ _ => rfl) fun _ h => .inl h) fun k hk => ?_
     rcases hf with hf | ⟨b, off, e2, _, hf⟩
     · rw [hf] at hk; exact absurd hk (Nat.not_lt_zero _)
     · simp only [Option.some.injEq, Addr.mk.injEq, and_true] at e2
       obtain ⟨rfl, rfl⟩ := e2
       exact hf k hk
   · rcases hp with hp | hp
     · exact h4 p hp
     · unfold World.frozen?; rw [hp, hh]; simp
end
section
open Go
variable {P : Program} (w : World) {t e : TypeId} {s : Nat} {z : Value} {y : Nat}
theorem wpList_gat (hu : RecT P t e s z y) {ops : Array Oper} {rest : List Oper} {o : Oper} {a : Act} {Q : Exit → Act → World → Prop} (hgd : o.guard = none) (sO x : Operand)
 (ho : o.op = .call { callee := .builtin .append, args := #[sO, x], argTypes := #[t, t] })
 (base : Nat) (v : Value) (ds : List D) (hs : a.eval sO = v) (w0 : World) (hg : GatS w0 base e s v ds) (h0 : Below w0.heap.size w0 w) (c : Nat) (cs : Array Value) (hx : a.eval x = .slice (some ⟨w.heap.size, 0, none⟩) 1 c) (hl : cs.size = s)
 (h1 : ∀ u ∈ cs.toList, u.oneCell' = true) (hlen : ds.length + 1 ≤ 1000000000) (hbase : base ≤ w0.heap.size) (d : D) (hd : NewD w w0.heap.size d cs.toList)
 (h : ∀ v' w', GatS w' base e s v' (ds ++ [d]) → Below base w w' → wpList P ops Q rest (a.put o.dst v') w') : wpList P ops Q (o :: rest) a (w.alloc (.cells cs e)) := by
 obtain ⟨S, xs, k1, k2, k3, k4⟩ := hg.below h0
 obtain ⟨S1, m1, m2, m3⟩ := hd
 have ow : ∀ g, v.ownBlock = some g → g < w0.heap.size := fun g e0 => by
  obtain ⟨S', xs', q1, _⟩ := hg
  exact (q1.base_le e0.symm).2
 refine wpList_appRg1 w hu hgd _ rfl sO x ho base v ds.length xs hs k1 c cs hx hl h1 hlen (Nat.le_trans hbase h0.size) fun v' w' r1 r2 r3 r4 => h v' w' ⟨fun b => S b ∨ S1 b, xs ++ cs.toList, by simpa using r1, ?_, fun b hs => ?_, fun p hp => ?_⟩ r2
 · refine ElsS.snoc (by simpa using hl) (m2.keep (fun p hp => ?_) fun _ h => .inr h) (k2.keep (fun p hp => ?_) fun _ h => .inl h)
   · have a1 := m1 _ hp
     exact World.cell?_of_block (r3.block _ a1.2 (fun e0 => by have := ow _ e0.symm; omega))
   · have a1 := k3 _ hp
     exact World.cell?_of_block (r3.block _ a1.2.1 a1.2.2)
 · rcases hs with hs | hs
   · have a1 := k3 b hs
     exact ⟨a1.1, Nat.lt_of_lt_of_le a1.2.1 r3.size, ne_own a1.2.2 r4 (by omega)⟩
   · have a1 := m1 b hs
     exact ⟨Nat.le_trans hbase a1.1, Nat.lt_of_lt_of_le a1.2 r3.size, ne_own (fun e0 => by have := ow _ e0.symm; omega) r4 (by omega)⟩
 · rcases hp with hp | hp
   · have a1 := k3 _ hp
     exact (World.frozen?_of_block (r3.block _ a1.2.1 a1.2.2)).trans (k4 p hp)
   · have a1 := m1 _ hp
     exact (World.frozen?_of_block (r3.block _ a1.2 (fun e0 => by have := ow _ e0.symm; omega))).trans (m3 p hp)
end
section
variable {w w' : World} {S S' : Nat → Prop} {s : Nat}
theorem ElsS.at_ : ∀ {ds : List D} {xs : List Value} {j : Nat} (_ : ElsS w S s ds xs) (hj : j < ds.length), ∃ cs, cs.length = s ∧ Lies w S (ds[j]'hj) cs ∧ ∀ i, i < s → xs[j * s + i]? = cs[i]?
 | d :: r, xs, 0, ⟨c1, c2, e, h1, h2, h3⟩, _ => ⟨c1, h1, h2, fun i hi => by rw [e, Nat.zero_mul, Nat.zero_add, List.getElem?_append_left (by omega)]⟩
 | d :: r, xs, j + 1, ⟨c1, c2, e, h1, h2, h3⟩, hj => by
  obtain ⟨cs, a1, a2, a3⟩ := ElsS.at_ (j := j) h3 (by simpa using hj)
  refine ⟨cs, a1, a2, fun i hi => ?_⟩
  have q : (j + 1) * s + i = s + (j * s + i) := by rw [Nat.add_mul]; omega
  rw [e, q, List.getElem?_append_right (by omega), show s + (j * s + i) - c1.length = j * s + i by omega, a3 i hi]
theorem ElsS.put {d' : D} {u : Value} {i : Nat} (hi : i < s) : ∀ {ds : List D} {xs : List Value} {j : Nat} (_ : ElsS w S s ds xs) (hj : j < ds.length), (∀ cs, cs.length = s → Lies w S (ds[j]'hj) cs → Lies w S d' (cs.set i u)) → ElsS w S s (ds.set j d') (xs.set (j * s + i) u)
 | d :: r, xs, 0, ⟨c1, c2, e, h1, h2, h3⟩, _, hd => by
  subst e
  refine ⟨c1.set i u, c2, ?_, by simpa using h1, hd c1 h1 h2, h3⟩
  rw [Nat.zero_mul, Nat.zero_add, List.set_append_left _ _ (by omega)]
 | d :: r, xs, j + 1, ⟨c1, c2, e, h1, h2, h3⟩, hj, hd => by
  subst e
  have k := ElsS.put hi (j := j) h3 (by simpa using hj) hd
  refine ⟨c1, c2.set (j * s + i) u, ?_, h1, h2, k⟩
  have q : (j + 1) * s + i = s + (j * s + i) := by rw [Nat.add_mul]; omega
  rw [q, List.set_append_right _ _ (by omega), show s + (j * s + i) - c1.length = j * s + i by omega]
end
def RowN (X : Nat → Prop) (w : World) (nt : TypeId) (g r : Nat) (v : Value) (ns : List Nd) : Prop :=
 ∃ (xs : List Value) (S : Nat → Prop), OwnR w (g + 1) nt 10 v ns.length xs ∧ (∀ h, v.ownBlock = some h → h = r) ∧ r < w.heap.size ∧ g ≤ r ∧ ElsS w S 10 (ns.map Nd.enc) xs ∧ ∀ b, S b → b < w.heap.size ∧ b ≠ g ∧ b ≠ r ∧ ¬ X b
def Mkr (X : Nat → Prop) (w : World) (mt nt : TypeId) (g r : Nat) (ns : List Nd) : Prop := ∃ v, Blk w g mt #[v, .int .i64 0] ∧ RowN X w nt g r v ns
section
variable {X : Nat → Prop} {w w' : World} {mt nt : TypeId} {g r : Nat} {v : Value} {ns : List Nd}
theorem RowN.below (h : RowN X w nt g r v ns) (b : Below w.heap.size w w') : RowN X w' nt g r v ns := by
 obtain ⟨xs, S, h1, h2, h3, h4, h5, h6⟩ := h
 exact ⟨xs, S, h1.below b, h2, Nat.lt_of_lt_of_le h3 b.size, h4, h5.keep (fun p hp => b.cell (h6 _ hp).1) fun _ h => h, fun k hk => ⟨Nat.lt_of_lt_of_le (h6 k hk).1 b.size, (h6 k hk).2⟩⟩
theorem Mkr.below (h : Mkr X w mt nt g r ns) (b : Below w.heap.size w w') : Mkr X w' mt nt g r ns := by
 obtain ⟨v, h1, h2⟩ := h
 exact ⟨v, h1.below b h1.lt, h2.below b⟩
theorem Mkr.lt (h : Mkr X w mt nt g r ns) : g < w.heap.size ∧ r < w.heap.size ∧ g ≤ r := by
 obtain ⟨v, h1, xs, S, _, _, h3, h4, _⟩ := h
 exact ⟨h1.lt, h3, h4⟩
theorem Mkr.new_ (w : World) (mt nt : TypeId) : Mkr X (w.alloc (.cells #[.slice none 0 0, .int .i64 0] mt)) mt nt w.heap.size w.heap.size [] :=
 ⟨.slice none 0 0, Blk.new _ _ _, [], fun _ => False, OwnR.none_ _ _ _ _, (fun h e => by cases e), by simp, Nat.le_refl _, rfl, fun _ h => h.elim⟩
theorem RowN.form (h : RowN X w nt g r v ns) : ∃ A c, v = .slice A ns.length c ∧ ns.length ≤ c ∧ c ≤ maxLen ∧ (0 < ns.length → A = some ⟨r, 0, none⟩) ∧ RowD w (· < w.heap.size) 10 (ns.map Nd.enc) A := by
 obtain ⟨xs, S, h1, h2, h3, h4, h5, h6⟩ := h
 rcases h1.2 with ⟨e, h0⟩ | ⟨q, cap, cur, e, hb, hg, hc, hm, hs, ht⟩
 · have : ns = [] := List.length_eq_zero_iff.1 h0
   subst this
   exact ⟨none, 0, e, Nat.le_refl _, Nat.zero_le _, fun h => absurd h (Nat.not_lt_zero _), RowD.nil_ _ _ _ _⟩
 · obtain rfl : q = r := h2 q (by rw [e]; rfl)
   subst e
   refine ⟨some ⟨q, 0, none⟩, cap, rfl, hc, hm, fun _ => rfl, ?_⟩
   refine ElsS.row (S := (· < w.heap.size)) (off := 0) h3 (ElsS.keep (S' := (· < w.heap.size)) (fun _ _ => rfl) (fun b hb => (h6 b hb).1) h5) fun k hk => ?_
   rw [Nat.zero_add]
   exact World.ownsRow.cellAt h1 k (by rw [← h1.1]; exact hk)
theorem Mkr.out (h : Mkr X w mt nt g r ns) : ∃ A c, B2 w g mt (.slice A ns.length c) (.int .i64 0) ∧ ns.length ≤ c ∧ (0 < ns.length → A = some ⟨r, 0, none⟩) ∧ RowN X w nt g r (.slice A ns.length c) ns ∧ Lies w (· < w.heap.size) (Sc.enc ⟨ns, 0⟩) [.slice A ns.length c, .int .i64 0] := by
 obtain ⟨v, h1, h2⟩ := h
 obtain ⟨A, c, rfl, a1, a2, a3, a4⟩ := h2.form
 exact ⟨A, c, h1, a1, a3, h2, Sc.out.2 ⟨A, c, rfl, ⟨a1, Nat.le_trans a1 a2⟩, a4⟩⟩
theorem RowN.setg (h : RowN X w nt g r v ns) (i : Nat) (u : Value) : RowN X (w.setCell ⟨g, i, none⟩ u) nt g r v ns := by
 obtain ⟨xs, S, h1, h2, h3, h4, h5, h6⟩ := h
 refine ⟨xs, S, ⟨h1.1, ?_⟩, h2, by simp [World.setCell]; exact h3, h4, h5.keep (fun p hp => World.cell?_setCell_other w _ _ _ (fun e => ?_)) fun _ h => h, fun k hk => ⟨by simp [World.setCell]; exact (h6 k hk).1, (h6 k hk).2⟩⟩
 · rcases h1.2 with h0 | ⟨q, cap, cur, hv, hq, hh, rest⟩
   · exact .inl h0
   · exact .inr ⟨q, cap, cur, hv, hq, (Below.heap_setCell _ _ _ _ (by intro e; exact absurd (show q = g from e) (by omega))).trans hh, rest⟩
 · subst e; exact (h6 _ hp).2.1 rfl
theorem RowN.mkr {v' : Value} (h : RowN X w nt g r v ns) (hb : Blk w g mt #[v', .int .i64 0]) : Mkr X (w.setCell ⟨g, 0, none⟩ v) mt nt g r ns := by
 exact ⟨v, Blk.set hb 0 v, h.setg 0 v⟩
theorem Mkr.node (h : Mkr X w mt nt g r ns) {i : Nat} (hi : i < ns.length) : ∃ X2 c2 X3 c3 X4 c4 X9 c9, (w.cell? ⟨r, i * 10, none⟩ = some (.int .i64 (ns[i]'hi).k) ∧ w.cell? ⟨r, i * 10 + 1, none⟩ = some (.string (ns[i]'hi).name) ∧ w.cell? ⟨r, i * 10 + 2, none⟩ = some (.slice X2 (ns[i]'hi).al.length c2) ∧ w.cell? ⟨r, i * 10 + 3, none⟩ = some (.slice X3 (ns[i]'hi).fs.length c3) ∧ w.cell? ⟨r, i * 10 + 4, none⟩ = some (.slice X4 (ns[i]'hi).sy.length c4) ∧
 w.cell? ⟨r, i * 10 + 5, none⟩ = some (.bool (ns[i]'hi).has) ∧ w.cell? ⟨r, i * 10 + 6, none⟩ = some (.string (ns[i]'hi).df) ∧ w.cell? ⟨r, i * 10 + 7, none⟩ = some (.int .i64 (ns[i]'hi).size) ∧ w.cell? ⟨r, i * 10 + 8, none⟩ = some (.int .i64 (ns[i]'hi).items) ∧ w.cell? ⟨r, i * 10 + 9, none⟩ = some (.slice X9 (ns[i]'hi).br.length c9)) ∧ ∀ k, w.frozen? ⟨r, k, none⟩ = false := by
 obtain ⟨v, h1, h2⟩ := h
 obtain ⟨A, c, rfl, a1, a2, a3, a4⟩ := h2.form
 obtain rfl := a3 (by omega)
 obtain ⟨q, o, X2, c2, X3, c3, X4, c4, X9, c9, e, hq, hc, _⟩ := nodes_at a4 hi
 simp only [Option.some.injEq, Addr.mk.injEq, and_true] at e
 obtain ⟨rfl, rfl⟩ := e
 simp only [Nat.zero_add] at hc
 obtain ⟨xs, S, k1, _⟩ := h2
 exact ⟨X2, c2, X3, c3, X4, c4, X9, c9, hc, fun k => World.ownsRow.frozenAt k1 k⟩
theorem Mkr.put (h : Mkr X w mt nt g r ns) {i k : Nat} (hi : i < ns.length) (hk : k < 10) (n' : Nd) (u : Value) (T : Nat → Prop) (hT : ∀ b, T b → b < w.heap.size ∧ b ≠ g ∧ b ≠ r ∧ ¬ X b)
 (hd : ∀ (S : Nat → Prop) (cs : List Value), (∀ b, T b → S b) → Lies w S (ns[i]'hi).enc cs → Lies w S n'.enc (cs.set k u)) : Mkr X (w.setCell ⟨r, i * 10 + k, none⟩ u) mt nt g r (ns.set i n') ∧ Sav g r w.heap.size w (w.setCell ⟨r, i * 10 + k, none⟩ u) := by
 obtain ⟨v, h1, xs, S, k1, k2, k3, k4, k5, k6⟩ := h
 refine ⟨?_, (Sav.refl g r w.heap.size w).set (p := ⟨r, i * 10 + k, none⟩) (.inr (.inl rfl)) u⟩
 rcases k1.2 with ⟨e, h0⟩ | ⟨q, cap, cur, e, hb, _⟩
 · omega
 obtain rfl : q = r := k2 q (by rw [e]; rfl)
 subst e
 have st := World.ownsRow.stored k1 (i * 10 + k) u
 have gr : g ≠ q := by omega
 refine ⟨.slice (some ⟨q, 0, none⟩) ns.length cap, Blk.past h1 (fun e => gr e.symm) u, xs.set (i * 10 + k) u, fun b => S b ∨ T b, by rw [List.length_set]; exact st.1, k2, by simp [World.setCell]; exact k3, k4, ?_, fun b hb => ?_⟩
 · rw [List.map_set]
   refine (ElsS.put (d' := n'.enc) (u := u) (i := k) hk (ElsS.keep (S' := fun b => S b ∨ T b) (fun _ _ => rfl) (fun _ h => .inl h) k5) (by simpa using hi) fun cs hl hc => ?_).keep (fun p hp => World.cell?_setCell_other w _ _ _ (fun e => ?_)) fun _ h => h
   · rw [List.getElem_map] at hc
     exact hd _ cs (fun b h => .inr h) hc
   · subst e
     rcases hp with hp | hp
     · exact (k6 _ hp).2.2.1 rfl
     · exact (hT _ hp).2.2.1 rfl
 · have : b < w.heap.size ∧ b ≠ g ∧ b ≠ q ∧ ¬ X b := by
    rcases hb with hb | hb
    · exact k6 b hb
    · exact hT b hb
   exact ⟨by simp [World.setCell]; exact this.1, this.2⟩
end
section
open Go
variable {P : Program} {X : Nat → Prop} (w : World) {t nt : TypeId} {z : Value} {y : Nat}
theorem wpList_mk (hu : RecT P t nt 10 z y) {ops : Array Oper} {rest : List Oper} {o : Oper} {a : Act} {Q : Exit → Act → World → Prop} (hgd : o.guard = none) (sO x : Operand)
 (ho : o.op = .call { callee := .builtin .append, args := #[sO, x], argTypes := #[t, t] }) {g r : Nat} (v : Value) (ns : List Nd) (hs : a.eval sO = v) (hg : RowN X w nt g r v ns) (c : Nat) (cs : Array Value) (hx : a.eval x = .slice (some ⟨w.heap.size, 0, none⟩) 1 c) (hl : cs.size = 10)
 (h1 : ∀ u ∈ cs.toList, u.oneCell' = true) (hlen : ns.length + 1 ≤ 1000000000) (n : Nd) (hd : Lies w (fun b => b < w.heap.size ∧ b ≠ g ∧ b ≠ r ∧ ¬ X b) n.enc cs.toList)
 (h : ∀ r' v' w', RowN X w' nt g r' v' (ns ++ [n]) → (r' = r ∨ w.heap.size ≤ r') → Sav g r w.heap.size w w' → w'.heap[g]? = w.heap[g]? → wpList P ops Q rest (a.put o.dst v') w') : wpList P ops Q (o :: rest) a (w.alloc (.cells cs nt)) := by
 obtain ⟨xs, S, k1, k2, k3, k4, k5, k6⟩ := hg
 refine wpList_appRg1 w hu hgd _ rfl sO x ho (g + 1) v ns.length xs hs k1 c cs hx hl h1 hlen (by omega) fun v' w' r1 r2 r3 r4 => ?_
 have gne : some g ≠ v.ownBlock := fun e => by have := (World.ownsRow.lt k1 g e.symm).1; omega
 have sav : Sav g r w.heap.size w w' := ⟨r3.os, r3.tape, r3.output, r3.size, fun k hk _ hr => r3.block k hk (fun e => hr (k2 k e.symm))⟩
 have hw : ∀ b, b < w.heap.size ∧ b ≠ g ∧ b ≠ r ∧ ¬ X b → w'.heap[b]? = w.heap[b]? := fun b hb => r3.block b hb.1 (fun e => hb.2.2.1 (k2 b e.symm))
 have els : ElsS w' (fun b => b < w.heap.size ∧ b ≠ g ∧ b ≠ r ∧ ¬ X b) 10 ((ns ++ [n]).map Nd.enc) (xs ++ cs.toList) := by
  rw [List.map_append]
  refine ElsS.snoc (by simpa using hl) (hd.keep (fun p hp => World.cell?_of_block (hw _ hp)) fun _ h => h) (k5.keep (fun p hp => World.cell?_of_block (hw _ (k6 _ hp))) fun b hb => k6 b hb)
 rcases r4 with e | e
 · refine h r v' w' ⟨xs ++ cs.toList, _, by simpa using r1, fun q hq => k2 q (by rw [← e]; exact hq), Nat.lt_of_lt_of_le k3 r3.size, k4, els, fun b hb => ⟨Nat.lt_of_lt_of_le hb.1 r3.size, hb.2⟩⟩ (.inl rfl) sav (r3.block g (by omega) gne)
 · have lt := (World.ownsRow.lt r1 _ e).2
   refine h (w.heap.size + 1) v' w' ⟨xs ++ cs.toList, _, by simpa using r1, fun q hq => by rw [e] at hq; exact (Option.some.inj hq).symm, lt, by omega, els, fun b hb => ⟨Nat.lt_of_lt_of_le hb.1 r3.size, hb.2.1, by omega, hb.2.2.2⟩⟩ (.inr (by omega)) sav (r3.block g (by omega) gne)
theorem step_mk (hu : RecT P t nt 10 z y) {ops : Array Oper} {o : Oper} {a : Act} {K : Act → World → Prop} {Q : Exit → Act → World → Prop} {E : Prop} (hw : Region.wanted o (yielded ops a.tmps) = true) (d : Option Tmp) (hdst : o.dst = d) (sO x : Operand)
 (ho : o.op = .call { callee := .builtin .append, args := #[sO, x], argTypes := #[t, t] }) {g r : Nat} (v : Value) (ns : List Nd) (hs : a.eval sO = v) (hg : RowN X w nt g r v ns) (c : Nat) (cs : Array Value) (hx : a.eval x = .slice (some ⟨w.heap.size, 0, none⟩) 1 c) (hl : cs.size = 10)
 (h1 : ∀ u ∈ cs.toList, u.oneCell' = true) (hlen : ns.length + 1 ≤ 1000000000) (n : Nd) (hd : Lies w (fun b => b < w.heap.size ∧ b ≠ g ∧ b ≠ r ∧ ¬ X b) n.enc cs.toList)
 (h : ∀ r' v' w', RowN X w' nt g r' v' (ns ++ [n]) → (r' = r ∨ w.heap.size ≤ r') → Sav g r w.heap.size w w' → w'.heap[g]? = w.heap[g]? → K (a.put d v') w') : if Region.wanted o (yielded ops a.tmps) = true then Oper.wp P o a (w.alloc (.cells cs nt)).drew K Q else E := by
 obtain ⟨xs, S, k1, k2, k3, k4, k5, k6⟩ := hg
 refine step_appRg1 w hu hw d hdst sO x ho (g + 1) v ns.length xs hs k1 c cs hx hl h1 hlen (by omega) fun v' w' r1 r2 r3 r4 => ?_
 have gne : some g ≠ v.ownBlock := fun e => by have := (World.ownsRow.lt k1 g e.symm).1; omega
 have sav : Sav g r w.heap.size w w' := ⟨r3.os, r3.tape, r3.output, r3.size, fun k hk _ hr => r3.block k hk (fun e => hr (k2 k e.symm))⟩
 have hw : ∀ b, b < w.heap.size ∧ b ≠ g ∧ b ≠ r ∧ ¬ X b → w'.heap[b]? = w.heap[b]? := fun b hb => r3.block b hb.1 (fun e => hb.2.2.1 (k2 b e.symm))
 have els : ElsS w' (fun b => b < w.heap.size ∧ b ≠ g ∧ b ≠ r ∧ ¬ X b) 10 ((ns ++ [n]).map Nd.enc) (xs ++ cs.toList) := by
  rw [List.map_append]
  refine ElsS.snoc (by simpa using hl) (hd.keep (fun p hp => World.cell?_of_block (hw _ hp)) fun _ h => h) (k5.keep (fun p hp => World.cell?_of_block (hw _ (k6 _ hp))) fun b hb => k6 b hb)
 rcases r4 with e | e
 · refine h r v' w' ⟨xs ++ cs.toList, _, by simpa using r1, fun q hq => k2 q (by rw [← e]; exact hq), Nat.lt_of_lt_of_le k3 r3.size, k4, els, fun b hb => ⟨Nat.lt_of_lt_of_le hb.1 r3.size, hb.2⟩⟩ (.inl rfl) sav (r3.block g (by omega) gne)
 · have lt := (World.ownsRow.lt r1 _ e).2
   refine h (w.heap.size + 1) v' w' ⟨xs ++ cs.toList, _, by simpa using r1, fun q hq => by rw [e] at hq; exact (Option.some.inj hq).symm, lt, by omega, els, fun b hb => ⟨Nat.lt_of_lt_of_le hb.1 r3.size, hb.2.1, by omega, hb.2.2.2⟩⟩ (.inr (by omega)) sav (r3.block g (by omega) gne)
end
end Go.Proofs.YthogheglddfniaaGreatDoor
namespace Go.Proofs.YthogheglddfniaaGreatDoor
open Go.ChangeShapes Go.WideShapes Go.ChangeAt Go.RowKit Mem
theorem str_beq (a b : ByteArray) : (a.toList == b.toList) = decide (a = b) := by
 rw [Bool.eq_iff_iff, beq_iff_eq, decide_eq_true_eq, ByteArray.toList_eq, ByteArray.toList_eq]
 constructor
 · intro h; exact ByteArray.ext (Array.toList_inj.1 h)
 · intro h; rw [h]
theorem str_bne (a b : ByteArray) : (a.toList != b.toList) = !decide (a = b) := by unfold bne; rw [str_beq]
def Drewn7 (W w : World) : Prop := ∃ n, w = W.drewN n
def Told (b : Bool) (w : World) (e : Ending) (w' : World) : Prop := e = .returned (.bool b) ∧ Below w.heap.size w w'
theorem told_ret {b c : Bool} {w w' : World} (h : b = c) (hb : Below w.heap.size w w') : Told b w (.returned (.bool c)) w' := by subst h; exact ⟨rfl, hb⟩
end Go.Proofs.YthogheglddfniaaGreatDoor
namespace Go.Proofs.YthogheglddfniaaGreatDoor
open Go.ChangeShapes Go.WideShapes Go.ChangeAt Go.RowKit Mem
mutual
/-- How deep a tree is. -/
def J.deep : J → Nat
 | .mk k _ _ its _ => if k = 5 ∨ k = 6 then J.deeps its else 0
/-- One more than the deepest of some trees; 1 at least. -/
def J.deeps : List J → Nat
 | [] => 1
 | j :: r => max (J.deep j + 1) (J.deeps r)
end
theorem J.deep_in {j : J} (h : j.k = 5 ∨ j.k = 6) : j.deep = J.deeps j.its := by cases j; unfold J.deep; exact if_pos h
theorem J.deep_out {j : J} (h : ¬ (j.k = 5 ∨ j.k = 6)) : j.deep = 0 := by cases j; unfold J.deep; exact if_neg h
theorem J.deeps_snoc (l : List J) (j : J) : J.deeps (l ++ [j]) = max (J.deeps l) (j.deep + 1) := by
 induction l with
 | nil => simp only [List.nil_append, J.deeps]; omega
 | cons x r ih => simp only [List.cons_append, J.deeps, ih]; omega
theorem J.deeps_take {l : List J} {i : Nat} (h : i < l.length) : J.deeps (l.take (i + 1)) = max (J.deeps (l.take i)) ((l[i]'h).deep + 1) := by
 rw [List.take_succ_eq_append_getElem h, J.deeps_snoc]
theorem J.deeps_le (l : List J) (i : Nat) : J.deeps (l.take i) ≤ J.deeps l := by
 induction l generalizing i with
 | nil => simp
 | cons x r ih =>
  cases i with
  | zero => simp only [List.take_zero, J.deeps]; have := ih 0; simp only [List.take_zero, J.deeps] at this; omega
  | succ i => simp only [List.take_succ_cons, J.deeps]; have := ih i; omega
theorem J.deeps_pos (l : List J) : 1 ≤ J.deeps l := by
 cases l with
 | nil => exact Nat.le_refl _
 | cons x r => simp only [J.deeps]; omega
theorem J.deep_at {l : List J} {i : Nat} (h : i < l.length) : (l[i]'h).deep + 1 ≤ J.deeps l := by
 have := J.deeps_take h; have := J.deeps_le l (i + 1); omega
def Num_ (n : Nat) (w : World) (e : Ending) (w' : World) : Prop := e = .returned (.int .i64 (n : Int)) ∧ Below w.heap.size w w'
theorem num_ret {n : Nat} {z : Int} {w w' : World} (h : z = (n : Int)) (hb : Below w.heap.size w w') : Num_ n w (.returned (.int .i64 z)) w' := by subst h; exact ⟨rfl, hb⟩
end Go.Proofs.YthogheglddfniaaGreatDoor
