/- Joined by tools/bundle.py: Row Val SMath JTSame JWt VMath SWt JNum. -/
import Derived.OwnWalk
import Derived.Deep.RegionHeldLaw
import Derived.Test.YthfoomobicbcpaaGreatDoorZ1
import Derived.Test.YthfoomobicbcpaaGreatDoorZ2
import Derived.Test.YthfoomobicbcpaaGreatDoorZ3
import Derived.Test.YthfoomobicbcpaaGreatDoorZ0
set_option maxRecDepth 100000
set_option maxHeartbeats 16000000
namespace Go.Proofs.YthfoomobicbcpaaGreatDoor.Mem
open Go Go.RowKit
section
variable {P : Program} (w : World) {t e : TypeId} {s : Nat} {z : Value} {y : Nat}
theorem run_appRs (hu : RecT P t e s z y) (base : Nat) (ty : TypeId) (v : Value) (n : Nat) (xs : List Value) (hown : OwnR w base e s v n xs) (B : Nat) (A : Option Addr) (m c : Nat) (news : List Value) (hl : news.length = m * s)
 (hr : Fl w B A news) (h1 : ∀ u ∈ news, u.oneCell' = true) (hlen : n + m ≤ 1000000000) (hbase : base ≤ w.heap.size) :
 ∃ v' w', (Builtin.append_ #[t, t] ty #[v, .slice A m c]).run P w = .ok v' w' ∧ OwnR w' base e s v' (n + m) (xs ++ news) ∧ Below base w w' := by
 obtain ⟨i, hi, hzz⟩ := Option.map_eq_some_iff.1 hu.info
 simp only [Prod.mk.injEq] at hzz
 obtain ⟨hz, hsz, hby⟩ := hzz
 have step : ∀ ad : Addr, (∀ j u, news[j]? = some u → w.cell? (ad.add j) = some u) → ∃ v' w', (Builtin.append_ #[t, t] ty #[v, .slice (some ad) m c]).run P w = .ok v' w' ∧ OwnR w' base e s v' (n + m) (xs ++ news) ∧ Below base w w' := by
  intro ad hc
  obtain ⟨v', w', h2, h3, h4, _⟩ := run_appR (P := P) w hu base ty v n xs hown ad m c news hl hc h1 hlen hbase
  exact ⟨v', w', h2, h3, h4⟩
 rcases hr with h | ⟨b, off, rfl, _, hc⟩
 · subst h
   have hm : m = 0 := by
    rcases Nat.eq_zero_or_pos m with h | h
    · exact h
    · have := Nat.mul_pos h hu.pos; simp at hl; omega
   subst hm
   cases A with
   | none =>
    refine ⟨v, w, ?_, by simpa using hown, Below.refl _ _⟩
    rcases hown.2 with ⟨rfl, rfl, hn⟩ | ⟨g, cap, cur, rfl, _, _, hnc, _⟩
    · simp [Builtin.append_, run_underlying hu.sl, sizeOf, typeInfo, hi, Builtin.lenOf, Builtin.firstCells]
    · simp [Builtin.append_, run_underlying hu.sl, sizeOf, typeInfo, hi, Builtin.lenOf, Builtin.firstCells, hnc, storeCells]
   | some ad => exact step ad (by intro j u hj; simp at hj)
 · refine step _ (fun j u hj => ?_)
   have hj' : j < news.length := (List.getElem?_eq_some_iff.1 hj).1
   rw [add_plain, hc j hj']
   exact hj
theorem wpList_appRs (hu : RecT P t e s z y) {ops : Array Oper} {rest : List Oper} {o : Oper} {a : Act} {Q : Exit → Act → World → Prop} (hgd : o.guard = none) (sO x : Operand)
 (ho : o.op = .call { callee := .builtin .append, args := #[sO, x], argTypes := #[t, t] })
 (base : Nat) (v : Value) (n : Nat) (xs : List Value) (hs : a.eval sO = v) (hown : OwnR w base e s v n xs) (B : Nat) (A : Option Addr) (m c : Nat) (news : List Value) (hx : a.eval x = .slice A m c) (hl : news.length = m * s)
 (hr : Fl w B A news) (h1 : ∀ u ∈ news, u.oneCell' = true) (hlen : n + m ≤ 1000000000) (hbase : base ≤ w.heap.size)
 (h : ∀ v' w', OwnR w' base e s v' (n + m) (xs ++ news) → Below base w w' → wpList P ops Q rest (a.put o.dst v') w') : wpList P ops Q (o :: rest) a w :=
 wpList_plain hgd fun _ hK => by
  obtain ⟨v', w', hrun, h2, h3⟩ := run_appRs (P := P) w hu base o.type v n xs hown B A m c news hl hr h1 hlen hbase
  unfold Oper.wp execOp
  simp only [ho, resolve, invoke, builtin, Sem.run_bind, Sem.run_pure, Result.andThen_ok, List.map_toArray, List.map_cons, List.map_nil, hs, hx, hrun]
  exact hK _ _ (h v' w' h2 h3)
end
end Go.Proofs.YthfoomobicbcpaaGreatDoor.Mem
namespace Go.Proofs.YthfoomobicbcpaaGreatDoor
open Go.RowKit Mem
theorem own_new {w : World} {base : Nat} {e : TypeId} {s : Nat} {v : Value} {n : Nat} {xs : List Value} (h : OwnR w base e s v n xs) : ∃ A c, v = .slice A n c ∧ n ≤ c ∧ FlS w (fun b => base ≤ b ∧ b < w.heap.size) A xs := by
 obtain ⟨A, c, rfl, hc, hf⟩ := h.fl
 refine ⟨A, c, rfl, hc, ?_⟩
 rcases hf with hf | ⟨b, off, rfl, hb, hf⟩
 · exact .inl hf
 · exact .inr ⟨b, off, rfl, ⟨(h.base_le (g := b) rfl).1, hb⟩, hf⟩
theorem row_of {α : Type} {w : World} {S : Nat → Prop} (d : α → D) (v : α → Value) (hd : ∀ x, Lies w S (d x) [v x]) {l : List α} {A : Option Addr} (h : FlS w S A (l.map v)) : RowD w S 1 (l.map d) A := by
 rcases l with _ | ⟨x0, r⟩
 · exact RowD.nil_ _ _ _ _
 · rcases h with h | ⟨g, off, rfl, hg, hc⟩
   · simp at h
   · have := RowD.of (w := w) (S := S) (n := 1) (g := g) (off := off) hg (x0 :: r).length (fun i => d ((x0 :: r).getD i x0)) (fun i => [v ((x0 :: r).getD i x0)]) (fun i hi => by
      refine ⟨rfl, fun j hj => ?_, hd _⟩
      obtain rfl : j = 0 := by omega
      rw [Nat.mul_one, Nat.add_zero, hc i (by simpa using hi), List.getElem?_map, List.getElem?_eq_getElem hi]
      simp [List.getD, List.getElem?_eq_getElem hi])
     have e : (List.range (x0 :: r).length).map (fun i => d ((x0 :: r).getD i x0)) = (x0 :: r).map d := by
      apply List.ext_getElem
      · simp
      · intro i h1 h2
        have hi : i < (x0 :: r).length := by simpa using h1
        rw [List.getElem_map, List.getElem_map, List.getElem_range, List.getD, List.getElem?_eq_getElem hi]
        rfl
     rw [e] at this
     exact this
theorem row_ints {w : World} {S : Nat → Prop} {l : List Int} {A : Option Addr} (h : FlS w S A (l.map (Value.int .i64))) : RowD w S 1 (l.map (D.i .i64)) A := row_of (D.i .i64) (Value.int .i64) (fun _ => lies_i.2 rfl) h
theorem ints_fl {w : World} {S : Nat → Prop} {l : List Int} {A : Option Addr} (h : RowD w S 1 (l.map (D.i .i64)) A) : FlS w S A (l.map (Value.int .i64)) := by
 rcases l with _ | ⟨x0, r⟩
 · exact .inl rfl
 · obtain ⟨g, off, rfl, hg, _⟩ := ints_at h (i := 0) (by simp)
   refine .inr ⟨g, off, rfl, hg, fun k hk => ?_⟩
   have hk' : k < (x0 :: r).length := by simpa using hk
   obtain ⟨g', off', e, _, hc⟩ := ints_at h hk'
   simp only [Option.some.injEq, Addr.mk.injEq, and_true] at e
   obtain ⟨rfl, rfl⟩ := e
   rw [hc, List.getElem?_map, List.getElem?_eq_getElem hk']
   rfl
theorem fls_fl {w : World} {S : Nat → Prop} {B : Nat} {A : Option Addr} {xs : List Value} (h : FlS w S A xs) (hS : ∀ b, S b → b < B) : Fl w B A xs := by
 rcases h with h | ⟨g, off, rfl, hg, hc⟩
 · exact .inl h
 · exact .inr ⟨g, off, rfl, hS g hg, hc⟩
end Go.Proofs.YthfoomobicbcpaaGreatDoor
namespace Go.Proofs.YthfoomobicbcpaaGreatDoor.Mem
open Go Go.RowKit
section
variable {P : Program} (w : World) {t e : TypeId} {s : Nat} {z : Value} {y : Nat}
theorem own_litR (e : TypeId) (s : Nat) {base : Nat} (hb : base ≤ w.heap.size) : OwnR (w.alloc (.cells #[] e)) base e s (.slice (some ⟨w.heap.size, 0, none⟩) 0 0) 0 [] :=
 ⟨by simp, .inr ⟨w.heap.size, 0, #[], rfl, hb, heap_alloc_new w _, Nat.le_refl _, Nat.zero_le _, by simp, by simp⟩⟩
theorem wpList_mkR0 (hu : RecT P t e s z y) {ops : Array Oper} {rest : List Oper} {o : Oper} {a : Act} {Q : Exit → Act → World → Prop} (hgd : o.guard = none) (l c : Operand)
 (ho : o.op = .makeSlice t l c) (base : Nat) (C : Int) (n : Nat) (hl : a.eval l = .int .i64 0) (hc : a.eval c = .int .i64 C) (hC : C = (n : Int)) (hn : n ≤ 1000000000) (hbase : base ≤ w.heap.size)
 (h : ∀ v' w', OwnR w' base e s v' 0 [] → Below base w w' → wpList P ops Q rest (a.put o.dst v') w') : wpList P ops Q (o :: rest) a w := by
 obtain ⟨i, hi, hz, hs, hy⟩ := info_parts hu.info
 refine wpList_make_own w hgd l c t ho base e i z s hu.sl hi hz hs .i64 .i64 C n hl hc hC ?_ (by unfold maxLen; omega) hbase fun w' r1 r2 => h _ w' r1 ((Below.refl _ _).grown r2 hbase (fun _ h => by simp at h))
 rw [hy]
 have := Nat.mul_le_mul hu.by_ hn
 omega
end
end Go.Proofs.YthfoomobicbcpaaGreatDoor.Mem
namespace Go.Proofs.YthfoomobicbcpaaGreatDoor
open Go.ChangeShapes Go.WideShapes Go.ChangeAt Go.RowKit Mem
theorem intT : RecT Tryz.prog 57 3 1 (.int .i64 0) 8 := ⟨by kernel_rfl, by kernel_rfl, rfl, by decide, by decide⟩
theorem textT : RecT Tryz.prog 23 9 1 (.string ⟨#[]⟩) 16 := ⟨by kernel_rfl, by kernel_rfl, rfl, by decide, by decide⟩
def KidsA (l : List Int) (w : World) (e : Ending) (w' : World) : Prop :=
 ∃ A c, e = .returned (.slice A l.length c) ∧ Len l.length c ∧ RowD w' (fun b => w.heap.size ≤ b ∧ b < w'.heap.size) 1 (l.map (D.i .i64)) A ∧ Below w.heap.size w w'
theorem kids_ret {l : List Int} {n : Nat} {base : Nat} {v : Value} {w w' : World} {xs : List Value} (h : OwnR w' base 3 1 v n xs) (hb : w.heap.size ≤ base) (hx : xs = l.map (Value.int .i64)) (hn : n = l.length) (hl : l.length ≤ 1000000000) (bl : Below w.heap.size w w') :
 KidsA l w (.returned v) w' := by
 obtain ⟨A, c, rfl, hc, hf⟩ := own_new h
 subst hx hn
 refine ⟨A, c, rfl, ⟨hc, by unfold maxLen; omega⟩, row_ints ?_, bl⟩
 rcases hf with hf | ⟨g, o, e, ⟨h1, h2⟩, h3⟩
 · exact .inl hf
 · exact .inr ⟨g, o, e, ⟨Nat.le_trans hb h1, h2⟩, h3⟩
end Go.Proofs.YthfoomobicbcpaaGreatDoor
namespace Go.Proofs.YthfoomobicbcpaaGreatDoor
open Go.RowKit Mem
def ElsS (w : World) (S : Nat → Prop) (s : Nat) : List D → List Value → Prop
 | [], xs => xs = []
 | d :: r, xs => ∃ c1 c2, xs = c1 ++ c2 ∧ c1.length = s ∧ Lies w S d c1 ∧ ElsS w S s r c2
section
variable {w w' : World} {S S' : Nat → Prop} {s : Nat}
theorem ElsS.keep (hk : ∀ p : Addr, S p.block → w'.cell? p = w.cell? p) (hS : ∀ g, S g → S' g) : ∀ {ds : List D} {xs : List Value}, ElsS w S s ds xs → ElsS w' S' s ds xs
 | [], _, h => h
 | _ :: _, _, ⟨c1, c2, e, h1, h2, h3⟩ => ⟨c1, c2, e, h1, h2.keep hk hS, ElsS.keep hk hS h3⟩
theorem ElsS.snoc {d : D} {c : List Value} (hl : c.length = s) (hd : Lies w S d c) : ∀ {ds : List D} {xs : List Value}, ElsS w S s ds xs → ElsS w S s (ds ++ [d]) (xs ++ c)
 | [], xs, h => by
  have e : xs = [] := h
  subst e
  exact ⟨c, [], by simp, hl, hd, rfl⟩
 | x :: r, xs, ⟨c1, c2, e, h1, h2, h3⟩ => ⟨c1, c2 ++ c, by rw [e, List.append_assoc], h1, h2, ElsS.snoc hl hd h3⟩
theorem ElsS.row {g : Nat} (hg : S g) : ∀ {ds : List D} {xs : List Value} {off : Nat}, ElsS w S s ds xs → (∀ k, k < xs.length → w.cell? ⟨g, off + k, none⟩ = xs[k]?) → RowD w S s ds (some ⟨g, off, none⟩)
 | [], _, _, _, _ => RowD.nil_ _ _ _ _
 | d :: r, xs, off, ⟨c1, c2, e, h1, h2, h3⟩, hc => by
  subst e
  unfold RowD
  refine ⟨g, off, c1, rfl, hg, h1, fun j hj => ?_, h2, ElsS.row hg h3 fun k hk => ?_⟩
  · rw [hc j (by rw [List.length_append]; omega), List.getElem?_append_left (by omega)]
  · rw [show off + s + k = off + (s + k) by omega, hc (s + k) (by rw [List.length_append]; omega), List.getElem?_append_right (by omega), show s + k - c1.length = k by omega]
end
def Unf (w : World) (S : Nat → Prop) : Prop := ∀ p : Addr, S p.block → w.frozen? p = false
def NewD (w : World) (l : Nat) (d : D) (cs : List Value) : Prop := ∃ S : Nat → Prop, (∀ b, S b → l ≤ b ∧ b < w.heap.size) ∧ Lies w S d cs ∧ Unf w S
def NewR (w : World) (l s : Nat) (ds : List D) (A : Option Addr) : Prop := ∃ S : Nat → Prop, (∀ b, S b → l ≤ b ∧ b < w.heap.size) ∧ RowD w S s ds A ∧ Unf w S
section
variable {w w' : World} {l l' s : Nat} {d : D} {cs : List Value} {ds : List D} {A : Option Addr}
theorem Unf.below {S : Nat → Prop} (h : Unf w S) (hS : ∀ b, S b → b < w.heap.size) (hb : Below w.heap.size w w') : Unf w' S := fun p hp => (hb.frozen (hS _ hp)).trans (h p hp)
theorem NewD.below (h : NewD w l d cs) (hb : Below w.heap.size w w') : NewD w' l d cs := by
 obtain ⟨S, h1, h2, h3⟩ := h
 exact ⟨S, fun b hs => ⟨(h1 b hs).1, Nat.lt_of_lt_of_le (h1 b hs).2 hb.size⟩, h2.keep (fun p hp => hb.cell (h1 _ hp).2) fun _ h => h, h3.below (fun b hs => (h1 b hs).2) hb⟩
theorem NewR.nil_ (w : World) (l s : Nat) (A : Option Addr) : NewR w l s [] A := ⟨fun _ => False, fun _ h => h.elim, RowD.nil_ _ _ _ _, fun _ h => h.elim⟩
end
def GatS (w : World) (base : Nat) (e : TypeId) (s : Nat) (v : Value) (ds : List D) : Prop :=
 ∃ (S : Nat → Prop) (xs : List Value), OwnR w base e s v ds.length xs ∧ ElsS w S s ds xs ∧ (∀ b, S b → base ≤ b ∧ b < w.heap.size ∧ some b ≠ v.ownBlock) ∧ Unf w S
section
variable {w w' : World} {base : Nat} {e : TypeId} {s : Nat} {v : Value} {ds : List D}
theorem GatS.none_ (w : World) (base : Nat) (e : TypeId) (s : Nat) : GatS w base e s (.slice none 0 0) [] :=
 ⟨fun _ => False, [], OwnR.none_ _ _ _ _, rfl, fun _ h => h.elim, fun _ h => h.elim⟩
theorem GatS.below (h : GatS w base e s v ds) (hb : Below w.heap.size w w') : GatS w' base e s v ds := by
 obtain ⟨S, xs, h1, h2, h3, h4⟩ := h
 exact ⟨S, xs, h1.below hb, h2.keep (fun p hp => hb.cell (h3 _ hp).2.1) fun _ h => h, fun b hs => ⟨(h3 b hs).1, Nat.lt_of_lt_of_le (h3 b hs).2.1 hb.size, (h3 b hs).2.2⟩, h4.below (fun b hs => (h3 b hs).2.1) hb⟩
theorem GatS.done (h : GatS w base e s v ds) : ∃ A c, v = .slice A ds.length c ∧ ds.length ≤ c ∧ NewR w base s ds A := by
 obtain ⟨S, xs, h1, h2, h3, h4⟩ := h
 obtain ⟨A, c, ev, hc, hf⟩ := h1.fl
 refine ⟨A, c, ev, hc, ?_⟩
 rcases h1.2 with ⟨e0, hn⟩ | ⟨g, cap, cur, e1, hg, hh, _⟩
 · obtain rfl : ds = [] := List.length_eq_zero_iff.1 hn
   exact NewR.nil_ _ _ _ _
 · have eA : A = some ⟨g, 0, none⟩ := by rw [ev] at e1; injection e1
   subst eA
   have hgs : g < w.heap.size := (Array.getElem?_eq_some_iff.1 hh).1
   refine ⟨fun b => S b ∨ b = g, fun b hs => ?_, ?_, fun p hp => ?_⟩
   · rcases hs with hs | rfl
     · exact ⟨(h3 b hs).1, (h3 b hs).2.1⟩
     · exact ⟨hg, hgs⟩
   · refine ElsS.row (.inr rfl) (h2.keep (fun _ _ => rfl) fun _ h => .inl h) fun k hk => ?_
     rcases hf with hf | ⟨b, off, e2, _, hf⟩
     · rw [hf] at hk; exact absurd hk (Nat.not_lt_zero _)
     · simp only [Option.some.injEq, Addr.mk.injEq, and_true] at e2
       obtain ⟨rfl, rfl⟩ := e2
       exact hf k hk
   · rcases hp with hp | hp
     · exact h4 p hp
     · unfold World.frozen?; rw [hp, hh]; simp
end
section
open Go
variable {P : Program} (w : World) {t e : TypeId} {s : Nat} {z : Value} {y : Nat}
theorem wpList_gat (hu : RecT P t e s z y) {ops : Array Oper} {rest : List Oper} {o : Oper} {a : Act} {Q : Exit → Act → World → Prop} (hgd : o.guard = none) (sO x : Operand)
 (ho : o.op = .call { callee := .builtin .append, args := #[sO, x], argTypes := #[t, t] })
 (base : Nat) (v : Value) (ds : List D) (hs : a.eval sO = v) (w0 : World) (hg : GatS w0 base e s v ds) (h0 : Below w0.heap.size w0 w) (c : Nat) (cs : Array Value) (hx : a.eval x = .slice (some ⟨w.heap.size, 0, none⟩) 1 c) (hl : cs.size = s)
 (h1 : ∀ u ∈ cs.toList, u.oneCell' = true) (hlen : ds.length + 1 ≤ 1000000000) (hbase : base ≤ w0.heap.size) (d : D) (hd : NewD w w0.heap.size d cs.toList)
 (h : ∀ v' w', GatS w' base e s v' (ds ++ [d]) → Below base w w' → wpList P ops Q rest (a.put o.dst v') w') : wpList P ops Q (o :: rest) a (w.alloc (.cells cs e)) := by
 obtain ⟨S, xs, k1, k2, k3, k4⟩ := hg.below h0
 obtain ⟨S1, m1, m2, m3⟩ := hd
 have ow : ∀ g, v.ownBlock = some g → g < w0.heap.size := fun g e0 => by
  obtain ⟨S', xs', q1, _⟩ := hg
  exact (q1.base_le e0.symm).2
 refine wpList_appRg1 w hu hgd _ rfl sO x ho base v ds.length xs hs k1 c cs hx hl h1 hlen (Nat.le_trans hbase h0.size) fun v' w' r1 r2 r3 r4 => h v' w' ⟨fun b => S b ∨ S1 b, xs ++ cs.toList, by simpa using r1, ?_, fun b hs => ?_, fun p hp => ?_⟩ r2
 · refine ElsS.snoc (by simpa using hl) (m2.keep (fun p hp => ?_) fun _ h => .inr h) (k2.keep (fun p hp => ?_) fun _ h => .inl h)
   · have a1 := m1 _ hp
     exact World.cell?_of_block (r3.block _ a1.2 (fun e0 => by have := ow _ e0.symm; omega))
   · have a1 := k3 _ hp
     exact World.cell?_of_block (r3.block _ a1.2.1 a1.2.2)
 · rcases hs with hs | hs
   · have a1 := k3 b hs
     exact ⟨a1.1, Nat.lt_of_lt_of_le a1.2.1 r3.size, ne_own a1.2.2 r4 (by omega)⟩
   · have a1 := m1 b hs
     exact ⟨Nat.le_trans hbase a1.1, Nat.lt_of_lt_of_le a1.2 r3.size, ne_own (fun e0 => by have := ow _ e0.symm; omega) r4 (by omega)⟩
 · rcases hp with hp | hp
   · have a1 := k3 _ hp
     exact (World.frozen?_of_block (r3.block _ a1.2.1 a1.2.2)).trans (k4 p hp)
   · have a1 := m1 _ hp
     exact (World.frozen?_of_block (r3.block _ a1.2 (fun e0 => by have := ow _ e0.symm; omega))).trans (m3 p hp)
end
end Go.Proofs.YthfoomobicbcpaaGreatDoor
namespace Go.Proofs.YthfoomobicbcpaaGreatDoor
open Go.ChangeShapes Go.WideShapes Go.ChangeAt Go.RowKit Mem
inductive V where
 | mk (k n bt : Int) (bs : List UInt8) (its : List V) (ks : List ByteArray)
namespace V
def k : V → Int | .mk k _ _ _ _ _ => k
def n : V → Int | .mk _ n _ _ _ _ => n
def bt : V → Int | .mk _ _ b _ _ _ => b
def bs : V → List UInt8 | .mk _ _ _ b _ _ => b
def its : V → List V | .mk _ _ _ _ i _ => i
def ks : V → List ByteArray | .mk _ _ _ _ _ k => k
theorem lt_its {v : V} {i : Nat} (h : i < v.its.length) : SizeOf.sizeOf (v.its[i]'h) < SizeOf.sizeOf v := by
 cases v with
 | mk k n b bs its ks =>
  have h' : i < its.length := h
  have := List.sizeOf_lt_of_mem (List.getElem_mem h')
  show SizeOf.sizeOf (its[i]'h') < _
  simp only [mk.sizeOf_spec]; omega
end V
def u8D (x : UInt8) : D := .i .u8 ((x.toNat : Nat) : Int)
mutual
def V.enc : V → D
 | .mk k n b bs its ks => .ag [.i .i64 k, .i .i64 n, .i .u64 b, .sl 1 (bs.map u8D), .sl 6 (V.encs its), .sl 1 (ks.map D.s)]
def V.encs : List V → List D
 | [] => []
 | j :: r => V.enc j :: V.encs r
end
theorem V.encs_map : ∀ (l : List V), V.encs l = l.map V.enc
 | [] => by unfold V.encs; rfl
 | j :: r => by unfold V.encs; rw [V.encs_map r]; rfl
theorem row_bys {w : World} {B : Nat} : ∀ {l : List UInt8} {A : Option Addr}, RowD w (· < B) 1 (l.map u8D) A → Bys w B A l
 | [], _, _ => .inl rfl
 | x :: r, A, h => by
  obtain ⟨g, off, cs, e, hg, _, _, _⟩ := h.at_ (i := 0) (by simp)
  refine .inr ⟨g, off, e, hg, fun k hk => ?_⟩
  obtain ⟨g', off', cs', e', _, hl, hc, hd⟩ := h.at_ (i := k) (by simpa using hk)
  rw [e] at e'
  simp only [Option.some.injEq, Addr.mk.injEq, and_true] at e'
  obtain ⟨rfl, rfl⟩ := e'
  have := hc 0 (by omega)
  rw [List.getElem_map] at hd
  rw [lies_i.1 hd] at this
  rw [Nat.mul_one, Nat.add_zero] at this
  rw [this, List.getD_eq_getElem?_getD, List.getElem?_eq_getElem hk]
  rfl
theorem bys_row {w : World} {S : Nat → Prop} {A : Option Addr} {l : List UInt8} (h : FlS w S A (l.map cel)) : RowD w S 1 (l.map u8D) A := row_of u8D cel (fun _ => lies_i.2 rfl) h
section
variable {w : World} {S : Nat → Prop}
theorem V.out {v : V} {cs : List Value} : Lies w S v.enc cs ↔ ∃ A3 c3 A4 c4 A5 c5, cs = [.int .i64 v.k, .int .i64 v.n, .int .u64 v.bt, .slice A3 v.bs.length c3, .slice A4 v.its.length c4, .slice A5 v.ks.length c5] ∧
 Len v.bs.length c3 ∧ RowD w S 1 (v.bs.map u8D) A3 ∧ Len v.its.length c4 ∧ RowD w S 6 (v.its.map V.enc) A4 ∧ Len v.ks.length c5 ∧ FlS w S A5 (v.ks.map Value.string) := by
 cases v with
 | mk k n b bs its ks =>
 simp only [V.k, V.n, V.bt, V.bs, V.its, V.ks]
 unfold V.enc
 rw [lies_ag]
 simp only [liesA_cons, liesA_nil, lies_i, lies_sl, List.length_map, row_strs, V.encs_map]
 constructor
 · rintro ⟨_, _, rfl, rfl, _, _, rfl, rfl, _, _, rfl, rfl, _, _, rfl, ⟨A3, c3, rfl, h1, h2, h3⟩, _, _, rfl, ⟨A4, c4, rfl, h4, h5, h6⟩, _, _, rfl, ⟨A5, c5, rfl, h7, h8, h9⟩, rfl⟩
   exact ⟨A3, c3, A4, c4, A5, c5, rfl, ⟨h1, h2⟩, h3, ⟨h4, h5⟩, h6, ⟨h7, h8⟩, h9⟩
 · rintro ⟨A3, c3, A4, c4, A5, c5, rfl, ⟨h1, h2⟩, h3, ⟨h4, h5⟩, h6, ⟨h7, h8⟩, h9⟩
   exact ⟨[_], _, rfl, rfl, [_], _, rfl, rfl, [_], _, rfl, rfl, [_], _, rfl, ⟨A3, c3, rfl, h1, h2, h3⟩, [_], _, rfl, ⟨A4, c4, rfl, h4, h5, h6⟩, [_], [], rfl, ⟨A5, c5, rfl, h7, h8, h9⟩, rfl⟩
theorem values_at {l : List V} {A : Option Addr} (h : RowD w S 6 (l.map V.enc) A) {i : Nat} (hi : i < l.length) : ∃ g off A3 c3 A4 c4 A5 c5, A = some ⟨g, off, none⟩ ∧ S g ∧
 (w.cell? ⟨g, off + i * 6, none⟩ = some (.int .i64 (l[i]'hi).k) ∧ w.cell? ⟨g, off + i * 6 + 1, none⟩ = some (.int .i64 (l[i]'hi).n) ∧ w.cell? ⟨g, off + i * 6 + 2, none⟩ = some (.int .u64 (l[i]'hi).bt) ∧
  w.cell? ⟨g, off + i * 6 + 3, none⟩ = some (.slice A3 (l[i]'hi).bs.length c3) ∧ w.cell? ⟨g, off + i * 6 + 4, none⟩ = some (.slice A4 (l[i]'hi).its.length c4) ∧ w.cell? ⟨g, off + i * 6 + 5, none⟩ = some (.slice A5 (l[i]'hi).ks.length c5)) ∧
 Lies w S (l[i]'hi).enc [.int .i64 (l[i]'hi).k, .int .i64 (l[i]'hi).n, .int .u64 (l[i]'hi).bt, .slice A3 (l[i]'hi).bs.length c3, .slice A4 (l[i]'hi).its.length c4, .slice A5 (l[i]'hi).ks.length c5] := by
 obtain ⟨g, off, cs, e, hg, hl, hc, hd⟩ := h.at_ (i := i) (by simpa using hi)
 rw [List.getElem_map] at hd
 obtain ⟨A3, c3, A4, c4, A5, c5, rfl, _⟩ := V.out.1 hd
 exact ⟨g, off, A3, c3, A4, c4, A5, c5, e, hg, ⟨hc 0 (by omega), hc 1 (by omega), hc 2 (by omega), hc 3 (by omega), hc 4 (by omega), hc 5 (by omega)⟩, hd⟩
end
mutual
/-- Numbers of 64 bits. -/
def V.rng : V → Prop
 | .mk k n b _ its _ => I64 k ∧ I64 n ∧ (0 ≤ b ∧ b ≤ 18446744073709551615) ∧ V.rngs its
def V.rngs : List V → Prop
 | [] => True
 | j :: r => V.rng j ∧ V.rngs r
end
end Go.Proofs.YthfoomobicbcpaaGreatDoor
namespace Go.Proofs.YthfoomobicbcpaaGreatDoor
def named (k : Int) : Bool := decide (k = 9 ∨ k = 10 ∨ k = 14)
def Nd.kids (n : Nd) : List Int := if n.k = 9 then n.fs.map Fd.ty else if n.k = 11 ∨ n.k = 12 then [n.items] else if n.k = 13 then n.br else []
def Sc.kind (s : Sc) (i : Int) : Int := if 0 ≤ i then ((s.nodes[i.toNat]?).map Nd.k).getD 0 else 0
def Sc.kidsAt (s : Sc) (i : Nat) : List Int := ((s.nodes[i]?).map Nd.kids).getD []
mutual
/-- From a node that is the next one, which one is the next then. -/
def met (s : Sc) : Nat → Nat → Option Nat
 | 0, _ => none
 | f + 1, at_ => if s.nodes.length ≤ at_ then none else metK s f (s.kidsAt at_) (at_ + 1)
/-- .. behind some kids. -/
def metK (s : Sc) : Nat → List Int → Nat → Option Nat
 | _, [], next => some next
 | f, k :: r, next => if k < 0 ∨ (next : Int) < k ∨ (k < (next : Int) ∧ named (s.kind k) = false) then none
  else if k = (next : Int) then (match met s f next with
   | none => none
   | some nx => metK s f r nx)
  else metK s f r next
end
def Sc.ordered (s : Sc) : Prop := 1 ≤ s.nodes.length ∧ s.nodes.length ≤ 200 ∧ s.root = 0 ∧ met s 33 0 = some s.nodes.length
def Good (s : Sc) (a b : Nat) : Prop := (∀ j, a ≤ j → j < b → ∀ k ∈ s.kidsAt j, 0 ≤ k ∧ k < (b : Int) ∧ (k ≤ (j : Int) → named (s.kind k) = true)) ∧ ∀ i, a < i → i < b → ∃ j, a ≤ j ∧ j < i ∧ (i : Int) ∈ s.kidsAt j
mutual
theorem met_good (s : Sc) : ∀ (f a b : Nat), met s f a = some b → a < b ∧ b ≤ s.nodes.length ∧ Good s a b
 | 0, _, _, h => by unfold met at h; cases h
 | f + 1, a, b, h => by
  unfold met at h
  by_cases h0 : s.nodes.length ≤ a
  · rw [if_pos h0] at h; cases h
  · rw [if_neg h0] at h
    obtain ⟨h1, h2, h3, h4, h5⟩ := metK_good s f (s.kidsAt a) a (a + 1) b h (by omega) (by omega) (fun k hk => hk) (fun j h1 h2 => by omega) (fun i h1 h2 => by omega)
    refine ⟨by omega, h2, fun j hj hb k hk => ?_, h5⟩
    rcases Nat.eq_or_lt_of_le hj with e | e
    · subst e; exact h3 k hk
    · exact h4 j e hb k hk
/-- .. behind some kids of the node a: the nodes behind it, up to the next one, are good. -/
theorem metK_good (s : Sc) : ∀ (f : Nat) (l : List Int) (a next b : Nat), metK s f l next = some b → a < next → next ≤ s.nodes.length → (∀ k ∈ l, k ∈ s.kidsAt a) →
 (∀ j, a < j → j < next → ∀ k ∈ s.kidsAt j, 0 ≤ k ∧ k < (next : Int) ∧ (k ≤ (j : Int) → named (s.kind k) = true)) →
 (∀ i, a < i → i < next → ∃ j, a ≤ j ∧ j < i ∧ (i : Int) ∈ s.kidsAt j) →
 next ≤ b ∧ b ≤ s.nodes.length ∧ (∀ k ∈ l, 0 ≤ k ∧ k < (b : Int) ∧ (k ≤ (a : Int) → named (s.kind k) = true)) ∧
  (∀ j, a < j → j < b → ∀ k ∈ s.kidsAt j, 0 ≤ k ∧ k < (b : Int) ∧ (k ≤ (j : Int) → named (s.kind k) = true)) ∧
  (∀ i, a < i → i < b → ∃ j, a ≤ j ∧ j < i ∧ (i : Int) ∈ s.kidsAt j)
 | f, [], a, next, b, h, ha, hn, _, hg, hi => by
  unfold metK at h
  simp only [Option.some.injEq] at h
  subst h
  exact ⟨Nat.le_refl _, hn, fun k hk => by simp at hk, hg, hi⟩
 | f, k :: r, a, next, b, h, ha, hn, hl, hg, hi => by
  unfold metK at h
  by_cases h0 : k < 0 ∨ (next : Int) < k ∨ (k < (next : Int) ∧ named (s.kind k) = false)
  · rw [if_pos h0] at h; cases h
  · rw [if_neg h0] at h
    have hk0 : 0 ≤ k := by omega
    by_cases h1 : k = (next : Int)
    · rw [if_pos h1] at h
      rcases hm : met s f next with _ | nx
      · rw [hm] at h; cases h
      · rw [hm] at h
        obtain ⟨g1, g2, g3, g4⟩ := met_good s f next nx hm
        have step := metK_good s f r a nx b h (by omega) g2 (fun k hk => hl k (by simp [hk])) (fun j h1 h2 k hk => by
         rcases Nat.lt_or_ge j next with g | g
         · have := hg j h1 g k hk; exact ⟨this.1, by omega, this.2.2⟩
         · exact g3 j g h2 k hk) (fun i h3 h2 => by
         rcases Nat.lt_trichotomy i next with g | g | g
         · exact hi i h3 g
         · subst g
           exact ⟨a, Nat.le_refl _, ha, by rw [← h1]; exact hl k (by simp)⟩
         · obtain ⟨j, e1, e2, e3⟩ := g4 i g h2
           exact ⟨j, by omega, e2, e3⟩)
        obtain ⟨s1, s2, s3, s4, s5⟩ := step
        refine ⟨by omega, s2, fun q hq => ?_, s4, s5⟩
        rcases List.mem_cons.1 hq with e | e
        · subst e; exact ⟨hk0, by omega, fun hh => by omega⟩
        · exact s3 q e
    · rw [if_neg h1] at h
      obtain ⟨s1, s2, s3, s4, s5⟩ := metK_good s f r a next b h ha hn (fun k hk => hl k (by simp [hk])) hg hi
      refine ⟨s1, s2, fun q hq => ?_, s4, s5⟩
      rcases List.mem_cons.1 hq with e | e
      · subst e
        have nk : named (s.kind q) = true := by
         rcases hq : named (s.kind q) with _ | _
         · exact absurd (.inr (.inr ⟨by omega, hq⟩)) h0
         · rfl
        exact ⟨hk0, by omega, fun _ => nk⟩
      · exact s3 q e
end
theorem ordered_good {s : Sc} (h : s.ordered) : Good s 0 s.nodes.length := (met_good s _ _ _ h.2.2.2).2.2
end Go.Proofs.YthfoomobicbcpaaGreatDoor
namespace Go.Proofs.YthfoomobicbcpaaGreatDoor
open Go.ChangeShapes Go.WideShapes Go.ChangeAt Go.RowKit Mem
theorem str_beq (a b : ByteArray) : (a.toList == b.toList) = decide (a = b) := by
 rw [Bool.eq_iff_iff, beq_iff_eq, decide_eq_true_eq, ByteArray.toList_eq, ByteArray.toList_eq]
 constructor
 · intro h; exact ByteArray.ext (Array.toList_inj.1 h)
 · intro h; rw [h]
theorem str_bne (a b : ByteArray) : (a.toList != b.toList) = !decide (a = b) := by unfold bne; rw [str_beq]
def Drewn7 (W w : World) : Prop := ∃ n, w = W.drewN n
def Told (b : Bool) (w : World) (e : Ending) (w' : World) : Prop := e = .returned (.bool b) ∧ Below w.heap.size w w'
theorem told_ret {b c : Bool} {w w' : World} (h : b = c) (hb : Below w.heap.size w w') : Told b w (.returned (.bool c)) w' := by subst h; exact ⟨rfl, hb⟩
end Go.Proofs.YthfoomobicbcpaaGreatDoor
namespace Go.Proofs.YthfoomobicbcpaaGreatDoor
open Go.ChangeShapes Go.WideShapes Go.ChangeAt Go.RowKit Mem
mutual
/-- How deep a tree is. -/
def J.deep : J → Nat
 | .mk k _ _ its _ => if k = 5 ∨ k = 6 then J.deeps its else 0
/-- One more than the deepest of some trees; 1 at least. -/
def J.deeps : List J → Nat
 | [] => 1
 | j :: r => max (J.deep j + 1) (J.deeps r)
end
theorem J.deep_in {j : J} (h : j.k = 5 ∨ j.k = 6) : j.deep = J.deeps j.its := by cases j; unfold J.deep; exact if_pos h
theorem J.deep_out {j : J} (h : ¬ (j.k = 5 ∨ j.k = 6)) : j.deep = 0 := by cases j; unfold J.deep; exact if_neg h
theorem J.deeps_snoc (l : List J) (j : J) : J.deeps (l ++ [j]) = max (J.deeps l) (j.deep + 1) := by
 induction l with
 | nil => simp only [List.nil_append, J.deeps]; omega
 | cons x r ih => simp only [List.cons_append, J.deeps, ih]; omega
theorem J.deeps_take {l : List J} {i : Nat} (h : i < l.length) : J.deeps (l.take (i + 1)) = max (J.deeps (l.take i)) ((l[i]'h).deep + 1) := by
 rw [List.take_succ_eq_append_getElem h, J.deeps_snoc]
theorem J.deeps_le (l : List J) (i : Nat) : J.deeps (l.take i) ≤ J.deeps l := by
 induction l generalizing i with
 | nil => simp
 | cons x r ih =>
  cases i with
  | zero => simp only [List.take_zero, J.deeps]; have := ih 0; simp only [List.take_zero, J.deeps] at this; omega
  | succ i => simp only [List.take_succ_cons, J.deeps]; have := ih i; omega
theorem J.deeps_pos (l : List J) : 1 ≤ J.deeps l := by
 cases l with
 | nil => exact Nat.le_refl _
 | cons x r => simp only [J.deeps]; omega
theorem J.deep_at {l : List J} {i : Nat} (h : i < l.length) : (l[i]'h).deep + 1 ≤ J.deeps l := by
 have := J.deeps_take h; have := J.deeps_le l (i + 1); omega
def Num_ (n : Nat) (w : World) (e : Ending) (w' : World) : Prop := e = .returned (.int .i64 (n : Int)) ∧ Below w.heap.size w w'
theorem num_ret {n : Nat} {z : Int} {w w' : World} (h : z = (n : Int)) (hb : Below w.heap.size w w') : Num_ n w (.returned (.int .i64 z)) w' := by subst h; exact ⟨rfl, hb⟩
end Go.Proofs.YthfoomobicbcpaaGreatDoor
namespace Go.Proofs.YthfoomobicbcpaaGreatDoor
theorem J.deeps_bound {M : Nat} (hM : 1 ≤ M) : ∀ {l : List J}, (∀ i (h : i < l.length), (l[i]'h).deep + 1 ≤ M) → J.deeps l ≤ M
 | [], _ => by unfold J.deeps; exact hM
 | j :: r, h => by
  unfold J.deeps
  have h0 := h 0 (by simp)
  have hr := J.deeps_bound hM (l := r) (fun i hi => by have := h (i + 1) (by simpa using hi); simpa using this)
  simp at h0
  omega
theorem J.deep_bound {j : J} {M : Nat} (hM : 1 ≤ M) (h : ∀ i (g : i < j.its.length), (j.its[i]'g).deep + 1 ≤ M) : j.deep ≤ M := by
 by_cases hk : j.k = 5 ∨ j.k = 6
 · rw [J.deep_in hk]; exact J.deeps_bound hM h
 · rw [J.deep_out hk]; omega
def kwt : List ByteArray → Nat
 | [] => 0
 | k :: r => 1 + k.size + kwt r
mutual
/-- How many parts and bytes a tree has. -/
def J.wt : J → Nat
 | .mk _ _ t its ks => 1 + t.size + kwt ks + J.wts its
def J.wts : List J → Nat
 | [] => 0
 | j :: r => J.wt j + J.wts r
end
theorem kwt_take : ∀ {l : List ByteArray} {i : Nat} (h : i < l.length), kwt (l.take (i + 1)) = kwt (l.take i) + 1 + (l[i]'h).size
 | [], _, h => absurd h (Nat.not_lt_zero _)
 | k :: r, 0, _ => by simp [kwt]
 | k :: r, i + 1, h => by
  have := kwt_take (l := r) (i := i) (by simpa using h)
  simp only [List.take_succ_cons, kwt, List.getElem_cons_succ]; omega
theorem J.wts_take : ∀ {l : List J} {i : Nat} (h : i < l.length), J.wts (l.take (i + 1)) = J.wts (l.take i) + (l[i]'h).wt
 | [], _, h => absurd h (Nat.not_lt_zero _)
 | k :: r, 0, _ => by simp [J.wts]
 | k :: r, i + 1, h => by
  have := J.wts_take (l := r) (i := i) (by simpa using h)
  simp only [List.take_succ_cons, J.wts, List.getElem_cons_succ]; omega
theorem kwt_at : ∀ {l : List ByteArray} {i : Nat} (h : i < l.length), (l[i]'h).size ≤ kwt l
 | [], _, h => absurd h (Nat.not_lt_zero _)
 | k :: r, 0, _ => by simp [kwt]; omega
 | k :: r, i + 1, h => by
  have := kwt_at (l := r) (i := i) (by simpa using h)
  simp only [kwt, List.getElem_cons_succ]; omega
theorem wts_at : ∀ {l : List J} {i : Nat} (h : i < l.length), (l[i]'h).wt ≤ J.wts l
 | [], _, h => absurd h (Nat.not_lt_zero _)
 | k :: r, 0, _ => by simp [J.wts]
 | k :: r, i + 1, h => by
  have := wts_at (l := r) (i := i) (by simpa using h)
  simp only [J.wts, List.getElem_cons_succ]; omega
def deepK (k : Int) : Prop := k = 9 ∨ k = 11 ∨ k = 12 ∨ k = 13
instance (k : Int) : Decidable (deepK k) := by unfold deepK; infer_instance
mutual
/-- How deep a value is. -/
def V.deep : V → Nat
 | .mk k _ _ _ its _ => if deepK k then V.deeps its + 1 else 0
/-- The deepest of some values; 0. -/
def V.deeps : List V → Nat
 | [] => 0
 | v :: r => max (V.deep v) (V.deeps r)
end
theorem V.deep_in {v : V} (h : deepK v.k) : v.deep = V.deeps v.its + 1 := by cases v; unfold V.deep; exact if_pos h
theorem V.deep_out {v : V} (h : ¬ deepK v.k) : v.deep = 0 := by cases v; unfold V.deep; exact if_neg h
theorem V.deeps_snoc (l : List V) (v : V) : V.deeps (l ++ [v]) = max (V.deeps l) v.deep := by
 induction l with
 | nil => simp only [List.nil_append, V.deeps]; omega
 | cons x r ih => simp only [List.cons_append, V.deeps, ih]; omega
theorem V.deeps_take {l : List V} {i : Nat} (h : i < l.length) : V.deeps (l.take (i + 1)) = max (V.deeps (l.take i)) (l[i]'h).deep := by
 rw [List.take_succ_eq_append_getElem h, V.deeps_snoc]
theorem V.deeps_le (l : List V) (i : Nat) : V.deeps (l.take i) ≤ V.deeps l := by
 induction l generalizing i with
 | nil => simp
 | cons x r ih =>
  cases i with
  | zero => simp [V.deeps]
  | succ i => simp only [List.take_succ_cons, V.deeps]; have := ih i; omega
theorem V.deeps_at {l : List V} {i : Nat} (h : i < l.length) : (l[i]'h).deep ≤ V.deeps l := by
 have h1 := V.deeps_take h
 have h2 := V.deeps_le l (i + 1)
 omega
mutual
/-- How many parts and bytes a value has. -/
def V.wt : V → Nat
 | .mk _ _ _ bs its ks => 1 + bs.length + kwt ks + V.wts its
def V.wts : List V → Nat
 | [] => 0
 | j :: r => V.wt j + V.wts r
end
theorem V.wts_take : ∀ {l : List V} {i : Nat} (h : i < l.length), V.wts (l.take (i + 1)) = V.wts (l.take i) + (l[i]'h).wt
 | [], _, h => absurd h (Nat.not_lt_zero _)
 | k :: r, 0, _ => by simp [V.wts]
 | k :: r, i + 1, h => by
  have := V.wts_take (l := r) (i := i) (by simpa using h)
  simp only [List.take_succ_cons, V.wts, List.getElem_cons_succ]; omega
theorem vwts_at : ∀ {l : List V} {i : Nat} (h : i < l.length), (l[i]'h).wt ≤ V.wts l
 | [], _, h => absurd h (Nat.not_lt_zero _)
 | k :: r, 0, _ => by simp [V.wts]
 | k :: r, i + 1, h => by
  have := vwts_at (l := r) (i := i) (by simpa using h)
  simp only [V.wts, List.getElem_cons_succ]; omega
theorem vwts_len : ∀ (l : List V), l.length ≤ V.wts l
 | [] => Nat.zero_le _
 | .mk _ _ _ _ _ _ :: r => by have := vwts_len r; simp only [List.length_cons, V.wts, V.wt]; omega
def Sc.node (s : Sc) (a : Int) : Nd := (s.nodes[a.toNat]?).getD ⟨0, ⟨#[]⟩, [], [], [], false, ⟨#[]⟩, 0, 0, []⟩
def VOwn (nd : Nd) (n bt : Int) (bs : List UInt8) (m : Nat) (ks : List ByteArray) : Prop :=
 (if nd.k = 2 then n = 0 ∨ n = 1 else if nd.k = 3 then -2147483648 ≤ n ∧ n ≤ 2147483647 else if nd.k = 4 then True else if nd.k = 10 then 0 ≤ n ∧ n < (nd.sy.length : Int) else if nd.k = 13 then 0 ≤ n ∧ n < (nd.br.length : Int) else n = 0) ∧
 (if nd.k = 5 then bt < 4294967296 else if nd.k = 6 then True else bt = 0) ∧
 (if nd.k = 7 then True else if nd.k = 8 then (Num.cU bs).isSome = true else if nd.k = 14 then (bs.length : Int) = nd.size else bs = []) ∧
 (if nd.k = 12 then ks.length = m ∧ ∀ x ∈ ks, x.size ≤ 20000 ∧ (Num.cU x.data.toList).isSome = true else ks = [])
def VKids (nd : Nd) (n : Int) (m : Nat) : List Int := if nd.k = 9 then nd.fs.map Fd.ty else if nd.k = 11 ∨ nd.k = 12 then List.replicate m nd.items else if nd.k = 13 then (nd.br[n.toNat]?).toList else []
mutual
/-- Is a value one of a node? -/
def V.is (s : Sc) : V → Int → Prop
 | .mk k n bt bs its ks, a => 0 ≤ a ∧ a < (s.nodes.length : Int) ∧ k = (s.node a).k ∧ bs.length ≤ 20000 ∧ its.length ≤ 300 ∧ VOwn (s.node a) n bt bs its.length ks ∧ V.all s its (VKids (s.node a) n its.length)
def V.all (s : Sc) : List V → List Int → Prop
 | [], ts => ts = []
 | v :: r, ts => ∃ t q, ts = t :: q ∧ V.is s v t ∧ V.all s r q
end
theorem V.all_iff {s : Sc} : ∀ {l : List V} {ts : List Int}, V.all s l ts ↔ ts.length = l.length ∧ ∀ i (h : i < l.length) (g : i < ts.length), V.is s (l[i]'h) (ts[i]'g)
 | [], ts => by
  unfold V.all
  constructor
  · rintro rfl; exact ⟨rfl, fun i h => absurd h (Nat.not_lt_zero _)⟩
  · rintro ⟨h, _⟩; exact List.length_eq_zero_iff.1 h
 | v :: r, ts => by
  unfold V.all
  constructor
  · rintro ⟨t, q, rfl, h1, h2⟩
    obtain ⟨h3, h4⟩ := V.all_iff.1 h2
    refine ⟨by simp [h3], fun i h g => ?_⟩
    cases i with
    | zero => exact h1
    | succ i => exact h4 i (by simpa using h) (by simpa using g)
  · rintro ⟨h1, h2⟩
    cases ts with
    | nil => simp at h1
    | cons t q => exact ⟨t, q, rfl, h2 0 (by simp) (by simp), V.all_iff.2 ⟨by simpa using h1, fun i h g => h2 (i + 1) (by simpa using h) (by simpa using g)⟩⟩
def capF (W : Nat → Nat) : List Int → Nat → Nat
 | [], w => w
 | k :: r, w => capF W r (min (w + W k.toNat) 1001)
def wtR (s : Sc) : Nat → Nat → Nat
 | 0, _ => 1
 | r + 1, i => if s.kind i = 9 then capF (wtR s r) (s.kidsAt i) 1 else 1
theorem capF_mono {W V : Nat → Nat} (h : ∀ i, W i ≤ V i) : ∀ (l : List Int) (a b : Nat), a ≤ b → capF W l a ≤ capF V l b
 | [], _, _, hab => hab
 | k :: r, a, b, hab => by
  unfold capF
  exact capF_mono h r _ _ (by have := h k.toNat; omega)
theorem capF_le (W : Nat → Nat) : ∀ (l : List Int) (a : Nat), a ≤ 1001 → capF W l a ≤ 1001
 | [], _, h => h
 | k :: r, a, h => by
  unfold capF
  exact capF_le W r _ (by omega)
theorem capF_ge (W : Nat → Nat) : ∀ (l : List Int) (a : Nat), min a 1001 ≤ capF W l a
 | [], a => by unfold capF; omega
 | k :: r, a => by
  unfold capF
  have := capF_ge W r (min (a + W k.toNat) 1001)
  omega
theorem wtR_le (s : Sc) : ∀ (r i : Nat), wtR s r i ≤ 1001
 | 0, _ => by unfold wtR; omega
 | r + 1, i => by
  unfold wtR
  split
  · exact capF_le _ _ _ (by omega)
  · omega
theorem wtR_pos (s : Sc) : ∀ (r i : Nat), 1 ≤ wtR s r i
 | 0, _ => by unfold wtR; omega
 | r + 1, i => by
  unfold wtR
  split
  · have := capF_ge (wtR s r) (s.kidsAt i) 1; omega
  · omega
theorem wtR_mono (s : Sc) : ∀ (r i : Nat), wtR s r i ≤ wtR s (r + 1) i
 | 0, i => by have := wtR_pos s 1 i; unfold wtR at this ⊢; exact this
 | r + 1, i => by
  rw [wtR, wtR]
  split
  · exact capF_mono (wtR_mono s r) _ _ _ (Nat.le_refl _)
  · omega
theorem wtR_out {s : Sc} {i : Nat} (h : s.nodes.length ≤ i) : ∀ r, wtR s r i = 1
 | 0 => by unfold wtR; rfl
 | r + 1 => by
  unfold wtR
  have : s.kind i ≠ 9 := by
   unfold Sc.kind
   rw [if_pos (by omega), Int.toNat_natCast, List.getElem?_eq_none h]
   decide
  rw [if_neg this]
def sumN (W : Nat → Nat) : Nat → Nat
 | 0 => 0
 | n + 1 => sumN W n + W n
theorem sumN_le {W V : Nat → Nat} (h : ∀ i, W i ≤ V i) : ∀ n, sumN W n ≤ sumN V n
 | 0 => Nat.le_refl _
 | n + 1 => by unfold sumN; have := sumN_le h n; have := h n; omega
theorem sumN_lt {W V : Nat → Nat} (h : ∀ i, W i ≤ V i) : ∀ {n i : Nat}, i < n → W i < V i → sumN W n < sumN V n
 | 0, _, hi, _ => absurd hi (Nat.not_lt_zero _)
 | n + 1, i, hi, hl => by
  unfold sumN
  rcases Nat.lt_or_ge i n with g | g
  · have := sumN_lt h g hl; have := h n; omega
  · obtain rfl : i = n := by omega
    have := sumN_le h i; omega
theorem sumN_bound {W : Nat → Nat} {M : Nat} (h : ∀ i, W i ≤ M) : ∀ n, sumN W n ≤ M * n
 | 0 => Nat.zero_le _
 | n + 1 => by unfold sumN; have := sumN_bound h n; have := h n; rw [Nat.mul_succ]; omega
theorem wtR_stays {s : Sc} {r : Nat} (h : wtR s (r + 1) = wtR s r) : ∀ k, wtR s (r + k) = wtR s r
 | 0 => rfl
 | k + 1 => by
  have ih := wtR_stays h k
  funext i
  show wtR s (r + k + 1) i = _
  rw [wtR, ih, ← h, wtR]
  rw [h]
theorem wtR_stable (s : Sc) : ∃ r, r ≤ 1001 * s.nodes.length ∧ wtR s (r + 1) = wtR s r := by
 by_cases h : ∃ r, r ≤ 1001 * s.nodes.length ∧ wtR s (r + 1) = wtR s r
 · exact h
 · exfalso
   have grow : ∀ r, r ≤ 1001 * s.nodes.length → sumN (wtR s r) s.nodes.length < sumN (wtR s (r + 1)) s.nodes.length := fun r hr => by
    have ne : wtR s (r + 1) ≠ wtR s r := fun e => h ⟨r, hr, e⟩
    have : ∃ i, i < s.nodes.length ∧ wtR s r i < wtR s (r + 1) i := by
     apply Classical.byContradiction
     intro hn
     apply ne
     funext i
     have m := wtR_mono s r i
     rcases Nat.lt_or_ge i s.nodes.length with g | g
     · rcases Nat.lt_or_ge (wtR s r i) (wtR s (r + 1) i) with g2 | g2
       · exact absurd ⟨i, g, g2⟩ hn
       · omega
     · rw [wtR_out g, wtR_out g]
    obtain ⟨i, hi, hl⟩ := this
    exact sumN_lt (wtR_mono s r) hi hl
   have least : ∀ r, r ≤ 1001 * s.nodes.length + 1 → r ≤ sumN (wtR s r) s.nodes.length := by
    intro r
    induction r with
    | zero => exact fun _ => Nat.zero_le _
    | succ r ih => intro hr; have := ih (by omega); have := grow r (by omega); omega
   have a := least (1001 * s.nodes.length + 1) (Nat.le_refl _)
   have b := sumN_bound (wtR_le s (1001 * s.nodes.length + 1)) s.nodes.length
   omega
def Sc.wt (s : Sc) (i : Nat) : Nat := wtR s (1001 * s.nodes.length) i
theorem Sc.wt_fix (s : Sc) (i : Nat) : s.wt i = if s.kind i = 9 then capF s.wt (s.kidsAt i) 1 else 1 := by
 obtain ⟨r, hr, he⟩ := wtR_stable s
 have e1 : wtR s (1001 * s.nodes.length) = wtR s r := by
  have := wtR_stays he (1001 * s.nodes.length - r)
  rwa [show r + (1001 * s.nodes.length - r) = 1001 * s.nodes.length by omega] at this
 have e2 : s.wt = wtR s r := e1
 rw [e2, ← he, wtR, he]
theorem Sc.wt_le (s : Sc) (i : Nat) : 1 ≤ s.wt i ∧ s.wt i ≤ 1001 := ⟨wtR_pos _ _ _, wtR_le _ _ _⟩
theorem capF_snoc (W : Nat → Nat) (k : Int) : ∀ (l : List Int) (w : Nat), capF W (l ++ [k]) w = min (capF W l w + W k.toNat) 1001
 | [], w => rfl
 | x :: r, w => by
  rw [List.cons_append]
  unfold capF
  exact capF_snoc W k r _
end Go.Proofs.YthfoomobicbcpaaGreatDoor
namespace Go.Proofs.YthfoomobicbcpaaGreatDoor
def meetM (s : Sc) (f m : Nat) (p : Int) : Option Nat := if p < 0 ∨ (m : Int) < p ∨ (p < (m : Int) ∧ named (s.kind p) = false) then none else if p = (m : Int) then met s f m else some m
theorem metK_cons (s : Sc) (f m : Nat) (k : Int) (r : List Int) : metK s f (k :: r) m = (meetM s f m k).bind (metK s f r) := by
 rw [metK]
 unfold meetM
 split
 · rfl
 · split
   · cases met s f m <;> rfl
   · rfl
theorem metK_some {s : Sc} {f m m' : Nat} {k : Int} {r : List Int} (h : meetM s f m k = some m') : metK s f (k :: r) m = metK s f r m' := by rw [metK_cons, h]; rfl
theorem metK_none {s : Sc} {f m : Nat} {k : Int} {r : List Int} (h : meetM s f m k = none) : metK s f (k :: r) m = none := by rw [metK_cons, h]; rfl
theorem meetM_le {s : Sc} {f m m' : Nat} {p : Int} (hm : m ≤ s.nodes.length) (h : meetM s f m p = some m') : m' ≤ s.nodes.length := by
 unfold meetM at h
 split at h
 · cases h
 · split at h
   · exact (met_good s f m m' h).2.1
   · injection h with h; omega
theorem met_in {s : Sc} {f m : Nat} (h : m < s.nodes.length) : met s (f + 1) m = metK s f (s.kidsAt m) (m + 1) := by rw [met, if_neg (by omega)]
theorem met_out {s : Sc} {f m : Nat} (h : s.nodes.length ≤ m) : met s f m = none := by
 cases f with
 | zero => rw [met]
 | succ f => rw [met, if_pos h]
def Sc.edge (s : Sc) (i j : Nat) : Prop := s.kind i = 9 ∧ (j : Int) ∈ s.kidsAt i
inductive Sc.path (s : Sc) : Nat → Nat → Prop where
 | one {i j : Nat} (h : s.edge i j) : Sc.path s i j
 | more {i j k : Nat} (h : Sc.path s i j) (e : s.edge j k) : Sc.path s i k
theorem capF_in (W : Nat → Nat) : ∀ (l : List Int) (a : Nat) (k : Int), k ∈ l → min (a + W k.toNat) 1001 ≤ capF W l a
 | [], _, _, h => by simp at h
 | q :: r, a, k, h => by
  unfold capF
  rcases List.mem_cons.1 h with e | e
  · subst e
    have := capF_ge W r (min (a + W k.toNat) 1001); omega
  · have := capF_in W r (min (a + W q.toNat) 1001) k e; omega
theorem edge_wt {s : Sc} {i j : Nat} (h : s.edge i j) : min (1 + s.wt j) 1001 ≤ s.wt i := by
 rw [s.wt_fix i, if_pos h.1]
 have := capF_in s.wt (s.kidsAt i) 1 _ h.2
 simpa using this
theorem path_wt {s : Sc} {i j : Nat} (h : s.path i j) : min (1 + s.wt j) 1001 ≤ s.wt i := by
 induction h with
 | one h => exact edge_wt h
 | more h e ih => have := edge_wt e; omega
theorem path_self {s : Sc} {i : Nat} (h : s.path i i) : s.wt i = 1001 := by
 have := path_wt h; have := (s.wt_le i).2; omega
def Wok (s : Sc) (a : Nat) (W : List Nat) : Prop := ∀ i (h : i < W.length), W[i]'h = 0 ∨ W[i]'h = s.wt i ∨ (W[i]'h = 1001 ∧ s.path i a)
def Won (s : Sc) (W W' : List Nat) : Prop := W'.length = W.length ∧ ∀ i (h : i < W.length) (h' : i < W'.length), (W[i]'h ≠ 0 → W'[i]'h' = W[i]'h) ∧ (W[i]'h = 0 → W'[i]'h' = 0 ∨ W'[i]'h' = s.wt i)
theorem Won.refl (s : Sc) (W : List Nat) : Won s W W := ⟨rfl, fun _ _ _ => ⟨fun _ => rfl, fun h => .inl h⟩⟩
theorem Won.trans {s : Sc} {A B C : List Nat} (h : Won s A B) (k : Won s B C) : Won s A C := by
 refine ⟨k.1.trans h.1, fun i h1 h2 => ?_⟩
 have h3 : i < B.length := by rw [h.1]; exact h1
 obtain ⟨a1, a2⟩ := h.2 i h1 h3
 obtain ⟨b1, b2⟩ := k.2 i h3 h2
 constructor
 · intro e; rw [b1 (by rw [a1 e]; exact e), a1 e]
 · intro e
   rcases a2 e with g | g
   · exact b2 g
   · right
     rw [b1 (by rw [g]; have := (s.wt_le i).1; omega), g]
def zeros (W : List Nat) : Nat := W.countP (· == 0)
theorem zeros_won {s : Sc} : ∀ {W W' : List Nat}, Won s W W' → zeros W' ≤ zeros W
 | [], W', h => by
  have : W' = [] := List.length_eq_zero_iff.1 h.1
  subst this; exact Nat.le_refl _
 | x :: r, [], h => by have := h.1; simp at this
 | x :: r, y :: q, h => by
  have key : ∀ (A B : List Nat), A.length = B.length → (∀ i (h : i < A.length) (h' : i < B.length), A[i]'h ≠ 0 → B[i]'h' = A[i]'h) → zeros B ≤ zeros A := by
   intro A
   induction A with
   | nil => intro B e _; have : B = [] := List.length_eq_zero_iff.1 e.symm; subst this; exact Nat.le_refl _
   | cons a A ih =>
    intro B e hB
    cases B with
    | nil => simp at e
    | cons b B =>
     have h1 := ih B (by simpa using e) (fun i h1 h2 => hB (i + 1) (by simpa using h1) (by simpa using h2))
     have h0 := hB 0 (by simp) (by simp)
     simp only [List.getElem_cons_zero] at h0
     unfold zeros at h1 ⊢
     rw [List.countP_cons, List.countP_cons]
     by_cases ea : a = 0
     · subst ea; simp; split <;> omega
     · rw [h0 ea]; omega
  exact key _ _ h.1.symm fun i h1 h2 => (h.2 i h1 h2).1
theorem zeros_set {W : List Nat} {a v : Nat} (ha : a < W.length) (h0 : W[a]'ha = 0) (hv : v ≠ 0) : zeros (W.set a v) + 1 = zeros W := by
 induction W generalizing a with
 | nil => simp at ha
 | cons x r ih =>
  cases a with
  | zero =>
   simp only [List.getElem_cons_zero] at h0
   subst h0
   unfold zeros
   simp [hv]
  | succ a =>
   have := ih (a := a) (by simpa using ha) (by simpa using h0)
   unfold zeros at this ⊢
   rw [List.set_cons_succ, List.countP_cons, List.countP_cons]
   omega
theorem Wok.part {s : Sc} {a : Nat} {W : List Nat} (h : Wok s a W) (_ha : a < W.length) {k : Nat} (e : s.edge a k) : Wok s k (W.set a 1001) := by
 intro i hi
 rw [List.length_set] at hi
 rw [List.getElem_set]
 split
 · rename_i e2; subst e2
   exact .inr (.inr ⟨rfl, .one e⟩)
 · rcases h i hi with g | g | ⟨g1, g2⟩
   · exact .inl g
   · exact .inr (.inl g)
   · exact .inr (.inr ⟨g1, .more g2 e⟩)
theorem Wok.won {s : Sc} {a : Nat} {W W' : List Nat} (h : Wok s a W) (k : Won s W W') : Wok s a W' := by
 intro i hi
 have h1 : i < W.length := by rw [← k.1]; exact hi
 obtain ⟨k1, k2⟩ := k.2 i h1 hi
 by_cases e : W[i]'h1 = 0
 · rcases k2 e with g | g
   · exact .inl g
   · exact .inr (.inl g)
 · rw [k1 e]; exact h i h1
theorem Wok.self {s : Sc} {a : Nat} {W : List Nat} (h : Wok s a W) (ha : a < W.length) (h0 : W[a]'ha ≠ 0) : W[a]'ha = s.wt a := by
 rcases h a ha with g | g | ⟨g1, g2⟩
 · exact absurd g h0
 · exact g
 · rw [g1, path_self g2]
theorem Won.put {s : Sc} {a : Nat} {W W' : List Nat} (ha : a < W.length) (h0 : W[a]'ha = 0) (k : Won s (W.set a 1001) W') : Won s W (W'.set a (s.wt a)) := by
 have kl : W'.length = W.length := by rw [k.1, List.length_set]
 refine ⟨by rw [List.length_set, kl], fun i h1 h2 => ?_⟩
 rw [List.length_set] at h2
 rw [List.getElem_set]
 split
 · rename_i e; subst e
   exact ⟨fun g => absurd h0 g, fun _ => .inr rfl⟩
 · rename_i e
   have := k.2 i (by rw [List.length_set]; exact h1) h2
   rw [List.getElem_set, if_neg e] at this
   exact this
def Wfin (s : Sc) (W : List Nat) : Prop := ∀ i (h : i < W.length), W[i]'h = 0 ∨ W[i]'h = s.wt i
theorem Wfin.ok {s : Sc} {W : List Nat} (h : Wfin s W) (a : Nat) : Wok s a W := fun i hi => (h i hi).elim .inl fun g => .inr (.inl g)
theorem Wfin.won {s : Sc} {W W' : List Nat} (h : Wfin s W) (k : Won s W W') : Wfin s W' := by
 intro i hi
 have h1 : i < W.length := by rw [← k.1]; exact hi
 obtain ⟨k1, k2⟩ := k.2 i h1 hi
 by_cases e : W[i]'h1 = 0
 · exact k2 e
 · rw [k1 e]; exact h i h1
end Go.Proofs.YthfoomobicbcpaaGreatDoor
namespace Go.Proofs.YthfoomobicbcpaaGreatDoor.Jx
open Num
def isD (c : Nat) : Bool := decide (48 ≤ c ∧ c ≤ 57)
def isL (c : Nat) : Bool := decide ((48 ≤ c ∧ c ≤ 57) ∨ (97 ≤ c ∧ c ≤ 122) ∨ (65 ≤ c ∧ c ≤ 90))
def isW (c : Nat) : Bool := decide (c = 32 ∨ c = 9 ∨ c = 10 ∨ c = 13)
def byt (l : List UInt8) (i : Nat) : Nat := (l.getD i 0).toNat
theorem byt_lt (l : List UInt8) (i : Nat) : byt l i < 256 := (l.getD i 0).toNat_lt
theorem byt_drop (l : List UInt8) (p i : Nat) : byt (l.drop p) i = byt l (p + i) := by
 unfold byt; simp [List.getD, List.getElem?_drop]
def cnt (p : Nat → Bool) : List UInt8 → Nat
 | [] => 0
 | x :: r => if p x.toNat = true then cnt p r + 1 else 0
def val (d : List UInt8) : Nat := d.foldl (fun u x => u * 10 + (x.toNat - 48)) 0
def numR (m : Nat) (r : List UInt8) : Int × Nat × Nat :=
 if cnt isD r = 0 ∨ (byt r 0 = 48 ∧ 1 < cnt isD r) ∨ (isL (byt r (cnt isD r)) = true ∧ byt r (cnt isD r) ≠ 101 ∧ byt r (cnt isD r) ≠ 69) then (0, m + cnt isD r, 20)
 else if byt r (cnt isD r) = 46 ∨ isL (byt r (cnt isD r)) = true ∨ 9223372036854775808 < val (r.take (cnt isD r)) ∨ (val (r.take (cnt isD r)) = 9223372036854775808 ∧ m = 0) then (0, m + cnt isD r, 22)
 else (if m = 0 then (val (r.take (cnt isD r)) : Int) else -(val (r.take (cnt isD r)) : Int), m + cnt isD r, 0)
def num (l : List UInt8) : Int × Nat × Nat := if byt l 0 = 45 then numR 1 (l.drop 1) else numR 0 l
def hex (c : Nat) : Int := if 48 ≤ c ∧ c ≤ 57 then (c : Int) - 48 else if 65 ≤ c ∧ c ≤ 70 then (c : Int) - 55 else if 97 ≤ c ∧ c ≤ 102 then (c : Int) - 87 else -1
def four (l : List UInt8) : Int :=
 if hex (byt l 0) < 0 ∨ hex (byt l 1) < 0 ∨ hex (byt l 2) < 0 ∨ hex (byt l 3) < 0 then -1 else ((hex (byt l 0) * 16 + hex (byt l 1)) * 16 + hex (byt l 2)) * 16 + hex (byt l 3)
def esc (c : Nat) : Option Nat :=
 if c = 34 ∨ c = 47 ∨ c = 92 then some c else if c = 98 then some 8 else if c = 102 then some 12 else if c = 110 then some 10 else if c = 114 then some 13 else if c = 116 then some 9 else none
def uni (l : List UInt8) : Option (List UInt8 × Nat) :=
 if 55296 ≤ four l ∧ four l ≤ 56319 ∧ byt l 4 = 92 ∧ byt l 5 = 117 then
  if 56320 ≤ four (l.drop 6) ∧ four (l.drop 6) ≤ 57343 then some (ue (65536 + (four l - 55296) * 1024 + four (l.drop 6) - 56320).toNat, 12) else none
 else if isC (four l) then some (ue (four l).toNat, 6) else none
def item (l : List UInt8) : Option (List UInt8 × Nat) :=
 if byt l 0 = 92 then
  match esc (byt l 1) with
  | some v => some ([UInt8.ofNat v], 2)
  | none => if byt l 1 = 117 then uni (l.drop 2) else none
 else if (fst l).2.2 = 0 then some (l.take (fst l).2.1, (fst l).2.1) else none
def txtF : Nat → List UInt8 → Option (List UInt8 × Nat)
 | 0, _ => none
 | f + 1, l => if byt l 0 < 32 then none else if byt l 0 = 34 then some ([], 1) else
  match item l with
  | none => none
  | some (o, n) => (txtF f (l.drop n)).map fun r => (o ++ r.1, n + r.2)
def txt (l : List UInt8) : Option (List UInt8 × Nat) := txtF (l.length + 1) l
structure Wd where
 k : Nat
 n : Int
 t : List UInt8
 a : Nat
 x : Nat
def Wd.zero : Wd := ⟨0, 0, [], 0, 0⟩
def Wd.at_ (w : Wd) (q : Nat) : Wd := ⟨w.k, w.n, w.t, w.a + q, w.x + q⟩
def punct (c : Nat) : Nat := if c = 123 then 1 else if c = 125 then 2 else if c = 91 then 3 else if c = 93 then 4 else if c = 58 then 5 else if c = 44 then 6 else 0
def named (l s : List UInt8) : Bool := decide (l.take s.length = s) && !isL (byt l s.length)
def sT : List UInt8 := [116, 114, 117, 101]
def sF : List UInt8 := [102, 97, 108, 115, 101]
def sN : List UInt8 := [110, 117, 108, 108]
def word (l : List UInt8) : Wd × Nat :=
 if punct (byt l 0) ≠ 0 then (⟨punct (byt l 0), 0, [], 0, 1⟩, 0)
 else if byt l 0 = 34 then
  match txt (l.drop 1) with
  | none => (Wd.zero, 20)
  | some (s, k) => (⟨10, 0, s, 0, k + 1⟩, 0)
 else if byt l 0 = 45 ∨ isD (byt l 0) = true then
  if (num l).2.2 = 0 then (⟨9, (num l).1, [], 0, (num l).2.1⟩, 0) else (Wd.zero, (num l).2.2)
 else if named l sT = true then (⟨7, 1, [], 0, 4⟩, 0)
 else if named l sF = true then (⟨7, 0, [], 0, 5⟩, 0)
 else if named l sN = true then (⟨8, 0, [], 0, 4⟩, 0)
 else (Wd.zero, 20)
def tak (l : List UInt8) (p : Nat) : Wd × Nat :=
 if p + cnt isW (l.drop p) = l.length then (⟨11, 0, [], l.length, l.length⟩, 0)
 else if (word (l.drop (p + cnt isW (l.drop p)))).2 = 0 then ((word (l.drop (p + cnt isW (l.drop p)))).1.at_ (p + cnt isW (l.drop p)), 0)
 else (Wd.zero, (word (l.drop (p + cnt isW (l.drop p)))).2)
def allF : Nat → List UInt8 → Nat → List Wd × Nat
 | 0, _, _ => ([], 0)
 | f + 1, l, p => if (tak l p).2 ≠ 0 then ([], (tak l p).2) else if (tak l p).1.k = 11 then ([], 0)
  else if (allF f l (tak l p).1.x).2 ≠ 0 then ([], (allF f l (tak l p).1.x).2) else ((tak l p).1 :: (allF f l (tak l p).1.x).1, 0)
def all (l : List UInt8) (p : Nat) : List Wd × Nat := allF (l.length + 1 - p) l p
end Go.Proofs.YthfoomobicbcpaaGreatDoor.Jx
namespace Go.Proofs.YthfoomobicbcpaaGreatDoor.Jx
open Num
def Wd.ok (w : Wd) (len : Nat) : Prop := w.a = 0 ∧ 1 ≤ w.x ∧ w.x ≤ len ∧ 1 ≤ w.k ∧ w.k ≤ 10 ∧ -9223372036854775808 ≤ w.n ∧ w.n ≤ 9223372036854775807 ∧ w.t.length ≤ w.x
end Go.Proofs.YthfoomobicbcpaaGreatDoor.Jx
