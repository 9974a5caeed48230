/- Joined by tools/bundle.py: BC7. -/
import Derived.Test.YthogheglddfniaaGreatDoorW11
import Derived.Test.YthogheglddfniaaGreatDoorW15
import Derived.Test.YthogheglddfniaaGreatDoorW0
set_option maxRecDepth 100000
set_option maxHeartbeats 16000000
namespace Go.Proofs.YthogheglddfniaaGreatDoor
open Go.ChangeShapes Go.WideShapes Go.ChangeAt Go.RowKit Mem
theorem post_N2 {fn : Func} {R : Ending → World → Prop} {a : Act} {w : World} {t u : Tmp} {g : Nat} {x0 x1 x2 x3 x4 x5 x6 x7 x8 x9 : Value} (hf : fn.results = #[.cell t 41, .tmp u]) (hd : a.defers = [])
 (hg : a.tmps.getD t undef = .pointer (some ⟨g, 0, none⟩)) (h0 : w.cell? ⟨g, 0, none⟩ = some x0) (h1 : w.cell? ⟨g, 1, none⟩ = some x1) (h2 : w.cell? ⟨g, 2, none⟩ = some x2) (h3 : w.cell? ⟨g, 3, none⟩ = some x3) (h4 : w.cell? ⟨g, 4, none⟩ = some x4) (h5 : w.cell? ⟨g, 5, none⟩ = some x5) (h6 : w.cell? ⟨g, 6, none⟩ = some x6) (h7 : w.cell? ⟨g, 7, none⟩ = some x7) (h8 : w.cell? ⟨g, 8, none⟩ = some x8) (h9 : w.cell? ⟨g, 9, none⟩ = some x9)
 (hR : R (.returned (.tuple #[.agg #[x0, x1, x2, x3, x4, x5, x6, x7, x8, x9], a.tmps.getD u undef])) w) : bodyPost Tryz.prog fn R .ret a w := by
 refine bodyPost_ret ?_ hd hR
 rw [Array.getD_eq_getD_getElem?] at hg
 simp [results, hf, hg, go_sem, h0, h1, h2, h3, h4, h5, h6, h7, h8, h9]
def CaP (R : Except Int (ByteArray × List ByteArray)) (k : Int) (w : World) (e : Ending) (w' : World) : Prop :=
 Below w.heap.size w w' ∧ (∀ z, R = .error z → z ≠ 0 ∧ ∃ (K : Int) (N : ByteArray), e = .returned (.tuple #[.agg #[.int .i64 K, .string N, .slice none 0 0, .slice none 0 0, .slice none 0 0, .bool false, .string ⟨#[]⟩, .int .i64 0, .int .i64 0, .slice none 0 0], .int .i64 z])) ∧
  ∀ u al, R = .ok (u, al) → ∃ v, e = .returned (.tuple #[.agg #[.int .i64 k, .string u, v, .slice none 0 0, .slice none 0 0, .bool false, .string ⟨#[]⟩, .int .i64 0, .int .i64 0, .slice none 0 0], .int .i64 0]) ∧ GatS w' w.heap.size 9 1 v (al.map D.s)
theorem cap_no {R : Except Int (ByteArray × List ByteArray)} {k z K : Int} {N : ByteArray} {w w' : World} (h : R = .error z) (hz : z ≠ 0) (b : Below w.heap.size w w') : CaP R k w (.returned (.tuple #[.agg #[.int .i64 K, .string N, .slice none 0 0, .slice none 0 0, .slice none 0 0, .bool false, .string ⟨#[]⟩, .int .i64 0, .int .i64 0, .slice none 0 0], .int .i64 z])) w' :=
 ⟨b, (fun y hy => by rw [h] at hy; injection hy with hy; subst hy; exact ⟨hz, K, N, rfl⟩), fun u l hl => by rw [h] at hl; cases hl⟩
theorem cap_yes {R : Except Int (ByteArray × List ByteArray)} {k : Int} {u : ByteArray} {al : List ByteArray} {v : Value} {w w' : World} (h : R = .ok (u, al)) (b : Below w.heap.size w w') (g : GatS w' w.heap.size 9 1 v (al.map D.s)) : CaP R k w (.returned (.tuple #[.agg #[.int .i64 k, .string u, v, .slice none 0 0, .slice none 0 0, .bool false, .string ⟨#[]⟩, .int .i64 0, .int .i64 0, .slice none 0 0], .int .i64 0])) w' :=
 ⟨b, (fun e he => by rw [h] at he; cases he), fun u' l' hl => by rw [h] at hl; simp only [Except.ok.injEq, Prod.mk.injEq] at hl; obtain ⟨rfl, rfl⟩ := hl; exact ⟨v, rfl, g⟩⟩
theorem joinB_size {s t u : ByteArray} (h : joinB s t = some u) : u.size ≤ 100 := by
 have := joinB_full h
 unfold Nm.full at this
 rw [Bool.and_eq_true, decide_eq_true_eq] at this
 have e : u.data.toList.length = u.size := Array.length_toList
 omega
theorem spaceB_size (u : ByteArray) : (spaceB u).size ≤ u.size := by
 unfold spaceB Nm.space
 split
 · exact Nat.zero_le _
 · show (List.toArray _).size ≤ u.data.size
   simp
   omega
theorem J.t_wt (x : J) : x.t.size ≤ x.wt := by cases x with | mk k n t its ks => unfold J.wt; show t.size ≤ _; omega
theorem GatS.setp {w : World} {base : Nat} {e : TypeId} {s : Nat} {v : Value} {ds : List D} (h : GatS w base e s v ds) {p : Addr} (hp : p.block < base) (u : Value) : GatS (w.setCell p u) base e s v ds := by
 obtain ⟨S, xs, h1, h2, h3, h4⟩ := h
 refine ⟨S, xs, ⟨h1.1, ?_⟩, h2.keep (fun k hk => World.cell?_setCell_other w _ _ _ (fun e => ?_)) fun _ h => h, fun k hk => ⟨(h3 k hk).1, by simp [World.setCell]; exact (h3 k hk).2⟩, fun p hp => (World.frozen?_setCell _ _ _ _).trans (h4 p hp)⟩
 · rcases h1.2 with h0 | ⟨q, cap, cur, hv, hq, hh, rest⟩
   · exact .inl h0
   · exact .inr ⟨q, cap, cur, hv, hq, (Below.heap_setCell _ _ _ _ (by intro e; exact absurd (show q = p.block from e) (by omega))).trans hh, rest⟩
 · subst e; exact absurd (h3 _ hk).1 (by omega)
theorem bCalled_any {X : Nat → Prop} (S : Nat → Prop) (j : J) (k : Int) (sp : ByteArray) (hsp : sp.size ≤ 1000000) (g r : Nat) (ns : List Nd) (w : World) (h : MkW X w g r ns) (hS : ∀ b, S b → b < w.heap.size) (A3 A4 : Option Addr) (c3 c4 : Nat) (ht : TreeS w S j [.int .i64 j.k, .int .i64 j.n, .string j.t, .slice A3 j.its.length c3, .slice A4 j.ks.length c4]) (hw : j.wt ≤ 1000000) (R : Except Int (ByteArray × List ByteArray)) (hR : R = bhead (ns.map er) j sp) :
 Calls Tryz.prog 131 #[.pointer (some ⟨g, 0, none⟩), .int .i64 k, .func (.func 47) #[.agg #[.int .i64 j.k, .int .i64 j.n, .string j.t, .slice A3 j.its.length c3, .slice A4 j.ks.length c4]] #[], .string sp] w (CaP R k w) := by
 have CS := cell_set
 obtain ⟨A, c, hB, _, _, _, hLi⟩ := h.mkr.out
 have lg := h.mkr.lt
 have lg1 := lg.1
 have TT : Hid (∀ W, Below w.heap.size w W → TreeS W S j [.int .i64 j.k, .int .i64 j.n, .string j.t, .slice A3 j.its.length c3, .slice A4 j.ks.length c4]) := fun W b => TreeS.keep (fun p hp => b.cell (hS _ hp)) (fun _ h => h) ht
 have HS : Hid (∀ W, Below w.heap.size w W → ∀ b, S b → b < W.heap.size) := fun W b k hk => Nat.lt_of_lt_of_le (hS k hk) b.size
 have BN : Hid (Below w.heap.size w (w.alloc (.cells #[.int .i64 0, .string ⟨#[]⟩, .slice none 0 0, .slice none 0 0, .slice none 0 0, .bool false, .string ⟨#[]⟩, .int .i64 0, .int .i64 0, .slice none 0 0] 41))) := by show Below _ _ _; (repeat' (first | with_reducible assumption | with_reducible exact Below.refl _ _ | (with_reducible refine Below.alloc ?_ ?_ _; rotate_left; focus ((first | exact Nat.le_refl _ | (simp; done) | (simp; omega) | omega | fail))) | (with_reducible refine Below.setCell ?_ ?_ _; rotate_left; focus ((first | exact Nat.le_refl _ | (simp; done) | (simp; omega) | omega | fail))) | with_reducible refine Mem.bel_drewN ?_ _ | with_reducible refine Below.drew ?_ | (with_reducible refine Mem.bel_call (by with_reducible assumption) ?_ ?_; focus ((first | exact Nat.le_refl _ | (simp; done) | (simp; omega) | omega | fail))) | fail))
 have N8 : Hid (B10 (w.alloc (.cells #[.int .i64 0, .string ⟨#[]⟩, .slice none 0 0, .slice none 0 0, .slice none 0 0, .bool false, .string ⟨#[]⟩, .int .i64 0, .int .i64 0, .slice none 0 0] 41)) w.heap.size 41 (.int .i64 0) (.string ⟨#[]⟩) (.slice none 0 0) (.slice none 0 0) (.slice none 0 0) (.bool false) (.string ⟨#[]⟩) (.int .i64 0) (.int .i64 0) (.slice none 0 0)) := B10.newat rfl
 have IS := Lib.hid (fun W (b : Below w.heap.size w W) => item_any S j kSpace W (HS.out W b) A3 A4 c3 c4 (TT.out W b))
 by_cases hk : ∃ x, j.get kName = some x ∧ x.k = 4
 rotate_left
 · have Z : Hid (R = .error 30) := by
    show _ = _
    have e : txt (j.get kName) = none := by
     unfold txt
     rcases ho : j.get kName with _ | x
     · rfl
     · exact if_neg fun g => hk ⟨x, ho, g⟩
    rw [hR]; unfold bhead; rw [e]
   have IT := Lib.hid (fun W (b : Below w.heap.size w W) => one_no (kind := 4) S j kName W (HS.out W b) A3 A4 c3 c4 (TT.out W b) fun x hx e => hk ⟨x, hx, e⟩)
   unfold kName at IT
   unfold kSpace at IS
   clear hR hk ht hS h hLi hB TT HS
   obtain ⟨_, _, _, _, _, _, _, _, _, _, _, _, _, _, _, _, _, _, _, _⟩ := B10.facts N8.out
   go_enter Tryz.func131, Tryz.ntmps131
   go_wp2_with fail
   with_reducible refine (IT.out _ BN.out).mono ?_
   rintro e w1 ⟨K0, K1, K2, X3, l3, x3, X4, l4, x4, rfl, b1⟩
   have s1 := b1.size
   have s0 : w.heap.size < w1.heap.size := Nat.lt_of_lt_of_le N8.out.lt s1
   have bb : Hid (Below w.heap.size w (w1.alloc (.cells #[.int .i64 K0, .int .i64 K1, .string K2, .slice X3 l3 x3, .slice X4 l4 x4] 25))) := by
    have : Below w.heap.size w w1 := BN.out.trans (b1.mono BN.out.size)
    show Below _ _ _; (repeat' (first | with_reducible assumption | with_reducible exact Below.refl _ _ | (with_reducible refine Below.alloc ?_ ?_ _; rotate_left; focus ((first | exact Nat.le_refl _ | (simp; done) | (simp; omega) | omega | fail))) | (with_reducible refine Below.setCell ?_ ?_ _; rotate_left; focus ((first | exact Nat.le_refl _ | (simp; done) | (simp; omega) | omega | fail))) | with_reducible refine Mem.bel_drewN ?_ _ | with_reducible refine Below.drew ?_ | (with_reducible refine Mem.bel_call (by with_reducible assumption) ?_ ?_; focus ((first | exact Nat.le_refl _ | (simp; done) | (simp; omega) | omega | fail))) | fail))
   have M1 := Lib.hid ((B10.below N8.out b1 N8.out.lt).alloc (.cells #[.int .i64 K0, .int .i64 K1, .string K2, .slice X3 l3 x3, .slice X4 l4 x4] 25))
   have lt1 := M1.out.lt
   go_wp2_with fail
   with_reducible refine (IS.out _ bb.out).mono ?_
   rintro e w2 ⟨Y3, y3, Y4, y4, rfl, _, b2⟩
   have s2 := b2.size
   have bw2 : Below w.heap.size w w2 := bb.out.trans (b2.mono bb.out.size)
   have M2 := Lib.hid (B10.below M1.out b2 lt1)
   have lt2 := M2.out.lt
   obtain ⟨_, _, _, _, _, _, _, _, _, _, _, _, _, _, _, _, _, _, _, _⟩ := B10.facts M2.out
   clear M2 M1 N8 IS IT bb BN b2
   go_wp2_with fail
   try simp only [Exit.inBlock, Exit.then]
   refine post_N2 (x0 := .int .i64 0) (x1 := .string ⟨#[]⟩) (x2 := .slice none 0 0) (x3 := .slice none 0 0) (x4 := .slice none 0 0) (x5 := .bool false) (x6 := .string ⟨#[]⟩) (x7 := .int .i64 0) (x8 := .int .i64 0) (x9 := .slice none 0 0) rfl rfl rfl (by go_simp) (by go_simp) (by go_simp) (by go_simp) (by go_simp) (by go_simp) (by go_simp) (by go_simp) (by go_simp) (by go_simp) ?_
   exact cap_no Z.out (by decide) bqq
 obtain ⟨x, hx, hk⟩ := hk
 have IT := Lib.hid (fun W (b : Below w.heap.size w W) => one_yes S j kName W (HS.out W b) A3 A4 c3 c4 (TT.out W b) hx hk)
 have xw : x.t.size ≤ 1000000 := Nat.le_trans (J.t_wt x) (Nat.le_trans (J.get_wt hx) hw)
 have LA := Lib.hid (fun W (b : Below w.heap.size w W) => LaidN.below h.laid b)
 have gw : (gotten (j.get kSpace)).t.size ≤ 1000000 := by
  rcases ho : j.get kSpace with _ | y
  · exact Nat.zero_le _
  · exact Nat.le_trans (J.t_wt y) (Nat.le_trans (J.get_wt ho) hw)
 have HR : Hid (R = if (j.get kSpace).isSome = true ∧ (gotten (j.get kSpace)).k ≠ 4 then .error 30 else match (Nm.join (if (j.get kSpace).isSome = true then (gotten (j.get kSpace)).t.data.toList else sp.data.toList) x.t.data.toList).map sst with
  | none => .error 31
  | some full => if kindB full ≠ 0 then .error 31 else if (findK (ns.map er) full).isSome = true then .error 32 else match balias (joinB (spaceB full)) (j.get kAliases) with
   | .error e => .error e
   | .ok al => .ok (full, al)) := by
  show _ = _
  have e : txt (j.get kName) = some x.t := by unfold txt; rw [hx]; exact if_pos hk
  rw [hR]; unfold bhead; rw [e]
  have hb : bfull j sp x.t = if (j.get kSpace).isSome = true ∧ (gotten (j.get kSpace)).k ≠ 4 then .error 30 else .ok ((Nm.join (if (j.get kSpace).isSome = true then (gotten (j.get kSpace)).t.data.toList else sp.data.toList) x.t.data.toList).map sst) := by
   unfold bfull
   rcases ho : j.get kSpace with _ | y
   · rw [if_neg (fun g => by cases g.1)]; rfl
   · by_cases h4 : y.k = 4
     · rw [if_neg (fun g => g.2 h4)]
       dsimp only
       rw [if_pos h4]; rfl
     · rw [if_pos ⟨rfl, h4⟩]
       dsimp only
       rw [if_neg h4]
  dsimp only
  rw [hb]
  by_cases hc : (j.get kSpace).isSome = true ∧ (gotten (j.get kSpace)).k ≠ 4
  · rw [if_pos hc, if_pos hc]
  · rw [if_neg hc, if_neg hc]
    cases (Nm.join (if (j.get kSpace).isSome = true then (gotten (j.get kSpace)).t.data.toList else sp.data.toList) x.t.data.toList).map sst <;> rfl
 clear hR hk ht hS
 obtain ⟨os, hos⟩ : ∃ b, b = (j.get kSpace).isSome := ⟨_, rfl⟩
 have FA := Lib.hid (fun u W (b : Below w.heap.size w W) => sFindX_any ⟨ns, 0⟩ u W A c ((hLi.below b).more b.size))
 have AA := Lib.hid (fun W (b : Below w.heap.size w W) (own : ByteArray) (ho : own.size ≤ 1000000) (q : Nat) (hql : q < W.heap.size) (hq : W.cell? ⟨q, 0, none⟩ = some (.string own)) => aliasC_any S j W (LA.out W b) (HS.out W b) A3 A4 c3 c4 (TT.out W b) hw own ho q hql hq _ rfl)
 obtain ⟨z0, z1, z2, z3⟩ := B2.facts hB
 unfold kName at IT
 unfold GotS at IS
 rw [← hos] at IS HR
 obtain ⟨K0, hK0⟩ : ∃ v, v = (gotten (j.get kSpace)).k := ⟨_, rfl⟩
 obtain ⟨K1, hK1⟩ : ∃ v, v = (gotten (j.get kSpace)).n := ⟨_, rfl⟩
 obtain ⟨K2, hK2⟩ : ∃ v, v = (gotten (j.get kSpace)).t := ⟨_, rfl⟩
 obtain ⟨l3, hl3⟩ : ∃ v, v = (gotten (j.get kSpace)).its.length := ⟨_, rfl⟩
 obtain ⟨l4, hl4⟩ : ∃ v, v = (gotten (j.get kSpace)).ks.length := ⟨_, rfl⟩
 rw [← hK0, ← hK2] at HR
 rw [← hK0, ← hK1, ← hK2, ← hl3, ← hl4] at IS
 rw [← hK2] at gw
 clear hos hK0 hK1 hK2 hl3 hl4 hLi hB
 unfold kSpace at IS
 have IX : Hid (∀ W, Below w.heap.size w W → Calls Tryz.prog 47 #[.agg #[.int .i64 j.k, .int .i64 j.n, .string j.t, .slice A3 j.its.length c3, .slice A4 j.ks.length c4], .string ⟨#[110, 97, 109, 101, 115, 112, 97, 99, 101]⟩] W (fun e w' => ∃ Y3 y3 Y4 y4, e = .returned (.tuple #[.agg #[.int .i64 K0, .int .i64 K1, .string K2, .slice Y3 l3 y3, .slice Y4 l4 y4], .bool os]) ∧ Below W.heap.size W w')) := fun W b => (IS.out W b).mono fun e w' h => by
  obtain ⟨Y3, y3, Y4, y4, he, _, hb⟩ := h
  exact ⟨Y3, y3, Y4, y4, he, hb⟩
 clear IS
 by_cases hbad : os = true ∧ K0 ≠ 4
 · have Z : Hid (R = .error 30) := by show _ = _; rw [HR.out, if_pos hbad]
   obtain ⟨rfl, h4⟩ := hbad
   have q : (K0 != 4) = true := by rw [bne_iff_ne]; exact h4
   clear HR FA AA LA h4 h z0 z1 z2 z3 TT HS
   obtain ⟨_, _, _, _, _, _, _, _, _, _, _, _, _, _, _, _, _, _, _, _⟩ := B10.facts N8.out
   go_enter Tryz.func131, Tryz.ntmps131
   go_wp2_with fail
   with_reducible refine (IT.out _ BN.out).mono ?_
   rintro e w1 ⟨X3, x3, X4, x4, rfl, _, b1⟩
   have s1 := b1.size
   have s0 : w.heap.size < w1.heap.size := Nat.lt_of_lt_of_le N8.out.lt s1
   have bb : Hid (Below w.heap.size w (w1.alloc (.cells #[.int .i64 x.k, .int .i64 x.n, .string x.t, .slice X3 x.its.length x3, .slice X4 x.ks.length x4] 25))) := by
    have : Below w.heap.size w w1 := BN.out.trans (b1.mono BN.out.size)
    show Below _ _ _; (repeat' (first | with_reducible assumption | with_reducible exact Below.refl _ _ | (with_reducible refine Below.alloc ?_ ?_ _; rotate_left; focus ((first | exact Nat.le_refl _ | (simp; done) | (simp; omega) | omega | fail))) | (with_reducible refine Below.setCell ?_ ?_ _; rotate_left; focus ((first | exact Nat.le_refl _ | (simp; done) | (simp; omega) | omega | fail))) | with_reducible refine Mem.bel_drewN ?_ _ | with_reducible refine Below.drew ?_ | (with_reducible refine Mem.bel_call (by with_reducible assumption) ?_ ?_; focus ((first | exact Nat.le_refl _ | (simp; done) | (simp; omega) | omega | fail))) | fail))
   have M1 := Lib.hid ((B10.below N8.out b1 N8.out.lt).alloc (.cells #[.int .i64 x.k, .int .i64 x.n, .string x.t, .slice X3 x.its.length x3, .slice X4 x.ks.length x4] 25))
   have lt1 := M1.out.lt
   go_wp2_with fail
   with_reducible refine (IX.out _ bb.out).mono ?_
   rintro e w2 ⟨Y3, y3, Y4, y4, rfl, b2⟩
   have s2 := b2.size
   have bw2 : Below w.heap.size w w2 := bb.out.trans (b2.mono bb.out.size)
   have M2 := Lib.hid (B10.below M1.out b2 lt1)
   have lt2 := M2.out.lt
   obtain ⟨_, _, _, _, _, _, _, _, _, _, _, _, _, _, _, _, _, _, _, _⟩ := B10.facts M2.out
   clear M2 M1 N8 IX IT bb BN b2
   go_wp2_with fail
   try simp only [Exit.inBlock, Exit.then]
   refine post_N2 (x0 := .int .i64 0) (x1 := .string ⟨#[]⟩) (x2 := .slice none 0 0) (x3 := .slice none 0 0) (x4 := .slice none 0 0) (x5 := .bool false) (x6 := .string ⟨#[]⟩) (x7 := .int .i64 0) (x8 := .int .i64 0) (x9 := .slice none 0 0) rfl rfl rfl (by go_simp) (by go_simp) (by go_simp) (by go_simp) (by go_simp) (by go_simp) (by go_simp) (by go_simp) (by go_simp) (by go_simp) ?_
   exact cap_no Z.out (by decide) bqq
 have H0 : os = false ∨ (os = true ∧ (K0 != 4) = false) := by
  cases os with
  | false => exact .inl rfl
  | true => exact .inr ⟨rfl, by
   have : K0 = 4 := Classical.byContradiction fun h4 => hbad ⟨rfl, h4⟩
   rw [this]; rfl⟩
 have HR2 : Hid (R = match (Nm.join (if os = true then K2.data.toList else sp.data.toList) x.t.data.toList).map sst with
  | none => .error 31
  | some full => if kindB full ≠ 0 then .error 31 else if (findK (ns.map er) full).isSome = true then .error 32 else match balias (joinB (spaceB full)) (j.get kAliases) with
   | .error e => .error e
   | .ok al => .ok (full, al)) := by show _ = _; rw [HR.out, if_neg hbad]
 have RV := Lib.hid (fun W (b : Below w.heap.size w W) => nResolve_any x.t K2 sp os (by omega) (by omega) (by omega) W (LA.out W b))
 obtain ⟨jo, hjo⟩ : ∃ o, o = Nm.join (if os = true then K2.data.toList else sp.data.toList) x.t.data.toList := ⟨_, rfl⟩
 have JS : ∀ l, jo = some l → (sst l).size ≤ 100 := fun l hl => by
  rw [hjo] at hl
  cases os with
  | false => exact joinB_size (s := sp) (t := x.t) (by unfold joinB; rw [show Nm.join sp.data.toList x.t.data.toList = some l from hl]; rfl)
  | true => exact joinB_size (s := K2) (t := x.t) (by unfold joinB; rw [show Nm.join K2.data.toList x.t.data.toList = some l from hl]; rfl)
 rw [← hjo] at HR2 RV
 clear HR hbad hjo
 have P1 : Hid (∀ (F : Except Int (ByteArray × List ByteArray) → Prop), True) := fun _ => trivial
 clear P1
 cases jo with
 | none =>
  have Z : Hid (R = .error 31) := HR2.out
  unfold joined at RV
  clear HR2 JS FA AA LA h z0 z1 z2 z3 TT HS
  rcases H0 with rfl | ⟨rfl, q⟩
  all_goals
   obtain ⟨_, _, _, _, _, _, _, _, _, _, _, _, _, _, _, _, _, _, _, _⟩ := B10.facts N8.out
   go_enter Tryz.func131, Tryz.ntmps131
   go_wp2_with fail
   with_reducible refine (IT.out _ BN.out).mono ?_
   rintro e w1 ⟨X3, x3, X4, x4, rfl, _, b1⟩
   have s1 := b1.size
   have s0 : w.heap.size < w1.heap.size := Nat.lt_of_lt_of_le N8.out.lt s1
   have bb : Hid (Below w.heap.size w (w1.alloc (.cells #[.int .i64 x.k, .int .i64 x.n, .string x.t, .slice X3 x.its.length x3, .slice X4 x.ks.length x4] 25))) := by
    have : Below w.heap.size w w1 := BN.out.trans (b1.mono BN.out.size)
    show Below _ _ _; (repeat' (first | with_reducible assumption | with_reducible exact Below.refl _ _ | (with_reducible refine Below.alloc ?_ ?_ _; rotate_left; focus ((first | exact Nat.le_refl _ | (simp; done) | (simp; omega) | omega | fail))) | (with_reducible refine Below.setCell ?_ ?_ _; rotate_left; focus ((first | exact Nat.le_refl _ | (simp; done) | (simp; omega) | omega | fail))) | with_reducible refine Mem.bel_drewN ?_ _ | with_reducible refine Below.drew ?_ | (with_reducible refine Mem.bel_call (by with_reducible assumption) ?_ ?_; focus ((first | exact Nat.le_refl _ | (simp; done) | (simp; omega) | omega | fail))) | fail))
   have M1 := Lib.hid ((B10.below N8.out b1 N8.out.lt).alloc (.cells #[.int .i64 x.k, .int .i64 x.n, .string x.t, .slice X3 x.its.length x3, .slice X4 x.ks.length x4] 25))
   have C1 : Hid (B5 (w1.alloc (.cells #[.int .i64 x.k, .int .i64 x.n, .string x.t, .slice X3 x.its.length x3, .slice X4 x.ks.length x4] 25)) w1.heap.size 25 (.int .i64 x.k) (.int .i64 x.n) (.string x.t) (.slice X3 x.its.length x3) (.slice X4 x.ks.length x4)) := B5.newat rfl
   have lt1 := M1.out.lt
   have lc1 := C1.out.lt
   go_wp2_with fail
   with_reducible refine (IX.out _ bb.out).mono ?_
   rintro e w2 ⟨Y3, y3, Y4, y4, rfl, b2⟩
   have s2 := b2.size
   have bw2 : Below w.heap.size w w2 := bb.out.trans (b2.mono bb.out.size)
   have M2 := Lib.hid ((B10.below M1.out b2 lt1).alloc (.cells #[.int .i64 K0, .int .i64 K1, .string K2, .slice Y3 l3 y3, .slice Y4 l4 y4] 25))
   have C2 := Lib.hid ((B5.below C1.out b2 lc1).alloc (.cells #[.int .i64 K0, .int .i64 K1, .string K2, .slice Y3 l3 y3, .slice Y4 l4 y4] 25))
   have D2 : Hid (B5 (w2.alloc (.cells #[.int .i64 K0, .int .i64 K1, .string K2, .slice Y3 l3 y3, .slice Y4 l4 y4] 25)) w2.heap.size 25 (.int .i64 K0) (.int .i64 K1) (.string K2) (.slice Y3 l3 y3) (.slice Y4 l4 y4)) := B5.newat rfl
   have BW : Hid (Below w.heap.size w (w2.alloc (.cells #[.int .i64 K0, .int .i64 K1, .string K2, .slice Y3 l3 y3, .slice Y4 l4 y4] 25))) := by show Below _ _ _; (repeat' (first | with_reducible assumption | with_reducible exact Below.refl _ _ | (with_reducible refine Below.alloc ?_ ?_ _; rotate_left; focus ((first | exact Nat.le_refl _ | (simp; done) | (simp; omega) | omega | fail))) | (with_reducible refine Below.setCell ?_ ?_ _; rotate_left; focus ((first | exact Nat.le_refl _ | (simp; done) | (simp; omega) | omega | fail))) | with_reducible refine Mem.bel_drewN ?_ _ | with_reducible refine Below.drew ?_ | (with_reducible refine Mem.bel_call (by with_reducible assumption) ?_ ?_; focus ((first | exact Nat.le_refl _ | (simp; done) | (simp; omega) | omega | fail))) | fail))
   have lt2 := M2.out.lt
   have lc2 := C2.out.lt
   have ld2 := D2.out.lt
   obtain ⟨_, _, _, _, _, _, _, _, _, _⟩ := B5.facts C2.out
   obtain ⟨_, _, _, _, _, _, _, _, _, _⟩ := B5.facts D2.out
   clear M1 C1 bb
   go_wp2_with fail
   with_reducible refine (RV.out _ BW.out).mono ?_
   rintro e w3 ⟨rfl, b3⟩
   have s3 := b3.size
   have bw3 : Below w.heap.size w w3 := BW.out.trans (b3.mono BW.out.size)
   have M3 := Lib.hid (B10.below M2.out b3 lt2)
   have lt3 := M3.out.lt
   obtain ⟨_, _, _, _, _, _, _, _, _, _, _, _, _, _, _, _, _, _, _, _⟩ := B10.facts M3.out
   clear M3 M2 N8 IX IT BN b3 RV
   go_wp2_with fail
   try simp only [Exit.inBlock, Exit.then]
   refine post_N2 (x0 := .int .i64 0) (x1 := .string ⟨#[]⟩) (x2 := .slice none 0 0) (x3 := .slice none 0 0) (x4 := .slice none 0 0) (x5 := .bool false) (x6 := .string ⟨#[]⟩) (x7 := .int .i64 0) (x8 := .int .i64 0) (x9 := .slice none 0 0) rfl rfl rfl (by go_simp) (by go_simp) (by go_simp) (by go_simp) (by go_simp) (by go_simp) (by go_simp) (by go_simp) (by go_simp) (by go_simp) ?_
   exact cap_no Z.out (by decide) bqq
 | some l =>
 have us := JS l rfl
 unfold joined at RV
 rw [Option.getD_some, Option.isSome_some] at RV
 obtain ⟨u, hu⟩ : ∃ u, u = sst l := ⟨_, rfl⟩
 have HR3 : Hid (R = if kindB u ≠ 0 then .error 31 else if (findK (ns.map er) u).isSome = true then .error 32 else match balias (joinB (spaceB u)) (j.get kAliases) with
       | .error e => .error e
       | .ok al => .ok (u, al)) := by rw [hu]; exact HR2.out
 rw [← hu] at us RV
 have KU := Lib.hid (fun W (b : Below w.heap.size w W) => nKind_any u (by omega) W (LA.out W b))
 have FB := Lib.hid (FA.out u)
 rw [find_er] at FB
 have SU := Lib.hid (fun W (b : Below w.heap.size w W) => nSpace_any u (by omega) W (LA.out W b))
 clear HR2 JS hu FA
 obtain ⟨kd, hkd⟩ : ∃ k, k = Nm.kind u.data.toList := ⟨_, rfl⟩
 rw [← hkd] at KU
 by_cases hk0 : kd ≠ 0
 · have Z : Hid (R = .error 31) := by show _ = _; rw [HR3.out]; exact if_pos (by unfold kindB; rw [← hkd]; exact hk0)
   have qk : ((kd : Int) != 0) = true := by rw [bne_iff_ne]; omega
   clear HR3 FB SU AA LA h z0 z1 z2 z3 TT HS hkd hk0
   rcases H0 with rfl | ⟨rfl, q⟩
   all_goals
    obtain ⟨_, _, _, _, _, _, _, _, _, _, _, _, _, _, _, _, _, _, _, _⟩ := B10.facts N8.out
    go_enter Tryz.func131, Tryz.ntmps131
    go_wp2_with fail
    with_reducible refine (IT.out _ BN.out).mono ?_
    rintro e w1 ⟨X3, x3, X4, x4, rfl, _, b1⟩
    have s1 := b1.size
    have s0 : w.heap.size < w1.heap.size := Nat.lt_of_lt_of_le N8.out.lt s1
    have bb : Hid (Below w.heap.size w (w1.alloc (.cells #[.int .i64 x.k, .int .i64 x.n, .string x.t, .slice X3 x.its.length x3, .slice X4 x.ks.length x4] 25))) := by
     have : Below w.heap.size w w1 := BN.out.trans (b1.mono BN.out.size)
     show Below _ _ _; (repeat' (first | with_reducible assumption | with_reducible exact Below.refl _ _ | (with_reducible refine Below.alloc ?_ ?_ _; rotate_left; focus ((first | exact Nat.le_refl _ | (simp; done) | (simp; omega) | omega | fail))) | (with_reducible refine Below.setCell ?_ ?_ _; rotate_left; focus ((first | exact Nat.le_refl _ | (simp; done) | (simp; omega) | omega | fail))) | with_reducible refine Mem.bel_drewN ?_ _ | with_reducible refine Below.drew ?_ | (with_reducible refine Mem.bel_call (by with_reducible assumption) ?_ ?_; focus ((first | exact Nat.le_refl _ | (simp; done) | (simp; omega) | omega | fail))) | fail))
    have M1 := Lib.hid ((B10.below N8.out b1 N8.out.lt).alloc (.cells #[.int .i64 x.k, .int .i64 x.n, .string x.t, .slice X3 x.its.length x3, .slice X4 x.ks.length x4] 25))
    have C1 : Hid (B5 (w1.alloc (.cells #[.int .i64 x.k, .int .i64 x.n, .string x.t, .slice X3 x.its.length x3, .slice X4 x.ks.length x4] 25)) w1.heap.size 25 (.int .i64 x.k) (.int .i64 x.n) (.string x.t) (.slice X3 x.its.length x3) (.slice X4 x.ks.length x4)) := B5.newat rfl
    have lt1 := M1.out.lt
    have lc1 := C1.out.lt
    go_wp2_with fail
    with_reducible refine (IX.out _ bb.out).mono ?_
    rintro e w2 ⟨Y3, y3, Y4, y4, rfl, b2⟩
    have s2 := b2.size
    have bw2 : Below w.heap.size w w2 := bb.out.trans (b2.mono bb.out.size)
    have M2 := Lib.hid ((B10.below M1.out b2 lt1).alloc (.cells #[.int .i64 K0, .int .i64 K1, .string K2, .slice Y3 l3 y3, .slice Y4 l4 y4] 25))
    have C2 := Lib.hid ((B5.below C1.out b2 lc1).alloc (.cells #[.int .i64 K0, .int .i64 K1, .string K2, .slice Y3 l3 y3, .slice Y4 l4 y4] 25))
    have D2 : Hid (B5 (w2.alloc (.cells #[.int .i64 K0, .int .i64 K1, .string K2, .slice Y3 l3 y3, .slice Y4 l4 y4] 25)) w2.heap.size 25 (.int .i64 K0) (.int .i64 K1) (.string K2) (.slice Y3 l3 y3) (.slice Y4 l4 y4)) := B5.newat rfl
    have BW : Hid (Below w.heap.size w (w2.alloc (.cells #[.int .i64 K0, .int .i64 K1, .string K2, .slice Y3 l3 y3, .slice Y4 l4 y4] 25))) := by show Below _ _ _; (repeat' (first | with_reducible assumption | with_reducible exact Below.refl _ _ | (with_reducible refine Below.alloc ?_ ?_ _; rotate_left; focus ((first | exact Nat.le_refl _ | (simp; done) | (simp; omega) | omega | fail))) | (with_reducible refine Below.setCell ?_ ?_ _; rotate_left; focus ((first | exact Nat.le_refl _ | (simp; done) | (simp; omega) | omega | fail))) | with_reducible refine Mem.bel_drewN ?_ _ | with_reducible refine Below.drew ?_ | (with_reducible refine Mem.bel_call (by with_reducible assumption) ?_ ?_; focus ((first | exact Nat.le_refl _ | (simp; done) | (simp; omega) | omega | fail))) | fail))
    have lt2 := M2.out.lt
    have lc2 := C2.out.lt
    have ld2 := D2.out.lt
    obtain ⟨_, _, _, _, _, _, _, _, _, _⟩ := B5.facts C2.out
    obtain ⟨_, _, _, _, _, _, _, _, _, _⟩ := B5.facts D2.out
    clear M1 C1 bb
    go_wp2_with fail
    with_reducible refine (RV.out _ BW.out).mono ?_
    rintro e w3 ⟨rfl, b3⟩
    have s3 := b3.size
    have bw3 : Below w.heap.size w w3 := BW.out.trans (b3.mono BW.out.size)
    go_wp2_with fail
    with_reducible refine (KU.out _ bw3).mono ?_
    rintro e w4 ⟨rfl, b4⟩
    have s4 := b4.size
    have bw4 : Below w.heap.size w w4 := bw3.trans (b4.mono bw3.size)
    have M4 := Lib.hid (B10.below M2.out (b3.trans (b4.mono s3)) lt2)
    have lt4 := M4.out.lt
    obtain ⟨_, _, _, _, _, _, _, _, _, _, _, _, _, _, _, _, _, _, _, _⟩ := B10.facts M4.out
    clear M4 M2 N8 IX IT BN b3 RV KU b4
    go_wp2_with fail
    try simp only [Exit.inBlock, Exit.then]
    refine post_N2 (x0 := .int .i64 0) (x1 := .string ⟨#[]⟩) (x2 := .slice none 0 0) (x3 := .slice none 0 0) (x4 := .slice none 0 0) (x5 := .bool false) (x6 := .string ⟨#[]⟩) (x7 := .int .i64 0) (x8 := .int .i64 0) (x9 := .slice none 0 0) rfl rfl rfl (by go_simp) (by go_simp) (by go_simp) (by go_simp) (by go_simp) (by go_simp) (by go_simp) (by go_simp) (by go_simp) (by go_simp) ?_
    exact cap_no Z.out (by decide) bqq
 have KV : Hid (∀ W, Below w.heap.size w W → Calls Tryz.prog 86 #[.string u] W (Ans (.int .i64 0) W)) := by
  have : kd = 0 := Classical.byContradiction hk0
  subst this
  exact KU.out
 have HR4 : Hid (R = if (findK (ns.map er) u).isSome = true then .error 32 else match balias (joinB (spaceB u)) (j.get kAliases) with
       | .error e => .error e
       | .ok al => .ok (u, al)) := by show _ = _; rw [HR3.out]; exact if_neg (by unfold kindB; rw [← hkd]; exact hk0)
 clear HR3 KU hkd hk0
 cases hf : findK (ns.map er) u with
 | some p =>
  rw [hf] at FB HR4
  have Z : Hid (R = .error 32) := HR4.out
  unfold plc at FB
  have qp : (0 : Int) ≤ (p : Int) := by omega
  clear HR4 SU AA LA h TT HS hf
  rcases H0 with rfl | ⟨rfl, q⟩
  all_goals
   obtain ⟨_, _, _, _, _, _, _, _, _, _, _, _, _, _, _, _, _, _, _, _⟩ := B10.facts N8.out
   go_enter Tryz.func131, Tryz.ntmps131
   go_wp2_with fail
   with_reducible refine (IT.out _ BN.out).mono ?_
   rintro e w1 ⟨X3, x3, X4, x4, rfl, _, b1⟩
   have s1 := b1.size
   have s0 : w.heap.size < w1.heap.size := Nat.lt_of_lt_of_le N8.out.lt s1
   have bb : Hid (Below w.heap.size w (w1.alloc (.cells #[.int .i64 x.k, .int .i64 x.n, .string x.t, .slice X3 x.its.length x3, .slice X4 x.ks.length x4] 25))) := by
    have : Below w.heap.size w w1 := BN.out.trans (b1.mono BN.out.size)
    show Below _ _ _; (repeat' (first | with_reducible assumption | with_reducible exact Below.refl _ _ | (with_reducible refine Below.alloc ?_ ?_ _; rotate_left; focus ((first | exact Nat.le_refl _ | (simp; done) | (simp; omega) | omega | fail))) | (with_reducible refine Below.setCell ?_ ?_ _; rotate_left; focus ((first | exact Nat.le_refl _ | (simp; done) | (simp; omega) | omega | fail))) | with_reducible refine Mem.bel_drewN ?_ _ | with_reducible refine Below.drew ?_ | (with_reducible refine Mem.bel_call (by with_reducible assumption) ?_ ?_; focus ((first | exact Nat.le_refl _ | (simp; done) | (simp; omega) | omega | fail))) | fail))
   have M1 := Lib.hid ((B10.below N8.out b1 N8.out.lt).alloc (.cells #[.int .i64 x.k, .int .i64 x.n, .string x.t, .slice X3 x.its.length x3, .slice X4 x.ks.length x4] 25))
   have C1 : Hid (B5 (w1.alloc (.cells #[.int .i64 x.k, .int .i64 x.n, .string x.t, .slice X3 x.its.length x3, .slice X4 x.ks.length x4] 25)) w1.heap.size 25 (.int .i64 x.k) (.int .i64 x.n) (.string x.t) (.slice X3 x.its.length x3) (.slice X4 x.ks.length x4)) := B5.newat rfl
   have lt1 := M1.out.lt
   have lc1 := C1.out.lt
   go_wp2_with fail
   with_reducible refine (IX.out _ bb.out).mono ?_
   rintro e w2 ⟨Y3, y3, Y4, y4, rfl, b2⟩
   have s2 := b2.size
   have bw2 : Below w.heap.size w w2 := bb.out.trans (b2.mono bb.out.size)
   have M2 := Lib.hid ((B10.below M1.out b2 lt1).alloc (.cells #[.int .i64 K0, .int .i64 K1, .string K2, .slice Y3 l3 y3, .slice Y4 l4 y4] 25))
   have C2 := Lib.hid ((B5.below C1.out b2 lc1).alloc (.cells #[.int .i64 K0, .int .i64 K1, .string K2, .slice Y3 l3 y3, .slice Y4 l4 y4] 25))
   have D2 : Hid (B5 (w2.alloc (.cells #[.int .i64 K0, .int .i64 K1, .string K2, .slice Y3 l3 y3, .slice Y4 l4 y4] 25)) w2.heap.size 25 (.int .i64 K0) (.int .i64 K1) (.string K2) (.slice Y3 l3 y3) (.slice Y4 l4 y4)) := B5.newat rfl
   have BW : Hid (Below w.heap.size w (w2.alloc (.cells #[.int .i64 K0, .int .i64 K1, .string K2, .slice Y3 l3 y3, .slice Y4 l4 y4] 25))) := by show Below _ _ _; (repeat' (first | with_reducible assumption | with_reducible exact Below.refl _ _ | (with_reducible refine Below.alloc ?_ ?_ _; rotate_left; focus ((first | exact Nat.le_refl _ | (simp; done) | (simp; omega) | omega | fail))) | (with_reducible refine Below.setCell ?_ ?_ _; rotate_left; focus ((first | exact Nat.le_refl _ | (simp; done) | (simp; omega) | omega | fail))) | with_reducible refine Mem.bel_drewN ?_ _ | with_reducible refine Below.drew ?_ | (with_reducible refine Mem.bel_call (by with_reducible assumption) ?_ ?_; focus ((first | exact Nat.le_refl _ | (simp; done) | (simp; omega) | omega | fail))) | fail))
   have lt2 := M2.out.lt
   have lc2 := C2.out.lt
   have ld2 := D2.out.lt
   obtain ⟨_, _, _, _, _, _, _, _, _, _⟩ := B5.facts C2.out
   obtain ⟨_, _, _, _, _, _, _, _, _, _⟩ := B5.facts D2.out
   clear M1 C1 bb
   go_wp2_with fail
   with_reducible refine (RV.out _ BW.out).mono ?_
   rintro e w3 ⟨rfl, b3⟩
   have s3 := b3.size
   have bw3 : Below w.heap.size w w3 := BW.out.trans (b3.mono BW.out.size)
   go_wp2_with fail
   with_reducible refine (KV.out _ bw3).mono ?_
   rintro e w4 ⟨rfl, b4⟩
   have s4 := b4.size
   have bw4 : Below w.heap.size w w4 := bw3.trans (b4.mono bw3.size)
   have y0 := (bw4.cell (p := ⟨g, 0, none⟩) lg1).trans z0
   have y1 := (bw4.cell (p := ⟨g, 1, none⟩) lg1).trans z1
   go_wp2_with fail
   with_reducible refine (FB.out _ bw4).mono ?_
   rintro e w5 ⟨rfl, b5⟩
   have s5 := b5.size
   have bw5 : Below w.heap.size w w5 := bw4.trans (b5.mono bw4.size)
   have M5 := Lib.hid (B10.below M2.out (b3.trans ((b4.trans (b5.mono s4)).mono s3)) lt2)
   have lt5 := M5.out.lt
   obtain ⟨_, _, _, _, _, _, _, _, _, _, _, _, _, _, _, _, _, _, _, _⟩ := B10.facts M5.out
   clear M5 M2 N8 IX IT BN b3 RV KV b4 b5 FB
   go_wp2_with fail
   try simp only [Exit.inBlock, Exit.then]
   refine post_N2 (x0 := .int .i64 0) (x1 := .string ⟨#[]⟩) (x2 := .slice none 0 0) (x3 := .slice none 0 0) (x4 := .slice none 0 0) (x5 := .bool false) (x6 := .string ⟨#[]⟩) (x7 := .int .i64 0) (x8 := .int .i64 0) (x9 := .slice none 0 0) rfl rfl rfl (by go_simp) (by go_simp) (by go_simp) (by go_simp) (by go_simp) (by go_simp) (by go_simp) (by go_simp) (by go_simp) (by go_simp) ?_
   exact cap_no Z.out (by decide) bqq
 | none =>
  rw [hf] at FB HR4
  have HR5 : Hid (R = match balias (joinB (spaceB u)) (j.get kAliases) with
   | .error e => .error e
   | .ok al => .ok (u, al)) := HR4.out
  unfold plc at FB
  obtain ⟨own, hown⟩ : ∃ o, o = spaceB u := ⟨_, rfl⟩
  have own_ : own.size ≤ 1000000 := by have := spaceB_size u; rw [hown]; omega
  have SV : Hid (∀ W, Below w.heap.size w W → Calls Tryz.prog 16 #[.string u] W (Ans (.string own) W)) := by rw [hown]; exact SU.out
  rw [← hown] at HR5
  have AO := Lib.hid (fun W (b : Below w.heap.size w W) => AA.out W b own own_)
  cases hb : balias (joinB own) (j.get kAliases) with
  | error z =>
   rw [hb] at AO HR5
   have Z : Hid (R = .error z) := HR5.out
   clear HR4 SU AA LA h TT HS hf HR5 hown hb
   rcases H0 with rfl | ⟨rfl, q⟩
   all_goals
   obtain ⟨_, _, _, _, _, _, _, _, _, _, _, _, _, _, _, _, _, _, _, _⟩ := B10.facts N8.out
   go_enter Tryz.func131, Tryz.ntmps131
   go_wp2_with fail
   with_reducible refine (IT.out _ BN.out).mono ?_
   rintro e w1 ⟨X3, x3, X4, x4, rfl, _, b1⟩
   have s1 := b1.size
   have s0 : w.heap.size < w1.heap.size := Nat.lt_of_lt_of_le N8.out.lt s1
   have bb : Hid (Below w.heap.size w (w1.alloc (.cells #[.int .i64 x.k, .int .i64 x.n, .string x.t, .slice X3 x.its.length x3, .slice X4 x.ks.length x4] 25))) := by
    have : Below w.heap.size w w1 := BN.out.trans (b1.mono BN.out.size)
    show Below _ _ _; (repeat' (first | with_reducible assumption | with_reducible exact Below.refl _ _ | (with_reducible refine Below.alloc ?_ ?_ _; rotate_left; focus ((first | exact Nat.le_refl _ | (simp; done) | (simp; omega) | omega | fail))) | (with_reducible refine Below.setCell ?_ ?_ _; rotate_left; focus ((first | exact Nat.le_refl _ | (simp; done) | (simp; omega) | omega | fail))) | with_reducible refine Mem.bel_drewN ?_ _ | with_reducible refine Below.drew ?_ | (with_reducible refine Mem.bel_call (by with_reducible assumption) ?_ ?_; focus ((first | exact Nat.le_refl _ | (simp; done) | (simp; omega) | omega | fail))) | fail))
   have M1 := Lib.hid ((B10.below N8.out b1 N8.out.lt).alloc (.cells #[.int .i64 x.k, .int .i64 x.n, .string x.t, .slice X3 x.its.length x3, .slice X4 x.ks.length x4] 25))
   have C1 : Hid (B5 (w1.alloc (.cells #[.int .i64 x.k, .int .i64 x.n, .string x.t, .slice X3 x.its.length x3, .slice X4 x.ks.length x4] 25)) w1.heap.size 25 (.int .i64 x.k) (.int .i64 x.n) (.string x.t) (.slice X3 x.its.length x3) (.slice X4 x.ks.length x4)) := B5.newat rfl
   have lt1 := M1.out.lt
   have lc1 := C1.out.lt
   go_wp2_with fail
   with_reducible refine (IX.out _ bb.out).mono ?_
   rintro e w2 ⟨Y3, y3, Y4, y4, rfl, b2⟩
   have s2 := b2.size
   have bw2 : Below w.heap.size w w2 := bb.out.trans (b2.mono bb.out.size)
   have M2 := Lib.hid ((B10.below M1.out b2 lt1).alloc (.cells #[.int .i64 K0, .int .i64 K1, .string K2, .slice Y3 l3 y3, .slice Y4 l4 y4] 25))
   have C2 := Lib.hid ((B5.below C1.out b2 lc1).alloc (.cells #[.int .i64 K0, .int .i64 K1, .string K2, .slice Y3 l3 y3, .slice Y4 l4 y4] 25))
   have D2 : Hid (B5 (w2.alloc (.cells #[.int .i64 K0, .int .i64 K1, .string K2, .slice Y3 l3 y3, .slice Y4 l4 y4] 25)) w2.heap.size 25 (.int .i64 K0) (.int .i64 K1) (.string K2) (.slice Y3 l3 y3) (.slice Y4 l4 y4)) := B5.newat rfl
   have BW : Hid (Below w.heap.size w (w2.alloc (.cells #[.int .i64 K0, .int .i64 K1, .string K2, .slice Y3 l3 y3, .slice Y4 l4 y4] 25))) := by show Below _ _ _; (repeat' (first | with_reducible assumption | with_reducible exact Below.refl _ _ | (with_reducible refine Below.alloc ?_ ?_ _; rotate_left; focus ((first | exact Nat.le_refl _ | (simp; done) | (simp; omega) | omega | fail))) | (with_reducible refine Below.setCell ?_ ?_ _; rotate_left; focus ((first | exact Nat.le_refl _ | (simp; done) | (simp; omega) | omega | fail))) | with_reducible refine Mem.bel_drewN ?_ _ | with_reducible refine Below.drew ?_ | (with_reducible refine Mem.bel_call (by with_reducible assumption) ?_ ?_; focus ((first | exact Nat.le_refl _ | (simp; done) | (simp; omega) | omega | fail))) | fail))
   have lt2 := M2.out.lt
   have lc2 := C2.out.lt
   have ld2 := D2.out.lt
   obtain ⟨_, _, _, _, _, _, _, _, _, _⟩ := B5.facts C2.out
   obtain ⟨_, _, _, _, _, _, _, _, _, _⟩ := B5.facts D2.out
   clear M1 C1 bb
   go_wp2_with fail
   with_reducible refine (RV.out _ BW.out).mono ?_
   rintro e w3 ⟨rfl, b3⟩
   have s3 := b3.size
   have bw3 : Below w.heap.size w w3 := BW.out.trans (b3.mono BW.out.size)
   go_wp2_with fail
   with_reducible refine (KV.out _ bw3).mono ?_
   rintro e w4 ⟨rfl, b4⟩
   have s4 := b4.size
   have bw4 : Below w.heap.size w w4 := bw3.trans (b4.mono bw3.size)
   have y0 := (bw4.cell (p := ⟨g, 0, none⟩) lg1).trans z0
   have y1 := (bw4.cell (p := ⟨g, 1, none⟩) lg1).trans z1
   go_wp2_with fail
   with_reducible refine (FB.out _ bw4).mono ?_
   rintro e w5 ⟨rfl, b5⟩
   have s5 := b5.size
   have bw5 : Below w.heap.size w w5 := bw4.trans (b5.mono bw4.size)
   go_wp2_with fail
   with_reducible refine (SV.out _ bw5).mono ?_
   rintro e w6 ⟨rfl, b6⟩
   have s6 := b6.size
   have bw6 : Below w.heap.size w w6 := bw5.trans (b6.mono bw5.size)
   have M7 := Lib.hid ((B10.below M2.out (b3.trans ((b4.trans ((b5.trans (b6.mono s5)).mono s4)).mono s3)) lt2).alloc (.cells #[.string own] 9))
   have O7 : Hid (Blk (w6.alloc (.cells #[.string own] 9)) w6.heap.size 9 #[.string own]) := Blk.newat rfl
   have lt7 := M7.out.lt
   have lo7 := O7.out.lt
   have bw7 : Below w.heap.size w (w6.alloc (.cells #[.string own] 9)) := by show Below _ _ _; (repeat' (first | with_reducible assumption | with_reducible exact Below.refl _ _ | (with_reducible refine Below.alloc ?_ ?_ _; rotate_left; focus ((first | exact Nat.le_refl _ | (simp; done) | (simp; omega) | omega | fail))) | (with_reducible refine Below.setCell ?_ ?_ _; rotate_left; focus ((first | exact Nat.le_refl _ | (simp; done) | (simp; omega) | omega | fail))) | with_reducible refine Mem.bel_drewN ?_ _ | with_reducible refine Below.drew ?_ | (with_reducible refine Mem.bel_call (by with_reducible assumption) ?_ ?_; focus ((first | exact Nat.le_refl _ | (simp; done) | (simp; omega) | omega | fail))) | fail))
   have co7 : (w6.alloc (.cells #[.string own] 9)).cell? ⟨w6.heap.size, 0, none⟩ = some (.string own) := by go_simp
   go_wp2_with fail
   with_reducible refine (AO.out _ bw7 _ lo7 co7).mono ?_
   rintro e w8 hp
   obtain ⟨b8, h8, _⟩ := hp
   obtain ⟨rfl, hz⟩ := h8 z rfl
   have HZ := Lib.hid hz
   have bw8 : Below w.heap.size w w8 := bw7.trans (b8.mono bw7.size)
   have M8 := Lib.hid (B10.below M7.out b8 lt7)
   have lt8 := M8.out.lt
   obtain ⟨_, _, _, _, _, _, _, _, _, _, _, _, _, _, _, _, _, _, _, _⟩ := B10.facts M8.out
   clear M8 M7 M2 N8 IX IT BN b3 RV KV b4 b5 b6 b8 FB AO SV h8 hz
   go_wp2_with fail
   try simp only [Exit.inBlock, Exit.then]
   refine post_N2 (x0 := .int .i64 k) (x1 := .string u) (x2 := .slice none 0 0) (x3 := .slice none 0 0) (x4 := .slice none 0 0) (x5 := .bool false) (x6 := .string ⟨#[]⟩) (x7 := .int .i64 0) (x8 := .int .i64 0) (x9 := .slice none 0 0) rfl rfl rfl (by go_simp) (by go_simp) (by go_simp) (by go_simp) (by go_simp) (by go_simp) (by go_simp) (by go_simp) (by go_simp) (by go_simp) ?_
   exact cap_no Z.out HZ.out bqq
  | ok al =>
   rw [hb] at AO HR5
   have Z : Hid (R = .ok (u, al)) := HR5.out
   clear HR4 SU AA LA h TT HS hf HR5 hown hb
   rcases H0 with rfl | ⟨rfl, q⟩
   all_goals
   obtain ⟨_, _, _, _, _, _, _, _, _, _, _, _, _, _, _, _, _, _, _, _⟩ := B10.facts N8.out
   go_enter Tryz.func131, Tryz.ntmps131
   go_wp2_with fail
   with_reducible refine (IT.out _ BN.out).mono ?_
   rintro e w1 ⟨X3, x3, X4, x4, rfl, _, b1⟩
   have s1 := b1.size
   have s0 : w.heap.size < w1.heap.size := Nat.lt_of_lt_of_le N8.out.lt s1
   have bb : Hid (Below w.heap.size w (w1.alloc (.cells #[.int .i64 x.k, .int .i64 x.n, .string x.t, .slice X3 x.its.length x3, .slice X4 x.ks.length x4] 25))) := by
    have : Below w.heap.size w w1 := BN.out.trans (b1.mono BN.out.size)
    show Below _ _ _; (repeat' (first | with_reducible assumption | with_reducible exact Below.refl _ _ | (with_reducible refine Below.alloc ?_ ?_ _; rotate_left; focus ((first | exact Nat.le_refl _ | (simp; done) | (simp; omega) | omega | fail))) | (with_reducible refine Below.setCell ?_ ?_ _; rotate_left; focus ((first | exact Nat.le_refl _ | (simp; done) | (simp; omega) | omega | fail))) | with_reducible refine Mem.bel_drewN ?_ _ | with_reducible refine Below.drew ?_ | (with_reducible refine Mem.bel_call (by with_reducible assumption) ?_ ?_; focus ((first | exact Nat.le_refl _ | (simp; done) | (simp; omega) | omega | fail))) | fail))
   have M1 := Lib.hid ((B10.below N8.out b1 N8.out.lt).alloc (.cells #[.int .i64 x.k, .int .i64 x.n, .string x.t, .slice X3 x.its.length x3, .slice X4 x.ks.length x4] 25))
   have C1 : Hid (B5 (w1.alloc (.cells #[.int .i64 x.k, .int .i64 x.n, .string x.t, .slice X3 x.its.length x3, .slice X4 x.ks.length x4] 25)) w1.heap.size 25 (.int .i64 x.k) (.int .i64 x.n) (.string x.t) (.slice X3 x.its.length x3) (.slice X4 x.ks.length x4)) := B5.newat rfl
   have lt1 := M1.out.lt
   have lc1 := C1.out.lt
   go_wp2_with fail
   with_reducible refine (IX.out _ bb.out).mono ?_
   rintro e w2 ⟨Y3, y3, Y4, y4, rfl, b2⟩
   have s2 := b2.size
   have bw2 : Below w.heap.size w w2 := bb.out.trans (b2.mono bb.out.size)
   have M2 := Lib.hid ((B10.below M1.out b2 lt1).alloc (.cells #[.int .i64 K0, .int .i64 K1, .string K2, .slice Y3 l3 y3, .slice Y4 l4 y4] 25))
   have C2 := Lib.hid ((B5.below C1.out b2 lc1).alloc (.cells #[.int .i64 K0, .int .i64 K1, .string K2, .slice Y3 l3 y3, .slice Y4 l4 y4] 25))
   have D2 : Hid (B5 (w2.alloc (.cells #[.int .i64 K0, .int .i64 K1, .string K2, .slice Y3 l3 y3, .slice Y4 l4 y4] 25)) w2.heap.size 25 (.int .i64 K0) (.int .i64 K1) (.string K2) (.slice Y3 l3 y3) (.slice Y4 l4 y4)) := B5.newat rfl
   have BW : Hid (Below w.heap.size w (w2.alloc (.cells #[.int .i64 K0, .int .i64 K1, .string K2, .slice Y3 l3 y3, .slice Y4 l4 y4] 25))) := by show Below _ _ _; (repeat' (first | with_reducible assumption | with_reducible exact Below.refl _ _ | (with_reducible refine Below.alloc ?_ ?_ _; rotate_left; focus ((first | exact Nat.le_refl _ | (simp; done) | (simp; omega) | omega | fail))) | (with_reducible refine Below.setCell ?_ ?_ _; rotate_left; focus ((first | exact Nat.le_refl _ | (simp; done) | (simp; omega) | omega | fail))) | with_reducible refine Mem.bel_drewN ?_ _ | with_reducible refine Below.drew ?_ | (with_reducible refine Mem.bel_call (by with_reducible assumption) ?_ ?_; focus ((first | exact Nat.le_refl _ | (simp; done) | (simp; omega) | omega | fail))) | fail))
   have lt2 := M2.out.lt
   have lc2 := C2.out.lt
   have ld2 := D2.out.lt
   obtain ⟨_, _, _, _, _, _, _, _, _, _⟩ := B5.facts C2.out
   obtain ⟨_, _, _, _, _, _, _, _, _, _⟩ := B5.facts D2.out
   clear M1 C1 bb
   go_wp2_with fail
   with_reducible refine (RV.out _ BW.out).mono ?_
   rintro e w3 ⟨rfl, b3⟩
   have s3 := b3.size
   have bw3 : Below w.heap.size w w3 := BW.out.trans (b3.mono BW.out.size)
   go_wp2_with fail
   with_reducible refine (KV.out _ bw3).mono ?_
   rintro e w4 ⟨rfl, b4⟩
   have s4 := b4.size
   have bw4 : Below w.heap.size w w4 := bw3.trans (b4.mono bw3.size)
   have y0 := (bw4.cell (p := ⟨g, 0, none⟩) lg1).trans z0
   have y1 := (bw4.cell (p := ⟨g, 1, none⟩) lg1).trans z1
   go_wp2_with fail
   with_reducible refine (FB.out _ bw4).mono ?_
   rintro e w5 ⟨rfl, b5⟩
   have s5 := b5.size
   have bw5 : Below w.heap.size w w5 := bw4.trans (b5.mono bw4.size)
   go_wp2_with fail
   with_reducible refine (SV.out _ bw5).mono ?_
   rintro e w6 ⟨rfl, b6⟩
   have s6 := b6.size
   have bw6 : Below w.heap.size w w6 := bw5.trans (b6.mono bw5.size)
   have M7 := Lib.hid ((B10.below M2.out (b3.trans ((b4.trans ((b5.trans (b6.mono s5)).mono s4)).mono s3)) lt2).alloc (.cells #[.string own] 9))
   have O7 : Hid (Blk (w6.alloc (.cells #[.string own] 9)) w6.heap.size 9 #[.string own]) := Blk.newat rfl
   have lt7 := M7.out.lt
   have lo7 := O7.out.lt
   have bw7 : Below w.heap.size w (w6.alloc (.cells #[.string own] 9)) := by show Below _ _ _; (repeat' (first | with_reducible assumption | with_reducible exact Below.refl _ _ | (with_reducible refine Below.alloc ?_ ?_ _; rotate_left; focus ((first | exact Nat.le_refl _ | (simp; done) | (simp; omega) | omega | fail))) | (with_reducible refine Below.setCell ?_ ?_ _; rotate_left; focus ((first | exact Nat.le_refl _ | (simp; done) | (simp; omega) | omega | fail))) | with_reducible refine Mem.bel_drewN ?_ _ | with_reducible refine Below.drew ?_ | (with_reducible refine Mem.bel_call (by with_reducible assumption) ?_ ?_; focus ((first | exact Nat.le_refl _ | (simp; done) | (simp; omega) | omega | fail))) | fail))
   have co7 : (w6.alloc (.cells #[.string own] 9)).cell? ⟨w6.heap.size, 0, none⟩ = some (.string own) := by go_simp
   go_wp2_with fail
   with_reducible refine (AO.out _ bw7 _ lo7 co7).mono ?_
   rintro e w8 hp
   obtain ⟨b8, _, h8⟩ := hp
   obtain ⟨v, rfl, hg⟩ := h8 al rfl
   have bw8 : Below w.heap.size w w8 := bw7.trans (b8.mono bw7.size)
   have M8 := Lib.hid (B10.below M7.out b8 lt7)
   have lt8 := M8.out.lt
   have lw6 : w.heap.size < w6.heap.size := Nat.lt_of_lt_of_le lt2 (Nat.le_trans s3 (Nat.le_trans s4 (Nat.le_trans s5 s6)))
   have G8 := Lib.hid (GatS.less_ hg (show w6.heap.size ≤ _ by simp))
   obtain ⟨A', c', rfl, _, _⟩ := hg.done
   obtain ⟨la, hla⟩ : ∃ n, n = (al.map D.s).length := ⟨_, rfl⟩
   rw [← hla] at G8
   rw [← hla]
   obtain ⟨_, _, _, _, _, _, _, _, _, _, _, _, _, _, _, _, _, _, _, _⟩ := B10.facts M8.out
   clear M8 M7 M2 N8 IX IT BN b3 RV KV b4 b5 b6 b8 FB AO SV h8 hg hla
   go_wp2_with fail
   try simp only [Exit.inBlock, Exit.then]
   refine post_N2 (x0 := .int .i64 k) (x1 := .string u) (x2 := .slice A' la c') (x3 := .slice none 0 0) (x4 := .slice none 0 0) (x5 := .bool false) (x6 := .string ⟨#[]⟩) (x7 := .int .i64 0) (x8 := .int .i64 0) (x9 := .slice none 0 0) rfl rfl rfl (by go_simp) (by go_simp) (by go_simp) (by go_simp) (by go_simp) (by go_simp) (by go_simp) (by go_simp) (by go_simp) (by go_simp) ?_
   exact cap_yes Z.out bqq (GatS.less_ (base := w6.heap.size) (by ((iterate 10 (with_reducible refine GatS.setp ?_ lw6 _)); exact G8.out)) (by omega))
end Go.Proofs.YthogheglddfniaaGreatDoor
