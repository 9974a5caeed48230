/- Joined by tools/bundle.py: BC13. -/
import Derived.Test.YthogheglddfniaaGreatDoorW12
import Derived.Test.YthogheglddfniaaGreatDoorW0
set_option maxRecDepth 100000
set_option maxHeartbeats 16000000
namespace Go.Proofs.YthogheglddfniaaGreatDoor
open Go.ChangeShapes Go.WideShapes Go.ChangeAt Go.RowKit Mem
theorem post_F2 {fn : Func} {R : Ending → World → Prop} {a : Act} {w : World} {t u : Tmp} {g : Nat} {x0 x1 x2 x3 x4 x5 x6 x7 x8 : Value} (hf : fn.results = #[.cell t 97, .tmp u]) (hd : a.defers = [])
 (hg : a.tmps.getD t undef = .pointer (some ⟨g, 0, none⟩)) (h0 : w.cell? ⟨g, 0, none⟩ = some x0) (h1 : w.cell? ⟨g, 1, none⟩ = some x1) (h2 : w.cell? ⟨g, 2, none⟩ = some x2) (h3 : w.cell? ⟨g, 3, none⟩ = some x3) (h4 : w.cell? ⟨g, 4, none⟩ = some x4) (h5 : w.cell? ⟨g, 5, none⟩ = some x5) (h6 : w.cell? ⟨g, 6, none⟩ = some x6) (h7 : w.cell? ⟨g, 7, none⟩ = some x7) (h8 : w.cell? ⟨g, 8, none⟩ = some x8)
 (hR : R (.returned (.tuple #[.agg #[x0, x1, x2, x3, x4, x5, x6, x7, x8], a.tmps.getD u undef])) w) : bodyPost Tryz.prog fn R .ret a w := by
 refine bodyPost_ret ?_ hd hR
 rw [Array.getD_eq_getD_getElem?] at hg
 simp [results, hf, hg, go_sem, h0, h1, h2, h3, h4, h5, h6, h7, h8]
def bfieldB (B : Kn → J → ByteArray → Bres) (c : Kn) (j : J) (sp : ByteArray) (a : List Fd) : Except Int (Fd × List Nd) :=
 match bfield j a with
 | .error e => .error e
 | .ok f => match B c (gotten (j.get kType)) sp with
  | .error e => .error e
  | .ok (x, p) => .ok ({ f with ty := (p : Int) }, x)
def FdP (X : Nat → Prop) (R : Except Int (Fd × List Nd)) (T : Nat → Prop) (g r : Nat) (ns : List Nd) (w : World) (e : Ending) (w' : World) : Prop :=
 ∃ f0 A1 l1 c1 ty has k0 k1 f6 A3 l3 c3 A4 l4 c4 er_, e = .returned (.tuple #[.agg #[.string f0, .slice A1 l1 c1, .int .i64 ty, .bool has, .int .i64 k0, .int .i64 k1, .string f6, .slice A3 l3 c3, .slice A4 l4 c4], .int .i64 er_]) ∧ Sav g r w.heap.size w w' ∧ (∀ z, R = .error z → er_ = z ∧ z ≠ 0) ∧
  ∀ f ext, R = .ok (f, ext) → er_ = 0 ∧ ∃ r', Mkr X w' 52 41 g r' (ns ++ ext) ∧ (r' = r ∨ w.heap.size ≤ r') ∧ (ns ++ ext).length ≤ 200 ∧ Lies w' (fun b => (T b ∨ w.heap.size ≤ b) ∧ b < w'.heap.size ∧ b ≠ r') f.enc [.string f0, .slice A1 l1 c1, .int .i64 ty, .bool has, .int .i64 k0, .int .i64 k1, .string f6, .slice A3 l3 c3, .slice A4 l4 c4]
section
variable {X T : Nat → Prop} {R : Except Int (Fd × List Nd)} {g r r' : Nat} {ns ext : List Nd} {w w' : World} {f : Fd} {f0 f6 : ByteArray} {A1 A3 A4 : Option Addr} {l1 c1 l3 c3 l4 c4 : Nat} {ty k0 k1 z : Int} {has : Bool}
theorem fdp_no (hR : R = .error z) (hz : z ≠ 0) (s : Sav g r w.heap.size w w') : FdP X R T g r ns w (.returned (.tuple #[.agg #[.string f0, .slice A1 l1 c1, .int .i64 ty, .bool has, .int .i64 k0, .int .i64 k1, .string f6, .slice A3 l3 c3, .slice A4 l4 c4], .int .i64 z])) w' :=
 ⟨_, _, _, _, _, _, _, _, _, _, _, _, _, _, _, z, rfl, s, (fun y hy => by rw [hR] at hy; injection hy with hy; exact ⟨hy, by omega⟩), fun f ext hy => by rw [hR] at hy; cases hy⟩
theorem fdp_ok (hR : R = .ok (f, ext)) (s : Sav g r w.heap.size w w') (m : Mkr X w' 52 41 g r' (ns ++ ext)) (hr : r' = r ∨ w.heap.size ≤ r') (hl : (ns ++ ext).length ≤ 200) (hd : Lies w' (fun b => (T b ∨ w.heap.size ≤ b) ∧ b < w'.heap.size ∧ b ≠ r') f.enc [.string f0, .slice A1 l1 c1, .int .i64 ty, .bool has, .int .i64 k0, .int .i64 k1, .string f6, .slice A3 l3 c3, .slice A4 l4 c4]) :
 FdP X R T g r ns w (.returned (.tuple #[.agg #[.string f0, .slice A1 l1 c1, .int .i64 ty, .bool has, .int .i64 k0, .int .i64 k1, .string f6, .slice A3 l3 c3, .slice A4 l4 c4], .int .i64 0])) w' :=
 ⟨_, _, _, _, _, _, _, _, _, _, _, _, _, _, _, 0, rfl, s, (fun y hy => by rw [hR] at hy; cases hy), fun f' ext' hy => by
  rw [hR] at hy
  simp only [Except.ok.injEq, Prod.mk.injEq] at hy
  obtain ⟨rfl, rfl⟩ := hy
  exact ⟨rfl, r', m, hr, hl, hd⟩⟩
end
theorem Mem.Sav.setF {q B : Nat} {a b : World} (s : Sav q q B a b) (i : Nat) (u : Value) : Sav q q B a (b.setCell ⟨q, i, none⟩ u) := s.set (.inl rfl) u
theorem below_setG {B : Nat} {a b : World} (h : Below B a b) (i : Nat) (u : Value) : Below B a (b.setCell ⟨B, i, none⟩ u) := ⟨h.os, h.tape, h.output, by simp [World.setCell]; exact h.size, fun k hk => (Below.heap_setCell _ _ _ _ (by intro e; have : k = B := e; omega)).trans (h.block k hk)⟩
theorem J.t_wtF (x : J) : x.t.size ≤ x.wt := by cases x with | mk k n t its ks => unfold J.wt; show t.size ≤ _; omega
theorem GatS.lenm {w : World} {base : Nat} {e : TypeId} {s : Nat} {v : Value} {ds : List D} (h : GatS w base e s v ds) : ds.length ≤ maxLen := by
 obtain ⟨S, xs, h1, _⟩ := h
 rcases h1.2 with ⟨_, h0⟩ | ⟨q, cap, cur, e, hb, hg, hc, hm, _⟩
 · omega
 · omega
theorem field_any {X : Nat → Prop} {B : Kn → J → ByteArray → Bres} {Q : J → Prop} (hB : CallB B Q) (S : Nat → Prop) (j : J) (a : List Fd) (sp : ByteArray) (hsp : sp.size ≤ 1000000) (g r : Nat) (ns : List Nd) (w : World) (h : MkW X w g r ns) (hS : ∀ b, S b → b < g) (A3 A4 : Option Addr) (c3 c4 : Nat) (ht : TreeS w S j [.int .i64 j.k, .int .i64 j.n, .string j.t, .slice A3 j.its.length c3, .slice A4 j.ks.length c4]) (hw : j.wt ≤ 1000000) (hQ : Q (gotten (j.get kType)))
 (A : Option Addr) (c : Nat) (Sa : Nat → Prop) (hSa : ∀ b, Sa b → b < w.heap.size) (hal : a.length ≤ 1000000) (hA : RowD w Sa 9 (a.map Fd.enc) A) (R : Except Int (Fd × List Nd)) (hR : R = bfieldB B (ns.map er) j sp a) :
 Calls Tryz.prog 160 #[.pointer (some ⟨g, 0, none⟩), .func (.func 47) #[.agg #[.int .i64 j.k, .int .i64 j.n, .string j.t, .slice A3 j.its.length c3, .slice A4 j.ks.length c4]] #[], .slice A a.length c, .string sp] w (FdP X R S g r ns w) := by
 have CS := cell_set
 have lg := h.mkr.lt
 have lg1 := lg.1
 have hSw : ∀ b, S b → b < w.heap.size := fun b hb => Nat.lt_trans (hS b hb) lg1
 have TT : Hid (∀ W, Below w.heap.size w W → TreeS W S j [.int .i64 j.k, .int .i64 j.n, .string j.t, .slice A3 j.its.length c3, .slice A4 j.ks.length c4]) := fun W b => TreeS.keep (fun p hp => b.cell (hSw _ hp)) (fun _ h => h) ht
 have HS : Hid (∀ W, Below w.heap.size w W → ∀ b, S b → b < W.heap.size) := fun W b k hk => Nat.lt_of_lt_of_le (hSw k hk) b.size
 have SV : Hid (∀ W, Below w.heap.size w W → Sav g r w.heap.size w W) := fun W b => Sav.of b
 have BN : Hid (Below w.heap.size w (w.alloc (.cells #[.string ⟨#[]⟩, .slice none 0 0, .int .i64 0, .bool false, .int .i64 0, .int .i64 0, .string ⟨#[]⟩, .slice none 0 0, .slice none 0 0] 97))) := by show Below _ _ _; (repeat' (first | with_reducible assumption | with_reducible exact Below.refl _ _ | (with_reducible refine Below.alloc ?_ ?_ _; rotate_left; focus ((first | exact Nat.le_refl _ | (simp; done) | (simp; omega) | omega | fail))) | (with_reducible refine Below.setCell ?_ ?_ _; rotate_left; focus ((first | exact Nat.le_refl _ | (simp; done) | (simp; omega) | omega | fail))) | with_reducible refine Mem.bel_drewN ?_ _ | with_reducible refine Below.drew ?_ | (with_reducible refine Mem.bel_call (by with_reducible assumption) ?_ ?_; focus ((first | exact Nat.le_refl _ | (simp; done) | (simp; omega) | omega | fail))) | fail))
 have N9 : Hid (B9 (w.alloc (.cells #[.string ⟨#[]⟩, .slice none 0 0, .int .i64 0, .bool false, .int .i64 0, .int .i64 0, .string ⟨#[]⟩, .slice none 0 0, .slice none 0 0] 97)) w.heap.size 97 (.string ⟨#[]⟩) (.slice none 0 0) (.int .i64 0) (.bool false) (.int .i64 0) (.int .i64 0) (.string ⟨#[]⟩) (.slice none 0 0) (.slice none 0 0)) := B9.newat rfl
 by_cases hk : ∃ x, j.get kName = some x ∧ x.k = 4
 rotate_left
 · have Z : Hid (R = .error 30) := by
    show _ = _
    have e : txt (j.get kName) = none := by
     unfold txt
     rcases ho : j.get kName with _ | x
     · rfl
     · exact if_neg fun g => hk ⟨x, ho, g⟩
    rw [hR]; unfold bfieldB bfield; rw [e]
   have IT := Lib.hid (fun W (b : Below w.heap.size w W) => one_no (kind := 4) S j kName W (HS.out W b) A3 A4 c3 c4 (TT.out W b) fun x hx e => hk ⟨x, hx, e⟩)
   unfold kName at IT
   clear hR hk ht hS h TT HS hQ hB hA
   obtain ⟨_, _, _, _, _, _, _, _, _, _, _, _, _, _, _, _, _, _⟩ := B9.facts N9.out
   go_enter Tryz.func160, Tryz.ntmps160
   go_wp2_with fail
   with_reducible refine (IT.out _ BN.out).mono ?_
   rintro e w1 ⟨K0, K1, K2, X3, l3, x3, X4, l4, x4, rfl, b1⟩
   have s1 := b1.size
   have s0 : w.heap.size < w1.heap.size := Nat.lt_of_lt_of_le N9.out.lt s1
   have bw1 : Below w.heap.size w w1 := BN.out.trans (b1.mono BN.out.size)
   have M1 := Lib.hid (B9.below N9.out b1 N9.out.lt)
   obtain ⟨_, _, _, _, _, _, _, _, _, _, _, _, _, _, _, _, _, _⟩ := B9.facts M1.out
   clear M1 N9 IT BN b1
   go_wp2_with fail
   try simp only [Exit.inBlock, Exit.then]
   refine post_F2 (x0 := .string ⟨#[]⟩) (x1 := .slice none 0 0) (x2 := .int .i64 0) (x3 := .bool false) (x4 := .int .i64 0) (x5 := .int .i64 0) (x6 := .string ⟨#[]⟩) (x7 := .slice none 0 0) (x8 := .slice none 0 0) rfl rfl rfl (by go_simp) (by go_simp) (by go_simp) (by go_simp) (by go_simp) (by go_simp) (by go_simp) (by go_simp) (by go_simp) ?_
   exact fdp_no Z.out (by decide) (SV.out _ bqq)
 obtain ⟨x, hx, hk⟩ := hk
 have IT := Lib.hid (fun W (b : Below w.heap.size w W) => one_yes S j kName W (HS.out W b) A3 A4 c3 c4 (TT.out W b) hx hk)
 have xw : x.t.size ≤ 1000000 := Nat.le_trans (J.t_wtF x) (Nat.le_trans (J.get_wt hx) hw)
 have LA := Lib.hid (fun W (b : Below w.heap.size w W) => LaidN.below h.laid b)
 have HR : Hid (R = if simpB x.t = false then .error 31 else if a.any (hasF x.t) = true then .error 36 else match balias simO (j.get kAliases) with
  | .error e => .error e
  | .ok al => match B (ns.map er) (gotten (j.get kType)) sp with
   | .error e => .error e
   | .ok (y, p) => .ok (⟨x.t, al, (p : Int), (j.get kDefault).isSome, gotten (j.get kDefault)⟩, y)) := by
  show _ = _
  have e : txt (j.get kName) = some x.t := by unfold txt; rw [hx]; exact if_pos hk
  have e2 : inB x.t (a.map Fd.name) = a.any (hasF x.t) := by unfold inB; rw [List.any_map]; congr 1
  rw [hR]; unfold bfieldB bfield; rw [e]
  dsimp only
  rw [e2]
  cases simpB x.t with
  | false => rfl
  | true =>
   rw [if_neg (show ¬ (true = false) by decide), if_neg (show ¬ (true = false) by decide)]
   cases a.any (hasF x.t) with
   | true => rfl
   | false =>
    rw [if_neg (show ¬ (false = true) by decide), if_neg (show ¬ (false = true) by decide)]
    show _ = _
    unfold simO
    cases balias (fun s => if simpB s = true then some s else none) (j.get kAliases) <;> rfl
 have SI : Hid (∀ W, Below w.heap.size w W → Calls Tryz.prog 37 #[.string x.t] W (Ans (.bool (simpB x.t)) W)) := fun W b => nSimple_any x.t (by omega) W (LA.out W b)
 have CF := Lib.hid (fun W (b : Below w.heap.size w W) (q : Nat) (hql : q < W.heap.size) (hq : W.cell? ⟨q, 2, none⟩ = some (.string x.t)) => conffd_any a A c x.t W Sa (fun k hk => Nat.lt_of_lt_of_le (hSa k hk) b.size) hal (hA.keep (fun p hp => b.cell (hSa _ hp)) fun _ h => h) q hql hq)
 have AF := Lib.hid (fun W (b : Below w.heap.size w W) => aliasF_any S j W (LA.out W b) (HS.out W b) A3 A4 c3 c4 (TT.out W b) hw _ rfl)
 have IY := Lib.hid (fun W (b : Below w.heap.size w W) => item_any S j kType W (HS.out W b) A3 A4 c3 c4 (TT.out W b))
 have ID := Lib.hid (fun W (hs : ∀ b, S b → b < W.heap.size) (k : TreeS W S j [.int .i64 j.k, .int .i64 j.n, .string j.t, .slice A3 j.its.length c3, .slice A4 j.ks.length c4]) => item_any S j kDefault W hs A3 A4 c3 c4 k)
 have HM := Lib.hid h
 have HS0 := Lib.hid hS
 have HB := Lib.hid hB
 have HQ := Lib.hid hQ
 unfold kName at IT
 unfold kType at IY
 unfold kDefault at ID
 clear hR ht hS h hA hSa hx hk hQ hB hSw
 obtain ⟨_, _, _, _, _, _, _, _, _, _, _, _, _, _, _, _, _, _⟩ := B9.facts N9.out
 go_enter Tryz.func160, Tryz.ntmps160
 go_wp2_with fail
 with_reducible refine (IT.out _ BN.out).mono ?_
 rintro e w1 ⟨X3, x3, X4, x4, rfl, _, b1⟩
 have s1 := b1.size
 have lt0 := N9.out.lt
 have s0 : w.heap.size < w1.heap.size := Nat.lt_of_lt_of_le N9.out.lt s1
 obtain ⟨w2, hw2⟩ : ∃ W, W = (w1.alloc (.cells #[.int .i64 x.k, .int .i64 x.n, .string x.t, .slice X3 x.its.length x3, .slice X4 x.ks.length x4] 25)) := ⟨_, rfl⟩
 have BX : Hid (B5 w2 w1.heap.size 25 (.int .i64 x.k) (.int .i64 x.n) (.string x.t) (.slice X3 x.its.length x3) (.slice X4 x.ks.length x4)) := by rw [hw2]; exact B5.newat rfl
 have M1 := Lib.hid ((B9.below N9.out b1 N9.out.lt).alloc (.cells #[.int .i64 x.k, .int .i64 x.n, .string x.t, .slice X3 x.its.length x3, .slice X4 x.ks.length x4] 25))
 have bw2 : Below w.heap.size w w2 := by have : Below w.heap.size w w1 := BN.out.trans (b1.mono BN.out.size); rw [hw2]; (repeat' (first | with_reducible assumption | with_reducible exact Below.refl _ _ | (with_reducible refine Below.alloc ?_ ?_ _; rotate_left; focus ((first | exact Nat.le_refl _ | (simp; done) | (simp; omega) | omega | fail))) | (with_reducible refine Below.setCell ?_ ?_ _; rotate_left; focus ((first | exact Nat.le_refl _ | (simp; done) | (simp; omega) | omega | fail))) | with_reducible refine Mem.bel_drewN ?_ _ | with_reducible refine Below.drew ?_ | (with_reducible refine Mem.bel_call (by with_reducible assumption) ?_ ?_; focus ((first | exact Nat.le_refl _ | (simp; done) | (simp; omega) | omega | fail))) | fail))
 rw [← hw2] at M1
 have z2 : w1.heap.size < w2.heap.size := BX.out.lt
 go_wp2_with fail
 rw [← hw2]
 clear hw2 IT N9 b1
 have SI2 := Lib.hid (SI.out w2 bw2)
 generalize hsi : simpB x.t = sb at *
 obtain ⟨_, _, _, _, _, _, _, _, _, _⟩ := B5.facts BX.out
 cases sb with
 | false =>
  have Z : Hid (R = .error 31) := by show _ = _; rw [HR.out]; rfl
  clear HR CF AF IY ID SI TT
  go_wp2_with fail
  with_reducible refine SI2.out.mono ?_
  rintro e w3 ⟨rfl, b3⟩
  have s3 := b3.size
  have bw3 : Below w.heap.size w w3 := bw2.trans (b3.mono bw2.size)
  have M3 := Lib.hid (B9.below M1.out b3 M1.out.lt)
  obtain ⟨_, _, _, _, _, _, _, _, _, _, _, _, _, _, _, _, _, _⟩ := B9.facts M3.out
  clear M3 M1 b3 SI2
  go_wp2_with fail
  try simp only [Exit.inBlock, Exit.then]
  refine post_F2 (x0 := .string ⟨#[]⟩) (x1 := .slice none 0 0) (x2 := .int .i64 0) (x3 := .bool false) (x4 := .int .i64 0) (x5 := .int .i64 0) (x6 := .string ⟨#[]⟩) (x7 := .slice none 0 0) (x8 := .slice none 0 0) rfl rfl rfl (by go_simp) (by go_simp) (by go_simp) (by go_simp) (by go_simp) (by go_simp) (by go_simp) (by go_simp) (by go_simp) ?_
  exact fdp_no Z.out (by decide) (SV.out _ bqq)
 | true =>
 rw [if_neg (by decide)] at HR
 go_wp2_with fail
 with_reducible refine SI2.out.mono ?_
 rintro e w3 ⟨rfl, b3⟩
 have s3 := b3.size
 have bw3 : Below w.heap.size w w3 := bw2.trans (b3.mono bw2.size)
 have M3 := Lib.hid (B9.below M1.out b3 M1.out.lt)
 have X3' := Lib.hid (B5.below BX.out b3 BX.out.lt)
 have CF3 := Lib.hid (CF.out w3 bw3 w1.heap.size X3'.out.lt (B5.facts X3'.out).2.2.1)
 clear M1 BX SI2 SI CF b3 hsi
 obtain ⟨na, hna⟩ : ∃ m, m = a.length := ⟨_, rfl⟩
 rw [← hna] at CF3 ⊢
 clear hna
 generalize a.any (hasF x.t) = fb at *
 go_wp2_with fail
 with_reducible refine CF3.out.mono ?_
 rintro e w4 ⟨rfl, b4⟩
 have s4 := b4.size
 have bw4 : Below w.heap.size w w4 := bw3.trans (b4.mono bw3.size)
 have M4 := Lib.hid (B9.below M3.out b4 M3.out.lt)
 have X4' := Lib.hid (B5.below X3'.out b4 X3'.out.lt)
 clear M3 X3' CF3 b4
 cases fb with
 | true =>
  have Z : Hid (R = .error 36) := by show _ = _; rw [HR.out]; rfl
  obtain ⟨_, _, _, _, _, _, _, _, _, _, _, _, _, _, _, _, _, _⟩ := B9.facts M4.out
  clear HR AF IY ID TT M4
  go_wp2_with fail
  try simp only [Exit.inBlock, Exit.then]
  refine post_F2 (x0 := .string ⟨#[]⟩) (x1 := .slice none 0 0) (x2 := .int .i64 0) (x3 := .bool false) (x4 := .int .i64 0) (x5 := .int .i64 0) (x6 := .string ⟨#[]⟩) (x7 := .slice none 0 0) (x8 := .slice none 0 0) rfl rfl rfl (by go_simp) (by go_simp) (by go_simp) (by go_simp) (by go_simp) (by go_simp) (by go_simp) (by go_simp) (by go_simp) ?_
  exact fdp_no Z.out (by decide) (SV.out _ bqq)
 | false =>
 rw [if_neg (by decide)] at HR
 have AF4 := Lib.hid (AF.out w4 bw4)
 generalize balias simO (j.get kAliases) = oa at *
 clear AF
 go_wp2_with fail
 with_reducible refine AF4.out.mono ?_
 rintro e w5 ⟨b5, h5, h5'⟩
 have s5 := b5.size
 have bw5 : Below w.heap.size w w5 := bw4.trans (b5.mono bw4.size)
 have M5 := Lib.hid (B9.below M4.out b5 M4.out.lt)
 have X5' := Lib.hid (B5.below X4'.out b5 X4'.out.lt)
 clear M4 X4' AF4 b5
 cases oa with
 | error z =>
  obtain ⟨rfl, hz⟩ := h5 z rfl
  have Z : Hid (R = .error z) := by show _ = _; rw [HR.out]
  have HZ := Lib.hid hz
  have qz : (z != 0) = true := by rw [bne_iff_ne]; exact hz
  obtain ⟨_, _, _, _, _, _, _, _, _, _, _, _, _, _, _, _, _, _⟩ := B9.facts M5.out
  clear HR IY ID TT M5 hz h5 h5'
  go_wp2_with fail
  try simp only [Exit.inBlock, Exit.then]
  refine post_F2 (x0 := .string ⟨#[]⟩) (x1 := .slice none 0 0) (x2 := .int .i64 0) (x3 := .bool false) (x4 := .int .i64 0) (x5 := .int .i64 0) (x6 := .string ⟨#[]⟩) (x7 := .slice none 0 0) (x8 := .slice none 0 0) rfl rfl rfl (by go_simp) (by go_simp) (by go_simp) (by go_simp) (by go_simp) (by go_simp) (by go_simp) (by go_simp) (by go_simp) ?_
  exact fdp_no Z.out HZ.out (SV.out _ bqq)
 | ok al =>
 obtain ⟨v, rfl, hg⟩ := h5' al rfl
 clear h5 h5'
 obtain ⟨A', c', rfl, hc', _⟩ := hg.done
 rw [List.length_map] at hc'
 have GL := Lib.hid hg.lenm
 rw [List.length_map] at hg GL ⊢
 have GF := Lib.hid (GatS.fls hg)
 have HC' := Lib.hid hc'
 have IY5 := Lib.hid (IY.out w5 bw5)
 clear IY hg hc'
 obtain ⟨la, hla⟩ : ∃ n, n = al.length := ⟨_, rfl⟩
 have HLA := Lib.hid hla
 rw [← hla]
 clear hla
 go_wp2_with fail
 with_reducible refine IY5.out.mono ?_
 rintro e w6 ⟨Y3, y3, Y4, y4, rfl, ty6, b6⟩
 have b6' := b6
 have s6 := b6.size
 have bw6 : Below w.heap.size w w6 := bw5.trans (b6.mono bw5.size)
 have TY6 := Lib.hid ty6
 obtain ⟨o, ho⟩ : ∃ o, o = gotten (j.get kType) := ⟨_, rfl⟩
 rw [show (gotten (j.get ⟨#[116, 121, 112, 101]⟩)) = o from ho.symm] at TY6 ⊢
 rw [← ho] at HQ HR
 clear ty6 IY5 b6 ho
 obtain ⟨w7, hw7⟩ : ∃ W, W = (w6.alloc (.cells #[.int .i64 o.k, .int .i64 o.n, .string o.t, .slice Y3 o.its.length y3, .slice Y4 o.ks.length y4] 25)) := ⟨_, rfl⟩
 have b67 : Below w6.heap.size w6 w7 := by rw [hw7]; exact (Below.refl _ _).alloc (Nat.le_refl _) _
 have s7 := b67.size
 have BO : Hid (B5 w7 w6.heap.size 25 (.int .i64 o.k) (.int .i64 o.n) (.string o.t) (.slice Y3 o.its.length y3) (.slice Y4 o.ks.length y4)) := by rw [hw7]; exact B5.newat rfl
 have bw7 : Below w.heap.size w w7 := bw6.trans (b67.mono bw6.size)
 have b57 : Below w5.heap.size w5 w7 := b6'.trans (b67.mono s6)
 have M7 := Lib.hid (B9.below M5.out b57 M5.out.lt)
 have X7' := Lib.hid (B5.below X5'.out b57 X5'.out.lt)
 have F7 : Hid (FlS w7 (fun b => w4.heap.size ≤ b ∧ b < w5.heap.size) A' (al.map Value.string)) := FlS.keep (fun p hp => b57.cell hp.2) (fun _ h => h) GF.out
 have MK7 : Hid (MkW (fun b => X b ∨ b = w.heap.size) w7 g r ns) := ⟨(HM.out.mkr.weak fun b hb => hb.imp id fun e => by omega).below bw7, LaidN.below HM.out.laid bw7, HM.out.top, HM.out.len, fun b hb => by
  rcases hb with hb | hb
  · have k := HM.out.out b hb
    exact ⟨k.1, Nat.lt_of_lt_of_le k.2.1 bw7.size, k.2.2⟩
  · have := M7.out.lt
    omega⟩
 have T7 : Hid (TreeS w7 S o [.int .i64 o.k, .int .i64 o.n, .string o.t, .slice Y3 o.its.length y3, .slice Y4 o.ks.length y4]) := TreeS.keep (fun p hp => b67.cell (by have := HS0.out _ hp; have := bw6.size; omega)) (fun _ h => h) TY6.out
 have NC := Lib.hid (HB.out o sp _ g r ns w7 S HQ.out hsp MK7.out HS0.out Y3 Y4 y3 y4 T7.out)
 have TJ7 := Lib.hid (TT.out w7 bw7)
 have c7 := (B5.facts BO.out)
 obtain ⟨_, _, _, _, _, _, _, _, _, _⟩ := c7
 clear M5 X5' GF TY6 T7 TT b57 b67
 go_wp2_with fail
 rw [← hw7]
 clear hw7
 with_reducible refine NC.out.mono ?_
 rintro e w8 ⟨pl, er8, rfl, sv8, h1, h2⟩
 have s8 := sv8.size
 have nFg : w.heap.size ≠ g := by omega
 have nFr : w.heap.size ≠ r := by omega
 have M8 : Hid (B9 w8 w.heap.size 97 (.string ⟨#[]⟩) (.slice none 0 0) (.int .i64 0) (.bool false) (.int .i64 0) (.int .i64 0) (.string ⟨#[]⟩) (.slice none 0 0) (.slice none 0 0)) := blk_sav M7.out sv8 nFg nFr
 have X8' : Hid (B5 w8 w1.heap.size 25 (.int .i64 x.k) (.int .i64 x.n) (.string x.t) (.slice X3 x.its.length x3) (.slice X4 x.ks.length x4)) := blk_sav X7'.out sv8 (by omega) (by omega)
 have F8 : Hid (FlS w8 (fun b => w4.heap.size ≤ b ∧ b < w5.heap.size) A' (al.map Value.string)) := FlS.keep (sv8.keeps fun k hk => ⟨by omega, by omega, by omega⟩) (fun _ h => h) F7.out
 have TJ8 : Hid (TreeS w8 S j [.int .i64 j.k, .int .i64 j.n, .string j.t, .slice A3 j.its.length c3, .slice A4 j.ks.length c4]) := MK7.out.tree sv8 HS0.out TJ7.out
 have S8 : Hid (Sav g r w.heap.size w w8) := (SV.out w7 bw7).trans (sv8.mono bw7.size)
 obtain ⟨w9, hw9⟩ : ∃ W, W = (w8.alloc (.cells #[.string x.t, .slice A' la c', .int .i64 pl, .bool false, .int .i64 0, .int .i64 0, .string ⟨#[]⟩, .slice none 0 0, .slice none 0 0] 97)) := ⟨_, rfl⟩
 have b89 : Below w8.heap.size w8 w9 := by rw [hw9]; exact (Below.refl _ _).alloc (Nat.le_refl _) _
 have s9 := b89.size
 have G9 : Hid (B9 w9 w8.heap.size 97 (.string x.t) (.slice A' la c') (.int .i64 pl) (.bool false) (.int .i64 0) (.int .i64 0) (.string ⟨#[]⟩) (.slice none 0 0) (.slice none 0 0)) := by rw [hw9]; exact B9.newat rfl
 have M9 := Lib.hid (B9.below M8.out b89 M8.out.lt)
 have HS9 : ∀ b, S b → b < w9.heap.size := fun b hb => by have := HS0.out b hb; omega
 have ID9 := Lib.hid (ID.out w9 HS9 (TreeS.keep (fun p hp => b89.cell (by have := HS0.out _ hp; omega)) (fun _ h => h) TJ8.out))
 have H1 := Lib.hid h1
 have H2 := Lib.hid h2
 have SV8 := Lib.hid sv8
 obtain ⟨_, _, _, _, _, _, _, _, _, _⟩ := B5.facts X8'.out
 clear h1 h2 sv8 M8 M7 F7 TJ7 TJ8 NC X7' ID
 go_wp2_with fail
 rw [← hw9]
 clear hw9
 with_reducible refine ID9.out.mono ?_
 rintro e w10 ⟨D3, d3, D4, d4, rfl, td, b10⟩
 have s10 := b10.size
 obtain ⟨o2, ho2⟩ : ∃ o, o = gotten (j.get kDefault) := ⟨_, rfl⟩
 obtain ⟨hs2, hhs2⟩ : ∃ b, b = (j.get kDefault).isSome := ⟨_, rfl⟩
 rw [show (gotten (j.get ⟨#[100, 101, 102, 97, 117, 108, 116]⟩)) = o2 from ho2.symm] at td ⊢
 rw [show (j.get ⟨#[100, 101, 102, 97, 117, 108, 116]⟩).isSome = hs2 from hhs2.symm]
 rw [← ho2, ← hhs2] at HR
 clear ho2 hhs2
 have bw10 : Below w8.heap.size w8 w10 := b89.trans (b10.mono s9)
 have G10 := Lib.hid (B9.below G9.out b10 G9.out.lt)
 have M10 := Lib.hid (B9.below M9.out b10 M9.out.lt)
 obtain ⟨_, _, _, _, _, _, _, _, _, _, _, _, _, _, _, _, _, _⟩ := B9.facts G10.out
 obtain ⟨_, _, _, _, _, _, _, _, _, _, _, _, _, _, _, _, _, _⟩ := B9.facts M10.out
 have PO : Hid (∀ W1 W2, Below w8.heap.size w10 W1 → Sav w.heap.size w.heap.size w8.heap.size W1 W2 → FdP X R S g r ns w (.returned (.tuple #[.agg #[.string x.t, .slice A' la c', .int .i64 pl, .bool hs2, .int .i64 o2.k, .int .i64 o2.n, .string o2.t, .slice D3 o2.its.length d3, .slice D4 o2.ks.length d4], .int .i64 er8])) W2) := by
  intro W1 W2 k1 k2
  have kk : Sav w.heap.size w.heap.size w8.heap.size w8 W2 := (Sav.of (bw10.trans k1)).trans k2
  have sv : Sav g r w.heap.size w W2 := S8.out.trans ⟨kk.os, kk.tape, kk.output, kk.size, fun k e1 _ _ => kk.block k (by omega) (by omega) (by omega)⟩
  cases hb : B (ns.map er) o sp with
  | error z =>
   obtain ⟨rfl, hz⟩ := H1.out z hb
   refine fdp_no ?_ hz sv
   rw [HR.out, hb]
  | ok q =>
   obtain ⟨ext, p⟩ := q
   obtain ⟨rfl, rfl, r', m, hr, hl⟩ := H2.out ext p hb
   have hR : R = .ok (⟨x.t, al, (p : Int), hs2, o2⟩, ext) := by rw [HR.out, hb]
   have nX : ∀ b, b = g ∨ b = r' → ¬ (X b ∨ b = w.heap.size) := fun b hb hx => by
    have := MK7.out.out b hx
    omega
   have hr' : r' = r ∨ w.heap.size ≤ r' := hr.imp id fun e => by have := bw7.size; omega
   have z2 := kk.size
   have zw := bw7.size
   refine fdp_ok hR sv (m.frame (fun k e1 e2 => kk.block k e1 (fun e => e2 (.inr e)) (fun e => e2 (.inr e))) kk.size (nX g (.inl rfl)) (nX r' (.inr rfl)) fun b hb => .inl (.inl hb)) hr' hl ?_
   refine Fd.out.2 ⟨A', c', D3, d3, D4, d4, by rw [HLA.out], ⟨HC'.out, GL.out⟩, ?_, ?_⟩
   · refine FlS.keep (fun q hq => kk.cell (p := q) (by omega) (by omega) (by omega)) (fun b hb => ⟨.inr (by omega), by omega, by omega⟩) F8.out
   · have hq : ∀ b, S b → b < g := HS0.out
     refine TreeS.keep (fun q hq => ?_) (fun b hb => ⟨.inl hb, by have := hq b hb; omega, by have := hq b hb; omega⟩) td
     have := HS0.out _ hq
     exact (k2.cell (p := q) (by omega) (by omega) (by omega)).trans (k1.cell (p := q) (by omega))
 have n10 : w.heap.size < w8.heap.size := by have := bw7.size; omega
 have n11 : w8.heap.size < w10.heap.size := by have := G9.out.lt; omega
 have n12 : w.heap.size ≠ w8.heap.size := by omega
 have n13 : w8.heap.size ≠ w.heap.size := by omega
 clear td M10 G10 M9 G9 ID9 b10 H1 H2 SV8 F8 HR
 go_wp2_with fail
 try simp only [Exit.inBlock, Exit.then]
 refine post_F2 (x0 := .string x.t) (x1 := .slice A' la c') (x2 := .int .i64 pl) (x3 := .bool hs2) (x4 := .int .i64 o2.k) (x5 := .int .i64 o2.n) (x6 := .string o2.t) (x7 := .slice D3 o2.its.length d3) (x8 := .slice D4 o2.ks.length d4) rfl rfl rfl (by go_simp) (by go_simp) (by go_simp) (by go_simp) (by go_simp) (by go_simp) (by go_simp) (by go_simp) (by go_simp) ?_
 refine PO.out _ _ ?_ (Mem.Sav.setF (Mem.Sav.setF (Mem.Sav.setF (Mem.Sav.setF (Mem.Sav.setF (Mem.Sav.setF (Mem.Sav.setF (Mem.Sav.setF (Mem.Sav.setF (Sav.refl _ _ _ _) _ _) _ _) _ _) _ _) _ _) _ _) _ _) _ _) _ _)
 exact below_setG (below_setG (below_setG (below_setG (below_setG (below_setG (Below.refl _ _) _ _) _ _) _ _) _ _) _ _) _ _
end Go.Proofs.YthogheglddfniaaGreatDoor
