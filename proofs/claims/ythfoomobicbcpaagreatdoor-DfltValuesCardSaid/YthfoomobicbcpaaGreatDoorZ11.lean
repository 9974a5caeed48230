/- Joined by tools/bundle.py: DC5 DC6Z DC6A DC6B. -/
import Derived.BigQuiet
import Derived.Test.YthfoomobicbcpaaGreatDoorZ10
import Derived.Test.YthfoomobicbcpaaGreatDoorZ0
set_option maxRecDepth 100000
set_option maxHeartbeats 16000000
namespace Go.Proofs.YthfoomobicbcpaaGreatDoor
open Go.ChangeShapes Go.WideShapes Go.ChangeAt Go.RowKit Mem
theorem row_sets7 {w1 : World} {B s : Nat} {ds : List D} {A : Option Addr} {G : Nat} {u v0 v1 v2 v3 v4 v5 : Value} (hg : G < B) (h : RowD w1 (fun b => B ≤ b ∧ b < w1.heap.size) s ds A) : RowD (((((((w1.setCell ⟨G, 4, none⟩ u).setCell ⟨G, 0, none⟩ v0).setCell ⟨G, 1, none⟩ v1).setCell ⟨G, 2, none⟩ v2).setCell ⟨G, 3, none⟩ v3).setCell ⟨G, 4, none⟩ v4).setCell ⟨G, 5, none⟩ v5) (fun b => B ≤ b ∧ b < w1.heap.size) s ds A := by
 have n : ∀ b, (B ≤ b ∧ b < w1.heap.size) → b ≠ G := fun b hb => by omega
 exact row_set (row_set (row_set (row_set (row_set (row_set (row_set h n) n) n) n) n) n) n
theorem tp_of {w w1 : World} {g G B : Nat} {nv : Value} {R0 : Option (List V × Nat)} {R : Option (V × Nat)} {k : Int} {ks : List ByteArray} {X A5 : Option Addr} {xl xc l5 c5 : Nat} {u v0 v1 v2 v3 v4 v5 : Value} {b : Bool} {z : Int}
 (hR : R = R0.map fun p => (V.mk k 0 0 [] p.1 ks, p.2)) (hb : b = R0.isSome) (sv : Sav g g w.heap.size w w1) (hg : g < w.heap.size) (hG : w.heap.size ≤ G) (hGB : G < B) (hz : B2 w1 g 119 nv (.int .i64 z)) (hn : ∀ vs n, R0 = some (vs, n) → z = ((n : Nat) : Int))
 (hv : ∀ vs n, R0 = some (vs, n) → xl = vs.length ∧ Len vs.length xc ∧ RowD w1 (fun b => B ≤ b ∧ b < w1.heap.size) 6 (vs.map V.enc) X)
 (hk : ∀ vs n, R0 = some (vs, n) → l5 = ks.length ∧ Len ks.length c5 ∧ RowD w1 (fun b => B ≤ b ∧ b < w1.heap.size) 1 (ks.map D.s) A5) :
 TP R nv g w (.returned (.tuple #[.agg #[.int .i64 k, .int .i64 0, .int .u64 0, .slice none 0 0, .slice X xl xc, .slice A5 l5 c5], .bool b])) (((((((w1.setCell ⟨G, 4, none⟩ u).setCell ⟨G, 0, none⟩ v0).setCell ⟨G, 1, none⟩ v1).setCell ⟨G, 2, none⟩ v2).setCell ⟨G, 3, none⟩ v3).setCell ⟨G, 4, none⟩ v4).setCell ⟨G, 5, none⟩ v5) := by
 have n : g ≠ G := by omega
 have sz : (((((((w1.setCell ⟨G, 4, none⟩ u).setCell ⟨G, 0, none⟩ v0).setCell ⟨G, 1, none⟩ v1).setCell ⟨G, 2, none⟩ v2).setCell ⟨G, 3, none⟩ v3).setCell ⟨G, 4, none⟩ v4).setCell ⟨G, 5, none⟩ v5).heap.size = w1.heap.size := by simp [World.setCell]
 have h6 : B2 (((((((w1.setCell ⟨G, 4, none⟩ u).setCell ⟨G, 0, none⟩ v0).setCell ⟨G, 1, none⟩ v1).setCell ⟨G, 2, none⟩ v2).setCell ⟨G, 3, none⟩ v3).setCell ⟨G, 4, none⟩ v4).setCell ⟨G, 5, none⟩ v5) g 119 nv (.int .i64 z) := B2.past (B2.past (B2.past (B2.past (B2.past (B2.past (B2.past hz (Ne.symm n) _) (Ne.symm n) _) (Ne.symm n) _) (Ne.symm n) _) (Ne.symm n) _) (Ne.symm n) _) (Ne.symm n) _
 have sv' : Sav g g w.heap.size w (((((((w1.setCell ⟨G, 4, none⟩ u).setCell ⟨G, 0, none⟩ v0).setCell ⟨G, 1, none⟩ v1).setCell ⟨G, 2, none⟩ v2).setCell ⟨G, 3, none⟩ v3).setCell ⟨G, 4, none⟩ v4).setCell ⟨G, 5, none⟩ v5) := ((((((sv.set (.inr (.inr hG)) _).set (.inr (.inr hG)) _).set (.inr (.inr hG)) _).set (.inr (.inr hG)) _).set (.inr (.inr hG)) _).set (.inr (.inr hG)) _).set (.inr (.inr hG)) _
 subst hb
 cases R0 with
 | none =>
  subst hR
  exact ⟨vp_no rfl rfl, sv', z, h6, fun _ _ h => by cases h⟩
 | some p =>
  obtain ⟨vs, m⟩ := p
  subst hR
  obtain ⟨rfl, a2, a3⟩ := hv vs m rfl
  obtain ⟨rfl, b2, b3⟩ := hk vs m rfl
  refine ⟨vp_yes (v := .mk k 0 0 [] vs ks) rfl rfl ?_, sv', z, h6, fun v l h => ?_⟩
  · refine V.out.2 ⟨none, 0, X, xc, A5, c5, rfl, ⟨Nat.le_refl _, Nat.zero_le _⟩, RowD.nil_ _ _ _ _, a2, (row_sets7 hGB a3).keep (fun _ _ => rfl) (fun b hb => ⟨by omega, by rw [sz]; exact hb.2⟩), b2, row_strs.1 ((row_sets7 hGB b3).keep (fun _ _ => rfl) (fun b hb => ⟨by omega, by rw [sz]; exact hb.2⟩))⟩
  · simp only [Option.map_some, Option.some.injEq, Prod.mk.injEq] at h
    obtain ⟨_, rfl⟩ := h
    exact hn vs m rfl
theorem jwts_len : ∀ (l : List J), l.length ≤ J.wts l
 | [] => Nat.zero_le _
 | j :: r => by have := jwts_len r; have := J.wt_out j; simp only [List.length_cons, J.wts]; omega
theorem jkwt_len : ∀ (l : List ByteArray), l.length ≤ kwt l
 | [] => Nat.zero_le _
 | k :: r => by have := jkwt_len r; simp only [List.length_cons, kwt]; omega
theorem jkwt_mem : ∀ {l : List ByteArray} {x : ByteArray}, x ∈ l → x.size + 1 ≤ kwt l
 | k :: r, x, h => by
  unfold kwt
  rcases List.mem_cons.1 h with rfl | h
  · omega
  · have := jkwt_mem h; omega
theorem rowS_one {W : World} {S : Nat → Prop} {q : Nat} {j : J} {A3 A4 : Option Addr} {c3 c4 : Nat} (h : B5 W q 25 (.int .i64 j.k) (.int .i64 j.n) (.string j.t) (.slice A3 j.its.length c3) (.slice A4 j.ks.length c4)) (ht : TreeS W S j [.int .i64 j.k, .int .i64 j.n, .string j.t, .slice A3 j.its.length c3, .slice A4 j.ks.length c4]) : RowS W (fun b => S b ∨ b = q) [j] (some ⟨q, 0, none⟩) := by
 obtain ⟨y0, y1, y2, y3, y4, _⟩ := B5.facts h
 unfold RowS
 refine ⟨q, 0, [.int .i64 j.k, .int .i64 j.n, .string j.t, .slice A3 j.its.length c3, .slice A4 j.ks.length c4], rfl, .inr rfl, fun i hi => ?_, TreeS.keep (fun _ _ => rfl) (fun _ h => .inl h) ht, by unfold RowS; trivial⟩
 have : i = 0 ∨ i = 1 ∨ i = 2 ∨ i = 3 ∨ i = 4 := by omega
 rcases this with rfl | rfl | rfl | rfl | rfl
 · exact y0
 · exact y1
 · exact y2
 · exact y3
 · exact y4
theorem parted13_any {s : Sc} {A : Option Addr} {c : Nat} {B : DB} {ar : Int} (hB : CallV s A c B ar) (hle : ∀ a j left v l, 0 ≤ a → a < (s.nodes.length : Int) → JG j → B a j left = some (v, l) → l ≤ left) (nd : Nd) (hd : deepK nd.k) (j : J) (hj : JG j)
 (hf : nd.k = 9 → ∀ f ∈ nd.fs, (0 ≤ f.ty ∧ f.ty < (s.nodes.length : Int)) ∧ JG (said j f)) (hb : nd.k = 13 → 0 < nd.br.length ∧ 0 ≤ nd.br.getD 0 0 ∧ nd.br.getD 0 0 < (s.nodes.length : Int)) (hi : nd.k = 11 ∨ nd.k = 12 → 0 ≤ nd.items ∧ nd.items < (s.nodes.length : Int)) (hfl : nd.fs.length ≤ 1000000)
 (left g : Nat) (w : World) (h : TW s A c w g left) (S : Nat → Prop) (hS : ∀ b, S b → b < w.heap.size ∧ b ≠ g) (A3 A4 : Option Addr) (c3 c4 : Nat) (ht : TreeS w S j [.int .i64 j.k, .int .i64 j.n, .string j.t, .slice A3 j.its.length c3, .slice A4 j.ks.length c4]) (X2 X3 X4 X9 : Option Addr) (x2 x3 x4 x9 : Nat) (hn : Lies w (· < g) nd.enc [.int .i64 nd.k, .string nd.name, .slice X2 nd.al.length x2, .slice X3 nd.fs.length x3, .slice X4 nd.sy.length x4, .bool nd.has, .string nd.df, .int .i64 nd.size, .int .i64 nd.items, .slice X9 nd.br.length x9]) (R : Option (V × Nat)) (hR : R = dparted B nd j left) :
 Calls Tryz.prog 127 #[.pointer (some ⟨g, 0, none⟩), .agg #[.int .i64 nd.k, .string nd.name, .slice X2 nd.al.length x2, .slice X3 nd.fs.length x3, .slice X4 nd.sy.length x4, .bool nd.has, .string nd.df, .int .i64 nd.size, .int .i64 nd.items, .slice X9 nd.br.length x9], .agg #[.int .i64 j.k, .int .i64 j.n, .string j.t, .slice A3 j.its.length c3, .slice A4 j.ks.length c4], .int .i64 ar] w (TP R (.slice A s.nodes.length c) g w) := by
 have CS := cell_set
 have lg := h.blk.lt
 have LG : Hid (g < w.heap.size) := lg
 obtain ⟨_, _, _, _, _, _, _, _, en, _, _, _, fr, _, _, _, brr⟩ := Nd.out.1 hn
 simp only [List.cons.injEq, Value.slice.injEq, true_and, and_true] at en
 obtain ⟨⟨rfl, rfl⟩, ⟨rfl, rfl⟩, ⟨rfl, rfl⟩, rfl, rfl⟩ := en
 obtain ⟨k, N1, al, fs, sy, hs, df, sz, it, br⟩ := nd
 unfold dparted at hR
 dsimp only at hR hd hf hb hi hfl hn fr brr ⊢
 unfold deepK at hd
 have wj := J.wt_out j
 have wj2 := hj.2.2
 have itl : j.its.length ≤ 1000000 := by have := jwts_len j.its; omega
 have TT : Hid (∀ W, Below w.heap.size w W → TreeS W S j [.int .i64 j.k, .int .i64 j.n, .string j.t, .slice A3 j.its.length c3, .slice A4 j.ks.length c4]) := fun W b => TreeS.keep (fun p hp => b.cell (hS _ hp).1) (fun _ h => h) ht
 have HSW : Hid (∀ W, Below w.heap.size w W → ∀ b, S b → b < W.heap.size ∧ b ≠ g) := fun W b q hq => ⟨Nat.lt_of_lt_of_le (hS q hq).1 b.size, (hS q hq).2⟩
 have TWW := Lib.hid (fun W (b : Below w.heap.size w W) => h.below b lg)
 have bw : Hid (Below w.heap.size w (((w.alloc (.cells #[.int .i64 k, .string N1, .slice X2 al.length x2, .slice X3 fs.length x3, .slice X4 sy.length x4, .bool hs, .string df, .int .i64 sz, .int .i64 it, .slice X9 br.length x9] 59)).alloc (.cells #[.int .i64 j.k, .int .i64 j.n, .string j.t, .slice A3 j.its.length c3, .slice A4 j.ks.length c4] 25)).alloc (.cells #[.int .i64 k, .int .i64 0, .int .u64 0, .slice none 0 0, .slice none 0 0, .slice none 0 0] 42))) := (((Below.refl _ _).alloc (Nat.le_refl _) _).alloc (by simp) _).alloc (by simp; omega) _
 have ZS : Hid ((((w.alloc (.cells #[.int .i64 k, .string N1, .slice X2 al.length x2, .slice X3 fs.length x3, .slice X4 sy.length x4, .bool hs, .string df, .int .i64 sz, .int .i64 it, .slice X9 br.length x9] 59)).alloc (.cells #[.int .i64 j.k, .int .i64 j.n, .string j.t, .slice A3 j.its.length c3, .slice A4 j.ks.length c4] 25)).alloc (.cells #[.int .i64 k, .int .i64 0, .int .u64 0, .slice none 0 0, .slice none 0 0, .slice none 0 0] 42)).heap.size = w.heap.size + 3) := by show _ = _; simp
 have z0 : Hid (B10 (((w.alloc (.cells #[.int .i64 k, .string N1, .slice X2 al.length x2, .slice X3 fs.length x3, .slice X4 sy.length x4, .bool hs, .string df, .int .i64 sz, .int .i64 it, .slice X9 br.length x9] 59)).alloc (.cells #[.int .i64 j.k, .int .i64 j.n, .string j.t, .slice A3 j.its.length c3, .slice A4 j.ks.length c4] 25)).alloc (.cells #[.int .i64 k, .int .i64 0, .int .u64 0, .slice none 0 0, .slice none 0 0, .slice none 0 0] 42)) w.heap.size 59 (.int .i64 k) (.string N1) (.slice X2 al.length x2) (.slice X3 fs.length x3) (.slice X4 sy.length x4) (.bool hs) (.string df) (.int .i64 sz) (.int .i64 it) (.slice X9 br.length x9)) := ((B10.newat rfl).alloc _).alloc _
 have z1 : Hid (B5 (((w.alloc (.cells #[.int .i64 k, .string N1, .slice X2 al.length x2, .slice X3 fs.length x3, .slice X4 sy.length x4, .bool hs, .string df, .int .i64 sz, .int .i64 it, .slice X9 br.length x9] 59)).alloc (.cells #[.int .i64 j.k, .int .i64 j.n, .string j.t, .slice A3 j.its.length c3, .slice A4 j.ks.length c4] 25)).alloc (.cells #[.int .i64 k, .int .i64 0, .int .u64 0, .slice none 0 0, .slice none 0 0, .slice none 0 0] 42)) (w.heap.size + 1) 25 (.int .i64 j.k) (.int .i64 j.n) (.string j.t) (.slice A3 j.its.length c3) (.slice A4 j.ks.length c4)) := (B5.newat (by simp)).alloc _
 have z2 : Hid (B6 (((w.alloc (.cells #[.int .i64 k, .string N1, .slice X2 al.length x2, .slice X3 fs.length x3, .slice X4 sy.length x4, .bool hs, .string df, .int .i64 sz, .int .i64 it, .slice X9 br.length x9] 59)).alloc (.cells #[.int .i64 j.k, .int .i64 j.n, .string j.t, .slice A3 j.its.length c3, .slice A4 j.ks.length c4] 25)).alloc (.cells #[.int .i64 k, .int .i64 0, .int .u64 0, .slice none 0 0, .slice none 0 0, .slice none 0 0] 42)) (w.heap.size + 2) 42 (.int .i64 k) (.int .i64 0) (.int .u64 0) (.slice none 0 0) (.slice none 0 0) (.slice none 0 0)) := B6.newat (by simp)
 by_cases h9 : k = 9
 · subst h9
   rw [if_pos rfl] at hR
   have RC := Lib.hid (fun W (b : Below w.heap.size w W) => record13_any hB hle fs (fun f hq => (hf rfl f hq).1) j (fun f hq => (hf rfl f hq).2) left g W (TWW.out W b) S (HSW.out W b) X3 x3 fs.length rfl (fr.keep (fun p hp => b.cell (by have : p.block < g := hp; omega)) (fun _ h => h)) hfl A3 A4 c3 c4 (TT.out W b))
   have HR := Lib.hid hR
   obtain ⟨o, ho⟩ : ∃ o, o = dgo (fun f => B f.ty (said j f)) fs left [] := ⟨_, rfl⟩
   have HR : Hid (R = o.map fun p => (V.mk 9 0 0 [] p.1 [], p.2)) := by show _ = _; rw [ho]; exact hR
   rw [← ho] at RC
   obtain ⟨nn, hnn⟩ : ∃ m, m = s.nodes.length := ⟨_, rfl⟩
   rw [← hnn] at RC ⊢
   clear hR ho hB hle hf hb hi hn fr brr hd hj h ht hS wj wj2 itl hfl TWW HSW TT hnn
   go_enter Tryz.func127, Tryz.ntmps127
   go_wp2_with fail
   with_reducible refine (RC.out _ bw.out).mono ?_
   rintro e w1 hp
   obtain ⟨⟨X, xl, xc, rfl, hv⟩, sv1, zz, b1, hz⟩ := hp
   have s1 := sv1.size
   rw [ZS.out] at s1
   have Y2 : Hid (B6 w1 (w.heap.size + 2) 42 (.int .i64 9) (.int .i64 0) (.int .u64 0) (.slice none 0 0) (.slice none 0 0) (.slice none 0 0)) := Blk.sav z2.out sv1 (by rw [ZS.out]; omega) (by have := LG.out; omega) (by have := LG.out; omega)
   have l2 := Y2.out.lt
   have SV1 : Hid (Sav g g w.heap.size w w1) := (Sav.of bw.out).trans (sv1.mono bw.out.size)
   obtain ⟨_, _, _, _, _, _, _, _, _, _, _, _⟩ := B6.facts Y2.out
   have HV := Lib.hid hv
   have HZ := Lib.hid hz
   have HB1 := Lib.hid b1
   clear hv hz b1 sv1 z0 z1 z2
   go_wp2_with fail
   try simp only [Exit.inBlock, Exit.then]
   refine post_V2 (x0 := .int .i64 9) (x1 := .int .i64 0) (x2 := .int .u64 0) (x3 := .slice none 0 0) (x4 := .slice X xl xc) (x5 := .slice none 0 0) rfl rfl rfl (by go_simp) (by go_simp) (by go_simp) (by go_simp) (by go_simp) (by go_simp) ?_
   exact tp_of HR.out (by first | rfl | simp [Act.eval]) SV1.out LG.out (by omega) (Nat.lt_succ_self _) HB1.out HZ.out (fun vs n e => by obtain ⟨a1, a2, a3⟩ := HV.out vs n e; exact ⟨a1, a2, a3.keep (fun _ _ => rfl) fun b hb => ⟨by have := hb.1; rw [ZS.out] at this; omega, hb.2⟩⟩) (fun _ _ _ => ⟨rfl, ⟨Nat.le_refl _, Nat.zero_le _⟩, RowD.nil_ _ _ _ _⟩)
 have q9 : (k == 9) = false := by rw [beq_eq_false_iff_ne]; exact h9
 rw [if_neg h9] at hR
 by_cases h13 : k = 13
 · subst h13
   rw [if_pos rfl] at hR
   obtain ⟨hb0, hb1, hb2⟩ := hb rfl
   obtain ⟨g9, o9, e9, hg9, u9⟩ := ints_at brr hb0
   have be : br.getD 0 0 = br[0]'hb0 := by rw [List.getD_eq_getElem?_getD, List.getElem?_eq_getElem hb0]; rfl
   rw [← be, Nat.add_zero] at u9
   generalize br.getD 0 0 = b0 at *
   subst e9
   have L1 := Lib.hid (fun W (b : Below w.heap.size w W) (q : Nat) (hq : w.heap.size ≤ q) (hq2 : q < W.heap.size) (hB5 : B5 W q 25 (.int .i64 j.k) (.int .i64 j.n) (.string j.t) (.slice A3 j.its.length c3) (.slice A4 j.ks.length c4)) => list13_any hB hle b0 hb1 hb2 [j] (fun x hx => by rw [List.mem_singleton.1 hx]; exact hj) left g W (TWW.out W b) (fun x => S x ∨ x = q) (fun x hx => by rcases hx with hx | rfl; exact HSW.out W b x hx; exact ⟨hq2, by have := LG.out; omega⟩) (some ⟨q, 0, none⟩) 1 1 rfl (rowS_one hB5 (TT.out W b)) (by omega))
   obtain ⟨nb, hnb⟩ : ∃ m, m = br.length := ⟨_, rfl⟩
   obtain ⟨nn, hnn⟩ : ∃ m, m = s.nodes.length := ⟨_, rfl⟩
   obtain ⟨o, ho⟩ : ∃ o, o = dlist B b0 [j] left := ⟨_, rfl⟩
   rw [← hnn, ← ho] at L1
   have HR : Hid (R = o.map fun p => (V.mk 13 0 0 [] p.1 [], p.2)) := by show _ = _; rw [ho]; exact hR
   rw [← hnb] at hb0 z0 bw ZS z1 z2 ⊢
   rw [← hnn]
   have u9 := (bw.out.cell (p := ⟨g9, o9, none⟩) (by show g9 < _; have : g9 < g := hg9; omega)).trans u9
   have lg9 : g9 < w.heap.size := by have : g9 < g := hg9; omega
   have qb : ¬ (nb : Int) ≤ 0 := by omega
   clear hR ho hB hle hf hb hi hn fr brr hd hj h ht hS wj wj2 itl hfl TWW HSW TT hnn q9 h9 hb1 hb2 hnb be
   have HG9 : Hid (g9 < g) := hg9
   clear hg9
   obtain ⟨W, hW⟩ : ∃ W, W = (((w.alloc (.cells #[.int .i64 13, .string N1, .slice X2 al.length x2, .slice X3 fs.length x3, .slice X4 sy.length x4, .bool hs, .string df, .int .i64 sz, .int .i64 it, .slice (some ⟨g9, o9, none⟩) nb x9] 59)).alloc (.cells #[.int .i64 j.k, .int .i64 j.n, .string j.t, .slice A3 j.its.length c3, .slice A4 j.ks.length c4] 25)).alloc (.cells #[.int .i64 13, .int .i64 0, .int .u64 0, .slice none 0 0, .slice none 0 0, .slice none 0 0] 42)) := ⟨_, rfl⟩
   rw [← hW] at z0 bw ZS z1 z2 u9
   obtain ⟨y0, y1, y2, y3, y4, y5, y6, y7, y8, y9, _, _, _, _, _, _, _, _, _, _⟩ := B10.facts z0.out
   obtain ⟨v0, v1, v2, v3, v4, _, _, _, _, _⟩ := B5.facts z1.out
   obtain ⟨_, _, _, _, _, _, _, _, _, _, _, _⟩ := B6.facts z2.out
   have zs := ZS.out
   go_enter Tryz.func127, Tryz.ntmps127
   go_wp2_with fail
   rw [← hW]
   clear hW
   obtain ⟨W', hW'⟩ : ∃ X, X = (W.alloc (.cells #[.int .i64 j.k, .int .i64 j.n, .string j.t, .slice A3 j.its.length c3, .slice A4 j.ks.length c4] 25)).drew := ⟨_, rfl⟩
   have ZW' : Hid (W'.heap.size = w.heap.size + 4) := by show _ = _; rw [hW']; simp [zs]
   have BW' : Hid (Below W.heap.size W W') := by rw [hW']; exact ((Below.refl _ _).alloc (Nat.le_refl _) _).drew
   have BW2 : Hid (Below w.heap.size w W') := bw.out.trans (BW'.out.mono bw.out.size)
   have LQ := Lib.hid (L1.out W' BW2.out (w.heap.size + 3) (by omega) (by rw [ZW'.out]; omega) (by rw [hW']; exact B5.drew (B5.newat (by rw [ZS.out]))))
   have Y2 := Lib.hid (B6.below z2.out BW'.out z2.out.lt)
   have lg9a : g9 < w.heap.size + 3 := by omega
   have lg9b : g9 ≠ w.heap.size + 3 := by omega
   have q9 := (BW'.out.cell (p := ⟨w.heap.size, 9, none⟩) (by show w.heap.size < _; rw [ZS.out]; omega)).trans y9
   have qb := (BW'.out.cell (p := ⟨g9, o9, none⟩) (by show g9 < _; rw [ZS.out]; omega)).trans u9
   have q0 := (BW'.out.cell (p := ⟨w.heap.size + 1, 0, none⟩) (by show w.heap.size + 1 < _; rw [ZS.out]; omega)).trans v0
   have q1 := (BW'.out.cell (p := ⟨w.heap.size + 1, 1, none⟩) (by show w.heap.size + 1 < _; rw [ZS.out]; omega)).trans v1
   have q2 := (BW'.out.cell (p := ⟨w.heap.size + 1, 2, none⟩) (by show w.heap.size + 1 < _; rw [ZS.out]; omega)).trans v2
   have q3 := (BW'.out.cell (p := ⟨w.heap.size + 1, 3, none⟩) (by show w.heap.size + 1 < _; rw [ZS.out]; omega)).trans v3
   have q4 := (BW'.out.cell (p := ⟨w.heap.size + 1, 4, none⟩) (by show w.heap.size + 1 < _; rw [ZS.out]; omega)).trans v4
   have lg9c : ¬ w.heap.size + 1 + 1 = g9 := by omega
   have lg9d : ¬ g9 = w.heap.size + 1 + 1 := by omega
   rw [hW'] at LQ
   go_region_held_law (fun u => u.cell? ⟨w.heap.size, 9, none⟩ = some (.slice (some ⟨g9, o9, none⟩) nb x9) ∧ u.cell? ⟨g9, o9, none⟩ = some (.int .i64 b0) ∧ u.cell? ⟨w.heap.size + 1, 0, none⟩ = some (.int .i64 j.k) ∧ u.cell? ⟨w.heap.size + 1, 1, none⟩ = some (.int .i64 j.n) ∧ u.cell? ⟨w.heap.size + 1, 2, none⟩ = some (.string j.t) ∧ u.cell? ⟨w.heap.size + 1, 3, none⟩ = some (.slice A3 j.its.length c3) ∧ u.cell? ⟨w.heap.size + 1, 4, none⟩ = some (.slice A4 j.ks.length c4)) (exact ⟨(by first | with_reducible assumption | (go_simp; done)), (by first | with_reducible assumption | (go_simp; done)), (by first | with_reducible assumption | (go_simp; done)), (by first | with_reducible assumption | (go_simp; done)), (by first | with_reducible assumption | (go_simp; done)), (by first | with_reducible assumption | (go_simp; done)), (by first | with_reducible assumption | (go_simp; done))⟩) (first
    | (go_at_call 169; (with_reducible refine LQ.out.mono ?_); rintro e w1 hp; (rw [← hW'] at hp); obtain ⟨⟨X, xl, xc, rfl, hv⟩, sv1, zz, b1, hz⟩ := hp; have s1 := sv1.size; (rw [ZW'.out] at s1); have Y3 : Hid (B6 w1 (w.heap.size + 2) 42 (.int .i64 13) (.int .i64 0) (.int .u64 0) (.slice none 0 0) (.slice none 0 0) (.slice none 0 0)) := Blk.sav Y2.out sv1 (by rw [ZW'.out]; omega) (by have := LG.out; omega) (by have := LG.out; omega); have l2 := Y3.out.lt; have p9 := (sv1.cell (p := ⟨w.heap.size, 9, none⟩) (by show w.heap.size < _; rw [ZW'.out]; omega) (by show w.heap.size ≠ _; have := LG.out; omega) (by show w.heap.size ≠ _; have := LG.out; omega)).trans q9; have pb := (sv1.cell (p := ⟨g9, o9, none⟩) (by show g9 < _; rw [ZW'.out]; omega) (by show g9 ≠ _; have := HG9.out; omega) (by show g9 ≠ _; have := HG9.out; omega)).trans qb; have p0 := (sv1.cell (p := ⟨w.heap.size + 1, 0, none⟩) (by show w.heap.size + 1 < _; rw [ZW'.out]; omega) (by show w.heap.size + 1 ≠ _; have := LG.out; omega) (by show w.heap.size + 1 ≠ _; have := LG.out; omega)).trans q0; have p1 := (sv1.cell (p := ⟨w.heap.size + 1, 1, none⟩) (by show w.heap.size + 1 < _; rw [ZW'.out]; omega) (by show w.heap.size + 1 ≠ _; have := LG.out; omega) (by show w.heap.size + 1 ≠ _; have := LG.out; omega)).trans q1; have p2 := (sv1.cell (p := ⟨w.heap.size + 1, 2, none⟩) (by show w.heap.size + 1 < _; rw [ZW'.out]; omega) (by show w.heap.size + 1 ≠ _; have := LG.out; omega) (by show w.heap.size + 1 ≠ _; have := LG.out; omega)).trans q2; have p3 := (sv1.cell (p := ⟨w.heap.size + 1, 3, none⟩) (by show w.heap.size + 1 < _; rw [ZW'.out]; omega) (by show w.heap.size + 1 ≠ _; have := LG.out; omega) (by show w.heap.size + 1 ≠ _; have := LG.out; omega)).trans q3; have p4 := (sv1.cell (p := ⟨w.heap.size + 1, 4, none⟩) (by show w.heap.size + 1 < _; rw [ZW'.out]; omega) (by show w.heap.size + 1 ≠ _; have := LG.out; omega) (by show w.heap.size + 1 ≠ _; have := LG.out; omega)).trans q4; have SV1 : Hid (Sav g g w.heap.size w w1) := (Sav.of BW2.out).trans (sv1.mono BW2.out.size); obtain ⟨_, _, _, _, _, _, _, _, _, _, _, _⟩ := B6.facts Y3.out; have HV := Lib.hid hv; have HZ := Lib.hid hz; have HB1 := Lib.hid b1; clear hv hz b1 sv1))
   go_wp2_with fail
   try simp only [Exit.inBlock, Exit.then]
   refine post_V2 (x0 := .int .i64 13) (x1 := .int .i64 0) (x2 := .int .u64 0) (x3 := .slice none 0 0) (x4 := .slice X xl xc) (x5 := .slice none 0 0) rfl rfl rfl (by go_simp) (by go_simp) (by go_simp) (by go_simp) (by go_simp) (by go_simp) ?_
   exact tp_of HR.out (by first | rfl | simp [Act.eval]) SV1.out LG.out (by omega) (Nat.lt_succ_self _) HB1.out HZ.out (fun vs n e => by obtain ⟨a1, a2, a3⟩ := HV.out vs n e; exact ⟨a1, a2, a3.keep (fun _ _ => rfl) fun b hb => ⟨by have := hb.1; rw [ZW'.out] at this; omega, hb.2⟩⟩) (fun _ _ _ => ⟨rfl, ⟨Nat.le_refl _, Nat.zero_le _⟩, RowD.nil_ _ _ _ _⟩)
 have q13 : (k == 13) = false := by rw [beq_eq_false_iff_ne]; exact h13
 rw [if_neg h13] at hR
 have LC := Lib.hid (fun (q : k = 11 ∨ k = 12) W (b : Below w.heap.size w W) => list13_any hB hle it (hi q).1 (hi q).2 j.its (fun x hx => hj.mem hx) left g W (TWW.out W b) S (HSW.out W b) A3 c3 j.its.length rfl (by
  obtain ⟨_, _, _, _, e, _, _, rt, _⟩ := TreeS.out (TT.out W b)
  simp only [List.cons.injEq, Value.slice.injEq, true_and, and_true] at e
  obtain ⟨⟨rfl, rfl⟩, rfl, rfl⟩ := e
  exact rt) itl)
 obtain ⟨nn, hnn⟩ : ∃ m, m = s.nodes.length := ⟨_, rfl⟩
 obtain ⟨o, ho⟩ : ∃ o, o = dlist B it j.its left := ⟨_, rfl⟩
 rw [← hnn, ← ho] at LC
 rw [← ho] at hR
 rw [← hnn]
 by_cases h12 : k = 12
 · subst h12
   rw [if_pos rfl] at hR
   have L1 := Lib.hid (LC.out (.inr rfl))
   have KC := Lib.hid (fun W (b : Below w.heap.size w W) => keys13_any S j.ks W (fun q hq => (HSW.out W b q hq).1) A4 c4 j.ks.length rfl (by
    obtain ⟨_, _, _, _, e, _, _, _, ft⟩ := TreeS.out (TT.out W b)
    simp only [List.cons.injEq, Value.slice.injEq, true_and, and_true] at e
    obtain ⟨⟨rfl, rfl⟩, rfl, rfl⟩ := e
    exact ft) (by have := jkwt_len j.ks; omega) (fun x hx => by have := jkwt_mem hx; omega))
   obtain ⟨kb, hkb⟩ : ∃ b, b = keysFit j.ks := ⟨_, rfl⟩
   rw [← hkb] at hR KC
   have TBL := Lib.hid h.blk
   rw [← hnn] at TBL
   have HRR := Lib.hid hR
   clear hR ho hB hle hf hb hi hn fr brr hd hj h ht hS wj wj2 itl hfl TWW HSW TT hnn q9 h9 q13 h13 LC hkb
   go_enter Tryz.func127, Tryz.ntmps127
   go_wp2_with fail
   with_reducible refine (KC.out _ bw.out).mono ?_
   rintro e w1 ⟨A5, l5, c5, rfl, b1, hky⟩
   have s1 := b1.size
   rw [ZS.out] at s1
   have Y0 := Lib.hid (B10.below z0.out b1 z0.out.lt)
   have Y1 := Lib.hid (B5.below z1.out b1 z1.out.lt)
   have Y2 := Lib.hid (B6.below z2.out b1 z2.out.lt)
   have bw1 : Below w.heap.size w w1 := bw.out.trans (b1.mono bw.out.size)
   have HKY := Lib.hid hky
   obtain ⟨_, _, _, _, _, _, _, _, _, _, _, _, _, _, _, _, _, _, _, _⟩ := B10.facts Y0.out
   obtain ⟨_, _, _, _, _, _, _, _, _, _⟩ := B5.facts Y1.out
   obtain ⟨_, _, _, _, _, _, _, _, _, _, _, _⟩ := B6.facts Y2.out
   have BW1 := Lib.hid bw1
   clear z0 z1 hky b1
   cases kb with
   | false =>
    have Z : Hid (R = none) := HRR.out
    have TB1 := Lib.hid (TBL.out.below bw1 LG.out)
    have ng : w.heap.size + 2 ≠ g := by have := LG.out; omega
    clear HRR L1
    go_wp2_with fail
    try simp only [Exit.inBlock, Exit.then]
    refine post_V2 (x0 := .int .i64 12) (x1 := .int .i64 0) (x2 := .int .u64 0) (x3 := .slice none 0 0) (x4 := .slice none 0 0) (x5 := .slice A5 l5 c5) rfl rfl rfl (by go_simp) (by go_simp) (by go_simp) (by go_simp) (by go_simp) (by go_simp) ?_
    exact ⟨vp_no (by rw [Z.out]; rfl) (by first | rfl | simp [Act.eval]), Sav.of bqq, left, B2.past (B2.past (B2.past (B2.past (B2.past (B2.past (B2.past TB1.out ng _) ng _) ng _) ng _) ng _) ng _) ng _, fun _ _ e => by rw [Z.out] at e; cases e⟩
   | true =>
    have HR : Hid (R = o.map fun p => (V.mk 12 0 0 [] p.1 j.ks, p.2)) := HRR.out
    have BX : Hid (Below w.heap.size w (w1.setCell ⟨w.heap.size + 2, 5, none⟩ (.slice A5 l5 c5))) := by show Below _ _ _; (repeat' (first | with_reducible assumption | with_reducible exact Below.refl _ _ | (with_reducible refine Below.alloc ?_ ?_ _; rotate_left; focus ((first | exact Nat.le_refl _ | (simp; done) | (simp; omega) | omega | fail))) | (with_reducible refine Below.setCell ?_ ?_ _; rotate_left; focus ((first | exact Nat.le_refl _ | (simp; done) | (simp; omega) | omega | fail))) | with_reducible refine Mem.bel_drewN ?_ _ | with_reducible refine Below.drew ?_ | (with_reducible refine Mem.bel_call (by with_reducible assumption) ?_ ?_; focus ((first | exact Nat.le_refl _ | (simp; done) | (simp; omega) | omega | fail))) | fail))
    have ZX : Hid ((w1.setCell ⟨w.heap.size + 2, 5, none⟩ (.slice A5 l5 c5)).heap.size = w1.heap.size) := by show _ = _; simp [World.setCell]
    have Y3 : Hid (B6 (w1.setCell ⟨w.heap.size + 2, 5, none⟩ (.slice A5 l5 c5)) (w.heap.size + 2) 42 (.int .i64 12) (.int .i64 0) (.int .u64 0) (.slice none 0 0) (.slice none 0 0) (.slice A5 l5 c5)) := B6.set5 Y2.out _
    have KR := Lib.hid (HKY.out rfl)
    clear HRR Y2
    go_wp2_with fail
    with_reducible refine (L1.out _ BX.out).mono ?_
    rintro e w2 hp
    obtain ⟨⟨X, xl, xc, rfl, hv⟩, sv1, zz, b1, hz⟩ := hp
    have s2 := sv1.size
    rw [ZX.out] at s2
    have Y4 : Hid (B6 w2 (w.heap.size + 2) 42 (.int .i64 12) (.int .i64 0) (.int .u64 0) (.slice none 0 0) (.slice none 0 0) (.slice A5 l5 c5)) := Blk.sav Y3.out sv1 (by rw [ZX.out]; omega) (by have := LG.out; omega) (by have := LG.out; omega)
    have l2 := Y4.out.lt
    have SV1 : Hid (Sav g g w.heap.size w w2) := (Sav.of BX.out).trans (sv1.mono BX.out.size)
    have KR2 : Hid (l5 = j.ks.length ∧ Len j.ks.length c5 ∧ RowD w2 (fun b => w.heap.size + 2 + 1 ≤ b ∧ b < w2.heap.size) 1 (j.ks.map D.s) A5) := by
     obtain ⟨a1, a2, a3⟩ := KR.out
     refine ⟨a1, a2, RowD.keep (fun p hp => sv1.cell (by rw [ZX.out]; exact hp.2) (by have := hp.1; have := LG.out; rw [ZS.out] at *; omega) (by have := hp.1; have := LG.out; rw [ZS.out] at *; omega)) (fun b hb => ⟨by have := hb.1; rw [ZS.out] at this; omega, by have := hb.2; omega⟩) (row_set (S := New (((w.alloc (.cells #[.int .i64 12, .string N1, .slice X2 al.length x2, .slice X3 fs.length x3, .slice X4 sy.length x4, .bool hs, .string df, .int .i64 sz, .int .i64 it, .slice X9 br.length x9] 59)).alloc (.cells #[.int .i64 j.k, .int .i64 j.n, .string j.t, .slice A3 j.its.length c3, .slice A4 j.ks.length c4] 25)).alloc (.cells #[.int .i64 12, .int .i64 0, .int .u64 0, .slice none 0 0, .slice none 0 0, .slice none 0 0] 42)) w1) a3 fun b hb => by have := hb.1; rw [ZS.out] at this; omega)⟩
    obtain ⟨_, _, _, _, _, _, _, _, _, _, _, _⟩ := B6.facts Y4.out
    have HV := Lib.hid hv
    have HZ := Lib.hid hz
    have HB1 := Lib.hid b1
    clear hv hz b1 sv1 KR
    go_wp2_with fail
    try simp only [Exit.inBlock, Exit.then]
    refine post_V2 (x0 := .int .i64 12) (x1 := .int .i64 0) (x2 := .int .u64 0) (x3 := .slice none 0 0) (x4 := .slice X xl xc) (x5 := .slice A5 l5 c5) rfl rfl rfl (by go_simp) (by go_simp) (by go_simp) (by go_simp) (by go_simp) (by go_simp) ?_
    exact tp_of HR.out (by first | rfl | simp [Act.eval]) SV1.out LG.out (by omega) (Nat.lt_succ_self _) HB1.out HZ.out (fun vs n e => by obtain ⟨a1, a2, a3⟩ := HV.out vs n e; exact ⟨a1, a2, a3.keep (fun _ _ => rfl) fun b hb => ⟨by have := hb.1; rw [ZX.out] at this; omega, hb.2⟩⟩) (fun _ _ _ => KR2.out)
 have q12 : (k == 12) = false := by rw [beq_eq_false_iff_ne]; exact h12
 rw [if_neg h12] at hR
 obtain rfl : k = 11 := by omega
 have L1 := Lib.hid (LC.out (.inl rfl))
 have HR : Hid (R = o.map fun p => (V.mk 11 0 0 [] p.1 [], p.2)) := hR
 clear hR ho hB hle hf hb hi hn fr brr hd hj h ht hS wj wj2 itl hfl TWW HSW TT hnn q9 h9 q13 h13 q12 h12 LC
 go_enter Tryz.func127, Tryz.ntmps127
 go_wp2_with fail
 with_reducible refine (L1.out _ bw.out).mono ?_
 rintro e w1 hp
 obtain ⟨⟨X, xl, xc, rfl, hv⟩, sv1, zz, b1, hz⟩ := hp
 have s1 := sv1.size
 rw [ZS.out] at s1
 have Y2 : Hid (B6 w1 (w.heap.size + 2) 42 (.int .i64 11) (.int .i64 0) (.int .u64 0) (.slice none 0 0) (.slice none 0 0) (.slice none 0 0)) := Blk.sav z2.out sv1 (by rw [ZS.out]; omega) (by have := LG.out; omega) (by have := LG.out; omega)
 have l2 := Y2.out.lt
 have SV1 : Hid (Sav g g w.heap.size w w1) := (Sav.of bw.out).trans (sv1.mono bw.out.size)
 obtain ⟨_, _, _, _, _, _, _, _, _, _, _, _⟩ := B6.facts Y2.out
 have HV := Lib.hid hv
 have HZ := Lib.hid hz
 have HB1 := Lib.hid b1
 clear hv hz b1 sv1 z0 z1 z2
 go_wp2_with fail
 try simp only [Exit.inBlock, Exit.then]
 refine post_V2 (x0 := .int .i64 11) (x1 := .int .i64 0) (x2 := .int .u64 0) (x3 := .slice none 0 0) (x4 := .slice X xl xc) (x5 := .slice none 0 0) rfl rfl rfl (by go_simp) (by go_simp) (by go_simp) (by go_simp) (by go_simp) (by go_simp) ?_
 exact tp_of HR.out (by first | rfl | simp [Act.eval]) SV1.out LG.out (by omega) (Nat.lt_succ_self _) HB1.out HZ.out (fun vs n e => by obtain ⟨a1, a2, a3⟩ := HV.out vs n e; exact ⟨a1, a2, a3.keep (fun _ _ => rfl) fun b hb => ⟨by have := hb.1; rw [ZS.out] at this; omega, hb.2⟩⟩) (fun _ _ _ => ⟨rfl, ⟨Nat.le_refl _, Nat.zero_le _⟩, RowD.nil_ _ _ _ _⟩)
theorem lies_set {w : World} {S : Nat → Prop} {d : D} {cs : List Value} {g i : Nat} {u : Value} (h : Lies w S d cs) (hS : ∀ b, S b → b ≠ g) : Lies (w.setCell ⟨g, i, none⟩ u) S d cs :=
 h.keep (fun p hp => World.cell?_setCell_other w _ _ _ (fun e => by subst e; exact hS _ hp rfl)) fun _ h => h
theorem tp_pass {w W1 w2 : World} {g G : Nat} {nv : Value} {R : Option (V × Nat)} {k n bt : Int} {A3 A4 A5 : Option Addr} {l3 c3 l4 c4 l5 c5 : Nat} {v0 v1 v2 v3 v4 v5 : Value} {b : Bool} {z : Int}
 (hb : b = (R.map Prod.fst).isSome) (sv : Sav g g w.heap.size w w2) (h1 : w.heap.size ≤ W1.heap.size) (hg : g < w.heap.size) (hG : w.heap.size ≤ G) (hG1 : G < W1.heap.size) (hz : B2 w2 g 119 nv (.int .i64 z)) (hn : ∀ v l, R = some (v, l) → z = ((l : Nat) : Int))
 (hv : ∀ v, R.map Prod.fst = some v → Lies w2 (New W1 w2) v.enc [.int .i64 k, .int .i64 n, .int .u64 bt, .slice A3 l3 c3, .slice A4 l4 c4, .slice A5 l5 c5]) :
 TP R nv g w (.returned (.tuple #[.agg #[.int .i64 k, .int .i64 n, .int .u64 bt, .slice A3 l3 c3, .slice A4 l4 c4, .slice A5 l5 c5], .bool b])) ((((((w2.setCell ⟨G, 0, none⟩ v0).setCell ⟨G, 1, none⟩ v1).setCell ⟨G, 2, none⟩ v2).setCell ⟨G, 3, none⟩ v3).setCell ⟨G, 4, none⟩ v4).setCell ⟨G, 5, none⟩ v5) := by
 have n : G ≠ g := by omega
 have sz : ((((((w2.setCell ⟨G, 0, none⟩ v0).setCell ⟨G, 1, none⟩ v1).setCell ⟨G, 2, none⟩ v2).setCell ⟨G, 3, none⟩ v3).setCell ⟨G, 4, none⟩ v4).setCell ⟨G, 5, none⟩ v5).heap.size = w2.heap.size := by simp [World.setCell]
 have h6 : B2 ((((((w2.setCell ⟨G, 0, none⟩ v0).setCell ⟨G, 1, none⟩ v1).setCell ⟨G, 2, none⟩ v2).setCell ⟨G, 3, none⟩ v3).setCell ⟨G, 4, none⟩ v4).setCell ⟨G, 5, none⟩ v5) g 119 nv (.int .i64 z) := B2.past (B2.past (B2.past (B2.past (B2.past (B2.past hz n _) n _) n _) n _) n _) n _
 have sv' : Sav g g w.heap.size w ((((((w2.setCell ⟨G, 0, none⟩ v0).setCell ⟨G, 1, none⟩ v1).setCell ⟨G, 2, none⟩ v2).setCell ⟨G, 3, none⟩ v3).setCell ⟨G, 4, none⟩ v4).setCell ⟨G, 5, none⟩ v5) := (((((sv.set (.inr (.inr hG)) _).set (.inr (.inr hG)) _).set (.inr (.inr hG)) _).set (.inr (.inr hG)) _).set (.inr (.inr hG)) _).set (.inr (.inr hG)) _
 subst hb
 refine ⟨⟨k, _, bt, A3, A4, A5, l3, c3, l4, c4, l5, c5, rfl, fun v e => ?_⟩, sv', z, h6, hn⟩
 have nb : ∀ b, New W1 w2 b → b ≠ G := fun b hb => by have := hb.1; omega
 exact (lies_set (lies_set (lies_set (lies_set (lies_set (lies_set (hv v e) nb) nb) nb) nb) nb) nb).keep (fun _ _ => rfl) fun b hb => ⟨Nat.le_trans h1 hb.1, by rw [sz]; exact hb.2⟩
theorem tp_zero {w w2 : World} {g G : Nat} {nv : Value} {R : Option (V × Nat)} {k n bt : Int} {A3 A4 A5 : Option Addr} {l3 c3 l4 c4 l5 c5 : Nat} {v0 v1 v2 v3 v4 v5 : Value} {b : Bool} {z : Int}
 (hR : R = none) (hb : b = false) (sv : Sav g g w.heap.size w w2) (hg : g < w.heap.size) (hG : w.heap.size ≤ G) (hz : B2 w2 g 119 nv (.int .i64 z)) :
 TP R nv g w (.returned (.tuple #[.agg #[.int .i64 k, .int .i64 n, .int .u64 bt, .slice A3 l3 c3, .slice A4 l4 c4, .slice A5 l5 c5], .bool b])) ((((((w2.setCell ⟨G, 0, none⟩ v0).setCell ⟨G, 1, none⟩ v1).setCell ⟨G, 2, none⟩ v2).setCell ⟨G, 3, none⟩ v3).setCell ⟨G, 4, none⟩ v4).setCell ⟨G, 5, none⟩ v5) := by
 have n : G ≠ g := by omega
 subst hR; subst hb
 exact ⟨vp_no rfl rfl, (((((sv.set (.inr (.inr hG)) _).set (.inr (.inr hG)) _).set (.inr (.inr hG)) _).set (.inr (.inr hG)) _).set (.inr (.inr hG)) _).set (.inr (.inr hG)) _, z, B2.past (B2.past (B2.past (B2.past (B2.past (B2.past hz n _) n _) n _) n _) n _) n _, fun _ _ h => by cases h⟩
theorem value13_zero {s : Sc} (hs : ScG s) {A : Option Addr} {c : Nat} {o : Option DB} {ar : Int} (_hn : o = none → ar = 20) (ho : ∀ B, o = some B → (ar ≠ 20 ∧ 0 ≤ ar ∧ ar ≤ 20) ∧ CallV s A c B (ar + 1) ∧ ∀ a j left v l, 0 ≤ a → a < (s.nodes.length : Int) → JG j → B a j left = some (v, l) → l ≤ left) (a : Int) (j : J) (left g : Nat) (w : World) (S : Nat → Prop) (A3 A4 : Option Addr) (c3 c4 : Nat) (h0 : 0 ≤ a) (h1 : a < (s.nodes.length : Int)) (hj : JG j) (h : TW s A c w g left) (_hS : ∀ b, S b → b < w.heap.size ∧ b ≠ g) (_ht : TreeS w S j [.int .i64 j.k, .int .i64 j.n, .string j.t, .slice A3 j.its.length c3, .slice A4 j.ks.length c4]) (hl0 : left = 0) (hcase : (s.node a).k = (s.node a).k) :
 Calls Tryz.prog 76 #[.pointer (some ⟨g, 0, none⟩), .int .i64 a, .agg #[.int .i64 j.k, .int .i64 j.n, .string j.t, .slice A3 j.its.length c3, .slice A4 j.ks.length c4], .int .i64 ar] w (TP (dstep o (s.node a) j left) (.slice A s.nodes.length c) g w) := by
 have CS := cell_set
 have lg := h.blk.lt
 have LG : Hid (g < w.heap.size) := lg
 have hp : a.toNat < s.nodes.length := by omega
 obtain ⟨p, rfl⟩ : ∃ p : Nat, a = (p : Int) := ⟨a.toNat, by omega⟩
 rw [Int.toNat_natCast] at hp
 obtain ⟨R, hR⟩ : ∃ R, R = dstep o (s.node (p : Int)) j left := ⟨_, rfl⟩
 show Calls _ _ _ _ (TP (dstep o (s.node (p : Int)) j left) _ _ _)
 rw [← hR]
 rw [Sc.node_at hp] at hR
 obtain ⟨g1, o1, X2, x2, X3, x3, X4, x4, X9, x9, e1, hg1, ⟨u0, u1, u2, u3, u4, u5, u6, u7, u8, u9⟩, hnd⟩ := nodes_at h.nodes hp
 have ok := hs.right.2.1 _ (List.getElem_mem hp)
 have kin := fun k => kid_in hs.right.1 hp (k := k)
 have SJ := fun f (h9 : (s.nodes[p]'hp).k = 9) hf => said_JG hs hj hp h9 (f := f) hf
 have smn := hs.sm.2 p hp
 have HH := Lib.hid h
 have room := h.room
 have hnode : s.node (p : Int) = s.nodes[p]'hp := Sc.node_at hp
 rw [hnode] at hcase
 clear hnode
 generalize s.nodes[p]'hp = nd at *
 have K14 := ok.2.1
 have K1 := ok.1
 have TBL := h.blk
 obtain ⟨nn, hnn⟩ : ∃ m, m = s.nodes.length := ⟨_, rfl⟩
 rw [← hnn] at h1 TBL ⊢
 have HNN := Lib.hid hnn
 have nmax : nn ≤ 9223372036854775807 := by have := h.len.2; unfold maxLen at this; omega
 obtain ⟨t0, t1, _, _⟩ := B2.facts TBL
 have lg1 : g1 < w.heap.size := by have : g1 < g := hg1; omega
 have ng1 : g ≠ g1 := by have : g1 < g := hg1; omega
 subst e1
 have HR := Lib.hid hR
 have TBH := Lib.hid TBL
 have pn : (p : Int) < (nn : Int) := h1
 obtain ⟨W, hW⟩ : ∃ W, W = (((w.alloc (.cells #[.int .i64 j.k, .int .i64 j.n, .string j.t, .slice A3 j.its.length c3, .slice A4 j.ks.length c4] 25)).alloc (.cells #[.int .i64 0, .int .i64 0, .int .u64 0, .slice none 0 0, .slice none 0 0, .slice none 0 0] 42)).alloc (.cells #[.int .i64 nd.k, .string nd.name, .slice X2 nd.al.length x2, .slice X3 nd.fs.length x3, .slice X4 nd.sy.length x4, .bool nd.has, .string nd.df, .int .i64 nd.size, .int .i64 nd.items, .slice X9 nd.br.length x9] 59)) := ⟨_, rfl⟩
 have ZS : Hid (W.heap.size = w.heap.size + 3) := by show _ = _; rw [hW]; simp
 have BW : Hid (Below w.heap.size w W) := by rw [hW]; exact (((Below.refl _ _).alloc (Nat.le_refl _) _).alloc (by simp) _).alloc (by simp; omega) _
 have W5 : Hid (B5 W w.heap.size 25 (.int .i64 j.k) (.int .i64 j.n) (.string j.t) (.slice A3 j.its.length c3) (.slice A4 j.ks.length c4)) := by rw [hW]; exact ((B5.newat rfl).alloc _).alloc _
 have W6 : Hid (B6 W (w.heap.size + 1) 42 (.int .i64 0) (.int .i64 0) (.int .u64 0) (.slice none 0 0) (.slice none 0 0) (.slice none 0 0)) := by rw [hW]; exact (B6.newat (by simp)).alloc _
 have W10 : Hid (B10 W (w.heap.size + 2) 59 (.int .i64 nd.k) (.string nd.name) (.slice X2 nd.al.length x2) (.slice X3 nd.fs.length x3) (.slice X4 nd.sy.length x4) (.bool nd.has) (.string nd.df) (.int .i64 nd.size) (.int .i64 nd.items) (.slice X9 nd.br.length x9)) := by rw [hW]; exact B10.newat (by simp)
 have TBW := Lib.hid (TBL.below BW.out lg)
 obtain ⟨_, _, _, _, _, _, _, _, _, _⟩ := B5.facts W5.out
 obtain ⟨_, _, _, _, _, _, _, _, _, _, _, _⟩ := B6.facts W6.out
 obtain ⟨_, _, _, _, _, _, _, _, _, _, _, _, _, _, _, _, _, _, _, _⟩ := B10.facts W10.out
 obtain ⟨_, _, _, _⟩ := B2.facts TBW.out
 have lW := TBW.out.lt
 have lW6 := W6.out.lt
 have ngw : g ≠ w.heap.size := by omega
 have ngw1 : g ≠ w.heap.size + 1 := by omega
 have ngw2 : g ≠ w.heap.size + 2 := by omega
 have Z : Hid (R = none) := by show _ = _; rw [HR.out]; unfold dstep; rw [if_pos (.inl hl0)]
 have q0 : ((left : Int) == 0) = true := by rw [beq_iff_eq]; omega
 clear hcase hR HR ho hj h hs ok kin SJ smn HH hnd HNN hnn TBL hl0
 go_enter Tryz.func76, Tryz.ntmps76
 go_wp2_with fail
 rw [← hW]
 clear hW
 go_quiet (fail)
 go_wp2_with fail
 try simp only [Exit.inBlock, Exit.then]
 refine post_V2 (x0 := .int .i64 0) (x1 := .int .i64 0) (x2 := .int .u64 0) (x3 := .slice none 0 0) (x4 := .slice none 0 0) (x5 := .slice none 0 0) rfl rfl rfl (by go_simp) (by go_simp) (by go_simp) (by go_simp) (by go_simp) (by go_simp) ?_
 exact tp_zero Z.out (by first | rfl | simp [Act.eval]) (Sav.drewN (Sav.of BW.out) _) LG.out (by omega) (B2.drewN TBW.out _)
theorem value13_mis {s : Sc} (hs : ScG s) {A : Option Addr} {c : Nat} {o : Option DB} {ar : Int} (_hn : o = none → ar = 20) (ho : ∀ B, o = some B → (ar ≠ 20 ∧ 0 ≤ ar ∧ ar ≤ 20) ∧ CallV s A c B (ar + 1) ∧ ∀ a j left v l, 0 ≤ a → a < (s.nodes.length : Int) → JG j → B a j left = some (v, l) → l ≤ left) (a : Int) (j : J) (left g : Nat) (w : World) (S : Nat → Prop) (A3 A4 : Option Addr) (c3 c4 : Nat) (h0 : 0 ≤ a) (h1 : a < (s.nodes.length : Int)) (hj : JG j) (h : TW s A c w g left) (_hS : ∀ b, S b → b < w.heap.size ∧ b ≠ g) (_ht : TreeS w S j [.int .i64 j.k, .int .i64 j.n, .string j.t, .slice A3 j.its.length c3, .slice A4 j.ks.length c4]) (hl0 : left ≠ 0) (hcase : (s.node a).k ≠ 13 ∧ j.k ≠ askedK (s.node a).k) :
 Calls Tryz.prog 76 #[.pointer (some ⟨g, 0, none⟩), .int .i64 a, .agg #[.int .i64 j.k, .int .i64 j.n, .string j.t, .slice A3 j.its.length c3, .slice A4 j.ks.length c4], .int .i64 ar] w (TP (dstep o (s.node a) j left) (.slice A s.nodes.length c) g w) := by
 have CS := cell_set
 have lg := h.blk.lt
 have LG : Hid (g < w.heap.size) := lg
 have hp : a.toNat < s.nodes.length := by omega
 obtain ⟨p, rfl⟩ : ∃ p : Nat, a = (p : Int) := ⟨a.toNat, by omega⟩
 rw [Int.toNat_natCast] at hp
 obtain ⟨R, hR⟩ : ∃ R, R = dstep o (s.node (p : Int)) j left := ⟨_, rfl⟩
 show Calls _ _ _ _ (TP (dstep o (s.node (p : Int)) j left) _ _ _)
 rw [← hR]
 rw [Sc.node_at hp] at hR
 obtain ⟨g1, o1, X2, x2, X3, x3, X4, x4, X9, x9, e1, hg1, ⟨u0, u1, u2, u3, u4, u5, u6, u7, u8, u9⟩, hnd⟩ := nodes_at h.nodes hp
 have ok := hs.right.2.1 _ (List.getElem_mem hp)
 have kin := fun k => kid_in hs.right.1 hp (k := k)
 have SJ := fun f (h9 : (s.nodes[p]'hp).k = 9) hf => said_JG hs hj hp h9 (f := f) hf
 have smn := hs.sm.2 p hp
 have HH := Lib.hid h
 have room := h.room
 have hnode : s.node (p : Int) = s.nodes[p]'hp := Sc.node_at hp
 rw [hnode] at hcase
 clear hnode
 generalize s.nodes[p]'hp = nd at *
 have K14 := ok.2.1
 have K1 := ok.1
 have TBL := h.blk
 obtain ⟨nn, hnn⟩ : ∃ m, m = s.nodes.length := ⟨_, rfl⟩
 rw [← hnn] at h1 TBL ⊢
 have HNN := Lib.hid hnn
 have nmax : nn ≤ 9223372036854775807 := by have := h.len.2; unfold maxLen at this; omega
 obtain ⟨t0, t1, _, _⟩ := B2.facts TBL
 have lg1 : g1 < w.heap.size := by have : g1 < g := hg1; omega
 have ng1 : g ≠ g1 := by have : g1 < g := hg1; omega
 subst e1
 have HR := Lib.hid hR
 have TBH := Lib.hid TBL
 have pn : (p : Int) < (nn : Int) := h1
 obtain ⟨W, hW⟩ : ∃ W, W = (((w.alloc (.cells #[.int .i64 j.k, .int .i64 j.n, .string j.t, .slice A3 j.its.length c3, .slice A4 j.ks.length c4] 25)).alloc (.cells #[.int .i64 0, .int .i64 0, .int .u64 0, .slice none 0 0, .slice none 0 0, .slice none 0 0] 42)).alloc (.cells #[.int .i64 nd.k, .string nd.name, .slice X2 nd.al.length x2, .slice X3 nd.fs.length x3, .slice X4 nd.sy.length x4, .bool nd.has, .string nd.df, .int .i64 nd.size, .int .i64 nd.items, .slice X9 nd.br.length x9] 59)) := ⟨_, rfl⟩
 have ZS : Hid (W.heap.size = w.heap.size + 3) := by show _ = _; rw [hW]; simp
 have BW : Hid (Below w.heap.size w W) := by rw [hW]; exact (((Below.refl _ _).alloc (Nat.le_refl _) _).alloc (by simp) _).alloc (by simp; omega) _
 have W5 : Hid (B5 W w.heap.size 25 (.int .i64 j.k) (.int .i64 j.n) (.string j.t) (.slice A3 j.its.length c3) (.slice A4 j.ks.length c4)) := by rw [hW]; exact ((B5.newat rfl).alloc _).alloc _
 have W6 : Hid (B6 W (w.heap.size + 1) 42 (.int .i64 0) (.int .i64 0) (.int .u64 0) (.slice none 0 0) (.slice none 0 0) (.slice none 0 0)) := by rw [hW]; exact (B6.newat (by simp)).alloc _
 have W10 : Hid (B10 W (w.heap.size + 2) 59 (.int .i64 nd.k) (.string nd.name) (.slice X2 nd.al.length x2) (.slice X3 nd.fs.length x3) (.slice X4 nd.sy.length x4) (.bool nd.has) (.string nd.df) (.int .i64 nd.size) (.int .i64 nd.items) (.slice X9 nd.br.length x9)) := by rw [hW]; exact B10.newat (by simp)
 have TBW := Lib.hid (TBL.below BW.out lg)
 obtain ⟨_, _, _, _, _, _, _, _, _, _⟩ := B5.facts W5.out
 obtain ⟨_, _, _, _, _, _, _, _, _, _, _, _⟩ := B6.facts W6.out
 obtain ⟨_, _, _, _, _, _, _, _, _, _, _, _, _, _, _, _, _, _, _, _⟩ := B10.facts W10.out
 obtain ⟨_, _, _, _⟩ := B2.facts TBW.out
 have lW := TBW.out.lt
 have lW6 := W6.out.lt
 have ngw : g ≠ w.heap.size := by omega
 have ngw1 : g ≠ w.heap.size + 1 := by omega
 have ngw2 : g ≠ w.heap.size + 2 := by omega
 have q0 : ((left : Int) == 0) = false := by rw [beq_eq_false_iff_ne]; omega
 obtain ⟨l1, rfl⟩ : ∃ l1, left = l1 + 1 := ⟨left - 1, by omega⟩
 obtain ⟨ak, hak⟩ : ∃ x, x = askedK nd.k := ⟨_, rfl⟩
 have AK : Hid (∀ W, Calls Tryz.prog 126 #[.int .i64 nd.k] W (Sole (.int .i64 ak) W)) := by rw [hak]; exact fun W => asked13_any nd.k W
 have hm : nd.k ≠ 13 ∧ j.k ≠ ak := by rw [hak]; exact hcase
 have Z : Hid (R = none) := by show _ = _; rw [HR.out]; unfold dstep; rw [if_pos (.inr (by rw [← hak]; exact hm))]
 have q13 : (nd.k != 13) = true := by rw [bne_iff_ne]; exact hm.1
 have qj : (j.k != ak) = true := by rw [bne_iff_ne]; exact hm.2
 clear hcase hR HR ho hj h hs ok kin SJ smn HH hnd HNN hnn TBL hl0 hak hm
 go_enter Tryz.func76, Tryz.ntmps76
 go_wp2_with fail
 rw [← hW]
 clear hW
 go_quiet ((go_at_call 126; exact Calls.quiet_of_same (AK.out _)))
 go_wp2_with fail
 try simp only [Exit.inBlock, Exit.then]
 refine post_V2 (x0 := .int .i64 0) (x1 := .int .i64 0) (x2 := .int .u64 0) (x3 := .slice none 0 0) (x4 := .slice none 0 0) (x5 := .slice none 0 0) rfl rfl rfl (by go_simp) (by go_simp) (by go_simp) (by go_simp) (by go_simp) (by go_simp) ?_
 exact tp_zero Z.out (by first | rfl | simp [Act.eval]) (Sav.drewN (Sav.of BW.out) _) LG.out (by omega) (B2.drewN TBW.out _)
theorem value13_none {s : Sc} (hs : ScG s) {A : Option Addr} {c : Nat} {o : Option DB} {ar : Int} (hn : o = none → ar = 20) (ho : ∀ B, o = some B → (ar ≠ 20 ∧ 0 ≤ ar ∧ ar ≤ 20) ∧ CallV s A c B (ar + 1) ∧ ∀ a j left v l, 0 ≤ a → a < (s.nodes.length : Int) → JG j → B a j left = some (v, l) → l ≤ left) (a : Int) (j : J) (left g : Nat) (w : World) (S : Nat → Prop) (A3 A4 : Option Addr) (c3 c4 : Nat) (h0 : 0 ≤ a) (h1 : a < (s.nodes.length : Int)) (hj : JG j) (h : TW s A c w g left) (hS : ∀ b, S b → b < w.heap.size ∧ b ≠ g) (ht : TreeS w S j [.int .i64 j.k, .int .i64 j.n, .string j.t, .slice A3 j.its.length c3, .slice A4 j.ks.length c4]) (hl0 : left ≠ 0) (hcase : ¬ ((s.node a).k ≠ 13 ∧ j.k ≠ askedK (s.node a).k) ∧ deepK (s.node a).k) (hon : o = none) :
 Calls Tryz.prog 76 #[.pointer (some ⟨g, 0, none⟩), .int .i64 a, .agg #[.int .i64 j.k, .int .i64 j.n, .string j.t, .slice A3 j.its.length c3, .slice A4 j.ks.length c4], .int .i64 ar] w (TP (dstep o (s.node a) j left) (.slice A s.nodes.length c) g w) := by
 have CS := cell_set
 have lg := h.blk.lt
 have LG : Hid (g < w.heap.size) := lg
 have hp : a.toNat < s.nodes.length := by omega
 obtain ⟨p, rfl⟩ : ∃ p : Nat, a = (p : Int) := ⟨a.toNat, by omega⟩
 rw [Int.toNat_natCast] at hp
 obtain ⟨R, hR⟩ : ∃ R, R = dstep o (s.node (p : Int)) j left := ⟨_, rfl⟩
 show Calls _ _ _ _ (TP (dstep o (s.node (p : Int)) j left) _ _ _)
 rw [← hR]
 rw [Sc.node_at hp] at hR
 obtain ⟨g1, o1, X2, x2, X3, x3, X4, x4, X9, x9, e1, hg1, ⟨u0, u1, u2, u3, u4, u5, u6, u7, u8, u9⟩, hnd⟩ := nodes_at h.nodes hp
 have ok := hs.right.2.1 _ (List.getElem_mem hp)
 have kin := fun k => kid_in hs.right.1 hp (k := k)
 have SJ := fun f (h9 : (s.nodes[p]'hp).k = 9) hf => said_JG hs hj hp h9 (f := f) hf
 have smn := hs.sm.2 p hp
 have HH := Lib.hid h
 have room := h.room
 have hnode : s.node (p : Int) = s.nodes[p]'hp := Sc.node_at hp
 rw [hnode] at hcase
 clear hnode
 generalize s.nodes[p]'hp = nd at *
 have K14 := ok.2.1
 have K1 := ok.1
 have TBL := h.blk
 obtain ⟨nn, hnn⟩ : ∃ m, m = s.nodes.length := ⟨_, rfl⟩
 rw [← hnn] at h1 TBL ⊢
 have HNN := Lib.hid hnn
 have nmax : nn ≤ 9223372036854775807 := by have := h.len.2; unfold maxLen at this; omega
 obtain ⟨t0, t1, _, _⟩ := B2.facts TBL
 have lg1 : g1 < w.heap.size := by have : g1 < g := hg1; omega
 have ng1 : g ≠ g1 := by have : g1 < g := hg1; omega
 subst e1
 have HR := Lib.hid hR
 have TBH := Lib.hid TBL
 have pn : (p : Int) < (nn : Int) := h1
 obtain ⟨W, hW⟩ : ∃ W, W = (((w.alloc (.cells #[.int .i64 j.k, .int .i64 j.n, .string j.t, .slice A3 j.its.length c3, .slice A4 j.ks.length c4] 25)).alloc (.cells #[.int .i64 0, .int .i64 0, .int .u64 0, .slice none 0 0, .slice none 0 0, .slice none 0 0] 42)).alloc (.cells #[.int .i64 nd.k, .string nd.name, .slice X2 nd.al.length x2, .slice X3 nd.fs.length x3, .slice X4 nd.sy.length x4, .bool nd.has, .string nd.df, .int .i64 nd.size, .int .i64 nd.items, .slice X9 nd.br.length x9] 59)) := ⟨_, rfl⟩
 have ZS : Hid (W.heap.size = w.heap.size + 3) := by show _ = _; rw [hW]; simp
 have BW : Hid (Below w.heap.size w W) := by rw [hW]; exact (((Below.refl _ _).alloc (Nat.le_refl _) _).alloc (by simp) _).alloc (by simp; omega) _
 have W5 : Hid (B5 W w.heap.size 25 (.int .i64 j.k) (.int .i64 j.n) (.string j.t) (.slice A3 j.its.length c3) (.slice A4 j.ks.length c4)) := by rw [hW]; exact ((B5.newat rfl).alloc _).alloc _
 have W6 : Hid (B6 W (w.heap.size + 1) 42 (.int .i64 0) (.int .i64 0) (.int .u64 0) (.slice none 0 0) (.slice none 0 0) (.slice none 0 0)) := by rw [hW]; exact (B6.newat (by simp)).alloc _
 have W10 : Hid (B10 W (w.heap.size + 2) 59 (.int .i64 nd.k) (.string nd.name) (.slice X2 nd.al.length x2) (.slice X3 nd.fs.length x3) (.slice X4 nd.sy.length x4) (.bool nd.has) (.string nd.df) (.int .i64 nd.size) (.int .i64 nd.items) (.slice X9 nd.br.length x9)) := by rw [hW]; exact B10.newat (by simp)
 have TBW := Lib.hid (TBL.below BW.out lg)
 obtain ⟨_, _, _, _, _, _, _, _, _, _⟩ := B5.facts W5.out
 obtain ⟨_, _, _, _, _, _, _, _, _, _, _, _⟩ := B6.facts W6.out
 obtain ⟨_, _, _, _, _, _, _, _, _, _, _, _, _, _, _, _, _, _, _, _⟩ := B10.facts W10.out
 obtain ⟨_, _, _, _⟩ := B2.facts TBW.out
 have lW := TBW.out.lt
 have lW6 := W6.out.lt
 have ngw : g ≠ w.heap.size := by omega
 have ngw1 : g ≠ w.heap.size + 1 := by omega
 have ngw2 : g ≠ w.heap.size + 2 := by omega
 have q0 : ((left : Int) == 0) = false := by rw [beq_eq_false_iff_ne]; omega
 obtain ⟨l1, rfl⟩ : ∃ l1, left = l1 + 1 := ⟨left - 1, by omega⟩
 obtain ⟨ak, hak⟩ : ∃ x, x = askedK nd.k := ⟨_, rfl⟩
 have AK : Hid (∀ W, Calls Tryz.prog 126 #[.int .i64 nd.k] W (Sole (.int .i64 ak) W)) := by rw [hak]; exact fun W => asked13_any nd.k W
 have hm : ¬ (nd.k ≠ 13 ∧ j.k ≠ ak) := by rw [hak]; exact hcase.1
 have hm2 : nd.k ≠ 13 → j.k = askedK nd.k := fun e => Classical.byContradiction fun g => hm ⟨e, by rw [hak]; exact g⟩
 have HP : R = if deepK nd.k then o.bind fun B => dparted B nd j l1 else (dleaf nd j).map fun v => (v, l1) := by
  rw [HR.out]; unfold dstep
  rw [if_neg (fun g => by rcases g with g | g; omega; exact hm (by rw [hak]; exact g)), Nat.add_sub_cancel]
 have wz : Value.int .i64 (wrap64 (l1 : Int)) = Value.int .i64 (l1 : Int) := by rw [IntWalk.wrap64_in _ ⟨by omega, by omega⟩]
 have ZW1 : Hid (∀ {nq}, ((W.drewN nq).setCell ⟨g, 1, none⟩ (.int .i64 (l1 : Int))).heap.size = w.heap.size + 3) := fun {nq} => by have := ZS.out; simp [World.setCell]; exact this
 have SV1 : Hid (∀ nq, Sav g g w.heap.size w ((W.drewN nq).setCell ⟨g, 1, none⟩ (.int .i64 (l1 : Int)))) := fun nq => Sav.set (p := ⟨g, 1, none⟩) (Sav.drewN (Sav.of BW.out) nq) (.inl rfl) _
 have TB1 : Hid (∀ nq, B2 ((W.drewN nq).setCell ⟨g, 1, none⟩ (.int .i64 (l1 : Int))) g 119 (.slice (some ⟨g1, o1, none⟩) nn c) (.int .i64 (l1 : Int))) := fun nq => B2.set1 (B2.drewN TBW.out nq) _
 have W61 : Hid (∀ nq, B6 ((W.drewN nq).setCell ⟨g, 1, none⟩ (.int .i64 (l1 : Int))) (w.heap.size + 1) 42 (.int .i64 0) (.int .i64 0) (.int .u64 0) (.slice none 0 0) (.slice none 0 0) (.slice none 0 0)) := fun nq => B6.past (B6.drewN W6.out nq) ngw1 _
 have W51 : Hid (∀ nq, B5 ((W.drewN nq).setCell ⟨g, 1, none⟩ (.int .i64 (l1 : Int))) w.heap.size 25 (.int .i64 j.k) (.int .i64 j.n) (.string j.t) (.slice A3 j.its.length c3) (.slice A4 j.ks.length c4)) := fun nq => B5.past (B5.drewN W5.out nq) ngw _
 have TW1 : Hid (∀ nq, TW s (some ⟨g1, o1, none⟩) c ((W.drewN nq).setCell ⟨g, 1, none⟩ (.int .i64 (l1 : Int))) g l1) := fun nq => TW.go HH.out (SV1.out nq) (HNN.out ▸ TB1.out nq) (Nat.le_of_succ_le room)
 have TT1 : Hid (∀ nq, TreeS ((W.drewN nq).setCell ⟨g, 1, none⟩ (.int .i64 (l1 : Int))) S j [.int .i64 j.k, .int .i64 j.n, .string j.t, .slice A3 j.its.length c3, .slice A4 j.ks.length c4]) := fun nq => TreeS.keep ((SV1.out nq).keeps fun k hk => ⟨(hS k hk).1, (hS k hk).2, (hS k hk).2⟩) (fun _ h => h) ht
 have ND1 : Hid (∀ nq, Lies ((W.drewN nq).setCell ⟨g, 1, none⟩ (.int .i64 (l1 : Int))) (· < g) nd.enc [.int .i64 nd.k, .string nd.name, .slice X2 nd.al.length x2, .slice X3 nd.fs.length x3, .slice X4 nd.sy.length x4, .bool nd.has, .string nd.df, .int .i64 nd.size, .int .i64 nd.items, .slice X9 nd.br.length x9]) := fun nq => hnd.keep (fun p hp => (SV1.out nq).cell (by have : p.block < g := hp; omega) (by have : p.block < g := hp; omega) (by have : p.block < g := hp; omega)) (fun _ h => h)
 clear hR HR q0
 have q0 : (((l1 + 1 : Nat) : Int) == 0) = false := by rw [beq_eq_false_iff_ne]; omega
 have hd := hcase.2
 clear hcase
 rw [if_pos hd] at HP
 have HD := hd
 unfold deepK at hd
 subst hon
 have Z : Hid (R = none) := HP
 have har := hn rfl
 subst har
 clear HP hn ho hj h hS ht hs ok kin SJ smn HH hnd HNN hnn TBL hl0 hm HD SV1 W61 W51 TW1 TT1 ND1 ZW1
 have HM2 := Lib.hid hm2
 clear hm2
 rcases hd with hd | hd | hd | hd
 · have q9 : (nd.k == 9) = true := by rw [beq_iff_eq]; exact hd
   have n13 : (nd.k != 13) = true := by rw [bne_iff_ne]; omega
   have qj : (j.k != ak) = false := by rw [bne_eq_false_iff_eq, hak]; exact HM2.out (by omega)
   clear hd HM2 hak
   go_enter Tryz.func76, Tryz.ntmps76
   go_wp2_with fail
   rw [← hW]
   clear hW
   (first | go_quiet (fail) | go_quiet ((go_at_call 126; exact Calls.quiet_of_same (AK.out _))))
   go_wp2_with fail
   try simp only [Exit.inBlock, Exit.then]
   refine post_V2 (x0 := .int .i64 0) (x1 := .int .i64 0) (x2 := .int .u64 0) (x3 := .slice none 0 0) (x4 := .slice none 0 0) (x5 := .slice none 0 0) rfl rfl rfl (by go_simp) (by go_simp) (by go_simp) (by go_simp) (by go_simp) (by go_simp) ?_
   exact tp_zero Z.out (by first | rfl | simp [Act.eval]) (Sav.set (p := ⟨g, 1, none⟩) (Sav.drewN (Sav.of BW.out) _) (.inl rfl) _) LG.out (by omega) (B2.set1 (B2.drewN TBW.out _) _)
 · have q9 : (nd.k == 9) = false := by rw [beq_eq_false_iff_ne]; omega
   have q11 : (nd.k == 11) = true := by rw [beq_iff_eq]; exact hd
   have n13 : (nd.k != 13) = true := by rw [bne_iff_ne]; omega
   have qj : (j.k != ak) = false := by rw [bne_eq_false_iff_eq, hak]; exact HM2.out (by omega)
   clear hd HM2 hak
   go_enter Tryz.func76, Tryz.ntmps76
   go_wp2_with fail
   rw [← hW]
   clear hW
   (first | go_quiet (fail) | go_quiet ((go_at_call 126; exact Calls.quiet_of_same (AK.out _))))
   go_wp2_with fail
   try simp only [Exit.inBlock, Exit.then]
   refine post_V2 (x0 := .int .i64 0) (x1 := .int .i64 0) (x2 := .int .u64 0) (x3 := .slice none 0 0) (x4 := .slice none 0 0) (x5 := .slice none 0 0) rfl rfl rfl (by go_simp) (by go_simp) (by go_simp) (by go_simp) (by go_simp) (by go_simp) ?_
   exact tp_zero Z.out (by first | rfl | simp [Act.eval]) (Sav.set (p := ⟨g, 1, none⟩) (Sav.drewN (Sav.of BW.out) _) (.inl rfl) _) LG.out (by omega) (B2.set1 (B2.drewN TBW.out _) _)
 · have q9 : (nd.k == 9) = false := by rw [beq_eq_false_iff_ne]; omega
   have q11 : (nd.k == 11) = false := by rw [beq_eq_false_iff_ne]; omega
   have q12 : (nd.k == 12) = true := by rw [beq_iff_eq]; exact hd
   have n13 : (nd.k != 13) = true := by rw [bne_iff_ne]; omega
   have qj : (j.k != ak) = false := by rw [bne_eq_false_iff_eq, hak]; exact HM2.out (by omega)
   clear hd HM2 hak
   go_enter Tryz.func76, Tryz.ntmps76
   go_wp2_with fail
   rw [← hW]
   clear hW
   (first | go_quiet (fail) | go_quiet ((go_at_call 126; exact Calls.quiet_of_same (AK.out _))))
   go_wp2_with fail
   try simp only [Exit.inBlock, Exit.then]
   refine post_V2 (x0 := .int .i64 0) (x1 := .int .i64 0) (x2 := .int .u64 0) (x3 := .slice none 0 0) (x4 := .slice none 0 0) (x5 := .slice none 0 0) rfl rfl rfl (by go_simp) (by go_simp) (by go_simp) (by go_simp) (by go_simp) (by go_simp) ?_
   exact tp_zero Z.out (by first | rfl | simp [Act.eval]) (Sav.set (p := ⟨g, 1, none⟩) (Sav.drewN (Sav.of BW.out) _) (.inl rfl) _) LG.out (by omega) (B2.set1 (B2.drewN TBW.out _) _)
 · have q9 : (nd.k == 9) = false := by rw [beq_eq_false_iff_ne]; omega
   have q11 : (nd.k == 11) = false := by rw [beq_eq_false_iff_ne]; omega
   have q12 : (nd.k == 12) = false := by rw [beq_eq_false_iff_ne]; omega
   have q13 : (nd.k == 13) = true := by rw [beq_iff_eq]; exact hd
   have n13 : (nd.k != 13) = false := by rw [bne_eq_false_iff_eq]; exact hd
   clear hd HM2 hak
   go_enter Tryz.func76, Tryz.ntmps76
   go_wp2_with fail
   rw [← hW]
   clear hW
   (first | go_quiet (fail) | go_quiet ((go_at_call 126; exact Calls.quiet_of_same (AK.out _))))
   go_wp2_with fail
   try simp only [Exit.inBlock, Exit.then]
   refine post_V2 (x0 := .int .i64 0) (x1 := .int .i64 0) (x2 := .int .u64 0) (x3 := .slice none 0 0) (x4 := .slice none 0 0) (x5 := .slice none 0 0) rfl rfl rfl (by go_simp) (by go_simp) (by go_simp) (by go_simp) (by go_simp) (by go_simp) ?_
   exact tp_zero Z.out (by first | rfl | simp [Act.eval]) (Sav.set (p := ⟨g, 1, none⟩) (Sav.drewN (Sav.of BW.out) _) (.inl rfl) _) LG.out (by omega) (B2.set1 (B2.drewN TBW.out _) _)
end Go.Proofs.YthfoomobicbcpaaGreatDoor
