/- Joined by tools/bundle.py: BC14. -/
import Derived.Test.YthogheglddfniaaGreatDoorW13
import Derived.Test.YthogheglddfniaaGreatDoorW16
import Derived.Test.YthogheglddfniaaGreatDoorW0
set_option maxRecDepth 100000
set_option maxHeartbeats 16000000
namespace Go.Proofs.YthogheglddfniaaGreatDoor
open Go.ChangeShapes Go.WideShapes Go.ChangeAt Go.RowKit Mem
def rnext (B : Kn → J → ByteArray → Bres) (sp : ByteArray) (l : List J) (ns0 ext : List Nd) (acc : List Fd) (o : Except Int (Fd × List Nd)) : Except Int (List Nd × List Fd) :=
 match o with
 | .error e => .error e
 | .ok (f, x) => bfields B sp (ns0.map er) l (ext ++ x) (acc ++ [f])
theorem bfields_next {B : Kn → J → ByteArray → Bres} {sp : ByteArray} {l : List J} {T : J} {ns0 ext : List Nd} {acc : List Fd} : bfields B sp (ns0.map er) (T :: l) ext acc = rnext B sp l ns0 ext acc (bfieldB B ((ns0 ++ ext).map er) T sp acc) := by
 rw [bfields, List.map_append]
 unfold rnext bfieldB
 cases bfield T acc with
 | error e => rfl
 | ok f =>
  dsimp only
  cases B (ns0.map er ++ ext.map er) (gotten (T.get kType)) sp <;> rfl
def RcR (B : Kn → J → ByteArray → Bres) (sp : ByteArray) (X S : Nat → Prop) (g r : Nat) (ns0 : List Nd) (w : World) (its : List J) (i : Nat) (v : Value) (wr : World) : Prop :=
 ∃ ri ext acc, bfields B sp (ns0.map er) its [] [] = bfields B sp (ns0.map er) (its.drop i) ext acc ∧ MkW (fun b => X b ∨ v.ownBlock = some b) wr g ri (ns0 ++ ext) ∧ (ri = r ∨ w.heap.size + 1 ≤ ri) ∧ Sav g r w.heap.size w wr ∧
  GatX S wr (w.heap.size + 1) ri 97 9 v (acc.map Fd.enc) ∧ acc.length = i
theorem GatX.fds {w : World} {base r : Nat} {e : TypeId} {v : Value} {acc : List Fd} {T : Nat → Prop} (h : GatX T w base r e 9 v (acc.map Fd.enc)) : ∃ A c, v = .slice A acc.length c ∧ acc.length ≤ c ∧ acc.length ≤ maxLen ∧ RowD w (fun b => (T b ∨ base ≤ b) ∧ b < w.heap.size ∧ b ≠ r) 9 (acc.map Fd.enc) A := by
 have hl : acc.length ≤ maxLen := by
  obtain ⟨S, xs, h1, _⟩ := h
  rcases h1.2 with ⟨_, h0⟩ | ⟨q, cap, cur, e, hb, hg, hc, hm, _⟩
  · rw [List.length_map] at h0; omega
  · rw [List.length_map] at hc; omega
 obtain ⟨A, c, rfl, hc, hr⟩ := h.done
 rw [List.length_map] at hc
 exact ⟨A, c, by rw [List.length_map], hc, hl, hr⟩
theorem fdp_sav {X : Nat → Prop} {R : Except Int (Fd × List Nd)} {T : Nat → Prop} {g r : Nat} {ns : List Nd} {w : World} {e : Ending} {w' : World} (h : FdP X R T g r ns w e w') : Sav g r w.heap.size w w' := by
 obtain ⟨f0, A1, l1, c1, ty, has, k0, k1, f6, A3, l3, c3, A4, l4, c4, er_, he, sv, h1, h2⟩ := h
 exact sv
theorem reg_meet {X' S : Nat → Prop} {RF : Except Int (Fd × List Nd)} {g ri G G0 : Nat} {nse : List Nd} {W1 W w5 wc : World} {v : Value} (h : FdP (fun b => X' b ∨ b = G0) RF S g ri nse W (.returned v) w5) (hK : ∀ b, X' b → g < b ∧ b < W1.heap.size ∧ b ≠ ri) (h0 : g < G0 ∧ G0 < W.heap.size ∧ G0 ≠ ri)
 (bW : Below W1.heap.size W1 W) (sc : Sav G G w5.heap.size w5 wc) (hG : W1.heap.size ≤ G) (hc : G0 = G ∨ w5.heap.size ≤ G) (hg : g < W1.heap.size) (hS : ∀ b, S b → b < g) : FdP X' RF S g ri nse W1 (.returned v) wc := by
 obtain ⟨f0, A1, l1, c1, ty, has, k0, k1, f6, A3, l3, c3, A4, l4, c4, er_, he, sv, h1, h2⟩ := h
 have z := bW.size
 have z5 := sv.size
 have zc := sc.size
 refine ⟨f0, A1, l1, c1, ty, has, k0, k1, f6, A3, l3, c3, A4, l4, c4, er_, he, ?_, h1, fun f ext hR => ?_⟩
 · exact ((Sav.of bW).trans (sv.mono z)).trans ⟨sc.os, sc.tape, sc.output, sc.size, fun k e1 _ _ => sc.block k (by omega) (by omega) (by omega)⟩
 · obtain ⟨a, r', m, hr, hl, hd⟩ := h2 f ext hR
   have lr := m.lt
   have nX : ∀ b, b = g ∨ b = r' → ¬ (X' b ∨ b = G0) := fun b hb hx => by
    rcases hx with hx | hx
    · have := hK b hx
      omega
    · omega
   refine ⟨a, r', m.frame (fun k e1 e2 => ?_) zc (nX g (.inl rfl)) (nX r' (.inr rfl)) fun b hb => .inl (.inl hb), hr.imp id fun k => Nat.le_trans z k, hl, ?_⟩
   · have : k ≠ G := by
      rintro rfl
      rcases hc with q | q
      · exact e2 (.inr q.symm)
      · omega
     exact sc.block k e1 this this
   · refine hd.keep (fun q hq => ?_) fun b hb => ⟨hb.1.imp id fun q => Nat.le_trans z q, Nat.lt_of_lt_of_le hb.2.1 zc, hb.2.2⟩
     have hq1 := hS q.block
     have : q.block ≠ G := by
      intro e
      rcases hq.1 with k | k
      · have := hq1 k; omega
      · rcases hc with c | c
        · omega
        · have := hq.2.1; omega
     exact sc.cell hq.2.1 this this
theorem FdP.out9 {X : Nat → Prop} {R : Except Int (Fd × List Nd)} {T : Nat → Prop} {g r : Nat} {ns : List Nd} {w w' : World} {f0 f6 : ByteArray} {A1 A3 A4 : Option Addr} {l1 c1 l3 c3 l4 c4 : Nat} {ty k0 k1 er_ : Int} {has : Bool} (h : FdP X R T g r ns w (.returned (.tuple #[.agg #[.string f0, .slice A1 l1 c1, .int .i64 ty, .bool has, .int .i64 k0, .int .i64 k1, .string f6, .slice A3 l3 c3, .slice A4 l4 c4], .int .i64 er_])) w') :
 Sav g r w.heap.size w w' ∧ (∀ z, R = .error z → er_ = z ∧ z ≠ 0) ∧ ∀ f ext, R = .ok (f, ext) → er_ = 0 ∧ ∃ r', Mkr X w' 52 41 g r' (ns ++ ext) ∧ (r' = r ∨ w.heap.size ≤ r') ∧ (ns ++ ext).length ≤ 200 ∧ Lies w' (fun b => (T b ∨ w.heap.size ≤ b) ∧ b < w'.heap.size ∧ b ≠ r') f.enc [.string f0, .slice A1 l1 c1, .int .i64 ty, .bool has, .int .i64 k0, .int .i64 k1, .string f6, .slice A3 l3 c3, .slice A4 l4 c4] := by
 obtain ⟨f0', A1', l1', c1', ty', has', k0', k1', f6', A3', l3', c3', A4', l4', c4', er', he, sv, h1, h2⟩ := h
 simp only [Ending.returned.injEq, Value.tuple.injEq, Array.mk.injEq, List.cons.injEq, Value.agg.injEq, Value.string.injEq, Value.slice.injEq, Value.int.injEq, Value.bool.injEq, true_and, and_true] at he
 obtain ⟨⟨rfl, ⟨rfl, rfl, rfl⟩, rfl, rfl, rfl, rfl, rfl, ⟨rfl, rfl, rfl⟩, rfl, rfl, rfl⟩, rfl⟩ := he
 exact ⟨sv, h1, h2⟩
def RegQ (X' S : Nat → Prop) (RF : Except Int (Fd × List Nd)) (g ri : Nat) (nse : List Nd) (W1 : World) (s15 s16 : Value) (wc : World) : Prop :=
 ∃ G f0 A1 l1 c1 ty has k0 k1 f6 A3 l3 c3 A4 l4 c4 er_, s15 = .pointer (some ⟨G, 0, none⟩) ∧ s16 = .int .i64 er_ ∧ W1.heap.size ≤ G ∧ B9 wc G 97 (.string f0) (.slice A1 l1 c1) (.int .i64 ty) (.bool has) (.int .i64 k0) (.int .i64 k1) (.string f6) (.slice A3 l3 c3) (.slice A4 l4 c4) ∧ FdP X' RF S g ri nse W1 (.returned (.tuple #[.agg #[.string f0, .slice A1 l1 c1, .int .i64 ty, .bool has, .int .i64 k0, .int .i64 k1, .string f6, .slice A3 l3 c3, .slice A4 l4 c4], .int .i64 er_])) wc
theorem meetC {X' S : Nat → Prop} {RF : Except Int (Fd × List Nd)} {g ri G0 : Nat} {nse : List Nd} {W1 W w5 : World} {f0 f6 : ByteArray} {A1 A3 A4 : Option Addr} {l1 c1 l3 c3 l4 c4 : Nat} {ty k0 k1 er_ : Int} {has : Bool} (h : FdP (fun b => X' b ∨ b = G0) RF S g ri nse W (.returned (.tuple #[.agg #[.string f0, .slice A1 l1 c1, .int .i64 ty, .bool has, .int .i64 k0, .int .i64 k1, .string f6, .slice A3 l3 c3, .slice A4 l4 c4], .int .i64 er_])) w5) (hK : ∀ b, X' b → g < b ∧ b < W1.heap.size ∧ b ≠ ri) (h0 : g < G0 ∧ G0 < W.heap.size ∧ G0 ≠ ri) (bW : Below W1.heap.size W1 W) (hG : W1.heap.size ≤ w5.heap.size) (hg : g < W1.heap.size) (hS : ∀ b, S b → b < g) :
 RegQ X' S RF g ri nse W1 (.pointer (some ⟨w5.heap.size, 0, none⟩)) (.int .i64 er_) (w5.alloc (.cells #[.string f0, .slice A1 l1 c1, .int .i64 ty, .bool has, .int .i64 k0, .int .i64 k1, .string f6, .slice A3 l3 c3, .slice A4 l4 c4] 97)) :=
 ⟨w5.heap.size, f0, A1, l1, c1, ty, has, k0, k1, f6, A3, l3, c3, A4, l4, c4, er_, rfl, rfl, hG, B9.newat rfl, reg_meet h hK h0 bW (Sav.of ((Below.refl _ _).alloc (Nat.le_refl _) _)) hG (.inr (Nat.le_refl _)) hg hS⟩
theorem meetS {X' S : Nat → Prop} {RF : Except Int (Fd × List Nd)} {g ri G : Nat} {nse : List Nd} {W1 W w5 : World} {f0 f6 : ByteArray} {A1 A3 A4 : Option Addr} {l1 c1 l3 c3 l4 c4 : Nat} {ty k0 k1 er_ : Int} {has : Bool} {z0 z1 z2 z3 z4 z5 z6 z7 z8 : Value} (h : FdP (fun b => X' b ∨ b = G) RF S g ri nse W (.returned (.tuple #[.agg #[.string f0, .slice A1 l1 c1, .int .i64 ty, .bool has, .int .i64 k0, .int .i64 k1, .string f6, .slice A3 l3 c3, .slice A4 l4 c4], .int .i64 er_])) w5) (hK : ∀ b, X' b → g < b ∧ b < W1.heap.size ∧ b ≠ ri) (h0 : g < G ∧ G < W.heap.size ∧ G ≠ ri) (bW : Below W1.heap.size W1 W) (hG : W1.heap.size ≤ G) (hg : g < W1.heap.size) (hS : ∀ b, S b → b < g) (hB : B9 w5 G 97 z0 z1 z2 z3 z4 z5 z6 z7 z8) :
 RegQ X' S RF g ri nse W1 (.pointer (some ⟨G, 0, none⟩)) (.int .i64 er_) (((((((((w5.setCell ⟨G, 0, none⟩ (.string f0)).setCell ⟨G, 1, none⟩ (.slice A1 l1 c1)).setCell ⟨G, 2, none⟩ (.int .i64 ty)).setCell ⟨G, 3, none⟩ (.bool has)).setCell ⟨G, 4, none⟩ (.int .i64 k0)).setCell ⟨G, 5, none⟩ (.int .i64 k1)).setCell ⟨G, 6, none⟩ (.string f6)).setCell ⟨G, 7, none⟩ (.slice A3 l3 c3)).setCell ⟨G, 8, none⟩ (.slice A4 l4 c4)) :=
 ⟨G, f0, A1, l1, c1, ty, has, k0, k1, f6, A3, l3, c3, A4, l4, c4, er_, rfl, rfl, hG, B9.set8 (B9.set7 (B9.set6 (B9.set5 (B9.set4 (B9.set3 (B9.set2 (B9.set1 (B9.set0 hB _) _) _) _) _) _) _) _) _, reg_meet h hK h0 bW (Mem.Sav.setF (Mem.Sav.setF (Mem.Sav.setF (Mem.Sav.setF (Mem.Sav.setF (Mem.Sav.setF (Mem.Sav.setF (Mem.Sav.setF (Mem.Sav.setF (Sav.refl _ _ _ _) _ _) _ _) _ _) _ _) _ _) _ _) _ _) _ _) _ _) hG (.inl rfl) hg hS⟩
theorem keepA (W w4 : World) (b : Below (W.drew.alloc (.cells #[.string ⟨#[]⟩, .slice none 0 0, .int .i64 0, .bool false, .int .i64 0, .int .i64 0, .string ⟨#[]⟩, .slice none 0 0, .slice none 0 0] 97)).heap.size (W.drew.alloc (.cells #[.string ⟨#[]⟩, .slice none 0 0, .int .i64 0, .bool false, .int .i64 0, .int .i64 0, .string ⟨#[]⟩, .slice none 0 0, .slice none 0 0] 97)) w4) : B9 w4 W.heap.size 97 (.string ⟨#[]⟩) (.slice none 0 0) (.int .i64 0) (.bool false) (.int .i64 0) (.int .i64 0) (.string ⟨#[]⟩) (.slice none 0 0) (.slice none 0 0) := by
 have h : B9 (W.drew.alloc (.cells #[.string ⟨#[]⟩, .slice none 0 0, .int .i64 0, .bool false, .int .i64 0, .int .i64 0, .string ⟨#[]⟩, .slice none 0 0, .slice none 0 0] 97)) W.heap.size 97 (.string ⟨#[]⟩) (.slice none 0 0) (.int .i64 0) (.bool false) (.int .i64 0) (.int .i64 0) (.string ⟨#[]⟩) (.slice none 0 0) (.slice none 0 0) := B9.newat rfl
 exact B9.below h b h.lt
theorem keepA2 (W w4 : World) (b : Below (W.alloc (.cells #[.string ⟨#[]⟩, .slice none 0 0, .int .i64 0, .bool false, .int .i64 0, .int .i64 0, .string ⟨#[]⟩, .slice none 0 0, .slice none 0 0] 97)).drew.heap.size (W.alloc (.cells #[.string ⟨#[]⟩, .slice none 0 0, .int .i64 0, .bool false, .int .i64 0, .int .i64 0, .string ⟨#[]⟩, .slice none 0 0, .slice none 0 0] 97)).drew w4) : B9 w4 W.heap.size 97 (.string ⟨#[]⟩) (.slice none 0 0) (.int .i64 0) (.bool false) (.int .i64 0) (.int .i64 0) (.string ⟨#[]⟩) (.slice none 0 0) (.slice none 0 0) := by
 have h : B9 (W.alloc (.cells #[.string ⟨#[]⟩, .slice none 0 0, .int .i64 0, .bool false, .int .i64 0, .int .i64 0, .string ⟨#[]⟩, .slice none 0 0, .slice none 0 0] 97)).drew W.heap.size 97 (.string ⟨#[]⟩) (.slice none 0 0) (.int .i64 0) (.bool false) (.int .i64 0) (.int .i64 0) (.string ⟨#[]⟩) (.slice none 0 0) (.slice none 0 0) := B9.drew (B9.newat rfl)
 exact B9.below h b h.lt
theorem keepA3 (W w4 : World) (b : Below (W.alloc (.cells #[.string ⟨#[]⟩, .slice none 0 0, .int .i64 0, .bool false, .int .i64 0, .int .i64 0, .string ⟨#[]⟩, .slice none 0 0, .slice none 0 0] 97)).heap.size (W.alloc (.cells #[.string ⟨#[]⟩, .slice none 0 0, .int .i64 0, .bool false, .int .i64 0, .int .i64 0, .string ⟨#[]⟩, .slice none 0 0, .slice none 0 0] 97)) w4) : B9 w4 W.heap.size 97 (.string ⟨#[]⟩) (.slice none 0 0) (.int .i64 0) (.bool false) (.int .i64 0) (.int .i64 0) (.string ⟨#[]⟩) (.slice none 0 0) (.slice none 0 0) := by
 have h : B9 (W.alloc (.cells #[.string ⟨#[]⟩, .slice none 0 0, .int .i64 0, .bool false, .int .i64 0, .int .i64 0, .string ⟨#[]⟩, .slice none 0 0, .slice none 0 0] 97)) W.heap.size 97 (.string ⟨#[]⟩) (.slice none 0 0) (.int .i64 0) (.bool false) (.int .i64 0) (.int .i64 0) (.string ⟨#[]⟩) (.slice none 0 0) (.slice none 0 0) := B9.newat rfl
 exact B9.below h b h.lt
theorem keepB {X : Nat → Prop} {R : Except Int (Fd × List Nd)} {T : Nat → Prop} {g r : Nat} {ns : List Nd} {w4 : World} {e : Ending} {w5 : World} (h : FdP X R T g r ns (w4.alloc (.cells #[.string ⟨#[]⟩, .slice none 0 0, .int .i64 0, .bool false, .int .i64 0, .int .i64 0, .string ⟨#[]⟩, .slice none 0 0, .slice none 0 0] 97)) e w5) (h1 : w4.heap.size ≠ g) (h2 : w4.heap.size ≠ r) : B9 w5 w4.heap.size 97 (.string ⟨#[]⟩) (.slice none 0 0) (.int .i64 0) (.bool false) (.int .i64 0) (.int .i64 0) (.string ⟨#[]⟩) (.slice none 0 0) (.slice none 0 0) := blk_sav (B9.newat rfl) (fdp_sav h) h1 h2
theorem keepC {X : Nat → Prop} {R : Except Int (Fd × List Nd)} {T : Nat → Prop} {g r G : Nat} {ns : List Nd} {w4 : World} {e : Ending} {w5 : World} (k : B9 w4 G 97 (.string ⟨#[]⟩) (.slice none 0 0) (.int .i64 0) (.bool false) (.int .i64 0) (.int .i64 0) (.string ⟨#[]⟩) (.slice none 0 0) (.slice none 0 0)) (h : FdP X R T g r ns w4 e w5) (h1 : G ≠ g) (h2 : G ≠ r) : B9 w5 G 97 (.string ⟨#[]⟩) (.slice none 0 0) (.int .i64 0) (.bool false) (.int .i64 0) (.int .i64 0) (.string ⟨#[]⟩) (.slice none 0 0) (.slice none 0 0) := blk_sav k (fdp_sav h) h1 h2
theorem bRecord_any {X : Nat → Prop} {B : Kn → J → ByteArray → Bres} {Q : J → Prop} (hB : CallB B Q) (S : Nat → Prop) (j : J) (full : ByteArray) (al : List ByteArray) (hfull : full.size ≤ 1000000) (g r : Nat) (ns : List Nd) (w : World) (h : MkW X w g r ns) (hS : ∀ b, S b → b < g) (A3 A4 : Option Addr) (c3 c4 : Nat) (ht : TreeS w S j [.int .i64 j.k, .int .i64 j.n, .string j.t, .slice A3 j.its.length c3, .slice A4 j.ks.length c4]) (hw : j.wt ≤ 1000000)
 (hQ : ∀ x, j.get kFields = some x → x.k = 5 → ∀ y ∈ x.its, Q (gotten (y.get kType))) (A2 : Option Addr) (la c2 : Nat) (hla : la = al.length) (hd : Lies w (fun b => b < w.heap.size ∧ b ≠ g ∧ b ≠ r ∧ ¬ X b) (Nd.enc { Nd.z 9 with name := full, al := al }) [.int .i64 9, .string full, .slice A2 la c2, .slice none 0 0, .slice none 0 0, .bool false, .string ⟨#[]⟩, .int .i64 0, .int .i64 0, .slice none 0 0]) (R : Bres) (hR : R = brecord B (ns.map er) j full al) :
 Calls Tryz.prog 132 #[.pointer (some ⟨g, 0, none⟩), .agg #[.int .i64 9, .string full, .slice A2 la c2, .slice none 0 0, .slice none 0 0, .bool false, .string ⟨#[]⟩, .int .i64 0, .int .i64 0, .slice none 0 0], .func (.func 47) #[.agg #[.int .i64 j.k, .int .i64 j.n, .string j.t, .slice A3 j.its.length c3, .slice A4 j.ks.length c4]] #[]] w (BPost X R g r ns w) := by
 have CS := cell_set
 have lg := h.mkr.lt
 have hl := h.len
 have hSw : ∀ b, S b → b < w.heap.size := fun b hb => Nat.lt_trans (hS b hb) lg.1
 have TT : Hid (∀ W, Below w.heap.size w W → TreeS W S j [.int .i64 j.k, .int .i64 j.n, .string j.t, .slice A3 j.its.length c3, .slice A4 j.ks.length c4]) := fun W b => TreeS.keep (fun p hp => b.cell (hSw _ hp)) (fun _ h => h) ht
 have HS : Hid (∀ W, Below w.heap.size w W → ∀ b, S b → b < W.heap.size) := fun W b k hk => Nat.lt_of_lt_of_le (hSw k hk) b.size
 have SV : Hid (∀ W, Below w.heap.size w W → Sav g r w.heap.size w W) := fun W b => Sav.of b
 obtain ⟨wn, hwn⟩ : ∃ W, W = (w.alloc (.cells #[.int .i64 9, .string full, .slice A2 la c2, .slice none 0 0, .slice none 0 0, .bool false, .string ⟨#[]⟩, .int .i64 0, .int .i64 0, .slice none 0 0] 41)) := ⟨_, rfl⟩
 have BN : Hid (Below w.heap.size w wn) := by rw [hwn]; exact (Below.refl _ _).alloc (Nat.le_refl _) _
 have NB : Hid (B10 wn w.heap.size 41 (.int .i64 9) (.string full) (.slice A2 la c2) (.slice none 0 0) (.slice none 0 0) (.bool false) (.string ⟨#[]⟩) (.int .i64 0) (.int .i64 0) (.slice none 0 0)) := by rw [hwn]; exact B10.newat rfl
 by_cases hk : ∃ x, j.get kFields = some x ∧ x.k = 5
 rotate_left
 · have Z : Hid (R = .error 30) := by
    show _ = _
    rw [hR]; unfold brecord
    rcases ho : j.get kFields with _ | x
    · rfl
    · exact if_neg fun g => hk ⟨x, ho, g⟩
   have IT := Lib.hid (fun W (b : Below w.heap.size w W) => one_no (kind := 5) S j kFields W (HS.out W b) A3 A4 c3 c4 (TT.out W b) fun x hx e => hk ⟨x, hx, e⟩)
   unfold kFields at IT
   clear hR hk ht hS h TT HS hQ hB hd hla NB
   go_enter Tryz.func132, Tryz.ntmps132
   go_wp2_with fail
   rw [← hwn]
   clear hwn
   with_reducible refine (IT.out _ BN.out).mono ?_
   rintro e w1 ⟨K0, K1, K2, X3, l3, x3, X4, l4, x4, rfl, b1⟩
   have s1 := b1.size
   have s0 := BN.out.size
   have bw1 : Below w.heap.size w w1 := BN.out.trans (b1.mono BN.out.size)
   clear IT BN b1
   go_wp2_with fail
   go_ret2
   exact bpost_no Z.out (by decide) _ (SV.out _ bqq)
 obtain ⟨x, hx, hk⟩ := hk
 have IT := Lib.hid (fun W (b : Below w.heap.size w W) => one_yes S j kFields W (HS.out W b) A3 A4 c3 c4 (TT.out W b) hx hk)
 have XW : Hid (∀ y ∈ x.its, y.wt ≤ 1000000) := fun y hy => by
  have a := J.wts_mem hy
  have b := J.its_wt x
  have c := J.get_wt hx
  omega
 have QX : Hid (∀ y ∈ x.its, Q (gotten (y.get kType))) := hQ x hx hk
 have HR : Hid (R = if 40 < x.its.length then .error 3 else if ns.length = 200 then .error 3 else match bfields B (spaceB full) ((ns ++ [({ Nd.z 9 with name := full, al := al } : Nd)]).map er) x.its [] [] with
  | .error e => .error e
  | .ok (ext, fs) => .ok ({ Nd.z 9 with name := full, al := al, fs := fs } :: ext, ns.length)) := by
  show _ = _
  rw [hR]; unfold brecord; rw [hx]
  dsimp only
  rw [if_pos hk, List.length_map, er_snoc]
  rfl
 obtain ⟨n, hn⟩ : ∃ m, m = x.its.length := ⟨_, rfl⟩
 have HN := Lib.hid hn
 rw [← hn] at HR
 have AD := Lib.hid (fun W (b : Below w.heap.size w W) => add_any (X := X) { Nd.z 9 with name := full, al := al } g r ns W (h.below b) A2 none none none c2 0 0 0 (by
  have : Lies w (fun b => b < w.heap.size ∧ b ≠ g ∧ b ≠ r ∧ ¬ X b) (Nd.enc { Nd.z 9 with name := full, al := al }) [.int .i64 9, .string full, .slice A2 al.length c2, .slice none 0 0, .slice none 0 0, .bool false, .string ⟨#[]⟩, .int .i64 0, .int .i64 0, .slice none 0 0] := by rw [← hla]; exact hd
  exact this.keep (fun p hp => b.cell hp.1) fun k hk => ⟨Nat.lt_of_lt_of_le hk.1 b.size, hk.2⟩) _ rfl)
 have AD2 : Hid (∀ W, Below w.heap.size w W → Calls Tryz.prog 87 #[.pointer (some ⟨g, 0, none⟩), .agg #[.int .i64 9, .string full, .slice A2 la c2, .slice none 0 0, .slice none 0 0, .bool false, .string ⟨#[]⟩, .int .i64 0, .int .i64 0, .slice none 0 0]] W (BPost X (if ns.length = 200 then .error 3 else .ok ([({ Nd.z 9 with name := full, al := al } : Nd)], ns.length)) g r ns W)) := fun W b => by
  have := AD.out W b
  rw [hla]
  exact this
 have MW := Lib.hid (fun W (b : Below w.heap.size w W) => h.below b)
 have HX := Lib.hid h.out
 have HS0 := Lib.hid hS
 have HB := Lib.hid hB
 unfold kFields at IT
 have hND : Hid (∃ nd : Nd, nd = { Nd.z 9 with name := full, al := al }) := ⟨_, rfl⟩
 have HLA := Lib.hid hla
 have HD := Lib.hid hd
 clear hR ht hS h hx hk hQ hB hSw AD hn hd hla
 go_enter Tryz.func132, Tryz.ntmps132
 go_wp2_with fail
 rw [← hwn]
 with_reducible refine (IT.out _ BN.out).mono ?_
 rintro e w1 ⟨X3, x3, X4, x4, rfl, tx, b1⟩
 have s1 := b1.size
 have s0 := BN.out.size
 clear IT hwn
 obtain ⟨_, _, _, _, e, _, _, rt, _⟩ := TreeS.out tx
 simp only [List.cons.injEq, Value.slice.injEq, true_and, and_true] at e
 obtain ⟨⟨rfl, rfl⟩, rfl, rfl⟩ := e
 rw [← HN.out]
 obtain ⟨w2, hw2⟩ : ∃ W, W = (w1.alloc (.cells #[.int .i64 x.k, .int .i64 x.n, .string x.t, .slice X3 n x3, .slice X4 x.ks.length x4] 25)) := ⟨_, rfl⟩
 have b12 : Below w1.heap.size w1 w2 := by rw [hw2]; exact (Below.refl _ _).alloc (Nat.le_refl _) _
 have BX : Hid (B5 w2 w1.heap.size 25 (.int .i64 x.k) (.int .i64 x.n) (.string x.t) (.slice X3 n x3) (.slice X4 x.ks.length x4)) := by rw [hw2]; exact B5.newat rfl
 have bn2 : Below wn.heap.size wn w2 := b1.trans (b12.mono s1)
 have bw2 : Below w.heap.size w w2 := BN.out.trans (bn2.mono s0)
 have N2 := Lib.hid (B10.below NB.out bn2 NB.out.lt)
 have RT : Hid (RowS w2 S x.its X3) := RowS.keep (fun p hp => b12.cell (by have := HS.out _ BN.out _ hp; omega)) (fun _ h => h) rt
 have nlt : w.heap.size < w1.heap.size := by have := NB.out.lt; omega
 have s2 := b12.size
 have BXe := BX.out
 have N2e := N2.out
 have A22 := AD2.out w2 bw2
 have HW2 := Lib.hid hw2
 rw [hw2] at BXe N2e A22
 replace A22 := Lib.hid A22
 obtain ⟨_, _, _, _, _, _, _, _, _, _⟩ := B5.facts BXe
 obtain ⟨_, _, _, _, _, _, _, _, _, _, _, _, _, _, _, _, _, _, _, _⟩ := B10.facts N2e
 have bw1 : Below w.heap.size w w1 := BN.out.trans (b1.mono s0)
 clear rt tx b1 b12 bn2 NB TT hw2 BXe N2e AD2
 by_cases h40 : 40 < n
 · have Z : Hid (R = .error 3) := by show _ = _; rw [HR.out, if_pos h40]
   have q40 : (40 : Int) < (n : Int) := by omega
   clear HR h40 A22
   go_wp2_with fail
   go_ret2
   exact bpost_no Z.out (by decide) _ (SV.out _ bqq)
 have q40 : ¬ (40 : Int) < (n : Int) := by omega
 have n40 : n ≤ 40 := by omega
 have HR1 : Hid (R = if ns.length = 200 then .error 3 else match bfields B (spaceB full) ((ns ++ [({ Nd.z 9 with name := full, al := al } : Nd)]).map er) x.its [] [] with
  | .error e => .error e
  | .ok (ext, fs) => .ok ({ Nd.z 9 with name := full, al := al, fs := fs } :: ext, ns.length)) := by show _ = _; rw [HR.out, if_neg h40]
 clear h40 HR
 go_wp2_with fail
 with_reducible refine A22.out.mono ?_
 rintro e w3 hp
 rw [← HW2.out] at hp
 by_cases h200 : ns.length = 200
 · have Z : Hid (R = .error 3) := by show _ = _; rw [HR1.out, if_pos h200]
   rw [if_pos h200] at hp
   obtain ⟨pl, rfl, _, sv⟩ := hp.no rfl
   have SS := Lib.hid ((SV.out _ bw2).trans (sv.mono bw2.size))
   clear hp sv h200 HR1 A22
   go_wp2_with fail
   go_ret2
   exact bpost_no Z.out (by decide) _ SS.out
 rw [if_neg h200] at hp
 obtain ⟨rfl, sv, r1, m1, hr1, hl1⟩ := hp.yes rfl
 obtain ⟨ns0, hns0⟩ : ∃ m, m = ns ++ [({ Nd.z 9 with name := full, al := al } : Nd)] := ⟨_, rfl⟩
 have hr1' : r1 = r ∨ w.heap.size + 1 ≤ r1 := hr1.imp id fun k => by omega
 have Z0 : Hid (R = match bfields B (spaceB full) (ns0.map er) x.its [] [] with
  | .error e => .error e
  | .ok (ext, fs) => .ok ({ Nd.z 9 with name := full, al := al, fs := fs } :: ext, ns.length)) := by show _ = _; rw [HR1.out, if_neg h200, hns0]
 have M1 := (MW.out _ bw2).go sv m1 hl1 hr1
 have U0 : Hid (RcR B (spaceB full) X S g r ns0 w x.its 0 (.slice none 0 0) w3) := by
  refine ⟨r1, [], [], rfl, ?_, hr1', (SV.out _ bw2).trans (sv.mono bw2.size), GatX.none_ _ _ _ _ _ _, rfl⟩
  rw [List.append_nil, hns0]
  exact ⟨m1.weak fun b hb => .inl (hb.elim id fun h => by cases h), M1.laid, M1.top, hl1, fun b hb => M1.out b (hb.elim id fun h => by cases h)⟩
 have NG3 : w.heap.size ≠ g ∧ w.heap.size ≠ r := ⟨by omega, by omega⟩
 have N3 : Hid (B10 w3 w.heap.size 41 (.int .i64 9) (.string full) (.slice A2 la c2) (.slice none 0 0) (.slice none 0 0) (.bool false) (.string ⟨#[]⟩) (.int .i64 0) (.int .i64 0) (.slice none 0 0)) := blk_sav N2.out sv NG3.1 NG3.2
 have X3' : Hid (B5 w3 w1.heap.size 25 (.int .i64 x.k) (.int .i64 x.n) (.string x.t) (.slice X3 n x3) (.slice X4 x.ks.length x4)) := blk_sav BX.out sv (by omega) (by omega)
 have R3 : Hid (RowS w3 S x.its X3) := RowS.keep (sv.keeps fun k hk => by have := HS0.out k hk; exact ⟨by omega, by omega, by omega⟩) (fun _ h => h) RT.out
 have s3 := sv.size
 have HNS : Hid (ns.length < ns0.length) := by show _ < _; rw [hns0]; simp
 have HNS2 : Hid (∀ ext, (ns0 ++ ext)[ns.length]? = some { Nd.z 9 with name := full, al := al }) := fun ext => by rw [hns0, List.getElem?_append_left (by simp)]; simp
 have SM : Hid (∀ ext m, (ns0 ++ ext).set ns.length m = ns ++ m :: ext) := fun ext m => by rw [hns0]; exact set_mid
 obtain ⟨n0, hn0⟩ : ∃ m, m = ns.length := ⟨_, rfl⟩
 have LA3 : Hid (LaidN w3) := M1.laid
 rw [← hn0] at Z0 HNS HNS2 SM ⊢
 have FSZ : Hid ((spaceB full).size ≤ 1000000) := by have := spaceB_size full; show _ ≤ _; omega
 have SU : Hid (∀ W, LaidN W → Calls Tryz.prog 16 #[.string full] W (Ans (.string (spaceB full)) W)) := fun W b => nSpace_any full (by omega) W b
 obtain ⟨_, _, _, _, _, _, _, _, _, _⟩ := B5.facts X3'.out
 clear hp sv h200 HR1 A22 m1 hl1 hr1 hr1' MW M1 hns0 hn0 N2 BX RT r1
 go_wp2_with fail
 go_loopw [12, 14, 15, 16, 40] (fun v _ _ _ t wr => ∃ i : Nat, i ≤ n ∧ t = .int .i64 (i : Int) ∧ Hid (RcR B (spaceB full) X S g r ns0 w x.its i v wr) ∧ Hid (B10 wr w.heap.size 41 (.int .i64 9) (.string full) (.slice A2 la c2) (.slice none 0 0) (.slice none 0 0) (.bool false) (.string ⟨#[]⟩) (.int .i64 0) (.int .i64 0) (.slice none 0 0)) ∧ Hid (RowS wr S x.its X3) ∧ w3.heap.size ≤ wr.heap.size) (fun _ _ _ _ t _ => n - (intOf t).toNat)
 case atStart => exact ⟨0, Nat.zero_le _, rfl, U0.out, N3.out, R3.out, Nat.le_refl _⟩
 case round =>
  obtain ⟨i, hi, rfl, HU, NR, RR, z3⟩ := hrel
  obtain ⟨ri, ext, acc, hbr, mk, hri, sv, gx, hal⟩ := HU.out
  have z := sv.size
  have lm := mk.mkr.lt
  by_cases hin : i < n
  · have h1 : i < x.its.length := by rw [← HN.out]; exact hin
    have q : (i : Int) < (n : Int) := by omega
    obtain ⟨g1, o1, Y3, y3, Y4, y4, e1, hg1, u0, u1, u2, u3, u4, tx⟩ := RowS.cells (RR.out) h1
    have DR : Hid (x.its.drop i = x.its[i]'h1 :: x.its.drop (i + 1)) := List.drop_eq_getElem_cons h1
    have QT := Lib.hid (QX.out _ (List.getElem_mem h1))
    have WT := Lib.hid (XW.out _ (List.getElem_mem h1))
    generalize x.its[i]'h1 = T at *
    subst e1
    obtain ⟨va, vc, ev, hvc, hvm, vf⟩ := gx.fds
    rw [hal] at ev
    subst ev
    obtain ⟨W1, hW1⟩ : ∃ W, W = (wr.alloc (.cells #[.int .i64 T.k, .int .i64 T.n, .string T.t, .slice Y3 T.its.length y3, .slice Y4 T.ks.length y4] 25)) := ⟨_, rfl⟩
    have BV : Hid (Below wr.heap.size wr W1) := by rw [hW1]; exact (Below.refl _ _).alloc (Nat.le_refl _) _
    have T1 : Hid (B5 W1 wr.heap.size 25 (.int .i64 T.k) (.int .i64 T.n) (.string T.t) (.slice Y3 T.its.length y3) (.slice Y4 T.ks.length y4)) := by rw [hW1]; exact B5.newat rfl
    have N1 := Lib.hid (B10.below NR.out BV.out NR.out.lt)
    have TX1 : Hid (TreeS W1 S T [.int .i64 T.k, .int .i64 T.n, .string T.t, .slice Y3 T.its.length y3, .slice Y4 T.ks.length y4]) := TreeS.keep (fun p hp => BV.out.cell (by have := HS0.out _ hp; omega)) (fun _ h => h) tx
    have K1 := Lib.hid (mk.below BV.out)
    have FC := Lib.hid (fun (G : Nat) W (hG : wr.heap.size ≤ G ∧ G < W.heap.size) (b : Below W1.heap.size W1 W) => field_any (X := fun b => (X b ∨ (Value.slice va i vc).ownBlock = some b) ∨ b = G) HB.out S T acc (spaceB full) FSZ.out g ri (ns0 ++ ext) W ⟨(mk.mkr.weak fun b hb => hb.imp id fun e => by omega).below (BV.out.trans (b.mono BV.out.size)), LaidN.below K1.out.laid b, K1.out.top, K1.out.len, fun k hk => by
     rcases hk with hk | hk
     · have := K1.out.out k hk
       exact ⟨this.1, Nat.lt_of_lt_of_le this.2.1 b.size, this.2.2⟩
     · omega⟩ HS0.out Y3 Y4 y3 y4 (TreeS.keep (fun p hp => b.cell (by have := HS0.out _ hp; have := BV.out.size; omega)) (fun _ h => h) TX1.out) WT.out QT.out va vc _ (fun k hk => Nat.lt_of_lt_of_le hk.2.1 (Nat.le_trans BV.out.size b.size)) (by omega) (vf.keep (fun p hp => (b.cell (Nat.lt_of_lt_of_le hp.2.1 BV.out.size)).trans (BV.out.cell hp.2.1)) fun _ h => h) _ rfl)
    rw [hal] at FC
    have SU1 := Lib.hid (fun W (b : Below W1.heap.size W1 W) => SU.out W (LaidN.below K1.out.laid b))
    have SV1 : Hid (Sav g ri wr.heap.size wr W1) := Sav.of BV.out
    obtain ⟨_, _, _, _, _, _, _, _, _, _⟩ := B5.facts T1.out
    obtain ⟨_, _, _, _, _, _, _, _, _, _, _, _, _, _, _, _, _, _, _, _⟩ := B10.facts N1.out
    have HM := Lib.hid mk
    have GX := Lib.hid gx
    have HRI := Lib.hid hri
    have SVW := Lib.hid sv
    have HAL := Lib.hid hal
    have HBR : Hid (bfields B (spaceB full) (ns0.map er) x.its [] [] = rnext B (spaceB full) (x.its.drop (i + 1)) ns0 ext acc (bfieldB B ((ns0 ++ ext).map er) T (spaceB full) acc)) := by
     show _ = _
     rw [hbr, DR.out]
     exact bfields_next
    have zW := T1.out.lt
    generalize bfieldB B ((ns0 ++ ext).map er) T (spaceB full) acc = RF at *
    obtain ⟨sp, hsp⟩ : ∃ s, s = spaceB full := ⟨_, rfl⟩
    rw [← hsp] at FC SU1
    clear hbr mk gx hri sv HU DR h1 tx vf hsp
    go_wp2_with fail
    rw [← hW1]
    clear hW1
    obtain ⟨y0, y1, y2, y3', y4', _, _, _, _, _⟩ := B5.facts T1.out
    obtain ⟨_, yn, _, _, _, _, _, _, _, _, _, _, _, _, _, _, _, _, _, _⟩ := B10.facts N1.out
    have nw1 : w.heap.size < W1.heap.size := by omega
    have ny1 : wr.heap.size ≠ g := by omega
    have ny5 : W1.heap.size ≠ g := by omega
    have ny6 : W1.heap.size ≠ ri := by omega
    have ny2 : wr.heap.size ≠ ri := by omega
    have ny3 : w.heap.size ≠ g := by omega
    have ny4 : w.heap.size ≠ ri := by have := NR.out.lt; have := HRI.out; omega
    go_cut [15, 16] from 44 to 54 (fun s15 s16 wc => Hid (RegQ (fun b => X b ∨ (Value.slice va i vc).ownBlock = some b) S RF g ri (ns0 ++ ext) W1 s15 s16 wc))
    case first =>
     go_region_held_law (fun u => u.cell? ⟨w.heap.size, 1, none⟩ = some (.string full) ∧ u.cell? ⟨wr.heap.size, 0, none⟩ = some (.int .i64 T.k) ∧ u.cell? ⟨wr.heap.size, 1, none⟩ = some (.int .i64 T.n) ∧ u.cell? ⟨wr.heap.size, 2, none⟩ = some (.string T.t) ∧ u.cell? ⟨wr.heap.size, 3, none⟩ = some (.slice Y3 T.its.length y3) ∧ u.cell? ⟨wr.heap.size, 4, none⟩ = some (.slice Y4 T.ks.length y4)) (exact ⟨(by first | with_reducible assumption | (go_simp; done)), (by first | with_reducible assumption | (go_simp; done)), (by first | with_reducible assumption | (go_simp; done)), (by first | with_reducible assumption | (go_simp; done)), (by first | with_reducible assumption | (go_simp; done)), (by first | with_reducible assumption | (go_simp; done))⟩) (first
      | (go_at_call 160; (with_reducible refine (FC.out w4.heap.size _ ⟨(by omega), (by simp; done)⟩ bqq).mono ?_); rintro e w5 hp0; obtain ⟨f0, A1, l1, c1', ty, has, k0, k1, f6, A3', l3, c3', A4', l4, c4', er_, he, sv0, _, _⟩ := id hp0; subst he; have HP := Lib.hid hp0; have GB := Lib.hid (keepB hp0 (by omega) (by omega)); obtain ⟨_, _, _, _, _, _, _, _, _, _, _, _, _, _, _, _, _, _⟩ := B9.facts GB.out; have g51 := GB.out.lt; have g52 := Nat.ne_of_gt z41; have sv5 : Sav g ri W1.heap.size W1 w5 := ((Sav.of bqq).trans (sv0.mono (by first | exact z4 | (simp; done) | (simp; omega)))); have z5 := sv5.size; have z51 : wr.heap.size < w5.heap.size := Nat.lt_of_lt_of_le zW z5; have z52 : w.heap.size < w5.heap.size := Nat.lt_of_lt_of_le nw1 z5; have z53 := Nat.ne_of_gt z52; have z54 := Nat.ne_of_gt z51; have p0 := (sv5.cell (p := ⟨wr.heap.size, 0, none⟩) zW ny1 ny2).trans y0; have p1 := (sv5.cell (p := ⟨wr.heap.size, 1, none⟩) zW ny1 ny2).trans y1; have p2 := (sv5.cell (p := ⟨wr.heap.size, 2, none⟩) zW ny1 ny2).trans y2; have p3 := (sv5.cell (p := ⟨wr.heap.size, 3, none⟩) zW ny1 ny2).trans y3'; have p4 := (sv5.cell (p := ⟨wr.heap.size, 4, none⟩) zW ny1 ny2).trans y4'; have pn := (sv5.cell (p := ⟨w.heap.size, 1, none⟩) nw1 ny3 ny4).trans yn; clear sv0 hp0)
      | (go_at_call 160; (with_reducible refine (FC.out W1.heap.size _ ⟨(by omega), gz1⟩ bqq).mono ?_); rintro e w5 hp0; obtain ⟨f0, A1, l1, c1', ty, has, k0, k1, f6, A3', l3, c3', A4', l4, c4', er_, he, sv0, _, _⟩ := id hp0; subst he; have HP := Lib.hid hp0; have GB := Lib.hid (keepC GA.out hp0 ny5 ny6); obtain ⟨_, _, _, _, _, _, _, _, _, _, _, _, _, _, _, _, _, _⟩ := B9.facts GB.out; have g51 := GB.out.lt; have g52 := Nat.ne_of_gt zW; have g53 := Nat.ne_of_gt nw1; have sv5 : Sav g ri W1.heap.size W1 w5 := ((Sav.of bqq).trans (sv0.mono (by first | exact z4 | (simp; done) | (simp; omega)))); have z5 := sv5.size; have z51 : wr.heap.size < w5.heap.size := Nat.lt_of_lt_of_le zW z5; have z52 : w.heap.size < w5.heap.size := Nat.lt_of_lt_of_le nw1 z5; have z53 := Nat.ne_of_gt z52; have z54 := Nat.ne_of_gt z51; have p0 := (sv5.cell (p := ⟨wr.heap.size, 0, none⟩) zW ny1 ny2).trans y0; have p1 := (sv5.cell (p := ⟨wr.heap.size, 1, none⟩) zW ny1 ny2).trans y1; have p2 := (sv5.cell (p := ⟨wr.heap.size, 2, none⟩) zW ny1 ny2).trans y2; have p3 := (sv5.cell (p := ⟨wr.heap.size, 3, none⟩) zW ny1 ny2).trans y3'; have p4 := (sv5.cell (p := ⟨wr.heap.size, 4, none⟩) zW ny1 ny2).trans y4'; have pn := (sv5.cell (p := ⟨w.heap.size, 1, none⟩) nw1 ny3 ny4).trans yn; clear sv0 hp0)
      | (go_at_call 160; (with_reducible refine (FC.out wr.heap.size _ ⟨Nat.le_refl _, z41⟩ bqq).mono ?_); rintro e w5 hp0; obtain ⟨f0, A1, l1, c1', ty, has, k0, k1, f6, A3', l3, c3', A4', l4, c4', er_, he, sv0, _, _⟩ := id hp0; subst he; have HP := Lib.hid hp0; have sv5 : Sav g ri W1.heap.size W1 w5 := ((Sav.of bqq).trans (sv0.mono (by first | exact z4 | (simp; done) | (simp; omega)))); have z5 := sv5.size; have z51 : wr.heap.size < w5.heap.size := Nat.lt_of_lt_of_le zW z5; have z52 : w.heap.size < w5.heap.size := Nat.lt_of_lt_of_le nw1 z5; have z53 := Nat.ne_of_gt z52; have z54 := Nat.ne_of_gt z51; have p0 := (sv5.cell (p := ⟨wr.heap.size, 0, none⟩) zW ny1 ny2).trans y0; have p1 := (sv5.cell (p := ⟨wr.heap.size, 1, none⟩) zW ny1 ny2).trans y1; have p2 := (sv5.cell (p := ⟨wr.heap.size, 2, none⟩) zW ny1 ny2).trans y2; have p3 := (sv5.cell (p := ⟨wr.heap.size, 3, none⟩) zW ny1 ny2).trans y3'; have p4 := (sv5.cell (p := ⟨wr.heap.size, 4, none⟩) zW ny1 ny2).trans y4'; have pn := (sv5.cell (p := ⟨w.heap.size, 1, none⟩) nw1 ny3 ny4).trans yn; clear sv0 hp0)
      | (go_at_call 16; (with_reducible refine (SU1.out _ bqq).mono ?_); rintro e w4 ⟨rfl, b4⟩; have bw4 : Below W1.heap.size W1 w4 := bqq; have z4 := bw4.size; have z41 : wr.heap.size < w4.heap.size := Nat.lt_of_lt_of_le zW z4; have z42 : w.heap.size < w4.heap.size := Nat.lt_of_lt_of_le nw1 z4; have z43 := Nat.ne_of_gt z42; have z44 := Nat.ne_of_gt z41; (first | (have GA := Lib.hid (by first | with_reducible exact keepA W1 w4 b4 | with_reducible exact keepA2 W1 w4 b4 | with_reducible exact keepA3 W1 w4 b4); have gz1 := GA.out.lt) | (have GA : True := trivial)); have q0 := (bw4.cell (p := ⟨wr.heap.size, 0, none⟩) zW).trans y0; have q1 := (bw4.cell (p := ⟨wr.heap.size, 1, none⟩) zW).trans y1; have q2 := (bw4.cell (p := ⟨wr.heap.size, 2, none⟩) zW).trans y2; have q3 := (bw4.cell (p := ⟨wr.heap.size, 3, none⟩) zW).trans y3'; have q4 := (bw4.cell (p := ⟨wr.heap.size, 4, none⟩) zW).trans y4'; have qn := (bw4.cell (p := ⟨w.heap.size, 1, none⟩) nw1).trans yn))
     all_goals
      go_wp2_with fail
      go_meet
      refine Lib.hid ?_
      first
       | with_reducible exact meetC HP.out K1.out.out ⟨by omega, by omega, by omega⟩ bw4 z5 (by omega) HS0.out
       | with_reducible exact meetS HP.out K1.out.out ⟨by omega, by simp, by omega⟩ (bw4.alloc z4 _) z4 (by omega) HS0.out GB.out
       | with_reducible exact meetS HP.out K1.out.out ⟨by omega, gz1, by omega⟩ bw4 (Nat.le_refl _) (by omega) HS0.out GB.out
    case rest =>
     obtain ⟨G, f0, A1, l1, c1', ty, has, k0, k1, f6, A3', l3, c3', A4', l4, c4', er_, rfl, rfl, hG, hB9, hF⟩ := hcut.out
     obtain ⟨sv, h1, h2⟩ := FdP.out9 hF
     have zc := sv.size
     have GB9 := Lib.hid hB9
     have SVC : Hid (Sav g ri wr.heap.size wr wc) := SV1.out.trans (sv.mono BV.out.size)
     have HRI2 : ri = r ∨ w.heap.size ≤ ri := HRI.out.imp id fun k => by omega
     have S3 : Hid (Sav g r w.heap.size w wc) := SVW.out.nxt HRI2 SVC.out
     have NC : Hid (B10 wc w.heap.size 41 (.int .i64 9) (.string full) (.slice A2 la c2) (.slice none 0 0) (.slice none 0 0) (.bool false) (.string ⟨#[]⟩) (.int .i64 0) (.int .i64 0) (.slice none 0 0)) := blk_sav N1.out sv ny3 ny4
     cases RF with
     | error zz =>
      obtain ⟨rfl, hz⟩ := h1 zz rfl
      have Z : Hid (R = .error er_) := by show _ = _; rw [Z0.out, HBR.out]; rfl
      have qz : (er_ != 0) = true := by rw [bne_iff_ne]; exact hz
      have HZ := Lib.hid hz
      clear hF h1 h2 sv hz hB9 hcut FC SU1
      go_wp2_with fail
      go_ret2
      exact bpost_no Z.out HZ.out _ S3.out
     | ok ff =>
      obtain ⟨f, y⟩ := ff
      obtain ⟨rfl, r2, m2, hr2, hl2, hd2⟩ := h2 f y rfl
      have M3 := Lib.hid (K1.out.go sv m2 hl2 hr2)
      have OWN : Hid (∀ b, (Value.slice va i vc).ownBlock = some b → w.heap.size + 1 ≤ b ∧ b < wr.heap.size) := fun b hb => by have := GX.out.own hb; exact ⟨this.1, this.2.1⟩
      have GC := Lib.hid ((GX.out.below BV.out).sav (by omega) HS0.out sv hr2)
      have R2 : Hid (r2 = r ∨ w.heap.size + 1 ≤ r2) := by
       rcases hr2 with e | e
       · rw [e]; exact HRI.out
       · exact .inr (by omega)
      have LD : Hid (Lies wc (fun b => (S b ∨ w.heap.size + 1 ≤ b) ∧ b < wc.heap.size ∧ some b ≠ (Value.slice va i vc).ownBlock ∧ b ≠ r2) f.enc [.string f0, .slice A1 l1 c1', .int .i64 ty, .bool has, .int .i64 k0, .int .i64 k1, .string f6, .slice A3' l3 c3', .slice A4' l4 c4']) := hd2.keep (fun _ _ => rfl) fun b hb => ⟨hb.1.imp id fun k => by omega, hb.2.1, fun e => by
       have o := OWN.out b e.symm
       rcases hb.1 with k | k
       · have := HS0.out b k; omega
       · omega, hb.2.2⟩
      have HBR2 : Hid (bfields B (spaceB full) (ns0.map er) x.its [] [] = bfields B (spaceB full) (ns0.map er) (x.its.drop (i + 1)) (ext ++ y) (acc ++ [f])) := HBR.out
      have RC : Hid (RowS wc S x.its (some ⟨g1, o1, none⟩)) := RowS.keep (SVC.out.keeps fun k hk => by have := HS0.out k hk; exact ⟨by omega, by omega, by omega⟩) (fun _ h => h) RR.out
      have lr := M3.out.mkr.lt
      have zb : w.heap.size + 1 ≤ wc.heap.size := by omega
      obtain ⟨_, _, _, _, _, _, _, _, _, _, _, _, _, _, _, _, _, _⟩ := B9.facts GB9.out
      clear hF h1 h2 hB9 hcut FC SU1 HBR m2 hr2 hd2 hl2 RR sv
      go_wp2_with (at_builtin; go_loud (refine wpList_gax _ fieldT rfl (.tmp 58) (.tmp 60) rfl S (w.heap.size + 1) r2 _ _ rfl GC.out 1 #[.string f0, .slice A1 l1 c1', .int .i64 ty, .bool has, .int .i64 k0, .int .i64 k1, .string f6, .slice A3' l3 c3', .slice A4' l4 c4'] (by simp [Act.eval]) rfl (by simp [Value.oneCell']) (by rw [List.length_map, HAL.out]; omega) zb lr.2.1 _ LD.out ?_); intro v5 w6 g5 b5 k5 o5)
      have UN : Hid (RcR B (spaceB full) X S g r ns0 w x.its (i + 1) v5 w6) := by
       have nX : ∀ b, b = g ∨ b = r2 → ¬ (X b ∨ (Value.slice va i vc).ownBlock = some b) := fun b hb hx => by
        have := M3.out.out b hx
        omega
       refine ⟨r2, ext ++ y, acc ++ [f], HBR2.out, ⟨?_, ?_, M3.out.top, ?_, fun b hb => ?_⟩, R2.out, S3.out.trans (Sav.of (b5.mono (Nat.le_succ _))), ?_, by rw [List.length_append, HAL.out]; rfl⟩
       · rw [← List.append_assoc]
         exact M3.out.mkr.frame (fun k hk hx => k5 k hk fun e => hx (.inr e.symm)) b5.size (nX g (.inl rfl)) (nX r2 (.inr rfl)) fun b hb => hb.elim (fun h => .inl (.inl h)) fun h => (o5 b h).imp .inr id
       · exact Laid.below M3.out.laid (b5.mono (by omega)) M3.out.top
       · have := M3.out.len; rwa [List.append_assoc] at this
       · rcases hb with hb | hb
         · have k := M3.out.out b (.inl hb)
           exact ⟨k.1, Nat.lt_of_lt_of_le k.2.1 b5.size, k.2.2⟩
         · have k := g5.own hb
           exact ⟨by omega, k.2⟩
       · rw [List.map_append]; exact g5
      have N6 : Hid (B10 w6 w.heap.size 41 (.int .i64 9) (.string full) (.slice A2 la c2) (.slice none 0 0) (.slice none 0 0) (.bool false) (.string ⟨#[]⟩) (.int .i64 0) (.int .i64 0) (.slice none 0 0)) := (k5 _ (by omega) fun e => by have := OWN.out _ e.symm; omega).trans NC.out
      have R6 : Hid (RowS w6 S x.its (some ⟨g1, o1, none⟩)) := RowS.keep (fun p hp => b5.cell (by have := HS0.out _ hp; omega)) (fun _ h => h) RC.out
      have z6 : w3.heap.size ≤ w6.heap.size := by have := b5.size; omega
      clear k5 o5 g5 b5
      go_wp2_with fail
      go_roundw
      case rel => exact ⟨i + 1, by omega, by go_num, UN, N6, R6, z6⟩
      case measure => simp [intOf]; omega
  · obtain rfl : i = n := by omega
    have q : ¬ (i : Int) < (i : Int) := by omega
    have DR : x.its.drop i = [] := List.drop_eq_nil_of_le (by rw [HN.out]; exact Nat.le_refl _)
    have Z : Hid (R = .ok ({ Nd.z 9 with name := full, al := al, fs := acc } :: ext, n0)) := by
     show _ = _
     rw [Z0.out, hbr, DR]; rfl
    obtain ⟨va, vc, ev, hvc, hvm, vr⟩ := gx.fds
    rw [hal] at ev
    subst ev
    have hin0 : n0 < (ns0 ++ ext).length := by have := HNS.out; rw [List.length_append]; omega
    have MM : Mkr X wr 52 41 g ri (ns0 ++ ext) := mk.mkr.weak fun b hb => .inl (.inl hb)
    have hS0 : ∀ b, S b → b < g := HS0.out
    have PU := MM.put (k := 3) hin0 (by omega) { Nd.z 9 with name := full, al := al, fs := acc } (.slice va i vc) (fun b => (S b ∨ w.heap.size + 1 ≤ b) ∧ b < wr.heap.size ∧ b ≠ ri) (fun b hb => ⟨hb.2.1, by rcases hb.1 with h | h; exact Nat.ne_of_lt (hS0 b h); omega, hb.2.2, fun hx => by have := HX.out b hx; rcases hb.1 with h | h; have := hS0 b h; omega; omega⟩) (fun S' cs hT hcs => by
     have e0 : (ns0 ++ ext)[n0]'hin0 = { Nd.z 9 with name := full, al := al } := by have := HNS2.out ext; rw [List.getElem?_eq_getElem hin0] at this; exact Option.some.inj this
     rw [e0] at hcs
     obtain ⟨a2, d2, a3, d3, a4, d4, a9, d9, e, k2, k3, _, _, k6⟩ := Nd.out.1 hcs
     rw [e]
     exact Nd.out.2 ⟨a2, d2, va, vc, a4, d4, a9, d9, by show _ = [_, _, _, Value.slice va acc.length vc, _, _, _, _, _, _]; rw [hal]; rfl, k2, k3, by show Len acc.length vc; exact ⟨hvc, hvm⟩, vr.keep (fun _ _ => rfl) hT, k6⟩)
    rw [SM.out] at PU
    have PM := Lib.hid PU.1
    have PS : Hid (Sav g r w.heap.size w (wr.setCell ⟨ri, n0 * 10 + 3, none⟩ (.slice va i vc))) := sv.nxt (hri.imp id fun k => by omega) PU.2
    obtain ⟨A, c, hB2, hc, hA, _, _⟩ := MM.out
    obtain rfl := hA (by omega)
    obtain ⟨nl, hnl⟩ : ∃ m, m = (ns0 ++ ext).length := ⟨_, rfl⟩
    rw [← hnl] at hB2
    obtain ⟨_, _, _, _⟩ := B2.facts hB2
    obtain ⟨Y2, y2, Y3, y3, Y4, y4, Y9, y9, ⟨_, _, _, ycell, _, _, _, _, _, _⟩, fz⟩ := MM.node hin0
    have f9 := fz (n0 * 10 + 3)
    have hl3 : Hid ((ns ++ { Nd.z 9 with name := full, al := al, fs := acc } :: ext).length ≤ 200) := by
     have k := mk.len
     have := congrArg List.length (SM.out ext { Nd.z 9 with name := full, al := al, fs := acc })
     rw [List.length_set] at this
     show _ ≤ _
     omega
    have q3 : (n0 : Int) < (nl : Int) := by omega
    have q4 : ¬ (n0 : Int) < 0 := by omega
    have HRI : Hid (ri = r ∨ w.heap.size ≤ ri) := hri.imp id fun k => by omega
    generalize ((ns0 ++ ext)[n0]'hin0).fs.length = Y8 at ycell
    clear hbr sv hri hal HU gx mk MM hB2 hnl DR vr Z0 RR NR
    go_wp2_with fail
    go_ret2
    exact bpost_ok Z.out rfl PS.out PM.out HRI.out hl3.out
end Go.Proofs.YthogheglddfniaaGreatDoor
