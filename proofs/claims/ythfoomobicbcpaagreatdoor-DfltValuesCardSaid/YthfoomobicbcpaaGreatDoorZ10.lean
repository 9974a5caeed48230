/- Joined by tools/bundle.py: DC3 DC4. -/
import Derived.Test.YthfoomobicbcpaaGreatDoorZ9
import Derived.Test.YthfoomobicbcpaaGreatDoorZ0
set_option maxRecDepth 100000
set_option maxHeartbeats 16000000
namespace Go.Proofs.YthfoomobicbcpaaGreatDoor
open Go.ChangeShapes Go.WideShapes Go.ChangeAt Go.RowKit Mem
structure TW (s : Sc) (A : Option Addr) (c : Nat) (w : World) (g left : Nat) : Prop where
 blk : B2 w g 119 (.slice A s.nodes.length c) (.int .i64 (left : Int))
 nodes : RowD w (· < g) 10 (s.nodes.map Nd.enc) A
 laid : LaidN w
 top : 6 < g
 len : Len s.nodes.length c
 room : left ≤ 1000
theorem TW.below {s : Sc} {A : Option Addr} {c : Nat} {w w' : World} {g left B : Nat} (h : TW s A c w g left) (b : Below B w w') (hg : g < B) : TW s A c w' g left :=
 ⟨h.blk.below b hg, h.nodes.keep (fun p hp => b.cell (by have : p.block < g := hp; omega)) (fun _ h => h), Laid.below h.laid (b.mono (Nat.le_of_lt hg)) h.top, h.top, h.len, h.room⟩
theorem TW.go {s : Sc} {A : Option Addr} {c : Nat} {w w' : World} {g left left' : Nat} (h : TW s A c w g left) (sv : Sav g g w.heap.size w w') (b : B2 w' g 119 (.slice A s.nodes.length c) (.int .i64 (left' : Int))) (hl : left' ≤ 1000) : TW s A c w' g left' :=
 ⟨b, h.nodes.keep (fun p hp => sv.cell (by have : p.block < g := hp; have := h.blk.lt; omega) (by have : p.block < g := hp; omega) (by have : p.block < g := hp; omega)) (fun _ h => h), Laid.below h.laid (sv.bel (B' := g) (Nat.le_refl _) (Nat.le_refl _) (Nat.le_of_lt h.blk.lt)) h.top, h.top, h.len, hl⟩
def Sv {α : Type} (R : Option (α × Nat)) (nv : Value) (g : Nat) (w w' : World) : Prop :=
 Sav g g w.heap.size w w' ∧ ∃ z : Int, B2 w' g 119 nv (.int .i64 z) ∧ ∀ v l, R = some (v, l) → z = ((l : Nat) : Int)
def TP (R : Option (V × Nat)) (nv : Value) (g : Nat) (w : World) (e : Ending) (w' : World) : Prop := VP (R.map Prod.fst) w e w' ∧ Sv R nv g w w'
def LP (R : Option (List V × Nat)) (nv : Value) (g : Nat) (w : World) (e : Ending) (w' : World) : Prop :=
 (∃ A l c, e = .returned (.tuple #[.slice A l c, .bool R.isSome]) ∧ ∀ vs n, R = some (vs, n) → l = vs.length ∧ Len vs.length c ∧ RowD w' (New w w') 6 (vs.map V.enc) A) ∧ Sv R nv g w w'
theorem lp_no {R : Option (List V × Nat)} {nv : Value} {g : Nat} {w w' : World} {A : Option Addr} {l c : Nat} {b : Bool} {z : Int} (h : R = none) (hb : b = false) (sv : Sav g g w.heap.size w w') (B : B2 w' g 119 nv (.int .i64 z)) : LP R nv g w (.returned (.tuple #[.slice A l c, .bool b])) w' := by
 subst h; subst hb
 exact ⟨⟨A, l, c, rfl, fun _ _ h => by cases h⟩, sv, z, B, fun _ _ h => by cases h⟩
theorem lp_yes {R : Option (List V × Nat)} {nv : Value} {g : Nat} {w w' : World} {vs : List V} {n base : Nat} {v : Value} {b : Bool} (h : R = some (vs, n)) (hb : b = true) (hbs : w.heap.size ≤ base) (sv : Sav g g w.heap.size w w') (B : B2 w' g 119 nv (.int .i64 (n : Int))) (hg : GatX (fun _ => False) w' base g 42 6 v (vs.map V.enc)) : LP R nv g w (.returned (.tuple #[v, .bool b])) w' := by
 subst h; subst hb
 obtain ⟨A, c, rfl, hl, hr⟩ := hg.new_
 rw [List.length_map] at hl ⊢
 exact ⟨⟨A, _, c, rfl, fun x m h => by cases h; exact ⟨rfl, hl, hr.keep (fun _ _ => rfl) fun b hb => ⟨Nat.le_trans hbs hb.1, hb.2⟩⟩⟩, sv, n, B, fun _ _ h => by cases h; rfl⟩
def CallV (s : Sc) (A : Option Addr) (c : Nat) (B : DB) (ar : Int) : Prop := ∀ (a : Int) (j : J) (left g : Nat) (w : World) (S : Nat → Prop) (A3 A4 : Option Addr) (c3 c4 : Nat), 0 ≤ a → a < (s.nodes.length : Int) → JG j → TW s A c w g left → (∀ b, S b → b < w.heap.size ∧ b ≠ g) → TreeS w S j [.int .i64 j.k, .int .i64 j.n, .string j.t, .slice A3 j.its.length c3, .slice A4 j.ks.length c4] →
 Calls Tryz.prog 76 #[.pointer (some ⟨g, 0, none⟩), .int .i64 a, .agg #[.int .i64 j.k, .int .i64 j.n, .string j.t, .slice A3 j.its.length c3, .slice A4 j.ks.length c4], .int .i64 ar] w (TP (B a j left) (.slice A s.nodes.length c) g w)
def dnext {α : Type} (B : α → Nat → Option (V × Nat)) (r : List α) (acc : List V) (o : Option (V × Nat)) : Option (List V × Nat) :=
 match o with
 | none => none
 | some (v, l) => dgo B r l (acc ++ [v])
theorem dgo_next {α : Type} {B : α → Nat → Option (V × Nat)} {x : α} {r : List α} {left : Nat} {acc : List V} : dgo B (x :: r) left acc = dnext B r acc (B x left) := by
 unfold dgo dnext
 cases B x left <;> rfl
def LsR {α : Type} (B : α → Nat → Option (V × Nat)) (s : Sc) (A : Option Addr) (c g : Nat) (w : World) (R : Option (List V × Nat)) (its : List α) (i : Nat) (v : Value) (wr : World) : Prop :=
 ∃ left acc, R = dgo B (its.drop i) left acc ∧ TW s A c wr g left ∧ Sav g g w.heap.size w wr ∧ GatX (fun _ => False) wr w.heap.size g 42 6 v (acc.map V.enc) ∧ acc.length = i
theorem list13_any {s : Sc} {A : Option Addr} {c : Nat} {B : DB} {ar : Int} (hB : CallV s A c B ar) (hle : ∀ a j left v l, 0 ≤ a → a < (s.nodes.length : Int) → JG j → B a j left = some (v, l) → l ≤ left) (a : Int) (ha : 0 ≤ a) (ha' : a < (s.nodes.length : Int)) (its : List J) (hJ : ∀ x ∈ its, JG x) (left g : Nat) (w : World) (h : TW s A c w g left) (S : Nat → Prop) (hS : ∀ b, S b → b < w.heap.size ∧ b ≠ g) (A3 : Option Addr) (c3 n : Nat) (hn : n = its.length) (ht : RowS w S its A3) (hn9 : n ≤ 1000000) :
 Calls Tryz.prog 169 #[.pointer (some ⟨g, 0, none⟩), .int .i64 a, .slice A3 n c3, .int .i64 ar] w (LP (dlist B a its left) (.slice A s.nodes.length c) g w) := by
 have CS := cell_set
 obtain ⟨R, hR⟩ : ∃ R, R = dlist B a its left := ⟨_, rfl⟩
 rw [← hR]
 unfold dlist at hR
 rw [← hn] at hR
 have lg := h.blk.lt
 have HN := Lib.hid hn
 have SR : Hid (Sav g g w.heap.size w w) := Sav.refl _ _ _ _
 have HBK := Lib.hid h.blk
 obtain ⟨nn, hnn⟩ : ∃ m, m = s.nodes.length := ⟨_, rfl⟩
 by_cases hbig : 300 < n
 · have Z : Hid (R = none) := hR.trans (if_pos hbig)
   have q2 : (300 : Int) < (n : Int) := by omega
   clear hR hJ ht h hB hn hbig
   go_enter Tryz.func169, Tryz.ntmps169
   go_wp2_with fail
   go_ret2
   exact lp_no Z.out rfl SR.out HBK.out
 have q2 : ¬ (300 : Int) < (n : Int) := by omega
 rw [if_neg hbig] at hR
 have START : Hid (LsR (B a) s A c g w R its 0 (.slice none 0 0) w) := ⟨left, [], hR, h, SR.out, GatX.none_ _ _ _ _ _ _, rfl⟩
 have HB := Lib.hid hB
 have HLE := Lib.hid hle
 have HA := Lib.hid (And.intro ha ha')
 have HJ := Lib.hid hJ
 have HS := Lib.hid hS
 have RT := Lib.hid ht
 have nmax : n ≤ 9223372036854775807 := by omega
 rw [← hnn] at HBK ⊢
 have HNN := Lib.hid hnn
 clear hR hJ ht h hB hn hbig hS hle ha ha' HBK hnn
 go_enter Tryz.func169, Tryz.ntmps169
 go_wp2_with fail
 go_loopw [10, 12, 13, 14, 20] (fun v _ _ _ t wr => ∃ i : Nat, i ≤ n ∧ t = .int .i64 (i : Int) ∧ Hid (LsR (B a) s A c g w R its i v wr)) (fun _ _ _ _ t _ => n - (intOf t).toNat)
 case atStart => exact ⟨0, Nat.zero_le _, rfl, START.out⟩
 case round =>
  obtain ⟨i, hi, rfl, HU⟩ := hrel
  obtain ⟨lf, acc, hbr, tw, sv, gx, hal⟩ := HU.out
  have z := sv.size
  clear START SR
  by_cases hin : i < n
  · have h1 : i < its.length := by rw [← HN.out]; exact hin
    have q : (i : Int) < (n : Int) := by omega
    obtain ⟨g1, o1, Y3, y3, Y4, y4, e1, hg1, u0, u1, u2, u3, u4, tx⟩ := RowS.cells (RT.out) h1
    have l1 := HS.out _ hg1
    have u0 := (sv.cell (p := ⟨g1, o1 + i * 5, none⟩) l1.1 l1.2 l1.2).trans u0
    have u1 := (sv.cell (p := ⟨g1, o1 + i * 5 + 1, none⟩) l1.1 l1.2 l1.2).trans u1
    have u2 := (sv.cell (p := ⟨g1, o1 + i * 5 + 2, none⟩) l1.1 l1.2 l1.2).trans u2
    have u3 := (sv.cell (p := ⟨g1, o1 + i * 5 + 3, none⟩) l1.1 l1.2 l1.2).trans u3
    have u4 := (sv.cell (p := ⟨g1, o1 + i * 5 + 4, none⟩) l1.1 l1.2 l1.2).trans u4
    have tx2 := TreeS.keep (sv.keeps fun k hk => by have := HS.out k hk; exact ⟨this.1, this.2, this.2⟩) (fun _ h => h) tx
    have DR : Hid (its.drop i = its[i]'h1 :: its.drop (i + 1)) := List.drop_eq_getElem_cons h1
    have QT := Lib.hid (HJ.out _ (List.getElem_mem h1))
    generalize its[i]'h1 = T at *
    subst e1
    have BV0 : Hid (Below wr.heap.size wr (wr.alloc (.cells #[.int .i64 T.k, .int .i64 T.n, .string T.t, .slice Y3 T.its.length y3, .slice Y4 T.ks.length y4] 25))) := (Below.refl _ _).alloc (Nat.le_refl _) _
    have lgr := tw.blk.lt
    obtain ⟨W1, hW1⟩ : ∃ W, W = wr.alloc (.cells #[.int .i64 T.k, .int .i64 T.n, .string T.t, .slice Y3 T.its.length y3, .slice Y4 T.ks.length y4] 25) := ⟨_, rfl⟩
    rw [← hW1] at BV0
    have T1 : Hid (B5 W1 wr.heap.size 25 (.int .i64 T.k) (.int .i64 T.n) (.string T.t) (.slice Y3 T.its.length y3) (.slice Y4 T.ks.length y4)) := by rw [hW1]; exact B5.newat rfl
    have zW := T1.out.lt
    have NC := Lib.hid (HB.out a T lf g W1 S Y3 Y4 y3 y4 HA.out.1 HA.out.2 QT.out (tw.below BV0.out lgr) (fun k hk => by have := HS.out k hk; exact ⟨by omega, this.2⟩) (TreeS.keep (fun p hp => BV0.out.cell (by have := (HS.out _ hp).1; omega)) (fun _ h => h) tx2))
    obtain ⟨o, ho⟩ : ∃ o, o = B a T lf := ⟨_, rfl⟩
    have HBR : Hid (R = dnext (B a) (its.drop (i + 1)) acc o) := by show _ = _; rw [hbr, DR.out, ho]; exact dgo_next
    have HLF : Hid (∀ v l, o = some (v, l) → l ≤ 1000) := fun v l e => Nat.le_trans (HLE.out a T lf v l HA.out.1 HA.out.2 QT.out (ho.symm.trans e)) tw.room
    rw [← ho] at NC
    have TW1 := Lib.hid (tw.below BV0.out lgr)
    have GX := Lib.hid gx
    have SVW := Lib.hid sv
    have HAL := Lib.hid hal
    have SV1 : Hid (Sav g g wr.heap.size wr W1) := Sav.of BV0.out
    rw [← HNN.out] at NC
    clear hbr tw gx sv HU DR h1 tx tx2 hal ho
    go_wp2_with fail
    rw [← hW1]
    clear hW1
    obtain ⟨y0, y1, y2, y3', y4', _, _, _, _, _⟩ := B5.facts T1.out
    go_wp2_with fail
    with_reducible refine NC.out.mono ?_
    rintro e w2 hp
    obtain ⟨⟨vk, vn, vb, Z3, Z4, Z5, z3, x3, z4, x4, z5, x5, rfl, hv⟩, sv2, zz, b2, hz⟩ := hp
    have s2 := sv2.size
    have S2 : Hid (Sav g g wr.heap.size wr w2) := SV1.out.trans (sv2.mono (by omega))
    have S3 : Hid (Sav g g w.heap.size w w2) := SVW.out.trans (S2.out.mono z)
    cases o with
    | none =>
     have Z : Hid (R = none) := HBR.out
     have B2' := Lib.hid b2
     have bl : Hid (Sav g g w.heap.size w (w2.alloc (.cells #[.int .i64 vk, .int .i64 vn, .int .u64 vb, .slice Z3 z3 x3, .slice Z4 z4 x4, .slice Z5 z5 x5] 42))) := S3.out.trans (Sav.of ((Below.refl _ _).alloc (by omega) _))
     clear hv hz b2 sv2
     go_wp2_with fail
     go_ret2
     exact lp_no Z.out rfl bl.out (B2.alloc B2'.out _)
    | some vl =>
     obtain ⟨vx, lx⟩ := vl
     obtain rfl := hz vx lx rfl
     have LV := hv vx rfl
     have HBR2 : Hid (R = dgo (B a) (its.drop (i + 1)) lx (acc ++ [vx])) := HBR.out
     have TW2 := Lib.hid (TW1.out.go sv2 (by rw [← HNN.out]; exact b2) (HLF.out vx lx rfl))
     have G2 := Lib.hid ((GX.out.below BV0.out).sav (r' := g) (by omega) (fun _ h => h.elim) sv2 (.inl rfl))
     have OWN : Hid (∀ b, some b = (u10).ownBlock → b < wr.heap.size) := fun b hb => (GX.out.own hb.symm).2.1
     have B3 : Hid (Below w2.heap.size w2 (w2.alloc (.cells #[.int .i64 vk, .int .i64 vn, .int .u64 vb, .slice Z3 z3 x3, .slice Z4 z4 x4, .slice Z5 z5 x5] 42))) := (Below.refl _ _).alloc (Nat.le_refl _) _
     have V3 : Hid (B6 (w2.alloc (.cells #[.int .i64 vk, .int .i64 vn, .int .u64 vb, .slice Z3 z3 x3, .slice Z4 z4 x4, .slice Z5 z5 x5] 42)) w2.heap.size 42 (.int .i64 vk) (.int .i64 vn) (.int .u64 vb) (.slice Z3 z3 x3) (.slice Z4 z4 x4) (.slice Z5 z5 x5)) := B6.newat rfl
     have Z3' : Hid ((w2.alloc (.cells #[.int .i64 vk, .int .i64 vn, .int .u64 vb, .slice Z3 z3 x3, .slice Z4 z4 x4, .slice Z5 z5 x5] 42)).heap.size = w2.heap.size + 1) := by show _ = _; simp
     have LD : Hid (Lies (w2.alloc (.cells #[.int .i64 vk, .int .i64 vn, .int .u64 vb, .slice Z3 z3 x3, .slice Z4 z4 x4, .slice Z5 z5 x5] 42)) (fun b => (False ∨ w.heap.size ≤ b) ∧ b < (w2.alloc (.cells #[.int .i64 vk, .int .i64 vn, .int .u64 vb, .slice Z3 z3 x3, .slice Z4 z4 x4, .slice Z5 z5 x5] 42)).heap.size ∧ some b ≠ (u10).ownBlock ∧ b ≠ g) vx.enc [.int .i64 vk, .int .i64 vn, .int .u64 vb, .slice Z3 z3 x3, .slice Z4 z4 x4, .slice Z5 z5 x5]) := LV.keep (fun p hp => B3.out.cell hp.2) fun b hb => ⟨.inr (by have := hb.1; omega), by have := hb.2; rw [Z3'.out]; omega, (fun e => by have := OWN.out b e; have := hb.1; omega), by have := hb.1; omega⟩
     have G3 := Lib.hid (G2.out.below B3.out)
     have TW3 := Lib.hid (TW2.out.below B3.out (by have := TW2.out.blk.lt; exact this))
     have S4 : Hid (Sav g g w.heap.size w (w2.alloc (.cells #[.int .i64 vk, .int .i64 vn, .int .u64 vb, .slice Z3 z3 x3, .slice Z4 z4 x4, .slice Z5 z5 x5] 42))) := S3.out.trans (Sav.of (B3.out.mono (by omega)))
     have lb3 : Hid (g < (w2.alloc (.cells #[.int .i64 vk, .int .i64 vn, .int .u64 vb, .slice Z3 z3 x3, .slice Z4 z4 x4, .slice Z5 z5 x5] 42)).heap.size) := by show _ < _; rw [Z3'.out]; omega
     have lb4 : Hid (w.heap.size ≤ (w2.alloc (.cells #[.int .i64 vk, .int .i64 vn, .int .u64 vb, .slice Z3 z3 x3, .slice Z4 z4 x4, .slice Z5 z5 x5] 42)).heap.size) := by show _ ≤ _; rw [Z3'.out]; omega
     clear hv hz b2 sv2 LV HBR OWN TW1 GX G2 TW2
     obtain ⟨_, _, _, _, _, _, _, _, _, _, _, _⟩ := B6.facts V3.out
     go_wp2_with (at_builtin; go_loud (refine wpList_gax _ valueT rfl (.tmp 34) (.tmp 36) rfl (fun _ => False) w.heap.size g u10 _ rfl G3.out 1 #[.int .i64 vk, .int .i64 vn, .int .u64 vb, .slice Z3 z3 x3, .slice Z4 z4 x4, .slice Z5 z5 x5] (by simp [Act.eval]) rfl (by simp [Value.oneCell']) (by rw [List.length_map, HAL.out]; omega) lb4.out lb3.out _ LD.out ?_); intro v5 w6 g5 b5 k5 o5)
     have UN : Hid (LsR (B a) s A c g w R its (i + 1) v5 w6) := ⟨lx, acc ++ [vx], HBR2.out, TW3.out.below b5 lg, S4.out.trans (Sav.of b5), by rw [List.map_append]; exact g5, by rw [List.length_append, HAL.out]; rfl⟩
     clear k5 o5 g5 b5
     go_wp2_with fail
     go_roundw
     case rel => exact ⟨i + 1, by omega, by go_num, UN⟩
     case measure => simp [intOf]; omega
  · obtain rfl : i = n := by omega
    have q : ¬ (i : Int) < (i : Int) := by omega
    have DR : its.drop i = [] := List.drop_eq_nil_of_le (by rw [← HN.out]; exact Nat.le_refl _)
    have Z : Hid (R = some (acc, lf)) := by show _ = _; rw [hbr, DR]; rfl
    have TB : Hid (B2 wr g 119 (.slice A nn c) (.int .i64 (lf : Int))) := by rw [HNN.out]; exact tw.blk
    have GX := Lib.hid gx
    have SVW := Lib.hid sv
    clear hbr tw gx sv HU DR hal
    go_wp2_with fail
    go_ret2
    exact lp_yes Z.out rfl (Nat.le_refl _) SVW.out TB.out GX.out
theorem record13_any {s : Sc} {A : Option Addr} {c : Nat} {B : DB} {ar : Int} (hB : CallV s A c B ar) (hle : ∀ a j left v l, 0 ≤ a → a < (s.nodes.length : Int) → JG j → B a j left = some (v, l) → l ≤ left) (fs : List Fd) (hf : ∀ f ∈ fs, 0 ≤ f.ty ∧ f.ty < (s.nodes.length : Int)) (j : J) (hJ : ∀ f ∈ fs, JG (said j f)) (left g : Nat) (w : World) (h : TW s A c w g left) (S : Nat → Prop) (hS : ∀ b, S b → b < w.heap.size ∧ b ≠ g) (A3 : Option Addr) (c3 n : Nat) (hn : n = fs.length) (hr : RowD w (· < g) 9 (fs.map Fd.enc) A3) (hn9 : n ≤ 1000000) (A4 A5 : Option Addr) (c4 c5 : Nat) (ht : TreeS w S j [.int .i64 j.k, .int .i64 j.n, .string j.t, .slice A4 j.its.length c4, .slice A5 j.ks.length c5]) :
 Calls Tryz.prog 168 #[.pointer (some ⟨g, 0, none⟩), .slice A3 n c3, .agg #[.int .i64 j.k, .int .i64 j.n, .string j.t, .slice A4 j.its.length c4, .slice A5 j.ks.length c5], .int .i64 ar] w (LP (dgo (fun f => B f.ty (said j f)) fs left []) (.slice A s.nodes.length c) g w) := by
 have CS := cell_set
 obtain ⟨R, hR⟩ : ∃ R, R = dgo (fun f => B f.ty (said j f)) fs left [] := ⟨_, rfl⟩
 rw [← hR]
 have lg := h.blk.lt
 have LG : Hid (g < w.heap.size) := lg
 have HN := Lib.hid hn
 obtain ⟨nn, hnn⟩ : ∃ m, m = s.nodes.length := ⟨_, rfl⟩
 have BW0 : Hid (Below w.heap.size w (w.alloc (.cells #[.int .i64 j.k, .int .i64 j.n, .string j.t, .slice A4 j.its.length c4, .slice A5 j.ks.length c5] 25))) := (Below.refl _ _).alloc (Nat.le_refl _) _
 have ZW0 : Hid ((w.alloc (.cells #[.int .i64 j.k, .int .i64 j.n, .string j.t, .slice A4 j.its.length c4, .slice A5 j.ks.length c5] 25)).heap.size = w.heap.size + 1) := by show _ = _; simp
 have T0 : Hid (B5 (w.alloc (.cells #[.int .i64 j.k, .int .i64 j.n, .string j.t, .slice A4 j.its.length c4, .slice A5 j.ks.length c5] 25)) w.heap.size 25 (.int .i64 j.k) (.int .i64 j.n) (.string j.t) (.slice A4 j.its.length c4) (.slice A5 j.ks.length c5)) := B5.newat rfl
 have START : Hid (LsR (fun f => B f.ty (said j f)) s A c g (w.alloc (.cells #[.int .i64 j.k, .int .i64 j.n, .string j.t, .slice A4 j.its.length c4, .slice A5 j.ks.length c5] 25)) R fs 0 (.slice none 0 0) (w.alloc (.cells #[.int .i64 j.k, .int .i64 j.n, .string j.t, .slice A4 j.its.length c4, .slice A5 j.ks.length c5] 25))) := ⟨left, [], hR, h.below BW0.out lg, Sav.refl _ _ _ _, GatX.none_ _ _ _ _ _ _, rfl⟩
 have HB := Lib.hid hB
 have HLE := Lib.hid hle
 have HF := Lib.hid hf
 have HJ := Lib.hid hJ
 have HS := Lib.hid hS
 have RF := Lib.hid hr
 have JT := Lib.hid ht
 have nmax : n ≤ 9223372036854775807 := by omega
 rw [← hnn]
 have HNN := Lib.hid hnn
 clear hR hJ ht h hB hn hS hle hf hr hnn
 go_enter Tryz.func168, Tryz.ntmps168
 go_wp2_with fail
 go_loopw [10, 12, 13, 14, 15, 16, 19] (fun v _ _ _ _ _ t wr => ∃ i : Nat, i ≤ n ∧ t = .int .i64 (i : Int) ∧ Hid (LsR (fun f => B f.ty (said j f)) s A c g (w.alloc (.cells #[.int .i64 j.k, .int .i64 j.n, .string j.t, .slice A4 j.its.length c4, .slice A5 j.ks.length c5] 25)) R fs i v wr)) (fun _ _ _ _ _ _ t _ => n - (intOf t).toNat)
 case atStart => exact ⟨0, Nat.zero_le _, rfl, START.out⟩
 case round =>
  obtain ⟨i, hi, rfl, HU⟩ := hrel
  obtain ⟨lf, acc, hbr, tw, sv, gx, hal⟩ := HU.out
  rw [ZW0.out] at sv gx
  have z := sv.size
  rw [ZW0.out] at z
  clear START
  by_cases hin : i < n
  · have h1 : i < fs.length := by rw [← HN.out]; exact hin
    have q : (i : Int) < (n : Int) := by omega
    have RF2 := (RF.out.keep (fun p hp => BW0.out.cell (by have : p.block < g := hp; omega)) (fun _ h => h)).keep (fun p hp => sv.cell (by have : p.block < g := hp; omega) (by have : p.block < g := hp; omega) (by have : p.block < g := hp; omega)) (fun _ h => h)
    obtain ⟨g1, o1, A1, c1, D3, d3, D4, d4, e1, hg1, ⟨u0, u1, u2, u3, u4, u5, u6, u7, u8⟩, _, _, tx⟩ := fields_at RF2 h1
    have DR : Hid (fs.drop i = fs[i]'h1 :: fs.drop (i + 1)) := List.drop_eq_getElem_cons h1
    have QJ := Lib.hid (HJ.out _ (List.getElem_mem h1))
    have HT := Lib.hid (HF.out _ (List.getElem_mem h1))
    generalize fs[i]'h1 = T at *
    subst e1
    have J1 : B5 wr w.heap.size 25 (.int .i64 j.k) (.int .i64 j.n) (.string j.t) (.slice A4 j.its.length c4) (.slice A5 j.ks.length c5) := Blk.sav T0.out sv (by omega) (by omega) (by omega)
    have lgr := tw.blk.lt
    have nw1 : w.heap.size < wr.heap.size := by omega
    have nw2 : w.heap.size ≠ wr.heap.size := by omega
    obtain ⟨W1, hW1⟩ : ∃ W, W = wr.alloc (.cells #[.string T.name, .slice A1 T.al.length c1, .int .i64 T.ty, .bool T.has, .int .i64 T.df.k, .int .i64 T.df.n, .string T.df.t, .slice D3 T.df.its.length d3, .slice D4 T.df.ks.length d4] 61) := ⟨_, rfl⟩
    have BV0 : Hid (Below wr.heap.size wr W1) := by rw [hW1]; exact (Below.refl _ _).alloc (Nat.le_refl _) _
    have F1 : Hid (B9 W1 wr.heap.size 61 (.string T.name) (.slice A1 T.al.length c1) (.int .i64 T.ty) (.bool T.has) (.int .i64 T.df.k) (.int .i64 T.df.n) (.string T.df.t) (.slice D3 T.df.its.length d3) (.slice D4 T.df.ks.length d4)) := by rw [hW1]; exact B9.newat rfl
    have J2 := Lib.hid (B5.below J1 BV0.out (by omega))
    have zW := F1.out.lt
    have TW1 := Lib.hid (tw.below BV0.out lgr)
    have lg1 : g < W1.heap.size := by omega
    have tj := TreeS.keep (S' := fun b => S b ∨ b < g) ((Sav.of BW0.out).trans (sv.mono (Nat.le_succ _)) |>.keeps fun k hk => by have := HS.out k hk; exact ⟨this.1, this.2, this.2⟩) (fun _ h => .inl h) JT.out
    have HSS : Hid (∀ b, (S b ∨ b < g) → b < w.heap.size ∧ b ≠ g) := fun b hb => by
     rcases hb with hb | hb
     · exact HS.out b hb
     · omega
    have GT := Lib.hid (get_anyS (fun b => S b ∨ b < g) j T.name W1 (fun b hb => by have := HSS.out b hb; omega) A4 A5 c4 c5 (TreeS.keep (fun p hp => BV0.out.cell (by have := HSS.out _ hp; omega)) (fun _ h => h) tj))
    have DT := Lib.hid (TreeS.keep (S' := fun b => S b ∨ b < g) (fun p hp => BV0.out.cell (by have : p.block < g := hp; omega)) (fun _ h => .inr h) tx)
    have ROOM : Hid (lf ≤ 1000) := tw.room
    have HR0 : Hid (R = dgo (fun f => B f.ty (said j f)) (T :: fs.drop (i + 1)) lf acc) := by show _ = _; rw [hbr, DR.out]
    have GX : Hid (GatX (fun _ => False) wr (w.heap.size + 1) g 42 6 u10 (acc.map V.enc)) := gx
    have SVW : Hid (Sav g g (w.alloc (.cells #[.int .i64 j.k, .int .i64 j.n, .string j.t, .slice A4 j.its.length c4, .slice A5 j.ks.length c5] 25)).heap.size (w.alloc (.cells #[.int .i64 j.k, .int .i64 j.n, .string j.t, .slice A4 j.its.length c4, .slice A5 j.ks.length c5] 25)) wr) := by show Sav _ _ _ _ _; rw [ZW0.out]; exact sv
    have HAL := Lib.hid hal
    clear hbr tw gx sv HU DR h1 tx tj hal RF2
    obtain ⟨_, _, _, _, _, _, _, _, _, _⟩ := B5.facts J1
    go_wp2_with fail
    rw [← hW1]
    clear hW1
    with_reducible refine GT.out.mono ?_
    rintro e w2 ⟨Y3, y3, Y4, y4, rfl, tq, b2⟩
    have s2 := b2.size
    have F2 := Lib.hid (B9.below F1.out b2 zW)
    have lf2 := F2.out.lt
    obtain ⟨jo, hjo⟩ : ∃ o, o = j.get T.name := ⟨_, rfl⟩
    have XS0 : Hid (said j T = jo.getD T.df) := by show _ = _; rw [hjo]; rfl
    rw [← hjo] at tq ⊢
    have TQ := Lib.hid tq
    clear hjo tq GT F1
    cases jo with
    | some X =>
     rw [show gotten (some X) = X from rfl]
     have XS : Hid (said j T = X) := XS0.out
     have XJ : Hid (JG X) := by have := QJ.out; rw [XS.out] at this; exact this
     have XT : Hid (TreeS (w2.alloc (.cells #[.int .i64 X.k, .int .i64 X.n, .string X.t, .slice Y3 X.its.length y3, .slice Y4 X.ks.length y4] 25)) (fun b => S b ∨ b < g) X [.int .i64 X.k, .int .i64 X.n, .string X.t, .slice Y3 X.its.length y3, .slice Y4 X.ks.length y4]) := TreeS.keep (fun p hp => ((Below.refl _ _).alloc (Nat.le_refl _) _ : Below w2.heap.size w2 _).cell (by have := HSS.out _ hp; omega)) (fun _ h => h) TQ.out
     have X1 : Hid (B5 (w2.alloc (.cells #[.int .i64 X.k, .int .i64 X.n, .string X.t, .slice Y3 X.its.length y3, .slice Y4 X.ks.length y4] 25)) w2.heap.size 25 (.int .i64 X.k) (.int .i64 X.n) (.string X.t) (.slice Y3 X.its.length y3) (.slice Y4 X.ks.length y4)) := B5.newat rfl
     obtain ⟨_, _, _, _, _, _, _, _, _, _⟩ := B5.facts X1.out
     obtain ⟨_, _, _, _, _, _, _, _, _, _, _, _, _, _, _, _, _, _⟩ := B9.facts F2.out
     have BV3 : Hid (Below w2.heap.size w2 (w2.alloc (.cells #[.int .i64 X.k, .int .i64 X.n, .string X.t, .slice Y3 X.its.length y3, .slice Y4 X.ks.length y4] 25))) := (Below.refl _ _).alloc (Nat.le_refl _) _
     have Z3 : Hid ((w2.alloc (.cells #[.int .i64 X.k, .int .i64 X.n, .string X.t, .slice Y3 X.its.length y3, .slice Y4 X.ks.length y4] 25)).heap.size = w2.heap.size + 1) := by show _ = _; simp
     have B13 : Hid (Below W1.heap.size W1 (w2.alloc (.cells #[.int .i64 X.k, .int .i64 X.n, .string X.t, .slice Y3 X.its.length y3, .slice Y4 X.ks.length y4] 25))) := b2.trans (BV3.out.mono s2)
     have TWc := Lib.hid (TW1.out.below B13.out lg1)
     have NC := Lib.hid (HB.out T.ty X lf g (w2.alloc (.cells #[.int .i64 X.k, .int .i64 X.n, .string X.t, .slice Y3 X.its.length y3, .slice Y4 X.ks.length y4] 25)) (fun b => S b ∨ b < g) Y3 Y4 y3 y4 HT.out.1 HT.out.2 XJ.out TWc.out (fun k hk => ⟨by rw [Z3.out]; have := HSS.out k hk; omega, by have := HSS.out k hk; omega⟩) XT.out)
     obtain ⟨o, ho⟩ : ∃ o, o = B T.ty X lf := ⟨_, rfl⟩
     have HBR : Hid (R = dnext (fun f => B f.ty (said j f)) (fs.drop (i + 1)) acc o) := by show _ = _; rw [HR0.out, ho]; rw [← XS.out]; exact dgo_next
     have HLF : Hid (∀ v l, o = some (v, l) → l ≤ 1000) := fun v l e => Nat.le_trans (HLE.out T.ty X lf v l HT.out.1 HT.out.2 XJ.out (ho.symm.trans e)) ROOM.out
     rw [← ho] at NC
     rw [← HNN.out] at NC
     clear ho
     go_wp2_with fail
     with_reducible refine NC.out.mono ?_
     rintro e w4 hp
     obtain ⟨⟨vk, vn, vb, Z3', Z4, Z5, z3, x3, z4, x4, z5, x5, rfl, hv⟩, sv4, zz, b4, hz⟩ := hp
     have s4 := sv4.size
     rw [Z3.out] at s4
     have sw : W1.heap.size ≤ w2.heap.size := s2
     have S2 : Hid (Sav g g wr.heap.size wr w4) := (Sav.of BV0.out).trans ((Sav.of (B13.out.mono (by omega))).trans (sv4.mono (by rw [Z3.out]; omega)))
     have S3 : Hid (Sav g g (w.alloc (.cells #[.int .i64 j.k, .int .i64 j.n, .string j.t, .slice A4 j.its.length c4, .slice A5 j.ks.length c5] 25)).heap.size (w.alloc (.cells #[.int .i64 j.k, .int .i64 j.n, .string j.t, .slice A4 j.its.length c4, .slice A5 j.ks.length c5] 25)) w4) := SVW.out.trans (S2.out.mono (by rw [ZW0.out]; exact z))
     cases o with
     | none =>
      have Z : Hid (R = none) := HBR.out
      have B2' := Lib.hid b4
      have bl : Hid (Sav g g w.heap.size w (w4.alloc (.cells #[.int .i64 vk, .int .i64 vn, .int .u64 vb, .slice Z3' z3 x3, .slice Z4 z4 x4, .slice Z5 z5 x5] 42))) := (Sav.of BW0.out).trans ((S3.out.mono BW0.out.size).trans (Sav.of ((Below.refl _ _).alloc (by omega) _)))
      clear hv hz b4 sv4
      go_wp2_with fail
      go_ret2
      exact lp_no Z.out rfl bl.out (B2.alloc B2'.out _)
     | some vl =>
      obtain ⟨vx, lx⟩ := vl
      obtain rfl := hz vx lx rfl
      have LV := hv vx rfl
      have HBR2 : Hid (R = dgo (fun f => B f.ty (said j f)) (fs.drop (i + 1)) lx (acc ++ [vx])) := HBR.out
      have TW2 := Lib.hid (TWc.out.go sv4 (by rw [← HNN.out]; exact b4) (HLF.out vx lx rfl))
      have G2 := Lib.hid (((GX.out.below BV0.out).below B13.out).sav (r' := g) (by have := LG.out; omega) (fun _ h => h.elim) sv4 (.inl rfl))
      have OWN : Hid (∀ b, some b = (u10).ownBlock → b < wr.heap.size) := fun b hb => (GX.out.own hb.symm).2.1
      have B3 : Hid (Below w4.heap.size w4 (w4.alloc (.cells #[.int .i64 vk, .int .i64 vn, .int .u64 vb, .slice Z3' z3 x3, .slice Z4 z4 x4, .slice Z5 z5 x5] 42))) := (Below.refl _ _).alloc (Nat.le_refl _) _
      have V3 : Hid (B6 (w4.alloc (.cells #[.int .i64 vk, .int .i64 vn, .int .u64 vb, .slice Z3' z3 x3, .slice Z4 z4 x4, .slice Z5 z5 x5] 42)) w4.heap.size 42 (.int .i64 vk) (.int .i64 vn) (.int .u64 vb) (.slice Z3' z3 x3) (.slice Z4 z4 x4) (.slice Z5 z5 x5)) := B6.newat rfl
      have Z5' : Hid ((w4.alloc (.cells #[.int .i64 vk, .int .i64 vn, .int .u64 vb, .slice Z3' z3 x3, .slice Z4 z4 x4, .slice Z5 z5 x5] 42)).heap.size = w4.heap.size + 1) := by show _ = _; simp
      have LD : Hid (Lies (w4.alloc (.cells #[.int .i64 vk, .int .i64 vn, .int .u64 vb, .slice Z3' z3 x3, .slice Z4 z4 x4, .slice Z5 z5 x5] 42)) (fun b => (False ∨ w.heap.size + 1 ≤ b) ∧ b < (w4.alloc (.cells #[.int .i64 vk, .int .i64 vn, .int .u64 vb, .slice Z3' z3 x3, .slice Z4 z4 x4, .slice Z5 z5 x5] 42)).heap.size ∧ some b ≠ (u10).ownBlock ∧ b ≠ g) vx.enc [.int .i64 vk, .int .i64 vn, .int .u64 vb, .slice Z3' z3 x3, .slice Z4 z4 x4, .slice Z5 z5 x5]) := LV.keep (fun p hp => B3.out.cell hp.2) fun b hb => ⟨.inr (by have := hb.1; rw [Z3.out] at this; omega), by have := hb.2; rw [Z5'.out]; omega, (fun e => by have := OWN.out b e; have := hb.1; rw [Z3.out] at this; omega), by have := hb.1; rw [Z3.out] at this; omega⟩
      have G3 := Lib.hid (G2.out.below B3.out)
      have TW3 := Lib.hid (TW2.out.below B3.out (by have := TW2.out.blk.lt; exact this))
      have S4 : Hid (Sav g g (w.alloc (.cells #[.int .i64 j.k, .int .i64 j.n, .string j.t, .slice A4 j.its.length c4, .slice A5 j.ks.length c5] 25)).heap.size (w.alloc (.cells #[.int .i64 j.k, .int .i64 j.n, .string j.t, .slice A4 j.its.length c4, .slice A5 j.ks.length c5] 25)) (w4.alloc (.cells #[.int .i64 vk, .int .i64 vn, .int .u64 vb, .slice Z3' z3 x3, .slice Z4 z4 x4, .slice Z5 z5 x5] 42))) := S3.out.trans (Sav.of (B3.out.mono (by rw [ZW0.out]; omega)))
      have lb3 : Hid (g < (w4.alloc (.cells #[.int .i64 vk, .int .i64 vn, .int .u64 vb, .slice Z3' z3 x3, .slice Z4 z4 x4, .slice Z5 z5 x5] 42)).heap.size) := by show _ < _; rw [Z5'.out]; omega
      have lb4 : Hid (w.heap.size + 1 ≤ (w4.alloc (.cells #[.int .i64 vk, .int .i64 vn, .int .u64 vb, .slice Z3' z3 x3, .slice Z4 z4 x4, .slice Z5 z5 x5] 42)).heap.size) := by show _ ≤ _; rw [Z5'.out]; omega
      clear hv hz b4 sv4 LV HBR OWN TW1 GX G2 TW2
      obtain ⟨_, _, _, _, _, _, _, _, _, _, _, _⟩ := B6.facts V3.out
      go_wp2_with (at_builtin; go_loud (refine wpList_gax _ valueT rfl (.tmp 45) (.tmp 47) rfl (fun _ => False) (w.heap.size + 1) g u10 _ rfl G3.out 1 #[.int .i64 vk, .int .i64 vn, .int .u64 vb, .slice Z3' z3 x3, .slice Z4 z4 x4, .slice Z5 z5 x5] (by simp [Act.eval]) rfl (by simp [Value.oneCell']) (by rw [List.length_map, HAL.out]; omega) lb4.out lb3.out _ LD.out ?_); intro v5 w6 g5 b5 k5 o5)
      have UN : Hid (LsR (fun f => B f.ty (said j f)) s A c g (w.alloc (.cells #[.int .i64 j.k, .int .i64 j.n, .string j.t, .slice A4 j.its.length c4, .slice A5 j.ks.length c5] 25)) R fs (i + 1) v5 w6) := ⟨lx, acc ++ [vx], HBR2.out, TW3.out.below b5 (by have := LG.out; omega), S4.out.trans (Sav.of (by rw [ZW0.out]; exact b5)), by rw [List.map_append, ZW0.out]; exact g5, by rw [List.length_append, HAL.out]; rfl⟩
      clear k5 o5 g5 b5
      go_wp2_with fail
      go_roundw
      case rel => exact ⟨i + 1, by omega, by go_num, UN⟩
      case measure => simp [intOf]; omega
    | none =>
     obtain ⟨X, hX⟩ : ∃ X, X = T.df := ⟨_, rfl⟩
     rw [← hX] at F2 DT XS0 ⊢
     clear hX
     have XS : Hid (said j T = X) := XS0.out
     have XJ : Hid (JG X) := by have := QJ.out; rw [XS.out] at this; exact this
     have XT : Hid (TreeS (w2.alloc (.cells #[.int .i64 X.k, .int .i64 X.n, .string X.t, .slice D3 X.its.length d3, .slice D4 X.ks.length d4] 25)) (fun b => S b ∨ b < g) X [.int .i64 X.k, .int .i64 X.n, .string X.t, .slice D3 X.its.length d3, .slice D4 X.ks.length d4]) := TreeS.keep (fun p hp => ((Below.refl _ _).alloc (Nat.le_refl _) _ : Below w2.heap.size w2 _).cell (by have := HSS.out _ hp; omega)) (fun _ h => h) (TreeS.keep (fun p hp => b2.cell (by have := HSS.out _ hp; omega)) (fun _ h => h) DT.out)
     obtain ⟨_, _, _, _, _, _, _, _, _, _, _, _, _, _, _, _, _, _⟩ := B9.facts F2.out
     have BV3 : Hid (Below w2.heap.size w2 (w2.alloc (.cells #[.int .i64 X.k, .int .i64 X.n, .string X.t, .slice D3 X.its.length d3, .slice D4 X.ks.length d4] 25))) := (Below.refl _ _).alloc (Nat.le_refl _) _
     have Z3 : Hid ((w2.alloc (.cells #[.int .i64 X.k, .int .i64 X.n, .string X.t, .slice D3 X.its.length d3, .slice D4 X.ks.length d4] 25)).heap.size = w2.heap.size + 1) := by show _ = _; simp
     have B13 : Hid (Below W1.heap.size W1 (w2.alloc (.cells #[.int .i64 X.k, .int .i64 X.n, .string X.t, .slice D3 X.its.length d3, .slice D4 X.ks.length d4] 25))) := b2.trans (BV3.out.mono s2)
     have TWc := Lib.hid (TW1.out.below B13.out lg1)
     have NC := Lib.hid (HB.out T.ty X lf g (w2.alloc (.cells #[.int .i64 X.k, .int .i64 X.n, .string X.t, .slice D3 X.its.length d3, .slice D4 X.ks.length d4] 25)) (fun b => S b ∨ b < g) D3 D4 d3 d4 HT.out.1 HT.out.2 XJ.out TWc.out (fun k hk => ⟨by rw [Z3.out]; have := HSS.out k hk; omega, by have := HSS.out k hk; omega⟩) XT.out)
     obtain ⟨o, ho⟩ : ∃ o, o = B T.ty X lf := ⟨_, rfl⟩
     have HBR : Hid (R = dnext (fun f => B f.ty (said j f)) (fs.drop (i + 1)) acc o) := by show _ = _; rw [HR0.out, ho]; rw [← XS.out]; exact dgo_next
     have HLF : Hid (∀ v l, o = some (v, l) → l ≤ 1000) := fun v l e => Nat.le_trans (HLE.out T.ty X lf v l HT.out.1 HT.out.2 XJ.out (ho.symm.trans e)) ROOM.out
     rw [← ho] at NC
     rw [← HNN.out] at NC
     clear ho
     go_wp2_with fail
     with_reducible refine NC.out.mono ?_
     rintro e w4 hp
     obtain ⟨⟨vk, vn, vb, Z3', Z4, Z5, z3, x3, z4, x4, z5, x5, rfl, hv⟩, sv4, zz, b4, hz⟩ := hp
     have s4 := sv4.size
     rw [Z3.out] at s4
     have sw : W1.heap.size ≤ w2.heap.size := s2
     have S2 : Hid (Sav g g wr.heap.size wr w4) := (Sav.of BV0.out).trans ((Sav.of (B13.out.mono (by omega))).trans (sv4.mono (by rw [Z3.out]; omega)))
     have S3 : Hid (Sav g g (w.alloc (.cells #[.int .i64 j.k, .int .i64 j.n, .string j.t, .slice A4 j.its.length c4, .slice A5 j.ks.length c5] 25)).heap.size (w.alloc (.cells #[.int .i64 j.k, .int .i64 j.n, .string j.t, .slice A4 j.its.length c4, .slice A5 j.ks.length c5] 25)) w4) := SVW.out.trans (S2.out.mono (by rw [ZW0.out]; exact z))
     cases o with
     | none =>
      have Z : Hid (R = none) := HBR.out
      have B2' := Lib.hid b4
      have bl : Hid (Sav g g w.heap.size w (w4.alloc (.cells #[.int .i64 vk, .int .i64 vn, .int .u64 vb, .slice Z3' z3 x3, .slice Z4 z4 x4, .slice Z5 z5 x5] 42))) := (Sav.of BW0.out).trans ((S3.out.mono BW0.out.size).trans (Sav.of ((Below.refl _ _).alloc (by omega) _)))
      clear hv hz b4 sv4
      go_wp2_with fail
      go_ret2
      exact lp_no Z.out rfl bl.out (B2.alloc B2'.out _)
     | some vl =>
      obtain ⟨vx, lx⟩ := vl
      obtain rfl := hz vx lx rfl
      have LV := hv vx rfl
      have HBR2 : Hid (R = dgo (fun f => B f.ty (said j f)) (fs.drop (i + 1)) lx (acc ++ [vx])) := HBR.out
      have TW2 := Lib.hid (TWc.out.go sv4 (by rw [← HNN.out]; exact b4) (HLF.out vx lx rfl))
      have G2 := Lib.hid (((GX.out.below BV0.out).below B13.out).sav (r' := g) (by have := LG.out; omega) (fun _ h => h.elim) sv4 (.inl rfl))
      have OWN : Hid (∀ b, some b = (u10).ownBlock → b < wr.heap.size) := fun b hb => (GX.out.own hb.symm).2.1
      have B3 : Hid (Below w4.heap.size w4 (w4.alloc (.cells #[.int .i64 vk, .int .i64 vn, .int .u64 vb, .slice Z3' z3 x3, .slice Z4 z4 x4, .slice Z5 z5 x5] 42))) := (Below.refl _ _).alloc (Nat.le_refl _) _
      have V3 : Hid (B6 (w4.alloc (.cells #[.int .i64 vk, .int .i64 vn, .int .u64 vb, .slice Z3' z3 x3, .slice Z4 z4 x4, .slice Z5 z5 x5] 42)) w4.heap.size 42 (.int .i64 vk) (.int .i64 vn) (.int .u64 vb) (.slice Z3' z3 x3) (.slice Z4 z4 x4) (.slice Z5 z5 x5)) := B6.newat rfl
      have Z5' : Hid ((w4.alloc (.cells #[.int .i64 vk, .int .i64 vn, .int .u64 vb, .slice Z3' z3 x3, .slice Z4 z4 x4, .slice Z5 z5 x5] 42)).heap.size = w4.heap.size + 1) := by show _ = _; simp
      have LD : Hid (Lies (w4.alloc (.cells #[.int .i64 vk, .int .i64 vn, .int .u64 vb, .slice Z3' z3 x3, .slice Z4 z4 x4, .slice Z5 z5 x5] 42)) (fun b => (False ∨ w.heap.size + 1 ≤ b) ∧ b < (w4.alloc (.cells #[.int .i64 vk, .int .i64 vn, .int .u64 vb, .slice Z3' z3 x3, .slice Z4 z4 x4, .slice Z5 z5 x5] 42)).heap.size ∧ some b ≠ (u10).ownBlock ∧ b ≠ g) vx.enc [.int .i64 vk, .int .i64 vn, .int .u64 vb, .slice Z3' z3 x3, .slice Z4 z4 x4, .slice Z5 z5 x5]) := LV.keep (fun p hp => B3.out.cell hp.2) fun b hb => ⟨.inr (by have := hb.1; rw [Z3.out] at this; omega), by have := hb.2; rw [Z5'.out]; omega, (fun e => by have := OWN.out b e; have := hb.1; rw [Z3.out] at this; omega), by have := hb.1; rw [Z3.out] at this; omega⟩
      have G3 := Lib.hid (G2.out.below B3.out)
      have TW3 := Lib.hid (TW2.out.below B3.out (by have := TW2.out.blk.lt; exact this))
      have S4 : Hid (Sav g g (w.alloc (.cells #[.int .i64 j.k, .int .i64 j.n, .string j.t, .slice A4 j.its.length c4, .slice A5 j.ks.length c5] 25)).heap.size (w.alloc (.cells #[.int .i64 j.k, .int .i64 j.n, .string j.t, .slice A4 j.its.length c4, .slice A5 j.ks.length c5] 25)) (w4.alloc (.cells #[.int .i64 vk, .int .i64 vn, .int .u64 vb, .slice Z3' z3 x3, .slice Z4 z4 x4, .slice Z5 z5 x5] 42))) := S3.out.trans (Sav.of (B3.out.mono (by rw [ZW0.out]; omega)))
      have lb3 : Hid (g < (w4.alloc (.cells #[.int .i64 vk, .int .i64 vn, .int .u64 vb, .slice Z3' z3 x3, .slice Z4 z4 x4, .slice Z5 z5 x5] 42)).heap.size) := by show _ < _; rw [Z5'.out]; omega
      have lb4 : Hid (w.heap.size + 1 ≤ (w4.alloc (.cells #[.int .i64 vk, .int .i64 vn, .int .u64 vb, .slice Z3' z3 x3, .slice Z4 z4 x4, .slice Z5 z5 x5] 42)).heap.size) := by show _ ≤ _; rw [Z5'.out]; omega
      clear hv hz b4 sv4 LV HBR OWN TW1 GX G2 TW2
      obtain ⟨_, _, _, _, _, _, _, _, _, _, _, _⟩ := B6.facts V3.out
      go_wp2_with (at_builtin; go_loud (refine wpList_gax _ valueT rfl (.tmp 45) (.tmp 47) rfl (fun _ => False) (w.heap.size + 1) g u10 _ rfl G3.out 1 #[.int .i64 vk, .int .i64 vn, .int .u64 vb, .slice Z3' z3 x3, .slice Z4 z4 x4, .slice Z5 z5 x5] (by simp [Act.eval]) rfl (by simp [Value.oneCell']) (by rw [List.length_map, HAL.out]; omega) lb4.out lb3.out _ LD.out ?_); intro v5 w6 g5 b5 k5 o5)
      have UN : Hid (LsR (fun f => B f.ty (said j f)) s A c g (w.alloc (.cells #[.int .i64 j.k, .int .i64 j.n, .string j.t, .slice A4 j.its.length c4, .slice A5 j.ks.length c5] 25)) R fs (i + 1) v5 w6) := ⟨lx, acc ++ [vx], HBR2.out, TW3.out.below b5 (by have := LG.out; omega), S4.out.trans (Sav.of (by rw [ZW0.out]; exact b5)), by rw [List.map_append, ZW0.out]; exact g5, by rw [List.length_append, HAL.out]; rfl⟩
      clear k5 o5 g5 b5
      go_wp2_with fail
      go_roundw
      case rel => exact ⟨i + 1, by omega, by go_num, UN⟩
      case measure => simp [intOf]; omega
  · obtain rfl : i = n := by omega
    have q : ¬ (i : Int) < (i : Int) := by omega
    have DR : fs.drop i = [] := List.drop_eq_nil_of_le (by rw [← HN.out]; exact Nat.le_refl _)
    have Z : Hid (R = some (acc, lf)) := by show _ = _; rw [hbr, DR]; rfl
    have TB : Hid (B2 wr g 119 (.slice A nn c) (.int .i64 (lf : Int))) := by rw [HNN.out]; exact tw.blk
    have GX := Lib.hid gx
    have SVW : Hid (Sav g g w.heap.size w wr) := (Sav.of BW0.out).trans (sv.mono (Nat.le_succ _))
    clear hbr tw gx sv HU DR hal
    go_wp2_with fail
    go_ret2
    exact lp_yes Z.out rfl (Nat.le_succ _) SVW.out TB.out GX.out
end Go.Proofs.YthfoomobicbcpaaGreatDoor
