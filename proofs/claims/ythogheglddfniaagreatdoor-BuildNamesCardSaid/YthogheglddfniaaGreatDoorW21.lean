/- Joined by tools/bundle.py: BC17 BdX JlexA. -/
import Derived.Laws.Externs
import Derived.Lib.Bytealg
import Derived.KernelRfl
import Derived.Test.YthogheglddfniaaGreatDoorW2
import Derived.Test.YthogheglddfniaaGreatDoorW6
import Derived.Test.YthogheglddfniaaGreatDoorW10
import Derived.Test.YthogheglddfniaaGreatDoorW18
import Derived.Test.YthogheglddfniaaGreatDoorW19
import Derived.Test.YthogheglddfniaaGreatDoorW20
import Derived.Test.YthogheglddfniaaGreatDoorW0
set_option maxRecDepth 100000
set_option maxHeartbeats 16000000
namespace Go.Proofs.YthogheglddfniaaGreatDoor
open Go.ChangeShapes Go.WideShapes Go.ChangeAt Go.RowKit Mem
theorem post_S2 {fn : Func} {R : Ending → World → Prop} {a : Act} {w : World} {t u : Tmp} {g : Nat} {x0 x1 : Value} (hf : fn.results = #[.cell t 30, .tmp u]) (hd : a.defers = [])
 (hg : a.tmps.getD t undef = .pointer (some ⟨g, 0, none⟩)) (h0 : w.cell? ⟨g, 0, none⟩ = some x0) (h1 : w.cell? ⟨g, 1, none⟩ = some x1)
 (hR : R (.returned (.tuple #[.agg #[x0, x1], a.tmps.getD u undef])) w) : bodyPost Tryz.prog fn R .ret a w := by
 refine bodyPost_ret ?_ hd hR
 rw [Array.getD_eq_getD_getElem?] at hg
 simp [results, hf, hg, go_sem, h0, h1]
def NewSc (l : Nat) (ns : List Nd) (A : Option Addr) (c : Nat) (w : World) : Prop := ∃ S : Nat → Prop, (∀ b, S b → l ≤ b ∧ b < w.heap.size) ∧ Lies w S (Sc.enc ⟨ns, 0⟩) [.slice A ns.length c, .int .i64 0]
theorem NewSc.below {l : Nat} {ns : List Nd} {A : Option Addr} {c : Nat} {w w' : World} (h : NewSc l ns A c w) (b : Below w.heap.size w w') : NewSc l ns A c w' := by
 obtain ⟨S, h1, h2⟩ := h
 exact ⟨S, fun k hk => ⟨(h1 k hk).1, Nat.lt_of_lt_of_le (h1 k hk).2 b.size⟩, h2.keep (fun p hp => b.cell (h1 _ hp).2) fun _ h => h⟩
theorem NewSc.lies {l : Nat} {ns : List Nd} {A : Option Addr} {c : Nat} {w : World} (h : NewSc l ns A c w) : Lies w (· < w.heap.size) (Sc.enc ⟨ns, 0⟩) [.slice A ns.length c, .int .i64 0] := by
 obtain ⟨S, h1, h2⟩ := h
 exact h2.keep (fun _ _ => rfl) fun k hk => (h1 k hk).2
theorem NewSc.set {l : Nat} {ns : List Nd} {A : Option Addr} {c : Nat} {w : World} (h : NewSc l ns A c w) {p : Addr} (hp : p.block < l) (u : Value) : NewSc l ns A c (w.setCell p u) := by
 obtain ⟨S, h1, h2⟩ := h
 exact ⟨S, fun k hk => ⟨(h1 k hk).1, by simp [World.setCell]; exact (h1 k hk).2⟩, h2.keep (fun q hq => World.cell?_setCell_other w _ _ _ (fun e => by have := (h1 _ hq).1; rw [← e] at this; omega)) fun _ h => h⟩
theorem NewSc.less {l l' : Nat} {ns : List Nd} {A : Option Addr} {c : Nat} {w : World} (h : NewSc l ns A c w) (hl : l' ≤ l) : NewSc l' ns A c w := by
 obtain ⟨S, h1, h2⟩ := h
 exact ⟨S, fun k hk => ⟨Nat.le_trans hl (h1 k hk).1, (h1 k hk).2⟩, h2⟩
def BldP (R : Except Int (List Nd)) (w : World) (e : Ending) (w' : World) : Prop :=
 Below w.heap.size w w' ∧ (∀ z, R = .error z → z ≠ 0 ∧ e = .returned (.tuple #[.agg #[.slice none 0 0, .int .i64 0], .int .i64 z])) ∧ ∀ ns, R = .ok ns → ∃ A c, e = .returned (.tuple #[.agg #[.slice A ns.length c, .int .i64 0], .int .i64 0]) ∧ NewSc w.heap.size ns A c w'
theorem bldp_no {R : Except Int (List Nd)} {z : Int} {w w' : World} (h : R = .error z) (hz : z ≠ 0) (b : Below w.heap.size w w') : BldP R w (.returned (.tuple #[.agg #[.slice none 0 0, .int .i64 0], .int .i64 z])) w' :=
 ⟨b, (fun y hy => by rw [h] at hy; injection hy with hy; subst hy; exact ⟨hz, rfl⟩), fun ns hl => by rw [h] at hl; cases hl⟩
theorem bldp_yes {R : Except Int (List Nd)} {ns : List Nd} {A : Option Addr} {c : Nat} {w w' : World} (h : R = .ok ns) (b : Below w.heap.size w w') (k : NewSc w.heap.size ns A c w') : BldP R w (.returned (.tuple #[.agg #[.slice A ns.length c, .int .i64 0], .int .i64 0])) w' :=
 ⟨b, (fun y hy => by rw [h] at hy; cases hy), fun ns' hl => by rw [h] at hl; injection hl with hl; subst hl; exact ⟨A, c, rfl, k⟩⟩
theorem build_any (j : J) (hw : j.wt ≤ 2500) (hd : j.deep ≤ 1000000) (w : World) (hL : LaidN w) (A3 A4 : Option Addr) (c3 c4 : Nat) (ht : TreeC w w.heap.size j [.int .i64 j.k, .int .i64 j.n, .string j.t, .slice A3 j.its.length c3, .slice A4 j.ks.length c4]) (R : Except Int (List Nd)) (hR : R = bbuild j) :
 Calls Tryz.prog 9 #[.agg #[.int .i64 j.k, .int .i64 j.n, .string j.t, .slice A3 j.its.length c3, .slice A4 j.ks.length c4]] w (BldP R w) := by
 have CS := cell_set
 obtain ⟨w0, hw0⟩ : ∃ W, W = ((w.alloc (.cells #[.int .i64 j.k, .int .i64 j.n, .string j.t, .slice A3 j.its.length c3, .slice A4 j.ks.length c4] 25)).alloc (.cells #[.slice none 0 0, .int .i64 0] 30)) := ⟨_, rfl⟩
 have b0 : Below w.heap.size w w0 := by rw [hw0]; (repeat' (first | with_reducible assumption | with_reducible exact Below.refl _ _ | (with_reducible refine Below.alloc ?_ ?_ _; rotate_left; focus ((first | exact Nat.le_refl _ | (simp; done) | (simp; omega) | omega | fail))) | (with_reducible refine Below.setCell ?_ ?_ _; rotate_left; focus ((first | exact Nat.le_refl _ | (simp; done) | (simp; omega) | omega | fail))) | with_reducible refine Mem.bel_drewN ?_ _ | with_reducible refine Below.drew ?_ | (with_reducible refine Mem.bel_call (by with_reducible assumption) ?_ ?_; focus ((first | exact Nat.le_refl _ | (simp; done) | (simp; omega) | omega | fail))) | fail))
 have J0 : Hid (B5 w0 w.heap.size 25 (.int .i64 j.k) (.int .i64 j.n) (.string j.t) (.slice A3 j.its.length c3) (.slice A4 j.ks.length c4)) := by rw [hw0]; exact (B5.newat rfl).alloc _
 have S0 : Hid (B2 w0 (w.heap.size + 1) 30 (.slice none 0 0) (.int .i64 0)) := by rw [hw0]; exact B2.newat (by simp)
 have RI := jRight_any j (by omega) hd w0 (LaidN.below hL b0) A3 A4 c3 c4 (TreeS.keep (fun p hp => b0.cell hp) (fun b hb => Nat.lt_of_lt_of_le hb b0.size) ht)
 have J0e := J0.out; have S0e := S0.out
 have HW0 := Lib.hid hw0
 rw [hw0] at RI J0e S0e
 replace RI := Lib.hid RI
 have HTr : Hid (∀ W, Below w.heap.size w W → TreeS W (· < w.heap.size) j [.int .i64 j.k, .int .i64 j.n, .string j.t, .slice A3 j.its.length c3, .slice A4 j.ks.length c4]) := fun W b => TreeS.keep (fun p hp => b.cell hp) (fun _ h => h) ht
 have HL : Hid (∀ W, Below w.heap.size w W → LaidN W) := fun W b => LaidN.below hL b
 have HR := Lib.hid hR
 have HTop : Hid (5 < w.heap.size) := hL.top
 obtain ⟨_, _, _, _, _, _, _, _, _, _⟩ := B5.facts J0e
 obtain ⟨_, _, _, _⟩ := B2.facts S0e
 have sl := S0.out.lt
 clear hw0 J0e S0e hR hL ht
 generalize hrb : j.rightb = rb at *
 go_enter Tryz.func9, Tryz.ntmps9
 go_wp2_with fail
 with_reducible refine RI.out.mono ?_
 rintro e w1 ⟨rfl, b1⟩
 rw [← HW0.out] at b1
 have s1 := b1.size
 have bw1 : Below w.heap.size w w1 := b0.trans (b1.mono b0.size)
 have S1 := Lib.hid (B2.below S0.out b1 S0.out.lt)
 have J1 := Lib.hid (B5.below J0.out b1 J0.out.lt)
 have sl1 := S1.out.lt
 cases rb with
 | false =>
  have Z : Hid (R = .error 2) := by show _ = _; rw [HR.out]; unfold bbuild; rw [hrb]; rfl
  obtain ⟨_, _, _, _⟩ := B2.facts S1.out
  clear RI HTr HL HR hrb J1 J0 S0 b1 b0
  go_wp2_with fail
  try simp only [Exit.inBlock, Exit.then]
  refine post_S2 (x0 := .slice none 0 0) (x1 := .int .i64 0) rfl rfl rfl (by go_simp) (by go_simp) ?_
  exact bldp_no Z.out (by decide) bqq
 | true =>
 have jr := J.rightb_iff.1 hrb
 have QN : Qn 33 j := ⟨.inl ⟨jr.2, jr.1⟩, Nat.lt_succ_of_le jr.1, by omega⟩
 obtain ⟨w2, hw2⟩ : ∃ W, W = (w1.alloc (.cells #[.slice none 0 0, .int .i64 0] 52)) := ⟨_, rfl⟩
 have b12 : Below w1.heap.size w1 w2 := by rw [hw2]; exact (Below.refl _ _).alloc (Nat.le_refl _) _
 have bw2 : Below w.heap.size w w2 := bw1.trans (b12.mono bw1.size)
 have z2 : w2.heap.size = w1.heap.size + 1 := by rw [hw2]; simp
 have MK2 : MkW (fun _ => False) w2 w1.heap.size w1.heap.size [] := ⟨by rw [hw2]; exact Mkr.new_ _ _ _, HL.out w2 bw2, by have := HTop.out; have := bw1.size; omega, by simp, fun _ h => h.elim⟩
 have HM2 := Lib.hid MK2
 have NC := node_any 33 j ⟨#[]⟩ (fun _ => False) w1.heap.size w1.heap.size [] w2 (· < w.heap.size) QN (by decide) MK2 (fun b hb => Nat.lt_of_lt_of_le hb bw1.size) A3 A4 c3 c4 (HTr.out w2 bw2)
 have S2 := Lib.hid (B2.below S1.out b12 S1.out.lt)
 have J2 := Lib.hid (B5.below J1.out b12 J1.out.lt)
 have HW2 := Lib.hid hw2
 have J2e := J2.out
 rw [hw2] at NC J2e
 replace NC := Lib.hid NC
 obtain ⟨_, _, _, _, _, _, _, _, _, _⟩ := B5.facts J2e
 have HJ := Lib.hid jr
 have HB : Hid (R = match bnode 33 [] j ⟨#[]⟩ with
  | .error e => .error e
  | .ok (ext, _) => if (List.range ext.length).all (fun i => decide (Sc.wt ⟨ext, 0⟩ i ≤ 1000)) = true then .ok ext else .error 3) := by show _ = _; rw [HR.out]; unfold bbuild; rw [hrb]; rfl
 clear hw2 J2e RI HTr HL HR hrb J1 J0 S0 b1 b0 MK2 QN jr
 go_wp2_with fail
 with_reducible refine NC.out.mono ?_
 rintro e w3 hp
 rw [← HW2.out] at hp
 rw [List.map_nil] at hp
 cases hb : bnode 33 [] j ⟨#[]⟩ with
 | error z =>
  rw [hb] at hp HB
  obtain ⟨pl, rfl, hz, sv⟩ := hp.no rfl
  have Z : Hid (R = .error z) := HB.out
  have HZ := Lib.hid hz
  have qz : (z != 0) = true := by rw [bne_iff_ne]; exact hz
  have qz2 : (z == 0) = false := by rw [beq_eq_false_iff_ne]; exact hz
  have S3 : Hid (B2 w3 (w.heap.size + 1) 30 (.slice none 0 0) (.int .i64 0)) := blk_sav S2.out sv (by omega) (by omega)
  have bw3 : Below w.heap.size w w3 := bw2.trans (sv.bel (by have := bw1.size; omega) (by have := bw1.size; omega) bw2.size)
  obtain ⟨_, _, _, _⟩ := B2.facts S3.out
  have sl3 := S3.out.lt
  clear hp hz sv hb NC HB S3 S2 J2 S1
  go_wp2_with fail
  try simp only [Exit.inBlock, Exit.then]
  refine post_S2 (x0 := .slice none 0 0) (x1 := .int .i64 0) rfl rfl rfl (by go_simp) (by go_simp) ?_
  exact bldp_no Z.out HZ.out bqq
 | ok q =>
 obtain ⟨ext, p⟩ := q
 rw [hb] at hp HB
 obtain ⟨rfl, sv, r', m, hr, hl⟩ := hp.yes rfl
 rw [List.nil_append] at m hl
 have bu := built ⟨HJ.out.2, HJ.out.1⟩ hb
 obtain ⟨_, n1, n2, mt, ok, nd⟩ := bu
 have ord : (⟨ext, 0⟩ : Sc).ordered := ⟨n1, n2, rfl, mt⟩
 have sm : (⟨ext, 0⟩ : Sc).sm := right_sm ⟨n2, ok⟩ (bnode_df 2500 33 [] j ⟨#[]⟩ ext p hw hb)
 have EW : ((List.range ext.length).all fun i => decide (Sc.wt ⟨ext, 0⟩ i ≤ 1000)) = wgh ext := by
  unfold wgh
  apply Bool.eq_iff_iff.2
  rw [List.all_eq_true, List.all_eq_true]
  constructor
  · intro h i hi
    rw [Sc.weight_in ord (List.mem_range.1 hi)]; exact h i hi
  · intro h i hi
    have := h i hi
    rwa [Sc.weight_in ord (List.mem_range.1 hi)] at this
 have HB2 : Hid (R = if wgh ext = true then .ok ext else .error 3) := by show _ = _; rw [HB.out]; dsimp only; rw [EW]
 have MK3 : MkW (fun _ => False) w3 w1.heap.size r' ext := by
  have := HM2.out.go sv m hl hr
  exact this
 have WG := Lib.hid (weigh_any w1.heap.size r' ext w3 MK3 sm)
 have HSM := Lib.hid sm
 have HM3 := Lib.hid MK3
 have S3 : Hid (B2 w3 (w.heap.size + 1) 30 (.slice none 0 0) (.int .i64 0)) := blk_sav S2.out sv (by omega) (by omega)
 have bw3 : Below w.heap.size w w3 := bw2.trans (sv.bel (by have := bw1.size; omega) (by have := bw1.size; omega) bw2.size)
 have s3 := sv.size
 clear hp sv hb NC HB S2 J2 S1 EW ord sm MK3 nd ok mt hr m
 generalize wgh ext = wg at *
 go_wp2_with fail
 with_reducible refine WG.out.mono ?_
 rintro e w4 ⟨rfl, b4⟩
 have s4 := b4.size
 have bw4 : Below w.heap.size w w4 := bw3.trans (b4.mono bw3.size)
 have S4 := Lib.hid (B2.below S3.out b4 S3.out.lt)
 have sl4 := S4.out.lt
 cases wg with
 | false =>
  have Z : Hid (R = .error 3) := by show _ = _; rw [HB2.out]; rfl
  obtain ⟨_, _, _, _⟩ := B2.facts S4.out
  clear WG HB2 S3 S4 b4
  go_wp2_with fail
  try simp only [Exit.inBlock, Exit.then]
  refine post_S2 (x0 := .slice none 0 0) (x1 := .int .i64 0) rfl rfl rfl (by go_simp) (by go_simp) ?_
  exact bldp_no Z.out (by decide) bqq
 | true =>
 have Z : Hid (R = .ok ext) := by show _ = _; rw [HB2.out]; rfl
 obtain ⟨A, c, hB2, hc, _, _, hLi⟩ := (HM3.out.mkr.below b4).out
 have CP := Lib.hid (sCopy_any ⟨ext, 0⟩ HSM.out w4 A c hLi)
 dsimp only at CP
 obtain ⟨nl, hnl⟩ : ∃ n, n = ext.length := ⟨_, rfl⟩
 rw [← hnl] at CP hB2
 have HNL := Lib.hid hnl
 obtain ⟨_, _, _, _⟩ := B2.facts hB2
 clear WG HB2 S3 b4 hB2 hLi hnl
 go_wp2_with fail
 with_reducible refine CP.out.mono ?_
 rintro e w5 ⟨v, rfl, cp, b5⟩
 have s5 := b5.size
 have bw5 : Below w.heap.size w w5 := bw4.trans (b5.mono bw4.size)
 have S5 := Lib.hid (B2.below S4.out b5 S4.out.lt)
 have sl5 := S5.out.lt
 obtain ⟨A', c', S', ev, hS', hL', _⟩ := cp
 dsimp only at ev hL'
 rw [← HNL.out] at ev
 subst ev
 have NS : Hid (NewSc (w.heap.size + 2) ext A' c' w5) := ⟨S', fun b hb => ⟨by have := (hS' b hb).1; omega, (hS' b hb).2⟩, hL'⟩
 obtain ⟨_, _, _, _⟩ := B2.facts S5.out
 clear CP hS' hL' S5 S4 b5
 go_wp2_with fail
 try simp only [Exit.inBlock, Exit.then]
 refine post_S2 (x0 := .slice A' nl c') (x1 := .int .i64 0) rfl rfl rfl (by go_simp) (by go_simp) ?_
 rw [HNL.out]
 exact bldp_yes Z.out bqq (((NS.out.set (p := ⟨w.heap.size + 1, 0, none⟩) (by show w.heap.size + 1 < _; omega) _).set (p := ⟨w.heap.size + 1, 1, none⟩) (by show w.heap.size + 1 < _; omega) _).less (by omega))
end Go.Proofs.YthogheglddfniaaGreatDoor
namespace Go.Proofs.YthogheglddfniaaGreatDoor
open Num
theorem cU_ascii : ∀ (l : List UInt8), (∀ x ∈ l, x.toNat < 128) → (cU l).isSome = true
 | [], _ => by rw [cU_nil]; rfl
 | x :: r, h => by
  have hx := h x (by simp)
  have a : Num.ask x.toNat = 1 := by unfold Num.ask; rw [if_neg (by omega), if_neg (by omega), if_neg (by omega), if_neg (by omega), if_pos hx]
  have f : Num.fst (x :: r) = (x.toNat - Num.mark 1, 1, 0) := by rw [Num.fst_cons, a, if_neg (by decide)]; rfl
  rw [cU_go f, Option.isSome_map]
  exact cU_ascii r fun y hy => h y (by simp [hy])
theorem bld_ok {ns : List Nd} {j : J} {p : Nat} (hr : j.rightb = true) (h : bnode 33 [] j ⟨#[]⟩ = .ok (ns, p)) (hw : ∀ i, Sc.wt ⟨ns, 0⟩ i ≤ 1000) : bbuild j = .ok ns := by
 unfold bbuild
 rw [if_pos hr, h]
 exact if_pos (by rw [List.all_eq_true]; intro i _; rw [decide_eq_true_eq]; exact hw i)
theorem bld_no {j : J} {e : Int} (hr : j.rightb = true) (h : bnode 33 [] j ⟨#[]⟩ = .error e) : bbuild j = .error e := by
 unfold bbuild
 rw [if_pos hr, h]
theorem bld_arg {j : J} (hr : ¬ j.rightb = true) : bbuild j = .error 2 := by unfold bbuild; rw [if_neg hr]
theorem wt_one (n : Nd) (hk : n.k ≠ 9) (i : Nat) : Sc.wt ⟨[n], 0⟩ i ≤ 1000 := by
 rw [Sc.wt_fix, if_neg]
 · omega
 · rw [kind_er]
   show ¬ kindK [er n] i = 9
   unfold kindK
   cases i with
   | zero => exact hk
   | succ i => simp
def jText (t : ByteArray) : J := .mk 4 0 t [] []
def jWord (t : ByteArray) : J := .mk 6 0 Jp.nil_ [jText t] [kType]
theorem text_deep (t : ByteArray) : (jText t).deep = 0 := J.deep_out (by show ¬ ((4 : Int) = 5 ∨ (4 : Int) = 6); decide)
theorem word_rightB {t : ByteArray} : (jWord t).rightb = (jText t).rightb := by
 have d : (jWord t).deep = 1 := by
  rw [J.deep_in (.inr rfl)]
  show J.deeps [jText t] = 1
  rw [J.deeps, J.deeps, text_deep]
  rfl
 have f : (jWord t).frm ↔ (jText t).frm := by
  unfold jWord J.frm J.frms J.frms
  have n : (cU Jp.nil_.data.toList).isSome = true := by show (cU []).isSome = true; rw [cU_nil]; rfl
  have k : (cU kType.data.toList).isSome = true := cU_ascii _ (by decide)
  constructor
  · rintro ⟨_, _, _, _, _, _, _, _, _, _, _, h, _⟩; exact h
  · intro h
    exact ⟨by omega, by omega, fun _ _ => rfl, fun g => by omega, fun _ => rfl, n, fun g => by omega, fun g => absurd rfl g, fun _ => rfl, fun x hx => by obtain rfl := List.mem_singleton.1 hx; exact k, by simp, h, trivial⟩
 rw [Bool.eq_iff_iff, J.rightb_iff, J.rightb_iff, d, f, text_deep]
 simp
theorem word_get {t k : ByteArray} (h : k ≠ kType) : (jWord t).get k = none := by
 unfold J.get jWord
 simp only [J.k, J.ks, J.its, if_true]
 unfold place7
 rw [List.findIdx?_cons]
 simp [Ne.symm h]
theorem word_node (t : ByteArray) : (∃ k : Int, 1 ≤ k ∧ k ≤ 8 ∧ bnode 33 [] (jText t) ⟨#[]⟩ = .ok ([Nd.z k], 0) ∧ bnode 33 [] (jWord t) ⟨#[]⟩ = .ok ([Nd.z k], 0)) ∨ ((∃ e, bnode 33 [] (jText t) ⟨#[]⟩ = .error e) ∧ ∃ e, bnode 33 [] (jWord t) ⟨#[]⟩ = .error e) := by
 have h1 : bnode 33 [] (jText t) ⟨#[]⟩ = bword [] t ⟨#[]⟩ := by
  show (if (4 : Int) = 4 then _ else _) = _
  rw [if_pos rfl]; rfl
 have hg : txt ((jWord t).get kType) = some t := by
  unfold J.get jWord
  simp only [J.k, J.ks, J.its, if_true]
  unfold place7
  rw [List.findIdx?_cons]
  simp [txt, jText, J.k, J.t]
 have h2 : bnode 33 [] (jWord t) ⟨#[]⟩ = if kindB t = 11 then bmany (bnode 32) [] (jWord t) ⟨#[]⟩ 11 kItems else if kindB t = 12 then bmany (bnode 32) [] (jWord t) ⟨#[]⟩ 12 kValues
  else if named (kindB t) = true then bnamed (bnode 32) [] (jWord t) ⟨#[]⟩ (kindB t) else bword [] t ⟨#[]⟩ := by
  show (if (6 : Int) = 4 then _ else if (6 : Int) = 5 then _ else _) = _
  rw [if_neg (by decide), if_neg (by decide), hg]
 have hb : (1 ≤ kindB t ∧ kindB t ≤ 8 ∧ bword [] t ⟨#[]⟩ = .ok ([Nd.z (kindB t)], 0)) ∨ (¬ (1 ≤ kindB t ∧ kindB t ≤ 8) ∧ ∃ e, bword [] t ⟨#[]⟩ = .error e) := by
  unfold bword
  by_cases hk : 1 ≤ kindB t ∧ kindB t ≤ 8
  · exact .inl ⟨hk.1, hk.2, by rw [if_pos hk, if_neg (by simp)]; rfl⟩
  · refine .inr ⟨hk, ?_⟩
    rw [if_neg hk]
    rcases joinB ⟨#[]⟩ t with _ | u
    · exact ⟨31, rfl⟩
    · exact ⟨33, rfl⟩
 rw [h1, h2]
 rcases hb with ⟨k1, k2, e⟩ | ⟨hk, e, he⟩
 · refine .inl ⟨(kindB t : Int), by omega, by omega, e, ?_⟩
   rw [if_neg (by omega), if_neg (by omega), if_neg (by unfold named; simp; omega), e]
 · refine .inr ⟨⟨e, he⟩, ?_⟩
   by_cases g11 : kindB t = 11
   · rw [if_pos g11]; exact ⟨30, by unfold bmany; rw [word_get (by decide)]⟩
   · rw [if_neg g11]
     by_cases g12 : kindB t = 12
     · rw [if_pos g12]; exact ⟨30, by unfold bmany; rw [word_get (by decide)]⟩
     · rw [if_neg g12]
       by_cases gn : named (kindB t) = true
       · rw [if_pos gn]; exact ⟨30, by unfold bnamed bhead; rw [word_get (by decide)]; rfl⟩
       · rw [if_neg gn]; exact ⟨e, he⟩
theorem words_built (t : ByteArray) : (∃ k : Int, 1 ≤ k ∧ k ≤ 8 ∧ bbuild (jText t) = .ok [Nd.z k] ∧ bbuild (jWord t) = .ok [Nd.z k]) ∨ ((∃ e, bbuild (jText t) = .error e) ∧ ∃ e, bbuild (jWord t) = .error e) := by
 by_cases hr : (jText t).rightb = true
 · have hr2 : (jWord t).rightb = true := by rw [word_rightB]; exact hr
   rcases word_node t with ⟨k, k1, k2, e1, e2⟩ | ⟨⟨e, h1⟩, e', h2⟩
   · have w := wt_one (Nd.z k) (by show k ≠ 9; omega)
     exact .inl ⟨k, k1, k2, bld_ok hr e1 w, bld_ok hr2 e2 w⟩
   · exact .inr ⟨⟨e, bld_no hr h1⟩, e', bld_no hr2 h2⟩
 · exact .inr ⟨⟨2, bld_arg hr⟩, 2, bld_arg (by rw [word_rightB]; exact hr)⟩
end Go.Proofs.YthogheglddfniaaGreatDoor
namespace Go.Proofs.YthogheglddfniaaGreatDoor
open Go.ChangeShapes Go.WideShapes Go.ChangeAt Go.RowKit Mem
def place (S : List UInt8) (x : Nat) : Int := Lib.indexByte S (UInt8.ofNat x)
theorem place_run (s : ByteArray) (x : Nat) (w : World) : (callFunc 181 #[.string s, .int .u8 (x : Int)]).run Tryz.prog w = .ok (.value (.int .i64 (place s.data.toList x))) w :=
 (run_callFunc_extern (e := Extern.BytealgIndexByte.indexByte) Tryz.func181 (by kernel_rfl) (by kernel_rfl) (by kernel_rfl) (by kernel_rfl) _ w).trans (by rw [Lib.run_indexByteString]; rfl)
theorem placeL_any (s : ByteArray) (x : Nat) (w : World) : Calls Tryz.prog 165 #[.string s, .int .u8 (x : Int)] w fun e w' => e = .returned (.int .i64 (place s.data.toList x)) ∧ w = w' := by
 have pr := place_run s x w
 generalize place s.data.toList x = I at *
 go_enter Tryz.func165, Tryz.ntmps165
 go_wp2
 all_goals go_ret
 exact ⟨rfl, rfl⟩
theorem place_any (s : ByteArray) (x : Nat) (w : World) : Calls Tryz.prog 147 #[.string s, .int .u8 (x : Int)] w fun e w' => e = .returned (.int .i64 (place s.data.toList x)) ∧ w = w' := by
 have pl := Lib.hid (placeL_any s x)
 generalize place s.data.toList x = I at *
 go_enter Tryz.func147, Tryz.ntmps147
 go_wp2_with fail
 refine (pl.out _).mono ?_
 rintro e w1 ⟨rfl, rfl⟩
 go_wp2_with fail
 all_goals go_ret
 exact ⟨rfl, rfl⟩
theorem place_signs : ∀ x : Nat, x < 256 → place [123, 125, 91, 93, 58, 44] x = (Jx.punct x : Int) - 1 := by
 have h : ∀ x : Fin 256, place [123, 125, 91, 93, 58, 44] x.val = (Jx.punct x.val : Int) - 1 := by decide +kernel
 exact fun x hx => h ⟨x, hx⟩
theorem place_point : ∀ x : Nat, x < 256 → (0 ≤ place [46, 101, 69] x ↔ x = 46 ∨ x = 101 ∨ x = 69) := by
 have h : ∀ x : Fin 256, (0 ≤ place [46, 101, 69] x.val ↔ x.val = 46 ∨ x.val = 101 ∨ x.val = 69) := by decide +kernel
 exact fun x hx => h ⟨x, hx⟩
theorem place_hex : ∀ x : Nat, x < 256 → place [48, 49, 50, 51, 52, 53, 54, 55, 56, 57, 97, 98, 99, 100, 101, 102] (if 65 ≤ x ∧ x ≤ 70 then x + 32 else x) = Jx.hex x := by
 have h : ∀ x : Fin 256, place [48, 49, 50, 51, 52, 53, 54, 55, 56, 57, 97, 98, 99, 100, 101, 102] (if 65 ≤ x.val ∧ x.val ≤ 70 then x.val + 32 else x.val) = Jx.hex x.val := by decide +kernel
 exact fun x hx => h ⟨x, hx⟩
theorem white_any (x : Nat) (w : World) : Calls Tryz.prog 121 #[.int .u8 (x : Int)] w fun e w' => e = .returned (.bool (Jx.isW x)) ∧ w = w' := by
 by_cases h : x = 32 ∨ x = 9 ∨ x = 10 ∨ x = 13
 · have e : Jx.isW x = true := by unfold Jx.isW; simpa using h
   rw [e]
   clear e
   rcases h with rfl | rfl | rfl | rfl
   all_goals
    go_enter Tryz.func121, Tryz.ntmps121
    go_wp2_with fail
    all_goals go_ret
    all_goals exact ⟨rfl, rfl⟩
 · have e : Jx.isW x = false := by unfold Jx.isW; simpa using h
   have q1 : ((x : Int) == 32) = false := by simp; omega
   have q2 : ((x : Int) == 9) = false := by simp; omega
   have q3 : ((x : Int) == 10) = false := by simp; omega
   have q4 : ((x : Int) == 13) = false := by simp; omega
   rw [e]
   clear e h
   go_enter Tryz.func121, Tryz.ntmps121
   go_wp2_with fail
   all_goals go_ret
   all_goals exact ⟨rfl, rfl⟩
theorem digit_any (x : Nat) (w : World) : Calls Tryz.prog 149 #[.int .u8 (x : Int)] w fun e w' => e = .returned (.bool (Jx.isD x)) ∧ w = w' := by
 obtain ⟨R, hR⟩ : ∃ R, R = Jx.isD x := ⟨_, rfl⟩
 have D : Hid (R = true ↔ 48 ≤ (x : Int) ∧ (x : Int) ≤ 57) := by unfold Hid; rw [hR, Jx.isD_is]; omega
 rw [← hR]
 clear hR
 by_cases h1 : 48 ≤ (x : Int)
 · by_cases h2 : (x : Int) ≤ 57
   · obtain rfl : R = true := D.out.2 ⟨h1, h2⟩
     go_enter Tryz.func149, Tryz.ntmps149
     go_wp2_with fail
     all_goals go_ret
     all_goals exact ⟨rfl, rfl⟩
   · obtain rfl : R = false := by cases R with | false => rfl | true => exact absurd (D.out.1 rfl).2 h2
     go_enter Tryz.func149, Tryz.ntmps149
     go_wp2_with fail
     all_goals go_ret
     all_goals exact ⟨rfl, rfl⟩
 · obtain rfl : R = false := by cases R with | false => rfl | true => exact absurd (D.out.1 rfl).1 h1
   go_enter Tryz.func149, Tryz.ntmps149
   go_wp2_with fail
   all_goals go_ret
   all_goals exact ⟨rfl, rfl⟩
theorem goesOn_any (A : Option Addr) (c : Nat) (l : List UInt8) (w : World) (B : Nat) (hb : Bys w B A l) :
 Calls Tryz.prog 172 #[.slice A l.length c] w fun e w' => e = .returned (.bool (Jx.isL (Jx.byt l 0))) ∧ w = w' := by
 by_cases hl : 0 < l.length
 · obtain ⟨b, off, rfl, hB, hcell⟩ := bys_cell hb hl
   rw [Nat.add_zero] at hcell
   have LN : (0 : Int) < (l.length : Int) := by omega
   have q0 : ((l.length : Int) == 0) = false := by rw [beq_eq_false_iff_ne]; omega
   obtain ⟨X, hX⟩ : ∃ X, X = Jx.byt l 0 := ⟨_, rfl⟩
   rw [← hX] at hcell ⊢
   have D := Lib.hid (digit_any X)
   have DL : Jx.isL X = (Jx.isD X || (decide (65 ≤ (X : Int)) && decide ((X : Int) ≤ 90)) || (decide (97 ≤ (X : Int)) && decide ((X : Int) ≤ 122))) := by
    rw [Bool.eq_iff_iff, Jx.isL_is, Bool.or_eq_true, Bool.or_eq_true, Jx.isD_is]
    simp only [Bool.and_eq_true, decide_eq_true_eq]
    omega
   rw [DL]
   clear hb hX hl DL
   generalize Jx.isD X = E at *
   cases E with
   | true =>
    go_enter Tryz.func172, Tryz.ntmps172
    go_wp2_with fail
    refine (D.out _).mono ?_
    rintro e w1 ⟨rfl, rfl⟩
    go_wp2_with fail
    all_goals go_ret
    all_goals first | exact ⟨rfl, rfl⟩ | exact ⟨retBool (by rw [Bool.eq_iff_iff]; simp; try omega), rfl⟩ | exact ⟨retBool (by simp; try omega), rfl⟩
   | false =>
    by_cases a : 65 ≤ (X : Int)
    · by_cases b : (X : Int) ≤ 90
      · go_enter Tryz.func172, Tryz.ntmps172
        go_wp2_with fail
        refine (D.out _).mono ?_
        rintro e w1 ⟨rfl, rfl⟩
        go_wp2_with fail
        all_goals go_ret
        all_goals first | exact ⟨rfl, rfl⟩ | exact ⟨retBool (by rw [Bool.eq_iff_iff]; simp; try omega), rfl⟩ | exact ⟨retBool (by simp; try omega), rfl⟩
      · by_cases c1 : 97 ≤ (X : Int)
        · by_cases d : (X : Int) ≤ 122
          · go_enter Tryz.func172, Tryz.ntmps172
            go_wp2_with fail
            refine (D.out _).mono ?_
            rintro e w1 ⟨rfl, rfl⟩
            go_wp2_with fail
            all_goals go_ret
            all_goals first | exact ⟨rfl, rfl⟩ | exact ⟨retBool (by rw [Bool.eq_iff_iff]; simp; try omega), rfl⟩ | exact ⟨retBool (by simp; try omega), rfl⟩
          · go_enter Tryz.func172, Tryz.ntmps172
            go_wp2_with fail
            refine (D.out _).mono ?_
            rintro e w1 ⟨rfl, rfl⟩
            go_wp2_with fail
            all_goals go_ret
            all_goals first | exact ⟨rfl, rfl⟩ | exact ⟨retBool (by rw [Bool.eq_iff_iff]; simp; try omega), rfl⟩ | exact ⟨retBool (by simp; try omega), rfl⟩
        · go_enter Tryz.func172, Tryz.ntmps172
          go_wp2_with fail
          refine (D.out _).mono ?_
          rintro e w1 ⟨rfl, rfl⟩
          go_wp2_with fail
          all_goals go_ret
          all_goals first | exact ⟨rfl, rfl⟩ | exact ⟨retBool (by rw [Bool.eq_iff_iff]; simp; try omega), rfl⟩ | exact ⟨retBool (by simp; try omega), rfl⟩
    · have c1 : ¬ 97 ≤ (X : Int) := by omega
      go_enter Tryz.func172, Tryz.ntmps172
      go_wp2_with fail
      refine (D.out _).mono ?_
      rintro e w1 ⟨rfl, rfl⟩
      go_wp2_with fail
      all_goals go_ret
      all_goals first | exact ⟨rfl, rfl⟩ | exact ⟨retBool (by rw [Bool.eq_iff_iff]; simp; try omega), rfl⟩ | exact ⟨retBool (by simp; try omega), rfl⟩
 · have e : Jx.isL (Jx.byt l 0) = false := by rw [Jx.byt_end (by omega)]; rfl
   have q0 : ((l.length : Int) == 0) = true := by rw [beq_iff_eq]; omega
   rw [e]
   clear e hb hl
   go_enter Tryz.func172, Tryz.ntmps172
   go_wp2_with fail
   all_goals go_ret
   all_goals exact ⟨rfl, rfl⟩
theorem digitsAhead_any (A : Option Addr) (c : Nat) (l : List UInt8) (w : World) (B : Nat) (hb : Bys w B A l) (hl : l.length ≤ 140000000000) :
 Calls Tryz.prog 171 #[.slice A l.length c] w fun e w' => e = .returned (.int .i64 (Jx.cnt Jx.isD l : Int)) ∧ w = w' := by
 have CELL := Lib.hid (fun j hj => bys_cell hb (k := j) hj)
 have cin := fun j => Jx.cnt_in Jx.isD l (k := j)
 have cout := Jx.cnt_out Jx.isD l
 have hcl := Jx.cnt_le Jx.isD l
 obtain ⟨N, hN⟩ : ∃ N, N = Jx.cnt Jx.isD l := ⟨_, rfl⟩
 rw [← hN] at cin cout hcl ⊢
 have CIN := Lib.hid cin; have COUT := Lib.hid cout
 clear cin cout hN hb
 go_enter Tryz.func171, Tryz.ntmps171
 go_wp2_with fail
 go_loop [3] (fun t => ∃ j : Nat, j ≤ N ∧ t = .int .i64 (j : Int)) (fun t => N - (intOf t).toNat)
 case atStart => exact ⟨0, by omega, rfl⟩
 case round =>
  obtain ⟨j, hj, rfl⟩ := hrel
  by_cases hlt : j < l.length
  · obtain ⟨b, off, rfl, hB, hcell⟩ := CELL.out j hlt
    have D := Lib.hid (digit_any (Jx.byt l j))
    by_cases hjN : j < N
    · rw [CIN.out j hjN] at D
      generalize Jx.byt l j = X at *
      go_wp2_with fail
      with_reducible refine (D.out _).mono ?_
      rintro e w1 ⟨rfl, rfl⟩
      go_wp2_with fail
      go_round
      case rel => exact ⟨j + 1, by omega, by go_num⟩
      case measure => simp [intOf]; omega
    · obtain rfl : j = N := by omega
      rw [COUT.out hlt] at D
      generalize Jx.byt l j = X at *
      go_wp2_with fail
      with_reducible refine (D.out _).mono ?_
      rintro e w1 ⟨rfl, rfl⟩
      go_wp2_with fail
      all_goals go_ret
      all_goals exact ⟨rfl, rfl⟩
  · obtain rfl : j = N := by omega
    go_wp2_with fail
    all_goals go_ret
    all_goals exact ⟨rfl, rfl⟩
theorem hex_any (x : Nat) (hx : x < 256) (w : World) : Calls Tryz.prog 194 #[.int .u8 (x : Int)] w fun e w' => e = .returned (.tuple #[.int .i32 (max (Jx.hex x) 0), .bool (decide (0 ≤ Jx.hex x))]) ∧ w = w' := by
 have ph := place_hex x hx
 have hw := Jx.hex_is x
 by_cases h : 65 ≤ x ∧ x ≤ 70
 · rw [if_pos h] at ph
   have P := Lib.hid (place_any ⟨#[48, 49, 50, 51, 52, 53, 54, 55, 56, 57, 97, 98, 99, 100, 101, 102]⟩ (x + 32))
   rw [show (⟨#[48, 49, 50, 51, 52, 53, 54, 55, 56, 57, 97, 98, 99, 100, 101, 102]⟩ : ByteArray).data.toList = [48, 49, 50, 51, 52, 53, 54, 55, 56, 57, 97, 98, 99, 100, 101, 102] from rfl, ph] at P
   obtain ⟨h1, h2⟩ := h
   generalize Jx.hex x = H at *
   have g1 : 0 ≤ H := by omega
   have g2 : H ≤ 15 := by omega
   rw [show max H 0 = H by omega, show decide (0 ≤ H) = true by simpa using g1]
   have q1 : decide (65 ≤ (x : Int)) = true := by simp; omega
   have q2 : decide ((x : Int) ≤ 70) = true := by simp; omega
   have q3 : IntKind.u8.wrap ((x : Int) + 32) = ((x + 32 : Nat) : Int) := by simp [IntKind.wrap, IntKind.bits, IntKind.signed]; omega
   clear ph hw
   go_enter Tryz.func194, Tryz.ntmps194
   go_wp2_with fail
   refine (P.out _).mono ?_
   rintro e w1 ⟨rfl, rfl⟩
   go_wp2_with fail
   all_goals go_ret2
   all_goals exact ⟨by first | rfl | (rw [show max H 0 = H by omega]; rfl), rfl⟩
 · rw [if_neg h] at ph
   have P := Lib.hid (place_any ⟨#[48, 49, 50, 51, 52, 53, 54, 55, 56, 57, 97, 98, 99, 100, 101, 102]⟩ x)
   rw [show (⟨#[48, 49, 50, 51, 52, 53, 54, 55, 56, 57, 97, 98, 99, 100, 101, 102]⟩ : ByteArray).data.toList = [48, 49, 50, 51, 52, 53, 54, 55, 56, 57, 97, 98, 99, 100, 101, 102] from rfl, ph] at P
   have hle := Jx.hex_le x
   generalize Jx.hex x = H at *
   have q1 : (decide (65 ≤ (x : Int)) && decide ((x : Int) ≤ 70)) = false := by simp; omega
   clear ph hw
   by_cases g1 : 0 ≤ H
   · rw [show max H 0 = H by omega, show decide (0 ≤ H) = true by simpa using g1]
     by_cases a : 65 ≤ (x : Int)
     · have b : ¬ (x : Int) ≤ 70 := by omega
       go_enter Tryz.func194, Tryz.ntmps194
       go_wp2_with fail
       refine (P.out _).mono ?_
       rintro e w1 ⟨rfl, rfl⟩
       go_wp2_with fail
       all_goals go_ret2
       all_goals exact ⟨by first | rfl | (rw [show max H 0 = H by omega]; rfl), rfl⟩
     · go_enter Tryz.func194, Tryz.ntmps194
       go_wp2_with fail
       refine (P.out _).mono ?_
       rintro e w1 ⟨rfl, rfl⟩
       go_wp2_with fail
       all_goals go_ret2
       all_goals exact ⟨by first | rfl | (rw [show max H 0 = H by omega]; rfl), rfl⟩
   · rw [show max H 0 = 0 by omega, show decide (0 ≤ H) = false by simpa using g1]
     have g2 : H = -1 := by omega
     subst g2
     by_cases a : 65 ≤ (x : Int)
     · have b : ¬ (x : Int) ≤ 70 := by omega
       go_enter Tryz.func194, Tryz.ntmps194
       go_wp2_with fail
       refine (P.out _).mono ?_
       rintro e w1 ⟨rfl, rfl⟩
       go_wp2_with fail
       all_goals go_ret2
       all_goals exact ⟨rfl, rfl⟩
     · go_enter Tryz.func194, Tryz.ntmps194
       go_wp2_with fail
       refine (P.out _).mono ?_
       rintro e w1 ⟨rfl, rfl⟩
       go_wp2_with fail
       all_goals go_ret2
       all_goals exact ⟨rfl, rfl⟩
end Go.Proofs.YthogheglddfniaaGreatDoor
