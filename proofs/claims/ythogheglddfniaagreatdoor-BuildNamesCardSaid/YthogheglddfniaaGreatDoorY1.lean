/- Joined by tools/bundle.py: NCodeB SBulk RegI BdX BLawA BLawC. -/
import Derived.Laws.BitsLemmas
import Derived.Laws.BitsAllLaws
import Derived.Test.YthogheglddfniaaGreatDoorRows
import Derived.Below
import Derived.Maps.AppendAt
import Derived.Deep.AppendLies
import Derived.RegionTactic
import Derived.OwnWalk
import Derived.Laws.OwnMore
import Derived.Laws.BytesArg
import Derived.Deep.Draws
import Derived.Lib.Hide
import Derived.WalkKit
import Derived.ProofKit
import Derived.OpenShut
import Derived.Outline
import Derived.LoopTactic
import Derived.Deep.QuietTactic
import Derived.BigQuiet
import Derived.WalkMore
import Derived.Deep.LoopGhost
import Derived.IntWalk
import Derived.Lib.ConvBytes
import Derived.Laws.CopyOwn
import Derived.Laws.MakeOwn
import Derived.Deep.OwnRows
import Derived.Deep.RegionHeldLaw
import Derived.Lib.SplitLaws
import Derived.Lib.LastIndexByte
import Derived.Shelf.Small.Strs
import Derived.Shelf.Utf8.RuneCount
import Derived.Shelf.LaysM
import Derived.Shelf.Strconv.Clone
import Derived.Shelf.Strings.Search1
import Derived.Shelf.Strings.Search2
import Derived.Shelf.Strings.Search3
import Derived.Shelf.Strings.Count
import Derived.Shelf.Strings.Shaped
import Derived.Shelf.Strings.LastIndex
import Derived.Shelf.Strings.Split
import Derived.Shelf.Strings.SplitShaped
import Derived.Shelf.Strings.RuneCount
import Derived.Shelf.Unicode.DecodeSlow
import Derived.Shelf.Unicode.DecodeAny
import Derived.Shelf.Slices.Equal
import Derived.Ground.Names2Prog
import Derived.Shelf.Slices.Clone
import Derived.Ground.SlgnProg
import Derived.Shelf.SlicesE.Clone
import Derived.Test.YthogheglddfniaaGreatDoorProg
import Derived.Shelf.Strings.SplitCore
import Derived.Deep.Slices
import Derived.LaidLaws
import Derived.KernelRfl
import Derived.Deep.RegionHeld
import Derived.LoopN
import Derived.Lib.SlBytesConst
import Derived.Lib.SliceRun
import Derived.Deep.RegionLaw
import Derived.Deep.CutRange
import Derived.Maps.OwnSet
import Derived.Laws.Externs
import Derived.Lib.Bytealg
import Derived.Deep.Cut
import Derived.Laws.EntriesVeiled
import Derived.Test.YthogheglddfniaaGreatDoorW0
import Derived.Test.YthogheglddfniaaGreatDoorW1
import Derived.Test.YthogheglddfniaaGreatDoorW2
import Derived.Test.YthogheglddfniaaGreatDoorW3
import Derived.Test.YthogheglddfniaaGreatDoorW4
import Derived.Test.YthogheglddfniaaGreatDoorW5
import Derived.Test.YthogheglddfniaaGreatDoorW6
import Derived.Test.YthogheglddfniaaGreatDoorW7
import Derived.Test.YthogheglddfniaaGreatDoorW8
import Derived.Test.YthogheglddfniaaGreatDoorW9
import Derived.Test.YthogheglddfniaaGreatDoorW10
import Derived.Test.YthogheglddfniaaGreatDoorW11
import Derived.Test.YthogheglddfniaaGreatDoorW12
import Derived.Test.YthogheglddfniaaGreatDoorW13
import Derived.Test.YthogheglddfniaaGreatDoorW14
import Derived.Test.YthogheglddfniaaGreatDoorW15
import Derived.Test.YthogheglddfniaaGreatDoorW16
import Derived.Test.YthogheglddfniaaGreatDoorW17
import Derived.Test.YthogheglddfniaaGreatDoorW18
import Derived.Test.YthogheglddfniaaGreatDoorW19
import Derived.Test.YthogheglddfniaaGreatDoorW20
import Derived.Test.YthogheglddfniaaGreatDoorW21
import Derived.Test.YthogheglddfniaaGreatDoorW22
import Derived.Test.YthogheglddfniaaGreatDoorW23
import Derived.Test.YthogheglddfniaaGreatDoorW24
import Derived.Test.YthogheglddfniaaGreatDoorW25
import Derived.Test.YthogheglddfniaaGreatDoorW26
import Derived.Test.YthogheglddfniaaGreatDoorW27
import Derived.Test.YthogheglddfniaaGreatDoorW28
import Derived.Test.YthogheglddfniaaGreatDoorW29
import Derived.Test.YthogheglddfniaaGreatDoorW30
import Derived.Test.YthogheglddfniaaGreatDoorW31
set_option maxRecDepth 100000
set_option maxHeartbeats 16000000
namespace Go.Proofs.YthogheglddfniaaGreatDoor
open Go.ChangeShapes Go.WideShapes Go.ChangeAt Go.RowKit Mem
theorem nLast_any (s : ByteArray) (hs : s.size ≤ 1000000000) (w : World) (_hL : LaidN w) : Calls Tryz.prog 18 #[.string s] w (Ans (.string (sst (Nm.last s.data.toList))) w) := by
 have ln := len_str s
 have dt := Nm.dot_lt s.data.toList
 have DT := Lib.hid (fun W => lastDot_any s hs W)
 have cl := fun m z h1 h2 => cut_l s m z h1 h2
 unfold Nm.last
 obtain ⟨D, hD⟩ : ∃ D, D = Nm.dot s.data.toList := ⟨_, rfl⟩
 rw [← hD] at dt DT ⊢
 rw [ln] at dt
 have dl := dt.1
 have dh := dt.2
 have sl := fun W => cl (D + 1).toNat (D + 1) (by omega) (by omega) W
 have CL := Lib.hid (fun W => sclone_any (sst (s.data.toList.drop (D + 1).toNat)) (by rw [sst_size, List.length_drop]; omega) W)
 generalize s.data.toList.drop (D + 1).toNat = T at *
 generalize sst T = T2 at *
 clear hD cl
 go_enter Tryz.func18, Tryz.ntmps18
 go_wp2_with fail
 with_reducible refine (DT.out _).mono ?_
 rintro e w1 ⟨rfl, rfl⟩
 go_wp2_with fail
 refine (CL.out _).mono ?_
 rintro e w1 ⟨rfl, b1⟩
 go_wp2_with fail
 go_ret
 exact ⟨rfl, b1⟩
def sizes (l : List ByteArray) : Nat := (l.map fun t => t.size).sum
end Go.Proofs.YthogheglddfniaaGreatDoor
namespace Go.Proofs.YthogheglddfniaaGreatDoor.Mem
open Go
section
variable {P : Program} {md : Region.Mode} {ops : Array Oper} {Q : Exit → Act → World → Prop}
def RunsI (P : Program) (Q : Exit → Act → World → Prop) (o : Oper) (a : Act) (w : World) (K : Act → World → Prop) : Prop :=
 ∀ K' : Act → World → Prop, Shut (∀ a w, K a w → K' a w) → if Region.wanted o (yielded ops a.tmps) = true then Oper.wp P o a w K' Q else K' (a.put o.dst undef) w
theorem count_less {l : Array Bool} {i : Nat} (h : l.getD i true = false) : (l.setIfInBounds i true).toList.count false + 1 ≤ l.toList.count false ∧ (l.setIfInBounds i true).size = l.size := by
 refine ⟨?_, Array.size_setIfInBounds ..⟩
 have hi : i < l.size := by
  rcases Nat.lt_or_ge i l.size with g | g
  · exact g
  · simp [Array.getD, Nat.not_lt.2 g] at h
 have e : l.toList[i]'(by simpa using hi) = false := by simpa [Array.getD, hi] using h
 rw [Array.toList_setIfInBounds, List.count_set (by simpa using hi), e]
 have : 0 < l.toList.count false := List.count_pos_iff.2 (by rw [← e]; exact List.getElem_mem _)
 rw [if_pos (by decide), if_neg (by decide)]
 omega
theorem wpAny_inv (I : Array Bool → Act → World → Prop)
 (hs : ∀ l a w, I l a w → ∀ i o, ops[i]? = some o → l.getD i true = false → (∀ e ∈ o.after, Region.binds md e = true → l.getD e.on false = true) → RunsI (ops := ops) P Q o a w (fun a' w' => I (l.setIfInBounds i true) a' w'))
 (hd : ∀ l a w, I l a w → (∀ i o, ops[i]? = some o → (∀ e ∈ o.after, Region.binds md e = true → l.getD e.on false = true) → l.getD i true = true) → Q .normal a w) :
 ∀ (fuel : Nat) (l : Array Bool) (a : Act) (w : World), l.size = ops.size → l.toList.count false ≤ fuel → I l a w → wpAny P md ops Q fuel l a w
 | 0, l, a, w, hz, hc, hI => by
  have hr : Region.ready md ops l = [] := by
   rcases h : Region.ready md ops l with _ | ⟨i, r⟩
   · rfl
   · have := (mem_ready (md := md) (ops := ops) (listed := l) (j := i)).1 (by rw [h]; exact List.mem_cons_self)
     have := count_less this.1
     omega
  exact ⟨hr, hd l a w hI (done_of hr)⟩
 | fuel + 1, l, a, w, hz, hc, hI => by
  refine ⟨fun hr => hd l a w hI (done_of hr), fun i hi => ?_⟩
  obtain ⟨h1, o, ho, h2⟩ := mem_ready.1 hi
  have c := count_less h1
  exact wpOp_step ho fun K' hK => hs l a w hI i o ho h1 h2 K' fun a' w' hI' => hK a' w' (wpAny_inv I hs hd fuel _ a' w' (by rw [c.2]; exact hz) (by omega) hI')
where
 done_of {l : Array Bool} (hr : Region.ready md ops l = []) : ∀ i o, ops[i]? = some o → (∀ e ∈ o.after, Region.binds md e = true → l.getD e.on false = true) → l.getD i true = true := fun i o ho h => by
  cases hg : l.getD i true with
  | true => rfl
  | false =>
   have : i ∈ Region.ready md ops l := mem_ready.2 ⟨hg, o, ho, h⟩
   rw [hr] at this
   cases this
theorem wp_region_inv (I : Array Bool → Act → World → Prop) {id : Nat} {a : Act} {w : World} (hm : P.follows .mixedOrders = true) (h0 : I (Array.replicate ops.size false) a w.drew)
 (hs : ∀ l a w, I l a w → ∀ i o, ops[i]? = some o → l.getD i true = false → (∀ e ∈ o.after, Region.binds .any e = true → l.getD e.on false = true) → RunsI (ops := ops) P Q o a w (fun a' w' => I (l.setIfInBounds i true) a' w'))
 (hd : ∀ l a w, I l a w → (∀ i o, ops[i]? = some o → (∀ e ∈ o.after, Region.binds .any e = true → l.getD e.on false = true) → l.getD i true = true) → Q .normal a w) : (Code.region id ops true).wp P Q a w :=
 wp_region_any hm (wpAny_inv I hs hd ops.size _ a _ (by simp) (by rw [Array.toList_replicate, List.count_replicate]; simp) h0)
end
end Go.Proofs.YthogheglddfniaaGreatDoor.Mem
namespace Go.Proofs.YthogheglddfniaaGreatDoor
open Num
theorem simple_ascii {l : List UInt8} (h : Nm.simple l = true) : ∀ x ∈ l, x.toNat < 128 ∧ x ≠ 46 := by
 unfold Nm.simple at h
 simp only [Bool.and_eq_true] at h
 have hc := h.2
 unfold Nm.chs at hc
 rw [List.all_eq_true] at hc
 intro x hx
 have := hc x hx
 unfold Nm.ch Nm.lt Jx.isD at this
 simp only [Bool.or_eq_true, decide_eq_true_eq] at this
 refine ⟨by omega, fun e => ?_⟩
 subst e
 revert this
 decide
theorem full_ascii : ∀ (k : Nat) (l : List UInt8), l.length ≤ k → Nm.full l = true → ∀ x ∈ l, x.toNat < 128
 | 0, l, hk, _, x, hx => by
  have : l = [] := List.length_eq_zero_iff.1 (by omega)
  subst this; cases hx
 | k + 1, l, hk, h, x, hx => by
  by_cases hd : Nm.dot l < 0
  · rw [Nm.full_one hd] at h
    exact (simple_ascii h x hx).1
  · have hd : 0 ≤ Nm.dot l := by omega
    rw [Nm.full_go hd, Bool.and_eq_true, Bool.and_eq_true] at h
    have w := Nm.whole_dot hd
    rw [← w] at hx
    have len : (Nm.space l).length < l.length := by
     have := congrArg List.length w
     rw [List.length_append, List.length_cons] at this
     omega
    rcases List.mem_append.1 hx with g | g
    · exact full_ascii k _ (by omega) h.2.2 x g
    · rcases List.mem_cons.1 g with rfl | g
      · decide
      · exact (simple_ascii h.2.1 x g).1
theorem text_frm {t : ByteArray} : (jText t).frm ↔ (cU t.data.toList).isSome = true := by unfold jText J.frm J.frms; simp
def jInt (n : Int) : J := .mk 3 n Jp.nil_ [] []
def jFix1 (name : ByteArray) (n : Int) : J := .mk 6 0 Jp.nil_ [jText ⟨#[102, 105, 120, 101, 100]⟩, jText name, jInt n] [kType, kName, kSize]
def jFix2 (last space : ByteArray) (n : Int) : J := .mk 6 0 Jp.nil_ [jText ⟨#[102, 105, 120, 101, 100]⟩, jText last, jText space, jInt n] [kType, kName, kSpace, kSize]
theorem int_frm (n : Int) : (jInt n).frm := by
 unfold jInt J.frm J.frms
 have k : (cU Jp.nil_.data.toList).isSome = true := by show (cU []).isSome = true; rw [cU_nil]; rfl
 simp [k]
theorem word_bytes : ∀ m : Nat, m < 15 → ∀ x ∈ Nm.word (m : Int), x ≠ 46 := by
 intro m hm
 have : m = 0 ∨ m = 1 ∨ m = 2 ∨ m = 3 ∨ m = 4 ∨ m = 5 ∨ m = 6 ∨ m = 7 ∨ m = 8 ∨ m = 9 ∨ m = 10 ∨ m = 11 ∨ m = 12 ∨ m = 13 ∨ m = 14 := by omega
 rcases this with rfl | rfl | rfl | rfl | rfl | rfl | rfl | rfl | rfl | rfl | rfl | rfl | rfl | rfl | rfl <;> decide
theorem kind_dotted {l : List UInt8} (h : 0 ≤ Nm.dot l) : Nm.kind l = 0 := by
 refine Nm.kind_none fun m hm e => ?_
 have w := Nm.whole_dot h
 exact word_bytes m hm 46 (by rw [e, ← w]; simp) rfl
theorem ascii_ok {t : ByteArray} (h : ∀ x ∈ t.data.toList, x.toNat < 128) : (jText t).frm := text_frm.2 (cU_ascii _ h)
theorem toL (l : List UInt8) : (⟨l.toArray⟩ : ByteArray).data.toList = l := by simp
theorem names_built {name : ByteArray} (hf : Nm.full name.data.toList = true) (hd : 0 ≤ Nm.dot name.data.toList) (hs : Nm.space name.data.toList ≠ []) {n : Int} (hn : 0 ≤ n ∧ n ≤ 1000) :
 bbuild (jFix1 name n) = .ok [{ Nd.z 14 with name := name, size := n }] ∧ bbuild (jFix2 ⟨(Nm.last name.data.toList).toArray⟩ ⟨(Nm.space name.data.toList).toArray⟩ n) = .ok [{ Nd.z 14 with name := name, size := n }] := by
 have asc := full_ascii _ _ (Nat.le_refl _) hf
 have w := Nm.whole_dot hd
 have fg := Nm.full_go hd
 rw [hf] at fg
 have fg2 := fg.symm
 rw [Bool.and_eq_true, Bool.and_eq_true, decide_eq_true_eq] at fg2
 obtain ⟨l100, hl, hsp⟩ := fg2
 have nil : (cU Jp.nil_.data.toList).isSome = true := by show (cU []).isSome = true; rw [cU_nil]; rfl
 have fx : (jText ⟨#[102, 105, 120, 101, 100]⟩).frm := ascii_ok (by decide)
 have fn : (jText name).frm := ascii_ok asc
 have fl : (jText ⟨(Nm.last name.data.toList).toArray⟩).frm := ascii_ok (by rw [toL]; intro x hx; exact asc x (by rw [← w]; simp [hx]))
 have fs : (jText ⟨(Nm.space name.data.toList).toArray⟩).frm := ascii_ok (by rw [toL]; intro x hx; exact asc x (by rw [← w]; simp [hx]))
 have keys : ∀ k ∈ [kType, kName, kSpace, kSize], (cU k.data.toList).isSome = true := by
  intro k hk
  refine cU_ascii _ ?_
  simp only [List.mem_cons, List.not_mem_nil, or_false] at hk
  rcases hk with rfl | rfl | rfl | rfl <;> decide
 have r1 : (jFix1 name n).rightb = true := J.rightb_iff.2 ⟨by
  rw [J.deep_in (.inr rfl)]
  show J.deeps [_, _, _] ≤ 32
  simp only [J.deeps, text_deep, show (jInt n).deep = 0 from J.deep_out (by show ¬ ((3 : Int) = 5 ∨ (3 : Int) = 6); decide)]
  omega, by
  unfold jFix1 J.frm J.frms J.frms J.frms J.frms
  exact ⟨by omega, by omega, fun _ _ => rfl, fun g => by omega, fun _ => rfl, nil, fun g => by omega, fun g => absurd rfl g, fun _ => rfl, fun x hx => keys x (by simp only [List.mem_cons, List.not_mem_nil, or_false] at hx ⊢; rcases hx with h | h | h <;> simp [h]), by decide, fx, fn, int_frm n, trivial⟩⟩
 have r2 : (jFix2 ⟨(Nm.last name.data.toList).toArray⟩ ⟨(Nm.space name.data.toList).toArray⟩ n).rightb = true := J.rightb_iff.2 ⟨by
  rw [J.deep_in (.inr rfl)]
  show J.deeps [_, _, _, _] ≤ 32
  simp only [J.deeps, text_deep, show (jInt n).deep = 0 from J.deep_out (by show ¬ ((3 : Int) = 5 ∨ (3 : Int) = 6); decide)]
  omega, by
  unfold jFix2 J.frm J.frms J.frms J.frms J.frms J.frms
  exact ⟨by omega, by omega, fun _ _ => rfl, fun g => by omega, fun _ => rfl, nil, fun g => by omega, fun g => absurd rfl g, fun _ => rfl, keys, by decide, fx, fl, fs, int_frm n, trivial⟩⟩
 have jo : joinB ⟨#[]⟩ name = some name := by
  unfold joinB
  rw [Nm.join_has hf (.inr hd)]
  simp
 have jo2 : joinB ⟨(Nm.space name.data.toList).toArray⟩ ⟨(Nm.last name.data.toList).toArray⟩ = some name := by
  unfold joinB
  have ll : Nm.full (Nm.last name.data.toList) = true := by rw [Nm.full_one (Nm.last_no _)]; exact hl
  rw [toL, toL, Nm.join_in ll hs (Nm.last_no _)]
  have e : (Nm.space name.data.toList).length + 1 + (Nm.last name.data.toList).length = name.data.toList.length := by
   have := congrArg List.length w
   rw [List.length_append, List.length_cons] at this
   omega
  rw [if_pos ⟨hsp, by omega⟩, w]
  simp
 have kd : kindB name = 0 := kind_dotted hd
 have k14 : kindB ⟨#[102, 105, 120, 101, 100]⟩ = 14 := by unfold kindB; decide
 have node : ∀ (j : J) (nm : ByteArray), j.k = 6 → txt (j.get kType) = some ⟨#[102, 105, 120, 101, 100]⟩ → txt (j.get kName) = some nm → bfull j ⟨#[]⟩ nm = .ok (some name) → j.get kAliases = none → j.get kSize = some (jInt n) → bnode 33 [] j ⟨#[]⟩ = .ok ([{ Nd.z 14 with name := name, size := n }], 0) := by
  intro j nm h6 ht hn1 hfu ha hz
  show (if j.k = 4 then _ else if j.k = 5 then _ else _) = _
  rw [if_neg (by omega), if_neg (by omega), ht]
  simp only [k14]
  rw [if_neg (by decide), if_neg (by decide), if_pos (by decide)]
  unfold bnamed bhead
  rw [hn1]
  simp only [hfu]
  rw [if_neg (by omega), if_neg (by simp [findK]), ha]
  unfold balias bfixed
  simp only [hz]
  rw [if_neg (by decide), if_neg (by decide)]
  have : (jInt n).k = 3 := rfl
  rw [if_pos this]
  have : (jInt n).n = n := rfl
  rw [this, if_neg (by omega)]
  simp
  rfl
 have wt : ∀ i, Sc.wt ⟨[{ Nd.z 14 with name := name, size := n }], 0⟩ i ≤ 1000 := wt_one _ (by show (14 : Int) ≠ 9; decide)
 refine ⟨bld_ok r1 (node _ name rfl ?_ ?_ ?_ ?_ ?_) wt, bld_ok r2 (node _ ⟨(Nm.last name.data.toList).toArray⟩ rfl ?_ ?_ ?_ ?_ ?_) wt⟩
 · rfl
 · rfl
 · show Except.ok (joinB ⟨#[]⟩ name) = _; rw [jo]
 · rfl
 · rfl
 · rfl
 · rfl
 · show Except.ok (joinB ⟨(Nm.space name.data.toList).toArray⟩ ⟨(Nm.last name.data.toList).toArray⟩) = _; rw [jo2]
 · rfl
 · rfl
end Go.Proofs.YthogheglddfniaaGreatDoor
namespace Go.Proofs.YthogheglddfniaaGreatDoor
open Go.ChangeShapes Go.WideShapes Go.ChangeAt Go.RowKit Mem
theorem text_wt (t : ByteArray) : (jText t).wt ≤ t.size + 10 := by
 unfold jText J.wt J.wts kwt
 omega
theorem text_tree {w : World} {S : Nat → Prop} (t : ByteArray) : TreeS w S (jText t) [.int .i64 4, .int .i64 0, .string t, .slice none 0 0, .slice none 0 0] :=
 ⟨none, 0, none, 0, rfl, ⟨Nat.le_refl _, Nat.zero_le _⟩, ⟨Nat.le_refl _, Nat.zero_le _⟩, trivial, .inl rfl⟩
theorem post_J1 {fn : Func} {R : Ending → World → Prop} {a : Act} {w : World} {t : Tmp} {g : Nat} {x0 x1 x2 x3 x4 : Value} (hf : fn.results = #[.cell t 25]) (hd : a.defers = [])
 (hg : a.tmps.getD t undef = .pointer (some ⟨g, 0, none⟩)) (h0 : w.cell? ⟨g, 0, none⟩ = some x0) (h1 : w.cell? ⟨g, 1, none⟩ = some x1) (h2 : w.cell? ⟨g, 2, none⟩ = some x2) (h3 : w.cell? ⟨g, 3, none⟩ = some x3) (h4 : w.cell? ⟨g, 4, none⟩ = some x4)
 (hR : R (.returned (.agg #[x0, x1, x2, x3, x4])) w) : bodyPost Tryz.prog fn R .ret a w := by
 refine bodyPost_ret ?_ hd hR
 rw [Array.getD_eq_getD_getElem?] at hg
 simp [results, hf, hg, go_sem, h0, h1, h2, h3, h4]
theorem text12_any (s : ByteArray) (w : World) : Calls Tryz.prog 17 #[.string s] w (fun e w' => e = .returned (.agg #[.int .i64 4, .int .i64 0, .string s, .slice none 0 0, .slice none 0 0]) ∧ Below w.heap.size w w') := by
 have CS := cell_set
 go_enter Tryz.func17, Tryz.ntmps17
 go_wp2_with fail
 try simp only [Exit.inBlock, Exit.then]
 refine post_J1 (x0 := .int .i64 4) (x1 := .int .i64 0) (x2 := .string s) (x3 := .slice none 0 0) (x4 := .slice none 0 0) rfl rfl rfl (by go_simp) (by go_simp) (by go_simp) (by go_simp) (by go_simp) ?_
 exact ⟨rfl, bqq⟩
theorem space_dot {l : List UInt8} (h : Nm.space l ≠ []) : 0 ≤ Nm.dot l := by
 unfold Nm.space at h
 split at h
 · exact absurd rfl h
 · omega
structure ObjM (w0 W : World) (n : Nat) (keys items : Array Value) (bk bi bg bs : Bool) (kv iv gv : Value) (k i g : Nat) : Prop where
 kk : bk = true → kv = .slice (some ⟨k, 0, none⟩) n n ∧ Blk W k 9 keys ∧ w0.heap.size ≤ k
 ii : bi = true → iv = .slice (some ⟨i, 0, none⟩) n n ∧ Blk W i 25 items ∧ w0.heap.size ≤ i
 gg : bg = true → gv = .pointer (some ⟨g, 0, none⟩) ∧ w0.heap.size ≤ g ∧ ∃ x0 x1 x2 x3 x4, B5 W g 25 x0 x1 x2 x3 x4
 ss : bs = true → bg = true ∧ B5 W g 25 (.int .i64 6) (.int .i64 0) (.string ⟨#[]⟩) (.slice (some ⟨i, 0, none⟩) n n) (.slice (some ⟨k, 0, none⟩) n n)
 kg : bk = true → bg = true → k ≠ g
 ig : bi = true → bg = true → i ≠ g
 al : bs = true → bk = true ∧ bi = true ∧ bg = true
section
variable {w0 W W' : World} {n : Nat} {keys items : Array Value} {bk bi bg bs : Bool} {kv iv gv : Value} {k i g : Nat}
theorem ObjM.below (m : ObjM w0 W n keys items bk bi bg bs kv iv gv k i g) (b : Below W.heap.size W W') : ObjM w0 W' n keys items bk bi bg bs kv iv gv k i g where
 kk := fun h => ⟨(m.kk h).1, (m.kk h).2.1.below b (m.kk h).2.1.lt, (m.kk h).2.2⟩
 ii := fun h => ⟨(m.ii h).1, (m.ii h).2.1.below b (m.ii h).2.1.lt, (m.ii h).2.2⟩
 gg := fun h => by
  obtain ⟨h1, h2, x0, x1, x2, x3, x4, hx⟩ := m.gg h
  exact ⟨h1, h2, x0, x1, x2, x3, x4, hx.below b hx.lt⟩
 ss := fun h => ⟨(m.ss h).1, (m.ss h).2.below b (m.ss h).2.lt⟩
 kg := m.kg
 ig := m.ig
 al := m.al
theorem ObjM.key (m : ObjM w0 W n keys items false bi bg false kv iv gv k i g) (hz : w0.heap.size ≤ W.heap.size) : ObjM w0 (W.alloc (.cells keys 9)) n keys items true bi bg false (.slice (some ⟨W.heap.size, 0, none⟩) n n) iv gv W.heap.size i g := by
 have m2 := m.below ((Below.refl W.heap.size W).alloc (Nat.le_refl _) (.cells keys 9))
 exact ⟨fun _ => ⟨rfl, Blk.newat rfl, hz⟩, m2.ii, m2.gg, (fun h => by cases h), (fun _ h => by obtain ⟨_, _, _, _, _, _, _, hx⟩ := m.gg h; have := hx.lt; omega), m2.ig, fun h => by cases h⟩
theorem ObjM.item (m : ObjM w0 W n keys items bk false bg false kv iv gv k i g) (hz : w0.heap.size ≤ W.heap.size) : ObjM w0 (W.alloc (.cells items 25)) n keys items bk true bg false kv (.slice (some ⟨W.heap.size, 0, none⟩) n n) gv k W.heap.size g := by
 have m2 := m.below ((Below.refl W.heap.size W).alloc (Nat.le_refl _) (.cells items 25))
 exact ⟨m2.kk, fun _ => ⟨rfl, Blk.newat rfl, hz⟩, m2.gg, (fun h => by cases h), m2.kg, (fun _ h => by obtain ⟨_, _, _, _, _, _, _, hx⟩ := m.gg h; have := hx.lt; omega), fun h => by cases h⟩
theorem ObjM.box (m : ObjM w0 W n keys items bk bi false false kv iv gv k i g) (hz : w0.heap.size ≤ W.heap.size) (x0 x1 x2 x3 x4 : Value) : ObjM w0 (W.alloc (.cells #[x0, x1, x2, x3, x4] 25)) n keys items bk bi true false kv iv (.pointer (some ⟨W.heap.size, 0, none⟩)) k i W.heap.size := by
 have m2 := m.below ((Below.refl W.heap.size W).alloc (Nat.le_refl _) (.cells #[x0, x1, x2, x3, x4] 25))
 exact ⟨m2.kk, m2.ii, fun _ => ⟨rfl, hz, x0, x1, x2, x3, x4, B5.newat rfl⟩, (fun h => by cases h), (fun h _ => by have := (m.kk h).2.1.lt; omega), (fun h _ => by have := (m.ii h).2.1.lt; omega), fun h => by cases h⟩
theorem ObjM.put (m : ObjM w0 W n keys items true true true bs kv iv gv k i g) : ObjM w0 (((((W.setCell ⟨g, 0, none⟩ (.int .i64 6)).setCell ⟨g, 1, none⟩ (.int .i64 0)).setCell ⟨g, 2, none⟩ (.string ⟨#[]⟩)).setCell ⟨g, 3, none⟩ (.slice (some ⟨i, 0, none⟩) n n)).setCell ⟨g, 4, none⟩ (.slice (some ⟨k, 0, none⟩) n n)) n keys items true true true true kv iv gv k i g := by
 obtain ⟨g1, g2, x0, x1, x2, x3, x4, hx⟩ := m.gg rfl
 have nk := m.kg rfl rfl
 have ni := m.ig rfl rfl
 have B := B5.set4 (B5.set3 (B5.set2 (B5.set1 (B5.set0 hx (.int .i64 6)) (.int .i64 0)) (.string ⟨#[]⟩)) (.slice (some ⟨i, 0, none⟩) n n)) (.slice (some ⟨k, 0, none⟩) n n)
 have ps : ∀ q cs t, q ≠ g → Blk W q t cs → Blk (((((W.setCell ⟨g, 0, none⟩ (.int .i64 6)).setCell ⟨g, 1, none⟩ (.int .i64 0)).setCell ⟨g, 2, none⟩ (.string ⟨#[]⟩)).setCell ⟨g, 3, none⟩ (.slice (some ⟨i, 0, none⟩) n n)).setCell ⟨g, 4, none⟩ (.slice (some ⟨k, 0, none⟩) n n)) q t cs := fun q cs t hq h => ((((h.past (fun e => hq e.symm) _).past (fun e => hq e.symm) _).past (fun e => hq e.symm) _).past (fun e => hq e.symm) _).past (fun e => hq e.symm) _
 exact ⟨fun _ => ⟨(m.kk rfl).1, ps k _ _ nk (m.kk rfl).2.1, (m.kk rfl).2.2⟩, fun _ => ⟨(m.ii rfl).1, ps i _ _ ni (m.ii rfl).2.1, (m.ii rfl).2.2⟩, fun _ => ⟨g1, g2, _, _, _, _, _, B⟩, fun _ => ⟨rfl, B⟩, fun _ _ => nk, fun _ _ => ni, fun _ => ⟨rfl, rfl, rfl⟩⟩
end
theorem hlq {P : Prop} (h : P := by intro e he hb; obtain ⟨k, hk⟩ := Array.mem_iff_getElem?.1 he; (have kl : k < 16 := by (rcases Nat.lt_or_ge k 16 with g | g; exact g; rw [List.getElem?_toArray, List.getElem?_eq_none (by first | (simp; done) | (simp; omega))] at hk; cases hk)); (obtain rfl | rfl | rfl | rfl | rfl | rfl | rfl | rfl | rfl | rfl | rfl | rfl | rfl | rfl | rfl | rfl : k = 0 ∨ k = 1 ∨ k = 2 ∨ k = 3 ∨ k = 4 ∨ k = 5 ∨ k = 6 ∨ k = 7 ∨ k = 8 ∨ k = 9 ∨ k = 10 ∨ k = 11 ∨ k = 12 ∨ k = 13 ∨ k = 14 ∨ k = 15 := by omega); all_goals first | (obtain rfl := Option.some.inj hk; first | rfl | cases hb) | cases hk) : P := h
theorem fix1_wt (name : ByteArray) (z : Int) : (jFix1 name z).wt ≤ name.size + 200 := by
 have a := text_wt ⟨#[102, 105, 120, 101, 100]⟩
 have b := text_wt name
 have c : (jInt z).wt ≤ 10 := by
  have : Jp.nil_.size = 0 := rfl
  unfold jInt J.wt J.wts kwt
  omega
 have d : (⟨#[102, 105, 120, 101, 100]⟩ : ByteArray).size = 5 := rfl
 have e : (jFix1 name z).wt = 1 + Jp.nil_.size + kwt [kType, kName, kSize] + J.wts [jText ⟨#[102, 105, 120, 101, 100]⟩, jText name, jInt z] := by unfold jFix1; rw [J.wt]
 have f : kwt [kType, kName, kSize] = 15 := rfl
 have g : Jp.nil_.size = 0 := rfl
 have h : J.wts [jText ⟨#[102, 105, 120, 101, 100]⟩, jText name, jInt z] = (jText ⟨#[102, 105, 120, 101, 100]⟩).wt + ((jText name).wt + ((jInt z).wt + 0)) := by rw [J.wts, J.wts, J.wts, J.wts]
 omega
theorem fix2_wt (la sp : ByteArray) (z : Int) : (jFix2 la sp z).wt ≤ la.size + sp.size + 300 := by
 have a := text_wt ⟨#[102, 105, 120, 101, 100]⟩
 have b := text_wt la
 have b2 := text_wt sp
 have c : (jInt z).wt ≤ 10 := by
  have : Jp.nil_.size = 0 := rfl
  unfold jInt J.wt J.wts kwt
  omega
 have d : (⟨#[102, 105, 120, 101, 100]⟩ : ByteArray).size = 5 := rfl
 have e : (jFix2 la sp z).wt = 1 + Jp.nil_.size + kwt [kType, kName, kSpace, kSize] + J.wts [jText ⟨#[102, 105, 120, 101, 100]⟩, jText la, jText sp, jInt z] := by unfold jFix2; rw [J.wt]
 have f : kwt [kType, kName, kSpace, kSize] = 25 := rfl
 have g : Jp.nil_.size = 0 := rfl
 have h : J.wts [jText ⟨#[102, 105, 120, 101, 100]⟩, jText la, jText sp, jInt z] = (jText ⟨#[102, 105, 120, 101, 100]⟩).wt + ((jText la).wt + ((jText sp).wt + ((jInt z).wt + 0))) := by rw [J.wts, J.wts, J.wts, J.wts, J.wts]
 omega
theorem int_deep (z : Int) : (jInt z).deep = 0 := J.deep_out (by show ¬ ((3 : Int) = 5 ∨ (3 : Int) = 6); decide)
theorem fix1_deep (name : ByteArray) (z : Int) : (jFix1 name z).deep = 1 := by
 rw [J.deep_in (.inr rfl)]
 show J.deeps [jText _, jText name, jInt z] = 1
 rw [J.deeps, J.deeps, J.deeps, J.deeps, text_deep, text_deep, int_deep]
 rfl
theorem fix2_deep (la sp : ByteArray) (z : Int) : (jFix2 la sp z).deep = 1 := by
 rw [J.deep_in (.inr rfl)]
 show J.deeps [jText _, jText la, jText sp, jInt z] = 1
 rw [J.deeps, J.deeps, J.deeps, J.deeps, J.deeps, text_deep, text_deep, text_deep, int_deep]
 rfl
theorem int_tree {w : World} {S : Nat → Prop} (z : Int) : TreeS w S (jInt z) [.int .i64 3, .int .i64 z, .string ⟨#[]⟩, .slice none 0 0, .slice none 0 0] :=
 ⟨none, 0, none, 0, rfl, ⟨Nat.le_refl _, Nat.zero_le _⟩, ⟨Nat.le_refl _, Nat.zero_le _⟩, trivial, .inl rfl⟩
theorem row_five {w : World} {S : Nat → Prop} {g : Nat} {cs : Array Value} (hS : S g) (hb : Blk w g 25 cs) {j : J} {l : List J} {o : Nat} {x0 x1 x2 x3 x4 : Value} (h0 : cs[o]? = some x0) (h1 : cs[o + 1]? = some x1) (h2 : cs[o + 2]? = some x2) (h3 : cs[o + 3]? = some x3) (h4 : cs[o + 4]? = some x4) (ht : TreeS w S j [x0, x1, x2, x3, x4]) (hr : RowS w S l (some ⟨g, o + 5, none⟩)) : RowS w S (j :: l) (some ⟨g, o, none⟩) := by
 refine ⟨g, o, _, rfl, hS, fun i hi => ?_, ht, hr⟩
 rw [hb.cell]
 obtain rfl | rfl | rfl | rfl | rfl : i = 0 ∨ i = 1 ∨ i = 2 ∨ i = 3 ∨ i = 4 := by omega
 · exact h0
 · exact h1
 · exact h2
 · exact h3
 · exact h4
theorem fix_tree1 {w : World} {S : Nat → Prop} {name : ByteArray} {z : Int} {I K : Nat} (hI : S I) (hK : S K) (hi : Blk w I 25 #[.int .i64 4, .int .i64 0, .string ⟨#[102, 105, 120, 101, 100]⟩, .slice none 0 0, .slice none 0 0, .int .i64 4, .int .i64 0, .string name, .slice none 0 0, .slice none 0 0, .int .i64 3, .int .i64 z, .string ⟨#[]⟩, .slice none 0 0, .slice none 0 0]) (hk : Blk w K 9 #[.string ⟨#[116, 121, 112, 101]⟩, .string ⟨#[110, 97, 109, 101]⟩, .string ⟨#[115, 105, 122, 101]⟩]) : TreeS w S (jFix1 name z) [.int .i64 6, .int .i64 0, .string ⟨#[]⟩, .slice (some ⟨I, 0, none⟩) 3 3, .slice (some ⟨K, 0, none⟩) 3 3] := by
 refine ⟨some ⟨I, 0, none⟩, 3, some ⟨K, 0, none⟩, 3, rfl, ⟨Nat.le_refl _, by show 3 ≤ maxLen; unfold maxLen; decide⟩, ⟨Nat.le_refl _, by show 3 ≤ maxLen; unfold maxLen; decide⟩, ?_, .inr ⟨K, 0, rfl, hK, fun i h => ?_⟩⟩
 · exact row_five hI hi rfl rfl rfl rfl rfl (text_tree _) (row_five hI hi rfl rfl rfl rfl rfl (text_tree _) (row_five hI hi rfl rfl rfl rfl rfl (int_tree _) trivial))
 · have h : i < 3 := h
   rw [Nat.zero_add, hk.cell]
   obtain rfl | rfl | rfl : i = 0 ∨ i = 1 ∨ i = 2 := by omega
   · rfl
   · rfl
   · rfl
theorem fix_tree2 {w : World} {S : Nat → Prop} {la sp : ByteArray} {z : Int} {I K : Nat} (hI : S I) (hK : S K) (hi : Blk w I 25 #[.int .i64 4, .int .i64 0, .string ⟨#[102, 105, 120, 101, 100]⟩, .slice none 0 0, .slice none 0 0, .int .i64 4, .int .i64 0, .string la, .slice none 0 0, .slice none 0 0, .int .i64 4, .int .i64 0, .string sp, .slice none 0 0, .slice none 0 0, .int .i64 3, .int .i64 z, .string ⟨#[]⟩, .slice none 0 0, .slice none 0 0]) (hk : Blk w K 9 #[.string ⟨#[116, 121, 112, 101]⟩, .string ⟨#[110, 97, 109, 101]⟩, .string ⟨#[110, 97, 109, 101, 115, 112, 97, 99, 101]⟩, .string ⟨#[115, 105, 122, 101]⟩]) : TreeS w S (jFix2 la sp z) [.int .i64 6, .int .i64 0, .string ⟨#[]⟩, .slice (some ⟨I, 0, none⟩) 4 4, .slice (some ⟨K, 0, none⟩) 4 4] := by
 refine ⟨some ⟨I, 0, none⟩, 4, some ⟨K, 0, none⟩, 4, rfl, ⟨Nat.le_refl _, by show 4 ≤ maxLen; unfold maxLen; decide⟩, ⟨Nat.le_refl _, by show 4 ≤ maxLen; unfold maxLen; decide⟩, ?_, .inr ⟨K, 0, rfl, hK, fun i h => ?_⟩⟩
 · exact row_five hI hi rfl rfl rfl rfl rfl (text_tree _) (row_five hI hi rfl rfl rfl rfl rfl (text_tree _) (row_five hI hi rfl rfl rfl rfl rfl (text_tree _) (row_five hI hi rfl rfl rfl rfl rfl (int_tree _) trivial)))
 · have h : i < 4 := h
   rw [Nat.zero_add, hk.cell]
   obtain rfl | rfl | rfl | rfl : i = 0 ∨ i = 1 ∨ i = 2 ∨ i = 3 := by omega
   · rfl
   · rfl
   · rfl
   · rfl
def frN (name sp : ByteArray) (z : Int) (g5 : Nat) (v6 v7 v37 v38 v39 v40 v41 v42 v43 v44 v45 v46 v47 v48 v49 v50 v51 v52 v53 v54 : Value) : Act := { tmps := (.string name :: .int .i64 z :: undef :: undef :: .bool false :: .pointer (some ⟨g5, 0, none⟩) :: v6 :: v7 :: undef :: undef :: undef :: undef :: .bool true :: .bool false :: .string name :: .int .i64 (name.size : Int) :: .bool (decide (1000 < (name.size : Int))) :: .bool (decide (1000 < (name.size : Int))) :: .string name :: .bool true :: .bool false :: .bool (decide (1000 < (name.size : Int))) :: .bool (decide (1000 < (name.size : Int))) :: .string name :: .string sp :: .bool false :: .bool (decide (1000 < (name.size : Int))) :: .bool (decide (1000 < (name.size : Int))) :: .int .i64 z :: .bool (decide (z < 0)) :: .bool (decide (1000 < (name.size : Int)) || decide (z < 0)) :: .bool (decide (1000 < (name.size : Int)) || decide (z < 0)) :: .int .i64 z :: .bool (decide (1000 < z)) :: .bool (decide (1000 < (name.size : Int)) || decide (z < 0) || decide (1000 < z)) :: .int .i64 z :: .agg #[.int .i64 3, .int .i64 z, .string ⟨#[]⟩, .slice none 0 0, .slice none 0 0] :: v37 :: v38 :: v39 :: v40 :: v41 :: v42 :: v43 :: v44 :: v45 :: v46 :: v47 :: v48 :: v49 :: v50 :: v51 :: v52 :: v53 :: v54 :: undef :: undef :: undef :: undef :: undef :: undef :: undef :: undef :: undef :: undef :: undef :: undef :: undef :: undef :: undef :: undef :: undef :: undef :: undef :: undef :: undef :: undef :: undef :: undef :: undef :: undef :: undef :: undef :: undef :: undef :: undef :: undef :: undef :: undef :: undef :: undef :: undef :: undef :: undef :: undef :: undef :: undef :: undef :: undef :: undef :: [] : List Value).toArray, defers := [] }
def Inv6 (name sp : ByteArray) (z : Int) (g5 : Nat) (w0 : World) (l : Array Bool) (a : Act) (W : World) : Prop :=
 ∃ b0 b1 b2 b3 b4 b5 b6 b7 b8 v37 v38 v39 v40 v41 v42 v43 v6 k i g, l = #[b0, b1, b2, b3, b4, b5, b6, b7, b8] ∧ a = frN name sp z g5 v6 undef v37 v38 v39 v40 v41 v42 v43 undef undef undef undef undef undef undef undef undef undef undef ∧ Below w0.heap.size w0 W ∧ ObjM w0 W 3 #[.string ⟨#[116, 121, 112, 101]⟩, .string ⟨#[110, 97, 109, 101]⟩, .string ⟨#[115, 105, 122, 101]⟩] #[.int .i64 4, .int .i64 0, .string ⟨#[102, 105, 120, 101, 100]⟩, .slice none 0 0, .slice none 0 0, .int .i64 4, .int .i64 0, .string name, .slice none 0 0, .slice none 0 0, .int .i64 3, .int .i64 z, .string ⟨#[]⟩, .slice none 0 0, .slice none 0 0] b0 b5 b7 b8 v37 v42 v6 k i g ∧ (b1 = true → v38 = .agg #[.int .i64 4, .int .i64 0, .string ⟨#[102, 105, 120, 101, 100]⟩, .slice none 0 0, .slice none 0 0]) ∧ (b2 = true → v39 = .string name) ∧ (b3 = true → v40 = .agg #[.int .i64 4, .int .i64 0, .string name, .slice none 0 0, .slice none 0 0]) ∧ (b4 = true → v41 = .agg #[.int .i64 3, .int .i64 z, .string ⟨#[]⟩, .slice none 0 0, .slice none 0 0]) ∧ (b6 = true → b0 = true ∧ b5 = true ∧ v43 = .agg #[.int .i64 6, .int .i64 0, .string ⟨#[]⟩, .slice (some ⟨i, 0, none⟩) 3 3, .slice (some ⟨k, 0, none⟩) 3 3])
def Inv7 (name sp la : ByteArray) (z : Int) (g5 : Nat) (w0 : World) (p6 p37 p38 p39 p40 p41 p42 p43 : Value) (l : Array Bool) (a : Act) (W : World) : Prop :=
 ∃ b0 b1 b2 b3 b4 b5 b6 b7 b8 b9 b10 b11 b12 v44 v45 v46 v47 v48 v49 v50 v51 v52 v53 v54 v7 k i g, l = #[b0, b1, b2, b3, b4, b5, b6, b7, b8, b9, b10, b11, b12] ∧ a = frN name sp z g5 p6 v7 p37 p38 p39 p40 p41 p42 p43 v44 v45 v46 v47 v48 v49 v50 v51 v52 v53 v54 ∧ Below w0.heap.size w0 W ∧ ObjM w0 W 4 #[.string ⟨#[116, 121, 112, 101]⟩, .string ⟨#[110, 97, 109, 101]⟩, .string ⟨#[110, 97, 109, 101, 115, 112, 97, 99, 101]⟩, .string ⟨#[115, 105, 122, 101]⟩] #[.int .i64 4, .int .i64 0, .string ⟨#[102, 105, 120, 101, 100]⟩, .slice none 0 0, .slice none 0 0, .int .i64 4, .int .i64 0, .string la, .slice none 0 0, .slice none 0 0, .int .i64 4, .int .i64 0, .string sp, .slice none 0 0, .slice none 0 0, .int .i64 3, .int .i64 z, .string ⟨#[]⟩, .slice none 0 0, .slice none 0 0] b0 b9 b11 b12 v44 v53 v7 k i g ∧ (b1 = true → v45 = .agg #[.int .i64 4, .int .i64 0, .string ⟨#[102, 105, 120, 101, 100]⟩, .slice none 0 0, .slice none 0 0]) ∧ (b2 = true → v46 = .string name) ∧ (b3 = true → v47 = .string la) ∧ (b4 = true → v48 = .agg #[.int .i64 4, .int .i64 0, .string la, .slice none 0 0, .slice none 0 0]) ∧ (b5 = true → v49 = .string name) ∧ (b6 = true → v50 = .string sp) ∧ (b7 = true → v51 = .agg #[.int .i64 4, .int .i64 0, .string sp, .slice none 0 0, .slice none 0 0]) ∧ (b8 = true → v52 = .agg #[.int .i64 3, .int .i64 z, .string ⟨#[]⟩, .slice none 0 0, .slice none 0 0]) ∧ (b10 = true → b0 = true ∧ b9 = true ∧ v54 = .agg #[.int .i64 6, .int .i64 0, .string ⟨#[]⟩, .slice (some ⟨i, 0, none⟩) 4 4, .slice (some ⟨k, 0, none⟩) 4 4])
theorem buildNames_walk (name : ByteArray) (z : Int) (w : World) (hL : LaidN w) : Calls Tryz.prog 6 #[.string name, .int .i64 z] w (fun e w' => e = .returned (.bool true) ∧ Below w.heap.size w w') := by
 have CS := cell_set
 have WK := Lib.hid (works12_any w hL)
 have HL := Lib.hid (fun W (b : Below w.heap.size w W) => LaidN.below hL b)
 clear hL
 by_cases hbig : 1000 < name.size
 · have q : (1000 : Int) < (name.size : Int) := by omega
   clear hbig HL
   go_enter Tryz.func6, Tryz.ntmps6
   go_wp2_with fail
   with_reducible refine WK.out.mono ?_
   rintro e w1 ⟨rfl, b1⟩
   go_wp2_with fail
   go_ret
   exact ⟨rfl, bqq⟩
 have q : ¬ (1000 : Int) < (name.size : Int) := by omega
 have FU := Lib.hid (fun W (b : Below w.heap.size w W) => nFull_any name (by omega) W (HL.out W b))
 have SU := Lib.hid (fun W (b : Below w.heap.size w W) => nSpace_any name (by omega) W (HL.out W b))
 have LU := Lib.hid (fun W (b : Below w.heap.size w W) => nLast_any name (by omega) W (HL.out W b))
 have nsz : name.size ≤ 1000 := by omega
 have spz : (spaceB name).size ≤ 1000 := Nat.le_trans (spaceB_size name) nsz
 have HNB := Lib.hid (fun (hf : Nm.full name.data.toList = true) (hs : Nm.space name.data.toList ≠ []) (hn : 0 ≤ z ∧ z ≤ 1000) => names_built hf (space_dot hs) hs hn)
 have HSP : Hid (spaceB name ≠ ⟨#[]⟩ → Nm.space name.data.toList ≠ []) := fun h e => h (by unfold spaceB; rw [e])
 change Hid (∀ W, Below w.heap.size w W → Calls _ _ _ W (Ans (.string (spaceB name)) W)) at SU
 obtain ⟨sp, hsp⟩ : ∃ s, s = spaceB name := ⟨_, rfl⟩
 obtain ⟨la, hla⟩ : ∃ s : ByteArray, s = ⟨(Nm.last name.data.toList).toArray⟩ := ⟨_, rfl⟩
 change Hid (∀ W, Below w.heap.size w W → Calls _ _ _ W (Ans (.string ⟨(Nm.last name.data.toList).toArray⟩) W)) at LU
 change Hid (_ → _ → _ → _ ∧ bbuild (jFix2 ⟨(Nm.last name.data.toList).toArray⟩ (spaceB name) z) = _) at HNB
 rw [← hla] at LU HNB
 rw [← hsp] at SU HNB HSP spz
 have lsz : la.size ≤ 1000 := by
  rw [hla]
  show (Nm.last name.data.toList).toArray.size ≤ _
  rw [List.size_toArray]
  unfold Nm.last
  rw [List.length_drop]
  have : name.data.toList.length = name.size := Array.length_toList
  omega
 have HSZ := Lib.hid (And.intro nsz (And.intro spz lsz))
 clear hsp hla hbig nsz spz lsz
 generalize hfu : Nm.full name.data.toList = fu at *
 go_enter Tryz.func6, Tryz.ntmps6
 go_wp2_with fail
 with_reducible refine WK.out.mono ?_
 rintro e w1 ⟨rfl, b1⟩
 have s1 := b1.size
 go_wp2_with fail
 with_reducible refine (FU.out _ b1).mono ?_
 rintro e w2 ⟨rfl, b2⟩
 have bw2 : Below w.heap.size w w2 := b1.trans (b2.mono s1)
 clear b1 b2 FU WK
 cases fu with
 | false =>
  clear SU LU HNB HSP
  go_wp2_with fail
  go_ret
  exact ⟨rfl, bqq⟩
 | true =>
 go_wp2_with fail
 with_reducible refine (SU.out _ bw2).mono ?_
 rintro e w3 ⟨rfl, b3⟩
 have bw3 : Below w.heap.size w w3 := bw2.trans (b3.mono bw2.size)
 clear b3
 by_cases hs0 : sp = ⟨#[]⟩
 · subst hs0
   clear SU LU HNB HSP
   go_wp2_with fail
   go_ret
   exact ⟨rfl, bqq⟩
 have qs : (sp.toList == (⟨#[]⟩ : ByteArray).toList) = false := by rw [str_beq]; exact decide_eq_false hs0
 rw [show (⟨#[]⟩ : ByteArray).toList = [] by rw [ByteArray.toList_eq]] at qs
 have HS1 := Lib.hid (HSP.out hs0)
 clear hs0 HSP
 by_cases hz0 : z < 0
 · clear SU LU HNB
   go_wp2_with fail
   go_ret
   exact ⟨rfl, bqq⟩
 by_cases hz1 : 1000 < z
 · clear SU LU HNB
   go_wp2_with fail
   go_ret
   exact ⟨rfl, bqq⟩
 have NB := Lib.hid (HNB.out (by first | rfl | trivial) HS1.out ⟨by omega, by omega⟩)
 have s3 := bw3.size
 obtain ⟨w4, hw4⟩ : ∃ W, W = (w3.alloc (.cells #[.int .i64 3, .int .i64 z, .string ⟨#[]⟩, .slice none 0 0, .slice none 0 0] 25)) := ⟨_, rfl⟩
 have T5 : Hid (B5 w4 w3.heap.size 25 (.int .i64 3) (.int .i64 z) (.string ⟨#[]⟩) (.slice none 0 0) (.slice none 0 0)) := by rw [hw4]; exact B5.newat rfl
 have bw4 : Below w.heap.size w w4 := by rw [hw4]; exact bw3.alloc s3 _
 clear HNB
 go_wp2_with fail
 rw [← hw4]
 clear hw4
 refine wp_region_inv (Inv6 name sp z w3.heap.size w4) (by kernel_rfl) ?_ ?_ ?_
 · exact ⟨false, false, false, false, false, false, false, false, false, undef, undef, undef, undef, undef, undef, undef, undef, 0, 0, 0, rfl, rfl, (Below.refl _ _).drew, ⟨(fun h => by cases h), (fun h => by cases h), (fun h => by cases h), (fun h => by cases h), (fun h => by cases h), (fun h => by cases h), (fun h => by cases h)⟩, (fun h => by cases h), (fun h => by cases h), (fun h => by cases h), (fun h => by cases h), (fun h => by cases h)⟩
 · rintro l a W ⟨b0, b1, b2, b3, b4, b5, b6, b7, b8, v37, v38, v39, v40, v41, v42, v43, v6, k, i, g, rfl, rfl, bel, M, h38, h39, h40, h41, h43⟩ ix op ho hg haf K hK
   have z0 := bel.size
   have bW := Lib.hid (bw4.trans (bel.mono bw4.size))
   have BEL := Lib.hid bel
   have T := Lib.hid (B5.below T5.out bel T5.out.lt)
   have MM := Lib.hid M
   have H38 := Lib.hid h38
   have H39 := Lib.hid h39
   have H40 := Lib.hid h40
   have H41 := Lib.hid h41
   have H43 := Lib.hid h43
   clear M h38 h39 h40 h41 h43
   have NS : Hid (b8 = true → b0 = true ∧ b5 = true ∧ b7 = true) := fun h => MM.out.al h
   have hi : ix < 9 := by
    rcases Nat.lt_or_ge ix 9 with g | g
    · exact g
    · rw [List.getElem?_toArray, List.getElem?_eq_none (by simpa using g)] at ho
      cases ho
   have AF := fun k e (hk : op.after[k]? = some e) (hb : Region.binds .any e = true) => haf e (Array.mem_iff_getElem?.2 ⟨k, hk⟩) hb
   clear haf
   obtain rfl | rfl | rfl | rfl | rfl | rfl | rfl | rfl | rfl : ix = 0 ∨ ix = 1 ∨ ix = 2 ∨ ix = 3 ∨ ix = 4 ∨ ix = 5 ∨ ix = 6 ∨ ix = 7 ∨ ix = 8 := by omega
   · obtain rfl := Option.some.inj ho
     obtain rfl : b0 = false := hg
     obtain rfl : b6 = false := by cases hh : b6 with | false => rfl | true => exact absurd (H43.out hh).1 (by decide)
     have hS : b8 = false := by cases hh : b8 with | false => rfl | true => exact absurd (NS.out hh).1 (by decide)
     subst hS
     clear AF
     unfold frN
     go_simp
     exact hK.out _ _ ⟨true, b1, b2, b3, b4, b5, false, b7, false, _, v38, v39, v40, v41, v42, v43, v6, _, i, g, rfl, rfl, (BEL.out.alloc z0 _), MM.out.key z0, H38.out, H39.out, H40.out, H41.out, (fun h => by cases h)⟩
   · obtain rfl := Option.some.inj ho
     obtain rfl : b1 = false := hg
     clear AF
     unfold frN
     go_simp
     go_wp2_with ((go_at_call 17; (with_reducible refine (text12_any ⟨#[102, 105, 120, 101, 100]⟩ _).mono ?_); rintro e w9 ⟨rfl, bel9⟩))
     exact hK.out _ _ ⟨b0, true, b2, b3, b4, b5, b6, b7, b8, v37, _, v39, v40, v41, v42, v43, v6, k, i, g, rfl, rfl, (BEL.out.trans (bel9.mono z0)), (MM.out.below bel9), (fun _ => rfl), H39.out, H40.out, H41.out, H43.out⟩
   · obtain rfl := Option.some.inj ho
     obtain rfl : b2 = false := hg
     clear AF
     unfold frN
     go_simp
     exact hK.out _ _ ⟨b0, b1, true, b3, b4, b5, b6, b7, b8, v37, v38, _, v40, v41, v42, v43, v6, k, i, g, rfl, rfl, BEL.out, MM.out, H38.out, (fun _ => rfl), H40.out, H41.out, H43.out⟩
   · obtain rfl := Option.some.inj ho
     obtain rfl : b3 = false := hg
     obtain rfl : b2 = true := AF 0 _ rfl rfl
     obtain rfl := H39.out rfl
     clear AF
     unfold frN
     go_simp
     go_wp2_with ((go_at_call 17; (with_reducible refine (text12_any name _).mono ?_); rintro e w9 ⟨rfl, bel9⟩))
     exact hK.out _ _ ⟨b0, b1, true, true, b4, b5, b6, b7, b8, v37, v38, _, _, v41, v42, v43, v6, k, i, g, rfl, rfl, (BEL.out.trans (bel9.mono z0)), (MM.out.below bel9), H38.out, (fun _ => rfl), (fun _ => rfl), H41.out, H43.out⟩
   · obtain rfl := Option.some.inj ho
     obtain rfl : b4 = false := hg
     obtain ⟨_, _, _, _, _, _, _, _, _, _⟩ := B5.facts T.out
     clear AF
     unfold frN
     go_simp
     exact hK.out _ _ ⟨b0, b1, b2, b3, true, b5, b6, b7, b8, v37, v38, v39, v40, _, v42, v43, v6, k, i, g, rfl, rfl, BEL.out, MM.out, H38.out, H39.out, H40.out, (fun _ => rfl), H43.out⟩
   · obtain rfl := Option.some.inj ho
     obtain rfl : b5 = false := hg
     obtain rfl : b6 = false := by cases hh : b6 with | false => rfl | true => exact absurd (H43.out hh).2.1 (by decide)
     have hS : b8 = false := by cases hh : b8 with | false => rfl | true => exact absurd (NS.out hh).2.1 (by decide)
     subst hS
     obtain rfl : b1 = true := AF 0 _ rfl rfl
     obtain rfl : b3 = true := AF 1 _ rfl rfl
     obtain rfl : b4 = true := AF 2 _ rfl rfl
     obtain rfl := H38.out rfl
     obtain rfl := H40.out rfl
     obtain rfl := H41.out rfl
     clear AF
     unfold frN
     go_simp
     exact hK.out _ _ ⟨b0, true, b2, true, true, true, false, b7, false, v37, _, v39, _, _, _, v43, v6, k, _, g, rfl, rfl, (BEL.out.alloc z0 _), MM.out.item z0, (fun _ => rfl), H39.out, (fun _ => rfl), (fun _ => rfl), (fun h => by cases h)⟩
   · obtain rfl := Option.some.inj ho
     obtain rfl : b6 = false := hg
     obtain rfl : b0 = true := AF 0 _ rfl rfl
     obtain rfl : b5 = true := AF 1 _ rfl rfl
     obtain rfl := (MM.out.kk rfl).1
     obtain rfl := (MM.out.ii rfl).1
     clear AF
     unfold frN
     go_simp
     exact hK.out _ _ ⟨true, b1, b2, b3, b4, true, true, b7, b8, _, v38, v39, v40, v41, _, _, v6, k, i, g, rfl, rfl, BEL.out, MM.out, H38.out, H39.out, H40.out, H41.out, (fun _ => ⟨rfl, rfl, rfl⟩)⟩
   · obtain rfl := Option.some.inj ho
     obtain rfl : b7 = false := hg
     have hS : b8 = false := by cases hh : b8 with | false => rfl | true => exact absurd (NS.out hh).2.2 (by decide)
     subst hS
     clear AF
     unfold frN
     go_simp
     exact hK.out _ _ ⟨b0, b1, b2, b3, b4, b5, b6, true, false, v37, v38, v39, v40, v41, v42, v43, _, k, i, _, rfl, rfl, (BEL.out.alloc z0 _), MM.out.box z0 _ _ _ _ _, H38.out, H39.out, H40.out, H41.out, H43.out⟩
   · obtain rfl := Option.some.inj ho
     obtain rfl : b8 = false := hg
     obtain rfl : b6 = true := AF 1 _ rfl rfl
     obtain ⟨rfl, rfl, rfl⟩ := H43.out rfl
     obtain rfl : b7 = true := AF 0 _ rfl rfl
     have PT := Lib.hid MM.out.put
     obtain ⟨e1, lg, x0, x1, x2, x3, x4, hx⟩ := MM.out.gg rfl
     obtain rfl := e1
     obtain ⟨_, _, _, _, _, _, _, _, _, _⟩ := B5.facts hx
     have gl := hx.lt
     clear AF hx
     unfold frN
     go_simp
     exact hK.out _ _ ⟨true, b1, b2, b3, b4, true, true, true, true, v37, v38, v39, v40, v41, v42, _, _, k, i, g, rfl, rfl, (((((BEL.out.setCell lg _).setCell lg _).setCell lg _).setCell lg _).setCell lg _), PT.out, H38.out, H39.out, H40.out, H41.out, (fun _ => ⟨rfl, rfl, rfl⟩)⟩
 · rintro l a W6 ⟨b0, b1, b2, b3, b4, b5, b6, b7, b8, v37, v38, v39, v40, v41, v42, v43, v6, k6, i6, g6, rfl, rfl, bel, M, h38, h39, h40, h41, h43⟩ hall
   obtain rfl : b0 = true := hall 0 _ rfl hlq
   obtain rfl : b1 = true := hall 1 _ rfl hlq
   obtain rfl : b2 = true := hall 2 _ rfl hlq
   obtain rfl : b3 = true := hall 3 _ rfl hlq
   obtain rfl : b4 = true := hall 4 _ rfl hlq
   obtain rfl : b5 = true := hall 5 _ rfl hlq
   obtain rfl : b6 = true := hall 6 _ rfl hlq
   obtain rfl : b7 = true := hall 7 _ rfl hlq
   obtain rfl : b8 = true := hall 8 _ rfl hlq
   obtain ⟨e1, KB, _⟩ := M.kk rfl
   obtain ⟨e2, IB, _⟩ := M.ii rfl
   obtain ⟨e3, lg, _⟩ := M.gg rfl
   obtain ⟨_, GB⟩ := M.ss rfl
   obtain rfl := e1
   obtain rfl := e2
   obtain rfl := e3
   obtain rfl := h38 rfl
   obtain rfl := h39 rfl
   obtain rfl := h40 rfl
   obtain rfl := h41 rfl
   obtain ⟨_, _, e4⟩ := h43 rfl
   obtain rfl := e4
   have bW6 : Below w.heap.size w W6 := bw4.trans (bel.mono bw4.size)
   have T6 := Lib.hid (B5.below T5.out bel T5.out.lt)
   have G6 := Lib.hid (show B5 W6 g6 25 (.int .i64 6) (.int .i64 0) (.string ⟨#[]⟩) (.slice (some ⟨i6, 0, none⟩) 3 3) (.slice (some ⟨k6, 0, none⟩) 3 3) from GB)
   have TR6 := Lib.hid (fix_tree1 (S := (· < W6.heap.size)) (name := name) (z := z) IB.lt KB.lt IB KB)
   have lg6 := GB.lt
   clear M KB IB GB bel h38 h39 h40 h41 h43
   unfold frN
   go_wp2_with fail
   refine wp_region_inv (Inv7 name sp la z w3.heap.size W6 (.pointer (some ⟨g6, 0, none⟩)) (.slice (some ⟨k6, 0, none⟩) 3 3) (.agg #[.int .i64 4, .int .i64 0, .string ⟨#[102, 105, 120, 101, 100]⟩, .slice none 0 0, .slice none 0 0]) (.string name) (.agg #[.int .i64 4, .int .i64 0, .string name, .slice none 0 0, .slice none 0 0]) (.agg #[.int .i64 3, .int .i64 z, .string ⟨#[]⟩, .slice none 0 0, .slice none 0 0]) (.slice (some ⟨i6, 0, none⟩) 3 3) (.agg #[.int .i64 6, .int .i64 0, .string ⟨#[]⟩, .slice (some ⟨i6, 0, none⟩) 3 3, .slice (some ⟨k6, 0, none⟩) 3 3])) (by kernel_rfl) ?_ ?_ ?_
   · exact ⟨false, false, false, false, false, false, false, false, false, false, false, false, false, undef, undef, undef, undef, undef, undef, undef, undef, undef, undef, undef, undef, 0, 0, 0, rfl, rfl, (Below.refl _ _).drew, ⟨(fun h => by cases h), (fun h => by cases h), (fun h => by cases h), (fun h => by cases h), (fun h => by cases h), (fun h => by cases h), (fun h => by cases h)⟩, (fun h => by cases h), (fun h => by cases h), (fun h => by cases h), (fun h => by cases h), (fun h => by cases h), (fun h => by cases h), (fun h => by cases h), (fun h => by cases h), (fun h => by cases h)⟩
   · rintro l a W ⟨b0, b1, b2, b3, b4, b5, b6, b7, b8, b9, b10, b11, b12, v44, v45, v46, v47, v48, v49, v50, v51, v52, v53, v54, v7, k, i, g, rfl, rfl, bel, M, h45, h46, h47, h48, h49, h50, h51, h52, h54⟩ ix op ho hg haf K hK
     have z0 := bel.size
     have bW := Lib.hid (bW6.trans (bel.mono bW6.size))
     have BEL := Lib.hid bel
     have T := Lib.hid (B5.below T6.out bel T6.out.lt)
     have MM := Lib.hid M
     have H45 := Lib.hid h45
     have H46 := Lib.hid h46
     have H47 := Lib.hid h47
     have H48 := Lib.hid h48
     have H49 := Lib.hid h49
     have H50 := Lib.hid h50
     have H51 := Lib.hid h51
     have H52 := Lib.hid h52
     have H54 := Lib.hid h54
     clear M h45 h46 h47 h48 h49 h50 h51 h52 h54
     have NS : Hid (b12 = true → b0 = true ∧ b9 = true ∧ b11 = true) := fun h => MM.out.al h
     have hi : ix < 13 := by
      rcases Nat.lt_or_ge ix 13 with g | g
      · exact g
      · rw [List.getElem?_toArray, List.getElem?_eq_none (by simpa using g)] at ho
        cases ho
     have AF := fun k e (hk : op.after[k]? = some e) (hb : Region.binds .any e = true) => haf e (Array.mem_iff_getElem?.2 ⟨k, hk⟩) hb
     clear haf
     obtain rfl | rfl | rfl | rfl | rfl | rfl | rfl | rfl | rfl | rfl | rfl | rfl | rfl : ix = 0 ∨ ix = 1 ∨ ix = 2 ∨ ix = 3 ∨ ix = 4 ∨ ix = 5 ∨ ix = 6 ∨ ix = 7 ∨ ix = 8 ∨ ix = 9 ∨ ix = 10 ∨ ix = 11 ∨ ix = 12 := by omega
     · obtain rfl := Option.some.inj ho
       obtain rfl : b0 = false := hg
       obtain rfl : b10 = false := by cases hh : b10 with | false => rfl | true => exact absurd (H54.out hh).1 (by decide)
       have hS : b12 = false := by cases hh : b12 with | false => rfl | true => exact absurd (NS.out hh).1 (by decide)
       subst hS
       clear AF
       unfold frN
       go_simp
       exact hK.out _ _ ⟨true, b1, b2, b3, b4, b5, b6, b7, b8, b9, false, b11, false, _, v45, v46, v47, v48, v49, v50, v51, v52, v53, v54, v7, _, i, g, rfl, rfl, (BEL.out.alloc z0 _), MM.out.key z0, H45.out, H46.out, H47.out, H48.out, H49.out, H50.out, H51.out, H52.out, (fun h => by cases h)⟩
     · obtain rfl := Option.some.inj ho
       obtain rfl : b1 = false := hg
       clear AF
       unfold frN
       go_simp
       go_wp2_with ((go_at_call 17; (with_reducible refine (text12_any ⟨#[102, 105, 120, 101, 100]⟩ _).mono ?_); rintro e w9 ⟨rfl, bel9⟩))
       exact hK.out _ _ ⟨b0, true, b2, b3, b4, b5, b6, b7, b8, b9, b10, b11, b12, v44, _, v46, v47, v48, v49, v50, v51, v52, v53, v54, v7, k, i, g, rfl, rfl, (BEL.out.trans (bel9.mono z0)), (MM.out.below bel9), (fun _ => rfl), H46.out, H47.out, H48.out, H49.out, H50.out, H51.out, H52.out, H54.out⟩
     · obtain rfl := Option.some.inj ho
       obtain rfl : b2 = false := hg
       clear AF
       unfold frN
       go_simp
       exact hK.out _ _ ⟨b0, b1, true, b3, b4, b5, b6, b7, b8, b9, b10, b11, b12, v44, v45, _, v47, v48, v49, v50, v51, v52, v53, v54, v7, k, i, g, rfl, rfl, BEL.out, MM.out, H45.out, (fun _ => rfl), H47.out, H48.out, H49.out, H50.out, H51.out, H52.out, H54.out⟩
     · obtain rfl := Option.some.inj ho
       obtain rfl : b3 = false := hg
       obtain rfl : b2 = true := AF 0 _ rfl rfl
       obtain rfl := H46.out rfl
       clear AF
       unfold frN
       go_simp
       go_wp2_with ((go_at_call 18; (with_reducible refine (LU.out _ bW.out).mono ?_); rintro e w9 ⟨rfl, bel9⟩))
       exact hK.out _ _ ⟨b0, b1, true, true, b4, b5, b6, b7, b8, b9, b10, b11, b12, v44, v45, _, _, v48, v49, v50, v51, v52, v53, v54, v7, k, i, g, rfl, rfl, (BEL.out.trans (bel9.mono z0)), (MM.out.below bel9), H45.out, (fun _ => rfl), (fun _ => rfl), H48.out, H49.out, H50.out, H51.out, H52.out, H54.out⟩
     · obtain rfl := Option.some.inj ho
       obtain rfl : b4 = false := hg
       obtain rfl : b3 = true := AF 0 _ rfl rfl
       obtain rfl := H47.out rfl
       clear AF
       unfold frN
       go_simp
       go_wp2_with ((go_at_call 17; (with_reducible refine (text12_any la _).mono ?_); rintro e w9 ⟨rfl, bel9⟩))
       exact hK.out _ _ ⟨b0, b1, b2, true, true, b5, b6, b7, b8, b9, b10, b11, b12, v44, v45, v46, _, _, v49, v50, v51, v52, v53, v54, v7, k, i, g, rfl, rfl, (BEL.out.trans (bel9.mono z0)), (MM.out.below bel9), H45.out, H46.out, (fun _ => rfl), (fun _ => rfl), H49.out, H50.out, H51.out, H52.out, H54.out⟩
     · obtain rfl := Option.some.inj ho
       obtain rfl : b5 = false := hg
       clear AF
       unfold frN
       go_simp
       exact hK.out _ _ ⟨b0, b1, b2, b3, b4, true, b6, b7, b8, b9, b10, b11, b12, v44, v45, v46, v47, v48, _, v50, v51, v52, v53, v54, v7, k, i, g, rfl, rfl, BEL.out, MM.out, H45.out, H46.out, H47.out, H48.out, (fun _ => rfl), H50.out, H51.out, H52.out, H54.out⟩
     · obtain rfl := Option.some.inj ho
       obtain rfl : b6 = false := hg
       obtain rfl : b5 = true := AF 0 _ rfl rfl
       obtain rfl := H49.out rfl
       clear AF
       unfold frN
       go_simp
       go_wp2_with ((go_at_call 16; (with_reducible refine (SU.out _ bW.out).mono ?_); rintro e w9 ⟨rfl, bel9⟩))
       exact hK.out _ _ ⟨b0, b1, b2, b3, b4, true, true, b7, b8, b9, b10, b11, b12, v44, v45, v46, v47, v48, _, _, v51, v52, v53, v54, v7, k, i, g, rfl, rfl, (BEL.out.trans (bel9.mono z0)), (MM.out.below bel9), H45.out, H46.out, H47.out, H48.out, (fun _ => rfl), (fun _ => rfl), H51.out, H52.out, H54.out⟩
     · obtain rfl := Option.some.inj ho
       obtain rfl : b7 = false := hg
       obtain rfl : b6 = true := AF 0 _ rfl rfl
       obtain rfl := H50.out rfl
       clear AF
       unfold frN
       go_simp
       go_wp2_with ((go_at_call 17; (with_reducible refine (text12_any sp _).mono ?_); rintro e w9 ⟨rfl, bel9⟩))
       exact hK.out _ _ ⟨b0, b1, b2, b3, b4, b5, true, true, b8, b9, b10, b11, b12, v44, v45, v46, v47, v48, v49, _, _, v52, v53, v54, v7, k, i, g, rfl, rfl, (BEL.out.trans (bel9.mono z0)), (MM.out.below bel9), H45.out, H46.out, H47.out, H48.out, H49.out, (fun _ => rfl), (fun _ => rfl), H52.out, H54.out⟩
     · obtain rfl := Option.some.inj ho
       obtain rfl : b8 = false := hg
       obtain ⟨_, _, _, _, _, _, _, _, _, _⟩ := B5.facts T.out
       clear AF
       unfold frN
       go_simp
       exact hK.out _ _ ⟨b0, b1, b2, b3, b4, b5, b6, b7, true, b9, b10, b11, b12, v44, v45, v46, v47, v48, v49, v50, v51, _, v53, v54, v7, k, i, g, rfl, rfl, BEL.out, MM.out, H45.out, H46.out, H47.out, H48.out, H49.out, H50.out, H51.out, (fun _ => rfl), H54.out⟩
     · obtain rfl := Option.some.inj ho
       obtain rfl : b9 = false := hg
       obtain rfl : b10 = false := by cases hh : b10 with | false => rfl | true => exact absurd (H54.out hh).2.1 (by decide)
       have hS : b12 = false := by cases hh : b12 with | false => rfl | true => exact absurd (NS.out hh).2.1 (by decide)
       subst hS
       obtain rfl : b1 = true := AF 0 _ rfl rfl
       obtain rfl : b4 = true := AF 1 _ rfl rfl
       obtain rfl : b7 = true := AF 2 _ rfl rfl
       obtain rfl : b8 = true := AF 3 _ rfl rfl
       obtain rfl := H45.out rfl
       obtain rfl := H48.out rfl
       obtain rfl := H51.out rfl
       obtain rfl := H52.out rfl
       clear AF
       unfold frN
       go_simp
       exact hK.out _ _ ⟨b0, true, b2, b3, true, b5, b6, true, true, true, false, b11, false, v44, _, v46, v47, _, v49, v50, _, _, _, v54, v7, k, _, g, rfl, rfl, (BEL.out.alloc z0 _), MM.out.item z0, (fun _ => rfl), H46.out, H47.out, (fun _ => rfl), H49.out, H50.out, (fun _ => rfl), (fun _ => rfl), (fun h => by cases h)⟩
     · obtain rfl := Option.some.inj ho
       obtain rfl : b10 = false := hg
       obtain rfl : b0 = true := AF 0 _ rfl rfl
       obtain rfl : b9 = true := AF 1 _ rfl rfl
       obtain rfl := (MM.out.kk rfl).1
       obtain rfl := (MM.out.ii rfl).1
       clear AF
       unfold frN
       go_simp
       exact hK.out _ _ ⟨true, b1, b2, b3, b4, b5, b6, b7, b8, true, true, b11, b12, _, v45, v46, v47, v48, v49, v50, v51, v52, _, _, v7, k, i, g, rfl, rfl, BEL.out, MM.out, H45.out, H46.out, H47.out, H48.out, H49.out, H50.out, H51.out, H52.out, (fun _ => ⟨rfl, rfl, rfl⟩)⟩
     · obtain rfl := Option.some.inj ho
       obtain rfl : b11 = false := hg
       have hS : b12 = false := by cases hh : b12 with | false => rfl | true => exact absurd (NS.out hh).2.2 (by decide)
       subst hS
       clear AF
       unfold frN
       go_simp
       exact hK.out _ _ ⟨b0, b1, b2, b3, b4, b5, b6, b7, b8, b9, b10, true, false, v44, v45, v46, v47, v48, v49, v50, v51, v52, v53, v54, _, k, i, _, rfl, rfl, (BEL.out.alloc z0 _), MM.out.box z0 _ _ _ _ _, H45.out, H46.out, H47.out, H48.out, H49.out, H50.out, H51.out, H52.out, H54.out⟩
     · obtain rfl := Option.some.inj ho
       obtain rfl : b12 = false := hg
       obtain rfl : b10 = true := AF 1 _ rfl rfl
       obtain ⟨rfl, rfl, rfl⟩ := H54.out rfl
       obtain rfl : b11 = true := AF 0 _ rfl rfl
       have PT := Lib.hid MM.out.put
       obtain ⟨e1, lg, x0, x1, x2, x3, x4, hx⟩ := MM.out.gg rfl
       obtain rfl := e1
       obtain ⟨_, _, _, _, _, _, _, _, _, _⟩ := B5.facts hx
       have gl := hx.lt
       clear AF hx
       unfold frN
       go_simp
       exact hK.out _ _ ⟨true, b1, b2, b3, b4, b5, b6, b7, b8, true, true, true, true, v44, v45, v46, v47, v48, v49, v50, v51, v52, v53, _, _, k, i, g, rfl, rfl, (((((BEL.out.setCell lg _).setCell lg _).setCell lg _).setCell lg _).setCell lg _), PT.out, H45.out, H46.out, H47.out, H48.out, H49.out, H50.out, H51.out, H52.out, (fun _ => ⟨rfl, rfl, rfl⟩)⟩
   · rintro l a W7 ⟨b0, b1, b2, b3, b4, b5, b6, b7, b8, b9, b10, b11, b12, v44, v45, v46, v47, v48, v49, v50, v51, v52, v53, v54, v7, k7, i7, g7, rfl, rfl, bel, M, h45, h46, h47, h48, h49, h50, h51, h52, h54⟩ hall
     obtain rfl : b0 = true := hall 0 _ rfl hlq
     obtain rfl : b1 = true := hall 1 _ rfl hlq
     obtain rfl : b2 = true := hall 2 _ rfl hlq
     obtain rfl : b3 = true := hall 3 _ rfl hlq
     obtain rfl : b4 = true := hall 4 _ rfl hlq
     obtain rfl : b5 = true := hall 5 _ rfl hlq
     obtain rfl : b6 = true := hall 6 _ rfl hlq
     obtain rfl : b7 = true := hall 7 _ rfl hlq
     obtain rfl : b8 = true := hall 8 _ rfl hlq
     obtain rfl : b9 = true := hall 9 _ rfl hlq
     obtain rfl : b10 = true := hall 10 _ rfl hlq
     obtain rfl : b11 = true := hall 11 _ rfl hlq
     obtain rfl : b12 = true := hall 12 _ rfl hlq
     obtain ⟨e1, KB, _⟩ := M.kk rfl
     obtain ⟨e2, IB, _⟩ := M.ii rfl
     obtain ⟨e3, lg, _⟩ := M.gg rfl
     obtain ⟨_, GB⟩ := M.ss rfl
     obtain rfl := e1
     obtain rfl := e2
     obtain rfl := e3
     obtain rfl := h45 rfl
     obtain rfl := h46 rfl
     obtain rfl := h47 rfl
     obtain rfl := h48 rfl
     obtain rfl := h49 rfl
     obtain rfl := h50 rfl
     obtain rfl := h51 rfl
     obtain rfl := h52 rfl
     obtain ⟨_, _, e4⟩ := h54 rfl
     obtain rfl := e4
     have bW7 : Below w.heap.size w W7 := bW6.trans (bel.mono bW6.size)
     have G6' := Lib.hid (B5.below G6.out bel G6.out.lt)
     have G7 := Lib.hid (show B5 W7 g7 25 (.int .i64 6) (.int .i64 0) (.string ⟨#[]⟩) (.slice (some ⟨i7, 0, none⟩) 4 4) (.slice (some ⟨k7, 0, none⟩) 4 4) from GB)
     have TR7 := Lib.hid (fix_tree2 (S := (· < W7.heap.size)) (la := la) (sp := sp) (z := z) IB.lt KB.lt IB KB)
     have TR6' : Hid (TreeC W7 W7.heap.size (jFix1 name z) [.int .i64 6, .int .i64 0, .string ⟨#[]⟩, .slice (some ⟨i6, 0, none⟩) 3 3, .slice (some ⟨k6, 0, none⟩) 3 3]) := TreeS.keep (fun p hp => bel.cell hp) (fun b hb => Nat.lt_of_lt_of_le hb bel.size) TR6.out
     have hs := HSZ.out
     have BA := Lib.hid (fun W (hW : LaidN W) h => build_any (jFix1 name z) (by have := fix1_wt name z; omega) (by rw [fix1_deep]; decide) W hW (some ⟨i6, 0, none⟩) (some ⟨k6, 0, none⟩) 3 3 h (.ok [{ Nd.z 14 with name := name, size := z }]) NB.out.1.symm)
     have BB := Lib.hid (fun W (hW : LaidN W) h => build_any (jFix2 la sp z) (by have := fix2_wt la sp z; omega) (by rw [fix2_deep]; decide) W hW (some ⟨i7, 0, none⟩) (some ⟨k7, 0, none⟩) 4 4 h (.ok [{ Nd.z 14 with name := name, size := z }]) NB.out.2.symm)
     change Hid (∀ W, LaidN W → ∀ (h : TreeC W W.heap.size (jFix1 name z) [.int .i64 6, .int .i64 0, .string ⟨#[]⟩, .slice (some ⟨i6, 0, none⟩) 3 3, .slice (some ⟨k6, 0, none⟩) 3 3]), Calls _ _ #[.agg #[.int .i64 6, .int .i64 0, .string ⟨#[]⟩, .slice (some ⟨i6, 0, none⟩) 3 3, .slice (some ⟨k6, 0, none⟩) 3 3]] W _) at BA
     change Hid (∀ W, LaidN W → ∀ (h : TreeC W W.heap.size (jFix2 la sp z) [.int .i64 6, .int .i64 0, .string ⟨#[]⟩, .slice (some ⟨i7, 0, none⟩) 4 4, .slice (some ⟨k7, 0, none⟩) 4 4]), Calls _ _ #[.agg #[.int .i64 6, .int .i64 0, .string ⟨#[]⟩, .slice (some ⟨i7, 0, none⟩) 4 4, .slice (some ⟨k7, 0, none⟩) 4 4]] W _) at BB
     have B1 := Lib.hid (BA.out W7 (HL.out W7 bW7) TR6'.out)
     obtain ⟨_, _, _, _, _, _, _, _, _, _⟩ := B5.facts G6'.out
     have lg7 := G7.out.lt
     clear M KB IB GB bel hs BA TR6 TR6' NB T6 T5 h45 h46 h47 h48 h49 h50 h51 h52 h54
     unfold frN
     go_wp2_with fail
     with_reducible refine B1.out.mono ?_
     rintro e w8 ⟨b8, _, h8⟩
     obtain ⟨A, c, rfl, n1⟩ := h8 _ rfl
     simp only [List.length_cons, List.length_nil, Nat.zero_add] at n1 ⊢
     have bw8 : Below w.heap.size w w8 := bW7.trans (b8.mono bW7.size)
     have b9 : Below w.heap.size w (w8.alloc (.cells #[.slice A 1 c, .int .i64 0] 30)) := bw8.alloc bw8.size _
     have b89 : Below w8.heap.size w8 (w8.alloc (.cells #[.slice A 1 c, .int .i64 0] 30)) := (Below.refl _ _).alloc (Nat.le_refl _) _
     have b79 : Below W7.heap.size W7 (w8.alloc (.cells #[.slice A 1 c, .int .i64 0] 30)) := b8.trans (b89.mono b8.size)
     have B2' := Lib.hid (BB.out (w8.alloc (.cells #[.slice A 1 c, .int .i64 0] 30)) (HL.out _ b9) (TreeS.keep (fun p hp => b79.cell hp) (fun b hb => Nat.lt_of_lt_of_le hb b79.size) TR7.out))
     have SS8 : Hid (B2 (w8.alloc (.cells #[.slice A 1 c, .int .i64 0] 30)) w8.heap.size 30 (.slice A 1 c) (.int .i64 0)) := B2.newat rfl
     have G9 := Lib.hid (B5.below G7.out b79 G7.out.lt)
     obtain ⟨_, _, _, _, _, _, _, _, _, _⟩ := B5.facts G9.out
     have BW9 := Lib.hid b9
     have BW89 := Lib.hid b89
     clear h8 B1 BB TR7 G6' b9 b89 b79 b8
     go_wp2_with fail
     with_reducible refine B2'.out.mono ?_
     rintro e w9 ⟨b10, _, h10⟩
     obtain ⟨A', c', rfl, n2⟩ := h10 _ rfl
     simp only [List.length_cons, List.length_nil, Nat.zero_add] at n2 ⊢
     have bw9 : Below w.heap.size w w9 := BW9.out.trans (b10.mono BW9.out.size)
     have b8_9 : Below w8.heap.size w8 w9 := BW89.out.trans (b10.mono BW89.out.size)
     have S9' := Lib.hid (B2.below SS8.out b10 SS8.out.lt)
     have sl9 := S9'.out.lt
     have n1' := n1.below b8_9
     have b9a : Below w9.heap.size w9 (w9.alloc (.cells #[.slice A' 1 c', .int .i64 0] 30)) := (Below.refl _ _).alloc (Nat.le_refl _) _
     have SS := (sSame_any ⟨[{ Nd.z 14 with name := name, size := z }], 0⟩ (w9.alloc (.cells #[.slice A' 1 c', .int .i64 0] 30)) A A' c c' (n1'.below b9a).lies (n2.below b9a).lies)
     simp only [List.length_cons, List.length_nil, Nat.zero_add] at SS
     replace SS := Lib.hid SS
     obtain ⟨_, _, e, la', ra⟩ := Sc.out.1 n1'.lies
     simp only [List.cons.injEq, Value.slice.injEq, true_and, and_true] at e
     obtain ⟨rfl, rfl⟩ := e
     dsimp only at ra
     obtain ⟨g0, o0, _, _, _, _, _, _, _, _, rfl, hg0, ⟨_, c01, _, _, _, _, _, c07, _, _⟩, yl⟩ := nodes_at ra (i := 0) (by simp)
     replace c01 : w9.cell? ⟨g0, o0 + 1, none⟩ = some (.string name) := by simpa using c01
     replace c07 : w9.cell? ⟨g0, o0 + 7, none⟩ = some (.int .i64 z) := by simpa using c07
     have C01 := Lib.hid c01
     have C07 := Lib.hid c07
     obtain ⟨_, _, _, _⟩ := B2.facts S9'.out
     have s99 := bw9.size
     have bk : Hid (Below w.heap.size w (w9.alloc (.cells #[.slice A' 1 c', .int .i64 0] 30))) := by show Below _ _ _; (repeat' (first | with_reducible assumption | with_reducible exact Below.refl _ _ | (with_reducible refine Below.alloc ?_ ?_ _; rotate_left; focus ((first | exact Nat.le_refl _ | (simp; done) | (simp; omega) | omega | fail))) | (with_reducible refine Below.setCell ?_ ?_ _; rotate_left; focus ((first | exact Nat.le_refl _ | (simp; done) | (simp; omega) | omega | fail))) | with_reducible refine Mem.bel_drewN ?_ _ | with_reducible refine Below.drew ?_ | (with_reducible refine Mem.bel_call (by with_reducible assumption) ?_ ?_; focus ((first | exact Nat.le_refl _ | (simp; done) | (simp; omega) | omega | fail))) | fail))
     clear h10 n1 n1' n2 B2' SS8 b10 b8_9 yl ra la' c01 c07 BW9 BW89 G9
     go_wp2_with fail
     with_reducible refine SS.out.mono ?_
     rintro e w10 ⟨rfl, b11⟩
     have b9_10 : Below w9.heap.size w9 w10 := b9a.trans (b11.mono b9a.size)
     have bw10 : Below w.heap.size w w10 := bk.out.trans (b11.mono bk.out.size)
     have S10 := Lib.hid (B2.below S9'.out b9_10 S9'.out.lt)
     obtain ⟨_, _, _, _⟩ := B2.facts S10.out
     have d01 := (b9_10.cell (p := ⟨g0, o0 + 1, none⟩) hg0).trans C01.out
     have d07 := (b9_10.cell (p := ⟨g0, o0 + 7, none⟩) hg0).trans C07.out
     clear b11 b9_10 b9a SS S9'
     go_wp2_with fail
     go_ret
     exact ⟨rfl, bqq⟩
end Go.Proofs.YthogheglddfniaaGreatDoor
