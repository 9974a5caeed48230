/- Whether any two values are alike, and how deep one is, is as the document has it; a copy is alike, and has its own memory: for every two values (the law itself says nothing of more than 2500 parts and bytes, or 80 deep). -/
import Derived.Test.YtlpmcohbbffbfaaDoorRows
import Derived.Test.YtlpmcohbbffbfaaDoorP1
import Derived.Test.YtlpmcohbbffbfaaDoorP15
import Derived.WalkKit
import Derived.ProofKit
import Derived.OpenShut
import Derived.ShutString
import Derived.ChangeOld
import Derived.Below
import Derived.Test.YtlpmcohbbffbfaaDoorP2
import Derived.LaidMore
import Derived.Lay
import Derived.Stop.Joined
import Derived.SevenTiedAt
import Derived.Test.YtlpmcohbbffbfaaDoorCards
import Derived.Test.YtlpmcohbbffbfaaDoorTie
namespace Go.Proofs.YtlpmcohbbffbfaaDoor.valueAsks
open Go.ChangeShapes Go.WideShapes Go.ChangeAt Go.RowKit
open Go.ChangeMaps (open_string shut_string)
set_option linter.unusedVariables false

theorem own : ownKnob Tryd.prog.godebug = none := by kernel_rfl
theorem laidOut : laidOutB Tryd.prog = true := by kernel_rfl

def IsRow (k : IntKind) (w : World) (a : Option Addr) (len cap : Nat) (zs : List Int) : Prop :=
  (a = none ∧ len = 0 ∧ cap = 0 ∧ zs = []) ∨
  ∃ x, a = some x ∧ len ≤ cap ∧ cap ≤ maxLen ∧ zs.length = cap ∧ (∀ i, i < zs.length → w.cell? (x.add i) = some (.int k (zs.getD i 0))) ∧ ∀ n ∈ zs, (Lit.int k n).wf = true

abbrev laidL : List (String × DataW Unit) := [("unicode/utf8.acceptRanges", Rows.laid_unicode_utf8_acceptRanges), ("avocet/utf.marks", Rows.laid_avocet_utf_marks), ("avocet/naming.words", Rows.laid_avocet_naming_words), ("unicode/utf8.first", Rows.laid_unicode_utf8_first)]
theorem walk (q0 : V) (A03 A04 A05 : Option Addr) (c03 c04 c05 : Nat) (q1 : V) (A13 A14 A15 : Option Addr) (c13 c14 c15 : Nat) (w : World) (w0 : Lies w (· < w.heap.size) q0.enc [.int .i64 q0.k, .int .i64 q0.n, .int .u64 q0.bt, .slice A03 q0.bs.length c03, .slice A04 q0.its.length c04, .slice A05 q0.ks.length c05] ∧ q0.rng) (w1 : Lies w (· < w.heap.size) q1.enc [.int .i64 q1.k, .int .i64 q1.n, .int .u64 q1.bt, .slice A13 q1.bs.length c13, .slice A14 q1.its.length c14, .slice A15 q1.ks.length c15] ∧ q1.rng) (hL : laidMetH Tryd.prog laidL w) :
    Calls Tryd.prog 3 #[.agg #[.int .i64 q0.k, .int .i64 q0.n, .int .u64 q0.bt, .slice A03 q0.bs.length c03, .slice A04 q0.its.length c04, .slice A05 q0.ks.length c05], .agg #[.int .i64 q1.k, .int .i64 q1.n, .int .u64 q1.bt, .slice A13 q1.bs.length c13, .slice A14 q1.its.length c14, .slice A15 q1.ks.length c15]] w fun e w' => e = .returned (.bool true) ∧ Below w.heap.size w w' := by
  exact valueAsks_walk q0 q1 w A03 A04 A05 A13 A14 A15 c03 c04 c05 c13 c14 c15 w0.1 w1.1 (laid_of hL)

set_option maxRecDepth 100000 in
theorem lifted (os : Os) (started : os.Started) (H : Type) (enc : TypeId × Value → H) :
    ReturnsInHanded {} Tryd.checked os 3 .any (fun w args => (Rows.valueAsksSpec.pre enc Tryd.prog Tryd.f3 [] false w args ∧ laidMetH Tryd.prog laidL w) ∧ sizedMet enc Tryd.prog Tryd.f3 (OpenSpec.ofChange Rows.valueAsksSpec) false w args)
      (Rows.valueAsksSpec.post enc Tryd.prog Tryd.f3 false true false false) := by
  refine returnsInHanded_of_change_and (C := Tryd.checked) (X := fun w _ => laidMetH Tryd.prog laidL w) (fun _ _ _ hh h => h.of_heap hh) own started (by kernel_rfl) Tryd.func3
    (ChangeSpec.witness_shaped (enc := enc) (C := Tryd.checked) (os := os) (X := fun w _ => laidMetH Tryd.prog laidL w) false (World.laidAll Tryd.prog os laidL) #[.agg #[.int .i64 0, .int .i64 0, .int .u64 0, .slice none 0 0, .slice none 0 0, .slice none 0 0], .agg #[.int .i64 0, .int .i64 0, .int .u64 0, .slice none 0 0, .slice none 0 0, .slice none 0 0]] 8 (World.laidAll_os _ _ _)
      (World.shaped_of_ZipB (by kernel_rfl) (by kernel_rfl)) (by kernel_rfl) (by kernel_rfl) (by kernel_rfl)
      (by rw [MakeChecks.laidMetH_plain _ _ _ (by kernel_rfl)]; exact laidMet_laidAll _ (by kernel_rfl) (by kernel_rfl))) ?_
  intro W base args ds gs before hval0 hW _ _ hL _
  have hval : ∀ (j : Nat) t v, Tryd.f3.params[j]? = some t → args[j]? = some v → Value.okWide Tryd.prog W .any base t v := hval0
  have hW' := hW
  obtain ⟨p, q, hA0, hV, rfl, hfz, hnd⟩ := hW
  have hA : DataW.TrodAll enc Tryd.prog W 0 (fun _ => true) true Tryd.f3.params.toList args.toList ds p := hA0
  rw [Tryd.params3] at hA hval
  obtain ⟨v0, vs0, d0, ds0, p0, q0, hargs, rfl, rfl, h0, r0⟩ := trodAll_cons hA
  obtain ⟨v1, vs1, d1, ds1, p1, q1, rfl, rfl, rfl, h1, r1⟩ := trodAll_cons r0
  obtain ⟨rfl, rfl, rfl⟩ := trodAll_nil r1
  obtain rfl : args = #[v0, v1] := by cases args; simp_all
  obtain ⟨rfl, rfl⟩ := trodVars_none hV
  obtain ⟨cs0, rfl, _⟩ := okWide_struct Tryd.underlying27 (hval 0 27 v0 rfl rfl)
  have k0 := h0
  have lt0 : ∀ x ∈ p0, x.block < W.heap.size := by obtain ⟨m, hm⟩ := k0; exact DataW.trod_lt m _ _ _ hm
  obtain ⟨q0, A03, A04, A05, c03, c04, c05, rfl, w0⟩ : ∃ (q : V) (A3 A4 A5 : Option Addr) (c3 c4 c5 : Nat), cs0 = #[.int .i64 q.k, .int .i64 q.n, .int .u64 q.bt, .slice A3 q.bs.length c3, .slice A4 q.its.length c4, .slice A5 q.ks.length c5] ∧ Lies W (· < W.heap.size) q.enc [.int .i64 q.k, .int .i64 q.n, .int .u64 q.bt, .slice A3 q.bs.length c3, .slice A4 q.its.length c4, .slice A5 q.ks.length c5] ∧ q.rng := by
    obtain ⟨fuel, hf⟩ := h0
    obtain ⟨q, hq, hr⟩ := value_of_trod hf
    obtain ⟨A3, c3, A4, c4, A5, c5, e, _⟩ := V.out.1 hq
    have e' : cs0.toList = [.int .i64 q.k, .int .i64 q.n, .int .u64 q.bt, .slice A3 q.bs.length c3, .slice A4 q.its.length c4, .slice A5 q.ks.length c5] := by simpa [Value.cells] using e
    refine ⟨q, A3, A4, A5, c3, c4, c5, by rw [← Array.toArray_toList (xs := cs0), e'], ?_, hr⟩
    rw [e] at hq
    exact hq
  obtain ⟨cs1, rfl, _⟩ := okWide_struct Tryd.underlying27 (hval 1 27 v1 rfl rfl)
  have k1 := h1
  have lt1 : ∀ x ∈ p1, x.block < W.heap.size := by obtain ⟨m, hm⟩ := k1; exact DataW.trod_lt m _ _ _ hm
  obtain ⟨q1, A13, A14, A15, c13, c14, c15, rfl, w1⟩ : ∃ (q : V) (A3 A4 A5 : Option Addr) (c3 c4 c5 : Nat), cs1 = #[.int .i64 q.k, .int .i64 q.n, .int .u64 q.bt, .slice A3 q.bs.length c3, .slice A4 q.its.length c4, .slice A5 q.ks.length c5] ∧ Lies W (· < W.heap.size) q.enc [.int .i64 q.k, .int .i64 q.n, .int .u64 q.bt, .slice A3 q.bs.length c3, .slice A4 q.its.length c4, .slice A5 q.ks.length c5] ∧ q.rng := by
    obtain ⟨fuel, hf⟩ := h1
    obtain ⟨q, hq, hr⟩ := value_of_trod hf
    obtain ⟨A3, c3, A4, c4, A5, c5, e, _⟩ := V.out.1 hq
    have e' : cs1.toList = [.int .i64 q.k, .int .i64 q.n, .int .u64 q.bt, .slice A3 q.bs.length c3, .slice A4 q.its.length c4, .slice A5 q.ks.length c5] := by simpa [Value.cells] using e
    refine ⟨q, A3, A4, A5, c3, c4, c5, by rw [← Array.toArray_toList (xs := cs1), e'], ?_, hr⟩
    rw [e] at hq
    exact hq
  clear hA0 hval0
  refine (walk q0 A03 A04 A05 c03 c04 c05 q1 A13 A14 A15 c13 c14 c15 W w0 w1 hL).mono fun e W' ⟨he, bel⟩ => ?_
  subst he
  exact ⟨_, rfl, _, _, _, [], _, [], hW', trodAll_mk1 (shut_bool Tryd.underlying4 _), (trodAll_cons_mk (Below.trod laidOut (by kernel_rfl) (of_decide_eq_true (by kernel_rfl)) k0 bel lt0) (trodAll_cons_mk (Below.trod laidOut (by kernel_rfl) (of_decide_eq_true (by kernel_rfl)) k1 bel lt1) trodAll_mk0)), rfl, bel.frame _, fun h => by cases h⟩

theorem over : Rows.valueAsksRow.holds Tryd.pinned (OpenSpec.ofChange Rows.valueAsksSpec) :=
  OpenClaim.holds_of_wide 3 Tryd.f3 rfl rfl rfl rfl rfl rfl rfl ⟨rfl, rfl, rfl, rfl, rfl⟩ rfl rfl rfl rfl rfl (by kernel_rfl) Tryd.func3 (by kernel_rfl)
    (of_decide_eq_true (by kernel_rfl)) (by unfold Func.isWrapper; first | (rw [if_pos (by decide +kernel)]; kernel_rfl) | (rw [if_neg (by decide +kernel)]; exact ⟨rfl, rfl⟩))
    (fun os started H enc _ => lifted os started H enc)

theorem proved : Rows.ValueAsksCardSaid :=
  Claim7.holds_tied_plain_at .later [] [.data, .data, .data, .pinned] true (true, "e863a963c700496053b711dfd82d4bcc2660c5a092274c52aa3cd4063e765f16") false
    over (fun _ h => by cases h) (by kernel_rfl) (fun _ h => by cases h) valueAsks_row_tie rfl ⟨rfl, rfl⟩ (by kernel_rfl) rfl
    (fun f fn hf hfn => by
      obtain rfl : f = 3 := Option.some.inj ((show Tryd.prog.funcNamed "avocet/avocetlaw11.ValueAsks" = some 3 by kernel_rfl).symm.trans hf) |>.symm
      obtain rfl : fn = Tryd.f3 := (Option.some.inj (Tryd.func3.symm.trans hfn)).symm
      exact ⟨by kernel_rfl, fun j t ht => by
        have hall : (Tryd.f3.params.toList.all fun u => !Tryd.prog.wantsStandIn u) = true := by kernel_rfl
        have hm : t ∈ Tryd.f3.params.toList := by simpa using Array.mem_of_getElem? ht
        exact (show Tryd.prog.wantsStandIn t = false by simpa using List.all_eq_true.1 hall t hm)⟩)
    (by kernel_rfl)
end Go.Proofs.YtlpmcohbbffbfaaDoor.valueAsks
