/- Whether any value is one of any node of any schema is as the document has it: for every schema, number and value (the law itself says nothing of more than 2500 parts and bytes of either, or 80 deep). -/
import Derived.Test.YtpmgjpchpmkklaaGreatDoorRows
import Derived.Test.YtpmgjpchpmkklaaGreatDoorT1
import Derived.Test.YtpmgjpchpmkklaaGreatDoorT29
import Derived.WalkKit
import Derived.ProofKit
import Derived.OpenShut
import Derived.ShutString
import Derived.ChangeOld
import Derived.Below
import Derived.Test.YtpmgjpchpmkklaaGreatDoorT3
import Derived.LaidMore
import Derived.Lay
import Derived.Stop.Joined
import Derived.SevenTiedAt
import Derived.Test.YtpmgjpchpmkklaaGreatDoorCards
import Derived.Test.YtpmgjpchpmkklaaGreatDoorTie
namespace Go.Proofs.YtpmgjpchpmkklaaGreatDoor.valueConforms
open Go.ChangeShapes Go.WideShapes Go.ChangeAt Go.RowKit
open Go.ChangeMaps (open_string shut_string)
set_option linter.unusedVariables false

theorem own : ownKnob Tryz.prog.godebug = none := by kernel_rfl
theorem laidOut : laidOutB Tryz.prog = true := by kernel_rfl

def IsRow (k : IntKind) (w : World) (a : Option Addr) (len cap : Nat) (zs : List Int) : Prop :=
  (a = none ∧ len = 0 ∧ cap = 0 ∧ zs = []) ∨
  ∃ x, a = some x ∧ len ≤ cap ∧ cap ≤ maxLen ∧ zs.length = cap ∧ (∀ i, i < zs.length → w.cell? (x.add i) = some (.int k (zs.getD i 0))) ∧ ∀ n ∈ zs, (Lit.int k n).wf = true

abbrev laidL : List (String × DataW Unit) := [("unicode/utf8.acceptRanges", Rows.laid_unicode_utf8_acceptRanges), ("avocet/utf.marks", Rows.laid_avocet_utf_marks), ("avocet/naming.words", Rows.laid_avocet_naming_words), ("unicode/utf8.first", Rows.laid_unicode_utf8_first)]
theorem walk (s0 : Sc) (A0 : Option Addr) (c0 : Nat) (a1 : Int) (q2 : V) (A23 A24 A25 : Option Addr) (c23 c24 c25 : Nat) (w : World) (w0 : Lies w (· < w.heap.size) s0.enc [.slice A0 s0.nodes.length c0, .int .i64 s0.root] ∧ s0.rng) (w1 : (Lit.int .i64 a1).wf = true) (w2 : Lies w (· < w.heap.size) q2.enc [.int .i64 q2.k, .int .i64 q2.n, .int .u64 q2.bt, .slice A23 q2.bs.length c23, .slice A24 q2.its.length c24, .slice A25 q2.ks.length c25] ∧ q2.rng) (hL : laidMetH Tryz.prog laidL w) :
    Calls Tryz.prog 3 #[.agg #[.slice A0 s0.nodes.length c0, .int .i64 s0.root], .int .i64 a1, .agg #[.int .i64 q2.k, .int .i64 q2.n, .int .u64 q2.bt, .slice A23 q2.bs.length c23, .slice A24 q2.its.length c24, .slice A25 q2.ks.length c25]] w fun e w' => e = .returned (.bool true) ∧ Below w.heap.size w w' := by
  exact valueConforms_walk s0 a1 q2 w A0 c0 A23 A24 A25 c23 c24 c25 w0.1 w2.1 (laid_of hL)

set_option maxRecDepth 100000 in
theorem lifted (os : Os) (started : os.Started) (H : Type) (enc : TypeId × Value → H) :
    ReturnsInHanded {} Tryz.checked os 3 .any (fun w args => (Rows.valueConformsSpec.pre enc Tryz.prog Tryz.f3 [] false w args ∧ laidMetH Tryz.prog laidL w) ∧ sizedMet enc Tryz.prog Tryz.f3 (OpenSpec.ofChange Rows.valueConformsSpec) false w args)
      (Rows.valueConformsSpec.post enc Tryz.prog Tryz.f3 false true false false) := by
  refine returnsInHanded_of_change_and (C := Tryz.checked) (X := fun w _ => laidMetH Tryz.prog laidL w) (fun _ _ _ hh h => h.of_heap hh) own started (by kernel_rfl) Tryz.func3
    (ChangeSpec.witness_shaped (enc := enc) (C := Tryz.checked) (os := os) (X := fun w _ => laidMetH Tryz.prog laidL w) false (World.laidAll Tryz.prog os laidL) #[.agg #[.slice none 0 0, .int .i64 0], .int .i64 0, .agg #[.int .i64 0, .int .i64 0, .int .u64 0, .slice none 0 0, .slice none 0 0, .slice none 0 0]] 8 (World.laidAll_os _ _ _)
      (World.shaped_of_ZipB (by kernel_rfl) (by kernel_rfl)) (by kernel_rfl) (by kernel_rfl) (by kernel_rfl)
      (by rw [MakeChecks.laidMetH_plain _ _ _ (by kernel_rfl)]; exact laidMet_laidAll _ (by kernel_rfl) (by kernel_rfl))) ?_
  intro W base args ds gs before hval0 hW _ _ hL _
  have hval : ∀ (j : Nat) t v, Tryz.f3.params[j]? = some t → args[j]? = some v → Value.okWide Tryz.prog W .any base t v := hval0
  have hW' := hW
  obtain ⟨p, q, hA0, hV, rfl, hfz, hnd⟩ := hW
  have hA : DataW.TrodAll enc Tryz.prog W 0 (fun _ => true) true Tryz.f3.params.toList args.toList ds p := hA0
  rw [Tryz.params3] at hA hval
  obtain ⟨v0, vs0, d0, ds0, p0, q0, hargs, rfl, rfl, h0, r0⟩ := trodAll_cons hA
  obtain ⟨v1, vs1, d1, ds1, p1, q1, rfl, rfl, rfl, h1, r1⟩ := trodAll_cons r0
  obtain ⟨v2, vs2, d2, ds2, p2, q2, rfl, rfl, rfl, h2, r2⟩ := trodAll_cons r1
  obtain ⟨rfl, rfl, rfl⟩ := trodAll_nil r2
  obtain rfl : args = #[v0, v1, v2] := by cases args; simp_all
  obtain ⟨rfl, rfl⟩ := trodVars_none hV
  obtain ⟨cs0, rfl, _⟩ := okWide_struct Tryz.underlying24 (hval 0 24 v0 rfl rfl)
  have k0 := h0
  have lt0 : ∀ x ∈ p0, x.block < W.heap.size := by obtain ⟨m, hm⟩ := k0; exact DataW.trod_lt m _ _ _ hm
  obtain ⟨s0, A0, c0, rfl, w0⟩ : ∃ (s : Sc) (A : Option Addr) (c : Nat), cs0 = #[.slice A s.nodes.length c, .int .i64 s.root] ∧ Lies W (· < W.heap.size) s.enc [.slice A s.nodes.length c, .int .i64 s.root] ∧ s.rng := by
    obtain ⟨fuel, hf⟩ := h0
    obtain ⟨s, hs, hr⟩ := schema_of_trod hf
    obtain ⟨A, c, e, _⟩ := Sc.out.1 hs
    have e' : cs0.toList = [.slice A s.nodes.length c, .int .i64 s.root] := by simpa [Value.cells] using e
    refine ⟨s, A, c, by rw [← Array.toArray_toList (xs := cs0), e'], ?_, hr⟩
    rw [e] at hs
    exact hs
  obtain ⟨a1, rfl, rfl, rfl, w1⟩ := open_int Tryz.underlying3 (hval 1 3 v1 rfl rfl) h1
  obtain ⟨cs2, rfl, _⟩ := okWide_struct Tryz.underlying30 (hval 2 30 v2 rfl rfl)
  have k2 := h2
  have lt2 : ∀ x ∈ p2, x.block < W.heap.size := by obtain ⟨m, hm⟩ := k2; exact DataW.trod_lt m _ _ _ hm
  obtain ⟨q2, A23, A24, A25, c23, c24, c25, rfl, w2⟩ : ∃ (q : V) (A3 A4 A5 : Option Addr) (c3 c4 c5 : Nat), cs2 = #[.int .i64 q.k, .int .i64 q.n, .int .u64 q.bt, .slice A3 q.bs.length c3, .slice A4 q.its.length c4, .slice A5 q.ks.length c5] ∧ Lies W (· < W.heap.size) q.enc [.int .i64 q.k, .int .i64 q.n, .int .u64 q.bt, .slice A3 q.bs.length c3, .slice A4 q.its.length c4, .slice A5 q.ks.length c5] ∧ q.rng := by
    obtain ⟨fuel, hf⟩ := h2
    obtain ⟨q, hq, hr⟩ := value_of_trod hf
    obtain ⟨A3, c3, A4, c4, A5, c5, e, _⟩ := V.out.1 hq
    have e' : cs2.toList = [.int .i64 q.k, .int .i64 q.n, .int .u64 q.bt, .slice A3 q.bs.length c3, .slice A4 q.its.length c4, .slice A5 q.ks.length c5] := by simpa [Value.cells] using e
    refine ⟨q, A3, A4, A5, c3, c4, c5, by rw [← Array.toArray_toList (xs := cs2), e'], ?_, hr⟩
    rw [e] at hq
    exact hq
  clear hA0 hval0
  refine (walk s0 A0 c0 a1 q2 A23 A24 A25 c23 c24 c25 W w0 w1 w2 hL).mono fun e W' ⟨he, bel⟩ => ?_
  subst he
  exact ⟨_, rfl, _, _, _, [], _, [], hW', trodAll_mk1 (shut_bool Tryz.underlying4 _), (trodAll_cons_mk (Below.trod laidOut (by kernel_rfl) (of_decide_eq_true (by kernel_rfl)) k0 bel lt0) (trodAll_cons_mk (shut_int Tryz.underlying3 w1) (trodAll_cons_mk (Below.trod laidOut (by kernel_rfl) (of_decide_eq_true (by kernel_rfl)) k2 bel lt2) trodAll_mk0))), rfl, bel.frame _, fun h => by cases h⟩

theorem over : Rows.valueConformsRow.holds Tryz.pinned (OpenSpec.ofChange Rows.valueConformsSpec) :=
  OpenClaim.holds_of_wide 3 Tryz.f3 rfl rfl rfl rfl rfl rfl rfl ⟨rfl, rfl, rfl, rfl, rfl⟩ rfl rfl rfl rfl rfl (by kernel_rfl) Tryz.func3 (by kernel_rfl)
    (of_decide_eq_true (by kernel_rfl)) (by unfold Func.isWrapper; first | (rw [if_pos (by decide +kernel)]; kernel_rfl) | (rw [if_neg (by decide +kernel)]; exact ⟨rfl, rfl⟩))
    (fun os started H enc _ => lifted os started H enc)

theorem proved : Rows.ValueConformsCardSaid :=
  Claim7.holds_tied_plain_at .later [] [.data, .data, .data, .pinned] true (true, "58dbfe0aa7abbebef111ffe751f740201d8019e9d5efe841e95fb68e68aa6a3e") false
    over (fun _ h => by cases h) (by kernel_rfl) (fun _ h => by cases h) valueConforms_row_tie rfl ⟨rfl, rfl⟩ (by kernel_rfl) rfl
    (fun f fn hf hfn => by
      obtain rfl : f = 3 := Option.some.inj ((show Tryz.prog.funcNamed "avocet/avocetlaw11.ValueConforms" = some 3 by kernel_rfl).symm.trans hf) |>.symm
      obtain rfl : fn = Tryz.f3 := (Option.some.inj (Tryz.func3.symm.trans hfn)).symm
      exact ⟨by kernel_rfl, fun j t ht => by
        have hall : (Tryz.f3.params.toList.all fun u => !Tryz.prog.wantsStandIn u) = true := by kernel_rfl
        have hm : t ∈ Tryz.f3.params.toList := by simpa using Array.mem_of_getElem? ht
        exact (show Tryz.prog.wantsStandIn t = false by simpa using List.all_eq_true.1 hall t hm)⟩)
    (by kernel_rfl)
end Go.Proofs.YtpmgjpchpmkklaaGreatDoor.valueConforms
