/- Joined by tools/bundle.py: VLawC. -/
import Derived.Deep.RegionHeldLaw
import Derived.Test.YtpmgjpchpmkklaaGreatDoorT17
import Derived.Test.YtpmgjpchpmkklaaGreatDoorT28
import Derived.Test.YtpmgjpchpmkklaaGreatDoorT0
set_option maxRecDepth 100000
set_option maxHeartbeats 16000000
namespace Go.Proofs.YtpmgjpchpmkklaaGreatDoor
open Go.ChangeShapes Go.WideShapes Go.ChangeAt Go.RowKit Mem
abbrev vop0 : Oper := { dst := some 7, op := Op.load 24 (Operand.tmp 3), type := 24, pos := "law.go:16", after := #[], guard := none }
abbrev vop1 : Oper := { dst := some 8, op := Op.call { callee := Callee.value (Operand.func 4), args := #[Operand.tmp 7], argTypes := #[24] }, type := 4, pos := "law.go:16", after := #[{ on := 0, ground := Ground.data }], guard := none }
abbrev vop2 : Oper := { dst := some 9, op := Op.move (Operand.tmp 8), type := 4, pos := "law.go:16", after := #[{ on := 1, ground := Ground.data }, { on := 1, ground := Ground.chain }], guard := none }
abbrev vop3 : Oper := { dst := some 10, op := Op.load 30 (Operand.tmp 5), type := 30, pos := "law.go:16", after := #[{ on := 2, ground := Ground.guard }], guard := some (2, false) }
abbrev vop4 : Oper := { dst := some 11, op := Op.call { callee := Callee.value (Operand.func 5), args := #[Operand.tmp 10], argTypes := #[30] }, type := 4, pos := "law.go:16", after := #[{ on := 3, ground := Ground.data }, { on := 2, ground := Ground.chain }, { on := 2, ground := Ground.guard }], guard := some (2, false) }
abbrev vop5 : Oper := { dst := some 12, op := Op.pick (Operand.tmp 9) (Operand.const (Value.bool true)) (Operand.tmp 11), type := 4, pos := "law.go:16", after := #[{ on := 2, ground := Ground.data }, { on := 4, ground := Ground.data }], guard := none }
abbrev vop6 : Oper := { dst := some 13, op := Op.move (Operand.tmp 12), type := 4, pos := "law.go:16", after := #[{ on := 5, ground := Ground.data }, { on := 4, ground := Ground.chain }], guard := none }
abbrev vop7 : Oper := { dst := some 14, op := Op.load 24 (Operand.tmp 3), type := 24, pos := "law.go:16", after := #[{ on := 6, ground := Ground.guard }], guard := some (6, false) }
abbrev vop8 : Oper := { dst := some 15, op := Op.move (Operand.tmp 1), type := 3, pos := "law.go:16", after := #[{ on := 6, ground := Ground.guard }], guard := some (6, false) }
abbrev vop9 : Oper := { dst := some 16, op := Op.load 30 (Operand.tmp 5), type := 30, pos := "law.go:16", after := #[{ on := 6, ground := Ground.guard }], guard := some (6, false) }
abbrev vop10 : Oper := { dst := some 17, op := Op.call { callee := Callee.value (Operand.func 6), args := #[Operand.tmp 14, Operand.tmp 15, Operand.tmp 16], argTypes := #[24, 3, 30] }, type := 4, pos := "law.go:16", after := #[{ on := 7, ground := Ground.data }, { on := 8, ground := Ground.data }, { on := 9, ground := Ground.data }, { on := 6, ground := Ground.chain }, { on := 6, ground := Ground.guard }], guard := some (6, false) }
abbrev vop11 : Oper := { dst := some 18, op := Op.load 24 (Operand.tmp 3), type := 24, pos := "law.go:16", after := #[{ on := 6, ground := Ground.guard }], guard := some (6, false) }
abbrev vop12 : Oper := { dst := some 19, op := Op.move (Operand.tmp 1), type := 3, pos := "law.go:16", after := #[{ on := 6, ground := Ground.guard }], guard := some (6, false) }
abbrev vop13 : Oper := { dst := some 20, op := Op.load 30 (Operand.tmp 5), type := 30, pos := "law.go:16", after := #[{ on := 6, ground := Ground.guard }], guard := some (6, false) }
abbrev vop14 : Oper := { dst := some 21, op := Op.call { callee := Callee.value (Operand.func 7), args := #[Operand.tmp 18, Operand.tmp 19, Operand.tmp 20], argTypes := #[24, 3, 30] }, type := 4, pos := "law.go:16", after := #[{ on := 11, ground := Ground.data }, { on := 12, ground := Ground.data }, { on := 13, ground := Ground.data }, { on := 10, ground := Ground.chain }, { on := 6, ground := Ground.guard }], guard := some (6, false) }
abbrev vop15 : Oper := { dst := some 22, op := Op.binOp BinOp.eql 4 (Operand.tmp 17) (Operand.tmp 21) 4, type := 4, pos := "law.go:16", after := #[{ on := 10, ground := Ground.data }, { on := 14, ground := Ground.data }, { on := 6, ground := Ground.guard }], guard := some (6, false) }
abbrev vop16 : Oper := { dst := some 23, op := Op.move (Operand.tmp 22), type := 4, pos := "law.go:16", after := #[{ on := 15, ground := Ground.data }, { on := 14, ground := Ground.chain }, { on := 6, ground := Ground.guard }], guard := some (6, false) }
abbrev vop17 : Oper := { dst := some 24, op := Op.call { callee := Callee.value (Operand.func 8), args := #[], argTypes := #[] }, type := 4, pos := "law.go:16", after := #[{ on := 16, ground := Ground.chain }, { on := 16, ground := Ground.guard }], guard := some (16, true) }
abbrev vop18 : Oper := { dst := some 25, op := Op.pick (Operand.tmp 23) (Operand.tmp 24) (Operand.const (Value.bool false)), type := 4, pos := "law.go:16", after := #[{ on := 16, ground := Ground.data }, { on := 17, ground := Ground.data }, { on := 6, ground := Ground.guard }], guard := some (6, false) }
abbrev vop19 : Oper := { dst := some 26, op := Op.pick (Operand.tmp 13) (Operand.const (Value.bool true)) (Operand.tmp 25), type := 4, pos := "law.go:16", after := #[{ on := 6, ground := Ground.data }, { on := 18, ground := Ground.data }], guard := none }
abbrev vop20 : Oper := { dst := some 6, op := Op.assign (Operand.tmp 26), type := 4, pos := "law.go:16", after := #[{ on := 19, ground := Ground.data }, { on := 17, ground := Ground.chain }, { on := 0, ground := Ground.phase }, { on := 1, ground := Ground.phase }, { on := 2, ground := Ground.phase }, { on := 3, ground := Ground.phase }, { on := 4, ground := Ground.phase }, { on := 5, ground := Ground.phase }, { on := 6, ground := Ground.phase }, { on := 7, ground := Ground.phase }, { on := 8, ground := Ground.phase }, { on := 9, ground := Ground.phase }, { on := 10, ground := Ground.phase }, { on := 11, ground := Ground.phase }, { on := 12, ground := Ground.phase }, { on := 13, ground := Ground.phase }, { on := 14, ground := Ground.phase }, { on := 15, ground := Ground.phase }, { on := 16, ground := Ground.phase }, { on := 17, ground := Ground.phase }, { on := 18, ground := Ground.phase }, { on := 19, ground := Ground.phase }], guard := none }
theorem valueConforms_walk (s : Sc) (a : Int) (t : V) (w : World) (A : Option Addr) (c : Nat) (A3 A4 A5 : Option Addr) (c3 c4 c5 : Nat) (hs : Lies w (· < w.heap.size) s.enc [.slice A s.nodes.length c, .int .i64 s.root]) (ht : Lies w (· < w.heap.size) t.enc [.int .i64 t.k, .int .i64 t.n, .int .u64 t.bt, .slice A3 t.bs.length c3, .slice A4 t.its.length c4, .slice A5 t.ks.length c5]) (hL : LaidN w) :
 Calls Tryz.prog 3 #[.agg #[.slice A s.nodes.length c, .int .i64 s.root], .int .i64 a, .agg #[.int .i64 t.k, .int .i64 t.n, .int .u64 t.bt, .slice A3 t.bs.length c3, .slice A4 t.its.length c4, .slice A5 t.ks.length c5]] w fun e w' => e = .returned (.bool true) ∧ Below w.heap.size w w' := by
 have CS := cell_set
 have WK := Lib.hid (fun W (b : Below w.heap.size w W) => works11_any W (hL.below b))
 have GS := Lib.hid (fun W (b : Below w.heap.size w W) => sgreat_any s W A c (hs.on b))
 have GV := Lib.hid (fun W (b : Below w.heap.size w W) => vgreat_any t W A3 A4 A5 c3 c4 c5 (ht.on b))
 have CF := Lib.hid (fun (sm : s.sm) (hw : t.wt ≤ 1000000) W (b : Below w.heap.size w W) => vConforms_any s sm t hw a W (hL.below b) A A3 A4 A5 c c3 c4 c5 (hs.on b) (ht.on b))
 have RF := Lib.hid (fun (sm : s.sm) (hw : t.wt ≤ 1000000) W (b : Below w.heap.size w W) => rConforms_any s sm t hw a W A A3 A4 A5 c c3 c4 c5 (hs.on b) (ht.on b))
 obtain ⟨Q, hQ⟩ : ∃ Q : Prop, Q = s.conf t a := ⟨_, rfl⟩
 rw [← hQ] at CF RF
 have W0 : Hid (Below w.heap.size w ((w.alloc (.cells #[.slice A s.nodes.length c, .int .i64 s.root] 24)).alloc (.cells #[.int .i64 t.k, .int .i64 t.n, .int .u64 t.bt, .slice A3 t.bs.length c3, .slice A4 t.its.length c4, .slice A5 t.ks.length c5] 30))) := (((Below.refl _ _).alloc (Nat.le_refl _) _).alloc (by simp) _)
 have H1 : Hid (B2 ((w.alloc (.cells #[.slice A s.nodes.length c, .int .i64 s.root] 24)).alloc (.cells #[.int .i64 t.k, .int .i64 t.n, .int .u64 t.bt, .slice A3 t.bs.length c3, .slice A4 t.its.length c4, .slice A5 t.ks.length c5] 30)) w.heap.size 24 (.slice A s.nodes.length c) (.int .i64 s.root)) := B2.alloc (B2.newat rfl) _
 have H2 : Hid (B6 ((w.alloc (.cells #[.slice A s.nodes.length c, .int .i64 s.root] 24)).alloc (.cells #[.int .i64 t.k, .int .i64 t.n, .int .u64 t.bt, .slice A3 t.bs.length c3, .slice A4 t.its.length c4, .slice A5 t.ks.length c5] 30)) (w.heap.size + 1) 30 (.int .i64 t.k) (.int .i64 t.n) (.int .u64 t.bt) (.slice A3 t.bs.length c3) (.slice A4 t.its.length c4) (.slice A5 t.ks.length c5)) := B6.newat (by simp)
 clear hs ht hL hQ
 go_enter Tryz.func3, Tryz.ntmps3
 go_wp2_with fail
 obtain ⟨W, hW⟩ : ∃ W, W = ((w.alloc (.cells #[.slice A s.nodes.length c, .int .i64 s.root] 24)).alloc (.cells #[.int .i64 t.k, .int .i64 t.n, .int .u64 t.bt, .slice A3 t.bs.length c3, .slice A4 t.its.length c4, .slice A5 t.ks.length c5] 30)) := ⟨_, rfl⟩
 rw [← hW] at W0 H1 H2
 rw [← hW]
 clear hW
 have bel0 : Hid (Below w.heap.size w W.drew) := W0.out.drew
 have ka0 : Hid (B2 W.drew w.heap.size 24 (.slice A s.nodes.length c) (.int .i64 s.root)) := H1.out.drew
 have kb0 : Hid (B6 W.drew (w.heap.size + 1) 30 (.int .i64 t.k) (.int .i64 t.n) (.int .u64 t.bt) (.slice A3 t.bs.length c3) (.slice A4 t.its.length c4) (.slice A5 t.ks.length c5)) := H2.out.drew
 clear W0 H1 H2
 refine wp_region_held_drew (S := (fun u => B2 u w.heap.size 24 (.slice A s.nodes.length c) (.int .i64 s.root) ∧ B6 u (w.heap.size + 1) 30 (.int .i64 t.k) (.int .i64 t.n) (.int .u64 t.bt) (.slice A3 t.bs.length c3) (.slice A4 t.its.length c4) (.slice A5 t.ks.length c5))) (by kernel_rfl) ⟨ka0.out, kb0.out⟩ (fun hHeld => ?_)
 refine wpAnyH_take (i := 0) (oi := vop0) (v := (.agg #[.slice A s.nodes.length c, .int .i64 s.root])) rfl (by kernel_rfl) (by kernel_rfl) (by kernel_rfl) (fun _ _ _ h => h) (Or.inl ⟨by rfl, ?_⟩) (by assumption) ?_
 · intro u hu
   obtain ⟨_, _, _, _⟩ := B2.facts hu.1
   obtain ⟨_, _, _, _, _, _, _, _, _, _, _, _⟩ := B6.facts hu.2
   go_simp <;> first | with_reducible rfl | rfl
 simp only [Act.put, List.setIfInBounds_toArray, List.set_cons_zero, List.set_cons_succ]
 refine wpAnyH_ready (rs := [1]) (by kernel_rfl) (by simp) ?_
 refine AllReadyH.cons (o := vop1) rfl (fun K hK => ?_) ?_
 · unfold vop1
   go_simp
   go_wp2_with ((go_at_call 4; (with_reducible refine (GS.out _ bel0.out).mono ?_); rintro e w1 ⟨b, rfl, hb, bb⟩))
   have bel1 : Hid (Below w.heap.size w w1) := bel0.out.trans (bb.mono bel0.out.size)
   have ka1 := Lib.hid (B2.below ka0.out bb ka0.out.lt)
   have kb1 := Lib.hid (B6.below kb0.out bb kb0.out.lt)
   clear bb
   have HB := Lib.hid hb
   clear hb
   rcases b with _ | _
   · have SM := Lib.hid (HB.out rfl)
     refine hK.out _ _ ⟨ka1.out, kb1.out⟩ (fun hHeld => ?_)
     clear hK K
     try simp only [Act.put, List.setIfInBounds_toArray, List.set_cons_zero, List.set_cons_succ]
     refine wpAnyH_take (i := 2) (oi := vop2) (v := (.bool false)) rfl (by kernel_rfl) (by kernel_rfl) (by kernel_rfl) (fun _ _ _ h => h) (Or.inl ⟨by rfl, ?_⟩) (by assumption) ?_
     · intro u hu
       go_simp <;> first | with_reducible rfl | rfl
     simp only [Act.put, List.setIfInBounds_toArray, List.set_cons_zero, List.set_cons_succ]
     refine wpAnyH_take (i := 3) (oi := vop3) (v := (.agg #[.int .i64 t.k, .int .i64 t.n, .int .u64 t.bt, .slice A3 t.bs.length c3, .slice A4 t.its.length c4, .slice A5 t.ks.length c5])) rfl (by kernel_rfl) (by kernel_rfl) (by kernel_rfl) (fun _ _ _ h => h) (Or.inl ⟨by rfl, ?_⟩) (by assumption) ?_
     · intro u hu
       obtain ⟨_, _, _, _⟩ := B2.facts hu.1
       obtain ⟨_, _, _, _, _, _, _, _, _, _, _, _⟩ := B6.facts hu.2
       go_simp <;> first | with_reducible rfl | rfl
     simp only [Act.put, List.setIfInBounds_toArray, List.set_cons_zero, List.set_cons_succ]
     refine wpAnyH_ready (rs := [4]) (by kernel_rfl) (by simp) ?_
     refine AllReadyH.cons (o := vop4) rfl (fun K hK => ?_) ?_
     · unfold vop4
       go_simp
       go_wp2_with ((go_at_call 5; (with_reducible refine (GV.out _ bel1.out).mono ?_); rintro e w2 ⟨b, rfl, hb, bb⟩))
       have bel2 : Hid (Below w.heap.size w w2) := bel1.out.trans (bb.mono bel1.out.size)
       have ka2 := Lib.hid (B2.below ka1.out bb ka1.out.lt)
       have kb2 := Lib.hid (B6.below kb1.out bb kb1.out.lt)
       clear bb
       have HB := Lib.hid hb
       clear hb
       rcases b with _ | _
       · have WT := Lib.hid (HB.out rfl).1
         have CFM := Lib.hid (CF.out SM.out (by have := WT.out; omega))
         have RFM := Lib.hid (RF.out SM.out (by have := WT.out; omega))
         refine hK.out _ _ ⟨ka2.out, kb2.out⟩ (fun hHeld => ?_)
         clear hK K
         try simp only [Act.put, List.setIfInBounds_toArray, List.set_cons_zero, List.set_cons_succ]
         refine wpAnyH_take (i := 5) (oi := vop5) (v := (.bool false)) rfl (by kernel_rfl) (by kernel_rfl) (by kernel_rfl) (fun _ _ _ h => h) (Or.inl ⟨by rfl, ?_⟩) (by assumption) ?_
         · intro u hu
           go_simp <;> first | with_reducible rfl | rfl
         simp only [Act.put, List.setIfInBounds_toArray, List.set_cons_zero, List.set_cons_succ]
         refine wpAnyH_take (i := 6) (oi := vop6) (v := (.bool false)) rfl (by kernel_rfl) (by kernel_rfl) (by kernel_rfl) (fun _ _ _ h => h) (Or.inl ⟨by rfl, ?_⟩) (by assumption) ?_
         · intro u hu
           go_simp <;> first | with_reducible rfl | rfl
         simp only [Act.put, List.setIfInBounds_toArray, List.set_cons_zero, List.set_cons_succ]
         refine wpAnyH_take (i := 7) (oi := vop7) (v := (.agg #[.slice A s.nodes.length c, .int .i64 s.root])) rfl (by kernel_rfl) (by kernel_rfl) (by kernel_rfl) (fun _ _ _ h => h) (Or.inl ⟨by rfl, ?_⟩) (by assumption) ?_
         · intro u hu
           obtain ⟨_, _, _, _⟩ := B2.facts hu.1
           obtain ⟨_, _, _, _, _, _, _, _, _, _, _, _⟩ := B6.facts hu.2
           go_simp <;> first | with_reducible rfl | rfl
         simp only [Act.put, List.setIfInBounds_toArray, List.set_cons_zero, List.set_cons_succ]
         refine wpAnyH_take (i := 8) (oi := vop8) (v := (.int .i64 a)) rfl (by kernel_rfl) (by kernel_rfl) (by kernel_rfl) (fun _ _ _ h => h) (Or.inl ⟨by rfl, ?_⟩) (by assumption) ?_
         · intro u hu
           go_simp <;> first | with_reducible rfl | rfl
         simp only [Act.put, List.setIfInBounds_toArray, List.set_cons_zero, List.set_cons_succ]
         refine wpAnyH_take (i := 9) (oi := vop9) (v := (.agg #[.int .i64 t.k, .int .i64 t.n, .int .u64 t.bt, .slice A3 t.bs.length c3, .slice A4 t.its.length c4, .slice A5 t.ks.length c5])) rfl (by kernel_rfl) (by kernel_rfl) (by kernel_rfl) (fun _ _ _ h => h) (Or.inl ⟨by rfl, ?_⟩) (by assumption) ?_
         · intro u hu
           obtain ⟨_, _, _, _⟩ := B2.facts hu.1
           obtain ⟨_, _, _, _, _, _, _, _, _, _, _, _⟩ := B6.facts hu.2
           go_simp <;> first | with_reducible rfl | rfl
         simp only [Act.put, List.setIfInBounds_toArray, List.set_cons_zero, List.set_cons_succ]
         refine wpAnyH_take (i := 11) (oi := vop11) (v := (.agg #[.slice A s.nodes.length c, .int .i64 s.root])) rfl (by kernel_rfl) (by kernel_rfl) (by kernel_rfl) (fun _ _ _ h => h) (Or.inl ⟨by rfl, ?_⟩) (by assumption) ?_
         · intro u hu
           obtain ⟨_, _, _, _⟩ := B2.facts hu.1
           obtain ⟨_, _, _, _, _, _, _, _, _, _, _, _⟩ := B6.facts hu.2
           go_simp <;> first | with_reducible rfl | rfl
         simp only [Act.put, List.setIfInBounds_toArray, List.set_cons_zero, List.set_cons_succ]
         refine wpAnyH_take (i := 12) (oi := vop12) (v := (.int .i64 a)) rfl (by kernel_rfl) (by kernel_rfl) (by kernel_rfl) (fun _ _ _ h => h) (Or.inl ⟨by rfl, ?_⟩) (by assumption) ?_
         · intro u hu
           go_simp <;> first | with_reducible rfl | rfl
         simp only [Act.put, List.setIfInBounds_toArray, List.set_cons_zero, List.set_cons_succ]
         refine wpAnyH_take (i := 13) (oi := vop13) (v := (.agg #[.int .i64 t.k, .int .i64 t.n, .int .u64 t.bt, .slice A3 t.bs.length c3, .slice A4 t.its.length c4, .slice A5 t.ks.length c5])) rfl (by kernel_rfl) (by kernel_rfl) (by kernel_rfl) (fun _ _ _ h => h) (Or.inl ⟨by rfl, ?_⟩) (by assumption) ?_
         · intro u hu
           obtain ⟨_, _, _, _⟩ := B2.facts hu.1
           obtain ⟨_, _, _, _, _, _, _, _, _, _, _, _⟩ := B6.facts hu.2
           go_simp <;> first | with_reducible rfl | rfl
         simp only [Act.put, List.setIfInBounds_toArray, List.set_cons_zero, List.set_cons_succ]
         refine wpAnyH_ready (rs := [10]) (by kernel_rfl) (by simp) ?_
         refine AllReadyH.cons (o := vop10) rfl (fun K hK => ?_) ?_
         · unfold vop10
           go_simp
           go_wp2_with ((go_at_call 6; (with_reducible refine (CFM.out _ bel2.out).mono ?_); rintro e w3 ⟨b, rfl, hb, bb⟩))
           have bel3 : Hid (Below w.heap.size w w3) := bel2.out.trans (bb.mono bel2.out.size)
           have ka3 := Lib.hid (B2.below ka2.out bb ka2.out.lt)
           have kb3 := Lib.hid (B6.below kb2.out bb kb2.out.lt)
           clear bb
           have HB := Lib.hid hb
           clear hb
           rcases b with _ | _
           · have HQ : Hid (¬ Q) := fun q => by have := HB.out.2 q; cases this
             clear HB
             refine hK.out _ _ ⟨ka3.out, kb3.out⟩ (fun hHeld => ?_)
             clear hK K
             try simp only [Act.put, List.setIfInBounds_toArray, List.set_cons_zero, List.set_cons_succ]
             refine wpAnyH_ready (rs := [14]) (by kernel_rfl) (by simp) ?_
             refine AllReadyH.cons (o := vop14) rfl (fun K hK => ?_) ?_
             · unfold vop14
               go_simp
               go_wp2_with ((go_at_call 7; (with_reducible refine (RFM.out _ bel3.out).mono ?_); rintro e w4 ⟨b, rfl, hb, bb⟩))
               have bel4 : Hid (Below w.heap.size w w4) := bel3.out.trans (bb.mono bel3.out.size)
               have ka4 := Lib.hid (B2.below ka3.out bb ka3.out.lt)
               have kb4 := Lib.hid (B6.below kb3.out bb kb3.out.lt)
               clear bb
               obtain rfl : b = false := by cases b with | false => rfl | true => exact absurd (hb.1 rfl) HQ.out
               clear hb
               refine hK.out _ _ ⟨ka4.out, kb4.out⟩ (fun hHeld => ?_)
               clear hK K
               try simp only [Act.put, List.setIfInBounds_toArray, List.set_cons_zero, List.set_cons_succ]
               refine wpAnyH_take (i := 15) (oi := vop15) (v := (.bool true)) rfl (by kernel_rfl) (by kernel_rfl) (by kernel_rfl) (fun _ _ _ h => h) (Or.inl ⟨by rfl, ?_⟩) (by assumption) ?_
               · intro u hu
                 go_simp <;> first | with_reducible rfl | rfl
               simp only [Act.put, List.setIfInBounds_toArray, List.set_cons_zero, List.set_cons_succ]
               refine wpAnyH_take (i := 16) (oi := vop16) (v := (.bool true)) rfl (by kernel_rfl) (by kernel_rfl) (by kernel_rfl) (fun _ _ _ h => h) (Or.inl ⟨by rfl, ?_⟩) (by assumption) ?_
               · intro u hu
                 go_simp <;> first | with_reducible rfl | rfl
               simp only [Act.put, List.setIfInBounds_toArray, List.set_cons_zero, List.set_cons_succ]
               refine wpAnyH_ready (rs := [17]) (by kernel_rfl) (by simp) ?_
               refine AllReadyH.cons (o := vop17) rfl (fun K hK => ?_) ?_
               · unfold vop17
                 go_simp
                 go_wp2_with ((go_at_call 8; (with_reducible refine (WK.out _ bel4.out).mono ?_); rintro e w5 ⟨rfl, bb⟩))
                 have bel5 : Hid (Below w.heap.size w w5) := bel4.out.trans (bb.mono bel4.out.size)
                 have ka5 := Lib.hid (B2.below ka4.out bb ka4.out.lt)
                 have kb5 := Lib.hid (B6.below kb4.out bb kb4.out.lt)
                 clear bb
                 refine hK.out _ _ ⟨ka5.out, kb5.out⟩ (fun hHeld => ?_)
                 clear hK K
                 try simp only [Act.put, List.setIfInBounds_toArray, List.set_cons_zero, List.set_cons_succ]
                 refine wpAnyH_take (i := 18) (oi := vop18) (v := (.bool true)) rfl (by kernel_rfl) (by kernel_rfl) (by kernel_rfl) (fun _ _ _ h => h) (Or.inl ⟨by rfl, ?_⟩) (by assumption) ?_
                 · intro u hu
                   go_simp <;> first | with_reducible rfl | rfl
                 simp only [Act.put, List.setIfInBounds_toArray, List.set_cons_zero, List.set_cons_succ]
                 refine wpAnyH_take (i := 19) (oi := vop19) (v := (.bool true)) rfl (by kernel_rfl) (by kernel_rfl) (by kernel_rfl) (fun _ _ _ h => h) (Or.inl ⟨by rfl, ?_⟩) (by assumption) ?_
                 · intro u hu
                   go_simp <;> first | with_reducible rfl | rfl
                 simp only [Act.put, List.setIfInBounds_toArray, List.set_cons_zero, List.set_cons_succ]
                 refine wpAnyH_take (i := 20) (oi := vop20) (v := (.bool true)) rfl (by kernel_rfl) (by kernel_rfl) (by kernel_rfl) (fun _ _ _ h => h) (Or.inl ⟨by rfl, ?_⟩) (by assumption) ?_
                 · intro u hu
                   go_simp <;> first | with_reducible rfl | rfl
                 simp only [Act.put, List.setIfInBounds_toArray, List.set_cons_zero, List.set_cons_succ]
                 refine wpAnyH_done (by kernel_rfl) ?_ _
                 go_wp2_with fail
                 go_ret
                 exact ⟨rfl, bel5.out⟩
               exact AllReadyH.nil
             exact AllReadyH.nil
           · have HQ := Lib.hid (HB.out.1 rfl)
             clear HB
             refine hK.out _ _ ⟨ka3.out, kb3.out⟩ (fun hHeld => ?_)
             clear hK K
             try simp only [Act.put, List.setIfInBounds_toArray, List.set_cons_zero, List.set_cons_succ]
             refine wpAnyH_ready (rs := [14]) (by kernel_rfl) (by simp) ?_
             refine AllReadyH.cons (o := vop14) rfl (fun K hK => ?_) ?_
             · unfold vop14
               go_simp
               go_wp2_with ((go_at_call 7; (with_reducible refine (RFM.out _ bel3.out).mono ?_); rintro e w4 ⟨b, rfl, hb, bb⟩))
               have bel4 : Hid (Below w.heap.size w w4) := bel3.out.trans (bb.mono bel3.out.size)
               have ka4 := Lib.hid (B2.below ka3.out bb ka3.out.lt)
               have kb4 := Lib.hid (B6.below kb3.out bb kb3.out.lt)
               clear bb
               obtain rfl : b = true := hb.2 HQ.out
               clear hb
               refine hK.out _ _ ⟨ka4.out, kb4.out⟩ (fun hHeld => ?_)
               clear hK K
               try simp only [Act.put, List.setIfInBounds_toArray, List.set_cons_zero, List.set_cons_succ]
               refine wpAnyH_take (i := 15) (oi := vop15) (v := (.bool true)) rfl (by kernel_rfl) (by kernel_rfl) (by kernel_rfl) (fun _ _ _ h => h) (Or.inl ⟨by rfl, ?_⟩) (by assumption) ?_
               · intro u hu
                 go_simp <;> first | with_reducible rfl | rfl
               simp only [Act.put, List.setIfInBounds_toArray, List.set_cons_zero, List.set_cons_succ]
               refine wpAnyH_take (i := 16) (oi := vop16) (v := (.bool true)) rfl (by kernel_rfl) (by kernel_rfl) (by kernel_rfl) (fun _ _ _ h => h) (Or.inl ⟨by rfl, ?_⟩) (by assumption) ?_
               · intro u hu
                 go_simp <;> first | with_reducible rfl | rfl
               simp only [Act.put, List.setIfInBounds_toArray, List.set_cons_zero, List.set_cons_succ]
               refine wpAnyH_ready (rs := [17]) (by kernel_rfl) (by simp) ?_
               refine AllReadyH.cons (o := vop17) rfl (fun K hK => ?_) ?_
               · unfold vop17
                 go_simp
                 go_wp2_with ((go_at_call 8; (with_reducible refine (WK.out _ bel4.out).mono ?_); rintro e w5 ⟨rfl, bb⟩))
                 have bel5 : Hid (Below w.heap.size w w5) := bel4.out.trans (bb.mono bel4.out.size)
                 have ka5 := Lib.hid (B2.below ka4.out bb ka4.out.lt)
                 have kb5 := Lib.hid (B6.below kb4.out bb kb4.out.lt)
                 clear bb
                 refine hK.out _ _ ⟨ka5.out, kb5.out⟩ (fun hHeld => ?_)
                 clear hK K
                 try simp only [Act.put, List.setIfInBounds_toArray, List.set_cons_zero, List.set_cons_succ]
                 refine wpAnyH_take (i := 18) (oi := vop18) (v := (.bool true)) rfl (by kernel_rfl) (by kernel_rfl) (by kernel_rfl) (fun _ _ _ h => h) (Or.inl ⟨by rfl, ?_⟩) (by assumption) ?_
                 · intro u hu
                   go_simp <;> first | with_reducible rfl | rfl
                 simp only [Act.put, List.setIfInBounds_toArray, List.set_cons_zero, List.set_cons_succ]
                 refine wpAnyH_take (i := 19) (oi := vop19) (v := (.bool true)) rfl (by kernel_rfl) (by kernel_rfl) (by kernel_rfl) (fun _ _ _ h => h) (Or.inl ⟨by rfl, ?_⟩) (by assumption) ?_
                 · intro u hu
                   go_simp <;> first | with_reducible rfl | rfl
                 simp only [Act.put, List.setIfInBounds_toArray, List.set_cons_zero, List.set_cons_succ]
                 refine wpAnyH_take (i := 20) (oi := vop20) (v := (.bool true)) rfl (by kernel_rfl) (by kernel_rfl) (by kernel_rfl) (fun _ _ _ h => h) (Or.inl ⟨by rfl, ?_⟩) (by assumption) ?_
                 · intro u hu
                   go_simp <;> first | with_reducible rfl | rfl
                 simp only [Act.put, List.setIfInBounds_toArray, List.set_cons_zero, List.set_cons_succ]
                 refine wpAnyH_done (by kernel_rfl) ?_ _
                 go_wp2_with fail
                 go_ret
                 exact ⟨rfl, bel5.out⟩
               exact AllReadyH.nil
             exact AllReadyH.nil
         exact AllReadyH.nil
       · refine hK.out _ _ ⟨ka2.out, kb2.out⟩ (fun hHeld => ?_)
         clear hK K
         try simp only [Act.put, List.setIfInBounds_toArray, List.set_cons_zero, List.set_cons_succ]
         refine wpAnyH_take (i := 5) (oi := vop5) (v := (.bool true)) rfl (by kernel_rfl) (by kernel_rfl) (by kernel_rfl) (fun _ _ _ h => h) (Or.inl ⟨by rfl, ?_⟩) (by assumption) ?_
         · intro u hu
           go_simp <;> first | with_reducible rfl | rfl
         simp only [Act.put, List.setIfInBounds_toArray, List.set_cons_zero, List.set_cons_succ]
         refine wpAnyH_take (i := 6) (oi := vop6) (v := (.bool true)) rfl (by kernel_rfl) (by kernel_rfl) (by kernel_rfl) (fun _ _ _ h => h) (Or.inl ⟨by rfl, ?_⟩) (by assumption) ?_
         · intro u hu
           go_simp <;> first | with_reducible rfl | rfl
         simp only [Act.put, List.setIfInBounds_toArray, List.set_cons_zero, List.set_cons_succ]
         refine wpAnyH_take (i := 7) (oi := vop7) (v := undef) rfl (by kernel_rfl) (by kernel_rfl) (by kernel_rfl) (fun _ _ _ h => h) (Or.inr ⟨by rfl, rfl⟩) (by assumption) ?_
         simp only [Act.put, List.setIfInBounds_toArray, List.set_cons_zero, List.set_cons_succ]
         refine wpAnyH_take (i := 8) (oi := vop8) (v := undef) rfl (by kernel_rfl) (by kernel_rfl) (by kernel_rfl) (fun _ _ _ h => h) (Or.inr ⟨by rfl, rfl⟩) (by assumption) ?_
         simp only [Act.put, List.setIfInBounds_toArray, List.set_cons_zero, List.set_cons_succ]
         refine wpAnyH_take (i := 9) (oi := vop9) (v := undef) rfl (by kernel_rfl) (by kernel_rfl) (by kernel_rfl) (fun _ _ _ h => h) (Or.inr ⟨by rfl, rfl⟩) (by assumption) ?_
         simp only [Act.put, List.setIfInBounds_toArray, List.set_cons_zero, List.set_cons_succ]
         refine wpAnyH_take (i := 11) (oi := vop11) (v := undef) rfl (by kernel_rfl) (by kernel_rfl) (by kernel_rfl) (fun _ _ _ h => h) (Or.inr ⟨by rfl, rfl⟩) (by assumption) ?_
         simp only [Act.put, List.setIfInBounds_toArray, List.set_cons_zero, List.set_cons_succ]
         refine wpAnyH_take (i := 12) (oi := vop12) (v := undef) rfl (by kernel_rfl) (by kernel_rfl) (by kernel_rfl) (fun _ _ _ h => h) (Or.inr ⟨by rfl, rfl⟩) (by assumption) ?_
         simp only [Act.put, List.setIfInBounds_toArray, List.set_cons_zero, List.set_cons_succ]
         refine wpAnyH_take (i := 13) (oi := vop13) (v := undef) rfl (by kernel_rfl) (by kernel_rfl) (by kernel_rfl) (fun _ _ _ h => h) (Or.inr ⟨by rfl, rfl⟩) (by assumption) ?_
         simp only [Act.put, List.setIfInBounds_toArray, List.set_cons_zero, List.set_cons_succ]
         refine wpAnyH_ready (rs := [10]) (by kernel_rfl) (by simp) ?_
         refine AllReadyH.cons (o := vop10) rfl (fun K hK => ?_) ?_
         · unfold vop10
           go_simp
           refine hK.out _ _ ⟨ka2.out, kb2.out⟩ (fun hHeld => ?_)
           clear hK K
           try simp only [Act.put, List.setIfInBounds_toArray, List.set_cons_zero, List.set_cons_succ]
           refine wpAnyH_ready (rs := [14]) (by kernel_rfl) (by simp) ?_
           refine AllReadyH.cons (o := vop14) rfl (fun K hK => ?_) ?_
           · unfold vop14
             go_simp
             refine hK.out _ _ ⟨ka2.out, kb2.out⟩ (fun hHeld => ?_)
             clear hK K
             try simp only [Act.put, List.setIfInBounds_toArray, List.set_cons_zero, List.set_cons_succ]
             refine wpAnyH_take (i := 15) (oi := vop15) (v := undef) rfl (by kernel_rfl) (by kernel_rfl) (by kernel_rfl) (fun _ _ _ h => h) (Or.inr ⟨by rfl, rfl⟩) (by assumption) ?_
             simp only [Act.put, List.setIfInBounds_toArray, List.set_cons_zero, List.set_cons_succ]
             refine wpAnyH_take (i := 16) (oi := vop16) (v := undef) rfl (by kernel_rfl) (by kernel_rfl) (by kernel_rfl) (fun _ _ _ h => h) (Or.inr ⟨by rfl, rfl⟩) (by assumption) ?_
             simp only [Act.put, List.setIfInBounds_toArray, List.set_cons_zero, List.set_cons_succ]
             refine wpAnyH_ready (rs := [17]) (by kernel_rfl) (by simp) ?_
             refine AllReadyH.cons (o := vop17) rfl (fun K hK => ?_) ?_
             · unfold vop17
               go_simp
               refine hK.out _ _ ⟨ka2.out, kb2.out⟩ (fun hHeld => ?_)
               clear hK K
               try simp only [Act.put, List.setIfInBounds_toArray, List.set_cons_zero, List.set_cons_succ]
               refine wpAnyH_take (i := 18) (oi := vop18) (v := undef) rfl (by kernel_rfl) (by kernel_rfl) (by kernel_rfl) (fun _ _ _ h => h) (Or.inr ⟨by rfl, rfl⟩) (by assumption) ?_
               simp only [Act.put, List.setIfInBounds_toArray, List.set_cons_zero, List.set_cons_succ]
               refine wpAnyH_take (i := 19) (oi := vop19) (v := (.bool true)) rfl (by kernel_rfl) (by kernel_rfl) (by kernel_rfl) (fun _ _ _ h => h) (Or.inl ⟨by rfl, ?_⟩) (by assumption) ?_
               · intro u hu
                 go_simp <;> first | with_reducible rfl | rfl
               simp only [Act.put, List.setIfInBounds_toArray, List.set_cons_zero, List.set_cons_succ]
               refine wpAnyH_take (i := 20) (oi := vop20) (v := (.bool true)) rfl (by kernel_rfl) (by kernel_rfl) (by kernel_rfl) (fun _ _ _ h => h) (Or.inl ⟨by rfl, ?_⟩) (by assumption) ?_
               · intro u hu
                 go_simp <;> first | with_reducible rfl | rfl
               simp only [Act.put, List.setIfInBounds_toArray, List.set_cons_zero, List.set_cons_succ]
               refine wpAnyH_done (by kernel_rfl) ?_ _
               go_wp2_with fail
               go_ret
               exact ⟨rfl, bel2.out⟩
             exact AllReadyH.nil
           exact AllReadyH.nil
         exact AllReadyH.nil
     exact AllReadyH.nil
   · refine hK.out _ _ ⟨ka1.out, kb1.out⟩ (fun hHeld => ?_)
     clear hK K
     try simp only [Act.put, List.setIfInBounds_toArray, List.set_cons_zero, List.set_cons_succ]
     refine wpAnyH_take (i := 2) (oi := vop2) (v := (.bool true)) rfl (by kernel_rfl) (by kernel_rfl) (by kernel_rfl) (fun _ _ _ h => h) (Or.inl ⟨by rfl, ?_⟩) (by assumption) ?_
     · intro u hu
       go_simp <;> first | with_reducible rfl | rfl
     simp only [Act.put, List.setIfInBounds_toArray, List.set_cons_zero, List.set_cons_succ]
     refine wpAnyH_take (i := 3) (oi := vop3) (v := undef) rfl (by kernel_rfl) (by kernel_rfl) (by kernel_rfl) (fun _ _ _ h => h) (Or.inr ⟨by rfl, rfl⟩) (by assumption) ?_
     simp only [Act.put, List.setIfInBounds_toArray, List.set_cons_zero, List.set_cons_succ]
     refine wpAnyH_ready (rs := [4]) (by kernel_rfl) (by simp) ?_
     refine AllReadyH.cons (o := vop4) rfl (fun K hK => ?_) ?_
     · unfold vop4
       go_simp
       refine hK.out _ _ ⟨ka1.out, kb1.out⟩ (fun hHeld => ?_)
       clear hK K
       try simp only [Act.put, List.setIfInBounds_toArray, List.set_cons_zero, List.set_cons_succ]
       refine wpAnyH_take (i := 5) (oi := vop5) (v := (.bool true)) rfl (by kernel_rfl) (by kernel_rfl) (by kernel_rfl) (fun _ _ _ h => h) (Or.inl ⟨by rfl, ?_⟩) (by assumption) ?_
       · intro u hu
         go_simp <;> first | with_reducible rfl | rfl
       simp only [Act.put, List.setIfInBounds_toArray, List.set_cons_zero, List.set_cons_succ]
       refine wpAnyH_take (i := 6) (oi := vop6) (v := (.bool true)) rfl (by kernel_rfl) (by kernel_rfl) (by kernel_rfl) (fun _ _ _ h => h) (Or.inl ⟨by rfl, ?_⟩) (by assumption) ?_
       · intro u hu
         go_simp <;> first | with_reducible rfl | rfl
       simp only [Act.put, List.setIfInBounds_toArray, List.set_cons_zero, List.set_cons_succ]
       refine wpAnyH_take (i := 7) (oi := vop7) (v := undef) rfl (by kernel_rfl) (by kernel_rfl) (by kernel_rfl) (fun _ _ _ h => h) (Or.inr ⟨by rfl, rfl⟩) (by assumption) ?_
       simp only [Act.put, List.setIfInBounds_toArray, List.set_cons_zero, List.set_cons_succ]
       refine wpAnyH_take (i := 8) (oi := vop8) (v := undef) rfl (by kernel_rfl) (by kernel_rfl) (by kernel_rfl) (fun _ _ _ h => h) (Or.inr ⟨by rfl, rfl⟩) (by assumption) ?_
       simp only [Act.put, List.setIfInBounds_toArray, List.set_cons_zero, List.set_cons_succ]
       refine wpAnyH_take (i := 9) (oi := vop9) (v := undef) rfl (by kernel_rfl) (by kernel_rfl) (by kernel_rfl) (fun _ _ _ h => h) (Or.inr ⟨by rfl, rfl⟩) (by assumption) ?_
       simp only [Act.put, List.setIfInBounds_toArray, List.set_cons_zero, List.set_cons_succ]
       refine wpAnyH_take (i := 11) (oi := vop11) (v := undef) rfl (by kernel_rfl) (by kernel_rfl) (by kernel_rfl) (fun _ _ _ h => h) (Or.inr ⟨by rfl, rfl⟩) (by assumption) ?_
       simp only [Act.put, List.setIfInBounds_toArray, List.set_cons_zero, List.set_cons_succ]
       refine wpAnyH_take (i := 12) (oi := vop12) (v := undef) rfl (by kernel_rfl) (by kernel_rfl) (by kernel_rfl) (fun _ _ _ h => h) (Or.inr ⟨by rfl, rfl⟩) (by assumption) ?_
       simp only [Act.put, List.setIfInBounds_toArray, List.set_cons_zero, List.set_cons_succ]
       refine wpAnyH_take (i := 13) (oi := vop13) (v := undef) rfl (by kernel_rfl) (by kernel_rfl) (by kernel_rfl) (fun _ _ _ h => h) (Or.inr ⟨by rfl, rfl⟩) (by assumption) ?_
       simp only [Act.put, List.setIfInBounds_toArray, List.set_cons_zero, List.set_cons_succ]
       refine wpAnyH_ready (rs := [10]) (by kernel_rfl) (by simp) ?_
       refine AllReadyH.cons (o := vop10) rfl (fun K hK => ?_) ?_
       · unfold vop10
         go_simp
         refine hK.out _ _ ⟨ka1.out, kb1.out⟩ (fun hHeld => ?_)
         clear hK K
         try simp only [Act.put, List.setIfInBounds_toArray, List.set_cons_zero, List.set_cons_succ]
         refine wpAnyH_ready (rs := [14]) (by kernel_rfl) (by simp) ?_
         refine AllReadyH.cons (o := vop14) rfl (fun K hK => ?_) ?_
         · unfold vop14
           go_simp
           refine hK.out _ _ ⟨ka1.out, kb1.out⟩ (fun hHeld => ?_)
           clear hK K
           try simp only [Act.put, List.setIfInBounds_toArray, List.set_cons_zero, List.set_cons_succ]
           refine wpAnyH_take (i := 15) (oi := vop15) (v := undef) rfl (by kernel_rfl) (by kernel_rfl) (by kernel_rfl) (fun _ _ _ h => h) (Or.inr ⟨by rfl, rfl⟩) (by assumption) ?_
           simp only [Act.put, List.setIfInBounds_toArray, List.set_cons_zero, List.set_cons_succ]
           refine wpAnyH_take (i := 16) (oi := vop16) (v := undef) rfl (by kernel_rfl) (by kernel_rfl) (by kernel_rfl) (fun _ _ _ h => h) (Or.inr ⟨by rfl, rfl⟩) (by assumption) ?_
           simp only [Act.put, List.setIfInBounds_toArray, List.set_cons_zero, List.set_cons_succ]
           refine wpAnyH_ready (rs := [17]) (by kernel_rfl) (by simp) ?_
           refine AllReadyH.cons (o := vop17) rfl (fun K hK => ?_) ?_
           · unfold vop17
             go_simp
             refine hK.out _ _ ⟨ka1.out, kb1.out⟩ (fun hHeld => ?_)
             clear hK K
             try simp only [Act.put, List.setIfInBounds_toArray, List.set_cons_zero, List.set_cons_succ]
             refine wpAnyH_take (i := 18) (oi := vop18) (v := undef) rfl (by kernel_rfl) (by kernel_rfl) (by kernel_rfl) (fun _ _ _ h => h) (Or.inr ⟨by rfl, rfl⟩) (by assumption) ?_
             simp only [Act.put, List.setIfInBounds_toArray, List.set_cons_zero, List.set_cons_succ]
             refine wpAnyH_take (i := 19) (oi := vop19) (v := (.bool true)) rfl (by kernel_rfl) (by kernel_rfl) (by kernel_rfl) (fun _ _ _ h => h) (Or.inl ⟨by rfl, ?_⟩) (by assumption) ?_
             · intro u hu
               go_simp <;> first | with_reducible rfl | rfl
             simp only [Act.put, List.setIfInBounds_toArray, List.set_cons_zero, List.set_cons_succ]
             refine wpAnyH_take (i := 20) (oi := vop20) (v := (.bool true)) rfl (by kernel_rfl) (by kernel_rfl) (by kernel_rfl) (fun _ _ _ h => h) (Or.inl ⟨by rfl, ?_⟩) (by assumption) ?_
             · intro u hu
               go_simp <;> first | with_reducible rfl | rfl
             simp only [Act.put, List.setIfInBounds_toArray, List.set_cons_zero, List.set_cons_succ]
             refine wpAnyH_done (by kernel_rfl) ?_ _
             go_wp2_with fail
             go_ret
             exact ⟨rfl, bel1.out⟩
           exact AllReadyH.nil
         exact AllReadyH.nil
       exact AllReadyH.nil
     exact AllReadyH.nil
 exact AllReadyH.nil
end Go.Proofs.YtpmgjpchpmkklaaGreatDoor
