/- Joined by tools/bundle.py: DC6C DC6D DC6E DC6. -/
import Derived.Test.YthfoomobicbcpaaGreatDoorZ11
import Derived.Test.YthfoomobicbcpaaGreatDoorZ0
set_option maxRecDepth 100000
set_option maxHeartbeats 16000000
namespace Go.Proofs.YthfoomobicbcpaaGreatDoor
open Go.ChangeShapes Go.WideShapes Go.ChangeAt Go.RowKit Mem
theorem value13_some {s : Sc} (hs : ScG s) {A : Option Addr} {c : Nat} {o : Option DB} {ar : Int} (hn : o = none → ar = 20) (ho : ∀ B, o = some B → (ar ≠ 20 ∧ 0 ≤ ar ∧ ar ≤ 20) ∧ CallV s A c B (ar + 1) ∧ ∀ a j left v l, 0 ≤ a → a < (s.nodes.length : Int) → JG j → B a j left = some (v, l) → l ≤ left) (a : Int) (j : J) (left g : Nat) (w : World) (S : Nat → Prop) (A3 A4 : Option Addr) (c3 c4 : Nat) (h0 : 0 ≤ a) (h1 : a < (s.nodes.length : Int)) (hj : JG j) (h : TW s A c w g left) (hS : ∀ b, S b → b < w.heap.size ∧ b ≠ g) (ht : TreeS w S j [.int .i64 j.k, .int .i64 j.n, .string j.t, .slice A3 j.its.length c3, .slice A4 j.ks.length c4]) (hl0 : left ≠ 0) (hcase : ¬ ((s.node a).k ≠ 13 ∧ j.k ≠ askedK (s.node a).k) ∧ deepK (s.node a).k) (B : DB) (hon : o = some B) :
 Calls Tryz.prog 76 #[.pointer (some ⟨g, 0, none⟩), .int .i64 a, .agg #[.int .i64 j.k, .int .i64 j.n, .string j.t, .slice A3 j.its.length c3, .slice A4 j.ks.length c4], .int .i64 ar] w (TP (dstep o (s.node a) j left) (.slice A s.nodes.length c) g w) := by
 have CS := cell_set
 have lg := h.blk.lt
 have LG : Hid (g < w.heap.size) := lg
 have hp : a.toNat < s.nodes.length := by omega
 obtain ⟨p, rfl⟩ : ∃ p : Nat, a = (p : Int) := ⟨a.toNat, by omega⟩
 rw [Int.toNat_natCast] at hp
 obtain ⟨R, hR⟩ : ∃ R, R = dstep o (s.node (p : Int)) j left := ⟨_, rfl⟩
 show Calls _ _ _ _ (TP (dstep o (s.node (p : Int)) j left) _ _ _)
 rw [← hR]
 rw [Sc.node_at hp] at hR
 obtain ⟨g1, o1, X2, x2, X3, x3, X4, x4, X9, x9, e1, hg1, ⟨u0, u1, u2, u3, u4, u5, u6, u7, u8, u9⟩, hnd⟩ := nodes_at h.nodes hp
 have ok := hs.right.2.1 _ (List.getElem_mem hp)
 have kin := fun k => kid_in hs.right.1 hp (k := k)
 have SJ := fun f (h9 : (s.nodes[p]'hp).k = 9) hf => said_JG hs hj hp h9 (f := f) hf
 have smn := hs.sm.2 p hp
 have HH := Lib.hid h
 have room := h.room
 have hnode : s.node (p : Int) = s.nodes[p]'hp := Sc.node_at hp
 rw [hnode] at hcase
 clear hnode
 generalize s.nodes[p]'hp = nd at *
 have K14 := ok.2.1
 have K1 := ok.1
 have TBL := h.blk
 obtain ⟨nn, hnn⟩ : ∃ m, m = s.nodes.length := ⟨_, rfl⟩
 rw [← hnn] at h1 TBL ⊢
 have HNN := Lib.hid hnn
 have nmax : nn ≤ 9223372036854775807 := by have := h.len.2; unfold maxLen at this; omega
 obtain ⟨t0, t1, _, _⟩ := B2.facts TBL
 have lg1 : g1 < w.heap.size := by have : g1 < g := hg1; omega
 have ng1 : g ≠ g1 := by have : g1 < g := hg1; omega
 subst e1
 have HR := Lib.hid hR
 have TBH := Lib.hid TBL
 have pn : (p : Int) < (nn : Int) := h1
 obtain ⟨W, hW⟩ : ∃ W, W = (((w.alloc (.cells #[.int .i64 j.k, .int .i64 j.n, .string j.t, .slice A3 j.its.length c3, .slice A4 j.ks.length c4] 25)).alloc (.cells #[.int .i64 0, .int .i64 0, .int .u64 0, .slice none 0 0, .slice none 0 0, .slice none 0 0] 42)).alloc (.cells #[.int .i64 nd.k, .string nd.name, .slice X2 nd.al.length x2, .slice X3 nd.fs.length x3, .slice X4 nd.sy.length x4, .bool nd.has, .string nd.df, .int .i64 nd.size, .int .i64 nd.items, .slice X9 nd.br.length x9] 59)) := ⟨_, rfl⟩
 have ZS : Hid (W.heap.size = w.heap.size + 3) := by show _ = _; rw [hW]; simp
 have BW : Hid (Below w.heap.size w W) := by rw [hW]; exact (((Below.refl _ _).alloc (Nat.le_refl _) _).alloc (by simp) _).alloc (by simp; omega) _
 have W5 : Hid (B5 W w.heap.size 25 (.int .i64 j.k) (.int .i64 j.n) (.string j.t) (.slice A3 j.its.length c3) (.slice A4 j.ks.length c4)) := by rw [hW]; exact ((B5.newat rfl).alloc _).alloc _
 have W6 : Hid (B6 W (w.heap.size + 1) 42 (.int .i64 0) (.int .i64 0) (.int .u64 0) (.slice none 0 0) (.slice none 0 0) (.slice none 0 0)) := by rw [hW]; exact (B6.newat (by simp)).alloc _
 have W10 : Hid (B10 W (w.heap.size + 2) 59 (.int .i64 nd.k) (.string nd.name) (.slice X2 nd.al.length x2) (.slice X3 nd.fs.length x3) (.slice X4 nd.sy.length x4) (.bool nd.has) (.string nd.df) (.int .i64 nd.size) (.int .i64 nd.items) (.slice X9 nd.br.length x9)) := by rw [hW]; exact B10.newat (by simp)
 have TBW := Lib.hid (TBL.below BW.out lg)
 obtain ⟨_, _, _, _, _, _, _, _, _, _⟩ := B5.facts W5.out
 obtain ⟨_, _, _, _, _, _, _, _, _, _, _, _⟩ := B6.facts W6.out
 obtain ⟨_, _, _, _, _, _, _, _, _, _, _, _, _, _, _, _, _, _, _, _⟩ := B10.facts W10.out
 obtain ⟨_, _, _, _⟩ := B2.facts TBW.out
 have lW := TBW.out.lt
 have lW6 := W6.out.lt
 have ngw : g ≠ w.heap.size := by omega
 have ngw1 : g ≠ w.heap.size + 1 := by omega
 have ngw2 : g ≠ w.heap.size + 2 := by omega
 have q0 : ((left : Int) == 0) = false := by rw [beq_eq_false_iff_ne]; omega
 obtain ⟨l1, rfl⟩ : ∃ l1, left = l1 + 1 := ⟨left - 1, by omega⟩
 obtain ⟨ak, hak⟩ : ∃ x, x = askedK nd.k := ⟨_, rfl⟩
 have AK : Hid (∀ W, Calls Tryz.prog 126 #[.int .i64 nd.k] W (Sole (.int .i64 ak) W)) := by rw [hak]; exact fun W => asked13_any nd.k W
 have hm : ¬ (nd.k ≠ 13 ∧ j.k ≠ ak) := by rw [hak]; exact hcase.1
 have hm2 : nd.k ≠ 13 → j.k = askedK nd.k := fun e => Classical.byContradiction fun g => hm ⟨e, by rw [hak]; exact g⟩
 have HP : R = if deepK nd.k then o.bind fun B => dparted B nd j l1 else (dleaf nd j).map fun v => (v, l1) := by
  rw [HR.out]; unfold dstep
  rw [if_neg (fun g => by rcases g with g | g; omega; exact hm (by rw [hak]; exact g)), Nat.add_sub_cancel]
 have wz : Value.int .i64 (wrap64 (l1 : Int)) = Value.int .i64 (l1 : Int) := by rw [IntWalk.wrap64_in _ ⟨by omega, by omega⟩]
 have ZW1 : Hid (∀ {nq}, ((W.drewN nq).setCell ⟨g, 1, none⟩ (.int .i64 (l1 : Int))).heap.size = w.heap.size + 3) := fun {nq} => by have := ZS.out; simp [World.setCell]; exact this
 have SV1 : Hid (∀ nq, Sav g g w.heap.size w ((W.drewN nq).setCell ⟨g, 1, none⟩ (.int .i64 (l1 : Int)))) := fun nq => Sav.set (p := ⟨g, 1, none⟩) (Sav.drewN (Sav.of BW.out) nq) (.inl rfl) _
 have TB1 : Hid (∀ nq, B2 ((W.drewN nq).setCell ⟨g, 1, none⟩ (.int .i64 (l1 : Int))) g 119 (.slice (some ⟨g1, o1, none⟩) nn c) (.int .i64 (l1 : Int))) := fun nq => B2.set1 (B2.drewN TBW.out nq) _
 have W61 : Hid (∀ nq, B6 ((W.drewN nq).setCell ⟨g, 1, none⟩ (.int .i64 (l1 : Int))) (w.heap.size + 1) 42 (.int .i64 0) (.int .i64 0) (.int .u64 0) (.slice none 0 0) (.slice none 0 0) (.slice none 0 0)) := fun nq => B6.past (B6.drewN W6.out nq) ngw1 _
 have W51 : Hid (∀ nq, B5 ((W.drewN nq).setCell ⟨g, 1, none⟩ (.int .i64 (l1 : Int))) w.heap.size 25 (.int .i64 j.k) (.int .i64 j.n) (.string j.t) (.slice A3 j.its.length c3) (.slice A4 j.ks.length c4)) := fun nq => B5.past (B5.drewN W5.out nq) ngw _
 have TW1 : Hid (∀ nq, TW s (some ⟨g1, o1, none⟩) c ((W.drewN nq).setCell ⟨g, 1, none⟩ (.int .i64 (l1 : Int))) g l1) := fun nq => TW.go HH.out (SV1.out nq) (HNN.out ▸ TB1.out nq) (Nat.le_of_succ_le room)
 have TT1 : Hid (∀ nq, TreeS ((W.drewN nq).setCell ⟨g, 1, none⟩ (.int .i64 (l1 : Int))) S j [.int .i64 j.k, .int .i64 j.n, .string j.t, .slice A3 j.its.length c3, .slice A4 j.ks.length c4]) := fun nq => TreeS.keep ((SV1.out nq).keeps fun k hk => ⟨(hS k hk).1, (hS k hk).2, (hS k hk).2⟩) (fun _ h => h) ht
 have ND1 : Hid (∀ nq, Lies ((W.drewN nq).setCell ⟨g, 1, none⟩ (.int .i64 (l1 : Int))) (· < g) nd.enc [.int .i64 nd.k, .string nd.name, .slice X2 nd.al.length x2, .slice X3 nd.fs.length x3, .slice X4 nd.sy.length x4, .bool nd.has, .string nd.df, .int .i64 nd.size, .int .i64 nd.items, .slice X9 nd.br.length x9]) := fun nq => hnd.keep (fun p hp => (SV1.out nq).cell (by have : p.block < g := hp; omega) (by have : p.block < g := hp; omega) (by have : p.block < g := hp; omega)) (fun _ h => h)
 clear hR HR q0
 have q0 : (((l1 + 1 : Nat) : Int) == 0) = false := by rw [beq_eq_false_iff_ne]; omega
 have hd := hcase.2
 clear hcase
 rw [if_pos hd] at HP
 have HD := hd
 unfold deepK at hd
 subst hon
 obtain ⟨⟨ha1, ha2, ha3⟩, hB, hle⟩ := ho B rfl
 replace HP : R = dparted B nd j l1 := HP
 have hfl : nd.fs.length ≤ 1000000 := by have := smn.2.1; omega
 have PC : Hid (∀ nq, Calls Tryz.prog 127 #[.pointer (some ⟨g, 0, none⟩), .agg #[.int .i64 nd.k, .string nd.name, .slice X2 nd.al.length x2, .slice X3 nd.fs.length x3, .slice X4 nd.sy.length x4, .bool nd.has, .string nd.df, .int .i64 nd.size, .int .i64 nd.items, .slice X9 nd.br.length x9], .agg #[.int .i64 j.k, .int .i64 j.n, .string j.t, .slice A3 j.its.length c3, .slice A4 j.ks.length c4], .int .i64 (ar + 1)] ((W.drewN nq).setCell ⟨g, 1, none⟩ (.int .i64 (l1 : Int))) (TP R (.slice (some ⟨g1, o1, none⟩) nn c) g ((W.drewN nq).setCell ⟨g, 1, none⟩ (.int .i64 (l1 : Int))))) := fun nq => by
  have := parted13_any hB hle nd HD j hj (fun h9 f hf => ⟨kin f.ty (by unfold Nd.kids; rw [if_pos h9]; exact List.mem_map_of_mem hf), SJ f h9 hf⟩) (fun h13 => by
   have o13 := ok.2.2.2.2.2.2.2
   rw [if_pos h13] at o13
   have hb0 : 0 < nd.br.length := List.length_pos_iff.2 o13.1
   have hm : nd.br.getD 0 0 ∈ nd.br := by rw [List.getD_eq_getElem?_getD, List.getElem?_eq_getElem hb0]; exact List.getElem_mem hb0
   exact ⟨hb0, kin _ (by unfold Nd.kids; rw [if_neg (by omega), if_neg (by omega), if_pos h13]; exact hm)⟩) (fun e => kin _ (by unfold Nd.kids; rw [if_neg (by omega), if_pos e]; exact List.mem_singleton.2 rfl)) hfl l1 g ((W.drewN nq).setCell ⟨g, 1, none⟩ (.int .i64 (l1 : Int))) (TW1.out nq) S (fun b hb => ⟨by rw [ZW1.out]; have := (hS b hb).1; omega, (hS b hb).2⟩) A3 A4 c3 c4 (TT1.out nq) X2 X3 X4 X9 x2 x3 x4 x9 (ND1.out nq) R HP
  rw [← HNN.out] at this
  exact this
 have qa : (ar == 20) = false := by rw [beq_eq_false_iff_ne]; exact ha1
 have wa : Value.int .i64 (wrap64 (ar + 1)) = Value.int .i64 (ar + 1) := by rw [IntWalk.wrap64_in _ ⟨by omega, by omega⟩]
 have HM2 := Lib.hid hm2
 clear HP hn ho hj h hS ht hs ok kin SJ smn HH hnd HNN hnn TBL hl0 hm HD TW1 TT1 ND1 hB hle hfl ha1 ha2 ha3 room K1 K14 hm2
 rcases hd with hd | hd | hd | hd
 · have q9 : (nd.k == 9) = true := by rw [beq_iff_eq]; exact hd
   have n13 : (nd.k != 13) = true := by rw [bne_iff_ne]; omega
   have qj : (j.k != ak) = false := by rw [bne_eq_false_iff_eq, hak]; exact HM2.out (by omega)
   clear hd HM2 hak
   go_enter Tryz.func76, Tryz.ntmps76
   go_wp2_with fail
   rw [← hW]
   clear hW
   (first | go_quiet (fail) | go_quiet ((go_at_call 126; exact Calls.quiet_of_same (AK.out _))))
   go_wp2_with fail
   with_reducible refine (PC.out _).mono ?_
   rintro e w2 hp
   obtain ⟨⟨vk, vn, vb, Z3, Z4, Z5, z3, q3, z4, q4, z5, q5, rfl, hv⟩, sv2, zz, b2, hz⟩ := hp
   have s2 := sv2.size
   rw [ZW1.out] at s2
   have Y6 : Hid (B6 w2 (w.heap.size + 1) 42 (.int .i64 0) (.int .i64 0) (.int .u64 0) (.slice none 0 0) (.slice none 0 0) (.slice none 0 0)) := Blk.sav (W61.out nq) sv2 (by rw [ZW1.out]; omega) (by have := LG.out; omega) (by have := LG.out; omega)
   have l6 := Y6.out.lt
   have SV2 : Hid (Sav g g w.heap.size w w2) := (SV1.out nq).trans (sv2.mono (by rw [ZW1.out]; omega))
   have HV := Lib.hid hv
   have HZ := Lib.hid hz
   have HB2 := Lib.hid b2
   obtain ⟨_, _, _, _, _, _, _, _, _, _, _, _⟩ := B6.facts Y6.out
   clear hv hz b2 sv2
   go_wp2_with fail
   try simp only [Exit.inBlock, Exit.then]
   refine post_V2 (x0 := .int .i64 vk) (x1 := .int .i64 vn) (x2 := .int .u64 vb) (x3 := .slice Z3 z3 q3) (x4 := .slice Z4 z4 q4) (x5 := .slice Z5 z5 q5) rfl rfl rfl (by go_simp) (by go_simp) (by go_simp) (by go_simp) (by go_simp) (by go_simp) ?_
   exact tp_pass (W1 := ((W.drewN nq).setCell ⟨g, 1, none⟩ (.int .i64 (l1 : Int)))) (by first | rfl | (simp; done)) SV2.out (by rw [ZW1.out]; omega) LG.out (by omega) (by rw [ZW1.out]; omega) HB2.out HZ.out HV.out
 · have q9 : (nd.k == 9) = false := by rw [beq_eq_false_iff_ne]; omega
   have q11 : (nd.k == 11) = true := by rw [beq_iff_eq]; exact hd
   have n13 : (nd.k != 13) = true := by rw [bne_iff_ne]; omega
   have qj : (j.k != ak) = false := by rw [bne_eq_false_iff_eq, hak]; exact HM2.out (by omega)
   clear hd HM2 hak
   go_enter Tryz.func76, Tryz.ntmps76
   go_wp2_with fail
   rw [← hW]
   clear hW
   (first | go_quiet (fail) | go_quiet ((go_at_call 126; exact Calls.quiet_of_same (AK.out _))))
   go_wp2_with fail
   with_reducible refine (PC.out _).mono ?_
   rintro e w2 hp
   obtain ⟨⟨vk, vn, vb, Z3, Z4, Z5, z3, q3, z4, q4, z5, q5, rfl, hv⟩, sv2, zz, b2, hz⟩ := hp
   have s2 := sv2.size
   rw [ZW1.out] at s2
   have Y6 : Hid (B6 w2 (w.heap.size + 1) 42 (.int .i64 0) (.int .i64 0) (.int .u64 0) (.slice none 0 0) (.slice none 0 0) (.slice none 0 0)) := Blk.sav (W61.out nq) sv2 (by rw [ZW1.out]; omega) (by have := LG.out; omega) (by have := LG.out; omega)
   have l6 := Y6.out.lt
   have SV2 : Hid (Sav g g w.heap.size w w2) := (SV1.out nq).trans (sv2.mono (by rw [ZW1.out]; omega))
   have HV := Lib.hid hv
   have HZ := Lib.hid hz
   have HB2 := Lib.hid b2
   obtain ⟨_, _, _, _, _, _, _, _, _, _, _, _⟩ := B6.facts Y6.out
   clear hv hz b2 sv2
   go_wp2_with fail
   try simp only [Exit.inBlock, Exit.then]
   refine post_V2 (x0 := .int .i64 vk) (x1 := .int .i64 vn) (x2 := .int .u64 vb) (x3 := .slice Z3 z3 q3) (x4 := .slice Z4 z4 q4) (x5 := .slice Z5 z5 q5) rfl rfl rfl (by go_simp) (by go_simp) (by go_simp) (by go_simp) (by go_simp) (by go_simp) ?_
   exact tp_pass (W1 := ((W.drewN nq).setCell ⟨g, 1, none⟩ (.int .i64 (l1 : Int)))) (by first | rfl | (simp; done)) SV2.out (by rw [ZW1.out]; omega) LG.out (by omega) (by rw [ZW1.out]; omega) HB2.out HZ.out HV.out
 · have q9 : (nd.k == 9) = false := by rw [beq_eq_false_iff_ne]; omega
   have q11 : (nd.k == 11) = false := by rw [beq_eq_false_iff_ne]; omega
   have q12 : (nd.k == 12) = true := by rw [beq_iff_eq]; exact hd
   have n13 : (nd.k != 13) = true := by rw [bne_iff_ne]; omega
   have qj : (j.k != ak) = false := by rw [bne_eq_false_iff_eq, hak]; exact HM2.out (by omega)
   clear hd HM2 hak
   go_enter Tryz.func76, Tryz.ntmps76
   go_wp2_with fail
   rw [← hW]
   clear hW
   (first | go_quiet (fail) | go_quiet ((go_at_call 126; exact Calls.quiet_of_same (AK.out _))))
   go_wp2_with fail
   with_reducible refine (PC.out _).mono ?_
   rintro e w2 hp
   obtain ⟨⟨vk, vn, vb, Z3, Z4, Z5, z3, q3, z4, q4, z5, q5, rfl, hv⟩, sv2, zz, b2, hz⟩ := hp
   have s2 := sv2.size
   rw [ZW1.out] at s2
   have Y6 : Hid (B6 w2 (w.heap.size + 1) 42 (.int .i64 0) (.int .i64 0) (.int .u64 0) (.slice none 0 0) (.slice none 0 0) (.slice none 0 0)) := Blk.sav (W61.out nq) sv2 (by rw [ZW1.out]; omega) (by have := LG.out; omega) (by have := LG.out; omega)
   have l6 := Y6.out.lt
   have SV2 : Hid (Sav g g w.heap.size w w2) := (SV1.out nq).trans (sv2.mono (by rw [ZW1.out]; omega))
   have HV := Lib.hid hv
   have HZ := Lib.hid hz
   have HB2 := Lib.hid b2
   obtain ⟨_, _, _, _, _, _, _, _, _, _, _, _⟩ := B6.facts Y6.out
   clear hv hz b2 sv2
   go_wp2_with fail
   try simp only [Exit.inBlock, Exit.then]
   refine post_V2 (x0 := .int .i64 vk) (x1 := .int .i64 vn) (x2 := .int .u64 vb) (x3 := .slice Z3 z3 q3) (x4 := .slice Z4 z4 q4) (x5 := .slice Z5 z5 q5) rfl rfl rfl (by go_simp) (by go_simp) (by go_simp) (by go_simp) (by go_simp) (by go_simp) ?_
   exact tp_pass (W1 := ((W.drewN nq).setCell ⟨g, 1, none⟩ (.int .i64 (l1 : Int)))) (by first | rfl | (simp; done)) SV2.out (by rw [ZW1.out]; omega) LG.out (by omega) (by rw [ZW1.out]; omega) HB2.out HZ.out HV.out
 · have q9 : (nd.k == 9) = false := by rw [beq_eq_false_iff_ne]; omega
   have q11 : (nd.k == 11) = false := by rw [beq_eq_false_iff_ne]; omega
   have q12 : (nd.k == 12) = false := by rw [beq_eq_false_iff_ne]; omega
   have q13 : (nd.k == 13) = true := by rw [beq_iff_eq]; exact hd
   have n13 : (nd.k != 13) = false := by rw [bne_eq_false_iff_eq]; exact hd
   clear hd HM2 hak
   go_enter Tryz.func76, Tryz.ntmps76
   go_wp2_with fail
   rw [← hW]
   clear hW
   (first | go_quiet (fail) | go_quiet ((go_at_call 126; exact Calls.quiet_of_same (AK.out _))))
   go_wp2_with fail
   with_reducible refine (PC.out _).mono ?_
   rintro e w2 hp
   obtain ⟨⟨vk, vn, vb, Z3, Z4, Z5, z3, q3, z4, q4, z5, q5, rfl, hv⟩, sv2, zz, b2, hz⟩ := hp
   have s2 := sv2.size
   rw [ZW1.out] at s2
   have Y6 : Hid (B6 w2 (w.heap.size + 1) 42 (.int .i64 0) (.int .i64 0) (.int .u64 0) (.slice none 0 0) (.slice none 0 0) (.slice none 0 0)) := Blk.sav (W61.out nq) sv2 (by rw [ZW1.out]; omega) (by have := LG.out; omega) (by have := LG.out; omega)
   have l6 := Y6.out.lt
   have SV2 : Hid (Sav g g w.heap.size w w2) := (SV1.out nq).trans (sv2.mono (by rw [ZW1.out]; omega))
   have HV := Lib.hid hv
   have HZ := Lib.hid hz
   have HB2 := Lib.hid b2
   obtain ⟨_, _, _, _, _, _, _, _, _, _, _, _⟩ := B6.facts Y6.out
   clear hv hz b2 sv2
   go_wp2_with fail
   try simp only [Exit.inBlock, Exit.then]
   refine post_V2 (x0 := .int .i64 vk) (x1 := .int .i64 vn) (x2 := .int .u64 vb) (x3 := .slice Z3 z3 q3) (x4 := .slice Z4 z4 q4) (x5 := .slice Z5 z5 q5) rfl rfl rfl (by go_simp) (by go_simp) (by go_simp) (by go_simp) (by go_simp) (by go_simp) ?_
   exact tp_pass (W1 := ((W.drewN nq).setCell ⟨g, 1, none⟩ (.int .i64 (l1 : Int)))) (by first | rfl | (simp; done)) SV2.out (by rw [ZW1.out]; omega) LG.out (by omega) (by rw [ZW1.out]; omega) HB2.out HZ.out HV.out
theorem value13_text {s : Sc} (hs : ScG s) {A : Option Addr} {c : Nat} {o : Option DB} {ar : Int} (_hn : o = none → ar = 20) (ho : ∀ B, o = some B → (ar ≠ 20 ∧ 0 ≤ ar ∧ ar ≤ 20) ∧ CallV s A c B (ar + 1) ∧ ∀ a j left v l, 0 ≤ a → a < (s.nodes.length : Int) → JG j → B a j left = some (v, l) → l ≤ left) (a : Int) (j : J) (left g : Nat) (w : World) (S : Nat → Prop) (A3 A4 : Option Addr) (c3 c4 : Nat) (h0 : 0 ≤ a) (h1 : a < (s.nodes.length : Int)) (hj : JG j) (h : TW s A c w g left) (hS : ∀ b, S b → b < w.heap.size ∧ b ≠ g) (ht : TreeS w S j [.int .i64 j.k, .int .i64 j.n, .string j.t, .slice A3 j.its.length c3, .slice A4 j.ks.length c4]) (hl0 : left ≠ 0) (hcase : ¬ ((s.node a).k ≠ 13 ∧ j.k ≠ askedK (s.node a).k) ∧ ¬ deepK (s.node a).k ∧ textK (s.node a).k) :
 Calls Tryz.prog 76 #[.pointer (some ⟨g, 0, none⟩), .int .i64 a, .agg #[.int .i64 j.k, .int .i64 j.n, .string j.t, .slice A3 j.its.length c3, .slice A4 j.ks.length c4], .int .i64 ar] w (TP (dstep o (s.node a) j left) (.slice A s.nodes.length c) g w) := by
 have CS := cell_set
 have lg := h.blk.lt
 have LG : Hid (g < w.heap.size) := lg
 have hp : a.toNat < s.nodes.length := by omega
 obtain ⟨p, rfl⟩ : ∃ p : Nat, a = (p : Int) := ⟨a.toNat, by omega⟩
 rw [Int.toNat_natCast] at hp
 obtain ⟨R, hR⟩ : ∃ R, R = dstep o (s.node (p : Int)) j left := ⟨_, rfl⟩
 show Calls _ _ _ _ (TP (dstep o (s.node (p : Int)) j left) _ _ _)
 rw [← hR]
 rw [Sc.node_at hp] at hR
 obtain ⟨g1, o1, X2, x2, X3, x3, X4, x4, X9, x9, e1, hg1, ⟨u0, u1, u2, u3, u4, u5, u6, u7, u8, u9⟩, hnd⟩ := nodes_at h.nodes hp
 have ok := hs.right.2.1 _ (List.getElem_mem hp)
 have kin := fun k => kid_in hs.right.1 hp (k := k)
 have SJ := fun f (h9 : (s.nodes[p]'hp).k = 9) hf => said_JG hs hj hp h9 (f := f) hf
 have smn := hs.sm.2 p hp
 have HH := Lib.hid h
 have room := h.room
 have hnode : s.node (p : Int) = s.nodes[p]'hp := Sc.node_at hp
 rw [hnode] at hcase
 clear hnode
 generalize s.nodes[p]'hp = nd at *
 have K14 := ok.2.1
 have K1 := ok.1
 have TBL := h.blk
 obtain ⟨nn, hnn⟩ : ∃ m, m = s.nodes.length := ⟨_, rfl⟩
 rw [← hnn] at h1 TBL ⊢
 have HNN := Lib.hid hnn
 have nmax : nn ≤ 9223372036854775807 := by have := h.len.2; unfold maxLen at this; omega
 obtain ⟨t0, t1, _, _⟩ := B2.facts TBL
 have lg1 : g1 < w.heap.size := by have : g1 < g := hg1; omega
 have ng1 : g ≠ g1 := by have : g1 < g := hg1; omega
 subst e1
 have HR := Lib.hid hR
 have TBH := Lib.hid TBL
 have pn : (p : Int) < (nn : Int) := h1
 obtain ⟨W, hW⟩ : ∃ W, W = (((w.alloc (.cells #[.int .i64 j.k, .int .i64 j.n, .string j.t, .slice A3 j.its.length c3, .slice A4 j.ks.length c4] 25)).alloc (.cells #[.int .i64 0, .int .i64 0, .int .u64 0, .slice none 0 0, .slice none 0 0, .slice none 0 0] 42)).alloc (.cells #[.int .i64 nd.k, .string nd.name, .slice X2 nd.al.length x2, .slice X3 nd.fs.length x3, .slice X4 nd.sy.length x4, .bool nd.has, .string nd.df, .int .i64 nd.size, .int .i64 nd.items, .slice X9 nd.br.length x9] 59)) := ⟨_, rfl⟩
 have ZS : Hid (W.heap.size = w.heap.size + 3) := by show _ = _; rw [hW]; simp
 have BW : Hid (Below w.heap.size w W) := by rw [hW]; exact (((Below.refl _ _).alloc (Nat.le_refl _) _).alloc (by simp) _).alloc (by simp; omega) _
 have W5 : Hid (B5 W w.heap.size 25 (.int .i64 j.k) (.int .i64 j.n) (.string j.t) (.slice A3 j.its.length c3) (.slice A4 j.ks.length c4)) := by rw [hW]; exact ((B5.newat rfl).alloc _).alloc _
 have W6 : Hid (B6 W (w.heap.size + 1) 42 (.int .i64 0) (.int .i64 0) (.int .u64 0) (.slice none 0 0) (.slice none 0 0) (.slice none 0 0)) := by rw [hW]; exact (B6.newat (by simp)).alloc _
 have W10 : Hid (B10 W (w.heap.size + 2) 59 (.int .i64 nd.k) (.string nd.name) (.slice X2 nd.al.length x2) (.slice X3 nd.fs.length x3) (.slice X4 nd.sy.length x4) (.bool nd.has) (.string nd.df) (.int .i64 nd.size) (.int .i64 nd.items) (.slice X9 nd.br.length x9)) := by rw [hW]; exact B10.newat (by simp)
 have TBW := Lib.hid (TBL.below BW.out lg)
 obtain ⟨_, _, _, _, _, _, _, _, _, _⟩ := B5.facts W5.out
 obtain ⟨_, _, _, _, _, _, _, _, _, _, _, _⟩ := B6.facts W6.out
 obtain ⟨_, _, _, _, _, _, _, _, _, _, _, _, _, _, _, _, _, _, _, _⟩ := B10.facts W10.out
 obtain ⟨_, _, _, _⟩ := B2.facts TBW.out
 have lW := TBW.out.lt
 have lW6 := W6.out.lt
 have ngw : g ≠ w.heap.size := by omega
 have ngw1 : g ≠ w.heap.size + 1 := by omega
 have ngw2 : g ≠ w.heap.size + 2 := by omega
 have q0 : ((left : Int) == 0) = false := by rw [beq_eq_false_iff_ne]; omega
 obtain ⟨l1, rfl⟩ : ∃ l1, left = l1 + 1 := ⟨left - 1, by omega⟩
 obtain ⟨ak, hak⟩ : ∃ x, x = askedK nd.k := ⟨_, rfl⟩
 have AK : Hid (∀ W, Calls Tryz.prog 126 #[.int .i64 nd.k] W (Sole (.int .i64 ak) W)) := by rw [hak]; exact fun W => asked13_any nd.k W
 have hm : ¬ (nd.k ≠ 13 ∧ j.k ≠ ak) := by rw [hak]; exact hcase.1
 have hm2 : nd.k ≠ 13 → j.k = askedK nd.k := fun e => Classical.byContradiction fun g => hm ⟨e, by rw [hak]; exact g⟩
 have HP : R = if deepK nd.k then o.bind fun B => dparted B nd j l1 else (dleaf nd j).map fun v => (v, l1) := by
  rw [HR.out]; unfold dstep
  rw [if_neg (fun g => by rcases g with g | g; omega; exact hm (by rw [hak]; exact g)), Nat.add_sub_cancel]
 have wz : Value.int .i64 (wrap64 (l1 : Int)) = Value.int .i64 (l1 : Int) := by rw [IntWalk.wrap64_in _ ⟨by omega, by omega⟩]
 have ZW1 : Hid (∀ {nq}, ((W.drewN nq).setCell ⟨g, 1, none⟩ (.int .i64 (l1 : Int))).heap.size = w.heap.size + 3) := fun {nq} => by have := ZS.out; simp [World.setCell]; exact this
 have SV1 : Hid (∀ nq, Sav g g w.heap.size w ((W.drewN nq).setCell ⟨g, 1, none⟩ (.int .i64 (l1 : Int)))) := fun nq => Sav.set (p := ⟨g, 1, none⟩) (Sav.drewN (Sav.of BW.out) nq) (.inl rfl) _
 have TB1 : Hid (∀ nq, B2 ((W.drewN nq).setCell ⟨g, 1, none⟩ (.int .i64 (l1 : Int))) g 119 (.slice (some ⟨g1, o1, none⟩) nn c) (.int .i64 (l1 : Int))) := fun nq => B2.set1 (B2.drewN TBW.out nq) _
 have W61 : Hid (∀ nq, B6 ((W.drewN nq).setCell ⟨g, 1, none⟩ (.int .i64 (l1 : Int))) (w.heap.size + 1) 42 (.int .i64 0) (.int .i64 0) (.int .u64 0) (.slice none 0 0) (.slice none 0 0) (.slice none 0 0)) := fun nq => B6.past (B6.drewN W6.out nq) ngw1 _
 have W51 : Hid (∀ nq, B5 ((W.drewN nq).setCell ⟨g, 1, none⟩ (.int .i64 (l1 : Int))) w.heap.size 25 (.int .i64 j.k) (.int .i64 j.n) (.string j.t) (.slice A3 j.its.length c3) (.slice A4 j.ks.length c4)) := fun nq => B5.past (B5.drewN W5.out nq) ngw _
 have TW1 : Hid (∀ nq, TW s (some ⟨g1, o1, none⟩) c ((W.drewN nq).setCell ⟨g, 1, none⟩ (.int .i64 (l1 : Int))) g l1) := fun nq => TW.go HH.out (SV1.out nq) (HNN.out ▸ TB1.out nq) (Nat.le_of_succ_le room)
 have TT1 : Hid (∀ nq, TreeS ((W.drewN nq).setCell ⟨g, 1, none⟩ (.int .i64 (l1 : Int))) S j [.int .i64 j.k, .int .i64 j.n, .string j.t, .slice A3 j.its.length c3, .slice A4 j.ks.length c4]) := fun nq => TreeS.keep ((SV1.out nq).keeps fun k hk => ⟨(hS k hk).1, (hS k hk).2, (hS k hk).2⟩) (fun _ h => h) ht
 have ND1 : Hid (∀ nq, Lies ((W.drewN nq).setCell ⟨g, 1, none⟩ (.int .i64 (l1 : Int))) (· < g) nd.enc [.int .i64 nd.k, .string nd.name, .slice X2 nd.al.length x2, .slice X3 nd.fs.length x3, .slice X4 nd.sy.length x4, .bool nd.has, .string nd.df, .int .i64 nd.size, .int .i64 nd.items, .slice X9 nd.br.length x9]) := fun nq => hnd.keep (fun p hp => (SV1.out nq).cell (by have : p.block < g := hp; omega) (by have : p.block < g := hp; omega) (by have : p.block < g := hp; omega)) (fun _ h => h)
 clear hR HR q0
 have q0 : (((l1 + 1 : Nat) : Int) == 0) = false := by rw [beq_eq_false_iff_ne]; omega
 have hd := hcase.2
 clear hcase
 obtain ⟨hd, ht2⟩ := hd
 rw [if_neg hd] at HP
 have HD := hd
 unfold deepK at hd
 have hk13 : nd.k ≠ 13 := by omega
 have hjk := hm2 hk13
 have hjf : j.frm := hj.1.resolve_right fun e => by
  subst e
  have : (0 : Int) = askedK nd.k := hjk
  unfold askedK at this
  repeat' split at this
  all_goals omega
 have hju := (J.frm_out hjf).2.2.2.2.1
 have hjr := (J.rng_out hj.2.1).1
 have hjw := J.wt_out j
 have hjw2 := hj.2.2
 obtain ⟨dl, hdl⟩ : ∃ d, d = dleaf nd j := ⟨_, rfl⟩
 rw [← hdl] at HP
 have HPL := Lib.hid HP
 have hsz : nd.k = 14 → 0 ≤ nd.size ∧ nd.size ≤ 1000 := fun e => by have := ok.2.2.2.2.2.1; rw [if_pos e] at this; exact this
 have FS : Hid (∀ nq, FlS ((W.drewN nq).setCell ⟨g, 1, none⟩ (.int .i64 (l1 : Int))) (· < ((W.drewN nq).setCell ⟨g, 1, none⟩ (.int .i64 (l1 : Int))).heap.size) X4 (nd.sy.map Value.string)) := fun nq => by
  obtain ⟨_, _, _, _, _, _, _, _, en, _, _, _, _, _, fr, _, _⟩ := Nd.out.1 (ND1.out nq)
  simp only [List.cons.injEq, Value.slice.injEq, true_and, and_true] at en
  obtain ⟨⟨rfl, rfl⟩, ⟨rfl, rfl⟩, ⟨rfl, rfl⟩, rfl, rfl⟩ := en
  exact FlS.keep (fun _ _ => rfl) (fun b hb => by rw [ZW1.out]; omega) fr
 have LM : nd.sy.length ≤ maxLen := by
  obtain ⟨_, _, _, _, _, _, _, _, _, _, _, _, _, hl, _, _, _⟩ := Nd.out.1 (ND1.out 0)
  exact hl.2
 have qj : (j.k != ak) = false := by rw [bne_eq_false_iff_eq, hak]; exact hjk
 have PC : Hid (∀ nq, Calls Tryz.prog 128 #[.agg #[.int .i64 nd.k, .string nd.name, .slice X2 nd.al.length x2, .slice X3 nd.fs.length x3, .slice X4 nd.sy.length x4, .bool nd.has, .string nd.df, .int .i64 nd.size, .int .i64 nd.items, .slice X9 nd.br.length x9], .string j.t] ((W.drewN nq).setCell ⟨g, 1, none⟩ (.int .i64 (l1 : Int))) (VPB dl ((W.drewN nq).setCell ⟨g, 1, none⟩ (.int .i64 (l1 : Int))))) := fun nq => by
  have := text13_any nd ht2 hsz j.t (by omega) hju ((W.drewN nq).setCell ⟨g, 1, none⟩ (.int .i64 (l1 : Int))) (TW1.out nq).laid X2 X3 X4 X9 nd.al.length x2 nd.fs.length x3 x4 nd.br.length x9 (FS.out nq) LM
  rw [hdl]; unfold dleaf; rw [if_pos ht2]
  exact this
 unfold textK at ht2
 clear HP ho hj h hS ht hs ok kin SJ smn HH hnd HNN hnn TBL hl0 hm HD TW1 TT1 ND1 room K1 K14 hm2 hd hjk hjf hju hjr hjw hjw2 hdl hsz FS LM
 rcases ht2 with hd | hd | hd | hd
 · have q9 : (nd.k == 9) = false := by rw [beq_eq_false_iff_ne]; omega
   have q11 : (nd.k == 11) = false := by rw [beq_eq_false_iff_ne]; omega
   have q12 : (nd.k == 12) = false := by rw [beq_eq_false_iff_ne]; omega
   have q13 : (nd.k == 13) = false := by rw [beq_eq_false_iff_ne]; omega
   have q7 : (nd.k == 7) = true := by rw [beq_iff_eq]; exact hd
   have n13 : (nd.k != 13) = true := by rw [bne_iff_ne]; omega
   clear hd hak hk13
   go_enter Tryz.func76, Tryz.ntmps76
   go_wp2_with fail
   rw [← hW]
   clear hW
   (first | go_quiet (fail) | go_quiet ((go_at_call 126; exact Calls.quiet_of_same (AK.out _))))
   go_wp2_with fail
   with_reducible refine (PC.out _).mono ?_
   rintro e w2 ⟨hp, b2⟩
   obtain ⟨vk, vn, vb, Z3, Z4, Z5, z3, q3, z4, q4, z5, q5, rfl, hv⟩ := hp
   have s2 := b2.size
   rw [ZW1.out] at s2
   have Y6 : Hid (B6 w2 (w.heap.size + 1) 42 (.int .i64 0) (.int .i64 0) (.int .u64 0) (.slice none 0 0) (.slice none 0 0) (.slice none 0 0)) := B6.below (W61.out nq) b2 (by rw [ZW1.out]; omega)
   have l6 := Y6.out.lt
   have SV2 : Hid (Sav g g w.heap.size w w2) := (SV1.out nq).trans (Sav.of (b2.mono (by rw [ZW1.out]; omega)))
   have HV := Lib.hid hv
   have HB2 := Lib.hid (B2.below (TB1.out nq) b2 (by rw [ZW1.out]; omega))
   obtain ⟨_, _, _, _, _, _, _, _, _, _, _, _⟩ := B6.facts Y6.out
   clear hv b2
   go_wp2_with fail
   try simp only [Exit.inBlock, Exit.then]
   refine post_V2 (x0 := .int .i64 vk) (x1 := .int .i64 vn) (x2 := .int .u64 vb) (x3 := .slice Z3 z3 q3) (x4 := .slice Z4 z4 q4) (x5 := .slice Z5 z5 q5) rfl rfl rfl (by go_simp) (by go_simp) (by go_simp) (by go_simp) (by go_simp) (by go_simp) ?_
   exact tp_pass (W1 := ((W.drewN nq).setCell ⟨g, 1, none⟩ (.int .i64 (l1 : Int)))) (by rw [HPL.out]; first | rfl | (simp; done) | (cases dl <;> rfl)) SV2.out (by rw [ZW1.out]; omega) LG.out (by omega) (by rw [ZW1.out]; omega) HB2.out (fun v l e => by rw [HPL.out] at e; cases dl with | none => cases e | some x => simp only [Option.map_some, Option.some.injEq, Prod.mk.injEq] at e; rw [e.2]) (fun v e => HV.out v (by rw [HPL.out] at e; cases dl with | none => cases e | some x => exact e))
 · have q9 : (nd.k == 9) = false := by rw [beq_eq_false_iff_ne]; omega
   have q11 : (nd.k == 11) = false := by rw [beq_eq_false_iff_ne]; omega
   have q12 : (nd.k == 12) = false := by rw [beq_eq_false_iff_ne]; omega
   have q13 : (nd.k == 13) = false := by rw [beq_eq_false_iff_ne]; omega
   have q7 : (nd.k == 7) = false := by rw [beq_eq_false_iff_ne]; omega
   have q8 : (nd.k == 8) = true := by rw [beq_iff_eq]; exact hd
   have n13 : (nd.k != 13) = true := by rw [bne_iff_ne]; omega
   clear hd hak hk13
   go_enter Tryz.func76, Tryz.ntmps76
   go_wp2_with fail
   rw [← hW]
   clear hW
   (first | go_quiet (fail) | go_quiet ((go_at_call 126; exact Calls.quiet_of_same (AK.out _))))
   go_wp2_with fail
   with_reducible refine (PC.out _).mono ?_
   rintro e w2 ⟨hp, b2⟩
   obtain ⟨vk, vn, vb, Z3, Z4, Z5, z3, q3, z4, q4, z5, q5, rfl, hv⟩ := hp
   have s2 := b2.size
   rw [ZW1.out] at s2
   have Y6 : Hid (B6 w2 (w.heap.size + 1) 42 (.int .i64 0) (.int .i64 0) (.int .u64 0) (.slice none 0 0) (.slice none 0 0) (.slice none 0 0)) := B6.below (W61.out nq) b2 (by rw [ZW1.out]; omega)
   have l6 := Y6.out.lt
   have SV2 : Hid (Sav g g w.heap.size w w2) := (SV1.out nq).trans (Sav.of (b2.mono (by rw [ZW1.out]; omega)))
   have HV := Lib.hid hv
   have HB2 := Lib.hid (B2.below (TB1.out nq) b2 (by rw [ZW1.out]; omega))
   obtain ⟨_, _, _, _, _, _, _, _, _, _, _, _⟩ := B6.facts Y6.out
   clear hv b2
   go_wp2_with fail
   try simp only [Exit.inBlock, Exit.then]
   refine post_V2 (x0 := .int .i64 vk) (x1 := .int .i64 vn) (x2 := .int .u64 vb) (x3 := .slice Z3 z3 q3) (x4 := .slice Z4 z4 q4) (x5 := .slice Z5 z5 q5) rfl rfl rfl (by go_simp) (by go_simp) (by go_simp) (by go_simp) (by go_simp) (by go_simp) ?_
   exact tp_pass (W1 := ((W.drewN nq).setCell ⟨g, 1, none⟩ (.int .i64 (l1 : Int)))) (by rw [HPL.out]; first | rfl | (simp; done) | (cases dl <;> rfl)) SV2.out (by rw [ZW1.out]; omega) LG.out (by omega) (by rw [ZW1.out]; omega) HB2.out (fun v l e => by rw [HPL.out] at e; cases dl with | none => cases e | some x => simp only [Option.map_some, Option.some.injEq, Prod.mk.injEq] at e; rw [e.2]) (fun v e => HV.out v (by rw [HPL.out] at e; cases dl with | none => cases e | some x => exact e))
 · have q9 : (nd.k == 9) = false := by rw [beq_eq_false_iff_ne]; omega
   have q11 : (nd.k == 11) = false := by rw [beq_eq_false_iff_ne]; omega
   have q12 : (nd.k == 12) = false := by rw [beq_eq_false_iff_ne]; omega
   have q13 : (nd.k == 13) = false := by rw [beq_eq_false_iff_ne]; omega
   have q7 : (nd.k == 7) = false := by rw [beq_eq_false_iff_ne]; omega
   have q8 : (nd.k == 8) = false := by rw [beq_eq_false_iff_ne]; omega
   have q10 : (nd.k == 10) = true := by rw [beq_iff_eq]; exact hd
   have n13 : (nd.k != 13) = true := by rw [bne_iff_ne]; omega
   clear hd hak hk13
   go_enter Tryz.func76, Tryz.ntmps76
   go_wp2_with fail
   rw [← hW]
   clear hW
   (first | go_quiet (fail) | go_quiet ((go_at_call 126; exact Calls.quiet_of_same (AK.out _))))
   go_wp2_with fail
   with_reducible refine (PC.out _).mono ?_
   rintro e w2 ⟨hp, b2⟩
   obtain ⟨vk, vn, vb, Z3, Z4, Z5, z3, q3, z4, q4, z5, q5, rfl, hv⟩ := hp
   have s2 := b2.size
   rw [ZW1.out] at s2
   have Y6 : Hid (B6 w2 (w.heap.size + 1) 42 (.int .i64 0) (.int .i64 0) (.int .u64 0) (.slice none 0 0) (.slice none 0 0) (.slice none 0 0)) := B6.below (W61.out nq) b2 (by rw [ZW1.out]; omega)
   have l6 := Y6.out.lt
   have SV2 : Hid (Sav g g w.heap.size w w2) := (SV1.out nq).trans (Sav.of (b2.mono (by rw [ZW1.out]; omega)))
   have HV := Lib.hid hv
   have HB2 := Lib.hid (B2.below (TB1.out nq) b2 (by rw [ZW1.out]; omega))
   obtain ⟨_, _, _, _, _, _, _, _, _, _, _, _⟩ := B6.facts Y6.out
   clear hv b2
   go_wp2_with fail
   try simp only [Exit.inBlock, Exit.then]
   refine post_V2 (x0 := .int .i64 vk) (x1 := .int .i64 vn) (x2 := .int .u64 vb) (x3 := .slice Z3 z3 q3) (x4 := .slice Z4 z4 q4) (x5 := .slice Z5 z5 q5) rfl rfl rfl (by go_simp) (by go_simp) (by go_simp) (by go_simp) (by go_simp) (by go_simp) ?_
   exact tp_pass (W1 := ((W.drewN nq).setCell ⟨g, 1, none⟩ (.int .i64 (l1 : Int)))) (by rw [HPL.out]; first | rfl | (simp; done) | (cases dl <;> rfl)) SV2.out (by rw [ZW1.out]; omega) LG.out (by omega) (by rw [ZW1.out]; omega) HB2.out (fun v l e => by rw [HPL.out] at e; cases dl with | none => cases e | some x => simp only [Option.map_some, Option.some.injEq, Prod.mk.injEq] at e; rw [e.2]) (fun v e => HV.out v (by rw [HPL.out] at e; cases dl with | none => cases e | some x => exact e))
 · have q9 : (nd.k == 9) = false := by rw [beq_eq_false_iff_ne]; omega
   have q11 : (nd.k == 11) = false := by rw [beq_eq_false_iff_ne]; omega
   have q12 : (nd.k == 12) = false := by rw [beq_eq_false_iff_ne]; omega
   have q13 : (nd.k == 13) = false := by rw [beq_eq_false_iff_ne]; omega
   have q7 : (nd.k == 7) = false := by rw [beq_eq_false_iff_ne]; omega
   have q8 : (nd.k == 8) = false := by rw [beq_eq_false_iff_ne]; omega
   have q10 : (nd.k == 10) = false := by rw [beq_eq_false_iff_ne]; omega
   have q14 : (nd.k == 14) = true := by rw [beq_iff_eq]; exact hd
   have n13 : (nd.k != 13) = true := by rw [bne_iff_ne]; omega
   clear hd hak hk13
   go_enter Tryz.func76, Tryz.ntmps76
   go_wp2_with fail
   rw [← hW]
   clear hW
   (first | go_quiet (fail) | go_quiet ((go_at_call 126; exact Calls.quiet_of_same (AK.out _))))
   go_wp2_with fail
   with_reducible refine (PC.out _).mono ?_
   rintro e w2 ⟨hp, b2⟩
   obtain ⟨vk, vn, vb, Z3, Z4, Z5, z3, q3, z4, q4, z5, q5, rfl, hv⟩ := hp
   have s2 := b2.size
   rw [ZW1.out] at s2
   have Y6 : Hid (B6 w2 (w.heap.size + 1) 42 (.int .i64 0) (.int .i64 0) (.int .u64 0) (.slice none 0 0) (.slice none 0 0) (.slice none 0 0)) := B6.below (W61.out nq) b2 (by rw [ZW1.out]; omega)
   have l6 := Y6.out.lt
   have SV2 : Hid (Sav g g w.heap.size w w2) := (SV1.out nq).trans (Sav.of (b2.mono (by rw [ZW1.out]; omega)))
   have HV := Lib.hid hv
   have HB2 := Lib.hid (B2.below (TB1.out nq) b2 (by rw [ZW1.out]; omega))
   obtain ⟨_, _, _, _, _, _, _, _, _, _, _, _⟩ := B6.facts Y6.out
   clear hv b2
   go_wp2_with fail
   try simp only [Exit.inBlock, Exit.then]
   refine post_V2 (x0 := .int .i64 vk) (x1 := .int .i64 vn) (x2 := .int .u64 vb) (x3 := .slice Z3 z3 q3) (x4 := .slice Z4 z4 q4) (x5 := .slice Z5 z5 q5) rfl rfl rfl (by go_simp) (by go_simp) (by go_simp) (by go_simp) (by go_simp) (by go_simp) ?_
   exact tp_pass (W1 := ((W.drewN nq).setCell ⟨g, 1, none⟩ (.int .i64 (l1 : Int)))) (by rw [HPL.out]; first | rfl | (simp; done) | (cases dl <;> rfl)) SV2.out (by rw [ZW1.out]; omega) LG.out (by omega) (by rw [ZW1.out]; omega) HB2.out (fun v l e => by rw [HPL.out] at e; cases dl with | none => cases e | some x => simp only [Option.map_some, Option.some.injEq, Prod.mk.injEq] at e; rw [e.2]) (fun v e => HV.out v (by rw [HPL.out] at e; cases dl with | none => cases e | some x => exact e))
theorem value13_num {s : Sc} (hs : ScG s) {A : Option Addr} {c : Nat} {o : Option DB} {ar : Int} (_hn : o = none → ar = 20) (ho : ∀ B, o = some B → (ar ≠ 20 ∧ 0 ≤ ar ∧ ar ≤ 20) ∧ CallV s A c B (ar + 1) ∧ ∀ a j left v l, 0 ≤ a → a < (s.nodes.length : Int) → JG j → B a j left = some (v, l) → l ≤ left) (a : Int) (j : J) (left g : Nat) (w : World) (S : Nat → Prop) (A3 A4 : Option Addr) (c3 c4 : Nat) (h0 : 0 ≤ a) (h1 : a < (s.nodes.length : Int)) (hj : JG j) (h : TW s A c w g left) (hS : ∀ b, S b → b < w.heap.size ∧ b ≠ g) (ht : TreeS w S j [.int .i64 j.k, .int .i64 j.n, .string j.t, .slice A3 j.its.length c3, .slice A4 j.ks.length c4]) (hl0 : left ≠ 0) (hcase : ¬ ((s.node a).k ≠ 13 ∧ j.k ≠ askedK (s.node a).k) ∧ ¬ deepK (s.node a).k ∧ ¬ textK (s.node a).k) :
 Calls Tryz.prog 76 #[.pointer (some ⟨g, 0, none⟩), .int .i64 a, .agg #[.int .i64 j.k, .int .i64 j.n, .string j.t, .slice A3 j.its.length c3, .slice A4 j.ks.length c4], .int .i64 ar] w (TP (dstep o (s.node a) j left) (.slice A s.nodes.length c) g w) := by
 have CS := cell_set
 have lg := h.blk.lt
 have LG : Hid (g < w.heap.size) := lg
 have hp : a.toNat < s.nodes.length := by omega
 obtain ⟨p, rfl⟩ : ∃ p : Nat, a = (p : Int) := ⟨a.toNat, by omega⟩
 rw [Int.toNat_natCast] at hp
 obtain ⟨R, hR⟩ : ∃ R, R = dstep o (s.node (p : Int)) j left := ⟨_, rfl⟩
 show Calls _ _ _ _ (TP (dstep o (s.node (p : Int)) j left) _ _ _)
 rw [← hR]
 rw [Sc.node_at hp] at hR
 obtain ⟨g1, o1, X2, x2, X3, x3, X4, x4, X9, x9, e1, hg1, ⟨u0, u1, u2, u3, u4, u5, u6, u7, u8, u9⟩, hnd⟩ := nodes_at h.nodes hp
 have ok := hs.right.2.1 _ (List.getElem_mem hp)
 have kin := fun k => kid_in hs.right.1 hp (k := k)
 have SJ := fun f (h9 : (s.nodes[p]'hp).k = 9) hf => said_JG hs hj hp h9 (f := f) hf
 have smn := hs.sm.2 p hp
 have HH := Lib.hid h
 have room := h.room
 have hnode : s.node (p : Int) = s.nodes[p]'hp := Sc.node_at hp
 rw [hnode] at hcase
 clear hnode
 generalize s.nodes[p]'hp = nd at *
 have K14 := ok.2.1
 have K1 := ok.1
 have TBL := h.blk
 obtain ⟨nn, hnn⟩ : ∃ m, m = s.nodes.length := ⟨_, rfl⟩
 rw [← hnn] at h1 TBL ⊢
 have HNN := Lib.hid hnn
 have nmax : nn ≤ 9223372036854775807 := by have := h.len.2; unfold maxLen at this; omega
 obtain ⟨t0, t1, _, _⟩ := B2.facts TBL
 have lg1 : g1 < w.heap.size := by have : g1 < g := hg1; omega
 have ng1 : g ≠ g1 := by have : g1 < g := hg1; omega
 subst e1
 have HR := Lib.hid hR
 have TBH := Lib.hid TBL
 have pn : (p : Int) < (nn : Int) := h1
 obtain ⟨W, hW⟩ : ∃ W, W = (((w.alloc (.cells #[.int .i64 j.k, .int .i64 j.n, .string j.t, .slice A3 j.its.length c3, .slice A4 j.ks.length c4] 25)).alloc (.cells #[.int .i64 0, .int .i64 0, .int .u64 0, .slice none 0 0, .slice none 0 0, .slice none 0 0] 42)).alloc (.cells #[.int .i64 nd.k, .string nd.name, .slice X2 nd.al.length x2, .slice X3 nd.fs.length x3, .slice X4 nd.sy.length x4, .bool nd.has, .string nd.df, .int .i64 nd.size, .int .i64 nd.items, .slice X9 nd.br.length x9] 59)) := ⟨_, rfl⟩
 have ZS : Hid (W.heap.size = w.heap.size + 3) := by show _ = _; rw [hW]; simp
 have BW : Hid (Below w.heap.size w W) := by rw [hW]; exact (((Below.refl _ _).alloc (Nat.le_refl _) _).alloc (by simp) _).alloc (by simp; omega) _
 have W5 : Hid (B5 W w.heap.size 25 (.int .i64 j.k) (.int .i64 j.n) (.string j.t) (.slice A3 j.its.length c3) (.slice A4 j.ks.length c4)) := by rw [hW]; exact ((B5.newat rfl).alloc _).alloc _
 have W6 : Hid (B6 W (w.heap.size + 1) 42 (.int .i64 0) (.int .i64 0) (.int .u64 0) (.slice none 0 0) (.slice none 0 0) (.slice none 0 0)) := by rw [hW]; exact (B6.newat (by simp)).alloc _
 have W10 : Hid (B10 W (w.heap.size + 2) 59 (.int .i64 nd.k) (.string nd.name) (.slice X2 nd.al.length x2) (.slice X3 nd.fs.length x3) (.slice X4 nd.sy.length x4) (.bool nd.has) (.string nd.df) (.int .i64 nd.size) (.int .i64 nd.items) (.slice X9 nd.br.length x9)) := by rw [hW]; exact B10.newat (by simp)
 have TBW := Lib.hid (TBL.below BW.out lg)
 obtain ⟨_, _, _, _, _, _, _, _, _, _⟩ := B5.facts W5.out
 obtain ⟨_, _, _, _, _, _, _, _, _, _, _, _⟩ := B6.facts W6.out
 obtain ⟨_, _, _, _, _, _, _, _, _, _, _, _, _, _, _, _, _, _, _, _⟩ := B10.facts W10.out
 obtain ⟨_, _, _, _⟩ := B2.facts TBW.out
 have lW := TBW.out.lt
 have lW6 := W6.out.lt
 have ngw : g ≠ w.heap.size := by omega
 have ngw1 : g ≠ w.heap.size + 1 := by omega
 have ngw2 : g ≠ w.heap.size + 2 := by omega
 have q0 : ((left : Int) == 0) = false := by rw [beq_eq_false_iff_ne]; omega
 obtain ⟨l1, rfl⟩ : ∃ l1, left = l1 + 1 := ⟨left - 1, by omega⟩
 obtain ⟨ak, hak⟩ : ∃ x, x = askedK nd.k := ⟨_, rfl⟩
 have AK : Hid (∀ W, Calls Tryz.prog 126 #[.int .i64 nd.k] W (Sole (.int .i64 ak) W)) := by rw [hak]; exact fun W => asked13_any nd.k W
 have hm : ¬ (nd.k ≠ 13 ∧ j.k ≠ ak) := by rw [hak]; exact hcase.1
 have hm2 : nd.k ≠ 13 → j.k = askedK nd.k := fun e => Classical.byContradiction fun g => hm ⟨e, by rw [hak]; exact g⟩
 have HP : R = if deepK nd.k then o.bind fun B => dparted B nd j l1 else (dleaf nd j).map fun v => (v, l1) := by
  rw [HR.out]; unfold dstep
  rw [if_neg (fun g => by rcases g with g | g; omega; exact hm (by rw [hak]; exact g)), Nat.add_sub_cancel]
 have wz : Value.int .i64 (wrap64 (l1 : Int)) = Value.int .i64 (l1 : Int) := by rw [IntWalk.wrap64_in _ ⟨by omega, by omega⟩]
 have ZW1 : Hid (∀ {nq}, ((W.drewN nq).setCell ⟨g, 1, none⟩ (.int .i64 (l1 : Int))).heap.size = w.heap.size + 3) := fun {nq} => by have := ZS.out; simp [World.setCell]; exact this
 have SV1 : Hid (∀ nq, Sav g g w.heap.size w ((W.drewN nq).setCell ⟨g, 1, none⟩ (.int .i64 (l1 : Int)))) := fun nq => Sav.set (p := ⟨g, 1, none⟩) (Sav.drewN (Sav.of BW.out) nq) (.inl rfl) _
 have TB1 : Hid (∀ nq, B2 ((W.drewN nq).setCell ⟨g, 1, none⟩ (.int .i64 (l1 : Int))) g 119 (.slice (some ⟨g1, o1, none⟩) nn c) (.int .i64 (l1 : Int))) := fun nq => B2.set1 (B2.drewN TBW.out nq) _
 have W61 : Hid (∀ nq, B6 ((W.drewN nq).setCell ⟨g, 1, none⟩ (.int .i64 (l1 : Int))) (w.heap.size + 1) 42 (.int .i64 0) (.int .i64 0) (.int .u64 0) (.slice none 0 0) (.slice none 0 0) (.slice none 0 0)) := fun nq => B6.past (B6.drewN W6.out nq) ngw1 _
 have W51 : Hid (∀ nq, B5 ((W.drewN nq).setCell ⟨g, 1, none⟩ (.int .i64 (l1 : Int))) w.heap.size 25 (.int .i64 j.k) (.int .i64 j.n) (.string j.t) (.slice A3 j.its.length c3) (.slice A4 j.ks.length c4)) := fun nq => B5.past (B5.drewN W5.out nq) ngw _
 have TW1 : Hid (∀ nq, TW s (some ⟨g1, o1, none⟩) c ((W.drewN nq).setCell ⟨g, 1, none⟩ (.int .i64 (l1 : Int))) g l1) := fun nq => TW.go HH.out (SV1.out nq) (HNN.out ▸ TB1.out nq) (Nat.le_of_succ_le room)
 have TT1 : Hid (∀ nq, TreeS ((W.drewN nq).setCell ⟨g, 1, none⟩ (.int .i64 (l1 : Int))) S j [.int .i64 j.k, .int .i64 j.n, .string j.t, .slice A3 j.its.length c3, .slice A4 j.ks.length c4]) := fun nq => TreeS.keep ((SV1.out nq).keeps fun k hk => ⟨(hS k hk).1, (hS k hk).2, (hS k hk).2⟩) (fun _ h => h) ht
 have ND1 : Hid (∀ nq, Lies ((W.drewN nq).setCell ⟨g, 1, none⟩ (.int .i64 (l1 : Int))) (· < g) nd.enc [.int .i64 nd.k, .string nd.name, .slice X2 nd.al.length x2, .slice X3 nd.fs.length x3, .slice X4 nd.sy.length x4, .bool nd.has, .string nd.df, .int .i64 nd.size, .int .i64 nd.items, .slice X9 nd.br.length x9]) := fun nq => hnd.keep (fun p hp => (SV1.out nq).cell (by have : p.block < g := hp; omega) (by have : p.block < g := hp; omega) (by have : p.block < g := hp; omega)) (fun _ h => h)
 clear hR HR q0
 have q0 : (((l1 + 1 : Nat) : Int) == 0) = false := by rw [beq_eq_false_iff_ne]; omega
 have hd := hcase.2
 clear hcase
 obtain ⟨hd, ht2⟩ := hd
 rw [if_neg hd] at HP
 have HD := hd
 unfold deepK at hd
 have hk13 : nd.k ≠ 13 := by omega
 have hjk := hm2 hk13
 have hjf : j.frm := hj.1.resolve_right fun e => by
  subst e
  have : (0 : Int) = askedK nd.k := hjk
  unfold askedK at this
  repeat' split at this
  all_goals omega
 have hju := (J.frm_out hjf).2.2.2.2.1
 have hjr := (J.rng_out hj.2.1).1
 have hjw := J.wt_out j
 have hjw2 := hj.2.2
 obtain ⟨dl, hdl⟩ : ∃ d, d = dleaf nd j := ⟨_, rfl⟩
 rw [← hdl] at HP
 have HPL := Lib.hid HP
 have hsz : nd.k = 14 → 0 ≤ nd.size ∧ nd.size ≤ 1000 := fun e => by have := ok.2.2.2.2.2.1; rw [if_pos e] at this; exact this
 have FS : Hid (∀ nq, FlS ((W.drewN nq).setCell ⟨g, 1, none⟩ (.int .i64 (l1 : Int))) (· < ((W.drewN nq).setCell ⟨g, 1, none⟩ (.int .i64 (l1 : Int))).heap.size) X4 (nd.sy.map Value.string)) := fun nq => by
  obtain ⟨_, _, _, _, _, _, _, _, en, _, _, _, _, _, fr, _, _⟩ := Nd.out.1 (ND1.out nq)
  simp only [List.cons.injEq, Value.slice.injEq, true_and, and_true] at en
  obtain ⟨⟨rfl, rfl⟩, ⟨rfl, rfl⟩, ⟨rfl, rfl⟩, rfl, rfl⟩ := en
  exact FlS.keep (fun _ _ => rfl) (fun b hb => by rw [ZW1.out]; omega) fr
 have LM : nd.sy.length ≤ maxLen := by
  obtain ⟨_, _, _, _, _, _, _, _, _, _, _, _, _, hl, _, _, _⟩ := Nd.out.1 (ND1.out 0)
  exact hl.2
 have qj : (j.k != ak) = false := by rw [bne_eq_false_iff_eq, hak]; exact hjk
 have PC : Hid (∀ nq, Calls Tryz.prog 129 #[.int .i64 nd.k, .int .i64 j.n] ((W.drewN nq).setCell ⟨g, 1, none⟩ (.int .i64 (l1 : Int))) (VPB dl ((W.drewN nq).setCell ⟨g, 1, none⟩ (.int .i64 (l1 : Int))))) := fun nq => by
  have := number13_any nd.k j.n hjr ((W.drewN nq).setCell ⟨g, 1, none⟩ (.int .i64 (l1 : Int)))
  rw [hdl]; unfold dleaf; rw [if_neg ht2]
  exact this
 unfold textK at ht2
 have q9 : (nd.k == 9) = false := by rw [beq_eq_false_iff_ne]; omega
 have q11 : (nd.k == 11) = false := by rw [beq_eq_false_iff_ne]; omega
 have q12 : (nd.k == 12) = false := by rw [beq_eq_false_iff_ne]; omega
 have q13 : (nd.k == 13) = false := by rw [beq_eq_false_iff_ne]; omega
 have q7 : (nd.k == 7) = false := by rw [beq_eq_false_iff_ne]; omega
 have q8 : (nd.k == 8) = false := by rw [beq_eq_false_iff_ne]; omega
 have q10 : (nd.k == 10) = false := by rw [beq_eq_false_iff_ne]; omega
 have q14 : (nd.k == 14) = false := by rw [beq_eq_false_iff_ne]; omega
 have q13n : (nd.k != 13) = true := by rw [bne_iff_ne]; exact hk13
 clear HP ho hj h hS ht hs ok kin SJ smn HH hnd HNN hnn TBL hl0 hm HD TW1 TT1 ND1 room K1 K14 hm2 hd hjk hjf hju hjr hjw hjw2 hdl hsz FS LM ht2 hk13 hak
 go_enter Tryz.func76, Tryz.ntmps76
 go_wp2_with fail
 rw [← hW]
 clear hW
 (first | go_quiet (fail) | go_quiet ((go_at_call 126; exact Calls.quiet_of_same (AK.out _))))
 go_wp2_with fail
 with_reducible refine (PC.out _).mono ?_
 rintro e w2 ⟨hp, b2⟩
 obtain ⟨vk, vn, vb, Z3, Z4, Z5, z3, q3, z4, q4, z5, q5, rfl, hv⟩ := hp
 have s2 := b2.size
 rw [ZW1.out] at s2
 have Y6 : Hid (B6 w2 (w.heap.size + 1) 42 (.int .i64 0) (.int .i64 0) (.int .u64 0) (.slice none 0 0) (.slice none 0 0) (.slice none 0 0)) := B6.below (W61.out nq) b2 (by rw [ZW1.out]; omega)
 have l6 := Y6.out.lt
 have SV2 : Hid (Sav g g w.heap.size w w2) := (SV1.out nq).trans (Sav.of (b2.mono (by rw [ZW1.out]; omega)))
 have HV := Lib.hid hv
 have HB2 := Lib.hid (B2.below (TB1.out nq) b2 (by rw [ZW1.out]; omega))
 obtain ⟨_, _, _, _, _, _, _, _, _, _, _, _⟩ := B6.facts Y6.out
 clear hv b2
 go_wp2_with fail
 try simp only [Exit.inBlock, Exit.then]
 refine post_V2 (x0 := .int .i64 vk) (x1 := .int .i64 vn) (x2 := .int .u64 vb) (x3 := .slice Z3 z3 q3) (x4 := .slice Z4 z4 q4) (x5 := .slice Z5 z5 q5) rfl rfl rfl (by go_simp) (by go_simp) (by go_simp) (by go_simp) (by go_simp) (by go_simp) ?_
 exact tp_pass (W1 := ((W.drewN nq).setCell ⟨g, 1, none⟩ (.int .i64 (l1 : Int)))) (by rw [HPL.out]; first | rfl | (simp; done) | (cases dl <;> rfl)) SV2.out (by rw [ZW1.out]; omega) LG.out (by omega) (by rw [ZW1.out]; omega) HB2.out (fun v l e => by rw [HPL.out] at e; cases dl with | none => cases e | some x => simp only [Option.map_some, Option.some.injEq, Prod.mk.injEq] at e; rw [e.2]) (fun v e => HV.out v (by rw [HPL.out] at e; cases dl with | none => cases e | some x => exact e))
theorem value13_step {s : Sc} (hs : ScG s) {A : Option Addr} {c : Nat} {o : Option DB} {ar : Int} (hn : o = none → ar = 20) (ho : ∀ B, o = some B → (ar ≠ 20 ∧ 0 ≤ ar ∧ ar ≤ 20) ∧ CallV s A c B (ar + 1) ∧ ∀ a j left v l, 0 ≤ a → a < (s.nodes.length : Int) → JG j → B a j left = some (v, l) → l ≤ left) : CallV s A c (fun a j left => dstep o (s.node a) j left) ar := by
 intro a j left g w S A3 A4 c3 c4 h0 h1 hj h hS ht
 by_cases hl0 : left = 0
 · exact value13_zero hs hn ho a j left g w S A3 A4 c3 c4 h0 h1 hj h hS ht hl0 rfl
 by_cases hm : (s.node a).k ≠ 13 ∧ j.k ≠ askedK (s.node a).k
 · exact value13_mis hs hn ho a j left g w S A3 A4 c3 c4 h0 h1 hj h hS ht hl0 hm
 by_cases hd : deepK (s.node a).k
 · cases o with
   | none => exact value13_none hs hn ho a j left g w S A3 A4 c3 c4 h0 h1 hj h hS ht hl0 ⟨hm, hd⟩ rfl
   | some B => exact value13_some hs hn ho a j left g w S A3 A4 c3 c4 h0 h1 hj h hS ht hl0 ⟨hm, hd⟩ B rfl
 · by_cases ht2 : textK (s.node a).k
   · exact value13_text hs hn ho a j left g w S A3 A4 c3 c4 h0 h1 hj h hS ht hl0 ⟨hm, hd, ht2⟩
   · exact value13_num hs hn ho a j left g w S A3 A4 c3 c4 h0 h1 hj h hS ht hl0 ⟨hm, hd, ht2⟩
end Go.Proofs.YthfoomobicbcpaaGreatDoor
