/- Joined by tools/bundle.py: BC2 BC3 BdT JWt SBulk BdW BC4. -/
import Derived.Deep.LoopGhost
import Derived.Deep.RegionHeldLaw
import Derived.OwnWalk
import Derived.Test.YthogheglddfniaaGreatDoorW3
import Derived.Test.YthogheglddfniaaGreatDoorW4
import Derived.Test.YthogheglddfniaaGreatDoorW5
import Derived.Test.YthogheglddfniaaGreatDoorW6
import Derived.Test.YthogheglddfniaaGreatDoorW9
import Derived.Test.YthogheglddfniaaGreatDoorW0
set_option maxRecDepth 100000
set_option maxHeartbeats 16000000
namespace Go.Proofs.YthogheglddfniaaGreatDoor
open Go.ChangeShapes Go.WideShapes Go.ChangeAt Go.RowKit Mem
theorem BPost.mono_ {X : Nat → Prop} {R : Bres} {g r : Nat} {ns : List Nd} {w w1 : World} {e : Ending} {w' : World} (h : BPost X R g r ns w1 e w') (b : Below w.heap.size w w1) (_hr : r < w.heap.size) : BPost X R g r ns w e w' := by
 obtain ⟨pl, z, he, s, h1, h2⟩ := h
 exact ⟨pl, z, he, (Sav.of b).trans (s.mono b.size), h1, fun ext p hp => by
  obtain ⟨a1, a2, r', m, hr', hl⟩ := h2 ext p hp
  exact ⟨a1, a2, r', m, hr'.imp id fun k => Nat.le_trans b.size k, hl⟩⟩
theorem text_any {X : Nat → Prop} (t sp : ByteArray) (ht : t.size ≤ 1000000000) (hsp : sp.size ≤ 1000000000) (g r : Nat) (ns : List Nd) (w : World) (h : MkW X w g r ns) (R : Bres) (hR : R = bword (ns.map er) t sp) :
 Calls Tryz.prog 44 #[.pointer (some ⟨g, 0, none⟩), .string t, .string sp] w (BPost X R g r ns w) := by
 have CS := cell_set
 obtain ⟨A, c, hB, _, _, _, hLi⟩ := h.mkr.out
 have lg := h.mkr.lt
 have KA := Lib.hid (fun W (b : Below w.heap.size w W) => nKind_any t ht W (LaidN.below h.laid b))
 have JA := Lib.hid (fun W (b : Below w.heap.size w W) => nJoin_any sp t hsp ht W (LaidN.below h.laid b))
 have FA := Lib.hid (fun u W (b : Below w.heap.size w W) => sFindX_any ⟨ns, 0⟩ u W A c ((hLi.below b).more b.size))
 have AD : Hid (∀ (K : Int) W, Below w.heap.size w W → Calls Tryz.prog 87 #[.pointer (some ⟨g, 0, none⟩), .agg #[.int .i64 K, .string ⟨#[]⟩, .slice none 0 0, .slice none 0 0, .slice none 0 0, .bool false, .string ⟨#[]⟩, .int .i64 0, .int .i64 0, .slice none 0 0]] W (BPost X (if ns.length = 200 then .error 3 else .ok ([Nd.z K], ns.length)) g r ns W)) := fun K W b => add_any (Nd.z K) g r ns W (h.below b) none none none none 0 0 0 0 z_lies _ rfl
 have SV : Hid (∀ W, Below w.heap.size w W → Sav g r w.heap.size w W) := fun W b => Sav.of b
 have HM : Hid (∀ W, Below w.heap.size w W → ∃ r', Mkr X W 52 41 g r' (ns ++ []) ∧ (r' = r ∨ w.heap.size ≤ r') ∧ (ns ++ ([] : List Nd)).length ≤ 200) := fun W b => ⟨r, by rw [List.append_nil]; exact h.mkr.below b, .inl rfl, by rw [List.append_nil]; exact h.len⟩
 have BM := Lib.hid (fun (R : Bres) W e w' (b : Below w.heap.size w W) (k : BPost X R g r ns W e w') => k.mono_ b lg.2.1)
 obtain ⟨kd, hkd⟩ : ∃ k, k = Nm.kind t.data.toList := ⟨_, rfl⟩
 obtain ⟨jo, hjo⟩ : ∃ o, o = Nm.join sp.data.toList t.data.toList := ⟨_, rfl⟩
 have HR : Hid (R = if 1 ≤ kd ∧ kd ≤ 8 then (if ns.length = 200 then .error 3 else .ok ([Nd.z kd], ns.length)) else match jo.map (fun l => (⟨l.toArray⟩ : ByteArray)) with | none => .error 31 | some t => match findK (ns.map er) t with | none => .error 33 | some p => .ok ([], p)) := by
  show _ = _
  rw [hR, hkd, hjo]
  unfold bword
  rw [List.length_map]
  rfl
 rw [← hkd] at KA
 rw [← hjo] at JA
 obtain ⟨z0, z1, z2, z3⟩ := B2.facts hB
 clear hkd hjo hR h hLi
 by_cases hk : 1 ≤ kd ∧ kd ≤ 8
 · have q1 : (1 : Int) ≤ (kd : Int) := by omega
   have q2 : (kd : Int) ≤ 8 := by omega
   have Z : Hid (R = if ns.length = 200 then .error 3 else .ok ([Nd.z kd], ns.length)) := by show _ = _; rw [HR.out, if_pos hk]
   clear hk HR JA FA HM
   go_enter Tryz.func44, Tryz.ntmps44
   go_wp2_with fail
   with_reducible refine (KA.out _ (Below.refl _ _)).mono ?_
   rintro e w1 ⟨rfl, b1⟩
   go_wp2_with fail
   with_reducible refine (AD.out _ _ b1).mono ?_
   rintro e w2 hp
   rw [← Z.out] at hp
   have HP := Lib.hid hp
   obtain ⟨pl, z, rfl, _, _⟩ := hp
   go_wp2_with fail
   go_ret2
   exact BM.out _ _ _ _ b1 HP.out
 · have q1 : ¬ ((1 : Int) ≤ (kd : Int) ∧ (kd : Int) ≤ 8) := by omega
   have qq : Hid ((1 : Int) ≤ (kd : Int) → ¬ (kd : Int) ≤ 8) := fun a b => q1 ⟨a, b⟩
   clear q1
   rw [if_neg hk] at HR
   clear hk AD
   by_cases k1 : (1 : Int) ≤ (kd : Int)
   rotate_left
   all_goals
    try have k8 := qq.out k1
    cases jo with
    | none =>
     have Z : Hid (R = .error 31) := HR.out
     clear HR FA HM
     unfold joined at JA
     go_enter Tryz.func44, Tryz.ntmps44
     go_wp2_with fail
     with_reducible refine (KA.out _ (Below.refl _ _)).mono ?_
     rintro e w1 ⟨rfl, b1⟩
     go_wp2_with fail
     with_reducible refine (JA.out _ b1).mono ?_
     rintro e w2 ⟨rfl, b2⟩
     have bw : Below w.heap.size w w2 := b1.trans (b2.mono b1.size)
     go_wp2_with fail
     go_ret2
     exact bpost_no Z.out (by decide) _ (SV.out _ bw)
    | some l =>
     unfold joined at JA
     rw [Option.getD_some, Option.isSome_some] at JA
     obtain ⟨u, hu⟩ : ∃ u, u = sst l := ⟨_, rfl⟩
     have hR2 : R = match findK (ns.map er) u with | none => .error 33 | some p => .ok ([], p) := by rw [hu]; exact HR.out
     rw [← hu] at JA
     have FB := Lib.hid (FA.out u)
     rw [find_er] at FB
     clear hu HR FA
     cases hf : findK (ns.map er) u with
     | none =>
      rw [hf] at hR2 FB
      have Z : Hid (R = .error 33) := hR2
      unfold plc at FB
      clear hR2 hf HM
      go_enter Tryz.func44, Tryz.ntmps44
      go_wp2_with fail
      with_reducible refine (KA.out _ (Below.refl _ _)).mono ?_
      rintro e w1 ⟨rfl, b1⟩
      go_wp2_with fail
      with_reducible refine (JA.out _ b1).mono ?_
      rintro e w2 ⟨rfl, b2⟩
      have bw : Below w.heap.size w w2 := b1.trans (b2.mono b1.size)
      have y0 := (bw.cell (p := ⟨g, 0, none⟩) lg.1).trans z0
      have y1 := (bw.cell (p := ⟨g, 1, none⟩) lg.1).trans z1
      go_wp2_with fail
      with_reducible refine (FB.out _ bw).mono ?_
      rintro e w3 ⟨rfl, b3⟩
      have bw3 : Below w.heap.size w w3 := bw.trans (b3.mono bw.size)
      go_wp2_with fail
      go_ret2
      exact bpost_no Z.out (by decide) _ (SV.out _ bw3)
     | some p =>
      rw [hf] at hR2 FB
      have Z : Hid (R = .ok ([], p)) := hR2
      unfold plc at FB
      have qp : ¬ (p : Int) < 0 := by omega
      clear hR2 hf
      go_enter Tryz.func44, Tryz.ntmps44
      go_wp2_with fail
      with_reducible refine (KA.out _ (Below.refl _ _)).mono ?_
      rintro e w1 ⟨rfl, b1⟩
      go_wp2_with fail
      with_reducible refine (JA.out _ b1).mono ?_
      rintro e w2 ⟨rfl, b2⟩
      have bw : Below w.heap.size w w2 := b1.trans (b2.mono b1.size)
      have y0 := (bw.cell (p := ⟨g, 0, none⟩) lg.1).trans z0
      have y1 := (bw.cell (p := ⟨g, 1, none⟩) lg.1).trans z1
      go_wp2_with fail
      with_reducible refine (FB.out _ bw).mono ?_
      rintro e w3 ⟨rfl, b3⟩
      have bw3 : Below w.heap.size w w3 := bw.trans (b3.mono bw.size)
      go_wp2_with fail
      go_ret2
      obtain ⟨r', m', hr', hl'⟩ := HM.out _ bw3
      exact bpost_ok Z.out rfl (SV.out _ bw3) m' hr' hl'
theorem take_some {x : J} (S : Nat → Prop) (j : J) (key : ByteArray) (w : World) (hS : ∀ b, S b → b < w.heap.size) (A3 A4 : Option Addr) (c3 c4 : Nat) (ht : TreeS w S j [.int .i64 j.k, .int .i64 j.n, .string j.t, .slice A3 j.its.length c3, .slice A4 j.ks.length c4]) (hx : j.get key = some x) :
 Calls Tryz.prog 47 #[.agg #[.int .i64 j.k, .int .i64 j.n, .string j.t, .slice A3 j.its.length c3, .slice A4 j.ks.length c4], .string key] w (fun e w' => ∃ X3 x3 X4 x4, e = .returned (.tuple #[.agg #[.int .i64 x.k, .int .i64 x.n, .string x.t, .slice X3 x.its.length x3, .slice X4 x.ks.length x4], .bool true]) ∧ TreeS w' S x [.int .i64 x.k, .int .i64 x.n, .string x.t, .slice X3 x.its.length x3, .slice X4 x.ks.length x4] ∧ Below w.heap.size w w') := by
 have := item_any S j key w hS A3 A4 c3 c4 ht
 rw [hx] at this
 exact this
theorem take_none (S : Nat → Prop) (j : J) (key : ByteArray) (w : World) (hS : ∀ b, S b → b < w.heap.size) (A3 A4 : Option Addr) (c3 c4 : Nat) (ht : TreeS w S j [.int .i64 j.k, .int .i64 j.n, .string j.t, .slice A3 j.its.length c3, .slice A4 j.ks.length c4]) (hx : j.get key = none) :
 Calls Tryz.prog 47 #[.agg #[.int .i64 j.k, .int .i64 j.n, .string j.t, .slice A3 j.its.length c3, .slice A4 j.ks.length c4], .string key] w (fun e w' => ∃ X3 x3 X4 x4, e = .returned (.tuple #[.agg #[.int .i64 0, .int .i64 0, .string ⟨#[]⟩, .slice X3 0 x3, .slice X4 0 x4], .bool false]) ∧ TreeS w' S J.zero [.int .i64 0, .int .i64 0, .string ⟨#[]⟩, .slice X3 0 x3, .slice X4 0 x4] ∧ Below w.heap.size w w') := by
 have := item_any S j key w hS A3 A4 c3 c4 ht
 rw [hx] at this
 exact this
theorem one_yes {x : J} {kind : Int} (S : Nat → Prop) (j : J) (key : ByteArray) (w : World) (hS : ∀ b, S b → b < w.heap.size) (A3 A4 : Option Addr) (c3 c4 : Nat) (ht : TreeS w S j [.int .i64 j.k, .int .i64 j.n, .string j.t, .slice A3 j.its.length c3, .slice A4 j.ks.length c4]) (hx : j.get key = some x) (hk : x.k = kind) :
 Calls Tryz.prog 91 #[.func (.func 47) #[.agg #[.int .i64 j.k, .int .i64 j.n, .string j.t, .slice A3 j.its.length c3, .slice A4 j.ks.length c4]] #[], .string key, .int .i64 kind] w (fun e w' => ∃ X3 x3 X4 x4, e = .returned (.tuple #[.agg #[.int .i64 x.k, .int .i64 x.n, .string x.t, .slice X3 x.its.length x3, .slice X4 x.ks.length x4], .bool true]) ∧ TreeS w' S x [.int .i64 x.k, .int .i64 x.n, .string x.t, .slice X3 x.its.length x3, .slice X4 x.ks.length x4] ∧ Below w.heap.size w w') := by
 have := one_any S j key kind w hS A3 A4 c3 c4 ht
 rw [hx] at this
 refine this.mono fun e w' h => ?_
 obtain ⟨X3, x3, X4, x4, he, h1, h2⟩ := h
 refine ⟨X3, x3, X4, x4, ?_, h1, h2⟩
 rw [he]
 show Ending.returned (.tuple #[_, .bool (true && decide (x.k = kind))]) = _
 rw [decide_eq_true hk]; rfl
theorem one_no {kind : Int} (S : Nat → Prop) (j : J) (key : ByteArray) (w : World) (hS : ∀ b, S b → b < w.heap.size) (A3 A4 : Option Addr) (c3 c4 : Nat) (ht : TreeS w S j [.int .i64 j.k, .int .i64 j.n, .string j.t, .slice A3 j.its.length c3, .slice A4 j.ks.length c4]) (hx : ∀ x, j.get key = some x → x.k ≠ kind) :
 Calls Tryz.prog 91 #[.func (.func 47) #[.agg #[.int .i64 j.k, .int .i64 j.n, .string j.t, .slice A3 j.its.length c3, .slice A4 j.ks.length c4]] #[], .string key, .int .i64 kind] w (fun e w' => ∃ K0 K1 K2 X3 l3 x3 X4 l4 x4, e = .returned (.tuple #[.agg #[.int .i64 K0, .int .i64 K1, .string K2, .slice X3 l3 x3, .slice X4 l4 x4], .bool false]) ∧ Below w.heap.size w w') := by
 have := one_any S j key kind w hS A3 A4 c3 c4 ht
 refine this.mono fun e w' h => ?_
 obtain ⟨X3, x3, X4, x4, he, h1, h2⟩ := h
 refine ⟨(gotten (j.get key)).k, (gotten (j.get key)).n, (gotten (j.get key)).t, X3, (gotten (j.get key)).its.length, x3, X4, (gotten (j.get key)).ks.length, x4, ?_, h2⟩
 rw [he]
 have : ((j.get key).isSome && decide ((gotten (j.get key)).k = kind)) = false := by
  rcases ho : j.get key with _ | x
  · rfl
  · rw [Option.isSome_some, Bool.true_and]; exact decide_eq_false (hx x ho)
 rw [this]
def CallB (B : Kn → J → ByteArray → Bres) (Q : J → Prop) : Prop := ∀ (j : J) (sp : ByteArray) (X : Nat → Prop) (g r : Nat) (ns : List Nd) (w : World) (S : Nat → Prop), Q j → sp.size ≤ 1000000 → MkW X w g r ns → (∀ b, S b → b < g) → ∀ (A3 A4 : Option Addr) (c3 c4 : Nat), TreeS w S j [.int .i64 j.k, .int .i64 j.n, .string j.t, .slice A3 j.its.length c3, .slice A4 j.ks.length c4] →
 Calls Tryz.prog 22 #[.pointer (some ⟨g, 0, none⟩), .agg #[.int .i64 j.k, .int .i64 j.n, .string j.t, .slice A3 j.its.length c3, .slice A4 j.ks.length c4], .string sp] w (BPost X (B (ns.map er) j sp) g r ns w)
theorem blk_sav {w w' : World} {g r q : Nat} {t : TypeId} {cs : Array Value} (h : Blk w q t cs) (s : Sav g r w.heap.size w w') (h1 : q ≠ g) (h2 : q ≠ r) : Blk w' q t cs := (s.block q h.lt h1 h2).trans h
theorem Mem.Sav.nxt {g r r1 : Nat} {w w1 w2 : World} (s1 : Sav g r w.heap.size w w1) (hr : r1 = r ∨ w.heap.size ≤ r1) (s2 : Sav g r1 w1.heap.size w1 w2) : Sav g r w.heap.size w w2 :=
 ⟨s2.os.trans s1.os, s2.tape.trans s1.tape, s2.output.trans s1.output, Nat.le_trans s1.size s2.size, fun k h1 h2 h3 => (s2.block k (Nat.lt_of_lt_of_le h1 s1.size) h2 (by rcases hr with rfl | h; exact h3; omega)).trans (s1.block k h1 h2 h3)⟩
theorem set_mid {ns ext : List Nd} {n m : Nd} : (ns ++ [n] ++ ext).set ns.length m = ns ++ m :: ext := by
 rw [List.append_assoc, List.set_append_right _ _ (Nat.le_refl _), Nat.sub_self]; rfl
theorem er_snoc (ns : List Nd) (n : Nd) : (ns ++ [n]).map er = ns.map er ++ [er n] := by rw [List.map_append]; rfl
theorem list_any {X : Nat → Prop} {B : Kn → J → ByteArray → Bres} {Q : J → Prop} (hB : CallB B Q) (j : J) (k : Int) (_hk11 : k = 11 ∨ k = 12) (key sp : ByteArray) (hsp : sp.size ≤ 1000000) (g r : Nat) (ns : List Nd) (w : World) (h : MkW X w g r ns) (S : Nat → Prop) (hS : ∀ b, S b → b < g) (A3 A4 : Option Addr) (c3 c4 : Nat) (ht : TreeS w S j [.int .i64 j.k, .int .i64 j.n, .string j.t, .slice A3 j.its.length c3, .slice A4 j.ks.length c4])
 (hQ : ∀ x, j.get key = some x → Q x) (R : Bres) (hR : R = bmany B (ns.map er) j sp k key) :
 Calls Tryz.prog 92 #[.pointer (some ⟨g, 0, none⟩), .int .i64 k, .string key, .func (.func 47) #[.agg #[.int .i64 j.k, .int .i64 j.n, .string j.t, .slice A3 j.its.length c3, .slice A4 j.ks.length c4]] #[], .string sp] w (BPost X R g r ns w) := by
 have CS := cell_set
 have lg := h.mkr.lt
 have hl := h.len
 have hSw : ∀ b, S b → b < w.heap.size := fun b hb => Nat.lt_trans (hS b hb) lg.1
 have SV : Hid (∀ W, Below w.heap.size w W → Sav g r w.heap.size w W) := fun W b => Sav.of b
 cases ho : j.get key with
 | none =>
  have Z : Hid (R = .error 30) := by show _ = _; rw [hR]; unfold bmany; rw [ho]
  have IT := Lib.hid (take_none S j key w hSw A3 A4 c3 c4 ht ho)
  clear hR hQ ho ht h hSw hB
  go_enter Tryz.func92, Tryz.ntmps92
  go_wp2_with fail
  with_reducible refine IT.out.mono ?_
  rintro e w1 ⟨X3, x3, X4, x4, rfl, _, b1⟩
  have s1 := b1.size
  go_wp2_with fail
  go_ret2
  exact bpost_no Z.out (by decide) _ (SV.out _ bqq)
 | some x =>
  have IT := Lib.hid (take_some S j key w hSw A3 A4 c3 c4 ht ho)
  have qx := hQ x ho
  have HR : Hid (R = if ns.length = 200 then .error 3 else match B (ns.map er ++ [er (Nd.z k)]) x sp with | .error e => .error e | .ok (ext, p) => .ok ({ Nd.z k with items := (p : Int) } :: ext, ns.length)) := by
   show _ = _
   rw [hR]; unfold bmany; rw [ho, List.length_map]; rfl
  have MW := Lib.hid (fun W (b : Below w.heap.size w W) => h.below b)
  have AD : Hid (∀ W, Below w.heap.size w W → Calls Tryz.prog 87 #[.pointer (some ⟨g, 0, none⟩), .agg #[.int .i64 k, .string ⟨#[]⟩, .slice none 0 0, .slice none 0 0, .slice none 0 0, .bool false, .string ⟨#[]⟩, .int .i64 0, .int .i64 0, .slice none 0 0]] W (BPost X (if ns.length = 200 then .error 3 else .ok ([Nd.z k], ns.length)) g r ns W)) := fun W b => add_any (Nd.z k) g r ns W (h.below b) none none none none 0 0 0 0 z_lies _ rfl
  clear hR hQ ho ht h hSw
  go_enter Tryz.func92, Tryz.ntmps92
  go_wp2_with fail
  with_reducible refine IT.out.mono ?_
  rintro e w1 ⟨X3, x3, X4, x4, rfl, tx, b1⟩
  have s1 := b1.size
  have W1 : Hid (Below w.heap.size w (w1.alloc (.cells #[.int .i64 x.k, .int .i64 x.n, .string x.t, .slice X3 x.its.length x3, .slice X4 x.ks.length x4] 25))) := by show Below _ _ _; (repeat' (first | with_reducible assumption | with_reducible exact Below.refl _ _ | (with_reducible refine Below.alloc ?_ ?_ _; rotate_left; focus ((first | exact Nat.le_refl _ | (simp; done) | (simp; omega) | omega | fail))) | (with_reducible refine Below.setCell ?_ ?_ _; rotate_left; focus ((first | exact Nat.le_refl _ | (simp; done) | (simp; omega) | omega | fail))) | with_reducible refine Mem.bel_drewN ?_ _ | with_reducible refine Below.drew ?_ | (with_reducible refine Mem.bel_call (by with_reducible assumption) ?_ ?_; focus ((first | exact Nat.le_refl _ | (simp; done) | (simp; omega) | omega | fail))) | fail))
  have BX : Hid (B5 (w1.alloc (.cells #[.int .i64 x.k, .int .i64 x.n, .string x.t, .slice X3 x.its.length x3, .slice X4 x.ks.length x4] 25)) w1.heap.size 25 (.int .i64 x.k) (.int .i64 x.n) (.string x.t) (.slice X3 x.its.length x3) (.slice X4 x.ks.length x4)) := B5.newat rfl
  have TX := Lib.hid tx
  have BB1 := Lib.hid b1
  clear tx
  go_wp2_with fail
  with_reducible refine (AD.out _ W1.out).mono ?_
  rintro e w2 hp
  by_cases h200 : ns.length = 200
  · have Z : Hid (R = .error 3) := by show _ = _; rw [HR.out, if_pos h200]
    rw [if_pos h200] at hp
    obtain ⟨pl, rfl, _, sv⟩ := hp.no rfl
    have SS := Lib.hid ((SV.out _ W1.out).trans (sv.mono W1.out.size))
    clear hp sv h200
    go_wp2_with fail
    go_ret2
    exact bpost_no Z.out (by decide) _ SS.out
  rw [if_neg h200] at hp
  obtain ⟨rfl, sv, r1, m1, hr1, hl1⟩ := hp.yes rfl
  have Z : Hid (R = match B ((ns ++ [Nd.z k]).map er) x sp with | .error e => .error e | .ok (ext, p) => .ok ({ Nd.z k with items := (p : Int) } :: ext, ns.length)) := by show _ = _; rw [HR.out, if_neg h200, er_snoc]
  have z1 := W1.out.size
  have SS : Hid (Sav g r w.heap.size w w2) := (SV.out _ W1.out).trans (sv.mono z1)
  have hr1' : r1 = r ∨ w.heap.size ≤ r1 := hr1.imp id fun k => Nat.le_trans z1 k
  have M1 : Hid (MkW X w2 g r1 (ns ++ [Nd.z k])) := (MW.out _ W1.out).go sv m1 hl1 hr1
  have lt1 := BX.out.lt
  have B2x : Hid (B5 w2 w1.heap.size 25 (.int .i64 x.k) (.int .i64 x.n) (.string x.t) (.slice X3 x.its.length x3) (.slice X4 x.ks.length x4)) := blk_sav BX.out sv (by omega) (by omega)
  have T2 : Hid (TreeS w2 S x [.int .i64 x.k, .int .i64 x.n, .string x.t, .slice X3 x.its.length x3, .slice X4 x.ks.length x4]) := (MW.out _ W1.out).tree sv hS (TreeS.keep (fun p hp => ((Below.refl w1.heap.size w1).alloc (Nat.le_refl _) _).cell (by have := hS _ hp; omega)) (fun _ h => h) TX.out)
  have NC := Lib.hid (hB x sp X g r1 (ns ++ [Nd.z k]) w2 S qx hsp M1.out hS X3 X4 x3 x4 T2.out)
  obtain ⟨_, _, _, _, _, _, _, _, _, _⟩ := B5.facts B2x.out
  clear hp sv h200 HR AD IT m1 TX
  go_wp2_with fail
  with_reducible refine NC.out.mono ?_
  rintro e w3 hp
  cases hb : B ((ns ++ [Nd.z k]).map er) x sp with
  | error z =>
   rw [hb] at hp Z
   obtain ⟨pl, rfl, hz, sv⟩ := hp.no rfl
   have S3 := Lib.hid (SS.out.nxt hr1' sv)
   have qz : (z != 0) = true := by rw [bne_iff_ne]; exact hz
   have HZ := Lib.hid hz
   clear hp sv hz hb NC
   go_wp2_with fail
   go_ret2
   exact bpost_no Z.out HZ.out _ S3.out
  | ok q =>
   obtain ⟨ext, p⟩ := q
   rw [hb] at hp Z
   obtain ⟨rfl, sv, r2, m2, hr2, hl2⟩ := hp.yes rfl
   have S3 := Lib.hid (SS.out.nxt hr1' sv)
   have z2 := S3.out.size
   have hr2' : r2 = r ∨ w.heap.size ≤ r2 := by
    rcases hr2 with e | e
    · rw [e]; exact hr1'
    · exact .inr (Nat.le_trans (by have := SS.out.size; exact this) e)
   have lm := m2.lt
   have hin : ns.length < (ns ++ [Nd.z k] ++ ext).length := by simp
   obtain ⟨A, c, hB2, hc, hA, _, _⟩ := m2.out
   obtain rfl := hA (by omega)
   obtain ⟨nl, hnl⟩ : ∃ m, m = (ns ++ [Nd.z k] ++ ext).length := ⟨_, rfl⟩
   rw [← hnl] at hB2
   obtain ⟨_, _, _, _⟩ := B2.facts hB2
   obtain ⟨Y2, y2, Y3, y3, Y4, y4, Y9, y9, ⟨_, _, _, _, _, _, _, _, ycell, _⟩, fz⟩ := m2.node hin
   have PU := m2.put (k := 8) hin (by omega) { Nd.z k with items := (p : Int) } (.int .i64 (p : Int)) (fun _ => False) (fun _ h => h.elim) (fun S cs _ hcs => by
    rw [show (ns ++ [Nd.z k] ++ ext)[ns.length]'hin = Nd.z k by simp] at hcs
    obtain ⟨a2, d2, a3, d3, a4, d4, a9, d9, e, r⟩ := Nd.out.1 hcs
    rw [e]
    exact Nd.out.2 ⟨a2, d2, a3, d3, a4, d4, a9, d9, rfl, r⟩)
   rw [set_mid] at PU
   have PM := Lib.hid PU.1
   have PS : Hid (Sav g r w.heap.size w (w3.setCell ⟨r2, ns.length * 10 + 8, none⟩ (.int .i64 (p : Int)))) := S3.out.nxt hr2' (PU.2)
   have f8 := fz (ns.length * 10 + 8)
   have hl3 : (ns ++ { Nd.z k with items := (p : Int) } :: ext).length ≤ 200 := by simp at hl2 ⊢; first | done | omega
   obtain ⟨n0, hn0⟩ : ∃ m, m = ns.length := ⟨_, rfl⟩
   have q1 : (n0 : Int) < (nl : Int) := by omega
   have q2 : ¬ (n0 : Int) < 0 := by omega
   have HL3 := Lib.hid hl3
   generalize ((ns ++ [Nd.z k] ++ ext)[ns.length]'hin).items = Y8 at ycell
   rw [← hn0] at ycell f8 PM PS Z ⊢
   clear hp sv hb NC m2 hB2 hnl
   clear hn0
   go_wp2_with fail
   go_ret2
   exact bpost_ok Z.out rfl PS.out PM.out hr2' HL3.out
end Go.Proofs.YthogheglddfniaaGreatDoor
namespace Go.Proofs.YthogheglddfniaaGreatDoor
noncomputable def bbuild (j : J) : Except Int (List Nd) :=
 if j.rightb = true then match bnode 33 [] j ⟨#[]⟩ with
  | .error e => .error e
  | .ok (ext, _) => if (List.range ext.length).all (fun i => decide (Sc.wt ⟨ext, 0⟩ i ≤ 1000)) = true then .ok ext else .error 3
 else .error 2
theorem built {j : J} (hj : j.frm ∧ j.deep ≤ 32) {f : Nat} {ext : List Nd} {p : Nat} {sp : ByteArray} (h : bnode f [] j sp = .ok (ext, p)) :
 p = 0 ∧ 1 ≤ ext.length ∧ ext.length ≤ 200 ∧ met ⟨ext, 0⟩ f 0 = some ext.length ∧ (∀ n ∈ ext, n.ok ⟨ext, 0⟩) ∧ (Sc.names ⟨ext, 0⟩).Nodup := by
 have k := bnode_snd f [] j sp ext p (by simp) (.inl hj) h
 have k1 := k.len; have k2 := k.lt
 simp only [List.length_nil, Nat.zero_add] at k1 k2
 have km := k.mt ⟨ext, 0⟩ [] [] (by simp) rfl
 simp only [List.length_nil, Nat.zero_add] at km
 rcases km with ⟨_, g, _⟩ | ⟨g1, g2⟩
 · omega
 · refine ⟨g1, by omega, k1, g2, k.ok ⟨ext, 0⟩ [] [] (by simp) rfl, ?_⟩
   have hn := k.nm (by unfold nmsK; simp)
   have e : nmsK ([] ++ ext.map er) = Sc.names ⟨ext, 0⟩ := by
    unfold nmsK Sc.names
    rw [List.nil_append, List.filter_map, List.map_map]
    rfl
   rwa [e] at hn
def kwt : List ByteArray → Nat
 | [] => 0
 | k :: r => 1 + k.size + kwt r
mutual
/-- How many parts and bytes a tree has. -/
def J.wt : J → Nat
 | .mk _ _ t its ks => 1 + t.size + kwt ks + J.wts its
def J.wts : List J → Nat
 | [] => 0
 | j :: r => J.wt j + J.wts r
end
theorem kwt_take : ∀ {l : List ByteArray} {i : Nat} (h : i < l.length), kwt (l.take (i + 1)) = kwt (l.take i) + 1 + (l[i]'h).size
 | [], _, h => absurd h (Nat.not_lt_zero _)
 | k :: r, 0, _ => by simp [kwt]
 | k :: r, i + 1, h => by
  have := kwt_take (l := r) (i := i) (by simpa using h)
  simp only [List.take_succ_cons, kwt, List.getElem_cons_succ]; omega
theorem J.wts_take : ∀ {l : List J} {i : Nat} (h : i < l.length), J.wts (l.take (i + 1)) = J.wts (l.take i) + (l[i]'h).wt
 | [], _, h => absurd h (Nat.not_lt_zero _)
 | k :: r, 0, _ => by simp [J.wts]
 | k :: r, i + 1, h => by
  have := J.wts_take (l := r) (i := i) (by simpa using h)
  simp only [List.take_succ_cons, J.wts, List.getElem_cons_succ]; omega
theorem kwt_at : ∀ {l : List ByteArray} {i : Nat} (h : i < l.length), (l[i]'h).size ≤ kwt l
 | [], _, h => absurd h (Nat.not_lt_zero _)
 | k :: r, 0, _ => by simp [kwt]; omega
 | k :: r, i + 1, h => by
  have := kwt_at (l := r) (i := i) (by simpa using h)
  simp only [kwt, List.getElem_cons_succ]; omega
theorem wts_at : ∀ {l : List J} {i : Nat} (h : i < l.length), (l[i]'h).wt ≤ J.wts l
 | [], _, h => absurd h (Nat.not_lt_zero _)
 | k :: r, 0, _ => by simp [J.wts]
 | k :: r, i + 1, h => by
  have := wts_at (l := r) (i := i) (by simpa using h)
  simp only [J.wts, List.getElem_cons_succ]; omega
end Go.Proofs.YthogheglddfniaaGreatDoor
namespace Go.Proofs.YthogheglddfniaaGreatDoor
open Go.ChangeShapes Go.WideShapes Go.ChangeAt Go.RowKit Mem
def txF : List ByteArray → Nat → Nat
 | [], n => n
 | t :: r, n => if n ≤ 2500 then (if 2500 < t.size then 2501 else txF r (n + t.size)) else n
def tx (l : List ByteArray) : Nat := if 2500 < l.length then 2501 else txF l l.length
def Fd.sm (f : Fd) : Prop := f.name.size ≤ 2500 ∧ kwt f.al ≤ 10000 ∧ f.df.wt ≤ 2500 ∧ f.df.deep ≤ 61
def Nd.sm (n : Nd) : Prop := n.name.size ≤ 2500 ∧ n.fs.length ≤ 2500 ∧ n.br.length ≤ 2500 ∧ n.df.size ≤ 2500 ∧ kwt n.al ≤ 10000 ∧ kwt n.sy ≤ 10000 ∧ ∀ i (h : i < n.fs.length), (n.fs[i]'h).sm
def Sc.sm (s : Sc) : Prop := s.nodes.length ≤ 2500 ∧ ∀ i (h : i < s.nodes.length), (s.nodes[i]'h).sm
end Go.Proofs.YthogheglddfniaaGreatDoor
namespace Go.Proofs.YthogheglddfniaaGreatDoor
theorem J.wts_mem {l : List J} {x : J} (h : x ∈ l) : x.wt ≤ J.wts l := by
 obtain ⟨i, hi, rfl⟩ := List.getElem_of_mem h
 exact wts_at hi
theorem J.its_wt (j : J) : J.wts j.its + 1 ≤ j.wt := by
 cases j with
 | mk k n t its ks => unfold J.wt; show J.wts its + 1 ≤ _; omega
theorem J.get_wt {j x : J} {k : ByteArray} (h : j.get k = some x) : x.wt ≤ j.wt := by
 have a := J.wts_mem (J.get_in h).2
 have b := J.its_wt j
 omega
theorem got_wt (j : J) (k : ByteArray) : (gotten (j.get k)).wt ≤ j.wt := by
 rcases h : j.get k with _ | x
 · have b := J.its_wt j
   have : (gotten none).wt = 1 := by show J.zero.wt = 1; unfold J.zero J.wt kwt J.wts; rfl
   omega
 · exact J.get_wt h
def DfW (W : Nat) (ext : List Nd) : Prop := ∀ n ∈ ext, ∀ f ∈ n.fs, f.df.wt ≤ W
theorem DfW.app {W : Nat} {a b : List Nd} (h : DfW W a) (k : DfW W b) : DfW W (a ++ b) := fun n hn => (List.mem_append.1 hn).elim (h n) (k n)
theorem DfW.cons {W : Nat} {n : Nd} {b : List Nd} (h : ∀ f ∈ n.fs, f.df.wt ≤ W) (k : DfW W b) : DfW W (n :: b) := fun m hm => by
 rcases List.mem_cons.1 hm with rfl | g
 · exact h
 · exact k m g
theorem DfW.nil_ {W : Nat} : DfW W [] := fun _ h => by cases h
def DfB (W : Nat) (B : Kn → J → ByteArray → Bres) : Prop := ∀ (c : Kn) (j : J) (sp : ByteArray) (ext : List Nd) (p : Nat), j.wt ≤ W → B c j sp = .ok (ext, p) → DfW W ext
theorem df_word {W : Nat} {c : Kn} {w sp : ByteArray} {ext : List Nd} {p : Nat} (h : bword c w sp = .ok (ext, p)) : DfW W ext := by
 unfold bword at h
 split at h
 · split at h
   · cases h
   · simp only [Except.ok.injEq, Prod.mk.injEq] at h
     obtain ⟨rfl, _⟩ := h
     exact DfW.cons (fun f hf => by cases hf) DfW.nil_
 · split at h
   · cases h
   · split at h
     · cases h
     · simp only [Except.ok.injEq, Prod.mk.injEq] at h
       obtain ⟨rfl, _⟩ := h
       exact DfW.nil_
theorem df_brs {W : Nat} {B : Kn → J → ByteArray → Bres} (hB : DfB W B) (sp : ByteArray) (c : Kn) : ∀ (its : List J) (ext : List Nd) (acc : List Nat) (ext' : List Nd) (acc' : List Nat), (∀ j ∈ its, j.wt ≤ W) → DfW W ext → bbrs B sp c its ext acc = .ok (ext', acc') → DfW W ext'
 | [], _, _, _, _, _, hI, h => by
  unfold bbrs at h
  simp only [Except.ok.injEq, Prod.mk.injEq] at h
  obtain ⟨rfl, _⟩ := h
  exact hI
 | j :: r, _, _, _, _, hj, hI, h => by
  unfold bbrs at h
  split at h
  · cases h
  · rename_i x p hb
    split at h
    · exact df_brs hB sp c r _ _ _ _ (fun j g => hj j (by simp [g])) (hI.app (hB _ _ _ _ _ (hj j (by simp)) hb)) h
    · cases h
theorem df_fields {W : Nat} {B : Kn → J → ByteArray → Bres} (hB : DfB W B) (sp : ByteArray) (c : Kn) : ∀ (its : List J) (ext : List Nd) (a : List Fd) (ext' : List Nd) (a' : List Fd), (∀ j ∈ its, j.wt ≤ W) → DfW W ext → (∀ f ∈ a, f.df.wt ≤ W) → bfields B sp c its ext a = .ok (ext', a') → DfW W ext' ∧ ∀ f ∈ a', f.df.wt ≤ W
 | [], _, _, _, _, _, hI, hA, h => by
  unfold bfields at h
  simp only [Except.ok.injEq, Prod.mk.injEq] at h
  obtain ⟨rfl, rfl⟩ := h
  exact ⟨hI, hA⟩
 | j :: r, _, a, _, _, hj, hI, hA, h => by
  unfold bfields at h
  split at h
  · cases h
  · rename_i fd hfd
    split at h
    · cases h
    · rename_i x p hb
      have jw := hj j (by simp)
      have fw : fd.df.wt ≤ W := by
       unfold bfield at hfd
       split at hfd
       · cases hfd
       · split at hfd
         · cases hfd
         · split at hfd
           · cases hfd
           · split at hfd
             · cases hfd
             · simp only [Except.ok.injEq] at hfd
               subst hfd
               exact Nat.le_trans (got_wt j kDefault) jw
      refine df_fields hB sp c r _ _ _ _ (fun j g => hj j (by simp [g])) (hI.app (hB _ _ _ _ _ (Nat.le_trans (got_wt j kType) jw) hb)) (fun f hf => ?_) h
      rcases List.mem_append.1 hf with g | g
      · exact hA f g
      · obtain rfl := List.mem_singleton.1 g; exact fw
theorem df_many {W : Nat} {B : Kn → J → ByteArray → Bres} (hB : DfB W B) {c : Kn} {j : J} {sp : ByteArray} {k : Int} {key : ByteArray} {ext : List Nd} {p : Nat} (hj : j.wt ≤ W) (h : bmany B c j sp k key = .ok (ext, p)) : DfW W ext := by
 unfold bmany at h
 split at h
 · cases h
 · rename_i y hy
   split at h
   · cases h
   · split at h
     · cases h
     · rename_i x q hb
       simp only [Except.ok.injEq, Prod.mk.injEq] at h
       obtain ⟨rfl, _⟩ := h
       exact DfW.cons (fun f hf => by cases hf) (hB _ _ _ _ _ (Nat.le_trans (J.get_wt hy) hj) hb)
theorem bnode_df (W : Nat) : ∀ f, DfB W (bnode f)
 | 0, c, j, sp, ext, p, _, h => by unfold bnode at h; cases h
 | f + 1, c, j, sp, ext, p, hj, h => by
  have ih := bnode_df W f
  have jw := J.its_wt j
  unfold bnode at h
  split at h
  · exact df_word h
  · split at h
    · unfold bunion at h
      split at h
      · cases h
      · split at h
        · cases h
        · split at h
          · cases h
          · rename_i x br hb
            simp only [Except.ok.injEq, Prod.mk.injEq] at h
            obtain ⟨rfl, _⟩ := h
            exact DfW.cons (fun f hf => by cases hf) (df_brs ih sp _ _ _ _ _ _ (fun z hz => by have := J.wts_mem hz; omega) DfW.nil_ hb)
    · split at h
      · cases h
      · split at h
        · exact df_many ih hj h
        · split at h
          · exact df_many ih hj h
          · split at h
            · unfold bnamed at h
              split at h
              · cases h
              · split at h
                · unfold brecord at h
                  split at h
                  · cases h
                  · rename_i y hy
                    have yw := J.its_wt y
                    have yj := J.get_wt hy
                    split at h
                    · split at h
                      · cases h
                      · split at h
                        · cases h
                        · split at h
                          · cases h
                          · rename_i x fs hb
                            simp only [Except.ok.injEq, Prod.mk.injEq] at h
                            obtain ⟨rfl, _⟩ := h
                            obtain ⟨a1, a2⟩ := df_fields ih _ _ _ _ _ _ _ (fun z hz => by have := J.wts_mem hz; omega) DfW.nil_ (fun f hf => by cases hf) hb
                            exact DfW.cons a2 a1
                    · cases h
                · split at h
                  · split at h
                    · cases h
                    · split at h
                      · cases h
                      · simp only [Except.ok.injEq, Prod.mk.injEq] at h
                        obtain ⟨rfl, _⟩ := h
                        exact DfW.cons (fun f hf => by cases hf) DfW.nil_
                  · split at h
                    · cases h
                    · split at h
                      · cases h
                      · simp only [Except.ok.injEq, Prod.mk.injEq] at h
                        obtain ⟨rfl, _⟩ := h
                        exact DfW.cons (fun f hf => by cases hf) DfW.nil_
            · exact df_word h
theorem full_size {t : ByteArray} (h : Nm.full t.data.toList = true) : t.size ≤ 100 := by
 unfold Nm.full at h
 rw [Bool.and_eq_true, decide_eq_true_eq, Array.length_toList] at h
 exact h.1
theorem simple_size {t : ByteArray} (h : Nm.simple t.data.toList = true) : t.size ≤ 100 := by
 unfold Nm.simple at h
 simp only [Bool.and_eq_true, decide_eq_true_eq, Array.length_toList] at h
 exact h.1.1.2
theorem kwt_le {m : Nat} : ∀ {l : List ByteArray}, (∀ t ∈ l, t.size ≤ m) → kwt l ≤ l.length * (m + 1)
 | [], _ => by unfold kwt; omega
 | t :: r, h => by
  unfold kwt
  have a := h t (by simp)
  have b := kwt_le (l := r) fun t g => h t (by simp [g])
  rw [List.length_cons, Nat.add_mul]
  omega
theorem kwt_40 {l : List ByteArray} (hl : l.length ≤ 40) (h : ∀ t ∈ l, t.size ≤ 100) : kwt l ≤ 4040 := by
 have a := kwt_le h
 have : l.length * (100 + 1) ≤ 40 * (100 + 1) := Nat.mul_le_mul_right _ hl
 omega
theorem right_sm {s : Sc} (h : s.nodes.length ≤ 200 ∧ ∀ n ∈ s.nodes, n.ok s) (hd : DfW 2500 s.nodes) : s.sm := by
 refine ⟨by omega, fun i hi => ?_⟩
 have hn := h.2 _ (List.getElem_mem hi)
 have df := hd _ (List.getElem_mem hi)
 generalize s.nodes[i]'hi = n at *
 obtain ⟨k1, k14, h1, h2, h3, h4, h5, h6⟩ := hn
 have nm : n.name.size ≤ 100 ∧ kwt n.al ≤ 4040 := by
  by_cases g : named n.k = true
  · rw [if_pos g] at h1
    exact ⟨full_size h1.1.1, kwt_40 h1.2.1 fun t ht => full_size (h1.2.2 t ht)⟩
  · rw [if_neg g] at h1
    obtain ⟨e1, e2⟩ := h1
    rw [e1, e2]
    exact ⟨Nat.zero_le _, Nat.zero_le _⟩
 have sy : kwt n.sy ≤ 4040 ∧ n.df.size ≤ 100 := by
  by_cases g : n.k = 10
  · rw [if_pos g] at h3
    obtain ⟨_, ⟨a1, a2⟩, _, a4⟩ := h3
    refine ⟨kwt_40 a1 fun t ht => simple_size (a2 t ht), ?_⟩
    by_cases e : n.has = true
    · rw [if_pos e] at a4; exact simple_size (a2 _ a4)
    · rw [if_neg e] at a4; rw [a4]; exact Nat.zero_le _
  · rw [if_neg g] at h3
    obtain ⟨e1, _, e3⟩ := h3
    rw [e1, e3]
    exact ⟨Nat.zero_le _, Nat.zero_le _⟩
 have br : n.br.length ≤ 10 := by
  by_cases g : n.k = 13
  · rw [if_pos g] at h6; exact h6.2.1
  · rw [if_neg g] at h6; rw [h6]; exact Nat.zero_le _
 have fs : n.fs.length ≤ 40 ∧ ∀ f ∈ n.fs, f.sm := by
  by_cases g : n.k = 9
  · rw [if_pos g] at h2
    obtain ⟨⟨a1, a2⟩, _, a3⟩ := h2
    rw [List.length_map] at a1
    refine ⟨a1, fun f hf => ?_⟩
    obtain ⟨⟨c1, c2⟩, c3⟩ := a3 f hf
    have fw := df f hf
    refine ⟨Nat.le_trans (simple_size (a2 _ (List.mem_map_of_mem hf))) (by omega), Nat.le_trans (kwt_40 c1 fun t ht => simple_size (c2 t ht)) (by omega), fw, ?_⟩
    by_cases e : f.has = true
    · rw [if_pos e] at c3; omega
    · rw [if_neg e] at c3; rw [c3]; exact Nat.zero_le _
  · rw [if_neg g] at h2; rw [h2]; exact ⟨Nat.zero_le _, fun _ h => by cases h⟩
 exact ⟨by omega, by omega, by omega, by omega, by omega, by omega, fun i hi => fs.2 _ (List.getElem_mem hi)⟩
end Go.Proofs.YthogheglddfniaaGreatDoor
namespace Go.Proofs.YthogheglddfniaaGreatDoor
open Go.ChangeShapes Go.WideShapes Go.ChangeAt Go.RowKit Mem
theorem wts_ln12 : ∀ (l : List J), l.length ≤ J.wts l
 | [] => Nat.zero_le _
 | j :: r => by
  have := wts_ln12 r
  have := J.its_wt j
  unfold J.wts
  rw [List.length_cons]
  omega
def TxP (R : Option (List ByteArray)) (w : World) (e : Ending) (w' : World) : Prop :=
 Below w.heap.size w w' ∧ (R = none → e = .returned (.tuple #[.slice none 0 0, .bool false])) ∧ ∀ l, R = some l → ∃ v, e = .returned (.tuple #[v, .bool true]) ∧ GatS w' w.heap.size 9 1 v (l.map D.s)
theorem txp_no {R : Option (List ByteArray)} {w w' : World} (h : R = none) (b : Below w.heap.size w w') : TxP R w (.returned (.tuple #[.slice none 0 0, .bool false])) w' := ⟨b, fun _ => rfl, fun l hl => by rw [h] at hl; cases hl⟩
theorem txp_yes {R : Option (List ByteArray)} {l : List ByteArray} {v : Value} {w w' : World} (h : R = some l) (b : Below w.heap.size w w') (g : GatS w' w.heap.size 9 1 v (l.map D.s)) : TxP R w (.returned (.tuple #[v, .bool true])) w' :=
 ⟨b, (fun e => by rw [h] at e; cases e), fun l' hl => by rw [h] at hl; obtain rfl := Option.some.inj hl; exact ⟨v, rfl, g⟩⟩
theorem GatS.less_ {w : World} {base base' : Nat} {e : TypeId} {s : Nat} {v : Value} {ds : List D} (h : GatS w base e s v ds) (hb : base' ≤ base) : GatS w base' e s v ds := by
 obtain ⟨S, xs, h1, h2, h3, h4⟩ := h
 exact ⟨S, xs, h1.less hb, h2, fun b hs => ⟨Nat.le_trans hb (h3 b hs).1, (h3 b hs).2⟩, h4⟩
theorem texts_any (S : Nat → Prop) (j : J) (key : ByteArray) (w : World) (hS : ∀ b, S b → b < w.heap.size) (A3 A4 : Option Addr) (c3 c4 : Nat) (ht : TreeS w S j [.int .i64 j.k, .int .i64 j.n, .string j.t, .slice A3 j.its.length c3, .slice A4 j.ks.length c4]) (hw : j.wt ≤ 1000000) (R : Option (List ByteArray)) (hR : R = (j.get key).bind btexts) :
 Calls Tryz.prog 161 #[.func (.func 47) #[.agg #[.int .i64 j.k, .int .i64 j.n, .string j.t, .slice A3 j.its.length c3, .slice A4 j.ks.length c4]] #[], .string key] w (TxP R w) := by
 have CS := cell_set
 by_cases hk : ∃ x, j.get key = some x ∧ x.k = 5
 rotate_left
 · have Z : Hid (R = none) := by
    show _ = _
    rw [hR]
    rcases ho : j.get key with _ | x
    · rfl
    · show btexts x = none
      unfold btexts
      rw [if_neg fun g => hk ⟨x, ho, g.1⟩]
   have IT := Lib.hid (one_no (kind := 5) S j key w hS A3 A4 c3 c4 ht fun x hx e => hk ⟨x, hx, e⟩)
   clear hR hk ht hS
   go_enter Tryz.func161, Tryz.ntmps161
   go_wp2_with fail
   with_reducible refine IT.out.mono ?_
   rintro e w1 ⟨K0, K1, K2, X3, l3, x3, X4, l4, x4, rfl, b1⟩
   have s1 := b1.size
   go_wp2_with fail
   go_ret2
   exact txp_no Z.out bqq
 obtain ⟨x, hx, hk⟩ := hk
 have IT := Lib.hid (one_yes S j key w hS A3 A4 c3 c4 ht hx hk)
 have xw : J.wts x.its + 1 ≤ 1000000 := by have := J.its_wt x; have := J.get_wt hx; omega
 have HR : Hid (R = if (x.its.all fun y => decide (y.k = 4)) = true then some (x.its.map J.t) else none) := by
  show _ = _
  rw [hR, hx]
  show btexts x = _
  unfold btexts
  by_cases g : (x.its.all fun y => decide (y.k = 4)) = true
  · rw [if_pos ⟨hk, g⟩, if_pos g]
  · rw [if_neg (fun q => g q.2), if_neg g]
 have HS := Lib.hid hS
 have ln : x.its.length ≤ 1000000 := by have := wts_ln12 x.its; omega
 clear hR ht hS hx hk
 go_enter Tryz.func161, Tryz.ntmps161
 go_wp2_with fail
 with_reducible refine IT.out.mono ?_
 rintro e w1 ⟨X3, x3, X4, x4, rfl, tx, b1⟩
 have s1 := b1.size
 obtain ⟨_, _, _, _, e, _, _, rt, _⟩ := TreeS.out tx
 simp only [List.cons.injEq, Value.slice.injEq, true_and, and_true] at e
 obtain ⟨⟨rfl, rfl⟩, rfl, rfl⟩ := e
 obtain ⟨n, hn⟩ : ∃ m, m = x.its.length := ⟨_, rfl⟩
 have HN := Lib.hid hn
 have B0 : Hid (B5 (w1.alloc (.cells #[.int .i64 x.k, .int .i64 x.n, .string x.t, .slice X3 n x3, .slice X4 x.ks.length x4] 25)) w1.heap.size 25 (.int .i64 x.k) (.int .i64 x.n) (.string x.t) (.slice X3 n x3) (.slice X4 x.ks.length x4)) := B5.newat rfl
 have W0 : Hid (Below w1.heap.size w1 (w1.alloc (.cells #[.int .i64 x.k, .int .i64 x.n, .string x.t, .slice X3 n x3, .slice X4 x.ks.length x4] 25))) := (Below.refl _ _).alloc (Nat.le_refl _) _
 have BW : Hid (Below w.heap.size w (w1.alloc (.cells #[.int .i64 x.k, .int .i64 x.n, .string x.t, .slice X3 n x3, .slice X4 x.ks.length x4] 25))) := b1.trans (W0.out.mono s1)
 rw [← hn] at ln ⊢
 have nmax : n ≤ 9223372036854775807 := by omega
 have RT := Lib.hid rt
 clear rt tx hn
 go_wp2_with fail
 obtain ⟨W, hW⟩ : ∃ W, W = (w1.alloc (.cells #[.int .i64 x.k, .int .i64 x.n, .string x.t, .slice X3 n x3, .slice X4 x.ks.length x4] 25)) := ⟨_, rfl⟩
 rw [← hW] at B0 W0 BW
 rw [← hW]
 clear hW
 go_loopw [8, 10, 22] (fun v _ t wr => ∃ i : Nat, i ≤ n ∧ t = .int .i64 (i : Int) ∧ Hid (∀ m (h : m < x.its.length), m < i → (x.its[m]'h).k = 4) ∧ Hid (GatS wr W.heap.size 9 1 v (((x.its.take i).map J.t).map D.s)) ∧ Hid (Below W.heap.size W wr)) (fun _ _ t _ => n - (intOf t).toNat)
 case atStart => exact ⟨0, Nat.zero_le _, rfl, (fun _ _ h => absurd h (Nat.not_lt_zero _)), GatS.none_ _ _ _ _, Below.refl _ _⟩
 case round =>
  obtain ⟨i, hi, rfl, HE, HG, bl⟩ := hrel
  have bl2 := bl.out
  have z := bl2.size
  have zW := BW.out.size
  have z1 := W0.out.size
  have bw : Below w.heap.size w wr := BW.out.trans (bl2.mono zW)
  by_cases hin : i < n
  · have h1 : i < x.its.length := by rw [← HN.out]; exact hin
    have q : (i : Int) < (n : Int) := by omega
    obtain ⟨g1, o1, Y3, y3, Y4, y4, e1, hg1, u0, u1, u2, u3, u4, _⟩ := RowS.cells (RT.out) h1
    have lg := HS.out _ hg1
    have bq : Below w1.heap.size w1 wr := W0.out.trans (bl2.mono z1)
    have u0 := (bq.cell (p := ⟨g1, o1 + i * 5, none⟩) (by show g1 < _; omega)).trans u0
    have u1 := (bq.cell (p := ⟨g1, o1 + i * 5 + 1, none⟩) (by show g1 < _; omega)).trans u1
    have u2 := (bq.cell (p := ⟨g1, o1 + i * 5 + 2, none⟩) (by show g1 < _; omega)).trans u2
    have u3 := (bq.cell (p := ⟨g1, o1 + i * 5 + 3, none⟩) (by show g1 < _; omega)).trans u3
    have u4 := (bq.cell (p := ⟨g1, o1 + i * 5 + 4, none⟩) (by show g1 < _; omega)).trans u4
    have TK : Hid (((x.its.take (i + 1)).map J.t).map D.s = ((x.its.take i).map J.t).map D.s ++ [D.s (x.its[i]'h1).t]) := by
     show _ = _
     rw [List.take_succ_eq_append_getElem h1, List.map_append, List.map_append]; rfl
    have LJ : Hid ((((x.its.take i).map J.t).map D.s).length = i) := by show _ = _; have hn := HN.out; simp; omega
    have NX : Hid ((x.its[i]'h1).k = 4 → ∀ m (h : m < x.its.length), m < i + 1 → (x.its[m]'h).k = 4) := fun e m h k => by
     rcases Nat.lt_or_ge m i with p | p
     · exact HE.out m h p
     · obtain rfl : m = i := by omega
       exact e
    have NO : Hid ((x.its[i]'h1).k ≠ 4 → R = none) := fun e => by
     rw [HR.out, if_neg]
     intro g
     rw [List.all_eq_true] at g
     exact e (by simpa using g _ (List.getElem_mem h1))
    generalize x.its[i]'h1 = T at *
    subst e1
    have BV0 : Hid (Below wr.heap.size wr (wr.alloc (.cells #[.int .i64 T.k, .int .i64 T.n, .string T.t, .slice Y3 T.its.length y3, .slice Y4 T.ks.length y4] 25))) := (Below.refl _ _).alloc (Nat.le_refl _) _
    have ND : Hid (NewD (wr.alloc (.cells #[.int .i64 T.k, .int .i64 T.n, .string T.t, .slice Y3 T.its.length y3, .slice Y4 T.ks.length y4] 25)) wr.heap.size (D.s T.t) [.string T.t]) := ⟨fun _ => False, fun _ h => h.elim, lies_s.2 rfl, fun _ h => h.elim⟩
    clear h1 HE
    by_cases h4 : T.k = 4
    rotate_left
    · have Z := Lib.hid (NO.out h4)
      have q4 : (T.k != 4) = true := by rw [bne_iff_ne]; exact h4
      clear h4 NO NX HR
      go_wp2_with fail
      go_ret2
      exact txp_no Z.out bqq
    have HE2 := Lib.hid (NX.out h4)
    have q4 : (T.k != 4) = false := by rw [bne_eq_false_iff_eq]; exact h4
    clear h4 NO NX
    go_wp2_with (at_builtin; go_loud (refine wpList_gat _ textT rfl (.tmp 29) (.tmp 32) rfl W.heap.size u8 _ rfl wr HG.out BV0.out 1 #[.string T.t] (by simp [Act.eval]) rfl (by simp [Value.oneCell']) (by rw [LJ.out]; omega) z _ ND.out ?_); intro v5 w5 g5 b5)
    have bl5 : Below W.heap.size W w5 := bl2.trans ((BV0.out.mono z).trans b5)
    go_wp2_with fail
    go_roundw
    case rel => exact ⟨i + 1, by omega, by go_num, HE2, by rw [TK.out]; exact g5, bl5⟩
    case measure => simp [intOf]; omega
  · obtain rfl : i = n := by omega
    have q : ¬ (i : Int) < (i : Int) := by omega
    have Z : Hid (R = some (x.its.map J.t)) := by
     show _ = _
     rw [HR.out, if_pos]
     rw [List.all_eq_true]
     intro y hy
     obtain ⟨m, hm, rfl⟩ := List.getElem_of_mem hy
     rw [decide_eq_true_eq]
     exact HE.out m hm (by rw [HN.out]; exact hm)
    have TK : x.its.take i = x.its := by rw [HN.out, List.take_length]
    rw [TK] at HG
    have HG2 := Lib.hid (GatS.less_ HG.out zW)
    clear HE HG HR TK hin
    go_wp2_with fail
    go_ret2
    exact txp_yes Z.out bw HG2.out
end Go.Proofs.YthogheglddfniaaGreatDoor
