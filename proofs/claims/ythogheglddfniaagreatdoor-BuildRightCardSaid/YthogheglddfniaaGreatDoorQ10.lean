/- Joined by tools/bundle.py: BC3 BdT JWt JRBulk SBulk BdW BC4. -/
import Derived.Deep.LoopGhost
import Derived.Deep.RegionHeldLaw
import Derived.OwnWalk
import Derived.Test.YthogheglddfniaaGreatDoorQ3
import Derived.Test.YthogheglddfniaaGreatDoorQ4
import Derived.Test.YthogheglddfniaaGreatDoorQ5
import Derived.Test.YthogheglddfniaaGreatDoorQ6
import Derived.Test.YthogheglddfniaaGreatDoorQ9
import Derived.Test.YthogheglddfniaaGreatDoorQ0
set_option maxRecDepth 100000
set_option maxHeartbeats 16000000
namespace Go.Proofs.YthogheglddfniaaGreatDoor
open Go.ChangeShapes Go.WideShapes Go.ChangeAt Go.RowKit Mem
theorem take_some {x : J} (S : Nat -> Prop) (j : J) (key : ByteArray) (w : World) (hS : ∀ b, S b -> b < w.heap.size) (A3 A4 : Option Addr) (c3 c4 : Nat) (ht : TreeS w S j [.int .i64 j.k, .int .i64 j.n, .string j.t, .slice A3 j.its.length c3, .slice A4 j.ks.length c4]) (hx : j.get key = some x) :
 Calls Tryz.prog 47 #[.agg #[.int .i64 j.k, .int .i64 j.n, .string j.t, .slice A3 j.its.length c3, .slice A4 j.ks.length c4], .string key] w (fun e w' => ∃ X3 x3 X4 x4, e = .returned (.tuple #[.agg #[.int .i64 x.k, .int .i64 x.n, .string x.t, .slice X3 x.its.length x3, .slice X4 x.ks.length x4], .bool true]) /\ TreeS w' S x [.int .i64 x.k, .int .i64 x.n, .string x.t, .slice X3 x.its.length x3, .slice X4 x.ks.length x4] /\ Below w.heap.size w w') := by
 have := item_any S j key w hS A3 A4 c3 c4 ht
 rw [hx] at this
 exact this
theorem take_none (S : Nat -> Prop) (j : J) (key : ByteArray) (w : World) (hS : ∀ b, S b -> b < w.heap.size) (A3 A4 : Option Addr) (c3 c4 : Nat) (ht : TreeS w S j [.int .i64 j.k, .int .i64 j.n, .string j.t, .slice A3 j.its.length c3, .slice A4 j.ks.length c4]) (hx : j.get key = none) :
 Calls Tryz.prog 47 #[.agg #[.int .i64 j.k, .int .i64 j.n, .string j.t, .slice A3 j.its.length c3, .slice A4 j.ks.length c4], .string key] w (fun e w' => ∃ X3 x3 X4 x4, e = .returned (.tuple #[.agg #[.int .i64 0, .int .i64 0, .string ⟨#[]⟩, .slice X3 0 x3, .slice X4 0 x4], .bool false]) /\ TreeS w' S J.zero [.int .i64 0, .int .i64 0, .string ⟨#[]⟩, .slice X3 0 x3, .slice X4 0 x4] /\ Below w.heap.size w w') := by
 have := item_any S j key w hS A3 A4 c3 c4 ht
 rw [hx] at this
 exact this
theorem one_yes {x : J} {kind : Int} (S : Nat -> Prop) (j : J) (key : ByteArray) (w : World) (hS : ∀ b, S b -> b < w.heap.size) (A3 A4 : Option Addr) (c3 c4 : Nat) (ht : TreeS w S j [.int .i64 j.k, .int .i64 j.n, .string j.t, .slice A3 j.its.length c3, .slice A4 j.ks.length c4]) (hx : j.get key = some x) (hk : x.k = kind) :
 Calls Tryz.prog 91 #[.func (.func 47) #[.agg #[.int .i64 j.k, .int .i64 j.n, .string j.t, .slice A3 j.its.length c3, .slice A4 j.ks.length c4]] #[], .string key, .int .i64 kind] w (fun e w' => ∃ X3 x3 X4 x4, e = .returned (.tuple #[.agg #[.int .i64 x.k, .int .i64 x.n, .string x.t, .slice X3 x.its.length x3, .slice X4 x.ks.length x4], .bool true]) /\ TreeS w' S x [.int .i64 x.k, .int .i64 x.n, .string x.t, .slice X3 x.its.length x3, .slice X4 x.ks.length x4] /\ Below w.heap.size w w') := by
 have := one_any S j key kind w hS A3 A4 c3 c4 ht
 rw [hx] at this
 refine this.mono fun e w' h => ?_
 obtain ⟨X3, x3, X4, x4, he, h1, h2⟩ := h
 refine ⟨X3, x3, X4, x4, ?_, h1, h2⟩
 rw [he]
 show Ending.returned (.tuple #[_, .bool (true && decide (x.k = kind))]) = _
 rw [decide_eq_true hk]; rfl
theorem one_no {kind : Int} (S : Nat -> Prop) (j : J) (key : ByteArray) (w : World) (hS : ∀ b, S b -> b < w.heap.size) (A3 A4 : Option Addr) (c3 c4 : Nat) (ht : TreeS w S j [.int .i64 j.k, .int .i64 j.n, .string j.t, .slice A3 j.its.length c3, .slice A4 j.ks.length c4]) (hx : ∀ x, j.get key = some x -> x.k ≠ kind) :
 Calls Tryz.prog 91 #[.func (.func 47) #[.agg #[.int .i64 j.k, .int .i64 j.n, .string j.t, .slice A3 j.its.length c3, .slice A4 j.ks.length c4]] #[], .string key, .int .i64 kind] w (fun e w' => ∃ K0 K1 K2 X3 l3 x3 X4 l4 x4, e = .returned (.tuple #[.agg #[.int .i64 K0, .int .i64 K1, .string K2, .slice X3 l3 x3, .slice X4 l4 x4], .bool false]) /\ Below w.heap.size w w') := by
 have := one_any S j key kind w hS A3 A4 c3 c4 ht
 refine this.mono fun e w' h => ?_
 obtain ⟨X3, x3, X4, x4, he, h1, h2⟩ := h
 refine ⟨(gotten (j.get key)).k, (gotten (j.get key)).n, (gotten (j.get key)).t, X3, (gotten (j.get key)).its.length, x3, X4, (gotten (j.get key)).ks.length, x4, ?_, h2⟩
 rw [he]
 have : ((j.get key).isSome && decide ((gotten (j.get key)).k = kind)) = false := by
  rcases ho : j.get key with _ | x
  · rfl
  · rw [Option.isSome_some, Bool.true_and]; exact decide_eq_false (hx x ho)
 rw [this]
def CallB (B : Kn -> J -> ByteArray -> Bres) (Q : J -> Prop) : Prop := ∀ (j : J) (sp : ByteArray) (X : Nat -> Prop) (g r : Nat) (ns : List Nd) (w : World) (S : Nat -> Prop), Q j -> sp.size <= 1000000 -> MkW X w g r ns -> (∀ b, S b -> b < g) -> ∀ (A3 A4 : Option Addr) (c3 c4 : Nat), TreeS w S j [.int .i64 j.k, .int .i64 j.n, .string j.t, .slice A3 j.its.length c3, .slice A4 j.ks.length c4] ->
 Calls Tryz.prog 22 #[.pointer (some ⟨g, 0, none⟩), .agg #[.int .i64 j.k, .int .i64 j.n, .string j.t, .slice A3 j.its.length c3, .slice A4 j.ks.length c4], .string sp] w (BPost X (B (ns.map er) j sp) g r ns w)
theorem blk_sav {w w' : World} {g r q : Nat} {t : TypeId} {cs : Array Value} (h : Blk w q t cs) (s : Sav g r w.heap.size w w') (h1 : q ≠ g) (h2 : q ≠ r) : Blk w' q t cs := (s.block q h.lt h1 h2).trans h
theorem Mem.Sav.nxt {g r r1 : Nat} {w w1 w2 : World} (s1 : Sav g r w.heap.size w w1) (hr : r1 = r ∨ w.heap.size <= r1) (s2 : Sav g r1 w1.heap.size w1 w2) : Sav g r w.heap.size w w2 :=
 ⟨s2.os.trans s1.os, s2.tape.trans s1.tape, s2.output.trans s1.output, Nat.le_trans s1.size s2.size, fun k h1 h2 h3 => (s2.block k (nll h1 s1.size) h2 (by rcases hr with rfl | h; exact h3; omega)).trans (s1.block k h1 h2 h3)⟩
theorem set_mid {ns ext : List Nd} {n m : Nd} : (ns ++ [n] ++ ext).set ns.length m = ns ++ m :: ext := by
 rw [List.append_assoc, List.set_append_right _ _ (nlr _), Nat.sub_self]; rfl
theorem er_snoc (ns : List Nd) (n : Nd) : (ns ++ [n]).map er = ns.map er ++ [er n] := by rw [List.map_append]; rfl
theorem list_any {X : Nat -> Prop} {B : Kn -> J -> ByteArray -> Bres} {Q : J -> Prop} (hB : CallB B Q) (j : J) (k : Int) (_hk11 : k = 11 ∨ k = 12) (key sp : ByteArray) (hsp : sp.size <= 1000000) (g r : Nat) (ns : List Nd) (w : World) (h : MkW X w g r ns) (S : Nat -> Prop) (hS : ∀ b, S b -> b < g) (A3 A4 : Option Addr) (c3 c4 : Nat) (ht : TreeS w S j [.int .i64 j.k, .int .i64 j.n, .string j.t, .slice A3 j.its.length c3, .slice A4 j.ks.length c4])
 (hQ : ∀ x, j.get key = some x -> Q x) (R : Bres) (hR : R = bmany B (ns.map er) j sp k key) :
 Calls Tryz.prog 92 #[.pointer (some ⟨g, 0, none⟩), .int .i64 k, .string key, .func (.func 47) #[.agg #[.int .i64 j.k, .int .i64 j.n, .string j.t, .slice A3 j.its.length c3, .slice A4 j.ks.length c4]] #[], .string sp] w (BPost X R g r ns w) := by
 have CS := cell_set
 have lg := h.mkr.lt
 have hl := h.len
 have hSw : ∀ b, S b -> b < w.heap.size := fun b hb => Nat.lt_trans (hS b hb) lg.1
 have SV : Hid (∀ W, Below w.heap.size w W -> Sav g r w.heap.size w W) := fun W b => Sav.of b
 cases ho : j.get key with
 | none =>
  have Z : Hid (R = .error 30) := by show _ = _; rw [hR]; unfold bmany; rw [ho]
  have IT := lhq (take_none S j key w hSw A3 A4 c3 c4 ht ho)
  clear hR hQ ho ht h hSw hB
  go_enter Tryz.func92, Tryz.ntmps92
  go_wp2_with fail
  with_reducible refine IT.out.mono ?_
  rintro e w1 ⟨X3, x3, X4, x4, rfl, _, b1⟩
  have s1 := b1.size
  go_wp2_with fail
  go_ret2
  exact bpost_no Z.out dcq _ (SV.out _ bqq)
 | some x =>
  have IT := lhq (take_some S j key w hSw A3 A4 c3 c4 ht ho)
  have qx := hQ x ho
  have HR : Hid (R = if ns.length = 200 then .error 3 else match B (ns.map er ++ [er (Nd.z k)]) x sp with | .error e => .error e | .ok (ext, p) => .ok ({ Nd.z k with items := (p : Int) } :: ext, ns.length)) := by
   show _ = _
   rw [hR]; unfold bmany; rw [ho, List.length_map]; rfl
  have MW := lhq (fun W (b : Below w.heap.size w W) => h.below b)
  have AD : Hid (∀ W, Below w.heap.size w W -> Calls Tryz.prog 87 #[.pointer (some ⟨g, 0, none⟩), .agg #[.int .i64 k, .string ⟨#[]⟩, .slice none 0 0, .slice none 0 0, .slice none 0 0, .bool false, .string ⟨#[]⟩, .int .i64 0, .int .i64 0, .slice none 0 0]] W (BPost X (if ns.length = 200 then .error 3 else .ok ([Nd.z k], ns.length)) g r ns W)) := fun W b => add_any (Nd.z k) g r ns W (h.below b) none none none none 0 0 0 0 z_lies _ rfl
  clear hR hQ ho ht h hSw
  go_enter Tryz.func92, Tryz.ntmps92
  go_wp2_with fail
  with_reducible refine IT.out.mono ?_
  rintro e w1 ⟨X3, x3, X4, x4, rfl, tx, b1⟩
  have s1 := b1.size
  have W1 : Hid (Below w.heap.size w (w1.alloc (.cells #[.int .i64 x.k, .int .i64 x.n, .string x.t, .slice X3 x.its.length x3, .slice X4 x.ks.length x4] 25))) := by show Below _ _ _; exact bqq
  have BX : Hid (B5 (w1.alloc (.cells #[.int .i64 x.k, .int .i64 x.n, .string x.t, .slice X3 x.its.length x3, .slice X4 x.ks.length x4] 25)) w1.heap.size 25 (.int .i64 x.k) (.int .i64 x.n) (.string x.t) (.slice X3 x.its.length x3) (.slice X4 x.ks.length x4)) := B5.newat rfl
  have TX := lhq tx
  have BB1 := lhq b1
  clear tx
  go_wp2_with fail
  with_reducible refine (AD.out _ W1.out).mono ?_
  rintro e w2 hp
  by_cases h200 : ns.length = 200
  · have Z : Hid (R = .error 3) := by show _ = _; rw [HR.out, if_pos h200]
    rw [if_pos h200] at hp
    obtain ⟨pl, rfl, _, sv⟩ := hp.no rfl
    have SS := lhq ((SV.out _ W1.out).trans (sv.mono W1.out.size))
    clear hp sv h200
    go_wp2_with fail
    go_ret2
    exact bpost_no Z.out dcq _ SS.out
  rw [if_neg h200] at hp
  obtain ⟨rfl, sv, r1, m1, hr1, hl1⟩ := hp.yes rfl
  have Z : Hid (R = match B ((ns ++ [Nd.z k]).map er) x sp with | .error e => .error e | .ok (ext, p) => .ok ({ Nd.z k with items := (p : Int) } :: ext, ns.length)) := by show _ = _; rw [HR.out, if_neg h200, er_snoc]
  have z1 := W1.out.size
  have SS : Hid (Sav g r w.heap.size w w2) := (SV.out _ W1.out).trans (sv.mono z1)
  have hr1' : r1 = r ∨ w.heap.size <= r1 := hr1.imp id fun k => Nat.le_trans z1 k
  have M1 : Hid (MkW X w2 g r1 (ns ++ [Nd.z k])) := (MW.out _ W1.out).go sv m1 hl1 hr1
  have lt1 := BX.out.lt
  have B2x : Hid (B5 w2 w1.heap.size 25 (.int .i64 x.k) (.int .i64 x.n) (.string x.t) (.slice X3 x.its.length x3) (.slice X4 x.ks.length x4)) := blk_sav BX.out sv omq omq
  have T2 : Hid (TreeS w2 S x [.int .i64 x.k, .int .i64 x.n, .string x.t, .slice X3 x.its.length x3, .slice X4 x.ks.length x4]) := (MW.out _ W1.out).tree sv hS (TreeS.keep (fun p hp => ((Below.refl w1.heap.size w1).alloc (nlr _) _).cell (by have := hS _ hp; omega)) (fun _ h => h) TX.out)
  have NC := lhq (hB x sp X g r1 (ns ++ [Nd.z k]) w2 S qx hsp M1.out hS X3 X4 x3 x4 T2.out)
  obtain ⟨_, _, _, _, _, _, _, _, _, _⟩ := B5.facts B2x.out
  clear hp sv h200 HR AD IT m1 TX
  go_wp2_with fail
  with_reducible refine NC.out.mono ?_
  rintro e w3 hp
  cases hb : B ((ns ++ [Nd.z k]).map er) x sp with
  | error z =>
   rw [hb] at hp Z
   obtain ⟨pl, rfl, hz, sv⟩ := hp.no rfl
   have S3 := lhq (SS.out.nxt hr1' sv)
   have qz : (z != 0) = true := by rw [bne_iff_ne]; exact hz
   have HZ := lhq hz
   clear hp sv hz hb NC
   go_wp2_with fail
   go_ret2
   exact bpost_no Z.out HZ.out _ S3.out
  | ok q =>
   obtain ⟨ext, p⟩ := q
   rw [hb] at hp Z
   obtain ⟨rfl, sv, r2, m2, hr2, hl2⟩ := hp.yes rfl
   have S3 := lhq (SS.out.nxt hr1' sv)
   have z2 := S3.out.size
   have hr2' : r2 = r ∨ w.heap.size <= r2 := by
    rcases hr2 with e | e
    · rw [e]; exact hr1'
    · exact .inr (Nat.le_trans (by have := SS.out.size; exact this) e)
   have lm := m2.lt
   have hin : ns.length < (ns ++ [Nd.z k] ++ ext).length := by simp
   obtain ⟨A, c, hB2, hc, hA, _, _⟩ := m2.out
   obtain rfl := hA omq
   obtain ⟨nl, hnl⟩ : ∃ m, m = (ns ++ [Nd.z k] ++ ext).length := ⟨_, rfl⟩
   rw [← hnl] at hB2
   obtain ⟨_, _, _, _⟩ := B2.facts hB2
   obtain ⟨Y2, y2, Y3, y3, Y4, y4, Y9, y9, ⟨_, _, _, _, _, _, _, _, ycell, _⟩, fz⟩ := m2.node hin
   have PU := m2.put (k := 8) hin omq { Nd.z k with items := (p : Int) } (.int .i64 (p : Int)) (fun _ => False) (fun _ h => h.elim) (fun S cs _ hcs => by
    rw [show (ns ++ [Nd.z k] ++ ext)[ns.length]'hin = Nd.z k by simp] at hcs
    obtain ⟨a2, d2, a3, d3, a4, d4, a9, d9, e, r⟩ := Nd.out.1 hcs
    rw [e]
    exact Nd.out.2 ⟨a2, d2, a3, d3, a4, d4, a9, d9, rfl, r⟩)
   rw [set_mid] at PU
   have PM := lhq PU.1
   have PS : Hid (Sav g r w.heap.size w (w3.setCell ⟨r2, ns.length * 10 + 8, none⟩ (.int .i64 (p : Int)))) := S3.out.nxt hr2' (PU.2)
   have f8 := fz (ns.length * 10 + 8)
   have hl3 : (ns ++ { Nd.z k with items := (p : Int) } :: ext).length <= 200 := by simp at hl2 ⊢; first | done | omega
   obtain ⟨n0, hn0⟩ : ∃ m, m = ns.length := ⟨_, rfl⟩
   have q1 : (n0 : Int) < (nl : Int) := by omega
   have q2 : ¬ (n0 : Int) < 0 := by omega
   have HL3 := lhq hl3
   generalize ((ns ++ [Nd.z k] ++ ext)[ns.length]'hin).items = Y8 at ycell
   rw [← hn0] at ycell f8 PM PS Z ⊢
   clear hp sv hb NC m2 hB2 hnl
   clear hn0
   go_wp2_with fail
   go_ret2
   exact bpost_ok Z.out rfl PS.out PM.out hr2' HL3.out
end Go.Proofs.YthogheglddfniaaGreatDoor
namespace Go.Proofs.YthogheglddfniaaGreatDoor
noncomputable def bbuild (j : J) : Except Int (List Nd) :=
 if j.rightb = true then match bnode 33 [] j ⟨#[]⟩ with
  | .error e => .error e
  | .ok (ext, _) => if (List.range ext.length).all (fun i => decide (Sc.wt ⟨ext, 0⟩ i <= 1000)) = true then .ok ext else .error 3
 else .error 2
theorem built {j : J} (hj : j.frm /\ j.deep <= 32) {f : Nat} {ext : List Nd} {p : Nat} {sp : ByteArray} (h : bnode f [] j sp = .ok (ext, p)) :
 p = 0 /\ 1 <= ext.length /\ ext.length <= 200 /\ met ⟨ext, 0⟩ f 0 = some ext.length /\ (∀ n ∈ ext, n.ok ⟨ext, 0⟩) /\ (Sc.names ⟨ext, 0⟩).Nodup := by
 have k := bnode_snd f [] j sp ext p smq (.inl hj) h
 have k1 := k.len; have k2 := k.lt
 simp only [List.length_nil, Nat.zero_add] at k1 k2
 have km := k.mt ⟨ext, 0⟩ [] [] smq rfl
 simp only [List.length_nil, Nat.zero_add] at km
 rcases km with ⟨_, g, _⟩ | ⟨g1, g2⟩
 · omega
 · refine ⟨g1, by omega, k1, g2, k.ok ⟨ext, 0⟩ [] [] smq rfl, ?_⟩
   have hn := k.nm (by unfold nmsK; simp)
   have e : nmsK ([] ++ ext.map er) = Sc.names ⟨ext, 0⟩ := by
    unfold nmsK Sc.names
    rw [List.nil_append, List.filter_map, List.map_map]
    rfl
   rwa [e] at hn
theorem built_right {j : J} {ns : List Nd} (h : bbuild j = .ok ns) : Sc.right ⟨ns, 0⟩ /\ ∃ p, bnode 33 [] j ⟨#[]⟩ = .ok (ns, p) := by
 unfold bbuild at h
 split at h
 · rename_i hr
   split at h
   · cases h
   · rename_i ext p hb
     split at h
     · rename_i hw
       simp only [Except.ok.injEq] at h
       subst h
       have jr := J.rightb_iff.1 hr
       obtain ⟨b1, b2, b3, b4, b5, b6⟩ := built ⟨jr.2, jr.1⟩ hb
       refine ⟨⟨⟨b2, b3, rfl, b4⟩, b5, fun i hi => ?_, b6⟩, p, hb⟩
       rw [List.all_eq_true] at hw
       have := hw i (List.mem_range.2 hi)
       simpa using this
     · cases h
 · cases h
theorem bbrs_fuel {B B' : Kn -> J -> ByteArray -> Bres} (sp : ByteArray) (c : Kn) : ∀ (its : List J) (ext : List Nd) (acc : List Nat), (∀ c sp, ∀ j ∈ its, B c j sp = B' c j sp) -> bbrs B sp c its ext acc = bbrs B' sp c its ext acc
 | [], _, _, _ => rfl
 | j :: r, ext, acc, h => by
  unfold bbrs
  rw [h _ sp j smq]
  split
  · rfl
  · split
    · exact bbrs_fuel sp c r _ _ fun c sp j hj => h c sp j (by simp [hj])
    · rfl
theorem bfields_fuel {B B' : Kn -> J -> ByteArray -> Bres} (sp : ByteArray) (c : Kn) : ∀ (its : List J) (ext : List Nd) (a : List Fd), (∀ c sp, ∀ j ∈ its, B c (gotten (j.get kType)) sp = B' c (gotten (j.get kType)) sp) -> bfields B sp c its ext a = bfields B' sp c its ext a
 | [], _, _, _ => rfl
 | j :: r, ext, a, h => by
  unfold bfields
  split
  · rfl
  · rw [h _ sp j smq]
    split
    · rfl
    · exact bfields_fuel sp c r _ _ fun c sp j hj => h c sp j (by simp [hj])
theorem got_deep {j : J} {k : ByteArray} {d : Nat} (h : j.deep <= d) : (gotten (j.get k)).deep <= d := by
 rcases hg : j.get k with _ | x
 · exact Nat.zero_le _
 · have := J.get_deep hg; show x.deep <= d; omega
theorem bnode_fuel : ∀ (f g : Nat) (j : J), j.deep <= f -> j.deep <= g -> ∀ c sp, bnode (f + 1) c j sp = bnode (g + 1) c j sp
 | f, g, j, hf, hg, c, sp => by
  have sub : ∀ y : J, y.deep + 1 <= j.deep -> ∀ c sp, bnode f c y sp = bnode g c y sp := fun y hy c sp => by
   obtain ⟨f', rfl⟩ : ∃ f', f = f' + 1 := ⟨f - 1, by omega⟩
   obtain ⟨g', rfl⟩ : ∃ g', g = g' + 1 := ⟨g - 1, by omega⟩
   exact bnode_fuel f' g' y omq omq c sp
  have many : ∀ c sp k key, bmany (bnode f) c j sp k key = bmany (bnode g) c j sp k key := fun c sp k key => by
   unfold bmany
   split
   · rfl
   · rename_i x hx
     rw [sub x (J.get_deep hx)]
  unfold bnode
  split
  · rfl
  · split
    · rename_i h5
      unfold bunion
      rw [bbrs_fuel sp _ j.its [] [] fun c sp y hy => sub y (by rw [J.deep_in (.inl h5)]; exact J.deeps_mem hy) c sp]
    · split
      · rfl
      · rw [many, many]
        split
        · rfl
        · split
          · rfl
          · split
            · unfold bnamed
              split
              · rfl
              · split
                · unfold brecord
                  split
                  · rfl
                  · rename_i y hy
                    split
                    · rename_i h5
                      rw [bfields_fuel _ _ y.its [] [] fun c sp z hz => sub _ (by
                       have a1 := J.get_deep hy
                       have a2 := J.deeps_mem hz
                       rw [← J.deep_in (.inl h5)] at a2
                       have := got_deep (j := z) (k := kType) (nlr _)
                       omega) c sp]
                    · rfl
                · rfl
            · rfl
 termination_by f => f
theorem J.deeps_bound {M : Nat} (hM : 1 <= M) : ∀ {l : List J}, (∀ i (h : i < l.length), (l[i]'h).deep + 1 <= M) -> J.deeps l <= M
 | [], _ => by unfold J.deeps; exact hM
 | j :: r, h => by
  unfold J.deeps
  have h0 := h 0 smq
  have hr := J.deeps_bound hM (l := r) (fun i hi => by have := h (i + 1) (by simpa using hi); simpa using this)
  simp at h0
  omega
theorem J.deep_bound {j : J} {M : Nat} (hM : 1 <= M) (h : ∀ i (g : i < j.its.length), (j.its[i]'g).deep + 1 <= M) : j.deep <= M := by
 by_cases hk : j.k = 5 ∨ j.k = 6
 · rw [J.deep_in hk]; exact J.deeps_bound hM h
 · rw [J.deep_out hk]; omega
def kwt : List ByteArray -> Nat
 | [] => 0
 | k :: r => 1 + k.size + kwt r
mutual
/-- How many parts and bytes a tree has. -/
def J.wt : J -> Nat
 | .mk _ _ t its ks => 1 + t.size + kwt ks + J.wts its
def J.wts : List J -> Nat
 | [] => 0
 | j :: r => J.wt j + J.wts r
end
theorem kwt_take : ∀ {l : List ByteArray} {i : Nat} (h : i < l.length), kwt (l.take (i + 1)) = kwt (l.take i) + 1 + (l[i]'h).size
 | [], _, h => absurd h (Nat.not_lt_zero _)
 | k :: r, 0, _ => by simp [kwt]
 | k :: r, i + 1, h => by
  have := kwt_take (l := r) (i := i) (by simpa using h)
  simp only [List.take_succ_cons, kwt, List.getElem_cons_succ]; omega
theorem J.wts_take : ∀ {l : List J} {i : Nat} (h : i < l.length), J.wts (l.take (i + 1)) = J.wts (l.take i) + (l[i]'h).wt
 | [], _, h => absurd h (Nat.not_lt_zero _)
 | k :: r, 0, _ => by simp [J.wts]
 | k :: r, i + 1, h => by
  have := J.wts_take (l := r) (i := i) (by simpa using h)
  simp only [List.take_succ_cons, J.wts, List.getElem_cons_succ]; omega
theorem kwt_at : ∀ {l : List ByteArray} {i : Nat} (h : i < l.length), (l[i]'h).size <= kwt l
 | [], _, h => absurd h (Nat.not_lt_zero _)
 | k :: r, 0, _ => by simp [kwt]; omega
 | k :: r, i + 1, h => by
  have := kwt_at (l := r) (i := i) (by simpa using h)
  simp only [kwt, List.getElem_cons_succ]; omega
theorem wts_at : ∀ {l : List J} {i : Nat} (h : i < l.length), (l[i]'h).wt <= J.wts l
 | [], _, h => absurd h (Nat.not_lt_zero _)
 | k :: r, 0, _ => by simp [J.wts]
 | k :: r, i + 1, h => by
  have := wts_at (l := r) (i := i) (by simpa using h)
  simp only [J.wts, List.getElem_cons_succ]; omega
end Go.Proofs.YthogheglddfniaaGreatDoor
namespace Go.Proofs.YthogheglddfniaaGreatDoor
open Go.ChangeShapes Go.WideShapes Go.ChangeAt Go.RowKit Mem
def Bul (t : J) (D : Nat) (w : World) (e : Ending) (w' : World) : Prop := ∃ n : Nat, e = .returned (.int .i64 (n : Int)) /\ n <= 4001 + 2000 * (61 - D) /\ (n <= 2000 -> t.deep + D <= 61 /\ t.wt = n) /\ Below w.heap.size w w'
theorem bul_ret {t : J} {D n : Nat} {z : Int} {w w' : World} (hz : z = (n : Int)) (h : n <= 4001 + 2000 * (61 - D)) (hd : n <= 2000 -> t.deep + D <= 61 /\ t.wt = n) (hb : Below w.heap.size w w') : Bul t D w (.returned (.int .i64 z)) w' := by subst hz; exact ⟨n, rfl, h, hd, hb⟩
theorem bulk_at : ∀ (N : Nat) (t : J), SizeOf.sizeOf t <= N -> ∀ (D : Nat) (w : World) (A3 A4 : Option Addr) (c3 c4 : Nat), D <= 61 ->
 TreeC w w.heap.size t [.int .i64 t.k, .int .i64 t.n, .string t.t, .slice A3 t.its.length c3, .slice A4 t.ks.length c4] ->
 Calls Tryz.prog 19 #[.agg #[.int .i64 t.k, .int .i64 t.n, .string t.t, .slice A3 t.its.length c3, .slice A4 t.ks.length c4], .int .i64 2000, .int .i64 (D : Int)] w (Bul t D w)
 | 0, t, h => by cases t; simp at h
 | N + 1, .mk k n s its ks, hN => by
  intro D w A3 A4 c3 c4 hD ht
  have CS := cell_set
  obtain ⟨_, _, _, _, e, hc3, hc4, rt, ft⟩ := ht.out
  simp only [J.k, J.n, J.t, J.its, J.ks, List.cons.injEq, Value.slice.injEq, true_and, and_true] at e hc3 hc4 rt ft
  obtain ⟨⟨rfl, rfl⟩, rfl, rfl⟩ := e
  have db : ∀ M, 1 <= M -> (∀ i (g : i < its.length), (its[i]'g).deep + 1 <= M) -> (J.mk k n s its ks).deep <= M := fun M hM h => J.deep_bound (j := .mk k n s its ks) hM h
  have wt : (J.mk k n s its ks).wt = 1 + s.size + kwt ks + J.wts its := by unfold J.wt; rfl
  have KT := lhq (fun i (h : i < ks.length) => kwt_take h)
  have WT := lhq (fun i (h : i < its.length) => J.wts_take h)
  have KA : Hid (kwt (ks.take ks.length) = kwt ks) := by show _ = _; rw [List.take_length]
  have WA : Hid (J.wts (its.take its.length) = J.wts its) := by show _ = _; rw [List.take_length]
  obtain ⟨KW, hKW⟩ : ∃ f : Nat -> Nat, f = fun i => kwt (ks.take i) := ⟨_, rfl⟩
  obtain ⟨JW, hJW⟩ : ∃ f : Nat -> Nat, f = fun i => J.wts (its.take i) := ⟨_, rfl⟩
  have KT' : Hid (∀ i (h : i < ks.length), KW (i + 1) = KW i + 1 + (ks[i]'h).size) := fun i h => by rw [hKW]; exact KT.out i h
  have WT' : Hid (∀ i (h : i < its.length), JW (i + 1) = JW i + (its[i]'h).wt) := fun i h => by rw [hJW]; exact WT.out i h
  have K0 : Hid (KW 0 = 0) := by show _ = _; rw [hKW]; rfl
  have J0 : Hid (JW 0 = 0) := by show _ = _; rw [hJW]; rfl
  have KA' : Hid (KW ks.length = kwt ks) := by show _ = _; rw [hKW]; exact KA.out
  have WA' : Hid (JW its.length = J.wts its) := by show _ = _; rw [hJW]; exact WA.out
  clear KT WT KA WA hKW hJW
  obtain ⟨T, hT⟩ : ∃ T, T = J.mk k n s its ks := ⟨_, rfl⟩
  rw [← hT] at wt
  have WT0 := lhq wt
  clear wt
  simp only [J.k, J.n, J.t, J.its, J.ks]
  rw [← hT] at db ⊢
  have IH : Hid (∀ (i : Nat) (h1 : i < its.length) (W : World) (A3 A4 : Option Addr) (c3 c4 : Nat), D + 1 <= 61 ->
   TreeC W W.heap.size (its[i]'h1) [.int .i64 (its[i]'h1).k, .int .i64 (its[i]'h1).n, .string (its[i]'h1).t, .slice A3 (its[i]'h1).its.length c3, .slice A4 (its[i]'h1).ks.length c4] ->
   Calls Tryz.prog 19 #[.agg #[.int .i64 (its[i]'h1).k, .int .i64 (its[i]'h1).n, .string (its[i]'h1).t, .slice A3 (its[i]'h1).its.length c3, .slice A4 (its[i]'h1).ks.length c4], .int .i64 2000, .int .i64 ((D : Int) + 1)] W (Bul (its[i]'h1) (D + 1) W)) := fun i h1 W A3 A4 c3 c4 hd a =>
   bulk_at N (its[i]'h1) (by have := J.lt_its (j := .mk k n s its ks) (i := i) h1; simp only [J.its] at this; omega) (D + 1) W A3 A4 c3 c4 hd a
  have RT := lhq rt; have FT := lhq ft; have DB := lhq db
  have hb4 := hc4.2
  have hb3 := hc3.2
  unfold maxLen at hb4 hb3
  obtain ⟨ni, hni⟩ : ∃ m, m = its.length := ⟨_, rfl⟩
  obtain ⟨nk, hnk⟩ : ∃ m, m = ks.length := ⟨_, rfl⟩
  have HNI := lhq hni; have HNK := lhq hnk
  rw [← hni] at hb3 ⊢
  rw [← hnk] at hb4 ⊢
  clear ht rt ft hN db hc3 hc4 hni hnk hT
  rw [← HNI.out] at WA'
  rw [← HNK.out] at KA'
  by_cases g1 : (60 : Int) < (D : Int)
  · go_enter Tryz.func19, Tryz.ntmps19
    go_wp2_with fail
    go_ret
    exact bul_ret (n := 2001) (by rfl) omq (fun h => by omega) bqq
  · by_cases g2 : (2000 : Int) < (s.size : Int)
    · go_enter Tryz.func19, Tryz.ntmps19
      go_wp2_with fail
      go_ret
      exact bul_ret (n := 2001) (by rfl) omq (fun h => by omega) bqq
    · by_cases g3 : (2000 : Int) < (nk : Int)
      · go_enter Tryz.func19, Tryz.ntmps19
        go_wp2_with fail
        go_ret
        exact bul_ret (n := 2001) (by rfl) omq (fun h => by omega) bqq
      · by_cases g4 : (2000 : Int) < (ni : Int)
        · go_enter Tryz.func19, Tryz.ntmps19
          go_wp2_with fail
          go_ret
          exact bul_ret (n := 2001) (by rfl) omq (fun h => by omega) bqq
        · have hD2 : D <= 60 := by omega
          have G0 : Below w.heap.size w (w.alloc (.cells #[.int .i64 k, .int .i64 n, .string s, .slice A3 ni c3, .slice A4 nk c4] 25)) := (Below.refl _ _).alloc (nlr _) _
          have gz0 : (w.alloc (.cells #[.int .i64 k, .int .i64 n, .string s, .slice A3 ni c3, .slice A4 nk c4] 25)).heap.size = w.heap.size + 1 := by simp
          have GZ0 := lhq gz0
          clear gz0
          go_enter Tryz.func19, Tryz.ntmps19
          go_wp2_with fail
          go_loopw [7, 8] (fun m t wr => ∃ i v : Nat, i <= nk /\ v <= 4001 /\ Hid (v = 1 + s.size + KW i) /\ t = .int .i64 (i : Int) /\ m = .int .i64 (v : Int) /\ wr = (w.alloc (.cells #[.int .i64 k, .int .i64 n, .string s, .slice A3 ni c3, .slice A4 nk c4] 25))) (fun _ t _ => nk - (intOf t).toNat)
          case atStart => exact ⟨0, 1 + s.size, Nat.zero_le _, by omega, (by show _ = _; rw [K0.out, Nat.add_zero]), rfl, by push_cast; rfl, by first | rfl | trivial⟩
          case round =>
           obtain ⟨i, v, hik, hv, HVV, rfl, rfl, rfl⟩ := hrel
           by_cases h1 : i < nk /\ v <= 2000
           · obtain ⟨h1, h2⟩ := h1
             have h1' : i < ks.length := by rw [← HNK.out]; exact h1
             obtain ⟨b8, o8, e8, hb8, z0⟩ := fl_str FT.out h1'
             have q2 : (v : Int) <= 2000 := by omega
             have HV2 : Hid (v + 1 + (ks[i]'h1').size = 1 + s.size + KW (i + 1)) := by
              show _ = _
              have := HVV.out; have := KT'.out i h1'; omega
             clear HVV
             generalize ks[i]'h1' = Y at *
             subst e8
             have lb8 : b8 < w.heap.size := hb8
             by_cases hy : (2000 : Int) < (Y.size : Int)
             · go_wp2_with fail
               go_ret
               exact bul_ret (n := 2001) (by rfl) omq (fun h => by omega) bqq
             · go_wp2_with fail
               go_roundw
               case rel => exact ⟨i + 1, v + 1 + Y.size, by omega, by omega, HV2, by go_num, by push_cast; rfl, by first | rfl | trivial⟩
               case measure => simp [intOf]; omega
           · have h2 : ¬ (i : Int) < (nk : Int) ∨ (i : Int) < (nk : Int) /\ ¬ (v : Int) <= 2000 := by omega
             have HV3 : Hid (v <= 2000 -> v = 1 + s.size + kwt ks) := fun hv2 => by
              have e : i = nk := by omega
              have := HVV.out; have := KA'.out
              rw [e] at *; omega
             clear h1 HVV
             rcases h2 with h2 | ⟨h2, h3⟩
             all_goals
              go_wp2_with fail
              go_loopw [7, 9] (fun m t wr => ∃ p u : Nat, p <= ni /\ u <= 4001 + 2000 * (61 - D) /\ t = .int .i64 (p : Int) /\ m = .int .i64 (u : Int) /\ Hid (∀ j (h : j < its.length), j < p -> u <= 2000 -> (its[j]'h).deep + D + 1 <= 61) /\ Hid (u <= 2000 -> u = 1 + s.size + kwt ks + JW p) /\ Below (w.heap.size + 1) (w.alloc (.cells #[.int .i64 k, .int .i64 n, .string s, .slice A3 ni c3, .slice A4 nk c4] 25)) wr) (fun _ t _ => ni - (intOf t).toNat)
              case atStart => exact ⟨0, v, Nat.zero_le _, by omega, rfl, rfl, fun _ _ h => absurd h (Nat.not_lt_zero _), (fun h => by have := HV3.out h; have := J0.out; omega), Below.refl _ _⟩
              case round =>
               obtain ⟨p, u, hp, hu, rfl, rfl, HE, HU, bl⟩ := hrel
               have gsz := bl.size
               rw [GZ0.out] at gsz
               have gsz2 : w.heap.size <= wr.heap.size := by omega
               have blw := G0.trans (bl.mono omq)
               have hO := nll (n := w.heap.size) sdd (Below.size bl)
               have hO1 := Nat.ne_of_gt hO
               have hO2 := Nat.ne_of_lt hO
               have hO := (Below.cell bl (p := ⟨w.heap.size, 0, none⟩) sdd).trans gsr
               have hO := (Below.cell bl (p := ⟨w.heap.size, 1, none⟩) sdd).trans gsr
               have hO := (Below.cell bl (p := ⟨w.heap.size, 2, none⟩) sdd).trans gsr
               have hO := (Below.cell bl (p := ⟨w.heap.size, 3, none⟩) sdd).trans gsr
               have hO := (Below.cell bl (p := ⟨w.heap.size, 4, none⟩) sdd).trans gsr
               have hO := (Below.frozen bl (p := ⟨w.heap.size, 0, none⟩) sdd).trans gsr
               have hO := (Below.frozen bl (p := ⟨w.heap.size, 1, none⟩) sdd).trans gsr
               have hO := (Below.frozen bl (p := ⟨w.heap.size, 2, none⟩) sdd).trans gsr
               have hO := (Below.frozen bl (p := ⟨w.heap.size, 3, none⟩) sdd).trans gsr
               have hO := (Below.frozen bl (p := ⟨w.heap.size, 4, none⟩) sdd).trans gsr
               by_cases h4 : p < ni /\ u <= 2000
               · obtain ⟨h4, h5⟩ := h4
                 have h1' : p < its.length := by rw [← HNI.out]; exact h4
                 obtain ⟨b1, o1, X3, x3, X4, x4, e1, hb1, y0, y1, y2, y3, y4, ty⟩ := (RT.out.below blw).cells h1'
                 have I2 := lhq (fun W a => IH.out p h1' W X3 X4 x3 x4 omq a)
                 have he := HE.out
                 have q5 : (u : Int) <= 2000 := by omega
                 have HE2 : Hid (∀ n', (n' <= 2000 -> (its[p]'h1').deep + (D + 1) <= 61) -> ∀ j (h : j < its.length), j < p + 1 -> u + n' <= 2000 -> (its[j]'h).deep + D + 1 <= 61) := fun n' hn j h hj hs => by
                  rcases Nat.lt_or_ge j p with g | g
                  · exact he j h g omq
                  · obtain rfl : j = p := by omega
                    have := hn omq; omega
                 have HU2 : Hid (∀ n', (n' <= 2000 -> (its[p]'h1').wt = n') -> u + n' <= 2000 -> u + n' = 1 + s.size + kwt ks + JW (p + 1)) := fun n' hn hs => by
                  have := HU.out h5; have := WT'.out p h1'; have := hn omq; omega
                 clear HU
                 generalize its[p]'h1' = T' at *
                 subst e1
                 have TY := lhq (ty.more gsz2)
                 clear ty h1' he
                 go_wp2_with fail
                 with_reducible refine (I2.out _ TY.out).mono ?_
                 rintro e w3 ⟨n', rfl, hn1, hn2, b3⟩
                 have HN2 := lhq (HE2.out n' (fun h => (hn2 h).1))
                 have HN3 := lhq (HU2.out n' (fun h => (hn2 h).2))
                 clear hn2
                 go_wp2_with fail
                 go_roundw
                 case rel => exact ⟨p + 1, u + n', by omega, by omega, by go_num, by push_cast; rfl, HN2, HN3, bl.trans (b3.mono gsz)⟩
                 case measure => simp [intOf]; omega
               · have h5 : ¬ (p : Int) < (ni : Int) ∨ (p : Int) < (ni : Int) /\ ¬ (u : Int) <= 2000 := by omega
                 have fin : u <= 2000 -> T.deep + D <= 61 /\ T.wt = u := fun hu2 => by
                  have e := HU.out hu2
                  have wt := WT0.out
                  have pe : p = ni := by omega
                  have wa := WA'.out
                  rw [pe] at e
                  refine ⟨?_, by omega⟩
                  have := DB.out (61 - D) omq (fun i g => by have := HE.out i g (by rw [← HNI.out] at g; omega) hu2; omega)
                  omega
                 have FIN := lhq fin
                 clear fin h4 HE HU
                 rcases h5 with h5 | ⟨h5, h6⟩
                 all_goals
                  go_wp2_with fail
                  go_ret
                  exact bul_ret (n := u) (by rfl) hu FIN.out bqq
theorem bulk_any (t : J) (D : Nat) (w : World) (A3 A4 : Option Addr) (c3 c4 : Nat) (hD : D <= 61) (ht : TreeC w w.heap.size t [.int .i64 t.k, .int .i64 t.n, .string t.t, .slice A3 t.its.length c3, .slice A4 t.ks.length c4]) :
 Calls Tryz.prog 19 #[.agg #[.int .i64 t.k, .int .i64 t.n, .string t.t, .slice A3 t.its.length c3, .slice A4 t.ks.length c4], .int .i64 2000, .int .i64 (D : Int)] w (Bul t D w) := bulk_at _ t (nlr _) D w A3 A4 c3 c4 hD ht
end Go.Proofs.YthogheglddfniaaGreatDoor
namespace Go.Proofs.YthogheglddfniaaGreatDoor
open Go.ChangeShapes Go.WideShapes Go.ChangeAt Go.RowKit Mem
theorem great_any (t : J) (w : World) (A3 A4 : Option Addr) (c3 c4 : Nat) (ht : TreeC w w.heap.size t [.int .i64 t.k, .int .i64 t.n, .string t.t, .slice A3 t.its.length c3, .slice A4 t.ks.length c4]) :
 Calls Tryz.prog 7 #[.agg #[.int .i64 t.k, .int .i64 t.n, .string t.t, .slice A3 t.its.length c3, .slice A4 t.ks.length c4]] w (fun e w' => ∃ b : Bool, e = .returned (.bool b) /\ (b = false -> t.deep <= 61 /\ t.wt <= 2000) /\ Below w.heap.size w w') := by
 have CS := cell_set
 have W1 : Below w.heap.size w (w.alloc (.cells #[.int .i64 t.k, .int .i64 t.n, .string t.t, .slice A3 t.its.length c3, .slice A4 t.ks.length c4] 25)) := bqq
 have b0 := bulk_any t 0 _ A3 A4 c3 c4 omq ((ht.below W1).more W1.size)
 rw [show ((0 : Nat) : Int) = 0 from rfl] at b0
 have B0 := lhq b0
 clear b0
 go_enter Tryz.func7, Tryz.ntmps7
 go_wp2_with fail
 with_reducible refine B0.out.mono ?_
 rintro e w3 ⟨n, rfl, hn, hd, b3⟩
 have bw : Below w.heap.size w w3 := bqq
 have HD := lhq hd
 clear hd
 by_cases h : (2000 : Int) < (n : Int)
 · go_wp2_with fail
   go_ret
   exact ⟨true, rfl, (fun h => by cases h), bw⟩
 · go_wp2_with fail
   go_ret
   have q : decide ((2000 : Int) < (n : Int)) = false := by simpa using h
   exact ⟨false, by first | rfl | exact congrArg (fun b => Ending.returned (.bool b)) q, (fun _ => by have := HD.out omq; omega), bw⟩
def txF : List ByteArray -> Nat -> Nat
 | [], n => n
 | t :: r, n => if n <= 2500 then (if 2500 < t.size then 2501 else txF r (n + t.size)) else n
def tx (l : List ByteArray) : Nat := if 2500 < l.length then 2501 else txF l l.length
def Fd.sm (f : Fd) : Prop := f.name.size <= 2500 /\ kwt f.al <= 10000 /\ f.df.wt <= 2500 /\ f.df.deep <= 61
def Nd.sm (n : Nd) : Prop := n.name.size <= 2500 /\ n.fs.length <= 2500 /\ n.br.length <= 2500 /\ n.df.size <= 2500 /\ kwt n.al <= 10000 /\ kwt n.sy <= 10000 /\ ∀ i (h : i < n.fs.length), (n.fs[i]'h).sm
def Sc.sm (s : Sc) : Prop := s.nodes.length <= 2500 /\ ∀ i (h : i < s.nodes.length), (s.nodes[i]'h).sm
end Go.Proofs.YthogheglddfniaaGreatDoor
namespace Go.Proofs.YthogheglddfniaaGreatDoor
theorem J.wts_mem {l : List J} {x : J} (h : x ∈ l) : x.wt <= J.wts l := by
 obtain ⟨i, hi, rfl⟩ := List.getElem_of_mem h
 exact wts_at hi
theorem J.its_wt (j : J) : J.wts j.its + 1 <= j.wt := by
 cases j with
 | mk k n t its ks => unfold J.wt; show J.wts its + 1 <= _; omega
theorem J.get_wt {j x : J} {k : ByteArray} (h : j.get k = some x) : x.wt <= j.wt := by
 have a := J.wts_mem (J.get_in h).2
 have b := J.its_wt j
 omega
theorem got_wt (j : J) (k : ByteArray) : (gotten (j.get k)).wt <= j.wt := by
 rcases h : j.get k with _ | x
 · have b := J.its_wt j
   have : (gotten none).wt = 1 := by show J.zero.wt = 1; unfold J.zero J.wt kwt J.wts; rfl
   omega
 · exact J.get_wt h
def DfW (W : Nat) (ext : List Nd) : Prop := ∀ n ∈ ext, ∀ f ∈ n.fs, f.df.wt <= W
theorem DfW.app {W : Nat} {a b : List Nd} (h : DfW W a) (k : DfW W b) : DfW W (a ++ b) := fun n hn => (List.mem_append.1 hn).elim (h n) (k n)
theorem DfW.cons {W : Nat} {n : Nd} {b : List Nd} (h : ∀ f ∈ n.fs, f.df.wt <= W) (k : DfW W b) : DfW W (n :: b) := fun m hm => by
 rcases List.mem_cons.1 hm with rfl | g
 · exact h
 · exact k m g
theorem DfW.nil_ {W : Nat} : DfW W [] := fun _ h => by cases h
def DfB (W : Nat) (B : Kn -> J -> ByteArray -> Bres) : Prop := ∀ (c : Kn) (j : J) (sp : ByteArray) (ext : List Nd) (p : Nat), j.wt <= W -> B c j sp = .ok (ext, p) -> DfW W ext
theorem df_word {W : Nat} {c : Kn} {w sp : ByteArray} {ext : List Nd} {p : Nat} (h : bword c w sp = .ok (ext, p)) : DfW W ext := by
 unfold bword at h
 split at h
 · split at h
   · cases h
   · simp only [Except.ok.injEq, Prod.mk.injEq] at h
     obtain ⟨rfl, _⟩ := h
     exact DfW.cons (fun f hf => by cases hf) DfW.nil_
 · split at h
   · cases h
   · split at h
     · cases h
     · simp only [Except.ok.injEq, Prod.mk.injEq] at h
       obtain ⟨rfl, _⟩ := h
       exact DfW.nil_
theorem df_brs {W : Nat} {B : Kn -> J -> ByteArray -> Bres} (hB : DfB W B) (sp : ByteArray) (c : Kn) : ∀ (its : List J) (ext : List Nd) (acc : List Nat) (ext' : List Nd) (acc' : List Nat), (∀ j ∈ its, j.wt <= W) -> DfW W ext -> bbrs B sp c its ext acc = .ok (ext', acc') -> DfW W ext'
 | [], _, _, _, _, _, hI, h => by
  unfold bbrs at h
  simp only [Except.ok.injEq, Prod.mk.injEq] at h
  obtain ⟨rfl, _⟩ := h
  exact hI
 | j :: r, _, _, _, _, hj, hI, h => by
  unfold bbrs at h
  split at h
  · cases h
  · rename_i x p hb
    split at h
    · exact df_brs hB sp c r _ _ _ _ (fun j g => hj j (by simp [g])) (hI.app (hB _ _ _ _ _ (hj j smq) hb)) h
    · cases h
theorem df_fields {W : Nat} {B : Kn -> J -> ByteArray -> Bres} (hB : DfB W B) (sp : ByteArray) (c : Kn) : ∀ (its : List J) (ext : List Nd) (a : List Fd) (ext' : List Nd) (a' : List Fd), (∀ j ∈ its, j.wt <= W) -> DfW W ext -> (∀ f ∈ a, f.df.wt <= W) -> bfields B sp c its ext a = .ok (ext', a') -> DfW W ext' /\ ∀ f ∈ a', f.df.wt <= W
 | [], _, _, _, _, _, hI, hA, h => by
  unfold bfields at h
  simp only [Except.ok.injEq, Prod.mk.injEq] at h
  obtain ⟨rfl, rfl⟩ := h
  exact ⟨hI, hA⟩
 | j :: r, _, a, _, _, hj, hI, hA, h => by
  unfold bfields at h
  split at h
  · cases h
  · rename_i fd hfd
    split at h
    · cases h
    · rename_i x p hb
      have jw := hj j smq
      have fw : fd.df.wt <= W := by
       unfold bfield at hfd
       split at hfd
       · cases hfd
       · split at hfd
         · cases hfd
         · split at hfd
           · cases hfd
           · split at hfd
             · cases hfd
             · simp only [Except.ok.injEq] at hfd
               subst hfd
               exact Nat.le_trans (got_wt j kDefault) jw
      refine df_fields hB sp c r _ _ _ _ (fun j g => hj j (by simp [g])) (hI.app (hB _ _ _ _ _ (Nat.le_trans (got_wt j kType) jw) hb)) (fun f hf => ?_) h
      rcases List.mem_append.1 hf with g | g
      · exact hA f g
      · obtain rfl := List.mem_singleton.1 g; exact fw
theorem df_many {W : Nat} {B : Kn -> J -> ByteArray -> Bres} (hB : DfB W B) {c : Kn} {j : J} {sp : ByteArray} {k : Int} {key : ByteArray} {ext : List Nd} {p : Nat} (hj : j.wt <= W) (h : bmany B c j sp k key = .ok (ext, p)) : DfW W ext := by
 unfold bmany at h
 split at h
 · cases h
 · rename_i y hy
   split at h
   · cases h
   · split at h
     · cases h
     · rename_i x q hb
       simp only [Except.ok.injEq, Prod.mk.injEq] at h
       obtain ⟨rfl, _⟩ := h
       exact DfW.cons (fun f hf => by cases hf) (hB _ _ _ _ _ (Nat.le_trans (J.get_wt hy) hj) hb)
theorem bnode_df (W : Nat) : ∀ f, DfB W (bnode f)
 | 0, c, j, sp, ext, p, _, h => by unfold bnode at h; cases h
 | f + 1, c, j, sp, ext, p, hj, h => by
  have ih := bnode_df W f
  have jw := J.its_wt j
  unfold bnode at h
  split at h
  · exact df_word h
  · split at h
    · unfold bunion at h
      split at h
      · cases h
      · split at h
        · cases h
        · split at h
          · cases h
          · rename_i x br hb
            simp only [Except.ok.injEq, Prod.mk.injEq] at h
            obtain ⟨rfl, _⟩ := h
            exact DfW.cons (fun f hf => by cases hf) (df_brs ih sp _ _ _ _ _ _ (fun z hz => by have := J.wts_mem hz; omega) DfW.nil_ hb)
    · split at h
      · cases h
      · split at h
        · exact df_many ih hj h
        · split at h
          · exact df_many ih hj h
          · split at h
            · unfold bnamed at h
              split at h
              · cases h
              · split at h
                · unfold brecord at h
                  split at h
                  · cases h
                  · rename_i y hy
                    have yw := J.its_wt y
                    have yj := J.get_wt hy
                    split at h
                    · split at h
                      · cases h
                      · split at h
                        · cases h
                        · split at h
                          · cases h
                          · rename_i x fs hb
                            simp only [Except.ok.injEq, Prod.mk.injEq] at h
                            obtain ⟨rfl, _⟩ := h
                            obtain ⟨a1, a2⟩ := df_fields ih _ _ _ _ _ _ _ (fun z hz => by have := J.wts_mem hz; omega) DfW.nil_ (fun f hf => by cases hf) hb
                            exact DfW.cons a2 a1
                    · cases h
                · split at h
                  · split at h
                    · cases h
                    · split at h
                      · cases h
                      · simp only [Except.ok.injEq, Prod.mk.injEq] at h
                        obtain ⟨rfl, _⟩ := h
                        exact DfW.cons (fun f hf => by cases hf) DfW.nil_
                  · split at h
                    · cases h
                    · split at h
                      · cases h
                      · simp only [Except.ok.injEq, Prod.mk.injEq] at h
                        obtain ⟨rfl, _⟩ := h
                        exact DfW.cons (fun f hf => by cases hf) DfW.nil_
            · exact df_word h
theorem full_size {t : ByteArray} (h : Nm.full t.data.toList = true) : t.size <= 100 := by
 unfold Nm.full at h
 rw [Bool.and_eq_true, decide_eq_true_eq, Array.length_toList] at h
 exact h.1
theorem simple_size {t : ByteArray} (h : Nm.simple t.data.toList = true) : t.size <= 100 := by
 unfold Nm.simple at h
 simp only [Bool.and_eq_true, decide_eq_true_eq, Array.length_toList] at h
 exact h.1.1.2
theorem kwt_le {m : Nat} : ∀ {l : List ByteArray}, (∀ t ∈ l, t.size <= m) -> kwt l <= l.length * (m + 1)
 | [], _ => by unfold kwt; omega
 | t :: r, h => by
  unfold kwt
  have a := h t smq
  have b := kwt_le (l := r) fun t g => h t (by simp [g])
  rw [List.length_cons, Nat.add_mul]
  omega
theorem kwt_40 {l : List ByteArray} (hl : l.length <= 40) (h : ∀ t ∈ l, t.size <= 100) : kwt l <= 4040 := by
 have a := kwt_le h
 have : l.length * (100 + 1) <= 40 * (100 + 1) := Nat.mul_le_mul_right _ hl
 omega
theorem right_sm {s : Sc} (h : s.nodes.length <= 200 /\ ∀ n ∈ s.nodes, n.ok s) (hd : DfW 2500 s.nodes) : s.sm := by
 refine ⟨by omega, fun i hi => ?_⟩
 have hn := h.2 _ (List.getElem_mem hi)
 have df := hd _ (List.getElem_mem hi)
 generalize s.nodes[i]'hi = n at *
 obtain ⟨k1, k14, h1, h2, h3, h4, h5, h6⟩ := hn
 have nm : n.name.size <= 100 /\ kwt n.al <= 4040 := by
  by_cases g : named n.k = true
  · rw [if_pos g] at h1
    exact ⟨full_size h1.1.1, kwt_40 h1.2.1 fun t ht => full_size (h1.2.2 t ht)⟩
  · rw [if_neg g] at h1
    obtain ⟨e1, e2⟩ := h1
    rw [e1, e2]
    exact ⟨Nat.zero_le _, Nat.zero_le _⟩
 have sy : kwt n.sy <= 4040 /\ n.df.size <= 100 := by
  by_cases g : n.k = 10
  · rw [if_pos g] at h3
    obtain ⟨_, ⟨a1, a2⟩, _, a4⟩ := h3
    refine ⟨kwt_40 a1 fun t ht => simple_size (a2 t ht), ?_⟩
    by_cases e : n.has = true
    · rw [if_pos e] at a4; exact simple_size (a2 _ a4)
    · rw [if_neg e] at a4; rw [a4]; exact Nat.zero_le _
  · rw [if_neg g] at h3
    obtain ⟨e1, _, e3⟩ := h3
    rw [e1, e3]
    exact ⟨Nat.zero_le _, Nat.zero_le _⟩
 have br : n.br.length <= 10 := by
  by_cases g : n.k = 13
  · rw [if_pos g] at h6; exact h6.2.1
  · rw [if_neg g] at h6; rw [h6]; exact Nat.zero_le _
 have fs : n.fs.length <= 40 /\ ∀ f ∈ n.fs, f.sm := by
  by_cases g : n.k = 9
  · rw [if_pos g] at h2
    obtain ⟨⟨a1, a2⟩, _, a3⟩ := h2
    rw [List.length_map] at a1
    refine ⟨a1, fun f hf => ?_⟩
    obtain ⟨⟨c1, c2⟩, c3⟩ := a3 f hf
    have fw := df f hf
    refine ⟨Nat.le_trans (simple_size (a2 _ (List.mem_map_of_mem hf))) omq, Nat.le_trans (kwt_40 c1 fun t ht => simple_size (c2 t ht)) omq, fw, ?_⟩
    by_cases e : f.has = true
    · rw [if_pos e] at c3; omega
    · rw [if_neg e] at c3; rw [c3]; exact Nat.zero_le _
  · rw [if_neg g] at h2; rw [h2]; exact ⟨Nat.zero_le _, fun _ h => by cases h⟩
 exact ⟨by omega, by omega, by omega, by omega, by omega, by omega, fun i hi => fs.2 _ (List.getElem_mem hi)⟩
end Go.Proofs.YthogheglddfniaaGreatDoor
namespace Go.Proofs.YthogheglddfniaaGreatDoor
open Go.ChangeShapes Go.WideShapes Go.ChangeAt Go.RowKit Mem
theorem wts_ln12 : ∀ (l : List J), l.length <= J.wts l
 | [] => Nat.zero_le _
 | j :: r => by
  have := wts_ln12 r
  have := J.its_wt j
  unfold J.wts
  rw [List.length_cons]
  omega
def TxP (R : Option (List ByteArray)) (w : World) (e : Ending) (w' : World) : Prop :=
 Below w.heap.size w w' /\ (R = none -> e = .returned (.tuple #[.slice none 0 0, .bool false])) /\ ∀ l, R = some l -> ∃ v, e = .returned (.tuple #[v, .bool true]) /\ GatS w' w.heap.size 9 1 v (l.map D.s)
theorem txp_no {R : Option (List ByteArray)} {w w' : World} (h : R = none) (b : Below w.heap.size w w') : TxP R w (.returned (.tuple #[.slice none 0 0, .bool false])) w' := ⟨b, fun _ => rfl, fun l hl => by rw [h] at hl; cases hl⟩
theorem txp_yes {R : Option (List ByteArray)} {l : List ByteArray} {v : Value} {w w' : World} (h : R = some l) (b : Below w.heap.size w w') (g : GatS w' w.heap.size 9 1 v (l.map D.s)) : TxP R w (.returned (.tuple #[v, .bool true])) w' :=
 ⟨b, (fun e => by rw [h] at e; cases e), fun l' hl => by rw [h] at hl; obtain rfl := Option.some.inj hl; exact ⟨v, rfl, g⟩⟩
theorem GatS.less_ {w : World} {base base' : Nat} {e : TypeId} {s : Nat} {v : Value} {ds : List D} (h : GatS w base e s v ds) (hb : base' <= base) : GatS w base' e s v ds := by
 obtain ⟨S, xs, h1, h2, h3, h4⟩ := h
 exact ⟨S, xs, h1.less hb, h2, fun b hs => ⟨Nat.le_trans hb (h3 b hs).1, (h3 b hs).2⟩, h4⟩
theorem texts_any (S : Nat -> Prop) (j : J) (key : ByteArray) (w : World) (hS : ∀ b, S b -> b < w.heap.size) (A3 A4 : Option Addr) (c3 c4 : Nat) (ht : TreeS w S j [.int .i64 j.k, .int .i64 j.n, .string j.t, .slice A3 j.its.length c3, .slice A4 j.ks.length c4]) (hw : j.wt <= 1000000) (R : Option (List ByteArray)) (hR : R = (j.get key).bind btexts) :
 Calls Tryz.prog 161 #[.func (.func 47) #[.agg #[.int .i64 j.k, .int .i64 j.n, .string j.t, .slice A3 j.its.length c3, .slice A4 j.ks.length c4]] #[], .string key] w (TxP R w) := by
 have CS := cell_set
 by_cases hk : ∃ x, j.get key = some x /\ x.k = 5
 rotate_left
 · have Z : Hid (R = none) := by
    show _ = _
    rw [hR]
    rcases ho : j.get key with _ | x
    · rfl
    · show btexts x = none
      unfold btexts
      rw [if_neg fun g => hk ⟨x, ho, g.1⟩]
   have IT := lhq (one_no (kind := 5) S j key w hS A3 A4 c3 c4 ht fun x hx e => hk ⟨x, hx, e⟩)
   clear hR hk ht hS
   go_enter Tryz.func161, Tryz.ntmps161
   go_wp2_with fail
   with_reducible refine IT.out.mono ?_
   rintro e w1 ⟨K0, K1, K2, X3, l3, x3, X4, l4, x4, rfl, b1⟩
   have s1 := b1.size
   go_wp2_with fail
   go_ret2
   exact txp_no Z.out bqq
 obtain ⟨x, hx, hk⟩ := hk
 have IT := lhq (one_yes S j key w hS A3 A4 c3 c4 ht hx hk)
 have xw : J.wts x.its + 1 <= 1000000 := by have := J.its_wt x; have := J.get_wt hx; omega
 have HR : Hid (R = if (x.its.all fun y => decide (y.k = 4)) = true then some (x.its.map J.t) else none) := by
  show _ = _
  rw [hR, hx]
  show btexts x = _
  unfold btexts
  by_cases g : (x.its.all fun y => decide (y.k = 4)) = true
  · rw [if_pos ⟨hk, g⟩, if_pos g]
  · rw [if_neg (fun q => g q.2), if_neg g]
 have HS := lhq hS
 have ln : x.its.length <= 1000000 := by have := wts_ln12 x.its; omega
 clear hR ht hS hx hk
 go_enter Tryz.func161, Tryz.ntmps161
 go_wp2_with fail
 with_reducible refine IT.out.mono ?_
 rintro e w1 ⟨X3, x3, X4, x4, rfl, tx, b1⟩
 have s1 := b1.size
 obtain ⟨_, _, _, _, e, _, _, rt, _⟩ := TreeS.out tx
 simp only [List.cons.injEq, Value.slice.injEq, true_and, and_true] at e
 obtain ⟨⟨rfl, rfl⟩, rfl, rfl⟩ := e
 obtain ⟨n, hn⟩ : ∃ m, m = x.its.length := ⟨_, rfl⟩
 have HN := lhq hn
 have B0 : Hid (B5 (w1.alloc (.cells #[.int .i64 x.k, .int .i64 x.n, .string x.t, .slice X3 n x3, .slice X4 x.ks.length x4] 25)) w1.heap.size 25 (.int .i64 x.k) (.int .i64 x.n) (.string x.t) (.slice X3 n x3) (.slice X4 x.ks.length x4)) := B5.newat rfl
 have W0 : Hid (Below w1.heap.size w1 (w1.alloc (.cells #[.int .i64 x.k, .int .i64 x.n, .string x.t, .slice X3 n x3, .slice X4 x.ks.length x4] 25))) := (Below.refl _ _).alloc (nlr _) _
 have BW : Hid (Below w.heap.size w (w1.alloc (.cells #[.int .i64 x.k, .int .i64 x.n, .string x.t, .slice X3 n x3, .slice X4 x.ks.length x4] 25))) := b1.trans (W0.out.mono s1)
 rw [← hn] at ln ⊢
 have nmax : n <= 9223372036854775807 := by omega
 have RT := lhq rt
 clear rt tx hn
 go_wp2_with fail
 obtain ⟨W, hW⟩ : ∃ W, W = (w1.alloc (.cells #[.int .i64 x.k, .int .i64 x.n, .string x.t, .slice X3 n x3, .slice X4 x.ks.length x4] 25)) := ⟨_, rfl⟩
 rw [← hW] at B0 W0 BW
 rw [← hW]
 clear hW
 go_loopw [8, 10, 22] (fun v _ t wr => ∃ i : Nat, i <= n /\ t = .int .i64 (i : Int) /\ Hid (∀ m (h : m < x.its.length), m < i -> (x.its[m]'h).k = 4) /\ Hid (GatS wr W.heap.size 9 1 v (((x.its.take i).map J.t).map D.s)) /\ Hid (Below W.heap.size W wr)) (fun _ _ t _ => n - (intOf t).toNat)
 case atStart => exact ⟨0, Nat.zero_le _, rfl, (fun _ _ h => absurd h (Nat.not_lt_zero _)), GatS.none_ _ _ _ _, Below.refl _ _⟩
 case round =>
  obtain ⟨i, hi, rfl, HE, HG, bl⟩ := hrel
  have bl2 := bl.out
  have z := bl2.size
  have zW := BW.out.size
  have z1 := W0.out.size
  have bw : Below w.heap.size w wr := BW.out.trans (bl2.mono zW)
  by_cases hin : i < n
  · have h1 : i < x.its.length := by rw [← HN.out]; exact hin
    have q : (i : Int) < (n : Int) := by omega
    obtain ⟨g1, o1, Y3, y3, Y4, y4, e1, hg1, u0, u1, u2, u3, u4, _⟩ := RowS.cells (RT.out) h1
    have lg := HS.out _ hg1
    have bq : Below w1.heap.size w1 wr := W0.out.trans (bl2.mono z1)
    have u0 := (bq.cell (p := ⟨g1, o1 + i * 5, none⟩) (by show g1 < _; omega)).trans u0
    have u1 := (bq.cell (p := ⟨g1, o1 + i * 5 + 1, none⟩) (by show g1 < _; omega)).trans u1
    have u2 := (bq.cell (p := ⟨g1, o1 + i * 5 + 2, none⟩) (by show g1 < _; omega)).trans u2
    have u3 := (bq.cell (p := ⟨g1, o1 + i * 5 + 3, none⟩) (by show g1 < _; omega)).trans u3
    have u4 := (bq.cell (p := ⟨g1, o1 + i * 5 + 4, none⟩) (by show g1 < _; omega)).trans u4
    have TK : Hid (((x.its.take (i + 1)).map J.t).map D.s = ((x.its.take i).map J.t).map D.s ++ [D.s (x.its[i]'h1).t]) := by
     show _ = _
     rw [List.take_succ_eq_append_getElem h1, List.map_append, List.map_append]; rfl
    have LJ : Hid ((((x.its.take i).map J.t).map D.s).length = i) := by show _ = _; have hn := HN.out; simp; omega
    have NX : Hid ((x.its[i]'h1).k = 4 -> ∀ m (h : m < x.its.length), m < i + 1 -> (x.its[m]'h).k = 4) := fun e m h k => by
     rcases Nat.lt_or_ge m i with p | p
     · exact HE.out m h p
     · obtain rfl : m = i := by omega
       exact e
    have NO : Hid ((x.its[i]'h1).k ≠ 4 -> R = none) := fun e => by
     rw [HR.out, if_neg]
     intro g
     rw [List.all_eq_true] at g
     exact e (by simpa using g _ (List.getElem_mem h1))
    generalize x.its[i]'h1 = T at *
    subst e1
    have BV0 : Hid (Below wr.heap.size wr (wr.alloc (.cells #[.int .i64 T.k, .int .i64 T.n, .string T.t, .slice Y3 T.its.length y3, .slice Y4 T.ks.length y4] 25))) := (Below.refl _ _).alloc (nlr _) _
    have ND : Hid (NewD (wr.alloc (.cells #[.int .i64 T.k, .int .i64 T.n, .string T.t, .slice Y3 T.its.length y3, .slice Y4 T.ks.length y4] 25)) wr.heap.size (D.s T.t) [.string T.t]) := ⟨fun _ => False, fun _ h => h.elim, lies_s.2 rfl, fun _ h => h.elim⟩
    clear h1 HE
    by_cases h4 : T.k = 4
    rotate_left
    · have Z := lhq (NO.out h4)
      have q4 : (T.k != 4) = true := by rw [bne_iff_ne]; exact h4
      clear h4 NO NX HR
      go_wp2_with fail
      go_ret2
      exact txp_no Z.out bqq
    have HE2 := lhq (NX.out h4)
    have q4 : (T.k != 4) = false := by rw [bne_eq_false_iff_eq]; exact h4
    clear h4 NO NX
    go_wp2_with (at_builtin; go_loud (refine wpList_gat _ textT rfl (.tmp 29) (.tmp 32) rfl W.heap.size u8 _ rfl wr HG.out BV0.out 1 #[.string T.t] (by simp [Act.eval]) rfl (by simp [Value.oneCell']) (by rw [LJ.out]; omega) z _ ND.out ?_); intro v5 w5 g5 b5)
    have bl5 : Below W.heap.size W w5 := bl2.trans ((BV0.out.mono z).trans b5)
    go_wp2_with fail
    go_roundw
    case rel => exact ⟨i + 1, by omega, by go_num, HE2, by rw [TK.out]; exact g5, bl5⟩
    case measure => simp [intOf]; omega
  · obtain rfl : i = n := by omega
    have q : ¬ (i : Int) < (i : Int) := by omega
    have Z : Hid (R = some (x.its.map J.t)) := by
     show _ = _
     rw [HR.out, if_pos]
     rw [List.all_eq_true]
     intro y hy
     obtain ⟨m, hm, rfl⟩ := List.getElem_of_mem hy
     rw [decide_eq_true_eq]
     exact HE.out m hm (by rw [HN.out]; exact hm)
    have TK : x.its.take i = x.its := by rw [HN.out, List.take_length]
    rw [TK] at HG
    have HG2 := lhq (GatS.less_ HG.out zW)
    clear HE HG HR TK hin
    go_wp2_with fail
    go_ret2
    exact txp_yes Z.out bw HG2.out
end Go.Proofs.YthogheglddfniaaGreatDoor
