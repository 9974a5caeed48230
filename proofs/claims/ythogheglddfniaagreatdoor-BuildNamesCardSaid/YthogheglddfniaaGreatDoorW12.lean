/- Joined by tools/bundle.py: BC12 BC9 BC11. -/
import Derived.Test.YthogheglddfniaaGreatDoorW4
import Derived.Test.YthogheglddfniaaGreatDoorW11
import Derived.Test.YthogheglddfniaaGreatDoorW0
set_option maxRecDepth 100000
set_option maxHeartbeats 16000000
namespace Go.Proofs.YthogheglddfniaaGreatDoor
open Go.ChangeShapes Go.WideShapes Go.ChangeAt Go.RowKit Mem
def intD (n : Nat) : D := D.i .i64 (n : Int)
def UnR (B : Kn → J → ByteArray → Bres) (sp : ByteArray) (X : Nat → Prop) (g r : Nat) (ns0 : List Nd) (w : World) (its : List J) (i : Nat) (v : Value) (wr : World) : Prop :=
 ∃ ri ext acc, bbrs B sp (ns0.map er) its [] [] = bbrs B sp (ns0.map er) (its.drop i) ext acc ∧ MkW (fun b => X b ∨ v.ownBlock = some b) wr g ri (ns0 ++ ext) ∧ (ri = r ∨ w.heap.size ≤ ri) ∧ Sav g r w.heap.size w wr ∧
  GatX (fun _ => False) wr w.heap.size ri 3 1 v (acc.map intD) ∧ (∀ o ∈ acc, o < (ns0 ++ ext).length) ∧ acc.length = i
theorem GatX.ints {w : World} {base r : Nat} {e : TypeId} {v : Value} {acc : List Nat} {T : Nat → Prop} (h : GatX T w base r e 1 v (acc.map intD)) : ∃ A c, v = .slice A acc.length c ∧ FlS w (· < w.heap.size) A (acc.map fun (n : Nat) => Value.int .i64 (n : Int)) := by
 obtain ⟨A, c, rfl, hc, hr⟩ := h.done
 refine ⟨A, c, by rw [List.length_map], ?_⟩
 have : RowD w (· < w.heap.size) 1 ((acc.map fun (n : Nat) => (n : Int)).map (D.i .i64)) A := by
  rw [List.map_map]
  exact hr.keep (fun _ _ => rfl) fun b hb => hb.2.1
 have := ints_fl this
 rwa [List.map_map] at this
theorem GatX.brs {w : World} {base r : Nat} {e : TypeId} {v : Value} {acc : List Nat} {T : Nat → Prop} (h : GatX T w base r e 1 v (acc.map intD)) : ∃ A c, v = .slice A acc.length c ∧ acc.length ≤ c ∧ acc.length ≤ maxLen ∧ RowD w (fun b => (T b ∨ base ≤ b) ∧ b < w.heap.size ∧ b ≠ r) 1 ((intsN acc).map (D.i .i64)) A := by
 have hl : acc.length ≤ maxLen := by
  obtain ⟨S, xs, h1, _⟩ := h
  rcases h1.2 with ⟨_, h0⟩ | ⟨q, cap, cur, e, hb, hg, hc, hm, _⟩
  · rw [List.length_map] at h0; omega
  · rw [List.length_map] at hc; omega
 obtain ⟨A, c, rfl, hc, hr⟩ := h.done
 rw [List.length_map] at hc
 refine ⟨A, c, by rw [List.length_map], hc, hl, ?_⟩
 unfold intsN
 rw [List.map_map]
 exact hr
def bnext (B : Kn → J → ByteArray → Bres) (sp : ByteArray) (l : List J) (ns0 ext : List Nd) (acc : List Nat) (o : Bres) : Except Int (List Nd × List Nat) :=
 match o with
 | .error e => .error e
 | .ok (x, p) => if fitsK (((ns0 ++ ext) ++ x).map er) p acc = true then bbrs B sp (ns0.map er) l (ext ++ x) (acc ++ [p]) else .error 34
theorem bbrs_next {B : Kn → J → ByteArray → Bres} {sp : ByteArray} {l : List J} {T : J} {ns0 ext : List Nd} {acc : List Nat} : bbrs B sp (ns0.map er) (T :: l) ext acc = bnext B sp l ns0 ext acc (B ((ns0 ++ ext).map er) T sp) := by
 rw [bbrs, List.map_append]
 unfold bnext
 cases B (ns0.map er ++ ext.map er) T sp with
 | error e => rfl
 | ok q => simp only [List.map_append, List.append_assoc]
theorem bUnion_any {X : Nat → Prop} {B : Kn → J → ByteArray → Bres} {Q : J → Prop} (hB : CallB B Q) (hlt : ∀ c j sp ext p, c.length ≤ 200 → Q j → B c j sp = .ok (ext, p) → p < c.length + ext.length) (its : List J) (sp : ByteArray) (hsp : sp.size ≤ 1000000) (g r : Nat) (ns : List Nd) (w : World) (h : MkW X w g r ns) (S : Nat → Prop) (hS : ∀ b, S b → b < g) (A3 : Option Addr) (c3 : Nat) (ht : RowS w S its A3)
 (hQ : ∀ x ∈ its, Q x) (hn9 : its.length ≤ 1000000) (R : Bres) (hR : R = bunion B (ns.map er) its sp) :
 Calls Tryz.prog 45 #[.pointer (some ⟨g, 0, none⟩), .slice A3 its.length c3, .string sp] w (BPost X R g r ns w) := by
 have CS := cell_set
 have lg := h.mkr.lt
 have hl := h.len
 have SV : Hid (∀ W, Below w.heap.size w W → Sav g r w.heap.size w W) := fun W b => Sav.of b
 obtain ⟨n, hn⟩ : ∃ m, m = its.length := ⟨_, rfl⟩
 have HN := Lib.hid hn
 by_cases hbad : its.length = 0 ∨ 10 < its.length
 · have Z : Hid (R = .error 34) := by show _ = _; rw [hR]; unfold bunion; rw [if_pos hbad]
   rw [← hn] at hbad ⊢
   clear hR hQ ht h hB hn hlt
   by_cases h0 : n = 0
   · have q1 : ((n : Int) == 0) = true := by rw [beq_iff_eq]; omega
     clear hbad h0
     go_enter Tryz.func45, Tryz.ntmps45
     go_wp2_with fail
     go_ret2
     exact bpost_no Z.out (by decide) _ (SV.out _ bqq)
   · have q1 : ((n : Int) == 0) = false := by rw [beq_eq_false_iff_ne]; omega
     have q2 : (10 : Int) < (n : Int) := by omega
     clear hbad h0
     go_enter Tryz.func45, Tryz.ntmps45
     go_wp2_with fail
     go_ret2
     exact bpost_no Z.out (by decide) _ (SV.out _ bqq)
 have HR : Hid (R = if ns.length = 200 then .error 3 else match bbrs B sp ((ns ++ [Nd.z 13]).map er) its [] [] with | .error e => .error e | .ok (ext, br) => .ok ({ Nd.z 13 with br := intsN br } :: ext, ns.length)) := by
  show _ = _
  rw [hR]; unfold bunion; rw [if_neg hbad, List.length_map, er_snoc]; rfl
 have q1 : ((n : Int) == 0) = false := by rw [beq_eq_false_iff_ne]; omega
 have q2 : ¬ (10 : Int) < (n : Int) := by omega
 have HN10 : Hid (n ≤ 10) := by show _ ≤ _; omega
 have AD : Hid (Calls Tryz.prog 87 #[.pointer (some ⟨g, 0, none⟩), .agg #[.int .i64 13, .string ⟨#[]⟩, .slice none 0 0, .slice none 0 0, .slice none 0 0, .bool false, .string ⟨#[]⟩, .int .i64 0, .int .i64 0, .slice none 0 0]] w (BPost X (if ns.length = 200 then .error 3 else .ok ([Nd.z 13], ns.length)) g r ns w)) := add_any (Nd.z 13) g r ns w h none none none none 0 0 0 0 z_lies _ rfl
 have RT := Lib.hid ht
 have HQ := Lib.hid hQ
 have HS := Lib.hid hS
 have MW := Lib.hid h
 have HB := Lib.hid hB
 have HLT := Lib.hid hlt
 have HX := Lib.hid h.out
 rw [← hn]
 clear hR hQ ht h hB hlt hbad hn hS
 go_enter Tryz.func45, Tryz.ntmps45
 go_wp2_with fail
 with_reducible refine AD.out.mono ?_
 rintro e w1 hp
 by_cases h200 : ns.length = 200
 · have Z : Hid (R = .error 3) := by show _ = _; rw [HR.out, if_pos h200]
   rw [if_pos h200] at hp
   obtain ⟨pl, rfl, _, sv⟩ := hp.no rfl
   have SS := Lib.hid sv
   clear hp sv h200 HR
   go_wp2_with fail
   go_ret2
   exact bpost_no Z.out (by decide) _ SS.out
 rw [if_neg h200] at hp
 obtain ⟨rfl, sv, r1, m1, hr1, hl1⟩ := hp.yes rfl
 have Z0 : Hid (R = match bbrs B sp ((ns ++ [Nd.z 13]).map er) its [] [] with | .error e => .error e | .ok (ext, br) => .ok ({ Nd.z 13 with br := intsN br } :: ext, ns.length)) := by show _ = _; rw [HR.out, if_neg h200]
 have SS : Hid (Sav g r w.heap.size w w1) := sv
 have M1 : Hid (MkW X w1 g r1 (ns ++ [Nd.z 13])) := MW.out.go sv m1 hl1 hr1
 have U0 : Hid (UnR B sp X g r (ns ++ [Nd.z 13]) w its 0 (.slice none 0 0) w1) := by
  refine ⟨r1, [], [], rfl, ?_, hr1, sv, GatX.none_ _ _ _ _ _ _, (fun _ h => absurd h (by simp)), rfl⟩
  rw [List.append_nil]
  exact ⟨m1.weak fun b hb => .inl (hb.elim id fun h => by cases h), M1.out.laid, M1.out.top, hl1, fun b hb => M1.out.out b (hb.elim id fun h => by cases h)⟩
 have nmax : n ≤ 9223372036854775807 := by have := HN10.out; omega
 have HNS : Hid (ns.length < (ns ++ [Nd.z 13]).length) := by show _ < _; simp
 have HNS2 : Hid (∀ ext, (ns ++ [Nd.z 13] ++ ext)[ns.length]? = some (Nd.z 13)) := fun ext => by rw [List.getElem?_append_left (by simp)]; simp
 have SM : Hid (∀ ext m, (ns ++ [Nd.z 13] ++ ext).set ns.length m = ns ++ m :: ext) := fun ext m => set_mid
 obtain ⟨n0, hn0⟩ : ∃ m, m = ns.length := ⟨_, rfl⟩
 obtain ⟨ns0, hns0⟩ : ∃ m, m = ns ++ [Nd.z 13] := ⟨_, rfl⟩
 rw [← hns0] at U0 Z0 HNS HNS2 SM
 rw [← hn0] at Z0 HNS HNS2 SM ⊢
 clear hp sv h200 HR AD m1 hl1 hr1 MW M1 hns0 hn0 r1 SV hl
 go_wp2_with fail
 go_loopw [10, 12, 13, 14, 34] (fun v _ _ _ t wr => ∃ i : Nat, i ≤ n ∧ t = .int .i64 (i : Int) ∧ Hid (UnR B sp X g r ns0 w its i v wr)) (fun _ _ _ _ t _ => n - (intOf t).toNat)
 case atStart => exact ⟨0, Nat.zero_le _, rfl, U0.out⟩
 case round =>
  obtain ⟨i, hi, rfl, HU⟩ := hrel
  obtain ⟨ri, ext, acc, hbr, mk, hri, sv, gx, hac, hal⟩ := HU.out
  have z := sv.size
  have ln := wr.heap.size
  have lm := mk.mkr.lt
  by_cases hin : i < n
  · have h1 : i < its.length := by rw [← HN.out]; exact hin
    have q : (i : Int) < (n : Int) := by omega
    obtain ⟨g1, o1, Y3, y3, Y4, y4, e1, hg1, u0, u1, u2, u3, u4, tx⟩ := RowS.cells (RT.out) h1
    have l1 := HS.out _ hg1
    have n1 : g1 ≠ r := by omega
    have u0 := (sv.cell (p := ⟨g1, o1 + i * 5, none⟩) (by show g1 < _; omega) (by show g1 ≠ _; omega) n1).trans u0
    have u1 := (sv.cell (p := ⟨g1, o1 + i * 5 + 1, none⟩) (by show g1 < _; omega) (by show g1 ≠ _; omega) n1).trans u1
    have u2 := (sv.cell (p := ⟨g1, o1 + i * 5 + 2, none⟩) (by show g1 < _; omega) (by show g1 ≠ _; omega) n1).trans u2
    have u3 := (sv.cell (p := ⟨g1, o1 + i * 5 + 3, none⟩) (by show g1 < _; omega) (by show g1 ≠ _; omega) n1).trans u3
    have u4 := (sv.cell (p := ⟨g1, o1 + i * 5 + 4, none⟩) (by show g1 < _; omega) (by show g1 ≠ _; omega) n1).trans u4
    have tx2 := TreeS.keep (sv.keeps fun k hk => by have := HS.out k hk; exact ⟨by omega, by omega, by omega⟩) (fun _ h => h) tx
    have DR : Hid (its.drop i = its[i]'h1 :: its.drop (i + 1)) := List.drop_eq_getElem_cons h1
    have QT := Lib.hid (HQ.out _ (List.getElem_mem h1))
    generalize its[i]'h1 = T at *
    subst e1
    have BV0 : Hid (Below wr.heap.size wr (wr.alloc (.cells #[.int .i64 T.k, .int .i64 T.n, .string T.t, .slice Y3 T.its.length y3, .slice Y4 T.ks.length y4] 25))) := (Below.refl _ _).alloc (Nat.le_refl _) _
    have NC := Lib.hid (HB.out T sp _ g ri (ns0 ++ ext) (wr.alloc (.cells #[.int .i64 T.k, .int .i64 T.n, .string T.t, .slice Y3 T.its.length y3, .slice Y4 T.ks.length y4] 25)) S QT.out hsp (mk.below BV0.out) HS.out Y3 Y4 y3 y4 (TreeS.keep (fun p hp => BV0.out.cell (by have := HS.out _ hp; omega)) (fun _ h => h) tx2))
    have HM := Lib.hid mk
    have GX := Lib.hid gx
    have HRI := Lib.hid hri
    have SVW := Lib.hid sv
    have HAC := Lib.hid hac
    have HAL := Lib.hid hal
    have HBR : Hid (bbrs B sp (ns0.map er) its [] [] = bnext B sp (its.drop (i + 1)) ns0 ext acc (B ((ns0 ++ ext).map er) T sp)) := by
     show _ = _
     rw [hbr, DR.out]
     exact bbrs_next
    obtain ⟨va, vc, ev, vf⟩ := gx.ints
    rw [hal] at ev
    subst ev
    clear hbr mk gx hri sv hac HU DR h1 tx tx2
    go_wp2_with fail
    with_reducible refine NC.out.mono ?_
    rintro e w2 hp
    cases hb : B ((ns0 ++ ext).map er) T sp with
    | error zz =>
     rw [hb] at hp HBR
     obtain ⟨pl, rfl, hz, sv2⟩ := hp.no rfl
     have Z : Hid (R = .error zz) := by show _ = _; rw [Z0.out, HBR.out]; rfl
     have S3 : Hid (Sav g r w.heap.size w w2) := SVW.out.nxt HRI.out ((Sav.of BV0.out).trans (sv2.mono BV0.out.size))
     have qz : (zz != 0) = true := by rw [bne_iff_ne]; exact hz
     have HZ := Lib.hid hz
     clear hp sv2 hz hb NC
     go_wp2_with fail
     go_ret2
     exact bpost_no Z.out HZ.out _ S3.out
    | ok qq =>
     obtain ⟨x, p⟩ := qq
     have PLT := Lib.hid (HLT.out _ _ _ _ _ (by rw [List.length_map]; exact HM.out.len) QT.out hb)
     rw [hb] at hp HBR
     obtain ⟨rfl, sv2, r2, m2, hr2, hl2⟩ := hp.yes rfl
     have sv3 : Sav g ri wr.heap.size wr w2 := (Sav.of BV0.out).trans (sv2.mono BV0.out.size)
     have S3 : Hid (Sav g r w.heap.size w w2) := SVW.out.nxt HRI.out sv3
     have hr2' : r2 = ri ∨ wr.heap.size ≤ r2 := hr2.imp id fun k => Nat.le_trans BV0.out.size k
     have M2 : Hid (MkW (fun b => X b ∨ (Value.slice va i vc).ownBlock = some b) w2 g r2 ((ns0 ++ ext) ++ x)) := (HM.out.below BV0.out).go sv2 m2 hl2 hr2
     have G2 : Hid (GatX (fun _ => False) w2 w.heap.size r2 3 1 (.slice va i vc) (acc.map intD)) := GX.out.sav lg.1 (fun _ h => h.elim) sv3 hr2'
     have R2 : Hid (r2 = r ∨ w.heap.size ≤ r2) := by
      rcases hr2' with e | e
      · rw [e]; exact HRI.out
      · exact .inr (by omega)
     have PL : Hid (p < ((ns0 ++ ext) ++ x).length) := by have := PLT.out; rw [List.length_map] at this; show _ < _; rw [List.length_append]; exact this
     obtain ⟨va2, vc2, e2, vf2⟩ := G2.out.ints
     rw [HAL.out] at e2
     simp only [Value.slice.injEq, true_and] at e2
     obtain ⟨rfl, rfl⟩ := e2
     have FT := Lib.hid (bFits_any acc va vc p g r2 ((ns0 ++ ext) ++ x) w2 M2.out PL.out (fun o ho => by have := HAC.out o ho; rw [List.length_append]; omega) (by have := HN10.out; rw [HAL.out]; omega) vf2)
     rw [HAL.out] at FT
     have z2 := S3.out.size
     clear hp sv2 sv3 hb NC hr2 hr2' m2 PLT vf2 vf
     go_wp2_with fail
     with_reducible refine FT.out.mono ?_
     rintro e w3 ⟨rfl, b3⟩
     cases hf : fitsK (((ns0 ++ ext) ++ x).map er) p acc with
     | false =>
      have Z : Hid (R = .error 34) := by show _ = _; rw [Z0.out, HBR.out]; unfold bnext; dsimp only; rw [hf]; rfl
      have S4 : Hid (Sav g r w.heap.size w w3) := S3.out.trans (Sav.of (b3.mono z2))
      clear hf b3
      go_wp2_with fail
      go_ret2
      exact bpost_no Z.out (by decide) _ S4.out
     | true =>
      have HBR2 : Hid (bbrs B sp (ns0.map er) its [] [] = bbrs B sp (ns0.map er) (its.drop (i + 1)) (ext ++ x) (acc ++ [p])) := by show _ = _; rw [HBR.out]; unfold bnext; dsimp only; rw [hf]; rfl
      have G3 := Lib.hid (G2.out.below b3)
      have M3 := Lib.hid (M2.out.below b3)
      have S4 : Hid (Sav g r w.heap.size w w3) := S3.out.trans (Sav.of (b3.mono z2))
      have LD : Hid (Lies w3 (fun b => (False ∨ w.heap.size ≤ b) ∧ b < w3.heap.size ∧ some b ≠ (Value.slice va i vc).ownBlock ∧ b ≠ r2) (intD p) [.int .i64 (p : Int)]) := lies_i.2 rfl
      have z4 := S4.out.size
      have lr := M3.out.mkr.lt
      clear hf b3 HBR G2 M2 S3 FT
      go_wp2_with (at_builtin; go_loud (refine wpList_gax _ intT rfl (.tmp 53) (.tmp 55) rfl (fun _ => False) w.heap.size r2 _ _ rfl G3.out 1 #[.int .i64 (p : Int)] (by simp [Act.eval]) rfl (by simp [Value.oneCell']) (by rw [List.length_map, HAL.out]; omega) z4 lr.2.1 _ LD.out ?_); intro v5 w5 g5 b5 k5 o5)
      have UN : Hid (UnR B sp X g r ns0 w its (i + 1) v5 w5) := by
       have nX : ∀ b, b = g ∨ b = r2 → ¬ (X b ∨ (Value.slice va i vc).ownBlock = some b) := fun b hb hx => by
        have := M3.out.out b hx
        omega
       refine ⟨r2, ext ++ x, acc ++ [p], HBR2.out, ⟨?_, ?_, M3.out.top, ?_, fun b hb => ?_⟩, R2.out, S4.out.trans (Sav.of b5), ?_, fun o ho => ?_, by rw [List.length_append, HAL.out]; rfl⟩
       · rw [← List.append_assoc]
         exact M3.out.mkr.frame (fun k hk hx => k5 k hk fun e => hx (.inr e.symm)) b5.size (nX g (.inl rfl)) (nX r2 (.inr rfl)) fun b hb => hb.elim (fun h => .inl (.inl h)) fun h => (o5 b h).imp .inr id
       · exact Laid.below M3.out.laid (b5.mono (Nat.le_of_lt lg.1)) M3.out.top
       · have := M3.out.len; rwa [List.append_assoc] at this
       · rcases hb with hb | hb
         · have k := M3.out.out b (.inl hb)
           exact ⟨k.1, Nat.lt_of_lt_of_le k.2.1 b5.size, k.2.2⟩
         · exact ⟨Nat.lt_of_lt_of_le lg.1 (g5.own hb).1, (g5.own hb).2⟩
       · rw [List.map_append]; exact g5
       · rw [← List.append_assoc]
         rcases List.mem_append.1 ho with ho | ho
         · have := HAC.out o ho; rw [List.length_append]; omega
         · rw [List.mem_singleton] at ho; subst ho; exact PL.out
      have rsz := b5.size
      clear k5 o5 g5 b5
      go_wp2_with fail
      go_roundw
      case rel => exact ⟨i + 1, by omega, by go_num, UN⟩
      case measure => simp [intOf]; omega
  · obtain rfl : i = n := by omega
    have q : ¬ (i : Int) < (i : Int) := by omega
    have DR : its.drop i = [] := List.drop_eq_nil_of_le (by rw [HN.out]; exact Nat.le_refl _)
    have Z : Hid (R = .ok ({ Nd.z 13 with br := intsN acc } :: ext, n0)) := by
     show _ = _
     rw [Z0.out, hbr, DR]; rfl
    obtain ⟨va, vc, ev, hvc, hvm, vr⟩ := gx.brs
    rw [hal] at ev
    subst ev
    have hin0 : n0 < (ns0 ++ ext).length := by have := HNS.out; rw [List.length_append]; omega
    have MM : Mkr X wr 52 41 g ri (ns0 ++ ext) := mk.mkr.weak fun b hb => .inl (.inl hb)
    have PU := MM.put (k := 9) hin0 (by omega) { Nd.z 13 with br := intsN acc } (.slice va i vc) (fun b => (False ∨ w.heap.size ≤ b) ∧ b < wr.heap.size ∧ b ≠ ri) (fun b hb => ⟨hb.2.1, by rcases hb.1 with h | h; exact h.elim; omega, hb.2.2, fun hx => by have := HX.out b hx; rcases hb.1 with h | h; exact h.elim; omega⟩) (fun S' cs hT hcs => by
     have e0 : (ns0 ++ ext)[n0]'hin0 = Nd.z 13 := by have := HNS2.out ext; rw [List.getElem?_eq_getElem hin0] at this; exact Option.some.inj this
     rw [e0] at hcs
     obtain ⟨a2, d2, a3, d3, a4, d4, a9, d9, e, k2, k3, k4, k5, k6, k7, _, _⟩ := Nd.out.1 hcs
     rw [e]
     have hlb : (intsN acc).length = i := by unfold intsN; rw [List.length_map]; exact hal
     exact Nd.out.2 ⟨a2, d2, a3, d3, a4, d4, va, vc, by show _ = [_, _, _, _, _, _, _, _, _, Value.slice va (intsN acc).length vc]; rw [hlb]; rfl, k2, k3, k4, k5, k6, k7, by show Len (intsN acc).length vc; rw [hlb, ← hal]; exact ⟨hvc, hvm⟩, vr.keep (fun _ _ => rfl) hT⟩)
    rw [SM.out] at PU
    have PM := Lib.hid PU.1
    have PS : Hid (Sav g r w.heap.size w (wr.setCell ⟨ri, n0 * 10 + 9, none⟩ (.slice va i vc))) := sv.nxt hri PU.2
    obtain ⟨A, c, hB2, hc, hA, _, _⟩ := MM.out
    obtain rfl := hA (by omega)
    obtain ⟨nl, hnl⟩ : ∃ m, m = (ns0 ++ ext).length := ⟨_, rfl⟩
    rw [← hnl] at hB2
    obtain ⟨_, _, _, _⟩ := B2.facts hB2
    obtain ⟨Y2, y2, Y3, y3, Y4, y4, Y9, y9, ⟨_, _, _, _, _, _, _, _, _, ycell⟩, fz⟩ := MM.node hin0
    have f9 := fz (n0 * 10 + 9)
    have hl3 : Hid ((ns ++ { Nd.z 13 with br := intsN acc } :: ext).length ≤ 200) := by
     have k := mk.len
     have := congrArg List.length (SM.out ext { Nd.z 13 with br := intsN acc })
     rw [List.length_set] at this
     show _ ≤ _
     omega
    have q3 : (n0 : Int) < (nl : Int) := by omega
    have q4 : ¬ (n0 : Int) < 0 := by omega
    have HRI := Lib.hid hri
    generalize ((ns0 ++ ext)[n0]'hin0).br.length = Y8 at ycell
    clear hbr sv hri hac hal HU gx mk MM hB2 hnl DR vr Z0
    go_wp2_with fail
    go_ret2
    exact bpost_ok Z.out rfl PS.out PM.out HRI.out hl3.out
theorem GatS.fls {w : World} {base : Nat} {e : TypeId} {A : Option Addr} {n c : Nat} {l : List ByteArray} (h : GatS w base e 1 (.slice A n c) (l.map D.s)) : FlS w (fun b => base ≤ b ∧ b < w.heap.size) A (l.map Value.string) := by
 by_cases h0 : l = []
 · left; rw [h0]; rfl
 have hp : 0 < l.length := List.length_pos_iff.2 h0
 obtain ⟨g, c0, e0, hb, hlt, _⟩ := GatS.puts h hp
 simp only [Value.slice.injEq] at e0
 refine .inr ⟨g, 0, e0.1, ⟨hb, hlt⟩, fun k hk => ?_⟩
 rw [List.length_map] at hk
 obtain ⟨g', c', e1, _, _, _, hc, _⟩ := GatS.puts h hk
 simp only [Value.slice.injEq] at e1
 have : g = g' := by have := e0.1.symm.trans e1.1; simpa using this
 subst this
 rw [Nat.zero_add, hc, List.getElem?_map, List.getElem?_eq_getElem hk]
 rfl
theorem FlS.take {w : World} {S : Nat → Prop} {A : Option Addr} {l : List ByteArray} (h : FlS w S A (l.map Value.string)) (i : Nat) : FlS w S A ((l.take i).map Value.string) := by
 rcases h with h | ⟨b, o, e, hb, hc⟩
 · left
   have : l = [] := by simpa using h
   rw [this]; simp
 · refine .inr ⟨b, o, e, hb, fun k hk => ?_⟩
   simp only [List.length_map, List.length_take] at hk
   rw [hc k (by simp; omega), List.map_take, List.getElem?_take, if_pos (by omega)]
theorem GatS.setq {w : World} {base : Nat} {e : TypeId} {s : Nat} {v : Value} {ds : List D} (h : GatS w base e s v ds) {p : Addr} (hp : p.block < base) (u : Value) : GatS (w.setCell p u) base e s v ds := by
 obtain ⟨S, xs, h1, h2, h3, h4⟩ := h
 refine ⟨S, xs, ⟨h1.1, ?_⟩, h2.keep (fun k hk => World.cell?_setCell_other w _ _ _ (fun e => ?_)) fun _ h => h, fun k hk => ⟨(h3 k hk).1, by simp [World.setCell]; exact (h3 k hk).2⟩, fun p hp => (World.frozen?_setCell _ _ _ _).trans (h4 p hp)⟩
 · rcases h1.2 with h0 | ⟨q, cap, cur, hv, hq, hh, rest⟩
   · exact .inl h0
   · exact .inr ⟨q, cap, cur, hv, hq, (Below.heap_setCell _ _ _ _ (by intro e; exact absurd (show q = p.block from e) (by omega))).trans hh, rest⟩
 · subst e; exact absurd (h3 _ hk).1 (by omega)
theorem GatS.drw {w : World} {base : Nat} {e : TypeId} {s : Nat} {v : Value} {ds : List D} (h : GatS w base e s v ds) : GatS w.drew base e s v ds := by
 obtain ⟨S, xs, h1, h2, h3, h4⟩ := h
 exact ⟨S, xs, h1.drew, (show ElsS w.drew S s ds xs from ElsS.keep (w := w) (w' := w.drew) (fun _ _ => rfl) (fun _ h => h) h2), h3, h4⟩
def EnP (R : Except Int (List ByteArray × Bool × ByteArray)) (q : Nat) (x0 x1 x2 x3 x7 x8 x9 : Value) (w : World) (e : Ending) (w' : World) : Prop :=
 (∀ z, R = .error z → e = .returned (.int .i64 z) ∧ z ≠ 0 ∧ Below w.heap.size w w') ∧ ∀ sy has df, R = .ok (sy, has, df) → e = .returned (.int .i64 0) ∧ ∃ v, B10 w' q 41 x0 x1 x2 x3 v (.bool has) (.string df) x7 x8 x9 ∧ Sav q q w.heap.size w w' ∧ GatS w' w.heap.size 9 1 v (sy.map D.s)
section
variable {R : Except Int (List ByteArray × Bool × ByteArray)} {q : Nat} {x0 x1 x2 x3 x7 x8 x9 v : Value} {w w' : World}
theorem enp_no {z : Int} (h : R = .error z) (hz : z ≠ 0) (b : Below w.heap.size w w') : EnP R q x0 x1 x2 x3 x7 x8 x9 w (.returned (.int .i64 z)) w' :=
 ⟨(fun y hy => by rw [h] at hy; injection hy with hy; subst hy; exact ⟨rfl, hz, b⟩), fun _ _ _ hl => by rw [h] at hl; cases hl⟩
theorem enp_yes {sy : List ByteArray} {has : Bool} {df : ByteArray} (h : R = .ok (sy, has, df)) (h1 : B10 w' q 41 x0 x1 x2 x3 v (.bool has) (.string df) x7 x8 x9) (h2 : Sav q q w.heap.size w w') (h3 : GatS w' w.heap.size 9 1 v (sy.map D.s)) : EnP R q x0 x1 x2 x3 x7 x8 x9 w (.returned (.int .i64 0)) w' :=
 ⟨(fun y hy => by rw [h] at hy; cases hy), fun _ _ _ hl => by rw [h] at hl; simp only [Except.ok.injEq, Prod.mk.injEq] at hl; obtain ⟨rfl, rfl, rfl⟩ := hl; exact ⟨rfl, v, h1, h2, h3⟩⟩
end
theorem bEnum_any (S : Nat → Prop) (j : J) (w : World) (hS : ∀ b, S b → b < w.heap.size) (A3 A4 : Option Addr) (c3 c4 : Nat) (ht : TreeS w S j [.int .i64 j.k, .int .i64 j.n, .string j.t, .slice A3 j.its.length c3, .slice A4 j.ks.length c4]) (hw : j.wt ≤ 1000000) (q : Nat) (x0 x1 x2 x3 x4 x5 x6 x7 x8 x9 : Value) (hq : B10 w q 41 x0 x1 x2 x3 x4 x5 x6 x7 x8 x9) (R : Except Int (List ByteArray × Bool × ByteArray)) (hR : R = benum j) :
 Calls Tryz.prog 133 #[.pointer (some ⟨q, 0, none⟩), .func (.func 47) #[.agg #[.int .i64 j.k, .int .i64 j.n, .string j.t, .slice A3 j.its.length c3, .slice A4 j.ks.length c4]] #[]] w (EnP R q x0 x1 x2 x3 x7 x8 x9 w) := by
 have CS := cell_set
 have hql := hq.lt
 have TX := Lib.hid (texts_any S j kSymbols w hS A3 A4 c3 c4 ht hw _ rfl)
 have DX := Lib.hid (fun W (b : Below w.heap.size w W) => item_any S j kDefault W (fun k hk => Nat.lt_of_lt_of_le (hS k hk) b.size) A3 A4 c3 c4 (TreeS.keep (fun p hp => b.cell (hS _ hp)) (fun _ h => h) ht))
 have BQ := Lib.hid hq
 have HR : Hid (R = match (j.get kSymbols).bind btexts with
  | none => .error 30
  | some l => if l = [] then .error 30 else if 40 < l.length then .error 3 else match bsyms l [] with
   | some e => .error e
   | none => if (j.get kDefault).isSome = true then (if (gotten (j.get kDefault)).k = 4 then (if inB (gotten (j.get kDefault)).t l = true then .ok (l, true, (gotten (j.get kDefault)).t) else .error 35) else .error 30) else .ok (l, false, ⟨#[]⟩)) := by
  show _ = _
  rw [hR]; unfold benum
  cases j.get kDefault <;> rfl
 have SZ : ∀ l, (j.get kSymbols).bind btexts = some l → ∀ t ∈ l, t.size ≤ 1000000 := fun l hl t ht => by
  rcases ho : j.get kSymbols with _ | x
  · rw [ho] at hl; cases hl
  · rw [ho] at hl
    have e : btexts x = some l := hl
    unfold btexts at e
    split at e
    · obtain rfl := Option.some.inj e
      obtain ⟨y, hy, rfl⟩ := List.mem_map.1 ht
      have a := J.wts_mem hy
      have b := J.its_wt x
      have c := J.get_wt ho
      have d : y.t.size ≤ y.wt := by cases y with | mk k n t its ks => unfold J.wt; show t.size ≤ _; omega
      omega
    · cases e
 unfold kSymbols at TX HR SZ
 generalize (j.get ⟨#[115, 121, 109, 98, 111, 108, 115]⟩).bind btexts = so at *
 clear hR ht hS hq
 cases so with
 | none =>
  have Z : Hid (R = .error 30) := HR.out
  clear HR DX SZ BQ
  go_enter Tryz.func133, Tryz.ntmps133
  go_wp2_with fail
  with_reducible refine TX.out.mono ?_
  rintro e w1 tp
  obtain ⟨b1, h1, _⟩ := tp
  obtain rfl := h1 rfl
  go_wp2_with fail
  go_ret
  exact enp_no Z.out (by decide) b1
 | some L =>
 have HSX := Lib.hid (SZ L rfl)
 clear SZ
 obtain ⟨n, hn⟩ : ∃ n, n = L.length := ⟨_, rfl⟩
 have HN := Lib.hid hn
 go_enter Tryz.func133, Tryz.ntmps133
 go_wp2_with fail
 with_reducible refine TX.out.mono ?_
 rintro e w1 tp
 obtain ⟨b1, _, h2⟩ := tp
 obtain ⟨v, rfl, hg⟩ := h2 L rfl
 have G1 := Lib.hid hg
 obtain ⟨A, c, rfl, hc, _⟩ := hg.done
 rw [List.length_map, ← hn] at G1 hc ⊢
 have B1 := Lib.hid b1
 have s1 := b1.size
 clear hg h2 TX
 by_cases h0 : n = 0
 · have Z : Hid (R = .error 30) := by show _ = _; rw [HR.out]; exact if_pos (List.length_eq_zero_iff.1 (by omega))
   have qn : ((n : Int) == 0) = true := by rw [beq_iff_eq]; omega
   clear HR DX BQ G1 h0 hn
   go_wp2_with fail
   go_ret
   exact enp_no Z.out (by decide) B1.out
 have qn : ((n : Int) == 0) = false := by rw [beq_eq_false_iff_ne]; omega
 have hL0 : L ≠ [] := fun e => h0 (by rw [hn, e]; rfl)
 by_cases h40 : 40 < n
 · have Z : Hid (R = .error 3) := by
    show _ = _; rw [HR.out]
    show (if L = [] then _ else _) = _
    rw [if_neg hL0, if_pos (by omega)]
   have q40 : (40 : Int) < (n : Int) := by omega
   clear HR DX BQ G1 h0 hn h40
   go_wp2_with fail
   go_ret
   exact enp_no Z.out (by decide) B1.out
 have q40 : ¬ (40 : Int) < (n : Int) := by omega
 have HR2 : Hid (R = match bsyms L [] with
  | some e => .error e
  | none => if (j.get kDefault).isSome = true then (if (gotten (j.get kDefault)).k = 4 then (if inB (gotten (j.get kDefault)).t L = true then .ok (L, true, (gotten (j.get kDefault)).t) else .error 35) else .error 30) else .ok (L, false, ⟨#[]⟩)) := by
  show _ = _; rw [HR.out]
  show (if L = [] then _ else _) = _
  rw [if_neg hL0, if_neg (by omega)]
 have nmax : n ≤ 40 := by omega
 clear HR h40 hL0
 have FL := Lib.hid (GatS.fls G1.out)
 have SP := Lib.hid (fun t ht => nSimple_pure t (by have := HSX.out t ht; omega) w1)
 have CT := Lib.hid (fun i t => contains_any _ A c (L.take i) t w1 (FlS.take FL.out i) (by rw [List.length_take]; unfold maxLen; omega))
 have CW := Lib.hid (fun W (b : Below w1.heap.size w1 W) t => contains_any (fun b => b < W.heap.size) A c L t W (FL.out.imp id fun ⟨q, o, e, hq, hc⟩ => ⟨q, o, e, Nat.lt_of_lt_of_le hq.2 b.size, fun k hk => (b.cell (p := ⟨q, o + k, none⟩) hq.2).trans (hc k hk)⟩) (by unfold maxLen; omega))
 clear hn h0
 go_wp2_with fail
 go_loopw [7, 8, 28] (fun _ _ t wr => ∃ i : Nat, i ≤ n ∧ t = .int .i64 (i : Int) ∧ Hid (bsyms L [] = bsyms (L.drop i) (L.take i)) ∧ wr = w1) (fun _ _ t _ => n - (intOf t).toNat)
 case atStart => exact ⟨0, Nat.zero_le _, rfl, rfl, rfl⟩
 case round =>
  obtain ⟨i, hi, rfl, HM, rfl⟩ := hrel
  by_cases hin : i < n
  · have h1 : i < L.length := by rw [← HN.out]; exact hin
    have q1 : (i : Int) < (n : Int) := by omega
    have q2 : ¬ (i : Int) < 0 := by omega
    have q3 : (i : Int) ≤ (n : Int) := by omega
    have q4 : (i : Int) ≤ (c : Int) := by omega
    obtain ⟨b8, o8, e8, hb8, z0⟩ := fl_str FL.out h1
    have SM := Lib.hid (SP.out _ (List.getElem_mem h1))
    have CM := Lib.hid (CT.out i (L[i]'h1))
    have tl : (L.take i).length = i := by rw [List.length_take]; omega
    rw [tl] at CM
    have HB : Hid (bsyms L [] = if simpB (L[i]'h1) = false then some 31 else if (place7 (L.take i) (L[i]'h1)).isSome = true then some 36 else bsyms (L.drop (i + 1)) (L.take (i + 1))) := by
     show _ = _
     rw [HM.out, List.drop_eq_getElem_cons h1, bsyms, ← place7_any, List.take_succ_eq_append_getElem h1]
     rfl
    generalize L[i]'h1 = Y at *
    subst e8
    clear h1 HM tl
    have e5 : simpB Y = Nm.simple Y.data.toList := rfl
    rw [e5] at HB
    generalize Nm.simple Y.data.toList = sb at *
    generalize (place7 (L.take i) Y).isSome = pb at *
    cases sb with
    | false =>
     have Z : Hid (R = .error 31) := by show _ = _; rw [HR2.out, HB.out]; rfl
     clear HB HR2 CM CW DX BQ G1
     go_wp2_with fail
     with_reducible refine SM.out.mono ?_
     rintro e w2 ⟨rfl, rfl⟩
     go_wp2_with fail
     go_ret
     exact enp_no Z.out (by decide) B1.out
    | true =>
    cases pb with
    | true =>
     have Z : Hid (R = .error 36) := by show _ = _; rw [HR2.out, HB.out]; rfl
     clear HB HR2 CW DX BQ G1
     go_wp2_with fail
     with_reducible refine SM.out.mono ?_
     rintro e w2 ⟨rfl, rfl⟩
     go_wp2_with fail
     with_reducible refine CM.out.mono ?_
     rintro e w2 ⟨rfl, rfl⟩
     go_wp2_with fail
     go_ret
     exact enp_no Z.out (by decide) B1.out
    | false =>
     have HM2 : Hid (bsyms L [] = bsyms (L.drop (i + 1)) (L.take (i + 1))) := HB.out
     clear HB CW DX BQ G1
     go_wp2_with fail
     with_reducible refine SM.out.mono ?_
     rintro e w2 ⟨rfl, rfl⟩
     go_wp2_with fail
     with_reducible refine CM.out.mono ?_
     rintro e w2 ⟨rfl, rfl⟩
     go_wp2_with fail
     go_roundw
     case rel => exact ⟨i + 1, by omega, by go_num, HM2, by first | rfl | trivial⟩
     case measure => simp [intOf]; omega
  · obtain rfl : i = n := by omega
    have q1 : ¬ (i : Int) < (i : Int) := by omega
    have ed : L.drop i = [] := List.drop_eq_nil_of_le (by rw [← HN.out]; exact Nat.le_refl _)
    have et : L.take i = L := List.take_of_length_le (by rw [← HN.out]; exact Nat.le_refl _)
    have HR3 : Hid (R = if (j.get kDefault).isSome = true then (if (gotten (j.get kDefault)).k = 4 then (if inB (gotten (j.get kDefault)).t L = true then .ok (L, true, (gotten (j.get kDefault)).t) else .error 35) else .error 30) else .ok (L, false, (gotten (j.get kDefault)).t)) := by
     show _ = _
     rw [HR2.out, HM.out, ed, et]
     show (if (j.get kDefault).isSome = true then _ else _) = _
     cases j.get kDefault <;> rfl
    have D1 := Lib.hid (DX.out _ B1.out)
    rw [← HN.out] at CW
    unfold GotS at D1
    obtain ⟨os, hos⟩ : ∃ b, b = (j.get kDefault).isSome := ⟨_, rfl⟩
    obtain ⟨K0, hK0⟩ : ∃ v, v = (gotten (j.get kDefault)).k := ⟨_, rfl⟩
    obtain ⟨K1, hK1⟩ : ∃ v, v = (gotten (j.get kDefault)).n := ⟨_, rfl⟩
    obtain ⟨K2, hK2⟩ : ∃ v, v = (gotten (j.get kDefault)).t := ⟨_, rfl⟩
    obtain ⟨l3, hl3⟩ : ∃ v, v = (gotten (j.get kDefault)).its.length := ⟨_, rfl⟩
    obtain ⟨l4, hl4⟩ : ∃ v, v = (gotten (j.get kDefault)).ks.length := ⟨_, rfl⟩
    rw [← hos, ← hK0, ← hK2] at HR3
    rw [← hos, ← hK0, ← hK1, ← hK2, ← hl3, ← hl4] at D1
    clear hos hK0 hK1 hK2 hl3 hl4 HR2 HM ed et DX CT SP HSX
    unfold kDefault at D1
    rw [show inB K2 L = (place7 L K2).isSome from place7_any] at HR3
    obtain ⟨pb, hpb⟩ : ∃ b, b = (place7 L K2).isSome := ⟨_, rfl⟩
    have CK := Lib.hid (fun W (b : Below wr.heap.size wr W) => CW.out W b K2)
    rw [← hpb] at HR3 CK
    clear hpb CW
    have H0 : (os = false) ∨ (os = true ∧ (K0 != 4) = true) ∨ (os = true ∧ (K0 != 4) = false) := by
     cases os <;> cases (K0 != 4) <;> simp
    rcases H0 with rfl | ⟨rfl, q5⟩ | ⟨rfl, q5⟩
    · have Z : Hid (R = .ok (L, false, K2)) := HR3.out
      clear HR3 CK
      go_wp2_with fail
      with_reducible refine D1.out.mono ?_
      rintro e w2 ⟨X3, x3', X4, x4', rfl, _, b2⟩
      have s2 := b2.size
      have bw2 : Below w.heap.size w w2 := B1.out.trans (b2.mono s1)
      have bk : Hid (Below wr.heap.size wr (w2.alloc (.cells #[.int .i64 K0, .int .i64 K1, .string K2, .slice X3 l3 x3', .slice X4 l4 x4'] 25))) := by show Below _ _ _; (repeat' (first | with_reducible assumption | with_reducible exact Below.refl _ _ | (with_reducible refine Below.alloc ?_ ?_ _; rotate_left; focus ((first | exact Nat.le_refl _ | (simp; done) | (simp; omega) | omega | fail))) | (with_reducible refine Below.setCell ?_ ?_ _; rotate_left; focus ((first | exact Nat.le_refl _ | (simp; done) | (simp; omega) | omega | fail))) | with_reducible refine Mem.bel_drewN ?_ _ | with_reducible refine Below.drew ?_ | (with_reducible refine Mem.bel_call (by with_reducible assumption) ?_ ?_; focus ((first | exact Nat.le_refl _ | (simp; done) | (simp; omega) | omega | fail))) | fail))
      have bz : Hid (Below w.heap.size w (w2.alloc (.cells #[.int .i64 K0, .int .i64 K1, .string K2, .slice X3 l3 x3', .slice X4 l4 x4'] 25))) := by show Below _ _ _; (repeat' (first | with_reducible assumption | with_reducible exact Below.refl _ _ | (with_reducible refine Below.alloc ?_ ?_ _; rotate_left; focus ((first | exact Nat.le_refl _ | (simp; done) | (simp; omega) | omega | fail))) | (with_reducible refine Below.setCell ?_ ?_ _; rotate_left; focus ((first | exact Nat.le_refl _ | (simp; done) | (simp; omega) | omega | fail))) | with_reducible refine Mem.bel_drewN ?_ _ | with_reducible refine Below.drew ?_ | (with_reducible refine Mem.bel_call (by with_reducible assumption) ?_ ?_; focus ((first | exact Nat.le_refl _ | (simp; done) | (simp; omega) | omega | fail))) | fail))
      have N2 := Lib.hid (B10.below BQ.out bz.out hql)
      have D2 : Hid (B5 (w2.alloc (.cells #[.int .i64 K0, .int .i64 K1, .string K2, .slice X3 l3 x3', .slice X4 l4 x4'] 25)) w2.heap.size 25 (.int .i64 K0) (.int .i64 K1) (.string K2) (.slice X3 l3 x3') (.slice X4 l4 x4')) := B5.newat rfl
      have G2 := Lib.hid (GatS.below G1.out bk.out)
      have ld := D2.out.lt
      obtain ⟨W, hW⟩ : ∃ W, W = (w2.alloc (.cells #[.int .i64 K0, .int .i64 K1, .string K2, .slice X3 l3 x3', .slice X4 l4 x4'] 25)) := ⟨_, rfl⟩
      rw [← hW] at bk bz N2 D2 G2 ld
      go_wp2_with fail
      rw [← hW]
      clear hW
      obtain ⟨_, _, _, _, _, _, _, _, _, _, _, _, _, _, _, _, _, _, _, _⟩ := B10.facts N2.out
      obtain ⟨_, _, _, _, _, _, _, _, _, _⟩ := B5.facts D2.out
      have nq : w2.heap.size ≠ q := by omega
      have nq2 : q ≠ w2.heap.size := by omega
      have g3 := Lib.hid (((G2.out.setq (p := ⟨q, 4, none⟩) hql (.slice A i c)).setq (p := ⟨q, 5, none⟩) hql (.bool false)).setq (p := ⟨q, 6, none⟩) hql (.string K2))
      have sv3 := Lib.hid ((((Sav.of (g := q) (h := q) bz.out).set (p := ⟨q, 4, none⟩) (.inl rfl) (.slice A i c)).set (p := ⟨q, 5, none⟩) (.inl rfl) (.bool false)).set (p := ⟨q, 6, none⟩) (.inl rfl) (.string K2))
      go_region
      all_goals
       go_wp2_with fail
       go_ret
       exact enp_yes (v := .slice A i c) Z.out (((N2.out.set4 _).set5 _).set6 _) sv3.out.drew g3.out.drw
    · have Z : Hid (R = .error 30) := by show _ = _; rw [HR3.out, if_pos rfl, if_neg (by simpa using q5)]
      clear HR3 CK BQ G1
      go_wp2_with fail
      with_reducible refine D1.out.mono ?_
      rintro e w2 ⟨X3, x3', X4, x4', rfl, _, b2⟩
      have s2 := b2.size
      have bw2 : Below w.heap.size w w2 := B1.out.trans (b2.mono s1)
      go_wp2_with fail
      go_ret
      exact enp_no Z.out (by decide) bqq
    · have k4 : K0 = 4 := by simpa using q5
      cases pb with
      | false =>
       have Z : Hid (R = .error 35) := by show _ = _; rw [HR3.out, if_pos rfl, if_pos k4]; rfl
       clear HR3 BQ G1 k4
       go_wp2_with fail
       with_reducible refine D1.out.mono ?_
       rintro e w2 ⟨X3, x3', X4, x4', rfl, _, b2⟩
       have s2 := b2.size
       have bw2 : Below w.heap.size w w2 := B1.out.trans (b2.mono s1)
       have bk : Below wr.heap.size wr (w2.alloc (.cells #[.int .i64 K0, .int .i64 K1, .string K2, .slice X3 l3 x3', .slice X4 l4 x4'] 25)) := bqq
       go_wp2_with fail
       with_reducible refine (CK.out _ bk).mono ?_
       rintro e w3 ⟨rfl, rfl⟩
       go_wp2_with fail
       go_ret
       exact enp_no Z.out (by decide) bqq
      | true =>
       have Z : Hid (R = .ok (L, true, K2)) := by show _ = _; rw [HR3.out, if_pos rfl, if_pos k4]; rfl
       clear HR3 k4
       go_wp2_with fail
       with_reducible refine D1.out.mono ?_
       rintro e w2 ⟨X3, x3', X4, x4', rfl, _, b2⟩
       have s2 := b2.size
       have bw2 : Below w.heap.size w w2 := B1.out.trans (b2.mono s1)
       have bk : Hid (Below wr.heap.size wr (w2.alloc (.cells #[.int .i64 K0, .int .i64 K1, .string K2, .slice X3 l3 x3', .slice X4 l4 x4'] 25))) := by show Below _ _ _; (repeat' (first | with_reducible assumption | with_reducible exact Below.refl _ _ | (with_reducible refine Below.alloc ?_ ?_ _; rotate_left; focus ((first | exact Nat.le_refl _ | (simp; done) | (simp; omega) | omega | fail))) | (with_reducible refine Below.setCell ?_ ?_ _; rotate_left; focus ((first | exact Nat.le_refl _ | (simp; done) | (simp; omega) | omega | fail))) | with_reducible refine Mem.bel_drewN ?_ _ | with_reducible refine Below.drew ?_ | (with_reducible refine Mem.bel_call (by with_reducible assumption) ?_ ?_; focus ((first | exact Nat.le_refl _ | (simp; done) | (simp; omega) | omega | fail))) | fail))
       have bz : Hid (Below w.heap.size w (w2.alloc (.cells #[.int .i64 K0, .int .i64 K1, .string K2, .slice X3 l3 x3', .slice X4 l4 x4'] 25))) := by show Below _ _ _; (repeat' (first | with_reducible assumption | with_reducible exact Below.refl _ _ | (with_reducible refine Below.alloc ?_ ?_ _; rotate_left; focus ((first | exact Nat.le_refl _ | (simp; done) | (simp; omega) | omega | fail))) | (with_reducible refine Below.setCell ?_ ?_ _; rotate_left; focus ((first | exact Nat.le_refl _ | (simp; done) | (simp; omega) | omega | fail))) | with_reducible refine Mem.bel_drewN ?_ _ | with_reducible refine Below.drew ?_ | (with_reducible refine Mem.bel_call (by with_reducible assumption) ?_ ?_; focus ((first | exact Nat.le_refl _ | (simp; done) | (simp; omega) | omega | fail))) | fail))
       have N2 := Lib.hid (B10.below BQ.out bz.out hql)
       have D2 : Hid (B5 (w2.alloc (.cells #[.int .i64 K0, .int .i64 K1, .string K2, .slice X3 l3 x3', .slice X4 l4 x4'] 25)) w2.heap.size 25 (.int .i64 K0) (.int .i64 K1) (.string K2) (.slice X3 l3 x3') (.slice X4 l4 x4')) := B5.newat rfl
       have G2 := Lib.hid (GatS.below G1.out bk.out)
       have ld := D2.out.lt
       obtain ⟨W, hW⟩ : ∃ W, W = (w2.alloc (.cells #[.int .i64 K0, .int .i64 K1, .string K2, .slice X3 l3 x3', .slice X4 l4 x4'] 25)) := ⟨_, rfl⟩
       rw [← hW] at bk bz N2 D2 G2 ld
       go_wp2_with fail
       rw [← hW]
       clear hW
       with_reducible refine (CK.out _ bk.out).mono ?_
       rintro e w3 ⟨rfl, rfl⟩
       go_wp2_with fail
       obtain ⟨_, _, _, _, _, _, _, _, _, _, _, _, _, _, _, _, _, _, _, _⟩ := B10.facts N2.out
       obtain ⟨_, _, _, _, _, _, _, _, _, _⟩ := B5.facts D2.out
       have nq : w2.heap.size ≠ q := by omega
       have nq2 : q ≠ w2.heap.size := by omega
       have g3 := Lib.hid (((G2.out.setq (p := ⟨q, 4, none⟩) hql (.slice A i c)).setq (p := ⟨q, 5, none⟩) hql (.bool true)).setq (p := ⟨q, 6, none⟩) hql (.string K2))
       have sv3 := Lib.hid ((((Sav.of (g := q) (h := q) bz.out).set (p := ⟨q, 4, none⟩) (.inl rfl) (.slice A i c)).set (p := ⟨q, 5, none⟩) (.inl rfl) (.bool true)).set (p := ⟨q, 6, none⟩) (.inl rfl) (.string K2))
       go_region
       all_goals
        go_wp2_with fail
        go_ret
        exact enp_yes (v := .slice A i c) Z.out (((N2.out.set4 _).set5 _).set6 _) sv3.out.drew g3.out.drw
theorem fieldnm_any (T : Fd) (t : ByteArray) (q : Nat) (w : World) (_lq : q < w.heap.size) (hq : w.cell? ⟨q, 2, none⟩ = some (.string t)) (Y1 Y3 Y4 : Option Addr) (y1 y3 y4 : Nat) :
 Calls Tryz.prog 176 #[.agg #[.string T.name, .slice Y1 T.al.length y1, .int .i64 T.ty, .bool T.has, .int .i64 T.df.k, .int .i64 T.df.n, .string T.df.t, .slice Y3 T.df.its.length y3, .slice Y4 T.df.ks.length y4], .pointer (some ⟨q, 0, none⟩)] w (Ans (.bool (decide (T.name = t))) w) := by
 have CS := cell_set
 have sx : (T.name.toList == t.toList) = decide (T.name = t) := str_beq _ _
 generalize decide (T.name = t) = b at *
 cases b <;>
 · go_enter Tryz.func176, Tryz.ntmps176
   go_wp2_with fail
   go_ret
   exact ⟨by first | rfl | simp [sx], bqq⟩
def hasF (t : ByteArray) (T : Fd) : Bool := decide (T.name = t)
theorem idxfd_any (l : List Fd) (A : Option Addr) (c : Nat) (t : ByteArray) (w : World) (S : Nat → Prop) (hS : ∀ b, S b → b < w.heap.size) (hll : l.length ≤ 1000000) (hA : RowD w S 9 (l.map Fd.enc) A) (q : Nat) (lq : q < w.heap.size) (hq : w.cell? ⟨q, 2, none⟩ = some (.string t)) :
 Calls Tryz.prog 188 #[.slice A l.length c, .func (.func 176) #[] #[.pointer (some ⟨q, 0, none⟩)]] w (IxP (l.any (hasF t)) w) := by
 have CS := cell_set
 have F := Lib.hid hA
 have HS := Lib.hid hS
 have FC : Hid (∀ T : Fd, ∀ W, Below w.heap.size w W → ∀ Y1 Y3 Y4 y1 y3 y4, Calls Tryz.prog 176 #[.agg #[.string T.name, .slice Y1 T.al.length y1, .int .i64 T.ty, .bool T.has, .int .i64 T.df.k, .int .i64 T.df.n, .string T.df.t, .slice Y3 T.df.its.length y3, .slice Y4 T.df.ks.length y4], .pointer (some ⟨q, 0, none⟩)] W (Ans (.bool (hasF t T)) W)) := fun T W b Y1 Y3 Y4 y1 y3 y4 =>
  fieldnm_any T t q W (Nat.lt_of_lt_of_le lq b.size) ((b.cell (p := ⟨q, 2, none⟩) lq).trans hq) Y1 Y3 Y4 y1 y3 y4
 obtain ⟨f, hf⟩ : ∃ f, f = hasF t := ⟨_, rfl⟩
 rw [← hf] at FC ⊢
 obtain ⟨nk, hnk⟩ : ∃ m, m = l.length := ⟨_, rfl⟩
 have HNK := Lib.hid hnk
 rw [← hnk] at hll ⊢
 have hb : nk ≤ 9223372036854775807 := by omega
 clear hnk hA hq lq hf hS
 go_enter Tryz.func188, Tryz.ntmps188
 go_wp2_with fail
 go_loopw [8] (fun t wq => ∃ j : Nat, j ≤ nk ∧ t = .int .i64 (j : Int) ∧ Hid (∀ m (h : m < l.length), m < j → f (l[m]'h) = false) ∧ Hid (Below w.heap.size w wq)) (fun t _ => nk - (intOf t).toNat)
 case atStart => exact ⟨0, Nat.zero_le _, rfl, (fun _ _ h => absurd h (Nat.not_lt_zero _)), Below.refl _ _⟩
 case round =>
  obtain ⟨m, hm, rfl, NE, bl⟩ := hrel
  have bw := bl.out
  by_cases hmk : m < nk
  · have h1 : m < l.length := by rw [← HNK.out]; exact hmk
    obtain ⟨b8, o8, Y1, y1, Y3, y3, Y4, y4, e8, hb8, ⟨u0, u1, u2, u3, u4, u5, u6, u7, u8⟩, _⟩ := fields_at F.out h1
    have lb := HS.out _ hb8
    have z0 := (bw.cell (p := ⟨b8, o8 + m * 9, none⟩) lb).trans u0
    have z1 := (bw.cell (p := ⟨b8, o8 + m * 9 + 1, none⟩) lb).trans u1
    have z2 := (bw.cell (p := ⟨b8, o8 + m * 9 + 2, none⟩) lb).trans u2
    have z3 := (bw.cell (p := ⟨b8, o8 + m * 9 + 3, none⟩) lb).trans u3
    have z4 := (bw.cell (p := ⟨b8, o8 + m * 9 + 4, none⟩) lb).trans u4
    have z5 := (bw.cell (p := ⟨b8, o8 + m * 9 + 5, none⟩) lb).trans u5
    have z6 := (bw.cell (p := ⟨b8, o8 + m * 9 + 6, none⟩) lb).trans u6
    have z7 := (bw.cell (p := ⟨b8, o8 + m * 9 + 7, none⟩) lb).trans u7
    have z8 := (bw.cell (p := ⟨b8, o8 + m * 9 + 8, none⟩) lb).trans u8
    have FM := Lib.hid (FC.out (l[m]'h1) _ bw Y1 Y3 Y4 y1 y3 y4)
    have ZT : Hid (f (l[m]'h1) = true → l.any f = true) := fun hx => List.any_eq_true.2 ⟨_, List.getElem_mem h1, hx⟩
    have NE2 : Hid (f (l[m]'h1) = false → ∀ q (h : q < l.length), q < m + 1 → f (l[q]'h) = false) := fun hx q h hq => by
     rcases Nat.lt_or_ge q m with g | g
     · exact NE.out q h g
     · obtain rfl : q = m := by omega
       exact hx
    clear u0 u1 u2 u3 u4 u5 u6 u7 u8
    generalize l[m]'h1 = T at *
    have k1 : (m : Int) < (nk : Int) := by omega
    have k2 : ¬ (m : Int) < 0 := by omega
    subst e8
    clear h1 NE FC
    generalize hfy : f T = fy at *
    cases fy with
    | true =>
     have Z := Lib.hid (ZT.out rfl)
     clear ZT NE2 hfy
     go_wp2_with fail
     with_reducible refine FM.out.mono ?_
     rintro e w4 ⟨rfl, b4⟩
     have b5 : Below w.heap.size w w4 := bw.trans (b4.mono bw.size)
     go_wp2_with fail
     go_ret
     exact ixp_ (fun _ => by omega) (fun e => by rw [Z.out] at e; cases e) b5
    | false =>
     have N3 := Lib.hid (NE2.out rfl)
     clear ZT NE2 hfy
     go_wp2_with fail
     with_reducible refine FM.out.mono ?_
     rintro e w4 ⟨rfl, b4⟩
     have b5 : Hid (Below w.heap.size w w4) := bw.trans (b4.mono bw.size)
     go_wp2_with fail
     go_roundw
     case rel => exact ⟨m + 1, by omega, by go_num, N3, b5⟩
     case measure => simp [intOf]; omega
  · obtain rfl : m = nk := by omega
    have Z : Hid (l.any f = false) := by
     refine List.any_eq_false.2 fun x hx => ?_
     obtain ⟨q, hq, rfl⟩ := List.getElem_of_mem hx
     rw [NE.out q hq (by rw [HNK.out]; exact hq)]
     simp
    clear NE hmk FC
    go_wp2_with fail
    go_ret
    exact ixp_ (fun e => by rw [Z.out] at e; cases e) (fun _ => by decide) bw
theorem conffd_any (l : List Fd) (A : Option Addr) (c : Nat) (t : ByteArray) (w : World) (S : Nat → Prop) (hS : ∀ b, S b → b < w.heap.size) (hll : l.length ≤ 1000000) (hA : RowD w S 9 (l.map Fd.enc) A) (q : Nat) (lq : q < w.heap.size) (hq : w.cell? ⟨q, 2, none⟩ = some (.string t)) :
 Calls Tryz.prog 175 #[.slice A l.length c, .func (.func 176) #[] #[.pointer (some ⟨q, 0, none⟩)]] w (Ans (.bool (l.any (hasF t))) w) := by
 have IX := Lib.hid (idxfd_any l A c t w S hS hll hA q lq hq)
 obtain ⟨nk, hnk⟩ : ∃ m, m = l.length := ⟨_, rfl⟩
 generalize l.any (hasF t) = b at *
 rw [← hnk] at IX ⊢
 clear hnk hA hq lq hS hll
 cases b <;>
 · go_enter Tryz.func175, Tryz.ntmps175
   go_wp2_with fail
   with_reducible refine IX.out.mono ?_
   rintro e w1 ⟨z, rfl, hz, hz2, b1⟩
   first | have q2 := hz rfl | have q2 := hz2 rfl
   clear hz hz2
   go_wp2_with fail
   go_ret
   exact ⟨by first | rfl | simp [q2], b1⟩
end Go.Proofs.YthogheglddfniaaGreatDoor
