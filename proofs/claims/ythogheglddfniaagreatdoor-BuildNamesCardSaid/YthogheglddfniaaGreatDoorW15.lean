/- Joined by tools/bundle.py: SCE. -/
import Derived.Deep.CutRange
import Derived.Deep.RegionHeldLaw
import Derived.Lib.SliceRun
import Derived.Test.YthogheglddfniaaGreatDoorW2
import Derived.Test.YthogheglddfniaaGreatDoorW3
import Derived.Test.YthogheglddfniaaGreatDoorW8
import Derived.Test.YthogheglddfniaaGreatDoorW10
import Derived.Test.YthogheglddfniaaGreatDoorW14
import Derived.Test.YthogheglddfniaaGreatDoorW0
set_option maxRecDepth 100000
set_option maxHeartbeats 16000000
namespace Go.Proofs.YthogheglddfniaaGreatDoor
open Go.ChangeShapes Go.WideShapes Go.ChangeAt Go.RowKit Mem
theorem jsonT : RecT Tryz.prog 22 25 5 (.agg #[.int .i64 0, .int .i64 0, .string ⟨#[]⟩, .slice none 0 0, .slice none 0 0]) 80 := ⟨by kernel_rfl, by kernel_rfl, rfl, by decide, by decide⟩
def NewA (s : Nat) (ds : List D) (w : World) (e : Ending) (w' : World) : Prop := ∃ A c, e = .returned (.slice A ds.length c) ∧ ds.length ≤ c ∧ NewR w' w.heap.size s ds A ∧ Below w.heap.size w w'
theorem newA_ret {s n : Nat} {ds : List D} {A : Option Addr} {c : Nat} {w w' : World} (hn : n = ds.length) (hc : n ≤ c) (h : NewR w' w.heap.size s ds A) (b : Below w.heap.size w w') : NewA s ds w (.returned (.slice A n c)) w' := by
 subst hn; exact ⟨A, c, rfl, hc, h, b⟩
theorem kwt_len : ∀ (l : List ByteArray), l.length ≤ kwt l
 | [] => Nat.zero_le _
 | k :: r => by have := kwt_len r; simp only [List.length_cons, kwt]; omega
theorem wts_len : ∀ (l : List J), l.length ≤ J.wts l
 | [] => Nat.zero_le _
 | .mk _ _ _ _ _ :: r => by have := wts_len r; simp only [List.length_cons, J.wts, J.wt]; omega
theorem eachS_any (l : List ByteArray) (hs : ∀ i (h : i < l.length), (l[i]'h).size ≤ 1000000000) (hl : l.length ≤ 100000000) (w : World) (A : Option Addr) (c : Nat) (h : FlS w (· < w.heap.size) A (l.map Value.string)) :
 Calls Tryz.prog 95 #[.slice A l.length c, .func (.func 38) #[] #[]] w (NewA 1 (l.map D.s) w) := by
 have CS := cell_set
 have F := Lib.hid h
 have SC := Lib.hid (fun i (h : i < l.length) W => sclone_any (l[i]'h) (hs i h) W)
 obtain ⟨n, hn⟩ : ∃ n, n = l.length := ⟨_, rfl⟩
 have HN := Lib.hid hn
 rw [← hn] at hl ⊢
 have hb : n ≤ 9223372036854775807 := by omega
 clear hn h hs
 go_enter Tryz.func95, Tryz.ntmps95
 go_wp2_with fail
 go_loopw [10, 5] (fun t v wr => ∃ j : Nat, j ≤ n ∧ t = .int .i64 (j : Int) ∧ Hid (GatS wr w.heap.size 9 1 v ((l.take j).map D.s)) ∧ Hid (Below w.heap.size w wr)) (fun t _ _ => n - (intOf t).toNat)
 case atStart => exact ⟨0, Nat.zero_le _, rfl, GatS.none_ _ _ _ _, Below.refl _ _⟩
 case round =>
  obtain ⟨j, hj, rfl, HG, bl⟩ := hrel
  have bl2 := bl.out
  have z := bl2.size
  by_cases hjn : j < n
  · have h1 : j < l.length := by rw [← HN.out]; exact hjn
    have q : (j : Int) < (n : Int) := by omega
    obtain ⟨b8, o8, e8, hb8, z0⟩ := fl_str (FlS.keep (Below.keeps bl2) (fun _ h => h) F.out) h1
    have SCj := Lib.hid (SC.out j h1)
    have TK : Hid ((l.take (j + 1)).map D.s = (l.take j).map D.s ++ [D.s (l[j]'h1)]) := by
     show _ = _
     rw [List.take_succ_eq_append_getElem h1, List.map_append]; rfl
    generalize l[j]'h1 = Y at *
    subst e8
    clear h1
    go_wp2_with fail
    with_reducible refine (SCj.out _).mono ?_
    rintro e w1 ⟨rfl, b1⟩
    have LJ : Hid (((l.take j).map D.s).length = j) := by show _ = _; have hn := HN.out; simp; omega
    have ND : Hid (NewD w1 wr.heap.size (D.s Y) [.string Y]) := ⟨fun _ => False, fun _ h => h.elim, lies_s.2 rfl, fun _ h => h.elim⟩
    go_wp2_with (at_builtin; go_loud (refine wpList_gat _ textT rfl (.tmp 14) (.tmp 18) rfl w.heap.size u5 _ rfl wr HG.out b1 1 #[.string Y] rfl rfl (by simp [Value.oneCell']) (by rw [LJ.out]; omega) z _ ND.out ?_; intro v3 w3 g3 b3))
    go_roundw
    case rel => exact ⟨j + 1, by omega, by go_num, by rw [TK.out]; exact g3, (bl2.trans (b1.mono z)).trans b3⟩
    case measure => simp [intOf]; omega
  · obtain rfl : j = n := by omega
    have q : ¬ (j : Int) < (j : Int) := by omega
    have TK : l.take j = l := by rw [HN.out, List.take_length]
    rw [TK] at HG
    obtain ⟨A', c', rfl, hc, hr⟩ := HG.out.done
    have HR := Lib.hid hr
    clear hr HG
    go_wp2_with fail
    go_ret
    exact newA_ret (by simp) (by simpa using hc) HR.out bl2
def CpJ (t : J) : Prop := ∀ (w : World) (A3 A4 : Option Addr) (c3 c4 : Nat), t.wt ≤ 1000000 → TreeC w w.heap.size t [.int .i64 t.k, .int .i64 t.n, .string t.t, .slice A3 t.its.length c3, .slice A4 t.ks.length c4] →
 Calls Tryz.prog 136 #[.agg #[.int .i64 t.k, .int .i64 t.n, .string t.t, .slice A3 t.its.length c3, .slice A4 t.ks.length c4]] w (fun e w' => ∃ B3 d3 B4 d4, e = .returned (.agg #[.int .i64 t.k, .int .i64 t.n, .string t.t, .slice B3 t.its.length d3, .slice B4 t.ks.length d4]) ∧ NewD w' w.heap.size t.enc [.int .i64 t.k, .int .i64 t.n, .string t.t, .slice B3 t.its.length d3, .slice B4 t.ks.length d4] ∧ Below w.heap.size w w')
theorem newJ {w : World} {l : Nat} {t : J} {A3 A4 : Option Addr} {c3 c4 : Nat} (h3 : NewR w l 5 (t.its.map J.enc) A3) (h4 : NewR w l 1 (t.ks.map D.s) A4) (l3 : Len t.its.length c3) (l4 : Len t.ks.length c4) : NewD w l t.enc [.int .i64 t.k, .int .i64 t.n, .string t.t, .slice A3 t.its.length c3, .slice A4 t.ks.length c4] := by
 obtain ⟨S3, a1, a2, a3⟩ := h3
 obtain ⟨S4, b1, b2, b3⟩ := h4
 refine ⟨fun b => S3 b ∨ S4 b, fun b hb => hb.elim (a1 b) (b1 b), tree_lies.2 ?_, fun p hp => hp.elim (a3 p) (b3 p)⟩
 cases t with
 | mk k n s its ks =>
  unfold TreeS
  refine ⟨A3, c3, A4, c4, rfl, l3, l4, rows_lies.1 ?_, row_strs.1 (b2.keep (fun _ _ => rfl) fun _ h => .inr h)⟩
  rw [J.encs_map]
  exact a2.keep (fun _ _ => rfl) fun _ h => .inl h
theorem eachJ_any (l : List J) (IHs : ∀ i (h : i < l.length), CpJ (l[i]'h)) (hs : ∀ i (h : i < l.length), (l[i]'h).wt ≤ 1000000) (hl : l.length ≤ 100000000) (w : World) (A : Option Addr) (c : Nat) (h : RowT w w.heap.size l A) :
 Calls Tryz.prog 162 #[.slice A l.length c, .func (.func 136) #[] #[]] w (NewA 5 (l.map J.enc) w) := by
 have CS := cell_set
 have F := Lib.hid h
 have IH := Lib.hid IHs
 have HW := Lib.hid hs
 obtain ⟨n, hn⟩ : ∃ n, n = l.length := ⟨_, rfl⟩
 have HN := Lib.hid hn
 rw [← hn] at hl ⊢
 have hb : n ≤ 9223372036854775807 := by omega
 clear hn h IHs hs
 go_enter Tryz.func162, Tryz.ntmps162
 go_wp2_with fail
 go_loopw [10, 5] (fun t v wr => ∃ j : Nat, j ≤ n ∧ t = .int .i64 (j : Int) ∧ Hid (GatS wr w.heap.size 25 5 v ((l.take j).map J.enc)) ∧ Hid (Below w.heap.size w wr)) (fun t _ _ => n - (intOf t).toNat)
 case atStart => exact ⟨0, Nat.zero_le _, rfl, GatS.none_ _ _ _ _, Below.refl _ _⟩
 case round =>
  obtain ⟨j, hj, rfl, HG, bl⟩ := hrel
  have bl2 := bl.out
  have z := bl2.size
  by_cases hjn : j < n
  · have h1 : j < l.length := by rw [← HN.out]; exact hjn
    have q : (j : Int) < (n : Int) := by omega
    obtain ⟨b1', o1, X3, x3, X4, x4, e1, hb1, y0, y1, y2, y3, y4, ty⟩ := (F.out.below bl2).cells h1
    have lb1 : b1' < wr.heap.size := by omega
    have CJ := Lib.hid (fun W (b : Below wr.heap.size wr W) => IH.out j h1 W X3 X4 x3 x4 (HW.out j h1) (((ty.more z).below b).more b.size))
    have TK : Hid ((l.take (j + 1)).map J.enc = (l.take j).map J.enc ++ [J.enc (l[j]'h1)]) := by
     show _ = _
     rw [List.take_succ_eq_append_getElem h1, List.map_append]; rfl
    generalize l[j]'h1 = T at *
    subst e1
    clear h1 ty
    go_wp2_with fail
    with_reducible refine (CJ.out _ bqq).mono ?_
    rintro e w1 ⟨B3, d3, B4, d4, rfl, nd, b1x⟩
    have LJ : Hid (((l.take j).map J.enc).length = j) := by show _ = _; have hn := HN.out; simp; omega
    have b1 : Below wr.heap.size wr w1 := bqq
    have ND : Hid (NewD w1 wr.heap.size T.enc [.int .i64 T.k, .int .i64 T.n, .string T.t, .slice B3 T.its.length d3, .slice B4 T.ks.length d4]) := nd.less (by simp)
    clear nd
    go_wp2_with (at_builtin; go_loud (refine wpList_gat _ jsonT rfl (.tmp 14) (.tmp 18) rfl w.heap.size u5 _ rfl wr HG.out b1 1 #[.int .i64 T.k, .int .i64 T.n, .string T.t, .slice B3 T.its.length d3, .slice B4 T.ks.length d4] rfl rfl (by simp [Value.oneCell']) (by rw [LJ.out]; omega) z _ ND.out ?_; intro v3 w3 g3 b3))
    go_roundw
    case rel => exact ⟨j + 1, by omega, by go_num, by rw [TK.out]; exact g3, (bl2.trans (b1.mono z)).trans b3⟩
    case measure => simp [intOf]; omega
  · obtain rfl : j = n := by omega
    have q : ¬ (j : Int) < (j : Int) := by omega
    have TK : l.take j = l := by rw [HN.out, List.take_length]
    rw [TK] at HG
    obtain ⟨A', c', rfl, hc, hr⟩ := HG.out.done
    have HR := Lib.hid hr
    clear hr HG
    go_wp2_with fail
    go_ret
    exact newA_ret (by simp) (by simpa using hc) HR.out bl2
theorem post_J {fn : Func} {R : Ending → World → Prop} {a : Act} {w : World} {t : Tmp} {g : Nat} {x0 x1 x2 x3 x4 : Value} (hf : fn.results = #[.cell t 25]) (hd : a.defers = [])
 (hg : a.tmps.getD t undef = .pointer (some ⟨g, 0, none⟩)) (h0 : w.cell? ⟨g, 0, none⟩ = some x0) (h1 : w.cell? ⟨g, 1, none⟩ = some x1) (h2 : w.cell? ⟨g, 2, none⟩ = some x2) (h3 : w.cell? ⟨g, 3, none⟩ = some x3) (h4 : w.cell? ⟨g, 4, none⟩ = some x4)
 (hR : R (.returned (.agg #[x0, x1, x2, x3, x4])) w) : bodyPost Tryz.prog fn R .ret a w := by
 refine bodyPost_ret ?_ hd hR
 rw [Array.getD_eq_getD_getElem?] at hg
 simp [results, hf, hg, go_sem, h0, h1, h2, h3, h4]
theorem copyJ_step (k n : Int) (s : ByteArray) (its : List J) (ks : List ByteArray) (IHs : ∀ i (h : i < its.length), CpJ (its[i]'h)) : CpJ (.mk k n s its ks) := by
 intro w A3 A4 c3 c4 hw ht
 have CS := cell_set
 simp only [J.k, J.n, J.t, J.its, J.ks] at ht ⊢
 obtain ⟨_, _, _, _, e, hc3, hc4, rt, ft⟩ := ht.out
 simp only [J.k, J.n, J.t, J.its, J.ks, List.cons.injEq, Value.slice.injEq, true_and, and_true] at e hc3 hc4 rt ft
 obtain ⟨⟨rfl, rfl⟩, rfl, rfl⟩ := e
 have ws : s.size + kwt ks + J.wts its ≤ 1000000 := by unfold J.wt at hw; omega
 have li : its.length ≤ 1000000 := by have := wts_len its; omega
 have lk : ks.length ≤ 1000000 := by have := kwt_len ks; omega
 have SC := Lib.hid (fun W => sclone_any s (by omega) W)
 have ES := Lib.hid (fun W (b : Below w.heap.size w W) => eachS_any ks (fun i h => by have := kwt_at h; omega) (by omega) W A4 c4 (FlS.keep (Below.keeps b) (fun _ h => Nat.lt_of_lt_of_le h b.size) ft))
 have EJ := Lib.hid (fun W (b : Below w.heap.size w W) => eachJ_any its IHs (fun i h => by have := wts_at h; omega) (by omega) W A3 c3 ((rt.below b).more b.size))
 have NJ : Hid (∀ (W : World) (B3 B4 : Option Addr) (d3 d4 : Nat), NewR W w.heap.size 5 (its.map J.enc) B3 → NewR W w.heap.size 1 (ks.map D.s) B4 → its.length ≤ d3 → ks.length ≤ d4 → NewD W w.heap.size (J.mk k n s its ks).enc [.int .i64 k, .int .i64 n, .string s, .slice B3 its.length d3, .slice B4 ks.length d4]) := fun W B3 B4 d3 d4 h3 h4 h5 h6 =>
  newJ (t := .mk k n s its ks) h3 h4 ⟨h5, hc3.2⟩ ⟨h6, hc4.2⟩
 clear ht rt ft IHs hw ws
 have LI : Hid ((its.map J.enc).length = its.length) := List.length_map ..
 have LK : Hid ((ks.map D.s).length = ks.length) := List.length_map ..
 generalize its.map J.enc = itsD at *
 generalize ks.map D.s = ksD at *
 obtain ⟨ni, hni⟩ : ∃ x, x = its.length := ⟨_, rfl⟩
 obtain ⟨nk, hnk⟩ : ∃ x, x = ks.length := ⟨_, rfl⟩
 rw [← hni] at li EJ NJ LI ⊢
 rw [← hnk] at lk ES NJ LK ⊢
 clear hni hnk hc3 hc4
 have H0 := Lib.hid (B5.alloc (B5.newat (w := w) (t := 25) (x0 := .int .i64 k) (x1 := .int .i64 n) (x2 := .string s) (x3 := .slice A3 ni c3) (x4 := .slice A4 nk c4) rfl) (.cells #[.int .i64 0, .int .i64 0, .string ⟨#[]⟩, .slice none 0 0, .slice none 0 0] 25))
 have R0 := Lib.hid (B5.newat (w := w.alloc (.cells #[.int .i64 k, .int .i64 n, .string s, .slice A3 ni c3, .slice A4 nk c4] 25)) (g := w.heap.size + 1) (t := 25) (x0 := .int .i64 0) (x1 := .int .i64 0) (x2 := .string ⟨#[]⟩) (x3 := .slice none 0 0) (x4 := .slice none 0 0) (by simp))
 go_enter Tryz.func136, Tryz.ntmps136
 go_wp2_with fail
 go_cut [10] from 3 to 10 (fun s10 wc => ∃ (B4 : Option Addr) (d4 : Nat), nk ≤ d4 ∧ Hid (NewR wc (w.heap.size + 2) 1 ksD B4) ∧ Hid (B5 wc w.heap.size 25 (.int .i64 k) (.int .i64 n) (.string s) (.slice A3 ni c3) (.slice B4 nk d4)) ∧ Hid (B5 wc (w.heap.size + 1) 25 (.int .i64 0) (.int .i64 0) (.string ⟨#[]⟩) (.slice none 0 0) (.slice none 0 0)) ∧ Hid (Below w.heap.size w wc) ∧ w.heap.size + 2 ≤ wc.heap.size)
 case first =>
  go_region_with (first
   | (go_at_call 38; (with_reducible refine (SC.out _).mono ?_); rintro e w2 ⟨rfl, b2⟩; have h2 := Lib.hid (B5.below (B5.drew H0.out) b2 sdd); have r2 := Lib.hid (B5.below (B5.drew R0.out) b2 sdd); obtain ⟨_, _, _, _, _, _⟩ := B5.facts h2.out; have z2 := b2.size; try simp at z2; have bw2 : Below w.heap.size w w2 := bqq)
   | (go_at_call 95; (with_reducible refine (ES.out _ bqq).mono ?_); rintro e w3 ⟨B4, d4, rfl, hd4, nr4, b3⟩; have h3 := Lib.hid (B5.below h2.out b3 (by omega)); have r3 := Lib.hid (B5.below r2.out b3 (by omega)); have n4 := Lib.hid (nr4.less (l' := w.heap.size + 2) (by omega)); clear nr4; obtain ⟨_, _, _, _, _, _⟩ := B5.facts h3.out; have z3 := b3.size; have bw3 : Below w.heap.size w w3 := bqq))
  all_goals
   go_wp2_with fail
   go_meet
   rw [LK.out] at *
   exact ⟨B4, d4, hd4, (n4.out.set (by omega) _).set (by omega) _, B5.set4 (B5.set2 h3.out _) _, B5.past (B5.past r3.out (by simp) _) (by simp) _, Lib.hid bqq, by simp [World.setCell]; omega⟩
 case rest =>
  obtain ⟨B4, d4, hd4, n4, hb, rb, bw, zc⟩ := hcut
  obtain ⟨_, _, _, _, _, _, _, _, _, _⟩ := B5.facts hb.out
  obtain ⟨_, _, _, _, _, _, _, _, _, _⟩ := B5.facts rb.out
  have ng : w.heap.size ≠ w.heap.size + 1 := by omega
  go_wp2_with fail
  with_reducible refine (EJ.out _ bw.out).mono ?_
  rintro e w4 ⟨B3, d3, rfl, hd3, nr3, b4⟩
  have h4 := Lib.hid (B5.below hb.out b4 (by omega))
  have r4 := Lib.hid (B5.below rb.out b4 (by omega))
  have m4 := Lib.hid ((n4.out.below b4).less (l' := w.heap.size + 2) (by omega))
  have m3 := Lib.hid (nr3.less (l' := w.heap.size + 2) zc)
  have z4 := b4.size
  have bw4 : Below w.heap.size w w4 := bw.out.trans (b4.mono bw.out.size)
  clear nr3
  rw [LI.out] at *
  obtain ⟨_, _, _, _, _, _, _, _, _, _⟩ := B5.facts h4.out
  obtain ⟨_, _, _, _, _, _, _, _, _, _⟩ := B5.facts r4.out
  go_wp2_with fail
  try simp only [Exit.inBlock, Exit.then]
  refine post_J (x0 := .int .i64 k) (x1 := .int .i64 n) (x2 := .string s) (x3 := .slice B3 ni d3) (x4 := .slice B4 nk d4) rfl rfl rfl (by go_simp) (by go_simp) (by go_simp) (by go_simp) (by go_simp) ?_
  have M3 := m3.out; have M4 := m4.out
  exact ⟨B3, d3, B4, d4, rfl, NJ.out _ _ _ _ _ (NewR.less (l := w.heap.size + 2) (by repeat' (first | with_reducible assumption | (with_reducible refine NewR.set ?_ ?_ _; rotate_left; focus (first | omega | (simp; omega))))) (by omega)) (NewR.less (l := w.heap.size + 2) (by repeat' (first | with_reducible assumption | (with_reducible refine NewR.set ?_ ?_ _; rotate_left; focus (first | omega | (simp; omega))))) (by omega)) hd3 hd4, bqq⟩
theorem copyJ_at : ∀ (N : Nat) (t : J), SizeOf.sizeOf t ≤ N → CpJ t
 | 0, t, h => by cases t; simp at h
 | N + 1, .mk k n s its ks, hN => copyJ_step k n s its ks fun i h => copyJ_at N (its[i]'h) (by have := J.lt_its (j := .mk k n s its ks) (i := i) h; simp only [J.its] at this; omega)
theorem copyJ_any (t : J) : CpJ t := copyJ_at _ t (Nat.le_refl _)
end Go.Proofs.YthogheglddfniaaGreatDoor
namespace Go.Proofs.YthogheglddfniaaGreatDoor
open Go.ChangeShapes Go.WideShapes Go.ChangeAt Go.RowKit Mem
theorem els_ints {w : World} {S : Nat → Prop} : ∀ (l : List Int), ElsS w S 1 (l.map (D.i .i64)) (l.map (Value.int .i64))
 | [] => rfl
 | x :: r => ⟨[.int .i64 x], r.map (Value.int .i64), rfl, rfl, lies_i.2 rfl, els_ints r⟩
theorem fieldT : RecT Tryz.prog 38 97 9 (.agg #[.string ⟨#[]⟩, .slice none 0 0, .int .i64 0, .bool false, .int .i64 0, .int .i64 0, .string ⟨#[]⟩, .slice none 0 0, .slice none 0 0]) 136 := ⟨by kernel_rfl, by kernel_rfl, rfl, by decide, by decide⟩
theorem nodeT : RecT Tryz.prog 28 41 10 (.agg #[.int .i64 0, .string ⟨#[]⟩, .slice none 0 0, .slice none 0 0, .slice none 0 0, .bool false, .string ⟨#[]⟩, .int .i64 0, .int .i64 0, .slice none 0 0]) 160 := ⟨by kernel_rfl, by kernel_rfl, rfl, by decide, by decide⟩
theorem post_F {fn : Func} {R : Ending → World → Prop} {a : Act} {w : World} {t : Tmp} {g : Nat} {x0 x1 x2 x3 x4 x5 x6 x7 x8 : Value} (hf : fn.results = #[.cell t 97]) (hd : a.defers = [])
 (hg : a.tmps.getD t undef = .pointer (some ⟨g, 0, none⟩)) (h0 : w.cell? ⟨g, 0, none⟩ = some x0) (h1 : w.cell? ⟨g, 1, none⟩ = some x1) (h2 : w.cell? ⟨g, 2, none⟩ = some x2) (h3 : w.cell? ⟨g, 3, none⟩ = some x3) (h4 : w.cell? ⟨g, 4, none⟩ = some x4) (h5 : w.cell? ⟨g, 5, none⟩ = some x5) (h6 : w.cell? ⟨g, 6, none⟩ = some x6) (h7 : w.cell? ⟨g, 7, none⟩ = some x7) (h8 : w.cell? ⟨g, 8, none⟩ = some x8)
 (hR : R (.returned (.agg #[x0, x1, x2, x3, x4, x5, x6, x7, x8])) w) : bodyPost Tryz.prog fn R .ret a w := by
 refine bodyPost_ret ?_ hd hR
 rw [Array.getD_eq_getD_getElem?] at hg
 simp [results, hf, hg, go_sem, h0, h1, h2, h3, h4, h5, h6, h7, h8]
theorem post_N {fn : Func} {R : Ending → World → Prop} {a : Act} {w : World} {t : Tmp} {g : Nat} {x0 x1 x2 x3 x4 x5 x6 x7 x8 x9 : Value} (hf : fn.results = #[.cell t 41]) (hd : a.defers = [])
 (hg : a.tmps.getD t undef = .pointer (some ⟨g, 0, none⟩)) (h0 : w.cell? ⟨g, 0, none⟩ = some x0) (h1 : w.cell? ⟨g, 1, none⟩ = some x1) (h2 : w.cell? ⟨g, 2, none⟩ = some x2) (h3 : w.cell? ⟨g, 3, none⟩ = some x3) (h4 : w.cell? ⟨g, 4, none⟩ = some x4) (h5 : w.cell? ⟨g, 5, none⟩ = some x5) (h6 : w.cell? ⟨g, 6, none⟩ = some x6) (h7 : w.cell? ⟨g, 7, none⟩ = some x7) (h8 : w.cell? ⟨g, 8, none⟩ = some x8) (h9 : w.cell? ⟨g, 9, none⟩ = some x9)
 (hR : R (.returned (.agg #[x0, x1, x2, x3, x4, x5, x6, x7, x8, x9])) w) : bodyPost Tryz.prog fn R .ret a w := by
 refine bodyPost_ret ?_ hd hR
 rw [Array.getD_eq_getD_getElem?] at hg
 simp [results, hf, hg, go_sem, h0, h1, h2, h3, h4, h5, h6, h7, h8, h9]
theorem post_S {fn : Func} {R : Ending → World → Prop} {a : Act} {w : World} {t : Tmp} {g : Nat} {x0 x1 : Value} (hf : fn.results = #[.cell t 30]) (hd : a.defers = [])
 (hg : a.tmps.getD t undef = .pointer (some ⟨g, 0, none⟩)) (h0 : w.cell? ⟨g, 0, none⟩ = some x0) (h1 : w.cell? ⟨g, 1, none⟩ = some x1)
 (hR : R (.returned (.agg #[x0, x1])) w) : bodyPost Tryz.prog fn R .ret a w := by
 refine bodyPost_ret ?_ hd hR
 rw [Array.getD_eq_getD_getElem?] at hg
 simp [results, hf, hg, go_sem, h0, h1]
def CpF (f : Fd) : Prop := ∀ (w : World) (A1 A3 A4 : Option Addr) (c1 c3 c4 : Nat), f.sm → Lies w (· < w.heap.size) f.enc [.string f.name, .slice A1 f.al.length c1, .int .i64 f.ty, .bool f.has, .int .i64 f.df.k, .int .i64 f.df.n, .string f.df.t, .slice A3 f.df.its.length c3, .slice A4 f.df.ks.length c4] →
 Calls Tryz.prog 97 #[.agg #[.string f.name, .slice A1 f.al.length c1, .int .i64 f.ty, .bool f.has, .int .i64 f.df.k, .int .i64 f.df.n, .string f.df.t, .slice A3 f.df.its.length c3, .slice A4 f.df.ks.length c4]] w (fun e w' => ∃ B1 d1 B3 d3 B4 d4, e = .returned (.agg #[.string f.name, .slice B1 f.al.length d1, .int .i64 f.ty, .bool f.has, .int .i64 f.df.k, .int .i64 f.df.n, .string f.df.t, .slice B3 f.df.its.length d3, .slice B4 f.df.ks.length d4]) ∧ NewD w' w.heap.size f.enc [.string f.name, .slice B1 f.al.length d1, .int .i64 f.ty, .bool f.has, .int .i64 f.df.k, .int .i64 f.df.n, .string f.df.t, .slice B3 f.df.its.length d3, .slice B4 f.df.ks.length d4] ∧ Below w.heap.size w w')
theorem newF {w : World} {l : Nat} {f : Fd} {A1 A3 A4 : Option Addr} {c1 c3 c4 : Nat} (h1 : NewR w l 1 (f.al.map D.s) A1) (l1 : Len f.al.length c1) (h2 : NewD w l f.df.enc [.int .i64 f.df.k, .int .i64 f.df.n, .string f.df.t, .slice A3 f.df.its.length c3, .slice A4 f.df.ks.length c4]) : NewD w l f.enc [.string f.name, .slice A1 f.al.length c1, .int .i64 f.ty, .bool f.has, .int .i64 f.df.k, .int .i64 f.df.n, .string f.df.t, .slice A3 f.df.its.length c3, .slice A4 f.df.ks.length c4] := by
 obtain ⟨S3, a1, a2, a3⟩ := h1
 obtain ⟨S4, b1, b2, b3⟩ := h2
 refine ⟨fun b => S3 b ∨ S4 b, fun b hb => hb.elim (a1 b) (b1 b), Fd.out.2 ⟨_, _, _, _, _, _, rfl, l1, row_strs.1 (a2.keep (fun _ _ => rfl) fun _ h => .inl h), tree_lies.1 (b2.keep (fun _ _ => rfl) fun _ h => .inr h)⟩, fun p hp => hp.elim (a3 p) (b3 p)⟩
theorem copyF_any (f : Fd) : CpF f := by
 intro w A1 A3 A4 c1 c3 c4 hsm hf
 have CS := cell_set
 obtain ⟨_, _, _, _, _, _, e, la, fa, ta⟩ := Fd.out.1 hf
 simp only [List.cons.injEq, Value.slice.injEq, true_and, and_true] at e
 obtain ⟨⟨rfl, rfl⟩, ⟨rfl, rfl⟩, rfl, rfl⟩ := e
 obtain ⟨s1, s2, s3, s4⟩ := hsm
 have lk : f.al.length ≤ 1000000 := by have := kwt_len f.al; omega
 have SC := Lib.hid (fun W => sclone_any f.name (by omega) W)
 have ES := Lib.hid (fun W (b : Below w.heap.size w W) => eachS_any f.al (fun i h => by have := kwt_at h; omega) (by omega) W A1 c1 (FlS.keep (Below.keeps b) (fun _ h => Nat.lt_of_lt_of_le h b.size) fa))
 have EJ := Lib.hid (fun W (b : Below w.heap.size w W) => copyJ_any f.df W A3 A4 c3 c4 (by omega) ((ta.below b).more b.size))
 have NF : Hid (∀ (W : World) (B1 B3 B4 : Option Addr) (d1 d3 d4 : Nat), NewR W w.heap.size 1 (f.al.map D.s) B1 → f.al.length ≤ d1 → NewD W w.heap.size f.df.enc [.int .i64 f.df.k, .int .i64 f.df.n, .string f.df.t, .slice B3 f.df.its.length d3, .slice B4 f.df.ks.length d4] → NewD W w.heap.size f.enc [.string f.name, .slice B1 f.al.length d1, .int .i64 f.ty, .bool f.has, .int .i64 f.df.k, .int .i64 f.df.n, .string f.df.t, .slice B3 f.df.its.length d3, .slice B4 f.df.ks.length d4]) := fun W B1 B3 B4 d1 d3 d4 h1 h2 h3 => newF h1 ⟨h2, la.2⟩ h3
 have LK : Hid ((f.al.map D.s).length = f.al.length) := List.length_map ..
 clear hf la fa ta s1 s2 s3 s4
 generalize f.al.map D.s = alD at *
 generalize f.df.enc = dfD at *
 generalize f.enc = fD at *
 generalize f.name = nm at *
 generalize f.al.length = n1 at *
 generalize f.ty = ty at *
 generalize f.has = hs at *
 generalize f.df.k = jk at *
 generalize f.df.n = jn at *
 generalize f.df.t = jt at *
 generalize f.df.its.length = n3 at *
 generalize f.df.ks.length = n4 at *
 have H0 := Lib.hid (B9.alloc (B9.newat (w := w) (t := 97) (x0 := .string nm) (x1 := .slice A1 n1 c1) (x2 := .int .i64 ty) (x3 := .bool hs) (x4 := .int .i64 jk) (x5 := .int .i64 jn) (x6 := .string jt) (x7 := .slice A3 n3 c3) (x8 := .slice A4 n4 c4) rfl) (.cells #[.string ⟨#[]⟩, .slice none 0 0, .int .i64 0, .bool false, .int .i64 0, .int .i64 0, .string ⟨#[]⟩, .slice none 0 0, .slice none 0 0] 97))
 have R0 := Lib.hid (B9.newat (w := w.alloc (.cells #[.string nm, .slice A1 n1 c1, .int .i64 ty, .bool hs, .int .i64 jk, .int .i64 jn, .string jt, .slice A3 n3 c3, .slice A4 n4 c4] 97)) (g := w.heap.size + 1) (t := 97) (x0 := .string ⟨#[]⟩) (x1 := .slice none 0 0) (x2 := .int .i64 0) (x3 := .bool false) (x4 := .int .i64 0) (x5 := .int .i64 0) (x6 := .string ⟨#[]⟩) (x7 := .slice none 0 0) (x8 := .slice none 0 0) (by simp))
 go_enter Tryz.func97, Tryz.ntmps97
 go_wp2_with fail
 go_cut [10] from 3 to 10 (fun s10 wc => ∃ (B1 : Option Addr) (d1 : Nat), n1 ≤ d1 ∧ Hid (NewR wc (w.heap.size + 2) 1 alD B1) ∧ Hid (B9 wc w.heap.size 97 (.string nm) (.slice B1 n1 d1) (.int .i64 ty) (.bool hs) (.int .i64 jk) (.int .i64 jn) (.string jt) (.slice A3 n3 c3) (.slice A4 n4 c4)) ∧ Hid (B9 wc (w.heap.size + 1) 97 (.string ⟨#[]⟩) (.slice none 0 0) (.int .i64 0) (.bool false) (.int .i64 0) (.int .i64 0) (.string ⟨#[]⟩) (.slice none 0 0) (.slice none 0 0)) ∧ Hid (Below w.heap.size w wc) ∧ w.heap.size + 2 ≤ wc.heap.size)
 case first =>
  go_region_with (first
   | (go_at_call 38; (with_reducible refine (SC.out _).mono ?_); rintro e w2 ⟨rfl, b2⟩; have h2 := Lib.hid (B9.below (B9.drew H0.out) b2 sdd); have r2 := Lib.hid (B9.below (B9.drew R0.out) b2 sdd); obtain ⟨_, _, _, _, _, _, _, _, _, _, _, _, _, _, _, _, _, _⟩ := B9.facts h2.out; have z2 := b2.size; try simp at z2; have bw2 : Below w.heap.size w w2 := bqq)
   | (go_at_call 95; (with_reducible refine (ES.out _ bqq).mono ?_); rintro e w3 ⟨B1, d1, rfl, hd1, nr4, b3⟩; have h3 := Lib.hid (B9.below h2.out b3 (by omega)); have r3 := Lib.hid (B9.below r2.out b3 (by omega)); have nz := Lib.hid (nr4.less (l' := w.heap.size + 2) (by omega)); clear nr4; obtain ⟨_, _, _, _, _, _, _, _, _, _, _, _, _, _, _, _, _, _⟩ := B9.facts h3.out; have z3 := b3.size; have bw3 : Below w.heap.size w w3 := bqq))
  all_goals
   go_wp2_with fail
   go_meet
   rw [LK.out] at *
   exact ⟨B1, d1, hd1, (nz.out.set (by omega) _).set (by omega) _, B9.set1 (B9.set0 h3.out _) _, B9.past (B9.past r3.out (by simp) _) (by simp) _, Lib.hid bqq, by simp [World.setCell]; omega⟩
 case rest =>
  obtain ⟨B1, d1, hd1, nz, hb, rb, bw, zc⟩ := hcut
  obtain ⟨_, _, _, _, _, _, _, _, _, _, _, _, _, _, _, _, _, _⟩ := B9.facts hb.out
  obtain ⟨_, _, _, _, _, _, _, _, _, _, _, _, _, _, _, _, _, _⟩ := B9.facts rb.out
  have ng : w.heap.size ≠ w.heap.size + 1 := by omega
  go_wp2_with fail
  with_reducible refine (EJ.out _ bw.out).mono ?_
  rintro e w4 ⟨B3, d3, B4, d4, rfl, nr3, b4⟩
  have h4 := Lib.hid (B9.below hb.out b4 (by omega))
  have r4 := Lib.hid (B9.below rb.out b4 (by omega))
  have m4 := Lib.hid ((nz.out.below b4).less (l' := w.heap.size + 2) (by omega))
  have m3 := Lib.hid (nr3.less (l' := w.heap.size + 2) zc)
  have z4 := b4.size
  have bw4 : Below w.heap.size w w4 := bw.out.trans (b4.mono bw.out.size)
  clear nr3
  obtain ⟨_, _, _, _, _, _, _, _, _, _, _, _, _, _, _, _, _, _⟩ := B9.facts h4.out
  obtain ⟨_, _, _, _, _, _, _, _, _, _, _, _, _, _, _, _, _, _⟩ := B9.facts r4.out
  go_wp2_with fail
  try simp only [Exit.inBlock, Exit.then]
  refine post_F (x0 := .string nm) (x1 := .slice B1 n1 d1) (x2 := .int .i64 ty) (x3 := .bool hs) (x4 := .int .i64 jk) (x5 := .int .i64 jn) (x6 := .string jt) (x7 := .slice B3 n3 d3) (x8 := .slice B4 n4 d4) rfl rfl rfl (by go_simp) (by go_simp) (by go_simp) (by go_simp) (by go_simp) (by go_simp) (by go_simp) (by go_simp) (by go_simp) ?_
  have M3 := m3.out; have M4 := m4.out
  exact ⟨B1, d1, B3, d3, B4, d4, rfl, NF.out _ _ _ _ _ _ _ (NewR.less (l := w.heap.size + 2) (by repeat' (first | with_reducible assumption | (with_reducible refine NewR.set ?_ ?_ _; rotate_left; focus (first | omega | (simp; omega))))) (by omega)) hd1 (NewD.less (l := w.heap.size + 2) (by repeat' (first | with_reducible assumption | (with_reducible refine NewD.set ?_ ?_ _; rotate_left; focus (first | omega | (simp; omega))))) (by omega)), bqq⟩
theorem eachF_any (l : List Fd) (hs : ∀ i (h : i < l.length), (l[i]'h).sm) (hl : l.length ≤ 100000000) (w : World) (A : Option Addr) (c : Nat) (h : RowD w (· < w.heap.size) 9 (l.map Fd.enc) A) :
 Calls Tryz.prog 96 #[.slice A l.length c, .func (.func 97) #[] #[]] w (NewA 9 (l.map Fd.enc) w) := by
 have CS := cell_set
 have F := Lib.hid h
 have HW := Lib.hid hs
 obtain ⟨n, hn⟩ : ∃ n, n = l.length := ⟨_, rfl⟩
 have HN := Lib.hid hn
 rw [← hn] at hl ⊢
 have hb : n ≤ 9223372036854775807 := by omega
 clear hn h hs
 go_enter Tryz.func96, Tryz.ntmps96
 go_wp2_with fail
 go_loopw [10, 5] (fun t v wr => ∃ j : Nat, j ≤ n ∧ t = .int .i64 (j : Int) ∧ Hid (GatS wr w.heap.size 97 9 v ((l.take j).map Fd.enc)) ∧ Hid (Below w.heap.size w wr)) (fun t _ _ => n - (intOf t).toNat)
 case atStart => exact ⟨0, Nat.zero_le _, rfl, GatS.none_ _ _ _ _, Below.refl _ _⟩
 case round =>
  obtain ⟨j, hj, rfl, HG, bl⟩ := hrel
  have bl2 := bl.out
  have z := bl2.size
  by_cases hjn : j < n
  · have h1 : j < l.length := by rw [← HN.out]; exact hjn
    have q : (j : Int) < (n : Int) := by omega
    obtain ⟨b1', o1, X1, x1, X3, x3, X4, x4, e1, hb1, ⟨y0, y1, y2, y3, y4, y5, y6, y7, y8⟩, l1, f1, t1⟩ := fields_at (F.out.below bl2) h1
    have lb1 : b1' < wr.heap.size := by omega
    have ty := Fd.out.2 ⟨X1, x1, X3, x3, X4, x4, rfl, l1, f1, t1⟩
    have CJ := Lib.hid (fun W (b : Below wr.heap.size wr W) => copyF_any (l[j]'h1) W X1 X3 X4 x1 x3 x4 (HW.out j h1) (((ty.more z).below b).more b.size))
    have TK : Hid ((l.take (j + 1)).map Fd.enc = (l.take j).map Fd.enc ++ [Fd.enc (l[j]'h1)]) := by
     show _ = _
     rw [List.take_succ_eq_append_getElem h1, List.map_append]; rfl
    generalize l[j]'h1 = T at *
    subst e1
    clear h1 ty l1 f1 t1
    go_wp2_with fail
    with_reducible refine (CJ.out _ bqq).mono ?_
    rintro e w1 ⟨B1, d1, B3, d3, B4, d4, rfl, nd, b1x⟩
    have LJ : Hid (((l.take j).map Fd.enc).length = j) := by show _ = _; have hn := HN.out; simp; omega
    have b1 : Below wr.heap.size wr w1 := bqq
    have ND : Hid (NewD w1 wr.heap.size T.enc [.string T.name, .slice B1 T.al.length d1, .int .i64 T.ty, .bool T.has, .int .i64 T.df.k, .int .i64 T.df.n, .string T.df.t, .slice B3 T.df.its.length d3, .slice B4 T.df.ks.length d4]) := nd.less (by simp)
    clear nd
    go_wp2_with (at_builtin; go_loud (refine wpList_gat _ fieldT rfl (.tmp 14) (.tmp 18) rfl w.heap.size u5 _ rfl wr HG.out b1 1 #[.string T.name, .slice B1 T.al.length d1, .int .i64 T.ty, .bool T.has, .int .i64 T.df.k, .int .i64 T.df.n, .string T.df.t, .slice B3 T.df.its.length d3, .slice B4 T.df.ks.length d4] rfl rfl (by simp [Value.oneCell']) (by rw [LJ.out]; omega) z _ ND.out ?_; intro v3 w3 g3 b3))
    go_roundw
    case rel => exact ⟨j + 1, by omega, by go_num, by rw [TK.out]; exact g3, (bl2.trans (b1.mono z)).trans b3⟩
    case measure => simp [intOf]; omega
  · obtain rfl : j = n := by omega
    have q : ¬ (j : Int) < (j : Int) := by omega
    have TK : l.take j = l := by rw [HN.out, List.take_length]
    rw [TK] at HG
    obtain ⟨A', c', rfl, hc, hr⟩ := HG.out.done
    have HR := Lib.hid hr
    clear hr HG
    go_wp2_with fail
    go_ret
    exact newA_ret (by simp) (by simpa using hc) HR.out bl2
def CpN (n : Nd) : Prop := ∀ (w : World) (A2 A3 A4 A9 : Option Addr) (c2 c3 c4 c9 : Nat), n.sm → Lies w (· < w.heap.size) n.enc [.int .i64 n.k, .string n.name, .slice A2 n.al.length c2, .slice A3 n.fs.length c3, .slice A4 n.sy.length c4, .bool n.has, .string n.df, .int .i64 n.size, .int .i64 n.items, .slice A9 n.br.length c9] →
 Calls Tryz.prog 50 #[.agg #[.int .i64 n.k, .string n.name, .slice A2 n.al.length c2, .slice A3 n.fs.length c3, .slice A4 n.sy.length c4, .bool n.has, .string n.df, .int .i64 n.size, .int .i64 n.items, .slice A9 n.br.length c9]] w (fun e w' => ∃ B2 d2 B3 d3 B4 d4 B9 d9, e = .returned (.agg #[.int .i64 n.k, .string n.name, .slice B2 n.al.length d2, .slice B3 n.fs.length d3, .slice B4 n.sy.length d4, .bool n.has, .string n.df, .int .i64 n.size, .int .i64 n.items, .slice B9 n.br.length d9]) ∧ NewD w' w.heap.size n.enc [.int .i64 n.k, .string n.name, .slice B2 n.al.length d2, .slice B3 n.fs.length d3, .slice B4 n.sy.length d4, .bool n.has, .string n.df, .int .i64 n.size, .int .i64 n.items, .slice B9 n.br.length d9] ∧ Below w.heap.size w w')
theorem newN {w : World} {l : Nat} {n : Nd} {A2 A3 A4 A9 : Option Addr} {c2 c3 c4 c9 : Nat} (h2 : NewR w l 1 (n.al.map D.s) A2) (l2 : Len n.al.length c2) (h3 : NewR w l 9 (n.fs.map Fd.enc) A3) (l3 : Len n.fs.length c3) (h4 : NewR w l 1 (n.sy.map D.s) A4) (l4 : Len n.sy.length c4) (h9 : NewR w l 1 (n.br.map (D.i .i64)) A9) (l9 : Len n.br.length c9) : NewD w l n.enc [.int .i64 n.k, .string n.name, .slice A2 n.al.length c2, .slice A3 n.fs.length c3, .slice A4 n.sy.length c4, .bool n.has, .string n.df, .int .i64 n.size, .int .i64 n.items, .slice A9 n.br.length c9] := by
 obtain ⟨S2, a1, a2, a3⟩ := h2
 obtain ⟨S3, b1, b2, b3⟩ := h3
 obtain ⟨S4, e1, e2, e3⟩ := h4
 obtain ⟨S9, g1, g2, g3⟩ := h9
 refine ⟨fun b => S2 b ∨ S3 b ∨ S4 b ∨ S9 b, fun b hb => ?_, Nd.out.2 ⟨_, _, _, _, _, _, _, _, rfl, l2, row_strs.1 (a2.keep (fun _ _ => rfl) fun _ h => .inl h), l3, b2.keep (fun _ _ => rfl) (fun _ h => .inr (.inl h)), l4, row_strs.1 (e2.keep (fun _ _ => rfl) fun _ h => .inr (.inr (.inl h))), l9, g2.keep (fun _ _ => rfl) fun _ h => .inr (.inr (.inr h))⟩, fun p hp => ?_⟩
 · rcases hb with h | h | h | h
   · exact a1 b h
   · exact b1 b h
   · exact e1 b h
   · exact g1 b h
 · rcases hp with h | h | h | h
   · exact a3 p h
   · exact b3 p h
   · exact e3 p h
   · exact g3 p h
theorem cloneI_any (l : List Int) (hs : l.length ≤ 100000000) (w : World) (A : Option Addr) (c : Nat) (h : RowD w (· < w.heap.size) 1 (l.map (D.i .i64)) A) :
 Calls Tryz.prog 98 #[.slice A l.length c] w (NewA 1 (l.map (D.i .i64)) w) := by
 have FL := Lib.hid (fls_fl (B := w.heap.size) (ints_fl h) (fun _ h => h))
 have nq := fun (A : Option Addr) (n c : Nat) (W : World) => Lib.run_eql_slice_nil (P := Tryz.prog) W 39 3 A n c 0 0 intT.sl
 cases A with
 | none =>
  obtain rfl : l = [] := by
   rcases l with _ | ⟨x, r⟩
   · rfl
   · obtain ⟨_, _, e, _⟩ := ints_at h (i := 0) (by simp)
     cases e
  clear h FL
  go_enter Tryz.func98, Tryz.ntmps98
  go_wp2_with fail
  go_ret
  exact newA_ret rfl (Nat.le_refl _) (NewR.nil_ _ _ _ _) (Below.refl _ _)
 | some ad =>
  have W1 : Below w.heap.size w (w.alloc (.cells #[] 3)) := (Below.refl _ _).alloc (Nat.le_refl _) _
  have FW := Lib.hid (Fl.below FL.out W1)
  have O0 := Lib.hid (own_litR w 3 1 (Nat.le_refl w.heap.size))
  obtain ⟨n, hn⟩ : ∃ n, n = l.length := ⟨_, rfl⟩
  have HN := Lib.hid hn
  rw [← hn] at hs ⊢
  clear h FL hn
  go_enter Tryz.func98, Tryz.ntmps98
  go_wp2_with (at_builtin; refine wpList_appRs _ intT rfl (.tmp 5) (.tmp 6) rfl w.heap.size _ 0 _ rfl O0.out w.heap.size (some ad) n c (l.map (Value.int .i64)) rfl (by rw [List.length_map, HN.out]; omega) FW.out (by intro u hu; obtain ⟨x, _, rfl⟩ := List.mem_map.1 hu; rfl) (by omega) (by simp) ?_; intro v3 w3 o3 b3)
  obtain ⟨A', c', rfl, hc, hr⟩ := GatS.done (v := v3) (w := w3) (base := w.heap.size) (e := 3) (s := 1) (ds := l.map (D.i .i64)) ⟨fun _ => False, l.map (Value.int .i64), by rw [List.length_map, ← HN.out]; simpa using o3, els_ints l, fun _ h => h.elim, fun _ h => h.elim⟩
  go_ret
  exact newA_ret (by simp) (by simpa using hc) hr (W1.trans b3)
theorem copyN_any (n : Nd) : CpN n := by
 intro w A2 A3 A4 A9 c2 c3 c4 c9 hsm hf
 have CS := cell_set
 obtain ⟨_, _, _, _, _, _, _, _, e, l2, f2, l3, r3, l4, f4, l9, r9⟩ := Nd.out.1 hf
 simp only [List.cons.injEq, Value.slice.injEq, true_and, and_true] at e
 obtain ⟨⟨rfl, rfl⟩, ⟨rfl, rfl⟩, ⟨rfl, rfl⟩, rfl, rfl⟩ := e
 obtain ⟨s1, s2, s3, s4, s5, s6, s7⟩ := hsm
 have SA := Lib.hid (fun W => sclone_any n.name (by omega) W)
 have SB := Lib.hid (fun W => sclone_any n.df (by omega) W)
 have EA := Lib.hid (fun W (b : Below w.heap.size w W) => eachS_any n.al (fun i h => by have := kwt_at h; omega) (by have := kwt_len n.al; omega) W A2 c2 (FlS.keep (Below.keeps b) (fun _ h => Nat.lt_of_lt_of_le h b.size) f2))
 have EB := Lib.hid (fun W (b : Below w.heap.size w W) => eachS_any n.sy (fun i h => by have := kwt_at h; omega) (by have := kwt_len n.sy; omega) W A4 c4 (FlS.keep (Below.keeps b) (fun _ h => Nat.lt_of_lt_of_le h b.size) f4))
 have EF := Lib.hid (fun W (b : Below w.heap.size w W) => eachF_any n.fs s7 (by omega) W A3 c3 ((r3.below b).more b.size))
 have EI := Lib.hid (fun W (b : Below w.heap.size w W) => cloneI_any n.br (by omega) W A9 c9 ((r9.below b).more b.size))
 have NN : Hid (∀ (W : World) (B2 B3 B4 B9 : Option Addr) (d2 d3 d4 d9 : Nat), NewR W w.heap.size 1 (n.al.map D.s) B2 → n.al.length ≤ d2 → NewR W w.heap.size 9 (n.fs.map Fd.enc) B3 → n.fs.length ≤ d3 → NewR W w.heap.size 1 (n.sy.map D.s) B4 → n.sy.length ≤ d4 → NewR W w.heap.size 1 (n.br.map (D.i .i64)) B9 → n.br.length ≤ d9 → NewD W w.heap.size n.enc [.int .i64 n.k, .string n.name, .slice B2 n.al.length d2, .slice B3 n.fs.length d3, .slice B4 n.sy.length d4, .bool n.has, .string n.df, .int .i64 n.size, .int .i64 n.items, .slice B9 n.br.length d9]) := fun W B2 B3 B4 B9 d2 d3 d4 d9 h2 k2 h3 k3 h4 k4 h9 k9 => newN h2 ⟨k2, l2.2⟩ h3 ⟨k3, l3.2⟩ h4 ⟨k4, l4.2⟩ h9 ⟨k9, l9.2⟩
 have LA : Hid ((n.al.map D.s).length = n.al.length) := List.length_map ..
 have LS : Hid ((n.sy.map D.s).length = n.sy.length) := List.length_map ..
 have LF : Hid ((n.fs.map Fd.enc).length = n.fs.length) := List.length_map ..
 have LB : Hid ((n.br.map (D.i .i64)).length = n.br.length) := List.length_map ..
 clear hf l2 f2 l3 r3 l4 f4 l9 r9 s1 s2 s3 s4 s5 s6 s7
 generalize n.al.map D.s = alD at *
 generalize n.sy.map D.s = syD at *
 generalize n.fs.map Fd.enc = fsD at *
 generalize n.br.map (D.i .i64) = brD at *
 generalize n.enc = fD at *
 generalize n.name = nm at *
 generalize n.al.length = n2 at *
 generalize n.fs.length = n3 at *
 generalize n.sy.length = n4 at *
 generalize n.br.length = n9 at *
 generalize n.k = k at *
 generalize n.has = hs at *
 generalize n.df = df at *
 generalize n.size = sz at *
 generalize n.items = im at *
 have H0 := Lib.hid (B10.alloc (B10.newat (w := w) (t := 41) (x0 := .int .i64 k) (x1 := .string nm) (x2 := .slice A2 n2 c2) (x3 := .slice A3 n3 c3) (x4 := .slice A4 n4 c4) (x5 := .bool hs) (x6 := .string df) (x7 := .int .i64 sz) (x8 := .int .i64 im) (x9 := .slice A9 n9 c9) rfl) (.cells #[.int .i64 0, .string ⟨#[]⟩, .slice none 0 0, .slice none 0 0, .slice none 0 0, .bool false, .string ⟨#[]⟩, .int .i64 0, .int .i64 0, .slice none 0 0] 41))
 have R0 := Lib.hid (B10.newat (w := w.alloc (.cells #[.int .i64 k, .string nm, .slice A2 n2 c2, .slice A3 n3 c3, .slice A4 n4 c4, .bool hs, .string df, .int .i64 sz, .int .i64 im, .slice A9 n9 c9] 41)) (g := w.heap.size + 1) (t := 41) (x0 := .int .i64 0) (x1 := .string ⟨#[]⟩) (x2 := .slice none 0 0) (x3 := .slice none 0 0) (x4 := .slice none 0 0) (x5 := .bool false) (x6 := .string ⟨#[]⟩) (x7 := .int .i64 0) (x8 := .int .i64 0) (x9 := .slice none 0 0) (by simp))
 go_enter Tryz.func50, Tryz.ntmps50
 go_wp2_with fail
 go_cut [10] from 3 to 10 (fun s10 wc => Hid (B10 wc w.heap.size 41 (.int .i64 k) (.string nm) (.slice A2 n2 c2) (.slice A3 n3 c3) (.slice A4 n4 c4) (.bool hs) (.string df) (.int .i64 sz) (.int .i64 im) (.slice A9 n9 c9)) ∧ Hid (B10 wc (w.heap.size + 1) 41 (.int .i64 0) (.string ⟨#[]⟩) (.slice none 0 0) (.slice none 0 0) (.slice none 0 0) (.bool false) (.string ⟨#[]⟩) (.int .i64 0) (.int .i64 0) (.slice none 0 0)) ∧ Hid (Below w.heap.size w wc) ∧ w.heap.size + 2 ≤ wc.heap.size)
 case first =>
  go_region_with (first
   | (go_at_call 38; (with_reducible refine (SA.out _).mono ?_); rintro e w2 ⟨rfl, b2⟩; have h2 := Lib.hid (B10.below (B10.drew H0.out) b2 sdd); have r2 := Lib.hid (B10.below (B10.drew R0.out) b2 sdd); obtain ⟨_, _, _, _, _, _, _, _, _, _, _, _, _, _, _, _, _, _, _, _⟩ := B10.facts h2.out; have zw2 := b2.size; try simp at zw2; have bw2 : Below w.heap.size w w2 := bqq)
   | (go_at_call 38; (with_reducible refine (SB.out _).mono ?_); rintro e w3 ⟨rfl, b3⟩; have h3 := Lib.hid (B10.below h2.out b3 sdd); have r3 := Lib.hid (B10.below r2.out b3 sdd); obtain ⟨_, _, _, _, _, _, _, _, _, _, _, _, _, _, _, _, _, _, _, _⟩ := B10.facts h3.out; have zw3 := b3.size; try simp at zw3; have bw3 : Below w.heap.size w w3 := bqq))
  all_goals
   go_wp2_with fail
   go_meet
   exact ⟨B10.set6 (B10.set1 h3.out _) _, B10.past (B10.past r3.out (by simp) _) (by simp) _, Lib.hid bqq, by simp [World.setCell]; omega⟩
 case rest =>
  obtain ⟨hb, rb, bw, zc⟩ := hcut
  obtain ⟨_, _, _, _, _, _, _, _, _, _, _, _, _, _, _, _, _, _, _, _⟩ := B10.facts hb.out
  have ng : w.heap.size ≠ w.heap.size + 1 := by omega
  go_wp2_with fail
  go_cut [18] from 11 to 18 (fun s18 wx => ∃ (B2 B4 : Option Addr) (d2 d4 : Nat), n2 ≤ d2 ∧ n4 ≤ d4 ∧ Hid (NewR wx (w.heap.size + 2) 1 alD B2) ∧ Hid (NewR wx (w.heap.size + 2) 1 syD B4) ∧ Hid (B10 wx w.heap.size 41 (.int .i64 k) (.string nm) (.slice B2 n2 d2) (.slice A3 n3 c3) (.slice B4 n4 d4) (.bool hs) (.string df) (.int .i64 sz) (.int .i64 im) (.slice A9 n9 c9)) ∧ Hid (B10 wx (w.heap.size + 1) 41 (.int .i64 0) (.string ⟨#[]⟩) (.slice none 0 0) (.slice none 0 0) (.slice none 0 0) (.bool false) (.string ⟨#[]⟩) (.int .i64 0) (.int .i64 0) (.slice none 0 0)) ∧ Hid (Below w.heap.size w wx) ∧ w.heap.size + 2 ≤ wx.heap.size)
  case first =>
   have bwc := bw.out
   go_region_with (first
    | (go_at_call 95; (with_reducible refine (EA.out _ bqq).mono ?_); rintro e w2 ⟨B2, d2, rfl, hd2, nr2, b2⟩; have h2 := Lib.hid (B10.below (B10.drew hb.out) b2 sdd); have r2 := Lib.hid (B10.below (B10.drew rb.out) b2 sdd); have n2r := Lib.hid (nr2.less (l' := w.heap.size + 2) (by first | omega | (simp; omega))); clear nr2; obtain ⟨_, _, _, _, _, _, _, _, _, _, _, _, _, _, _, _, _, _, _, _⟩ := B10.facts h2.out; have zw2 := b2.size; try simp at zw2; have bw2 : Below w.heap.size w w2 := bqq)
    | (go_at_call 95; (with_reducible refine (EB.out _ bqq).mono ?_); rintro e w3 ⟨B4, d4, rfl, hd4, nr4, b3⟩; have h3 := Lib.hid (B10.below h2.out b3 sdd); have r3 := Lib.hid (B10.below r2.out b3 sdd); have n4r := Lib.hid (nr4.less (l' := w.heap.size + 2) (by first | omega | (simp; omega))); clear nr4; have n2s := Lib.hid (n2r.out.below b3); obtain ⟨_, _, _, _, _, _, _, _, _, _, _, _, _, _, _, _, _, _, _, _⟩ := B10.facts h3.out; have zw3 := b3.size; try simp at zw3; have bw3 : Below w.heap.size w w3 := bqq))
   all_goals
    go_wp2_with fail
    go_meet
    rw [LA.out, LS.out] at *
    exact ⟨B2, B4, d2, d4, hd2, hd4, (n2s.out.set (by omega) _).set (by omega) _, (n4r.out.set (by omega) _).set (by omega) _, B10.set4 (B10.set2 h3.out _) _, B10.past (B10.past r3.out (by simp) _) (by simp) _, Lib.hid bqq, by simp [World.setCell]; omega⟩
  case rest =>
   obtain ⟨B2, B4, d2, d4, hd2, hd4, q2, q4, hx, rx, bx, zx⟩ := hcut
   obtain ⟨_, _, _, _, _, _, _, _, _, _, _, _, _, _, _, _, _, _, _, _⟩ := B10.facts hx.out
   obtain ⟨_, _, _, _, _, _, _, _, _, _, _, _, _, _, _, _, _, _, _, _⟩ := B10.facts rx.out
   have bwx := bx.out
   go_wp2_with fail
   with_reducible refine (EF.out _ bx.out).mono ?_
   rintro e w4 ⟨B3, d3, rfl, hd3, nr3, b4⟩
   have h4 := Lib.hid (B10.below hx.out b4 (by omega))
   have r4 := Lib.hid (B10.below rx.out b4 (by omega))
   have m2 := Lib.hid (q2.out.below b4)
   have m4 := Lib.hid (q4.out.below b4)
   have m3 := Lib.hid (nr3.less (l' := w.heap.size + 2) zx)
   have z4 := b4.size
   have bw4 : Below w.heap.size w w4 := bx.out.trans (b4.mono bx.out.size)
   clear nr3
   rw [LF.out] at *
   obtain ⟨_, _, _, _, _, _, _, _, _, _, _, _, _, _, _, _, _, _, _, _⟩ := B10.facts h4.out
   obtain ⟨_, _, _, _, _, _, _, _, _, _, _, _, _, _, _, _, _, _, _, _⟩ := B10.facts r4.out
   go_wp2_with fail
   with_reducible refine (EI.out _ bqq).mono ?_
   rintro e w5 ⟨B9, d9, rfl, hd9, nr9, b5⟩
   have b5' : Below w4.heap.size (w4.setCell ⟨w.heap.size, 3, none⟩ (.slice B3 n3 d3)) w5 := by simpa [World.setCell] using b5
   have h5 := Lib.hid (B10.below (B10.set3 h4.out (.slice B3 n3 d3)) b5' (by omega))
   have r5 := Lib.hid (B10.below (B10.past r4.out (p := ⟨w.heap.size, 3, none⟩) (by simp) (.slice B3 n3 d3)) b5' (by omega))
   have p2 := Lib.hid ((m2.out.set (g := w.heap.size) (i := 3) (by omega) (.slice B3 n3 d3)).below b5)
   have p4 := Lib.hid ((m4.out.set (g := w.heap.size) (i := 3) (by omega) (.slice B3 n3 d3)).below b5)
   have p3 := Lib.hid ((m3.out.set (g := w.heap.size) (i := 3) (by omega) (.slice B3 n3 d3)).below b5)
   have p9 := Lib.hid (nr9.less (l' := w.heap.size + 2) (by simp [World.setCell]; omega))
   have z5 := b5'.size
   simp [World.setCell] at z5
   have bw5 : Below w.heap.size w w5 := bqq
   clear nr9
   rw [LB.out] at *
   obtain ⟨_, _, _, _, _, _, _, _, _, _, _, _, _, _, _, _, _, _, _, _⟩ := B10.facts h5.out
   obtain ⟨_, _, _, _, _, _, _, _, _, _, _, _, _, _, _, _, _, _, _, _⟩ := B10.facts r5.out
   go_wp2_with fail
   try simp only [Exit.inBlock, Exit.then]
   refine post_N (x0 := .int .i64 k) (x1 := .string nm) (x2 := .slice B2 n2 d2) (x3 := .slice B3 n3 d3) (x4 := .slice B4 n4 d4) (x5 := .bool hs) (x6 := .string df) (x7 := .int .i64 sz) (x8 := .int .i64 im) (x9 := .slice B9 n9 d9) rfl rfl rfl (by go_simp) (by go_simp) (by go_simp) (by go_simp) (by go_simp) (by go_simp) (by go_simp) (by go_simp) (by go_simp) (by go_simp) ?_
   have P2 := p2.out; have P3 := p3.out; have P4 := p4.out; have P9 := p9.out
   exact ⟨B2, d2, B3, d3, B4, d4, B9, d9, rfl, NN.out _ _ _ _ _ _ _ _ _ (NewR.less (l := w.heap.size + 2) (by repeat' (first | with_reducible assumption | (with_reducible refine NewR.set ?_ ?_ _; rotate_left; focus (first | omega | (simp; omega))))) (by omega)) hd2 (NewR.less (l := w.heap.size + 2) (by repeat' (first | with_reducible assumption | (with_reducible refine NewR.set ?_ ?_ _; rotate_left; focus (first | omega | (simp; omega))))) (by omega)) hd3 (NewR.less (l := w.heap.size + 2) (by repeat' (first | with_reducible assumption | (with_reducible refine NewR.set ?_ ?_ _; rotate_left; focus (first | omega | (simp; omega))))) (by omega)) hd4 (NewR.less (l := w.heap.size + 2) (by repeat' (first | with_reducible assumption | (with_reducible refine NewR.set ?_ ?_ _; rotate_left; focus (first | omega | (simp; omega))))) (by omega)) hd9, bqq⟩
theorem eachN_any (l : List Nd) (hs : ∀ i (h : i < l.length), (l[i]'h).sm) (hl : l.length ≤ 100000000) (w : World) (A : Option Addr) (c : Nat) (h : RowD w (· < w.heap.size) 10 (l.map Nd.enc) A) :
 Calls Tryz.prog 49 #[.slice A l.length c, .func (.func 50) #[] #[]] w (NewA 10 (l.map Nd.enc) w) := by
 have CS := cell_set
 have F := Lib.hid h
 have HW := Lib.hid hs
 obtain ⟨n, hn⟩ : ∃ n, n = l.length := ⟨_, rfl⟩
 have HN := Lib.hid hn
 rw [← hn] at hl ⊢
 have hb : n ≤ 9223372036854775807 := by omega
 clear hn h hs
 go_enter Tryz.func49, Tryz.ntmps49
 go_wp2_with fail
 go_loopw [10, 5] (fun t v wr => ∃ j : Nat, j ≤ n ∧ t = .int .i64 (j : Int) ∧ Hid (GatS wr w.heap.size 41 10 v ((l.take j).map Nd.enc)) ∧ Hid (Below w.heap.size w wr)) (fun t _ _ => n - (intOf t).toNat)
 case atStart => exact ⟨0, Nat.zero_le _, rfl, GatS.none_ _ _ _ _, Below.refl _ _⟩
 case round =>
  obtain ⟨j, hj, rfl, HG, bl⟩ := hrel
  have bl2 := bl.out
  have z := bl2.size
  by_cases hjn : j < n
  · have h1 : j < l.length := by rw [← HN.out]; exact hjn
    have q : (j : Int) < (n : Int) := by omega
    obtain ⟨b1', o1, X2, x2, X3, x3, X4, x4, X9, x9, e1, hb1, ⟨y0, y1, y2, y3, y4, y5, y6, y7, y8, y9⟩, ty⟩ := nodes_at (F.out.below bl2) h1
    have lb1 : b1' < wr.heap.size := by omega
    have CJ := Lib.hid (fun W (b : Below wr.heap.size wr W) => copyN_any (l[j]'h1) W X2 X3 X4 X9 x2 x3 x4 x9 (HW.out j h1) (((ty.more z).below b).more b.size))
    have TK : Hid ((l.take (j + 1)).map Nd.enc = (l.take j).map Nd.enc ++ [Nd.enc (l[j]'h1)]) := by
     show _ = _
     rw [List.take_succ_eq_append_getElem h1, List.map_append]; rfl
    generalize l[j]'h1 = T at *
    subst e1
    clear h1 ty
    go_wp2_with fail
    with_reducible refine (CJ.out _ bqq).mono ?_
    rintro e w1 ⟨B2, d2, B3, d3, B4, d4, B9, d9, rfl, nd, b1x⟩
    have LJ : Hid (((l.take j).map Nd.enc).length = j) := by show _ = _; have hn := HN.out; simp; omega
    have b1 : Below wr.heap.size wr w1 := bqq
    have ND : Hid (NewD w1 wr.heap.size T.enc [.int .i64 T.k, .string T.name, .slice B2 T.al.length d2, .slice B3 T.fs.length d3, .slice B4 T.sy.length d4, .bool T.has, .string T.df, .int .i64 T.size, .int .i64 T.items, .slice B9 T.br.length d9]) := nd.less (by simp)
    clear nd
    go_wp2_with (at_builtin; go_loud (refine wpList_gat _ nodeT rfl (.tmp 14) (.tmp 18) rfl w.heap.size u5 _ rfl wr HG.out b1 1 #[.int .i64 T.k, .string T.name, .slice B2 T.al.length d2, .slice B3 T.fs.length d3, .slice B4 T.sy.length d4, .bool T.has, .string T.df, .int .i64 T.size, .int .i64 T.items, .slice B9 T.br.length d9] rfl rfl (by simp [Value.oneCell']) (by rw [LJ.out]; omega) z _ ND.out ?_; intro v3 w3 g3 b3))
    go_roundw
    case rel => exact ⟨j + 1, by omega, by go_num, by rw [TK.out]; exact g3, (bl2.trans (b1.mono z)).trans b3⟩
    case measure => simp [intOf]; omega
  · obtain rfl : j = n := by omega
    have q : ¬ (j : Int) < (j : Int) := by omega
    have TK : l.take j = l := by rw [HN.out, List.take_length]
    rw [TK] at HG
    obtain ⟨A', c', rfl, hc, hr⟩ := HG.out.done
    have HR := Lib.hid hr
    clear hr HG
    go_wp2_with fail
    go_ret
    exact newA_ret (by simp) (by simpa using hc) HR.out bl2
end Go.Proofs.YthogheglddfniaaGreatDoor
namespace Go.Proofs.YthogheglddfniaaGreatDoor
open Go.ChangeShapes Go.WideShapes Go.ChangeAt Go.RowKit Mem
theorem sCopy_any (sc : Sc) (hsm : sc.sm) (w : World) (A : Option Addr) (c : Nat) (h : Lies w (· < w.heap.size) sc.enc [.slice A sc.nodes.length c, .int .i64 sc.root]) :
 Calls Tryz.prog 24 #[.agg #[.slice A sc.nodes.length c, .int .i64 sc.root]] w (fun e w' => ∃ v, e = .returned v ∧ Cp sc w' w.heap.size w'.heap.size v ∧ Below w.heap.size w w') := by
 have CS := cell_set
 obtain ⟨_, _, e, la, ra⟩ := Sc.out.1 h
 simp only [List.cons.injEq, Value.slice.injEq, true_and, and_true] at e
 obtain ⟨rfl, rfl⟩ := e
 have EN := Lib.hid (fun W (b : Below w.heap.size w W) => eachN_any sc.nodes hsm.2 (by have := hsm.1; omega) W A c ((ra.below b).more b.size))
 have CC : Hid (∀ (W : World) (B : Option Addr) (d : Nat), NewR W w.heap.size 10 (sc.nodes.map Nd.enc) B → sc.nodes.length ≤ d → Cp sc W w.heap.size W.heap.size (.agg #[.slice B sc.nodes.length d, .int .i64 sc.root])) := fun W B d hn hd => by
  obtain ⟨S, a1, a2, a3⟩ := hn
  exact ⟨B, d, S, rfl, a1, Sc.out.2 ⟨B, d, rfl, ⟨hd, la.2⟩, a2⟩, a3⟩
 have LN : Hid ((sc.nodes.map Nd.enc).length = sc.nodes.length) := List.length_map ..
 clear h la ra hsm
 generalize sc.nodes.map Nd.enc = nD at *
 have H0 := Lib.hid (B2.alloc (B2.newat (w := w) (t := 30) (x0 := .slice A sc.nodes.length c) (x1 := .int .i64 sc.root) rfl) (.cells #[.slice none 0 0, .int .i64 0] 30))
 have R0 := Lib.hid (B2.newat (w := w.alloc (.cells #[.slice A sc.nodes.length c, .int .i64 sc.root] 30)) (g := w.heap.size + 1) (t := 30) (x0 := .slice none 0 0) (x1 := .int .i64 0) (by simp))
 go_enter Tryz.func24, Tryz.ntmps24
 go_wp2_with fail
 go_region_with (first
  | (go_at_call 49; ((with_reducible refine (EN.out _ bqq).mono ?_); rintro e w3 ⟨B, d, rfl, hd, nr, b3⟩; have h3 := Lib.hid (B2.below (B2.drew H0.out) b3 sdd); have r3 := Lib.hid (B2.below (B2.drew R0.out) b3 sdd); obtain ⟨_, _, _, _⟩ := B2.facts h3.out; obtain ⟨_, _, _, _⟩ := B2.facts r3.out; have bw3 : Below w.heap.size w w3 := bqq; have z3 := b3.size; try simp at z3; have NR := Lib.hid (nr.less (l' := w.heap.size + 2) (by first | (simp; done) | (simp; omega) | omega)); clear nr; rw [LN.out] at hd)))
 all_goals
  go_wp2_with fail
  try simp only [Exit.inBlock, Exit.then]
  try rw [LN.out]
  refine post_S (x0 := .slice B sc.nodes.length d) (x1 := .int .i64 sc.root) rfl rfl rfl (by go_simp) (by go_simp) ?_
  have M := NR.out
  exact ⟨_, rfl, CC.out _ _ _ (NewR.less (l := w.heap.size + 2) (by repeat' (first | with_reducible assumption | (with_reducible refine NewR.set ?_ ?_ _; rotate_left; focus (first | omega | (simp; omega))))) (by omega)) hd, bqq⟩
end Go.Proofs.YthogheglddfniaaGreatDoor
