/- Joined by tools/bundle.py: JRefE JRefF JTVal JGetC NamR NamS NShelf NCode NCodeB. -/
import Derived.Lib.SlBytesConst
import Derived.Shelf.Small.Strs
import Derived.Shelf.Utf8.RuneCount
import Derived.Shelf.LaysM
import Derived.Shelf.Strconv.Clone
import Derived.Shelf.Strings.Search1
import Derived.Shelf.Strings.Search2
import Derived.Shelf.Strings.Search3
import Derived.Shelf.Strings.Count
import Derived.Shelf.Strings.Shaped
import Derived.Shelf.Strings.LastIndex
import Derived.Shelf.Strings.Split
import Derived.Shelf.Strings.SplitShaped
import Derived.Shelf.Strings.RuneCount
import Derived.Shelf.Unicode.DecodeSlow
import Derived.Shelf.Unicode.DecodeAny
import Derived.Shelf.Slices.Equal
import Derived.Ground.Names2Prog
import Derived.Shelf.Slices.Clone
import Derived.Ground.SlgnProg
import Derived.Shelf.SlicesE.Clone
import Derived.Test.YthogheglddfniaaGreatDoorProg
import Derived.Shelf.Strings.SplitCore
import Derived.Test.YthogheglddfniaaGreatDoorW1
import Derived.Test.YthogheglddfniaaGreatDoorW2
import Derived.Test.YthogheglddfniaaGreatDoorW3
import Derived.Test.YthogheglddfniaaGreatDoorW4
import Derived.Test.YthogheglddfniaaGreatDoorW5
import Derived.Test.YthogheglddfniaaGreatDoorW6
import Derived.Test.YthogheglddfniaaGreatDoorW7
import Derived.Test.YthogheglddfniaaGreatDoorW0
set_option maxRecDepth 100000
set_option maxHeartbeats 16000000
namespace Go.Proofs.YthogheglddfniaaGreatDoor
open Go.ChangeShapes Go.WideShapes Go.ChangeAt Go.RowKit Mem
def wval (x : Jx.Wd) : Value := .agg #[.int .i64 (x.k : Int), .int .i64 x.n, .string ⟨x.t.toArray⟩, .int .i64 (x.a : Int), .int .i64 (x.x : Int)]
def TkW (r : Jx.Wd × Nat) (w : World) (e : Ending) (w' : World) : Prop := e = .returned (.tuple #[wval r.1, .int .i64 (r.2 : Int)]) ∧ Below w.heap.size w w'
theorem tkW_ret {r : Jx.Wd × Nat} {k a x e : Nat} {n : Int} {t : List UInt8} {w w' : World} {y0 y1 y3 y4 y5 : Int} {y2 : ByteArray} (h : r = (⟨k, n, t, a, x⟩, e)) (h0 : y0 = (k : Int)) (h1 : y1 = n) (h2 : y2 = ⟨t.toArray⟩) (h3 : y3 = (a : Int)) (h4 : y4 = (x : Int)) (h5 : y5 = (e : Int))
 (hb : Below w.heap.size w w') : TkW r w (.returned (.tuple #[.agg #[.int .i64 y0, .int .i64 y1, .string y2, .int .i64 y3, .int .i64 y4], .int .i64 y5])) w' := by
 subst h; subst h0; subst h1; subst h2; subst h3; subst h4; subst h5; exact ⟨rfl, hb⟩
def Drewn (W w : World) : Prop := ∃ n, w = W.drewN n
theorem bad_zero {e : Nat} : ((Jx.Wd.zero, e) : Jx.Wd × Nat) = (⟨0, 0, [], 0, 0⟩, e) := rfl
theorem tkW_out {k a x er : Nat} {n : Int} {t : List UInt8} {w w' : World} {e : Ending} (h : TkW (⟨k, n, t, a, x⟩, er) w e w') :
 e = .returned (.tuple #[.agg #[.int .i64 (k : Int), .int .i64 n, .string ⟨t.toArray⟩, .int .i64 (a : Int), .int .i64 (x : Int)], .int .i64 (er : Int)]) ∧ Below w.heap.size w w' := h
def Btw (a b : Nat) : Nat → Prop := fun x => a ≤ x ∧ x < b
theorem KeepS.refl (S : Nat → Prop) (w : World) : KeepS S w w := fun _ _ => rfl
theorem KeepS.trans {S : Nat → Prop} {a b c : World} (h : KeepS S a b) (k : KeepS S b c) : KeepS S a c := fun p hp => (k p hp).trans (h p hp)
theorem KeepS.set {S : Nat → Prop} {w w' : World} (h : KeepS S w w') {g : Nat} (hg : ∀ b, S b → b ≠ g) (i : Nat) (u : Value) : KeepS S w (w'.setCell ⟨g, i, none⟩ u) := fun p hp =>
 (World.cell?_setCell_other _ _ _ _ (fun e => hg _ hp (by subst e; rfl))).trans (h p hp)
end Go.Proofs.YthogheglddfniaaGreatDoor
namespace Go.Proofs.YthogheglddfniaaGreatDoor
open Go.ChangeShapes Go.WideShapes Go.ChangeAt Go.RowKit Mem
theorem jrecT : RecT Tryz.prog 22 25 5 (.agg #[.int .i64 0, .int .i64 0, .string ⟨#[]⟩, .slice none 0 0, .slice none 0 0]) 80 := ⟨by kernel_rfl, by kernel_rfl, rfl, by decide, by decide⟩
theorem srecT : RecT Tryz.prog 23 9 1 (.string ⟨#[]⟩) 16 := ⟨by kernel_rfl, by kernel_rfl, rfl, by decide, by decide⟩
theorem ownR_fls {w : World} {base : Nat} {e : TypeId} {s : Nat} {v : Value} {n : Nat} {xs : List Value} (h : OwnR w base e s v n xs) : ∃ A c, v = .slice A n c ∧ n ≤ c ∧ FlS w (Btw base w.heap.size) A xs := by
 by_cases hl : n = 0
 · subst hl
   have hx : xs = [] := List.length_eq_zero_iff.1 (by have := h.1; simpa using this)
   rcases h.2 with ⟨rfl, _⟩ | ⟨g, cap, cur, rfl, _⟩
   · exact ⟨_, _, rfl, Nat.zero_le _, .inl hx⟩
   · exact ⟨_, _, rfl, Nat.zero_le _, .inl hx⟩
 · obtain ⟨g, cap, hv, hbg, hlt⟩ := World.ownsRow.form h (Nat.pos_of_ne_zero hl)
   subst hv
   refine ⟨_, _, rfl, ?_, .inr ⟨g, 0, rfl, ⟨hbg, hlt⟩, fun k hk => ?_⟩⟩
   · rcases h.2 with ⟨e, h0⟩ | ⟨g, cap, cur, e, _, _, hc, _⟩
     · omega
     · injection e with _ _ e
       omega
   · rw [show 0 + k = k by omega]
     exact World.ownsRow.cellAt h k (by rw [← h.1]; exact hk)
theorem trees_fl {w : World} {S S' : Nat → Prop} {l : List J} {q : List (List Value)} {A : Option Addr} (h : TreesS w S l q) (hf : FlS w S' A q.flatten) (hS : ∀ b, S b → S' b) : RowS w S' l A := by
 have h' := TreesS.keep (w := w) (w' := w) (fun _ _ => rfl) hS h
 rcases hf with hf | ⟨b, off, rfl, hb, hc⟩
 · have := h.flat
   rw [hf] at this
   cases l with
   | nil => exact RowS.nil_ _ _ _
   | cons x r => simp at this
 · exact h'.row hb hc
def Free (w wr : World) (v3 v4 : Value) : Nat → Prop := fun b => w.heap.size + 2 ≤ b ∧ b < wr.heap.size ∧ some b ≠ v3.ownBlock ∧ some b ≠ v4.ownBlock
structure St (w wr : World) (kind : Int) (ks : List ByteArray) (js : List J) (css : List (List Value)) (v3 v4 : Value) : Prop where
 o3 : OwnR wr (w.heap.size + 2) 25 5 v3 js.length css.flatten
 o4 : OwnR wr (w.heap.size + 2) 9 1 v4 ks.length (ks.map Value.string)
 tr : TreesS wr (Free w wr v3 v4) js css
 ap : ∀ g, some g = v3.ownBlock → some g ≠ v4.ownBlock
 bk : B5 wr (w.heap.size + 1) 25 (.int .i64 kind) (.int .i64 0) (.string ⟨#[]⟩) v3 v4
 bl : Below (w.heap.size + 1) (w.alloc (.cells #[.int .i64 0, .int .i64 0, .string ⟨#[]⟩, .slice none 0 0, .slice none 0 0] 25)) wr
section
variable {w wr w' : World} {kind : Int} {ks : List ByteArray} {js : List J} {css : List (List Value)} {v3 v4 v3' v4' : Value}
theorem own_lt {base : Nat} {e : TypeId} {s : Nat} {v : Value} {n : Nat} {xs : List Value} (h : OwnR wr base e s v n xs) (g : Nat) (hg : some g = v.ownBlock) : g < wr.heap.size := (h.base_le hg).2
end
end Go.Proofs.YthogheglddfniaaGreatDoor
namespace Go.Proofs.YthogheglddfniaaGreatDoor
open Go.ChangeShapes Go.WideShapes Go.ChangeAt Go.RowKit Mem
theorem post_j2 {fn : Func} {R : Ending → World → Prop} {a : Act} {w : World} {t u : Tmp} {g : Nat} {x0 x1 x2 x3 x4 : Value} (hf : fn.results = #[.cell t 25, .tmp u]) (hd : a.defers = [])
 (hg : a.tmps.getD t undef = .pointer (some ⟨g, 0, none⟩)) (h0 : w.cell? ⟨g, 0, none⟩ = some x0) (h1 : w.cell? ⟨g, 1, none⟩ = some x1) (h2 : w.cell? ⟨g, 2, none⟩ = some x2) (h3 : w.cell? ⟨g, 3, none⟩ = some x3) (h4 : w.cell? ⟨g, 4, none⟩ = some x4)
 (hR : R (.returned (.tuple #[.agg #[x0, x1, x2, x3, x4], a.tmps.getD u undef])) w) : bodyPost Tryz.prog fn R .ret a w := by
 refine bodyPost_ret ?_ hd hR
 rw [Array.getD_eq_getD_getElem?] at hg
 simp [results, hf, hg, go_sem, h0, h1, h2, h3, h4]
def Prs (r : J × Nat) (w : World) (e : Ending) (w' : World) : Prop :=
 ∃ A3 c3 A4 c4, e = .returned (.tuple #[.agg #[.int .i64 r.1.k, .int .i64 r.1.n, .string r.1.t, .slice A3 r.1.its.length c3, .slice A4 r.1.ks.length c4], .int .i64 (r.2 : Int)]) ∧
  TreeS w' (Btw w.heap.size w'.heap.size) r.1 [.int .i64 r.1.k, .int .i64 r.1.n, .string r.1.t, .slice A3 r.1.its.length c3, .slice A4 r.1.ks.length c4] ∧ Below w.heap.size w w'
theorem prs_bad {r : J × Nat} {w w' : World} {er : Nat} {y : Int} (h : r = (J.zero, er)) (hy : y = (er : Int)) (hb : Below w.heap.size w w') :
 Prs r w (.returned (.tuple #[.agg #[.int .i64 0, .int .i64 0, .string ⟨#[]⟩, .slice none 0 0, .slice none 0 0], .int .i64 y])) w' := by
 subst h; subst hy
 exact ⟨none, 0, none, 0, rfl, TreeS.zero_ _ _, hb⟩
theorem prs_ok {r : J × Nat} {w wr w' : World} {j : J} {B : Nat} {A3 A4 : Option Addr} {c3 c4 : Nat} (h : r = (j, 0)) (ht : TreeS wr (Btw B wr.heap.size) j [.int .i64 j.k, .int .i64 j.n, .string j.t, .slice A3 j.its.length c3, .slice A4 j.ks.length c4])
 (hB : w.heap.size ≤ B) (hk : KeepS (Btw B wr.heap.size) wr w') (hs : wr.heap.size ≤ w'.heap.size) (hb : Below w.heap.size w w') :
 Prs r w (.returned (.tuple #[.agg #[.int .i64 j.k, .int .i64 j.n, .string j.t, .slice A3 j.its.length c3, .slice A4 j.ks.length c4], .int .i64 0])) w' := by
 subst h
 exact ⟨A3, c3, A4, c4, rfl, ht.keep hk (fun b hb => ⟨Nat.le_trans hB hb.1, Nat.lt_of_lt_of_le hb.2 hs⟩), hb⟩
def GotS (S : Nat → Prop) (o : Option J) (w : World) (e : Ending) (w' : World) : Prop :=
 ∃ A3 c3 A4 c4, e = .returned (.tuple #[.agg #[.int .i64 (gotten o).k, .int .i64 (gotten o).n, .string (gotten o).t, .slice A3 (gotten o).its.length c3, .slice A4 (gotten o).ks.length c4], .bool o.isSome]) ∧
  TreeS w' S (gotten o) [.int .i64 (gotten o).k, .int .i64 (gotten o).n, .string (gotten o).t, .slice A3 (gotten o).its.length c3, .slice A4 (gotten o).ks.length c4] ∧ Below w.heap.size w w'
theorem gotS_none {S : Nat → Prop} {o : Option J} {w w' : World} {b : Bool} (h : o = none) (hb : b = false) (hw : Below w.heap.size w w') : GotS S o w (.returned (.tuple #[.agg #[.int .i64 0, .int .i64 0, .string ⟨#[]⟩, .slice none 0 0, .slice none 0 0], .bool b])) w' := by
 subst h; subst hb
 exact ⟨none, 0, none, 0, rfl, TreeS.zero_ _ _, hw⟩
theorem gotS_some {S : Nat → Prop} {o : Option J} {j : J} {w w' : World} (hS : ∀ b, S b → b < w.heap.size) {A3 A4 : Option Addr} {c3 c4 : Nat} {b : Bool} (h : o = some j) (hb : b = true) (ht : TreeS w S j [.int .i64 j.k, .int .i64 j.n, .string j.t, .slice A3 j.its.length c3, .slice A4 j.ks.length c4]) (hw : Below w.heap.size w w') :
 GotS S o w (.returned (.tuple #[.agg #[.int .i64 j.k, .int .i64 j.n, .string j.t, .slice A3 j.its.length c3, .slice A4 j.ks.length c4], .bool b])) w' := by
 subst h; subst hb
 exact ⟨A3, c3, A4, c4, rfl, TreeS.keep (fun p hp => hw.cell (hS _ hp)) (fun _ h => h) ht, hw⟩
theorem post_jb {fn : Func} {R : Ending → World → Prop} {a : Act} {w : World} {t u : Tmp} {g : Nat} {x0 x1 x2 x3 x4 : Value} (hf : fn.results = #[.cell t 25, .tmp u]) (hd : a.defers = [])
 (hg : a.tmps.getD t undef = .pointer (some ⟨g, 0, none⟩)) (h0 : w.cell? ⟨g, 0, none⟩ = some x0) (h1 : w.cell? ⟨g, 1, none⟩ = some x1) (h2 : w.cell? ⟨g, 2, none⟩ = some x2) (h3 : w.cell? ⟨g, 3, none⟩ = some x3) (h4 : w.cell? ⟨g, 4, none⟩ = some x4)
 (hR : R (.returned (.tuple #[.agg #[x0, x1, x2, x3, x4], a.tmps.getD u undef])) w) : bodyPost Tryz.prog fn R .ret a w := post_j2 hf hd hg h0 h1 h2 h3 h4 hR
theorem get_anyS (S : Nat → Prop) (j : J) (key : ByteArray) (w : World) (hS : ∀ b, S b → b < w.heap.size) (A3 A4 : Option Addr) (c3 c4 : Nat) (ht : TreeS w S j [.int .i64 j.k, .int .i64 j.n, .string j.t, .slice A3 j.its.length c3, .slice A4 j.ks.length c4]) :
 Calls Tryz.prog 94 #[.agg #[.int .i64 j.k, .int .i64 j.n, .string j.t, .slice A3 j.its.length c3, .slice A4 j.ks.length c4], .string key] w (GotS S (j.get key) w) := by
 have CS := cell_set
 obtain ⟨_, _, _, _, e, hc3, hc4, rt, ft⟩ := ht.out
 simp only [List.cons.injEq, Value.slice.injEq, true_and, and_true] at e
 obtain ⟨⟨rfl, rfl⟩, rfl, rfl⟩ := e
 have W2 : Below w.heap.size w ((w.alloc (.cells #[.int .i64 j.k, .int .i64 j.n, .string j.t, .slice A3 j.its.length c3, .slice A4 j.ks.length c4] 25)).alloc (.cells #[.int .i64 0, .int .i64 0, .string ⟨#[]⟩, .slice none 0 0, .slice none 0 0] 25)) := bqq
 have ix := index_any S A4 c4 j.ks key _ (FlS.keep (fun p hp => W2.cell (hS _ hp)) (fun _ h => h) ft) hc4.2
 unfold Idx at ix
 obtain ⟨o, ho⟩ : ∃ o, o = place7 j.ks key := ⟨_, rfl⟩
 obtain ⟨R, hR⟩ : ∃ R, R = j.get key := ⟨_, rfl⟩
 rw [← ho] at ix
 rw [← hR]
 unfold J.get at hR
 rw [← ho] at hR
 have IX := Lib.hid ix
 have hl3 := hc3.2
 have HO := Lib.hid ho
 clear ix ho
 by_cases hk : j.k = 6
 · rw [if_pos hk] at hR
   have qk : (j.k != 6) = false := by rw [bne_eq_false_iff_eq]; exact hk
   cases o with
   | none =>
    have Z : Hid (R = none) := hR.trans rfl
    have q1 : num7 none < 0 := by decide
    have ix := IX.out
    have IX2 := Lib.hid ix
    clear hR hk ht rt ft hc3 hc4 hl3 IX ix HO
    generalize j.k = jk at *
    go_enter Tryz.func94, Tryz.ntmps94
    go_wp2_with fail
    with_reducible refine IX2.out.mono ?_
    rintro e w3 ⟨rfl, rfl⟩
    go_wp2_with fail
    try simp only [Exit.inBlock, Exit.then]
    refine post_jb (x0 := .int .i64 0) (x1 := .int .i64 0) (x2 := .string ⟨#[]⟩) (x3 := .slice none 0 0) (x4 := .slice none 0 0) rfl rfl rfl (by go_simp) (by go_simp) (by go_simp) (by go_simp) (by go_simp) ?_
    exact gotS_none Z.out rfl bqq
   | some i =>
    have hik := place7_lt HO.out.symm
    have ix := IX.out
    rw [show num7 (some i) = (i : Int) from rfl] at ix
    have IX2 := Lib.hid ix
    have hb4 := hc4.2
    unfold maxLen at hb4 hl3
    by_cases hi : i < j.its.length
    · have Z : Hid (R = some (j.its[i]'hi)) := hR.trans (by show j.its[i]? = _; exact List.getElem?_eq_getElem hi)
      obtain ⟨b1, o1, X3, x3, X4, x4, e1, hb1, y0, y1, y2, y3, y4, ty⟩ := RowS.cells rt hi
      generalize j.its[i]'hi = T at *
      obtain ⟨ni, hni⟩ : ∃ n, n = j.its.length := ⟨_, rfl⟩
      have hin : i < ni := by omega
      rw [← hni] at IX2 hl3 W2 ⊢
      subst e1
      have TY := Lib.hid ty
      clear hR hk ht rt ft hc3 hc4 IX ix HO hi hni ty
      generalize j.k = jk at *
      have lb1 : b1 < w.heap.size := hS _ hb1
      have nb0 : b1 ≠ w.heap.size := by omega
      have nb1 : b1 ≠ w.heap.size + 1 := by omega
      have q2 : ¬ (ni : Int) ≤ (i : Int) := by omega
      have q3 : ¬ (i : Int) < 0 := by omega
      go_enter Tryz.func94, Tryz.ntmps94
      go_wp2_with fail
      with_reducible refine IX2.out.mono ?_
      rintro e w3 ⟨rfl, rfl⟩
      go_wp2_with fail
      try simp only [Exit.inBlock, Exit.then]
      refine post_jb (x0 := .int .i64 T.k) (x1 := .int .i64 T.n) (x2 := .string T.t) (x3 := .slice X3 T.its.length x3) (x4 := .slice X4 T.ks.length x4) rfl rfl rfl (by go_simp) (by go_simp) (by go_simp) (by go_simp) (by go_simp) ?_
      exact gotS_some hS Z.out rfl TY.out bqq
    · have Z : Hid (R = none) := hR.trans (by show j.its[i]? = _; exact List.getElem?_eq_none (by omega))
      obtain ⟨ni, hni⟩ : ∃ n, n = j.its.length := ⟨_, rfl⟩
      have hin : ni ≤ i := by omega
      rw [← hni] at IX2 hl3 W2 ⊢
      clear hR hk ht rt ft hc3 hc4 IX ix HO hi hni
      generalize j.k = jk at *
      have q2 : (ni : Int) ≤ (i : Int) := by omega
      have q3 : ¬ (i : Int) < 0 := by omega
      go_enter Tryz.func94, Tryz.ntmps94
      go_wp2_with fail
      with_reducible refine IX2.out.mono ?_
      rintro e w3 ⟨rfl, rfl⟩
      go_wp2_with fail
      try simp only [Exit.inBlock, Exit.then]
      refine post_jb (x0 := .int .i64 0) (x1 := .int .i64 0) (x2 := .string ⟨#[]⟩) (x3 := .slice none 0 0) (x4 := .slice none 0 0) rfl rfl rfl (by go_simp) (by go_simp) (by go_simp) (by go_simp) (by go_simp) ?_
      exact gotS_none Z.out rfl bqq
 · rw [if_neg hk] at hR
   have qk : (j.k != 6) = true := by rw [bne_iff_ne]; exact hk
   have Z := Lib.hid hR
   clear hR hk ht rt ft hc3 hc4 hl3
   go_enter Tryz.func94, Tryz.ntmps94
   go_wp2_with fail
   with_reducible refine IX.out.mono ?_
   rintro e w3 ⟨rfl, rfl⟩
   go_wp2_with fail
   try simp only [Exit.inBlock, Exit.then]
   refine post_jb (x0 := .int .i64 0) (x1 := .int .i64 0) (x2 := .string ⟨#[]⟩) (x3 := .slice none 0 0) (x4 := .slice none 0 0) rfl rfl rfl (by go_simp) (by go_simp) (by go_simp) (by go_simp) (by go_simp) ?_
   exact gotS_none Z.out rfl bqq
def sst (l : List UInt8) : ByteArray := ⟨l.toArray⟩
theorem sst_out (s : ByteArray) : sst s.data.toList = s := by unfold sst; simp
theorem sst_in (l : List UInt8) : (sst l).data.toList = l := by unfold sst; simp
theorem sst_size (l : List UInt8) : (sst l).size = l.length := by unfold sst; show l.toArray.size = _; simp
theorem len_str (s : ByteArray) : s.data.toList.length = s.size := by rw [Array.length_toList]; rfl
theorem idx_str (s : ByteArray) (j : Nat) (h : j < s.size) (W : World) : (Instr.index 9 (.string s) (.int .i64 (j : Int))).run Tryz.prog W = .ok (.int .u8 ((Jx.byt s.data.toList j : Nat) : Int)) W := by
 rw [run_index_string _ _ _ _ _ strT, dif_pos ⟨by omega, by omega⟩]
 congr 2
 unfold Jx.byt
 have e : s.data.toList.getD j 0 = s[j]'h := by
  rw [List.getD, List.getElem?_eq_getElem (by rw [len_str]; exact h)]
  simp
  rfl
 rw [e]
 rfl
theorem ext_l (s : ByteArray) (k : Nat) : s.extract k s.size = sst (s.data.toList.drop k) := by
 apply ByteArray.ext
 unfold sst
 apply Array.ext'
 rw [ByteArray.data_extract, Array.toList_extract]
 have := len_str s
 simp [List.extract, List.take_of_length_le, this]
theorem ext_h (s : ByteArray) (k : Nat) : s.extract 0 k = sst (s.data.toList.take k) := by
 apply ByteArray.ext
 unfold sst
 apply Array.ext'
 rw [ByteArray.data_extract, Array.toList_extract]
 simp [List.extract]
def Pure (v : Value) (w : World) (e : Ending) (w' : World) : Prop := e = .returned v ∧ w = w'
theorem pure_ret {v v' : Value} {w : World} (h : v = v') : Pure v w (.returned v') w := by subst h; exact ⟨rfl, rfl⟩
theorem simple_iff {l : List UInt8} : Nm.simple l = true ↔ l.length ≠ 0 ∧ l.length ≤ 100 ∧ Nm.lt (Jx.byt l 0) = true ∧ ∀ j, j < l.length → Nm.ch (Jx.byt l j) = true := by
 unfold Nm.simple Nm.chs
 simp only [Bool.and_eq_true, decide_eq_true_eq, List.all_eq_true]
 constructor
 · rintro ⟨⟨⟨h1, h2⟩, h3⟩, h4⟩
   refine ⟨h1, h2, h3, fun j hj => ?_⟩
   have := h4 _ (List.getElem_mem hj)
   unfold Jx.byt
   rw [List.getD, List.getElem?_eq_getElem hj]
   exact this
 · rintro ⟨h1, h2, h3, h4⟩
   refine ⟨⟨⟨h1, h2⟩, h3⟩, fun x hx => ?_⟩
   obtain ⟨j, hj, rfl⟩ := List.getElem_of_mem hx
   have := h4 j hj
   unfold Jx.byt at this
   rw [List.getD, List.getElem?_eq_getElem hj] at this
   exact this
theorem simple_no {l : List UInt8} (h : ¬ (l.length ≠ 0 ∧ l.length ≤ 100 ∧ Nm.lt (Jx.byt l 0) = true ∧ ∀ j, j < l.length → Nm.ch (Jx.byt l j) = true)) : Nm.simple l = false := by
 rcases hs : Nm.simple l with _ | _
 · rfl
 · exact absurd (simple_iff.1 hs) h
theorem cut_l (s : ByteArray) (m : Nat) (z : Int) (hz : z = (m : Int)) (hm : m ≤ s.size) (W : World) : (Instr.slice 9 (.string s) (some (.int .i64 z)) none none).run Tryz.prog W = .ok (.string (sst (s.data.toList.drop m))) W := by
 subst hz
 rw [run_slice_string_l W _ s strT .i64 _ (by omega) (by omega)]
 rw [show ((m : Int)).toNat = m by omega, ext_l]
theorem cut_h (s : ByteArray) (m : Nat) (z : Int) (hz : z = (m : Int)) (hm : m ≤ s.size) (W : World) : (Instr.slice 9 (.string s) none (some (.int .i64 z)) none).run Tryz.prog W = .ok (.string (sst (s.data.toList.take m))) W := by
 subst hz
 rw [run_slice_string_h W _ s strT .i64 _ (by omega) (by omega)]
 rw [show ((m : Int)).toNat = m by omega, ext_h]
def joined (o : Option (List UInt8)) : Value := .tuple #[.string (sst (o.getD [])), .bool o.isSome]
theorem joined_no {o : Option (List UInt8)} (h : o = none) : joined o = .tuple #[.string ⟨#[]⟩, .bool false] := by subst h; rfl
theorem joined_yes {o : Option (List UInt8)} {l : List UInt8} {s : ByteArray} (h : o = some l) (hs : s = sst l) : joined o = .tuple #[.string s, .bool true] := by subst h; subst hs; rfl
theorem sum_str (a b : ByteArray) : a ++ (⟨#[46]⟩ : ByteArray) ++ b = sst (a.data.toList ++ 46 :: b.data.toList) := by
 unfold sst
 apply ByteArray.ext
 apply Array.ext'
 simp
end Go.Proofs.YthogheglddfniaaGreatDoor
namespace Go.Proofs
open Go.Shelf
def Tryz.lays146_ren : Go.Shelf.Ren := ⟨fun | 146 => 36 | 221 => 75 | 268 => 117 | 138 => 118 | 143 => 119 | 195 => 143 | 197 => 144 | 218 => 145 | 219 => 146 | 260 => 164 | 217 => 165 | 225 => 166 | 224 => 167 | 267 => 168 | 266 => 181 | 314 => 182 | n => n, fun | 9 => 9 | 31 => 23 | 3 => 3 | 4 => 4 | 0 => 0 | 105 => 170 | 21 => 21 | 5 => 5 | 46 => 172 | 119 => 201 | 139 => 204 | 138 => 203 | 146 => 154 | 51 => 153 | n => n, fun | 1 => 0 | 3 => 3 | 4 => 4 | n => n⟩
theorem Tryz.lays146 : Go.Proofs.Lays.n146 Tryz.prog Tryz.lays146_ren := {
 mixed := by kernel_rfl
 f138 := Tryz.func118.trans (congrArg some (by kernel_rfl))
 f143 := Tryz.func119.trans (congrArg some (by kernel_rfl))
 f146 := Tryz.func36.trans (congrArg some (by kernel_rfl))
 f195 := Tryz.func143.trans (congrArg some (by kernel_rfl))
 f197 := Tryz.func144.trans (congrArg some (by kernel_rfl))
 f217 := Tryz.func165.trans (congrArg some (by kernel_rfl))
 f218 := Tryz.func145.trans (congrArg some (by kernel_rfl))
 f219 := Tryz.func146.trans (congrArg some (by kernel_rfl))
 f221 := Tryz.func75.trans (congrArg some (by kernel_rfl))
 f224 := Tryz.func167.trans (congrArg some (by kernel_rfl))
 f225 := Tryz.func166.trans (congrArg some (by kernel_rfl))
 f260 := Tryz.func164.trans (congrArg some (by kernel_rfl))
 f266 := Tryz.func181.trans (congrArg some (by kernel_rfl))
 f267 := Tryz.func168.trans (congrArg some (by kernel_rfl))
 f268 := Tryz.func117.trans (congrArg some (by kernel_rfl))
 f314 := Tryz.func182.trans (congrArg some (by kernel_rfl))
 t0 := Tryz.underlying0
 a0 := Tryz.isAgg0
 z0 := Tryz.sizeOf0
 v0 := Tryz.zeroValue0
 t3 := Tryz.underlying3
 a3 := Tryz.isAgg3
 z3 := Tryz.sizeOf3
 v3 := Tryz.zeroValue3
 t4 := Tryz.underlying4
 a4 := Tryz.isAgg4
 z4 := Tryz.sizeOf4
 v4 := Tryz.zeroValue4
 t5 := Tryz.underlying5
 a5 := Tryz.isAgg5
 z5 := Tryz.sizeOf5
 v5 := Tryz.zeroValue5
 t9 := Tryz.underlying9
 a9 := Tryz.isAgg9
 z9 := Tryz.sizeOf9
 v9 := Tryz.zeroValue9
 t21 := Tryz.underlying21
 a21 := Tryz.isAgg21
 z21 := Tryz.sizeOf21
 v21 := Tryz.zeroValue21
 t31 := Tryz.underlying23
 a31 := Tryz.isAgg23
 z31 := Tryz.sizeOf23
 v31 := Tryz.zeroValue23
 t46 := Tryz.underlying172
 a46 := Tryz.isAgg172
 z46 := Tryz.sizeOf172
 v46 := Tryz.zeroValue172
 t51 := Tryz.underlying153
 a51 := Tryz.isAgg153
 z51 := Tryz.sizeOf153
 v51 := Tryz.zeroValue153
 t105 := Tryz.underlying170
 a105 := Tryz.isAgg170
 z105 := Tryz.sizeOf170
 v105 := Tryz.zeroValue170
 t119 := Tryz.underlying201
 a119 := Tryz.isAgg201
 z119 := Tryz.sizeOf201
 t138 := Tryz.underlying203
 a138 := Tryz.isAgg203
 z138 := Tryz.sizeOf203
 v138 := Tryz.zeroValue203
 t139 := Tryz.underlying204
 a139 := Tryz.isAgg204
 z139 := Tryz.sizeOf204
 v139 := Tryz.zeroValue204
 t146 := Tryz.underlying154
 a146 := Tryz.isAgg154
 z146 := Tryz.sizeOf154
 v146 := Tryz.zeroValue154
 g1 := by kernel_rfl
 g3 := by kernel_rfl
 g4 := by kernel_rfl }
def Tryz.lays148_ren : Go.Shelf.Ren := ⟨fun | 148 => 39 | 222 => 79 | 223 => 80 | 269 => 120 | n => n, fun | 9 => 9 | 3 => 3 | 4 => 4 | 5 => 5 | 146 => 154 | 51 => 153 | 46 => 172 | n => n, fun | n => n⟩
theorem Tryz.lays148 : Go.Proofs.Lays.n148 Tryz.prog Tryz.lays148_ren := {
 mixed := by kernel_rfl
 f148 := Tryz.func39.trans (congrArg some (by kernel_rfl))
 f222 := Tryz.func79.trans (congrArg some (by kernel_rfl))
 f223 := Tryz.func80.trans (congrArg some (by kernel_rfl))
 f269 := Tryz.func120.trans (congrArg some (by kernel_rfl))
 t3 := Tryz.underlying3
 a3 := Tryz.isAgg3
 z3 := Tryz.sizeOf3
 v3 := Tryz.zeroValue3
 t4 := Tryz.underlying4
 a4 := Tryz.isAgg4
 z4 := Tryz.sizeOf4
 v4 := Tryz.zeroValue4
 t5 := Tryz.underlying5
 a5 := Tryz.isAgg5
 z5 := Tryz.sizeOf5
 v5 := Tryz.zeroValue5
 t9 := Tryz.underlying9
 a9 := Tryz.isAgg9
 z9 := Tryz.sizeOf9
 v9 := Tryz.zeroValue9
 t46 := Tryz.underlying172
 a46 := Tryz.isAgg172
 z46 := Tryz.sizeOf172
 v46 := Tryz.zeroValue172
 t51 := Tryz.underlying153
 a51 := Tryz.isAgg153
 z51 := Tryz.sizeOf153
 v51 := Tryz.zeroValue153
 t146 := Tryz.underlying154
 a146 := Tryz.isAgg154
 z146 := Tryz.sizeOf154
 v146 := Tryz.zeroValue154 }
open Go.RowKit Go.Lib in
theorem Tryz.strings_LastIndex_one (s sub : ByteArray) (h1 : sub.size = 1) (hs : s.size < 4611686018427387904) (w : World) :
 Calls Tryz.prog 39 #[.string s, .string sub] w fun e w' => e = .returned (.int .i64 (Lib.lastIndexByte s ((sub[0]'(by omega)).toNat : Int))) ∧ w' = w := Any.strings_LastIndex_one Tryz.lays148 s sub h1 hs w
def Tryz.lays144_ren : Go.Shelf.Ren := ⟨fun | 144 => 126 | 143 => 119 | 219 => 146 | 217 => 165 | 225 => 166 | 224 => 167 | 267 => 168 | 266 => 181 | 314 => 182 | n => n, fun | 9 => 9 | 4 => 4 | 3 => 3 | 5 => 5 | 46 => 172 | 146 => 154 | 51 => 153 | n => n, fun | 1 => 0 | n => n⟩
theorem Tryz.lays144 : Go.Proofs.Lays.n144 Tryz.prog Tryz.lays144_ren := {
 mixed := by kernel_rfl
 f143 := Tryz.func119.trans (congrArg some (by kernel_rfl))
 f144 := Tryz.func126.trans (congrArg some (by kernel_rfl))
 f217 := Tryz.func165.trans (congrArg some (by kernel_rfl))
 f219 := Tryz.func146.trans (congrArg some (by kernel_rfl))
 f224 := Tryz.func167.trans (congrArg some (by kernel_rfl))
 f225 := Tryz.func166.trans (congrArg some (by kernel_rfl))
 f266 := Tryz.func181.trans (congrArg some (by kernel_rfl))
 f267 := Tryz.func168.trans (congrArg some (by kernel_rfl))
 f314 := Tryz.func182.trans (congrArg some (by kernel_rfl))
 t3 := Tryz.underlying3
 a3 := Tryz.isAgg3
 z3 := Tryz.sizeOf3
 v3 := Tryz.zeroValue3
 t4 := Tryz.underlying4
 a4 := Tryz.isAgg4
 z4 := Tryz.sizeOf4
 v4 := Tryz.zeroValue4
 t5 := Tryz.underlying5
 a5 := Tryz.isAgg5
 z5 := Tryz.sizeOf5
 v5 := Tryz.zeroValue5
 t9 := Tryz.underlying9
 a9 := Tryz.isAgg9
 z9 := Tryz.sizeOf9
 v9 := Tryz.zeroValue9
 t46 := Tryz.underlying172
 a46 := Tryz.isAgg172
 z46 := Tryz.sizeOf172
 v46 := Tryz.zeroValue172
 t51 := Tryz.underlying153
 a51 := Tryz.isAgg153
 z51 := Tryz.sizeOf153
 v51 := Tryz.zeroValue153
 t146 := Tryz.underlying154
 a146 := Tryz.isAgg154
 z146 := Tryz.sizeOf154
 v146 := Tryz.zeroValue154
 g1 := by kernel_rfl }
open Go.RowKit Go.Lib in
theorem Tryz.strings_Contains_one (s : ByteArray) (c : UInt8) (w : World) :
 Calls Tryz.prog 126 #[.string s, .string ⟨#[c]⟩] w fun e w' => e = .returned (.bool (decide (0 ≤ Lib.indexByte s.data.toList c))) ∧ w' = w := Any.strings_Contains_one Tryz.lays144 s c w
def Tryz.laysM316_ren : Go.Shelf.Ren := ⟨fun | 316 => 78 | n => n, fun | 9 => 9 | 3 => 3 | 4 => 4 | 37 => 50 | 0 => 0 | 127 => 152 | 5 => 5 | n => n, fun | n => n⟩
theorem Tryz.laysM316 : Go.Proofs.LaysM.n316 Tryz.prog Tryz.laysM316_ren := {
 mixed := by kernel_rfl
 f316 := Tryz.func78.trans (congrArg some (by kernel_rfl))
 t0 := Tryz.underlying0
 a0 := Tryz.isAgg0
 z0 := Tryz.sizeOf0
 v0 := Tryz.zeroValue0
 t3 := Tryz.underlying3
 a3 := Tryz.isAgg3
 z3 := Tryz.sizeOf3
 v3 := Tryz.zeroValue3
 t4 := Tryz.underlying4
 a4 := Tryz.isAgg4
 z4 := Tryz.sizeOf4
 v4 := Tryz.zeroValue4
 t9 := Tryz.underlying9
 a9 := Tryz.isAgg9
 z9 := Tryz.sizeOf9
 v9 := Tryz.zeroValue9
 t37 := Tryz.underlying50
 a37 := Tryz.isAgg50
 z37 := Tryz.sizeOf50
 v37 := Tryz.zeroValue50
 t127 := Tryz.underlying152
 a127 := Tryz.isAgg152
 z127 := Tryz.sizeOf152
 v127 := Tryz.zeroValue152
 t5 := Tryz.underlying5
 a5 := Tryz.isAgg5
 z5 := Tryz.sizeOf5
 v5 := Tryz.zeroValue5
 i0 := by kernel_rfl
 i3 := by kernel_rfl
 i4 := by kernel_rfl
 i5 := by kernel_rfl
 i9 := by kernel_rfl
 i37 := by kernel_rfl
 i127 := by kernel_rfl }
open Go.RowKit in
theorem Tryz.stringslite_Clone (s : ByteArray) (w : World) (hlim : s.size ≤ 281474976710656) :
 Calls Tryz.prog 78 #[.string s] w fun e w' => e = .returned (.string s) ∧ Below w.heap.size w w' := Any.stringslite_Clone Tryz.laysM316 s w hlim
end Go.Proofs
namespace Go.Proofs.YthogheglddfniaaGreatDoor
open Go.ChangeShapes Go.WideShapes Go.ChangeAt Go.RowKit Mem
abbrev LaidN := Laid
theorem LaidN.below {w w' : World} (h : LaidN w) (b : Below w.heap.size w w') : LaidN w' := Laid.below h b h.top
def Ans (v : Value) (w : World) (e : Ending) (w' : World) : Prop := e = .returned v ∧ Below w.heap.size w w'
theorem Pure.ans {v : Value} {w w' : World} {e : Ending} (h : Pure v w e w') : Ans v w e w' := ⟨h.1, by rw [← h.2]; exact Below.refl _ _⟩
theorem ne_facts {s : ByteArray} (h : s ≠ ⟨#[]⟩) : (s.toList != (⟨#[]⟩ : ByteArray).toList) = true ∧ (s.toList != []) = true ∧ s.toList.isEmpty = false ∧ (s.toList == (⟨#[]⟩ : ByteArray).toList) = false ∧ (s.toList == []) = false := by
 have e0 : (⟨#[]⟩ : ByteArray).toList = [] := by rw [ByteArray.toList_eq]
 have sx : (s.toList != (⟨#[]⟩ : ByteArray).toList) = true := by rw [str_bne]; simpa using h
 have sy : (s.toList == (⟨#[]⟩ : ByteArray).toList) = false := by rw [str_beq]; simpa using h
 have sx3 : (s.toList != []) = true := by rwa [e0] at sx
 have sy3 : (s.toList == []) = false := by rwa [e0] at sy
 exact ⟨sx, sx3, by rw [List.isEmpty_eq_false_iff]; simpa using sx3, sy, sy3⟩
theorem size_0 {s : ByteArray} (h : s.size = 0) : s = ⟨#[]⟩ := by
 rw [← sst_out s]
 have := len_str s
 rw [h] at this
 rw [List.length_eq_zero_iff.1 this]
 rfl
theorem nletter_any (c : Nat) (_h : c < 256) (w : World) : Calls Tryz.prog 77 #[.int .u8 (c : Int)] w (Pure (.bool (Nm.lt c)) w) := by
 obtain ⟨b, hb⟩ : ∃ b, b = Nm.lt c := ⟨_, rfl⟩
 rw [← hb]
 unfold Nm.lt at hb
 rcases (show c < 65 ∨ (65 ≤ c ∧ c ≤ 90) ∨ (90 < c ∧ c < 95) ∨ c = 95 ∨ c = 96 ∨ (97 ≤ c ∧ c ≤ 122) ∨ 122 < c by omega) with g | ⟨g1, g2⟩ | ⟨g1, g2⟩ | g | g | ⟨g1, g2⟩ | g
 all_goals
  first
   | (have hq : b = true := by rw [hb, decide_eq_true_eq]; omega)
   | (have hq : b = false := by rw [hb, decide_eq_false_iff_not]; omega)
  subst hq
  clear hb
  try subst g
  try (have t90 : (c : Int) ≤ 90 := by omega)
  try (have t90 : ¬ (c : Int) ≤ 90 := by omega)
  try (have t122 : (c : Int) ≤ 122 := by omega)
  try (have t122 : ¬ (c : Int) ≤ 122 := by omega)
  try (have t65 : (65 : Int) ≤ (c : Int) := by omega)
  try (have t65 : ¬ (65 : Int) ≤ (c : Int) := by omega)
  try (have t97 : (97 : Int) ≤ (c : Int) := by omega)
  try (have t97 : ¬ (97 : Int) ≤ (c : Int) := by omega)
  try (have q95 : ((c : Int) == 95) = false := by rw [beq_eq_false_iff_ne]; omega)
  go_enter Tryz.func77, Tryz.ntmps77
  go_wp2_with fail
  go_ret
  exact ⟨rfl, rfl⟩
theorem ndigit_any (c : Nat) (_h : c < 256) (w : World) : Calls Tryz.prog 76 #[.int .u8 (c : Int)] w (Pure (.bool (Jx.isD c)) w) := by
 obtain ⟨b, hb⟩ : ∃ b, b = Jx.isD c := ⟨_, rfl⟩
 rw [← hb]
 unfold Jx.isD at hb
 rcases (show c < 48 ∨ (48 ≤ c ∧ c ≤ 57) ∨ 57 < c by omega) with g | ⟨g1, g2⟩ | g
 all_goals
  first
   | (have hq : b = true := by rw [hb, decide_eq_true_eq]; omega)
   | (have hq : b = false := by rw [hb, decide_eq_false_iff_not]; omega)
  subst hq
  clear hb
  try (have t57 : (c : Int) ≤ 57 := by omega)
  try (have t57 : ¬ (c : Int) ≤ 57 := by omega)
  try (have t48 : (48 : Int) ≤ (c : Int) := by omega)
  try (have t48 : ¬ (48 : Int) ≤ (c : Int) := by omega)
  go_enter Tryz.func76, Tryz.ntmps76
  go_wp2_with fail
  go_ret
  exact ⟨rfl, rfl⟩
theorem lt_digit {c : Nat} (h : Nm.lt c = true) : Jx.isD c = false := by
 unfold Nm.lt at h
 unfold Jx.isD
 rw [decide_eq_true_eq] at h
 rw [decide_eq_false_iff_not]; omega
theorem ch_digit {c : Nat} (h : Nm.ch c = true) (k : Jx.isD c = false) : Nm.lt c = true := by
 unfold Nm.ch at h; rw [k, Bool.or_false] at h; exact h
theorem nSimple_pure (s : ByteArray) (hs : s.size ≤ 1000000000) (w : World) : Calls Tryz.prog 37 #[.string s] w (Pure (.bool (Nm.simple s.data.toList)) w) := by
 obtain ⟨l, hl⟩ : ∃ l, l = s.data.toList := ⟨_, rfl⟩
 have ix := fun j h W => idx_str s j h W
 have ln := len_str s
 rw [← hl] at ix ln ⊢
 have SI := Lib.hid (@simple_iff l)
 have NO := Lib.hid (@simple_no l)
 obtain ⟨R, hR⟩ : ∃ R, R = Nm.simple l := ⟨_, rfl⟩
 rw [← hR] at SI NO ⊢
 have IX := Lib.hid ix
 have LT := Lib.hid (fun c h W => nletter_any c h W)
 have DG := Lib.hid (fun c h W => ndigit_any c h W)
 have LN := Lib.hid ln
 clear ix
 by_cases h0 : s.size = 0
 · have Z := Lib.hid (NO.out fun h => h.1 (by rw [LN.out]; exact h0))
   obtain rfl := size_0 h0
   clear IX LT DG NO SI LN hR h0 hl ln hs
   go_enter Tryz.func37, Tryz.ntmps37
   go_wp2_with fail
   go_ret
   exact pure_ret (by first | (rw [Z.out]; done) | (rw [Z.out]; rfl))
 · obtain ⟨n1, n2, n3, n4, n5⟩ := ne_facts (s := s) (fun e => h0 (by rw [e]; rfl))
   obtain ⟨n, hn⟩ : ∃ n, n = s.size := ⟨_, rfl⟩
   have HN := Lib.hid hn
   rw [← hn] at h0 hs IX LN
   clear hl hR hn ln
   by_cases h1 : 100 < n
   · have q1 : (100 : Int) < (s.size : Int) := by rw [← HN.out]; omega
     have Z := Lib.hid (NO.out fun h => by have := h.2.1; rw [LN.out] at this; omega)
     clear IX LT DG NO SI
     go_enter Tryz.func37, Tryz.ntmps37
     go_wp2_with fail
     go_ret
     exact pure_ret (by first | (rw [Z.out]; done) | (rw [Z.out]; rfl))
   · have q1 : ¬ (100 : Int) < (s.size : Int) := by rw [← HN.out]; omega
     have i0 := IX.out 0 (by omega)
     have D0 := Lib.hid (DG.out (Jx.byt l 0) (Jx.byt_lt l 0))
     obtain ⟨b, hb⟩ : ∃ b, b = Jx.isD (Jx.byt l 0) := ⟨_, rfl⟩
     rw [← hb] at D0
     have HB := Lib.hid hb
     rw [show ((0 : Nat) : Int) = 0 from rfl] at i0
     clear hb
     cases b with
     | true =>
      have Z := Lib.hid (NO.out fun h => by have := lt_digit h.2.2.1; rw [← HB.out] at this; cases this)
      clear IX LT DG NO SI HB
      go_enter Tryz.func37, Tryz.ntmps37
      go_wp2_with fail
      with_reducible refine (D0.out _).mono ?_
      rintro e w1 ⟨rfl, rfl⟩
      go_wp2_with fail
      go_ret
      exact pure_ret (by first | (rw [Z.out]; done) | (rw [Z.out]; rfl))
     | false =>
      have hn1 : n ≤ 100 := by omega
      have hn0 : n ≠ 0 := h0
      have Y : Hid ((∀ j, j < n → Nm.ch (Jx.byt l j) = true) → R = true) := fun h => SI.out.2 ⟨by rw [LN.out]; exact hn0, by rw [LN.out]; exact hn1, ch_digit (h 0 (by omega)) HB.out.symm, by rw [LN.out]; exact h⟩
      have X : Hid (∀ j, j < n → Nm.ch (Jx.byt l j) = false → R = false) := fun j hj e => NO.out fun h => by
       have := h.2.2.2 j (by rw [LN.out]; exact hj)
       rw [e] at this; cases this
      clear NO SI HB
      go_enter Tryz.func37, Tryz.ntmps37
      go_wp2_with fail
      with_reducible refine (D0.out _).mono ?_
      rintro e w1 ⟨rfl, rfl⟩
      go_wp2_with fail
      go_loopw [18] (fun t wr => ∃ j : Nat, j ≤ n ∧ t = .int .i64 (j : Int) ∧ Hid (∀ m, m < j → Nm.ch (Jx.byt l m) = true) ∧ wr = w) (fun t _ => n - (intOf t).toNat)
      case atStart => exact ⟨0, Nat.zero_le _, rfl, fun _ h => absurd h (Nat.not_lt_zero _), rfl⟩
      case round =>
       obtain ⟨j, hj, rfl, AL, rfl⟩ := hrel
       by_cases hjn : j < n
       · have qj : (j : Int) < (s.size : Int) := by rw [← HN.out]; omega
         have ij := IX.out j (by omega)
         have LJ := Lib.hid (LT.out (Jx.byt l j) (Jx.byt_lt l j))
         have DJ := Lib.hid (DG.out (Jx.byt l j) (Jx.byt_lt l j))
         have XJ := Lib.hid (X.out j hjn)
         have CH : Hid (Nm.ch (Jx.byt l j) = (Nm.lt (Jx.byt l j) || Jx.isD (Jx.byt l j))) := rfl
         have NX : Hid (Nm.ch (Jx.byt l j) = true → ∀ m, m < j + 1 → Nm.ch (Jx.byt l m) = true) := fun e m hm => by
          rcases Nat.lt_or_ge m j with g | g
          · exact AL.out m g
          · obtain rfl : m = j := by omega
            exact e
         obtain ⟨C, hC⟩ : ∃ C, C = Nm.ch (Jx.byt l j) := ⟨_, rfl⟩
         obtain ⟨a, ha⟩ : ∃ a, a = Nm.lt (Jx.byt l j) := ⟨_, rfl⟩
         obtain ⟨d, hd⟩ : ∃ d, d = Jx.isD (Jx.byt l j) := ⟨_, rfl⟩
         rw [← hC] at XJ CH NX
         rw [← ha] at LJ CH
         rw [← hd] at DJ CH
         clear hC ha hd
         go_wp2_with fail
         with_reducible refine (LJ.out _).mono ?_
         rintro e w1 ⟨rfl, rfl⟩
         cases a with
         | true =>
          have nx := NX.out (by rw [CH.out]; rfl)
          have NX2 := Lib.hid nx
          clear nx NX
          go_wp2_with fail
          go_roundw
          case rel => exact ⟨j + 1, by omega, by go_num, NX2, by first | rfl | trivial⟩
          case measure => simp [intOf]; omega
         | false =>
          go_wp2_with fail
          with_reducible refine (DJ.out _).mono ?_
          rintro e w1 ⟨rfl, rfl⟩
          cases d with
          | true =>
           have nx := NX.out (by rw [CH.out]; rfl)
           have NX2 := Lib.hid nx
           clear nx NX
           go_wp2_with fail
           go_roundw
           case rel => exact ⟨j + 1, by omega, by go_num, NX2, by first | rfl | trivial⟩
           case measure => simp [intOf]; omega
          | false =>
           have Z := Lib.hid (XJ.out (by rw [CH.out]; rfl))
           go_wp2_with fail
           go_ret
           exact pure_ret (by first | (rw [Z.out]; done) | (rw [Z.out]; rfl))
       · obtain rfl : j = n := by omega
         have qj : ¬ (j : Int) < (s.size : Int) := by rw [← HN.out]; omega
         have Z := Lib.hid (Y.out AL.out)
         clear hjn
         go_wp2_with fail
         go_ret
         exact pure_ret (by first | (rw [Z.out]; done) | (rw [Z.out]; rfl))
theorem nSimple_any (s : ByteArray) (hs : s.size ≤ 1000000000) (w : World) (_hL : LaidN w) : Calls Tryz.prog 37 #[.string s] w (Ans (.bool (Nm.simple s.data.toList)) w) :=
 (nSimple_pure s hs w).mono fun _ _ h => h.ans
def Cut (s : ByteArray) (w : World) (e : Ending) (w' : World) : Prop :=
 ∃ L : List ByteArray, L.map (·.data.toList) = Nm.parts s.data.toList ∧ e = .returned (.slice (some ⟨w.heap.size, 0, none⟩) L.length L.length) ∧ w' = w.alloc (.cells (L.map Value.string).toArray 9)
theorem split_any (s : ByteArray) (hs : s.size ≤ 1000000000) (w : World) : Calls Tryz.prog 36 #[.string s, .string ⟨#[46]⟩] w (Cut s w) := by
 have L := Tryz.lays146
 have hle := Lib.countB_le ⟨#[46]⟩ (by decide) s.size s (Nat.le_refl _)
 have hlen := Lib.splitB_all ⟨#[46]⟩ (by decide) 0 _ s rfl
 have c : Calls Tryz.prog 75 #[.string s, .string ⟨#[46]⟩, .int .i64 0, .int .i64 (-1)] w fun e w' =>
  e = .returned (.slice (some ⟨w.heap.size, 0, none⟩) (Lib.splitB ⟨#[46]⟩ 0 (Lib.countB s ⟨#[46]⟩ + 1 - 1) s).length (Lib.countB s ⟨#[46]⟩ + 1)) ∧ w' = w.alloc (.cells (Lib.cellsOf (Lib.splitB ⟨#[46]⟩ 0 (Lib.countB s ⟨#[46]⟩ + 1 - 1) s) (Lib.countB s ⟨#[46]⟩ + 1)) 9) :=
  Any.strings_genSplit_core { L with } (by kernel_rfl) s ⟨#[46]⟩ 0 (-1) (Lib.countB s ⟨#[46]⟩ + 1) w (by omega) (by decide) (by decide)
   (fun x cc _ => by
    refine (Any.strings_Index_one { L with } x 46 (w.alloc (.cells cc 9))).mono ?_
    rintro e w' ⟨h1, h2⟩
    refine ⟨?_, h2⟩
    rw [h1]
    show _ = Ending.returned (Value.int .i64 (Lib.index x.data.toList [46]))
    rw [Lib.index_one])
   (by
    refine (Any.strings_Count_one { L with } s 46 w).mono ?_
    rintro e w' ⟨h1, h2⟩
    refine ⟨?_, h2⟩
    rw [h1]
    show _ = Ending.returned (Value.int .i64 ((Lib.count s.data.toList [46] : Nat) : Int))
    rw [Lib.count_one]
    rfl)
   (by decide) (by decide) (by rw [if_pos (by decide)]; omega)
 rw [Nat.add_sub_cancel, hlen] at c
 have e2 : Lib.cellsOf (Lib.splitB ⟨#[46]⟩ 0 (Lib.countB s ⟨#[46]⟩) s) (Lib.countB s ⟨#[46]⟩ + 1) = ((Lib.splitB ⟨#[46]⟩ 0 (Lib.countB s ⟨#[46]⟩) s).map Value.string).toArray := by rw [← hlen]; exact Lib.cellsOf_full _
 rw [e2, ← hlen] at c
 have e3 : (Lib.splitB ⟨#[46]⟩ 0 (Lib.countB s ⟨#[46]⟩) s).map (·.data.toList) = Nm.parts s.data.toList := by
  rw [Lib.splitB_data, ← Nm.splitK_parts]
 generalize Lib.splitB ⟨#[46]⟩ 0 (Lib.countB s ⟨#[46]⟩) s = L0 at *
 have C := Lib.hid c
 have E3 := Lib.hid e3
 clear c e3 e2 hlen hle L
 go_enter Tryz.func36, Tryz.ntmps36
 go_wp2_with fail
 refine (C.out).mono ?_
 rintro e w1 ⟨rfl, rfl⟩
 go_wp2_with fail
 go_ret
 exact ⟨L0, E3.out, rfl, rfl⟩
theorem sclone_any (s : ByteArray) (hs : s.size ≤ 1000000000) (w : World) : Calls Tryz.prog 38 #[.string s] w (Ans (.string s) w) := by
 have C := Lib.hid (fun W => Tryz.stringslite_Clone s W (by omega))
 go_enter Tryz.func38, Tryz.ntmps38
 go_wp2_with fail
 refine (C.out _).mono ?_
 rintro e w1 ⟨rfl, b1⟩
 go_wp2_with fail
 go_ret
 exact ⟨rfl, b1⟩
theorem lastDot_any (s : ByteArray) (hs : s.size ≤ 1000000000) (w : World) : Calls Tryz.prog 39 #[.string s, .string ⟨#[46]⟩] w (Pure (.int .i64 (Nm.dot s.data.toList)) w) := by
 refine (Tryz.strings_LastIndex_one s ⟨#[46]⟩ rfl (by omega) w).mono ?_
 rintro e w' ⟨h1, h2⟩
 refine ⟨?_, h2.symm⟩
 rw [h1]
 show Ending.returned (Value.int .i64 (Lib.lastIndexByte s 46)) = _
 rw [Nm.last_dot]
theorem hasDot_any (s : ByteArray) (w : World) : Calls Tryz.prog 126 #[.string s, .string ⟨#[46]⟩] w (Pure (.bool (decide (0 ≤ Nm.dot s.data.toList))) w) := by
 refine (Tryz.strings_Contains_one s 46 w).mono ?_
 rintro e w' ⟨h1, h2⟩
 exact ⟨by rw [h1, Nm.has_dot], h2.symm⟩
theorem nSpace_any (s : ByteArray) (hs : s.size ≤ 1000000000) (w : World) (_hL : LaidN w) : Calls Tryz.prog 16 #[.string s] w (Ans (.string (sst (Nm.space s.data.toList))) w) := by
 have ln := len_str s
 have dt := Nm.dot_lt s.data.toList
 have DT := Lib.hid (fun W => lastDot_any s hs W)
 have ch := fun m z h1 h2 => cut_h s m z h1 h2
 have EX : ∃ k : Nat, k ≤ s.size ∧ (0 ≤ Nm.dot s.data.toList → Nm.dot s.data.toList = (k : Int)) ∧ (Nm.dot s.data.toList < 0 → k = 0) ∧ Nm.space s.data.toList = s.data.toList.take k := by
  rcases Int.lt_or_le (Nm.dot s.data.toList) 0 with h | h
  · refine ⟨0, Nat.zero_le _, fun g => by omega, fun _ => rfl, ?_⟩
    unfold Nm.space; rw [if_pos h]; rfl
  · refine ⟨(Nm.dot s.data.toList).toNat, by omega, fun _ => by omega, fun g => by omega, ?_⟩
    unfold Nm.space; rw [if_neg (by omega)]
 obtain ⟨k, hk, e1, e2, e3⟩ := EX
 have CL := Lib.hid (fun W => sclone_any (sst (s.data.toList.take k)) (by rw [sst_size, List.length_take]; omega) W)
 rw [e3]
 have sh := fun W => ch k (k : Int) rfl hk W
 have EXT : s.extract 0 (max (Nm.dot s.data.toList) 0).toNat = sst (s.data.toList.take k) := by
  rw [ext_h, show (max (Nm.dot s.data.toList) 0).toNat = k by omega]
 have HX := Lib.hid EXT
 clear EXT
 generalize sst (s.data.toList.take k) = T at *
 obtain ⟨D, hD⟩ : ∃ D, D = Nm.dot s.data.toList := ⟨_, rfl⟩
 rw [← hD] at dt DT e1 e2 HX
 clear ch hD e3
 rcases Int.lt_or_le D 0 with h | h
 · obtain rfl : k = 0 := e2 h
   obtain rfl : D = -1 := by omega
   rw [show ((0 : Nat) : Int) = 0 from rfl] at sh
   clear e1 e2 dt
   go_enter Tryz.func16, Tryz.ntmps16
   go_wp2_with fail
   with_reducible refine (DT.out _).mono ?_
   rintro e w1 ⟨rfl, rfl⟩
   go_wp2_with fail
   try rw [HX.out]
   refine (CL.out _).mono ?_
   rintro e w1 ⟨rfl, b1⟩
   go_wp2_with fail
   go_ret
   exact ⟨rfl, b1⟩
 · obtain rfl : D = (k : Int) := e1 h
   have q : ¬ (k : Int) < 0 := by omega
   have q2 : (0 : Int) ≤ (k : Int) := by omega
   clear e1 e2 dt
   go_enter Tryz.func16, Tryz.ntmps16
   go_wp2_with fail
   with_reducible refine (DT.out _).mono ?_
   rintro e w1 ⟨rfl, rfl⟩
   go_wp2_with fail
   try rw [HX.out]
   refine (CL.out _).mono ?_
   rintro e w1 ⟨rfl, b1⟩
   go_wp2_with fail
   go_ret
   exact ⟨rfl, b1⟩
theorem parts_cell (w : World) (L : List ByteArray) (i : Nat) (h : i < L.length) : (w.alloc (.cells (L.map Value.string).toArray 9)).cell? ⟨w.heap.size, i, none⟩ = some (.string (L.getD i ⟨#[]⟩)) := by
 have hh : (w.alloc (.cells (L.map Value.string).toArray 9)).heap[w.heap.size]? = some (.cells (L.map Value.string).toArray 9 (0, 0)) := heap_alloc_new w _
 rw [cell_of_row _ _ _ _ _ _ hh]
 simp [List.getD, List.getElem?_eq_getElem h]
theorem nFull_any (s : ByteArray) (hs : s.size ≤ 1000000000) (w : World) (_hL : LaidN w) : Calls Tryz.prog 15 #[.string s] w (Ans (.bool (Nm.full s.data.toList)) w) := by
 have ln := len_str s
 have FP := Nm.full_parts' s.data.toList
 rw [ln] at FP
 obtain ⟨R, hR⟩ : ∃ R, R = Nm.full s.data.toList := ⟨_, rfl⟩
 rw [← hR] at FP ⊢
 by_cases h1 : 100 < s.size
 · have q : (100 : Int) < (s.size : Int) := by omega
   have Z : Hid (R = false) := by show _ = _; rw [FP, decide_eq_false (by omega)]; rfl
   clear hR FP
   go_enter Tryz.func15, Tryz.ntmps15
   go_wp2_with fail
   go_ret
   exact ⟨by first | (rw [Z.out]; done) | (rw [Z.out]; rfl), Below.refl _ _⟩
 · have q : ¬ (100 : Int) < (s.size : Int) := by omega
   rw [decide_eq_true (by omega), Bool.true_and] at FP
   have SPL := Lib.hid (fun W => split_any s hs W)
   have FPH := Lib.hid FP
   have hsz : s.size ≤ 100 := by omega
   clear FP hR h1
   go_enter Tryz.func15, Tryz.ntmps15
   go_wp2_with fail
   refine (SPL.out _).mono ?_
   rintro e w1 ⟨L, hL, rfl, rfl⟩
   have KL : Hid (∀ i, i < L.length → (L.getD i ⟨#[]⟩).size ≤ 1000000000) := fun i hi => by
    have := Nm.parts_small s.data.toList ((L.getD i ⟨#[]⟩).data.toList) (by rw [← hL]; exact List.mem_map.2 ⟨_, by simp [List.getD, List.getElem?_eq_getElem hi], rfl⟩)
    rw [len_str] at this
    omega
   have RA : Hid (R = L.all fun x => Nm.simple x.data.toList) := by show _ = _; rw [FPH.out, ← hL, List.all_map]; rfl
   have nb : L.length ≤ 101 := by have a := congrArg List.length hL; have b := Nm.parts_count s.data.toList; rw [List.length_map] at a; omega
   have CE := fun i h => parts_cell w L i h
   have NB : w.heap.size < (w.alloc (.cells (L.map Value.string).toArray 9)).heap.size := by simp
   have BW : Below w.heap.size w (w.alloc (.cells (L.map Value.string).toArray 9)) := (Below.refl _ _).alloc (Nat.le_refl _) _
   generalize w.alloc (.cells (L.map Value.string).toArray 9) = w2 at *
   obtain ⟨n, hn⟩ : ∃ n, n = L.length := ⟨_, rfl⟩
   rw [← hn] at CE KL nb ⊢
   have HN := Lib.hid hn
   clear hL hn FPH SPL
   have CEH := Lib.hid CE
   clear CE
   go_wp2_with fail
   go_loopw [11] (fun t wr => ∃ j : Nat, j ≤ n ∧ t = .int .i64 (j : Int) ∧ Hid (∀ m, m < j → Nm.simple (L.getD m ⟨#[]⟩).data.toList = true) ∧ wr = w2) (fun t _ => n - (intOf t).toNat)
   case atStart => exact ⟨0, Nat.zero_le _, rfl, fun _ h => absurd h (Nat.not_lt_zero _), rfl⟩
   case round =>
    obtain ⟨j, hj, rfl, AL, rfl⟩ := hrel
    by_cases hjn : j < n
    · have qj : (j : Int) < (n : Int) := by omega
      have cj := CEH.out j hjn
      have SJ := Lib.hid (fun W => nSimple_pure (L.getD j ⟨#[]⟩) (KL.out j hjn) W)
      have NX : Hid (Nm.simple (L.getD j ⟨#[]⟩).data.toList = true → ∀ m, m < j + 1 → Nm.simple (L.getD m ⟨#[]⟩).data.toList = true) := fun e m hm => by
       rcases Nat.lt_or_ge m j with g | g
       · exact AL.out m g
       · obtain rfl : m = j := by omega
         exact e
      have XJ : Hid (Nm.simple (L.getD j ⟨#[]⟩).data.toList = false → R = false) := fun e => by
       rw [RA.out, List.all_eq_false]
       exact ⟨L.getD j ⟨#[]⟩, by rw [List.getD, List.getElem?_eq_getElem (by rw [← HN.out]; exact hjn)]; simp, by rw [e]; decide⟩
      generalize L.getD j ⟨#[]⟩ = P at *
      obtain ⟨b, hb⟩ : ∃ b, b = Nm.simple P.data.toList := ⟨_, rfl⟩
      rw [← hb] at SJ NX XJ
      clear hb
      go_wp2_with fail
      with_reducible refine (SJ.out _).mono ?_
      rintro e w1 ⟨rfl, rfl⟩
      cases b with
      | true =>
       have NX2 := Lib.hid (NX.out rfl)
       go_wp2_with fail
       go_roundw
       case rel => exact ⟨j + 1, by omega, by go_num, NX2, by first | rfl | trivial⟩
       case measure => simp [intOf]; omega
      | false =>
       have Z := Lib.hid (XJ.out rfl)
       go_wp2_with fail
       go_ret
       exact ⟨by first | (rw [Z.out]; done) | (rw [Z.out]; rfl), BW⟩
    · obtain rfl : j = n := by omega
      have qj : ¬ (j : Int) < (j : Int) := by omega
      have Z : Hid (R = true) := by
       show _ = _
       rw [RA.out, List.all_eq_true]
       intro x hx
       obtain ⟨m, hm, rfl⟩ := List.getElem_of_mem hx
       have := AL.out m (by rw [HN.out]; exact hm)
       rwa [List.getD, List.getElem?_eq_getElem hm, Option.getD_some] at this
      clear hjn
      go_wp2_with fail
      go_ret
      exact ⟨by first | (rw [Z.out]; done) | (rw [Z.out]; rfl), BW⟩
theorem nJoin_any (a b : ByteArray) (ha : a.size ≤ 1000000000) (hb : b.size ≤ 1000000000) (w : World) (hL : LaidN w) : Calls Tryz.prog 88 #[.string a, .string b] w (Ans (joined (Nm.join a.data.toList b.data.toList)) w) := by
 have la := len_str a
 have lb := len_str b
 have SUM := sum_str a b
 have FB := Lib.hid (fun W h => nFull_any b hb W h)
 have FA := Lib.hid (fun W h => nFull_any a ha W h)
 have CO := Lib.hid (fun W => hasDot_any b W)
 have CL := Lib.hid (fun W => sclone_any b hb W)
 have OB := Lib.hid (sst_out b)
 have JN := Lib.hid (@Nm.join_not a.data.toList b.data.toList)
 have JH := Lib.hid (@Nm.join_has a.data.toList b.data.toList)
 have JI := Lib.hid (@Nm.join_in a.data.toList b.data.toList)
 have EA : Hid (a = ⟨#[]⟩ → a.data.toList = []) := fun e => by subst e; rfl
 have EB : Hid (a ≠ ⟨#[]⟩ → a.data.toList ≠ []) := fun h e => h (by rw [← sst_out a, e]; rfl)
 rw [la, lb] at JI
 obtain ⟨R, hR⟩ : ∃ R, R = Nm.join a.data.toList b.data.toList := ⟨_, rfl⟩
 rw [← hR] at JN JH JI ⊢
 obtain ⟨S0, hS0⟩ : ∃ S0, S0 = sst (a.data.toList ++ 46 :: b.data.toList) := ⟨_, rfl⟩
 rw [← hS0] at SUM
 have HS0 := Lib.hid hS0
 clear hS0
 unfold Ans at FA FB CL
 clear hR la lb
 have s1 : ¬ 9223372036854775807 < a.size + 1 := by omega
 have s2 : ¬ 9223372036854775807 < a.size + 1 + b.size := by omega
 generalize Nm.full b.data.toList = FLB at *
 generalize Nm.full a.data.toList = FLA at *
 cases FLB with
 | false =>
  have Z := Lib.hid (JN.out rfl)
  clear JH JI SUM FA CO CL EA EB
  go_enter Tryz.func88, Tryz.ntmps88
  go_wp2_with fail
  with_reducible refine (FB.out _ hL).mono ?_
  rintro e w1 ⟨rfl, b1⟩
  go_wp2_with fail
  go_ret2
  exact ⟨by rw [joined_no Z.out]; rfl, b1⟩
 | true =>
  by_cases hz : a = ⟨#[]⟩
  · have Z := Lib.hid (JH.out rfl (.inl (EA.out hz)))
    subst hz
    clear JN JH JI SUM FA CO EA EB
    go_enter Tryz.func88, Tryz.ntmps88
    go_wp2_with fail
    with_reducible refine (FB.out _ hL).mono ?_
    rintro e w1 ⟨rfl, b1⟩
    go_wp2_with fail
    with_reducible refine (CL.out _).mono ?_
    rintro e w2 ⟨rfl, b2⟩
    go_wp2_with fail
    go_ret2
    exact ⟨by rw [joined_yes Z.out OB.out.symm]; rfl, b1.trans (b2.mono b1.size)⟩
  · obtain ⟨n1, n2, n3, n4, n5⟩ := ne_facts hz
    have hne := Lib.hid (EB.out hz)
    obtain ⟨D, hD⟩ : ∃ D, D = Nm.dot b.data.toList := ⟨_, rfl⟩
    rw [← hD] at CO JH JI
    clear hD EA EB
    by_cases hd : 0 ≤ D
    · have Z := Lib.hid (JH.out rfl (.inr hd))
      rw [decide_eq_true hd] at CO
      clear JN JH JI SUM FA
      go_enter Tryz.func88, Tryz.ntmps88
      go_wp2_with fail
      with_reducible refine (FB.out _ hL).mono ?_
      rintro e w1 ⟨rfl, b1⟩
      go_wp2_with fail
      with_reducible refine (CO.out _).mono ?_
      rintro e w2 ⟨rfl, rfl⟩
      go_wp2_with fail
      with_reducible refine (CL.out _).mono ?_
      rintro e w2 ⟨rfl, b2⟩
      go_wp2_with fail
      go_ret2
      exact ⟨by rw [joined_yes Z.out OB.out.symm]; rfl, b1.trans (b2.mono b1.size)⟩
    · rw [decide_eq_false hd] at CO
      have JJ := Lib.hid (JI.out rfl hne.out (by omega))
      clear JN JH JI CL
      cases FLA with
      | false =>
       have Z := Lib.hid (JJ.out.trans (if_neg fun g => by cases g.1))
       clear JJ SUM
       go_enter Tryz.func88, Tryz.ntmps88
       go_wp2_with fail
       with_reducible refine (FB.out _ hL).mono ?_
       rintro e w1 ⟨rfl, b1⟩
       have L1 := hL.below b1
       go_wp2_with fail
       with_reducible refine (CO.out _).mono ?_
       rintro e w2 ⟨rfl, rfl⟩
       go_wp2_with fail
       with_reducible refine (FA.out _ L1).mono ?_
       rintro e w2 ⟨rfl, b2⟩
       go_wp2_with fail
       go_ret2
       exact ⟨by rw [joined_no Z.out]; rfl, b1.trans (b2.mono b1.size)⟩
      | true =>
       have wr1 : wrap64 ((a.size : Int) + 1) = (a.size : Int) + 1 := IntWalk.wrap64_in _ ⟨by omega, by omega⟩
       have wr2 : wrap64 ((a.size : Int) + 1 + (b.size : Int)) = (a.size : Int) + 1 + (b.size : Int) := IntWalk.wrap64_in _ ⟨by omega, by omega⟩
       by_cases hl : a.size + 1 + b.size ≤ 100
       · have q : ¬ (100 : Int) < (a.size : Int) + 1 + (b.size : Int) := by omega
         have Z := Lib.hid (JJ.out.trans (if_pos ⟨rfl, hl⟩))
         clear JJ
         go_enter Tryz.func88, Tryz.ntmps88
         go_wp2_with fail
         with_reducible refine (FB.out _ hL).mono ?_
         rintro e w1 ⟨rfl, b1⟩
         have L1 := hL.below b1
         go_wp2_with fail
         with_reducible refine (CO.out _).mono ?_
         rintro e w2 ⟨rfl, rfl⟩
         go_wp2_with fail
         with_reducible refine (FA.out _ L1).mono ?_
         rintro e w2 ⟨rfl, b2⟩
         go_wp2_with fail
         go_ret2
         exact ⟨by rw [joined_yes Z.out HS0.out]; rfl, b1.trans (b2.mono b1.size)⟩
       · have q : (100 : Int) < (a.size : Int) + 1 + (b.size : Int) := by omega
         have Z := Lib.hid (JJ.out.trans (if_neg fun g => hl g.2))
         clear JJ SUM
         go_enter Tryz.func88, Tryz.ntmps88
         go_wp2_with fail
         with_reducible refine (FB.out _ hL).mono ?_
         rintro e w1 ⟨rfl, b1⟩
         have L1 := hL.below b1
         go_wp2_with fail
         with_reducible refine (CO.out _).mono ?_
         rintro e w2 ⟨rfl, rfl⟩
         go_wp2_with fail
         with_reducible refine (FA.out _ L1).mono ?_
         rintro e w2 ⟨rfl, b2⟩
         go_wp2_with fail
         go_ret2
         exact ⟨by rw [joined_no Z.out]; rfl, b1.trans (b2.mono b1.size)⟩
theorem nResolve_any (n s a : ByteArray) (g : Bool) (hn : n.size ≤ 1000000000) (hs : s.size ≤ 1000000000) (ha : a.size ≤ 1000000000) (w : World) (hL : LaidN w) : Calls Tryz.prog 157 #[.string n, .string s, .bool g, .string a] w (Ans (joined (Nm.join (if g then s.data.toList else a.data.toList) n.data.toList)) w) := by
 have JA := Lib.hid (nJoin_any a n ha hn w hL)
 have JS := Lib.hid (nJoin_any s n hs hn w hL)
 unfold joined at JA JS ⊢
 unfold Ans at JA JS
 cases g with
 | true =>
  rw [if_pos rfl]
  generalize (Nm.join s.data.toList n.data.toList) = J at *
  clear JA
  go_enter Tryz.func157, Tryz.ntmps157
  go_wp2_with fail
  with_reducible refine (JS.out).mono ?_
  rintro e w1 ⟨rfl, b1⟩
  go_wp2_with fail
  go_ret2
  exact ⟨rfl, b1⟩
 | false =>
  rw [if_neg (by decide)]
  generalize (Nm.join a.data.toList n.data.toList) = J at *
  clear JS
  go_enter Tryz.func157, Tryz.ntmps157
  go_wp2_with fail
  with_reducible refine (JA.out).mono ?_
  rintro e w1 ⟨rfl, b1⟩
  go_wp2_with fail
  go_ret2
  exact ⟨rfl, b1⟩
end Go.Proofs.YthogheglddfniaaGreatDoor
