/- The document's own answers for layer 7: all words. -/
import Derived.Test.YtheeahnhdehloaaDoorJPar
import Derived.Test.YtheeahnhdehloaaDoorJRefF
namespace Go.Proofs.YtheeahnhdehloaaDoor
open Go.ChangeShapes Go.WideShapes Go.ChangeAt Go.RowKit Mem

/-- All words, in a row of the call's own. -/
def Wds (ws : List Jx.Wd) (w : World) (e : Ending) (w' : World) : Prop := ∃ v, e = .returned v ∧ OwnR w' w.heap.size 51 5 v ws.length (wcs ws) ∧ Below w.heap.size w w'
/-- What the loop knows. -/
def WlAt (l : List UInt8) (d : List Jx.Wd) (p : Nat) : Prop := p ≤ l.length ∧ d.length ≤ p ∧ d ++ Jp.wl l p = Jp.wl l 0
theorem WlAt.start (l : List UInt8) : WlAt l [] 0 := ⟨Nat.zero_le _, Nat.le_refl _, rfl⟩
theorem WlAt.bad {l : List UInt8} {d : List Jx.Wd} {p : Nat} (h : WlAt l d p) (he : (Jx.tak l p).2 ≠ 0) : Jp.wl l 0 = d ++ [⟨0, ((Jx.tak l p).2 : Int), [], 0, 0⟩] := by rw [← h.2.2, Jp.wl_bad h.1 he]
theorem WlAt.done {l : List UInt8} {d : List Jx.Wd} {p : Nat} (h : WlAt l d p) (he : (Jx.tak l p).2 = 0) (hk : (Jx.tak l p).1.k = 11) : Jp.wl l 0 = d ++ [(Jx.tak l p).1] := by rw [← h.2.2, Jp.wl_end h.1 he hk]
theorem WlAt.go {l : List UInt8} {d : List Jx.Wd} {p : Nat} (h : WlAt l d p) (he : (Jx.tak l p).2 = 0) (hk : (Jx.tak l p).1.k ≠ 11) : WlAt l (d ++ [(Jx.tak l p).1]) (Jx.tak l p).1.x ∧ p < (Jx.tak l p).1.x := by
  have m := Jx.tak_more h.1 he hk
  refine ⟨⟨m.2.1, by have := h.2.1; simp; omega, ?_⟩, m.1⟩
  rw [← h.2.2, Jp.wl_go h.1 he hk]; simp
theorem wds_ret {l : List UInt8} {d : List Jx.Wd} {v : Value} {w w' : World} (h : Jp.wl l 0 = d) (ho : OwnR w' w.heap.size 51 5 v d.length (wcs d)) (hb : Below w.heap.size w w') : Wds (Jp.wl l 0) w (.returned v) w' := by
  rw [h]; exact ⟨_, rfl, ho, hb⟩

set_option maxRecDepth 100000 in
set_option maxHeartbeats 2000000 in
theorem rwords_any (A : Option Addr) (c : Nat) (l : List UInt8) (w : World) (hb : Bys w w.heap.size A l) (hl : l.length ≤ 100000000) (hc : l.length ≤ c) :
    Calls Tryd.prog 20 #[.slice A l.length c] w (Wds (Jp.wl l 0) w) := by
  have CS := cell_set
  have START := Lib.hid (WlAt.start l)
  go_enter Tryd.func20, Tryd.ntmps20
  go_wp2_with fail
  go_loopw [3, 4] (fun v t wr => ∃ (d : List Jx.Wd) (p : Nat), t = .int .i64 (p : Int) ∧ OwnR wr w.heap.size 51 5 v d.length (wcs d) ∧ Hid (WlAt l d p) ∧ Below w.heap.size w wr) (fun _ t _ => l.length - (intOf t).toNat)
  case atStart => exact ⟨[], 0, rfl, OwnR.none_ _ _ _ _, START, Below.refl _ _⟩
  case round =>
    obtain ⟨d, p, rfl, ow, AA, bl⟩ := hrel
    have aa := AA.out
    have hp := aa.1
    have hd := aa.2.1
    have gsz := bl.size
    have tk := rjTake_good A c l p wr ((hb.below bl).more gsz) (by omega) hc hp
    have bad := aa.bad; have done := aa.done; have go := aa.go
    have more := Jx.tak_more hp
    obtain ⟨⟨⟨K, n, T, a, x⟩, er⟩, hr⟩ : ∃ r, r = Jx.tak l p := ⟨_, rfl⟩
    rw [← hr] at tk bad done go more
    have TK := Lib.hid tk
    clear hr tk aa AA START
    by_cases he : er = 0
    · subst he
      by_cases hk : K = 11
      · have Z := Lib.hid (done rfl hk)
        have qk : ((K : Int) == 11) = true := by rw [beq_iff_eq]; omega
        clear bad done go more hk
        go_wp2_with fail
        refine TK.out.mono ?_
        intro e w1 h1
        obtain ⟨rfl, b1⟩ := tkW_out h1
        clear h1
        have hB1 := bl.trans (b1.mono gsz)
        have gsz1 := hB1.size
        have hap := ow.apart (g := w1.heap.size) b1.size
        go_wp2_with (at_builtin; go_loud (refine wpList_appR1 _ rwordT rfl (.tmp 20) (.tmp 22) rfl w.heap.size _ d.length (wcs d) rfl ((ow.below b1).alloc _) 1 _ (by simp; rfl) rfl (by simp [Value.oneCell']) (by omega) (by simp; omega) ?_; intro v3 w3 o3 b3 g3; have c0 := g3.cell (a := ⟨w1.heap.size, 0, none⟩) (by go_simp; rfl) hap; have c4 := g3.cell (a := ⟨w1.heap.size, 4, none⟩) (by go_simp; rfl) hap))
        go_ret
        exact wds_ret Z.out (ownR_snoc (x := ⟨K, n, T, a, x⟩) o3) ((hB1.alloc gsz1 _).trans b3)
      · have G := Lib.hid (go rfl hk)
        have M := more rfl hk
        have qk : ((K : Int) == 11) = false := by rw [beq_eq_false_iff_ne]; omega
        obtain ⟨m1, m2, m3⟩ := M
        clear bad done go more hk
        go_wp2_with fail
        refine TK.out.mono ?_
        intro e w1 h1
        obtain ⟨rfl, b1⟩ := tkW_out h1
        clear h1
        have hB1 := bl.trans (b1.mono gsz)
        have gsz1 := hB1.size
        have hap := ow.apart (g := w1.heap.size) b1.size
        go_wp2_with (at_builtin; go_loud (refine wpList_appR1 _ rwordT rfl (.tmp 20) (.tmp 22) rfl w.heap.size _ d.length (wcs d) rfl ((ow.below b1).alloc _) 1 _ (by simp; rfl) rfl (by simp [Value.oneCell']) (by omega) (by simp; omega) ?_; intro v3 w3 o3 b3 g3; have c0 := g3.cell (a := ⟨w1.heap.size, 0, none⟩) (by go_simp; rfl) hap; have c4 := g3.cell (a := ⟨w1.heap.size, 4, none⟩) (by go_simp; rfl) hap))
        go_roundw
        case rel => exact ⟨d ++ [⟨K, n, T, a, x⟩], x, rfl, ownR_snoc (x := ⟨K, n, T, a, x⟩) o3, Lib.hid G.out.1, (hB1.alloc gsz1 _).trans b3⟩
        case measure => simp [intOf]; omega
    · have Z := Lib.hid (bad he)
      have qe : ((er : Int) != 0) = true := by rw [bne_iff_ne]; omega
      clear bad done go more he
      go_wp2_with fail
      refine TK.out.mono ?_
      intro e w1 h1
      obtain ⟨rfl, b1⟩ := tkW_out h1
      clear h1
      have hB1 := bl.trans (b1.mono gsz)
      have gsz1 := hB1.size
      go_wp2_with (at_builtin; go_loud (refine wpList_appR1 _ rwordT rfl (.tmp 15) (.tmp 18) rfl w.heap.size _ d.length (wcs d) rfl ((ow.below b1).alloc _) 1 _ (by simp; rfl) rfl (by simp [Value.oneCell']) (by omega) (by simp; omega) ?_; intro v3 w3 o3 b3 g3))
      go_ret
      exact wds_ret Z.out (ownR_snoc (x := ⟨0, (er : Int), [], 0, 0⟩) o3) ((hB1.alloc gsz1 _).trans b3)
end Go.Proofs.YtheeahnhdehloaaDoor
