/- The document's own answers for layer 6, at every input: All. -/
import Derived.Test.YtbogafecgakgiaaDoorJRefE
import Derived.Test.YtbogafecgakgiaaDoorRec
namespace Go.Proofs.YtbogafecgakgiaaDoor
open Go.ChangeShapes Go.WideShapes Go.ChangeAt Go.RowKit Mem

theorem rwordT : RecT Tryd.prog 35 29 5 (.agg #[.int .i64 0, .int .i64 0, .string ⟨#[]⟩, .int .i64 0, .int .i64 0]) 48 := ⟨by kernel_rfl, by kernel_rfl, rfl, by decide, by decide⟩
/-- A word's cells. -/
def wcells (x : Jx.Wd) : List Value := [.int .i64 (x.k : Int), .int .i64 x.n, .string ⟨x.t.toArray⟩, .int .i64 (x.a : Int), .int .i64 (x.x : Int)]
def wcs (ws : List Jx.Wd) : List Value := ws.flatMap wcells
theorem wcs_snoc (d : List Jx.Wd) (x : Jx.Wd) : wcs (d ++ [x]) = wcs d ++ wcells x := by simp [wcs]
theorem wcs_len (d : List Jx.Wd) : (wcs d).length = d.length * 5 := by
  induction d with
  | nil => rfl
  | cons x r ih => simp [wcs, wcells] at ih ⊢; omega
/-- All words, and the error. -/
def Alls (T : TypeId) (r : List Jx.Wd × Nat) (w : World) (e : Ending) (w' : World) : Prop :=
  ∃ v, e = .returned (.tuple #[v, .int .i64 (r.2 : Int)]) ∧ OwnR w' w.heap.size T 5 v r.1.length (wcs r.1) ∧ Below w.heap.size w w'
theorem alls_bad {T : TypeId} {r : List Jx.Wd × Nat} {er : Nat} {w w' : World} (h : r = ([], er)) (hb : Below w.heap.size w w') : Alls T r w (.returned (.tuple #[.slice none 0 0, .int .i64 (er : Int)])) w' := by
  subst h; exact ⟨_, rfl, OwnR.none_ _ _ _ _, hb⟩
theorem alls_ok {T : TypeId} {r : List Jx.Wd × Nat} {d : List Jx.Wd} {v : Value} {w w' : World} (h : r = (d, 0)) (ho : OwnR w' w.heap.size T 5 v d.length (wcs d)) (hb : Below w.heap.size w w') : Alls T r w (.returned (.tuple #[v, .int .i64 0])) w' := by
  subst h; exact ⟨_, rfl, ho, hb⟩
theorem tkW_out {k a x er : Nat} {n : Int} {t : List UInt8} {w w' : World} {e : Ending} (h : TkW (⟨k, n, t, a, x⟩, er) w e w') :
    e = .returned (.tuple #[.agg #[.int .i64 (k : Int), .int .i64 n, .string ⟨t.toArray⟩, .int .i64 (a : Int), .int .i64 (x : Int)], .int .i64 (er : Int)]) ∧ Below w.heap.size w w' := h
theorem ownR_snoc {w : World} {base : Nat} {T : TypeId} {v : Value} {d : List Jx.Wd} {x : Jx.Wd} (h : OwnR w base T 5 v (d.length + 1) (wcs d ++ wcells x)) : OwnR w base T 5 v (d ++ [x]).length (wcs (d ++ [x])) := by
  rw [wcs_snoc, List.length_append]; exact h

set_option maxHeartbeats 1000000 in
theorem rjAll_any (A : Option Addr) (c : Nat) (l : List UInt8) (w : World) (hb : Bys w w.heap.size A l) (hl : l.length ≤ 500000000) (hc : l.length ≤ c) :
    Calls Tryd.prog 11 #[.slice A l.length c] w (Alls 29 (Jx.all l 0) w) := by
  have CS := cell_set
  have START := Lib.hid (Jx.allAt_start l)
  go_enter Tryd.func11, Tryd.ntmps11
  go_wp2_with fail
  go_loopw [4, 5] (fun v t wr => ∃ (d : List Jx.Wd) (p : Nat), t = .int .i64 (p : Int) ∧ OwnR wr w.heap.size 29 5 v d.length (wcs d) ∧ Hid (Jx.AllAt l d p) ∧ Below w.heap.size w wr) (fun _ t _ => l.length - (intOf t).toNat)
  case atStart => exact ⟨[], 0, rfl, OwnR.none_ _ _ _ _, START, Below.refl _ _⟩
  case round =>
    obtain ⟨d, p, rfl, ow, AA, bl⟩ := hrel
    have aa := AA.out
    have hp := aa.1
    have hd := aa.2.1
    have gsz := bl.size
    have tk := rjTake_good A c l p wr ((hb.below bl).more gsz) (by omega) hc hp
    have bad := aa.bad; have done := aa.done; have go := aa.go
    have more := Jx.tak_more hp
    generalize Jx.all l 0 = R at *
    obtain ⟨⟨⟨K, n, T, a, x⟩, er⟩, hr⟩ : ∃ r, r = Jx.tak l p := ⟨_, rfl⟩
    rw [← hr] at tk bad done go more
    have TK := Lib.hid tk
    clear hr tk aa AA START
    by_cases he : er = 0
    · subst he
      by_cases hk : K = 11
      · have Z := Lib.hid (done rfl hk)
        have qk : ((K : Int) == 11) = true := by simp; omega
        clear bad done go more hk
        go_wp2_with fail
        refine TK.out.mono ?_
        intro e w1 h1
        obtain ⟨rfl, b1⟩ := tkW_out h1
        clear h1
        have hB1 := bl.trans (b1.mono gsz)
        have gsz1 := hB1.size
        go_wp2_with fail
        go_ret2
        exact alls_ok Z.out (((ow.below b1).alloc _)) (hB1.alloc gsz1 _)
      · have G := Lib.hid (go rfl hk)
        have M := more rfl hk
        have qk : ((K : Int) == 11) = false := by simp; omega
        obtain ⟨m1, m2, m3⟩ := M
        clear bad done go more hk
        go_wp2_with fail
        refine TK.out.mono ?_
        intro e w1 h1
        obtain ⟨rfl, b1⟩ := tkW_out h1
        clear h1
        have hB1 := bl.trans (b1.mono gsz)
        have gsz1 := hB1.size
        have hap := ow.apart (g := w1.heap.size) b1.size
        go_wp2_with (at_builtin; go_loud (refine wpList_appR1 _ rwordT rfl (.tmp 21) (.tmp 23) rfl w.heap.size _ d.length (wcs d) rfl ((ow.below b1).alloc _) 1 _ (by simp; rfl) rfl (by simp [Value.oneCell']) (by omega) (by simp; omega) ?_; intro v3 w3 o3 b3 g3; have c3 := g3.cell (a := ⟨w1.heap.size, 4, none⟩) (by go_simp; rfl) hap))
        go_roundw
        case rel => exact ⟨d ++ [⟨K, n, T, a, x⟩], x, rfl, ownR_snoc (x := ⟨K, n, T, a, x⟩) o3, Lib.hid G.out.1, (hB1.alloc gsz1 _).trans b3⟩
        case measure => simp [intOf]; omega
    · have Z := Lib.hid (bad he)
      have qe : ((er : Int) != 0) = true := by simp; omega
      clear bad done go more he
      go_wp2_with fail
      refine TK.out.mono ?_
      intro e w1 h1
      obtain ⟨rfl, b1⟩ := tkW_out h1
      clear h1
      have hB1 := bl.trans (b1.mono gsz)
      have gsz1 := hB1.size
      go_wp2_with fail
      go_ret2
      exact alls_bad Z.out (hB1.alloc gsz1 _)
end Go.Proofs.YtbogafecgakgiaaDoor
