/- The document's own answers for layer 6, at every input: Take. -/
import Derived.Test.YtheeahnhdehloaaDoorJRefB
import Derived.Test.YtheeahnhdehloaaDoorJRefC
import Derived.Test.YtheeahnhdehloaaDoorJRefD
import Derived.Test.YtheeahnhdehloaaDoorRec
import Derived.Test.YtheeahnhdehloaaDoorJNum4
namespace Go.Proofs.YtheeahnhdehloaaDoor
open Go.ChangeShapes Go.WideShapes Go.ChangeAt Go.RowKit Mem

/-- A word as the program has it. -/
def wval (x : Jx.Wd) : Value := .agg #[.int .i64 (x.k : Int), .int .i64 x.n, .string ⟨x.t.toArray⟩, .int .i64 (x.a : Int), .int .i64 (x.x : Int)]
def TkW (r : Jx.Wd × Nat) (w : World) (e : Ending) (w' : World) : Prop := e = .returned (.tuple #[wval r.1, .int .i64 (r.2 : Int)]) ∧ Below w.heap.size w w'
theorem tkW_ret {r : Jx.Wd × Nat} {k a x e : Nat} {n : Int} {t : List UInt8} {w w' : World} {y0 y1 y3 y4 y5 : Int} {y2 : ByteArray} (h : r = (⟨k, n, t, a, x⟩, e)) (h0 : y0 = (k : Int)) (h1 : y1 = n) (h2 : y2 = ⟨t.toArray⟩) (h3 : y3 = (a : Int)) (h4 : y4 = (x : Int)) (h5 : y5 = (e : Int))
    (hb : Below w.heap.size w w') : TkW r w (.returned (.tuple #[.agg #[.int .i64 y0, .int .i64 y1, .string y2, .int .i64 y3, .int .i64 y4], .int .i64 y5])) w' := by
  subst h; subst h0; subst h1; subst h2; subst h3; subst h4; subst h5; exact ⟨rfl, hb⟩
theorem post_rw {fn : Func} {R : Ending → World → Prop} {a : Act} {w : World} {t u : Tmp} {g : Nat} {x0 x1 x2 x3 x4 : Value} (hf : fn.results = #[.cell t 51, .tmp u]) (hd : a.defers = [])
    (hg : a.tmps.getD t undef = .pointer (some ⟨g, 0, none⟩)) (h0 : w.cell? ⟨g, 0, none⟩ = some x0) (h1 : w.cell? ⟨g, 1, none⟩ = some x1) (h2 : w.cell? ⟨g, 2, none⟩ = some x2) (h3 : w.cell? ⟨g, 3, none⟩ = some x3) (h4 : w.cell? ⟨g, 4, none⟩ = some x4)
    (hR : R (.returned (.tuple #[.agg #[x0, x1, x2, x3, x4], a.tmps.getD u undef])) w) : bodyPost Tryd.prog fn R .ret a w := by
  refine bodyPost_ret ?_ hd hR
  rw [Array.getD_eq_getD_getElem?] at hg
  simp [results, hf, hg, go_sem, h0, h1, h2, h3, h4]
/-- A world but for what it draws. -/
def Drewn (W w : World) : Prop := ∃ n, w = W.drewN n
theorem bad_zero {e : Nat} : ((Jx.Wd.zero, e) : Jx.Wd × Nat) = (⟨0, 0, [], 0, 0⟩, e) := rfl
theorem rjTake_bad (A : Option Addr) (c : Nat) (l : List UInt8) (i : Int) (w : World) (h : i < 0 ∨ (l.length : Int) < i) :
    Calls Tryd.prog 30 #[.slice A l.length c, .int .i64 i] w (TkW (Jx.Wd.zero, 2) w) := by
  have CS := cell_set
  by_cases h1 : i < 0
  · clear h
    go_enter Tryd.func30, Tryd.ntmps30
    go_wp2_with fail
    try simp only [Exit.inBlock, Exit.then]
    refine post_rw (x0 := .int .i64 0) (x1 := .int .i64 0) (x2 := .string ⟨#[]⟩) (x3 := .int .i64 0) (x4 := .int .i64 0) rfl rfl rfl (by go_simp) (by go_simp) (by go_simp) (by go_simp) (by go_simp) ?_
    exact tkW_ret bad_zero rfl rfl rfl rfl rfl rfl (by (repeat' (first | with_reducible assumption | with_reducible exact Below.refl _ _ | (with_reducible refine Below.alloc ?_ ?_ _; rotate_left; focus ((first | exact Nat.le_refl _ | (simp; done) | (simp; omega) | omega | fail))) | (with_reducible refine Below.setCell ?_ ?_ _; rotate_left; focus ((first | exact Nat.le_refl _ | (simp; done) | (simp; omega) | omega | fail))) | with_reducible refine Mem.bel_drewN ?_ _ | with_reducible refine Below.drew ?_ | (with_reducible refine Mem.bel_call (by with_reducible assumption) ?_ ?_; focus ((first | exact Nat.le_refl _ | (simp; done) | (simp; omega) | omega | fail))) | fail)))
  · have h2 : (l.length : Int) < i := by omega
    clear h
    go_enter Tryd.func30, Tryd.ntmps30
    go_wp2_with fail
    try simp only [Exit.inBlock, Exit.then]
    refine post_rw (x0 := .int .i64 0) (x1 := .int .i64 0) (x2 := .string ⟨#[]⟩) (x3 := .int .i64 0) (x4 := .int .i64 0) rfl rfl rfl (by go_simp) (by go_simp) (by go_simp) (by go_simp) (by go_simp) ?_
    exact tkW_ret bad_zero rfl rfl rfl rfl rfl rfl (by (repeat' (first | with_reducible assumption | with_reducible exact Below.refl _ _ | (with_reducible refine Below.alloc ?_ ?_ _; rotate_left; focus ((first | exact Nat.le_refl _ | (simp; done) | (simp; omega) | omega | fail))) | (with_reducible refine Below.setCell ?_ ?_ _; rotate_left; focus ((first | exact Nat.le_refl _ | (simp; done) | (simp; omega) | omega | fail))) | with_reducible refine Mem.bel_drewN ?_ _ | with_reducible refine Below.drew ?_ | (with_reducible refine Mem.bel_call (by with_reducible assumption) ?_ ?_; focus ((first | exact Nat.le_refl _ | (simp; done) | (simp; omega) | omega | fail))) | fail)))

set_option maxRecDepth 100000 in
set_option maxHeartbeats 4000000 in
theorem rjTake_good (A : Option Addr) (c : Nat) (l : List UInt8) (k : Nat) (w : World) (hb : Bys w w.heap.size A l) (hl : l.length ≤ 60000000000) (hc : l.length ≤ c) (hk : k ≤ l.length) :
    Calls Tryd.prog 30 #[.slice A l.length c, .int .i64 (k : Int)] w (TkW (Jx.tak l k) w) := by
  have CS := cell_set
  have hql := Jx.tak_q l k hk
  have cin := fun j => Jx.cnt_in Jx.isW (l.drop k) (k := j)
  have cout := Jx.cnt_out Jx.isW (l.drop k)
  have bd := Jx.byt_drop l k
  rw [List.length_drop] at cout
  obtain ⟨N, hN⟩ : ∃ N, N = Jx.cnt Jx.isW (l.drop k) := ⟨_, rfl⟩
  obtain ⟨q, hq⟩ : ∃ q, q = k + Jx.cnt Jx.isW (l.drop k) := ⟨_, rfl⟩
  have te := Lib.hid (Jx.tak_e hq)
  have tp := Lib.hid (Jx.tak_p hq); have tt0 := Lib.hid (Jx.tak_t0 hq); have tt := Lib.hid (@Jx.tak_t l k q hq); have tn := Lib.hid (Jx.tak_n hq); have tn0 := Lib.hid (Jx.tak_n0 hq); have tl := Lib.hid (Jx.tak_l hq)
  rw [← hN] at cin cout hql hq
  simp only [bd] at cin cout
  generalize Jx.tak l k = R at *
  have CIN := Lib.hid cin; have COUT := Lib.hid cout; have HQ := Lib.hid hq
  clear cin cout bd hN hq
  have qb := HQ.out
  go_enter Tryd.func30, Tryd.ntmps30
  go_wp2_with fail
  go_loop [1] (fun t => ∃ j : Nat, j ≤ N ∧ t = .int .i64 ((k + j : Nat) : Int)) (fun t => k + N - (intOf t).toNat)
  case atStart => exact ⟨0, by omega, rfl⟩
  case round =>
    obtain ⟨j, hj, rfl⟩ := hrel
    by_cases hjN : j < N
    · have dg := CIN.out j hjN
      rw [Jx.isW_is] at dg
      obtain ⟨b, off, rfl, hB, cell⟩ := bys_cell hb (k := k + j) (by omega)
      generalize Jx.byt l (k + j) = X at *
      clear hb
      rcases dg with rfl | rfl | rfl | rfl
      all_goals
        go_wp2_with fail
        go_round
        case rel => exact ⟨j + 1, by omega, by go_num⟩
        case measure => simp [intOf]; omega
    · obtain rfl : j = N := by omega
      have qe : ((k + j : Nat) : Int) = (q : Int) := by have := HQ.out; omega
      rw [qe]
      have hql2 : q ≤ l.length := by have := HQ.out; omega
      have cout := COUT.out
      rw [← HQ.out] at cout
      have COUT1 := Lib.hid cout
      clear qe hjN hj hql cout COUT CIN qb
      by_cases hend : q = l.length
      · have Z := Lib.hid (te.out hend)
        subst hend
        go_wp2_with fail
        try simp only [Exit.inBlock, Exit.then]
        refine post_rw (x0 := .int .i64 11) (x1 := .int .i64 0) (x2 := .string ⟨#[]⟩) (x3 := .int .i64 (l.length : Int)) (x4 := .int .i64 (l.length : Int)) rfl rfl rfl (by go_simp) (by go_simp) (by go_simp) (by go_simp) (by go_simp) ?_
        exact tkW_ret Z.out rfl rfl rfl rfl rfl rfl (by (repeat' (first | with_reducible assumption | with_reducible exact Below.refl _ _ | (with_reducible refine Below.alloc ?_ ?_ _; rotate_left; focus ((first | exact Nat.le_refl _ | (simp; done) | (simp; omega) | omega | fail))) | (with_reducible refine Below.setCell ?_ ?_ _; rotate_left; focus ((first | exact Nat.le_refl _ | (simp; done) | (simp; omega) | omega | fail))) | with_reducible refine Mem.bel_drewN ?_ _ | with_reducible refine Below.drew ?_ | (with_reducible refine Mem.bel_call (by with_reducible assumption) ?_ ?_; focus ((first | exact Nat.le_refl _ | (simp; done) | (simp; omega) | omega | fail))) | fail)))
      · have hlt : q < l.length := by omega
        have qend : ((q : Int) == (l.length : Int)) = false := by simp; omega
        obtain ⟨b, off, rfl, hB, cell⟩ := bys_cell hb (k := q) hlt
        have wx := COUT1.out (by have := HQ.out; omega)
        have x256 := Jx.byt_lt l q
        have PU := Lib.hid (tp.out hlt); have TT0 := Lib.hid (tt0.out hlt); have TT := Lib.hid (fun s n => tt.out (s := s) (n := n) hlt); have TN := Lib.hid (tn.out hlt); have TN0 := Lib.hid (tn0.out hlt); have TL := Lib.hid (tl.out hlt)
        clear te tp tt0 tt tn tn0 tl COUT1 hend
        obtain ⟨X, hX⟩ : ∃ X, X = Jx.byt l q := ⟨_, rfl⟩
        rw [← hX] at cell wx x256 PU TT0 TT TN TN0 TL
        have w1 : ((X : Int) == 32) = false := by have : X ≠ 32 := (fun e => by rw [e] at wx; cases wx); simp; omega
        have w2 : ((X : Int) == 9) = false := by have : X ≠ 9 := (fun e => by rw [e] at wx; cases wx); simp; omega
        have w3 : ((X : Int) == 10) = false := by have : X ≠ 10 := (fun e => by rw [e] at wx; cases wx); simp; omega
        have w4 : ((X : Int) == 13) = false := by have : X ≠ 13 := (fun e => by rw [e] at wx; cases wx); simp; omega
        have HX := Lib.hid hX
        clear wx hX
        have hbL := Lib.hid hb
        clear hb
        go_wp2_with fail
        go_loopw [7] (fun t wr => ∃ j : Nat, j ≤ 6 ∧ t = .int .i64 (j : Int) ∧ Hid (Jx.NoP X j) ∧ Drewn (w.alloc (.cells #[.int .i64 0, .int .i64 0, .string ⟨#[]⟩, .int .i64 0, .int .i64 0] 51)) wr) (fun t _ => 6 - (intOf t).toNat)
        case atStart => exact ⟨0, by omega, rfl, fun i hi => absurd hi (Nat.not_lt_zero _), ⟨0, rfl⟩⟩
        case round =>
          obtain ⟨j, hj, rfl, NP, ⟨n, rfl⟩⟩ := hrel
          obtain rfl | rfl | rfl | rfl | rfl | rfl | rfl : j = 0 ∨ j = 1 ∨ j = 2 ∨ j = 3 ∨ j = 4 ∨ j = 5 ∨ j = 6 := by omega
          · by_cases hx : X = 123
            · have Z := Lib.hid (PU.out (by rw [hx]; decide))
              have qx : ((((⟨#[123, 125, 91, 93, 58, 44]⟩ : ByteArray)[0]'(by decide)).toNat : Int) == (X : Int)) = true := by show (((123 : Nat) : Int) == (X : Int)) = true; simp; omega
              have pv : Jx.punct X = 1 := by rw [hx]; rfl
              rw [pv] at Z
              clear hx pv
              go_wp2_with fail
              go_quiet (fail)
              go_wp2_with fail
              try simp only [Exit.inBlock, Exit.then]
              refine post_rw (x0 := .int .i64 1) (x1 := .int .i64 0) (x2 := .string ⟨#[]⟩) (x3 := .int .i64 (q : Int)) (x4 := .int .i64 ((q : Int) + 1)) rfl rfl rfl (by go_simp) (by go_simp) (by go_simp) (by go_simp) (by go_simp) ?_
              exact tkW_ret Z.out rfl rfl rfl (by push_cast; omega) (by push_cast; omega) rfl (by (repeat' (first | with_reducible assumption | with_reducible exact Below.refl _ _ | (with_reducible refine Below.alloc ?_ ?_ _; rotate_left; focus ((first | exact Nat.le_refl _ | (simp; done) | (simp; omega) | omega | fail))) | (with_reducible refine Below.setCell ?_ ?_ _; rotate_left; focus ((first | exact Nat.le_refl _ | (simp; done) | (simp; omega) | omega | fail))) | with_reducible refine Mem.bel_drewN ?_ _ | with_reducible refine Below.drew ?_ | (with_reducible refine Mem.bel_call (by with_reducible assumption) ?_ ?_; focus ((first | exact Nat.le_refl _ | (simp; done) | (simp; omega) | omega | fail))) | fail)))
            · have NP1 := Lib.hid (NP.out.go (by show 123 ≠ X; omega))
              have qx : ((((⟨#[123, 125, 91, 93, 58, 44]⟩ : ByteArray)[0]'(by decide)).toNat : Int) == (X : Int)) = false := by show (((123 : Nat) : Int) == (X : Int)) = false; simp; omega
              clear hx
              go_wp2_with fail
              go_quiet (fail)
              go_wp2_with fail
              go_roundw
              case rel => exact ⟨1, by omega, rfl, NP1, ⟨_, rfl⟩⟩
              case measure => simp [intOf]
          · by_cases hx : X = 125
            · have Z := Lib.hid (PU.out (by rw [hx]; decide))
              have qx : ((((⟨#[123, 125, 91, 93, 58, 44]⟩ : ByteArray)[1]'(by decide)).toNat : Int) == (X : Int)) = true := by show (((125 : Nat) : Int) == (X : Int)) = true; simp; omega
              have pv : Jx.punct X = 2 := by rw [hx]; rfl
              rw [pv] at Z
              clear hx pv
              go_wp2_with fail
              go_quiet (fail)
              go_wp2_with fail
              try simp only [Exit.inBlock, Exit.then]
              refine post_rw (x0 := .int .i64 2) (x1 := .int .i64 0) (x2 := .string ⟨#[]⟩) (x3 := .int .i64 (q : Int)) (x4 := .int .i64 ((q : Int) + 1)) rfl rfl rfl (by go_simp) (by go_simp) (by go_simp) (by go_simp) (by go_simp) ?_
              exact tkW_ret Z.out rfl rfl rfl (by push_cast; omega) (by push_cast; omega) rfl (by (repeat' (first | with_reducible assumption | with_reducible exact Below.refl _ _ | (with_reducible refine Below.alloc ?_ ?_ _; rotate_left; focus ((first | exact Nat.le_refl _ | (simp; done) | (simp; omega) | omega | fail))) | (with_reducible refine Below.setCell ?_ ?_ _; rotate_left; focus ((first | exact Nat.le_refl _ | (simp; done) | (simp; omega) | omega | fail))) | with_reducible refine Mem.bel_drewN ?_ _ | with_reducible refine Below.drew ?_ | (with_reducible refine Mem.bel_call (by with_reducible assumption) ?_ ?_; focus ((first | exact Nat.le_refl _ | (simp; done) | (simp; omega) | omega | fail))) | fail)))
            · have NP1 := Lib.hid (NP.out.go (by show 125 ≠ X; omega))
              have qx : ((((⟨#[123, 125, 91, 93, 58, 44]⟩ : ByteArray)[1]'(by decide)).toNat : Int) == (X : Int)) = false := by show (((125 : Nat) : Int) == (X : Int)) = false; simp; omega
              clear hx
              go_wp2_with fail
              go_quiet (fail)
              go_wp2_with fail
              go_roundw
              case rel => exact ⟨2, by omega, rfl, NP1, ⟨_, rfl⟩⟩
              case measure => simp [intOf]
          · by_cases hx : X = 91
            · have Z := Lib.hid (PU.out (by rw [hx]; decide))
              have qx : ((((⟨#[123, 125, 91, 93, 58, 44]⟩ : ByteArray)[2]'(by decide)).toNat : Int) == (X : Int)) = true := by show (((91 : Nat) : Int) == (X : Int)) = true; simp; omega
              have pv : Jx.punct X = 3 := by rw [hx]; rfl
              rw [pv] at Z
              clear hx pv
              go_wp2_with fail
              go_quiet (fail)
              go_wp2_with fail
              try simp only [Exit.inBlock, Exit.then]
              refine post_rw (x0 := .int .i64 3) (x1 := .int .i64 0) (x2 := .string ⟨#[]⟩) (x3 := .int .i64 (q : Int)) (x4 := .int .i64 ((q : Int) + 1)) rfl rfl rfl (by go_simp) (by go_simp) (by go_simp) (by go_simp) (by go_simp) ?_
              exact tkW_ret Z.out rfl rfl rfl (by push_cast; omega) (by push_cast; omega) rfl (by (repeat' (first | with_reducible assumption | with_reducible exact Below.refl _ _ | (with_reducible refine Below.alloc ?_ ?_ _; rotate_left; focus ((first | exact Nat.le_refl _ | (simp; done) | (simp; omega) | omega | fail))) | (with_reducible refine Below.setCell ?_ ?_ _; rotate_left; focus ((first | exact Nat.le_refl _ | (simp; done) | (simp; omega) | omega | fail))) | with_reducible refine Mem.bel_drewN ?_ _ | with_reducible refine Below.drew ?_ | (with_reducible refine Mem.bel_call (by with_reducible assumption) ?_ ?_; focus ((first | exact Nat.le_refl _ | (simp; done) | (simp; omega) | omega | fail))) | fail)))
            · have NP1 := Lib.hid (NP.out.go (by show 91 ≠ X; omega))
              have qx : ((((⟨#[123, 125, 91, 93, 58, 44]⟩ : ByteArray)[2]'(by decide)).toNat : Int) == (X : Int)) = false := by show (((91 : Nat) : Int) == (X : Int)) = false; simp; omega
              clear hx
              go_wp2_with fail
              go_quiet (fail)
              go_wp2_with fail
              go_roundw
              case rel => exact ⟨3, by omega, rfl, NP1, ⟨_, rfl⟩⟩
              case measure => simp [intOf]
          · by_cases hx : X = 93
            · have Z := Lib.hid (PU.out (by rw [hx]; decide))
              have qx : ((((⟨#[123, 125, 91, 93, 58, 44]⟩ : ByteArray)[3]'(by decide)).toNat : Int) == (X : Int)) = true := by show (((93 : Nat) : Int) == (X : Int)) = true; simp; omega
              have pv : Jx.punct X = 4 := by rw [hx]; rfl
              rw [pv] at Z
              clear hx pv
              go_wp2_with fail
              go_quiet (fail)
              go_wp2_with fail
              try simp only [Exit.inBlock, Exit.then]
              refine post_rw (x0 := .int .i64 4) (x1 := .int .i64 0) (x2 := .string ⟨#[]⟩) (x3 := .int .i64 (q : Int)) (x4 := .int .i64 ((q : Int) + 1)) rfl rfl rfl (by go_simp) (by go_simp) (by go_simp) (by go_simp) (by go_simp) ?_
              exact tkW_ret Z.out rfl rfl rfl (by push_cast; omega) (by push_cast; omega) rfl (by (repeat' (first | with_reducible assumption | with_reducible exact Below.refl _ _ | (with_reducible refine Below.alloc ?_ ?_ _; rotate_left; focus ((first | exact Nat.le_refl _ | (simp; done) | (simp; omega) | omega | fail))) | (with_reducible refine Below.setCell ?_ ?_ _; rotate_left; focus ((first | exact Nat.le_refl _ | (simp; done) | (simp; omega) | omega | fail))) | with_reducible refine Mem.bel_drewN ?_ _ | with_reducible refine Below.drew ?_ | (with_reducible refine Mem.bel_call (by with_reducible assumption) ?_ ?_; focus ((first | exact Nat.le_refl _ | (simp; done) | (simp; omega) | omega | fail))) | fail)))
            · have NP1 := Lib.hid (NP.out.go (by show 93 ≠ X; omega))
              have qx : ((((⟨#[123, 125, 91, 93, 58, 44]⟩ : ByteArray)[3]'(by decide)).toNat : Int) == (X : Int)) = false := by show (((93 : Nat) : Int) == (X : Int)) = false; simp; omega
              clear hx
              go_wp2_with fail
              go_quiet (fail)
              go_wp2_with fail
              go_roundw
              case rel => exact ⟨4, by omega, rfl, NP1, ⟨_, rfl⟩⟩
              case measure => simp [intOf]
          · by_cases hx : X = 58
            · have Z := Lib.hid (PU.out (by rw [hx]; decide))
              have qx : ((((⟨#[123, 125, 91, 93, 58, 44]⟩ : ByteArray)[4]'(by decide)).toNat : Int) == (X : Int)) = true := by show (((58 : Nat) : Int) == (X : Int)) = true; simp; omega
              have pv : Jx.punct X = 5 := by rw [hx]; rfl
              rw [pv] at Z
              clear hx pv
              go_wp2_with fail
              go_quiet (fail)
              go_wp2_with fail
              try simp only [Exit.inBlock, Exit.then]
              refine post_rw (x0 := .int .i64 5) (x1 := .int .i64 0) (x2 := .string ⟨#[]⟩) (x3 := .int .i64 (q : Int)) (x4 := .int .i64 ((q : Int) + 1)) rfl rfl rfl (by go_simp) (by go_simp) (by go_simp) (by go_simp) (by go_simp) ?_
              exact tkW_ret Z.out rfl rfl rfl (by push_cast; omega) (by push_cast; omega) rfl (by (repeat' (first | with_reducible assumption | with_reducible exact Below.refl _ _ | (with_reducible refine Below.alloc ?_ ?_ _; rotate_left; focus ((first | exact Nat.le_refl _ | (simp; done) | (simp; omega) | omega | fail))) | (with_reducible refine Below.setCell ?_ ?_ _; rotate_left; focus ((first | exact Nat.le_refl _ | (simp; done) | (simp; omega) | omega | fail))) | with_reducible refine Mem.bel_drewN ?_ _ | with_reducible refine Below.drew ?_ | (with_reducible refine Mem.bel_call (by with_reducible assumption) ?_ ?_; focus ((first | exact Nat.le_refl _ | (simp; done) | (simp; omega) | omega | fail))) | fail)))
            · have NP1 := Lib.hid (NP.out.go (by show 58 ≠ X; omega))
              have qx : ((((⟨#[123, 125, 91, 93, 58, 44]⟩ : ByteArray)[4]'(by decide)).toNat : Int) == (X : Int)) = false := by show (((58 : Nat) : Int) == (X : Int)) = false; simp; omega
              clear hx
              go_wp2_with fail
              go_quiet (fail)
              go_wp2_with fail
              go_roundw
              case rel => exact ⟨5, by omega, rfl, NP1, ⟨_, rfl⟩⟩
              case measure => simp [intOf]
          · by_cases hx : X = 44
            · have Z := Lib.hid (PU.out (by rw [hx]; decide))
              have qx : ((((⟨#[123, 125, 91, 93, 58, 44]⟩ : ByteArray)[5]'(by decide)).toNat : Int) == (X : Int)) = true := by show (((44 : Nat) : Int) == (X : Int)) = true; simp; omega
              have pv : Jx.punct X = 6 := by rw [hx]; rfl
              rw [pv] at Z
              clear hx pv
              go_wp2_with fail
              go_quiet (fail)
              go_wp2_with fail
              try simp only [Exit.inBlock, Exit.then]
              refine post_rw (x0 := .int .i64 6) (x1 := .int .i64 0) (x2 := .string ⟨#[]⟩) (x3 := .int .i64 (q : Int)) (x4 := .int .i64 ((q : Int) + 1)) rfl rfl rfl (by go_simp) (by go_simp) (by go_simp) (by go_simp) (by go_simp) ?_
              exact tkW_ret Z.out rfl rfl rfl (by push_cast; omega) (by push_cast; omega) rfl (by (repeat' (first | with_reducible assumption | with_reducible exact Below.refl _ _ | (with_reducible refine Below.alloc ?_ ?_ _; rotate_left; focus ((first | exact Nat.le_refl _ | (simp; done) | (simp; omega) | omega | fail))) | (with_reducible refine Below.setCell ?_ ?_ _; rotate_left; focus ((first | exact Nat.le_refl _ | (simp; done) | (simp; omega) | omega | fail))) | with_reducible refine Mem.bel_drewN ?_ _ | with_reducible refine Below.drew ?_ | (with_reducible refine Mem.bel_call (by with_reducible assumption) ?_ ?_; focus ((first | exact Nat.le_refl _ | (simp; done) | (simp; omega) | omega | fail))) | fail)))
            · have NP1 := Lib.hid (NP.out.go (by show 44 ≠ X; omega))
              have qx : ((((⟨#[123, 125, 91, 93, 58, 44]⟩ : ByteArray)[5]'(by decide)).toNat : Int) == (X : Int)) = false := by show (((44 : Nat) : Int) == (X : Int)) = false; simp; omega
              clear hx
              go_wp2_with fail
              go_quiet (fail)
              go_wp2_with fail
              go_roundw
              case rel => exact ⟨6, by omega, rfl, NP1, ⟨_, rfl⟩⟩
              case measure => simp [intOf]
          · have p0 := NP.out.done
            have yW : Bys ((w.alloc (.cells #[.int .i64 0, .int .i64 0, .string ⟨#[]⟩, .int .i64 0, .int .i64 0] 51)).drewN n) ((w.alloc (.cells #[.int .i64 0, .int .i64 0, .string ⟨#[]⟩, .int .i64 0, .int .i64 0] 51)).drewN n).heap.size (some ⟨b, off, none⟩) l :=
              ((hbL.out.alloc (Nat.le_refl _) _).drewN n).more (by simp)
            have P0 := Lib.hid p0
            have ps := Jx.punct_is X
            clear p0
            by_cases h34 : X = 34
            · have RT := Lib.hid (rtext_any (some ⟨b, off, none⟩) c l (q + 1) _ yW hl hc (by omega))
              have q34 : ((X : Int) == 34) = true := by simp; omega
              have Z0 := Lib.hid (TT0.out h34); have Z1 := Lib.hid (fun s n => TT.out s n h34)
              obtain ⟨T, hT⟩ : ∃ T, T = Jx.txt (l.drop (q + 1)) := ⟨_, rfl⟩
              rw [← hT] at RT Z0 Z1
              clear hT h34 PU TT0 TT TN TN0 TL
              cases T with
              | none =>
                have Z := Lib.hid (Z0.out rfl)
                go_wp2_with fail
                refine RT.out.mono ?_
                rintro e w2 ⟨⟨z, rfl⟩, b2⟩
                have hOwn := Nat.lt_of_lt_of_le (n := w.heap.size) (by first | exact Nat.le_refl _ | assumption | (simp; done) | (simp; omega) | omega) (Below.size b2)
                have hOwn1 := Nat.ne_of_gt hOwn
                have hOwn2 := Nat.ne_of_lt hOwn
                have hOwn := (Below.cell b2 (p := ⟨w.heap.size, 0, none⟩) (by first | exact Nat.le_refl _ | assumption | (simp; done) | (simp; omega) | omega)).trans (by go_simp; rfl)
                have hOwn := (Below.cell b2 (p := ⟨w.heap.size, 1, none⟩) (by first | exact Nat.le_refl _ | assumption | (simp; done) | (simp; omega) | omega)).trans (by go_simp; rfl)
                have hOwn := (Below.cell b2 (p := ⟨w.heap.size, 2, none⟩) (by first | exact Nat.le_refl _ | assumption | (simp; done) | (simp; omega) | omega)).trans (by go_simp; rfl)
                have hOwn := (Below.cell b2 (p := ⟨w.heap.size, 3, none⟩) (by first | exact Nat.le_refl _ | assumption | (simp; done) | (simp; omega) | omega)).trans (by go_simp; rfl)
                have hOwn := (Below.cell b2 (p := ⟨w.heap.size, 4, none⟩) (by first | exact Nat.le_refl _ | assumption | (simp; done) | (simp; omega) | omega)).trans (by go_simp; rfl)
                have hOwn := (Below.frozen b2 (p := ⟨w.heap.size, 0, none⟩) (by first | exact Nat.le_refl _ | assumption | (simp; done) | (simp; omega) | omega)).trans (by go_simp; rfl)
                have hOwn := (Below.frozen b2 (p := ⟨w.heap.size, 1, none⟩) (by first | exact Nat.le_refl _ | assumption | (simp; done) | (simp; omega) | omega)).trans (by go_simp; rfl)
                have hOwn := (Below.frozen b2 (p := ⟨w.heap.size, 2, none⟩) (by first | exact Nat.le_refl _ | assumption | (simp; done) | (simp; omega) | omega)).trans (by go_simp; rfl)
                have hOwn := (Below.frozen b2 (p := ⟨w.heap.size, 3, none⟩) (by first | exact Nat.le_refl _ | assumption | (simp; done) | (simp; omega) | omega)).trans (by go_simp; rfl)
                have hOwn := (Below.frozen b2 (p := ⟨w.heap.size, 4, none⟩) (by first | exact Nat.le_refl _ | assumption | (simp; done) | (simp; omega) | omega)).trans (by go_simp; rfl)
                go_wp2_with fail
                try simp only [Exit.inBlock, Exit.then]
                refine post_rw (x0 := .int .i64 0) (x1 := .int .i64 0) (x2 := .string ⟨#[]⟩) (x3 := .int .i64 0) (x4 := .int .i64 0) rfl rfl rfl (by go_simp) (by go_simp) (by go_simp) (by go_simp) (by go_simp) ?_
                exact tkW_ret Z.out rfl rfl rfl rfl rfl rfl (by (repeat' (first | with_reducible assumption | with_reducible exact Below.refl _ _ | (with_reducible refine Below.alloc ?_ ?_ _; rotate_left; focus ((first | exact Nat.le_refl _ | (simp; done) | (simp; omega) | omega | fail))) | (with_reducible refine Below.setCell ?_ ?_ _; rotate_left; focus ((first | exact Nat.le_refl _ | (simp; done) | (simp; omega) | omega | fail))) | with_reducible refine Mem.bel_drewN ?_ _ | with_reducible refine Below.drew ?_ | (with_reducible refine Mem.bel_call (by with_reducible assumption) ?_ ?_; focus ((first | exact Nat.le_refl _ | (simp; done) | (simp; omega) | omega | fail))) | fail)))
              | some r =>
                obtain ⟨s, m⟩ := r
                have Z := Lib.hid (Z1.out s m rfl)
                go_wp2_with fail
                refine RT.out.mono ?_
                rintro e w2 ⟨rfl, b2⟩
                have hOwn := Nat.lt_of_lt_of_le (n := w.heap.size) (by first | exact Nat.le_refl _ | assumption | (simp; done) | (simp; omega) | omega) (Below.size b2)
                have hOwn1 := Nat.ne_of_gt hOwn
                have hOwn2 := Nat.ne_of_lt hOwn
                have hOwn := (Below.cell b2 (p := ⟨w.heap.size, 0, none⟩) (by first | exact Nat.le_refl _ | assumption | (simp; done) | (simp; omega) | omega)).trans (by go_simp; rfl)
                have hOwn := (Below.cell b2 (p := ⟨w.heap.size, 1, none⟩) (by first | exact Nat.le_refl _ | assumption | (simp; done) | (simp; omega) | omega)).trans (by go_simp; rfl)
                have hOwn := (Below.cell b2 (p := ⟨w.heap.size, 2, none⟩) (by first | exact Nat.le_refl _ | assumption | (simp; done) | (simp; omega) | omega)).trans (by go_simp; rfl)
                have hOwn := (Below.cell b2 (p := ⟨w.heap.size, 3, none⟩) (by first | exact Nat.le_refl _ | assumption | (simp; done) | (simp; omega) | omega)).trans (by go_simp; rfl)
                have hOwn := (Below.cell b2 (p := ⟨w.heap.size, 4, none⟩) (by first | exact Nat.le_refl _ | assumption | (simp; done) | (simp; omega) | omega)).trans (by go_simp; rfl)
                have hOwn := (Below.frozen b2 (p := ⟨w.heap.size, 0, none⟩) (by first | exact Nat.le_refl _ | assumption | (simp; done) | (simp; omega) | omega)).trans (by go_simp; rfl)
                have hOwn := (Below.frozen b2 (p := ⟨w.heap.size, 1, none⟩) (by first | exact Nat.le_refl _ | assumption | (simp; done) | (simp; omega) | omega)).trans (by go_simp; rfl)
                have hOwn := (Below.frozen b2 (p := ⟨w.heap.size, 2, none⟩) (by first | exact Nat.le_refl _ | assumption | (simp; done) | (simp; omega) | omega)).trans (by go_simp; rfl)
                have hOwn := (Below.frozen b2 (p := ⟨w.heap.size, 3, none⟩) (by first | exact Nat.le_refl _ | assumption | (simp; done) | (simp; omega) | omega)).trans (by go_simp; rfl)
                have hOwn := (Below.frozen b2 (p := ⟨w.heap.size, 4, none⟩) (by first | exact Nat.le_refl _ | assumption | (simp; done) | (simp; omega) | omega)).trans (by go_simp; rfl)
                go_wp2_with fail
                try simp only [Exit.inBlock, Exit.then]
                refine post_rw (x0 := .int .i64 10) (x1 := .int .i64 0) (x2 := .string ⟨s.toArray⟩) (x3 := .int .i64 (q : Int)) (x4 := .int .i64 ((q : Int) + 1 + (m : Int))) rfl rfl rfl (by go_simp) (by go_simp) (by go_simp) (by go_simp) (by go_simp) ?_
                exact tkW_ret Z.out rfl rfl rfl (by push_cast; omega) (by push_cast; omega) rfl (by (repeat' (first | with_reducible assumption | with_reducible exact Below.refl _ _ | (with_reducible refine Below.alloc ?_ ?_ _; rotate_left; focus ((first | exact Nat.le_refl _ | (simp; done) | (simp; omega) | omega | fail))) | (with_reducible refine Below.setCell ?_ ?_ _; rotate_left; focus ((first | exact Nat.le_refl _ | (simp; done) | (simp; omega) | omega | fail))) | with_reducible refine Mem.bel_drewN ?_ _ | with_reducible refine Below.drew ?_ | (with_reducible refine Mem.bel_call (by with_reducible assumption) ?_ ?_; focus ((first | exact Nat.le_refl _ | (simp; done) | (simp; omega) | omega | fail))) | fail)))
            · have q34 : ((X : Int) == 34) = false := by simp; omega
              have H34 := Lib.hid h34
              clear TT0 TT PU h34
              by_cases hnum : X = 45 ∨ Jx.isD X = true
              · have RN := Lib.hid (rnumber_any (some ⟨b, off, none⟩) c l q _ yW (by omega) hql2)
                have Z0 := Lib.hid (TN0.out hnum); have Z1 := Lib.hid (TN.out hnum)
                obtain ⟨⟨v, m, er⟩, hr⟩ : ∃ r, r = Jx.num (l.drop q) := ⟨_, rfl⟩
                rw [← hr] at RN Z0 Z1
                clear hr TN TN0 TL
                by_cases he : er = 0
                · subst he
                  have Z := Lib.hid (Z1.out rfl)
                  by_cases h45 : X = 45
                  · have q45 : ((X : Int) == 45) = true := by simp; omega
                    clear h45 hnum
                    go_wp2_with fail
                    refine RN.out.mono ?_
                    rintro e w2 ⟨rfl, rfl⟩
                    go_wp2_with fail
                    try simp only [Exit.inBlock, Exit.then]
                    refine post_rw (x0 := .int .i64 9) (x1 := .int .i64 v) (x2 := .string ⟨#[]⟩) (x3 := .int .i64 (q : Int)) (x4 := .int .i64 ((q : Int) + (m : Int))) rfl rfl rfl (by go_simp) (by go_simp) (by go_simp) (by go_simp) (by go_simp) ?_
                    exact tkW_ret Z.out rfl rfl rfl (by push_cast; omega) (by push_cast; omega) rfl (by (repeat' (first | with_reducible assumption | with_reducible exact Below.refl _ _ | (with_reducible refine Below.alloc ?_ ?_ _; rotate_left; focus ((first | exact Nat.le_refl _ | (simp; done) | (simp; omega) | omega | fail))) | (with_reducible refine Below.setCell ?_ ?_ _; rotate_left; focus ((first | exact Nat.le_refl _ | (simp; done) | (simp; omega) | omega | fail))) | with_reducible refine Mem.bel_drewN ?_ _ | with_reducible refine Below.drew ?_ | (with_reducible refine Mem.bel_call (by with_reducible assumption) ?_ ?_; focus ((first | exact Nat.le_refl _ | (simp; done) | (simp; omega) | omega | fail))) | fail)))
                  · have q45 : ((X : Int) == 45) = false := by simp; omega
                    have D := Lib.hid (rdigit_any X)
                    rw [show Jx.isD X = true from by rcases hnum with h | h; (· exact absurd h h45); (· exact h)] at D
                    clear h45 hnum
                    go_wp2_with fail
                    with_reducible refine (D.out _).mono ?_
                    rintro e w1 ⟨rfl, rfl⟩
                    go_wp2_with fail
                    refine RN.out.mono ?_
                    rintro e w2 ⟨rfl, rfl⟩
                    go_wp2_with fail
                    try simp only [Exit.inBlock, Exit.then]
                    refine post_rw (x0 := .int .i64 9) (x1 := .int .i64 v) (x2 := .string ⟨#[]⟩) (x3 := .int .i64 (q : Int)) (x4 := .int .i64 ((q : Int) + (m : Int))) rfl rfl rfl (by go_simp) (by go_simp) (by go_simp) (by go_simp) (by go_simp) ?_
                    exact tkW_ret Z.out rfl rfl rfl (by push_cast; omega) (by push_cast; omega) rfl (by (repeat' (first | with_reducible assumption | with_reducible exact Below.refl _ _ | (with_reducible refine Below.alloc ?_ ?_ _; rotate_left; focus ((first | exact Nat.le_refl _ | (simp; done) | (simp; omega) | omega | fail))) | (with_reducible refine Below.setCell ?_ ?_ _; rotate_left; focus ((first | exact Nat.le_refl _ | (simp; done) | (simp; omega) | omega | fail))) | with_reducible refine Mem.bel_drewN ?_ _ | with_reducible refine Below.drew ?_ | (with_reducible refine Mem.bel_call (by with_reducible assumption) ?_ ?_; focus ((first | exact Nat.le_refl _ | (simp; done) | (simp; omega) | omega | fail))) | fail)))
                · have Z := Lib.hid (Z0.out he)
                  have qe : ((er : Int) != 0) = true := by simp; omega
                  clear he
                  by_cases h45 : X = 45
                  · have q45 : ((X : Int) == 45) = true := by simp; omega
                    clear h45 hnum
                    go_wp2_with fail
                    refine RN.out.mono ?_
                    rintro e w2 ⟨rfl, rfl⟩
                    go_wp2_with fail
                    try simp only [Exit.inBlock, Exit.then]
                    refine post_rw (x0 := .int .i64 0) (x1 := .int .i64 0) (x2 := .string ⟨#[]⟩) (x3 := .int .i64 0) (x4 := .int .i64 0) rfl rfl rfl (by go_simp) (by go_simp) (by go_simp) (by go_simp) (by go_simp) ?_
                    exact tkW_ret Z.out rfl rfl rfl rfl rfl rfl (by (repeat' (first | with_reducible assumption | with_reducible exact Below.refl _ _ | (with_reducible refine Below.alloc ?_ ?_ _; rotate_left; focus ((first | exact Nat.le_refl _ | (simp; done) | (simp; omega) | omega | fail))) | (with_reducible refine Below.setCell ?_ ?_ _; rotate_left; focus ((first | exact Nat.le_refl _ | (simp; done) | (simp; omega) | omega | fail))) | with_reducible refine Mem.bel_drewN ?_ _ | with_reducible refine Below.drew ?_ | (with_reducible refine Mem.bel_call (by with_reducible assumption) ?_ ?_; focus ((first | exact Nat.le_refl _ | (simp; done) | (simp; omega) | omega | fail))) | fail)))
                  · have q45 : ((X : Int) == 45) = false := by simp; omega
                    have D := Lib.hid (rdigit_any X)
                    rw [show Jx.isD X = true from by rcases hnum with h | h; (· exact absurd h h45); (· exact h)] at D
                    clear h45 hnum
                    go_wp2_with fail
                    with_reducible refine (D.out _).mono ?_
                    rintro e w1 ⟨rfl, rfl⟩
                    go_wp2_with fail
                    refine RN.out.mono ?_
                    rintro e w2 ⟨rfl, rfl⟩
                    go_wp2_with fail
                    try simp only [Exit.inBlock, Exit.then]
                    refine post_rw (x0 := .int .i64 0) (x1 := .int .i64 0) (x2 := .string ⟨#[]⟩) (x3 := .int .i64 0) (x4 := .int .i64 0) rfl rfl rfl (by go_simp) (by go_simp) (by go_simp) (by go_simp) (by go_simp) ?_
                    exact tkW_ret Z.out rfl rfl rfl rfl rfl rfl (by (repeat' (first | with_reducible assumption | with_reducible exact Below.refl _ _ | (with_reducible refine Below.alloc ?_ ?_ _; rotate_left; focus ((first | exact Nat.le_refl _ | (simp; done) | (simp; omega) | omega | fail))) | (with_reducible refine Below.setCell ?_ ?_ _; rotate_left; focus ((first | exact Nat.le_refl _ | (simp; done) | (simp; omega) | omega | fail))) | with_reducible refine Mem.bel_drewN ?_ _ | with_reducible refine Below.drew ?_ | (with_reducible refine Mem.bel_call (by with_reducible assumption) ?_ ?_; focus ((first | exact Nat.le_refl _ | (simp; done) | (simp; omega) | omega | fail))) | fail)))
              · have q45 : ((X : Int) == 45) = false := by have : X ≠ 45 := (fun e => hnum (.inl e)); simp; omega
                have D := Lib.hid (rdigit_any X)
                rw [show Jx.isD X = false from by cases h : Jx.isD X; (· rfl); (· exact absurd (.inr h) hnum)] at D
                have tl := TL.out P0.out H34.out hnum
                have NT := Lib.hid (rnamed_any (some ⟨b, off, none⟩) c l q Jx.sT _ yW (by omega) hc hlt (by decide))
                have NF := Lib.hid (rnamed_any (some ⟨b, off, none⟩) c l q Jx.sF _ yW (by omega) hc hlt (by decide))
                have NN := Lib.hid (rnamed_any (some ⟨b, off, none⟩) c l q Jx.sN _ yW (by omega) hc hlt (by decide))
                generalize Jx.named (l.drop q) Jx.sT = nt at *
                generalize Jx.named (l.drop q) Jx.sF = nf at *
                generalize Jx.named (l.drop q) Jx.sN = nn at *
                have TL1 := Lib.hid tl
                clear tl hnum TL TN TN0
                go_wp2_with fail
                with_reducible refine (D.out _).mono ?_
                rintro e w1 ⟨rfl, rfl⟩
                go_wp2_with fail
                refine NT.out.mono ?_
                rintro e w2 ⟨rfl, rfl⟩
                cases nt with
                | true =>
                  have Z := Lib.hid (TL1.out.trans (if_pos rfl))
                  go_wp2_with fail
                  try simp only [Exit.inBlock, Exit.then]
                  refine post_rw (x0 := .int .i64 7) (x1 := .int .i64 1) (x2 := .string ⟨#[]⟩) (x3 := .int .i64 (q : Int)) (x4 := .int .i64 ((q : Int) + 4)) rfl rfl rfl (by go_simp) (by go_simp) (by go_simp) (by go_simp) (by go_simp) ?_
                  exact tkW_ret Z.out rfl rfl rfl (by push_cast; omega) (by push_cast; omega) rfl (by (repeat' (first | with_reducible assumption | with_reducible exact Below.refl _ _ | (with_reducible refine Below.alloc ?_ ?_ _; rotate_left; focus ((first | exact Nat.le_refl _ | (simp; done) | (simp; omega) | omega | fail))) | (with_reducible refine Below.setCell ?_ ?_ _; rotate_left; focus ((first | exact Nat.le_refl _ | (simp; done) | (simp; omega) | omega | fail))) | with_reducible refine Mem.bel_drewN ?_ _ | with_reducible refine Below.drew ?_ | (with_reducible refine Mem.bel_call (by with_reducible assumption) ?_ ?_; focus ((first | exact Nat.le_refl _ | (simp; done) | (simp; omega) | omega | fail))) | fail)))
                | false =>
                  have TL2 := Lib.hid (TL1.out.trans (if_neg (by decide)))
                  go_wp2_with fail
                  refine NF.out.mono ?_
                  rintro e w2 ⟨rfl, rfl⟩
                  cases nf with
                  | true =>
                    have Z := Lib.hid (TL2.out.trans (if_pos rfl))
                    go_wp2_with fail
                    try simp only [Exit.inBlock, Exit.then]
                    refine post_rw (x0 := .int .i64 7) (x1 := .int .i64 0) (x2 := .string ⟨#[]⟩) (x3 := .int .i64 (q : Int)) (x4 := .int .i64 ((q : Int) + 5)) rfl rfl rfl (by go_simp) (by go_simp) (by go_simp) (by go_simp) (by go_simp) ?_
                    exact tkW_ret Z.out rfl rfl rfl (by push_cast; omega) (by push_cast; omega) rfl (by (repeat' (first | with_reducible assumption | with_reducible exact Below.refl _ _ | (with_reducible refine Below.alloc ?_ ?_ _; rotate_left; focus ((first | exact Nat.le_refl _ | (simp; done) | (simp; omega) | omega | fail))) | (with_reducible refine Below.setCell ?_ ?_ _; rotate_left; focus ((first | exact Nat.le_refl _ | (simp; done) | (simp; omega) | omega | fail))) | with_reducible refine Mem.bel_drewN ?_ _ | with_reducible refine Below.drew ?_ | (with_reducible refine Mem.bel_call (by with_reducible assumption) ?_ ?_; focus ((first | exact Nat.le_refl _ | (simp; done) | (simp; omega) | omega | fail))) | fail)))
                  | false =>
                    have TL3 := Lib.hid (TL2.out.trans (if_neg (by decide)))
                    go_wp2_with fail
                    refine NN.out.mono ?_
                    rintro e w2 ⟨rfl, rfl⟩
                    cases nn with
                    | true =>
                      have Z := Lib.hid (TL3.out.trans (if_pos rfl))
                      go_wp2_with fail
                      try simp only [Exit.inBlock, Exit.then]
                      refine post_rw (x0 := .int .i64 8) (x1 := .int .i64 0) (x2 := .string ⟨#[]⟩) (x3 := .int .i64 (q : Int)) (x4 := .int .i64 ((q : Int) + 4)) rfl rfl rfl (by go_simp) (by go_simp) (by go_simp) (by go_simp) (by go_simp) ?_
                      exact tkW_ret Z.out rfl rfl rfl (by push_cast; omega) (by push_cast; omega) rfl (by (repeat' (first | with_reducible assumption | with_reducible exact Below.refl _ _ | (with_reducible refine Below.alloc ?_ ?_ _; rotate_left; focus ((first | exact Nat.le_refl _ | (simp; done) | (simp; omega) | omega | fail))) | (with_reducible refine Below.setCell ?_ ?_ _; rotate_left; focus ((first | exact Nat.le_refl _ | (simp; done) | (simp; omega) | omega | fail))) | with_reducible refine Mem.bel_drewN ?_ _ | with_reducible refine Below.drew ?_ | (with_reducible refine Mem.bel_call (by with_reducible assumption) ?_ ?_; focus ((first | exact Nat.le_refl _ | (simp; done) | (simp; omega) | omega | fail))) | fail)))
                    | false =>
                      have Z := Lib.hid (TL3.out.trans (if_neg (by decide)))
                      go_wp2_with fail
                      try simp only [Exit.inBlock, Exit.then]
                      refine post_rw (x0 := .int .i64 0) (x1 := .int .i64 0) (x2 := .string ⟨#[]⟩) (x3 := .int .i64 0) (x4 := .int .i64 0) rfl rfl rfl (by go_simp) (by go_simp) (by go_simp) (by go_simp) (by go_simp) ?_
                      exact tkW_ret Z.out rfl rfl rfl rfl rfl rfl (by (repeat' (first | with_reducible assumption | with_reducible exact Below.refl _ _ | (with_reducible refine Below.alloc ?_ ?_ _; rotate_left; focus ((first | exact Nat.le_refl _ | (simp; done) | (simp; omega) | omega | fail))) | (with_reducible refine Below.setCell ?_ ?_ _; rotate_left; focus ((first | exact Nat.le_refl _ | (simp; done) | (simp; omega) | omega | fail))) | with_reducible refine Mem.bel_drewN ?_ _ | with_reducible refine Below.drew ?_ | (with_reducible refine Mem.bel_call (by with_reducible assumption) ?_ ?_; focus ((first | exact Nat.le_refl _ | (simp; done) | (simp; omega) | omega | fail))) | fail)))

theorem rjTake_any (A : Option Addr) (c : Nat) (l : List UInt8) (i : Int) (w : World) (hb : Bys w w.heap.size A l) (hl : l.length ≤ 60000000000) (hc : l.length ≤ c) :
    Calls Tryd.prog 30 #[.slice A l.length c, .int .i64 i] w (TkW (Jx.takI l i) w) := by
  unfold Jx.takI
  by_cases h : i < 0 ∨ (l.length : Int) < i
  · rw [if_pos h]; exact rjTake_bad A c l i w h
  · rw [if_neg h]
    obtain ⟨k, rfl⟩ := Int.eq_ofNat_of_zero_le (a := i) (by omega)
    exact rjTake_good A c l k w hb hl hc (by omega)

end Go.Proofs.YtheeahnhdehloaaDoor
