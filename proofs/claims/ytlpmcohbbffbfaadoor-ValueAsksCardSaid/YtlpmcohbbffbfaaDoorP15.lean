/- Joined by tools/bundle.py: VLaw. -/
import Derived.Test.YtlpmcohbbffbfaaDoorP7
import Derived.Test.YtlpmcohbbffbfaaDoorP14
namespace Go.Proofs.YtlpmcohbbffbfaaDoor
open Go.ChangeShapes Go.WideShapes Go.ChangeAt Go.RowKit Mem
theorem octs_at {w : World} {S : Nat → Prop} {l : List UInt8} {A : Option Addr} (h : RowD w S 1 (l.map u8D) A) {i : Nat} (hi : i < l.length) : ∃ g off, A = some ⟨g, off, none⟩ ∧ S g ∧ w.cell? ⟨g, off + i, none⟩ = some (.int .u8 (((l[i]'hi).toNat : Nat) : Int)) := by
  obtain ⟨g, off, cs, e, hg, hl, hc, hd⟩ := h.at_ (i := i) (by simpa using hi)
  rw [List.getElem_map] at hd
  have hd : cs = _ := lies_i.1 hd
  subst hd
  have := hc 0 (by omega)
  rw [Nat.mul_one, Nat.add_zero] at this
  exact ⟨g, off, e, hg, this⟩
set_option maxRecDepth 100000 in
set_option maxHeartbeats 16000000 in
theorem valueAsks_walk (t u : V) (w : World) (A3 A4 A5 D3 D4 D5 : Option Addr) (c3 c4 c5 d3 d4 d5 : Nat) (ht : Lies w (· < w.heap.size) t.enc [.int .i64 t.k, .int .i64 t.n, .int .u64 t.bt, .slice A3 t.bs.length c3, .slice A4 t.its.length c4, .slice A5 t.ks.length c5]) (hu : Lies w (· < w.heap.size) u.enc [.int .i64 u.k, .int .i64 u.n, .int .u64 u.bt, .slice D3 u.bs.length d3, .slice D4 u.its.length d4, .slice D5 u.ks.length d5]) (hL : LaidN w) :
    Calls Tryd.prog 3 #[.agg #[.int .i64 t.k, .int .i64 t.n, .int .u64 t.bt, .slice A3 t.bs.length c3, .slice A4 t.its.length c4, .slice A5 t.ks.length c5], .agg #[.int .i64 u.k, .int .i64 u.n, .int .u64 u.bt, .slice D3 u.bs.length d3, .slice D4 u.its.length d4, .slice D5 u.ks.length d5]] w fun e w' => e = .returned (.bool true) ∧ Below w.heap.size w w' := by
  have CS := cell_set
  have WK := Lib.hid (fun W (b : Below w.heap.size w W) => works11_any W (hL.below b))
  have GV := Lib.hid (fun W (b : Below w.heap.size w W) => vgreat_any t W A3 A4 A5 c3 c4 c5 (ht.on b))
  have GU := Lib.hid (fun W (b : Below w.heap.size w W) => vgreat_any u W D3 D4 D5 d3 d4 d5 (hu.on b))
  have CP := Lib.hid (fun (h : t.wt ≤ 1000000) W (b : Below w.heap.size w W) => copyV_any t W A3 A4 A5 c3 c4 c5 h (ht.on b))
  have RS : Hid (∀ W, Below w.heap.size w W → ∀ B3 B4 B5 e3 e4 e5, Lies W (· < W.heap.size) t.enc [.int .i64 t.k, .int .i64 t.n, .int .u64 t.bt, .slice B3 t.bs.length e3, .slice B4 t.its.length e4, .slice B5 t.ks.length e5] → Calls Tryd.prog 9 #[.agg #[.int .i64 t.k, .int .i64 t.n, .int .u64 t.bt, .slice B3 t.bs.length e3, .slice B4 t.its.length e4, .slice B5 t.ks.length e5], .agg #[.int .i64 t.k, .int .i64 t.n, .int .u64 t.bt, .slice A3 t.bs.length c3, .slice A4 t.its.length c4, .slice A5 t.ks.length c5]] W (Told true W)) := fun W b B3 B4 B5 e3 e4 e5 h => by
    have := rvsame_any t t W B3 B4 B5 A3 A4 A5 e3 e4 e5 c3 c4 c5 h (ht.on b)
    rw [V.same_yes rfl] at this
    exact this
  have SV := Lib.hid (fun W (b : Below w.heap.size w W) => vSame_any t u W A3 A4 A5 D3 D4 D5 c3 c4 c5 d3 d4 d5 (ht.on b) (hu.on b))
  have RV := Lib.hid (fun W (b : Below w.heap.size w W) => rvsame_any t u W A3 A4 A5 D3 D4 D5 c3 c4 c5 d3 d4 d5 (ht.on b) (hu.on b))
  have DV := Lib.hid (fun (h : t.deep ≤ 1000000) W (b : Below w.heap.size w W) => vdeep_at _ t (Nat.le_refl _) h W A3 A4 A5 c3 c4 c5 (ht.on b))
  have DR := Lib.hid (fun (h : t.deep ≤ 1000000) W (b : Below w.heap.size w W) => rvdeep_at _ t (Nat.le_refl _) h W A3 A4 A5 c3 c4 c5 (ht.on b))
  have HT := Lib.hid ht
  generalize V.same t u = BS at *
  generalize t.deep = dd at *
  have W0 : Below w.heap.size w ((w.alloc (.cells #[.int .i64 t.k, .int .i64 t.n, .int .u64 t.bt, .slice A3 t.bs.length c3, .slice A4 t.its.length c4, .slice A5 t.ks.length c5] 27)).alloc (.cells #[.int .i64 u.k, .int .i64 u.n, .int .u64 u.bt, .slice D3 u.bs.length d3, .slice D4 u.its.length d4, .slice D5 u.ks.length d5] 27)) := ((Below.refl _ _).alloc (Nat.le_refl _) _).alloc (by simp) _
  have Z0 : Hid (((w.alloc (.cells #[.int .i64 t.k, .int .i64 t.n, .int .u64 t.bt, .slice A3 t.bs.length c3, .slice A4 t.its.length c4, .slice A5 t.ks.length c5] 27)).alloc (.cells #[.int .i64 u.k, .int .i64 u.n, .int .u64 u.bt, .slice D3 u.bs.length d3, .slice D4 u.its.length d4, .slice D5 u.ks.length d5] 27)).heap.size = w.heap.size + 2) := by show _ = _; simp
  have P1 := Lib.hid (B6.alloc (B6.newat (w := w) (t := 27) (x0 := .int .i64 t.k) (x1 := .int .i64 t.n) (x2 := .int .u64 t.bt) (x3 := .slice A3 t.bs.length c3) (x4 := .slice A4 t.its.length c4) (x5 := .slice A5 t.ks.length c5) rfl) (.cells #[.int .i64 u.k, .int .i64 u.n, .int .u64 u.bt, .slice D3 u.bs.length d3, .slice D4 u.its.length d4, .slice D5 u.ks.length d5] 27))
  have P2 := Lib.hid (B6.newat (w := w.alloc (.cells #[.int .i64 t.k, .int .i64 t.n, .int .u64 t.bt, .slice A3 t.bs.length c3, .slice A4 t.its.length c4, .slice A5 t.ks.length c5] 27)) (g := w.heap.size + 1) (t := 27) (x0 := .int .i64 u.k) (x1 := .int .i64 u.n) (x2 := .int .u64 u.bt) (x3 := .slice D3 u.bs.length d3) (x4 := .slice D4 u.its.length d4) (x5 := .slice D5 u.ks.length d5) (by simp))
  have W0H := Lib.hid W0
  clear ht hu hL W0
  go_enter Tryd.func3, Tryd.ntmps3
  go_wp2_with fail
  with_reducible refine (GV.out _ W0H.out).mono ?_
  rintro e w2 ⟨gv, rfl, hgv, b2⟩
  rw [Z0.out] at b2
  have z2 := b2.size
  rw [Z0.out] at z2
  have bw2 : Below w.heap.size w w2 := W0H.out.trans (b2.mono (by omega))
  have Q1 := Lib.hid (B6.below P1.out b2 (by omega))
  have Q2 := Lib.hid (B6.below P2.out b2 (by omega))
  obtain ⟨_, _, _, _, _, _, _, _, _, _, _, _⟩ := B6.facts Q1.out
  obtain ⟨_, _, _, _, _, _, _, _, _, _, _, _⟩ := B6.facts Q2.out
  have HGV := Lib.hid hgv
  clear hgv P1 P2 W0H Z0 b2
  cases gv with
  | true =>
    clear GV GU CP RS SV RV DV DR HT
    go_wp2_with fail
    with_reducible refine (WK.out _ bw2).mono ?_
    rintro e w3 ⟨rfl, b3⟩
    go_wp2_with fail
    go_ret
    exact ⟨rfl, bw2.trans (b3.mono bw2.size)⟩
  | false =>
  obtain ⟨hwt, hdp⟩ := HGV.out (by first | rfl | trivial)
  have CP := Lib.hid (CP.out (by omega))
  have DV := Lib.hid (DV.out (by omega))
  have DR := Lib.hid (DR.out (by omega))
  go_wp2_with fail
  with_reducible refine (GU.out _ bw2).mono ?_
  rintro e w3 ⟨gu, rfl, _, b3⟩
  have z3 := b3.size
  have bw3 : Below w.heap.size w w3 := bw2.trans (b3.mono (by omega))
  have R1 := Lib.hid (B6.below Q1.out b3 (by omega))
  have R2 := Lib.hid (B6.below Q2.out b3 (by omega))
  obtain ⟨_, _, _, _, _, _, _, _, _, _, _, _⟩ := B6.facts R1.out
  obtain ⟨_, _, _, _, _, _, _, _, _, _, _, _⟩ := B6.facts R2.out
  clear Q1 Q2 b3 GV GU HGV
  cases gu with
  | true =>
    clear CP RS SV RV DV DR HT
    go_wp2_with fail
    with_reducible refine (WK.out _ bw3).mono ?_
    rintro e w4 ⟨rfl, b4⟩
    go_wp2_with fail
    go_ret
    exact ⟨rfl, bw3.trans (b4.mono bw3.size)⟩
  | false =>
  go_wp2_with fail
  with_reducible refine (CP.out _ bw3).mono ?_
  rintro e w4 ⟨B3, e3, B4, e4, B5, e5, rfl, nd, b4⟩
  obtain ⟨S1, hS1, hl1, hf1⟩ := nd
  have z4 := b4.size
  have bw4 : Below w.heap.size w w4 := bw3.trans (b4.mono (by omega))
  have T1 := Lib.hid ((B6.below R1.out b4 (by omega)).alloc (.cells #[.int .i64 t.k, .int .i64 t.n, .int .u64 t.bt, .slice B3 t.bs.length e3, .slice B4 t.its.length e4, .slice B5 t.ks.length e5] 27))
  have T2 := Lib.hid ((B6.below R2.out b4 (by omega)).alloc (.cells #[.int .i64 t.k, .int .i64 t.n, .int .u64 t.bt, .slice B3 t.bs.length e3, .slice B4 t.its.length e4, .slice B5 t.ks.length e5] 27))
  have T3 := Lib.hid (B6.newat (w := w4) (g := w4.heap.size) (t := 27) (x0 := .int .i64 t.k) (x1 := .int .i64 t.n) (x2 := .int .u64 t.bt) (x3 := .slice B3 t.bs.length e3) (x4 := .slice B4 t.its.length e4) (x5 := .slice B5 t.ks.length e5) rfl)
  have bX : Below w.heap.size w (w4.alloc (.cells #[.int .i64 t.k, .int .i64 t.n, .int .u64 t.bt, .slice B3 t.bs.length e3, .slice B4 t.its.length e4, .slice B5 t.ks.length e5] 27)) := bw4.alloc (by omega) _
  have zX : (w4.alloc (.cells #[.int .i64 t.k, .int .i64 t.n, .int .u64 t.bt, .slice B3 t.bs.length e3, .slice B4 t.its.length e4, .slice B5 t.ks.length e5] 27)).heap.size = w4.heap.size + 1 := by simp
  have BX := Lib.hid bX; have ZX := Lib.hid zX
  have HL1 := Lib.hid (hl1.keep (w' := w4.alloc (.cells #[.int .i64 t.k, .int .i64 t.n, .int .u64 t.bt, .slice B3 t.bs.length e3, .slice B4 t.its.length e4, .slice B5 t.ks.length e5] 27)) (fun p hp => World.cell?_alloc_lt w4 _ p (hS1 _ hp).2) fun _ h => h)
  have HF1 : Hid (∀ p : Addr, S1 p.block → (w4.alloc (.cells #[.int .i64 t.k, .int .i64 t.n, .int .u64 t.bt, .slice B3 t.bs.length e3, .slice B4 t.its.length e4, .slice B5 t.ks.length e5] 27)).frozen? p = false) := fun p hp => ((Below.refl w4.heap.size w4).alloc (Nat.le_refl _) (.cells #[.int .i64 t.k, .int .i64 t.n, .int .u64 t.bt, .slice B3 t.bs.length e3, .slice B4 t.its.length e4, .slice B5 t.ks.length e5] 27)).frozen (hS1 _ hp).2 |>.trans (hf1 p hp)
  have HS1 : Hid (∀ k, S1 k → w.heap.size + 2 ≤ k ∧ k < w4.heap.size) := fun k h => by have := hS1 k h; omega
  have g4 : Hid (w.heap.size + 2 ≤ w4.heap.size) := by show _ ≤ _; omega
  obtain ⟨gc, hgc⟩ : ∃ g, g = w4.heap.size := ⟨_, rfl⟩
  obtain ⟨X, hX⟩ : ∃ X, X = w4.alloc (.cells #[.int .i64 t.k, .int .i64 t.n, .int .u64 t.bt, .slice B3 t.bs.length e3, .slice B4 t.its.length e4, .slice B5 t.ks.length e5] 27) := ⟨_, rfl⟩
  rw [← hX] at T1 T2 T3 BX ZX HL1 HF1
  rw [← hgc] at T3 ZX HS1 g4
  have qB : (BS != BS) = false := by cases BS <;> rfl
  have qD : ((dd : Int) != (dd : Int)) = false := by rw [bne_eq_false_iff_eq]
  clear R1 R2 hl1 hf1 hS1 bX zX b4 z2 z3 z4
  go_wp2_with fail
  rw [← hX, ← hgc]
  have HGC := Lib.hid hgc; have HX := Lib.hid hX
  clear hX hgc
  have bX0 : Below X.heap.size X X := Below.refl _ _
  have bX1 : Below X.heap.size X X.drew := (Below.refl _ _).drew
  have SVX := Lib.hid (fun U (b : Below X.heap.size X U) => SV.out U (BX.out.trans (b.mono BX.out.size)))
  have RVX := Lib.hid (fun U (b : Below X.heap.size X U) => RV.out U (BX.out.trans (b.mono BX.out.size)))
  have DVX := Lib.hid (fun U (b : Below X.heap.size X U) => DV.out U (BX.out.trans (b.mono BX.out.size)))
  have DRX := Lib.hid (fun U (b : Below X.heap.size X U) => DR.out U (BX.out.trans (b.mono BX.out.size)))
  have RCX := Lib.hid (fun U (b : Below X.heap.size X U) => RS.out U (BX.out.trans (b.mono BX.out.size)) B3 B4 B5 e3 e4 e5 (HL1.out.keep (w' := U) (S' := (· < U.heap.size)) (fun p hp => b.cell (by have := HS1.out _ hp; have := ZX.out; omega)) fun k hk => by have := HS1.out _ hk; have := ZX.out; have := b.size; omega))
  have STH : Hid (∀ U, Below X.heap.size X U → U.cell? ⟨w.heap.size, 0, none⟩ = some (.int .i64 t.k) ∧ U.cell? ⟨w.heap.size, 1, none⟩ = some (.int .i64 t.n) ∧ U.cell? ⟨w.heap.size, 2, none⟩ = some (.int .u64 t.bt) ∧ U.cell? ⟨w.heap.size, 3, none⟩ = some (.slice A3 t.bs.length c3) ∧ U.cell? ⟨w.heap.size, 4, none⟩ = some (.slice A4 t.its.length c4) ∧ U.cell? ⟨w.heap.size, 5, none⟩ = some (.slice A5 t.ks.length c5) ∧ U.cell? ⟨w.heap.size + 1, 0, none⟩ = some (.int .i64 u.k) ∧ U.cell? ⟨w.heap.size + 1, 1, none⟩ = some (.int .i64 u.n) ∧ U.cell? ⟨w.heap.size + 1, 2, none⟩ = some (.int .u64 u.bt) ∧ U.cell? ⟨w.heap.size + 1, 3, none⟩ = some (.slice D3 u.bs.length d3) ∧ U.cell? ⟨w.heap.size + 1, 4, none⟩ = some (.slice D4 u.its.length d4) ∧ U.cell? ⟨w.heap.size + 1, 5, none⟩ = some (.slice D5 u.ks.length d5) ∧ U.cell? ⟨gc, 0, none⟩ = some (.int .i64 t.k) ∧ U.cell? ⟨gc, 1, none⟩ = some (.int .i64 t.n) ∧ U.cell? ⟨gc, 2, none⟩ = some (.int .u64 t.bt) ∧ U.cell? ⟨gc, 3, none⟩ = some (.slice B3 t.bs.length e3) ∧ U.cell? ⟨gc, 4, none⟩ = some (.slice B4 t.its.length e4) ∧ U.cell? ⟨gc, 5, none⟩ = some (.slice B5 t.ks.length e5)) := fun U b => by
    have h1 := ZX.out
    have h2 := g4.out
    obtain ⟨a0, a1, a2, a3, a4, a5, _⟩ := B6.facts (B6.below T1.out b (by omega))
    obtain ⟨f0, f1, f2, f3, f4, f5, _⟩ := B6.facts (B6.below T2.out b (by omega))
    obtain ⟨m0, m1, m2, m3, m4, m5, _⟩ := B6.facts (B6.below T3.out b (by omega))
    exact ⟨a0, a1, a2, a3, a4, a5, f0, f1, f2, f3, f4, f5, m0, m1, m2, m3, m4, m5⟩
  unfold Told at SVX RVX RCX
  unfold Num_ at DVX DRX
  go_region_held_law (fun U => U.cell? ⟨w.heap.size, 0, none⟩ = some (.int .i64 t.k) ∧ U.cell? ⟨w.heap.size, 1, none⟩ = some (.int .i64 t.n) ∧ U.cell? ⟨w.heap.size, 2, none⟩ = some (.int .u64 t.bt) ∧ U.cell? ⟨w.heap.size, 3, none⟩ = some (.slice A3 t.bs.length c3) ∧ U.cell? ⟨w.heap.size, 4, none⟩ = some (.slice A4 t.its.length c4) ∧ U.cell? ⟨w.heap.size, 5, none⟩ = some (.slice A5 t.ks.length c5) ∧ U.cell? ⟨w.heap.size + 1, 0, none⟩ = some (.int .i64 u.k) ∧ U.cell? ⟨w.heap.size + 1, 1, none⟩ = some (.int .i64 u.n) ∧ U.cell? ⟨w.heap.size + 1, 2, none⟩ = some (.int .u64 u.bt) ∧ U.cell? ⟨w.heap.size + 1, 3, none⟩ = some (.slice D3 u.bs.length d3) ∧ U.cell? ⟨w.heap.size + 1, 4, none⟩ = some (.slice D4 u.its.length d4) ∧ U.cell? ⟨w.heap.size + 1, 5, none⟩ = some (.slice D5 u.ks.length d5) ∧ U.cell? ⟨gc, 0, none⟩ = some (.int .i64 t.k) ∧ U.cell? ⟨gc, 1, none⟩ = some (.int .i64 t.n) ∧ U.cell? ⟨gc, 2, none⟩ = some (.int .u64 t.bt) ∧ U.cell? ⟨gc, 3, none⟩ = some (.slice B3 t.bs.length e3) ∧ U.cell? ⟨gc, 4, none⟩ = some (.slice B4 t.its.length e4) ∧ U.cell? ⟨gc, 5, none⟩ = some (.slice B5 t.ks.length e5)) (exact STH.out _ (by assumption)) (first
    | (go_at_call 8; with_reducible refine (SVX.out _ (by assumption)).mono ?_; rintro e U ⟨rfl, bu⟩; have bu2 := Below.next (by assumption) bu)
    | (go_at_call 9; with_reducible refine (RVX.out _ (by assumption)).mono ?_; rintro e U ⟨rfl, bu⟩; have bu2 := Below.next (by assumption) bu)
    | (go_at_call 9; with_reducible refine (RCX.out _ (by assumption)).mono ?_; rintro e U ⟨rfl, bu⟩; have bu2 := Below.next (by assumption) bu)
    | (go_at_call 10; with_reducible refine (DVX.out _ (by assumption)).mono ?_; rintro e U ⟨rfl, bu⟩; have bu2 := Below.next (by assumption) bu)
    | (go_at_call 11; with_reducible refine (DRX.out _ (by assumption)).mono ?_; rintro e U ⟨rfl, bu⟩; have bu2 := Below.next (by assumption) bu))
  clear SVX RVX DVX DRX RCX SV RV DV DR bX0 bX1 HX
  obtain ⟨a0, a1, a2, a3, a4, a5, _, _, _, _, _, _, m0, m1, m2, m3, m4, m5⟩ := STH.out U bu2
  have bU : Below w.heap.size w U := BX.out.trans (bu2.mono BX.out.size)
  have zU := bu2.size
  have zX := ZX.out
  have zg := g4.out
  have LC : Hid (Lies U S1 t.enc [.int .i64 t.k, .int .i64 t.n, .int .u64 t.bt, .slice B3 t.bs.length e3, .slice B4 t.its.length e4, .slice B5 t.ks.length e5]) := HL1.out.keep (fun p hp => bu2.cell (by have := HS1.out _ hp; omega)) fun _ h => h
  have FC : Hid (∀ p : Addr, S1 p.block → U.frozen? p = false) := fun p hp => (bu2.frozen (by have := HS1.out _ hp; omega)).trans (HF1.out p hp)
  have BU := Lib.hid bU
  have lU : gc < U.heap.size := by omega
  have lU0 : w.heap.size < U.heap.size := by omega
  clear STH HL1 HF1 T1 T2 T3 BX ZX zU zX
  go_wp2_with fail
  with_reducible refine (CP.out _ BU.out).mono ?_
  rintro e w6 ⟨F3, f3, F4, f4, F5, f5, rfl, nd, b6⟩
  obtain ⟨S2, hS2, hl2, _⟩ := nd
  have z6 := b6.size
  have bw6 : Below w.heap.size w w6 := BU.out.trans (b6.mono BU.out.size)
  have bY : Below U.heap.size U (w6.alloc (.cells #[.int .i64 t.k, .int .i64 t.n, .int .u64 t.bt, .slice F3 t.bs.length f3, .slice F4 t.its.length f4, .slice F5 t.ks.length f5] 27)) := b6.alloc (by omega) _
  have zY : (w6.alloc (.cells #[.int .i64 t.k, .int .i64 t.n, .int .u64 t.bt, .slice F3 t.bs.length f3, .slice F4 t.its.length f4, .slice F5 t.ks.length f5] 27)).heap.size = w6.heap.size + 1 := by simp
  have P6 := Lib.hid (B6.newat (w := w6) (g := w6.heap.size) (t := 27) (x0 := .int .i64 t.k) (x1 := .int .i64 t.n) (x2 := .int .u64 t.bt) (x3 := .slice F3 t.bs.length f3) (x4 := .slice F4 t.its.length f4) (x5 := .slice F5 t.ks.length f5) rfl)
  have LD : Hid (Lies (w6.alloc (.cells #[.int .i64 t.k, .int .i64 t.n, .int .u64 t.bt, .slice F3 t.bs.length f3, .slice F4 t.its.length f4, .slice F5 t.ks.length f5] 27)) S2 t.enc [.int .i64 t.k, .int .i64 t.n, .int .u64 t.bt, .slice F3 t.bs.length f3, .slice F4 t.its.length f4, .slice F5 t.ks.length f5]) := hl2.keep (fun p hp => World.cell?_alloc_lt w6 _ p (hS2 _ hp).2) fun _ h => h
  have LC2 : Hid (Lies (w6.alloc (.cells #[.int .i64 t.k, .int .i64 t.n, .int .u64 t.bt, .slice F3 t.bs.length f3, .slice F4 t.its.length f4, .slice F5 t.ks.length f5] 27)) S1 t.enc [.int .i64 t.k, .int .i64 t.n, .int .u64 t.bt, .slice B3 t.bs.length e3, .slice B4 t.its.length e4, .slice B5 t.ks.length e5]) := LC.out.keep (fun p hp => bY.cell (by have := HS1.out _ hp; omega)) fun _ h => h
  have FC2 : Hid (∀ p : Addr, S1 p.block → (w6.alloc (.cells #[.int .i64 t.k, .int .i64 t.n, .int .u64 t.bt, .slice F3 t.bs.length f3, .slice F4 t.its.length f4, .slice F5 t.ks.length f5] 27)).frozen? p = false) := fun p hp => (bY.frozen (by have := HS1.out _ hp; omega)).trans (FC.out p hp)
  have BY : Hid (Below w.heap.size w (w6.alloc (.cells #[.int .i64 t.k, .int .i64 t.n, .int .u64 t.bt, .slice F3 t.bs.length f3, .slice F4 t.its.length f4, .slice F5 t.ks.length f5] 27))) := BU.out.trans (bY.mono BU.out.size)
  obtain ⟨gd, hgd⟩ : ∃ g, g = w6.heap.size := ⟨_, rfl⟩
  have N12 : Hid (∀ k, S2 k → ¬ S1 k) := fun k h2 h1 => by have := hS2 k h2; have := HS1.out k h1; omega
  have NC : Hid (¬ S1 gc) := fun h => by have := HS1.out _ h; omega
  have ND : Hid (¬ S1 gd) := fun h => by have := HS1.out _ h; omega
  have N0 : Hid (¬ S1 w.heap.size) := fun h => by have := HS1.out _ h; omega
  have Z1 : Hid (∀ k, S1 k → w.heap.size ≤ k) := fun k h => by have := HS1.out _ h; omega
  have Z2 : Hid (∀ k, S2 k → k < (w6.alloc (.cells #[.int .i64 t.k, .int .i64 t.n, .int .u64 t.bt, .slice F3 t.bs.length f3, .slice F4 t.its.length f4, .slice F5 t.ks.length f5] 27)).heap.size) := fun k h => by have := hS2 k h; omega
  have a0 := (bY.cell (p := ⟨w.heap.size, 0, none⟩) lU0).trans a0; have a1 := (bY.cell (p := ⟨w.heap.size, 1, none⟩) lU0).trans a1; have a2 := (bY.cell (p := ⟨w.heap.size, 2, none⟩) lU0).trans a2; have a3 := (bY.cell (p := ⟨w.heap.size, 3, none⟩) lU0).trans a3; have a4 := (bY.cell (p := ⟨w.heap.size, 4, none⟩) lU0).trans a4; have a5 := (bY.cell (p := ⟨w.heap.size, 5, none⟩) lU0).trans a5
  have m3 := (bY.cell (p := ⟨gc, 3, none⟩) lU).trans m3; have m4 := (bY.cell (p := ⟨gc, 4, none⟩) lU).trans m4
  obtain ⟨p0, p1, p2, p3, p4, p5, _⟩ := B6.facts P6.out
  clear bY zY z6 bw6 hl2 hS2 LC FC BU lU lU0 P6 b6 m0 m1 m2 m5 bu2 HT
  have HGD := Lib.hid hgd
  clear hgd
  go_wp2_with fail
  rw [← HGD.out] at p0 p1 p2 p3 p4 p5
  obtain ⟨Y, hY⟩ : ∃ Y, Y = w6.alloc (.cells #[.int .i64 t.k, .int .i64 t.n, .int .u64 t.bt, .slice F3 t.bs.length f3, .slice F4 t.its.length f4, .slice F5 t.ks.length f5] 27) := ⟨_, rfl⟩
  rw [← hY] at LD LC2 FC2 BY Z2 a0 a1 a2 a3 a4 a5 m3 m4 p0 p1 p2 p3 p4 p5
  rw [← hY, ← HGD.out]
  clear hY
  obtain ⟨_, _, _, _, _, _, e, q3, r3, q4, r4, _, _⟩ := V.out.1 LC2.out
  simp only [List.cons.injEq, Value.slice.injEq, true_and, and_true] at e
  obtain ⟨⟨rfl, rfl⟩, ⟨rfl, rfl⟩, rfl, rfl⟩ := e
  have lb3 := q3.2; have lb4 := q4.2
  unfold maxLen at lb3 lb4
  have R3 := Lib.hid r3; have R4 := Lib.hid r4
  obtain ⟨nb, hnb⟩ : ∃ m, m = t.bs.length := ⟨_, rfl⟩
  obtain ⟨ni, hni⟩ : ∃ m, m = t.its.length := ⟨_, rfl⟩
  have HNB := Lib.hid hnb; have HNI := Lib.hid hni
  rw [← hnb, ← hni] at RS LD
  rw [← hnb] at m3 lb3 a3 p3
  rw [← hni] at m4 lb4 a4 p4
  rw [← hnb, ← hni]
  clear hnb hni r3 r4 q3 q4 LC2
  go_loopw [44] (fun x wr => ∃ j : Nat, j ≤ nb ∧ x = .int .i64 (j : Int) ∧ Hid (Sim S1 Y wr)) (fun x _ => nb - (intOf x).toNat)
  case atStart => exact ⟨0, Nat.zero_le _, rfl, Sim.refl⟩
  case round =>
    obtain ⟨j, hj, rfl, SIM⟩ := hrel
    have v3 := (SIM.out.cell (p := ⟨gc, 3, none⟩) NC.out).trans m3
    have v4 := (SIM.out.cell (p := ⟨gc, 4, none⟩) NC.out).trans m4
    by_cases hjn : j < nb
    · have qj : (j : Int) < (nb : Int) := by omega
      obtain ⟨g, off, e, hg, k0⟩ := octs_at R3.out (i := j) (by rw [← HNB.out]; exact hjn)
      obtain rfl := e
      obtain ⟨x0, q0⟩ := SIM.out.int k0
      have f0 := (SIM.out.fro ⟨g, off + j, none⟩).trans (FC2.out ⟨g, off + j, none⟩ hg)
      have SIM2 := Lib.hid (fun x => SIM.out.set_int hg k0 x)
      clear k0 SIM
      go_wp2_with fail
      go_roundw
      case rel => exact ⟨j + 1, by omega, by go_num, SIM2.out _⟩
      case measure => simp [intOf]; omega
    · obtain rfl : j = nb := by omega
      have qj : ¬ (j : Int) < (j : Int) := by omega
      go_wp2_with fail
      go_loopw [58] (fun x wr => ∃ i : Nat, i ≤ ni ∧ x = .int .i64 (i : Int) ∧ Hid (Sim S1 Y wr)) (fun x _ => ni - (intOf x).toNat)
      case atStart => exact ⟨0, Nat.zero_le _, rfl, SIM⟩
      case round =>
        obtain ⟨i, hi, rfl, SJ⟩ := hrel
        have v4 := (SJ.out.cell (p := ⟨gc, 4, none⟩) NC.out).trans m4
        by_cases hin : i < ni
        · have qi : (i : Int) < (ni : Int) := by omega
          obtain ⟨g, off, X3, x3, X4, x4, X5, x5, e, hg, ⟨k0, _, _, k3, _, _⟩, lz⟩ := values_at R4.out (i := i) (by rw [← HNI.out]; exact hin)
          obtain rfl := e
          obtain ⟨_, _, _, _, _, _, e, l3, r3, _, _, _, _⟩ := V.out.1 lz
          simp only [List.cons.injEq, Value.slice.injEq, true_and, and_true] at e
          obtain ⟨⟨rfl, rfl⟩, ⟨rfl, rfl⟩, rfl, rfl⟩ := e
          have ggc : g ≠ gc := fun e => NC.out (e ▸ hg)
          obtain ⟨x0, q0⟩ := SJ.out.int k0
          have q3 := SJ.out.slice k3
          have f0 := (SJ.out.fro ⟨g, off + i * 6, none⟩).trans (FC2.out ⟨g, off + i * 6, none⟩ hg)
          have SJ2 := Lib.hid (SJ.out.set_int hg k0 (-1))
          have K3 := Lib.hid k3; have RJ := Lib.hid r3
          have lj := l3.2
          unfold maxLen at lj
          obtain ⟨bj, hbj⟩ : ∃ l, l = (t.its[i]'(by rw [← HNI.out]; exact hin)).bs := ⟨_, rfl⟩
          rw [← hbj] at q3 RJ lj K3
          obtain ⟨nj, hnj⟩ : ∃ m, m = bj.length := ⟨_, rfl⟩
          have HNJ := Lib.hid hnj
          rw [← hnj] at q3 lj K3
          clear k0 k3 lz l3 r3 hbj hnj SJ
          go_wp2_with fail
          go_loopw [73] (fun x wq => ∃ m : Nat, m ≤ nj ∧ x = .int .i64 (m : Int) ∧ Hid (Sim S1 Y wq)) (fun x _ => nj - (intOf x).toNat)
          case atStart => exact ⟨0, Nat.zero_le _, rfl, SJ2.out⟩
          case round =>
            obtain ⟨m, hm, rfl, SM⟩ := hrel
            by_cases hmn : m < nj
            · have qm : (m : Int) < (nj : Int) := by omega
              have v4 := (SM.out.cell (p := ⟨gc, 4, none⟩) NC.out).trans m4
              have v3 := SM.out.slice K3.out
              obtain ⟨h, o, e, hh, k1⟩ := octs_at RJ.out (i := m) (by rw [← HNJ.out]; exact hmn)
              obtain rfl := e
              obtain ⟨x1, q1⟩ := SM.out.int k1
              have f1 := (SM.out.fro ⟨h, o + m, none⟩).trans (FC2.out ⟨h, o + m, none⟩ hh)
              have SM2 := Lib.hid (fun x => SM.out.set_int hh k1 x)
              clear k1 SM
              go_wp2_with fail
              go_roundw
              case rel => exact ⟨m + 1, by omega, by go_num, SM2.out _⟩
              case measure => simp [intOf]; omega
            · obtain rfl : m = nj := by omega
              have qm : ¬ (m : Int) < (m : Int) := by omega
              go_wp2_with fail
              go_roundw
              case rel => exact ⟨i + 1, by omega, by go_num, SM⟩
              case measure => simp [intOf]; omega
        · obtain rfl : i = ni := by omega
          have qi : ¬ (i : Int) < (i : Int) := by omega
          have a0 := (SJ.out.cell (p := ⟨w.heap.size, 0, none⟩) N0.out).trans a0; have a1 := (SJ.out.cell (p := ⟨w.heap.size, 1, none⟩) N0.out).trans a1; have a2 := (SJ.out.cell (p := ⟨w.heap.size, 2, none⟩) N0.out).trans a2; have a3 := (SJ.out.cell (p := ⟨w.heap.size, 3, none⟩) N0.out).trans a3; have a4 := (SJ.out.cell (p := ⟨w.heap.size, 4, none⟩) N0.out).trans a4; have a5 := (SJ.out.cell (p := ⟨w.heap.size, 5, none⟩) N0.out).trans a5
          have p0 := (SJ.out.cell (p := ⟨gd, 0, none⟩) ND.out).trans p0; have p1 := (SJ.out.cell (p := ⟨gd, 1, none⟩) ND.out).trans p1; have p2 := (SJ.out.cell (p := ⟨gd, 2, none⟩) ND.out).trans p2; have p3 := (SJ.out.cell (p := ⟨gd, 3, none⟩) ND.out).trans p3; have p4 := (SJ.out.cell (p := ⟨gd, 4, none⟩) ND.out).trans p4; have p5 := (SJ.out.cell (p := ⟨gd, 5, none⟩) ND.out).trans p5
          have bwr : Below w.heap.size w wr := BY.out.trans (SJ.out.below Z1.out)
          have RD := Lib.hid (RS.out wr bwr F3 F4 F5 f3 f4 f5 ((SJ.out.lies N12.out LD.out).keep (fun _ _ => rfl) fun k h => by have := Z2.out k h; rw [SJ.out.size]; exact this))
          go_wp2_with fail
          with_reducible refine (RD.out).mono ?_
          rintro e w8 ⟨rfl, b8⟩
          go_wp2_with fail
          with_reducible refine (WK.out _ (bwr.trans (b8.mono bwr.size))).mono ?_
          rintro e w9 ⟨rfl, b9⟩
          go_wp2_with fail
          go_ret
          exact ⟨rfl, (bwr.trans (b8.mono bwr.size)).trans (b9.mono (Nat.le_trans bwr.size b8.size))⟩
end Go.Proofs.YtlpmcohbbffbfaaDoor
