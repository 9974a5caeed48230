/- The laws of layer 6, walked: words with white bytes between them. -/
import Derived.Test.YtbogafecgakgiaaDoorJLawC
import Derived.Test.YtbogafecgakgiaaDoorJNum6
import Derived.Test.YtbogafecgakgiaaDoorApp
namespace Go.Proofs.YtbogafecgakgiaaDoor
open Go.ChangeShapes Go.WideShapes Go.ChangeAt Go.RowKit Mem

theorem alls_bad_out {T : TypeId} {ws : List Jx.Wd} {er : Nat} {w w' : World} {e : Ending} (h : Alls T (ws, er) w e w') :
    ∃ A c, e = .returned (.tuple #[.slice A ws.length c, .int .i64 (er : Int)]) ∧ Below w.heap.size w w' := by
  obtain ⟨A, c, e, _, _, hb⟩ := alls_out rfl h
  exact ⟨A, c, e, hb⟩
/-- Some bytes within others. -/
theorem bys_body {w : World} {B b off : Nat} {l : List UInt8} (h : Bys w B (some ⟨b, off, none⟩) l) (a x : Nat) : Bys w B (some ⟨b, off + a, none⟩) ((l.drop a).take (x - a)) := (h.tail a).front _
/-- Which white byte stands ahead of a word. -/
def wht (n : Int) (i : Nat) : UInt8 := Jx.whites.getD ((IntKind.u64.wrap (IntKind.u64.wrap n + (i : Int)) % 4).toNat) 0
theorem wht_white (n : Int) (i : Nat) : Jx.isW (wht n i).toNat = true := Jx.whites_white _ (by omega)

set_option maxRecDepth 100000 in
set_option maxHeartbeats 4000000 in
theorem jlexWhite_walk (A : Option Addr) (l : List UInt8) (c : Nat) (n : Int) (w : World) (hc : l.length ≤ c) (hb : Bys w w.heap.size A l) (_ : (Lit.int .i64 n).wf = true) (hL : Laid w) :
    Calls Tryd.prog 6 #[.slice A l.length c, .int .i64 n] w fun e w' => e = .returned (.bool true) ∧ Below w.heap.size w w' := by
  have CS := cell_set
  have WK := Lib.hid (works6_any w hL)
  by_cases hbig : 1000 < l.length
  · go_enter Tryd.func6, Tryd.ntmps6
    go_wp2_with fail
    refine WK.out.mono ?_
    rintro e w1 ⟨rfl, b1⟩
    go_wp2_with fail
    go_ret
    exact ⟨rfl, b1⟩
  · have hq : ¬ (1000 : Int) < (l.length : Int) := by omega
    have hp := hL.1
    have AL := Lib.hid (fun W hL' h => jAll_any A c l W hL' h (by omega) hc)
    have hlen := Jx.all_len l
    have herr := Jx.all_err l
    have hof := Jx.all_of l
    obtain ⟨h, hh⟩ : ∃ h, h = wht n := ⟨_, rfl⟩
    have hw : ∀ i, Jx.isW (h i).toNat = true := fun i => by rw [hh]; exact wht_white n i
    obtain ⟨⟨ws, er⟩, hr⟩ : ∃ r, r = Jx.all l 0 := ⟨_, rfl⟩
    rw [← hr] at hlen herr hof AL
    simp only at hlen herr hof
    by_cases he : er = 0
    · subst he
      obtain ⟨vs, hvs, hkey⟩ := Jx.all_wide hw l ws 0 [] hof
      have wl := Jx.wide_len (h := h) ws 0 hof
      obtain ⟨X, hX⟩ : ∃ X, X = Jx.wide h l 0 ws := ⟨_, rfl⟩
      rw [← hX] at hvs wl
      rw [List.nil_append, List.length_nil] at hvs
      obtain ⟨m, hm⟩ : ∃ m, m = ws.length := ⟨_, rfl⟩
      have hm2 : m ≤ 1000 := by rw [hm]; exact Nat.le_trans hlen (by omega)
      have xl : X.length ≤ 2000000 := by
        have : ws.length * (l.length + 1) ≤ 1000 * 1001 := Nat.mul_le_mul (by omega) (by omega)
        omega
      have ONE : Hid (∀ W ∈ ws, ∃ v, Jx.all (Jx.body l W) 0 = ([v], 0) ∧ Jx.key v = Jx.key W) := fun W hW => Jx.all_body (hof W hW)
      have START : Hid ([] ++ Jx.wide h l 0 (ws.drop 0) = X) := by rw [List.drop_zero, List.nil_append]; exact hX.symm
      have HOF := Lib.hid hof; have HM := Lib.hid hm; have HVS := Lib.hid hvs; have HKEY := Lib.hid hkey; have HH := Lib.hid hh
      clear hlen herr hof hr hvs hkey wl hX hm hh hw
      go_enter Tryd.func6, Tryd.ntmps6
      go_wp2_with fail
      refine WK.out.mono ?_
      rintro e w1 ⟨rfl, b1⟩
      have s1 := b1.size
      go_wp2_with fail
      refine (AL.out _ (hL.below b1 hp) ((hb.below b1).more s1)).mono ?_
      intro e w2 h2
      obtain ⟨A2, c2, rfl, hc2, f2, b2⟩ := alls_out HM.out.symm h2
      clear h2
      have b12 := b1.trans (b2.mono s1)
      have s2 := b12.size
      have F2 := Lib.hid f2
      have B12 := Lib.hid b12
      have WBY : Hid (∀ W, Below (w2.heap.size + 1) (w2.alloc (.cells #[.int .u8 32, .int .u8 9, .int .u8 10, .int .u8 13] 5)) W → ∀ k, k < 4 → W.cell? ⟨w2.heap.size, k, none⟩ = some (.int .u8 ((Jx.whites.getD k 0).toNat : Int))) := fun W hW k hk => by
        refine (hW.cell (p := ⟨w2.heap.size, k, none⟩) (Nat.lt_succ_self _)).trans ?_
        rw [(Blk.new w2 _ _).cell]
        obtain rfl | rfl | rfl | rfl : k = 0 ∨ k = 1 ∨ k = 2 ∨ k = 3 := by omega
        all_goals rfl
      have sz2 : (w2.alloc (.cells #[.int .u8 32, .int .u8 9, .int .u8 10, .int .u8 13] 5)).heap.size = w2.heap.size + 1 := by simp
      have SZ2 := Lib.hid sz2
      have W2 : Below w2.heap.size w2 (w2.alloc (.cells #[.int .u8 32, .int .u8 9, .int .u8 10, .int .u8 13] 5)) := (Below.refl _ _).alloc (Nat.le_refl _) _
      clear f2 b1 b2 sz2
      go_wp2_with fail
      go_loopw [8, 34] (fun cv t wr => ∃ (i : Nat) (d : List UInt8), i ≤ m ∧ t = .int .i64 (i : Int) ∧ Own wr (w2.heap.size + 1) 5 cv d ∧ Hid (d ++ Jx.wide h l i (ws.drop i) = X) ∧ Below (w2.heap.size + 1) (w2.alloc (.cells #[.int .u8 32, .int .u8 9, .int .u8 10, .int .u8 13] 5)) wr) (fun _ t _ => m - (intOf t).toNat)
      case atStart => exact ⟨0, [], Nat.zero_le _, rfl, Own.none_ _ _ _, START, Below.refl _ _⟩
      case round =>
        obtain ⟨i, d, hi, rfl, ow, HD, bl⟩ := hrel
        have gsz := bl.size
        rw [SZ2.out] at gsz
        have bw2 := W2.trans (bl.mono (Nat.le_succ _))
        have bw := B12.out.trans (bw2.mono s2)
        have Lr := hL.below bw hp
        have yr := hb.below bw
        have hww : w.heap.size ≤ wr.heap.size := by omega
        have hap := ow.apart (g := wr.heap.size) (Nat.le_refl _)
        have F2r := F2.out.below bw2
        have dl : d.length ≤ 2000000 := by have := congrArg List.length HD.out; rw [List.length_append] at this; omega
        by_cases him : i < m
        · have hiw : i < ws.length := by rw [← HM.out]; exact him
          obtain ⟨b5, o5, e5, hb5, x0, x1, x2, x3, x4⟩ := fl_word F2r hiw
          have wof := HOF.out _ (List.getElem_mem hiw)
          obtain ⟨v, hv, hk⟩ := ONE.out _ (List.getElem_mem hiw)
          have go := fun hX => Jx.wide_go (h := h) (l := l) (d := d) hiw (X := X) hX
          have go1 := go HD.out
          generalize ws[i]'hiw = W at *
          subst e5
          obtain ⟨K, nn, T, a, x⟩ := W
          obtain ⟨K', nn', T', a', x'⟩ := v
          simp only [Jx.key, Prod.mk.injEq] at hk
          obtain ⟨rfl, rfl, rfl⟩ := hk
          have ax : a < x := wof.1
          have xl2 : x ≤ l.length := wof.2.1
          have GO := Lib.hid go1
          obtain ⟨b, off, rfl, hB, _⟩ := bys_cell hb (k := a) (by omega)
          have ybody := bys_body yr a x
          have bl1 : (Jx.body l ⟨K', nn', T', a, x⟩).length = x - a := by simp only [Jx.body]; rw [List.length_take, List.length_drop]; omega
          have yb : Bys wr w.heap.size (some ⟨b, off + a, none⟩) (Jx.body l ⟨K', nn', T', a, x⟩) := ybody
          generalize Jx.body l ⟨K', nn', T', a, x⟩ = BD at *
          have ALL1 : Hid (∀ n0 c0, n0 = x - a → n0 ≤ c0 → Calls Tryd.prog 10 #[.slice (some ⟨b, off + a, none⟩) n0 c0] (wr.alloc (.cells #[.int .i64 (K' : Int), .int .i64 nn', .string ⟨T'.toArray⟩, .int .i64 (a : Int), .int .i64 (x : Int)] 25)) (Alls 25 ([⟨K', nn', T', a', x'⟩], 0) (wr.alloc (.cells #[.int .i64 (K' : Int), .int .i64 nn', .string ⟨T'.toArray⟩, .int .i64 (a : Int), .int .i64 (x : Int)] 25)))) := fun n0 c0 hn hc0 => by
            have := jAll_any (some ⟨b, off + a, none⟩) c0 BD (wr.alloc (.cells #[.int .i64 (K' : Int), .int .i64 nn', .string ⟨T'.toArray⟩, .int .i64 (a : Int), .int .i64 (x : Int)] 25)) (Lr.alloc _) ((yb.alloc hww _).more (by simp; omega)) (by omega) (by omega)
            rw [bl1, ← hn, hv] at this
            exact this
          have YB := Lib.hid yb
          have nca : c ≠ a := by omega
          have q1 : ¬ (a : Int) < 0 := by omega
          have q2 : ¬ (x : Int) < (a : Int) := by omega
          have q3 : ¬ (l.length : Int) < (x : Int) := by omega
          clear go go1 hv wof ybody yb AL WK START HOF ONE HD
          go_wp2_with fail
          with_reducible refine (ALL1.out _ _ (by omega) (by omega)).mono ?_
          intro e w6 h6
          obtain ⟨A6, c6, rfl, hc6, f6, b6⟩ := alls_out (n := 1) rfl h6
          clear h6
          have hOwn := Nat.lt_of_lt_of_le (n := wr.heap.size) (by first | exact Nat.le_refl _ | assumption | (simp; done) | (simp; omega) | omega) (Below.size b6)
          have hOwn1 := Nat.ne_of_gt hOwn
          have hOwn2 := Nat.ne_of_lt hOwn
          have hOwn := (Below.cell b6 (p := ⟨wr.heap.size, 0, none⟩) (by first | exact Nat.le_refl _ | assumption | (simp; done) | (simp; omega) | omega)).trans (by go_simp; rfl)
          have hOwn := (Below.cell b6 (p := ⟨wr.heap.size, 1, none⟩) (by first | exact Nat.le_refl _ | assumption | (simp; done) | (simp; omega) | omega)).trans (by go_simp; rfl)
          have hOwn := (Below.cell b6 (p := ⟨wr.heap.size, 2, none⟩) (by first | exact Nat.le_refl _ | assumption | (simp; done) | (simp; omega) | omega)).trans (by go_simp; rfl)
          have hOwn := (Below.cell b6 (p := ⟨wr.heap.size, 3, none⟩) (by first | exact Nat.le_refl _ | assumption | (simp; done) | (simp; omega) | omega)).trans (by go_simp; rfl)
          have hOwn := (Below.cell b6 (p := ⟨wr.heap.size, 4, none⟩) (by first | exact Nat.le_refl _ | assumption | (simp; done) | (simp; omega) | omega)).trans (by go_simp; rfl)
          have hOwn := (Below.frozen b6 (p := ⟨wr.heap.size, 0, none⟩) (by first | exact Nat.le_refl _ | assumption | (simp; done) | (simp; omega) | omega)).trans (by go_simp; rfl)
          have hOwn := (Below.frozen b6 (p := ⟨wr.heap.size, 1, none⟩) (by first | exact Nat.le_refl _ | assumption | (simp; done) | (simp; omega) | omega)).trans (by go_simp; rfl)
          have hOwn := (Below.frozen b6 (p := ⟨wr.heap.size, 2, none⟩) (by first | exact Nat.le_refl _ | assumption | (simp; done) | (simp; omega) | omega)).trans (by go_simp; rfl)
          have hOwn := (Below.frozen b6 (p := ⟨wr.heap.size, 3, none⟩) (by first | exact Nat.le_refl _ | assumption | (simp; done) | (simp; omega) | omega)).trans (by go_simp; rfl)
          have hOwn := (Below.frozen b6 (p := ⟨wr.heap.size, 4, none⟩) (by first | exact Nat.le_refl _ | assumption | (simp; done) | (simp; omega) | omega)).trans (by go_simp; rfl)
          obtain ⟨b7, o7, rfl, hb7, y0, y1, y2, y3, y4⟩ := fl_word (d := [⟨K', nn', T', a', x'⟩]) f6 (i := 0) (by simp)
          simp only [List.getElem_cons_zero, Nat.zero_mul, Nat.add_zero] at y0 y1 y2 y3 y4
          have bl6 := (bl.alloc (by omega) (.cells #[.int .i64 (K' : Int), .int .i64 nn', .string ⟨T'.toArray⟩, .int .i64 (a : Int), .int .i64 (x : Int)] 25)).trans (b6.mono (by simp; omega))
          have s6 : wr.heap.size + 1 ≤ w6.heap.size := by have := b6.size; simpa using this
          have y6 := YB.out.below ((((Below.refl _ _).alloc (Nat.le_refl _) _).trans (b6.mono (by simp))).mono hww)
          have ow6 := (ow.alloc (.cells #[.int .i64 (K' : Int), .int .i64 nn', .string ⟨T'.toArray⟩, .int .i64 (a : Int), .int .i64 (x : Int)] 25)).below b6
          clear f6 ALL1 YB x0 x1 x2 x3 x4
          go_wp2_with fail
          go_quiet (fail)
          go_wp2_with fail
          obtain ⟨w7, e7⟩ : ∃ w7, w7 = w6.drewN nq := ⟨_, rfl⟩
          have z3 : w7.cell? ⟨wr.heap.size, 3, none⟩ = some (.int .i64 (a : Int)) := by rw [e7]; go_simp
          have z4 : w7.cell? ⟨wr.heap.size, 4, none⟩ = some (.int .i64 (x : Int)) := by rw [e7]; go_simp
          have y7 : Bys w7 w.heap.size (some ⟨b, off + a, none⟩) BD := e7 ▸ y6.drewN nq
          have ow7 := e7 ▸ ow6.drewN nq
          have bl7 := e7 ▸ bel_drewN bl6 nq
          have s7 : wr.heap.size + 1 ≤ w7.heap.size := by rw [e7]; exact s6
          rw [← e7]
          obtain ⟨U, hU⟩ : ∃ U : Nat, IntKind.u64.wrap n = (U : Int) := ⟨(IntKind.u64.wrap n).toNat, by have : 0 ≤ IntKind.u64.wrap n := (by simp only [IntKind.wrap, IntKind.bits, IntKind.signed]; simp; omega); omega⟩
          obtain ⟨Z, hZ⟩ : ∃ Z : Nat, IntKind.u64.wrap ((U : Int) + (i : Int)) = (Z : Int) := ⟨(IntKind.u64.wrap ((U : Int) + (i : Int))).toNat, by have : 0 ≤ IntKind.u64.wrap ((U : Int) + (i : Int)) := (by simp only [IntKind.wrap, IntKind.bits, IntKind.signed]; simp; omega); omega⟩
          have hI : IntKind.u64.wrap (i : Int) = (i : Int) := by simp only [IntKind.wrap, IntKind.bits, IntKind.signed]; simp; omega
          obtain ⟨Q, hQ⟩ : ∃ Q : Nat, Q = Z % 4 := ⟨_, rfl⟩
          have q4 : Q < 4 := by omega
          have q4i : (Q : Int) < 4 := by omega
          have hM1 : (Z : Int) % 4 = (Q : Int) := by omega
          have hM2 : ((Z : Int)).tmod 4 = (Q : Int) := by rw [Int.tmod_eq_emod_of_nonneg (Int.natCast_nonneg _)]; exact hM1
          have hM3 : IntKind.u64.wrap (Q : Int) = (Q : Int) := by simp only [IntKind.wrap, IntKind.bits, IntKind.signed]; simp; omega
          have hHI : h i = Jx.whites.getD Q 0 := by
            rw [HH.out]; unfold wht; rw [hU, hZ, hM1, Int.toNat_natCast]
          have cw := WBY.out _ bl7 Q q4
          rw [← hHI] at cw
          have GO2 := Lib.hid GO.out
          obtain ⟨HI, hHI2⟩ : ∃ HI, HI = h i := ⟨_, rfl⟩
          rw [← hHI2] at cw GO2
          have BL1 := Lib.hid bl1
          have hbd : BD.length ≤ 1000 := by omega
          have lt7 : wr.heap.size < w7.heap.size := by omega
          have A3 := (World.cell?_alloc_lt w7 (.cells #[.int .u8 (HI.toNat : Int)] 5) ⟨wr.heap.size, 3, none⟩ lt7).trans z3
          have A4 := (World.cell?_alloc_lt w7 (.cells #[.int .u8 (HI.toNat : Int)] 5) ⟨wr.heap.size, 4, none⟩ lt7).trans z4
          have A5 := (World.cell?_alloc_lt w7 (.cells #[.int .u8 (HI.toNat : Int)] 5) ⟨w2.heap.size, Q, none⟩ (by show w2.heap.size < w7.heap.size; omega)).trans cw
          clear GO hHI hHI2 hQ bl1 e7 y0 y1 y2 y3 y4 hOwn hOwn1 hOwn2 b6 y6 ow6 bl6 s6
          go_region_held_law (fun w' => w'.cell? ⟨wr.heap.size, 3, none⟩ = some (.int .i64 (a : Int)) ∧ w'.cell? ⟨wr.heap.size, 4, none⟩ = some (.int .i64 (x : Int)) ∧ w'.cell? ⟨w2.heap.size, Q, none⟩ = some (.int .u8 (HI.toNat : Int)))
            (exact ⟨(by first | with_reducible assumption | (go_simp; done)), (by first | with_reducible assumption | (go_simp; done)), (by first | with_reducible assumption | (go_simp; done))⟩)
            (first
            | (refine step_appdg _ byteT (by rfl) (some 118) rfl (.tmp 111) (.tmp 117) rfl (w2.heap.size + 1) _ (d ++ [HI]) rfl o3 _ (some ⟨b, off + a, none⟩) (c - a) BD (by rw [BL1.out]; rfl) Y3 (by simp; omega) (by have := h3.size; omega) ?_; intro v4 w4 o4 h4 g4 _; have j3 := g4.cell (a := ⟨wr.heap.size, 3, none⟩) k3 hap3; have j4 := g4.cell (a := ⟨wr.heap.size, 4, none⟩) k4 hap3; have j5 := (h4.cell (p := ⟨w2.heap.size, Q, none⟩) (Nat.lt_succ_self _)).trans k5)
            | (refine step_appLg _ byteT (by rfl) (some 111) rfl (.tmp 100) (.tmp 110) rfl (w2.heap.size + 1) _ d rfl ow7 1 _ [HI] rfl 1 rfl rfl (by simp; omega) (by omega) ?_; intro v3 w3 o3 h3 g3 ob3; have hap3 : some wr.heap.size ≠ v3.ownBlock := (by rcases ob3 with e | e <;> rw [e]; (· exact hap); (· intro hh; simp at hh; omega)); have k3 := g3.cell (a := ⟨wr.heap.size, 3, none⟩) A3 hap; have k4 := g3.cell (a := ⟨wr.heap.size, 4, none⟩) A4 hap; have k5 := (h3.cell (p := ⟨w2.heap.size, Q, none⟩) (Nat.lt_succ_self _)).trans cw; have Y3 := y7.below (h3.mono (by omega))))
          all_goals
            go_wp2_with fail
            go_roundw
            case rel => exact ⟨i + 1, (d ++ [HI]) ++ BD, by omega, by go_num, o4, GO2, bl7.trans (h3.trans h4)⟩
            case measure => simp [intOf]; omega
        · obtain rfl : i = m := by omega
          have hd := HD.out
          rw [HM.out] at hd
          have DX := Lib.hid (Jx.wide_done hd)
          have vl : vs.length = i := by
            have := congrArg List.length HKEY.out
            rw [List.length_map, List.length_map] at this
            rw [this, HM.out]
          have VL := Lib.hid vl
          have ALX : Hid (∀ A' c' W, Laid W → Bys W W.heap.size A' X → X.length ≤ c' → Calls Tryd.prog 10 #[.slice A' X.length c'] W (Alls 25 (vs, 0) W)) := fun A' c' W h1 h2 h3 => by
            have := jAll_any A' c' X W h1 h2 (by omega) h3
            rw [HVS.out] at this
            exact this
          clear hd vl AL WK START HOF ONE HD him hi F2r yr
          go_wp2_with (at_builtin; refine wpList_appL _ byteT rfl (.tmp 121) (.tmp 122) rfl (w2.heap.size + 1) _ d rfl ow 1 _ [32] rfl 1 rfl rfl (by simp; omega) (by omega) ?_; intro v3 w3 o3 b3; rw [DX.out] at o3; obtain ⟨A3, c3, rfl, y3, hc3⟩ := o3.room)
          have bl3 := bl.trans b3
          have bw3 := W2.trans (bl3.mono (Nat.le_succ _))
          with_reducible refine (ALX.out A3 c3 w3 (hL.below (B12.out.trans (bw3.mono s2)) hp) y3 hc3).mono ?_
          intro e w8 h8
          obtain ⟨A8, c8, rfl, hc8, f8, b8⟩ := alls_out (n := i) VL.out h8
          clear h8 o3
          have bw8 := bw3.trans (b8.mono (by have := bw3.size; omega))
          have f2 := F2.out.below bw8
          have F8 := Lib.hid f8
          have F2' := Lib.hid f2
          have B18 := B12.out.trans (bw8.mono s2)
          clear f8 f2 F2 bl bw bw2 bl3 bw3 b8 y3 ALX ow DX WBY
          go_wp2_with fail
          go_loopw [138] (fun t wr => ∃ k : Nat, k ≤ i ∧ t = .int .i64 (k : Int) ∧ Drewn2 w8 wr) (fun t _ => i - (intOf t).toNat)
          case atStart => exact ⟨0, Nat.zero_le _, rfl, ⟨0, rfl⟩⟩
          case round =>
            obtain ⟨k, hk, rfl, ⟨nd, rfl⟩⟩ := hrel
            by_cases hki : k < i
            · have k1 : k < ws.length := by rw [← HM.out]; exact hki
              have k2 : k < vs.length := by rw [VL.out]; exact hki
              obtain ⟨b5, o5, e5, hb5, x0, x1, x2, x3, x4⟩ := fl_word F2'.out (i := k) k1
              obtain ⟨b6, o6, e6, hb6, y0, y1, y2, y3, y4⟩ := fl_word F8.out (i := k) k2
              have mk := Jx.map_at HKEY.out k1 k2
              generalize ws[k]'k1 = W at *
              generalize vs[k]'k2 = V at *
              subst e5 e6
              obtain ⟨K, nn, T, a, x⟩ := W
              obtain ⟨K', nn', T', a', x'⟩ := V
              obtain ⟨rfl, rfl, rfl⟩ := mk
              go_wp2_with fail
              go_quiet (fail)
              go_wp2_with fail
              go_roundw
              case rel => exact ⟨k + 1, by omega, by go_num, ⟨_, rfl⟩⟩
              case measure => simp [intOf]; omega
            · obtain rfl : k = i := by omega
              go_wp2_with fail
              go_ret
              exact ⟨rfl, bel_drewN B18 nd⟩
    · have hz : ws = [] := herr he
      subst hz
      have qe : ((er : Int) != 0) = true := by rw [bne_iff_ne]; omega
      clear hlen herr hof hr he
      go_enter Tryd.func6, Tryd.ntmps6
      go_wp2_with fail
      refine WK.out.mono ?_
      rintro e w1 ⟨rfl, b1⟩
      have s1 := b1.size
      go_wp2_with fail
      refine (AL.out _ (hL.below b1 hp) ((hb.below b1).more s1)).mono ?_
      intro e w2 h2
      obtain ⟨A2, c2, rfl, b2⟩ := alls_bad_out h2
      go_wp2_with fail
      go_ret
      exact ⟨rfl, b1.trans (b2.mono s1)⟩
end Go.Proofs.YtbogafecgakgiaaDoor
