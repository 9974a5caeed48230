/- Joined by tools/bundle.py: R10B R10C R10W. -/
import Derived.Deep.RegionHeldLaw
import Derived.Test.YtpmgjpchpmkklaaGreatDoorT4
import Derived.Test.YtpmgjpchpmkklaaGreatDoorT7
import Derived.Test.YtpmgjpchpmkklaaGreatDoorT0
set_option maxRecDepth 100000
set_option maxHeartbeats 16000000
namespace Go.Proofs.YtpmgjpchpmkklaaGreatDoor
open Go.ChangeShapes Go.WideShapes Go.ChangeAt Go.RowKit Mem
def nxt : Option Nat → Int
 | none => -1
 | some b => (b : Int)
def Sc.lim (s : Sc) : Prop := s.nodes.length ≤ 100000000 ∧ ∀ i (h : i < s.nodes.length), (s.nodes[i]'h).fs.length ≤ 100000000 ∧ (s.nodes[i]'h).br.length ≤ 100000000
def NumA (z : Int) (w : World) (e : Ending) (w' : World) : Prop := e = .returned (.int .i64 z) ∧ Below w.heap.size w w'
theorem numA_ret {z y : Int} {w w' : World} (h : z = y) (b : Below w.heap.size w w') : NumA z w (.returned (.int .i64 y)) w' := by subst h; exact ⟨rfl, b⟩
def MetC (sc : Sc) (f : Nat) : Prop := ∀ (at_ : Nat) (d : Int), d = 33 - (f : Int) → at_ ≤ 100000000 → ∀ (w : World) (A : Option Addr) (c : Nat), Lies w (· < w.heap.size) sc.enc [.slice A sc.nodes.length c, .int .i64 sc.root] →
 Calls Tryz.prog 52 #[.agg #[.slice A sc.nodes.length c, .int .i64 sc.root], .int .i64 (at_ : Int), .int .i64 d] w (NumA (nxt (met sc f at_)) w)
theorem rmetK_cons (s : Sc) (f : Nat) (k : Int) (r : List Int) (next : Nat) : metK s f (k :: r) next = if k < 0 ∨ (next : Int) < k ∨ (k < (next : Int) ∧ named (s.kind k) = false) then none
 else if k = (next : Int) then (match met s f next with
  | none => none
  | some nx => metK s f r nx)
 else metK s f r next := by
 conv => lhs; unfold metK
 rfl
theorem metK_nil (s : Sc) (f next : Nat) : metK s f [] next = some next := by unfold metK; rfl
theorem met_succ (s : Sc) (f a : Nat) (h : ¬ s.nodes.length ≤ a) : met s (f + 1) a = metK s f (s.kidsAt a) (a + 1) := by
 conv => lhs; unfold met
 rw [if_neg h]
theorem met_past (s : Sc) (f a : Nat) (h : s.nodes.length ≤ a) : met s (f + 1) a = none := by
 unfold met; rw [if_pos h]
theorem met_0 (sc : Sc) (_hl : sc.lim) : MetC sc 0 := by
 intro at_ d hd ha w A c h
 have CS := cell_set
 subst hd
 obtain ⟨n, hn⟩ : ∃ n, n = sc.nodes.length := ⟨_, rfl⟩
 rw [← hn]
 obtain ⟨R, hR⟩ : ∃ R, R = nxt (met sc 0 at_) := ⟨_, rfl⟩
 rw [← hR]
 have Z : Hid (R = -1) := by show _ = _; rw [hR]; unfold met nxt; rfl
 have W1 : Below w.heap.size w (w.alloc (.cells #[.slice A n c, .int .i64 sc.root] 24)) := (Below.refl _ _).alloc (Nat.le_refl _) _
 clear h hn hR
 by_cases q : (n : Int) ≤ (at_ : Int)
 · go_enter Tryz.func52, Tryz.ntmps52
   go_wp2_with fail
   go_ret
   exact numA_ret Z.out W1
 · have q2 : (32 : Int) < 33 - ((0 : Nat) : Int) := by decide
   go_enter Tryz.func52, Tryz.ntmps52
   go_wp2_with fail
   go_ret
   exact numA_ret Z.out W1
theorem met_step (sc : Sc) (hl : sc.lim) (f : Nat) (hf : f < 33) (ih : MetC sc f) : MetC sc (f + 1) := by
 intro at_ d hd ha w A c h
 have CS := cell_set
 obtain ⟨n, hn⟩ : ∃ n, n = sc.nodes.length := ⟨_, rfl⟩
 have HN := Lib.hid hn
 obtain ⟨R, hR⟩ : ∃ R, R = met sc (f + 1) at_ := ⟨_, rfl⟩
 rw [← hR]
 have HS := Lib.hid (fun W (b : Below w.heap.size w W) => (h.below b).more b.size)
 have IH := Lib.hid (fun (a : Nat) (ha : a ≤ 100000000) W (b : Below w.heap.size w W) => ih a (d + 1) (by omega) ha W A c (HS.out W b))
 obtain ⟨_, _, e, la, ra⟩ := Sc.out.1 h
 simp only [List.cons.injEq, Value.slice.injEq, true_and, and_true] at e
 obtain ⟨rfl, rfl⟩ := e
 have RA := Lib.hid ra
 have HL := Lib.hid hl
 have n8 : n ≤ 100000000 := by rw [hn]; exact hl.1
 have d1 : d ≤ 32 := by omega
 have d2 : 0 ≤ d := by omega
 rw [← hn] at IH ⊢
 have W1 : Below w.heap.size w (w.alloc (.cells #[.slice A n c, .int .i64 sc.root] 24)) := (Below.refl _ _).alloc (Nat.le_refl _) _
 have gz : (w.alloc (.cells #[.slice A n c, .int .i64 sc.root] 24)).heap.size = w.heap.size + 1 := by simp
 have GZ := Lib.hid gz
 have BK := Lib.hid (Blk.new w 24 #[.slice A n c, .int .i64 sc.root])
 have HD := Lib.hid hd
 by_cases q : (n : Int) ≤ (at_ : Int)
 · have Z : Hid (R = none) := hR.trans (met_past sc f at_ (by omega))
   clear h hn hR la ra hl HS IH hd ih
   go_enter Tryz.func52, Tryz.ntmps52
   go_wp2_with fail
   go_ret
   exact numA_ret (by rw [Z.out]; rfl) W1
 · have hat : at_ < n := by omega
   have q2 : ¬ (32 : Int) < d := by omega
   have qa : (at_ : Int) < (n : Int) := by omega
   obtain ⟨g, off, A2, c2, A3, c3, A4, c4, A9, c9, e, hg, ⟨k0, k1, k2, k3, k4, k5, k6, k7, k8, k9⟩, lz⟩ := nodes_at RA.out (i := at_) (by rw [← hn]; exact hat)
   obtain ⟨T, hT⟩ : ∃ T, T = sc.nodes[at_]'(by rw [← hn]; exact hat) := ⟨_, rfl⟩
   rw [← hT] at k0 k1 k2 k3 k4 k5 k6 k7 k8 k9 lz
   have KD := Lib.hid (fun W (b : Below w.heap.size w W) => rKids_any T (by rw [hT]; exact (hl.2 _ _).1) (by rw [hT]; exact (hl.2 _ _).2) W A2 A3 A4 A9 c2 c3 c4 c9 ((lz.below b).more b.size))
   have KA : sc.kidsAt at_ = T.kids := by unfold Sc.kidsAt; rw [List.getElem?_eq_getElem (by rw [← hn]; exact hat), hT]; rfl
   have RE : Hid (R = metK sc f T.kids (at_ + 1)) := by show _ = _; rw [hR, met_succ sc f at_ (by omega), KA]
   have hgw : g < w.heap.size := hg
   subst e
   generalize T.kids = ks at *
   obtain ⟨m, hm⟩ : ∃ m, m = ks.length := ⟨_, rfl⟩
   have HM := Lib.hid hm
   unfold KidsA at KD
   rw [← hm] at KD
   generalize T.al.length = e2 at *
   generalize T.fs.length = e3 at *
   generalize T.sy.length = e4 at *
   generalize T.br.length = e9 at *
   clear h hn hR la ra hl HS hd ih lz hT KA gz hm hg
   go_enter Tryz.func52, Tryz.ntmps52
   go_wp2_with fail
   with_reducible refine (KD.out _ W1).mono ?_
   rintro e w2 ⟨B, cb, rfl, lk, rk, b2⟩
   rw [GZ.out] at b2
   have bw2 : Below w.heap.size w w2 := W1.trans (b2.mono (Nat.le_succ _))
   have z2 := b2.size
   rw [GZ.out] at z2
   have m9 : m ≤ 9223372036854775807 := by have := lk.2; unfold maxLen at this; omega
   have RK := Lib.hid rk
   have x0 := (b2.cell (p := ⟨w.heap.size, 0, none⟩) (Nat.lt_succ_self _)).trans (BK.out.cell 0)
   have x1 := (b2.cell (p := ⟨w.heap.size, 1, none⟩) (Nat.lt_succ_self _)).trans (BK.out.cell 1)
   simp at x0 x1
   have hz : w.heap.size < w2.heap.size := by omega
   clear rk lk KD GZ BK b2 W1 k0 k1 k2 k3 k4 k5 k6 k7 k8 k9
   go_wp2_with fail
   go_loopw [9, 7] (fun t v wr => ∃ i nx : Nat, i ≤ m ∧ t = .int .i64 (i : Int) ∧ v = .int .i64 (nx : Int) ∧ nx ≤ n ∧ Hid (R = metK sc f (ks.drop i) nx) ∧ Hid (Below w2.heap.size w2 wr)) (fun t _ _ => m - (intOf t).toNat)
   case atStart => exact ⟨0, at_ + 1, Nat.zero_le _, rfl, by first | rfl | (simp; done) | (congr 1; omega), hat, RE.out, Below.refl _ _⟩
   case round =>
    obtain ⟨i, nx, hi, rfl, rfl, hnx, HE, bl⟩ := hrel
    have bwr : Below w.heap.size w wr := bw2.trans (bl.out.mono bw2.size)
    have y0 := (bl.out.cell (p := ⟨w.heap.size, 0, none⟩) hz).trans x0
    have y1 := (bl.out.cell (p := ⟨w.heap.size, 1, none⟩) hz).trans x1
    by_cases him : i < m
    · have qi : (i : Int) < (m : Int) := by omega
      have hik : i < ks.length := by rw [← HM.out]; exact him
      obtain ⟨gk, ok, e, hk, kc⟩ := ints_at RK.out (i := i) hik
      obtain rfl := e
      have kz := (bl.out.cell (p := ⟨gk, ok + i, none⟩) hk.2).trans kc
      have DR : ks.drop i = ks[i]'hik :: ks.drop (i + 1) := List.drop_eq_getElem_cons hik
      have HE2 : Hid (R = metK sc f (ks[i]'hik :: ks.drop (i + 1)) nx) := by show _ = _; rw [← DR]; exact HE.out
      generalize ks[i]'hik = k at *
      have HE3 := Lib.hid (HE2.out.trans (rmetK_cons sc f k (ks.drop (i + 1)) nx))
      clear HE HE2 DR kc
      by_cases ka : k < 0
      · have Z : Hid (R = none) := HE3.out.trans (if_pos (.inl ka))
        clear HE3
        go_wp2_with fail
        go_ret
        exact numA_ret (by rw [Z.out]; rfl) bwr
      · by_cases kb : (nx : Int) < k
        · have Z : Hid (R = none) := HE3.out.trans (if_pos (.inr (.inl kb)))
          clear HE3
          go_wp2_with fail
          go_ret
          exact numA_ret (by rw [Z.out]; rfl) bwr
        · by_cases kc : k < (nx : Int)
          · have kn : k.toNat < sc.nodes.length := by rw [← HN.out]; omega
            obtain ⟨g5, o5, _, _, _, _, _, _, _, _, e5, hg5, ⟨v0, _⟩, _⟩ := nodes_at RA.out (i := k.toNat) kn
            simp only [Option.some.injEq, Addr.mk.injEq, and_true] at e5
            obtain ⟨rfl, rfl⟩ := e5
            have vz := (bwr.cell (p := ⟨g, off + k.toNat * 10, none⟩) hg5).trans v0
            have KI : sc.kind k = (sc.nodes[k.toNat]'kn).k := by unfold Sc.kind; rw [if_pos (by omega), List.getElem?_eq_getElem kn]; rfl
            rw [KI] at HE3
            generalize (sc.nodes[k.toNat]'kn).k = K at *
            have NM := Lib.hid (fun W => rNamed_any K W)
            have ne : ¬ k = (nx : Int) := by omega
            have qe : (k == (nx : Int)) = false := by rw [beq_eq_false_iff_ne]; exact ne
            obtain ⟨kk, rfl⟩ : ∃ kk : Nat, k = (kk : Int) := ⟨k.toNat, by omega⟩
            rw [Int.toNat_natCast] at vz kn
            have kn2 : (kk : Int) < (n : Int) := by rw [HN.out]; omega
            obtain ⟨b, hb⟩ : ∃ b, b = named K := ⟨_, rfl⟩
            rw [← hb] at NM HE3
            clear hb KI v0
            cases b with
            | false =>
             have Z : Hid (R = none) := HE3.out.trans (if_pos (.inr (.inr ⟨kc, rfl⟩)))
             clear HE3
             go_wp2_with fail
             with_reducible refine (NM.out _).mono ?_
             rintro e w5 ⟨rfl, rfl⟩
             go_wp2_with fail
             go_ret
             exact numA_ret (by rw [Z.out]; rfl) bwr
            | true =>
             have Z : Hid (R = metK sc f (ks.drop (i + 1)) nx) := (HE3.out.trans (if_neg (by rintro (h | h | ⟨_, h⟩); exact ka h; exact kb h; cases h))).trans (if_neg ne)
             clear HE3
             go_wp2_with fail
             with_reducible refine (NM.out _).mono ?_
             rintro e w5 ⟨rfl, rfl⟩
             go_wp2_with fail
             go_roundw
             case rel => exact ⟨i + 1, nx, by omega, by go_num, rfl, hnx, Z.out, bl.out⟩
             case measure => simp [intOf]; omega
          · obtain rfl : k = (nx : Int) := by omega
            have qe : ((nx : Int) == (nx : Int)) = true := by simp
            have IN := Lib.hid (IH.out nx (by omega) wr bwr)
            have HE4 := Lib.hid ((HE3.out.trans (if_neg (by rintro (h | h | ⟨h, _⟩) <;> omega))).trans (if_pos rfl))
            have MG := Lib.hid (fun b hb => met_good sc f nx b hb)
            generalize met sc f nx = M at *
            clear HE3 IH
            cases M with
            | none =>
             have Z : Hid (R = none) := HE4.out
             clear HE4
             go_wp2_with fail
             with_reducible refine (IN.out).mono ?_
             rintro e w5 ⟨rfl, b5⟩
             have q5 : nxt none < 0 := by decide
             go_wp2_with fail
             go_ret
             exact numA_ret (by rw [Z.out]; rfl) (bwr.trans (b5.mono bwr.size))
            | some b =>
             have Z : Hid (R = metK sc f (ks.drop (i + 1)) b) := HE4.out
             have bn : b ≤ n := by have := (MG.out b rfl).2.1; rw [← HN.out] at this; exact this
             clear HE4
             go_wp2_with fail
             with_reducible refine (IN.out).mono ?_
             rintro e w5 ⟨rfl, b5⟩
             unfold nxt
             have q5 : ¬ (b : Int) < 0 := by omega
             go_wp2_with fail
             go_roundw
             case rel => exact ⟨i + 1, b, by omega, by go_num, rfl, bn, Z.out, bl.out.trans (b5.mono bl.out.size)⟩
             case measure => simp [intOf]; omega
    · obtain rfl : i = m := by omega
      have qi : ¬ (i : Int) < (i : Int) := by omega
      have DR : ks.drop i = [] := by rw [HM.out, List.drop_length]
      have Z : Hid (R = some nx) := by show _ = _; rw [HE.out, DR, metK_nil]
      clear HE
      go_wp2_with fail
      go_ret
      exact numA_ret (by rw [Z.out]; rfl) bwr
theorem met_any (sc : Sc) (hl : sc.lim) : ∀ f, f ≤ 33 → MetC sc f
 | 0, _ => met_0 sc hl
 | f + 1, h => met_step sc hl f (by omega) (met_any sc hl f (by omega))
noncomputable def Sc.orderedb (s : Sc) : Bool := @decide s.ordered (Classical.propDecidable _)
theorem Sc.orderedb_iff {s : Sc} : s.orderedb = true ↔ s.ordered := by unfold Sc.orderedb; simp
theorem Sc.orderedb_no {s : Sc} (h : ¬ s.ordered) : s.orderedb = false := by unfold Sc.orderedb; simpa using h
theorem Sc.orderedb_yes {s : Sc} (h : s.ordered) : s.orderedb = true := Sc.orderedb_iff.2 h
theorem rOrdered_any (sc : Sc) (hl : sc.lim) (w : World) (A : Option Addr) (c : Nat) (h : Lies w (· < w.heap.size) sc.enc [.slice A sc.nodes.length c, .int .i64 sc.root]) :
 Calls Tryz.prog 31 #[.agg #[.slice A sc.nodes.length c, .int .i64 sc.root]] w (Told sc.orderedb w) := by
 have CS := cell_set
 obtain ⟨R, hR⟩ : ∃ R, R = sc.orderedb := ⟨_, rfl⟩
 rw [← hR]
 have ME := Lib.hid (fun W (b : Below w.heap.size w W) => met_any sc hl 33 (Nat.le_refl _) 0 0 rfl (by omega) W A c ((h.below b).more b.size))
 have NO : Hid (¬ sc.ordered → R = false) := fun g => by rw [hR]; exact Sc.orderedb_no g
 have YES : Hid (sc.ordered → R = true) := fun g => by rw [hR]; exact Sc.orderedb_yes g
 obtain ⟨n, hn⟩ : ∃ n, n = sc.nodes.length := ⟨_, rfl⟩
 have HN := Lib.hid hn
 have n8 : n ≤ 100000000 := by rw [hn]; exact hl.1
 rw [← hn] at ME ⊢
 have W1 : Below w.heap.size w (w.alloc (.cells #[.slice A n c, .int .i64 sc.root] 24)) := (Below.refl _ _).alloc (Nat.le_refl _) _
 have gz : (w.alloc (.cells #[.slice A n c, .int .i64 sc.root] 24)).heap.size = w.heap.size + 1 := by simp
 have GZ := Lib.hid gz
 have BK := Lib.hid (Blk.new w 24 #[.slice A n c, .int .i64 sc.root])
 obtain ⟨rt, hrt⟩ : ∃ r, r = sc.root := ⟨_, rfl⟩
 have HRT := Lib.hid hrt
 rw [← hrt] at ME W1 GZ BK ⊢
 clear h hR hn hl hrt gz
 by_cases n1 : 1 ≤ n
 · have q1 : (1 : Int) ≤ (n : Int) := by omega
   by_cases n2 : n ≤ 200
   · have q2 : (n : Int) ≤ 200 := by omega
     by_cases r0 : rt = 0
     · subst r0
       obtain ⟨M, hM⟩ : ∃ M, M = met sc 33 0 := ⟨_, rfl⟩
       rw [← hM] at ME
       have HMM := Lib.hid hM
       have ZZ : Hid (R = decide (nxt M = (n : Int))) := by
        show _ = _
        by_cases e : nxt M = (n : Int)
        · rw [decide_eq_true e]
          refine YES.out ⟨by rw [← HN.out]; exact n1, by rw [← HN.out]; exact n2, HRT.out.symm, ?_⟩
          rw [← HMM.out, ← HN.out]
          cases M with
          | none => exact absurd e (by show ¬ (-1 : Int) = _; omega)
          | some b => congr 1; have e2 : (b : Int) = (n : Int) := e; omega
        · rw [decide_eq_false e]
          refine NO.out fun g => e ?_
          have := g.2.2.2
          rw [← HMM.out, ← HN.out] at this
          rw [this]; rfl
       generalize nxt M = X at *
       unfold NumA at ME
       clear hM YES NO
       go_enter Tryz.func31, Tryz.ntmps31
       go_wp2_with fail
       obtain ⟨W, hW⟩ : ∃ W, W = w.alloc (.cells #[.slice A n c, .int .i64 0] 24) := ⟨_, rfl⟩
       rw [← hW] at BK GZ W1 ⊢
       have p0 := BK.out.cell 0
       have p1 := BK.out.cell 1
       simp at p0 p1
       have hz : w.heap.size < W.heap.size := by rw [GZ.out]; exact Nat.lt_succ_self _
       clear hW
       by_cases e : X = (n : Int)
       · have Z : Hid (R = true) := by show _ = _; rw [ZZ.out, decide_eq_true e]
         have qe : (X == (n : Int)) = true := by rw [beq_iff_eq]; exact e
         have b0 : Below w.heap.size w W.drew := W1.drew
         go_region_held_law (fun u => u.cell? ⟨w.heap.size, 0, none⟩ = some (.slice A n c) ∧ u.cell? ⟨w.heap.size, 1, none⟩ = some (.int .i64 0)) (exact ⟨(by first | with_reducible assumption | (go_simp; done)), (by first | with_reducible assumption | (go_simp; done))⟩) (first
          | (go_at_call 52; refine (ME.out _ b0).mono ?_; rintro e u ⟨rfl, bu⟩; have y0 := (bu.cell (p := ⟨w.heap.size, 0, none⟩) hz).trans p0; have y1 := (bu.cell (p := ⟨w.heap.size, 1, none⟩) hz).trans p1; have b1 := b0.trans (bu.mono b0.size)))
         go_wp2_with fail
         go_ret
         exact told_ret (by first | (rw [Z.out]; done) | (rw [Z.out]; rfl) | (rw [Z.out]; simp [e])) b1
       · have Z : Hid (R = false) := by show _ = _; rw [ZZ.out, decide_eq_false e]
         have qe : (X == (n : Int)) = false := by rw [beq_eq_false_iff_ne]; exact e
         have b0 : Below w.heap.size w W.drew := W1.drew
         go_region_held_law (fun u => u.cell? ⟨w.heap.size, 0, none⟩ = some (.slice A n c) ∧ u.cell? ⟨w.heap.size, 1, none⟩ = some (.int .i64 0)) (exact ⟨(by first | with_reducible assumption | (go_simp; done)), (by first | with_reducible assumption | (go_simp; done))⟩) (first
          | (go_at_call 52; refine (ME.out _ b0).mono ?_; rintro e u ⟨rfl, bu⟩; have y0 := (bu.cell (p := ⟨w.heap.size, 0, none⟩) hz).trans p0; have y1 := (bu.cell (p := ⟨w.heap.size, 1, none⟩) hz).trans p1; have b1 := b0.trans (bu.mono b0.size)))
         go_wp2_with fail
         go_ret
         exact told_ret (by first | (rw [Z.out]; done) | (rw [Z.out]; rfl) | (rw [Z.out]; simp [e])) b1
     · have qr : (rt == 0) = false := by rw [beq_eq_false_iff_ne]; exact r0
       have Z : Hid (R = false) := NO.out fun g => r0 (HRT.out.trans g.2.2.1)
       clear ME YES NO
       go_enter Tryz.func31, Tryz.ntmps31
       go_wp2_with fail
       obtain ⟨W, hW⟩ : ∃ W, W = w.alloc (.cells #[.slice A n c, .int .i64 rt] 24) := ⟨_, rfl⟩
       rw [← hW] at BK GZ W1 ⊢
       have p0 := BK.out.cell 0
       have p1 := BK.out.cell 1
       simp at p0 p1
       clear hW
       go_quiet (fail)
       go_wp2_with fail
       go_ret
       exact told_ret Z.out bqq
   · have q2 : decide ((n : Int) ≤ 200) = false := by simp; omega
     have q1d : decide ((1 : Int) ≤ (n : Int)) = true := by simp; omega
     have Z : Hid (R = false) := NO.out fun g => n2 (by have := g.2.1; rw [← HN.out] at this; exact this)
     clear ME YES NO
     go_enter Tryz.func31, Tryz.ntmps31
     go_wp2_with fail
     obtain ⟨W, hW⟩ : ∃ W, W = w.alloc (.cells #[.slice A n c, .int .i64 rt] 24) := ⟨_, rfl⟩
     rw [← hW] at BK GZ W1 ⊢
     have p0 := BK.out.cell 0
     have p1 := BK.out.cell 1
     simp at p0 p1
     clear hW
     go_quiet (fail)
     go_wp2_with fail
     go_ret
     exact told_ret Z.out bqq
 · have q1 : decide ((1 : Int) ≤ (n : Int)) = false := by simp; omega
   have Z : Hid (R = false) := NO.out fun g => n1 (by have := g.1; rw [← HN.out] at this; exact this)
   clear ME YES NO
   go_enter Tryz.func31, Tryz.ntmps31
   go_wp2_with fail
   obtain ⟨W, hW⟩ : ∃ W, W = w.alloc (.cells #[.slice A n c, .int .i64 rt] 24) := ⟨_, rfl⟩
   rw [← hW] at BK GZ W1 ⊢
   have p0 := BK.out.cell 0
   have p1 := BK.out.cell 1
   simp at p0 p1
   clear hW
   go_quiet (fail)
   go_wp2_with fail
   go_ret
   exact told_ret Z.out bqq
theorem wt_of_stable {s : Sc} {r : Nat} (h : wtR s (r + 1) = wtR s r) (i : Nat) : s.wt i = wtR s r i := by
 obtain ⟨q, hq, he⟩ := wtR_stable s
 have a := wtR_stays he (1001 * s.nodes.length - q)
 rw [show q + (1001 * s.nodes.length - q) = 1001 * s.nodes.length by omega] at a
 have b : wtR s q = wtR s r := by
  rcases Nat.le_total q r with g | g
  · have := wtR_stays he (r - q); rw [show q + (r - q) = r by omega] at this; exact this.symm
  · have := wtR_stays h (q - r); rw [show r + (q - r) = q by omega] at this; exact this
 show wtR s (1001 * s.nodes.length) i = _
 rw [a, b]
theorem stable_of {s : Sc} {r : Nat} (h : ∀ i, i < s.nodes.length → wtR s (r + 1) i = wtR s r i) : wtR s (r + 1) = wtR s r := by
 funext i
 rcases Nat.lt_or_ge i s.nodes.length with g | g
 · exact h i g
 · rw [wtR_out g, wtR_out g]
theorem sum_grow {s : Sc} {r i : Nat} (hi : i < s.nodes.length) (h : wtR s (r + 1) i ≠ wtR s r i) : sumN (wtR s r) s.nodes.length + 1 ≤ sumN (wtR s (r + 1)) s.nodes.length := by
 have := wtR_mono s r i
 exact sumN_lt (wtR_mono s r) hi (by omega)
theorem capF_app (W : Nat → Nat) : ∀ (l m : List Int) (a : Nat), capF W (l ++ m) a = capF W m (capF W l a)
 | [], _, _ => rfl
 | k :: r, m, a => by
  rw [List.cons_append]
  show capF W (r ++ m) _ = capF W m (capF W r _)
  exact capF_app W r m _
theorem capF_top (W : Nat → Nat) (l : List Int) : capF W l 1001 = 1001 := by
 have a := capF_ge W l 1001
 have b := capF_le W l 1001 (Nat.le_refl _)
 omega
def Acc (W : Nat → Nat) (l : List Int) (x : Nat) : Prop := (x ≤ 1000 ∧ x = capF W l 1) ∨ (1000 < x ∧ x ≤ 2001 ∧ capF W l 1 = 1001)
theorem Acc.next {W : Nat → Nat} (hW : ∀ i, W i ≤ 1001) {l : List Int} {x : Nat} (h : Acc W l x) (hx : x ≤ 1000) (k : Int) : Acc W (l ++ [k]) (x + W k.toNat) := by
 have hk := hW k.toNat
 have e : capF W (l ++ [k]) 1 = min (capF W l 1 + W k.toNat) 1001 := capF_snoc W k l 1
 rcases h with ⟨_, h⟩ | ⟨h, _⟩
 · by_cases g : x + W k.toNat ≤ 1000
   · exact .inl ⟨g, by rw [e]; omega⟩
   · exact .inr ⟨by omega, by omega, by rw [e]; omega⟩
 · omega
theorem Acc.fin {W : Nat → Nat} {l m : List Int} {x : Nat} (h : Acc W l x) (hm : m = [] ∨ 1000 < x) : (if 1000 < x then 1001 else x) = capF W (l ++ m) 1 := by
 rw [capF_app]
 rcases h with ⟨g, h⟩ | ⟨g, _, h⟩
 · rcases hm with rfl | hm
   · rw [if_neg (by omega), ← h]; rfl
   · omega
 · rw [if_pos g, h, capF_top]
def Sc.inn (s : Sc) : Prop := ∀ i, i < s.nodes.length → ∀ k ∈ s.kidsAt i, 0 ≤ k ∧ k < (s.nodes.length : Int)
theorem ordered_inn {s : Sc} (h : s.ordered) : s.inn := fun i hi k hk => by
 have g := (ordered_good h).1 i (Nat.zero_le _) hi k hk
 exact ⟨g.1, g.2.1⟩
def wrow (s : Sc) (r m : Nat) : List Value := (List.range m).map fun i => Value.int .i64 ((wtR s r i : Nat) : Int)
theorem wrow_len (s : Sc) (r m : Nat) : (wrow s r m).length = m := by unfold wrow; simp
theorem wrow_snoc (s : Sc) (r m : Nat) : wrow s r (m + 1) = wrow s r m ++ [.int .i64 ((wtR s r m : Nat) : Int)] := by unfold wrow; rw [List.range_succ, List.map_append]; rfl
theorem wrow_at {s : Sc} {r m k : Nat} (h : k < m) : (wrow s r m)[k]? = some (.int .i64 ((wtR s r k : Nat) : Int)) := by unfold wrow; rw [List.getElem?_map, List.getElem?_range h]; rfl
theorem wrow_cell {s : Sc} {r m k : Nat} {w : World} {B : Nat} {A : Option Addr} (h : Fl w B A (wrow s r m)) (hk : k < m) : ∃ g off, A = some ⟨g, off, none⟩ ∧ g < B ∧ w.cell? ⟨g, off + k, none⟩ = some (.int .i64 ((wtR s r k : Nat) : Int)) := by
 obtain ⟨b, off, e, hb, hc⟩ := h.cell (k := k) (by rw [wrow_len]; exact hk)
 exact ⟨b, off, e, hb, by rw [hc, wrow_at hk]⟩
theorem rWeights_any (sc : Sc) (hl : sc.lim) (hi : sc.inn) (w : World) (A : Option Addr) (c : Nat) (h : Lies w (· < w.heap.size) sc.enc [.slice A sc.nodes.length c, .int .i64 sc.root]) :
 Calls Tryz.prog 32 #[.agg #[.slice A sc.nodes.length c, .int .i64 sc.root]] w (KidsA ((List.range sc.nodes.length).map fun i => ((sc.wt i : Nat) : Int)) w) := by
 have CS := cell_set
 obtain ⟨_, _, e, la, ra⟩ := Sc.out.1 h
 simp only [List.cons.injEq, Value.slice.injEq, true_and, and_true] at e
 obtain ⟨rfl, rfl⟩ := e
 have RA := Lib.hid ra
 have LM := Lib.hid hl
 have INN := Lib.hid hi
 obtain ⟨n, hn⟩ : ∃ n, n = sc.nodes.length := ⟨_, rfl⟩
 have HN := Lib.hid hn
 have n8 : n ≤ 100000000 := by rw [hn]; exact hl.1
 obtain ⟨RES, hRES⟩ : ∃ L : List Int, L = (List.range sc.nodes.length).map fun i => ((sc.wt i : Nat) : Int) := ⟨_, rfl⟩
 have HRES := Lib.hid hRES
 rw [← hRES, ← hn]
 generalize hrt : sc.root = rt at *
 have W1 : Below w.heap.size w (w.alloc (.cells #[.slice A n c, .int .i64 rt] 24)) := (Below.refl _ _).alloc (Nat.le_refl _) _
 have gz : (w.alloc (.cells #[.slice A n c, .int .i64 rt] 24)).heap.size = w.heap.size + 1 := by simp
 have BK := Lib.hid (Blk.new w 24 #[.slice A n c, .int .i64 rt])
 have GZ := Lib.hid gz
 clear h la ra hl hi hn hRES hrt gz
 go_enter Tryz.func32, Tryz.ntmps32
 go_wp2_with fail
 obtain ⟨V, hV⟩ : ∃ V, V = w.alloc (.cells #[.slice A n c, .int .i64 rt] 24) := ⟨_, rfl⟩
 rw [← hV] at BK GZ W1 ⊢
 have p0 := BK.out.cell 0
 have p1 := BK.out.cell 1
 simp at p0 p1
 have hz : w.heap.size < V.heap.size := by rw [GZ.out]; exact Nat.lt_succ_self _
 clear hV BK GZ
 -- the first row
 go_loopw [4, 3] (fun t v wr => ∃ j : Nat, j ≤ n ∧ t = .int .i64 (j : Int) ∧ OwnR wr V.heap.size 3 1 v j (wrow sc 0 j) ∧ Hid (Below V.heap.size V wr)) (fun t _ _ => n - (intOf t).toNat)
 case atStart => exact ⟨0, Nat.zero_le _, rfl, OwnR.none_ _ _ _ _, Below.refl _ _⟩
 case round =>
  obtain ⟨j, hj, rfl, ow, bl⟩ := hrel
  have bl2 := bl.out
  have y0 := (bl2.cell (p := ⟨w.heap.size, 0, none⟩) hz).trans p0
  have z := bl2.size
  by_cases hjn : j < n
  · have q : (j : Int) < (n : Int) := by omega
    go_wp2_with (at_builtin; refine wpList_appR1 _ intT rfl (.tmp 17) (.tmp 18) rfl V.heap.size _ j _ rfl ow 1 #[.int .i64 1] rfl rfl (by simp [Value.oneCell']) (by omega) (by omega) ?_; intro v3 w3 o3 b3 _)
    go_roundw
    case rel => exact ⟨j + 1, by omega, by go_num, by rw [wrow_snoc]; exact o3, bl2.trans b3⟩
    case measure => simp [intOf]; omega
  · obtain rfl : j = n := by omega
    have q : ¬ (j : Int) < (j : Int) := by omega
    have bw : Below w.heap.size w wr := W1.trans (bl2.mono W1.size)
    obtain ⟨B0, c0, rfl, hc0, hf0⟩ := own_new ow
    have hf1 := Lib.hid (fls_fl (B := wr.heap.size) hf0 (fun _ h => h.2))
    have HF0 := Lib.hid hf0
    have j9 : j ≤ 9223372036854775807 := by omega
    clear ow hf0 q hjn hj
    go_wp2_with fail
    -- the rounds
    go_loopg [3, 5] (1001 * j + 2) (fun g v t wq => ∃ (r : Nat) (b : Bool) (B : Option Addr) (cb : Nat), r + g = 1001 * j + 2 ∧ v = .slice B j cb ∧ t = .bool b ∧ j ≤ cb ∧ Hid (FlS wq (fun x => V.heap.size ≤ x ∧ x < wq.heap.size) B (wrow sc r j)) ∧ Hid (b = true → r ≤ sumN (wtR sc r) sc.nodes.length) ∧ Hid (b = false → wtR sc (r + 1) = wtR sc r) ∧ Hid (Below V.heap.size V wq))
    case atStart => exact ⟨0, true, B0, c0, by omega, rfl, rfl, hc0, HF0.out, (fun _ => Nat.zero_le _), (fun h => by cases h), bl2⟩
    case round =>
     obtain ⟨r, b, B, cb, hg, rfl, rfl, hcb, HF, HP, HS, bq⟩ := hrel
     have bw2 : Below w.heap.size w wr := W1.trans (bq.out.mono W1.size)
     have zq := bq.out.size
     cases b with
     | false =>
      have ST := HS.out rfl
      have RE : RES = (List.range j).map fun i => ((wtR sc r i : Nat) : Int) := by
       rw [HRES.out, ← HN.out]
       exact List.map_congr_left fun i _ => by rw [wt_of_stable ST i]
      have RL : RES.length = j := by rw [RE]; simp
      have RV : wrow sc r j = RES.map (Value.int .i64) := by rw [RE, List.map_map]; rfl
      have FIN : Hid (KidsA RES w (.returned (.slice B j cb)) wr) := by
       refine ⟨B, cb, by rw [RL], ⟨by rw [RL]; exact hcb, by rw [RL]; unfold maxLen; omega⟩, row_ints ?_, bw2⟩
       rw [← RV]
       rcases HF.out with hf | ⟨g, o, e, ⟨h1, h2⟩, h3⟩
       · exact .inl hf
       · exact .inr ⟨g, o, e, ⟨Nat.le_trans W1.size h1, h2⟩, h3⟩
      clear RE RL RV ST
      go_wp2_with fail
      go_ret
      exact FIN.out
     | true =>
      have hr := HP.out rfl
      have hfx := Lib.hid (fls_fl (B := wr.heap.size) HF.out (fun _ h => h.2))
      obtain ⟨X, hX⟩ : ∃ X, X = wr := ⟨_, rfl⟩
      rw [← hX] at hfx bw2 zq bq ⊢
      have sb := sumN_bound (wtR_le sc r) sc.nodes.length
      rw [← HN.out] at sb
      rw [← HN.out] at hr
      clear hX HF HP HS
      go_wp2_with fail
      go_loopw [7, 6, 5] (fun t v m wr => ∃ (i : Nat) (b' : Bool), i ≤ j ∧ t = .int .i64 (i : Int) ∧ OwnR wr X.heap.size 3 1 v i (wrow sc (r + 1) i) ∧ m = .bool b' ∧ Hid (b' = false → ∀ q, q < i → wtR sc (r + 1) q = wtR sc r q) ∧ Hid (b' = true → ∃ q, q < i ∧ wtR sc (r + 1) q ≠ wtR sc r q) ∧ Hid (Below X.heap.size X wr)) (fun t _ _ _ => j - (intOf t).toNat)
      case atStart => exact ⟨0, false, Nat.zero_le _, rfl, OwnR.none_ _ _ _ _, rfl, (fun _ _ h => absurd h (Nat.not_lt_zero _)), (fun h => by cases h), Below.refl _ _⟩
      case round =>
       obtain ⟨i, b', hi, rfl, ow, rfl, MF, MT, bu⟩ := hrel
       have bu2 := bu.out
       have zu := bu2.size
       have bwu : Below w.heap.size w wr := bw2.trans (bu2.mono bw2.size)
       have y0 := (bu2.cell (p := ⟨w.heap.size, 0, none⟩) (by show w.heap.size < X.heap.size; omega)).trans ((bq.out.cell (p := ⟨w.heap.size, 0, none⟩) hz).trans p0)
       by_cases hij : i < j
       · have qi : (i : Int) < (j : Int) := by omega
         have hin : i < sc.nodes.length := by rw [← HN.out]; exact hij
         obtain ⟨g, off, A2, c2, A3, c3, A4, c4, A9, c9, e, hg1, ⟨k0, _, _, k3, _⟩, lz⟩ := nodes_at RA.out (i := i) hin
         obtain ⟨_, _, _, _, _, _, _, _, e1, _, _, len3, row3, _⟩ := Nd.out.1 lz
         simp only [List.cons.injEq, Value.slice.injEq, true_and, and_true] at e1
         obtain ⟨⟨rfl, rfl⟩, ⟨rfl, rfl⟩, ⟨rfl, rfl⟩, rfl, rfl⟩ := e1
         obtain ⟨gB, oB, eB, hgB, lc⟩ := wrow_cell hfx.out hij
         have hgw : g < w.heap.size := hg1
         have kz0 := (bwu.cell (p := ⟨g, off + i * 10, none⟩) hgw).trans k0
         have kz3 := (bwu.cell (p := ⟨g, off + i * 10 + 3, none⟩) hgw).trans k3
         have lz0 := (bu2.cell (p := ⟨gB, oB + i, none⟩) hgB).trans lc
         have RW3 := Lib.hid row3
         have m8 : (sc.nodes[i]'hin).fs.length ≤ 100000000 := (LM.out.2 i hin).1
         have KI : sc.kind i = (sc.nodes[i]'hin).k := by unfold Sc.kind; rw [if_pos (by omega), Int.toNat_natCast, List.getElem?_eq_getElem hin]; rfl
         have KA : sc.kidsAt i = (sc.nodes[i]'hin).kids := by unfold Sc.kidsAt; rw [List.getElem?_eq_getElem hin]; rfl
         have IK := INN.out i hin
         subst e
         by_cases k9 : (sc.nodes[i]'hin).k = 9
         · have KE : (sc.nodes[i]'hin).kids = (sc.nodes[i]'hin).fs.map Fd.ty := by unfold Nd.kids; rw [if_pos k9]
           have WE : Hid (wtR sc (r + 1) i = capF (wtR sc r) ((sc.nodes[i]'hin).fs.map Fd.ty) 1) := by show _ = _; rw [wtR, if_pos (by rw [KI]; exact k9), KA, KE]
           rw [KA, KE] at IK
           rw [k9] at kz0
           obtain ⟨fs, hfs⟩ : ∃ fs, fs = (sc.nodes[i]'hin).fs := ⟨_, rfl⟩
           rw [← hfs] at kz3 RW3 m8 WE IK
           obtain ⟨m, hm⟩ : ∃ m, m = fs.length := ⟨_, rfl⟩
           have HM := Lib.hid hm
           rw [← hm] at kz3 m8
           have IKH := Lib.hid IK
           clear KI KA KE k9 hfs hm IK k0 k3 lc lz row3 len3
           subst eB
           go_wp2_with fail
           go_loopw [9, 8] (fun t v wy => ∃ k x : Nat, k ≤ m ∧ t = .int .i64 (k : Int) ∧ v = .int .i64 (x : Int) ∧ x ≤ 2001 ∧ Hid (Acc (wtR sc r) ((fs.take k).map Fd.ty) x) ∧ wy = wr) (fun t _ _ => m - (intOf t).toNat)
           case atStart => exact ⟨0, 1, Nat.zero_le _, rfl, rfl, by omega, .inl ⟨by omega, rfl⟩, rfl⟩
           case round =>
            obtain ⟨k, x, hk, rfl, rfl, hx2, AC, rfl⟩ := hrel
            by_cases hkm : k < m
            · have qk : (k : Int) < (m : Int) := by omega
              by_cases hx : x ≤ 1000
              · have qx : (x : Int) ≤ 1000 := by omega
                have hkf : k < fs.length := by rw [← HM.out]; exact hkm
                obtain ⟨g3, o3, _, _, _, _, _, _, e3, hg3, ⟨_, _, f2, _⟩, _⟩ := fields_at RW3.out (i := k) hkf
                have fz := (bwu.cell (p := ⟨g3, o3 + k * 9 + 2, none⟩) hg3).trans f2
                have TY := IKH.out ((fs[k]'hkf).ty) (List.mem_map_of_mem (List.getElem_mem hkf))
                obtain ⟨tt, ht⟩ : ∃ tt : Nat, (fs[k]'hkf).ty = (tt : Int) := ⟨_, (Int.toNat_of_nonneg TY.1).symm⟩
                have tj : tt < j := by rw [HN.out]; have := TY.2; omega
                have qt : (tt : Int) < (j : Int) := by omega
                obtain ⟨g5, o5, e5, hg5, l5⟩ := wrow_cell hfx.out tj
                simp only [Option.some.injEq, Addr.mk.injEq, and_true] at e5
                obtain ⟨rfl, rfl⟩ := e5
                have lz5 := (bu2.cell (p := ⟨gB, oB + tt, none⟩) hg5).trans l5
                have AC2 := Lib.hid (AC.out.next (wtR_le sc r) hx ((fs[k]'hkf).ty))
                have TK : (fs.take (k + 1)).map Fd.ty = (fs.take k).map Fd.ty ++ [(fs[k]'hkf).ty] := by rw [List.take_succ_eq_append_getElem hkf, List.map_append]; rfl
                rw [← TK, ht, Int.toNat_natCast] at AC2
                rw [ht] at fz
                have wl := wtR_le sc r tt
                generalize wtR sc r tt = W5 at *
                subst e3
                clear TK TY ht f2 l5 AC
                go_wp2_with fail
                go_roundw
                case rel => exact ⟨k + 1, x + W5, by omega, by go_num, by first | rfl | (simp; done) | go_num, by omega, AC2.out, by first | rfl | trivial⟩
                case measure => simp [intOf]; omega
              · have qx : ¬ (x : Int) ≤ 1000 := by omega
                have qx2 : (1000 : Int) < (x : Int) := by omega
                have FN := AC.out.fin (m := (fs.drop k).map Fd.ty) (.inr (by omega))
                rw [← List.map_append, List.take_append_drop, if_pos (by omega)] at FN
                have FNH := Lib.hid FN
                clear FN AC
                have YE : Hid (wtR sc (r + 1) i = 1001) := WE.out.trans FNH.out.symm
                cases b' with
                | true =>
                 go_wp2_with (at_builtin; refine wpList_appR1 _ intT rfl (.tmp 78) (.tmp 80) rfl X.heap.size _ i _ rfl ow 1 #[.int .i64 ((1001 : Nat) : Int)] rfl rfl (by simp [Value.oneCell']) (by omega) (by omega) ?_; intro v3 w3 o3 b3 _)
                 go_roundw
                 case rel => exact ⟨i + 1, true, by omega, by go_num, by rw [wrow_snoc, YE.out]; exact o3, rfl, (fun h => by cases h), (fun _ => by obtain ⟨q, h1, h2⟩ := MT.out rfl; exact ⟨q, by omega, h2⟩), bu2.trans b3⟩
                 case measure => simp [intOf]; omega
                | false =>
                 by_cases ee : 1001 = wtR sc r i
                 · have qe : ((1001 : Int) != ((wtR sc r i : Nat) : Int)) = false := by rw [bne_eq_false_iff_eq]; omega
                   have AL : Hid (∀ q, q < i + 1 → wtR sc (r + 1) q = wtR sc r q) := fun q hq => by
                    rcases Nat.lt_or_ge q i with g | g
                    · exact MF.out rfl q g
                    · obtain rfl : q = i := by omega
                      rw [YE.out]; exact ee
                   clear ee
                   go_wp2_with (at_builtin; refine wpList_appR1 _ intT rfl (.tmp 78) (.tmp 80) rfl X.heap.size _ i _ rfl ow 1 #[.int .i64 ((1001 : Nat) : Int)] rfl rfl (by simp [Value.oneCell']) (by omega) (by omega) ?_; intro v3 w3 o3 b3 _)
                   go_roundw
                   case rel => exact ⟨i + 1, false, by omega, by go_num, by rw [wrow_snoc, YE.out]; exact o3, (by first | rfl | (rw [qe]; done)), (fun _ => AL.out), (fun h => by cases h), bu2.trans b3⟩
                   case measure => simp [intOf]; omega
                 · have qe : ((1001 : Int) != ((wtR sc r i : Nat) : Int)) = true := by rw [bne_iff_ne]; omega
                   have NE : Hid (∃ q, q < i + 1 ∧ wtR sc (r + 1) q ≠ wtR sc r q) := ⟨i, by omega, by rw [YE.out]; exact ee⟩
                   clear ee
                   go_wp2_with (at_builtin; refine wpList_appR1 _ intT rfl (.tmp 78) (.tmp 80) rfl X.heap.size _ i _ rfl ow 1 #[.int .i64 ((1001 : Nat) : Int)] rfl rfl (by simp [Value.oneCell']) (by omega) (by omega) ?_; intro v3 w3 o3 b3 _)
                   go_roundw
                   case rel => exact ⟨i + 1, true, by omega, by go_num, by rw [wrow_snoc, YE.out]; exact o3, (by first | rfl | (rw [qe]; done)), (fun h => by cases h), (fun _ => NE.out), bu2.trans b3⟩
                   case measure => simp [intOf]; omega
            · obtain rfl : k = m := by omega
              have qk : ¬ (k : Int) < (k : Int) := by omega
              have TK : fs.take k = fs := by rw [HM.out, List.take_length]
              have FN := AC.out.fin (m := []) (.inl rfl)
              rw [List.append_nil, TK] at FN
              by_cases hx : x ≤ 1000
              · have qx2 : ¬ (1000 : Int) < (x : Int) := by omega
                rw [if_neg (by omega)] at FN
                have FNH := Lib.hid FN
                clear FN AC TK
                have YE : Hid (wtR sc (r + 1) i = x) := WE.out.trans FNH.out.symm
                cases b' with
                | true =>
                 go_wp2_with (at_builtin; refine wpList_appR1 _ intT rfl (.tmp 78) (.tmp 80) rfl X.heap.size _ i _ rfl ow 1 #[.int .i64 ((x : Nat) : Int)] rfl rfl (by simp [Value.oneCell']) (by omega) (by omega) ?_; intro v3 w3 o3 b3 _)
                 go_roundw
                 case rel => exact ⟨i + 1, true, by omega, by go_num, by rw [wrow_snoc, YE.out]; exact o3, rfl, (fun h => by cases h), (fun _ => by obtain ⟨q, h1, h2⟩ := MT.out rfl; exact ⟨q, by omega, h2⟩), bu2.trans b3⟩
                 case measure => simp [intOf]; omega
                | false =>
                 by_cases ee : x = wtR sc r i
                 · have qe : (((x : Nat) : Int) != ((wtR sc r i : Nat) : Int)) = false := by rw [bne_eq_false_iff_eq]; omega
                   have AL : Hid (∀ q, q < i + 1 → wtR sc (r + 1) q = wtR sc r q) := fun q hq => by
                    rcases Nat.lt_or_ge q i with g | g
                    · exact MF.out rfl q g
                    · obtain rfl : q = i := by omega
                      rw [YE.out]; exact ee
                   clear ee
                   go_wp2_with (at_builtin; refine wpList_appR1 _ intT rfl (.tmp 78) (.tmp 80) rfl X.heap.size _ i _ rfl ow 1 #[.int .i64 ((x : Nat) : Int)] rfl rfl (by simp [Value.oneCell']) (by omega) (by omega) ?_; intro v3 w3 o3 b3 _)
                   go_roundw
                   case rel => exact ⟨i + 1, false, by omega, by go_num, by rw [wrow_snoc, YE.out]; exact o3, (by first | rfl | (rw [qe]; done)), (fun _ => AL.out), (fun h => by cases h), bu2.trans b3⟩
                   case measure => simp [intOf]; omega
                 · have qe : (((x : Nat) : Int) != ((wtR sc r i : Nat) : Int)) = true := by rw [bne_iff_ne]; omega
                   have NE : Hid (∃ q, q < i + 1 ∧ wtR sc (r + 1) q ≠ wtR sc r q) := ⟨i, by omega, by rw [YE.out]; exact ee⟩
                   clear ee
                   go_wp2_with (at_builtin; refine wpList_appR1 _ intT rfl (.tmp 78) (.tmp 80) rfl X.heap.size _ i _ rfl ow 1 #[.int .i64 ((x : Nat) : Int)] rfl rfl (by simp [Value.oneCell']) (by omega) (by omega) ?_; intro v3 w3 o3 b3 _)
                   go_roundw
                   case rel => exact ⟨i + 1, true, by omega, by go_num, by rw [wrow_snoc, YE.out]; exact o3, (by first | rfl | (rw [qe]; done)), (fun h => by cases h), (fun _ => NE.out), bu2.trans b3⟩
                   case measure => simp [intOf]; omega
              · have qx2 : (1000 : Int) < (x : Int) := by omega
                rw [if_pos (by omega)] at FN
                have FNH := Lib.hid FN
                clear FN AC TK
                have YE : Hid (wtR sc (r + 1) i = 1001) := WE.out.trans FNH.out.symm
                cases b' with
                | true =>
                 go_wp2_with (at_builtin; refine wpList_appR1 _ intT rfl (.tmp 78) (.tmp 80) rfl X.heap.size _ i _ rfl ow 1 #[.int .i64 ((1001 : Nat) : Int)] rfl rfl (by simp [Value.oneCell']) (by omega) (by omega) ?_; intro v3 w3 o3 b3 _)
                 go_roundw
                 case rel => exact ⟨i + 1, true, by omega, by go_num, by rw [wrow_snoc, YE.out]; exact o3, rfl, (fun h => by cases h), (fun _ => by obtain ⟨q, h1, h2⟩ := MT.out rfl; exact ⟨q, by omega, h2⟩), bu2.trans b3⟩
                 case measure => simp [intOf]; omega
                | false =>
                 by_cases ee : 1001 = wtR sc r i
                 · have qe : ((1001 : Int) != ((wtR sc r i : Nat) : Int)) = false := by rw [bne_eq_false_iff_eq]; omega
                   have AL : Hid (∀ q, q < i + 1 → wtR sc (r + 1) q = wtR sc r q) := fun q hq => by
                    rcases Nat.lt_or_ge q i with g | g
                    · exact MF.out rfl q g
                    · obtain rfl : q = i := by omega
                      rw [YE.out]; exact ee
                   clear ee
                   go_wp2_with (at_builtin; refine wpList_appR1 _ intT rfl (.tmp 78) (.tmp 80) rfl X.heap.size _ i _ rfl ow 1 #[.int .i64 ((1001 : Nat) : Int)] rfl rfl (by simp [Value.oneCell']) (by omega) (by omega) ?_; intro v3 w3 o3 b3 _)
                   go_roundw
                   case rel => exact ⟨i + 1, false, by omega, by go_num, by rw [wrow_snoc, YE.out]; exact o3, (by first | rfl | (rw [qe]; done)), (fun _ => AL.out), (fun h => by cases h), bu2.trans b3⟩
                   case measure => simp [intOf]; omega
                 · have qe : ((1001 : Int) != ((wtR sc r i : Nat) : Int)) = true := by rw [bne_iff_ne]; omega
                   have NE : Hid (∃ q, q < i + 1 ∧ wtR sc (r + 1) q ≠ wtR sc r q) := ⟨i, by omega, by rw [YE.out]; exact ee⟩
                   clear ee
                   go_wp2_with (at_builtin; refine wpList_appR1 _ intT rfl (.tmp 78) (.tmp 80) rfl X.heap.size _ i _ rfl ow 1 #[.int .i64 ((1001 : Nat) : Int)] rfl rfl (by simp [Value.oneCell']) (by omega) (by omega) ?_; intro v3 w3 o3 b3 _)
                   go_roundw
                   case rel => exact ⟨i + 1, true, by omega, by go_num, by rw [wrow_snoc, YE.out]; exact o3, (by first | rfl | (rw [qe]; done)), (fun h => by cases h), (fun _ => NE.out), bu2.trans b3⟩
                   case measure => simp [intOf]; omega
         · have WE : Hid (wtR sc (r + 1) i = 1) := by show _ = _; rw [wtR, if_neg (by rw [KI]; exact k9)]
           obtain ⟨K, hK⟩ : ∃ K, K = (sc.nodes[i]'hin).k := ⟨_, rfl⟩
           rw [← hK] at kz0 k9
           have q9 : (K == 9) = false := by rw [beq_eq_false_iff_ne]; exact k9
           generalize (sc.nodes[i]'hin).fs.length = m at *
           clear KI KA IK k0 k3 lc lz row3 len3 hK RW3 k9
           subst eB
           go_wp2_with fail
           go_loopw [9, 8] (fun t v wy => t = .int .i64 0 ∧ v = .int .i64 1 ∧ wy = wr) (fun _ _ _ => 0)
           case atStart => exact ⟨rfl, rfl, rfl⟩
           case round =>
            obtain ⟨rfl, rfl, rfl⟩ := hrel
            by_cases hm0 : 0 < m
            · have qm : (0 : Int) < (m : Int) := by omega
              have YE : Hid (wtR sc (r + 1) i = 1) := WE.out
              cases b' with
              | true =>
               go_wp2_with (at_builtin; refine wpList_appR1 _ intT rfl (.tmp 78) (.tmp 80) rfl X.heap.size _ i _ rfl ow 1 #[.int .i64 ((1 : Nat) : Int)] rfl rfl (by simp [Value.oneCell']) (by omega) (by omega) ?_; intro v3 w3 o3 b3 _)
               go_roundw
               case rel => exact ⟨i + 1, true, by omega, by go_num, by rw [wrow_snoc, YE.out]; exact o3, rfl, (fun h => by cases h), (fun _ => by obtain ⟨q, h1, h2⟩ := MT.out rfl; exact ⟨q, by omega, h2⟩), bu2.trans b3⟩
               case measure => simp [intOf]; omega
              | false =>
               by_cases ee : 1 = wtR sc r i
               · have qe : ((1 : Int) != ((wtR sc r i : Nat) : Int)) = false := by rw [bne_eq_false_iff_eq]; omega
                 have AL : Hid (∀ q, q < i + 1 → wtR sc (r + 1) q = wtR sc r q) := fun q hq => by
                  rcases Nat.lt_or_ge q i with g | g
                  · exact MF.out rfl q g
                  · obtain rfl : q = i := by omega
                    rw [YE.out]; exact ee
                 clear ee
                 go_wp2_with (at_builtin; refine wpList_appR1 _ intT rfl (.tmp 78) (.tmp 80) rfl X.heap.size _ i _ rfl ow 1 #[.int .i64 ((1 : Nat) : Int)] rfl rfl (by simp [Value.oneCell']) (by omega) (by omega) ?_; intro v3 w3 o3 b3 _)
                 go_roundw
                 case rel => exact ⟨i + 1, false, by omega, by go_num, by rw [wrow_snoc, YE.out]; exact o3, (by first | rfl | (rw [qe]; done)), (fun _ => AL.out), (fun h => by cases h), bu2.trans b3⟩
                 case measure => simp [intOf]; omega
               · have qe : ((1 : Int) != ((wtR sc r i : Nat) : Int)) = true := by rw [bne_iff_ne]; omega
                 have NE : Hid (∃ q, q < i + 1 ∧ wtR sc (r + 1) q ≠ wtR sc r q) := ⟨i, by omega, by rw [YE.out]; exact ee⟩
                 clear ee
                 go_wp2_with (at_builtin; refine wpList_appR1 _ intT rfl (.tmp 78) (.tmp 80) rfl X.heap.size _ i _ rfl ow 1 #[.int .i64 ((1 : Nat) : Int)] rfl rfl (by simp [Value.oneCell']) (by omega) (by omega) ?_; intro v3 w3 o3 b3 _)
                 go_roundw
                 case rel => exact ⟨i + 1, true, by omega, by go_num, by rw [wrow_snoc, YE.out]; exact o3, (by first | rfl | (rw [qe]; done)), (fun h => by cases h), (fun _ => NE.out), bu2.trans b3⟩
                 case measure => simp [intOf]; omega
            · have qm : ¬ (0 : Int) < (m : Int) := by omega
              have YE : Hid (wtR sc (r + 1) i = 1) := WE.out
              cases b' with
              | true =>
               go_wp2_with (at_builtin; refine wpList_appR1 _ intT rfl (.tmp 78) (.tmp 80) rfl X.heap.size _ i _ rfl ow 1 #[.int .i64 ((1 : Nat) : Int)] rfl rfl (by simp [Value.oneCell']) (by omega) (by omega) ?_; intro v3 w3 o3 b3 _)
               go_roundw
               case rel => exact ⟨i + 1, true, by omega, by go_num, by rw [wrow_snoc, YE.out]; exact o3, rfl, (fun h => by cases h), (fun _ => by obtain ⟨q, h1, h2⟩ := MT.out rfl; exact ⟨q, by omega, h2⟩), bu2.trans b3⟩
               case measure => simp [intOf]; omega
              | false =>
               by_cases ee : 1 = wtR sc r i
               · have qe : ((1 : Int) != ((wtR sc r i : Nat) : Int)) = false := by rw [bne_eq_false_iff_eq]; omega
                 have AL : Hid (∀ q, q < i + 1 → wtR sc (r + 1) q = wtR sc r q) := fun q hq => by
                  rcases Nat.lt_or_ge q i with g | g
                  · exact MF.out rfl q g
                  · obtain rfl : q = i := by omega
                    rw [YE.out]; exact ee
                 clear ee
                 go_wp2_with (at_builtin; refine wpList_appR1 _ intT rfl (.tmp 78) (.tmp 80) rfl X.heap.size _ i _ rfl ow 1 #[.int .i64 ((1 : Nat) : Int)] rfl rfl (by simp [Value.oneCell']) (by omega) (by omega) ?_; intro v3 w3 o3 b3 _)
                 go_roundw
                 case rel => exact ⟨i + 1, false, by omega, by go_num, by rw [wrow_snoc, YE.out]; exact o3, (by first | rfl | (rw [qe]; done)), (fun _ => AL.out), (fun h => by cases h), bu2.trans b3⟩
                 case measure => simp [intOf]; omega
               · have qe : ((1 : Int) != ((wtR sc r i : Nat) : Int)) = true := by rw [bne_iff_ne]; omega
                 have NE : Hid (∃ q, q < i + 1 ∧ wtR sc (r + 1) q ≠ wtR sc r q) := ⟨i, by omega, by rw [YE.out]; exact ee⟩
                 clear ee
                 go_wp2_with (at_builtin; refine wpList_appR1 _ intT rfl (.tmp 78) (.tmp 80) rfl X.heap.size _ i _ rfl ow 1 #[.int .i64 ((1 : Nat) : Int)] rfl rfl (by simp [Value.oneCell']) (by omega) (by omega) ?_; intro v3 w3 o3 b3 _)
                 go_roundw
                 case rel => exact ⟨i + 1, true, by omega, by go_num, by rw [wrow_snoc, YE.out]; exact o3, (by first | rfl | (rw [qe]; done)), (fun h => by cases h), (fun _ => NE.out), bu2.trans b3⟩
                 case measure => simp [intOf]; omega
       · obtain rfl : i = j := by omega
         have qi : ¬ (i : Int) < (i : Int) := by omega
         obtain ⟨B2, c2, rfl, hc2, hf2⟩ := own_new ow
         have HF2 : Hid (FlS wr (fun x => V.heap.size ≤ x ∧ x < wr.heap.size) B2 (wrow sc (r + 1) i)) := by
          rcases hf2 with hf | ⟨g, o, e, ⟨h1, h2⟩, h3⟩
          · exact .inl hf
          · exact .inr ⟨g, o, e, ⟨by omega, h2⟩, h3⟩
         have P2 : Hid (b' = true → r + 1 ≤ sumN (wtR sc (r + 1)) sc.nodes.length) := fun hb => by
          obtain ⟨q, h1, h2⟩ := MT.out hb
          have := sum_grow (s := sc) (r := r) (i := q) (by rw [← HN.out]; exact h1) h2
          rw [← HN.out] at this ⊢
          omega
         have S2 : Hid (b' = false → wtR sc (r + 1 + 1) = wtR sc (r + 1)) := fun hb => by
          have e := stable_of (s := sc) (r := r) fun q hq => MF.out hb q (by rw [HN.out]; exact hq)
          have := wtR_stays e 2
          rw [show r + 2 = r + 1 + 1 by omega] at this
          rw [this, e]
         clear ow hf2 MF MT
         go_wp2_with fail
         go_roundg (1001 * i + 1 - r)
         case rel => exact ⟨r + 1, b', B2, c2, by omega, rfl, rfl, hc2, HF2.out, P2.out, S2.out, bq.out.trans (bu2.mono zq)⟩
         case measure => omega
end Go.Proofs.YtpmgjpchpmkklaaGreatDoor
