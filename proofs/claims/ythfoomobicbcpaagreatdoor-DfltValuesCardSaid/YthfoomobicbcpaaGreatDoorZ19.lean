/- Joined by tools/bundle.py: DC10 R11C VCA VCB. -/
import Derived.Deep.LoopGhost
import Derived.BigQuiet
import Derived.Deep.RegionHeldLaw
import Derived.Test.YthfoomobicbcpaaGreatDoorZ4
import Derived.Test.YthfoomobicbcpaaGreatDoorZ5
import Derived.Test.YthfoomobicbcpaaGreatDoorZ8
import Derived.Test.YthfoomobicbcpaaGreatDoorZ18
import Derived.Test.YthfoomobicbcpaaGreatDoorZ0
set_option maxRecDepth 100000
set_option maxHeartbeats 16000000
namespace Go.Proofs.YthfoomobicbcpaaGreatDoor
open Go.ChangeShapes Go.WideShapes Go.ChangeAt Go.RowKit Mem
def fdOk (s : Sc) (f : Fd) : Prop := f.has = true → ∃ v, dtold s f.ty f.df = some v
def ndOk (s : Sc) (n : Nd) : Prop := ∀ k (h : k < n.fs.length), fdOk s (n.fs[k]'h)
def dfOk (s : Sc) : Prop := ∀ i (h : i < s.nodes.length), ndOk s (s.nodes[i]'h)
noncomputable def chkZ (s : Sc) : Int := @ite _ s.right (Classical.propDecidable _) (@ite _ (dfOk s) (Classical.propDecidable _) 0 35) 2
theorem chk_no {s : Sc} (h : ¬ s.right) : chkZ s = 2 := by unfold chkZ; rw [if_neg h]
theorem chk_bad {s : Sc} (h : s.right) (g : ¬ dfOk s) : chkZ s = 35 := by unfold chkZ; rw [if_pos h, if_neg g]
theorem chk_ok {s : Sc} (h : s.right) (g : dfOk s) : chkZ s = 0 := by unfold chkZ; rw [if_pos h, if_pos g]
def ChP (z : Int) (w : World) (e : Ending) (w' : World) : Prop := e = .returned (.int .i64 z) ∧ Below w.heap.size w w'
theorem chp_ret {z z' : Int} {w w' : World} (h : z = z') (b : Below w.heap.size w w') : ChP z w (.returned (.int .i64 z')) w' := by subst h; exact ⟨rfl, b⟩
theorem check13_any {s : Sc} (hm : s.sm) (hr : s.rng) (w : World) (hL : LaidN w) (A : Option Addr) (c : Nat) (hs : Lies w (· < w.heap.size) s.enc [.slice A s.nodes.length c, .int .i64 s.root]) :
 Calls Tryz.prog 19 #[.agg #[.slice A s.nodes.length c, .int .i64 s.root]] w (ChP (chkZ s) w) := by
 have CS := cell_set
 obtain ⟨_, _, e, la, ra⟩ := Sc.out.1 hs
 simp only [List.cons.injEq, Value.slice.injEq, true_and, and_true] at e
 obtain ⟨rfl, rfl⟩ := e
 obtain ⟨nn, hnn⟩ : ∃ m, m = s.nodes.length := ⟨_, rfl⟩
 obtain ⟨rt, hrt⟩ : ∃ m, m = s.root := ⟨_, rfl⟩
 obtain ⟨W, hW⟩ : ∃ W, W = (w.alloc (.cells #[.slice A nn c, .int .i64 rt] 30)) := ⟨_, rfl⟩
 have ZS : Hid (W.heap.size = w.heap.size + 1) := by show _ = _; rw [hW]; simp
 have BW : Hid (Below w.heap.size w W) := by rw [hW]; exact (Below.refl _ _).alloc (Nat.le_refl _) _
 have W2 : Hid (B2 W w.heap.size 30 (.slice A nn c) (.int .i64 rt)) := by rw [hW]; exact B2.newat rfl
 have SR := Lib.hid (fun W (b : Below w.heap.size w W) => sRightT_any s hm W (LaidN.below hL b) A c (hs.on b))
 have TC : Hid (∀ (q1 : s.right) (p : Nat) (hp : p < s.nodes.length) (f : Fd), f ∈ (s.nodes[p]'hp).fs → ∀ W, Below w.heap.size w W → ∀ D3 D4 d3 d4, TreeS W (· < W.heap.size) f.df [.int .i64 f.df.k, .int .i64 f.df.n, .string f.df.t, .slice D3 f.df.its.length d3, .slice D4 f.df.ks.length d4] → Calls Tryz.prog 37 #[.slice A nn c, .int .i64 f.ty, .agg #[.int .i64 f.df.k, .int .i64 f.df.n, .string f.df.t, .slice D3 f.df.its.length d3, .slice D4 f.df.ks.length d4]] W (DP (tellE (dtold s f.ty f.df)) W)) := fun q1 p hp f hf W b D3 D4 d3 d4 ht => by
  obtain ⟨k9, hi, hj⟩ := field_in ⟨q1, hr, hm⟩ hp hf
  rw [hnn]
  exact told13_any ⟨q1, hr, hm⟩ f.ty hi.1 hi.2 f.df hj W (LaidN.below hL b) A c la ((ra.below b).more b.size) D3 D4 d3 d4 ht
 have RA := Lib.hid ra
 obtain ⟨R, hR⟩ : ∃ R, R = chkZ s := ⟨_, rfl⟩
 have H2 : Hid (¬ s.right → R = 2) := fun h => hR.trans (chk_no h)
 have H35 : Hid (s.right → ¬ dfOk s → R = 35) := fun h g => hR.trans (chk_bad h g)
 have H0 : Hid (s.right → dfOk s → R = 0) := fun h g => hR.trans (chk_ok h g)
 rw [← hR]
 have HNN := Lib.hid hnn
 rw [← hnn] at SR ⊢
 rw [← hrt] at SR ⊢
 have nmax : nn ≤ 9223372036854775807 := by have := la.2; unfold maxLen at this; omega
 clear hR hs hL hm hr la ra hnn hrt
 go_enter Tryz.func19, Tryz.ntmps19
 go_wp2_with fail
 rw [← hW]
 clear hW
 with_reducible refine (SR.out _ BW.out).mono ?_
 rintro e w1 ⟨b, rfl, hbb, b1⟩
 have s1 := b1.size
 rw [ZS.out] at s1
 have BW1 : Hid (Below w.heap.size w w1) := BW.out.trans (b1.mono BW.out.size)
 have Y2 := Lib.hid (B2.below W2.out b1 W2.out.lt)
 obtain ⟨_, _, _, _⟩ := B2.facts Y2.out
 have HBB := Lib.hid hbb
 have bw1 := BW1.out
 clear hbb b1 W2
 cases b with
 | false =>
  have Z : Hid (R = 2) := H2.out fun h => by have := HBB.out.2 h; cases this
  clear H2 H35 H0 TC HBB
  go_wp2_with fail
  go_ret
  exact chp_ret Z.out bw1
 | true =>
  have HQ := Lib.hid (HBB.out.1 (by first | rfl | trivial))
  have ly := Y2.out.lt
  clear HBB H2
  go_wp2_with fail
  go_loopw [4, 6, 7, 8, 15] (fun _ _ _ _ t wr => ∃ i : Nat, i ≤ nn ∧ t = .int .i64 (i : Int) ∧ Hid (∀ m (h : m < s.nodes.length), m < i → ndOk s (s.nodes[m]'h)) ∧ Hid (Below w1.heap.size w1 wr)) (fun _ _ _ _ t _ => nn - (intOf t).toNat)
  case atStart => exact ⟨0, Nat.zero_le _, rfl, (fun _ _ h => absurd h (Nat.not_lt_zero _)), Below.refl _ _⟩
  case round =>
   obtain ⟨i, hi, rfl, HE, HBL⟩ := hrel
   have bl := HBL.out
   have z := bl.size
   have bwr : Hid (Below w.heap.size w wr) := BW1.out.trans (bl.mono bw1.size)
   by_cases hin : i < nn
   · have hp : i < s.nodes.length := by rw [← HNN.out]; exact hin
     have q : (i : Int) < (nn : Int) := by omega
     obtain ⟨g1, o1, X2, x2, X3, x3, X4, x4, X9, x9, e1, hg1, ⟨u0, u1, u2, u3, u4, u5, u6, u7, u8, u9⟩, hnd⟩ := nodes_at (RA.out.below bwr.out) hp
     obtain ⟨_, _, Y3, y3, _, _, _, _, en, _, _, lf, rf, _, _, _, _⟩ := Nd.out.1 hnd
     simp only [List.cons.injEq, Value.slice.injEq, true_and, and_true] at en
     obtain ⟨-, ⟨rfl, rfl⟩, -, -⟩ := en
     have TC1 := Lib.hid (TC.out HQ.out i hp)
     have NX : Hid (ndOk s (s.nodes[i]'hp) → ∀ m (h : m < s.nodes.length), m < i + 1 → ndOk s (s.nodes[m]'h)) := fun e m h k => by
      rcases Nat.lt_or_ge m i with p | p
      · exact HE.out m h p
      · obtain rfl : m = i := by omega
        exact e
     have NO : Hid (¬ ndOk s (s.nodes[i]'hp) → R = 35) := fun e => H35.out HQ.out fun h => e (h i hp)
     generalize s.nodes[i]'hp = T at *
     obtain ⟨nf, hnf⟩ : ∃ m, m = T.fs.length := ⟨_, rfl⟩
     rw [← hnf] at u3 lf
     have lfm := lf.2
     unfold maxLen at lfm
     have lg1 : g1 < w.heap.size := hg1
     subst e1
     have HNF := Lib.hid hnf
     have RF := Lib.hid rf
     have z2 := (B2.below Y2.out bl ly)
     obtain ⟨_, _, _, _⟩ := B2.facts z2
     have BV : Hid (Below wr.heap.size wr (wr.alloc (.cells #[.int .i64 T.k, .string T.name, .slice X2 T.al.length x2, .slice X3 nf x3, .slice X4 T.sy.length x4, .bool T.has, .string T.df, .int .i64 T.size, .int .i64 T.items, .slice X9 T.br.length x9] 59))) := (Below.refl _ _).alloc (Nat.le_refl _) _
     clear hnd HE rf hnf hp
     go_wp2_with fail
     obtain ⟨V1, hV1⟩ : ∃ V, V = (wr.alloc (.cells #[.int .i64 T.k, .string T.name, .slice X2 T.al.length x2, .slice X3 nf x3, .slice X4 T.sy.length x4, .bool T.has, .string T.df, .int .i64 T.size, .int .i64 T.items, .slice X9 T.br.length x9] 59)) := ⟨_, rfl⟩
     rw [← hV1] at BV ⊢
     clear hV1
     have bV := BV.out.size
     have BWV : Hid (Below w.heap.size w V1) := bwr.out.trans (BV.out.mono bwr.out.size)
     have BLV : Hid (Below w1.heap.size w1 V1) := bl.trans (BV.out.mono z)
     obtain ⟨wo, hwo⟩ : ∃ X, X = wr := ⟨_, rfl⟩
     subst hwo
     go_loopw [6, 7, 8, 22] (fun _ _ _ t wr => ∃ k : Nat, k ≤ nf ∧ t = .int .i64 (k : Int) ∧ Hid (∀ m (h : m < T.fs.length), m < k → fdOk s (T.fs[m]'h)) ∧ Hid (Below V1.heap.size V1 wr)) (fun _ _ _ t _ => nf - (intOf t).toNat)
     case atStart => exact ⟨0, Nat.zero_le _, rfl, (fun _ _ h => absurd h (Nat.not_lt_zero _)), Below.refl _ _⟩
     case round =>
      obtain ⟨k, hk, rfl, HF, HBF⟩ := hrel
      have bf := HBF.out
      have zf := bf.size
      have bwf : Hid (Below w.heap.size w wr) := BWV.out.trans (bf.mono BWV.out.size)
      by_cases hkn : k < nf
      · have hq : k < T.fs.length := by rw [← HNF.out]; exact hkn
        have qk : (k : Int) < (nf : Int) := by omega
        obtain ⟨g2, o2, A1, c1, D3, d3, D4, d4, e2, hg2, ⟨f0, f1, f2, f3, f4, f5, f6, f7, f8⟩, _, _, tx⟩ := fields_at (RF.out.keep (S' := (· < w.heap.size)) (fun p hp => ((BV.out.trans (bf.mono bV)).cell (by have : p.block < w.heap.size := hp; have := bwr.out.size; omega))) (fun _ h => h)) hq
        have TC2 := Lib.hid (TC1.out _ (List.getElem_mem hq))
        have FX : Hid (fdOk s (T.fs[k]'hq) → ∀ m (h : m < T.fs.length), m < k + 1 → fdOk s (T.fs[m]'h)) := fun e m h l => by
         rcases Nat.lt_or_ge m k with p | p
         · exact HF.out m h p
         · obtain rfl : m = k := by omega
           exact e
        have FO : Hid (¬ fdOk s (T.fs[k]'hq) → R = 35) := fun e => NO.out fun h => e (h k hq)
        have FX1 : Hid (((T.fs[k]'hq).has = true → ∃ v, dtold s (T.fs[k]'hq).ty (T.fs[k]'hq).df = some v) → ∀ m (h : m < T.fs.length), m < k + 1 → fdOk s (T.fs[m]'h)) := FX.out
        have FO1 : Hid (¬ ((T.fs[k]'hq).has = true → ∃ v, dtold s (T.fs[k]'hq).ty (T.fs[k]'hq).df = some v) → R = 35) := FO.out
        clear FX FO
        generalize T.fs[k]'hq = F at *
        generalize F.has = tb at *
        subst e2
        have lg2 : g2 < w.heap.size := hg2
        have TX := Lib.hid tx
        have z3 := B2.below z2 (BV.out.trans (bf.mono bV)) (by omega)
        obtain ⟨_, _, _, _⟩ := B2.facts z3
        have BA : Hid (Below wr.heap.size wr (wr.alloc (.cells #[.string F.name, .slice A1 F.al.length c1, .int .i64 F.ty, .bool tb, .int .i64 F.df.k, .int .i64 F.df.n, .string F.df.t, .slice D3 F.df.its.length d3, .slice D4 F.df.ks.length d4] 61))) := (Below.refl _ _).alloc (Nat.le_refl _) _
        have BWA : Hid (Below w.heap.size w (wr.alloc (.cells #[.string F.name, .slice A1 F.al.length c1, .int .i64 F.ty, .bool tb, .int .i64 F.df.k, .int .i64 F.df.n, .string F.df.t, .slice D3 F.df.its.length d3, .slice D4 F.df.ks.length d4] 61))) := bwf.out.trans (BA.out.mono bwf.out.size)
        have BFA : Hid (Below V1.heap.size V1 (wr.alloc (.cells #[.string F.name, .slice A1 F.al.length c1, .int .i64 F.ty, .bool tb, .int .i64 F.df.k, .int .i64 F.df.n, .string F.df.t, .slice D3 F.df.its.length d3, .slice D4 F.df.ks.length d4] 61))) := bf.trans (BA.out.mono zf)
        have TC3 := Lib.hid (TC2.out _ BWA.out D3 D4 d3 d4 (TreeS.keep (fun p hp => BA.out.cell (by have : p.block < w.heap.size := hp; have := bwf.out.size; omega)) (fun b hb => by have : b < w.heap.size := hb; have := bwf.out.size; simp; omega) TX.out))
        have lww : w.heap.size < wr.heap.size := by omega
        clear tx TC2 hq HF
        cases tb with
        | false =>
         have OK := Lib.hid (FX1.out fun g => by cases g)
         clear FX1 FO1 TC3
         go_wp2_with fail
         go_roundw
         case rel => exact ⟨k + 1, by omega, by go_num, OK, BFA.out⟩
         case measure => simp [intOf]; omega
        | true =>
        obtain ⟨o, ho⟩ : ∃ o, o = dtold s F.ty F.df := ⟨_, rfl⟩
        have FX2 : Hid ((∃ v, o = some v) → ∀ m (h : m < T.fs.length), m < k + 1 → fdOk s (T.fs[m]'h)) := fun e => FX1.out fun _ => by rw [← ho]; exact e
        have FO2 : Hid (o = none → R = 35) := fun e => FO1.out fun g => by obtain ⟨v, hv⟩ := g rfl; rw [← ho, e] at hv; cases hv
        rw [← ho] at TC3
        clear FX1 FO1 ho
        obtain ⟨r, hr⟩ : ∃ r, r = tellE o := ⟨_, rfl⟩
        rw [← hr] at TC3
        go_wp2_with fail
        with_reducible refine TC3.out.mono ?_
        rintro e w5 ⟨b5, Z3, Z4, Z5, q3, q4, q5, rfl, hlv⟩
        have s5 := b5.size
        have BW5 : Hid (Below w.heap.size w w5) := BWA.out.trans (b5.mono BWA.out.size)
        have BF5 : Hid (Below V1.heap.size V1 (w5.alloc (.cells #[.int .i64 (resV r).k, .int .i64 (resV r).n, .int .u64 (resV r).bt, .slice Z3 (resV r).bs.length q3, .slice Z4 (resV r).its.length q4, .slice Z5 (resV r).ks.length q5] 42))) := (BFA.out.trans (b5.mono BFA.out.size)).trans ((Below.refl _ _).alloc (BFA.out.trans (b5.mono BFA.out.size)).size _)
        have bw5 := BW5.out
        obtain ⟨vk, hvk⟩ : ∃ x, x = (resV r).k := ⟨_, rfl⟩
        obtain ⟨vn, hvn⟩ : ∃ x, x = (resV r).n := ⟨_, rfl⟩
        obtain ⟨vb, hvb⟩ : ∃ x, x = (resV r).bt := ⟨_, rfl⟩
        obtain ⟨z3, hz3⟩ : ∃ x, x = (resV r).bs.length := ⟨_, rfl⟩
        obtain ⟨z4, hz4⟩ : ∃ x, x = (resV r).its.length := ⟨_, rfl⟩
        obtain ⟨z5, hz5⟩ : ∃ x, x = (resV r).ks.length := ⟨_, rfl⟩
        obtain ⟨er, her⟩ : ∃ x, x = resE r := ⟨_, rfl⟩
        rw [← hvk, ← hvn, ← hvb, ← hz3, ← hz4, ← hz5] at hlv BF5 ⊢
        rw [← her]
        have HE : Hid (vk = (resV r).k ∧ vn = (resV r).n ∧ vb = (resV r).bt ∧ z3 = (resV r).bs.length ∧ z4 = (resV r).its.length ∧ z5 = (resV r).ks.length ∧ er = resE r) := ⟨hvk, hvn, hvb, hz3, hz4, hz5, her⟩
        have HLV := Lib.hid hlv
        clear hvk hvn hvb hz3 hz4 hz5 her hlv
        clear TC3 b5 HLV
        cases o with
        | none =>
         have Z := Lib.hid (FO2.out rfl)
         obtain rfl : er = 35 := by have := HE.out.2.2.2.2.2.2; rw [this, hr]; rfl
         clear HE hr FX2 FO2
         go_wp2_with fail
         go_ret
         exact chp_ret Z.out (BW5.out.alloc BW5.out.size _)
        | some v =>
         have OK := Lib.hid (FX2.out ⟨v, rfl⟩)
         obtain rfl : er = 0 := by have := HE.out.2.2.2.2.2.2; rw [this, hr]; rfl
         clear HE hr FX2 FO2
         go_wp2_with fail
         go_roundw
         case rel => exact ⟨k + 1, by omega, by go_num, OK, BF5.out⟩
         case measure => simp [intOf]; omega
      · obtain rfl : k = nf := by omega
        have qk : ¬ (k : Int) < (k : Int) := by omega
        have OK := Lib.hid (NX.out fun m h => HF.out m h (by rw [HNF.out]; exact h))
        have BL2 : Hid (Below w1.heap.size w1 wr) := BLV.out.trans (bf.mono BLV.out.size)
        clear HF NX NO TC1
        go_wp2_with fail
        go_roundw
        case rel => exact ⟨i + 1, by omega, by go_num, OK, BL2.out⟩
        case measure => simp [intOf]; omega
   · obtain rfl : i = nn := by omega
     have q : ¬ (i : Int) < (i : Int) := by omega
     have Z : Hid (R = 0) := H0.out HQ.out fun m h => HE.out m h (by rw [HNN.out]; exact h)
     have bwr' := bwr.out
     clear HE H0 H35
     go_wp2_with fail
     go_ret
     exact chp_ret Z.out bwr'
noncomputable def V.same (a b : V) : Bool := @decide (a = b) (Classical.propDecidable _)
theorem V.same_yes {a b : V} (h : a = b) : V.same a b = true := by unfold V.same; simpa using h
theorem V.same_no {a b : V} (h : a ≠ b) : V.same a b = false := by unfold V.same; simpa using h
theorem V.same_iff {a b : V} : V.same a b = true ↔ a = b := by unfold V.same; simp
theorem bytes_inj {a b : List UInt8} (h : (⟨a.toArray⟩ : ByteArray) = ⟨b.toArray⟩) : a = b := by
 have := ByteArray.mk.inj h
 simpa using congrArg Array.toList this
theorem bequal_any (A D : Option Addr) (c d : Nat) (l m : List UInt8) (w : World) (hl : Bys w w.heap.size A l) (hm : Bys w w.heap.size D m) :
 Calls Tryz.prog 43 #[.slice A l.length c, .slice D m.length d] w (fun e w' => e = .returned (.bool (decide (l = m))) ∧ w' = w) := by
 have c1 := hl.str (P := Tryz.prog) byteT strT c
 have c2 := hm.str (P := Tryz.prog) byteT strT d
 have q : ((⟨l.toArray⟩ : ByteArray).toList == (⟨m.toArray⟩ : ByteArray).toList) = decide (l = m) := by
  rw [str_beq]
  by_cases h : l = m
  · subst h; simp
  · have : ¬ (⟨l.toArray⟩ : ByteArray) = ⟨m.toArray⟩ := fun e => h (bytes_inj e)
    simp [h, this]
 have Q := Lib.hid q
 clear q
 generalize (⟨l.toArray⟩ : ByteArray) = S1 at *
 generalize (⟨m.toArray⟩ : ByteArray) = S2 at *
 generalize decide (l = m) = R at *
 generalize l.length = n1 at *
 generalize m.length = n2 at *
 have q := Q.out
 clear hl hm Q
 cases R
 all_goals
  go_enter Tryz.func43, Tryz.ntmps43
  go_wp2_with fail
  go_ret
  exact ⟨rfl, rfl⟩
noncomputable def vsames (a b : List V) : Bool := @decide (a = b) (Classical.propDecidable _)
theorem vsames_yes {a b : List V} (h : a = b) : vsames a b = true := by unfold vsames; simpa using h
theorem vsames_no {a b : List V} (h : a ≠ b) : vsames a b = false := by unfold vsames; simpa using h
def VSameC (t : V) : Prop := ∀ (u : V) (w : World) (A3 A4 A5 D3 D4 D5 : Option Addr) (c3 c4 c5 d3 d4 d5 : Nat),
 Lies w (· < w.heap.size) t.enc [.int .i64 t.k, .int .i64 t.n, .int .u64 t.bt, .slice A3 t.bs.length c3, .slice A4 t.its.length c4, .slice A5 t.ks.length c5] → Lies w (· < w.heap.size) u.enc [.int .i64 u.k, .int .i64 u.n, .int .u64 u.bt, .slice D3 u.bs.length d3, .slice D4 u.its.length d4, .slice D5 u.ks.length d5] →
 Calls Tryz.prog 23 #[.agg #[.int .i64 t.k, .int .i64 t.n, .int .u64 t.bt, .slice A3 t.bs.length c3, .slice A4 t.its.length c4, .slice A5 t.ks.length c5], .agg #[.int .i64 u.k, .int .i64 u.n, .int .u64 u.bt, .slice D3 u.bs.length d3, .slice D4 u.its.length d4, .slice D5 u.ks.length d5]] w (Told (V.same t u) w)
theorem vEqF_any (its its' : List V) (IHs : ∀ i (h : i < its.length), VSameC (its[i]'h)) (w : World) (A3 D3 : Option Addr) (c3 d3 : Nat) (rt : RowD w (· < w.heap.size) 6 (its.map V.enc) A3) (ru : RowD w (· < w.heap.size) 6 (its'.map V.enc) D3) (hl : its.length ≤ maxLen) (_hl' : its'.length ≤ maxLen) :
 Calls Tryz.prog 45 #[.slice A3 its.length c3, .slice D3 its'.length d3, .func (.func 23) #[] #[]] w (Told (vsames its its') w) := by
 have CS := cell_set
 obtain ⟨R, hR⟩ : ∃ R, R = vsames its its' := ⟨_, rfl⟩
 have HR := Lib.hid hR
 rw [← hR]
 by_cases hlen : its.length = its'.length
 · have RT := Lib.hid rt; have RU := Lib.hid ru
   obtain ⟨ni, hni⟩ : ∃ m, m = its.length := ⟨_, rfl⟩
   have HNI := Lib.hid hni
   have HLI : Hid (its'.length = ni) := hlen.symm.trans hni.symm
   have ni0 : ni ≤ 9223372036854775807 := by unfold maxLen at hl; omega
   have IH := Lib.hid IHs
   rw [HLI.out, ← HNI.out]
   clear hni hlen rt ru hl hR IHs
   go_enter Tryz.func45, Tryz.ntmps45
   go_wp2_with fail
   go_loopw [17] (fun t wr => ∃ p : Nat, p ≤ ni ∧ t = .int .i64 (p : Int) ∧ Hid (∀ j (h1 : j < its.length) (h2 : j < its'.length), j < p → its[j]'h1 = its'[j]'h2) ∧ Below w.heap.size w wr) (fun t _ => ni - (intOf t).toNat)
   case atStart => exact ⟨0, by omega, rfl, fun _ _ _ h => absurd h (Nat.not_lt_zero _), Below.refl _ _⟩
   case round =>
    obtain ⟨p, hp, rfl, HE, bl⟩ := hrel
    have gsz := bl.size
    by_cases hpn : p < ni
    · have h1 : p < its.length := by rw [← HNI.out]; exact hpn
      have h2 : p < its'.length := by rw [HLI.out]; exact hpn
      obtain ⟨b1, o1, X3, x3, X4, x4, X5, x5, e1, hb1, ⟨y0, y1, y2, y3, y4, y5⟩, ty⟩ := values_at (RT.out.below bl) h1
      obtain ⟨b2, o2, Z3, z3, Z4, z4, Z5, z5, e2, hb2, ⟨v0, v1, v2, v3, v4, v5⟩, tv⟩ := values_at (RU.out.below bl) h2
      have lb1 : b1 < wr.heap.size := by omega
      have lb2 : b2 < wr.heap.size := by omega
      have nb2 : b2 ≠ wr.heap.size := by omega
      have IHp := Lib.hid (IH.out p h1)
      have he := HE.out
      have I2 := Lib.hid (fun W a b => IHp.out (its'[p]'h2) W X3 X4 X5 Z3 Z4 Z5 x3 x4 x5 z3 z4 z5 a b)
      have NO : Hid (V.same (its[p]'h1) (its'[p]'h2) = false → R = false) := fun e => HR.out.trans (vsames_no fun g => by subst g; rw [V.same_yes rfl] at e; exact absurd e (by simp))
      have HE2 : Hid (V.same (its[p]'h1) (its'[p]'h2) = true → ∀ j (h1 : j < its.length) (h2 : j < its'.length), j < p + 1 → its[j]'h1 = its'[j]'h2) := fun e j g1 g2 hj => by
       rcases Nat.lt_or_ge j p with g | g
       · exact he j g1 g2 g
       · obtain rfl : j = p := by omega
         exact V.same_iff.1 e
      obtain ⟨SB, hSB⟩ : ∃ b, b = V.same (its[p]'h1) (its'[p]'h2) := ⟨_, rfl⟩
      rw [← hSB] at I2 NO HE2
      generalize its[p]'h1 = T at *
      generalize its'[p]'h2 = U at *
      subst e1 e2
      have TY := Lib.hid (ty.more gsz); have TV := Lib.hid (tv.more gsz)
      clear he h1 h2 ty tv IHp hSB HE
      cases SB with
      | true =>
       have HE3 := Lib.hid (HE2.out rfl)
       clear HE2 NO
       go_wp2_with fail
       with_reducible refine (I2.out _ (TY.out.on bqq) (TV.out.on bqq)).mono ?_
       rintro e w3 ⟨rfl, b3⟩
       have bl3 : Below w.heap.size w w3 := bqq
       go_wp2_with fail
       go_roundw
       case rel => exact ⟨p + 1, by omega, by go_num, HE3, bl3⟩
       case measure => simp [intOf]; omega
      | false =>
       have Z : Hid (R = false) := NO.out rfl
       clear HE2 NO
       go_wp2_with fail
       with_reducible refine (I2.out _ (TY.out.on bqq) (TV.out.on bqq)).mono ?_
       rintro e w3 ⟨rfl, b3⟩
       have bl3 : Below w.heap.size w w3 := bqq
       go_wp2_with fail
       go_ret
       exact told_ret Z.out bqq
    · obtain rfl : p = ni := by omega
      have Z : Hid (R = true) := HR.out.trans (vsames_yes (List.ext_getElem (by rw [← HNI.out, HLI.out]) fun j g1 g2 => HE.out j g1 g2 (by rw [HNI.out]; exact g1)))
      clear HE hpn
      go_wp2_with fail
      go_ret
      exact told_ret Z.out bqq
 · have Z : Hid (R = false) := hR.trans (vsames_no fun e => hlen (by rw [e]))
   have q : ((its.length : Int) != (its'.length : Int)) = true := by rw [bne_iff_ne]; omega
   clear hlen rt ru hR IHs
   go_enter Tryz.func45, Tryz.ntmps45
   go_wp2_with fail
   go_ret
   exact told_ret Z.out bqq
theorem vSame_step (k n bt : Int) (bs : List UInt8) (its : List V) (ks : List ByteArray) (IHs : ∀ i (h : i < its.length), VSameC (its[i]'h)) : VSameC (.mk k n bt bs its ks) := by
 intro u w A3 A4 A5 D3 D4 D5 c3 c4 c5 d3 d4 d5 ht hu
 cases u with
 | mk k' n' bt' bs' its' ks' =>
  have CS := cell_set
  obtain ⟨_, _, _, _, _, _, e, l3, r3, l4, r4, l5, f5⟩ := V.out.1 ht
  simp only [V.k, V.n, V.bt, V.bs, V.its, V.ks, List.cons.injEq, Value.slice.injEq, true_and, and_true] at e l3 r3 l4 r4 l5 f5
  obtain ⟨⟨rfl, rfl⟩, ⟨rfl, rfl⟩, rfl, rfl⟩ := e
  obtain ⟨_, _, _, _, _, _, e, m3, s3, m4, s4, m5, g5⟩ := V.out.1 hu
  simp only [V.k, V.n, V.bt, V.bs, V.its, V.ks, List.cons.injEq, Value.slice.injEq, true_and, and_true] at e m3 s3 m4 s4 m5 g5
  obtain ⟨⟨rfl, rfl⟩, ⟨rfl, rfl⟩, rfl, rfl⟩ := e
  simp only [V.k, V.n, V.bt, V.bs, V.its, V.ks]
  obtain ⟨RR, hRR⟩ : ∃ R, R = V.same (.mk k n bt bs its ks) (.mk k' n' bt' bs' its' ks') := ⟨_, rfl⟩
  have HR := Lib.hid hRR
  rw [← hRR]
  have Y3 := Lib.hid (row_bys r3); have Y3' := Lib.hid (row_bys s3)
  have BE := Lib.hid (fun W (b : Below w.heap.size w W) => bequal_any A3 D3 c3 d3 bs bs' W ((Y3.out.below b).more b.size) ((Y3'.out.below b).more b.size))
  have EQ := Lib.hid (fun W (b : Below w.heap.size w W) => equal_any (· < W.heap.size) A5 D5 c5 d5 ks ks' W (FlS.keep (Below.keeps b) (fun _ h => Nat.lt_of_lt_of_le h b.size) f5) (FlS.keep (Below.keeps b) (fun _ h => Nat.lt_of_lt_of_le h b.size) g5) l5.2 m5.2)
  obtain ⟨R, hR⟩ : ∃ R, R = vsames its its' := ⟨_, rfl⟩
  have EFD : Hid (∀ W, Below w.heap.size w W → Calls Tryz.prog 45 #[.slice A4 its.length c4, .slice D4 its'.length d4, .func (.func 23) #[] #[]] W (Told R W)) := fun W b => by
   rw [hR]
   exact vEqF_any its its' IHs W A4 D4 c4 d4 ((r4.below b).more b.size) ((s4.below b).more b.size) l4.2 m4.2
  by_cases hk : k = k'
  rotate_left
  · have Z := Lib.hid (HR.out.trans (V.same_no fun e => hk (by injection e)))
    have q : (k == k') = false := by simpa using hk
    clear hk hRR ht hu r3 r4 f5 s3 s4 g5 IHs BE EQ EFD hR HR
    go_enter Tryz.func23, Tryz.ntmps23
    go_wp2_with fail
    go_ret
    exact told_ret Z.out bqq
  subst hk
  by_cases hn : n = n'
  rotate_left
  · have Z := Lib.hid (HR.out.trans (V.same_no fun e => hn (by injection e)))
    have q : (n == n') = false := by simpa using hn
    clear hn hRR ht hu r3 r4 f5 s3 s4 g5 IHs BE EQ EFD hR HR
    go_enter Tryz.func23, Tryz.ntmps23
    go_wp2_with fail
    go_ret
    exact told_ret Z.out bqq
  subst hn
  by_cases hb : bt = bt'
  rotate_left
  · have Z := Lib.hid (HR.out.trans (V.same_no fun e => hb (by injection e)))
    have q : (bt == bt') = false := by simpa using hb
    clear hb hRR ht hu r3 r4 f5 s3 s4 g5 IHs BE EQ EFD hR HR
    go_enter Tryz.func23, Tryz.ntmps23
    go_wp2_with fail
    go_ret
    exact told_ret Z.out bqq
  subst hb
  by_cases hs : bs = bs'
  rotate_left
  · have Z := Lib.hid (HR.out.trans (V.same_no fun e => hs (by injection e)))
    rw [show decide (bs = bs') = false by simpa using hs] at BE
    clear hs hRR ht hu r3 r4 f5 s3 s4 g5 IHs EQ EFD hR HR
    generalize bs.length = nb at *
    generalize bs'.length = nb' at *
    go_enter Tryz.func23, Tryz.ntmps23
    go_wp2_with fail
    with_reducible refine (BE.out _ bqq).mono ?_
    rintro e w3 ⟨rfl, rfl⟩
    go_wp2_with fail
    go_ret
    exact told_ret Z.out bqq
  subst hs
  rw [show decide (bs = bs) = true by simp] at BE
  by_cases hks : ks = ks'
  rotate_left
  · have Z := Lib.hid (HR.out.trans (V.same_no fun e => hks (by injection e)))
    rw [show eqs ks ks' = false by unfold eqs; simpa using hks] at EQ
    clear hks hRR ht hu r3 r4 f5 s3 s4 g5 IHs EFD hR HR
    go_enter Tryz.func23, Tryz.ntmps23
    go_wp2_with fail
    with_reducible refine (BE.out _ bqq).mono ?_
    rintro e w3 ⟨rfl, rfl⟩
    go_wp2_with fail
    with_reducible refine (EQ.out _ bqq).mono ?_
    rintro e w3 ⟨rfl, nd, rfl⟩
    go_wp2_with fail
    go_ret
    exact told_ret Z.out bqq
  subst hks
  rw [show eqs ks ks = true by unfold eqs; simp] at EQ
  have Z : Hid (RR = R) := by
   show _ = _
   rw [HR.out, hR]
   by_cases hi : its = its'
   · subst hi; rw [V.same_yes rfl, vsames_yes rfl]
   · rw [V.same_no (fun e => hi (by injection e)), vsames_no hi]
  clear hRR ht hu r3 r4 f5 s3 s4 g5 IHs hR HR
  go_enter Tryz.func23, Tryz.ntmps23
  go_wp2_with fail
  with_reducible refine (BE.out _ bqq).mono ?_
  rintro e w3 ⟨rfl, rfl⟩
  go_wp2_with fail
  with_reducible refine (EQ.out _ bqq).mono ?_
  rintro e w3 ⟨rfl, nd, rfl⟩
  go_wp2_with fail
  with_reducible refine (EFD.out _ bqq).mono ?_
  rintro e w4 ⟨rfl, b4⟩
  have bw : Below w.heap.size w w4 := bqq
  go_wp2_with fail
  go_ret
  exact told_ret Z.out bw
theorem vSame_at : ∀ (N : Nat) (t : V), SizeOf.sizeOf t ≤ N → VSameC t
 | 0, t, h => by cases t; simp at h
 | N + 1, .mk k n bt bs its ks, hN => vSame_step k n bt bs its ks fun i h => vSame_at N (its[i]'h) (by have := V.lt_its (v := .mk k n bt bs its ks) (i := i) h; simp only [V.its] at this; omega)
theorem vSame_any (t : V) : VSameC t := vSame_at _ t (Nat.le_refl _)
theorem vdeep_at : ∀ (N : Nat) (v : V), SizeOf.sizeOf v ≤ N → v.deep ≤ 1000000 → ∀ (w : World) (A3 A4 A5 : Option Addr) (c3 c4 c5 : Nat),
 Lies w (· < w.heap.size) v.enc [.int .i64 v.k, .int .i64 v.n, .int .u64 v.bt, .slice A3 v.bs.length c3, .slice A4 v.its.length c4, .slice A5 v.ks.length c5] →
 Calls Tryz.prog 22 #[.agg #[.int .i64 v.k, .int .i64 v.n, .int .u64 v.bt, .slice A3 v.bs.length c3, .slice A4 v.its.length c4, .slice A5 v.ks.length c5]] w (Num_ v.deep w)
 | 0, v, h => by cases v; simp at h
 | N + 1, .mk k n bt bs its ks, hN => by
  intro hD w A3 A4 A5 c3 c4 c5 ht
  have CS := cell_set
  obtain ⟨_, _, _, _, _, _, e, l3, r3, l4, r4, l5, f5⟩ := V.out.1 ht
  simp only [V.k, V.n, V.bt, V.bs, V.its, V.ks, List.cons.injEq, Value.slice.injEq, true_and, and_true] at e l3 r3 l4 r4 l5 f5
  obtain ⟨⟨rfl, rfl⟩, ⟨rfl, rfl⟩, rfl, rfl⟩ := e
  have din := V.deep_in (v := .mk k n bt bs its ks); have dout := V.deep_out (v := .mk k n bt bs its ks)
  simp only [V.k, V.n, V.bt, V.bs, V.its, V.ks] at din dout ⊢
  by_cases hk : deepK k
  · have d1 := din hk
    rw [d1] at hD ⊢
    have RT := Lib.hid r4
    obtain ⟨ni, hni⟩ : ∃ m, m = its.length := ⟨_, rfl⟩
    have HNI := Lib.hid hni
    have ni0 : ni ≤ 9223372036854775807 := by have := l4.2; unfold maxLen at this; omega
    have IH : Hid (∀ (i : Nat) (h1 : i < its.length) (W : World) (A3 A4 A5 : Option Addr) (c3 c4 c5 : Nat),
     Lies W (· < W.heap.size) (its[i]'h1).enc [.int .i64 (its[i]'h1).k, .int .i64 (its[i]'h1).n, .int .u64 (its[i]'h1).bt, .slice A3 (its[i]'h1).bs.length c3, .slice A4 (its[i]'h1).its.length c4, .slice A5 (its[i]'h1).ks.length c5] →
     Calls Tryz.prog 22 #[.agg #[.int .i64 (its[i]'h1).k, .int .i64 (its[i]'h1).n, .int .u64 (its[i]'h1).bt, .slice A3 (its[i]'h1).bs.length c3, .slice A4 (its[i]'h1).its.length c4, .slice A5 (its[i]'h1).ks.length c5]] W (Num_ (its[i]'h1).deep W)) := fun i h1 W A3 A4 A5 c3 c4 c5 a =>
     vdeep_at N (its[i]'h1) (by have := V.lt_its (v := .mk k n bt bs its ks) (i := i) h1; simp only [V.its] at this; omega) (by have := V.deeps_at h1; omega) W A3 A4 A5 c3 c4 c5 a
    obtain ⟨DI, hDI⟩ : ∃ d, d = V.deeps its := ⟨_, rfl⟩
    obtain ⟨F, hF⟩ : ∃ F : Nat → Nat, F = fun i => V.deeps (its.take i) := ⟨_, rfl⟩
    have F0 : Hid (F 0 = 0) := by show _ = _; rw [hF]; rfl
    have FS : Hid (∀ i (h : i < its.length), F (i + 1) = max (F i) (its[i]'h).deep) := fun i h => by rw [hF]; exact V.deeps_take h
    have FL : Hid (∀ i, F i ≤ DI) := fun i => by rw [hF, hDI]; exact V.deeps_le its i
    have FA : Hid (F ni = DI) := by show _ = _; rw [hF, hDI, hni]; show V.deeps (its.take its.length) = _; rw [List.take_length]
    rw [← hDI] at hD ⊢
    rw [← HNI.out]
    clear hF hDI hni ht r3 r4 f5 hN d1 din dout l3 l4 l5
    have G0 : Below w.heap.size w (w.alloc (.cells #[.int .i64 k, .int .i64 n, .int .u64 bt, .slice A3 bs.length c3, .slice A4 ni c4, .slice A5 ks.length c5] 42)) := (Below.refl _ _).alloc (Nat.le_refl _) _
    have gz0 : (w.alloc (.cells #[.int .i64 k, .int .i64 n, .int .u64 bt, .slice A3 bs.length c3, .slice A4 ni c4, .slice A5 ks.length c5] 42)).heap.size = w.heap.size + 1 := by simp
    have GZ0 := Lib.hid gz0
    have GG := Lib.hid G0
    have H0 := Lib.hid (B6.newat (w := w) (t := 42) (x0 := .int .i64 k) (x1 := .int .i64 n) (x2 := .int .u64 bt) (x3 := .slice A3 bs.length c3) (x4 := .slice A4 ni c4) (x5 := .slice A5 ks.length c5) rfl)
    clear gz0 G0
    generalize bs.length = nb at *
    generalize ks.length = nk at *
    rcases hk with rfl | rfl | rfl | rfl
    all_goals
     go_enter Tryz.func22, Tryz.ntmps22
     go_wp2_with fail
     go_loopw [3, 16] (fun m t wr => ∃ p : Nat, p ≤ ni ∧ t = .int .i64 (p : Int) ∧ m = .int .i64 (F p : Int) ∧ Below (w.heap.size + 1) (w.alloc (.cells #[.int .i64 _, .int .i64 n, .int .u64 bt, .slice A3 nb c3, .slice A4 ni c4, .slice A5 nk c5] 42)) wr) (fun _ t _ => ni - (intOf t).toNat)
     case atStart => exact ⟨0, by omega, rfl, by rw [F0.out]; rfl, Below.refl _ _⟩
     case round =>
      obtain ⟨p, hp, rfl, rfl, bl⟩ := hrel
      have gsz := bl.size
      rw [GZ0.out] at gsz
      have gsz2 : w.heap.size ≤ wr.heap.size := by omega
      have blw := GG.out.trans (bl.mono (by omega))
      obtain ⟨_, _, _, _, _, _, _, _, _, _, _, _⟩ := B6.facts (B6.below H0.out bl (Nat.lt_succ_self _))
      by_cases hpn : p < ni
      · have h1 : p < its.length := by rw [← HNI.out]; exact hpn
        obtain ⟨b1, o1, X3, x3, X4, x4, X5, x5, e1, hb1, ⟨y0, y1, y2, y3, y4, y5⟩, ty⟩ := values_at (RT.out.below blw) h1
        have I2 := Lib.hid (fun W a => IH.out p h1 W X3 X4 X5 x3 x4 x5 a)
        have fs := FS.out p h1
        have fl := FL.out (p + 1)
        generalize its[p]'h1 = T at *
        subst e1
        have TY := Lib.hid ty
        obtain ⟨dT, hdT⟩ : ∃ d, d = T.deep := ⟨_, rfl⟩
        rw [← hdT] at fs I2
        clear ty h1 hdT
        by_cases hm : F p < dT
        · have FS1 : Hid (F (p + 1) = dT) := by show _ = _; omega
          have qm : (dT : Int) > (F p : Int) := by omega
          clear fs fl hm
          go_wp2_with fail
          with_reducible refine (I2.out _ ((TY.out.more gsz2).on bqq)).mono ?_
          rintro e w3 ⟨rfl, b3'⟩
          have b3 : Below wr.heap.size wr w3 := bqq
          obtain ⟨_, _, _, _, _, _, _, _, _, _, _, _⟩ := B6.facts (B6.below (B6.below H0.out bl (Nat.lt_succ_self _)) b3 (by omega))
          go_wp2_with fail
          go_roundw
          case rel => exact ⟨p + 1, by omega, by go_num, by rw [FS1.out]; first | done | (congr 1; omega) | (congr 1; rw [Int.max_def]; split <;> omega), bl.trans (b3.mono gsz)⟩
          case measure => simp [intOf]; omega
        · have FS1 : Hid (F (p + 1) = F p) := by show _ = _; omega
          have qm : ¬ (dT : Int) > (F p : Int) := by omega
          clear fs fl hm
          go_wp2_with fail
          with_reducible refine (I2.out _ ((TY.out.more gsz2).on bqq)).mono ?_
          rintro e w3 ⟨rfl, b3'⟩
          have b3 : Below wr.heap.size wr w3 := bqq
          obtain ⟨_, _, _, _, _, _, _, _, _, _, _, _⟩ := B6.facts (B6.below (B6.below H0.out bl (Nat.lt_succ_self _)) b3 (by omega))
          go_wp2_with fail
          go_roundw
          case rel => exact ⟨p + 1, by omega, by go_num, by rw [FS1.out]; first | done | (congr 1; omega) | (congr 1; rw [Int.max_def]; split <;> omega), bl.trans (b3.mono gsz)⟩
          case measure => simp [intOf]; omega
      · obtain rfl : p = ni := by omega
        have Z := Lib.hid FA.out
        clear hpn
        go_wp2_with fail
        go_ret
        exact num_ret (by rw [Z.out]; push_cast; first | rfl | exact IntWalk.wrap64_in _ (by omega)) blw
  · have d0 := dout hk
    unfold deepK at hk
    have q9 : (k == 9) = false := by rw [beq_eq_false_iff_ne]; omega
    have q11 : (k == 11) = false := by rw [beq_eq_false_iff_ne]; omega
    have q12 : (k == 12) = false := by rw [beq_eq_false_iff_ne]; omega
    have q13 : (k == 13) = false := by rw [beq_eq_false_iff_ne]; omega
    have Z := Lib.hid d0
    clear ht r3 r4 f5 din dout hk d0 hD
    generalize V.deep (.mk k n bt bs its ks) = DD at *
    go_enter Tryz.func22, Tryz.ntmps22
    go_wp2_with fail
    go_ret
    exact num_ret (by rw [Z.out]; rfl) bqq
end Go.Proofs.YthfoomobicbcpaaGreatDoor
