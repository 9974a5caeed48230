/- Joined by tools/bundle.py: SCK. -/
import Derived.Test.YthfoomobicbcpaaGreatDoorZ2
import Derived.Test.YthfoomobicbcpaaGreatDoorZ4
import Derived.Test.YthfoomobicbcpaaGreatDoorZ5
import Derived.Test.YthfoomobicbcpaaGreatDoorZ9
import Derived.Test.YthfoomobicbcpaaGreatDoorZ13
import Derived.Test.YthfoomobicbcpaaGreatDoorZ14
import Derived.Test.YthfoomobicbcpaaGreatDoorZ15
import Derived.Test.YthfoomobicbcpaaGreatDoorZ0
set_option maxRecDepth 100000
set_option maxHeartbeats 16000000
namespace Go.Proofs.YthfoomobicbcpaaGreatDoor
open Go.ChangeShapes Go.WideShapes Go.ChangeAt Go.RowKit Mem Go.Maps Go.WideMaps
theorem kwt_ln : ∀ (l : List ByteArray), l.length ≤ kwt l
 | [] => Nat.zero_le _
 | k :: r => by have := kwt_ln r; simp only [List.length_cons, kwt]; omega
theorem namesF_any (l : List ByteArray) (hs : ∀ i (h : i < l.length), (l[i]'h).size ≤ 1000000000) (hl : l.length ≤ 100000000) (w : World) (hL0 : LaidN w) (A : Option Addr) (c : Nat) (h : FlS w (· < w.heap.size) A (l.map Value.string)) :
 Calls Tryz.prog 161 #[.slice A l.length c, .func (.func 142) #[] #[]] w (Tells (okFulls l) w) := by
 have CS := cell_set
 have F := Lib.hid h
 have SC := Lib.hid (fun i (h : i < l.length) W (hL : LaidN W) => nFull_any (l[i]'h) (hs i h) W hL)
 obtain ⟨n, hn⟩ : ∃ n, n = l.length := ⟨_, rfl⟩
 have HN := Lib.hid hn
 have HL := Lib.hid hL0
 rw [← hn] at hl ⊢
 by_cases h40 : n ≤ 40
 · have q40 : ¬ (40 : Int) < (n : Int) := by omega
   have YES : Hid ((∀ i (h : i < l.length), Nm.full (l[i]'h).data.toList = true) → okFulls l) := fun g => ⟨by rw [← HN.out]; exact h40, fun t ht => by obtain ⟨i, hi, rfl⟩ := List.getElem_of_mem ht; exact g i hi⟩
   have NO : Hid (∀ i (h : i < l.length), Nm.full (l[i]'h).data.toList = false → ¬ okFulls l) := fun i h g k => by rw [k.2 _ (List.getElem_mem h)] at g; cases g
   clear hn h hs hL0
   go_enter Tryz.func161, Tryz.ntmps161
   go_wp2_with fail
   go_loopw [12] (fun t wr => ∃ j : Nat, j ≤ n ∧ t = .int .i64 (j : Int) ∧ Hid (∀ i (h : i < l.length), i < j → Nm.full (l[i]'h).data.toList = true) ∧ Hid (Below w.heap.size w wr)) (fun t _ => n - (intOf t).toNat)
   case atStart => exact ⟨0, Nat.zero_le _, rfl, (fun i h g => absurd g (Nat.not_lt_zero _)), Below.refl _ _⟩
   case round =>
    obtain ⟨j, hj, rfl, HI, bl⟩ := hrel
    have bl2 := bl.out
    have z := bl2.size
    by_cases hjn : j < n
    · have h1 : j < l.length := by rw [← HN.out]; exact hjn
      have q : (j : Int) < (n : Int) := by omega
      obtain ⟨b8, o8, e8, hb8, z0⟩ := fl_str (FlS.keep (Below.keeps bl2) (fun _ h => h) F.out) h1
      have SCj := Lib.hid (SC.out j h1 wr (LaidN.below HL.out bl2))
      obtain ⟨b, hb⟩ : ∃ b, b = Nm.full (l[j]'h1).data.toList := ⟨_, rfl⟩
      have ST : Hid (b = true → ∀ i (h : i < l.length), i < j + 1 → Nm.full (l[i]'h).data.toList = true) := fun e i h g => by
       rcases Nat.lt_or_ge i j with k | k
       · exact HI.out i h k
       · obtain rfl : i = j := by omega
         rw [← hb]; exact e
      have NJ : Hid (b = false → ¬ okFulls l) := fun e => NO.out j h1 (by rw [← hb]; exact e)
      rw [← hb] at SCj
      clear hb
      generalize l[j]'h1 = Y at *
      subst e8
      clear h1
      cases b with
      | true =>
       have HI2 := Lib.hid (ST.out rfl)
       clear ST NJ
       go_wp2_with fail
       with_reducible refine SCj.out.mono ?_
       rintro e w1 ⟨rfl, b1⟩
       have bl3 := bl2.trans (b1.mono z)
       go_wp2_with fail
       go_roundw
       case rel => exact ⟨j + 1, by omega, by go_num, HI2, bl3⟩
       case measure => simp [intOf]; omega
      | false =>
       have Z := Lib.hid (NJ.out rfl)
       clear ST NJ
       go_wp2_with fail
       with_reducible refine SCj.out.mono ?_
       rintro e w1 ⟨rfl, b1⟩
       have bl3 := bl2.trans (b1.mono z)
       go_wp2_with fail
       go_ret
       exact tells_no rfl Z.out bl3
    · obtain rfl : j = n := by omega
      have q : ¬ (j : Int) < (j : Int) := by omega
      have Z := Lib.hid (YES.out (fun i h => HI.out i h (by rw [HN.out]; exact h)))
      clear HI
      go_wp2_with fail
      go_ret
      exact tells_yes rfl Z.out bl2
 · have q40 : (40 : Int) < (n : Int) := by omega
   have Z : Hid (¬ okFulls l) := fun k => h40 (by rw [HN.out]; exact k.1)
   clear hn h hs hL0 h40
   go_enter Tryz.func161, Tryz.ntmps161
   go_wp2_with fail
   go_ret
   exact tells_no rfl Z.out bqq
theorem namesS_any (l : List ByteArray) (hs : ∀ i (h : i < l.length), (l[i]'h).size ≤ 1000000000) (hl : l.length ≤ 100000000) (w : World) (hL0 : LaidN w) (A : Option Addr) (c : Nat) (h : FlS w (· < w.heap.size) A (l.map Value.string)) :
 Calls Tryz.prog 161 #[.slice A l.length c, .func (.func 162) #[] #[]] w (Tells (okSimples l) w) := by
 have CS := cell_set
 have F := Lib.hid h
 have SC := Lib.hid (fun i (h : i < l.length) W (hL : LaidN W) => nSimple_any (l[i]'h) (hs i h) W hL)
 obtain ⟨n, hn⟩ : ∃ n, n = l.length := ⟨_, rfl⟩
 have HN := Lib.hid hn
 have HL := Lib.hid hL0
 rw [← hn] at hl ⊢
 by_cases h40 : n ≤ 40
 · have q40 : ¬ (40 : Int) < (n : Int) := by omega
   have YES : Hid ((∀ i (h : i < l.length), Nm.simple (l[i]'h).data.toList = true) → okSimples l) := fun g => ⟨by rw [← HN.out]; exact h40, fun t ht => by obtain ⟨i, hi, rfl⟩ := List.getElem_of_mem ht; exact g i hi⟩
   have NO : Hid (∀ i (h : i < l.length), Nm.simple (l[i]'h).data.toList = false → ¬ okSimples l) := fun i h g k => by rw [k.2 _ (List.getElem_mem h)] at g; cases g
   clear hn h hs hL0
   go_enter Tryz.func161, Tryz.ntmps161
   go_wp2_with fail
   go_loopw [12] (fun t wr => ∃ j : Nat, j ≤ n ∧ t = .int .i64 (j : Int) ∧ Hid (∀ i (h : i < l.length), i < j → Nm.simple (l[i]'h).data.toList = true) ∧ Hid (Below w.heap.size w wr)) (fun t _ => n - (intOf t).toNat)
   case atStart => exact ⟨0, Nat.zero_le _, rfl, (fun i h g => absurd g (Nat.not_lt_zero _)), Below.refl _ _⟩
   case round =>
    obtain ⟨j, hj, rfl, HI, bl⟩ := hrel
    have bl2 := bl.out
    have z := bl2.size
    by_cases hjn : j < n
    · have h1 : j < l.length := by rw [← HN.out]; exact hjn
      have q : (j : Int) < (n : Int) := by omega
      obtain ⟨b8, o8, e8, hb8, z0⟩ := fl_str (FlS.keep (Below.keeps bl2) (fun _ h => h) F.out) h1
      have SCj := Lib.hid (SC.out j h1 wr (LaidN.below HL.out bl2))
      obtain ⟨b, hb⟩ : ∃ b, b = Nm.simple (l[j]'h1).data.toList := ⟨_, rfl⟩
      have ST : Hid (b = true → ∀ i (h : i < l.length), i < j + 1 → Nm.simple (l[i]'h).data.toList = true) := fun e i h g => by
       rcases Nat.lt_or_ge i j with k | k
       · exact HI.out i h k
       · obtain rfl : i = j := by omega
         rw [← hb]; exact e
      have NJ : Hid (b = false → ¬ okSimples l) := fun e => NO.out j h1 (by rw [← hb]; exact e)
      rw [← hb] at SCj
      clear hb
      generalize l[j]'h1 = Y at *
      subst e8
      clear h1
      cases b with
      | true =>
       have HI2 := Lib.hid (ST.out rfl)
       clear ST NJ
       go_wp2_with fail
       with_reducible refine SCj.out.mono ?_
       rintro e w1 ⟨rfl, b1⟩
       have bl3 := bl2.trans (b1.mono z)
       go_wp2_with fail
       go_roundw
       case rel => exact ⟨j + 1, by omega, by go_num, HI2, bl3⟩
       case measure => simp [intOf]; omega
      | false =>
       have Z := Lib.hid (NJ.out rfl)
       clear ST NJ
       go_wp2_with fail
       with_reducible refine SCj.out.mono ?_
       rintro e w1 ⟨rfl, b1⟩
       have bl3 := bl2.trans (b1.mono z)
       go_wp2_with fail
       go_ret
       exact tells_no rfl Z.out bl3
    · obtain rfl : j = n := by omega
      have q : ¬ (j : Int) < (j : Int) := by omega
      have Z := Lib.hid (YES.out (fun i h => HI.out i h (by rw [HN.out]; exact h)))
      clear HI
      go_wp2_with fail
      go_ret
      exact tells_yes rfl Z.out bl2
 · have q40 : (40 : Int) < (n : Int) := by omega
   have Z : Hid (¬ okSimples l) := fun k => h40 (by rw [HN.out]; exact k.1)
   clear hn h hs hL0 h40
   go_enter Tryz.func161, Tryz.ntmps161
   go_wp2_with fail
   go_ret
   exact tells_no rfl Z.out bqq
theorem differ_any (A : Option Addr) (c : Nat) (ks : List ByteArray) (nk : Nat) (hnk : nk = ks.length) (w : World) (h : FlS w (· < w.heap.size) A (ks.map Value.string)) (hl : nk ≤ 9223372036854775807) (hz : ∀ i (h : i < ks.length), (ks[i]'h).size ≤ 100000000) :
 Calls Tryz.prog 74 #[.slice A nk c] w (Told (nodupb ks) w) := by
 have hmm := run_makeMap_hint
 have KF := Lib.hid h
 have HNK := Lib.hid hnk
 have HZ := Lib.hid hz
 obtain ⟨R, hR⟩ : ∃ R, R = nodupb ks := ⟨_, rfl⟩
 rw [← hR]
 have hq : (((Maps.size (Ks ks nk) : Nat) : Int) == (nk : Int)) = R := by
  have k := (Ks_size ks).2
  rw [← hnk] at k
  rw [hR, Bool.eq_iff_iff, beq_iff_eq, nodupb_iff, ← k]
  omega
 clear hnk h hz hR
 go_enter Tryz.func74, Tryz.ntmps74
 go_wp2_with fail
 go_loopw [11] (fun t wr => ∃ j : Nat, j ≤ nk ∧ t = .int .i64 (j : Int) ∧ wr.ownsMap Tryz.prog 9 (unitElem (H := Unit)) w.heap.size j (Ks ks j) ∧ Below w.heap.size w wr) (fun t _ => nk - (intOf t).toNat)
 case atStart => exact ⟨0, Nat.zero_le _, rfl, by rw [Ks_zero]; exact World.ownsMap_made _ _ _ _, (Below.refl _ _).alloc (Nat.le_refl _) _⟩
 case round =>
  obtain ⟨m, hm, rfl, hown, bq⟩ := hrel
  by_cases hmk : m < nk
  · have h1 : m < ks.length := by rw [← HNK.out]; exact hmk
    obtain ⟨b8, o8, e8, hb8, z0⟩ := fl_str KF.out h1
    have hsz := HZ.out m h1
    have zq := (bq.cell (p := ⟨b8, o8 + m, none⟩) hb8).trans z0
    have hlb : b8 < w.heap.size := hb8
    have KST := Lib.hid (Ks_succ h1)
    have hkey : keyOf Tryz.prog 9 (.string (ks[m]'h1)) = some (keyL (ks[m]'h1)) := keyOf_string_mk strT (by unfold maxLen; omega)
    generalize ks[m]'h1 = Y at *
    subst e8
    clear h1 z0 hb8 hsz hq
    go_wp2_with (first
     | (at_mapUpdate; refine wpList_mapUpdate_own _ rfl _ _ _ 172 rfl 9 173 law_key map_t (unitElem (H := Unit)) w.heap.size m _ rfl hown (by unfold maxLen; omega) _ _ _ rfl rfl hkey _ [] unitElem_mk ?_; intro w1 hown1 hgrow1)
     | fail)
    go_roundw
    case rel => exact ⟨m + 1, by omega, by go_num, KST.out.symm ▸ hown1, bq.grown hgrow1 bq.size (fun j hj => by cases hj; exact Nat.le_refl _)⟩
    case measure => simp [intOf]; omega
  · obtain rfl : m = nk := by omega
    go_wp2_with (first
     | (at_len; refine wpList_len_own _ rfl _ 172 rfl 9 173 map_t _ w.heap.size m _ rfl hown ?_)
     | fail)
    go_ret
    exact told_ret (by first | rfl | exact hq.symm) bq
theorem called_any (n : Nd) (hs : n.sm) (w : World) (hL0 : LaidN w) (A2 A3 A4 A9 : Option Addr) (c2 c3 c4 c9 : Nat) (h : Lies w (· < w.heap.size) n.enc [.int .i64 n.k, .string n.name, .slice A2 n.al.length c2, .slice A3 n.fs.length c3, .slice A4 n.sy.length c4, .bool n.has, .string n.df, .int .i64 n.size, .int .i64 n.items, .slice A9 n.br.length c9]) :
 Calls Tryz.prog 121 #[.agg #[.int .i64 n.k, .string n.name, .slice A2 n.al.length c2, .slice A3 n.fs.length c3, .slice A4 n.sy.length c4, .bool n.has, .string n.df, .int .i64 n.size, .int .i64 n.items, .slice A9 n.br.length c9]] w (Tells (okName n.name ∧ okFulls n.al) w) := by
 have CS := cell_set
 obtain ⟨_, _, _, _, _, _, _, _, e, l2, f2, l3, r3, l4, f4, l9, r9⟩ := Nd.out.1 h
 simp only [List.cons.injEq, Value.slice.injEq, true_and, and_true] at e
 obtain ⟨⟨rfl, rfl⟩, ⟨rfl, rfl⟩, ⟨rfl, rfl⟩, rfl, rfl⟩ := e
 have HL := Lib.hid hL0
 have CF := Lib.hid (fun W (b : Below w.heap.size w W) => nFull_any n.name (by have := hs.1; omega) W (HL.out.below b))
 have CK := Lib.hid (fun W (b : Below w.heap.size w W) => nKind_any n.name (by have := hs.1; omega) W (HL.out.below b))
 have CN := Lib.hid (fun W (b : Below w.heap.size w W) => namesF_any n.al (fun i h => by have := kwt_at h; have := hs.2.2.2.2.1; omega) (by have := kwt_ln n.al; have := hs.2.2.2.2.1; omega) W (HL.out.below b) A2 c2 (FlS.keep (Below.keeps b) (fun _ h => Nat.lt_of_lt_of_le h b.size) f2))
 have OK : Hid (okName n.name ∧ okFulls n.al ↔ (Nm.full n.name.data.toList = true ∧ Nm.kind n.name.data.toList = 0) ∧ okFulls n.al) := Iff.rfl
 generalize (okName n.name ∧ okFulls n.al) = Q at *
 generalize okFulls n.al = Q2 at *
 have H0 := Lib.hid (B10.newat (w := w) (t := 59) (x0 := .int .i64 n.k) (x1 := .string n.name) (x2 := .slice A2 n.al.length c2) (x3 := .slice A3 n.fs.length c3) (x4 := .slice A4 n.sy.length c4) (x5 := .bool n.has) (x6 := .string n.df) (x7 := .int .i64 n.size) (x8 := .int .i64 n.items) (x9 := .slice A9 n.br.length c9) rfl)
 have W1 : Below w.heap.size w (w.alloc (.cells #[.int .i64 n.k, .string n.name, .slice A2 n.al.length c2, .slice A3 n.fs.length c3, .slice A4 n.sy.length c4, .bool n.has, .string n.df, .int .i64 n.size, .int .i64 n.items, .slice A9 n.br.length c9] 59)) := bqq
 clear h l2 f2 l3 r3 l4 f4 l9 r9 hs
 obtain ⟨b1, hb1⟩ : ∃ b, b = Nm.full n.name.data.toList := ⟨_, rfl⟩
 obtain ⟨kd, hkd⟩ : ∃ k, k = Nm.kind n.name.data.toList := ⟨_, rfl⟩
 rw [← hb1] at CF OK
 rw [← hkd] at CK OK
 clear hb1 hkd hL0
 go_enter Tryz.func121, Tryz.ntmps121
 go_wp2_with fail
 with_reducible refine (CF.out _ W1).mono ?_
 rintro e w2 ⟨rfl, b2⟩
 have h2 := Lib.hid (B10.below H0.out b2 (by simp))
 obtain ⟨_, _, _, _, _, _, _, _, _, _, _, _, _, _, _, _, _, _, _, _⟩ := B10.facts h2.out
 have bw2 : Below w.heap.size w w2 := W1.trans (b2.mono W1.size)
 cases b1 with
 | false =>
  go_wp2_with fail
  go_ret
  exact tells_no rfl (fun q => by have := (OK.out.1 q).1.1; cases this) bw2
 | true =>
  go_wp2_with fail
  with_reducible refine (CK.out _ bw2).mono ?_
  rintro e w3 ⟨rfl, b3⟩
  have h3 := Lib.hid (B10.below h2.out b3 (h2.out).lt)
  obtain ⟨_, _, _, _, _, _, _, _, _, _, _, _, _, _, _, _, _, _, _, _⟩ := B10.facts h3.out
  have bw3 : Below w.heap.size w w3 := bw2.trans (b3.mono bw2.size)
  by_cases hk : kd = 0
  · have qk : ((kd : Int) == 0) = true := by simp [hk]
    have OK2 : Hid (Q ↔ Q2) := OK.out.trans ⟨fun x => x.2, fun x => ⟨⟨by first | rfl | trivial, hk⟩, x⟩⟩
    clear hk OK
    go_wp2_with fail
    with_reducible refine (CN.out _ bw3).mono ?_
    rintro e w4 ⟨b, rfl, hb, b4⟩
    have HBB := Lib.hid hb
    have bw4 : Below w.heap.size w w4 := bw3.trans (b4.mono bw3.size)
    clear hb
    go_wp2_with fail
    go_ret
    exact ⟨b, rfl, HBB.out.trans OK2.out.symm, bw4⟩
  · have qk : ((kd : Int) == 0) = false := by rw [beq_eq_false_iff_ne]; omega
    have NO : Hid (¬ Q) := fun q => hk (OK.out.1 q).1.2
    clear hk OK
    go_wp2_with fail
    go_ret
    exact tells_no rfl NO.out bw3
theorem defaulted_any (f : Fd) (hs : f.sm) (w : World) (hL0 : LaidN w) (A1 A3 A4 : Option Addr) (c1 c3 c4 : Nat) (h : Lies w (· < w.heap.size) f.enc [.string f.name, .slice A1 f.al.length c1, .int .i64 f.ty, .bool f.has, .int .i64 f.df.k, .int .i64 f.df.n, .string f.df.t, .slice A3 f.df.its.length c3, .slice A4 f.df.ks.length c4]) :
 Calls Tryz.prog 163 #[.agg #[.string f.name, .slice A1 f.al.length c1, .int .i64 f.ty, .bool f.has, .int .i64 f.df.k, .int .i64 f.df.n, .string f.df.t, .slice A3 f.df.its.length c3, .slice A4 f.df.ks.length c4]] w (Tells (if f.has = true then f.df.deep ≤ 32 ∧ f.df.frm else f.df = zJ) w) := by
 have CS := cell_set
 obtain ⟨_, _, _, _, _, _, e, la, fa, ta⟩ := Fd.out.1 h
 simp only [List.cons.injEq, Value.slice.injEq, true_and, and_true] at e
 obtain ⟨⟨rfl, rfl⟩, ⟨rfl, rfl⟩, rfl, rfl⟩ := e
 obtain ⟨s1, s2, s3, s4⟩ := hs
 have RJ := Lib.hid (fun W (b : Below w.heap.size w W) => (jRight_any f.df (by omega) (by omega) W (hL0.below b) A3 A4 c3 c4 ((ta.below b).more b.size)).mono fun _ _ g => told_tells g J.rightb_iff)
 have SJ : Hid (∀ W, Below w.heap.size w W → Calls Tryz.prog 199 #[.agg #[.int .i64 f.df.k, .int .i64 f.df.n, .string f.df.t, .slice A3 f.df.its.length c3, .slice A4 f.df.ks.length c4], .agg #[.int .i64 0, .int .i64 0, .string ⟨#[]⟩, .slice none 0 0, .slice none 0 0]] W (Tells (f.df = zJ) W)) := fun W b =>
  (sameJ_any f.df zJ W A3 A4 none none c3 c4 0 0 ((ta.below b).more b.size) (tree_lies.1 zJ_lies)).mono fun _ _ g => told_tells g J.same_iff_
 have W1 : Below w.heap.size w (w.alloc (.cells #[.string f.name, .slice A1 f.al.length c1, .int .i64 f.ty, .bool f.has, .int .i64 f.df.k, .int .i64 f.df.n, .string f.df.t, .slice A3 f.df.its.length c3, .slice A4 f.df.ks.length c4] 61)) := bqq
 obtain ⟨hh, hhe⟩ : ∃ x, x = f.has := ⟨_, rfl⟩
 rw [← hhe] at W1 ⊢
 generalize hP : (f.df.deep ≤ 32 ∧ f.df.frm) = P at *
 generalize hQ : (f.df = zJ) = Q at *
 clear h la fa ta hP hQ hhe hL0
 cases hh with
 | true =>
  rw [if_pos rfl]
  go_enter Tryz.func163, Tryz.ntmps163
  go_wp2_with fail
  with_reducible refine (RJ.out _ bqq).mono ?_
  rintro e w2 ⟨b, rfl, hb, b2⟩
  have HBB := Lib.hid hb
  have bw : Below w.heap.size w w2 := bqq
  clear hb
  go_wp2_with fail
  go_ret
  exact ⟨b, rfl, HBB.out, bw⟩
 | false =>
  rw [if_neg (by decide)]
  go_enter Tryz.func163, Tryz.ntmps163
  go_wp2_with fail
  with_reducible refine (SJ.out _ bqq).mono ?_
  rintro e w2 ⟨b, rfl, hb, b2⟩
  have HBB := Lib.hid hb
  have bw : Below w.heap.size w w2 := bqq
  clear hb
  go_wp2_with fail
  go_ret
  exact ⟨b, rfl, HBB.out, bw⟩
end Go.Proofs.YthfoomobicbcpaaGreatDoor
namespace Go.Proofs.YthfoomobicbcpaaGreatDoor
open Go.ChangeShapes Go.WideShapes Go.ChangeAt Go.RowKit Mem Go.Maps Go.WideMaps
theorem enum_any (n : Nd) (hs : n.sm) (w : World) (hL0 : LaidN w) (A2 A3 A4 A9 : Option Addr) (c2 c3 c4 c9 : Nat) (h : Lies w (· < w.heap.size) n.enc [.int .i64 n.k, .string n.name, .slice A2 n.al.length c2, .slice A3 n.fs.length c3, .slice A4 n.sy.length c4, .bool n.has, .string n.df, .int .i64 n.size, .int .i64 n.items, .slice A9 n.br.length c9]) :
 Calls Tryz.prog 124 #[.agg #[.int .i64 n.k, .string n.name, .slice A2 n.al.length c2, .slice A3 n.fs.length c3, .slice A4 n.sy.length c4, .bool n.has, .string n.df, .int .i64 n.size, .int .i64 n.items, .slice A9 n.br.length c9]] w (Tells (n.sy ≠ [] ∧ okSimples n.sy ∧ n.sy.Nodup ∧ (if n.has = true then n.df ∈ n.sy else n.df = ⟨#[]⟩)) w) := by
 have CS := cell_set
 obtain ⟨_, _, _, _, _, _, _, _, e, l2, f2, l3, r3, l4, f4, l9, r9⟩ := Nd.out.1 h
 simp only [List.cons.injEq, Value.slice.injEq, true_and, and_true] at e
 obtain ⟨⟨rfl, rfl⟩, ⟨rfl, rfl⟩, ⟨rfl, rfl⟩, rfl, rfl⟩ := e
 have HL := Lib.hid hL0
 have ls := kwt_ln n.sy
 have l25 := hs.2.2.2.2.2.1
 have CN := Lib.hid (fun W (b : Below w.heap.size w W) => namesS_any n.sy (fun i h => by have := kwt_at h; omega) (by omega) W (HL.out.below b) A4 c4 (FlS.keep (Below.keeps b) (fun _ h => Nat.lt_of_lt_of_le h b.size) f4))
 have CD := Lib.hid (fun W (b : Below w.heap.size w W) => (differ_any A4 c4 n.sy n.sy.length rfl W (FlS.keep (Below.keeps b) (fun _ h => Nat.lt_of_lt_of_le h b.size) f4) (by omega) (fun i h => by have := kwt_at h; omega)).mono fun _ _ g => told_tells g nodupb_iff)
 have CC : Hid (∀ W, Below w.heap.size w W → Calls Tryz.prog 164 #[.slice A4 n.sy.length c4, .string n.df] W (Tells (n.df ∈ n.sy) W)) := fun W b =>
  (contains_any (· < w.heap.size) A4 c4 n.sy n.df W (FlS.keep (Below.keeps b) (fun _ h => h) f4) l4.2).mono fun _ _ g => ⟨_, g.1, by rw [← place7_any]; simp, by rw [g.2]; exact Below.refl _ _⟩
 have H0 := Lib.hid (B10.newat (w := w) (t := 59) (x0 := .int .i64 n.k) (x1 := .string n.name) (x2 := .slice A2 n.al.length c2) (x3 := .slice A3 n.fs.length c3) (x4 := .slice A4 n.sy.length c4) (x5 := .bool n.has) (x6 := .string n.df) (x7 := .int .i64 n.size) (x8 := .int .i64 n.items) (x9 := .slice A9 n.br.length c9) rfl)
 have W1 : Below w.heap.size w (w.alloc (.cells #[.int .i64 n.k, .string n.name, .slice A2 n.al.length c2, .slice A3 n.fs.length c3, .slice A4 n.sy.length c4, .bool n.has, .string n.df, .int .i64 n.size, .int .i64 n.items, .slice A9 n.br.length c9] 59)) := bqq
 have SE : Hid (n.sy.length ≠ 0 ↔ n.sy ≠ []) := by show _ ↔ _; simp
 generalize hP1 : (n.sy ≠ []) = P1 at *
 generalize hP2 : okSimples n.sy = P2 at *
 generalize hP3 : n.sy.Nodup = P3 at *
 generalize hP4 : (n.df ∈ n.sy) = P4 at *
 obtain ⟨P5, hP5⟩ : ∃ P : Prop, P = (n.df = ⟨#[]⟩) := ⟨_, rfl⟩
 rw [← hP5]
 have ES : Hid (P5 ↔ n.df = ⟨#[]⟩) := by show _ ↔ _; rw [hP5]
 clear h l2 f2 l3 r3 l4 f4 l9 r9 hs hP1 hP2 hP3 hP4 hP5 hL0
 generalize n.sy.length = ny at *
 generalize n.df = df at *
 generalize n.has = hh at *
 obtain ⟨Q, hQ⟩ : ∃ Q : Prop, Q = (P1 ∧ P2 ∧ P3 ∧ (if hh = true then P4 else P5)) := ⟨_, rfl⟩
 rw [← hQ]
 have HQ : Hid (Q ↔ (P1 ∧ P2 ∧ P3 ∧ (if hh = true then P4 else P5))) := by show _ ↔ _; rw [hQ]
 have QT : Hid (hh = true → (Q ↔ P1 ∧ P2 ∧ P3 ∧ P4)) := fun e => by rw [hQ, if_pos e]
 have QF : Hid (hh = false → (Q ↔ P1 ∧ P2 ∧ P3 ∧ P5)) := fun e => by rw [hQ, if_neg (by rw [e]; decide)]
 clear hQ
 by_cases h0 : ny = 0
 · have NO : Hid (¬ P1) := fun p => SE.out.2 p h0
   subst h0
   go_enter Tryz.func124, Tryz.ntmps124
   go_wp2_with fail
   go_ret
   exact tells_no rfl (fun q => NO.out (HQ.out.1 q).1) bqq
 · have p1 : Hid P1 := SE.out.1 h0
   have q0 : ((ny : Int) == 0) = false := by rw [beq_eq_false_iff_ne]; omega
   have q0n : (ny == 0) = false := by simpa using h0
   clear SE
   go_enter Tryz.func124, Tryz.ntmps124
   go_wp2_with fail
   with_reducible refine (CN.out _ W1).mono ?_
   rintro e w2 ⟨b, rfl, hb, b2⟩
   have h2 := Lib.hid (B10.below H0.out b2 (by simp))
   obtain ⟨_, _, _, _, _, _, _, _, _, _, _, _, _, _, _, _, _, _, _, _⟩ := B10.facts h2.out
   have bw2 : Below w.heap.size w w2 := W1.trans (b2.mono W1.size)
   have HB1 := Lib.hid hb
   clear hb
   cases b with
   | false =>
    go_wp2_with fail
    go_ret
    exact tells_no rfl (fun q => by have := HB1.out.2 (HQ.out.1 q).2.1; cases this) bw2
   | true =>
    go_wp2_with fail
    with_reducible refine (CD.out _ bw2).mono ?_
    rintro e w3 ⟨b, rfl, hb, b3⟩
    have h3 := Lib.hid (B10.below h2.out b3 (h2.out).lt)
    obtain ⟨_, _, _, _, _, _, _, _, _, _, _, _, _, _, _, _, _, _, _, _⟩ := B10.facts h3.out
    have bw3 : Below w.heap.size w w3 := bw2.trans (b3.mono bw2.size)
    have HB2 := Lib.hid hb
    clear hb
    cases b with
    | false =>
     go_wp2_with fail
     go_ret
     exact tells_no rfl (fun q => by have := HB2.out.2 (HQ.out.1 q).2.2.1; cases this) bw3
    | true =>
     have T2 : Hid P2 := HB1.out.1 (by first | rfl | trivial)
     have T3 : Hid P3 := HB2.out.1 (by first | rfl | trivial)
     clear HB1 HB2 HQ
     cases hh with
     | true =>
      have QQ : Hid (Q ↔ P4) := (QT.out rfl).trans ⟨fun q => q.2.2.2, fun q => ⟨p1.out, T2.out, T3.out, q⟩⟩
      clear QT QF
      go_wp2_with fail
      with_reducible refine (CC.out _ bw3).mono ?_
      rintro e w4 ⟨b, rfl, hb, b4⟩
      have bw4 : Below w.heap.size w w4 := bw3.trans (b4.mono bw3.size)
      have HB3 := Lib.hid hb
      clear hb
      go_wp2_with fail
      go_ret
      exact ⟨b, rfl, HB3.out.trans QQ.out.symm, bw4⟩
     | false =>
      have QQ : Hid (Q ↔ P5) := (QF.out rfl).trans ⟨fun q => q.2.2.2, fun q => ⟨p1.out, T2.out, T3.out, q⟩⟩
      clear QT QF
      by_cases hdf : df = ⟨#[]⟩
      · have Z : Hid Q := QQ.out.2 (ES.out.2 hdf)
        subst hdf
        clear ES
        go_wp2_with fail
        go_ret
        exact tells_yes rfl Z.out bw3
      · have Z : Hid (¬ Q) := fun q => hdf (ES.out.1 (QQ.out.1 q))
        obtain ⟨_, _, _, sx4, sx5⟩ := ne_facts hdf
        clear ES hdf
        go_wp2_with fail
        go_ret
        exact tells_no rfl Z.out bw3
end Go.Proofs.YthfoomobicbcpaaGreatDoor
namespace Go.Proofs.YthfoomobicbcpaaGreatDoor
open Go.ChangeShapes Go.WideShapes Go.ChangeAt Go.RowKit Mem Go.Maps Go.WideMaps
theorem union_any (s : Sc) (_hn : s.nodes.length ≤ 2500) (br : List Int) (hk : ∀ b ∈ br, 0 ≤ b ∧ b < (s.nodes.length : Int)) (w : World) (A A9 : Option Addr) (c c9 : Nat) (hN : RowD w (· < w.heap.size) 10 (s.nodes.map Nd.enc) A) (hB : RowD w (· < w.heap.size) 1 (br.map (D.i .i64)) A9) (hl : br.length ≤ c9) (hm : br.length ≤ 2500) :
 Calls Tryz.prog 122 #[.slice A s.nodes.length c, .slice A9 br.length c9] w (Tells (unionOk s br) w) := by
 have HNo := Lib.hid hN; have HBr := Lib.hid hB; have HK := Lib.hid hk
 obtain ⟨Q, hQ⟩ : ∃ Q : Prop, Q = unionOk s br := ⟨_, rfl⟩
 have HQ : Hid (Q ↔ unionOk s br) := by show _ ↔ _; rw [hQ]
 rw [← hQ]
 obtain ⟨n, hnn⟩ : ∃ n, n = br.length := ⟨_, rfl⟩
 have HL := Lib.hid hnn
 obtain ⟨ns, hns⟩ : ∃ n, n = s.nodes.length := ⟨_, rfl⟩
 have HNS := Lib.hid hns
 rw [← hnn] at hl hm ⊢
 rw [← hns]
 clear hN hB hk hQ hnn hns
 by_cases h0 : n = 0
 · have NO : Hid (¬ Q) := fun q => (HQ.out.1 q).1 (List.length_eq_zero_iff.1 (by rw [← HL.out]; exact h0))
   subst h0
   go_enter Tryz.func122, Tryz.ntmps122
   go_wp2_with fail
   go_ret
   exact tells_no rfl NO.out (Below.refl _ _)
 · have q0 : ((n : Int) == 0) = false := by rw [beq_eq_false_iff_ne]; omega
   have q0n : (n == 0) = false := by simpa using h0
   by_cases h10 : 10 < n
   · have q1 : (10 : Int) < (n : Int) := by omega
     have NO : Hid (¬ Q) := fun q => by have := (HQ.out.1 q).2.1; rw [← HL.out] at this; omega
     go_enter Tryz.func122, Tryz.ntmps122
     go_wp2_with fail
     go_ret
     exact tells_no rfl NO.out (Below.refl _ _)
   · have q1 : ¬ (10 : Int) < (n : Int) := by omega
     have hl10 : n ≤ 10 := by omega
     have hcap : (c9 : Int) ≥ (n : Int) := by omega
     go_enter Tryz.func122, Tryz.ntmps122
     go_wp2_with fail
     go_loopw [20] (fun t wr => ∃ j : Nat, j ≤ n ∧ t = .int .i64 (j : Int) ∧ Hid (∀ i (h : i < br.length), i < j → s.kind (br[i]'h) ≠ 13 ∧ ∀ k (g : k < br.length), k < i → br[k]'g ≠ br[i]'h ∧ (s.kind (br[k]'g) ≠ s.kind (br[i]'h) ∨ named (s.kind (br[i]'h)) = true)) ∧ wr = w) (fun t _ => n - (intOf t).toNat)
     case atStart => exact ⟨0, Nat.zero_le _, rfl, (fun i h g => absurd g (Nat.not_lt_zero _)), rfl⟩
     case round =>
      obtain ⟨j, hj, rfl, HI, hw⟩ := hrel
      have hw' := hw.symm
      subst hw'
      by_cases hjn : j < n
      · have h1 : j < br.length := by rw [← HL.out]; exact hjn
        have q : (j : Int) < (n : Int) := by omega
        obtain ⟨b8, o8, e8, _, z0⟩ := ints_at HBr.out h1
        obtain ⟨k0, k1⟩ := HK.out _ (List.getElem_mem h1)
        obtain ⟨P, b1, o1, eP, hP, e1, y0⟩ := kind_cell HNo.out k0 k1
        have NX : Hid (s.kind (br[j]'h1) ≠ 13 → (∀ k (g : k < br.length), k < j → br[k]'g ≠ br[j]'h1 ∧ (s.kind (br[k]'g) ≠ s.kind (br[j]'h1) ∨ named (s.kind (br[j]'h1)) = true)) → ∀ i (h : i < br.length), i < j + 1 → s.kind (br[i]'h) ≠ 13 ∧ ∀ k (g : k < br.length), k < i → br[k]'g ≠ br[i]'h ∧ (s.kind (br[k]'g) ≠ s.kind (br[i]'h) ∨ named (s.kind (br[i]'h)) = true)) := fun a1 a2 i h g => by
         rcases Nat.lt_or_ge i j with k | k
         · exact HI.out i h k
         · obtain rfl : i = j := by omega
           exact ⟨a1, a2⟩
        have N13 : Hid (s.kind (br[j]'h1) = 13 → ¬ Q) := fun e q => (HQ.out.1 q).2.2.1 _ (List.getElem_mem h1) e
        have NP : Hid (∀ k (g : k < br.length), k < j → ¬ (br[k]'g ≠ br[j]'h1 ∧ (s.kind (br[k]'g) ≠ s.kind (br[j]'h1) ∨ named (s.kind (br[j]'h1)) = true)) → ¬ Q) := fun k g hkj hnot q => hnot (by
         have := List.pairwise_iff_getElem.1 (HQ.out.1 q).2.2.2 k j g h1 hkj
         refine ⟨this.1, ?_⟩
         rcases this.2 with a | a
         · exact .inl a
         · by_cases e : s.kind (br[k]'g) = s.kind (br[j]'h1)
           · right; rw [← e]; exact a
           · exact .inl e)
        have HK2 := Lib.hid HK.out
        have y0' := y0
        rw [eP] at z0
        generalize hY : br[j]'h1 = Y at *
        generalize hKD : s.kind Y = kd at *
        have NM := Lib.hid (sNamed_pure kd)
        have hPs : P < ns := by rw [HNS.out]; exact hP
        subst e8 e1
        clear HI
        by_cases h13 : kd = 13
        · have q13 : (kd == 13) = true := by simp [h13]
          have Z := Lib.hid (N13.out h13)
          clear h13 NX N13 NP
          go_wp2_with fail
          go_ret
          exact tells_no rfl Z.out (Below.refl _ _)
        · have q13 : (kd == 13) = false := by rw [beq_eq_false_iff_ne]; exact h13
          have H13 := Lib.hid h13
          have NX2 := Lib.hid (NX.out h13)
          clear h13 NX N13 y0'
          go_wp2_with fail
          go_loopw [36] (fun t wq => ∃ i : Nat, i ≤ j ∧ t = .int .i64 (i : Int) ∧ Hid (∀ k (g : k < br.length), k < i → br[k]'g ≠ Y ∧ (s.kind (br[k]'g) ≠ kd ∨ named kd = true)) ∧ wq = w) (fun t _ => j - (intOf t).toNat)
          case atStart => exact ⟨0, Nat.zero_le _, rfl, (fun i h g => absurd g (Nat.not_lt_zero _)), rfl⟩
          case round =>
           obtain ⟨i, hi, rfl, HJ, hw⟩ := hrel
           have hw' := hw.symm
           subst hw'
           by_cases hij : i < j
           · have h2 : i < br.length := by omega
             have qi : (i : Int) < (j : Int) := by omega
             obtain ⟨b9, o9, e9, _, z1⟩ := ints_at HBr.out h2
             obtain ⟨m0, m1⟩ := HK.out _ (List.getElem_mem h2)
             obtain ⟨P2, b2, o2, eP2, hP2, e2, y2⟩ := kind_cell HNo.out m0 m1
             simp only [Option.some.injEq, Addr.mk.injEq, and_true] at e9 e2
             obtain ⟨rfl, rfl⟩ := e9
             obtain ⟨rfl, rfl⟩ := e2
             have NXI : Hid (br[i]'h2 ≠ Y → (s.kind (br[i]'h2) ≠ kd ∨ named kd = true) → ∀ k (g : k < br.length), k < i + 1 → br[k]'g ≠ Y ∧ (s.kind (br[k]'g) ≠ kd ∨ named kd = true)) := fun a1 a2 k g hk => by
              rcases Nat.lt_or_ge k i with x | x
              · exact HJ.out k g x
              · obtain rfl : k = i := by omega
                exact ⟨a1, a2⟩
             have NPI : Hid (¬ (br[i]'h2 ≠ Y ∧ (s.kind (br[i]'h2) ≠ kd ∨ named kd = true)) → ¬ Q) := NP.out i h2 hij
             rw [eP2] at z1
             have hPs2 : P2 < ns := by rw [HNS.out]; exact hP2
             generalize hY2 : br[i]'h2 = Y2 at *
             generalize hKD2 : s.kind Y2 = kd2 at *
             by_cases e : Y2 = Y
             · have Z : Hid (¬ Q) := NPI.out (fun a => a.1 e)
               have qe : ((P2 : Int) == (P : Int)) = true := by rw [beq_iff_eq]; omega
               have qen : (P2 == P) = true := by rw [beq_iff_eq]; omega
               have qee : P2 = P := by omega
               clear NXI NPI e eP eP2 hY hY2 hKD hKD2
               go_wp2_with fail
               go_ret
               exact tells_no rfl Z.out (Below.refl _ _)
             · have qe : ((P2 : Int) == (P : Int)) = false := by rw [beq_eq_false_iff_ne]; omega
               have qen : (P2 == P) = false := by rw [beq_eq_false_iff_ne]; omega
               have qee : ¬ P2 = P := by omega
               have NXI2 := Lib.hid (NXI.out e)
               by_cases ek : kd2 = kd
               · have qk : (kd2 == kd) = true := by simp [ek]
                 cases hnm : named kd with
                 | true =>
                  have HJ2 := Lib.hid (NXI2.out (.inr hnm))
                  rw [hnm] at NM
                  clear NXI NPI NXI2 e eP eP2 hY hY2 hKD hKD2 hnm
                  subst ek
                  go_wp2_with fail
                  with_reducible refine (NM.out _).mono ?_
                  rintro e w1 ⟨rfl, rfl⟩
                  go_wp2_with fail
                  go_roundw
                  case rel => exact ⟨i + 1, by omega, by go_num, (by first | exact HJ2 | exact (fun k g hk => ⟨(HJ2.out k g hk).1, .inr trivial⟩)), by first | rfl | trivial⟩
                  case measure => simp [intOf]; omega
                 | false =>
                  have Z : Hid (¬ Q) := NPI.out (fun a => by rcases a.2 with x | x; exact x ek; rw [hnm] at x; cases x)
                  rw [hnm] at NM
                  clear NXI NPI NXI2 e eP eP2 hY hY2 hKD hKD2 hnm
                  subst ek
                  go_wp2_with fail
                  with_reducible refine (NM.out _).mono ?_
                  rintro e w1 ⟨rfl, rfl⟩
                  go_wp2_with fail
                  go_ret
                  exact tells_no rfl Z.out (Below.refl _ _)
               · have qk : (kd2 == kd) = false := by rw [beq_eq_false_iff_ne]; exact ek
                 have HJ2 := Lib.hid (NXI2.out (.inl ek))
                 clear NXI NPI NXI2 e eP eP2 hY hY2 hKD hKD2 ek
                 go_wp2_with fail
                 go_roundw
                 case rel => exact ⟨i + 1, by omega, by go_num, (by first | exact HJ2 | exact (fun k g hk => ⟨(HJ2.out k g hk).1, .inr trivial⟩)), by first | rfl | trivial⟩
                 case measure => simp [intOf]; omega
           · obtain rfl : i = j := by omega
             have qi : ¬ (i : Int) < (i : Int) := by omega
             have HI2 := Lib.hid (NX2.out (fun k g hk => HJ.out k g hk))
             clear HJ
             go_wp2_with fail
             go_roundw
             case rel => exact ⟨i + 1, by omega, by go_num, HI2, by first | rfl | trivial⟩
             case measure => simp [intOf]; omega
      · obtain rfl : j = n := by omega
        have q : ¬ (j : Int) < (j : Int) := by omega
        have Z : Hid Q := HQ.out.2 ⟨fun e => h0 (by rw [HL.out, e]; rfl), by rw [← HL.out]; exact hl10, fun b hb => by
         obtain ⟨i, hi, rfl⟩ := List.getElem_of_mem hb
         exact (HI.out i hi (by rw [HL.out]; exact hi)).1, List.pairwise_iff_getElem.2 fun i k hi hk hik => by
         obtain ⟨a1, a2⟩ := (HI.out k hk (by rw [HL.out]; exact hk)).2 i hi hik
         refine ⟨a1, ?_⟩
         rcases a2 with x | x
         · exact .inl x
         · by_cases e : s.kind (br[i]'hi) = s.kind (br[k]'hk)
           · right; rw [e]; exact x
           · exact .inl e⟩
        clear HI
        go_wp2_with fail
        go_ret
        exact tells_yes rfl Z.out (Below.refl _ _)
theorem record_any (fs : List Fd) (hs : ∀ i (h : i < fs.length), (fs[i]'h).sm) (w : World) (hL0 : LaidN w) (A : Option Addr) (c : Nat) (h : RowD w (· < w.heap.size) 9 (fs.map Fd.enc) A) (hl : fs.length ≤ 2500) :
 Calls Tryz.prog 123 #[.slice A fs.length c] w (Tells (okSimples (fs.map Fd.name) ∧ (fs.map Fd.name).Nodup ∧ ∀ f ∈ fs, f.ok) w) := by
 have CS := cell_set
 have F := Lib.hid h; have HS := Lib.hid hs; have HL := Lib.hid hL0
 obtain ⟨Q, hQ⟩ : ∃ Q : Prop, Q = (okSimples (fs.map Fd.name) ∧ (fs.map Fd.name).Nodup ∧ ∀ f ∈ fs, f.ok) := ⟨_, rfl⟩
 have HQ : Hid (Q ↔ (okSimples (fs.map Fd.name) ∧ (fs.map Fd.name).Nodup ∧ ∀ f ∈ fs, f.ok)) := by show _ ↔ _; rw [hQ]
 rw [← hQ]
 obtain ⟨n, hn⟩ : ∃ n, n = fs.length := ⟨_, rfl⟩
 have HN := Lib.hid hn
 rw [← hn] at hl ⊢
 clear hn h hs hQ hL0
 by_cases h40 : n ≤ 40
 · have q40 : ¬ (40 : Int) < (n : Int) := by omega
   go_enter Tryz.func123, Tryz.ntmps123
   go_wp2_with fail
   go_loopw [11, 3] (fun t v wr => ∃ j : Nat, j ≤ n ∧ t = .int .i64 (j : Int) ∧ Hid (∀ i (h : i < fs.length), i < j → (fs[i]'h).ok) ∧ Hid (GatS wr w.heap.size 9 1 v (((fs.take j).map Fd.name).map D.s)) ∧ Hid (Below w.heap.size w wr)) (fun t _ _ => n - (intOf t).toNat)
   case atStart => exact ⟨0, Nat.zero_le _, rfl, (fun i h g => absurd g (Nat.not_lt_zero _)), GatS.none_ _ _ _ _, Below.refl _ _⟩
   case round =>
    obtain ⟨j, hj, rfl, HI, HG, bl⟩ := hrel
    have bl2 := bl.out
    have z := bl2.size
    by_cases hjn : j < n
    · have h1 : j < fs.length := by rw [← HN.out]; exact hjn
      have q : (j : Int) < (n : Int) := by omega
      obtain ⟨b1', o1, X1, x1, X3, x3, X4, x4, e1, hb1, ⟨y0, y1, y2, y3, y4, y5, y6, y7, y8⟩, l1, f1, t1⟩ := fields_at (F.out.below bl2) h1
      have lb1 : b1' < wr.heap.size := by omega
      have ty := Fd.out.2 ⟨X1, x1, X3, x3, X4, x4, rfl, l1, f1, t1⟩
      have smT := HS.out j h1
      have CN := Lib.hid (fun W (b : Below wr.heap.size wr W) => namesS_any (fs[j]'h1).al (fun i h => by have := kwt_at h; have := smT.2.1; omega) (by have := kwt_ln (fs[j]'h1).al; have := smT.2.1; omega) W (HL.out.below (bl2.trans (b.mono z))) X1 x1 (FlS.keep (Below.keeps b) (fun _ h => Nat.lt_of_lt_of_le h b.size) (FlS.keep (fun _ _ => rfl) (fun _ h => Nat.lt_of_lt_of_le h z) f1)))
      have CD := Lib.hid (fun W (b : Below wr.heap.size wr W) => defaulted_any (fs[j]'h1) smT W (HL.out.below (bl2.trans (b.mono z))) X1 X3 X4 x1 x3 x4 (((ty.more z).below b).more b.size))
      have OKF : Hid ((fs[j]'h1).ok ↔ okSimples (fs[j]'h1).al ∧ (if (fs[j]'h1).has = true then (fs[j]'h1).df.deep ≤ 32 ∧ (fs[j]'h1).df.frm else (fs[j]'h1).df = zJ)) := Iff.rfl
      have TK : Hid (((fs.take (j + 1)).map Fd.name).map D.s = ((fs.take j).map Fd.name).map D.s ++ [D.s (fs[j]'h1).name]) := by
       show _ = _
       rw [List.take_succ_eq_append_getElem h1, List.map_append, List.map_append]; rfl
      have NOF : Hid (¬ (fs[j]'h1).ok → ¬ Q) := fun e q => e ((HQ.out.1 q).2.2 _ (List.getElem_mem h1))
      have NX : Hid ((fs[j]'h1).ok → ∀ i (h : i < fs.length), i < j + 1 → (fs[i]'h).ok) := fun e i h g => by
       rcases Nat.lt_or_ge i j with k | k
       · exact HI.out i h k
       · obtain rfl : i = j := by omega
         exact e
      generalize hT : fs[j]'h1 = T at *
      generalize hO : T.ok = OK at *
      generalize okSimples T.al = O1 at *
      generalize (if T.has = true then T.df.deep ≤ 32 ∧ T.df.frm else T.df = zJ) = O2 at *
      have H0 := Lib.hid (B9.newat (w := wr) (t := 61) (x0 := .string T.name) (x1 := .slice X1 T.al.length x1) (x2 := .int .i64 T.ty) (x3 := .bool T.has) (x4 := .int .i64 T.df.k) (x5 := .int .i64 T.df.n) (x6 := .string T.df.t) (x7 := .slice X3 T.df.its.length x3) (x8 := .slice X4 T.df.ks.length x4) rfl)
      subst e1
      clear h1 ty l1 f1 t1 smT hT hO HI
      go_wp2_with fail
      with_reducible refine (CN.out _ bqq).mono ?_
      rintro e w2 ⟨b, rfl, hb, b2⟩
      have h2 := Lib.hid (B9.below H0.out b2 (by simp))
      obtain ⟨_, _, _, _, _, _, _, _, _, _, _, _, _, _, _, _, _, _⟩ := B9.facts h2.out
      have bx2 : Below wr.heap.size wr w2 := bqq
      have bw2 : Below w.heap.size w w2 := bl2.trans (bx2.mono z)
      have HB1 := Lib.hid hb
      clear hb
      cases b with
      | false =>
       have Z : Hid (¬ Q) := NOF.out (fun o => by have := HB1.out.2 (OKF.out.1 o).1; simp at this)
       go_wp2_with fail
       go_ret
       exact tells_no rfl Z.out bw2
      | true =>
       go_wp2_with fail
       with_reducible refine (CD.out _ bx2).mono ?_
       rintro e w3 ⟨b, rfl, hb, b3⟩
       have h3 := Lib.hid (B9.below h2.out b3 (h2.out).lt)
       obtain ⟨_, _, _, _, _, _, _, _, _, _, _, _, _, _, _, _, _, _⟩ := B9.facts h3.out
       have bx3 : Below wr.heap.size wr w3 := bx2.trans (b3.mono bx2.size)
       have bw3 : Below w.heap.size w w3 := bl2.trans (bx3.mono z)
       have HB2 := Lib.hid hb
       clear hb
       cases b with
       | false =>
        have Z : Hid (¬ Q) := NOF.out (fun o => by have := HB2.out.2 (OKF.out.1 o).2; simp at this)
        go_wp2_with fail
        go_ret
        exact tells_no rfl Z.out bw3
       | true =>
        have HI2 := Lib.hid (NX.out (OKF.out.2 ⟨HB1.out.1 (by first | rfl | trivial), HB2.out.1 (by first | rfl | trivial)⟩))
        have LJ : Hid ((((fs.take j).map Fd.name).map D.s).length = j) := by show _ = _; have hn := HN.out; simp; omega
        have ND : Hid (NewD w3 wr.heap.size (D.s T.name) [.string T.name]) := ⟨fun _ => False, fun _ h => h.elim, lies_s.2 rfl, fun _ h => h.elim⟩
        clear HB1 HB2 OKF NX NOF
        go_wp2_with (at_builtin; refine wpList_gat _ textT rfl (.tmp 24) (.tmp 27) rfl w.heap.size u3 _ rfl wr HG.out bx3 1 #[.string T.name] rfl rfl (by simp [Value.oneCell']) (by rw [LJ.out]; omega) z _ ND.out ?_; intro v3 w4 g3 b4)
        go_roundw
        case rel => exact ⟨j + 1, by omega, by go_num, HI2, by rw [TK.out]; exact g3, bw3.trans b4⟩
        case measure => simp [intOf]; omega
    · obtain rfl : j = n := by omega
      have q : ¬ (j : Int) < (j : Int) := by omega
      have TK : fs.take j = fs := by rw [HN.out, List.take_length]
      rw [TK] at HG
      obtain ⟨A', c', rfl, hc, S, hS, hr, _⟩ := HG.out.done
      have FL := row_strs.1 hr
      have LN : ((fs.map Fd.name).map D.s).length = (fs.map Fd.name).length := List.length_map ..
      have LN2 : (fs.map Fd.name).length = j := by rw [List.length_map]; exact HN.out.symm
      have SZ : ∀ i (h : i < (fs.map Fd.name).length), ((fs.map Fd.name)[i]'h).size ≤ 2500 := fun i h => by rw [List.getElem_map]; exact (HS.out i (by simpa using h)).1
      have FL2 : Hid (∀ W, Below wr.heap.size wr W → FlS W (· < W.heap.size) A' ((fs.map Fd.name).map Value.string)) := fun W b => FlS.keep (fun p hp => b.cell (hS _ hp).2) (fun g hg => Nat.lt_of_lt_of_le (hS _ hg).2 b.size) FL
      have CN := Lib.hid (fun W (b : Below wr.heap.size wr W) => namesS_any (fs.map Fd.name) (fun i h => by have := SZ i h; omega) (by omega) W (HL.out.below (bl2.trans (b.mono z))) A' c' (FL2.out W b))
      have CF := Lib.hid (fun W (b : Below wr.heap.size wr W) => (differ_any A' c' (fs.map Fd.name) j LN2.symm W (FL2.out W b) (by omega) (fun i h => by have := SZ i h; omega)).mono fun _ _ g => told_tells g nodupb_iff)
      have QX : Hid (Q ↔ okSimples (fs.map Fd.name) ∧ (fs.map Fd.name).Nodup) := HQ.out.trans ⟨fun q => ⟨q.1, q.2.1⟩, fun q => ⟨q.1, q.2, fun f hf => by obtain ⟨i, hi, rfl⟩ := List.getElem_of_mem hf; exact HI.out i hi (by rw [HN.out]; exact hi)⟩⟩
      rw [LN2] at CN
      rw [LN, LN2]
      generalize okSimples (fs.map Fd.name) = O1 at *
      generalize (fs.map Fd.name).Nodup = O2 at *
      clear HI HG hr FL LN LN2 SZ FL2 hS TK
      go_wp2_with fail
      with_reducible refine (CN.out _ (Below.refl _ _)).mono ?_
      rintro e w2 ⟨b, rfl, hb, b2⟩
      have bw2 : Below w.heap.size w w2 := bl2.trans (b2.mono z)
      have HB1 := Lib.hid hb
      clear hb
      cases b with
      | false =>
       have Z : Hid (¬ Q) := fun q => by have := HB1.out.2 (QX.out.1 q).1; simp at this
       go_wp2_with fail
       go_ret
       exact tells_no rfl Z.out bw2
      | true =>
       have QY : Hid (Q ↔ O2) := QX.out.trans ⟨fun q => q.2, fun q => ⟨HB1.out.1 (by first | rfl | trivial), q⟩⟩
       go_wp2_with fail
       with_reducible refine (CF.out _ b2).mono ?_
       rintro e w3 ⟨b, rfl, hb, b3⟩
       have bw3 : Below w.heap.size w w3 := bw2.trans (b3.mono bw2.size)
       have HB2 := Lib.hid hb
       clear hb
       go_wp2_with fail
       go_ret
       exact ⟨b, rfl, HB2.out.trans QY.out.symm, bw3⟩
 · have q40 : (40 : Int) < (n : Int) := by omega
   have Z : Hid (¬ Q) := fun q => h40 (by have := (HQ.out.1 q).1.1; rw [List.length_map] at this; rw [HN.out]; exact this)
   clear h40
   go_enter Tryz.func123, Tryz.ntmps123
   go_wp2_with fail
   go_ret
   exact tells_no rfl Z.out bqq
end Go.Proofs.YthfoomobicbcpaaGreatDoor
