/- Joined by tools/bundle.py: R10P R10Q. -/
import Derived.BigQuiet
import Derived.Deep.CutRange
import Derived.Test.YtpmgjpchpmkklaaGreatDoorT5
import Derived.Test.YtpmgjpchpmkklaaGreatDoorT6
import Derived.Test.YtpmgjpchpmkklaaGreatDoorT7
import Derived.Test.YtpmgjpchpmkklaaGreatDoorT19
import Derived.Test.YtpmgjpchpmkklaaGreatDoorT0
set_option maxRecDepth 100000
set_option maxHeartbeats 16000000
namespace Go.Proofs.YtpmgjpchpmkklaaGreatDoor
open Go.ChangeShapes Go.WideShapes Go.ChangeAt Go.RowKit Mem
theorem rnode_10 (s : Sc) (n : Nd) (hk : n.k = 10) (hs : n.sm) (w : World) (A A2 A3 A4 A9 : Option Addr) (c c2 c3 c4 c9 : Nat)
 (h : Lies w (· < w.heap.size) n.enc [.int .i64 n.k, .string n.name, .slice A2 n.al.length c2, .slice A3 n.fs.length c3, .slice A4 n.sy.length c4, .bool n.has, .string n.df, .int .i64 n.size, .int .i64 n.items, .slice A9 n.br.length c9]) :
 Calls Tryz.prog 33 #[.agg #[.slice A s.nodes.length c, .int .i64 s.root], .agg #[.int .i64 n.k, .string n.name, .slice A2 n.al.length c2, .slice A3 n.fs.length c3, .slice A4 n.sy.length c4, .bool n.has, .string n.df, .int .i64 n.size, .int .i64 n.items, .slice A9 n.br.length c9]] w (Tells (n.ok s) w) := by
 have CS := cell_set
 obtain ⟨_, _, _, _, _, _, _, _, e, l2, f2, l3, r3, l4, f4, l9, r9⟩ := Nd.out.1 h
 simp only [List.cons.injEq, Value.slice.injEq, true_and, and_true] at e
 obtain ⟨⟨rfl, rfl⟩, ⟨rfl, rfl⟩, ⟨rfl, rfl⟩, rfl, rfl⟩ := e
 have OKI := ok_10 (s := s) hk
 have FU := Lib.hid (fun W => rFull_any n.name (by have := hs.1; omega) W)
 have FA := Lib.hid (fun i (h : i < n.al.length) W => rFull_any (n.al[i]'h) (by have := kwt_at h; have := hs.2.2.2.2.1; omega) W)
 have KI := Lib.hid (fun W => rKind_any n.name W)
 have NM : Hid (∀ W, Calls Tryz.prog 34 #[.int .i64 10] W (Pure (.bool true) W)) := fun W => by
  have := rNamed_any 10 W
  rwa [show named 10 = true by decide] at this
 have SN : Hid (∀ W, Below w.heap.size w W → Calls Tryz.prog 58 #[.agg #[.int .i64 10, .string n.name, .slice A2 n.al.length c2, .slice A3 n.fs.length c3, .slice A4 n.sy.length c4, .bool n.has, .string n.df, .int .i64 n.size, .int .i64 n.items, .slice A9 n.br.length c9], .agg #[.int .i64 10, .string n.name, .slice A2 n.al.length c2, .slice none 0 0, .slice A4 n.sy.length c4, .bool n.has, .string n.df, .int .i64 0, .int .i64 0, .slice none 0 0]] W (Tells ((⟨10, ⟨#[]⟩, [], n.fs, [], false, ⟨#[]⟩, n.size, n.items, n.br⟩ : Nd) = Nd.z 10) W)) := fun W b => by
  have := rsameN_any n ⟨10, n.name, n.al, [], n.sy, n.has, n.df, 0, 0, []⟩ W A2 A3 A4 A9 A2 none A4 none c2 c3 c4 c9 c2 0 c4 0 (h.on b)
   (Nd.out.2 ⟨A2, c2, none, 0, A4, c4, none, 0, rfl, l2, FlS.keep (Below.keeps b) (fun _ h => Nat.lt_of_lt_of_le h b.size) f2, ⟨Nat.le_refl _, Nat.zero_le _⟩, RowD.nil_ _ _ _ _, l4, FlS.keep (Below.keeps b) (fun _ h => Nat.lt_of_lt_of_le h b.size) f4, ⟨Nat.le_refl _, Nat.zero_le _⟩, RowD.nil_ _ _ _ _⟩)
  rw [hk] at this
  refine this.mono fun _ _ g => told_tells g (Nd.sameb_iff.trans ?_)
  obtain ⟨k, name, al, fs, sy, has, df, size, items, br⟩ := n
  simp only at hk
  subst hk
  simp [Nd.z]
 rw [hk]
 have F2 := Lib.hid f2
 have l2m := l2.2
 unfold maxLen at l2m
 generalize ((⟨10, ⟨#[]⟩, [], n.fs, [], false, ⟨#[]⟩, n.size, n.items, n.br⟩ : Nd) = Nd.z 10) = P3 at *
 obtain ⟨na, hna⟩ : ∃ m, m = n.al.length := ⟨_, rfl⟩
 have HNA := Lib.hid hna
 rw [← hna] at SN l2m ⊢
 have NF : Hid (Nm.full n.name.data.toList = false → ¬ n.ok s) := fun e h => by have := (OKI.1 h).1.1.1; rw [e] at this; cases this
 have NK : Hid (Nm.kind n.name.data.toList ≠ 0 → ¬ n.ok s) := fun e h => e (OKI.1 h).1.1.2
 have N4 : Hid (¬ na ≤ 40 → ¬ n.ok s) := fun e h => e (by rw [hna]; exact (OKI.1 h).1.2.1)
 have NE : Hid (∀ i (h : i < n.al.length), Nm.full (n.al[i]'h).data.toList = false → ¬ n.ok s) := fun i h e g => by have := (OKI.1 g).1.2.2 _ (List.getElem_mem h); rw [e] at this; cases this
 have YS : Hid (Nm.full n.name.data.toList = true → Nm.kind n.name.data.toList = 0 → na ≤ 40 → (∀ i (h : i < n.al.length), Nm.full (n.al[i]'h).data.toList = true) → (n.ok s ↔ enumOk n ∧ P3)) := fun h1 h2 h3 h4 => by
  rw [OKI]
  exact ⟨fun g => g.2, fun g => ⟨⟨⟨h1, h2⟩, (by rw [← hna]; exact h3), fun t ht => by obtain ⟨i, hi, rfl⟩ := List.getElem_of_mem ht; exact h4 i hi⟩, g⟩⟩
 obtain ⟨e4, he4⟩ : ∃ m, m = n.sy.length := ⟨_, rfl⟩
 have HE4 := Lib.hid he4
 have F4 := Lib.hid f4
 have SI := Lib.hid (fun W (b : Below w.heap.size w W) => rsimple_any A4 c4 n.sy W (FlS.keep (Below.keeps b) (fun _ h => Nat.lt_of_lt_of_le h b.size) f4) l4.2 (fun t ht => by obtain ⟨i, hi, rfl⟩ := List.getElem_of_mem ht; have := kwt_at hi; have := hs.2.2.2.2.2.1; omega))
 have ON := Lib.hid (fun W (b : Below w.heap.size w W) => rOnce_any A4 c4 n.sy W (FlS.keep (Below.keeps b) (fun _ h => Nat.lt_of_lt_of_le h b.size) f4) l4.2)
 have l4m := l4.2
 unfold maxLen at l4m
 obtain ⟨bs, hbs⟩ : ∃ b, b = (decide (n.sy.length ≤ 40) && n.sy.all fun t => Nm.simple t.data.toList) := ⟨_, rfl⟩
 have hbs2 : bs = true ↔ okSimples n.sy := by rw [hbs, Bool.and_eq_true, decide_eq_true_eq, List.all_eq_true]; exact Iff.rfl
 obtain ⟨bo, hbo⟩ : ∃ b, b = decide n.sy.Nodup := ⟨_, rfl⟩
 have hbo2 : bo = true ↔ n.sy.Nodup := by rw [hbo]; simp
 simp only [← hbs] at SI
 simp only [← hbo] at ON
 obtain ⟨FB, hFB⟩ : ∃ F : Nat → Bool, F = fun i => (n.sy.take i).any fun t => decide (t = n.df) := ⟨_, rfl⟩
 have FB0 : Hid (FB 0 = false) := by show _ = _; rw [hFB]; simp
 have FBS : Hid (∀ i (h : i < n.sy.length), FB (i + 1) = (FB i || decide (n.sy[i]'h = n.df))) := fun i h => by
  rw [hFB]; show List.any _ _ = (List.any _ _ || decide _); rw [List.take_succ_eq_append_getElem h, List.any_append]; simp
 have FBA : FB e4 = true ↔ n.df ∈ n.sy := by rw [hFB, he4]; simp [List.take_length]
 have E0 : Hid (e4 = 0 → ¬ enumOk n) := fun e h => h.1 (List.length_eq_zero_iff.1 (he4.symm.trans e))
 have E1 : Hid (bs = false → ¬ enumOk n) := fun e h => by have := hbs2.2 h.2.1; rw [e] at this; cases this
 have E2 : Hid (bo = false → ¬ enumOk n) := fun e h => by have := hbo2.2 h.2.2.1; rw [e] at this; cases this
 have E3 : Hid (0 < e4 → bs = true → bo = true → (enumOk n ↔ (if n.has = true then FB e4 = true else n.df = ⟨#[]⟩))) := fun h1 h2 h3 => by
  unfold enumOk; rw [FBA]
  exact ⟨fun g => g.2.2.2, fun g => ⟨fun e => by rw [e] at he4; simp at he4; omega, hbs2.1 h2, hbo2.1 h3, g⟩⟩
 rw [← he4] at SN ⊢
 simp only [← he4] at SI ON l4m
 generalize enumOk n = E at *
 clear h l2 f2 l3 r3 l4 f4 l9 r9 hs OKI hbs hbs2 hbo hbo2 hFB FBA he4
 generalize n.ok s = Q at *
 generalize Nm.full n.name.data.toList = bf at *
 generalize Nm.kind n.name.data.toList = kd at *
 clear hk
 generalize s.nodes.length = ns at *
 generalize s.root = rt at *
 clear hna
 generalize n.name = nm at *
 generalize n.fs.length = e3 at *
 generalize n.br.length = e9 at *
 generalize n.has = hh at *
 generalize n.df = df at *
 generalize n.size = sz at *
 generalize n.items = im at *
 cases bf with
 | false =>
  have Z := Lib.hid (NF.out rfl)
  clear NF NK N4 NE YS FA KI SN SI ON FB0 FBS E0 E1 E2 E3
  go_enter Tryz.func33, Tryz.ntmps33
  go_wp2_with fail
  with_reducible refine (NM.out _).mono ?_
  rintro e w1 ⟨rfl, rfl⟩
  go_wp2_with fail
  with_reducible refine (FU.out _).mono ?_
  rintro e w1 ⟨rfl, rfl⟩
  go_wp2_with fail
  go_ret
  exact tells_no rfl Z.out bqq
 | true =>
 by_cases hkd : kd = 0
 rotate_left
 · have Z := Lib.hid (NK.out hkd)
   have q0 : (0 : Int) < (kd : Int) := by omega
   clear NF NK N4 NE YS FA SN SI ON FB0 FBS E0 E1 E2 E3 hkd
   go_enter Tryz.func33, Tryz.ntmps33
   go_wp2_with fail
   with_reducible refine (NM.out _).mono ?_
   rintro e w1 ⟨rfl, rfl⟩
   go_wp2_with fail
   with_reducible refine (FU.out _).mono ?_
   rintro e w1 ⟨rfl, rfl⟩
   go_wp2_with fail
   with_reducible refine (KI.out _).mono ?_
   rintro e w1 ⟨rfl, rfl⟩
   go_wp2_with fail
   go_ret
   exact tells_no (by simp) Z.out bqq
 subst hkd
 by_cases h40 : na ≤ 40
 rotate_left
 · have Z := Lib.hid (N4.out h40)
   have q40 : (40 : Int) < (na : Int) := by omega
   clear NF NK N4 NE YS FA SN SI ON FB0 FBS E0 E1 E2 E3 h40
   go_enter Tryz.func33, Tryz.ntmps33
   go_wp2_with fail
   with_reducible refine (NM.out _).mono ?_
   rintro e w1 ⟨rfl, rfl⟩
   go_wp2_with fail
   with_reducible refine (FU.out _).mono ?_
   rintro e w1 ⟨rfl, rfl⟩
   go_wp2_with fail
   with_reducible refine (KI.out _).mono ?_
   rintro e w1 ⟨rfl, rfl⟩
   go_wp2_with fail
   go_ret
   exact tells_no (by simp) Z.out bqq
 have q40 : ¬ (40 : Int) < (na : Int) := by omega
 have Y2 := Lib.hid (YS.out rfl rfl h40)
 clear NF NK N4 YS h40
 go_enter Tryz.func33, Tryz.ntmps33
 go_wp2_with fail
 with_reducible refine (NM.out _).mono ?_
 rintro e w1 ⟨rfl, rfl⟩
 go_wp2_with fail
 with_reducible refine (FU.out _).mono ?_
 rintro e w1 ⟨rfl, rfl⟩
 go_wp2_with fail
 with_reducible refine (KI.out _).mono ?_
 rintro e w1 ⟨rfl, rfl⟩
 go_wp2_with fail
 have G0 := Lib.hid (bqq : Below w.heap.size w (((w.alloc (.cells #[.slice A ns c, .int .i64 rt] 24)).alloc (.cells #[.int .i64 10, .string nm, .slice A2 na c2, .slice A3 e3 c3, .slice A4 e4 c4, .bool hh, .string df, .int .i64 sz, .int .i64 im, .slice A9 e9 c9] 42)).alloc (.cells #[.int .i64 10, .string nm, .slice A2 na c2, .slice none 0 0, .slice none 0 0, .bool false, .string ⟨#[]⟩, .int .i64 0, .int .i64 0, .slice none 0 0] 42)))
 have BN := Lib.hid ((B10.newat (w := w.alloc (.cells #[.slice A ns c, .int .i64 rt] 24)) (g := w.heap.size + 1) (t := 42) (x0 := .int .i64 10) (x1 := .string nm) (x2 := .slice A2 na c2) (x3 := .slice A3 e3 c3) (x4 := .slice A4 e4 c4) (x5 := .bool hh) (x6 := .string df) (x7 := .int .i64 sz) (x8 := .int .i64 im) (x9 := .slice A9 e9 c9) (by simp)).alloc (.cells #[.int .i64 10, .string nm, .slice A2 na c2, .slice none 0 0, .slice none 0 0, .bool false, .string ⟨#[]⟩, .int .i64 0, .int .i64 0, .slice none 0 0] 42))
 have BM := Lib.hid (B10.newat (w := (w.alloc (.cells #[.slice A ns c, .int .i64 rt] 24)).alloc (.cells #[.int .i64 10, .string nm, .slice A2 na c2, .slice A3 e3 c3, .slice A4 e4 c4, .bool hh, .string df, .int .i64 sz, .int .i64 im, .slice A9 e9 c9] 42)) (g := w.heap.size + 1 + 1) (t := 42) (x0 := .int .i64 10) (x1 := .string nm) (x2 := .slice A2 na c2) (x3 := .slice none 0 0) (x4 := .slice none 0 0) (x5 := .bool false) (x6 := .string ⟨#[]⟩) (x7 := .int .i64 0) (x8 := .int .i64 0) (x9 := .slice none 0 0) (by simp))
 generalize (((w.alloc (.cells #[.slice A ns c, .int .i64 rt] 24)).alloc (.cells #[.int .i64 10, .string nm, .slice A2 na c2, .slice A3 e3 c3, .slice A4 e4 c4, .bool hh, .string df, .int .i64 sz, .int .i64 im, .slice A9 e9 c9] 42)).alloc (.cells #[.int .i64 10, .string nm, .slice A2 na c2, .slice none 0 0, .slice none 0 0, .bool false, .string ⟨#[]⟩, .int .i64 0, .int .i64 0, .slice none 0 0] 42)) = W1 at *
 have FW := Lib.hid (FlS.keep (Below.keeps G0.out) (fun _ h => h) F2.out)
 obtain ⟨n0, n1, n2, n3, n4, n5, n6, n7, n8, n9, _, _, _, _, _, _, _, _, _, _⟩ := B10.facts BN.out
 obtain ⟨m0, m1, m2, m3, m4, m5, m6, m7, m8, m9, y0, y1, y2, y3, y4, y5, y6, y7, y8, y9⟩ := B10.facts BM.out
 go_loopw [6] (fun t wr => ∃ j : Nat, j ≤ na ∧ t = .int .i64 (j : Int) ∧ Hid (∀ i (h : i < n.al.length), i < j → Nm.full (n.al[i]'h).data.toList = true) ∧ wr = W1) (fun t _ => na - (intOf t).toNat)
 case atStart => exact ⟨0, Nat.zero_le _, rfl, fun _ _ h => absurd h (Nat.not_lt_zero _), rfl⟩
 case round =>
  obtain ⟨j, hj, rfl, NX, rfl⟩ := hrel
  by_cases hjn : j < na
  · have q : (j : Int) < (na : Int) := by omega
    have h1 : j < n.al.length := by rw [← HNA.out]; exact hjn
    obtain ⟨b8, o8, e8, hb8, z0⟩ := fl_str FW.out h1
    have S1 := Lib.hid (FA.out j h1)
    have N1 := Lib.hid (NE.out j h1)
    have NY : Hid (Nm.full (n.al[j]'h1).data.toList = true → ∀ i (h : i < n.al.length), i < j + 1 → Nm.full (n.al[i]'h).data.toList = true) := fun e i h hi => by
     rcases Nat.lt_or_ge i j with k | k
     · exact NX.out i h k
     · obtain rfl : i = j := by omega
       exact e
    generalize n.al[j]'h1 = Y at *
    obtain ⟨b, hb⟩ : ∃ b, b = Nm.full Y.data.toList := ⟨_, rfl⟩
    rw [← hb] at S1 N1 NY
    subst e8
    clear hb h1
    go_wp2_with fail
    with_reducible refine (S1.out _).mono ?_
    rintro e w1 ⟨rfl, rfl⟩
    cases b with
    | true =>
     have NX2 := Lib.hid (NY.out rfl)
     go_wp2_with fail
     go_roundw
     case rel => exact ⟨j + 1, by omega, by go_num, NX2, by first | rfl | trivial⟩
     case measure => simp [intOf]; omega
    | false =>
     have Z := Lib.hid (N1.out rfl)
     go_wp2_with fail
     go_ret
     exact tells_no rfl Z.out G0.out
  · obtain rfl : j = na := by omega
    have q : ¬ (j : Int) < (j : Int) := by omega
    have Z := Lib.hid (Y2.out fun i h => NX.out i h (by rw [HNA.out]; exact h))
    clear NX hjn Y2 NE FA
    go_wp2_with fail
    have H0 := Lib.hid (((G0.out.setCell (by show w.heap.size ≤ w.heap.size + 1 + 1; omega) _).setCell (by show w.heap.size ≤ w.heap.size + 1 + 1; omega) _).setCell (by show w.heap.size ≤ w.heap.size + 1 + 1; omega) _ : Below w.heap.size w (((wr.setCell ⟨w.heap.size + 1 + 1, 4, none⟩ (.slice A4 e4 c4)).setCell ⟨w.heap.size + 1 + 1, 5, none⟩ (.bool hh)).setCell ⟨w.heap.size + 1 + 1, 6, none⟩ (.string df)))
    have CN := Lib.hid (((BN.out.past (p := ⟨w.heap.size + 1 + 1, 4, none⟩) (by show w.heap.size + 1 + 1 ≠ w.heap.size + 1; omega) (.slice A4 e4 c4)).past (p := ⟨w.heap.size + 1 + 1, 5, none⟩) (by show w.heap.size + 1 + 1 ≠ w.heap.size + 1; omega) (.bool hh)).past (p := ⟨w.heap.size + 1 + 1, 6, none⟩) (by show w.heap.size + 1 + 1 ≠ w.heap.size + 1; omega) (.string df))
    have CM := Lib.hid (((BM.out.set4 (.slice A4 e4 c4)).set5 (.bool hh)).set6 (.string df))
    clear BN BM n0 n1 n2 n3 n4 n5 n6 n7 n8 n9 m0 m1 m2 m3 m4 m5 m6 m7 m8 m9 y0 y1 y2 y3 y4 y5 y6 y7 y8 y9
    generalize (((wr.setCell ⟨w.heap.size + 1 + 1, 4, none⟩ (.slice A4 e4 c4)).setCell ⟨w.heap.size + 1 + 1, 5, none⟩ (.bool hh)).setCell ⟨w.heap.size + 1 + 1, 6, none⟩ (.string df)) = W2 at *
    have F4W := Lib.hid (FlS.keep (Below.keeps H0.out) (fun _ h => h) F4.out)
    clear F4 FW F2 G0
    go_loopw [11, 12] (fun u t wx => ∃ i : Nat, i ≤ e4 ∧ t = .int .i64 (i : Int) ∧ u = .bool (FB i) ∧ ∃ nd, wx = W2.drewN nd) (fun _ t _ => e4 - (intOf t).toNat)
    case atStart => exact ⟨0, Nat.zero_le _, rfl, by rw [FB0.out], 0, rfl⟩
    case round =>
     obtain ⟨i, hi, rfl, rfl, nd, rfl⟩ := hrel
     obtain ⟨n0, n1, n2, n3, n4, n5, n6, n7, n8, n9, _, _, _, _, _, _, _, _, _, _⟩ := B10.facts CN.out
     by_cases hie : i < e4
     · have qi : (i : Int) < (e4 : Int) := by omega
       have h1 : i < n.sy.length := by rw [← HE4.out]; exact hie
       obtain ⟨b8, o8, e8, hb8, z0⟩ := fl_str F4W.out h1
       have FX := FBS.out i h1
       generalize n.sy[i]'h1 = Y at *
       subst e8
       clear h1
       obtain ⟨f, hf⟩ : ∃ f, f = FB i := ⟨_, rfl⟩
       rw [← hf] at FX ⊢
       clear hf
       cases f with
       | true =>
        have FX2 : Hid (FB (i + 1) = true) := by show _ = _; rw [FX]; rfl
        clear FX
        go_wp2_with fail
        go_quiet (fail)
        go_wp2_with fail
        go_roundw
        case rel => exact ⟨i + 1, by omega, by go_num, by rw [FX2.out], _, rfl⟩
        case measure => simp [intOf]; omega
       | false =>
        by_cases hy : Y = df
        · have FX2 : Hid (FB (i + 1) = true) := by show _ = _; rw [FX]; simp [hy]
          have sx : (Y.toList == df.toList) = true := by rw [str_beq]; simpa using hy
          clear FX hy
          go_wp2_with fail
          go_quiet (fail)
          go_wp2_with fail
          go_roundw
          case rel => exact ⟨i + 1, by omega, by go_num, by rw [FX2.out], _, rfl⟩
          case measure => simp [intOf]; omega
        · have FX2 : Hid (FB (i + 1) = false) := by show _ = _; rw [FX]; simp [hy]
          have sx : (Y.toList == df.toList) = false := by rw [str_beq]; simpa using hy
          clear FX hy
          go_wp2_with fail
          go_quiet (fail)
          go_wp2_with fail
          go_roundw
          case rel => exact ⟨i + 1, by omega, by go_num, by rw [FX2.out], _, rfl⟩
          case measure => simp [intOf]; omega
     · obtain rfl : i = e4 := by omega
       have qi : ¬ (i : Int) < (i : Int) := by omega
       have H1 := Lib.hid (bel_drewN H0.out nd)
       obtain ⟨m0, m1, m2, m3, m4, m5, m6, m7, m8, m9, _, _, _, _, _, _, _, _, _, _⟩ := B10.facts CM.out
       generalize FB i = fb at *
       clear hie FBS FB0 F4W
       by_cases h0 : i = 0
       · have ZN : Hid (¬ Q) := fun g => E0.out h0 (Z.out.1 g).1
         subst h0
         clear Z E0 E1 E2 E3 SI ON SN
         go_wp2_with fail
         go_ret
         exact tells_no (by simp) ZN.out H1.out
       have q0 : (0 : Int) < (i : Int) := by omega
       have E4 := Lib.hid (E3.out (by omega))
       clear E3 E0 h0
       go_wp2_with fail
       with_reducible refine (SI.out _ H1.out).mono ?_
       rintro e w1 ⟨rfl, rfl⟩
       cases bs with
       | false =>
        have ZN : Hid (¬ Q) := fun g => E1.out rfl (Z.out.1 g).1
        clear Z E1 E2 E4 SI ON SN
        go_wp2_with fail
        go_ret
        exact tells_no (by simp) ZN.out H1.out
       | true =>
       go_wp2_with fail
       with_reducible refine (ON.out _ H1.out).mono ?_
       rintro e w3 ⟨rfl, b3⟩
       have h3 := H1.out.trans (b3.mono H1.out.size)
       cases bo with
       | false =>
        have ZN : Hid (¬ Q) := fun g => E2.out rfl (Z.out.1 g).1
        clear Z E1 E2 E4 SI ON SN
        go_wp2_with fail
        go_ret
        exact tells_no (by simp) ZN.out h3
       | true =>
       have E5 := Lib.hid (E4.out (by first | rfl | trivial) (by first | rfl | trivial))
       clear E4 E1 E2 SI ON n0 n1 n2 n3 n4 n5 n6 n7 n8 n9 m0 m1 m2 m3 m4 m5 m6 m7 m8 m9
       obtain ⟨n0, n1, n2, n3, n4, n5, n6, n7, n8, n9, _, _, _, _, _, _, _, _, _, _⟩ := B10.facts (B10.below (CN.out.drewN nd) b3 (CN.out.drewN nd).lt)
       obtain ⟨m0, m1, m2, m3, m4, m5, m6, m7, m8, m9, _, _, _, _, _, _, _, _, _, _⟩ := B10.facts (B10.below (CM.out.drewN nd) b3 (CM.out.drewN nd).lt)
       clear CN CM
       cases hh with
       | true =>
        cases fb with
        | false =>
         have ZN : Hid (¬ Q) := fun g => by have := E5.out.1 (Z.out.1 g).1; simp at this
         clear Z E5 SN
         go_wp2_with fail
         go_ret
         exact tells_no (by simp) ZN.out h3
        | true =>
         have ZY : Hid (Q ↔ P3) := Z.out.trans ⟨fun g => g.2, fun g => ⟨E5.out.2 (by simp), g⟩⟩
         clear Z E5
         go_wp2_with fail
         with_reducible refine (SN.out _ h3).mono ?_
         rintro e w9 ⟨b, rfl, hb, b9⟩
         have bw9 : Below w.heap.size w w9 := h3.trans (b9.mono h3.size)
         have HB9 := Lib.hid hb
         clear hb
         go_wp2_with fail
         go_ret
         exact ⟨b, rfl, HB9.out.trans ZY.out.symm, bw9⟩
       | false =>
        by_cases hd : df = ⟨#[]⟩
        · have ZY : Hid (Q ↔ P3) := Z.out.trans ⟨fun g => g.2, fun g => ⟨E5.out.2 (by simpa using hd), g⟩⟩
          subst hd
          clear Z E5
          go_wp2_with fail
          with_reducible refine (SN.out _ h3).mono ?_
          rintro e w9 ⟨b, rfl, hb, b9⟩
          have bw9 : Below w.heap.size w w9 := h3.trans (b9.mono h3.size)
          have HB9 := Lib.hid hb
          clear hb
          go_wp2_with fail
          go_ret
          exact ⟨b, rfl, HB9.out.trans ZY.out.symm, bw9⟩
        · have ZN : Hid (¬ Q) := fun g => by have := E5.out.1 (Z.out.1 g).1; simp at this; exact hd this
          have sd : (df.toList == (⟨#[]⟩ : ByteArray).toList) = false := by rw [str_beq]; simpa using hd
          have e0 : (⟨#[]⟩ : ByteArray).toList = [] := by rw [ByteArray.toList_eq]
          have sd2 : (df.toList == []) = false := by have := sd; rwa [e0] at this
          have sd4 : df.toList.isEmpty = false := by rw [List.isEmpty_eq_false_iff]; simpa using sd2
          clear Z E5 SN hd
          go_wp2_with fail
          go_ret
          exact tells_no (by simp) ZN.out h3
def pairOk (s : Sc) (l : List Int) (i k : Nat) : Prop := l.getD i 0 ≠ l.getD k 0 ∧ (s.kind (l.getD i 0) ≠ s.kind (l.getD k 0) ∨ named (s.kind (l.getD i 0)) = true)
def brsOk (s : Sc) (l : List Int) (i : Nat) : Prop := (0 < l.length ∧ l.length ≤ 10) ∧ ∀ j, j < i → s.kind (l.getD j 0) ≠ 13 ∧ ∀ k, k < j → pairOk s l j k
def brOk (s : Sc) (l : List Int) (i k : Nat) : Prop := brsOk s l i ∧ s.kind (l.getD i 0) ≠ 13 ∧ ∀ q, q < k → pairOk s l i q
theorem brs_0 {s : Sc} {l : List Int} : brsOk s l 0 ↔ 0 < l.length ∧ l.length ≤ 10 := ⟨fun h => h.1, fun h => ⟨h, fun _ hj => absurd hj (Nat.not_lt_zero _)⟩⟩
theorem br_0 {s : Sc} {l : List Int} {i : Nat} : brOk s l i 0 ↔ brsOk s l i ∧ s.kind (l.getD i 0) ≠ 13 := ⟨fun h => ⟨h.1, h.2.1⟩, fun h => ⟨h.1, h.2, fun _ hj => absurd hj (Nat.not_lt_zero _)⟩⟩
theorem br_succ {s : Sc} {l : List Int} {i k : Nat} : brOk s l i (k + 1) ↔ brOk s l i k ∧ pairOk s l i k := by
 constructor
 · rintro ⟨h1, h2, h3⟩
   exact ⟨⟨h1, h2, fun q hq => h3 q (by omega)⟩, h3 k (by omega)⟩
 · rintro ⟨⟨h1, h2, h3⟩, h4⟩
   refine ⟨h1, h2, fun q hq => ?_⟩
   rcases Nat.lt_or_ge q k with g | g
   · exact h3 q g
   · obtain rfl : q = k := by omega
     exact h4
theorem brs_succ {s : Sc} {l : List Int} {i : Nat} : brsOk s l (i + 1) ↔ brOk s l i i := by
 constructor
 · rintro ⟨h1, h2⟩
   exact ⟨⟨h1, fun j hj => h2 j (by omega)⟩, (h2 i (by omega)).1, fun q hq => (h2 i (by omega)).2 q hq⟩
 · rintro ⟨⟨h1, h2⟩, h3, h4⟩
   refine ⟨h1, fun j hj => ?_⟩
   rcases Nat.lt_or_ge j i with g | g
   · exact h2 j g
   · obtain rfl : j = i := by omega
     exact ⟨h3, h4⟩
theorem brs_all {s : Sc} {l : List Int} : brsOk s l l.length ↔ unionOk s l := by
 have ge : ∀ i (h : i < l.length), l.getD i 0 = l[i]'h := fun i h => by rw [List.getD_eq_getElem?_getD, List.getElem?_eq_getElem h]; rfl
 unfold unionOk
 constructor
 · rintro ⟨⟨h0, h1⟩, h2⟩
   refine ⟨fun e => by rw [e] at h0; exact absurd h0 (Nat.lt_irrefl _), h1, fun b hb => ?_, List.pairwise_iff_getElem.2 fun i j hi hj hij => ?_⟩
   · obtain ⟨i, hi, rfl⟩ := List.getElem_of_mem hb
     rw [← ge i hi]; exact (h2 i hi).1
   · have := (h2 j hj).2 i hij
     unfold pairOk at this
     rw [ge i hi, ge j hj] at this
     refine ⟨fun e => this.1 e.symm, ?_⟩
     rcases this.2 with g | g
     · exact .inl fun e => g e.symm
     · by_cases e : s.kind (l[i]'hi) = s.kind (l[j]'hj)
       · exact .inr (by rw [e]; exact g)
       · exact .inl e
 · rintro ⟨h0, h1, h2, h3⟩
   refine ⟨⟨List.length_pos_iff.2 h0, h1⟩, fun j hj => ⟨by rw [ge j hj]; exact h2 _ (List.getElem_mem hj), fun k hk => ?_⟩⟩
   have hk' : k < l.length := by omega
   have := List.pairwise_iff_getElem.1 h3 k j hk' hj hk
   unfold pairOk
   rw [ge j hj, ge k hk']
   refine ⟨fun e => this.1 e.symm, ?_⟩
   rcases this.2 with g | g
   · exact .inl fun e => g e.symm
   · by_cases e : s.kind (l[j]'hj) = s.kind (l[k]'hk')
     · exact .inr (by rw [e]; exact g)
     · exact .inl e
theorem rnode_13 (s : Sc) (n : Nd) (hk : n.k = 13) (hin : ∀ i, i < n.br.length → 0 ≤ n.br.getD i 0 ∧ n.br.getD i 0 < (s.nodes.length : Int)) (w : World) (A A2 A3 A4 A9 : Option Addr) (c c2 c3 c4 c9 : Nat) (hA : RowD w (· < w.heap.size) 10 (s.nodes.map Nd.enc) A)
 (h : Lies w (· < w.heap.size) n.enc [.int .i64 n.k, .string n.name, .slice A2 n.al.length c2, .slice A3 n.fs.length c3, .slice A4 n.sy.length c4, .bool n.has, .string n.df, .int .i64 n.size, .int .i64 n.items, .slice A9 n.br.length c9]) :
 Calls Tryz.prog 33 #[.agg #[.slice A s.nodes.length c, .int .i64 s.root], .agg #[.int .i64 n.k, .string n.name, .slice A2 n.al.length c2, .slice A3 n.fs.length c3, .slice A4 n.sy.length c4, .bool n.has, .string n.df, .int .i64 n.size, .int .i64 n.items, .slice A9 n.br.length c9]] w (Tells (n.ok s) w) := by
 have CS := cell_set
 have OKI := ok_13 (s := s) hk
 rw [← brs_all] at OKI
 obtain ⟨_, _, _, _, _, _, _, _, e, l2, f2, l3, r3, l4, f4, l9, r9⟩ := Nd.out.1 h
 simp only [List.cons.injEq, Value.slice.injEq, true_and, and_true] at e
 obtain ⟨⟨rfl, rfl⟩, ⟨rfl, rfl⟩, ⟨rfl, rfl⟩, rfl, rfl⟩ := e
 have SN : Hid (∀ W, Below w.heap.size w W → Calls Tryz.prog 58 #[.agg #[.int .i64 13, .string n.name, .slice A2 n.al.length c2, .slice A3 n.fs.length c3, .slice A4 n.sy.length c4, .bool n.has, .string n.df, .int .i64 n.size, .int .i64 n.items, .slice A9 n.br.length c9], .agg #[.int .i64 13, .string ⟨#[]⟩, .slice none 0 0, .slice none 0 0, .slice none 0 0, .bool false, .string ⟨#[]⟩, .int .i64 0, .int .i64 0, .slice A9 n.br.length c9]] W (Tells ((⟨13, n.name, n.al, n.fs, n.sy, n.has, n.df, n.size, n.items, []⟩ : Nd) = Nd.z 13) W)) := fun W b => by
  have := rsameN_any n ⟨13, ⟨#[]⟩, [], [], [], false, ⟨#[]⟩, 0, 0, n.br⟩ W A2 A3 A4 A9 none none none A9 c2 c3 c4 c9 0 0 0 c9 (h.on b)
   (Nd.out.2 ⟨none, 0, none, 0, none, 0, A9, c9, rfl, ⟨Nat.le_refl _, Nat.zero_le _⟩, .inl rfl, ⟨Nat.le_refl _, Nat.zero_le _⟩, RowD.nil_ _ _ _ _, ⟨Nat.le_refl _, Nat.zero_le _⟩, .inl rfl, l9, (r9.below b).more b.size⟩)
  rw [hk] at this
  refine this.mono fun _ _ g => told_tells g (Nd.sameb_iff.trans ?_)
  obtain ⟨k, name, al, fs, sy, has, df, size, items, br⟩ := n
  simp only at hk
  subst hk
  simp [Nd.z]
 have R9 : Hid (∀ X, Below w.heap.size w X → ∀ i, i < n.br.length → ∃ g off, A9 = some ⟨g, off, none⟩ ∧ g < w.heap.size ∧ X.cell? ⟨g, off + i, none⟩ = some (.int .i64 (n.br.getD i 0))) := fun X b i hi => by
  obtain ⟨g, off, e, hg, hc⟩ := ints_at (r9.below b) hi
  exact ⟨g, off, e, hg, by rw [hc, List.getD_eq_getElem?_getD, List.getElem?_eq_getElem hi]; rfl⟩
 have RN : Hid (∀ X, Below w.heap.size w X → ∀ p : Int, 0 ≤ p → p < (s.nodes.length : Int) → ∃ q b o X2 x2 X3 x3 X4 x4 X9 x9 nm hh df sz im l2 l3 l4 l9, p = ((q : Nat) : Int) ∧ q < s.nodes.length ∧ A = some ⟨b, o, none⟩ ∧ b < w.heap.size ∧ X.cell? ⟨b, o + q * 10, none⟩ = some (.int .i64 (s.kind p)) ∧ X.cell? ⟨b, o + q * 10 + 1, none⟩ = some (.string nm) ∧ X.cell? ⟨b, o + q * 10 + 2, none⟩ = some (.slice X2 l2 x2) ∧ X.cell? ⟨b, o + q * 10 + 3, none⟩ = some (.slice X3 l3 x3) ∧ X.cell? ⟨b, o + q * 10 + 4, none⟩ = some (.slice X4 l4 x4) ∧ X.cell? ⟨b, o + q * 10 + 5, none⟩ = some (.bool hh) ∧ X.cell? ⟨b, o + q * 10 + 6, none⟩ = some (.string df) ∧ X.cell? ⟨b, o + q * 10 + 7, none⟩ = some (.int .i64 sz) ∧ X.cell? ⟨b, o + q * 10 + 8, none⟩ = some (.int .i64 im) ∧ X.cell? ⟨b, o + q * 10 + 9, none⟩ = some (.slice X9 l9 x9)) := fun X b p p0 p1 => by
  have hq : p.toNat < s.nodes.length := by omega
  obtain ⟨bb, o, X2, x2, X3, x3, X4, x4, X9, x9, e1, lb, ⟨y0, y1, y2, y3, y4, y5, y6, y7, y8, y9⟩, _⟩ := nodes_at (hA.below b) hq
  refine ⟨p.toNat, bb, o, X2, x2, X3, x3, X4, x4, X9, x9, _, _, _, _, _, _, _, _, _, by omega, hq, e1, lb, ?_, y1, y2, y3, y4, y5, y6, y7, y8, y9⟩
  rw [y0]
  unfold Sc.kind
  rw [if_pos p0, List.getElem?_eq_getElem hq]; rfl
 have HIN := Lib.hid hin
 have NM : Hid (∀ k W, Calls Tryz.prog 34 #[.int .i64 k] W (Pure (.bool (named k)) W)) := fun k W => rNamed_any k W
 have N13 : Hid (∀ W, Calls Tryz.prog 34 #[.int .i64 13] W (Pure (.bool false) W)) := fun W => by
  have := rNamed_any 13 W
  rwa [show named 13 = false by decide] at this
 rw [hk]
 obtain ⟨FP, hFP⟩ : ∃ F : Nat → Prop, F = brsOk s n.br := ⟨_, rfl⟩
 obtain ⟨GP, hGP⟩ : ∃ F : Nat → Nat → Prop, F = brOk s n.br := ⟨_, rfl⟩
 have F0 : Hid (FP 0 ↔ 0 < n.br.length ∧ n.br.length ≤ 10) := by show _ ↔ _; rw [hFP]; exact brs_0
 have FS : Hid (∀ i, FP (i + 1) ↔ GP i i) := fun i => by rw [hFP, hGP]; exact brs_succ
 have GZ : Hid (∀ i, GP i 0 ↔ FP i ∧ s.kind (n.br.getD i 0) ≠ 13) := fun i => by rw [hFP, hGP]; exact br_0
 have GS : Hid (∀ i k, GP i (k + 1) ↔ GP i k ∧ n.br.getD i 0 ≠ n.br.getD k 0 ∧ (s.kind (n.br.getD i 0) ≠ s.kind (n.br.getD k 0) ∨ named (s.kind (n.br.getD i 0)) = true)) := fun i k => by rw [hGP]; exact br_succ
 rw [← hFP] at OKI
 have OK := Lib.hid OKI
 generalize ((⟨13, n.name, n.al, n.fs, n.sy, n.has, n.df, n.size, n.items, []⟩ : Nd) = Nd.z 13) = P3 at *
 generalize n.ok s = Q at *
 have l9m := l9.2
 unfold maxLen at l9m
 clear h l2 f2 l3 r3 l4 f4 r9 OKI hFP hGP hA hin hk l9
 generalize s.nodes.length = ns at *
 generalize s.root = rt at *
 generalize n.name = nm at *
 generalize n.al.length = e2 at *
 generalize n.fs.length = e3 at *
 generalize n.sy.length = e4 at *
 generalize n.has = hh at *
 generalize n.df = df at *
 generalize n.size = sz at *
 generalize n.items = im at *
 generalize n.br.length = nr at *
 generalize hB : (fun i => n.br.getD i 0) = BR at *
 have EB : ∀ i, n.br.getD i 0 = BR i := fun i => by rw [← hB]
 simp only [EB] at R9 HIN GZ GS
 clear EB hB
 generalize hKK : s.kind = KK at *
 clear hKK
 have H0 : Hid (B2 (((w.alloc (.cells #[.slice A ns c, .int .i64 rt] 24)).alloc (.cells #[.int .i64 13, .string nm, .slice A2 e2 c2, .slice A3 e3 c3, .slice A4 e4 c4, .bool hh, .string df, .int .i64 sz, .int .i64 im, .slice A9 nr c9] 42)).alloc (.cells #[.int .i64 13, .string ⟨#[]⟩, .slice none 0 0, .slice none 0 0, .slice none 0 0, .bool false, .string ⟨#[]⟩, .int .i64 0, .int .i64 0, .slice A9 nr c9] 42)) (w.heap.size) 24 (.slice A ns c) (.int .i64 rt)) := B2.alloc (B2.alloc (B2.newat rfl) _) _
 have H1 : Hid (B10 (((w.alloc (.cells #[.slice A ns c, .int .i64 rt] 24)).alloc (.cells #[.int .i64 13, .string nm, .slice A2 e2 c2, .slice A3 e3 c3, .slice A4 e4 c4, .bool hh, .string df, .int .i64 sz, .int .i64 im, .slice A9 nr c9] 42)).alloc (.cells #[.int .i64 13, .string ⟨#[]⟩, .slice none 0 0, .slice none 0 0, .slice none 0 0, .bool false, .string ⟨#[]⟩, .int .i64 0, .int .i64 0, .slice A9 nr c9] 42)) (w.heap.size + 1) 42 (.int .i64 13) (.string nm) (.slice A2 e2 c2) (.slice A3 e3 c3) (.slice A4 e4 c4) (.bool hh) (.string df) (.int .i64 sz) (.int .i64 im) (.slice A9 nr c9)) := B10.alloc (B10.newat (by simp)) _
 have H2 : Hid (B10 (((w.alloc (.cells #[.slice A ns c, .int .i64 rt] 24)).alloc (.cells #[.int .i64 13, .string nm, .slice A2 e2 c2, .slice A3 e3 c3, .slice A4 e4 c4, .bool hh, .string df, .int .i64 sz, .int .i64 im, .slice A9 nr c9] 42)).alloc (.cells #[.int .i64 13, .string ⟨#[]⟩, .slice none 0 0, .slice none 0 0, .slice none 0 0, .bool false, .string ⟨#[]⟩, .int .i64 0, .int .i64 0, .slice A9 nr c9] 42)) (w.heap.size + 1 + 1) 42 (.int .i64 13) (.string ⟨#[]⟩) (.slice none 0 0) (.slice none 0 0) (.slice none 0 0) (.bool false) (.string ⟨#[]⟩) (.int .i64 0) (.int .i64 0) (.slice A9 nr c9)) := B10.newat (by simp)
 have BW : Hid (Below w.heap.size w (((w.alloc (.cells #[.slice A ns c, .int .i64 rt] 24)).alloc (.cells #[.int .i64 13, .string nm, .slice A2 e2 c2, .slice A3 e3 c3, .slice A4 e4 c4, .bool hh, .string df, .int .i64 sz, .int .i64 im, .slice A9 nr c9] 42)).alloc (.cells #[.int .i64 13, .string ⟨#[]⟩, .slice none 0 0, .slice none 0 0, .slice none 0 0, .bool false, .string ⟨#[]⟩, .int .i64 0, .int .i64 0, .slice A9 nr c9] 42))) := (((Below.refl _ _).alloc (Nat.le_refl _) _).alloc (by simp) _).alloc (by simp; omega) _
 have ZW : Hid ((((w.alloc (.cells #[.slice A ns c, .int .i64 rt] 24)).alloc (.cells #[.int .i64 13, .string nm, .slice A2 e2 c2, .slice A3 e3 c3, .slice A4 e4 c4, .bool hh, .string df, .int .i64 sz, .int .i64 im, .slice A9 nr c9] 42)).alloc (.cells #[.int .i64 13, .string ⟨#[]⟩, .slice none 0 0, .slice none 0 0, .slice none 0 0, .bool false, .string ⟨#[]⟩, .int .i64 0, .int .i64 0, .slice A9 nr c9] 42)).heap.size = w.heap.size + 3) := by show _ = _; simp
 go_enter Tryz.func33, Tryz.ntmps33
 go_wp2_with fail
 with_reducible refine (N13.out _).mono ?_
 rintro e w1 ⟨rfl, rfl⟩
 go_upto_region 39 with fail
 go_cut [7] from 200 (fun s7 wc => ∃ b : Bool, s7 = .bool b ∧ Hid (b = true ↔ FP 0) ∧ wc = (((w.alloc (.cells #[.slice A ns c, .int .i64 rt] 24)).alloc (.cells #[.int .i64 13, .string nm, .slice A2 e2 c2, .slice A3 e3 c3, .slice A4 e4 c4, .bool hh, .string df, .int .i64 sz, .int .i64 im, .slice A9 nr c9] 42)).alloc (.cells #[.int .i64 13, .string ⟨#[]⟩, .slice none 0 0, .slice none 0 0, .slice none 0 0, .bool false, .string ⟨#[]⟩, .int .i64 0, .int .i64 0, .slice A9 nr c9] 42)))
 case first =>
  by_cases c0 : 0 < nr
  · have q0 : (0 : Int) < (nr : Int) := by omega
    by_cases c10 : nr ≤ 10
    · have q10 : (nr : Int) ≤ 10 := by omega
      have C0 := Lib.hid (F0.out.2 ⟨c0, c10⟩)
      clear c0 c10
      go_wp2_with fail
      go_meet
      exact ⟨true, rfl, ⟨fun _ => C0.out, fun _ => rfl⟩, rfl⟩
    · have q10 : ¬ (nr : Int) ≤ 10 := by omega
      have C0 : Hid (¬ FP 0) := fun h => c10 (F0.out.1 h).2
      clear c0 c10
      go_wp2_with fail
      go_meet
      exact ⟨false, by first | rfl | (simp; omega), ⟨(fun e => by cases e), fun h => absurd h C0.out⟩, rfl⟩
  · have q0 : ¬ (0 : Int) < (nr : Int) := by omega
    have C0 : Hid (¬ FP 0) := fun h => c0 (F0.out.1 h).1
    clear c0
    go_wp2_with fail
    go_meet
    exact ⟨false, by first | rfl | (simp; omega), ⟨(fun e => by cases e), fun h => absurd h C0.out⟩, rfl⟩
 obtain ⟨bb, rfl, HF0, rfl⟩ := hcut
 go_wp2_with fail
 obtain ⟨W, hW⟩ : ∃ W, W = (((w.alloc (.cells #[.slice A ns c, .int .i64 rt] 24)).alloc (.cells #[.int .i64 13, .string nm, .slice A2 e2 c2, .slice A3 e3 c3, .slice A4 e4 c4, .bool hh, .string df, .int .i64 sz, .int .i64 im, .slice A9 nr c9] 42)).alloc (.cells #[.int .i64 13, .string ⟨#[]⟩, .slice none 0 0, .slice none 0 0, .slice none 0 0, .bool false, .string ⟨#[]⟩, .int .i64 0, .int .i64 0, .slice A9 nr c9] 42)) := ⟨_, rfl⟩
 rw [← hW] at H0 H1 H2 BW ZW
 rw [← hW]
 clear hW
 go_loopw [7, 13] (fun f x wr => ∃ (b : Bool) (i : Nat), i ≤ nr ∧ x = .int .i64 (i : Int) ∧ f = .bool b ∧ Hid (b = true ↔ FP i) ∧ Hid (Below W.heap.size W wr)) (fun _ x _ => nr - (intOf x).toNat)
 case atStart => exact ⟨bb, 0, Nat.zero_le _, rfl, rfl, HF0, Below.refl _ _⟩
 case round =>
  obtain ⟨b, i, hi, rfl, rfl, HF, bl⟩ := hrel
  have zw := ZW.out
  have zl := bl.out.size
  have bwr : Below w.heap.size w wr := BW.out.trans (bl.out.mono (by omega))
  have M0 := Lib.hid (B2.below H0.out bl.out (by omega))
  have M1 := Lib.hid (B10.below H1.out bl.out (by omega))
  have M2 := Lib.hid (B10.below H2.out bl.out (by omega))
  obtain ⟨g0, g1, g2⟩ : w.heap.size < wr.heap.size ∧ w.heap.size + 1 < wr.heap.size ∧ w.heap.size + 1 + 1 < wr.heap.size := ⟨by omega, by omega, by omega⟩
  clear zw
  obtain ⟨_, _, _, _⟩ := B2.facts M0.out
  obtain ⟨_, _, _, _, _, _, _, _, _, _, _, _, _, _, _, _, _, _, _, _⟩ := B10.facts M1.out
  obtain ⟨_, _, _, _, _, _, _, _, _, _, _, _, _, _, _, _, _, _, _, _⟩ := B10.facts M2.out
  by_cases hin : i < nr
  · have qi : (i : Int) < (nr : Int) := by omega
    obtain ⟨gb, ob, eb, lb, kb⟩ := R9.out wr bwr i hin
    obtain ⟨hk0, hk1⟩ := HIN.out i hin
    obtain ⟨q, b1, o1, X2, x2, X3, x3, X4, x4, X9, x9, nm', hh', df', sz', im', l2', l3', l4', l9', eq, lq, eA, lb1, y0, y1, y2, y3, y4, y5, y6, y7, y8, y9⟩ := RN.out wr bwr (BR i) hk0 hk1
    obtain ⟨KI, hKI⟩ : ∃ k, k = KK (BR i) := ⟨_, rfl⟩
    rw [← hKI] at y0
    have HKI := Lib.hid hKI
    rw [eq] at kb
    subst eb eA
    have qq : (q : Int) < (ns : Int) := by omega
    have lb' : gb < wr.heap.size := Nat.lt_of_lt_of_le lb bwr.size
    have lb1' : b1 < wr.heap.size := Nat.lt_of_lt_of_le lb1 bwr.size
    have N0 : Hid (B10 ((wr.alloc (.cells #[.int .i64 KI, .string nm', .slice X2 l2' x2, .slice X3 l3' x3, .slice X4 l4' x4, .bool hh', .string df', .int .i64 sz', .int .i64 im', .slice X9 l9' x9] 42)).drew) wr.heap.size 42 (.int .i64 KI) (.string nm') (.slice X2 l2' x2) (.slice X3 l3' x3) (.slice X4 l4' x4) (.bool hh') (.string df') (.int .i64 sz') (.int .i64 im') (.slice X9 l9' x9)) := B10.drew (B10.newat rfl)
    have BX : Hid (Below wr.heap.size wr ((wr.alloc (.cells #[.int .i64 KI, .string nm', .slice X2 l2' x2, .slice X3 l3' x3, .slice X4 l4' x4, .bool hh', .string df', .int .i64 sz', .int .i64 im', .slice X9 l9' x9] 42)).drew)) := ((Below.refl _ _).alloc (Nat.le_refl _) _).drew
    have ZX : Hid (((wr.alloc (.cells #[.int .i64 KI, .string nm', .slice X2 l2' x2, .slice X3 l3' x3, .slice X4 l4' x4, .bool hh', .string df', .int .i64 sz', .int .i64 im', .slice X9 l9' x9] 42)).drew).heap.size = wr.heap.size + 1) := by show _ = _; simp
    have EQ := Lib.hid eq
    have BWR := Lib.hid bwr
    have kbi := kb
    clear eq hKI
    go_wp2_with fail
    go_region
    obtain ⟨_, _, _, _, _, _, _, _, _, _, _, _, _, _, _, _, _, _, _, _⟩ := B10.facts N0.out
    go_upto_region 44 with fail
    go_cut [7] from 213 to 274 (fun s7 wc => ∃ b : Bool, s7 = .bool b ∧ Hid (b = true ↔ GP i 0) ∧ wc = (wr.alloc (.cells #[.int .i64 KI, .string nm', .slice X2 l2' x2, .slice X3 l3' x3, .slice X4 l4' x4, .bool hh', .string df', .int .i64 sz', .int .i64 im', .slice X9 l9' x9] 42)).drew)
    case first =>
     cases b with
     | false =>
      have HG0 : Hid ((false : Bool) = true ↔ GP i 0) := ⟨(fun e => by cases e), fun g => absurd (HF.out.2 ((GZ.out i).1 g).1) (by simp)⟩
      go_wp2_with fail
      go_meet
      exact ⟨false, rfl, HG0, rfl⟩
     | true =>
      by_cases k13 : KI = 13
      · have e13 : (KI != 13) = false := by rw [bne_eq_false_iff_eq]; exact k13
        have HG0 : Hid ((false : Bool) = true ↔ GP i 0) := ⟨(fun e => by cases e), fun g => absurd (HKI.out.symm.trans k13) ((GZ.out i).1 g).2⟩
        clear k13
        go_wp2_with fail
        go_meet
        exact ⟨false, rfl, HG0, rfl⟩
      · have e13 : (KI != 13) = true := by rw [bne_iff_ne]; exact k13
        have HGG : Hid (GP i 0) := (GZ.out i).2 ⟨HF.out.1 (by first | rfl | trivial), fun e => k13 (HKI.out.trans e)⟩
        clear k13
        go_wp2_with fail
        go_meet
        exact ⟨true, rfl, ⟨fun _ => HGG.out, fun _ => rfl⟩, rfl⟩
    obtain ⟨b2, rfl, HG0, rfl⟩ := hcut
    obtain ⟨Wx, hWx⟩ : ∃ W, W = (wr.alloc (.cells #[.int .i64 KI, .string nm', .slice X2 l2' x2, .slice X3 l3' x3, .slice X4 l4' x4, .bool hh', .string df', .int .i64 sz', .int .i64 im', .slice X9 l9' x9] 42)).drew := ⟨_, rfl⟩
    go_wp2_with fail
    rw [← hWx] at N0 BX ZX
    rw [← hWx]
    clear hWx
    have gx0 := g0; have gx1 := g1; have gx2 := g2
    have K0 := Lib.hid (B2.below M0.out BX.out g0)
    have K1 := Lib.hid (B10.below M1.out BX.out g1)
    have K2 := Lib.hid (B10.below M2.out BX.out g2)
    have BWX := Lib.hid (BWR.out.trans (BX.out.mono BWR.out.size))
    clear M0 M1 M2 HF
    obtain ⟨wo, hwo⟩ : ∃ X, X = wr := ⟨_, rfl⟩
    subst hwo
    go_loopw [7, 15] (fun f x wr => ∃ (b : Bool) (k : Nat), k ≤ i ∧ x = .int .i64 (k : Int) ∧ f = .bool b ∧ Hid (b = true ↔ GP i k) ∧ Hid (Below Wx.heap.size Wx wr)) (fun _ x _ => i - (intOf x).toNat)
    case atStart => exact ⟨b2, 0, Nat.zero_le _, rfl, rfl, HG0, Below.refl _ _⟩
    case round =>
     obtain ⟨b, k, hk, rfl, rfl, HG, bq⟩ := hrel
     have zx := ZX.out
     have zq := bq.out.size
     have bwq : Below w.heap.size w wr := BWX.out.trans (bq.out.mono BWX.out.size)
     have J0 := Lib.hid (B2.below K0.out bq.out (by omega))
     have J1 := Lib.hid (B10.below K1.out bq.out (by omega))
     have J2 := Lib.hid (B10.below K2.out bq.out (by omega))
     have JX := Lib.hid (B10.below N0.out bq.out (by omega))
     obtain ⟨j0, j1, j2, jx⟩ : w.heap.size < wr.heap.size ∧ w.heap.size + 1 < wr.heap.size ∧ w.heap.size + 1 + 1 < wr.heap.size ∧ wo.heap.size < wr.heap.size := ⟨by omega, by omega, by omega, by omega⟩
     clear zx
     obtain ⟨_, _, _, _⟩ := B2.facts J0.out
     obtain ⟨_, _, _, _, _, _, _, _, _, _, _, _, _, _, _, _, _, _, _, _⟩ := B10.facts J1.out
     obtain ⟨_, _, _, _, _, _, _, _, _, _, _, _, _, _, _, _, _, _, _, _⟩ := B10.facts J2.out
     obtain ⟨_, _, _, _, _, _, _, _, _, _, _, _, _, _, _, _, _, _, _, _⟩ := B10.facts JX.out
     by_cases hki : k < i
     · have qk : (k : Int) < (i : Int) := by omega
       have qk2 : (k : Int) < (nr : Int) := by omega
       obtain ⟨gb', ob', eb', lb2, kb2⟩ := R9.out wr bwq k (by omega)
       obtain ⟨gb'', ob'', eb'', lb3, kb3⟩ := R9.out wr bwq i hin
       simp only [Option.some.injEq, Addr.mk.injEq, and_true] at eb' eb''
       obtain ⟨rfl, rfl⟩ := eb'
       obtain ⟨rfl, rfl⟩ := eb''
       obtain ⟨hk2, hk3⟩ := HIN.out k (by omega)
       obtain ⟨q2, b2, o2, V2, v2, V3, v3, V4, v4, V9, v9, nm2, hh2, df2, sz2, im2, m2, m3, m4, m9, eq2, lq2, eA2, lb4, u0, u1, u2, u3, u4, u5, u6, u7, u8', u9⟩ := RN.out wr bwq (BR k) hk2 hk3
       simp only [Option.some.injEq, Addr.mk.injEq, and_true] at eA2
       obtain ⟨rfl, rfl⟩ := eA2
       obtain ⟨KJ, hKJ⟩ : ∃ k', k' = KK (BR k) := ⟨_, rfl⟩
       rw [← hKJ] at u0
       rw [eq2] at kb2
       rw [EQ.out] at kb3
       have GSk : Hid (GP i (k + 1) ↔ GP i k ∧ (q : Int) ≠ (q2 : Int) ∧ (KI ≠ KJ ∨ named KI = true)) := by show _ ↔ _; rw [GS.out i k, ← HKI.out, ← hKJ, EQ.out, eq2]
       have qq2 : (q2 : Int) < (ns : Int) := by omega
       have lbq : gb < wr.heap.size := Nat.lt_of_lt_of_le lb bwq.size
       have lb1q : b1 < wr.heap.size := Nat.lt_of_lt_of_le lb1 bwq.size
       have BY : Hid (Below wr.heap.size wr ((wr.alloc (.cells #[.int .i64 KJ, .string nm2, .slice V2 m2 v2, .slice V3 m3 v3, .slice V4 m4 v4, .bool hh2, .string df2, .int .i64 sz2, .int .i64 im2, .slice V9 m9 v9] 42)))) := (Below.refl _ _).alloc (Nat.le_refl _) _
       clear hKJ eq2 hk2 hk3
       go_wp2_with fail
       go_region
       go_wp2_with fail
       cases b with
       | false =>
        have HN : Hid ((false : Bool) = true ↔ GP i (k + 1)) := ⟨(fun e => by cases e), fun g => absurd (HG.out.2 ((GSk.out).1 g).1) (by simp)⟩
        clear HG GSk
        go_quiet (fail)
        go_wp2_with fail
        go_roundw
        case rel => exact ⟨false, k + 1, by omega, by go_num, rfl, HN, bq.out.trans ((bel_drewN BY.out _).mono zq)⟩
        case measure => simp [intOf]; omega
       | true =>
        have HGT := Lib.hid (HG.out.1 (by first | rfl | trivial))
        by_cases e1 : (q : Int) = (q2 : Int)
        · have f1 : ((q : Int) != (q2 : Int)) = false := by rw [bne_eq_false_iff_eq]; exact e1
          have HN : Hid ((false : Bool) = true ↔ GP i (k + 1)) := ⟨(fun e => by cases e), fun g => absurd e1 ((GSk.out).1 g).2.1⟩
          clear HG GSk e1
          go_quiet (fail)
          go_wp2_with fail
          go_roundw
          case rel => exact ⟨false, k + 1, by omega, by go_num, rfl, HN, bq.out.trans ((bel_drewN BY.out _).mono zq)⟩
          case measure => simp [intOf]; omega
        have f1 : ((q : Int) != (q2 : Int)) = true := by rw [bne_iff_ne]; exact e1
        by_cases e2 : KI = KJ
        rotate_left
        · have f2 : (KI != KJ) = true := by rw [bne_iff_ne]; exact e2
          have HN : Hid ((true : Bool) = true ↔ GP i (k + 1)) := ⟨fun _ => GSk.out.2 ⟨HGT.out, e1, .inl e2⟩, fun _ => rfl⟩
          clear HG GSk e1 e2
          go_quiet (fail)
          go_wp2_with fail
          go_roundw
          case rel => exact ⟨true, k + 1, by omega, by go_num, rfl, HN, bq.out.trans ((bel_drewN BY.out _).mono zq)⟩
          case measure => simp [intOf]; omega
        have f2 : (KI != KJ) = false := by rw [bne_eq_false_iff_eq]; exact e2
        have NK : Hid (∀ W, Calls Tryz.prog 34 #[.int .i64 KI] W (fun e w' => e = .returned (.bool (named KI)) ∧ w' = W)) := fun W => (NM.out KI W).mono fun _ _ h => ⟨h.1, h.2.symm⟩
        have HN : Hid (named KI = true ↔ GP i (k + 1)) := ⟨fun g => GSk.out.2 ⟨HGT.out, e1, .inr g⟩, fun g => ((GSk.out).1 g).2.2.resolve_left fun h => h e2⟩
        clear HG GSk e1
        subst e2
        generalize named KI = bn at *
        go_quiet ((go_at_call 34; with_reducible exact (NK.out _).mono (fun _ _ h => ⟨h.1, _, h.2⟩)))
        go_wp2_with fail
        go_roundw
        case rel => exact ⟨bn, k + 1, by omega, by go_num, rfl, HN, bq.out.trans ((bel_drewN BY.out _).mono zq)⟩
        case measure => simp [intOf]; omega
     · obtain rfl : k = i := by omega
       have qk : ¬ (k : Int) < (k : Int) := by omega
       have HN : Hid (b = true ↔ FP (k + 1)) := HG.out.trans (FS.out k).symm
       have BN : Hid (Below W.heap.size W wr) := bl.out.trans ((BX.out.trans (bq.out.mono (by have := ZX.out; omega))).mono zl)
       clear HG
       go_wp2_with fail
       go_roundw
       case rel => exact ⟨b, k + 1, by omega, by go_num, rfl, HN, BN.out⟩
       case measure => simp [intOf]; omega
  · obtain rfl : i = nr := by omega
    have qi : ¬ (i : Int) < (i : Int) := by omega
    have BWR := Lib.hid bwr
    cases b with
    | false =>
     have ZN : Hid (¬ Q) := fun g => by have := HF.out.2 (OK.out.1 g).1; cases this
     go_wp2_with fail
     go_ret
     exact tells_no rfl ZN.out bwr
    | true =>
     have HT := Lib.hid (HF.out.1 (by first | rfl | trivial))
     go_wp2_with fail
     with_reducible refine (SN.out _ BWR.out).mono ?_
     rintro e w9 ⟨b, rfl, hb, b9⟩
     have bw9 : Below w.heap.size w w9 := bwr.trans (b9.mono bwr.size)
     have HB9 : Hid (b = true ↔ Q) := hb.trans ⟨fun g => OK.out.2 ⟨HT.out, g⟩, fun g => (OK.out.1 g).2⟩
     clear hb
     go_wp2_with fail
     go_ret
     exact ⟨b, rfl, HB9.out, bw9⟩
end Go.Proofs.YtpmgjpchpmkklaaGreatDoor
