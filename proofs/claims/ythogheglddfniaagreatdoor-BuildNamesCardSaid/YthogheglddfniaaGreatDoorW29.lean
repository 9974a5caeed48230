/- Joined by tools/bundle.py: JCPt2. -/
import Derived.Deep.LoopGhost
import Derived.Test.YthogheglddfniaaGreatDoorW28
import Derived.Test.YthogheglddfniaaGreatDoorW0
set_option maxRecDepth 100000
set_option maxHeartbeats 16000000
namespace Go.Proofs.YthogheglddfniaaGreatDoor
open Go.ChangeShapes Go.WideShapes Go.ChangeAt Go.RowKit Mem
theorem parts_2 (f : Nat) (hV : ∀ g, g ≤ f → CNxt g) (l : List UInt8) (A : Option Addr) (c g p d : Nat) (w : World) (gj b1 b2 : Nat) (C : Cx l A c g w) (hcur : Cur w g A l.length c p) (hp : p ≤ l.length) (hf : 2 * (l.length + 1 - p) + 1 < f + 1) (hd : d ≤ 32)
 (bk : B5 w gj 25 (.int .i64 6) (.int .i64 0) (.string ⟨#[]⟩) (.slice none 0 0) (.slice none 0 0)) (cap : Cap g gj w.heap.size b1 b2 d w) (hgl : g < gj) :
 Calls Tryz.prog 152 #[wv g, .int .i64 2, .func (.func 154) #[] #[.pointer (some ⟨gj, 0, none⟩), .pointer (some ⟨b1, 0, none⟩), .pointer (some ⟨b2, 0, none⟩)]] w
  (Pts (if (Jx.tak l p).2 = 0 ∧ (Jx.tak l p).1.k = 2 then (.mk (Jp.kindOf 2) 0 Jp.nil_ [] [], (Jx.tak l p).1.x, 0) else Jp.pits (f + 1) l p d 2 [] []) l A c g gj 6 w) := by
 have CS := cell_set
 have hg := hcur.lt
 have hjl := B5.lt bk
 have hll := C.len
 have hgj : g ≠ gj := Nat.ne_of_lt hgl
 have st := step_any l A c g p w C hcur hp
 unfold Stp at st
 have ml := mov_le hp
 obtain ⟨R, hR⟩ : ∃ R, R = (if (Jx.tak l p).2 = 0 ∧ (Jx.tak l p).1.k = 2 then ((.mk (Jp.kindOf 2) 0 Jp.nil_ [] [], (Jx.tak l p).1.x, 0) : Jp.R) else Jp.pits (f + 1) l p d 2 [] []) := ⟨_, rfl⟩
 rw [← hR]
 have BK := Lib.hid bk
 have CX := Lib.hid C
 have CP := Lib.hid cap
 have HV := Lib.hid hV
 have psi : ∀ (w2 : World) (s2 : Sav g g w.heap.size w w2) (t2 : Cur w2 g A l.length c (mov l p)) (z0 z1 z2 z3 z4 : Value), z0 = .int .i64 ((Jx.tak l p).1.k : Int) → z1 = .int .i64 (Jx.tak l p).1.n → z2 = .string ⟨(Jx.tak l p).1.t.toArray⟩ → z3 = .int .i64 ((Jx.tak l p).1.a : Int) → z4 = .int .i64 ((Jx.tak l p).1.x : Int) →
  PsI l A c g gj w2.heap.size 6 w (Jx.tak l p).1 (mov l p) [] [] [] (.slice none 0 0) (.slice none 0 0) (w2.alloc (.cells #[z0, z1, z2, z3, z4] 118)) := fun w2 s2 t2 z0 z1 z2 z3 z4 e0 e1 e2 e3 e4 => by
  subst e0 e1 e2 e3 e4
  have z2 := s2.size
  exact ⟨StC.start (B5.alloc (Blk.sav BK.out s2 hjl (fun e => hgj e.symm) (fun e => hgj e.symm)) _) (by omega) (by simp), t2.alloc _, B5.newat rfl, s2.more.alloc (by omega) _⟩
 have PSI := Lib.hid psi
 clear psi bk C cap hV
 have KO : Jp.kindOf 2 = 6 := by decide
 by_cases hend : (Jx.tak l p).2 = 0 ∧ (Jx.tak l p).1.k = 2
 · rw [if_pos hend, KO] at hR
   have hm : mov l p = (Jx.tak l p).1.x := by unfold mov; rw [if_pos hend.1]
   have psi := PSI.out
   obtain ⟨m, hmm⟩ : ∃ m, m = mov l p := ⟨_, rfl⟩
   rw [← hmm] at st ml psi hm
   obtain ⟨⟨⟨K, n, T, a, x⟩, er⟩, hr⟩ : ∃ r, r = Jx.tak l p := ⟨_, rfl⟩
   rw [← hr] at st hR hend hm psi
   simp only [wval] at st hR hend hm psi
   obtain ⟨he, hK⟩ := hend
   subst he
   have hKI : (K : Int) = 2 := by omega
   rw [hKI] at st psi
   rw [show ((0 : Nat) : Int) = 0 from rfl] at st
   have ST := Lib.hid st
   have PS2 := Lib.hid psi
   have Z := Lib.hid hR
   clear st psi PSI hR hr hmm HV
   go_enter Tryz.func152, Tryz.ntmps152
   go_wp2_with fail
   with_reducible refine ST.out.mono ?_
   rintro e w2 ⟨rfl, t2, s2⟩
   have z2 := s2.size
   have ps := PS2.out w2 s2 t2 _ _ _ _ _ rfl rfl rfl rfl rfl
   go_wp2_with fail
   go_ret
   exact pts_ret (by rw [Z.out]; rfl) ps z2 (fun _ => by rw [Z.out]; exact ⟨rfl, hm⟩) ml (by simp) (by simp)
 · rw [if_neg hend] at hR
   by_cases he0 : (Jx.tak l p).2 = 0
   · have hKe : (Jx.tak l p).1.k ≠ 2 := fun h => hend ⟨he0, h⟩
     have st2 := st
     rw [he0] at st2
     rw [show ((0 : Nat) : Int) = 0 from rfl] at st2
     simp only [wval] at st2
     have qk : (((Jx.tak l p).1.k : Int) == 2) = false := by rw [beq_eq_false_iff_ne]; omega
     have START : Hid (R = Jp.pits (f + 1) l p d 2 [] []) := hR
     have ST := Lib.hid st2
     have HE0 := Lib.hid he0
     obtain ⟨k0, hk0⟩ : ∃ z, z = ((Jx.tak l p).1.k : Int) := ⟨_, rfl⟩
     obtain ⟨n0, hn0⟩ : ∃ z, z = (Jx.tak l p).1.n := ⟨_, rfl⟩
     obtain ⟨T0, hT0⟩ : ∃ z, z = (⟨(Jx.tak l p).1.t.toArray⟩ : ByteArray) := ⟨_, rfl⟩
     obtain ⟨a0, ha0⟩ : ∃ z, z = ((Jx.tak l p).1.a : Int) := ⟨_, rfl⟩
     obtain ⟨x0, hx0⟩ : ∃ z, z = ((Jx.tak l p).1.x : Int) := ⟨_, rfl⟩
     have ps0 := fun w2 s2 t2 => PSI.out w2 s2 t2 (.int .i64 k0) (.int .i64 n0) (.string T0) (.int .i64 a0) (.int .i64 x0) (by rw [hk0]) (by rw [hn0]) (by rw [hT0]) (by rw [ha0]) (by rw [hx0])
     have PS0 := Lib.hid ps0
     rw [← hk0, ← hn0, ← hT0, ← ha0, ← hx0] at st2
     rw [← hk0] at qk
     have ST := Lib.hid st2
     clear st st2 hR hend hKe he0 ps0 PSI hk0 hn0 hT0 ha0 hx0
     go_enter Tryz.func152, Tryz.ntmps152
     go_wp2_with fail
     with_reducible refine ST.out.mono ?_
     rintro e w2 ⟨rfl, t2, s2⟩
     have z2 := s2.size
     have PS1 := Lib.hid (PS0.out w2 s2 t2)
     obtain ⟨Q, hQ⟩ : ∃ Q, Q = w2.heap.size := ⟨_, rfl⟩
     have hgQ : g < Q := by omega
     have hjQ : gj < Q := by omega
     have hwQ : w.heap.size ≤ Q := by omega
     have hQg : Q ≠ g := by omega
     have hQj : Q ≠ gj := by omega
     have HQ := Lib.hid hQ
     clear hQ
     go_wp2_with fail
     rw [← HQ.out]
     have ps1 := PS1.out
     rw [← HQ.out] at ps1
     have PS2 := Lib.hid ps1
     obtain ⟨w3, hw3⟩ : ∃ w3, w3 = w2.alloc (.cells #[.int .i64 k0, .int .i64 n0, .string T0, .int .i64 a0, .int .i64 x0] 118) := ⟨_, rfl⟩
     rw [← hw3] at ps1 ⊢
     have PS3 := Lib.hid ps1
     clear hw3 ps1 PS1 PS2 PS0 ST t2 s2 HQ
     go_loopg [8] (f + 1) (fun gk t wr => ∃ (p1 : Nat) (ks : List ByteArray) (js : List J) (css : List (List Value)) (v3 v4 : Value), t = .int .i64 ((Jx.tak l p1).2 : Int) ∧ Hid (PsI l A c g gj Q 6 w (Jx.tak l p1).1 (mov l p1) ks js css v3 v4 wr ∧ R = Jp.pits gk l p1 d 2 ks js) ∧ p ≤ p1 ∧ p1 ≤ l.length ∧ 2 * (l.length + 1 - p1) + 1 < gk ∧ gk ≤ f + 1 ∧ js.length ≤ p1 ∧ ks.length ≤ p1)
     case atStart => exact ⟨p, [], [], [], _, _, by rw [HE0.out]; rfl, ⟨PS3.out, START.out⟩, Nat.le_refl _, hp, hf, Nat.le_refl _, Nat.zero_le _, Nat.zero_le _⟩
     case round =>
      obtain ⟨p1, ks, js, css, v3, v4, rfl, PSR, hpp, hp1, hgk, hgf, hjs, hks⟩ := hrel
      have PS := PSR.out.1
      have rr := PSR.out.2
      obtain ⟨f1, rfl⟩ : ∃ g', gk = g' + 1 := ⟨gk - 1, by omega⟩
      have ml1 := mov_le hp1
      by_cases he : (Jx.tak l p1).2 = 0
      · have hmv : mov l p1 = (Jx.tak l p1).1.x := by unfold mov; rw [if_pos he]
        rw [Jp.pits_2 f1 l p1 d ks js he] at rr
        have hV := HV.out
        have Cr := CX.out.sav PS.sv (by omega) (by omega)
        have capr := (CP.out.sav PS.sv (Nat.le_refl _)).more (show w.heap.size ≤ Q + 1 by omega)
        have one := one_key f1 (hV f1 (by omega)) l A c g p1 d wr gj (Q + 1) b1 b2 6 ks js css v3 v4 Cr he (by have := PS.cur; rw [hmv] at this; exact this) hp1 (by omega) hd PS.st capr (by omega) hgj (by omega) (by omega)
        have pos := Jp.kv_pos (f := f1) (d := d) (ks := ks) hp1 he
        obtain ⟨k0, k1, k2, k3, k4, r0, r1, r2, r3, r4⟩ := B5.facts PS.wb
        simp only [wval] at one
        rw [he]
        rw [show ((0 : Nat) : Int) = 0 from rfl]
        obtain ⟨r, hr1⟩ : ∃ r, r = Jp.kv f1 l p1 d ks := ⟨_, rfl⟩
        obtain ⟨kn, hkn⟩ : ∃ kn, kn = ks ++ [Jp.str (Jx.tak l p1).1.t] := ⟨_, rfl⟩
        rw [← hr1, ← hkn] at rr
        rw [← hr1] at pos
        rw [← hr1, ← hkn] at one
        have ONE := Lib.hid one
        have POS := Lib.hid pos
        have RR := Lib.hid rr
        have PSH := Lib.hid PS
        have CRH := Lib.hid Cr
        obtain ⟨y0, hy0⟩ : ∃ z, z = ((Jx.tak l p1).1.k : Int) := ⟨_, rfl⟩
        obtain ⟨y1, hy1⟩ : ∃ z, z = (Jx.tak l p1).1.n := ⟨_, rfl⟩
        obtain ⟨y2, hy2⟩ : ∃ z, z = (⟨(Jx.tak l p1).1.t.toArray⟩ : ByteArray) := ⟨_, rfl⟩
        obtain ⟨y3, hy3⟩ : ∃ z, z = ((Jx.tak l p1).1.a : Int) := ⟨_, rfl⟩
        obtain ⟨y4, hy4⟩ : ∃ z, z = ((Jx.tak l p1).1.x : Int) := ⟨_, rfl⟩
        rw [← hy0] at k0
        rw [← hy1] at k1
        rw [← hy2] at k2
        rw [← hy3] at k3
        rw [← hy4] at k4
        rw [← hy0, ← hy1, ← hy2, ← hy3, ← hy4] at one
        have ONE := Lib.hid one
        clear rr pos one Cr capr hr1 hkn PSR PS hy0 hy1 hy2 hy3 hy4 hmv hV
        go_wp2_with fail
        with_reducible refine ONE.out.mono ?_
        rintro e w4 ⟨ks', js', css', v3', v4', q, rfl, st4, h4, hjl4, hkl4, hq, t4, s4⟩
        have PS4 := PsI.one PSH.out hgQ hjQ hwQ st4 t4 s4
        have C4 := CX.out.sav PS4.sv (by omega) (by omega)
        obtain ⟨m0, m1, m2, m3, m4, u0, u1, u2, u3, u4⟩ := B5.facts PS4.wb
        by_cases her : r.2.2 = 0
        · obtain ⟨rfl, rfl, rfl⟩ := h4 her
          obtain ⟨plt, qle⟩ := POS.out her
          have rr := RR.out
          unfold Jp.nxt at rr
          rw [if_neg (by omega)] at rr
          rw [her]
          rw [show ((0 : Nat) : Int) = 0 from rfl]
          have ml2 := mov_le qle
          have more2 := Jx.tak_more qle
          have hm2 : mov l r.2.1 = if (Jx.tak l r.2.1).2 = 0 then (Jx.tak l r.2.1).1.x else r.2.1 := rfl
          have sp := step_any l A c g r.2.1 w4 C4 t4 qle
          unfold Stp at sp
          have put := fun W (h : PsI l A c g gj Q 6 w (Jx.tak l p1).1 (mov l r.2.1) ks' (js ++ [r.1]) css' v3' v4' W) z0 z1 z2 z3 z4 e0 e1 e2 e3 e4 => PsI.put h (Jx.tak l r.2.1).1 hgQ hjQ hwQ (z0 := z0) (z1 := z1) (z2 := z2) (z3 := z3) (z4 := z4) e0 e1 e2 e3 e4
          have PS4H := Lib.hid PS4
          obtain ⟨m, hmm⟩ : ∃ m, m = mov l r.2.1 := ⟨_, rfl⟩
          rw [← hmm] at sp ml2 put hm2
          obtain ⟨q2, hq2⟩ : ∃ q2, q2 = r.2.1 := ⟨_, rfl⟩
          rw [← hq2] at plt qle sp put more2 hm2 rr
          obtain ⟨⟨⟨K2, n2, T2, a2, x2⟩, er2⟩, hr2⟩ : ∃ z, z = Jx.tak l q2 := ⟨_, rfl⟩
          rw [← hr2] at sp put more2 hm2 rr
          simp only [wval] at sp put more2 hm2 rr
          have PUT := Lib.hid put
          clear put PS4 RR ONE POS h4 hq2 hmm C4 st4 s4 hr2
          by_cases he2 : er2 = 0
          · subst he2
            rw [if_neg (by simp)] at rr
            rw [if_pos rfl] at hm2
            rw [show ((0 : Nat) : Int) = 0 from rfl] at sp
            by_cases hKe : K2 = 2
            · rw [if_pos hKe] at rr
              have hKI : (K2 : Int) = 2 := by omega
              rw [hKI] at sp
              have SP := Lib.hid sp
              have Z := Lib.hid rr
              clear sp rr hKe
              go_wp2_with fail
              with_reducible refine SP.out.mono ?_
              rintro e w5 ⟨rfl, t5, s5⟩
              have PS5 := PsI.call PS4H.out hgQ hgj t5 s5
              obtain ⟨o0, o1, o2, o3, o4, i0, i1, i2, i3, i4⟩ := B5.facts PS5.wb
              have PS6 := Lib.hid (PUT.out _ PS5 _ _ _ _ _ (by rw [hKI]) rfl rfl rfl rfl)
              clear PS5
              go_wp2_with fail
              go_ret
              exact pts_ret (by rw [Z.out]; rfl) PS6.out hwQ (fun _ => by rw [Z.out, KO]; exact ⟨rfl, hm2⟩) ml2 (by simp; omega) (by omega)
            · rw [if_neg hKe] at rr
              have qe : ((K2 : Int) == 2) = false := by rw [beq_eq_false_iff_ne]; omega
              by_cases hK6 : K2 = 6
              · rw [if_neg (fun h => h hK6)] at rr
                have hKI : (K2 : Int) = 6 := by omega
                rw [hKI] at sp qe
                have lt2 := (more2 rfl (by omega)).1
                have x2l := (more2 rfl (by omega)).2.1
                have SP := Lib.hid sp
                have RRX := Lib.hid rr
                have SX := Lib.hid (fun W C h => step_any l A c g x2 W C h x2l)
                have ml3 := mov_le x2l
                clear sp rr hKe
                go_wp2_with fail
                with_reducible refine SP.out.mono ?_
                rintro e w5 ⟨rfl, t5, s5⟩
                have PS5 := PsI.call PS4H.out hgQ hgj t5 s5
                obtain ⟨o0, o1, o2, o3, o4, i0, i1, i2, i3, i4⟩ := B5.facts PS5.wb
                have ps6 := PUT.out _ PS5 (.int .i64 6) _ _ _ _ (by rw [hKI]) rfl rfl rfl rfl
                clear PS5
                go_wp2_with fail
                obtain ⟨w6, hw6⟩ : ∃ w6, w6 = ((((w5.setCell ⟨Q, 0, none⟩ (.int .i64 6)).setCell ⟨Q, 1, none⟩ (.int .i64 n2)).setCell ⟨Q, 2, none⟩ (.string ⟨T2.toArray⟩)).setCell ⟨Q, 3, none⟩ (.int .i64 (a2 : Int))).setCell ⟨Q, 4, none⟩ (.int .i64 (x2 : Int)) := ⟨_, rfl⟩
                rw [← hw6] at ps6 ⊢
                have C6 := CX.out.sav ps6.sv (by omega) (by omega)
                subst hm2
                have sx := SX.out _ C6 ps6.cur
                unfold Stp at sx
                have PS6 := Lib.hid ps6
                have put2 := fun W X (h : PsI l A c g gj Q 6 w X (mov l m) ks' (js ++ [r.1]) css' v3' v4' W) z0 z1 z2 z3 z4 e0 e1 e2 e3 e4 => PsI.put h (Jx.tak l m).1 hgQ hjQ hwQ (z0 := z0) (z1 := z1) (z2 := z2) (z3 := z3) (z4 := z4) e0 e1 e2 e3 e4
                have PUT2 := Lib.hid put2
                simp only [wval] at sx
                have SX2 := Lib.hid sx
                clear hw6 ps6 sx put2 o0 o1 o2 o3 o4 i0 i1 i2 i3 i4 m0 m1 m2 m3 m4 u0 u1 u2 u3 u4 k0 k1 k2 k3 k4 r0 r1 r2 r3 r4 t5 s5 SP SX
                with_reducible refine SX2.out.mono ?_
                rintro e w7 ⟨rfl, t7, s7⟩
                have PS7 := PsI.call PS6.out hgQ hgj t7 s7
                obtain ⟨o0, o1, o2, o3, o4, i0, i1, i2, i3, i4⟩ := B5.facts PS7.wb
                have PS8 := Lib.hid (PUT2.out _ _ PS7 _ _ _ _ _ rfl rfl rfl rfl rfl)
                clear PS7
                go_wp2_with fail
                go_roundg f1
                case rel => exact ⟨m, ks', js ++ [r.1], css', v3', v4', rfl, ⟨PS8.out, RRX.out⟩, by omega, x2l, by omega, by omega, by simp; omega, by omega⟩
                case measure => omega
              · rw [if_pos hK6] at rr
                have q6 : ((K2 : Int) != 6) = true := by rw [bne_iff_ne]; omega
                have SP := Lib.hid sp
                have Z := Lib.hid rr
                clear sp rr hKe hK6
                go_wp2_with fail
                with_reducible refine SP.out.mono ?_
                rintro e w5 ⟨rfl, t5, s5⟩
                have PS5 := PsI.call PS4H.out hgQ hgj t5 s5
                obtain ⟨o0, o1, o2, o3, o4, i0, i1, i2, i3, i4⟩ := B5.facts PS5.wb
                have PS6 := Lib.hid (PUT.out _ PS5 _ _ _ _ _ rfl rfl rfl rfl rfl)
                clear PS5
                go_wp2_with fail
                go_ret
                exact pts_bad Z.out (by decide) rfl PS6.out hwQ ml2 (by simp; omega) (by omega)
          · have qe2 : ((er2 : Int) != 0) = true := by rw [bne_iff_ne]; omega
            rw [if_pos he2] at rr
            have SP := Lib.hid sp
            have Z := Lib.hid rr
            have HE2 := Lib.hid he2
            clear sp rr he2
            go_wp2_with fail
            with_reducible refine SP.out.mono ?_
            rintro e w5 ⟨rfl, t5, s5⟩
            have PS5 := PsI.call PS4H.out hgQ hgj t5 s5
            obtain ⟨o0, o1, o2, o3, o4, i0, i1, i2, i3, i4⟩ := B5.facts PS5.wb
            have PS6 := Lib.hid (PUT.out _ PS5 _ _ _ _ _ rfl rfl rfl rfl rfl)
            clear PS5
            go_wp2_with fail
            go_ret
            exact pts_bad Z.out HE2.out rfl PS6.out hwQ ml2 (by simp; omega) (by omega)
        · have rr := RR.out
          unfold Jp.nxt at rr
          rw [if_pos her] at rr
          have Z := Lib.hid rr
          have HER := Lib.hid her
          have qe3 : ((r.2.2 : Int) != 0) = true := by rw [bne_iff_ne]; omega
          have PS4H := Lib.hid PS4
          clear rr her h4 RR POS PS4 C4 st4
          go_wp2_with fail
          go_ret
          exact pts_bad Z.out HER.out rfl PS4H.out hwQ hq (by omega) (by omega)
      · have hb := Jp.pits_bad (f1 - 1) l p1 d 2 ks js (by decide) he
        rw [show f1 - 1 + 2 = f1 + 1 by omega] at hb
        rw [hb] at rr
        have Z := Lib.hid rr
        have HE := Lib.hid he
        have qe4 : (((Jx.tak l p1).2 : Int) == 0) = false := by rw [beq_eq_false_iff_ne]; omega
        obtain ⟨er4, her4⟩ : ∃ z, z = (Jx.tak l p1).2 := ⟨_, rfl⟩
        rw [← her4] at qe4 Z HE
        rw [← her4]
        have PSH := Lib.hid PS
        clear rr he hb PS PSR her4
        go_wp2_with fail
        go_ret
        exact pts_bad Z.out HE.out rfl PSH.out hwQ ml1 (by omega) (by omega)
   · have hb := Jp.pits_bad (f - 1) l p d 2 [] [] (by decide) he0
     rw [show f - 1 + 2 = f + 1 by omega] at hb
     rw [hb] at hR
     have psi := PSI.out
     obtain ⟨m, hmm⟩ : ∃ m, m = mov l p := ⟨_, rfl⟩
     rw [← hmm] at st ml psi
     obtain ⟨⟨⟨K, n, T, a, x⟩, er⟩, hr⟩ : ∃ r, r = Jx.tak l p := ⟨_, rfl⟩
     rw [← hr] at st hR psi he0
     simp only [wval] at st hR psi he0
     have qe : ((er : Int) == 0) = false := by rw [beq_eq_false_iff_ne]; omega
     have ST := Lib.hid st
     have PS2 := Lib.hid psi
     have Z := Lib.hid hR
     have HE := Lib.hid he0
     clear st psi PSI hR hr hmm HV hend he0 hb
     go_enter Tryz.func152, Tryz.ntmps152
     go_wp2_with fail
     with_reducible refine ST.out.mono ?_
     rintro e w2 ⟨rfl, t2, s2⟩
     have z2 := s2.size
     have ps := PS2.out w2 s2 t2 _ _ _ _ _ rfl rfl rfl rfl rfl
     go_wp2_with fail
     obtain ⟨w3, hw3⟩ : ∃ w3, w3 = w2.alloc (.cells #[.int .i64 (K : Int), .int .i64 n, .string ⟨T.toArray⟩, .int .i64 (a : Int), .int .i64 (x : Int)] 118) := ⟨_, rfl⟩
     rw [← hw3] at ps ⊢
     have PS3 := Lib.hid ps
     clear hw3 ps
     go_loopg [8] 1 (fun _ t wr => t = .int .i64 (er : Int) ∧ wr = w3)
     case atStart => exact ⟨rfl, rfl⟩
     case round =>
      obtain ⟨rfl, rfl⟩ := hrel
      go_wp2_with fail
      go_ret
      exact pts_bad Z.out HE.out rfl PS3.out z2 ml (by simp) (by simp)
end Go.Proofs.YthogheglddfniaaGreatDoor
namespace Go.Proofs.YthogheglddfniaaGreatDoor
open Go.ChangeShapes Go.WideShapes Go.ChangeAt Go.RowKit Mem
theorem parts_4 (f : Nat) (hV : ∀ g, g ≤ f → CVal g) (l : List UInt8) (A : Option Addr) (c g p d : Nat) (w : World) (gj b1 b2 : Nat) (C : Cx l A c g w) (hcur : Cur w g A l.length c p) (hp : p ≤ l.length) (hf : 2 * (l.length + 1 - p) + 1 < f + 1) (hd : d ≤ 32)
 (bk : B5 w gj 25 (.int .i64 5) (.int .i64 0) (.string ⟨#[]⟩) (.slice none 0 0) (.slice none 0 0)) (cap : Cap g gj w.heap.size b1 b2 d w) (hgl : g < gj) :
 Calls Tryz.prog 152 #[wv g, .int .i64 4, .func (.func 153) #[] #[.pointer (some ⟨b1, 0, none⟩), .pointer (some ⟨b2, 0, none⟩), .pointer (some ⟨gj, 0, none⟩)]] w
  (Pts (if (Jx.tak l p).2 = 0 ∧ (Jx.tak l p).1.k = 4 then (.mk (Jp.kindOf 4) 0 Jp.nil_ [] [], (Jx.tak l p).1.x, 0) else Jp.pits (f + 1) l p d 4 [] []) l A c g gj 5 w) := by
 have CS := cell_set
 have hg := hcur.lt
 have hjl := B5.lt bk
 have hll := C.len
 have hgj : g ≠ gj := Nat.ne_of_lt hgl
 have st := step_any l A c g p w C hcur hp
 unfold Stp at st
 have ml := mov_le hp
 obtain ⟨R, hR⟩ : ∃ R, R = (if (Jx.tak l p).2 = 0 ∧ (Jx.tak l p).1.k = 4 then ((.mk (Jp.kindOf 4) 0 Jp.nil_ [] [], (Jx.tak l p).1.x, 0) : Jp.R) else Jp.pits (f + 1) l p d 4 [] []) := ⟨_, rfl⟩
 rw [← hR]
 have BK := Lib.hid bk
 have CX := Lib.hid C
 have CP := Lib.hid cap
 have HV := Lib.hid hV
 have psi : ∀ (w2 : World) (s2 : Sav g g w.heap.size w w2) (t2 : Cur w2 g A l.length c (mov l p)) (z0 z1 z2 z3 z4 : Value), z0 = .int .i64 ((Jx.tak l p).1.k : Int) → z1 = .int .i64 (Jx.tak l p).1.n → z2 = .string ⟨(Jx.tak l p).1.t.toArray⟩ → z3 = .int .i64 ((Jx.tak l p).1.a : Int) → z4 = .int .i64 ((Jx.tak l p).1.x : Int) →
  PsI l A c g gj w2.heap.size 5 w (Jx.tak l p).1 (mov l p) [] [] [] (.slice none 0 0) (.slice none 0 0) (w2.alloc (.cells #[z0, z1, z2, z3, z4] 118)) := fun w2 s2 t2 z0 z1 z2 z3 z4 e0 e1 e2 e3 e4 => by
  subst e0 e1 e2 e3 e4
  have z2 := s2.size
  exact ⟨StC.start (B5.alloc (Blk.sav BK.out s2 hjl (fun e => hgj e.symm) (fun e => hgj e.symm)) _) (by omega) (by simp), t2.alloc _, B5.newat rfl, s2.more.alloc (by omega) _⟩
 have PSI := Lib.hid psi
 clear psi bk C cap hV
 have KO : Jp.kindOf 4 = 5 := by decide
 by_cases hend : (Jx.tak l p).2 = 0 ∧ (Jx.tak l p).1.k = 4
 · rw [if_pos hend, KO] at hR
   have hm : mov l p = (Jx.tak l p).1.x := by unfold mov; rw [if_pos hend.1]
   have psi := PSI.out
   obtain ⟨m, hmm⟩ : ∃ m, m = mov l p := ⟨_, rfl⟩
   rw [← hmm] at st ml psi hm
   obtain ⟨⟨⟨K, n, T, a, x⟩, er⟩, hr⟩ : ∃ r, r = Jx.tak l p := ⟨_, rfl⟩
   rw [← hr] at st hR hend hm psi
   simp only [wval] at st hR hend hm psi
   obtain ⟨he, hK⟩ := hend
   subst he
   have hKI : (K : Int) = 4 := by omega
   rw [hKI] at st psi
   rw [show ((0 : Nat) : Int) = 0 from rfl] at st
   have ST := Lib.hid st
   have PS2 := Lib.hid psi
   have Z := Lib.hid hR
   clear st psi PSI hR hr hmm HV
   go_enter Tryz.func152, Tryz.ntmps152
   go_wp2_with fail
   with_reducible refine ST.out.mono ?_
   rintro e w2 ⟨rfl, t2, s2⟩
   have z2 := s2.size
   have ps := PS2.out w2 s2 t2 _ _ _ _ _ rfl rfl rfl rfl rfl
   go_wp2_with fail
   go_ret
   exact pts_ret (by rw [Z.out]; rfl) ps z2 (fun _ => by rw [Z.out]; exact ⟨rfl, hm⟩) ml (by simp) (by simp)
 · rw [if_neg hend] at hR
   by_cases he0 : (Jx.tak l p).2 = 0
   · have hKe : (Jx.tak l p).1.k ≠ 4 := fun h => hend ⟨he0, h⟩
     have st2 := st
     rw [he0] at st2
     rw [show ((0 : Nat) : Int) = 0 from rfl] at st2
     simp only [wval] at st2
     have qk : (((Jx.tak l p).1.k : Int) == 4) = false := by rw [beq_eq_false_iff_ne]; omega
     have START : Hid (R = Jp.pits (f + 1) l p d 4 [] []) := hR
     have ST := Lib.hid st2
     have HE0 := Lib.hid he0
     obtain ⟨k0, hk0⟩ : ∃ z, z = ((Jx.tak l p).1.k : Int) := ⟨_, rfl⟩
     obtain ⟨n0, hn0⟩ : ∃ z, z = (Jx.tak l p).1.n := ⟨_, rfl⟩
     obtain ⟨T0, hT0⟩ : ∃ z, z = (⟨(Jx.tak l p).1.t.toArray⟩ : ByteArray) := ⟨_, rfl⟩
     obtain ⟨a0, ha0⟩ : ∃ z, z = ((Jx.tak l p).1.a : Int) := ⟨_, rfl⟩
     obtain ⟨x0, hx0⟩ : ∃ z, z = ((Jx.tak l p).1.x : Int) := ⟨_, rfl⟩
     have ps0 := fun w2 s2 t2 => PSI.out w2 s2 t2 (.int .i64 k0) (.int .i64 n0) (.string T0) (.int .i64 a0) (.int .i64 x0) (by rw [hk0]) (by rw [hn0]) (by rw [hT0]) (by rw [ha0]) (by rw [hx0])
     have PS0 := Lib.hid ps0
     rw [← hk0, ← hn0, ← hT0, ← ha0, ← hx0] at st2
     rw [← hk0] at qk
     have ST := Lib.hid st2
     clear st st2 hR hend hKe he0 ps0 PSI hk0 hn0 hT0 ha0 hx0
     go_enter Tryz.func152, Tryz.ntmps152
     go_wp2_with fail
     with_reducible refine ST.out.mono ?_
     rintro e w2 ⟨rfl, t2, s2⟩
     have z2 := s2.size
     have PS1 := Lib.hid (PS0.out w2 s2 t2)
     obtain ⟨Q, hQ⟩ : ∃ Q, Q = w2.heap.size := ⟨_, rfl⟩
     have hgQ : g < Q := by omega
     have hjQ : gj < Q := by omega
     have hwQ : w.heap.size ≤ Q := by omega
     have hQg : Q ≠ g := by omega
     have hQj : Q ≠ gj := by omega
     have HQ := Lib.hid hQ
     clear hQ
     go_wp2_with fail
     rw [← HQ.out]
     have ps1 := PS1.out
     rw [← HQ.out] at ps1
     have PS2 := Lib.hid ps1
     obtain ⟨w3, hw3⟩ : ∃ w3, w3 = w2.alloc (.cells #[.int .i64 k0, .int .i64 n0, .string T0, .int .i64 a0, .int .i64 x0] 118) := ⟨_, rfl⟩
     rw [← hw3] at ps1 ⊢
     have PS3 := Lib.hid ps1
     clear hw3 ps1 PS1 PS2 PS0 ST t2 s2 HQ
     go_loopg [8] (f + 1) (fun gk t wr => ∃ (p1 : Nat) (ks : List ByteArray) (js : List J) (css : List (List Value)) (v3 v4 : Value), t = .int .i64 ((Jx.tak l p1).2 : Int) ∧ Hid (PsI l A c g gj Q 5 w (Jx.tak l p1).1 (mov l p1) ks js css v3 v4 wr ∧ R = Jp.pits gk l p1 d 4 ks js) ∧ p ≤ p1 ∧ p1 ≤ l.length ∧ 2 * (l.length + 1 - p1) + 1 < gk ∧ gk ≤ f + 1 ∧ js.length ≤ p1 ∧ ks.length ≤ p1)
     case atStart => exact ⟨p, [], [], [], _, _, by rw [HE0.out]; rfl, ⟨PS3.out, START.out⟩, Nat.le_refl _, hp, hf, Nat.le_refl _, Nat.zero_le _, Nat.zero_le _⟩
     case round =>
      obtain ⟨p1, ks, js, css, v3, v4, rfl, PSR, hpp, hp1, hgk, hgf, hjs, hks⟩ := hrel
      have PS := PSR.out.1
      have rr := PSR.out.2
      obtain ⟨f1, rfl⟩ : ∃ g', gk = g' + 1 := ⟨gk - 1, by omega⟩
      have ml1 := mov_le hp1
      by_cases he : (Jx.tak l p1).2 = 0
      · have hmv : mov l p1 = (Jx.tak l p1).1.x := by unfold mov; rw [if_pos he]
        rw [Jp.pits_4] at rr
        have hV := HV.out
        have Cr := CX.out.sav PS.sv (by omega) (by omega)
        have capr := (CP.out.sav PS.sv (Nat.le_refl _)).more (show w.heap.size ≤ Q + 1 by omega)
        have one := one_list f1 (hV f1 (by omega)) l A c g p1 d wr gj (Q + 1) b1 b2 5 ks js css v3 v4 Cr he (by have := PS.cur; rw [hmv] at this; exact this) hp1 (by omega) hd PS.st capr (by omega) hgj (by omega)
        have pos := (Jp.pos f1).1 l p1 d hp1
        obtain ⟨k0, k1, k2, k3, k4, r0, r1, r2, r3, r4⟩ := B5.facts PS.wb
        simp only [wval] at one
        rw [he]
        rw [show ((0 : Nat) : Int) = 0 from rfl]
        obtain ⟨r, hr1⟩ : ∃ r, r = Jp.pval f1 l p1 d := ⟨_, rfl⟩
        rw [← hr1] at rr
        rw [← hr1] at pos
        rw [← hr1] at one
        have ONE := Lib.hid one
        have POS := Lib.hid pos
        have RR := Lib.hid rr
        have PSH := Lib.hid PS
        have CRH := Lib.hid Cr
        obtain ⟨y0, hy0⟩ : ∃ z, z = ((Jx.tak l p1).1.k : Int) := ⟨_, rfl⟩
        obtain ⟨y1, hy1⟩ : ∃ z, z = (Jx.tak l p1).1.n := ⟨_, rfl⟩
        obtain ⟨y2, hy2⟩ : ∃ z, z = (⟨(Jx.tak l p1).1.t.toArray⟩ : ByteArray) := ⟨_, rfl⟩
        obtain ⟨y3, hy3⟩ : ∃ z, z = ((Jx.tak l p1).1.a : Int) := ⟨_, rfl⟩
        obtain ⟨y4, hy4⟩ : ∃ z, z = ((Jx.tak l p1).1.x : Int) := ⟨_, rfl⟩
        rw [← hy0] at k0
        rw [← hy1] at k1
        rw [← hy2] at k2
        rw [← hy3] at k3
        rw [← hy4] at k4
        rw [← hy0, ← hy1, ← hy2, ← hy3, ← hy4] at one
        have ONE := Lib.hid one
        clear rr pos one Cr capr hr1 PSR PS hy0 hy1 hy2 hy3 hy4 hmv hV
        go_wp2_with fail
        with_reducible refine ONE.out.mono ?_
        rintro e w4 ⟨ks', js', css', v3', v4', q, rfl, st4, h4, hjl4, hkl4, hq, t4, s4⟩
        have PS4 := PsI.one PSH.out hgQ hjQ hwQ st4 t4 s4
        have C4 := CX.out.sav PS4.sv (by omega) (by omega)
        obtain ⟨m0, m1, m2, m3, m4, u0, u1, u2, u3, u4⟩ := B5.facts PS4.wb
        by_cases her : r.2.2 = 0
        · obtain ⟨rfl, rfl, rfl⟩ := h4 her
          obtain ⟨plt, qle⟩ := POS.out her
          have rr := RR.out
          unfold Jp.nxt at rr
          rw [if_neg (by omega)] at rr
          rw [her]
          rw [show ((0 : Nat) : Int) = 0 from rfl]
          have ml2 := mov_le qle
          have more2 := Jx.tak_more qle
          have hm2 : mov l r.2.1 = if (Jx.tak l r.2.1).2 = 0 then (Jx.tak l r.2.1).1.x else r.2.1 := rfl
          have sp := step_any l A c g r.2.1 w4 C4 t4 qle
          unfold Stp at sp
          have put := fun W (h : PsI l A c g gj Q 5 w (Jx.tak l p1).1 (mov l r.2.1) ks' (js ++ [r.1]) css' v3' v4' W) z0 z1 z2 z3 z4 e0 e1 e2 e3 e4 => PsI.put h (Jx.tak l r.2.1).1 hgQ hjQ hwQ (z0 := z0) (z1 := z1) (z2 := z2) (z3 := z3) (z4 := z4) e0 e1 e2 e3 e4
          have PS4H := Lib.hid PS4
          obtain ⟨m, hmm⟩ : ∃ m, m = mov l r.2.1 := ⟨_, rfl⟩
          rw [← hmm] at sp ml2 put hm2
          obtain ⟨q2, hq2⟩ : ∃ q2, q2 = r.2.1 := ⟨_, rfl⟩
          rw [← hq2] at plt qle sp put more2 hm2 rr
          obtain ⟨⟨⟨K2, n2, T2, a2, x2⟩, er2⟩, hr2⟩ : ∃ z, z = Jx.tak l q2 := ⟨_, rfl⟩
          rw [← hr2] at sp put more2 hm2 rr
          simp only [wval] at sp put more2 hm2 rr
          have PUT := Lib.hid put
          clear put PS4 RR ONE POS h4 hq2 hmm C4 st4 s4 hr2
          by_cases he2 : er2 = 0
          · subst he2
            rw [if_neg (by simp)] at rr
            rw [if_pos rfl] at hm2
            rw [show ((0 : Nat) : Int) = 0 from rfl] at sp
            by_cases hKe : K2 = 4
            · rw [if_pos hKe] at rr
              have hKI : (K2 : Int) = 4 := by omega
              rw [hKI] at sp
              have SP := Lib.hid sp
              have Z := Lib.hid rr
              clear sp rr hKe
              go_wp2_with fail
              with_reducible refine SP.out.mono ?_
              rintro e w5 ⟨rfl, t5, s5⟩
              have PS5 := PsI.call PS4H.out hgQ hgj t5 s5
              obtain ⟨o0, o1, o2, o3, o4, i0, i1, i2, i3, i4⟩ := B5.facts PS5.wb
              have PS6 := Lib.hid (PUT.out _ PS5 _ _ _ _ _ (by rw [hKI]) rfl rfl rfl rfl)
              clear PS5
              go_wp2_with fail
              go_ret
              exact pts_ret (by rw [Z.out]; rfl) PS6.out hwQ (fun _ => by rw [Z.out, KO]; exact ⟨rfl, hm2⟩) ml2 (by simp; omega) (by omega)
            · rw [if_neg hKe] at rr
              have qe : ((K2 : Int) == 4) = false := by rw [beq_eq_false_iff_ne]; omega
              by_cases hK6 : K2 = 6
              · rw [if_neg (fun h => h hK6)] at rr
                have hKI : (K2 : Int) = 6 := by omega
                rw [hKI] at sp qe
                have lt2 := (more2 rfl (by omega)).1
                have x2l := (more2 rfl (by omega)).2.1
                have SP := Lib.hid sp
                have RRX := Lib.hid rr
                have SX := Lib.hid (fun W C h => step_any l A c g x2 W C h x2l)
                have ml3 := mov_le x2l
                clear sp rr hKe
                go_wp2_with fail
                with_reducible refine SP.out.mono ?_
                rintro e w5 ⟨rfl, t5, s5⟩
                have PS5 := PsI.call PS4H.out hgQ hgj t5 s5
                obtain ⟨o0, o1, o2, o3, o4, i0, i1, i2, i3, i4⟩ := B5.facts PS5.wb
                have ps6 := PUT.out _ PS5 (.int .i64 6) _ _ _ _ (by rw [hKI]) rfl rfl rfl rfl
                clear PS5
                go_wp2_with fail
                obtain ⟨w6, hw6⟩ : ∃ w6, w6 = ((((w5.setCell ⟨Q, 0, none⟩ (.int .i64 6)).setCell ⟨Q, 1, none⟩ (.int .i64 n2)).setCell ⟨Q, 2, none⟩ (.string ⟨T2.toArray⟩)).setCell ⟨Q, 3, none⟩ (.int .i64 (a2 : Int))).setCell ⟨Q, 4, none⟩ (.int .i64 (x2 : Int)) := ⟨_, rfl⟩
                rw [← hw6] at ps6 ⊢
                have C6 := CX.out.sav ps6.sv (by omega) (by omega)
                subst hm2
                have sx := SX.out _ C6 ps6.cur
                unfold Stp at sx
                have PS6 := Lib.hid ps6
                have put2 := fun W X (h : PsI l A c g gj Q 5 w X (mov l m) ks' (js ++ [r.1]) css' v3' v4' W) z0 z1 z2 z3 z4 e0 e1 e2 e3 e4 => PsI.put h (Jx.tak l m).1 hgQ hjQ hwQ (z0 := z0) (z1 := z1) (z2 := z2) (z3 := z3) (z4 := z4) e0 e1 e2 e3 e4
                have PUT2 := Lib.hid put2
                simp only [wval] at sx
                have SX2 := Lib.hid sx
                clear hw6 ps6 sx put2 o0 o1 o2 o3 o4 i0 i1 i2 i3 i4 m0 m1 m2 m3 m4 u0 u1 u2 u3 u4 k0 k1 k2 k3 k4 r0 r1 r2 r3 r4 t5 s5 SP SX
                with_reducible refine SX2.out.mono ?_
                rintro e w7 ⟨rfl, t7, s7⟩
                have PS7 := PsI.call PS6.out hgQ hgj t7 s7
                obtain ⟨o0, o1, o2, o3, o4, i0, i1, i2, i3, i4⟩ := B5.facts PS7.wb
                have PS8 := Lib.hid (PUT2.out _ _ PS7 _ _ _ _ _ rfl rfl rfl rfl rfl)
                clear PS7
                go_wp2_with fail
                go_roundg f1
                case rel => exact ⟨m, ks', js ++ [r.1], css', v3', v4', rfl, ⟨PS8.out, RRX.out⟩, by omega, x2l, by omega, by omega, by simp; omega, by omega⟩
                case measure => omega
              · rw [if_pos hK6] at rr
                have q6 : ((K2 : Int) != 6) = true := by rw [bne_iff_ne]; omega
                have SP := Lib.hid sp
                have Z := Lib.hid rr
                clear sp rr hKe hK6
                go_wp2_with fail
                with_reducible refine SP.out.mono ?_
                rintro e w5 ⟨rfl, t5, s5⟩
                have PS5 := PsI.call PS4H.out hgQ hgj t5 s5
                obtain ⟨o0, o1, o2, o3, o4, i0, i1, i2, i3, i4⟩ := B5.facts PS5.wb
                have PS6 := Lib.hid (PUT.out _ PS5 _ _ _ _ _ rfl rfl rfl rfl rfl)
                clear PS5
                go_wp2_with fail
                go_ret
                exact pts_bad Z.out (by decide) rfl PS6.out hwQ ml2 (by simp; omega) (by omega)
          · have qe2 : ((er2 : Int) != 0) = true := by rw [bne_iff_ne]; omega
            rw [if_pos he2] at rr
            have SP := Lib.hid sp
            have Z := Lib.hid rr
            have HE2 := Lib.hid he2
            clear sp rr he2
            go_wp2_with fail
            with_reducible refine SP.out.mono ?_
            rintro e w5 ⟨rfl, t5, s5⟩
            have PS5 := PsI.call PS4H.out hgQ hgj t5 s5
            obtain ⟨o0, o1, o2, o3, o4, i0, i1, i2, i3, i4⟩ := B5.facts PS5.wb
            have PS6 := Lib.hid (PUT.out _ PS5 _ _ _ _ _ rfl rfl rfl rfl rfl)
            clear PS5
            go_wp2_with fail
            go_ret
            exact pts_bad Z.out HE2.out rfl PS6.out hwQ ml2 (by simp; omega) (by omega)
        · have rr := RR.out
          unfold Jp.nxt at rr
          rw [if_pos her] at rr
          have Z := Lib.hid rr
          have HER := Lib.hid her
          have qe3 : ((r.2.2 : Int) != 0) = true := by rw [bne_iff_ne]; omega
          have PS4H := Lib.hid PS4
          clear rr her h4 RR POS PS4 C4 st4
          go_wp2_with fail
          go_ret
          exact pts_bad Z.out HER.out rfl PS4H.out hwQ hq (by omega) (by omega)
      · have hb := Jp.pits_bad (f1 - 1) l p1 d 4 ks js (by decide) he
        rw [show f1 - 1 + 2 = f1 + 1 by omega] at hb
        rw [hb] at rr
        have Z := Lib.hid rr
        have HE := Lib.hid he
        have qe4 : (((Jx.tak l p1).2 : Int) == 0) = false := by rw [beq_eq_false_iff_ne]; omega
        obtain ⟨er4, her4⟩ : ∃ z, z = (Jx.tak l p1).2 := ⟨_, rfl⟩
        rw [← her4] at qe4 Z HE
        rw [← her4]
        have PSH := Lib.hid PS
        clear rr he hb PS PSR her4
        go_wp2_with fail
        go_ret
        exact pts_bad Z.out HE.out rfl PSH.out hwQ ml1 (by omega) (by omega)
   · have hb := Jp.pits_bad (f - 1) l p d 4 [] [] (by decide) he0
     rw [show f - 1 + 2 = f + 1 by omega] at hb
     rw [hb] at hR
     have psi := PSI.out
     obtain ⟨m, hmm⟩ : ∃ m, m = mov l p := ⟨_, rfl⟩
     rw [← hmm] at st ml psi
     obtain ⟨⟨⟨K, n, T, a, x⟩, er⟩, hr⟩ : ∃ r, r = Jx.tak l p := ⟨_, rfl⟩
     rw [← hr] at st hR psi he0
     simp only [wval] at st hR psi he0
     have qe : ((er : Int) == 0) = false := by rw [beq_eq_false_iff_ne]; omega
     have ST := Lib.hid st
     have PS2 := Lib.hid psi
     have Z := Lib.hid hR
     have HE := Lib.hid he0
     clear st psi PSI hR hr hmm HV hend he0 hb
     go_enter Tryz.func152, Tryz.ntmps152
     go_wp2_with fail
     with_reducible refine ST.out.mono ?_
     rintro e w2 ⟨rfl, t2, s2⟩
     have z2 := s2.size
     have ps := PS2.out w2 s2 t2 _ _ _ _ _ rfl rfl rfl rfl rfl
     go_wp2_with fail
     obtain ⟨w3, hw3⟩ : ∃ w3, w3 = w2.alloc (.cells #[.int .i64 (K : Int), .int .i64 n, .string ⟨T.toArray⟩, .int .i64 (a : Int), .int .i64 (x : Int)] 118) := ⟨_, rfl⟩
     rw [← hw3] at ps ⊢
     have PS3 := Lib.hid ps
     clear hw3 ps
     go_loopg [8] 1 (fun _ t wr => t = .int .i64 (er : Int) ∧ wr = w3)
     case atStart => exact ⟨rfl, rfl⟩
     case round =>
      obtain ⟨rfl, rfl⟩ := hrel
      go_wp2_with fail
      go_ret
      exact pts_bad Z.out HE.out rfl PS3.out z2 ml (by simp) (by simp)
end Go.Proofs.YthogheglddfniaaGreatDoor
