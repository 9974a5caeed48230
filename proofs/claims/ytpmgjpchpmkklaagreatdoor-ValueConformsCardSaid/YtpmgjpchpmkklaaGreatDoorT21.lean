/- Joined by tools/bundle.py: UtfR KTxt. -/
import Derived.LoopN
import Derived.Deep.RegionHeldLaw
import Derived.Deep.LoopGhost
import Derived.Test.YtpmgjpchpmkklaaGreatDoorT1
import Derived.Test.YtpmgjpchpmkklaaGreatDoorT4
import Derived.Test.YtpmgjpchpmkklaaGreatDoorT5
import Derived.Test.YtpmgjpchpmkklaaGreatDoorT8
import Derived.Test.YtpmgjpchpmkklaaGreatDoorT0
set_option maxRecDepth 100000
set_option maxHeartbeats 16000000
namespace Go.Proofs.YtpmgjpchpmkklaaGreatDoor
open Go.ChangeShapes Go.WideShapes Go.ChangeAt Go.RowKit Mem
theorem chr_yes (c : Int) (h : Num.isC c) (w : World) : Calls Tryz.prog 102 #[.int .i64 c] w fun e w' => e = .returned (.bool true) ∧ w = w' := by
 unfold Num.isC at h
 obtain ⟨h1, h2, h3 | h3⟩ := h
 all_goals
  go_enter Tryz.func102, Tryz.ntmps102
  go_wp2_with fail
  go_ret
  exact ⟨rfl, rfl⟩
theorem chr_no (c : Int) (h : ¬ Num.isC c) (w : World) : Calls Tryz.prog 102 #[.int .i64 c] w fun e w' => e = .returned (.bool false) ∧ w = w' := by
 unfold Num.isC at h
 by_cases h1 : c < 0
 · clear h
   go_enter Tryz.func102, Tryz.ntmps102
   go_wp2_with fail
   go_ret
   exact ⟨rfl, rfl⟩
 · by_cases h2 : 1114111 < c
   · clear h
     go_enter Tryz.func102, Tryz.ntmps102
     go_wp2_with fail
     go_ret
     exact ⟨rfl, rfl⟩
   · have h3 : 55296 ≤ c := by omega
     have h4 : c ≤ 57343 := by omega
     have q1 : decide (c < 55296) = false := by simp; omega
     have q2 : decide (57343 < c) = false := by simp; omega
     clear h
     go_enter Tryz.func102, Tryz.ntmps102
     go_wp2_with fail
     go_ret
     exact ⟨rfl, rfl⟩
def Lays (l : List UInt8) (w : World) (e : Ending) (w' : World) : Prop := ∃ A, e = .returned (.slice A l.length l.length) ∧ Bys w' w'.heap.size A l ∧ Below w.heap.size w w'
theorem lays_lit {l : List UInt8} {cs : Array Value} {n : Nat} {w : World} (hn : l.length = n) (h : cs = (cels l).toArray) :
 Lays l w (.returned (.slice (some ⟨w.heap.size, 0, none⟩) n n)) (w.alloc (.cells cs 5)) := by
 subst hn; subst h
 exact ⟨_, rfl, lit_bys w l, (Below.refl _ _).alloc (Nat.le_refl _) _⟩
theorem cel_of {n : Nat} {z : Int} (h : n < 256) (hz : z = (n : Int)) : Value.int .u8 z = cel (UInt8.ofNat n) := by
 unfold cel; rw [UInt8.toNat_ofNat_of_lt' (by show n < 256; exact h), hz]
theorem rPut_any (c : Nat) (h : Num.isC (c : Int)) (w : World) : Calls Tryz.prog 97 #[.int .i64 (c : Int)] w (Lays (Num.ue c) w) := by
 unfold Num.isC at h
 have hi : (c : Int) ≤ 1114111 := h.2.1
 clear h
 by_cases h1 : c < 128
 · have k1 : (c : Int) < 128 := by omega
   go_enter Tryz.func97, Tryz.ntmps97
   go_wp2_with fail
   go_ret
   rw [Num.ue_1 h1]
   exact lays_lit rfl (by rw [cel_of (n := c) (z := (c : Int)) (by omega) (by omega)]; rfl)
 · by_cases h2 : c < 2048
   · have k1 : (c : Int) < 2048 := by omega
     have k2 : ¬ (c : Int) < 128 := by omega
     go_enter Tryz.func97, Tryz.ntmps97
     go_wp2_with fail
     go_ret
     rw [Num.ue_2 (by omega) h2]
     exact lays_lit rfl (by rw [cel_of (n := 192 + c / 64) (z := 192 + (c : Int) / 64) (by omega) (by omega), cel_of (n := 128 + c % 64) (z := 128 + (c : Int) % 64) (by omega) (by omega)]; rfl)
   · by_cases h3 : c < 65536
     · have k1 : (c : Int) < 65536 := by omega
       have k2 : ¬ (c : Int) < 2048 := by omega
       have k3 : ¬ (c : Int) < 128 := by omega
       go_enter Tryz.func97, Tryz.ntmps97
       go_wp2_with fail
       go_ret
       rw [Num.ue_3 (by omega) h3]
       exact lays_lit rfl (by rw [cel_of (n := 224 + c / 4096) (z := 224 + (c : Int) / 4096) (by omega) (by omega), cel_of (n := 128 + c / 64 % 64) (z := 128 + (c : Int) / 64 % 64) (by omega) (by omega), cel_of (n := 128 + c % 64) (z := 128 + (c : Int) % 64) (by omega) (by omega)]; rfl)
     · have k1 : ¬ (c : Int) < 65536 := by omega
       have k2 : ¬ (c : Int) < 2048 := by omega
       have k3 : ¬ (c : Int) < 128 := by omega
       go_enter Tryz.func97, Tryz.ntmps97
       go_wp2_with fail
       go_ret
       rw [Num.ue_4 (by omega)]
       exact lays_lit rfl (by rw [cel_of (n := 240 + c / 262144) (z := 240 + (c : Int) / 262144) (by omega) (by omega), cel_of (n := 128 + c / 4096 % 64) (z := 128 + (c : Int) / 4096 % 64) (by omega) (by omega), cel_of (n := 128 + c / 64 % 64) (z := 128 + (c : Int) / 64 % 64) (by omega) (by omega), cel_of (n := 128 + c % 64) (z := 128 + (c : Int) % 64) (by omega) (by omega)]; rfl)
theorem retI {k : IntKind} {a b : Int} (h : a = b) : Ending.returned (.int k a) = .returned (.int k b) := by rw [h]
def Says1 (n : Int) (w : World) (e : Ending) (w' : World) : Prop := e = .returned (.int .i64 n) ∧ Below w.heap.size w w'
def Same (b : Bool) (w : World) (e : Ending) (w' : World) : Prop := e = .returned (.bool b) ∧ Below w.heap.size w w'
theorem starts_any (b off c c2 : Nat) (A2 : Option Addr) (l a : List UInt8) (w : World) (hb : Bys w w.heap.size (some ⟨b, off, none⟩) l) (ha : Bys w w.heap.size A2 a) (h0 : 0 < a.length) (h1 : a.length ≤ l.length) (hc : l.length ≤ c) :
 Calls Tryz.prog 103 #[.slice (some ⟨b, off, none⟩) l.length c, .slice A2 a.length c2] w (Same (l.take a.length == a) w) := by
 have cv1 := fun k => ((hb.front a.length).drewN k).str byteT strT c
 rw [show (l.take a.length).length = a.length by rw [List.length_take]; omega] at cv1
 have cv2 := fun k => (ha.drewN k).str byteT strT c2
 have q1 : decide (a.length ≤ l.length) = true := by simp; omega
 have q2 : (a.length : Int) ≤ (c : Int) := by omega
 go_enter Tryz.func103, Tryz.ntmps103
 go_wp2_with fail
 go_quiet (fail)
 go_wp2_with fail
 go_ret
 exact ⟨rfl, bel_drewN (Below.refl _ _) nq⟩
theorem rPut_int (z z' : Int) (e : z = z') (h : Num.isC z') (w : World) : Calls Tryz.prog 97 #[.int .i64 z] w (Lays (Num.ue z'.toNat) w) := by
 subst e
 have h0 := h.1
 obtain ⟨c, rfl⟩ := Int.eq_ofNat_of_zero_le h0
 exact rPut_any c h w
theorem at_cell {w wr : World} {B b off : Nat} {l : List UInt8} (hb : Bys w B (some ⟨b, off, none⟩) l) (hbl : Below B w wr) {k : Nat} (hk : k < l.length) : wr.cell? ⟨b, off + k, none⟩ = some (.int .u8 (((l.getD k 0).toNat : Nat) : Int)) := by
 rcases hb with h | ⟨b', off', e, h1, h2⟩
 · subst h; simp at hk
 · simp only [Option.some.injEq, Addr.mk.injEq, and_true] at e
   obtain ⟨rfl, rfl⟩ := e
   exact (hbl.cell (p := ⟨b, off + k, none⟩) h1).trans (h2 k hk)
theorem not_more {l : List UInt8} {n : Nat} (h : ∀ m, 1 ≤ m → m < n → ¬ Num.okAt m l) (hn : ¬ Num.okAt n l) : Hid (∀ m, 1 ≤ m → m < n + 1 → ¬ Num.okAt m l) := by
 intro m h1 h2
 rcases Nat.lt_or_ge m n with h3 | h3
 · exact h m h1 h3
 · obtain rfl : m = n := by omega
   exact hn
theorem whole_any (b off c : Nat) (l : List UInt8) (w : World) (hb : Bys w w.heap.size (some ⟨b, off, none⟩) l) (hl : l.length ≤ 140000000000) (hc : l.length ≤ c) :
 Calls Tryz.prog 96 #[.slice (some ⟨b, off, none⟩) l.length c] w (Says1 (Num.wh l) w) := by
 go_enter Tryz.func96, Tryz.ntmps96
 go_wp2_with fail
 go_loopw [5] (fun u wr => ∃ n : Nat, 1 ≤ n ∧ n ≤ 5 ∧ u = .int .i64 (n : Int) ∧ Hid (∀ m, 1 ≤ m → m < n → ¬ Num.okAt m l) ∧ Below w.heap.size w wr ∧ Blk wr w.heap.size 2 #[.int .i64 0, .int .i64 64, .int .i64 4096, .int .i64 262144] ∧ Blk wr (w.heap.size + 1) 2 #[.int .i64 0, .int .i64 192, .int .i64 224, .int .i64 240]) (fun u _ => 5 - (intOf u).toNat)
 case atStart =>
  refine ⟨1, by omega, by omega, rfl, fun m h1 h2 => absurd h2 (by omega), ((Below.refl _ _).alloc (Nat.le_refl _) _).alloc (by simp) _, (Blk.new w _ _).alloc _, ?_⟩
  have := Blk.new (w.alloc (.cells #[.int .i64 0, .int .i64 64, .int .i64 4096, .int .i64 262144] 2)) 2 #[.int .i64 0, .int .i64 192, .int .i64 224, .int .i64 240]
  simpa using this
 case round =>
  obtain ⟨n, n1, n5, rfl, hn, hbl, blk0, blk1⟩ := hrel
  have k0 := blk0.lt
  have k1 := blk1.lt
  by_cases hin : n ≤ 4 ∧ n ≤ l.length
  · obtain ⟨n4, nl⟩ := hin
    have hby := (hb.below hbl).more hbl.size
    obtain rfl | rfl | rfl | rfl : n = 1 ∨ n = 2 ∨ n = 3 ∨ n = 4 := by omega
    · have x0 := at_cell hb hbl (k := 0) (by omega)
      have y0 := (l.getD 0 0).toNat_lt
      have cs : Num.csum 1 l = Num.csum 1 l := rfl
      conv at cs => { rhs; simp only [Num.csum] }
      simp only [Nat.add_zero] at x0
      generalize (l.getD 0 0).toNat = X0 at *
      obtain ⟨S, hS⟩ : ∃ S, S = Num.csum 1 l := ⟨_, rfl⟩
      rw [← hS] at cs
      obtain ⟨E, hE⟩ : ∃ E, E = Num.ue S.toNat := ⟨_, rfl⟩
      have HS := Lib.hid hS
      have HE := Lib.hid hE
      have CS := Lib.hid cs
      have el := Num.ue_len S.toNat
      rw [← hE] at el
      obtain ⟨el1, el4⟩ := el
      have rp : ∀ (z : Int) (W : World), z = S → Num.isC S → Calls Tryz.prog 97 #[.int .i64 z] W (Lays E W) := fun z W e h => by rw [hE]; exact rPut_int z S e h W
      have RP := Lib.hid rp
      clear hS hE cs rp
      go_wp2_with fail
      refine wp_loop_rounds 1 ?_
      rw [rounds_succ]
      go_wp2_with fail
      have bq' : Below wr.heap.size wr wr := (Below.refl wr.heap.size wr)
      by_cases hC : Num.isC S
      · have HC := Lib.hid hC
        clear hC
        refine (chr_yes _ (by have h1 := CS.out; have h2 := HC.out; unfold Num.isC at *; omega) _).mono ?_
        rintro e w' ⟨rfl, rfl⟩
        go_wp2_with fail
        refine (RP.out _ _ (by have h1 := CS.out; omega) HC.out).mono ?_
        rintro e w1 ⟨A1, rfl, _, h1⟩
        by_cases hE : E.length = 1
        · have q1 : ((E.length : Int) == 1) = true := by simp; omega
          have g1 := h1.size
          have g2 := bq'.size
          have HEL := Lib.hid hE
          clear hE
          go_wp2_with fail
          refine (RP.out _ _ (by have h1 := CS.out; omega) HC.out).mono ?_
          rintro e w2 ⟨A2, rfl, ye, h2⟩
          have h12 := bq'.trans ((h1.mono g2).trans (h2.mono (Nat.le_trans g2 g1)))
          have y2 := (hby.below h12).more h12.size
          have bb := hbl.trans (h12.mono hbl.size)
          go_wp2_with fail
          refine (starts_any b off c E.length A2 l E w2 y2 ye (by omega) (by have := HEL.out; omega) hc).mono ?_
          rintro e w3 ⟨rfl, h3⟩
          have bb3 := bb.trans (h3.mono bb.size)
          by_cases hq : l.take E.length = E
          · have q2 : (l.take E.length == E) = true := by simpa using hq
            have OK := Lib.hid (Num.wh_ok (n := 1) (l := l) ⟨by rw [← HS.out]; exact HC.out, by rw [← HS.out, ← HE.out]; exact HEL.out, by rw [← HS.out, ← HE.out, ← HEL.out, hq]⟩)
            clear hq
            go_wp2_with fail
            go_ret
            exact ⟨retI (by rw [OK.out, ← HS.out]; have := CS.out; omega), bb3⟩
          · have q2 : (l.take E.length == E) = false := by simpa using hq
            have NO := not_more hn.out (n := 1) (fun h => hq (by rw [HEL.out, HE.out, HS.out]; exact h.2.2.symm))
            have z0 := blk0.below (h12.trans (h3.mono h12.size)) (by omega)
            have z1 := blk1.below (h12.trans (h3.mono h12.size)) (by omega)
            clear hq
            go_wp2_with fail
            go_roundw
            case rel => exact ⟨2, by omega, by omega, by go_num, NO, bb3, z0, z1⟩
            case measure => simp [intOf]
        · have q1 : ((E.length : Int) == 1) = false := by simp; omega
          have NO := not_more hn.out (n := 1) (fun h => hE (by rw [HE.out, HS.out]; exact h.2.1))
          have h12 := bq'.trans (h1.mono bq'.size)
          have bb := hbl.trans (h12.mono hbl.size)
          have z0 := blk0.below h12 (by omega)
          have z1 := blk1.below h12 (by omega)
          clear hE
          go_wp2_with fail
          go_roundw
          case rel => exact ⟨2, by omega, by omega, by go_num, NO, bb, z0, z1⟩
          case measure => simp [intOf]
      · have NO := not_more hn.out (n := 1) (fun h => hC (by rw [HS.out]; exact h.1))
        have HC := Lib.hid hC
        clear hC
        refine (chr_no _ (by have h1 := CS.out; have h2 := HC.out; unfold Num.isC at *; omega) _).mono ?_
        rintro e w' ⟨rfl, rfl⟩
        have bb := hbl.trans (bq'.mono hbl.size)
        have z0 := blk0.below bq' (by omega)
        have z1 := blk1.below bq' (by omega)
        go_wp2_with fail
        go_roundw
        case rel => exact ⟨2, by omega, by omega, by go_num, NO, bb, z0, z1⟩
        case measure => simp [intOf]
    · have x0 := at_cell hb hbl (k := 0) (by omega)
      have y0 := (l.getD 0 0).toNat_lt
      have x1 := at_cell hb hbl (k := 1) (by omega)
      have y1 := (l.getD 1 0).toNat_lt
      have cs : Num.csum 2 l = Num.csum 2 l := rfl
      conv at cs => { rhs; simp only [Num.csum] }
      simp only [Nat.add_zero] at x0
      generalize (l.getD 0 0).toNat = X0 at *
      generalize (l.getD 1 0).toNat = X1 at *
      obtain ⟨S, hS⟩ : ∃ S, S = Num.csum 2 l := ⟨_, rfl⟩
      rw [← hS] at cs
      obtain ⟨E, hE⟩ : ∃ E, E = Num.ue S.toNat := ⟨_, rfl⟩
      have HS := Lib.hid hS
      have HE := Lib.hid hE
      have CS := Lib.hid cs
      have el := Num.ue_len S.toNat
      rw [← hE] at el
      obtain ⟨el1, el4⟩ := el
      have rp : ∀ (z : Int) (W : World), z = S → Num.isC S → Calls Tryz.prog 97 #[.int .i64 z] W (Lays E W) := fun z W e h => by rw [hE]; exact rPut_int z S e h W
      have RP := Lib.hid rp
      clear hS hE cs rp
      have s3 := blk0.cell 1
      have m3 := blk1.cell 1
      simp at s3 m3
      go_wp2_with fail
      go_quiet (fail)
      have bq := bel_drewN (Below.refl wr.heap.size wr) nq
      go_wp2_with fail
      refine wp_loop_rounds 2 ?_
      rw [rounds_succ]
      go_wp2_with fail
      refine wp_loop_rounds 1 ?_
      rw [rounds_succ]
      go_wp2_with fail
      rw [rounds_succ]
      go_wp2_with fail
      have bq' : Below wr.heap.size wr (wr.drewN nq) := bq
      by_cases hC : Num.isC S
      · have HC := Lib.hid hC
        clear hC
        refine (chr_yes _ (by have h1 := CS.out; have h2 := HC.out; unfold Num.isC at *; omega) _).mono ?_
        rintro e w' ⟨rfl, rfl⟩
        go_wp2_with fail
        refine (RP.out _ _ (by have h1 := CS.out; omega) HC.out).mono ?_
        rintro e w1 ⟨A1, rfl, _, h1⟩
        by_cases hE : E.length = 2
        · have q1 : ((E.length : Int) == 2) = true := by simp; omega
          have g1 := h1.size
          have g2 := bq'.size
          have HEL := Lib.hid hE
          clear hE
          go_wp2_with fail
          refine (RP.out _ _ (by have h1 := CS.out; omega) HC.out).mono ?_
          rintro e w2 ⟨A2, rfl, ye, h2⟩
          have h12 := bq'.trans ((h1.mono g2).trans (h2.mono (Nat.le_trans g2 g1)))
          have y2 := (hby.below h12).more h12.size
          have bb := hbl.trans (h12.mono hbl.size)
          go_wp2_with fail
          refine (starts_any b off c E.length A2 l E w2 y2 ye (by omega) (by have := HEL.out; omega) hc).mono ?_
          rintro e w3 ⟨rfl, h3⟩
          have bb3 := bb.trans (h3.mono bb.size)
          by_cases hq : l.take E.length = E
          · have q2 : (l.take E.length == E) = true := by simpa using hq
            have OK := Lib.hid (Num.wh_ok (n := 2) (l := l) ⟨by rw [← HS.out]; exact HC.out, by rw [← HS.out, ← HE.out]; exact HEL.out, by rw [← HS.out, ← HE.out, ← HEL.out, hq]⟩)
            clear hq
            go_wp2_with fail
            go_ret
            exact ⟨retI (by rw [OK.out, ← HS.out]; have := CS.out; omega), bb3⟩
          · have q2 : (l.take E.length == E) = false := by simpa using hq
            have NO := not_more hn.out (n := 2) (fun h => hq (by rw [HEL.out, HE.out, HS.out]; exact h.2.2.symm))
            have z0 := blk0.below (h12.trans (h3.mono h12.size)) (by omega)
            have z1 := blk1.below (h12.trans (h3.mono h12.size)) (by omega)
            clear hq
            go_wp2_with fail
            go_roundw
            case rel => exact ⟨3, by omega, by omega, by go_num, NO, bb3, z0, z1⟩
            case measure => simp [intOf]
        · have q1 : ((E.length : Int) == 2) = false := by simp; omega
          have NO := not_more hn.out (n := 2) (fun h => hE (by rw [HE.out, HS.out]; exact h.2.1))
          have h12 := bq'.trans (h1.mono bq'.size)
          have bb := hbl.trans (h12.mono hbl.size)
          have z0 := blk0.below h12 (by omega)
          have z1 := blk1.below h12 (by omega)
          clear hE
          go_wp2_with fail
          go_roundw
          case rel => exact ⟨3, by omega, by omega, by go_num, NO, bb, z0, z1⟩
          case measure => simp [intOf]
      · have NO := not_more hn.out (n := 2) (fun h => hC (by rw [HS.out]; exact h.1))
        have HC := Lib.hid hC
        clear hC
        refine (chr_no _ (by have h1 := CS.out; have h2 := HC.out; unfold Num.isC at *; omega) _).mono ?_
        rintro e w' ⟨rfl, rfl⟩
        have bb := hbl.trans (bq'.mono hbl.size)
        have z0 := blk0.below bq' (by omega)
        have z1 := blk1.below bq' (by omega)
        go_wp2_with fail
        go_roundw
        case rel => exact ⟨3, by omega, by omega, by go_num, NO, bb, z0, z1⟩
        case measure => simp [intOf]
    · have x0 := at_cell hb hbl (k := 0) (by omega)
      have y0 := (l.getD 0 0).toNat_lt
      have x1 := at_cell hb hbl (k := 1) (by omega)
      have y1 := (l.getD 1 0).toNat_lt
      have x2 := at_cell hb hbl (k := 2) (by omega)
      have y2 := (l.getD 2 0).toNat_lt
      have cs : Num.csum 3 l = Num.csum 3 l := rfl
      conv at cs => { rhs; simp only [Num.csum] }
      simp only [Nat.add_zero] at x0
      generalize (l.getD 0 0).toNat = X0 at *
      generalize (l.getD 1 0).toNat = X1 at *
      generalize (l.getD 2 0).toNat = X2 at *
      obtain ⟨S, hS⟩ : ∃ S, S = Num.csum 3 l := ⟨_, rfl⟩
      rw [← hS] at cs
      obtain ⟨E, hE⟩ : ∃ E, E = Num.ue S.toNat := ⟨_, rfl⟩
      have HS := Lib.hid hS
      have HE := Lib.hid hE
      have CS := Lib.hid cs
      have el := Num.ue_len S.toNat
      rw [← hE] at el
      obtain ⟨el1, el4⟩ := el
      have rp : ∀ (z : Int) (W : World), z = S → Num.isC S → Calls Tryz.prog 97 #[.int .i64 z] W (Lays E W) := fun z W e h => by rw [hE]; exact rPut_int z S e h W
      have RP := Lib.hid rp
      clear hS hE cs rp
      have s3 := blk0.cell 2
      have m3 := blk1.cell 2
      simp at s3 m3
      go_wp2_with fail
      go_quiet (fail)
      have bq := bel_drewN (Below.refl wr.heap.size wr) nq
      go_wp2_with fail
      refine wp_loop_rounds 3 ?_
      rw [rounds_succ]
      go_wp2_with fail
      refine wp_loop_rounds 2 ?_
      rw [rounds_succ]
      go_wp2_with fail
      rw [rounds_succ]
      go_wp2_with fail
      rw [rounds_succ]
      go_wp2_with fail
      refine wp_loop_rounds 1 ?_
      rw [rounds_succ]
      go_wp2_with fail
      rw [rounds_succ]
      go_wp2_with fail
      have bq' : Below wr.heap.size wr (wr.drewN nq) := bq
      by_cases hC : Num.isC S
      · have HC := Lib.hid hC
        clear hC
        refine (chr_yes _ (by have h1 := CS.out; have h2 := HC.out; unfold Num.isC at *; omega) _).mono ?_
        rintro e w' ⟨rfl, rfl⟩
        go_wp2_with fail
        refine (RP.out _ _ (by have h1 := CS.out; omega) HC.out).mono ?_
        rintro e w1 ⟨A1, rfl, _, h1⟩
        by_cases hE : E.length = 3
        · have q1 : ((E.length : Int) == 3) = true := by simp; omega
          have g1 := h1.size
          have g2 := bq'.size
          have HEL := Lib.hid hE
          clear hE
          go_wp2_with fail
          refine (RP.out _ _ (by have h1 := CS.out; omega) HC.out).mono ?_
          rintro e w2 ⟨A2, rfl, ye, h2⟩
          have h12 := bq'.trans ((h1.mono g2).trans (h2.mono (Nat.le_trans g2 g1)))
          have y2 := (hby.below h12).more h12.size
          have bb := hbl.trans (h12.mono hbl.size)
          go_wp2_with fail
          refine (starts_any b off c E.length A2 l E w2 y2 ye (by omega) (by have := HEL.out; omega) hc).mono ?_
          rintro e w3 ⟨rfl, h3⟩
          have bb3 := bb.trans (h3.mono bb.size)
          by_cases hq : l.take E.length = E
          · have q2 : (l.take E.length == E) = true := by simpa using hq
            have OK := Lib.hid (Num.wh_ok (n := 3) (l := l) ⟨by rw [← HS.out]; exact HC.out, by rw [← HS.out, ← HE.out]; exact HEL.out, by rw [← HS.out, ← HE.out, ← HEL.out, hq]⟩)
            clear hq
            go_wp2_with fail
            go_ret
            exact ⟨retI (by rw [OK.out, ← HS.out]; have := CS.out; omega), bb3⟩
          · have q2 : (l.take E.length == E) = false := by simpa using hq
            have NO := not_more hn.out (n := 3) (fun h => hq (by rw [HEL.out, HE.out, HS.out]; exact h.2.2.symm))
            have z0 := blk0.below (h12.trans (h3.mono h12.size)) (by omega)
            have z1 := blk1.below (h12.trans (h3.mono h12.size)) (by omega)
            clear hq
            go_wp2_with fail
            go_roundw
            case rel => exact ⟨4, by omega, by omega, by go_num, NO, bb3, z0, z1⟩
            case measure => simp [intOf]
        · have q1 : ((E.length : Int) == 3) = false := by simp; omega
          have NO := not_more hn.out (n := 3) (fun h => hE (by rw [HE.out, HS.out]; exact h.2.1))
          have h12 := bq'.trans (h1.mono bq'.size)
          have bb := hbl.trans (h12.mono hbl.size)
          have z0 := blk0.below h12 (by omega)
          have z1 := blk1.below h12 (by omega)
          clear hE
          go_wp2_with fail
          go_roundw
          case rel => exact ⟨4, by omega, by omega, by go_num, NO, bb, z0, z1⟩
          case measure => simp [intOf]
      · have NO := not_more hn.out (n := 3) (fun h => hC (by rw [HS.out]; exact h.1))
        have HC := Lib.hid hC
        clear hC
        refine (chr_no _ (by have h1 := CS.out; have h2 := HC.out; unfold Num.isC at *; omega) _).mono ?_
        rintro e w' ⟨rfl, rfl⟩
        have bb := hbl.trans (bq'.mono hbl.size)
        have z0 := blk0.below bq' (by omega)
        have z1 := blk1.below bq' (by omega)
        go_wp2_with fail
        go_roundw
        case rel => exact ⟨4, by omega, by omega, by go_num, NO, bb, z0, z1⟩
        case measure => simp [intOf]
    · have x0 := at_cell hb hbl (k := 0) (by omega)
      have y0 := (l.getD 0 0).toNat_lt
      have x1 := at_cell hb hbl (k := 1) (by omega)
      have y1 := (l.getD 1 0).toNat_lt
      have x2 := at_cell hb hbl (k := 2) (by omega)
      have y2 := (l.getD 2 0).toNat_lt
      have x3 := at_cell hb hbl (k := 3) (by omega)
      have y3 := (l.getD 3 0).toNat_lt
      have cs : Num.csum 4 l = Num.csum 4 l := rfl
      conv at cs => { rhs; simp only [Num.csum] }
      simp only [Nat.add_zero] at x0
      generalize (l.getD 0 0).toNat = X0 at *
      generalize (l.getD 1 0).toNat = X1 at *
      generalize (l.getD 2 0).toNat = X2 at *
      generalize (l.getD 3 0).toNat = X3 at *
      obtain ⟨S, hS⟩ : ∃ S, S = Num.csum 4 l := ⟨_, rfl⟩
      rw [← hS] at cs
      obtain ⟨E, hE⟩ : ∃ E, E = Num.ue S.toNat := ⟨_, rfl⟩
      have HS := Lib.hid hS
      have HE := Lib.hid hE
      have CS := Lib.hid cs
      have el := Num.ue_len S.toNat
      rw [← hE] at el
      obtain ⟨el1, el4⟩ := el
      have rp : ∀ (z : Int) (W : World), z = S → Num.isC S → Calls Tryz.prog 97 #[.int .i64 z] W (Lays E W) := fun z W e h => by rw [hE]; exact rPut_int z S e h W
      have RP := Lib.hid rp
      clear hS hE cs rp
      have s3 := blk0.cell 3
      have m3 := blk1.cell 3
      simp at s3 m3
      go_wp2_with fail
      go_quiet (fail)
      have bq := bel_drewN (Below.refl wr.heap.size wr) nq
      go_wp2_with fail
      refine wp_loop_rounds 4 ?_
      rw [rounds_succ]
      go_wp2_with fail
      refine wp_loop_rounds 3 ?_
      rw [rounds_succ]
      go_wp2_with fail
      rw [rounds_succ]
      go_wp2_with fail
      rw [rounds_succ]
      go_wp2_with fail
      rw [rounds_succ]
      go_wp2_with fail
      refine wp_loop_rounds 2 ?_
      rw [rounds_succ]
      go_wp2_with fail
      rw [rounds_succ]
      go_wp2_with fail
      rw [rounds_succ]
      go_wp2_with fail
      refine wp_loop_rounds 1 ?_
      rw [rounds_succ]
      go_wp2_with fail
      rw [rounds_succ]
      go_wp2_with fail
      have bq' : Below wr.heap.size wr (wr.drewN nq) := bq
      by_cases hC : Num.isC S
      · have HC := Lib.hid hC
        clear hC
        refine (chr_yes _ (by have h1 := CS.out; have h2 := HC.out; unfold Num.isC at *; omega) _).mono ?_
        rintro e w' ⟨rfl, rfl⟩
        go_wp2_with fail
        refine (RP.out _ _ (by have h1 := CS.out; omega) HC.out).mono ?_
        rintro e w1 ⟨A1, rfl, _, h1⟩
        by_cases hE : E.length = 4
        · have q1 : ((E.length : Int) == 4) = true := by simp; omega
          have g1 := h1.size
          have g2 := bq'.size
          have HEL := Lib.hid hE
          clear hE
          go_wp2_with fail
          refine (RP.out _ _ (by have h1 := CS.out; omega) HC.out).mono ?_
          rintro e w2 ⟨A2, rfl, ye, h2⟩
          have h12 := bq'.trans ((h1.mono g2).trans (h2.mono (Nat.le_trans g2 g1)))
          have y2 := (hby.below h12).more h12.size
          have bb := hbl.trans (h12.mono hbl.size)
          go_wp2_with fail
          refine (starts_any b off c E.length A2 l E w2 y2 ye (by omega) (by have := HEL.out; omega) hc).mono ?_
          rintro e w3 ⟨rfl, h3⟩
          have bb3 := bb.trans (h3.mono bb.size)
          by_cases hq : l.take E.length = E
          · have q2 : (l.take E.length == E) = true := by simpa using hq
            have OK := Lib.hid (Num.wh_ok (n := 4) (l := l) ⟨by rw [← HS.out]; exact HC.out, by rw [← HS.out, ← HE.out]; exact HEL.out, by rw [← HS.out, ← HE.out, ← HEL.out, hq]⟩)
            clear hq
            go_wp2_with fail
            go_ret
            exact ⟨retI (by rw [OK.out, ← HS.out]; have := CS.out; omega), bb3⟩
          · have q2 : (l.take E.length == E) = false := by simpa using hq
            have NO := not_more hn.out (n := 4) (fun h => hq (by rw [HEL.out, HE.out, HS.out]; exact h.2.2.symm))
            have z0 := blk0.below (h12.trans (h3.mono h12.size)) (by omega)
            have z1 := blk1.below (h12.trans (h3.mono h12.size)) (by omega)
            clear hq
            go_wp2_with fail
            go_roundw
            case rel => exact ⟨5, by omega, by omega, by go_num, NO, bb3, z0, z1⟩
            case measure => simp [intOf]
        · have q1 : ((E.length : Int) == 4) = false := by simp; omega
          have NO := not_more hn.out (n := 4) (fun h => hE (by rw [HE.out, HS.out]; exact h.2.1))
          have h12 := bq'.trans (h1.mono bq'.size)
          have bb := hbl.trans (h12.mono hbl.size)
          have z0 := blk0.below h12 (by omega)
          have z1 := blk1.below h12 (by omega)
          clear hE
          go_wp2_with fail
          go_roundw
          case rel => exact ⟨5, by omega, by omega, by go_num, NO, bb, z0, z1⟩
          case measure => simp [intOf]
      · have NO := not_more hn.out (n := 4) (fun h => hC (by rw [HS.out]; exact h.1))
        have HC := Lib.hid hC
        clear hC
        refine (chr_no _ (by have h1 := CS.out; have h2 := HC.out; unfold Num.isC at *; omega) _).mono ?_
        rintro e w' ⟨rfl, rfl⟩
        have bb := hbl.trans (bq'.mono hbl.size)
        have z0 := blk0.below bq' (by omega)
        have z1 := blk1.below bq' (by omega)
        go_wp2_with fail
        go_roundw
        case rel => exact ⟨5, by omega, by omega, by go_num, NO, bb, z0, z1⟩
        case measure => simp [intOf]
  · have Z := Lib.hid (Num.wh_none (l := l) (fun m h1 h2 h3 => hn.out m h1 (by omega)))
    by_cases h4 : n ≤ 4
    · have h5 : ¬ n ≤ l.length := fun h => hin ⟨h4, h⟩
      have q1 : decide (n ≤ 4) = true := by simp; omega
      have q2 : decide (n ≤ l.length) = false := by simp; omega
      clear hin
      go_wp2_with fail
      go_ret
      exact ⟨retI (by rw [Z.out]), hbl⟩
    · have q1 : decide (n ≤ 4) = false := by simp; omega
      clear hin
      go_wp2_with fail
      go_ret
      exact ⟨retI (by rw [Z.out]), hbl⟩
end Go.Proofs.YtpmgjpchpmkklaaGreatDoor
namespace Go.Proofs.YtpmgjpchpmkklaaGreatDoor
open Go.ChangeShapes Go.WideShapes Go.ChangeAt Go.RowKit Mem
theorem whole_nil (A : Option Addr) (c : Nat) (w : World) : Calls Tryz.prog 96 #[.slice A 0 c] w (Says1 (-1) w) := by
 go_enter Tryz.func96, Tryz.ntmps96
 go_wp2_with fail
 refine wp_loop_rounds 1 ?_
 rw [rounds_succ]
 go_wp2_with fail
 go_ret
 exact ⟨rfl, ((Below.refl _ _).alloc (Nat.le_refl _) _).alloc (by simp) _⟩
theorem whole_all (A : Option Addr) (c : Nat) (l : List UInt8) (w : World) (hb : Bys w w.heap.size A l) (hl : l.length ≤ 140000000000) (hc : l.length ≤ c) :
 Calls Tryz.prog 96 #[.slice A l.length c] w (Says1 (Num.wh l) w) := by
 by_cases h : l = []
 · subst h
   exact whole_nil A c w
 · rcases hb with e | ⟨b, off, rfl, h1, h2⟩
   · exact absurd e h
   · exact whole_any b off c l w (.inr ⟨b, off, rfl, h1, h2⟩) hl hc
def Fills (w : World) (N M : Nat) : Prop := M = N + 6 ∧ (∀ i, i < 6 → w.cell? ⟨M, i, none⟩ = some (.slice (some ⟨N + i, 0, none⟩) 3 3)) ∧ ∀ i, i < 6 → Bys w (N + 7) (some ⟨N + i, 0, none⟩) (Num.fills.getD i [])
theorem Fills.below {w w' : World} {N M B : Nat} (h : Fills w N M) (hb : Below B w w') (hB : N + 7 ≤ B) : Fills w' N M :=
 ⟨h.1, fun i hi => (hb.cell (p := ⟨M, i, none⟩) (by have := h.1; show M < B; omega)).trans (h.2.1 i hi), fun i hi => (h.2.2 i hi).below (hb.mono hB)⟩
def fillW (w : World) : World :=
 (((((((w.alloc (.cells #[.int .u8 128, .int .u8 128, .int .u8 128] 5)).alloc (.cells #[.int .u8 191, .int .u8 191, .int .u8 191] 5)).alloc (.cells #[.int .u8 160, .int .u8 128, .int .u8 128] 5)).alloc
  (.cells #[.int .u8 144, .int .u8 128, .int .u8 128] 5)).alloc (.cells #[.int .u8 143, .int .u8 191, .int .u8 191] 5)).alloc (.cells #[.int .u8 159, .int .u8 191, .int .u8 191] 5)).alloc
  (.cells #[.slice (some ⟨w.heap.size, 0, none⟩) 3 3, .slice (some ⟨w.heap.size + 1, 0, none⟩) 3 3, .slice (some ⟨w.heap.size + 1 + 1, 0, none⟩) 3 3, .slice (some ⟨w.heap.size + 1 + 1 + 1, 0, none⟩) 3 3,
   .slice (some ⟨w.heap.size + 1 + 1 + 1 + 1, 0, none⟩) 3 3, .slice (some ⟨w.heap.size + 1 + 1 + 1 + 1 + 1, 0, none⟩) 3 3] 26))
theorem fillW_size (w : World) : (fillW w).heap.size = w.heap.size + 7 := by simp [fillW]
theorem fillW_below (w : World) : Below w.heap.size w (fillW w) :=
 (((((((Below.refl w.heap.size w).alloc (Nat.le_refl _) _).alloc (by simp) _).alloc (by simp; omega) _).alloc (by simp; omega) _).alloc (by simp; omega) _).alloc (by simp; omega) _).alloc (by simp; omega) _
theorem blk_bys {w : World} {g B : Nat} {l : List UInt8} {cs : Array Value} (h : Blk w g 5 cs) (hg : g < B) (hc : cs = (cels l).toArray) : Bys w B (some ⟨g, 0, none⟩) l := by
 subst hc
 refine .inr ⟨g, 0, rfl, hg, fun k hk => ?_⟩
 rw [h.cell, show 0 + k = k by omega]
 simpa using cels_at hk
theorem blk_at {w : World} {g n : Nat} {t : TypeId} {cs : Array Value} (h : Blk w n t cs) (e : n = g) : Blk w g t cs := e ▸ h
theorem fillW_fills (w : World) : Fills (fillW w) w.heap.size (w.heap.size + 1 + 1 + 1 + 1 + 1 + 1) := by
 have b0 : Blk (fillW w) w.heap.size 5 #[.int .u8 128, .int .u8 128, .int .u8 128] := ((((((Blk.new w _ _).alloc _).alloc _).alloc _).alloc _).alloc _).alloc _
 have b1 : Blk (fillW w) (w.heap.size + 1) 5 #[.int .u8 191, .int .u8 191, .int .u8 191] := blk_at ((((((Blk.new (w.alloc _) _ _).alloc _).alloc _).alloc _).alloc _).alloc _) (by simp)
 have b2 : Blk (fillW w) (w.heap.size + 2) 5 #[.int .u8 160, .int .u8 128, .int .u8 128] := blk_at (((((Blk.new ((w.alloc _).alloc _) _ _).alloc _).alloc _).alloc _).alloc _) (by simp)
 have b3 : Blk (fillW w) (w.heap.size + 3) 5 #[.int .u8 144, .int .u8 128, .int .u8 128] := blk_at ((((Blk.new (((w.alloc _).alloc _).alloc _) _ _).alloc _).alloc _).alloc _) (by simp)
 have b4 : Blk (fillW w) (w.heap.size + 4) 5 #[.int .u8 143, .int .u8 191, .int .u8 191] := blk_at (((Blk.new ((((w.alloc _).alloc _).alloc _).alloc _) _ _).alloc _).alloc _) (by simp)
 have b5 : Blk (fillW w) (w.heap.size + 5) 5 #[.int .u8 159, .int .u8 191, .int .u8 191] := blk_at ((Blk.new (((((w.alloc _).alloc _).alloc _).alloc _).alloc _) _ _).alloc _) (by simp)
 have b6 : Blk (fillW w) (w.heap.size + 1 + 1 + 1 + 1 + 1 + 1) 26 #[.slice (some ⟨w.heap.size, 0, none⟩) 3 3, .slice (some ⟨w.heap.size + 1, 0, none⟩) 3 3, .slice (some ⟨w.heap.size + 1 + 1, 0, none⟩) 3 3, .slice (some ⟨w.heap.size + 1 + 1 + 1, 0, none⟩) 3 3,
  .slice (some ⟨w.heap.size + 1 + 1 + 1 + 1, 0, none⟩) 3 3, .slice (some ⟨w.heap.size + 1 + 1 + 1 + 1 + 1, 0, none⟩) 3 3] := blk_at (Blk.new ((((((w.alloc _).alloc _).alloc _).alloc _).alloc _).alloc _) _ _) (by simp)
 refine ⟨rfl, fun i hi => ?_, fun i hi => ?_⟩
 · rw [b6.cell]
   obtain rfl | rfl | rfl | rfl | rfl | rfl : i = 0 ∨ i = 1 ∨ i = 2 ∨ i = 3 ∨ i = 4 ∨ i = 5 := by omega
   all_goals rfl
 · obtain rfl | rfl | rfl | rfl | rfl | rfl : i = 0 ∨ i = 1 ∨ i = 2 ∨ i = 3 ∨ i = 4 ∨ i = 5 := by omega
   · exact blk_bys b0 (by omega) rfl
   · exact blk_bys b1 (by omega) rfl
   · exact blk_bys b2 (by omega) rfl
   · exact blk_bys b3 (by omega) rfl
   · exact blk_bys b4 (by omega) rfl
   · exact blk_bys b5 (by omega) rfl
def NoFill (l : List UInt8) (i : Nat) : Prop := ∀ j, j < i → ¬ ∃ c n, Num.fst (l ++ Num.fills.getD j []) = (c, n, 0) ∧ l.length < n
theorem NoFill.more {l : List UInt8} {i : Nat} (h : NoFill l i) (k : ¬ ∃ c n, Num.fst (l ++ Num.fills.getD i []) = (c, n, 0) ∧ l.length < n) : NoFill l (i + 1) := by
 intro j hj
 rcases Nat.lt_or_ge j i with h1 | h1
 · exact h j h1
 · obtain rfl : j = i := by omega
   exact k
theorem NoFill.done {l : List UInt8} (h : NoFill l 6) (hl : l ≠ []) : ((Num.fst l).2.2 == 10) = false := by
 rcases Num.fst_err l with ⟨c, n, e, _⟩ | ⟨e, _⟩ | e
 · rw [e]; rfl
 · obtain ⟨j, hj, k⟩ := Num.fst_fill e hl
   exact absurd k (h j hj)
 · rw [e]; rfl
theorem fill_len {i : Nat} (h : i < 6) : (Num.fills.getD i []).length = 3 := by
 obtain rfl | rfl | rfl | rfl | rfl | rfl : i = 0 ∨ i = 1 ∨ i = 2 ∨ i = 3 ∨ i = 4 ∨ i = 5 := by omega
 all_goals rfl
theorem begun_nil (A : Option Addr) (c : Nat) (w : World) : Calls Tryz.prog 98 #[.slice A 0 c] w (Same true w) := by
 go_enter Tryz.func98, Tryz.ntmps98
 go_wp2_with fail
 go_ret
 exact ⟨rfl, Below.refl _ _⟩
theorem begun_any (A : Option Addr) (c : Nat) (l : List UInt8) (w : World) (hb : Bys w w.heap.size A l) (hl : l ≠ []) (h4 : l.length < 4) (he : (Num.fst l).2.2 ≠ 0) :
 Calls Tryz.prog 98 #[.slice A l.length c] w (Same ((Num.fst l).2.2 == 10) w) := by
 have lp : 0 < l.length := List.length_pos_iff.2 hl
 have q0 : ((l.length : Int) == 0) = false := by simp; omega
 have DONE := Lib.hid (fun h : NoFill l 6 => h.done hl)
 have YES := Lib.hid (fun (i : Nat) (h : ∃ c n, Num.fst (l ++ Num.fills.getD i []) = (c, n, 0) ∧ l.length < n) => (by
  obtain ⟨c, n, e, hn⟩ := h
  rw [Num.fst_cut e hn]; rfl : ((Num.fst l).2.2 == 10) = true))
 have HE := Lib.hid he
 have HL := Lib.hid hl
 clear he hl
 go_enter Tryz.func98, Tryz.ntmps98
 go_wp2_with fail
 change Code.wp _ _ _ _ (fillW w)
 have F7 := fillW_fills w
 have B7 := fillW_below w
 have S7 := fillW_size w
 have Y7 := hb.below B7
 generalize fillW w = W7 at *
 generalize w.heap.size + 1 + 1 + 1 + 1 + 1 + 1 = M at *
 obtain ⟨N, hN⟩ : ∃ N, N = w.heap.size := ⟨_, rfl⟩
 rw [← hN] at F7 S7 Y7
 have n7 : N ≤ w.heap.size := by omega
 have n8 : w.heap.size ≤ N := by omega
 clear hN hb
 have SZ := Lib.hid S7
 clear S7
 go_loopw [4] (fun u wr => ∃ i : Nat, i ≤ 6 ∧ u = .int .i64 (i : Int) ∧ Hid (NoFill l i) ∧ Below (N + 7) W7 wr) (fun u _ => 6 - (intOf u).toNat)
 case atStart => exact ⟨0, by omega, rfl, fun j hj => absurd hj (by omega), Below.refl _ _⟩
 case round =>
  obtain ⟨i, i6, rfl, nf, bl⟩ := hrel
  have wsz : N + 7 ≤ wr.heap.size := by have := bl.size; have := SZ.out; omega
  have Bw := B7.trans (bl.mono (by omega))
  by_cases hi : i < 6
  · have Fr := F7.below bl (Nat.le_refl _)
    have Yr : Bys wr (N + 7) A l := (Y7.below (bl.mono (by omega))).more (by omega)
    have lf := Fr.2.1 i hi
    have fl := Fr.2.2 i hi
    have fln := fill_len hi
    have yes := YES.out i
    have more := NoFill.more nf.out
    have ferr := Num.fst_err (l ++ Num.fills.getD i [])
    have fue := fun c n h => Num.ue_fst (l := l ++ Num.fills.getD i []) (c := c) (n := n) h
    obtain ⟨F, hF⟩ : ∃ F, F = Num.fills.getD i [] := ⟨_, rfl⟩
    rw [← hF] at fl fln yes more ferr fue
    have FLN := Lib.hid fln
    have YES1 := Lib.hid yes
    have MORE := Lib.hid more
    have FUE := Lib.hid fue
    have FERR := Lib.hid ferr
    clear fln yes more ferr fue hF
    have lfa : ((wr.alloc (.cells #[] 5)).drew).cell? ⟨M, i, none⟩ = some (.slice (some ⟨N + i, 0, none⟩) 3 3) := (((Below.refl wr.heap.size wr).alloc (Nat.le_refl _) _).cell (p := ⟨M, i, none⟩) (by have := Fr.1; show M < _; omega)).trans lf
    go_wp2_with fail
    go_region_held_law (fun w' => w'.cell? ⟨M, i, none⟩ = some (.slice (some ⟨N + i, 0, none⟩) 3 3)) (first | exact lf | exact lfa | assumption) (first | (refine step_appd _ byteT (by rfl) (some 25) rfl (.tmp 23) (.tmp 24) rfl wr.heap.size _ [] rfl (own_lit wr (Nat.le_refl _)).drew _ A c l rfl ((Yr.alloc wsz _).drew) (by simp; omega) (by simp) ?_; intro v2 w2 o2 h2; have b2 := (((Below.refl wr.heap.size wr).alloc (Nat.le_refl _) (.cells #[] 5)).drew).trans h2; have lf2 := (Fr.below b2 wsz).2.1 i hi; have fl2 := fl.below (b2.mono wsz)) | (rw [List.nil_append] at o2; refine step_appd _ byteT (by rfl) (some 30) rfl (.tmp 25) (.tmp 29) rfl wr.heap.size _ l rfl o2 _ _ 3 F (by rw [FLN.out]; rfl) fl2 (by have := FLN.out; omega) b2.size ?_; intro v3 w3 o3 h3; have b3 := b2.trans h3; have lf3 := (Fr.below b3 wsz).2.1 i hi))
    all_goals
     obtain ⟨X, hX⟩ : ∃ X, X = l ++ F := ⟨_, rfl⟩
     have lX : X.length = l.length + 3 := by rw [hX, List.length_append, FLN.out]
     have HX := Lib.hid hX
     rw [← hX] at o3
     clear hX
     obtain ⟨A3, c3, rfl, y3, r3⟩ := o3.room
     have lX7 : X.length ≤ 7 := by omega
     have wa := whole_all A3 c3 X w3 y3 (by omega) r3
     have LX := Lib.hid lX
     clear lX
     by_cases hk : ∃ c n, Num.fst X = (c, n, 0) ∧ l.length < n
     · have Z := Lib.hid (YES1.out (by rw [← HX.out]; exact hk))
       obtain ⟨k, n, e1, e2⟩ := hk
       have u := FUE.out k n (by rw [← HX.out]; exact e1)
       rw [← HX.out] at u
       have eln : (Num.ue k).length = n := by
        rw [u.2.1, List.length_take]
        rcases Num.fst_err X with ⟨_, _, e, _, _, hh⟩ | ⟨e, _⟩ | e
        · rw [e1] at e; simp only [Prod.mk.injEq] at e; omega
        · rw [e1] at e; simp at e
        · rw [e1] at e; simp at e
       have wk : Num.wh X = (k : Int) := by unfold Num.wh; rw [e1]; rfl
       rw [wk] at wa
       have rp := rPut_any k u.1
       have hlen : l.length < (Num.ue k).length := by omega
       generalize Num.ue k = E at *
       have WA := Lib.hid wa
       have RP := Lib.hid rp
       clear wa rp u wk e1 e2 eln
       go_wp2_with fail
       refine WA.out.mono ?_
       rintro e w4 ⟨rfl, h4⟩
       go_wp2_with fail
       refine (RP.out _).mono ?_
       rintro e w5 ⟨A5, rfl, _, h5⟩
       have b5 := b3.trans ((h4.trans (h5.mono h4.size)).mono b3.size)
       go_wp2_with fail
       go_ret
       exact ⟨by rw [Z.out]; rfl, Bw.trans (b5.mono Bw.size)⟩
     · have NF := Lib.hid (MORE.out (by rw [← HX.out]; exact hk))
       by_cases hok : (Num.fst X).2.2 = 0
       · obtain ⟨k, n, e1⟩ : ∃ k n, Num.fst X = (k, n, 0) := ⟨_, _, by rw [← hok]⟩
         have hn : n ≤ l.length := Nat.le_of_not_lt (fun h => hk ⟨k, n, e1, h⟩)
         have u := FUE.out k n (by rw [← HX.out]; exact e1)
         rw [← HX.out] at u
         have wk : Num.wh X = (k : Int) := by unfold Num.wh; rw [e1]; rfl
         rw [wk] at wa
         have rp := rPut_any k u.1
         have hlen : ¬ l.length < (Num.ue k).length := by rw [u.2.1, List.length_take]; omega
         generalize Num.ue k = E at *
         have WA := Lib.hid wa
         have RP := Lib.hid rp
         clear wa rp u wk e1 hk hok hn
         go_wp2_with fail
         refine WA.out.mono ?_
         rintro e w4 ⟨rfl, h4⟩
         go_wp2_with fail
         refine (RP.out _).mono ?_
         rintro e w5 ⟨A5, rfl, _, h5⟩
         have b5 := b3.trans ((h4.trans (h5.mono h4.size)).mono b3.size)
         go_wp2_with fail
         go_roundw
         case rel => exact ⟨i + 1, by omega, by go_num, NF, bl.trans (b5.mono wsz)⟩
         case measure => simp [intOf]; omega
       · have wk : Num.wh X = -1 := by unfold Num.wh; rw [if_neg hok]
         rw [wk] at wa
         have WA := Lib.hid wa
         clear wa wk hk hok
         go_wp2_with fail
         refine WA.out.mono ?_
         rintro e w4 ⟨rfl, h4⟩
         have b5 := b3.trans (h4.mono b3.size)
         go_wp2_with fail
         go_roundw
         case rel => exact ⟨i + 1, by omega, by go_num, NF, bl.trans (b5.mono wsz)⟩
         case measure => simp [intOf]; omega
  · obtain rfl : i = 6 := by omega
    have Z := Lib.hid (DONE.out nf.out)
    go_wp2_with fail
    go_ret
    exact ⟨by rw [Z.out]; rfl, Bw⟩
def Tk64 (r : Nat × Int × Nat) (w : World) (e : Ending) (w' : World) : Prop :=
 e = .returned (.tuple #[.int .i64 (r.1 : Int), .int .i64 r.2.1, .int .i64 (r.2.2 : Int)]) ∧ Below w.heap.size w w'
theorem rTake_good (A : Option Addr) (c : Nat) (l : List UInt8) (k : Nat) (w : World) (hb : Bys w w.heap.size A l) (hl : l.length ≤ 140000000000) (hc : l.length ≤ c) (hk : k ≤ l.length) :
 Calls Tryz.prog 82 #[.slice A l.length c, .int .i64 (k : Int)] w (Tk64 ((Num.fst (l.drop k)).1, (k : Int) + ((Num.fst (l.drop k)).2.1 : Int), (Num.fst (l.drop k)).2.2) w) := by
 have h1 : ¬ (l.length : Int) < (k : Int) := by omega
 have h2 : (0 : Int) ≤ (k : Int) := by omega
 have ld : (l.drop k).length = l.length - k := List.length_drop
 obtain ⟨D, hD⟩ : ∃ D, D = l.drop k := ⟨_, rfl⟩
 have hcut := hb.cut k c hc
 rw [← hD] at hcut ld ⊢
 clear hD
 have wh : ∀ W A' n c', n = l.length - k → n ≤ c' → Bys W W.heap.size A' D → Calls Tryz.prog 96 #[.slice A' n c'] W (Says1 (Num.wh D) W) := fun W A' n c' hn hc' hA => by
  have := whole_all A' c' D W hA (by omega) (by omega)
  rw [ld, ← hn] at this
  exact this
 have bg : ∀ W A' n c', n = l.length - k → D.length < 4 → (Num.fst D).2.2 ≠ 0 → Bys W W.heap.size A' D → Calls Tryz.prog 98 #[.slice A' n c'] W (Same ((Num.fst D).2.2 == 10) W) := fun W A' n c' hn h4 he hA => by
  by_cases e : D = []
  · have : n = 0 := by rw [e] at ld; simp at ld; omega
    subst this; subst e
    exact begun_nil A' c' W
  · have := begun_any A' c' D W hA e h4 he
    rw [ld, ← hn] at this
    exact this
 have err := Num.fst_err D
 have WH := Lib.hid wh
 have BG := Lib.hid bg
 have LD := Lib.hid ld
 clear wh bg ld
 have CUT : Hid (∀ A', (c = k → A' = A) → (c ≠ k → A' = A.map (·.add k)) → Bys w w.heap.size A' D) := fun A' e1 e2 => by
  by_cases e : c = k
  · rw [if_pos e] at hcut; rw [e1 e]; exact hcut
  · rw [if_neg e] at hcut; rw [e2 e]; exact hcut
 clear hcut
 rcases err with ⟨x, n, e, n0, n4, nl⟩ | ⟨e, e4⟩ | e
 · have u := (Num.ue_fst e)
   have eln : (Num.ue x).length = n := by rw [u.2.1, List.length_take]; omega
   have wk : Num.wh D = (x : Int) := by unfold Num.wh; rw [e]; rfl
   rw [e]
   rw [wk] at WH
   have RP := Lib.hid (rPut_any x u.1)
   generalize Num.ue x = E at *
   have hx : (0 : Int) ≤ (x : Int) := by omega
   have ELN := Lib.hid eln
   have el4 : E.length ≤ 4 := by omega
   clear eln u wk e nl
   by_cases hck : c = k
   · have HC : Hid (Bys w w.heap.size A D) := CUT.out A (fun _ => rfl) (fun h => absurd hck h)
     subst hck
     go_enter Tryz.func82, Tryz.ntmps82
     go_wp2_with fail
     with_reducible refine (WH.out _ _ _ _ (by omega) (by omega) HC.out).mono ?_
     rintro e w1 ⟨rfl, b1⟩
     go_wp2_with fail
     refine (RP.out _).mono ?_
     rintro e w2 ⟨A2, rfl, _, b2⟩
     go_wp2_with fail
     go_ret3
     exact ⟨by rw [ELN.out]; rfl, b1.trans (b2.mono b1.size)⟩
   · have HC : Hid (Bys w w.heap.size (A.map (·.add k)) D) := CUT.out _ (fun h => absurd h hck) (fun _ => rfl)
     go_enter Tryz.func82, Tryz.ntmps82
     go_wp2_with fail
     with_reducible refine (WH.out _ _ _ _ (by omega) (by omega) HC.out).mono ?_
     rintro e w1 ⟨rfl, b1⟩
     go_wp2_with fail
     refine (RP.out _).mono ?_
     rintro e w2 ⟨A2, rfl, _, b2⟩
     go_wp2_with fail
     go_ret3
     exact ⟨by rw [ELN.out]; rfl, b1.trans (b2.mono b1.size)⟩
 · have wk : Num.wh D = -1 := by unfold Num.wh; rw [e]; rfl
   have bgn := fun W A' n c' h1 h3 => BG.out W A' n c' h1 e4 (by rw [e]; decide) h3
   rw [wk] at WH
   rw [e] at bgn ⊢
   have BG1 := Lib.hid bgn
   have q3 : decide ((l.length : Int) - (k : Int) < 4) = true := by have := LD.out; simp; omega
   clear bgn wk e e4
   by_cases hck : c = k
   · have HC : Hid (Bys w w.heap.size A D) := CUT.out A (fun _ => rfl) (fun h => absurd hck h)
     subst hck
     go_enter Tryz.func82, Tryz.ntmps82
     go_wp2_with fail
     with_reducible refine (WH.out _ _ _ _ (by omega) (by omega) HC.out).mono ?_
     rintro e w1 ⟨rfl, b1⟩
     go_wp2_with fail
     with_reducible refine (BG1.out _ _ _ _ (by omega) ((HC.out.below b1).more b1.size)).mono ?_
     rintro e w2 ⟨rfl, b2⟩
     go_wp2_with fail
     go_ret3
     exact ⟨rfl, b1.trans (b2.mono b1.size)⟩
   · have HC : Hid (Bys w w.heap.size (A.map (·.add k)) D) := CUT.out _ (fun h => absurd h hck) (fun _ => rfl)
     go_enter Tryz.func82, Tryz.ntmps82
     go_wp2_with fail
     with_reducible refine (WH.out _ _ _ _ (by omega) (by omega) HC.out).mono ?_
     rintro e w1 ⟨rfl, b1⟩
     go_wp2_with fail
     with_reducible refine (BG1.out _ _ _ _ (by omega) ((HC.out.below b1).more b1.size)).mono ?_
     rintro e w2 ⟨rfl, b2⟩
     go_wp2_with fail
     go_ret3
     exact ⟨rfl, b1.trans (b2.mono b1.size)⟩
 · have wk : Num.wh D = -1 := by unfold Num.wh; rw [e]; rfl
   have bgn := fun W A' n c' h1 h4 h3 => BG.out W A' n c' h1 h4 (by rw [e]; decide) h3
   rw [wk] at WH
   rw [e] at bgn ⊢
   have BG1 := Lib.hid bgn
   clear bgn wk e
   by_cases h4 : l.length - k < 4
   · have q3 : decide ((l.length : Int) - (k : Int) < 4) = true := by simp; omega
     by_cases hck : c = k
     · have HC : Hid (Bys w w.heap.size A D) := CUT.out A (fun _ => rfl) (fun h => absurd hck h)
       subst hck
       go_enter Tryz.func82, Tryz.ntmps82
       go_wp2_with fail
       with_reducible refine (WH.out _ _ _ _ (by omega) (by omega) HC.out).mono ?_
       rintro e w1 ⟨rfl, b1⟩
       go_wp2_with fail
       with_reducible refine (BG1.out _ _ _ _ (by omega) (by have := LD.out; omega) ((HC.out.below b1).more b1.size)).mono ?_
       rintro e w2 ⟨rfl, b2⟩
       go_wp2_with fail
       go_ret3
       exact ⟨rfl, b1.trans (b2.mono b1.size)⟩
     · have HC : Hid (Bys w w.heap.size (A.map (·.add k)) D) := CUT.out _ (fun h => absurd h hck) (fun _ => rfl)
       go_enter Tryz.func82, Tryz.ntmps82
       go_wp2_with fail
       with_reducible refine (WH.out _ _ _ _ (by omega) (by omega) HC.out).mono ?_
       rintro e w1 ⟨rfl, b1⟩
       go_wp2_with fail
       with_reducible refine (BG1.out _ _ _ _ (by omega) (by have := LD.out; omega) ((HC.out.below b1).more b1.size)).mono ?_
       rintro e w2 ⟨rfl, b2⟩
       go_wp2_with fail
       go_ret3
       exact ⟨rfl, b1.trans (b2.mono b1.size)⟩
   · have q3 : decide ((l.length : Int) - (k : Int) < 4) = false := by simp; omega
     have hck : c ≠ k := by omega
     have HC : Hid (Bys w w.heap.size (A.map (·.add k)) D) := CUT.out _ (fun h => absurd h hck) (fun _ => rfl)
     go_enter Tryz.func82, Tryz.ntmps82
     go_wp2_with fail
     with_reducible refine (WH.out _ _ _ _ (by omega) (by omega) HC.out).mono ?_
     rintro e w1 ⟨rfl, b1⟩
     go_wp2_with fail
     go_ret3
     exact ⟨rfl, b1⟩
def cntI (l : List UInt8) : Int := match Num.cU l with | some n => (n : Int) | none => -1
def Left2 (L : List UInt8) (p k : Nat) : Prop := p ≤ L.length ∧ k ≤ p ∧ Num.cU L = (Num.cU (L.drop p)).map (· + k)
theorem Left2.done {L : List UInt8} {p k : Nat} (h : Left2 L p k) (hp : p = L.length) : cntI L = (k : Int) := by
 unfold cntI; rw [h.2.2, List.drop_eq_nil_of_le (by omega), Num.cU_nil]; simp
theorem Left2.bad {L : List UInt8} {p k : Nat} (h : Left2 L p k) (hd : p < L.length) (he : (Num.fst (L.drop p)).2.2 ≠ 0) : cntI L = -1 := by
 unfold cntI; rw [h.2.2, Num.cU_bad (by intro e; have := congrArg List.length e; simp at this; omega) he]; rfl
theorem Left2.go {L : List UInt8} {p k c n : Nat} (h : Left2 L p k) (he : Num.fst (L.drop p) = (c, n, 0)) (hn : 0 < n) (hn2 : n ≤ L.length - p) : Left2 L (p + n) (k + 1) := by
 refine ⟨by have := h.1; omega, by have := h.2.1; omega, ?_⟩
 rw [h.2.2, Num.cU_go he, Option.map_map, List.drop_drop]
 congr 1
 funext j
 simp; omega
theorem rCount_any (A : Option Addr) (c : Nat) (l : List UInt8) (w : World) (hb : Bys w w.heap.size A l) (hl : l.length ≤ 140000000000) (hc : l.length ≤ c) :
 Calls Tryz.prog 59 #[.slice A l.length c] w (Says1 (cntI l) w) := by
 have START : Hid (Left2 l 0 0) := ⟨Nat.zero_le _, Nat.le_refl _, by simp⟩
 go_enter Tryz.func59, Tryz.ntmps59
 go_wp2_with fail
 go_loopw [3, 4] (fun u t wr => ∃ (p k : Nat), Hid (Left2 l p k) ∧ p ≤ l.length ∧ k ≤ p ∧ t = .int .i64 (p : Int) ∧ u = .int .i64 (k : Int) ∧ Below w.heap.size w wr) (fun _ t _ => l.length - (intOf t).toNat)
 case atStart => exact ⟨0, 0, START, Nat.zero_le _, Nat.le_refl _, rfl, rfl, Below.refl _ _⟩
 case round =>
  obtain ⟨p, k, H, pl, kp, rfl, rfl, hbl⟩ := hrel
  by_cases hp : p = l.length
  · have Z := Lib.hid (H.out.done hp)
    have q : ¬ p < l.length := by omega
    clear hp
    go_wp2_with fail
    go_ret
    exact ⟨by rw [Z.out]; rfl, hbl⟩
  · have q : p < l.length := by omega
    have tk := rTake_good A c l p wr ((hb.below hbl).more hbl.size) hl hc pl
    have err := Num.fst_err (l.drop p)
    rw [List.length_drop] at err
    have bad := H.out.bad q
    have go := fun c n => H.out.go (c := c) (n := n)
    obtain ⟨⟨x, n, er⟩, hr⟩ : ∃ r, r = Num.fst (l.drop p) := ⟨_, rfl⟩
    rw [← hr] at tk err bad go
    have TK := Lib.hid tk
    clear hr tk hp
    by_cases he : er = 0
    · subst he
      have hn : 0 < n ∧ n ≤ l.length - p := by
       rcases err with ⟨_, _, e, h1, _, h2⟩ | ⟨e, _⟩ | e
       · simp only [Prod.mk.injEq] at e; omega
       · simp at e
       · simp at e
      obtain ⟨n0, n1⟩ := hn
      have GO := Lib.hid (go x n rfl n0 n1)
      clear err bad go
      go_wp2_with fail
      refine TK.out.mono ?_
      rintro e w1 ⟨rfl, h1⟩
      go_wp2_with fail
      go_roundw
      case rel => exact ⟨p + n, k + 1, GO, by omega, by omega, by go_num, by go_num, hbl.trans (h1.mono hbl.size)⟩
      case measure => simp [intOf]; omega
    · have Z := Lib.hid (bad he)
      have q1 : ((er : Int) == 0) = false := by simp; omega
      have q2 : ((er : Int) != 0) = true := by simp; omega
      clear err bad go he
      go_wp2_with fail
      refine TK.out.mono ?_
      rintro e w1 ⟨rfl, h1⟩
      go_wp2_with fail
      go_ret
      exact ⟨by rw [Z.out]; rfl, hbl.trans (h1.mono hbl.size)⟩
theorem cntI_pos (l : List UInt8) : decide ((0 : Int) ≤ cntI l) = (Num.cU l).isSome := by
 unfold cntI
 rcases Num.cU l with _ | n
 · rfl
 · simp
theorem rtext_any (s : ByteArray) (w : World) (hs : s.size ≤ 100000000) :
 Calls Tryz.prog 94 #[.string s] w (Told (Num.cU s.data.toList).isSome w) := by
 obtain ⟨c, W', h1, h2, h3, h4⟩ := conv_lays s w
 have ln : s.data.toList.length = s.size := by rw [Array.length_toList]; rfl
 have r := rCount_any (some ⟨w.heap.size, 0, none⟩) c s.data.toList W' h4 (by omega) (by omega)
 rw [ln] at r
 obtain ⟨z, hz⟩ : ∃ z, z = cntI s.data.toList := ⟨_, rfl⟩
 have cp := cntI_pos s.data.toList
 rw [← hz] at r cp
 have R := Lib.hid r
 have Z : Hid ((Num.cU s.data.toList).isSome = decide ((0 : Int) ≤ z)) := cp.symm
 clear r cp hz h4 ln
 by_cases h : (0 : Int) ≤ z
 all_goals
  go_enter Tryz.func94, Tryz.ntmps94
  go_wp2_with fail
  with_reducible refine R.out.mono ?_
  rintro e w2 ⟨rfl, b2⟩
  go_wp2_with fail
  go_ret
  exact told_ret (by first | (rw [Z.out]; done) | (rw [Z.out]; simpa using h)) (h3.trans (b2.mono h3.size))
def ShIH (its : List J) : Prop := ∀ (i : Nat) (h1 : i < its.length) (W : World) (A3 A4 : Option Addr) (c3 c4 : Nat), TreeC W W.heap.size (its[i]'h1) [.int .i64 (its[i]'h1).k, .int .i64 (its[i]'h1).n, .string (its[i]'h1).t, .slice A3 (its[i]'h1).its.length c3, .slice A4 (its[i]'h1).ks.length c4] → Calls Tryz.prog 80 #[.agg #[.int .i64 (its[i]'h1).k, .int .i64 (its[i]'h1).n, .string (its[i]'h1).t, .slice A3 (its[i]'h1).its.length c3, .slice A4 (its[i]'h1).ks.length c4]] W (Told (its[i]'h1).frmb W)
end Go.Proofs.YtpmgjpchpmkklaaGreatDoor
