/- The document's own answers for layer 3, at every input. -/
import Derived.Test.YtbogafecgakgiaaDoorUtf
import Derived.LoopN
namespace Go.Proofs.YtbogafecgakgiaaDoor
open Go.ChangeShapes Go.WideShapes Go.ChangeAt Go.RowKit Mem

theorem chr_yes (c : Int) (h : Num.isC c) (w : World) : Calls Tryd.prog 32 #[.int .i64 c] w fun e w' => e = .returned (.bool true) ∧ w = w' := by
  unfold Num.isC at h
  obtain ⟨h1, h2, h3 | h3⟩ := h
  all_goals
    go_enter Tryd.func32, Tryd.ntmps32
    go_wp2_with fail
    go_ret
    exact ⟨rfl, rfl⟩
theorem chr_no (c : Int) (h : ¬ Num.isC c) (w : World) : Calls Tryd.prog 32 #[.int .i64 c] w fun e w' => e = .returned (.bool false) ∧ w = w' := by
  unfold Num.isC at h
  by_cases h1 : c < 0
  · clear h
    go_enter Tryd.func32, Tryd.ntmps32
    go_wp2_with fail
    go_ret
    exact ⟨rfl, rfl⟩
  · by_cases h2 : 1114111 < c
    · clear h
      go_enter Tryd.func32, Tryd.ntmps32
      go_wp2_with fail
      go_ret
      exact ⟨rfl, rfl⟩
    · have h3 : 55296 ≤ c := by omega
      have h4 : c ≤ 57343 := by omega
      have q1 : decide (c < 55296) = false := by simp; omega
      have q2 : decide (57343 < c) = false := by simp; omega
      clear h
      go_enter Tryd.func32, Tryd.ntmps32
      go_wp2_with fail
      go_ret
      exact ⟨rfl, rfl⟩

theorem rPair_any (h l : Int) (h0 : -2147483648 ≤ h) (h1 : h ≤ 2147483647) (l0 : -2147483648 ≤ l) (l1 : l ≤ 2147483647) (w : World) : Calls Tryd.prog 31 #[.int .i64 h, .int .i64 l] w fun e w' => e = .returned (.int .i64 (pair h l)) ∧ w = w' := by
  by_cases k : h < 55296 ∨ 56319 < h ∨ l < 56320 ∨ 57343 < l
  · rw [pair_no k]
    by_cases k1 : h < 55296
    · clear k
      go_enter Tryd.func31, Tryd.ntmps31
      go_wp2_with fail
      go_ret
      exact ⟨rfl, rfl⟩
    · by_cases k2 : 56319 < h
      · clear k
        go_enter Tryd.func31, Tryd.ntmps31
        go_wp2_with fail
        go_ret
        exact ⟨rfl, rfl⟩
      · by_cases k3 : l < 56320
        · clear k
          go_enter Tryd.func31, Tryd.ntmps31
          go_wp2_with fail
          go_ret
          exact ⟨rfl, rfl⟩
        · have k4 : 57343 < l := by omega
          clear k
          go_enter Tryd.func31, Tryd.ntmps31
          go_wp2_with fail
          go_ret
          exact ⟨rfl, rfl⟩
  · have k1 : 55296 ≤ h := by omega
    have k2 : h ≤ 56319 := by omega
    have k3 : 56320 ≤ l := by omega
    have k4 : l ≤ 57343 := by omega
    rw [pair_ok k1 k2 k3 k4]
    clear k
    go_enter Tryd.func31, Tryd.ntmps31
    go_wp2_with fail
    go_ret
    exact ⟨rfl, rfl⟩

/-- A slice of bytes that a call lays. -/
def Lays (l : List UInt8) (w : World) (e : Ending) (w' : World) : Prop := ∃ A, e = .returned (.slice A l.length l.length) ∧ Bys w' w'.heap.size A l ∧ Below w.heap.size w w'
theorem lays_lit {l : List UInt8} {cs : Array Value} {n : Nat} {w : World} (hn : l.length = n) (h : cs = (cels l).toArray) :
    Lays l w (.returned (.slice (some ⟨w.heap.size, 0, none⟩) n n)) (w.alloc (.cells cs 5)) := by
  subst hn; subst h
  exact ⟨_, rfl, lit_bys w l, (Below.refl _ _).alloc (Nat.le_refl _) _⟩
theorem cel_of {n : Nat} {z : Int} (h : n < 256) (hz : z = (n : Int)) : Value.int .u8 z = cel (UInt8.ofNat n) := by
  unfold cel; rw [UInt8.toNat_ofNat_of_lt' (by show n < 256; exact h), hz]
theorem rPut_any (c : Nat) (h : Num.isC (c : Int)) (w : World) : Calls Tryd.prog 33 #[.int .i64 (c : Int)] w (Lays (Num.ue c) w) := by
  unfold Num.isC at h
  have hi : (c : Int) ≤ 1114111 := h.2.1
  clear h
  by_cases h1 : c < 128
  · have k1 : (c : Int) < 128 := by omega
    go_enter Tryd.func33, Tryd.ntmps33
    go_wp2_with fail
    go_ret
    rw [Num.ue_1 h1]
    exact lays_lit rfl (by rw [cel_of (n := c) (z := (c : Int)) (by omega) (by omega)]; rfl)
  · by_cases h2 : c < 2048
    · have k1 : (c : Int) < 2048 := by omega
      have k2 : ¬ (c : Int) < 128 := by omega
      go_enter Tryd.func33, Tryd.ntmps33
      go_wp2_with fail
      go_ret
      rw [Num.ue_2 (by omega) h2]
      exact lays_lit rfl (by rw [cel_of (n := 192 + c / 64) (z := 192 + (c : Int) / 64) (by omega) (by omega), cel_of (n := 128 + c % 64) (z := 128 + (c : Int) % 64) (by omega) (by omega)]; rfl)
    · by_cases h3 : c < 65536
      · have k1 : (c : Int) < 65536 := by omega
        have k2 : ¬ (c : Int) < 2048 := by omega
        have k3 : ¬ (c : Int) < 128 := by omega
        go_enter Tryd.func33, Tryd.ntmps33
        go_wp2_with fail
        go_ret
        rw [Num.ue_3 (by omega) h3]
        exact lays_lit rfl (by rw [cel_of (n := 224 + c / 4096) (z := 224 + (c : Int) / 4096) (by omega) (by omega), cel_of (n := 128 + c / 64 % 64) (z := 128 + (c : Int) / 64 % 64) (by omega) (by omega), cel_of (n := 128 + c % 64) (z := 128 + (c : Int) % 64) (by omega) (by omega)]; rfl)
      · have k1 : ¬ (c : Int) < 65536 := by omega
        have k2 : ¬ (c : Int) < 2048 := by omega
        have k3 : ¬ (c : Int) < 128 := by omega
        go_enter Tryd.func33, Tryd.ntmps33
        go_wp2_with fail
        go_ret
        rw [Num.ue_4 (by omega)]
        exact lays_lit rfl (by rw [cel_of (n := 240 + c / 262144) (z := 240 + (c : Int) / 262144) (by omega) (by omega), cel_of (n := 128 + c / 4096 % 64) (z := 128 + (c : Int) / 4096 % 64) (by omega) (by omega), cel_of (n := 128 + c / 64 % 64) (z := 128 + (c : Int) / 64 % 64) (by omega) (by omega), cel_of (n := 128 + c % 64) (z := 128 + (c : Int) % 64) (by omega) (by omega)]; rfl)

theorem retI {k : IntKind} {a b : Int} (h : a = b) : Ending.returned (.int k a) = .returned (.int k b) := by rw [h]
def Says1 (n : Int) (w : World) (e : Ending) (w' : World) : Prop := e = .returned (.int .i64 n) ∧ Below w.heap.size w w'
def Same (b : Bool) (w : World) (e : Ending) (w' : World) : Prop := e = .returned (.bool b) ∧ Below w.heap.size w w'
theorem starts_any (b off c c2 : Nat) (A2 : Option Addr) (l a : List UInt8) (w : World) (hb : Bys w w.heap.size (some ⟨b, off, none⟩) l) (ha : Bys w w.heap.size A2 a) (h0 : 0 < a.length) (h1 : a.length ≤ l.length) (hc : l.length ≤ c) :
    Calls Tryd.prog 50 #[.slice (some ⟨b, off, none⟩) l.length c, .slice A2 a.length c2] w (Same (l.take a.length == a) w) := by
  have cv1 := fun k => ((hb.front a.length).drewN k).str byteT strT c
  rw [show (l.take a.length).length = a.length by rw [List.length_take]; omega] at cv1
  have cv2 := fun k => (ha.drewN k).str byteT strT c2
  have q1 : decide (a.length ≤ l.length) = true := by simp; omega
  have q2 : (a.length : Int) ≤ (c : Int) := by omega
  go_enter Tryd.func50, Tryd.ntmps50
  go_wp2_with fail
  go_quiet (fail)
  go_wp2_with fail
  go_ret
  exact ⟨rfl, bel_drewN (Below.refl _ _) nq⟩

theorem rPut_int (z z' : Int) (e : z = z') (h : Num.isC z') (w : World) : Calls Tryd.prog 33 #[.int .i64 z] w (Lays (Num.ue z'.toNat) w) := by
  subst e
  have h0 := h.1
  obtain ⟨c, rfl⟩ := Int.eq_ofNat_of_zero_le h0
  exact rPut_any c h w
theorem at_cell {w wr : World} {B b off : Nat} {l : List UInt8} (hb : Bys w B (some ⟨b, off, none⟩) l) (hbl : Below B w wr) {k : Nat} (hk : k < l.length) : wr.cell? ⟨b, off + k, none⟩ = some (.int .u8 (((l.getD k 0).toNat : Nat) : Int)) := by
  rcases hb with h | ⟨b', off', e, h1, h2⟩
  · subst h; simp at hk
  · simp only [Option.some.injEq, Addr.mk.injEq, and_true] at e
    obtain ⟨rfl, rfl⟩ := e
    exact (hbl.cell (p := ⟨b, off + k, none⟩) h1).trans (h2 k hk)
theorem not_more {l : List UInt8} {n : Nat} (h : ∀ m, 1 ≤ m → m < n → ¬ Num.okAt m l) (hn : ¬ Num.okAt n l) : Hid (∀ m, 1 ≤ m → m < n + 1 → ¬ Num.okAt m l) := by
  intro m h1 h2
  rcases Nat.lt_or_ge m n with h3 | h3
  · exact h m h1 h3
  · obtain rfl : m = n := by omega
    exact hn

set_option maxRecDepth 100000 in
set_option maxHeartbeats 4000000 in
theorem whole_any (b off c : Nat) (l : List UInt8) (w : World) (hb : Bys w w.heap.size (some ⟨b, off, none⟩) l) (hl : l.length ≤ 140000000000) (hc : l.length ≤ c) :
    Calls Tryd.prog 42 #[.slice (some ⟨b, off, none⟩) l.length c] w (Says1 (Num.wh l) w) := by
  go_enter Tryd.func42, Tryd.ntmps42
  go_wp2_with fail
  go_loopw [5] (fun u wr => ∃ n : Nat, 1 ≤ n ∧ n ≤ 5 ∧ u = .int .i64 (n : Int) ∧ Hid (∀ m, 1 ≤ m → m < n → ¬ Num.okAt m l) ∧ Below w.heap.size w wr ∧ Blk wr w.heap.size 2 #[.int .i64 0, .int .i64 64, .int .i64 4096, .int .i64 262144] ∧ Blk wr (w.heap.size + 1) 2 #[.int .i64 0, .int .i64 192, .int .i64 224, .int .i64 240]) (fun u _ => 5 - (intOf u).toNat)
  case atStart =>
    refine ⟨1, by omega, by omega, rfl, fun m h1 h2 => absurd h2 (by omega), ((Below.refl _ _).alloc (Nat.le_refl _) _).alloc (by simp) _, (Blk.new w _ _).alloc _, ?_⟩
    have := Blk.new (w.alloc (.cells #[.int .i64 0, .int .i64 64, .int .i64 4096, .int .i64 262144] 2)) 2 #[.int .i64 0, .int .i64 192, .int .i64 224, .int .i64 240]
    simpa using this
  case round =>
    obtain ⟨n, n1, n5, rfl, hn, hbl, blk0, blk1⟩ := hrel
    have k0 := blk0.lt
    have k1 := blk1.lt
    by_cases hin : n ≤ 4 ∧ n ≤ l.length
    · obtain ⟨n4, nl⟩ := hin
      have hby := (hb.below hbl).more hbl.size
      obtain rfl | rfl | rfl | rfl : n = 1 ∨ n = 2 ∨ n = 3 ∨ n = 4 := by omega
      · have x0 := at_cell hb hbl (k := 0) (by omega)
        have y0 := (l.getD 0 0).toNat_lt
        have cs : Num.csum 1 l = Num.csum 1 l := rfl
        conv at cs => { rhs; simp only [Num.csum] }
        simp only [Nat.add_zero] at x0
        generalize (l.getD 0 0).toNat = X0 at *
        obtain ⟨S, hS⟩ : ∃ S, S = Num.csum 1 l := ⟨_, rfl⟩
        rw [← hS] at cs
        obtain ⟨E, hE⟩ : ∃ E, E = Num.ue S.toNat := ⟨_, rfl⟩
        have HS := Lib.hid hS
        have HE := Lib.hid hE
        have CS := Lib.hid cs
        have el := Num.ue_len S.toNat
        rw [← hE] at el
        obtain ⟨el1, el4⟩ := el
        have rp : ∀ (z : Int) (W : World), z = S → Num.isC S → Calls Tryd.prog 33 #[.int .i64 z] W (Lays E W) := fun z W e h => by rw [hE]; exact rPut_int z S e h W
        have RP := Lib.hid rp
        clear hS hE cs rp
        go_wp2_with fail
        refine wp_loop_rounds 1 ?_
        rw [rounds_succ]
        go_wp2_with fail
        have bq' : Below wr.heap.size wr wr := (Below.refl wr.heap.size wr)
        by_cases hC : Num.isC S
        · have HC := Lib.hid hC
          clear hC
          refine (chr_yes _ (by have h1 := CS.out; have h2 := HC.out; unfold Num.isC at *; omega) _).mono ?_
          rintro e w' ⟨rfl, rfl⟩
          go_wp2_with fail
          refine (RP.out _ _ (by have h1 := CS.out; omega) HC.out).mono ?_
          rintro e w1 ⟨A1, rfl, _, h1⟩
          by_cases hE : E.length = 1
          · have q1 : ((E.length : Int) == 1) = true := by simp; omega
            have g1 := h1.size
            have g2 := bq'.size
            have HEL := Lib.hid hE
            clear hE
            go_wp2_with fail
            refine (RP.out _ _ (by have h1 := CS.out; omega) HC.out).mono ?_
            rintro e w2 ⟨A2, rfl, ye, h2⟩
            have h12 := bq'.trans ((h1.mono g2).trans (h2.mono (Nat.le_trans g2 g1)))
            have y2 := (hby.below h12).more h12.size
            have bb := hbl.trans (h12.mono hbl.size)
            go_wp2_with fail
            refine (starts_any b off c E.length A2 l E w2 y2 ye (by omega) (by have := HEL.out; omega) hc).mono ?_
            rintro e w3 ⟨rfl, h3⟩
            have bb3 := bb.trans (h3.mono bb.size)
            by_cases hq : l.take E.length = E
            · have q2 : (l.take E.length == E) = true := by simpa using hq
              have OK := Lib.hid (Num.wh_ok (n := 1) (l := l) ⟨by rw [← HS.out]; exact HC.out, by rw [← HS.out, ← HE.out]; exact HEL.out, by rw [← HS.out, ← HE.out, ← HEL.out, hq]⟩)
              clear hq
              go_wp2_with fail
              go_ret
              exact ⟨retI (by rw [OK.out, ← HS.out]; have := CS.out; omega), bb3⟩
            · have q2 : (l.take E.length == E) = false := by simpa using hq
              have NO := not_more hn.out (n := 1) (fun h => hq (by rw [HEL.out, HE.out, HS.out]; exact h.2.2.symm))
              have z0 := blk0.below (h12.trans (h3.mono h12.size)) (by omega)
              have z1 := blk1.below (h12.trans (h3.mono h12.size)) (by omega)
              clear hq
              go_wp2_with fail
              go_roundw
              case rel => exact ⟨2, by omega, by omega, by go_num, NO, bb3, z0, z1⟩
              case measure => simp [intOf]
          · have q1 : ((E.length : Int) == 1) = false := by simp; omega
            have NO := not_more hn.out (n := 1) (fun h => hE (by rw [HE.out, HS.out]; exact h.2.1))
            have h12 := bq'.trans (h1.mono bq'.size)
            have bb := hbl.trans (h12.mono hbl.size)
            have z0 := blk0.below h12 (by omega)
            have z1 := blk1.below h12 (by omega)
            clear hE
            go_wp2_with fail
            go_roundw
            case rel => exact ⟨2, by omega, by omega, by go_num, NO, bb, z0, z1⟩
            case measure => simp [intOf]
        · have NO := not_more hn.out (n := 1) (fun h => hC (by rw [HS.out]; exact h.1))
          have HC := Lib.hid hC
          clear hC
          refine (chr_no _ (by have h1 := CS.out; have h2 := HC.out; unfold Num.isC at *; omega) _).mono ?_
          rintro e w' ⟨rfl, rfl⟩
          have bb := hbl.trans (bq'.mono hbl.size)
          have z0 := blk0.below bq' (by omega)
          have z1 := blk1.below bq' (by omega)
          go_wp2_with fail
          go_roundw
          case rel => exact ⟨2, by omega, by omega, by go_num, NO, bb, z0, z1⟩
          case measure => simp [intOf]
      · have x0 := at_cell hb hbl (k := 0) (by omega)
        have y0 := (l.getD 0 0).toNat_lt
        have x1 := at_cell hb hbl (k := 1) (by omega)
        have y1 := (l.getD 1 0).toNat_lt
        have cs : Num.csum 2 l = Num.csum 2 l := rfl
        conv at cs => { rhs; simp only [Num.csum] }
        simp only [Nat.add_zero] at x0
        generalize (l.getD 0 0).toNat = X0 at *
        generalize (l.getD 1 0).toNat = X1 at *
        obtain ⟨S, hS⟩ : ∃ S, S = Num.csum 2 l := ⟨_, rfl⟩
        rw [← hS] at cs
        obtain ⟨E, hE⟩ : ∃ E, E = Num.ue S.toNat := ⟨_, rfl⟩
        have HS := Lib.hid hS
        have HE := Lib.hid hE
        have CS := Lib.hid cs
        have el := Num.ue_len S.toNat
        rw [← hE] at el
        obtain ⟨el1, el4⟩ := el
        have rp : ∀ (z : Int) (W : World), z = S → Num.isC S → Calls Tryd.prog 33 #[.int .i64 z] W (Lays E W) := fun z W e h => by rw [hE]; exact rPut_int z S e h W
        have RP := Lib.hid rp
        clear hS hE cs rp
        have s3 := blk0.cell 1
        have m3 := blk1.cell 1
        simp at s3 m3
        go_wp2_with fail
        go_quiet (fail)
        have bq := bel_drewN (Below.refl wr.heap.size wr) nq
        go_wp2_with fail
        refine wp_loop_rounds 2 ?_
        rw [rounds_succ]
        go_wp2_with fail
        refine wp_loop_rounds 1 ?_
        rw [rounds_succ]
        go_wp2_with fail
        rw [rounds_succ]
        go_wp2_with fail
        have bq' : Below wr.heap.size wr (wr.drewN nq) := bq
        by_cases hC : Num.isC S
        · have HC := Lib.hid hC
          clear hC
          refine (chr_yes _ (by have h1 := CS.out; have h2 := HC.out; unfold Num.isC at *; omega) _).mono ?_
          rintro e w' ⟨rfl, rfl⟩
          go_wp2_with fail
          refine (RP.out _ _ (by have h1 := CS.out; omega) HC.out).mono ?_
          rintro e w1 ⟨A1, rfl, _, h1⟩
          by_cases hE : E.length = 2
          · have q1 : ((E.length : Int) == 2) = true := by simp; omega
            have g1 := h1.size
            have g2 := bq'.size
            have HEL := Lib.hid hE
            clear hE
            go_wp2_with fail
            refine (RP.out _ _ (by have h1 := CS.out; omega) HC.out).mono ?_
            rintro e w2 ⟨A2, rfl, ye, h2⟩
            have h12 := bq'.trans ((h1.mono g2).trans (h2.mono (Nat.le_trans g2 g1)))
            have y2 := (hby.below h12).more h12.size
            have bb := hbl.trans (h12.mono hbl.size)
            go_wp2_with fail
            refine (starts_any b off c E.length A2 l E w2 y2 ye (by omega) (by have := HEL.out; omega) hc).mono ?_
            rintro e w3 ⟨rfl, h3⟩
            have bb3 := bb.trans (h3.mono bb.size)
            by_cases hq : l.take E.length = E
            · have q2 : (l.take E.length == E) = true := by simpa using hq
              have OK := Lib.hid (Num.wh_ok (n := 2) (l := l) ⟨by rw [← HS.out]; exact HC.out, by rw [← HS.out, ← HE.out]; exact HEL.out, by rw [← HS.out, ← HE.out, ← HEL.out, hq]⟩)
              clear hq
              go_wp2_with fail
              go_ret
              exact ⟨retI (by rw [OK.out, ← HS.out]; have := CS.out; omega), bb3⟩
            · have q2 : (l.take E.length == E) = false := by simpa using hq
              have NO := not_more hn.out (n := 2) (fun h => hq (by rw [HEL.out, HE.out, HS.out]; exact h.2.2.symm))
              have z0 := blk0.below (h12.trans (h3.mono h12.size)) (by omega)
              have z1 := blk1.below (h12.trans (h3.mono h12.size)) (by omega)
              clear hq
              go_wp2_with fail
              go_roundw
              case rel => exact ⟨3, by omega, by omega, by go_num, NO, bb3, z0, z1⟩
              case measure => simp [intOf]
          · have q1 : ((E.length : Int) == 2) = false := by simp; omega
            have NO := not_more hn.out (n := 2) (fun h => hE (by rw [HE.out, HS.out]; exact h.2.1))
            have h12 := bq'.trans (h1.mono bq'.size)
            have bb := hbl.trans (h12.mono hbl.size)
            have z0 := blk0.below h12 (by omega)
            have z1 := blk1.below h12 (by omega)
            clear hE
            go_wp2_with fail
            go_roundw
            case rel => exact ⟨3, by omega, by omega, by go_num, NO, bb, z0, z1⟩
            case measure => simp [intOf]
        · have NO := not_more hn.out (n := 2) (fun h => hC (by rw [HS.out]; exact h.1))
          have HC := Lib.hid hC
          clear hC
          refine (chr_no _ (by have h1 := CS.out; have h2 := HC.out; unfold Num.isC at *; omega) _).mono ?_
          rintro e w' ⟨rfl, rfl⟩
          have bb := hbl.trans (bq'.mono hbl.size)
          have z0 := blk0.below bq' (by omega)
          have z1 := blk1.below bq' (by omega)
          go_wp2_with fail
          go_roundw
          case rel => exact ⟨3, by omega, by omega, by go_num, NO, bb, z0, z1⟩
          case measure => simp [intOf]
      · have x0 := at_cell hb hbl (k := 0) (by omega)
        have y0 := (l.getD 0 0).toNat_lt
        have x1 := at_cell hb hbl (k := 1) (by omega)
        have y1 := (l.getD 1 0).toNat_lt
        have x2 := at_cell hb hbl (k := 2) (by omega)
        have y2 := (l.getD 2 0).toNat_lt
        have cs : Num.csum 3 l = Num.csum 3 l := rfl
        conv at cs => { rhs; simp only [Num.csum] }
        simp only [Nat.add_zero] at x0
        generalize (l.getD 0 0).toNat = X0 at *
        generalize (l.getD 1 0).toNat = X1 at *
        generalize (l.getD 2 0).toNat = X2 at *
        obtain ⟨S, hS⟩ : ∃ S, S = Num.csum 3 l := ⟨_, rfl⟩
        rw [← hS] at cs
        obtain ⟨E, hE⟩ : ∃ E, E = Num.ue S.toNat := ⟨_, rfl⟩
        have HS := Lib.hid hS
        have HE := Lib.hid hE
        have CS := Lib.hid cs
        have el := Num.ue_len S.toNat
        rw [← hE] at el
        obtain ⟨el1, el4⟩ := el
        have rp : ∀ (z : Int) (W : World), z = S → Num.isC S → Calls Tryd.prog 33 #[.int .i64 z] W (Lays E W) := fun z W e h => by rw [hE]; exact rPut_int z S e h W
        have RP := Lib.hid rp
        clear hS hE cs rp
        have s3 := blk0.cell 2
        have m3 := blk1.cell 2
        simp at s3 m3
        go_wp2_with fail
        go_quiet (fail)
        have bq := bel_drewN (Below.refl wr.heap.size wr) nq
        go_wp2_with fail
        refine wp_loop_rounds 3 ?_
        rw [rounds_succ]
        go_wp2_with fail
        refine wp_loop_rounds 2 ?_
        rw [rounds_succ]
        go_wp2_with fail
        rw [rounds_succ]
        go_wp2_with fail
        rw [rounds_succ]
        go_wp2_with fail
        refine wp_loop_rounds 1 ?_
        rw [rounds_succ]
        go_wp2_with fail
        rw [rounds_succ]
        go_wp2_with fail
        have bq' : Below wr.heap.size wr (wr.drewN nq) := bq
        by_cases hC : Num.isC S
        · have HC := Lib.hid hC
          clear hC
          refine (chr_yes _ (by have h1 := CS.out; have h2 := HC.out; unfold Num.isC at *; omega) _).mono ?_
          rintro e w' ⟨rfl, rfl⟩
          go_wp2_with fail
          refine (RP.out _ _ (by have h1 := CS.out; omega) HC.out).mono ?_
          rintro e w1 ⟨A1, rfl, _, h1⟩
          by_cases hE : E.length = 3
          · have q1 : ((E.length : Int) == 3) = true := by simp; omega
            have g1 := h1.size
            have g2 := bq'.size
            have HEL := Lib.hid hE
            clear hE
            go_wp2_with fail
            refine (RP.out _ _ (by have h1 := CS.out; omega) HC.out).mono ?_
            rintro e w2 ⟨A2, rfl, ye, h2⟩
            have h12 := bq'.trans ((h1.mono g2).trans (h2.mono (Nat.le_trans g2 g1)))
            have y2 := (hby.below h12).more h12.size
            have bb := hbl.trans (h12.mono hbl.size)
            go_wp2_with fail
            refine (starts_any b off c E.length A2 l E w2 y2 ye (by omega) (by have := HEL.out; omega) hc).mono ?_
            rintro e w3 ⟨rfl, h3⟩
            have bb3 := bb.trans (h3.mono bb.size)
            by_cases hq : l.take E.length = E
            · have q2 : (l.take E.length == E) = true := by simpa using hq
              have OK := Lib.hid (Num.wh_ok (n := 3) (l := l) ⟨by rw [← HS.out]; exact HC.out, by rw [← HS.out, ← HE.out]; exact HEL.out, by rw [← HS.out, ← HE.out, ← HEL.out, hq]⟩)
              clear hq
              go_wp2_with fail
              go_ret
              exact ⟨retI (by rw [OK.out, ← HS.out]; have := CS.out; omega), bb3⟩
            · have q2 : (l.take E.length == E) = false := by simpa using hq
              have NO := not_more hn.out (n := 3) (fun h => hq (by rw [HEL.out, HE.out, HS.out]; exact h.2.2.symm))
              have z0 := blk0.below (h12.trans (h3.mono h12.size)) (by omega)
              have z1 := blk1.below (h12.trans (h3.mono h12.size)) (by omega)
              clear hq
              go_wp2_with fail
              go_roundw
              case rel => exact ⟨4, by omega, by omega, by go_num, NO, bb3, z0, z1⟩
              case measure => simp [intOf]
          · have q1 : ((E.length : Int) == 3) = false := by simp; omega
            have NO := not_more hn.out (n := 3) (fun h => hE (by rw [HE.out, HS.out]; exact h.2.1))
            have h12 := bq'.trans (h1.mono bq'.size)
            have bb := hbl.trans (h12.mono hbl.size)
            have z0 := blk0.below h12 (by omega)
            have z1 := blk1.below h12 (by omega)
            clear hE
            go_wp2_with fail
            go_roundw
            case rel => exact ⟨4, by omega, by omega, by go_num, NO, bb, z0, z1⟩
            case measure => simp [intOf]
        · have NO := not_more hn.out (n := 3) (fun h => hC (by rw [HS.out]; exact h.1))
          have HC := Lib.hid hC
          clear hC
          refine (chr_no _ (by have h1 := CS.out; have h2 := HC.out; unfold Num.isC at *; omega) _).mono ?_
          rintro e w' ⟨rfl, rfl⟩
          have bb := hbl.trans (bq'.mono hbl.size)
          have z0 := blk0.below bq' (by omega)
          have z1 := blk1.below bq' (by omega)
          go_wp2_with fail
          go_roundw
          case rel => exact ⟨4, by omega, by omega, by go_num, NO, bb, z0, z1⟩
          case measure => simp [intOf]
      · have x0 := at_cell hb hbl (k := 0) (by omega)
        have y0 := (l.getD 0 0).toNat_lt
        have x1 := at_cell hb hbl (k := 1) (by omega)
        have y1 := (l.getD 1 0).toNat_lt
        have x2 := at_cell hb hbl (k := 2) (by omega)
        have y2 := (l.getD 2 0).toNat_lt
        have x3 := at_cell hb hbl (k := 3) (by omega)
        have y3 := (l.getD 3 0).toNat_lt
        have cs : Num.csum 4 l = Num.csum 4 l := rfl
        conv at cs => { rhs; simp only [Num.csum] }
        simp only [Nat.add_zero] at x0
        generalize (l.getD 0 0).toNat = X0 at *
        generalize (l.getD 1 0).toNat = X1 at *
        generalize (l.getD 2 0).toNat = X2 at *
        generalize (l.getD 3 0).toNat = X3 at *
        obtain ⟨S, hS⟩ : ∃ S, S = Num.csum 4 l := ⟨_, rfl⟩
        rw [← hS] at cs
        obtain ⟨E, hE⟩ : ∃ E, E = Num.ue S.toNat := ⟨_, rfl⟩
        have HS := Lib.hid hS
        have HE := Lib.hid hE
        have CS := Lib.hid cs
        have el := Num.ue_len S.toNat
        rw [← hE] at el
        obtain ⟨el1, el4⟩ := el
        have rp : ∀ (z : Int) (W : World), z = S → Num.isC S → Calls Tryd.prog 33 #[.int .i64 z] W (Lays E W) := fun z W e h => by rw [hE]; exact rPut_int z S e h W
        have RP := Lib.hid rp
        clear hS hE cs rp
        have s3 := blk0.cell 3
        have m3 := blk1.cell 3
        simp at s3 m3
        go_wp2_with fail
        go_quiet (fail)
        have bq := bel_drewN (Below.refl wr.heap.size wr) nq
        go_wp2_with fail
        refine wp_loop_rounds 4 ?_
        rw [rounds_succ]
        go_wp2_with fail
        refine wp_loop_rounds 3 ?_
        rw [rounds_succ]
        go_wp2_with fail
        rw [rounds_succ]
        go_wp2_with fail
        rw [rounds_succ]
        go_wp2_with fail
        rw [rounds_succ]
        go_wp2_with fail
        refine wp_loop_rounds 2 ?_
        rw [rounds_succ]
        go_wp2_with fail
        rw [rounds_succ]
        go_wp2_with fail
        rw [rounds_succ]
        go_wp2_with fail
        refine wp_loop_rounds 1 ?_
        rw [rounds_succ]
        go_wp2_with fail
        rw [rounds_succ]
        go_wp2_with fail
        have bq' : Below wr.heap.size wr (wr.drewN nq) := bq
        by_cases hC : Num.isC S
        · have HC := Lib.hid hC
          clear hC
          refine (chr_yes _ (by have h1 := CS.out; have h2 := HC.out; unfold Num.isC at *; omega) _).mono ?_
          rintro e w' ⟨rfl, rfl⟩
          go_wp2_with fail
          refine (RP.out _ _ (by have h1 := CS.out; omega) HC.out).mono ?_
          rintro e w1 ⟨A1, rfl, _, h1⟩
          by_cases hE : E.length = 4
          · have q1 : ((E.length : Int) == 4) = true := by simp; omega
            have g1 := h1.size
            have g2 := bq'.size
            have HEL := Lib.hid hE
            clear hE
            go_wp2_with fail
            refine (RP.out _ _ (by have h1 := CS.out; omega) HC.out).mono ?_
            rintro e w2 ⟨A2, rfl, ye, h2⟩
            have h12 := bq'.trans ((h1.mono g2).trans (h2.mono (Nat.le_trans g2 g1)))
            have y2 := (hby.below h12).more h12.size
            have bb := hbl.trans (h12.mono hbl.size)
            go_wp2_with fail
            refine (starts_any b off c E.length A2 l E w2 y2 ye (by omega) (by have := HEL.out; omega) hc).mono ?_
            rintro e w3 ⟨rfl, h3⟩
            have bb3 := bb.trans (h3.mono bb.size)
            by_cases hq : l.take E.length = E
            · have q2 : (l.take E.length == E) = true := by simpa using hq
              have OK := Lib.hid (Num.wh_ok (n := 4) (l := l) ⟨by rw [← HS.out]; exact HC.out, by rw [← HS.out, ← HE.out]; exact HEL.out, by rw [← HS.out, ← HE.out, ← HEL.out, hq]⟩)
              clear hq
              go_wp2_with fail
              go_ret
              exact ⟨retI (by rw [OK.out, ← HS.out]; have := CS.out; omega), bb3⟩
            · have q2 : (l.take E.length == E) = false := by simpa using hq
              have NO := not_more hn.out (n := 4) (fun h => hq (by rw [HEL.out, HE.out, HS.out]; exact h.2.2.symm))
              have z0 := blk0.below (h12.trans (h3.mono h12.size)) (by omega)
              have z1 := blk1.below (h12.trans (h3.mono h12.size)) (by omega)
              clear hq
              go_wp2_with fail
              go_roundw
              case rel => exact ⟨5, by omega, by omega, by go_num, NO, bb3, z0, z1⟩
              case measure => simp [intOf]
          · have q1 : ((E.length : Int) == 4) = false := by simp; omega
            have NO := not_more hn.out (n := 4) (fun h => hE (by rw [HE.out, HS.out]; exact h.2.1))
            have h12 := bq'.trans (h1.mono bq'.size)
            have bb := hbl.trans (h12.mono hbl.size)
            have z0 := blk0.below h12 (by omega)
            have z1 := blk1.below h12 (by omega)
            clear hE
            go_wp2_with fail
            go_roundw
            case rel => exact ⟨5, by omega, by omega, by go_num, NO, bb, z0, z1⟩
            case measure => simp [intOf]
        · have NO := not_more hn.out (n := 4) (fun h => hC (by rw [HS.out]; exact h.1))
          have HC := Lib.hid hC
          clear hC
          refine (chr_no _ (by have h1 := CS.out; have h2 := HC.out; unfold Num.isC at *; omega) _).mono ?_
          rintro e w' ⟨rfl, rfl⟩
          have bb := hbl.trans (bq'.mono hbl.size)
          have z0 := blk0.below bq' (by omega)
          have z1 := blk1.below bq' (by omega)
          go_wp2_with fail
          go_roundw
          case rel => exact ⟨5, by omega, by omega, by go_num, NO, bb, z0, z1⟩
          case measure => simp [intOf]
    · have Z := Lib.hid (Num.wh_none (l := l) (fun m h1 h2 h3 => hn.out m h1 (by omega)))
      by_cases h4 : n ≤ 4
      · have h5 : ¬ n ≤ l.length := fun h => hin ⟨h4, h⟩
        have q1 : decide (n ≤ 4) = true := by simp; omega
        have q2 : decide (n ≤ l.length) = false := by simp; omega
        clear hin
        go_wp2_with fail
        go_ret
        exact ⟨retI (by rw [Z.out]), hbl⟩
      · have q1 : decide (n ≤ 4) = false := by simp; omega
        clear hin
        go_wp2_with fail
        go_ret
        exact ⟨retI (by rw [Z.out]), hbl⟩

end Go.Proofs.YtbogafecgakgiaaDoor
