/- The document's own answers for layer 6, at every input: texts. -/
import Derived.Test.YtheeahnhdehloaaDoorJRef
import Derived.Test.YtheeahnhdehloaaDoorUtfR
namespace Go.Proofs.YtheeahnhdehloaaDoor
open Go.ChangeShapes Go.WideShapes Go.ChangeAt Go.RowKit Mem

/-- A text, where it ends; or that it is none. -/
def Tx (r : Option (List UInt8 × Nat)) (k : Nat) (w : World) (e : Ending) (w' : World) : Prop :=
  (match r with
    | none => ∃ z : Int, e = .returned (.tuple #[.string ⟨#[]⟩, .int .i64 z, .bool false])
    | some (s, n) => e = .returned (.tuple #[.string ⟨s.toArray⟩, .int .i64 ((k + n : Nat) : Int), .bool true])) ∧ Below w.heap.size w w'
theorem tx_none {r : Option (List UInt8 × Nat)} {k : Nat} {w w' : World} {z : Int} (h : r = none) (hb : Below w.heap.size w w') : Tx r k w (.returned (.tuple #[.string ⟨#[]⟩, .int .i64 z, .bool false])) w' := by
  subst h; exact ⟨⟨z, rfl⟩, hb⟩
theorem tx_some {r : Option (List UInt8 × Nat)} {k : Nat} {w w' : World} {s : List UInt8} {n : Nat} {z : Int} (h : r = some (s, n)) (hz : z = ((k + n : Nat) : Int)) (hb : Below w.heap.size w w') :
    Tx r k w (.returned (.tuple #[.string ⟨s.toArray⟩, .int .i64 z, .bool true])) w' := by
  subst h; subst hz; exact ⟨rfl, hb⟩
/-- What the loop of a text knows: what it says so far, and where it goes on. -/
def TxAt (D : List UInt8) (q : Nat) (d : List UInt8) : Prop := q ≤ D.length ∧ d.length ≤ q ∧ Jx.txt D = (Jx.txt (D.drop q)).map fun r => (d ++ r.1, q + r.2)
theorem txAt_start (D : List UInt8) : TxAt D 0 [] := ⟨Nat.zero_le _, Nat.le_refl _, by
  rw [List.drop_zero]
  cases Jx.txt D with
  | none => rfl
  | some r => simp⟩
theorem TxAt.bad {D d : List UInt8} {q : Nat} (h : TxAt D q d) (k : Jx.byt (D.drop q) 0 < 32) : Jx.txt D = none := by rw [h.2.2, Jx.txt_bad k]; rfl
theorem TxAt.done {D d : List UInt8} {q : Nat} (h : TxAt D q d) (k : Jx.byt (D.drop q) 0 = 34) : Jx.txt D = some (d, q + 1) := by rw [h.2.2, Jx.txt_end k]; simp
theorem TxAt.no {D d : List UInt8} {q : Nat} (h : TxAt D q d) (k : Jx.byt (D.drop q) 0 ≠ 34) (i : Jx.item (D.drop q) = none) : Jx.txt D = none := by rw [h.2.2, Jx.txt_no k i]; rfl
theorem TxAt.go {D d o : List UInt8} {q n : Nat} (h : TxAt D q d) (k0 : 32 ≤ Jx.byt (D.drop q) 0) (k : Jx.byt (D.drop q) 0 ≠ 34) (i : Jx.item (D.drop q) = some (o, n)) : TxAt D (q + n) (d ++ o) ∧ 1 ≤ n := by
  have hn := Jx.item_len i
  rw [List.length_drop] at hn
  refine ⟨⟨by have := h.1; omega, by have := h.2.1; simp; omega, ?_⟩, hn.1⟩
  rw [h.2.2, Jx.txt_go k0 k i, Option.map_map, List.drop_drop]
  congr 1
  funext r
  simp; omega
theorem item_plain {l : List UInt8} {c n : Nat} (h : Jx.byt l 0 ≠ 92) (e : Num.fst l = (c, n, 0)) : Jx.item l = some (l.take n, n) := by unfold Jx.item; rw [if_neg h, e]; rfl
theorem item_bad {l : List UInt8} (h : Jx.byt l 0 ≠ 92) (e : (Num.fst l).2.2 ≠ 0) : Jx.item l = none := by unfold Jx.item; rw [if_neg h, if_neg e]
theorem item_esc {l : List UInt8} {v : Nat} (h : Jx.byt l 0 = 92) (e : Jx.esc (Jx.byt l 1) = some v) : Jx.item l = some ([UInt8.ofNat v], 2) := by unfold Jx.item; rw [if_pos h, e]
theorem item_none {l : List UInt8} (h : Jx.byt l 0 = 92) (e : Jx.esc (Jx.byt l 1) = none) (k : Jx.byt l 1 ≠ 117) : Jx.item l = none := by unfold Jx.item; rw [if_pos h, e]; simp only; rw [if_neg k]
theorem item_u {l : List UInt8} (h : Jx.byt l 0 = 92) (k : Jx.byt l 1 = 117) : Jx.item l = Jx.uni (l.drop 2) := by
  unfold Jx.item; rw [if_pos h, k, show Jx.esc 117 = none from rfl]; simp only; rw [if_pos trivial]
theorem uni_pair {l : List UInt8} (h1 : 55296 ≤ Jx.four l) (h2 : Jx.four l ≤ 56319) (h3 : Jx.byt l 4 = 92) (h4 : Jx.byt l 5 = 117) (h5 : 56320 ≤ Jx.four (l.drop 6)) (h6 : Jx.four (l.drop 6) ≤ 57343) :
    Jx.uni l = some (Num.ue (pair (Jx.four l) (Jx.four (l.drop 6))).toNat, 12) := by
  unfold Jx.uni; rw [if_pos ⟨h1, h2, h3, h4⟩, if_pos ⟨h5, h6⟩, pair_ok h1 h2 h5 h6]
theorem uni_pair0 {l : List UInt8} (h1 : 55296 ≤ Jx.four l) (h2 : Jx.four l ≤ 56319) (h3 : Jx.byt l 4 = 92) (h4 : Jx.byt l 5 = 117) (h5 : ¬ (56320 ≤ Jx.four (l.drop 6) ∧ Jx.four (l.drop 6) ≤ 57343)) : Jx.uni l = none := by
  unfold Jx.uni; rw [if_pos ⟨h1, h2, h3, h4⟩, if_neg h5]
theorem uni_one {l : List UInt8} (h : Num.isC (Jx.four l)) : Jx.uni l = some (Num.ue (Jx.four l).toNat, 6) := by
  have h' := h
  unfold Num.isC at h'
  unfold Jx.uni; rw [if_neg (by omega), if_pos h]
theorem uni_none {l : List UInt8} (h : ¬ Num.isC (Jx.four l)) (k : ¬ (55296 ≤ Jx.four l ∧ Jx.four l ≤ 56319 ∧ Jx.byt l 4 = 92 ∧ Jx.byt l 5 = 117)) : Jx.uni l = none := by
  unfold Jx.uni; rw [if_neg k, if_neg h]
theorem esc_ways (c : Nat) : c = 34 ∨ c = 47 ∨ c = 92 ∨ c = 98 ∨ c = 102 ∨ c = 110 ∨ c = 114 ∨ c = 116 ∨ (Jx.esc c = none ∧ c ≠ 34 ∧ c ≠ 47 ∧ c ≠ 92 ∧ c ≠ 98 ∧ c ≠ 102 ∧ c ≠ 110 ∧ c ≠ 114 ∧ c ≠ 116) := by
  by_cases h : c = 34 ∨ c = 47 ∨ c = 92 ∨ c = 98 ∨ c = 102 ∨ c = 110 ∨ c = 114 ∨ c = 116
  · omega
  · refine .inr (.inr (.inr (.inr (.inr (.inr (.inr (.inr ⟨?_, by omega⟩)))))))
    unfold Jx.esc
    rw [if_neg (by omega), if_neg (by omega), if_neg (by omega), if_neg (by omega), if_neg (by omega), if_neg (by omega)]

theorem TxAt.at {D d : List UInt8} {q q' : Nat} (h : TxAt D q d) (e : q = q') : TxAt D q' d := e ▸ h
set_option maxRecDepth 100000 in
set_option maxHeartbeats 4000000 in
theorem rtext_any (A : Option Addr) (c : Nat) (l : List UInt8) (k : Nat) (w : World) (hb : Bys w w.heap.size A l) (hl : l.length ≤ 60000000000) (hc : l.length ≤ c) (hk : k ≤ l.length) :
    Calls Tryd.prog 37 #[.slice A l.length c, .int .i64 (k : Int)] w (Tx (Jx.txt (l.drop k)) k w) := by
  have START := Lib.hid (txAt_start (l.drop k))
  have ld : (l.drop k).length = l.length - k := List.length_drop
  have dd := fun q => List.drop_drop (i := q) (j := k) (l := l)
  obtain ⟨D, hD⟩ : ∃ D, D = l.drop k := ⟨_, rfl⟩
  rw [← hD] at START ld ⊢
  simp only [← hD] at dd
  have DD := Lib.hid dd
  have LD := Lib.hid ld
  clear dd ld hD
  go_enter Tryd.func37, Tryd.ntmps37
  go_wp2_with fail
  go_loopw [1, 7] (fun t v wr => ∃ (p : Nat) (d : List UInt8), k ≤ p ∧ t = .int .i64 (p : Int) ∧ Own wr w.heap.size 5 v d ∧ Hid (TxAt D (p - k) d) ∧ Below w.heap.size w wr) (fun t _ _ => l.length - (intOf t).toNat)
  case atStart => exact ⟨k, [], Nat.le_refl _, rfl, Own.none_ _ _ _, by rw [Nat.sub_self]; exact START, Below.refl _ _⟩
  case round =>
    obtain ⟨p, d, kp, rfl, ow, TA, bl⟩ := hrel
    have gsz := bl.size
    have ta := TA.out
    have hdl := ta.2.1
    have hql := ta.1
    have bad := ta.bad; have done := ta.done; have no := ta.no; have go := fun o n => ta.go (o := o) (n := n)
    have e := DD.out (p - k)
    rw [show k + (p - k) = p by omega] at e
    rw [e] at bad done no go
    rw [LD.out] at hql
    have hpl : p ≤ l.length := by omega
    have hdl2 : d.length ≤ 60000000000 := by omega
    have Yl := hb.below bl
    have bd := Jx.byt_drop l p
    rw [bd 0, Nat.add_zero] at bad done no go
    have AT := Lib.hid (fun j z hz => rat_any A c l j z hz wr _ Yl)
    have CELL := Lib.hid (fun hj => bys_cell Yl (k := p) hj)
    have TK := Lib.hid (fun (h : p < l.length) => rTake_good A c l p wr (Yl.more gsz) (by omega) hc hpl)
    have x256 := Jx.byt_lt l p
    have BAD := Lib.hid bad; have DONE := Lib.hid done; have NO := Lib.hid no; have GO0 := Lib.hid go
    have BD := Lib.hid bd
    have YL := Lib.hid Yl
    have xend := fun h => Jx.byt_end (l := l) (i := p) h
    obtain ⟨X, hX⟩ : ∃ X, X = Jx.byt l p := ⟨_, rfl⟩
    rw [← hX] at BAD DONE NO GO0 CELL x256 xend
    have HX := Lib.hid hX
    clear ta bad done no go e bd hX hdl hql TA Yl
    by_cases hp : p < l.length
    · obtain ⟨b, off, rfl, hB, cell⟩ := CELL.out hp
      clear CELL xend
      by_cases h32 : X < 32
      · have Z := Lib.hid (BAD.out h32)
        go_wp2_with fail
        all_goals go_ret3
        all_goals exact tx_none Z.out bl
      · by_cases h34 : X = 34
        · have Z := Lib.hid (DONE.out h34)
          obtain ⟨A7, c7, rfl, hy⟩ := ow.bys
          have conv := hy.str byteT strT c7
          have q34 : ((X : Int) == 34) = true := by simp; omega
          clear h34 hy
          go_wp2_with fail
          all_goals go_ret3
          all_goals exact tx_some Z.out (by push_cast; omega) bl
        · have q34 : ((X : Int) == 34) = false := by simp; omega
          have NO1 := Lib.hid (NO.out h34)
          have GO := Lib.hid (fun (o : List UInt8) (n : Nat) => GO0.out o n (by omega) h34)
          have H34 := Lib.hid h34
          clear h34
          by_cases h92 : X = 92
          · have q92 : Jx.byt (l.drop p) 0 = 92 := by rw [BD.out, Nat.add_zero, ← HX.out]; exact h92
            have qq : ((X : Int) != 92) = false := by simp; omega
            have at1 := AT.out (p + 1)
            have e1 := BD.out 1
            have c256 := Jx.byt_lt l (p + 1)
            generalize Jx.byt l (p + 1) = C at *
            have AT1 := Lib.hid at1
            have H92 := Lib.hid h92
            clear at1 h92
            rcases esc_ways C with rfl | rfl | rfl | rfl | rfl | rfl | rfl | rfl | ⟨hn, n1, n2, n3, n4, n5, n6, n7, n8⟩
            all_goals
              go_wp2_with fail
              with_reducible refine (AT1.out _ (by omega)).mono ?_
              rintro e w1 ⟨rfl, rfl⟩
            · have Z := Lib.hid (GO.out _ _ (item_esc q92 (by rw [e1]; rfl : Jx.esc _ = some 34)))
              clear e1
              go_wp2_with (at_builtin; refine wpList_app1 _ byteT rfl (.tmp 67) (.tmp 69) rfl w.heap.size _ d rfl ow 1 _ (by omega) (by omega) rfl (by omega) gsz ?_; intro v1 w2 o2 b2)
              go_roundw
              case rel => exact ⟨p + 2, d ++ [UInt8.ofNat 34], by omega, by go_num, o2, Z.out.1.at (by omega), bl.trans b2⟩
              case measure => simp [intOf]; omega
            · have Z := Lib.hid (GO.out _ _ (item_esc q92 (by rw [e1]; rfl : Jx.esc _ = some 47)))
              clear e1
              go_wp2_with (at_builtin; refine wpList_app1 _ byteT rfl (.tmp 67) (.tmp 69) rfl w.heap.size _ d rfl ow 1 _ (by omega) (by omega) rfl (by omega) gsz ?_; intro v1 w2 o2 b2)
              go_roundw
              case rel => exact ⟨p + 2, d ++ [UInt8.ofNat 47], by omega, by go_num, o2, Z.out.1.at (by omega), bl.trans b2⟩
              case measure => simp [intOf]; omega
            · have Z := Lib.hid (GO.out _ _ (item_esc q92 (by rw [e1]; rfl : Jx.esc _ = some 92)))
              clear e1
              go_wp2_with (at_builtin; refine wpList_app1 _ byteT rfl (.tmp 67) (.tmp 69) rfl w.heap.size _ d rfl ow 1 _ (by omega) (by omega) rfl (by omega) gsz ?_; intro v1 w2 o2 b2)
              go_roundw
              case rel => exact ⟨p + 2, d ++ [UInt8.ofNat 92], by omega, by go_num, o2, Z.out.1.at (by omega), bl.trans b2⟩
              case measure => simp [intOf]; omega
            · have Z := Lib.hid (GO.out _ _ (item_esc q92 (by rw [e1]; rfl : Jx.esc _ = some 8)))
              clear e1
              go_wp2_with (at_builtin; refine wpList_app1 _ byteT rfl (.tmp 73) (.tmp 74) rfl w.heap.size _ d rfl ow 1 _ (by omega) (by omega) rfl (by omega) gsz ?_; intro v1 w2 o2 b2)
              go_roundw
              case rel => exact ⟨p + 2, d ++ [UInt8.ofNat 8], by omega, by go_num, o2, Z.out.1.at (by omega), bl.trans b2⟩
              case measure => simp [intOf]; omega
            · have Z := Lib.hid (GO.out _ _ (item_esc q92 (by rw [e1]; rfl : Jx.esc _ = some 12)))
              clear e1
              go_wp2_with (at_builtin; refine wpList_app1 _ byteT rfl (.tmp 78) (.tmp 79) rfl w.heap.size _ d rfl ow 1 _ (by omega) (by omega) rfl (by omega) gsz ?_; intro v1 w2 o2 b2)
              go_roundw
              case rel => exact ⟨p + 2, d ++ [UInt8.ofNat 12], by omega, by go_num, o2, Z.out.1.at (by omega), bl.trans b2⟩
              case measure => simp [intOf]; omega
            · have Z := Lib.hid (GO.out _ _ (item_esc q92 (by rw [e1]; rfl : Jx.esc _ = some 10)))
              clear e1
              go_wp2_with (at_builtin; refine wpList_app1 _ byteT rfl (.tmp 83) (.tmp 84) rfl w.heap.size _ d rfl ow 1 _ (by omega) (by omega) rfl (by omega) gsz ?_; intro v1 w2 o2 b2)
              go_roundw
              case rel => exact ⟨p + 2, d ++ [UInt8.ofNat 10], by omega, by go_num, o2, Z.out.1.at (by omega), bl.trans b2⟩
              case measure => simp [intOf]; omega
            · have Z := Lib.hid (GO.out _ _ (item_esc q92 (by rw [e1]; rfl : Jx.esc _ = some 13)))
              clear e1
              go_wp2_with (at_builtin; refine wpList_app1 _ byteT rfl (.tmp 88) (.tmp 89) rfl w.heap.size _ d rfl ow 1 _ (by omega) (by omega) rfl (by omega) gsz ?_; intro v1 w2 o2 b2)
              go_roundw
              case rel => exact ⟨p + 2, d ++ [UInt8.ofNat 13], by omega, by go_num, o2, Z.out.1.at (by omega), bl.trans b2⟩
              case measure => simp [intOf]; omega
            · have Z := Lib.hid (GO.out _ _ (item_esc q92 (by rw [e1]; rfl : Jx.esc _ = some 9)))
              clear e1
              go_wp2_with (at_builtin; refine wpList_app1 _ byteT rfl (.tmp 93) (.tmp 94) rfl w.heap.size _ d rfl ow 1 _ (by omega) (by omega) rfl (by omega) gsz ?_; intro v1 w2 o2 b2)
              go_roundw
              case rel => exact ⟨p + 2, d ++ [UInt8.ofNat 9], by omega, by go_num, o2, Z.out.1.at (by omega), bl.trans b2⟩
              case measure => simp [intOf]; omega
            · have q1 : ((C : Int) == 34) = false := by simp; omega
              have q2 : ((C : Int) == 47) = false := by simp; omega
              have q3 : ((C : Int) == 92) = false := by simp; omega
              have q4 : ((C : Int) == 98) = false := by simp; omega
              have q5 : ((C : Int) == 102) = false := by simp; omega
              have q6 : ((C : Int) == 110) = false := by simp; omega
              have q7 : ((C : Int) == 114) = false := by simp; omega
              have q8 : ((C : Int) == 116) = false := by simp; omega
              clear n1 n2 n3 n4 n5 n6 n7 n8
              by_cases hu : C = 117
              · have qu : ((C : Int) == 117) = true := by simp; omega
                have i2 := item_u q92 (by rw [e1]; exact hu)
                rw [List.drop_drop] at i2
                have a4 : Jx.byt (l.drop (p + 2)) 4 = Jx.byt l (p + 6) := Jx.byt_drop l (p + 2) 4
                have a5 : Jx.byt (l.drop (p + 2)) 5 = Jx.byt l (p + 7) := Jx.byt_drop l (p + 2) 5
                have a6 : (l.drop (p + 2)).drop 6 = l.drop (p + 8) := List.drop_drop
                have up := @uni_pair (l.drop (p + 2)); have up0 := @uni_pair0 (l.drop (p + 2)); have uo := @uni_one (l.drop (p + 2)); have un := @uni_none (l.drop (p + 2))
                rw [a4, a5, a6] at up up0
                rw [a4, a5] at un
                have fl := Jx.four_le (l.drop (p + 2))
                have f4 := fun z hz => rfour_any (some ⟨b, off, none⟩) c l (p + 2) z hz wr _ YL.out (by omega)
                have g4 := fun z hz => rfour_any (some ⟨b, off, none⟩) c l (p + 8) z hz wr _ YL.out (by omega)
                have gl := Jx.four_le (l.drop (p + 8))
                have at6 := AT.out (p + 6); have at7 := AT.out (p + 7)
                have go2 := fun (o : List UInt8) (n : Nat) (h : Jx.uni (l.drop (p + 2)) = some (o, n)) => GO.out o n (i2.trans h)
                have no2 := fun (h : Jx.uni (l.drop (p + 2)) = none) => NO1.out (i2.trans h)
                have e6 := Jx.byt_lt l (p + 6); have e7 := Jx.byt_lt l (p + 7)
                clear i2 a4 a5 a6 hu e1 hn GO NO1
                generalize Jx.four (l.drop (p + 2)) = F at *
                generalize Jx.four (l.drop (p + 8)) = G at *
                generalize Jx.byt l (p + 6) = E6 at *
                generalize Jx.byt l (p + 7) = E7 at *
                generalize Jx.uni (l.drop (p + 2)) = UN at *
                obtain ⟨f0, f1⟩ := fl
                obtain ⟨g0, g1⟩ := gl
                have F4 := Lib.hid f4; have G4 := Lib.hid g4; have AT6 := Lib.hid at6; have AT7 := Lib.hid at7; have GO := Lib.hid go2; have NO1 := Lib.hid no2
                have UP := Lib.hid up; have UP0 := Lib.hid up0; have UO := Lib.hid uo; have UN1 := Lib.hid un
                clear f4 g4 at6 at7 go2 no2 up up0 uo un
                go_wp2_with fail
                with_reducible refine (F4.out _ (by omega)).mono ?_
                rintro e w1 ⟨rfl, rfl⟩
                by_cases c1 : 55296 ≤ F
                · by_cases c2 : F ≤ 56319
                  · have nc : ¬ Num.isC F := by unfold Num.isC; omega
                    have NC := Lib.hid (chr_no F nc)
                    clear nc
                    go_wp2_with fail
                    with_reducible refine (AT6.out _ (by omega)).mono ?_
                    rintro e w1 ⟨rfl, rfl⟩
                    by_cases c3 : E6 = 92
                    · have q9 : ((E6 : Int) == 92) = true := by simp; omega
                      go_wp2_with fail
                      with_reducible refine (AT7.out _ (by omega)).mono ?_
                      rintro e w1 ⟨rfl, rfl⟩
                      by_cases c4 : E7 = 117
                      · have q10 : ((E7 : Int) == 117) = true := by simp; omega
                        have PR := Lib.hid (rPair_any F G (by omega) (by omega) (by omega) (by omega))
                        by_cases c5 : 56320 ≤ G ∧ G ≤ 57343
                        · have pe := pair_ok c1 c2 c5.1 c5.2
                          have z := UP.out c1 c2 c3 c4 c5.1 c5.2
                          obtain ⟨P, hP⟩ : ∃ P, P = pair F G := ⟨_, rfl⟩
                          rw [← hP] at pe z PR
                          have pc : Num.isC P := by unfold Num.isC; omega
                          have p0 : (P == 0) = false := by simp; omega
                          have CY := Lib.hid (chr_yes P pc)
                          have RP := Lib.hid (rPut_int P P rfl pc)
                          have ul := Num.ue_len P.toNat
                          generalize Num.ue P.toNat = U at *
                          have Z := Lib.hid (GO.out _ _ z)
                          clear z pe hP c3 c4 c5 pc
                          go_wp2_with fail
                          with_reducible refine (G4.out _ (by omega)).mono ?_
                          rintro e w1 ⟨rfl, rfl⟩
                          go_wp2_with fail
                          with_reducible refine (PR.out _).mono ?_
                          rintro e w1 ⟨rfl, rfl⟩
                          go_wp2_with fail
                          with_reducible refine (CY.out _).mono ?_
                          rintro e w1 ⟨rfl, rfl⟩
                          go_wp2_with fail
                          refine (RP.out _).mono ?_
                          rintro e w2 ⟨A2, rfl, y2, b2⟩
                          have gsz2 := b2.size
                          go_wp2_with (at_builtin; refine wpList_app _ byteT rfl (.tmp 137) (.tmp 139) rfl w.heap.size _ d rfl (ow.below b2) _ A2 _ U rfl y2 (by omega) (by omega) ?_; intro v3 w3 o3 b3)
                          go_roundw
                          case rel => exact ⟨p + 12, d ++ U, by omega, by go_num, o3, Z.out.1.at (by omega), (bl.trans (b2.mono gsz)).trans b3⟩
                          case measure => simp [intOf]; omega
                        · have pe := pair_no (h := F) (l := G) (by omega)
                          have Z := Lib.hid (NO1.out (UP0.out c1 c2 c3 c4 c5))
                          rw [pe] at PR
                          have CN := Lib.hid (chr_no (-1) (by decide))
                          clear pe c3 c4 c5
                          go_wp2_with fail
                          with_reducible refine (G4.out _ (by omega)).mono ?_
                          rintro e w1 ⟨rfl, rfl⟩
                          go_wp2_with fail
                          with_reducible refine (PR.out _).mono ?_
                          rintro e w1 ⟨rfl, rfl⟩
                          go_wp2_with fail
                          with_reducible refine (CN.out _).mono ?_
                          rintro e w1 ⟨rfl, rfl⟩
                          go_wp2_with fail
                          all_goals go_ret3
                          all_goals exact tx_none Z.out bl
                      · have q10 : ((E7 : Int) == 117) = false := by simp; omega
                        have Z := Lib.hid (NO1.out (UN1.out (by unfold Num.isC; omega) (by omega)))
                        clear c3 c4
                        go_wp2_with fail
                        with_reducible refine (NC.out _).mono ?_
                        rintro e w1 ⟨rfl, rfl⟩
                        go_wp2_with fail
                        all_goals go_ret3
                        all_goals exact tx_none Z.out bl
                    · have q9 : ((E6 : Int) == 92) = false := by simp; omega
                      have Z := Lib.hid (NO1.out (UN1.out (by unfold Num.isC; omega) (by omega)))
                      clear c3
                      go_wp2_with fail
                      with_reducible refine (NC.out _).mono ?_
                      rintro e w1 ⟨rfl, rfl⟩
                      go_wp2_with fail
                      all_goals go_ret3
                      all_goals exact tx_none Z.out bl
                  · by_cases fc : Num.isC F
                    · have CY := Lib.hid (chr_yes F fc)
                      have RP := Lib.hid (rPut_int F F rfl fc)
                      have z := UO.out fc
                      have ul := Num.ue_len F.toNat
                      generalize Num.ue F.toNat = U at *
                      have Z := Lib.hid (GO.out _ _ z)
                      clear z fc
                      go_wp2_with fail
                      with_reducible refine (CY.out _).mono ?_
                      rintro e w1 ⟨rfl, rfl⟩
                      go_wp2_with fail
                      refine (RP.out _).mono ?_
                      rintro e w2 ⟨A2, rfl, y2, b2⟩
                      have gsz2 := b2.size
                      go_wp2_with (at_builtin; refine wpList_app _ byteT rfl (.tmp 137) (.tmp 139) rfl w.heap.size _ d rfl (ow.below b2) _ A2 _ U rfl y2 (by omega) (by omega) ?_; intro v3 w3 o3 b3)
                      go_roundw
                      case rel => exact ⟨p + 6, d ++ U, by omega, by go_num, o3, Z.out.1.at (by omega), (bl.trans (b2.mono gsz)).trans b3⟩
                      case measure => simp [intOf]; omega
                    · have CN := Lib.hid (chr_no F fc)
                      have Z := Lib.hid (NO1.out (UN1.out fc (by omega)))
                      clear fc
                      go_wp2_with fail
                      with_reducible refine (CN.out _).mono ?_
                      rintro e w1 ⟨rfl, rfl⟩
                      go_wp2_with fail
                      all_goals go_ret3
                      all_goals exact tx_none Z.out bl
                · by_cases fc : Num.isC F
                  · have CY := Lib.hid (chr_yes F fc)
                    have RP := Lib.hid (rPut_int F F rfl fc)
                    have z := UO.out fc
                    have ul := Num.ue_len F.toNat
                    generalize Num.ue F.toNat = U at *
                    have Z := Lib.hid (GO.out _ _ z)
                    clear z fc
                    go_wp2_with fail
                    with_reducible refine (CY.out _).mono ?_
                    rintro e w1 ⟨rfl, rfl⟩
                    go_wp2_with fail
                    refine (RP.out _).mono ?_
                    rintro e w2 ⟨A2, rfl, y2, b2⟩
                    have gsz2 := b2.size
                    go_wp2_with (at_builtin; refine wpList_app _ byteT rfl (.tmp 137) (.tmp 139) rfl w.heap.size _ d rfl (ow.below b2) _ A2 _ U rfl y2 (by omega) (by omega) ?_; intro v3 w3 o3 b3)
                    go_roundw
                    case rel => exact ⟨p + 6, d ++ U, by omega, by go_num, o3, Z.out.1.at (by omega), (bl.trans (b2.mono gsz)).trans b3⟩
                    case measure => simp [intOf]; omega
                  · have CN := Lib.hid (chr_no F fc)
                    have Z := Lib.hid (NO1.out (UN1.out fc (by omega)))
                    clear fc
                    go_wp2_with fail
                    with_reducible refine (CN.out _).mono ?_
                    rintro e w1 ⟨rfl, rfl⟩
                    go_wp2_with fail
                    all_goals go_ret3
                    all_goals exact tx_none Z.out bl
              · have qu : ((C : Int) == 117) = false := by simp; omega
                have Z := Lib.hid (NO1.out (item_none q92 (by rw [e1]; exact hn) (by rw [e1]; exact hu)))
                have CN := Lib.hid (chr_no (-1) (by decide))
                clear hu e1 hn
                go_wp2_with fail
                with_reducible refine (CN.out _).mono ?_
                rintro e w1 ⟨rfl, rfl⟩
                go_wp2_with fail
                all_goals go_ret3
                all_goals exact tx_none Z.out bl
          · have qq : ((X : Int) != 92) = true := by simp; omega
            have d92 : Jx.byt (l.drop p) 0 ≠ 92 := by rw [BD.out, Nat.add_zero, ← HX.out]; exact h92
            have tk := TK.out hp
            have err := Num.fst_err (l.drop p)
            have ip := fun c n e => item_plain (l := l.drop p) (c := c) (n := n) d92 e
            have ib := item_bad (l := l.drop p) d92
            rw [List.length_drop] at err
            obtain ⟨⟨x, n, er⟩, hr⟩ : ∃ r, r = Num.fst (l.drop p) := ⟨_, rfl⟩
            rw [← hr] at tk err ip ib
            by_cases he : er = 0
            · subst he
              have hn : 0 < n ∧ n ≤ l.length - p := by
                rcases err with ⟨_, _, e, h1, _, h2⟩ | ⟨e, _⟩ | e
                · simp only [Prod.mk.injEq] at e; omega
                · simp at e
                · simp at e
              obtain ⟨n0, n1⟩ := hn
              have Z := Lib.hid (GO.out _ _ (ip x n rfl))
              have ym : Bys wr wr.heap.size (some ⟨b, off + p, none⟩) ((l.drop p).take n) := ((YL.out.more gsz).tail p).front n
              have lm : ((l.drop p).take n).length = n := by rw [List.length_take, List.length_drop]; omega
              generalize (l.drop p).take n = M at *
              have LM := Lib.hid lm
              have YM := Lib.hid ym
              have TK1 := Lib.hid tk
              clear err ip ib hr d92 tk lm ym h92
              go_wp2_with fail
              refine TK1.out.mono ?_
              rintro e w1 ⟨rfl, b1⟩
              have gsz1 := b1.size
              have ml : M.length ≤ 60000000000 := by have := LM.out; omega
              have hcp : ¬ c = p := by omega
              go_wp2_with (at_builtin; refine wpList_app _ byteT rfl (.tmp 49) (.tmp 53) rfl w.heap.size _ d rfl (ow.below b1) _ (some ⟨b, off + p, none⟩) (c - p) M (by rw [show M.length = p + n - p by have := LM.out; omega]; rfl) ((YM.out.below b1).more gsz1) (by omega) (by omega) ?_; intro v3 w3 o3 b3)
              go_roundw
              case rel => exact ⟨p + n, d ++ M, by omega, by go_num, o3, Z.out.1.at (by omega), (bl.trans (b1.mono gsz)).trans b3⟩
              case measure => simp [intOf]; omega
            · have Z := Lib.hid (NO1.out (ib he))
              have q1 : ((er : Int) != 0) = true := by simp; omega
              have TK1 := Lib.hid tk
              clear err ip ib hr d92 tk he h92
              go_wp2_with fail
              refine TK1.out.mono ?_
              rintro e w1 ⟨rfl, b1⟩
              go_wp2_with fail
              all_goals go_ret3
              all_goals exact tx_none Z.out (bl.trans (b1.mono gsz))
    · have Z := Lib.hid (BAD.out (by rw [xend (by omega)]; decide))
      clear xend CELL TK
      go_wp2_with fail
      all_goals go_ret3
      all_goals exact tx_none Z.out bl

end Go.Proofs.YtheeahnhdehloaaDoor
