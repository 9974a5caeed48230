/- Joined by tools/bundle.py: BC15 BC16. -/
import Derived.Test.YthogheglddfniaaGreatDoorW17
import Derived.Test.YthogheglddfniaaGreatDoorW0
set_option maxRecDepth 100000
set_option maxHeartbeats 16000000
namespace Go.Proofs.YthogheglddfniaaGreatDoor
open Go.ChangeShapes Go.WideShapes Go.ChangeAt Go.RowKit Mem
theorem bhead_size {c : Kn} {j : J} {sp u : ByteArray} {al : List ByteArray} (h : bhead c j sp = .ok (u, al)) : u.size ≤ 100 := by
 unfold bhead at h
 split at h
 · cases h
 · split at h
   · cases h
   · cases h
   · rename_i full hf
     have : full.size ≤ 100 := by
      unfold bfull at hf
      split at hf
      · simp only [Except.ok.injEq] at hf; exact joinB_size hf
      · split at hf
        · simp only [Except.ok.injEq] at hf; exact joinB_size hf
        · cases hf
     split at h
     · cases h
     · split at h
       · cases h
       · split at h
         · cases h
         · simp only [Except.ok.injEq, Prod.mk.injEq] at h
           obtain ⟨rfl, rfl⟩ := h
           exact this
theorem named9_any {X : Nat → Prop} {B : Kn → J → ByteArray → Bres} {Q : J → Prop} (hB : CallB B Q) (S : Nat → Prop) (j : J) (sp : ByteArray) (hsp : sp.size ≤ 1000000) (g r : Nat) (ns : List Nd) (w : World) (h : MkW X w g r ns) (hS : ∀ b, S b → b < g) (A3 A4 : Option Addr) (c3 c4 : Nat) (ht : TreeS w S j [.int .i64 j.k, .int .i64 j.n, .string j.t, .slice A3 j.its.length c3, .slice A4 j.ks.length c4]) (hw : j.wt ≤ 1000000) (hQ : ∀ x, j.get kFields = some x → x.k = 5 → ∀ y ∈ x.its, Q (gotten (y.get kType))) (R : Bres) (hR : R = bnamed B (ns.map er) j sp 9) :
 Calls Tryz.prog 93 #[.pointer (some ⟨g, 0, none⟩), .int .i64 9, .func (.func 47) #[.agg #[.int .i64 j.k, .int .i64 j.n, .string j.t, .slice A3 j.its.length c3, .slice A4 j.ks.length c4]] #[], .string sp] w (BPost X R g r ns w) := by
 have CS := cell_set
 have lg := h.mkr.lt
 have hSw : ∀ b, S b → b < w.heap.size := fun b hb => Nat.lt_trans (hS b hb) lg.1
 have TT : Hid (∀ W, Below w.heap.size w W → TreeS W S j [.int .i64 j.k, .int .i64 j.n, .string j.t, .slice A3 j.its.length c3, .slice A4 j.ks.length c4]) := fun W b => TreeS.keep (fun p hp => b.cell (hSw _ hp)) (fun _ h => h) ht
 have HS : Hid (∀ W, Below w.heap.size w W → ∀ b, S b → b < W.heap.size) := fun W b k hk => Nat.lt_of_lt_of_le (hSw k hk) b.size
 have SV : Hid (∀ W, Below w.heap.size w W → Sav g r w.heap.size w W) := fun W b => Sav.of b
 have CA := Lib.hid (bCalled_any (X := X) S j 9 sp hsp g r ns w h hSw A3 A4 c3 c4 ht hw _ rfl)
 have LB := Lib.hid lg
 cases hb : bhead (ns.map er) j sp with
 | error z =>
  have Z : Hid (R = .error z) := by show _ = _; rw [hR]; unfold bnamed; rw [hb]
  rw [hb] at CA
  clear hR hb hQ hB ht h hS TT HS
  go_enter Tryz.func93, Tryz.ntmps93
  go_wp2_with fail
  with_reducible refine CA.out.mono ?_
  rintro e w1 ⟨b1, h1, _⟩
  obtain ⟨hz, K, N, rfl⟩ := h1 z rfl
  have s1 := b1.size
  have qz : (z != 0) = true := by rw [bne_iff_ne]; exact hz
  have HZ := Lib.hid hz
  clear h1 hz CA
  go_wp2_with fail
  go_ret2
  exact bpost_no Z.out HZ.out _ (SV.out _ bqq)
 | ok q =>
 obtain ⟨u, al⟩ := q
 have us : u.size ≤ 100 := bhead_size hb
 have HR : Hid (R = brecord B (ns.map er) j u al) := by show _ = _; rw [hR]; unfold bnamed; rw [hb]; rfl
 rw [hb] at CA
 have MW := Lib.hid h
 have HS0 := Lib.hid hS
 clear hR hb ht h hS
 go_enter Tryz.func93, Tryz.ntmps93
 go_wp2_with fail
 with_reducible refine CA.out.mono ?_
 rintro e w1 ⟨b1, _, h2⟩
 obtain ⟨v, rfl, hg⟩ := h2 u al rfl
 obtain ⟨A2, c2, rfl, hc2, _⟩ := hg.done
 have GL := hg.lenm
 rw [List.length_map] at hg hc2 GL ⊢
 have GF := Lib.hid (GatS.fls hg)
 have s1 := b1.size
 have bw1 : Below w.heap.size w w1 := b1
 obtain ⟨la, hla⟩ : ∃ n, n = al.length := ⟨_, rfl⟩
 have HLA := Lib.hid hla
 rw [← hla] at hc2 GL ⊢
 have HC := Lib.hid hc2
 have HGL := Lib.hid GL
 obtain ⟨w2, hw2⟩ : ∃ W, W = (w1.alloc (.cells #[.int .i64 9, .string u, .slice A2 la c2, .slice none 0 0, .slice none 0 0, .bool false, .string ⟨#[]⟩, .int .i64 0, .int .i64 0, .slice none 0 0] 41)) := ⟨_, rfl⟩
 have b12 : Below w1.heap.size w1 w2 := by rw [hw2]; exact (Below.refl _ _).alloc (Nat.le_refl _) _
 have bw2 : Below w.heap.size w w2 := bw1.trans (b12.mono s1)
 have N2 : Hid (B10 w2 w1.heap.size 41 (.int .i64 9) (.string u) (.slice A2 la c2) (.slice none 0 0) (.slice none 0 0) (.bool false) (.string ⟨#[]⟩) (.int .i64 0) (.int .i64 0) (.slice none 0 0)) := by rw [hw2]; exact B10.newat rfl
 have N2e := N2.out
 have HW2 := Lib.hid hw2
 rw [hw2] at N2e
 have nlt := N2.out.lt
 obtain ⟨_, _, _, _, _, _, _, _, _, _, _, _, _, _, _, _, _, _, _, _⟩ := B10.facts N2e
 have F2 : Hid (FlS w2 (fun b => w.heap.size ≤ b ∧ b < w1.heap.size) A2 (al.map Value.string)) := FlS.keep (fun p hp => b12.cell hp.2) (fun _ h => h) GF.out
 have RC := bRecord_any (X := X) hB S j u al (by omega) g r ns w2 (MW.out.below bw2) HS0.out A3 A4 c3 c4 (TT.out w2 bw2) hw hQ A2 la c2 HLA.out (Nd.out.2 ⟨A2, c2, none, 0, none, 0, none, 0, by rw [HLA.out]; rfl, ⟨by have := HC.out; have := HLA.out; show al.length ≤ _; omega, by have := HGL.out; have := HLA.out; show al.length ≤ _; omega⟩, FlS.keep (fun _ _ => rfl) (fun b hb => ⟨by omega, by have := LB.out; omega, by have := LB.out; omega, fun hx => by have := MW.out.out b hx; omega⟩) F2.out, ⟨Nat.le_refl _, Nat.zero_le _⟩, RowD.nil_ _ _ _ _, ⟨Nat.le_refl _, Nat.zero_le _⟩, .inl rfl, ⟨Nat.le_refl _, Nat.zero_le _⟩, RowD.nil_ _ _ _ _⟩) R HR.out
 rw [hw2] at RC
 have RC := Lib.hid RC
 clear h2 hg b1 hw2 N2e CA hla hc2 GL hQ hB
 go_wp2_with fail
 with_reducible refine RC.out.mono ?_
 rintro e w3 hp
 rw [← HW2.out] at hp
 have hp2 := hp.mono_ bw2 LB.out.2.1
 obtain ⟨pl, er_, rfl, hp3⟩ := hp2
 have HP := Lib.hid hp3
 clear hp hp3
 go_wp2_with fail
 go_ret2
 exact ⟨pl, er_, rfl, HP.out⟩
theorem named14_any {X : Nat → Prop} {B : Kn → J → ByteArray → Bres} {Q : J → Prop} (_hB : CallB B Q) (S : Nat → Prop) (j : J) (sp : ByteArray) (hsp : sp.size ≤ 1000000) (g r : Nat) (ns : List Nd) (w : World) (h : MkW X w g r ns) (hS : ∀ b, S b → b < g) (A3 A4 : Option Addr) (c3 c4 : Nat) (ht : TreeS w S j [.int .i64 j.k, .int .i64 j.n, .string j.t, .slice A3 j.its.length c3, .slice A4 j.ks.length c4]) (hw : j.wt ≤ 1000000)  (R : Bres) (hR : R = bnamed B (ns.map er) j sp 14) :
 Calls Tryz.prog 93 #[.pointer (some ⟨g, 0, none⟩), .int .i64 14, .func (.func 47) #[.agg #[.int .i64 j.k, .int .i64 j.n, .string j.t, .slice A3 j.its.length c3, .slice A4 j.ks.length c4]] #[], .string sp] w (BPost X R g r ns w) := by
 have CS := cell_set
 have lg := h.mkr.lt
 have hSw : ∀ b, S b → b < w.heap.size := fun b hb => Nat.lt_trans (hS b hb) lg.1
 have TT : Hid (∀ W, Below w.heap.size w W → TreeS W S j [.int .i64 j.k, .int .i64 j.n, .string j.t, .slice A3 j.its.length c3, .slice A4 j.ks.length c4]) := fun W b => TreeS.keep (fun p hp => b.cell (hSw _ hp)) (fun _ h => h) ht
 have HS : Hid (∀ W, Below w.heap.size w W → ∀ b, S b → b < W.heap.size) := fun W b k hk => Nat.lt_of_lt_of_le (hSw k hk) b.size
 have SV : Hid (∀ W, Below w.heap.size w W → Sav g r w.heap.size w W) := fun W b => Sav.of b
 have CA := Lib.hid (bCalled_any (X := X) S j 14 sp hsp g r ns w h hSw A3 A4 c3 c4 ht hw _ rfl)
 have LB := Lib.hid lg
 cases hb : bhead (ns.map er) j sp with
 | error z =>
  have Z : Hid (R = .error z) := by show _ = _; rw [hR]; unfold bnamed; rw [hb]
  rw [hb] at CA
  clear hR hb ht h hS TT HS
  go_enter Tryz.func93, Tryz.ntmps93
  go_wp2_with fail
  with_reducible refine CA.out.mono ?_
  rintro e w1 ⟨b1, h1, _⟩
  obtain ⟨hz, K, N, rfl⟩ := h1 z rfl
  have s1 := b1.size
  have qz : (z != 0) = true := by rw [bne_iff_ne]; exact hz
  have HZ := Lib.hid hz
  clear h1 hz CA
  go_wp2_with fail
  go_ret2
  exact bpost_no Z.out HZ.out _ (SV.out _ bqq)
 | ok q =>
 obtain ⟨u, al⟩ := q
 have us : u.size ≤ 100 := bhead_size hb
 have HR : Hid (R = match bfixed j with
  | .error e => .error e
  | .ok n => if ns.length = 200 then .error 3 else .ok ([{ Nd.z 14 with name := u, al := al, size := n }], ns.length)) := by show _ = _; rw [hR]; unfold bnamed; rw [hb, List.length_map]; rfl
 rw [hb] at CA
 have MW := Lib.hid h
 have HS0 := Lib.hid hS
 clear hR hb ht h hS
 go_enter Tryz.func93, Tryz.ntmps93
 go_wp2_with fail
 with_reducible refine CA.out.mono ?_
 rintro e w1 ⟨b1, _, h2⟩
 obtain ⟨v, rfl, hg⟩ := h2 u al rfl
 obtain ⟨A2, c2, rfl, hc2, _⟩ := hg.done
 have GL := hg.lenm
 rw [List.length_map] at hg hc2 GL ⊢
 have GF := Lib.hid (GatS.fls hg)
 have s1 := b1.size
 have bw1 : Below w.heap.size w w1 := b1
 obtain ⟨la, hla⟩ : ∃ n, n = al.length := ⟨_, rfl⟩
 have HLA := Lib.hid hla
 rw [← hla] at hc2 GL ⊢
 have HC := Lib.hid hc2
 have HGL := Lib.hid GL
 obtain ⟨w2, hw2⟩ : ∃ W, W = (w1.alloc (.cells #[.int .i64 14, .string u, .slice A2 la c2, .slice none 0 0, .slice none 0 0, .bool false, .string ⟨#[]⟩, .int .i64 0, .int .i64 0, .slice none 0 0] 41)) := ⟨_, rfl⟩
 have b12 : Below w1.heap.size w1 w2 := by rw [hw2]; exact (Below.refl _ _).alloc (Nat.le_refl _) _
 have bw2 : Below w.heap.size w w2 := bw1.trans (b12.mono s1)
 have N2 : Hid (B10 w2 w1.heap.size 41 (.int .i64 14) (.string u) (.slice A2 la c2) (.slice none 0 0) (.slice none 0 0) (.bool false) (.string ⟨#[]⟩) (.int .i64 0) (.int .i64 0) (.slice none 0 0)) := by rw [hw2]; exact B10.newat rfl
 have N2e := N2.out
 have HW2 := Lib.hid hw2
 rw [hw2] at N2e
 have nlt := N2.out.lt
 obtain ⟨_, _, _, _, _, _, _, _, _, _, _, _, _, _, _, _, _, _, _, _⟩ := B10.facts N2e
 have F2 : Hid (FlS w2 (fun b => w.heap.size ≤ b ∧ b < w1.heap.size) A2 (al.map Value.string)) := FlS.keep (fun p hp => b12.cell hp.2) (fun _ h => h) GF.out
 have EC := fixed_any S j w2 (HS.out w2 bw2) A3 A4 c3 c4 (TT.out w2 bw2) w1.heap.size _ _ _ _ _ _ _ _ _ _ N2.out _ rfl
 rw [hw2] at EC
 have EC := Lib.hid EC
 clear h2 hg b1 hw2 N2e CA hla hc2 GL
 go_wp2_with fail
 with_reducible refine EC.out.mono ?_
 rintro e w3 hp
 rw [← HW2.out] at hp
 cases he : bfixed j with
 | error z =>
  rw [he] at hp HR
  obtain ⟨rfl, hz, b3⟩ := hp.1 z rfl
  have Z : Hid (R = .error z) := HR.out
  have qz : (z != 0) = true := by rw [bne_iff_ne]; exact hz
  have HZ := Lib.hid hz
  have bw3 : Below w.heap.size w w3 := bw2.trans (b3.mono bw2.size)
  clear hp hz he b3 EC HR
  go_wp2_with fail
  go_ret2
  exact bpost_no Z.out HZ.out _ (SV.out _ bw3)
 | ok n =>
 rw [he] at hp HR
 obtain ⟨rfl, W, bW, rfl⟩ := hp.2 n rfl
 have NW := B10.below N2.out bW N2.out.lt
 have bw3 : Below w.heap.size w (W.setCell ⟨w1.heap.size, 7, none⟩ (.int .i64 n)) := (bw2.trans (bW.mono bw2.size)).setCell (by show _ ≤ w1.heap.size; omega) _
 have N3 := NW.set7 (.int .i64 n)
 have sW := bW.size
 obtain ⟨w3, hw3⟩ : ∃ w3, w3 = W.setCell ⟨w1.heap.size, 7, none⟩ (.int .i64 n) := ⟨_, rfl⟩
 have s3 : w2.heap.size ≤ w3.heap.size := by rw [hw3]; simp [World.setCell]; exact sW
 have F3 : Hid (FlS w3 (fun b => w.heap.size ≤ b ∧ b < w1.heap.size) A2 (al.map Value.string)) := FlS.keep (fun p hp => by
  rw [hw3]
  exact (World.cell?_setCell_other W _ _ _ (fun e => by have := hp.2; rw [← e] at this; exact absurd this (Nat.lt_irrefl _))).trans (bW.cell (Nat.lt_trans hp.2 nlt))) (fun _ h => h) F2.out
 rw [← hw3] at bw3 N3 ⊢
 have HR2 : R = if ns.length = 200 then .error 3 else .ok ([{ Nd.z 14 with name := u, al := al, size := n }], ns.length) := HR.out
 have AD := Lib.hid (add_any (X := X) { Nd.z 14 with name := u, al := al, size := n } g r ns w3 (MW.out.below bw3) A2 none none none c2 0 0 0 (Nd.out.2 ⟨A2, c2, none, 0, none, 0, none, 0, rfl, ⟨by have := HC.out; have := HLA.out; show al.length ≤ _; omega, by have := HGL.out; have := HLA.out; show al.length ≤ _; omega⟩, FlS.keep (fun _ _ => rfl) (fun b hb => ⟨by omega, by have := LB.out; omega, by have := LB.out; omega, fun hx => by have := MW.out.out b hx; omega⟩) F3.out, ⟨Nat.le_refl _, Nat.zero_le _⟩, RowD.nil_ _ _ _ _, ⟨Nat.le_refl _, Nat.zero_le _⟩, .inl rfl, ⟨Nat.le_refl _, Nat.zero_le _⟩, RowD.nil_ _ _ _ _⟩) R HR2)
 have AD2 := AD.out
 dsimp only at AD2
 change Calls _ _ #[_, .agg #[.int .i64 14, .string u, .slice A2 al.length c2, .slice none 0 0, .slice none 0 0, .bool false, .string ⟨#[]⟩, .int .i64 n, .int .i64 0, .slice none 0 0]] _ _ at AD2
 rw [← HLA.out] at AD2
 have AD3 := Lib.hid AD2
 obtain ⟨_, _, _, _, _, _, _, _, _, _, _, _, _, _, _, _, _, _, _, _⟩ := B10.facts N3
 clear hp he EC HR AD AD2 HR2 hw3 NW bW N3
 go_wp2_with fail
 with_reducible refine AD3.out.mono ?_
 rintro e w4 hp
 have hp2 := hp.mono_ bw3 LB.out.2.1
 obtain ⟨pl, er_, rfl, hp3⟩ := hp2
 have HP := Lib.hid hp3
 clear hp hp3
 go_wp2_with fail
 go_ret2
 exact ⟨pl, er_, rfl, HP.out⟩
theorem named10_any {X : Nat → Prop} {B : Kn → J → ByteArray → Bres} {Q : J → Prop} (_hB : CallB B Q) (S : Nat → Prop) (j : J) (sp : ByteArray) (hsp : sp.size ≤ 1000000) (g r : Nat) (ns : List Nd) (w : World) (h : MkW X w g r ns) (hS : ∀ b, S b → b < g) (A3 A4 : Option Addr) (c3 c4 : Nat) (ht : TreeS w S j [.int .i64 j.k, .int .i64 j.n, .string j.t, .slice A3 j.its.length c3, .slice A4 j.ks.length c4]) (hw : j.wt ≤ 1000000)  (R : Bres) (hR : R = bnamed B (ns.map er) j sp 10) :
 Calls Tryz.prog 93 #[.pointer (some ⟨g, 0, none⟩), .int .i64 10, .func (.func 47) #[.agg #[.int .i64 j.k, .int .i64 j.n, .string j.t, .slice A3 j.its.length c3, .slice A4 j.ks.length c4]] #[], .string sp] w (BPost X R g r ns w) := by
 have CS := cell_set
 have lg := h.mkr.lt
 have hSw : ∀ b, S b → b < w.heap.size := fun b hb => Nat.lt_trans (hS b hb) lg.1
 have TT : Hid (∀ W, Below w.heap.size w W → TreeS W S j [.int .i64 j.k, .int .i64 j.n, .string j.t, .slice A3 j.its.length c3, .slice A4 j.ks.length c4]) := fun W b => TreeS.keep (fun p hp => b.cell (hSw _ hp)) (fun _ h => h) ht
 have HS : Hid (∀ W, Below w.heap.size w W → ∀ b, S b → b < W.heap.size) := fun W b k hk => Nat.lt_of_lt_of_le (hSw k hk) b.size
 have SV : Hid (∀ W, Below w.heap.size w W → Sav g r w.heap.size w W) := fun W b => Sav.of b
 have CA := Lib.hid (bCalled_any (X := X) S j 10 sp hsp g r ns w h hSw A3 A4 c3 c4 ht hw _ rfl)
 have LB := Lib.hid lg
 cases hb : bhead (ns.map er) j sp with
 | error z =>
  have Z : Hid (R = .error z) := by show _ = _; rw [hR]; unfold bnamed; rw [hb]
  rw [hb] at CA
  clear hR hb ht h hS TT HS
  go_enter Tryz.func93, Tryz.ntmps93
  go_wp2_with fail
  with_reducible refine CA.out.mono ?_
  rintro e w1 ⟨b1, h1, _⟩
  obtain ⟨hz, K, N, rfl⟩ := h1 z rfl
  have s1 := b1.size
  have qz : (z != 0) = true := by rw [bne_iff_ne]; exact hz
  have HZ := Lib.hid hz
  clear h1 hz CA
  go_wp2_with fail
  go_ret2
  exact bpost_no Z.out HZ.out _ (SV.out _ bqq)
 | ok q =>
 obtain ⟨u, al⟩ := q
 have us : u.size ≤ 100 := bhead_size hb
 have HR : Hid (R = match benum j with
  | .error e => .error e
  | .ok (sy, has, df) => if ns.length = 200 then .error 3 else .ok ([{ Nd.z 10 with name := u, al := al, sy := sy, has := has, df := df }], ns.length)) := by show _ = _; rw [hR]; unfold bnamed; rw [hb, List.length_map]; rfl
 rw [hb] at CA
 have MW := Lib.hid h
 have HS0 := Lib.hid hS
 clear hR hb ht h hS
 go_enter Tryz.func93, Tryz.ntmps93
 go_wp2_with fail
 with_reducible refine CA.out.mono ?_
 rintro e w1 ⟨b1, _, h2⟩
 obtain ⟨v, rfl, hg⟩ := h2 u al rfl
 obtain ⟨A2, c2, rfl, hc2, _⟩ := hg.done
 have GL := hg.lenm
 rw [List.length_map] at hg hc2 GL ⊢
 have GF := Lib.hid (GatS.fls hg)
 have s1 := b1.size
 have bw1 : Below w.heap.size w w1 := b1
 obtain ⟨la, hla⟩ : ∃ n, n = al.length := ⟨_, rfl⟩
 have HLA := Lib.hid hla
 rw [← hla] at hc2 GL ⊢
 have HC := Lib.hid hc2
 have HGL := Lib.hid GL
 obtain ⟨w2, hw2⟩ : ∃ W, W = (w1.alloc (.cells #[.int .i64 10, .string u, .slice A2 la c2, .slice none 0 0, .slice none 0 0, .bool false, .string ⟨#[]⟩, .int .i64 0, .int .i64 0, .slice none 0 0] 41)) := ⟨_, rfl⟩
 have b12 : Below w1.heap.size w1 w2 := by rw [hw2]; exact (Below.refl _ _).alloc (Nat.le_refl _) _
 have bw2 : Below w.heap.size w w2 := bw1.trans (b12.mono s1)
 have N2 : Hid (B10 w2 w1.heap.size 41 (.int .i64 10) (.string u) (.slice A2 la c2) (.slice none 0 0) (.slice none 0 0) (.bool false) (.string ⟨#[]⟩) (.int .i64 0) (.int .i64 0) (.slice none 0 0)) := by rw [hw2]; exact B10.newat rfl
 have N2e := N2.out
 have HW2 := Lib.hid hw2
 rw [hw2] at N2e
 have nlt := N2.out.lt
 obtain ⟨_, _, _, _, _, _, _, _, _, _, _, _, _, _, _, _, _, _, _, _⟩ := B10.facts N2e
 have F2 : Hid (FlS w2 (fun b => w.heap.size ≤ b ∧ b < w1.heap.size) A2 (al.map Value.string)) := FlS.keep (fun p hp => b12.cell hp.2) (fun _ h => h) GF.out
 have EC := bEnum_any S j w2 (HS.out w2 bw2) A3 A4 c3 c4 (TT.out w2 bw2) hw w1.heap.size _ _ _ _ _ _ _ _ _ _ N2.out _ rfl
 rw [hw2] at EC
 have EC := Lib.hid EC
 clear h2 hg b1 hw2 N2e CA hla hc2 GL
 go_wp2_with fail
 with_reducible refine EC.out.mono ?_
 rintro e w3 hp
 rw [← HW2.out] at hp
 cases he : benum j with
 | error z =>
  rw [he] at hp HR
  obtain ⟨rfl, hz, b3⟩ := hp.1 z rfl
  have Z : Hid (R = .error z) := HR.out
  have qz : (z != 0) = true := by rw [bne_iff_ne]; exact hz
  have HZ := Lib.hid hz
  have bw3 : Below w.heap.size w w3 := bw2.trans (b3.mono bw2.size)
  clear hp hz he b3 EC HR
  go_wp2_with fail
  go_ret2
  exact bpost_no Z.out HZ.out _ (SV.out _ bw3)
 | ok qq =>
 obtain ⟨sy, has, df⟩ := qq
 rw [he] at hp HR
 obtain ⟨rfl, v3, N3, sv3, g3⟩ := hp.2 sy has df rfl
 have bw3 : Below w.heap.size w w3 := ⟨sv3.os.trans bw2.os, sv3.tape.trans bw2.tape, sv3.output.trans bw2.output, Nat.le_trans bw2.size sv3.size, fun k hk => (sv3.block k (by omega) (by omega) (by omega)).trans (bw2.block k hk)⟩
 have s3 := sv3.size
 obtain ⟨A4s, c4s, rfl, hc4s, _⟩ := g3.done
 have GL3 := g3.lenm
 rw [List.length_map] at g3 hc4s GL3 N3
 have FS := Lib.hid (GatS.fls g3)
 have F3 : Hid (FlS w3 (fun b => w.heap.size ≤ b ∧ b < w1.heap.size) A2 (al.map Value.string)) := FlS.keep (fun p hp => sv3.cell (by omega) (by omega) (by omega)) (fun _ h => h) F2.out
 have HR2 : R = if ns.length = 200 then .error 3 else .ok ([{ Nd.z 10 with name := u, al := al, sy := sy, has := has, df := df }], ns.length) := HR.out
 have AD := Lib.hid (add_any (X := X) { Nd.z 10 with name := u, al := al, sy := sy, has := has, df := df } g r ns w3 (MW.out.below bw3) A2 none A4s none c2 0 c4s 0 (Nd.out.2 ⟨A2, c2, none, 0, A4s, c4s, none, 0, rfl, ⟨by have := HC.out; have := HLA.out; show al.length ≤ _; omega, by have := HGL.out; have := HLA.out; show al.length ≤ _; omega⟩, FlS.keep (fun _ _ => rfl) (fun b hb => ⟨by omega, by have := LB.out; omega, by have := LB.out; omega, fun hx => by have := MW.out.out b hx; omega⟩) F3.out, ⟨Nat.le_refl _, Nat.zero_le _⟩, RowD.nil_ _ _ _ _, ⟨hc4s, GL3⟩, FlS.keep (fun _ _ => rfl) (fun b hb => ⟨by omega, by have := LB.out; omega, by have := LB.out; omega, fun hx => by have := MW.out.out b hx; omega⟩) FS.out, ⟨Nat.le_refl _, Nat.zero_le _⟩, RowD.nil_ _ _ _ _⟩) R HR2)
 obtain ⟨ls, hls⟩ : ∃ n, n = sy.length := ⟨_, rfl⟩
 have AD2 := AD.out
 dsimp only at AD2
 change Calls _ _ #[_, .agg #[.int .i64 10, .string u, .slice A2 al.length c2, .slice none 0 0, .slice A4s sy.length c4s, .bool has, .string df, .int .i64 0, .int .i64 0, .slice none 0 0]] _ _ at AD2
 rw [← HLA.out] at AD2
 rw [← hls] at AD2 N3
 have AD3 := Lib.hid AD2
 obtain ⟨_, _, _, _, _, _, _, _, _, _, _, _, _, _, _, _, _, _, _, _⟩ := B10.facts N3
 clear hp he EC HR AD AD2 HR2 sv3 g3 hls hc4s GL3 N3
 go_wp2_with fail
 with_reducible refine AD3.out.mono ?_
 rintro e w4 hp
 have hp2 := hp.mono_ bw3 LB.out.2.1
 obtain ⟨pl, er_, rfl, hp3⟩ := hp2
 have HP := Lib.hid hp3
 clear hp hp3
 go_wp2_with fail
 go_ret2
 exact ⟨pl, er_, rfl, HP.out⟩
def bobject (B : Kn → J → ByteArray → Bres) (c : Kn) (j : J) (sp : ByteArray) : Bres :=
 match txt (j.get kType) with
 | none => .error 30
 | some w => if kindB w = 11 then bmany B c j sp 11 kItems else if kindB w = 12 then bmany B c j sp 12 kValues
  else if named (kindB w) = true then bnamed B c j sp (kindB w) else bword c w sp
theorem object_any {X : Nat → Prop} {B : Kn → J → ByteArray → Bres} {Q : J → Prop} (hB : CallB B Q) (S : Nat → Prop) (j : J) (sp : ByteArray) (hsp : sp.size ≤ 1000000) (g r : Nat) (ns : List Nd) (w : World) (h : MkW X w g r ns) (hS : ∀ b, S b → b < g) (A3 A4 : Option Addr) (c3 c4 : Nat) (ht : TreeS w S j [.int .i64 j.k, .int .i64 j.n, .string j.t, .slice A3 j.its.length c3, .slice A4 j.ks.length c4]) (hw : j.wt ≤ 1000000)
 (hQ1 : ∀ key x, j.get key = some x → Q x) (hQ9 : ∀ x, j.get kFields = some x → x.k = 5 → ∀ y ∈ x.its, Q (gotten (y.get kType))) (R : Bres) (hR : R = bobject B (ns.map er) j sp) :
 Calls Tryz.prog 46 #[.pointer (some ⟨g, 0, none⟩), .func (.func 47) #[.agg #[.int .i64 j.k, .int .i64 j.n, .string j.t, .slice A3 j.its.length c3, .slice A4 j.ks.length c4]] #[], .string sp] w (BPost X R g r ns w) := by
 have CS := cell_set
 have lg := h.mkr.lt
 have LB := Lib.hid lg
 have hSw : ∀ b, S b → b < w.heap.size := fun b hb => Nat.lt_trans (hS b hb) lg.1
 have TT : Hid (∀ W, Below w.heap.size w W → TreeS W S j [.int .i64 j.k, .int .i64 j.n, .string j.t, .slice A3 j.its.length c3, .slice A4 j.ks.length c4]) := fun W b => TreeS.keep (fun p hp => b.cell (hSw _ hp)) (fun _ h => h) ht
 have SV : Hid (∀ W, Below w.heap.size w W → Sav g r w.heap.size w W) := fun W b => Sav.of b
 by_cases hk : ∃ x, j.get kType = some x ∧ x.k = 4
 rotate_left
 · have Z : Hid (R = .error 30) := by
    show _ = _
    have e : txt (j.get kType) = none := by
     unfold txt
     rcases ho : j.get kType with _ | x
     · rfl
     · exact if_neg fun g => hk ⟨x, ho, g⟩
    rw [hR]; unfold bobject; rw [e]
   have IT := Lib.hid (one_no (kind := 4) S j kType w hSw A3 A4 c3 c4 ht fun x hx e => hk ⟨x, hx, e⟩)
   unfold kType at IT
   clear hR hk ht hS h TT hQ1 hQ9 hB
   go_enter Tryz.func46, Tryz.ntmps46
   go_wp2_with fail
   with_reducible refine IT.out.mono ?_
   rintro e w1 ⟨K0, K1, K2, X3, l3, x3, X4, l4, x4, rfl, b1⟩
   have s1 := b1.size
   go_wp2_with fail
   go_ret2
   exact bpost_no Z.out (by decide) _ (SV.out _ bqq)
 obtain ⟨x, hx, hk⟩ := hk
 have IT := Lib.hid (one_yes S j kType w hSw A3 A4 c3 c4 ht hx hk)
 have xw : x.t.size ≤ 1000000 := Nat.le_trans (J.t_wtF x) (Nat.le_trans (J.get_wt hx) hw)
 have HR : Hid (R = if kindB x.t = 11 then bmany B (ns.map er) j sp 11 kItems else if kindB x.t = 12 then bmany B (ns.map er) j sp 12 kValues
  else if named (kindB x.t) = true then bnamed B (ns.map er) j sp (kindB x.t) else bword (ns.map er) x.t sp) := by
  show _ = _
  have e : txt (j.get kType) = some x.t := by unfold txt; rw [hx]; exact if_pos hk
  rw [hR]; unfold bobject; rw [e]
 have KD := Lib.hid (fun W (b : Below w.heap.size w W) => nKind_any x.t (by omega) W (LaidN.below h.laid b))
 have MW := Lib.hid (fun W (b : Below w.heap.size w W) => h.below b)
 have HB := Lib.hid hB
 have HQ1 := Lib.hid hQ1
 have HQ9 := Lib.hid hQ9
 have HS0 := Lib.hid hS
 unfold kType at IT
 unfold kindB at HR
 obtain ⟨kd, hkd⟩ : ∃ k, k = Nm.kind x.t.data.toList := ⟨_, rfl⟩
 rw [← hkd] at KD HR
 clear hR hx hk ht hS h hB hQ1 hQ9 hSw hkd
 go_enter Tryz.func46, Tryz.ntmps46
 go_wp2_with fail
 with_reducible refine IT.out.mono ?_
 rintro e w1 ⟨X3, x3, X4, x4, rfl, _, b1⟩
 have s1 := b1.size
 obtain ⟨w2, hw2⟩ : ∃ W, W = (w1.alloc (.cells #[.int .i64 x.k, .int .i64 x.n, .string x.t, .slice X3 x.its.length x3, .slice X4 x.ks.length x4] 25)) := ⟨_, rfl⟩
 have bw2 : Below w.heap.size w w2 := by rw [hw2]; exact b1.alloc s1 _
 have BX : Hid (B5 w2 w1.heap.size 25 (.int .i64 x.k) (.int .i64 x.n) (.string x.t) (.slice X3 x.its.length x3) (.slice X4 x.ks.length x4)) := by rw [hw2]; exact B5.newat rfl
 have BXe := BX.out
 have KD2 := KD.out w2 bw2
 have HW2 := Lib.hid hw2
 rw [hw2] at BXe KD2
 replace KD2 := Lib.hid KD2
 obtain ⟨_, _, _, _, _, _, _, _, _, _⟩ := B5.facts BXe
 clear hw2 BXe IT KD
 go_wp2_with fail
 with_reducible refine KD2.out.mono ?_
 rintro e w3 ⟨rfl, b3⟩
 rw [← HW2.out] at b3
 have bw3 : Below w.heap.size w w3 := bw2.trans (b3.mono bw2.size)
 have X3' := Lib.hid (B5.below BX.out b3 BX.out.lt)
 obtain ⟨_, _, _, _, _, _, _, _, _, _⟩ := B5.facts X3'.out
 have TT3 := TT.out w3 bw3
 have MW3 := MW.out w3 bw3
 clear KD2 BX b3 b1
 by_cases h11 : kd = 11
 · subst h11
   have HC := Lib.hid (list_any HB.out j 11 (.inl rfl) kItems sp hsp g r ns w3 MW3 S HS0.out A3 A4 c3 c4 TT3 (HQ1.out kItems) R (by rw [HR.out]; rfl))
   unfold kItems at HC
   clear HR
   go_wp2_with fail
   with_reducible refine HC.out.mono ?_
   rintro e w4 hp
   have hp2 := hp.mono_ bw3 LB.out.2.1
   obtain ⟨pl, er_, rfl, hp3⟩ := hp2
   have HP := Lib.hid hp3
   clear hp hp3
   go_wp2_with fail
   go_ret2
   exact ⟨pl, er_, rfl, HP.out⟩
 by_cases h12 : kd = 12
 · subst h12
   have HC := Lib.hid (list_any HB.out j 12 (.inr rfl) kValues sp hsp g r ns w3 MW3 S HS0.out A3 A4 c3 c4 TT3 (HQ1.out kValues) R (by rw [HR.out]; rfl))
   unfold kValues at HC
   clear HR
   go_wp2_with fail
   with_reducible refine HC.out.mono ?_
   rintro e w4 hp
   have hp2 := hp.mono_ bw3 LB.out.2.1
   obtain ⟨pl, er_, rfl, hp3⟩ := hp2
   have HP := Lib.hid hp3
   clear hp hp3
   go_wp2_with fail
   go_ret2
   exact ⟨pl, er_, rfl, HP.out⟩
 by_cases h9 : kd = 9
 · subst h9
   have HC := Lib.hid (named9_any HB.out S j sp hsp g r ns w3 MW3 HS0.out A3 A4 c3 c4 TT3 hw HQ9.out R (by rw [HR.out]; rfl))
   clear HR
   go_wp2_with fail
   with_reducible refine HC.out.mono ?_
   rintro e w4 hp
   have hp2 := hp.mono_ bw3 LB.out.2.1
   obtain ⟨pl, er_, rfl, hp3⟩ := hp2
   have HP := Lib.hid hp3
   clear hp hp3
   go_wp2_with fail
   go_ret2
   exact ⟨pl, er_, rfl, HP.out⟩
 by_cases h10 : kd = 10
 · subst h10
   have HC := Lib.hid (named10_any HB.out S j sp hsp g r ns w3 MW3 HS0.out A3 A4 c3 c4 TT3 hw R (by rw [HR.out]; rfl))
   clear HR
   go_wp2_with fail
   with_reducible refine HC.out.mono ?_
   rintro e w4 hp
   have hp2 := hp.mono_ bw3 LB.out.2.1
   obtain ⟨pl, er_, rfl, hp3⟩ := hp2
   have HP := Lib.hid hp3
   clear hp hp3
   go_wp2_with fail
   go_ret2
   exact ⟨pl, er_, rfl, HP.out⟩
 by_cases h14 : kd = 14
 · subst h14
   have HC := Lib.hid (named14_any HB.out S j sp hsp g r ns w3 MW3 HS0.out A3 A4 c3 c4 TT3 hw R (by rw [HR.out]; rfl))
   clear HR
   go_wp2_with fail
   with_reducible refine HC.out.mono ?_
   rintro e w4 hp
   have hp2 := hp.mono_ bw3 LB.out.2.1
   obtain ⟨pl, er_, rfl, hp3⟩ := hp2
   have HP := Lib.hid hp3
   clear hp hp3
   go_wp2_with fail
   go_ret2
   exact ⟨pl, er_, rfl, HP.out⟩
 · have q11 : ((kd : Int) == 11) = false := by rw [beq_eq_false_iff_ne]; omega
   have q12 : ((kd : Int) == 12) = false := by rw [beq_eq_false_iff_ne]; omega
   have q9 : ((kd : Int) == 9) = false := by rw [beq_eq_false_iff_ne]; omega
   have q10 : ((kd : Int) == 10) = false := by rw [beq_eq_false_iff_ne]; omega
   have q14 : ((kd : Int) == 14) = false := by rw [beq_eq_false_iff_ne]; omega
   have HC := Lib.hid (text_any x.t sp (by omega) (by omega) g r ns w3 MW3 R (by rw [HR.out, if_neg h11, if_neg h12, if_neg]; unfold named; rw [decide_eq_true_eq]; omega))
   clear h11 h12 h9 h10 h14
   clear HR
   go_wp2_with fail
   with_reducible refine HC.out.mono ?_
   rintro e w4 hp
   have hp2 := hp.mono_ bw3 LB.out.2.1
   obtain ⟨pl, er_, rfl, hp3⟩ := hp2
   have HP := Lib.hid hp3
   clear hp hp3
   go_wp2_with fail
   go_ret2
   exact ⟨pl, er_, rfl, HP.out⟩
def Qn (f : Nat) (j : J) : Prop := ((j.frm ∧ j.deep ≤ 32) ∨ j = J.zero) ∧ j.deep < f ∧ j.wt ≤ 1000000
theorem qn_get {f : Nat} {j : J} (h : Qn (f + 1) j) (key : ByteArray) (x : J) (hx : j.get key = some x) : Qn f x := by
 obtain ⟨h1, h2, h3⟩ := h
 have d := J.get_deep hx
 refine ⟨.inl ?_, by omega, Nat.le_trans (J.get_wt hx) h3⟩
 rcases h1 with h1 | rfl
 · exact ⟨J.get_frm hx h1.1, by omega⟩
 · exact absurd (J.get_in hx).1 (by decide)
theorem qn_its {f : Nat} {j : J} (h : Qn (f + 1) j) (h5 : j.k = 5) (x : J) (hx : x ∈ j.its) : Qn f x := by
 obtain ⟨h1, h2, h3⟩ := h
 have d := J.deeps_mem hx
 rw [← J.deep_in (.inl h5)] at d
 have a := J.wts_mem hx
 have b := J.its_wt j
 refine ⟨.inl ?_, by omega, by omega⟩
 rcases h1 with h1 | rfl
 · exact ⟨J.frms_mem (J.frm_its h1.1) hx, by omega⟩
 · exact absurd h5 (by decide)
theorem qn_got {f : Nat} {j : J} (h : Qn f j) (key : ByteArray) (hf : 0 < f) : Qn f (gotten (j.get key)) := by
 rcases ho : j.get key with _ | x
 · exact ⟨.inr rfl, hf, by show J.zero.wt ≤ _; decide⟩
 · obtain ⟨f', rfl⟩ : ∃ f', f = f' + 1 := ⟨f - 1, by omega⟩
   have := qn_get h key x ho
   exact ⟨this.1, Nat.lt_succ_of_lt this.2.1, this.2.2⟩
theorem qn_fields {f : Nat} {j : J} (h : Qn (f + 1) j) (x : J) (hx : j.get kFields = some x) (h5 : x.k = 5) (y : J) (hy : y ∈ x.its) : Qn f (gotten (y.get kType)) := by
 have q1 := qn_get h _ x hx
 obtain ⟨f', rfl⟩ : ∃ f', f = f' + 1 := ⟨f - 1, by have := q1.2.1; omega⟩
 have q2 := qn_its q1 h5 y hy
 exact qn_got ⟨q2.1, Nat.lt_succ_of_lt q2.2.1, q2.2.2⟩ kType (by omega)
theorem node_step {f : Nat} (hB : CallB (bnode f) (Qn f)) : CallB (bnode (f + 1)) (Qn (f + 1)) := by
 intro j sp X g r ns w S hq hsp h hS A3 A4 c3 c4 ht
 have CS := cell_set
 have lg := h.mkr.lt
 have LB := Lib.hid lg
 have hw := hq.2.2
 have hSw : ∀ b, S b → b < w.heap.size := fun b hb => Nat.lt_trans (hS b hb) lg.1
 obtain ⟨R, hR⟩ : ∃ R, R = bnode (f + 1) (ns.map er) j sp := ⟨_, rfl⟩
 rw [← hR]
 have HR : Hid (R = if j.k = 4 then bword (ns.map er) j.t sp else if j.k = 5 then bunion (bnode f) (ns.map er) j.its sp else bobject (bnode f) (ns.map er) j sp) := by show _ = _; rw [hR, bnode]; rfl
 obtain ⟨wn, hwn⟩ : ∃ W, W = (w.alloc (.cells #[.int .i64 j.k, .int .i64 j.n, .string j.t, .slice A3 j.its.length c3, .slice A4 j.ks.length c4] 25)) := ⟨_, rfl⟩
 have bwn : Below w.heap.size w wn := by rw [hwn]; exact (Below.refl _ _).alloc (Nat.le_refl _) _
 have BN : Hid (B5 wn w.heap.size 25 (.int .i64 j.k) (.int .i64 j.n) (.string j.t) (.slice A3 j.its.length c3) (.slice A4 j.ks.length c4)) := by rw [hwn]; exact B5.newat rfl
 have MW3 : MkW X wn g r ns := h.below bwn
 have TT3 : TreeS wn S j [.int .i64 j.k, .int .i64 j.n, .string j.t, .slice A3 j.its.length c3, .slice A4 j.ks.length c4] := TreeS.keep (fun p hp => bwn.cell (hSw _ hp)) (fun _ h => h) ht
 have BNe := BN.out
 rw [hwn] at BNe
 obtain ⟨_, _, _, _, _, _, _, _, _, _⟩ := B5.facts BNe
 by_cases h4 : j.k = 4
 · have tw : j.t.size ≤ 1000000 := Nat.le_trans (J.t_wtF j) hw
   have HC := text_any j.t sp (by omega) (by omega) g r ns wn MW3 R (by rw [HR.out, if_pos h4])
   rw [hwn] at HC
   replace HC := Lib.hid HC
   have bwe := bwn
   rw [hwn] at bwe
   have BW := Lib.hid bwe
   have q4 : (j.k == 4) = true := by rw [beq_iff_eq]; exact h4
   clear HR hR hwn bwn BN MW3 TT3 BNe h4 h ht hS hSw hB hq
   go_enter Tryz.func22, Tryz.ntmps22
   go_wp2_with fail
   with_reducible refine HC.out.mono ?_
   rintro e w4 hp
   have hp2 := hp.mono_ BW.out LB.out.2.1
   obtain ⟨pl, er_, rfl, hp3⟩ := hp2
   have HP := Lib.hid hp3
   clear hp hp3
   go_wp2_with fail
   go_ret2
   exact ⟨pl, er_, rfl, HP.out⟩
 by_cases h5 : j.k = 5
 · obtain ⟨_, _, _, _, e, _, _, rt, _⟩ := TreeS.out TT3
   simp only [List.cons.injEq, Value.slice.injEq, true_and, and_true] at e
   obtain ⟨⟨rfl, rfl⟩, rfl, rfl⟩ := e
   have lw : j.its.length ≤ 1000000 := by have := wts_ln12 j.its; have := J.its_wt j; omega
   have HC := bUnion_any hB (fun c j sp ext p hc hq hb => by have k := bnode_snd f c j sp ext p hc hq.1 hb; exact k.lt) j.its sp hsp g r ns wn MW3 S hS A3 c3 rt (fun x hx => qn_its hq h5 x hx) lw R (by rw [HR.out, if_neg h4, if_pos h5])
   rw [hwn] at HC
   replace HC := Lib.hid HC
   have bwe := bwn
   rw [hwn] at bwe
   have BW := Lib.hid bwe
   have q4 : (j.k == 4) = false := by rw [beq_eq_false_iff_ne]; exact h4
   have q5 : (j.k == 5) = true := by rw [beq_iff_eq]; exact h5
   clear HR hR hwn bwn BN MW3 TT3 BNe h4 h5 h ht hS hSw hB hq rt lw
   go_enter Tryz.func22, Tryz.ntmps22
   go_wp2_with fail
   with_reducible refine HC.out.mono ?_
   rintro e w4 hp
   have hp2 := hp.mono_ BW.out LB.out.2.1
   obtain ⟨pl, er_, rfl, hp3⟩ := hp2
   have HP := Lib.hid hp3
   clear hp hp3
   go_wp2_with fail
   go_ret2
   exact ⟨pl, er_, rfl, HP.out⟩
 have q4 : (j.k == 4) = false := by rw [beq_eq_false_iff_ne]; exact h4
 have q5 : (j.k == 5) = false := by rw [beq_eq_false_iff_ne]; exact h5
 by_cases h6 : j.k = 6
 · have HC := object_any hB S j sp hsp g r ns wn MW3 hS A3 A4 c3 c4 TT3 hw (fun key x hx => qn_get hq key x hx) (fun x hx k5 y hy => qn_fields hq x hx k5 y hy) R (by rw [HR.out, if_neg h4, if_neg h5])
   rw [hwn] at HC
   replace HC := Lib.hid HC
   have bwe := bwn
   rw [hwn] at bwe
   have BW := Lib.hid bwe
   have q6 : (j.k == 6) = true := by rw [beq_iff_eq]; exact h6
   clear HR hR hwn bwn BN MW3 TT3 BNe h4 h5 h6 h ht hS hSw hB hq
   go_enter Tryz.func22, Tryz.ntmps22
   go_wp2_with fail
   with_reducible refine HC.out.mono ?_
   rintro e w4 hp
   have hp2 := hp.mono_ BW.out LB.out.2.1
   obtain ⟨pl, er_, rfl, hp3⟩ := hp2
   have HP := Lib.hid hp3
   clear hp hp3
   go_wp2_with fail
   go_ret2
   exact ⟨pl, er_, rfl, HP.out⟩
 · have Z : Hid (R = .error 30) := by
    show _ = _
    rw [HR.out, if_neg h4, if_neg h5]; unfold bobject
    have : j.get kType = none := by unfold J.get; rw [if_neg h6]
    rw [this]; rfl
   have SV : Hid (∀ W, Below w.heap.size w W → Sav g r w.heap.size w W) := fun W b => Sav.of b
   have q6 : (j.k == 6) = false := by rw [beq_eq_false_iff_ne]; exact h6
   clear HR hR hwn bwn BN MW3 TT3 BNe h4 h5 h6 h ht hS hSw hB hq
   go_enter Tryz.func22, Tryz.ntmps22
   go_wp2_with fail
   go_ret2
   exact bpost_no Z.out (by decide) _ (SV.out _ bqq)
theorem node_any : ∀ f, CallB (bnode f) (Qn f)
 | 0 => fun _ _ _ _ _ _ _ _ hq => absurd hq.2.1 (Nat.not_lt_zero _)
 | f + 1 => node_step (node_any f)
end Go.Proofs.YthogheglddfniaaGreatDoor
