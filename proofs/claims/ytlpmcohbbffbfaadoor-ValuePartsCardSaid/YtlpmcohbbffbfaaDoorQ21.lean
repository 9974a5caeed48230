/- Joined by tools/bundle.py: VLawB. -/
import Derived.Test.YtlpmcohbbffbfaaDoorQ20
namespace Go.Proofs.YtlpmcohbbffbfaaDoor
open Go.ChangeShapes Go.WideShapes Go.ChangeAt Go.RowKit Mem
def kidOf (nd : Nd) (n : Int) (i : Nat) : Int := if nd.k = 9 then nd.kids.getD i 0 else if nd.k = 13 then nd.kids.getD n.toNat 0 else nd.kids.getD 0 0
theorem V.kind_of {s : Sc} {t : V} {a : Int} (h : V.is s t a) : t.k = s.kind a := by
  cases t with
  | mk k n bt bs its ks =>
    unfold V.is at h
    obtain ⟨h0, h1, e, _⟩ := h
    show k = _
    rw [e]
    unfold Sc.node Sc.kind
    rw [if_pos h0, List.getElem?_eq_getElem (show a.toNat < s.nodes.length by omega)]
    rfl
theorem getD_at {l : List Int} {i : Nat} (h : i < l.length) : l.getD i 0 = l[i]'h := by rw [List.getD_eq_getElem?_getD, List.getElem?_eq_getElem h]; rfl
theorem part_kid {s : Sc} {t : V} {p : Nat} (hp : p < s.nodes.length) (_hk : 1 ≤ (s.nodes[p]'hp).k ∧ (s.nodes[p]'hp).k ≤ 14) (h : V.is s t (p : Int)) (i : Nat) (hi : i < t.its.length) :
    V.is s (t.its[i]'hi) (kidOf (s.nodes[p]'hp) t.n i) ∧ ((s.nodes[p]'hp).k = 9 → i < (s.nodes[p]'hp).kids.length) ∧ ((s.nodes[p]'hp).k = 13 → 0 ≤ t.n ∧ t.n < ((s.nodes[p]'hp).kids.length : Int)) ∧ ((s.nodes[p]'hp).k ≠ 9 → (s.nodes[p]'hp).k ≠ 13 → (s.nodes[p]'hp).kids.length = 1) := by
  cases t with
  | mk k n bt bs its ks =>
    simp only [V.its, V.n] at hi ⊢
    have hkk := ((V.is_at hp).1 h).1
    by_cases hl : k = 9 ∨ k = 11 ∨ k = 12 ∨ k = 13
    · obtain ⟨h1, h2, h13, h12, hlen, hall⟩ := (V.is_part hp hkk hl).1 h
      have hh := hall i hi (by omega)
      rcases hl with e | e | e | e
      · have e9 : (s.nodes[p]'hp).k = 9 := by omega
        have ev : VKids (s.nodes[p]'hp) n its.length = (s.nodes[p]'hp).kids := by unfold VKids Nd.kids; rw [if_pos e9, if_pos e9]
        refine ⟨?_, fun _ => by rw [← ev, hlen]; exact hi, fun e => by omega, fun e => absurd e9 e⟩
        unfold kidOf
        rw [if_pos e9, getD_at (by rw [← ev, hlen]; exact hi)]
        simpa only [ev] using hh
      · have e9 : (s.nodes[p]'hp).k = 11 := by omega
        have ev : VKids (s.nodes[p]'hp) n its.length = List.replicate its.length (s.nodes[p]'hp).items := by unfold VKids; rw [if_neg (by omega), if_pos (.inl e9)]
        have ek : (s.nodes[p]'hp).kids = [(s.nodes[p]'hp).items] := by unfold Nd.kids; rw [if_neg (by omega), if_pos (.inl e9)]
        refine ⟨?_, fun e => by omega, fun e => by omega, fun _ _ => by rw [ek]; rfl⟩
        unfold kidOf
        rw [if_neg (by omega), if_neg (by omega), ek]
        simpa [ev] using hh
      · have e9 : (s.nodes[p]'hp).k = 12 := by omega
        have ev : VKids (s.nodes[p]'hp) n its.length = List.replicate its.length (s.nodes[p]'hp).items := by unfold VKids; rw [if_neg (by omega), if_pos (.inr e9)]
        have ek : (s.nodes[p]'hp).kids = [(s.nodes[p]'hp).items] := by unfold Nd.kids; rw [if_neg (by omega), if_pos (.inr e9)]
        refine ⟨?_, fun e => by omega, fun e => by omega, fun _ _ => by rw [ek]; rfl⟩
        unfold kidOf
        rw [if_neg (by omega), if_neg (by omega), ek]
        simpa [ev] using hh
      · have e9 : (s.nodes[p]'hp).k = 13 := by omega
        subst e
        obtain ⟨_, hn, l1, h0, hi0⟩ := (V.is_13 hp e9).1 h
        have ek : (s.nodes[p]'hp).kids = (s.nodes[p]'hp).br := by unfold Nd.kids; rw [if_neg (by omega), if_neg (by omega), if_pos e9]
        obtain rfl : i = 0 := by omega
        refine ⟨?_, fun e => by omega, fun _ => by rw [ek]; exact hn, fun _ e => absurd e9 e⟩
        unfold kidOf
        rw [if_neg (by omega), if_pos e9, ek]
        exact hi0
    · exfalso
      obtain ⟨_, _, _, ha⟩ := ((V.is_at hp).1 h).2
      rw [vkids_none (by omega), all_none] at ha
      omega
theorem one_branch {s : Sc} {t : V} {nd : Nd} (hok : nd.ok s) (h13 : nd.k = 13) {i j : Nat} (hi : i < nd.br.length) (hj : j < nd.br.length) (hij : i < j) (h1 : named (s.kind (nd.br[i]'hi)) = false ∧ V.is s t (nd.br[i]'hi)) (h2 : V.is s t (nd.br[j]'hj)) : False := by
  have pw := List.pairwise_iff_getElem.1 ((ok_13 h13).1 hok).1.2.2.2 i j hi hj hij
  have e : s.kind (nd.br[i]'hi) = s.kind (nd.br[j]'hj) := (V.kind_of h1.2).symm.trans (V.kind_of h2)
  rcases pw.2 with g | g
  · exact g e
  · rw [h1.1] at g; cases g
def Many (s : Sc) (t : V) (nd : Nd) (m j : Nat) : Prop := (m = 0 ∧ ∀ i (h : i < nd.br.length), i < j → ¬ (named (s.kind (nd.br[i]'h)) = false ∧ V.is s t (nd.br[i]'h))) ∨ (m = 1 ∧ ∃ i, ∃ h : i < nd.br.length, i < j ∧ named (s.kind (nd.br[i]'h)) = false ∧ V.is s t (nd.br[i]'h))
theorem Many.le {s : Sc} {t : V} {nd : Nd} {m j : Nat} (h : Many s t nd m j) : m ≤ 1 := by rcases h with ⟨h, _⟩ | ⟨h, _⟩ <;> omega
theorem Many.no {s : Sc} {t : V} {nd : Nd} {m j : Nat} (h : Many s t nd m j) (hj : j < nd.br.length) (hn : ¬ (named (s.kind (nd.br[j]'hj)) = false ∧ V.is s t (nd.br[j]'hj))) : Many s t nd m (j + 1) := by
  rcases h with ⟨h, g⟩ | ⟨h, i, hi, hij, g⟩
  · refine .inl ⟨h, fun i hi hij => ?_⟩
    rcases Nat.lt_or_ge i j with k | k
    · exact g i hi k
    · obtain rfl : i = j := by omega
      exact hn
  · exact .inr ⟨h, i, hi, by omega, g⟩
theorem Many.yes {s : Sc} {t : V} {nd : Nd} {m j : Nat} (hok : nd.ok s) (h13 : nd.k = 13) (h : Many s t nd m j) (hj : j < nd.br.length) (hy : named (s.kind (nd.br[j]'hj)) = false ∧ V.is s t (nd.br[j]'hj)) : m = 0 ∧ Many s t nd 1 (j + 1) := by
  rcases h with ⟨h, g⟩ | ⟨h, i, hi, hij, g⟩
  · exact ⟨h, .inr ⟨rfl, j, hj, by omega, hy⟩⟩
  · exact (one_branch hok h13 hi hj hij g hy.2).elim
set_option maxRecDepth 100000 in
set_option maxHeartbeats 16000000 in
theorem valueParts_walk (s : Sc) (a : Int) (t : V) (w : World) (A : Option Addr) (c : Nat) (A3 A4 A5 : Option Addr) (c3 c4 c5 : Nat) (hs : Lies w (· < w.heap.size) s.enc [.slice A s.nodes.length c, .int .i64 s.root]) (ht : Lies w (· < w.heap.size) t.enc [.int .i64 t.k, .int .i64 t.n, .int .u64 t.bt, .slice A3 t.bs.length c3, .slice A4 t.its.length c4, .slice A5 t.ks.length c5]) (hL : LaidN w) :
    Calls Tryd.prog 4 #[.agg #[.slice A s.nodes.length c, .int .i64 s.root], .int .i64 a, .agg #[.int .i64 t.k, .int .i64 t.n, .int .u64 t.bt, .slice A3 t.bs.length c3, .slice A4 t.its.length c4, .slice A5 t.ks.length c5]] w fun e w' => e = .returned (.bool true) ∧ Below w.heap.size w w' := by
  have CS := cell_set
  have WK := Lib.hid (fun W (b : Below w.heap.size w W) => works11_any W (hL.below b))
  have GS := Lib.hid (fun W (b : Below w.heap.size w W) => sgreat_any s W A c (hs.on b))
  have GV := Lib.hid (fun W (b : Below w.heap.size w W) => vgreat_any t W A3 A4 A5 c3 c4 c5 (ht.on b))
  have SR := Lib.hid (fun (sm : s.sm) W (b : Below w.heap.size w W) => sRightT_any s sm W (hL.below b) A c (hs.on b))
  have CF := Lib.hid (fun (sm : s.sm) (hw : t.wt ≤ 1000000) (k : Int) W (b : Below w.heap.size w W) => vConforms_any s sm t hw k W (hL.below b) A A3 A4 A5 c c3 c4 c5 (hs.on b) (ht.on b))
  have CFI := Lib.hid (fun (sm : s.sm) (x : V) (hw : x.wt ≤ 1000000) (k : Int) W (b : Below w.heap.size w W) X3 X4 X5 x3 x4 x5 (hx : Lies W (· < W.heap.size) x.enc [.int .i64 x.k, .int .i64 x.n, .int .u64 x.bt, .slice X3 x.bs.length x3, .slice X4 x.its.length x4, .slice X5 x.ks.length x5]) => vConforms_any s sm x hw k W (hL.below b) A X3 X4 X5 c x3 x4 x5 (hs.on b) hx)
  obtain ⟨_, _, e, la, ra⟩ := Sc.out.1 hs
  simp only [List.cons.injEq, Value.slice.injEq, true_and, and_true] at e
  obtain ⟨rfl, rfl⟩ := e
  obtain ⟨_, _, _, _, _, _, e, _, _, l4, r4, _, _⟩ := V.out.1 ht
  simp only [List.cons.injEq, Value.slice.injEq, true_and, and_true] at e
  obtain ⟨⟨rfl, rfl⟩, ⟨rfl, rfl⟩, rfl, rfl⟩ := e
  have RA := Lib.hid ra; have R4 := Lib.hid r4
  have lb4 := l4.2
  unfold maxLen at lb4
  have W0 : Hid (Below w.heap.size w ((w.alloc (.cells #[.slice A s.nodes.length c, .int .i64 s.root] 35)).alloc (.cells #[.int .i64 t.k, .int .i64 t.n, .int .u64 t.bt, .slice A3 t.bs.length c3, .slice A4 t.its.length c4, .slice A5 t.ks.length c5] 27))) := (((Below.refl _ _).alloc (Nat.le_refl _) _).alloc (by simp) _)
  have Z0 : Hid (((w.alloc (.cells #[.slice A s.nodes.length c, .int .i64 s.root] 35)).alloc (.cells #[.int .i64 t.k, .int .i64 t.n, .int .u64 t.bt, .slice A3 t.bs.length c3, .slice A4 t.its.length c4, .slice A5 t.ks.length c5] 27)).heap.size = w.heap.size + 2) := by show _ = _; simp
  have P1 := Lib.hid (B2.alloc (B2.newat (w := w) (t := 35) (x0 := .slice A s.nodes.length c) (x1 := .int .i64 s.root) rfl) (.cells #[.int .i64 t.k, .int .i64 t.n, .int .u64 t.bt, .slice A3 t.bs.length c3, .slice A4 t.its.length c4, .slice A5 t.ks.length c5] 27))
  have P2 := Lib.hid (B6.newat (w := w.alloc (.cells #[.slice A s.nodes.length c, .int .i64 s.root] 35)) (g := w.heap.size + 1) (t := 27) (x0 := .int .i64 t.k) (x1 := .int .i64 t.n) (x2 := .int .u64 t.bt) (x3 := .slice A3 t.bs.length c3) (x4 := .slice A4 t.its.length c4) (x5 := .slice A5 t.ks.length c5) (by simp))
  clear hs ht hL ra r4 la l4
  go_enter Tryd.func4, Tryd.ntmps4
  go_wp2_with fail
  with_reducible refine (WK.out _ W0.out).mono ?_
  rintro e w2 ⟨rfl, b2⟩
  rw [Z0.out] at b2
  have z2 := b2.size
  rw [Z0.out] at z2
  have bw2 : Below w.heap.size w w2 := W0.out.trans (b2.mono (by omega))
  have Q1 := Lib.hid (B2.below P1.out b2 (by omega))
  have Q2 := Lib.hid (B6.below P2.out b2 (by omega))
  obtain ⟨_, _, _, _⟩ := B2.facts Q1.out
  obtain ⟨_, _, _, _, _, _, _, _, _, _, _, _⟩ := B6.facts Q2.out
  clear P1 P2 W0 Z0 b2 WK
  go_wp2_with fail
  with_reducible refine (GS.out _ bw2).mono ?_
  rintro e w3 ⟨gs, rfl, hgs, b3⟩
  have z3 := b3.size
  have bw3 : Below w.heap.size w w3 := bw2.trans (b3.mono (by omega))
  have R1 := Lib.hid (B2.below Q1.out b3 (by omega))
  have R2 := Lib.hid (B6.below Q2.out b3 (by omega))
  obtain ⟨_, _, _, _⟩ := B2.facts R1.out
  obtain ⟨_, _, _, _, _, _, _, _, _, _, _, _⟩ := B6.facts R2.out
  have HGS := Lib.hid hgs
  clear Q1 Q2 b3 hgs GS
  cases gs with
  | true =>
    go_wp2_with fail
    go_ret
    exact ⟨rfl, bw3⟩
  | false =>
  have SM := Lib.hid (HGS.out (by first | rfl | trivial))
  go_wp2_with fail
  with_reducible refine (GV.out _ bw3).mono ?_
  rintro e w4 ⟨gv, rfl, hgv, b4⟩
  have z4 := b4.size
  have bw4 : Below w.heap.size w w4 := bw3.trans (b4.mono (by omega))
  have U1 := Lib.hid (B2.below R1.out b4 (by omega))
  have U2 := Lib.hid (B6.below R2.out b4 (by omega))
  obtain ⟨_, _, _, _⟩ := B2.facts U1.out
  obtain ⟨_, _, _, _, _, _, _, _, _, _, _, _⟩ := B6.facts U2.out
  have HGV := Lib.hid hgv
  clear R1 R2 b4 hgv GV HGS
  cases gv with
  | true =>
    go_wp2_with fail
    go_ret
    exact ⟨rfl, bw4⟩
  | false =>
  obtain ⟨hwt, _⟩ := HGV.out (by first | rfl | trivial)
  have SRM := Lib.hid (SR.out SM.out)
  have CFM := Lib.hid (CF.out SM.out (by omega))
  have CFIM := Lib.hid (CFI.out SM.out)
  clear SR CF CFI HGV
  go_wp2_with fail
  with_reducible refine (SRM.out _ bw4).mono ?_
  rintro e w5 ⟨gr, rfl, hgr, b5⟩
  have z5 := b5.size
  have bw5 : Below w.heap.size w w5 := bw4.trans (b5.mono (by omega))
  have S1 := Lib.hid (B2.below U1.out b5 (by omega))
  have S2 := Lib.hid (B6.below U2.out b5 (by omega))
  obtain ⟨_, _, _, _⟩ := B2.facts S1.out
  obtain ⟨_, _, _, _, _, _, _, _, _, _, _, _⟩ := B6.facts S2.out
  have HGR := Lib.hid hgr
  have zz5 : Hid (w.heap.size + 2 ≤ w5.heap.size) := by show _ ≤ _; omega
  clear U1 U2 b5 hgr SRM z2 z3 z4 z5
  cases gr with
  | false =>
    go_wp2_with fail
    go_ret
    exact ⟨rfl, bw5⟩
  | true =>
  have hR : s.right := HGR.out.1 (by first | rfl | trivial)
  have HR := Lib.hid hR
  clear hR HGR
  by_cases ha0 : a < 0
  · have q0 : decide (a < 0) = true := by simpa using ha0
    go_wp2_with fail
    go_ret
    exact ⟨rfl, bw5⟩
  have q0 : decide (a < 0) = false := by simpa using ha0
  obtain ⟨nn, hnn⟩ : ∃ n, n = s.nodes.length := ⟨_, rfl⟩
  have HNN := Lib.hid hnn
  by_cases ha1 : a < (nn : Int)
  rotate_left
  · have q1 : decide ((s.nodes.length : Int) ≤ a) = true := by rw [← hnn]; simpa using ha1
    clear hnn
    go_wp2_with fail
    go_ret
    exact ⟨rfl, bw5⟩
  obtain ⟨p, rfl⟩ : ∃ p : Nat, a = (p : Int) := ⟨a.toNat, by omega⟩
  have q1 : decide ((s.nodes.length : Int) ≤ (p : Int)) = false := by rw [← hnn]; simpa using ha1
  have q2 : (p : Int) < (s.nodes.length : Int) := by rw [← hnn]; exact ha1
  have hp : p < s.nodes.length := by omega
  have bw5H := Lib.hid bw5
  obtain ⟨b1, o1, X2, x2, X3, x3, X4, x4, X9, x9, e1, lb1, ⟨y0, y1, y2, y3, y4, y5, y6, y7, y8, y9⟩, lx⟩ := nodes_at RA.out hp
  have y0 := (bw5.cell (p := ⟨b1, o1 + p * 10, none⟩) lb1).trans y0; have y1 := (bw5.cell (p := ⟨b1, o1 + p * 10 + 1, none⟩) lb1).trans y1; have y2 := (bw5.cell (p := ⟨b1, o1 + p * 10 + 2, none⟩) lb1).trans y2; have y3 := (bw5.cell (p := ⟨b1, o1 + p * 10 + 3, none⟩) lb1).trans y3; have y4 := (bw5.cell (p := ⟨b1, o1 + p * 10 + 4, none⟩) lb1).trans y4; have y5 := (bw5.cell (p := ⟨b1, o1 + p * 10 + 5, none⟩) lb1).trans y5; have y6 := (bw5.cell (p := ⟨b1, o1 + p * 10 + 6, none⟩) lb1).trans y6; have y7 := (bw5.cell (p := ⟨b1, o1 + p * 10 + 7, none⟩) lb1).trans y7; have y8 := (bw5.cell (p := ⟨b1, o1 + p * 10 + 8, none⟩) lb1).trans y8; have y9 := (bw5.cell (p := ⟨b1, o1 + p * 10 + 9, none⟩) lb1).trans y9
  obtain ⟨_, _, _, _, _, _, _, _, e, _, _, _, _, _, _, len9, row9⟩ := Nd.out.1 lx
  simp only [List.cons.injEq, Value.slice.injEq, true_and, and_true] at e
  obtain ⟨⟨rfl, rfl⟩, ⟨rfl, rfl⟩, ⟨rfl, rfl⟩, rfl, rfl⟩ := e
  have HOK : Hid ((s.nodes[p]'hp).ok s) := HR.out.2.1 _ (List.getElem_mem hp)
  have HRG := Lib.hid (ok_range HOK.out)
  have KIN : Hid (∀ k ∈ (s.nodes[p]'hp).kids, 0 ≤ k ∧ k < (s.nodes.length : Int)) := fun k hk => kids_in HR.out.1 p hp k (by unfold Sc.kidsAt; rw [List.getElem?_eq_getElem hp]; exact hk)
  have PK := Lib.hid (fun (h : V.is s t (p : Int)) => part_kid hp ⟨HRG.out.1, HRG.out.2.1⟩ h)
  have SMN := Lib.hid (SM.out.2 p hp)
  have l9 := len9.2
  unfold maxLen at l9
  have n200 : s.nodes.length ≤ 200 := HR.out.1.2.1
  generalize hT : s.nodes[p]'hp = T at *
  subst e1
  have R9 := Lib.hid row9
  have LX := Lib.hid lx
  clear hT row9 lx len9 hp
  obtain ⟨gn, hgn⟩ : ∃ g, g = w5.heap.size := ⟨_, rfl⟩
  have HGN : Hid (gn = w5.heap.size ∧ w.heap.size + 2 ≤ gn) := by have := zz5.out; exact ⟨hgn, by omega⟩
  have HWI : Hid (∀ j (h : j < t.its.length), (t.its[j]'h).wt ≤ 1000000) := fun j h => by
    have := vwts_at h
    have e : V.wts t.its ≤ t.wt := by cases t; simp only [V.its]; unfold V.wt; omega
    omega
  have BW6 : Hid (Below w.heap.size w (w5.alloc (.cells #[.int .i64 T.k, .string T.name, .slice X2 T.al.length x2, .slice X3 T.fs.length x3, .slice X4 T.sy.length x4, .bool T.has, .string T.df, .int .i64 T.size, .int .i64 T.items, .slice X9 T.br.length x9] 40))) := bw5.alloc (by have := zz5.out; omega) _
  have Z6 : Hid ((w5.alloc (.cells #[.int .i64 T.k, .string T.name, .slice X2 T.al.length x2, .slice X3 T.fs.length x3, .slice X4 T.sy.length x4, .bool T.has, .string T.df, .int .i64 T.size, .int .i64 T.items, .slice X9 T.br.length x9] 40)).heap.size = gn + 1) := by show _ = _; rw [hgn]; simp
  have K1 := Lib.hid (B2.alloc S1.out (.cells #[.int .i64 T.k, .string T.name, .slice X2 T.al.length x2, .slice X3 T.fs.length x3, .slice X4 T.sy.length x4, .bool T.has, .string T.df, .int .i64 T.size, .int .i64 T.items, .slice X9 T.br.length x9] 40))
  have K2 := Lib.hid (B6.alloc S2.out (.cells #[.int .i64 T.k, .string T.name, .slice X2 T.al.length x2, .slice X3 T.fs.length x3, .slice X4 T.sy.length x4, .bool T.has, .string T.df, .int .i64 T.size, .int .i64 T.items, .slice X9 T.br.length x9] 40))
  have K3 := Lib.hid (B10.newat (w := w5) (g := gn) (t := 40) (x0 := .int .i64 T.k) (x1 := .string T.name) (x2 := .slice X2 T.al.length x2) (x3 := .slice X3 T.fs.length x3) (x4 := .slice X4 T.sy.length x4) (x5 := .bool T.has) (x6 := .string T.df) (x7 := .int .i64 T.size) (x8 := .int .i64 T.items) (x9 := .slice X9 T.br.length x9) hgn)
  have HGN2 := Lib.hid hgn
  clear hgn zz5 hnn
  by_cases k13 : T.k = 13
  · have K13 := Lib.hid k13
    have K9 : Hid (¬ T.k = 9) := fun e => by omega
    have e13 : (T.k == 13) = true := by rw [beq_iff_eq]; exact k13
    have e9 : (T.k == 9) = false := by rw [beq_eq_false_iff_ne]; exact K9.out
    have EK : Hid (T.kids = T.br) := by show _ = _; unfold Nd.kids; rw [if_neg (by omega), if_neg (by omega), if_pos k13]
    obtain ⟨nr, hnr⟩ : ∃ n, n = T.br.length := ⟨_, rfl⟩
    have HNR := Lib.hid hnr
    rw [← hnr] at l9
    clear k13 hnr
    have nn0 := HNN.out
    go_wp2_with fail
    obtain ⟨W6, hW6⟩ : ∃ W, W = w5.alloc (.cells #[.int .i64 T.k, .string T.name, .slice X2 T.al.length x2, .slice X3 T.fs.length x3, .slice X4 T.sy.length x4, .bool T.has, .string T.df, .int .i64 T.size, .int .i64 T.items, .slice X9 T.br.length x9] 40) := ⟨_, rfl⟩
    rw [← hW6] at BW6 Z6 K1 K2 K3
    have dq : decide (s.nodes.length ≤ p) = false := by rw [decide_eq_false_iff_not]; omega
    rw [← hW6, ← HGN2.out, ← HNR.out, dq]
    clear dq
    clear hW6
    go_loopw [8, 50] (fun x y wr => ∃ m j : Nat, j ≤ nr ∧ y = .int .i64 (j : Int) ∧ x = .int .i64 (m : Int) ∧ Hid (Many s t T m j) ∧ Hid (Below W6.heap.size W6 wr)) (fun _ y _ => nr - (intOf y).toNat)
    case atStart => exact ⟨0, 0, Nat.zero_le _, rfl, rfl, .inl ⟨rfl, fun i h g => absurd g (Nat.not_lt_zero _)⟩, Below.refl _ _⟩
    case round =>
      obtain ⟨m, j, hj, rfl, rfl, HM, bl⟩ := hrel
      have zl := bl.out.size
      have gsz6 := Z6.out
      have hgn6 := HGN.out.2
      have bwr : Below w.heap.size w wr := BW6.out.trans (bl.out.mono (by omega))
      have M1 := Lib.hid (B2.below K1.out bl.out (by omega))
      have M2 := Lib.hid (B6.below K2.out bl.out (by omega))
      have M3 := Lib.hid (B10.below K3.out bl.out (by omega))
      obtain ⟨W3, W4, W5⟩ : w.heap.size < wr.heap.size ∧ w.heap.size + 1 < wr.heap.size ∧ gn < wr.heap.size := ⟨by omega, by omega, by omega⟩
      clear gsz6 hgn6
      obtain ⟨_, _, _, _⟩ := B2.facts M1.out
      obtain ⟨_, _, _, _, _, _, _, _, _, _, _, _⟩ := B6.facts M2.out
      obtain ⟨_, _, _, _, _, _, _, _, _, _, _, _, _, _, _, _, _, _, _, _⟩ := B10.facts M3.out
      by_cases hjn : j < nr
      · have h1 : j < T.br.length := by rw [← HNR.out]; exact hjn
        have qj : (j : Int) < (nr : Int) := by omega
        obtain ⟨b9, o9, e9', l9', kc⟩ := ints_at (R9.out.below bwr) (i := j) h1
        have hin := KIN.out (T.br[j]'h1) (by rw [EK.out]; exact List.getElem_mem h1)
        have NO := Lib.hid (HM.out.no h1)
        have YES := Lib.hid (HM.out.yes HOK.out K13.out h1)
        generalize T.br[j]'h1 = kk at *
        obtain ⟨q, bq, oq, hq, hql, eq, kq⟩ := kind_cell (RA.out.below bwr) hin.1 hin.2
        simp only [Option.some.injEq, Addr.mk.injEq, and_true] at eq
        obtain ⟨rfl, rfl⟩ := eq
        subst hq e9'
        have q3 : (q : Int) < (s.nodes.length : Int) := by omega
        have lb9 : b9 < wr.heap.size := Nat.lt_of_lt_of_le l9' bwr.size
        have NM := Lib.hid (sNamed_pure (s.kind (q : Int)))
        have CQ := Lib.hid (CFM.out (q : Int))
        have BWR := Lib.hid bwr
        generalize s.kind (q : Int) = KI at *
        clear h1 hin HM hql
        cases hnm : named KI with
        | true =>
          rw [hnm] at NM
          have NX := Lib.hid (NO.out (fun g => by rw [hnm] at g; cases g.1))
          clear NO YES hnm
          go_wp2_with fail
          with_reducible refine (NM.out _).mono ?_
          rintro e v ⟨rfl, rfl⟩
          go_wp2_with fail
          go_roundw
          case rel => exact ⟨m, j + 1, by omega, by go_num, rfl, NX.out, bl.out⟩
          case measure => simp [intOf]; omega
        | false =>
          rw [hnm] at NM
          have NO2 : Hid (¬ V.is s t (q : Int) → Many s t T m (j + 1)) := fun g => NO.out fun k => g k.2
          have YES2 : Hid (V.is s t (q : Int) → m = 0 ∧ Many s t T 1 (j + 1)) := fun g => YES.out ⟨hnm, g⟩
          clear NO YES hnm
          go_wp2_with fail
          with_reducible refine (NM.out _).mono ?_
          rintro e v ⟨rfl, rfl⟩
          go_wp2_with fail
          with_reducible refine (CQ.out _ BWR.out).mono ?_
          rintro e v ⟨cb, rfl, hcb, c1⟩
          have HCB := Lib.hid hcb
          clear hcb
          cases cb with
          | false =>
            have NX := Lib.hid (NO2.out (fun g => by have := HCB.out.2 ⟨HR.out, g⟩; cases this))
            clear NO2 YES2 HCB
            go_wp2_with fail
            go_roundw
            case rel => exact ⟨m, j + 1, by omega, by go_num, rfl, NX.out, bl.out.trans (c1.mono zl)⟩
            case measure => simp [intOf]; omega
          | true =>
            obtain ⟨rfl, hM⟩ := YES2.out (HCB.out.1 (by first | rfl | trivial)).2
            have NX := Lib.hid hM
            clear NO2 YES2 HCB hM
            go_wp2_with fail
            go_roundw
            case rel => exact ⟨1, j + 1, by omega, by go_num, by first | rfl | go_num, NX.out, bl.out.trans (c1.mono zl)⟩
            case measure => simp [intOf]; omega
      · obtain rfl : j = nr := by omega
        have qj : ¬ (j : Int) < (j : Int) := by omega
        have qm : decide ((1 : Int) < (m : Int)) = false := by have := HM.out.le; rw [decide_eq_false_iff_not]; omega
        have BW := Lib.hid bwr
        have GSZ : Hid (gn < wr.heap.size ∧ w.heap.size + 1 < wr.heap.size ∧ w.heap.size < wr.heap.size) := ⟨W5, W4, W3⟩
        clear hjn HM bl bwr zl BW6 Z6 K1 K2 K3
        go_wp2_with fail
        with_reducible refine (CFM.out (p : Int) _ BW.out).mono ?_
        rintro e v1 ⟨cb, rfl, hcb, c1⟩
        have zc := c1.size
        have gsz := GSZ.out
        have hgn0 := HGN.out.2
        have H1 := Lib.hid (B2.below M1.out c1 (by omega))
        have H2 := Lib.hid (B6.below M2.out c1 (by omega))
        have H3 := Lib.hid (B10.below M3.out c1 (by omega))
        have BV := Lib.hid (BW.out.trans (c1.mono BW.out.size))
        have gv : Hid (gn < v1.heap.size) := by show _ < _; omega
        obtain ⟨_, _, _, _⟩ := B2.facts H1.out
        obtain ⟨_, _, _, _, _, _, _, _, _, _, _, _⟩ := B6.facts H2.out
        obtain ⟨_, _, _, _, _, _, _, _, _, _, _, _, _, _, _, _, _, _, _, _⟩ := B10.facts H3.out
        have HCB := Lib.hid hcb
        clear hcb c1 zc gsz M1 M2 M3 GSZ BW
        cases cb with
        | false =>
          go_wp2_with fail
          go_ret
          exact ⟨rfl, BV.out⟩
        | true =>
          have PKI := Lib.hid (PK.out (HCB.out.1 (by first | rfl | trivial)).2)
          have SK := Lib.hid (fun W (b : Below v1.heap.size v1 W) => sKids_any T (by have := SMN.out.2.1; omega) (by have := SMN.out.2.2.1; omega) W X2 X3 X4 X9 x2 x3 x4 x9 ((LX.out.below (BV.out.trans (b.mono BV.out.size))).more (Nat.le_trans BV.out.size b.size)))
          clear HCB PK
          go_wp2_with fail
          with_reducible refine (SK.out _ (Below.refl _ _)).mono ?_
          rintro e v2 ⟨B, d, rfl, lk, rk, c2⟩
          have zk := c2.size
          have gv1 := gv.out
          have hgn0 := HGN.out.2
          have bv2 : Below w.heap.size w v2 := BV.out.trans (c2.mono BV.out.size)
          have J1 := Lib.hid (B2.below H1.out c2 (by omega))
          have J2 := Lib.hid (B6.below H2.out c2 (by omega))
          have J3 := Lib.hid (B10.below H3.out c2 (by omega))
          have gv2 : Hid (gn < v2.heap.size) := by show _ < _; omega
          obtain ⟨_, _, _, _⟩ := B2.facts J1.out
          obtain ⟨_, _, _, _, _, _, _, _, _, _, _, _⟩ := B6.facts J2.out
          obtain ⟨_, _, _, _, _, _, _, _, _, _, _, _, _, _, _, _, _, _, _, _⟩ := B10.facts J3.out
          have RK : Hid (RowD v2 (· < v2.heap.size) 1 (T.kids.map (D.i .i64)) B) := rk.keep (fun _ _ => rfl) fun _ h => h.2
          have BV2 := Lib.hid bv2
          obtain ⟨nk, hnk⟩ : ∃ n, n = T.kids.length := ⟨_, rfl⟩
          have HNK := Lib.hid hnk
          obtain ⟨ni, hni⟩ : ∃ n, n = t.its.length := ⟨_, rfl⟩
          have HNI := Lib.hid hni
          rw [← hnk]
          rw [← hni] at J2 lb4
          clear SK H1 H2 H3 gv gv1 zk rk lk c2 BV bv2 hnk hni
          go_wp2_with fail
          rw [← HNI.out]
          go_loopw [94] (fun x wr => ∃ j : Nat, j ≤ ni ∧ x = .int .i64 (j : Int) ∧ Hid (Below v2.heap.size v2 wr)) (fun x _ => ni - (intOf x).toNat)
          case atStart => exact ⟨0, Nat.zero_le _, rfl, Below.refl _ _⟩
          case round =>
            obtain ⟨j, hj, rfl, bl⟩ := hrel
            have gvv := gv2.out
            have hgn0 := HGN.out.2
            have zl := bl.out.size
            have bwr : Below w.heap.size w wr := BV2.out.trans (bl.out.mono BV2.out.size)
            have M1 := Lib.hid (B2.below J1.out bl.out (by omega))
            have M2 := Lib.hid (B6.below J2.out bl.out (by omega))
            have M3 := Lib.hid (B10.below J3.out bl.out (by omega))
            obtain ⟨_, _, _, _⟩ := B2.facts M1.out
            obtain ⟨_, hvn, _, _, _, _, _, _, _, _, _, _⟩ := B6.facts M2.out
            obtain ⟨_, _, _, _, _, _, _, _, _, _, _, _, _, _, _, _, _, _, _, _⟩ := B10.facts M3.out
            by_cases hjn : j < ni
            · have h1 : j < t.its.length := by rw [← HNI.out]; exact hjn
              have qj : (j : Int) < (ni : Int) := by omega
              obtain ⟨hk1, hk2, hk3, hk4⟩ := PKI.out j h1
              obtain ⟨b2, o2, Y3, z3, Y4, z4, Y5, z5, e2, lb2, ⟨u0, u1, u2, u3, u4, u5⟩, ty⟩ := values_at (R4.out.below bwr) h1
              have lb2' : b2 < wr.heap.size := Nat.lt_of_lt_of_le lb2 bwr.size
              have hwj : (t.its[j]'h1).wt ≤ 1000000 := HWI.out j h1
              obtain ⟨KD, hKD⟩ : ∃ k, k = kidOf T t.n j := ⟨_, rfl⟩
              rw [← hKD] at hk1
              obtain ⟨hn0, hn1⟩ := hk3 K13.out
              obtain ⟨xn, hxn⟩ : ∃ x : Nat, t.n = (x : Int) := ⟨t.n.toNat, by omega⟩
              rw [hxn] at hvn
              have hx : xn < T.kids.length := by omega
              have qx : (xn : Int) < (nk : Int) := by rw [← HNK.out] at hx; omega
              obtain ⟨gk, ok, ek, lk, kc⟩ := ints_at (RK.out.below bl.out) (i := xn) hx
              have ekd : T.kids[xn]'hx = KD := by rw [hKD]; unfold kidOf; rw [if_neg K9.out, if_pos K13.out, hxn, Int.toNat_natCast, getD_at hx]
              rw [ekd] at kc
              clear ekd hx hxn hn0 hn1
              have CJ := Lib.hid (fun W (b : Below wr.heap.size wr W) => CFIM.out (t.its[j]'h1) hwj KD W (bwr.trans (b.mono bwr.size)) Y3 Y4 Y5 z3 z4 z5 (((ty.more bwr.size).below b).more b.size))
              have HIS := Lib.hid hk1
              generalize t.its[j]'h1 = Y at *
              have lk' : gk < wr.heap.size := by omega
              have ek2 := ek
              subst ek2 e2
              obtain ⟨W3, W4, W5⟩ : w.heap.size < wr.heap.size ∧ w.heap.size + 1 < wr.heap.size ∧ gn < wr.heap.size := ⟨by omega, by omega, by omega⟩
              have BWR := Lib.hid bwr
              clear ty hk1 hk2 hk3 hk4 h1 hKD hwj ek
              go_wp2_with fail
              with_reducible refine (CJ.out _ (by (repeat' (first | with_reducible assumption | with_reducible exact Below.refl _ _ | (with_reducible refine Below.alloc ?_ ?_ _; rotate_left; focus ((first | exact Nat.le_refl _ | (simp; done) | (simp; omega) | omega | fail))) | (with_reducible refine Below.setCell ?_ ?_ _; rotate_left; focus ((first | exact Nat.le_refl _ | (simp; done) | (simp; omega) | omega | fail))) | with_reducible refine Mem.bel_drewN ?_ _ | with_reducible refine Below.drew ?_ | (with_reducible refine Mem.bel_call (by with_reducible assumption) ?_ ?_; focus ((first | exact Nat.le_refl _ | (simp; done) | (simp; omega) | omega | fail))) | fail)))).mono ?_
              rintro e v3 ⟨cb, rfl, hcb, c3'⟩
              have c3 : Below wr.heap.size wr v3 := by (repeat' (first | with_reducible assumption | with_reducible exact Below.refl _ _ | (with_reducible refine Below.alloc ?_ ?_ _; rotate_left; focus ((first | exact Nat.le_refl _ | (simp; done) | (simp; omega) | omega | fail))) | (with_reducible refine Below.setCell ?_ ?_ _; rotate_left; focus ((first | exact Nat.le_refl _ | (simp; done) | (simp; omega) | omega | fail))) | with_reducible refine Mem.bel_drewN ?_ _ | with_reducible refine Below.drew ?_ | (with_reducible refine Mem.bel_call (by with_reducible assumption) ?_ ?_; focus ((first | exact Nat.le_refl _ | (simp; done) | (simp; omega) | omega | fail))) | fail))
              have hc : cb = true := hcb.2 ⟨HR.out, HIS.out⟩
              subst hc
              clear hcb
              go_wp2_with fail
              go_roundw
              case rel => exact ⟨j + 1, by omega, by go_num, bl.out.trans (c3.mono zl)⟩
              case measure => simp [intOf]; omega
            · obtain rfl : j = ni := by omega
              have qj : ¬ (j : Int) < (j : Int) := by omega
              go_wp2_with fail
              go_ret
              exact ⟨rfl, bwr⟩
  · have K13 := Lib.hid k13
    have e13 : (T.k == 13) = false := by rw [beq_eq_false_iff_ne]; exact k13
    by_cases k9 : T.k = 9
    · have K9 := Lib.hid k9
      have e9 : (T.k == 9) = true := by rw [beq_iff_eq]; exact k9
      clear k13 k9
      obtain ⟨_, _, _, _⟩ := B2.facts K1.out
      obtain ⟨_, _, _, _, _, _, _, _, _, _, _, _⟩ := B6.facts K2.out
      go_wp2_with fail
      obtain ⟨W6, hW6⟩ : ∃ W, W = w5.alloc (.cells #[.int .i64 T.k, .string T.name, .slice X2 T.al.length x2, .slice X3 T.fs.length x3, .slice X4 T.sy.length x4, .bool T.has, .string T.df, .int .i64 T.size, .int .i64 T.items, .slice X9 T.br.length x9] 40) := ⟨_, rfl⟩
      rw [← hW6] at BW6 Z6 K1 K2 K3
      rw [← hW6, ← HGN2.out]
      clear hW6
      have GSZ : Hid (gn < W6.heap.size ∧ w.heap.size + 1 < W6.heap.size ∧ w.heap.size < W6.heap.size) := by have := Z6.out; have := HGN.out; exact ⟨by omega, by omega, by omega⟩
      have BW := Lib.hid BW6.out
      with_reducible refine (CFM.out (p : Int) _ BW.out).mono ?_
      rintro e v1 ⟨cb, rfl, hcb, c1⟩
      have zc := c1.size
      have gsz := GSZ.out
      have hgn0 := HGN.out.2
      have H1 := Lib.hid (B2.below K1.out c1 (by omega))
      have H2 := Lib.hid (B6.below K2.out c1 (by omega))
      have H3 := Lib.hid (B10.below K3.out c1 (by omega))
      have BV := Lib.hid (BW.out.trans (c1.mono BW.out.size))
      have gv : Hid (gn < v1.heap.size) := by show _ < _; omega
      obtain ⟨_, _, _, _⟩ := B2.facts H1.out
      obtain ⟨_, _, _, _, _, _, _, _, _, _, _, _⟩ := B6.facts H2.out
      obtain ⟨_, _, _, _, _, _, _, _, _, _, _, _, _, _, _, _, _, _, _, _⟩ := B10.facts H3.out
      have HCB := Lib.hid hcb
      clear hcb c1 zc gsz K1 K2 K3 GSZ BW
      cases cb with
      | false =>
        go_wp2_with fail
        go_ret
        exact ⟨rfl, BV.out⟩
      | true =>
        have PKI := Lib.hid (PK.out (HCB.out.1 (by first | rfl | trivial)).2)
        have SK := Lib.hid (fun W (b : Below v1.heap.size v1 W) => sKids_any T (by have := SMN.out.2.1; omega) (by have := SMN.out.2.2.1; omega) W X2 X3 X4 X9 x2 x3 x4 x9 ((LX.out.below (BV.out.trans (b.mono BV.out.size))).more (Nat.le_trans BV.out.size b.size)))
        clear HCB PK
        go_wp2_with fail
        with_reducible refine (SK.out _ (Below.refl _ _)).mono ?_
        rintro e v2 ⟨B, d, rfl, lk, rk, c2⟩
        have zk := c2.size
        have gv1 := gv.out
        have hgn0 := HGN.out.2
        have bv2 : Below w.heap.size w v2 := BV.out.trans (c2.mono BV.out.size)
        have J1 := Lib.hid (B2.below H1.out c2 (by omega))
        have J2 := Lib.hid (B6.below H2.out c2 (by omega))
        have J3 := Lib.hid (B10.below H3.out c2 (by omega))
        have gv2 : Hid (gn < v2.heap.size) := by show _ < _; omega
        obtain ⟨_, _, _, _⟩ := B2.facts J1.out
        obtain ⟨_, _, _, _, _, _, _, _, _, _, _, _⟩ := B6.facts J2.out
        obtain ⟨_, _, _, _, _, _, _, _, _, _, _, _, _, _, _, _, _, _, _, _⟩ := B10.facts J3.out
        have RK : Hid (RowD v2 (· < v2.heap.size) 1 (T.kids.map (D.i .i64)) B) := rk.keep (fun _ _ => rfl) fun _ h => h.2
        have BV2 := Lib.hid bv2
        obtain ⟨nk, hnk⟩ : ∃ n, n = T.kids.length := ⟨_, rfl⟩
        have HNK := Lib.hid hnk
        obtain ⟨ni, hni⟩ : ∃ n, n = t.its.length := ⟨_, rfl⟩
        have HNI := Lib.hid hni
        rw [← hnk]
        rw [← hni] at J2 lb4
        clear SK H1 H2 H3 gv gv1 zk rk lk c2 BV bv2 hnk hni
        go_wp2_with fail
        rw [← HNI.out]
        go_loopw [94] (fun x wr => ∃ j : Nat, j ≤ ni ∧ x = .int .i64 (j : Int) ∧ Hid (Below v2.heap.size v2 wr)) (fun x _ => ni - (intOf x).toNat)
        case atStart => exact ⟨0, Nat.zero_le _, rfl, Below.refl _ _⟩
        case round =>
          obtain ⟨j, hj, rfl, bl⟩ := hrel
          have gvv := gv2.out
          have hgn0 := HGN.out.2
          have zl := bl.out.size
          have bwr : Below w.heap.size w wr := BV2.out.trans (bl.out.mono BV2.out.size)
          have M1 := Lib.hid (B2.below J1.out bl.out (by omega))
          have M2 := Lib.hid (B6.below J2.out bl.out (by omega))
          have M3 := Lib.hid (B10.below J3.out bl.out (by omega))
          obtain ⟨_, _, _, _⟩ := B2.facts M1.out
          obtain ⟨_, hvn, _, _, _, _, _, _, _, _, _, _⟩ := B6.facts M2.out
          obtain ⟨_, _, _, _, _, _, _, _, _, _, _, _, _, _, _, _, _, _, _, _⟩ := B10.facts M3.out
          by_cases hjn : j < ni
          · have h1 : j < t.its.length := by rw [← HNI.out]; exact hjn
            have qj : (j : Int) < (ni : Int) := by omega
            obtain ⟨hk1, hk2, hk3, hk4⟩ := PKI.out j h1
            obtain ⟨b2, o2, Y3, z3, Y4, z4, Y5, z5, e2, lb2, ⟨u0, u1, u2, u3, u4, u5⟩, ty⟩ := values_at (R4.out.below bwr) h1
            have lb2' : b2 < wr.heap.size := Nat.lt_of_lt_of_le lb2 bwr.size
            have hwj : (t.its[j]'h1).wt ≤ 1000000 := HWI.out j h1
            obtain ⟨KD, hKD⟩ : ∃ k, k = kidOf T t.n j := ⟨_, rfl⟩
            rw [← hKD] at hk1
            have qk : (j : Int) < (nk : Int) := by have := hk2 K9.out; rw [← HNK.out] at this; omega
            obtain ⟨gk, ok, ek, lk, kc⟩ := ints_at (RK.out.below bl.out) (i := j) (hk2 K9.out)
            have ekd : T.kids[j]'(hk2 K9.out) = KD := by rw [hKD]; unfold kidOf; rw [if_pos K9.out, getD_at (hk2 K9.out)]
            rw [ekd] at kc
            have CJ := Lib.hid (fun W (b : Below wr.heap.size wr W) => CFIM.out (t.its[j]'h1) hwj KD W (bwr.trans (b.mono bwr.size)) Y3 Y4 Y5 z3 z4 z5 (((ty.more bwr.size).below b).more b.size))
            have HIS := Lib.hid hk1
            generalize t.its[j]'h1 = Y at *
            have lk' : gk < wr.heap.size := by omega
            have ek2 := ek
            subst ek2 e2
            obtain ⟨W3, W4, W5⟩ : w.heap.size < wr.heap.size ∧ w.heap.size + 1 < wr.heap.size ∧ gn < wr.heap.size := ⟨by omega, by omega, by omega⟩
            have BWR := Lib.hid bwr
            clear ty hk1 hk2 hk3 hk4 h1 hKD hwj ekd ek
            go_wp2_with fail
            with_reducible refine (CJ.out _ (by (repeat' (first | with_reducible assumption | with_reducible exact Below.refl _ _ | (with_reducible refine Below.alloc ?_ ?_ _; rotate_left; focus ((first | exact Nat.le_refl _ | (simp; done) | (simp; omega) | omega | fail))) | (with_reducible refine Below.setCell ?_ ?_ _; rotate_left; focus ((first | exact Nat.le_refl _ | (simp; done) | (simp; omega) | omega | fail))) | with_reducible refine Mem.bel_drewN ?_ _ | with_reducible refine Below.drew ?_ | (with_reducible refine Mem.bel_call (by with_reducible assumption) ?_ ?_; focus ((first | exact Nat.le_refl _ | (simp; done) | (simp; omega) | omega | fail))) | fail)))).mono ?_
            rintro e v3 ⟨cb, rfl, hcb, c3'⟩
            have c3 : Below wr.heap.size wr v3 := by (repeat' (first | with_reducible assumption | with_reducible exact Below.refl _ _ | (with_reducible refine Below.alloc ?_ ?_ _; rotate_left; focus ((first | exact Nat.le_refl _ | (simp; done) | (simp; omega) | omega | fail))) | (with_reducible refine Below.setCell ?_ ?_ _; rotate_left; focus ((first | exact Nat.le_refl _ | (simp; done) | (simp; omega) | omega | fail))) | with_reducible refine Mem.bel_drewN ?_ _ | with_reducible refine Below.drew ?_ | (with_reducible refine Mem.bel_call (by with_reducible assumption) ?_ ?_; focus ((first | exact Nat.le_refl _ | (simp; done) | (simp; omega) | omega | fail))) | fail))
            have hc : cb = true := hcb.2 ⟨HR.out, HIS.out⟩
            subst hc
            clear hcb
            go_wp2_with fail
            go_roundw
            case rel => exact ⟨j + 1, by omega, by go_num, bl.out.trans (c3.mono zl)⟩
            case measure => simp [intOf]; omega
          · obtain rfl : j = ni := by omega
            have qj : ¬ (j : Int) < (j : Int) := by omega
            go_wp2_with fail
            go_ret
            exact ⟨rfl, bwr⟩
    · have K9 := Lib.hid k9
      have e9 : (T.k == 9) = false := by rw [beq_eq_false_iff_ne]; exact k9
      clear k13 k9
      obtain ⟨_, _, _, _⟩ := B2.facts K1.out
      obtain ⟨_, _, _, _, _, _, _, _, _, _, _, _⟩ := B6.facts K2.out
      go_wp2_with fail
      obtain ⟨W6, hW6⟩ : ∃ W, W = w5.alloc (.cells #[.int .i64 T.k, .string T.name, .slice X2 T.al.length x2, .slice X3 T.fs.length x3, .slice X4 T.sy.length x4, .bool T.has, .string T.df, .int .i64 T.size, .int .i64 T.items, .slice X9 T.br.length x9] 40) := ⟨_, rfl⟩
      rw [← hW6] at BW6 Z6 K1 K2 K3
      rw [← hW6, ← HGN2.out]
      clear hW6
      have GSZ : Hid (gn < W6.heap.size ∧ w.heap.size + 1 < W6.heap.size ∧ w.heap.size < W6.heap.size) := by have := Z6.out; have := HGN.out; exact ⟨by omega, by omega, by omega⟩
      have BW := Lib.hid BW6.out
      with_reducible refine (CFM.out (p : Int) _ BW.out).mono ?_
      rintro e v1 ⟨cb, rfl, hcb, c1⟩
      have zc := c1.size
      have gsz := GSZ.out
      have hgn0 := HGN.out.2
      have H1 := Lib.hid (B2.below K1.out c1 (by omega))
      have H2 := Lib.hid (B6.below K2.out c1 (by omega))
      have H3 := Lib.hid (B10.below K3.out c1 (by omega))
      have BV := Lib.hid (BW.out.trans (c1.mono BW.out.size))
      have gv : Hid (gn < v1.heap.size) := by show _ < _; omega
      obtain ⟨_, _, _, _⟩ := B2.facts H1.out
      obtain ⟨_, _, _, _, _, _, _, _, _, _, _, _⟩ := B6.facts H2.out
      obtain ⟨_, _, _, _, _, _, _, _, _, _, _, _, _, _, _, _, _, _, _, _⟩ := B10.facts H3.out
      have HCB := Lib.hid hcb
      clear hcb c1 zc gsz K1 K2 K3 GSZ BW
      cases cb with
      | false =>
        go_wp2_with fail
        go_ret
        exact ⟨rfl, BV.out⟩
      | true =>
        have PKI := Lib.hid (PK.out (HCB.out.1 (by first | rfl | trivial)).2)
        have SK := Lib.hid (fun W (b : Below v1.heap.size v1 W) => sKids_any T (by have := SMN.out.2.1; omega) (by have := SMN.out.2.2.1; omega) W X2 X3 X4 X9 x2 x3 x4 x9 ((LX.out.below (BV.out.trans (b.mono BV.out.size))).more (Nat.le_trans BV.out.size b.size)))
        clear HCB PK
        go_wp2_with fail
        with_reducible refine (SK.out _ (Below.refl _ _)).mono ?_
        rintro e v2 ⟨B, d, rfl, lk, rk, c2⟩
        have zk := c2.size
        have gv1 := gv.out
        have hgn0 := HGN.out.2
        have bv2 : Below w.heap.size w v2 := BV.out.trans (c2.mono BV.out.size)
        have J1 := Lib.hid (B2.below H1.out c2 (by omega))
        have J2 := Lib.hid (B6.below H2.out c2 (by omega))
        have J3 := Lib.hid (B10.below H3.out c2 (by omega))
        have gv2 : Hid (gn < v2.heap.size) := by show _ < _; omega
        obtain ⟨_, _, _, _⟩ := B2.facts J1.out
        obtain ⟨_, _, _, _, _, _, _, _, _, _, _, _⟩ := B6.facts J2.out
        obtain ⟨_, _, _, _, _, _, _, _, _, _, _, _, _, _, _, _, _, _, _, _⟩ := B10.facts J3.out
        have RK : Hid (RowD v2 (· < v2.heap.size) 1 (T.kids.map (D.i .i64)) B) := rk.keep (fun _ _ => rfl) fun _ h => h.2
        have BV2 := Lib.hid bv2
        obtain ⟨nk, hnk⟩ : ∃ n, n = T.kids.length := ⟨_, rfl⟩
        have HNK := Lib.hid hnk
        obtain ⟨ni, hni⟩ : ∃ n, n = t.its.length := ⟨_, rfl⟩
        have HNI := Lib.hid hni
        rw [← hnk]
        rw [← hni] at J2 lb4
        clear SK H1 H2 H3 gv gv1 zk rk lk c2 BV bv2 hnk hni
        go_wp2_with fail
        rw [← HNI.out]
        go_loopw [94] (fun x wr => ∃ j : Nat, j ≤ ni ∧ x = .int .i64 (j : Int) ∧ Hid (Below v2.heap.size v2 wr)) (fun x _ => ni - (intOf x).toNat)
        case atStart => exact ⟨0, Nat.zero_le _, rfl, Below.refl _ _⟩
        case round =>
          obtain ⟨j, hj, rfl, bl⟩ := hrel
          have gvv := gv2.out
          have hgn0 := HGN.out.2
          have zl := bl.out.size
          have bwr : Below w.heap.size w wr := BV2.out.trans (bl.out.mono BV2.out.size)
          have M1 := Lib.hid (B2.below J1.out bl.out (by omega))
          have M2 := Lib.hid (B6.below J2.out bl.out (by omega))
          have M3 := Lib.hid (B10.below J3.out bl.out (by omega))
          obtain ⟨_, _, _, _⟩ := B2.facts M1.out
          obtain ⟨_, hvn, _, _, _, _, _, _, _, _, _, _⟩ := B6.facts M2.out
          obtain ⟨_, _, _, _, _, _, _, _, _, _, _, _, _, _, _, _, _, _, _, _⟩ := B10.facts M3.out
          by_cases hjn : j < ni
          · have h1 : j < t.its.length := by rw [← HNI.out]; exact hjn
            have qj : (j : Int) < (ni : Int) := by omega
            obtain ⟨hk1, hk2, hk3, hk4⟩ := PKI.out j h1
            obtain ⟨b2, o2, Y3, z3, Y4, z4, Y5, z5, e2, lb2, ⟨u0, u1, u2, u3, u4, u5⟩, ty⟩ := values_at (R4.out.below bwr) h1
            have lb2' : b2 < wr.heap.size := Nat.lt_of_lt_of_le lb2 bwr.size
            have hwj : (t.its[j]'h1).wt ≤ 1000000 := HWI.out j h1
            obtain ⟨KD, hKD⟩ : ∃ k, k = kidOf T t.n j := ⟨_, rfl⟩
            rw [← hKD] at hk1
            have hx1 : T.kids.length = 1 := hk4 K9.out K13.out
            have hn1 : nk = 1 := by rw [HNK.out]; exact hx1
            have qx : ((nk : Int) == 1) = true := by rw [hn1]; rfl
            have qx0 : (0 : Int) < (nk : Int) := by omega
            obtain ⟨gk, ok, ek, lk, kc⟩ := ints_at (RK.out.below bl.out) (i := 0) (by omega)
            have ekd : T.kids[0]'(by omega) = KD := by rw [hKD]; unfold kidOf; rw [if_neg K9.out, if_neg K13.out, getD_at (by omega)]
            rw [Nat.add_zero] at kc
            rw [ekd] at kc
            clear hx1 hn1 ekd
            have CJ := Lib.hid (fun W (b : Below wr.heap.size wr W) => CFIM.out (t.its[j]'h1) hwj KD W (bwr.trans (b.mono bwr.size)) Y3 Y4 Y5 z3 z4 z5 (((ty.more bwr.size).below b).more b.size))
            have HIS := Lib.hid hk1
            generalize t.its[j]'h1 = Y at *
            have lk' : gk < wr.heap.size := by omega
            have ek2 := ek
            subst ek2 e2
            obtain ⟨W3, W4, W5⟩ : w.heap.size < wr.heap.size ∧ w.heap.size + 1 < wr.heap.size ∧ gn < wr.heap.size := ⟨by omega, by omega, by omega⟩
            have BWR := Lib.hid bwr
            clear ty hk1 hk2 hk3 hk4 h1 hKD hwj ek
            go_wp2_with fail
            with_reducible refine (CJ.out _ (by (repeat' (first | with_reducible assumption | with_reducible exact Below.refl _ _ | (with_reducible refine Below.alloc ?_ ?_ _; rotate_left; focus ((first | exact Nat.le_refl _ | (simp; done) | (simp; omega) | omega | fail))) | (with_reducible refine Below.setCell ?_ ?_ _; rotate_left; focus ((first | exact Nat.le_refl _ | (simp; done) | (simp; omega) | omega | fail))) | with_reducible refine Mem.bel_drewN ?_ _ | with_reducible refine Below.drew ?_ | (with_reducible refine Mem.bel_call (by with_reducible assumption) ?_ ?_; focus ((first | exact Nat.le_refl _ | (simp; done) | (simp; omega) | omega | fail))) | fail)))).mono ?_
            rintro e v3 ⟨cb, rfl, hcb, c3'⟩
            have c3 : Below wr.heap.size wr v3 := by (repeat' (first | with_reducible assumption | with_reducible exact Below.refl _ _ | (with_reducible refine Below.alloc ?_ ?_ _; rotate_left; focus ((first | exact Nat.le_refl _ | (simp; done) | (simp; omega) | omega | fail))) | (with_reducible refine Below.setCell ?_ ?_ _; rotate_left; focus ((first | exact Nat.le_refl _ | (simp; done) | (simp; omega) | omega | fail))) | with_reducible refine Mem.bel_drewN ?_ _ | with_reducible refine Below.drew ?_ | (with_reducible refine Mem.bel_call (by with_reducible assumption) ?_ ?_; focus ((first | exact Nat.le_refl _ | (simp; done) | (simp; omega) | omega | fail))) | fail))
            have hc : cb = true := hcb.2 ⟨HR.out, HIS.out⟩
            subst hc
            clear hcb
            go_wp2_with fail
            go_roundw
            case rel => exact ⟨j + 1, by omega, by go_num, bl.out.trans (c3.mono zl)⟩
            case measure => simp [intOf]; omega
          · obtain rfl : j = ni := by omega
            have qj : ¬ (j : Int) < (j : Int) := by omega
            go_wp2_with fail
            go_ret
            exact ⟨rfl, bwr⟩
end Go.Proofs.YtlpmcohbbffbfaaDoor
