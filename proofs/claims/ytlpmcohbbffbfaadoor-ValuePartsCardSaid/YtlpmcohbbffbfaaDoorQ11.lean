/- Joined by tools/bundle.py: VCC. -/
import Derived.Deep.LoopGhost
import Derived.Lib.SliceRun
import Derived.Test.YtlpmcohbbffbfaaDoorQ4
import Derived.Test.YtlpmcohbbffbfaaDoorQ7
import Derived.Test.YtlpmcohbbffbfaaDoorQ10
namespace Go.Proofs.YtlpmcohbbffbfaaDoor
open Go.ChangeShapes Go.WideShapes Go.ChangeAt Go.RowKit Mem
theorem valueT : RecT Tryd.prog 24 27 6 (.agg #[.int .i64 0, .int .i64 0, .int .u64 0, .slice none 0 0, .slice none 0 0, .slice none 0 0]) 96 := ⟨by kernel_rfl, by kernel_rfl, rfl, by decide, by decide⟩
theorem octT : RecT Tryd.prog 23 5 1 (.int .u8 0) 1 := ⟨by kernel_rfl, by kernel_rfl, rfl, by decide, by decide⟩
def ClA (s : Nat) (ds : List D) (w : World) (e : Ending) (w' : World) : Prop := ∃ v, e = .returned v ∧ Below w.heap.size w w' ∧ ((ds = [] ∧ ∃ A c, v = .slice A 0 c) ∨ (0 < ds.length ∧ ∃ g o c, v = .slice (some ⟨g, o, none⟩) ds.length c ∧ ds.length ≤ c ∧ InR w' w.heap.size s g o [] ds))
theorem clA_nil {s : Nat} {w w' : World} {A : Option Addr} {c : Nat} (b : Below w.heap.size w w') : ClA s [] w (.returned (.slice A 0 c)) w' := ⟨_, rfl, b, .inl ⟨rfl, A, c, rfl⟩⟩
theorem clA_own {s n : Nat} {e : TypeId} {ds : List D} {xs : List Value} {v : Value} {w w' : World} (h : OwnR w' w.heap.size e s v n xs) (hn : n = ds.length) (he : ElsS w (· < w.heap.size) s ds xs) (b : Below w.heap.size w w') : ClA s ds w (.returned v) w' := by
  subst hn
  rcases Nat.eq_zero_or_pos ds.length with h0 | h0
  · obtain ⟨A, c, ev, _⟩ := h.fl
    exact ⟨v, rfl, b, .inl ⟨List.length_eq_zero_iff.1 h0, A, c, by rw [ev, h0]⟩⟩
  · obtain ⟨g, o, c, e1, h1, h2⟩ := InR.start h h0 (he.keep (fun p hp => b.cell hp) fun _ h => h) rfl
    exact ⟨v, rfl, b, .inr ⟨h0, g, o, c, e1, h1, h2⟩⟩
theorem els_octs {w : World} {S : Nat → Prop} : ∀ (l : List UInt8), ElsS w S 1 (l.map u8D) (l.map cel)
  | [] => rfl
  | x :: r => ⟨[cel x], r.map cel, rfl, rfl, lies_i.2 rfl, els_octs r⟩
set_option maxRecDepth 100000 in
set_option maxHeartbeats 4000000 in
theorem cloneV_any (ds : List D) (hs : ds.length ≤ 100000000) (w : World) (A : Option Addr) (c : Nat) (h : RowD w (· < w.heap.size) 6 ds A) :
    Calls Tryd.prog 34 #[.slice A ds.length c] w (ClA 6 ds w) := by
  obtain ⟨xs, he, hf⟩ := RowD.els (by decide) h
  have FL := Lib.hid (fls_fl (B := w.heap.size) hf (fun _ h => h))
  have HE := Lib.hid he
  have nq := fun (A : Option Addr) (n c : Nat) (W : World) => Lib.run_eql_slice_nil (P := Tryd.prog) W 24 27 A n c 0 0 valueT.sl
  cases A with
  | none =>
    obtain rfl : ds = [] := by
      rcases ds with _ | ⟨x, r⟩
      · rfl
      · obtain ⟨_, _, _, e, _⟩ := h.at_ (i := 0) (by simp)
        cases e
    clear h FL hf he HE
    go_enter Tryd.func34, Tryd.ntmps34
    go_wp2_with fail
    go_ret
    exact clA_nil (Below.refl _ _)
  | some ad =>
    have W1 : Below w.heap.size w (w.alloc (.cells #[] 27)) := (Below.refl _ _).alloc (Nat.le_refl _) _
    have FW := Lib.hid (Fl.below FL.out W1)
    have O0 := Lib.hid (own_litR w 27 6 (Nat.le_refl w.heap.size))
    have HLEN : Hid (xs.length = ds.length * 6) := HE.out.len
    obtain ⟨n, hn⟩ : ∃ n, n = ds.length := ⟨_, rfl⟩
    have HN := Lib.hid hn
    rw [← hn] at hs HLEN ⊢
    clear h FL hn hf he
    go_enter Tryd.func34, Tryd.ntmps34
    go_wp2_with (at_builtin; refine wpList_appRs _ valueT rfl (.tmp 5) (.tmp 6) rfl w.heap.size _ 0 _ rfl O0.out w.heap.size (some ad) n c xs rfl HLEN.out FW.out HE.out.one (by omega) (by simp) ?_; intro v3 w3 o3 b3)
    go_ret
    exact clA_own o3 (by rw [← HN.out]; omega) (by rw [List.nil_append]; exact HE.out) (W1.trans b3)
set_option maxRecDepth 100000 in
set_option maxHeartbeats 4000000 in
theorem cloneS_any (ds : List D) (hs : ds.length ≤ 100000000) (w : World) (A : Option Addr) (c : Nat) (h : RowD w (· < w.heap.size) 1 ds A) :
    Calls Tryd.prog 35 #[.slice A ds.length c] w (ClA 1 ds w) := by
  obtain ⟨xs, he, hf⟩ := RowD.els (by decide) h
  have FL := Lib.hid (fls_fl (B := w.heap.size) hf (fun _ h => h))
  have HE := Lib.hid he
  have nq := fun (A : Option Addr) (n c : Nat) (W : World) => Lib.run_eql_slice_nil (P := Tryd.prog) W 25 9 A n c 0 0 textT.sl
  cases A with
  | none =>
    obtain rfl : ds = [] := by
      rcases ds with _ | ⟨x, r⟩
      · rfl
      · obtain ⟨_, _, _, e, _⟩ := h.at_ (i := 0) (by simp)
        cases e
    clear h FL hf he HE
    go_enter Tryd.func35, Tryd.ntmps35
    go_wp2_with fail
    go_ret
    exact clA_nil (Below.refl _ _)
  | some ad =>
    have W1 : Below w.heap.size w (w.alloc (.cells #[] 9)) := (Below.refl _ _).alloc (Nat.le_refl _) _
    have FW := Lib.hid (Fl.below FL.out W1)
    have O0 := Lib.hid (own_litR w 9 1 (Nat.le_refl w.heap.size))
    have HLEN : Hid (xs.length = ds.length * 1) := HE.out.len
    obtain ⟨n, hn⟩ : ∃ n, n = ds.length := ⟨_, rfl⟩
    have HN := Lib.hid hn
    rw [← hn] at hs HLEN ⊢
    clear h FL hn hf he
    go_enter Tryd.func35, Tryd.ntmps35
    go_wp2_with (at_builtin; refine wpList_appRs _ textT rfl (.tmp 5) (.tmp 6) rfl w.heap.size _ 0 _ rfl O0.out w.heap.size (some ad) n c xs rfl HLEN.out FW.out HE.out.one (by omega) (by simp) ?_; intro v3 w3 o3 b3)
    go_ret
    exact clA_own o3 (by rw [← HN.out]; omega) (by rw [List.nil_append]; exact HE.out) (W1.trans b3)
set_option maxRecDepth 100000 in
set_option maxHeartbeats 4000000 in
theorem cloneB_any (l : List UInt8) (hs : l.length ≤ 100000000) (w : World) (A : Option Addr) (c : Nat) (h : RowD w (· < w.heap.size) 1 (l.map u8D) A) :
    Calls Tryd.prog 18 #[.slice A l.length c] w (NewA 1 (l.map u8D) w) := by
  have FL := Lib.hid (fls_fl (B := w.heap.size) (row_cel h) (fun _ h => h))
  have nq := fun (A : Option Addr) (n c : Nat) (W : World) => Lib.run_eql_slice_nil (P := Tryd.prog) W 23 5 A n c 0 0 octT.sl
  cases A with
  | none =>
    obtain rfl : l = [] := by
      rcases l with _ | ⟨x, r⟩
      · rfl
      · obtain ⟨_, _, _, e, _⟩ := h.at_ (i := 0) (by simp)
        cases e
    clear h FL
    go_enter Tryd.func18, Tryd.ntmps18
    go_wp2_with fail
    go_ret
    exact newA_ret rfl (Nat.le_refl _) (NewR.nil_ _ _ _ _) (Below.refl _ _)
  | some ad =>
    have W1 : Below w.heap.size w (w.alloc (.cells #[] 5)) := (Below.refl _ _).alloc (Nat.le_refl _) _
    have FW := Lib.hid (Fl.below FL.out W1)
    have O0 := Lib.hid (own_litR w 5 1 (Nat.le_refl w.heap.size))
    obtain ⟨n, hn⟩ : ∃ n, n = l.length := ⟨_, rfl⟩
    have HN := Lib.hid hn
    rw [← hn] at hs ⊢
    clear h FL hn
    go_enter Tryd.func18, Tryd.ntmps18
    go_wp2_with (at_builtin; refine wpList_appRs _ octT rfl (.tmp 5) (.tmp 6) rfl w.heap.size _ 0 _ rfl O0.out w.heap.size (some ad) n c (l.map cel) rfl (by rw [List.length_map, HN.out]; omega) FW.out (by intro u hu; obtain ⟨x, _, rfl⟩ := List.mem_map.1 hu; rfl) (by omega) (by simp) ?_; intro v3 w3 o3 b3)
    obtain ⟨A', c', rfl, hc, hr⟩ := GatS.done (v := v3) (w := w3) (base := w.heap.size) (e := 5) (s := 1) (ds := l.map u8D) ⟨fun _ => False, l.map cel, by rw [List.length_map, ← HN.out]; simpa using o3, els_octs l, fun _ h => h.elim, fun _ h => h.elim⟩
    go_ret
    exact newA_ret (by simp) (by simpa using hc) hr (W1.trans b3)
theorem newV {w : World} {l : Nat} {t : V} {A3 A4 A5 : Option Addr} {c3 c4 c5 : Nat} (h3 : NewR w l 1 (t.bs.map u8D) A3) (l3 : Len t.bs.length c3) (h4 : NewR w l 6 (t.its.map V.enc) A4) (l4 : Len t.its.length c4) (h5 : NewR w l 1 (t.ks.map D.s) A5) (l5 : Len t.ks.length c5) : NewD w l t.enc [.int .i64 t.k, .int .i64 t.n, .int .u64 t.bt, .slice A3 t.bs.length c3, .slice A4 t.its.length c4, .slice A5 t.ks.length c5] := by
  obtain ⟨S3, a1, a2, a3⟩ := h3
  obtain ⟨S4, b1, b2, b3⟩ := h4
  obtain ⟨S5, e1, e2, e3⟩ := h5
  refine ⟨fun b => S3 b ∨ S4 b ∨ S5 b, fun b hb => ?_, V.out.2 ⟨_, _, _, _, _, _, rfl, l3, a2.keep (fun _ _ => rfl) (fun _ h => .inl h), l4, b2.keep (fun _ _ => rfl) (fun _ h => .inr (.inl h)), l5, row_strs.1 (e2.keep (fun _ _ => rfl) fun _ h => .inr (.inr h))⟩, fun p hp => ?_⟩
  · rcases hb with h | h | h
    · exact a1 b h
    · exact b1 b h
    · exact e1 b h
  · rcases hp with h | h | h
    · exact a3 p h
    · exact b3 p h
    · exact e3 p h
def NewN (s n : Nat) (ds : List D) (w : World) (e : Ending) (w' : World) : Prop := ∃ A c, e = .returned (.slice A n c) ∧ n ≤ c ∧ NewR w' w.heap.size s ds A ∧ Below w.heap.size w w'
theorem newN_of {P : Program} {f : FuncId} {xs : Array Value} {s n : Nat} {ds : List D} {w : World} (h : Calls P f xs w (NewA s ds w)) (hn : ds.length = n) : Calls P f xs w (NewN s n ds w) :=
  h.mono fun _ _ ⟨A, c, h1, h2, h3, h4⟩ => ⟨A, c, by rw [h1, hn], by rw [← hn]; exact h2, h3, h4⟩
theorem set6_new {w : World} {g l : Nat} (hg : g < l) (x0 x1 x2 x3 x4 x5 : Value) {s : Nat} {ds : List D} {A : Option Addr} (h : NewR w l s ds A) :
    NewR ((((((w.setCell ⟨g, 0, none⟩ x0).setCell ⟨g, 1, none⟩ x1).setCell ⟨g, 2, none⟩ x2).setCell ⟨g, 3, none⟩ x3).setCell ⟨g, 4, none⟩ x4).setCell ⟨g, 5, none⟩ x5) l s ds A :=
  (((((h.set hg x0).set hg x1).set hg x2).set hg x3).set hg x4).set hg x5
theorem post_V {fn : Func} {R : Ending → World → Prop} {a : Act} {w : World} {t : Tmp} {g : Nat} {x0 x1 x2 x3 x4 x5 : Value} (hf : fn.results = #[.cell t 27]) (hd : a.defers = [])
    (hg : a.tmps.getD t undef = .pointer (some ⟨g, 0, none⟩)) (h0 : w.cell? ⟨g, 0, none⟩ = some x0) (h1 : w.cell? ⟨g, 1, none⟩ = some x1) (h2 : w.cell? ⟨g, 2, none⟩ = some x2) (h3 : w.cell? ⟨g, 3, none⟩ = some x3) (h4 : w.cell? ⟨g, 4, none⟩ = some x4) (h5 : w.cell? ⟨g, 5, none⟩ = some x5)
    (hR : R (.returned (.agg #[x0, x1, x2, x3, x4, x5])) w) : bodyPost Tryd.prog fn R .ret a w := by
  refine bodyPost_ret ?_ hd hR
  rw [Array.getD_eq_getD_getElem?] at hg
  simp [results, hf, hg, go_sem, h0, h1, h2, h3, h4, h5]
def CpV (t : V) : Prop := ∀ (w : World) (A3 A4 A5 : Option Addr) (c3 c4 c5 : Nat), t.wt ≤ 1000000 → Lies w (· < w.heap.size) t.enc [.int .i64 t.k, .int .i64 t.n, .int .u64 t.bt, .slice A3 t.bs.length c3, .slice A4 t.its.length c4, .slice A5 t.ks.length c5] →
    Calls Tryd.prog 7 #[.agg #[.int .i64 t.k, .int .i64 t.n, .int .u64 t.bt, .slice A3 t.bs.length c3, .slice A4 t.its.length c4, .slice A5 t.ks.length c5]] w (fun e w' => ∃ B3 d3 B4 d4 B5 d5, e = .returned (.agg #[.int .i64 t.k, .int .i64 t.n, .int .u64 t.bt, .slice B3 t.bs.length d3, .slice B4 t.its.length d4, .slice B5 t.ks.length d5]) ∧ NewD w' w.heap.size t.enc [.int .i64 t.k, .int .i64 t.n, .int .u64 t.bt, .slice B3 t.bs.length d3, .slice B4 t.its.length d4, .slice B5 t.ks.length d5] ∧ Below w.heap.size w w')
set_option maxRecDepth 100000 in
set_option maxHeartbeats 8000000 in
theorem eachVS_any (l : List ByteArray) (hs : ∀ i (h : i < l.length), (l[i]'h).size ≤ 1000000000) (hl : l.length ≤ 100000000) (w : World) (A : Option Addr) (c : Nat) (h : FlS w (· < w.heap.size) A (l.map Value.string)) :
    Calls Tryd.prog 20 #[.slice A l.length c, .func (.func 21) #[] #[]] w (NewA 1 (l.map D.s) w) := by
  have CS := cell_set
  have LM : Hid ((l.map D.s).length = l.length) := List.length_map ..
  have CL := Lib.hid (cloneS_any (l.map D.s) (by rw [List.length_map]; exact hl) w A c (row_strs.2 h))
  rw [LM.out] at CL
  have SC := Lib.hid (fun i (h : i < l.length) W => sclone_any (l[i]'h) (hs i h) W)
  obtain ⟨n, hn⟩ : ∃ n, n = l.length := ⟨_, rfl⟩
  have HN := Lib.hid hn
  rw [← hn] at hl CL ⊢
  have hb : n ≤ 9223372036854775807 := by omega
  clear hn h hs
  go_enter Tryd.func20, Tryd.ntmps20
  go_wp2_with fail
  with_reducible refine CL.out.mono ?_
  rintro e w1 ⟨v, rfl, b1, ⟨hd, A', c', rfl⟩ | ⟨hp, g, o, c', rfl, hc, HI0⟩⟩
  · have hd2 : l = [] := List.map_eq_nil_iff.1 hd
    subst hd2
    have n0 : n = 0 := HN.out
    subst n0
    clear HN hd CL SC LM
    go_wp2_with fail
    go_loopw [12] (fun t wr => t = .int .i64 0 ∧ wr = w1) (fun _ _ => 0)
    case atStart => exact ⟨rfl, rfl⟩
    case round =>
      obtain ⟨rfl, rfl⟩ := hrel
      go_wp2_with fail
      go_ret
      exact newA_ret rfl (Nat.zero_le _) (NewR.nil_ _ _ _ _) b1
  · have HJ0 := Lib.hid HI0
    rw [LM.out] at hp hc ⊢
    rw [← HN.out] at hp hc ⊢
    have hgg := HI0.block
    clear HI0 CL
    go_wp2_with fail
    go_loopw [12] (fun t wr => ∃ j : Nat, j ≤ n ∧ t = .int .i64 (j : Int) ∧ Hid (InR wr w.heap.size 1 g o ((l.take j).map D.s) ((l.drop j).map D.s)) ∧ Hid (Below w.heap.size w wr)) (fun t _ => n - (intOf t).toNat)
    case atStart => exact ⟨0, Nat.zero_le _, rfl, HJ0.out, b1⟩
    case round =>
      obtain ⟨j, hj, rfl, HG, bl⟩ := hrel
      have bl2 := bl.out
      have z := bl2.size
      by_cases hjn : j < n
      · have h1 : j < l.length := by rw [← HN.out]; exact hjn
        have q : (j : Int) < (n : Int) := by omega
        have hg2 := HG.out
        have DR : l.drop j = (l[j]'h1) :: l.drop (j + 1) := List.drop_eq_getElem_cons h1
        rw [DR, List.map_cons] at hg2
        have LJ : ((l.take j).map D.s).length = j := by rw [List.length_map, List.length_take]; omega
        obtain ⟨cs, hcl, hcc, hcd⟩ := hg2.head
        have y0 := hcc 0 (by omega)
        rw [LJ, lies_s.1 hcd, Nat.mul_one, Nat.add_zero] at y0
        have f0 := hg2.fro (o + j)
        have gw := hg2.block.2
        have SCj := Lib.hid (SC.out j h1)
        have TK : Hid ((l.take (j + 1)).map D.s = (l.take j).map D.s ++ [D.s (l[j]'h1)]) := by
          show _ = _
          rw [List.take_succ_eq_append_getElem h1, List.map_append]; rfl
        have PUT : Hid (∀ w1, Below wr.heap.size wr w1 → InR (w1.setCell ⟨g, o + j, none⟩ (.string (l[j]'h1))) w.heap.size 1 g o ((l.take j).map D.s ++ [D.s (l[j]'h1)]) ((l.drop (j + 1)).map D.s)) := fun w1 b => hg2.put1 LJ b ⟨fun _ => False, fun _ h => h.elim, lies_s.2 rfl, fun _ h => h.elim⟩
        clear hg2 hcc hcd DR HG
        generalize l[j]'h1 = Y at *
        clear h1
        go_wp2_with fail
        with_reducible refine (SCj.out _).mono ?_
        rintro e w3 ⟨rfl, b3⟩
        have y1 := (b3.cell (p := ⟨g, o + j, none⟩) gw).trans y0
        have f1 := (b3.frozen (p := ⟨g, o + j, none⟩) gw).trans f0
        have P1 := Lib.hid (PUT.out w3 b3)
        go_wp2_with fail
        go_roundw
        case rel => exact ⟨j + 1, by omega, by go_num, by rw [TK.out]; exact P1.out, (bl2.trans (b3.mono z)).setCell hgg.1 _⟩
        case measure => simp [intOf]; omega
      · obtain rfl : j = n := by omega
        have q : ¬ (j : Int) < (j : Int) := by omega
        have TK : l.take j = l := by rw [HN.out, List.take_length]
        have DK : l.drop j = [] := by rw [HN.out, List.drop_length]
        rw [TK, DK] at HG
        have HR := Lib.hid (InR.done HG.out)
        clear HG
        go_wp2_with fail
        go_ret
        exact newA_ret (by rw [LM.out]; exact HN.out) hc HR.out bl2
set_option maxRecDepth 100000 in
set_option maxHeartbeats 8000000 in
theorem eachV_any (l : List V) (IHs : ∀ i (h : i < l.length), CpV (l[i]'h)) (hs : ∀ i (h : i < l.length), (l[i]'h).wt ≤ 1000000) (hl : l.length ≤ 100000000) (w : World) (A : Option Addr) (c : Nat) (h : RowD w (· < w.heap.size) 6 (l.map V.enc) A) :
    Calls Tryd.prog 19 #[.slice A l.length c, .func (.func 7) #[] #[]] w (NewA 6 (l.map V.enc) w) := by
  have CS := cell_set
  have LM : Hid ((l.map V.enc).length = l.length) := List.length_map ..
  have CL := Lib.hid (cloneV_any (l.map V.enc) (by rw [List.length_map]; exact hl) w A c h)
  rw [LM.out] at CL
  have IH := Lib.hid IHs
  have HW := Lib.hid hs
  obtain ⟨n, hn⟩ : ∃ n, n = l.length := ⟨_, rfl⟩
  have HN := Lib.hid hn
  rw [← hn] at hl CL ⊢
  have hb : n ≤ 9223372036854775807 := by omega
  clear hn h IHs hs
  go_enter Tryd.func19, Tryd.ntmps19
  go_wp2_with fail
  with_reducible refine CL.out.mono ?_
  rintro e w1 ⟨v, rfl, b1, ⟨hd, A', c', rfl⟩ | ⟨hp, g, o, c', rfl, hc, HI0⟩⟩
  · have hd2 : l = [] := List.map_eq_nil_iff.1 hd
    subst hd2
    have n0 : n = 0 := HN.out
    subst n0
    clear HN hd CL IH HW LM
    go_wp2_with fail
    go_loopw [12] (fun t wr => t = .int .i64 0 ∧ wr = w1) (fun _ _ => 0)
    case atStart => exact ⟨rfl, rfl⟩
    case round =>
      obtain ⟨rfl, rfl⟩ := hrel
      go_wp2_with fail
      go_ret
      exact newA_ret rfl (Nat.zero_le _) (NewR.nil_ _ _ _ _) b1
  · have HJ0 := Lib.hid HI0
    rw [LM.out] at hp hc ⊢
    rw [← HN.out] at hp hc ⊢
    have hgg := HI0.block
    clear HI0 CL
    go_wp2_with fail
    go_loopw [12] (fun t wr => ∃ j : Nat, j ≤ n ∧ t = .int .i64 (j : Int) ∧ Hid (InR wr w.heap.size 6 g o ((l.take j).map V.enc) ((l.drop j).map V.enc)) ∧ Hid (Below w.heap.size w wr)) (fun t _ => n - (intOf t).toNat)
    case atStart => exact ⟨0, Nat.zero_le _, rfl, HJ0.out, b1⟩
    case round =>
      obtain ⟨j, hj, rfl, HG, bl⟩ := hrel
      have bl2 := bl.out
      have z := bl2.size
      by_cases hjn : j < n
      · have h1 : j < l.length := by rw [← HN.out]; exact hjn
        have q : (j : Int) < (n : Int) := by omega
        have hg2 := HG.out
        have DR : l.drop j = (l[j]'h1) :: l.drop (j + 1) := List.drop_eq_getElem_cons h1
        rw [DR, List.map_cons] at hg2
        have LJ : ((l.take j).map V.enc).length = j := by rw [List.length_map, List.length_take]; omega
        obtain ⟨cs, hcl, hcc, hcd⟩ := hg2.head
        rw [LJ] at hcc
        obtain ⟨X3, x3, X4, x4, X5, x5, rfl, _⟩ := V.out.1 hcd
        have y0 := hcc 0 (by omega); have y1 := hcc 1 (by omega); have y2 := hcc 2 (by omega); have y3 := hcc 3 (by omega); have y4 := hcc 4 (by omega); have y5 := hcc 5 (by omega)
        rw [Nat.add_zero] at y0
        have CJ := Lib.hid (fun W (b : Below wr.heap.size wr W) => IH.out j h1 W X3 X4 X5 x3 x4 x5 (HW.out j h1) (((hcd.more z).below b).more b.size))
        have f0 := hg2.fro (o + j * 6); have f1 := hg2.fro (o + j * 6 + 1); have f2 := hg2.fro (o + j * 6 + 2); have f3 := hg2.fro (o + j * 6 + 3); have f4 := hg2.fro (o + j * 6 + 4); have f5 := hg2.fro (o + j * 6 + 5)
        have gw := hg2.block.2
        have TK : Hid ((l.take (j + 1)).map V.enc = (l.take j).map V.enc ++ [V.enc (l[j]'h1)]) := by
          show _ = _
          rw [List.take_succ_eq_append_getElem h1, List.map_append]; rfl
        have PUT : Hid (∀ w1 v0 v1 v2 v3 v4 v5, Below wr.heap.size wr w1 → NewD w1 wr.heap.size (l[j]'h1).enc [v0, v1, v2, v3, v4, v5] → InR ((((((w1.setCell ⟨g, o + j * 6, none⟩ v0).setCell ⟨g, o + j * 6 + 1, none⟩ v1).setCell ⟨g, o + j * 6 + 2, none⟩ v2).setCell ⟨g, o + j * 6 + 3, none⟩ v3).setCell ⟨g, o + j * 6 + 4, none⟩ v4).setCell ⟨g, o + j * 6 + 5, none⟩ v5) w.heap.size 6 g o ((l.take j).map V.enc ++ [(l[j]'h1).enc]) ((l.drop (j + 1)).map V.enc)) := fun w1 v0 v1 v2 v3 v4 v5 b nd => hg2.put6 LJ b nd
        clear hg2 hcc hcd DR HG
        generalize l[j]'h1 = T at *
        clear h1
        go_wp2_with fail
        with_reducible refine (CJ.out _ (by (repeat' (first | with_reducible assumption | with_reducible exact Below.refl _ _ | (with_reducible refine Below.alloc ?_ ?_ _; rotate_left; focus ((first | exact Nat.le_refl _ | (simp; done) | (simp; omega) | omega | fail))) | (with_reducible refine Below.setCell ?_ ?_ _; rotate_left; focus ((first | exact Nat.le_refl _ | (simp; done) | (simp; omega) | omega | fail))) | with_reducible refine Mem.bel_drewN ?_ _ | with_reducible refine Below.drew ?_ | (with_reducible refine Mem.bel_call (by with_reducible assumption) ?_ ?_; focus ((first | exact Nat.le_refl _ | (simp; done) | (simp; omega) | omega | fail))) | fail)))).mono ?_
        rintro e w3 ⟨B3, d3, B4, d4, B5, d5, rfl, nd, b3'⟩
        have b3 : Below wr.heap.size wr w3 := by (repeat' (first | with_reducible assumption | with_reducible exact Below.refl _ _ | (with_reducible refine Below.alloc ?_ ?_ _; rotate_left; focus ((first | exact Nat.le_refl _ | (simp; done) | (simp; omega) | omega | fail))) | (with_reducible refine Below.setCell ?_ ?_ _; rotate_left; focus ((first | exact Nat.le_refl _ | (simp; done) | (simp; omega) | omega | fail))) | with_reducible refine Mem.bel_drewN ?_ _ | with_reducible refine Below.drew ?_ | (with_reducible refine Mem.bel_call (by with_reducible assumption) ?_ ?_; focus ((first | exact Nat.le_refl _ | (simp; done) | (simp; omega) | omega | fail))) | fail))
        have ND : Hid (NewD w3 wr.heap.size T.enc [.int .i64 T.k, .int .i64 T.n, .int .u64 T.bt, .slice B3 T.bs.length d3, .slice B4 T.its.length d4, .slice B5 T.ks.length d5]) := nd.less (by simp)
        have y0 := (b3.cell (p := ⟨g, o + j * 6, none⟩) gw).trans y0; have y1 := (b3.cell (p := ⟨g, o + j * 6 + 1, none⟩) gw).trans y1; have y2 := (b3.cell (p := ⟨g, o + j * 6 + 2, none⟩) gw).trans y2; have y3 := (b3.cell (p := ⟨g, o + j * 6 + 3, none⟩) gw).trans y3; have y4 := (b3.cell (p := ⟨g, o + j * 6 + 4, none⟩) gw).trans y4; have y5 := (b3.cell (p := ⟨g, o + j * 6 + 5, none⟩) gw).trans y5
        have f0 := (b3.frozen (p := ⟨g, o + j * 6, none⟩) gw).trans f0; have f1 := (b3.frozen (p := ⟨g, o + j * 6 + 1, none⟩) gw).trans f1; have f2 := (b3.frozen (p := ⟨g, o + j * 6 + 2, none⟩) gw).trans f2; have f3 := (b3.frozen (p := ⟨g, o + j * 6 + 3, none⟩) gw).trans f3; have f4 := (b3.frozen (p := ⟨g, o + j * 6 + 4, none⟩) gw).trans f4; have f5 := (b3.frozen (p := ⟨g, o + j * 6 + 5, none⟩) gw).trans f5
        have P1 := Lib.hid (PUT.out w3 _ _ _ _ _ _ b3 ND.out)
        clear nd PUT
        go_wp2_with fail
        go_roundw
        case rel => exact ⟨j + 1, by omega, by go_num, by rw [TK.out]; exact P1.out, ((((((bl2.trans (b3.mono z)).setCell hgg.1 _).setCell hgg.1 _).setCell hgg.1 _).setCell hgg.1 _).setCell hgg.1 _).setCell hgg.1 _⟩
        case measure => simp [intOf]; omega
      · obtain rfl : j = n := by omega
        have q : ¬ (j : Int) < (j : Int) := by omega
        have TK : l.take j = l := by rw [HN.out, List.take_length]
        have DK : l.drop j = [] := by rw [HN.out, List.drop_length]
        rw [TK, DK] at HG
        have HR := Lib.hid (InR.done HG.out)
        clear HG
        go_wp2_with fail
        go_ret
        exact newA_ret (by rw [LM.out]; exact HN.out) hc HR.out bl2
set_option maxRecDepth 100000 in
set_option maxHeartbeats 8000000 in
theorem copyV_step (k n bt : Int) (bs : List UInt8) (its : List V) (ks : List ByteArray) (IHs : ∀ i (h : i < its.length), CpV (its[i]'h)) : CpV (.mk k n bt bs its ks) := by
  intro w A3 A4 A5 c3 c4 c5 hw ht
  have CS := cell_set
  obtain ⟨_, _, _, _, _, _, e, l3, r3, l4, r4, l5, f5⟩ := V.out.1 ht
  simp only [V.k, V.n, V.bt, V.bs, V.its, V.ks, List.cons.injEq, Value.slice.injEq, true_and, and_true] at e l3 r3 l4 r4 l5 f5
  obtain ⟨⟨rfl, rfl⟩, ⟨rfl, rfl⟩, rfl, rfl⟩ := e
  have hw' : 1 + bs.length + kwt ks + V.wts its ≤ 1000000 := by unfold V.wt at hw; exact hw
  have lk := kwt_len ks
  have li := vwts_len its
  have CBy := Lib.hid (fun W (b : Below w.heap.size w W) => newN_of (n := bs.length) (cloneB_any bs (by omega) W A3 c3 ((r3.below b).more b.size)) (List.length_map ..))
  have EV := Lib.hid (fun W (b : Below w.heap.size w W) => newN_of (n := its.length) (eachV_any its IHs (fun i h => by have := vwts_at h; omega) (by omega) W A4 c4 ((r4.below b).more b.size)) (List.length_map ..))
  have ES := Lib.hid (fun W (b : Below w.heap.size w W) => newN_of (n := ks.length) (eachVS_any ks (fun i h => by have := kwt_at h; omega) (by omega) W A5 c5 (FlS.keep (Below.keeps b) (fun _ h => Nat.lt_of_lt_of_le h b.size) f5)) (List.length_map ..))
  have NN : Hid (∀ (W : World) (B3 B4 B5 : Option Addr) (d3 d4 d5 : Nat), NewR W w.heap.size 1 (bs.map u8D) B3 → bs.length ≤ d3 → NewR W w.heap.size 6 (its.map V.enc) B4 → its.length ≤ d4 → NewR W w.heap.size 1 (ks.map D.s) B5 → ks.length ≤ d5 → NewD W w.heap.size (V.enc (.mk k n bt bs its ks)) [.int .i64 k, .int .i64 n, .int .u64 bt, .slice B3 bs.length d3, .slice B4 its.length d4, .slice B5 ks.length d5]) := fun W B3 B4 B5 d3 d4 d5 h3 k3 h4 k4 h5 k5 =>
    newV (t := .mk k n bt bs its ks) h3 ⟨k3, l3.2⟩ h4 ⟨k4, l4.2⟩ h5 ⟨k5, l5.2⟩
  simp only [V.k, V.n, V.bt, V.bs, V.its, V.ks]
  clear ht r3 r4 f5 l3 l4 l5 hw hw' lk li IHs
  obtain ⟨E, hE⟩ : ∃ E, E = V.enc (.mk k n bt bs its ks) := ⟨_, rfl⟩
  rw [← hE] at NN ⊢
  clear hE
  generalize bs.map u8D = bD at *
  generalize its.map V.enc = iD at *
  generalize ks.map D.s = kD at *
  generalize bs.length = nb at *
  generalize its.length = ni at *
  generalize ks.length = nk at *
  have H0 := Lib.hid (B6.alloc (B6.newat (w := w) (t := 27) (x0 := .int .i64 k) (x1 := .int .i64 n) (x2 := .int .u64 bt) (x3 := .slice A3 nb c3) (x4 := .slice A4 ni c4) (x5 := .slice A5 nk c5) rfl) (.cells #[.int .i64 0, .int .i64 0, .int .u64 0, .slice none 0 0, .slice none 0 0, .slice none 0 0] 27))
  have R0 := Lib.hid (B6.newat (w := w.alloc (.cells #[.int .i64 k, .int .i64 n, .int .u64 bt, .slice A3 nb c3, .slice A4 ni c4, .slice A5 nk c5] 27)) (g := w.heap.size + 1) (t := 27) (x0 := .int .i64 0) (x1 := .int .i64 0) (x2 := .int .u64 0) (x3 := .slice none 0 0) (x4 := .slice none 0 0) (x5 := .slice none 0 0) (by simp))
  have W0 := Lib.hid (by (repeat' (first | with_reducible assumption | with_reducible exact Below.refl _ _ | (with_reducible refine Below.alloc ?_ ?_ _; rotate_left; focus ((first | exact Nat.le_refl _ | (simp; done) | (simp; omega) | omega | fail))) | (with_reducible refine Below.setCell ?_ ?_ _; rotate_left; focus ((first | exact Nat.le_refl _ | (simp; done) | (simp; omega) | omega | fail))) | with_reducible refine Mem.bel_drewN ?_ _ | with_reducible refine Below.drew ?_ | (with_reducible refine Mem.bel_call (by with_reducible assumption) ?_ ?_; focus ((first | exact Nat.le_refl _ | (simp; done) | (simp; omega) | omega | fail))) | fail)) : Below w.heap.size w ((w.alloc (.cells #[.int .i64 k, .int .i64 n, .int .u64 bt, .slice A3 nb c3, .slice A4 ni c4, .slice A5 nk c5] 27)).alloc (.cells #[.int .i64 0, .int .i64 0, .int .u64 0, .slice none 0 0, .slice none 0 0, .slice none 0 0] 27)))
  have Z0 : Hid (((w.alloc (.cells #[.int .i64 k, .int .i64 n, .int .u64 bt, .slice A3 nb c3, .slice A4 ni c4, .slice A5 nk c5] 27)).alloc (.cells #[.int .i64 0, .int .i64 0, .int .u64 0, .slice none 0 0, .slice none 0 0, .slice none 0 0] 27)).heap.size = w.heap.size + 2) := by show _ = _; simp
  have ng : w.heap.size ≠ w.heap.size + 1 := by omega
  have nl : ¬ w.heap.size + 1 = w.heap.size := by omega
  go_enter Tryd.func7, Tryd.ntmps7
  go_wp2_with fail
  with_reducible refine (CBy.out _ W0.out).mono ?_
  rintro e w3 ⟨B3, d3, rfl, hd3, n3, b3⟩
  rw [Z0.out] at n3 b3
  have z3 := b3.size
  rw [Z0.out] at z3
  have bw3 : Below w.heap.size w w3 := W0.out.trans (b3.mono (Nat.le_add_right _ _))
  have h3 := Lib.hid (B6.below H0.out b3 (by omega))
  have r3 := Lib.hid (B6.below R0.out b3 (by omega))
  obtain ⟨_, _, _, _, _, _, _, _, _, _, _, _⟩ := B6.facts h3.out
  have H3 := Lib.hid (B6.set3 h3.out (.slice B3 nb d3))
  have R3 := Lib.hid (B6.past r3.out (p := ⟨w.heap.size, 3, none⟩) ng (.slice B3 nb d3))
  have N3 := Lib.hid (n3.set (g := w.heap.size) (i := 3) (by omega) (.slice B3 nb d3))
  have bX3 : Below w.heap.size w (w3.setCell ⟨w.heap.size, 3, none⟩ (.slice B3 nb d3)) := bw3.setCell (Nat.le_refl _) _
  have zX3 : w.heap.size + 2 ≤ (w3.setCell ⟨w.heap.size, 3, none⟩ (.slice B3 nb d3)).heap.size := by simp [World.setCell]; omega
  clear H0 R0 h3 r3 CBy W0 Z0 n3
  go_wp2_with fail
  generalize w3.setCell ⟨w.heap.size, 3, none⟩ (.slice B3 nb d3) = X3 at *
  have BX3 := Lib.hid bX3; have ZX3 := Lib.hid zX3
  clear z3 bX3 zX3
  obtain ⟨_, _, _, _, _, _, _, _, _, _, _, _⟩ := B6.facts H3.out
  go_wp2_with fail
  with_reducible refine (EV.out _ BX3.out).mono ?_
  rintro e w4 ⟨B4, d4, rfl, hd4, n4, b4⟩
  have zx := ZX3.out
  have z4 := b4.size
  have h4 := Lib.hid (B6.below H3.out b4 (by omega))
  have r4 := Lib.hid (B6.below R3.out b4 (by omega))
  have m3 := N3.out.below b4
  have n4 := n4.less (l' := w.heap.size + 2) zx
  have bw4 : Below w.heap.size w w4 := BX3.out.trans (b4.mono (by omega))
  obtain ⟨_, _, _, _, _, _, _, _, _, _, _, _⟩ := B6.facts h4.out
  have H4 := Lib.hid (B6.set4 h4.out (.slice B4 ni d4))
  have R4 := Lib.hid (B6.past r4.out (p := ⟨w.heap.size, 4, none⟩) ng (.slice B4 ni d4))
  have M3 := Lib.hid (m3.set (g := w.heap.size) (i := 4) (by omega) (.slice B4 ni d4))
  have N4 := Lib.hid (n4.set (g := w.heap.size) (i := 4) (by omega) (.slice B4 ni d4))
  have BX4 := Lib.hid (bw4.setCell (p := ⟨w.heap.size, 4, none⟩) (Nat.le_refl _) (.slice B4 ni d4))
  have ZX4 : Hid (w.heap.size + 2 ≤ (w4.setCell ⟨w.heap.size, 4, none⟩ (.slice B4 ni d4)).heap.size) := by show _ ≤ _; simp [World.setCell]; omega
  clear h4 r4 EV n4 m3 z4 zx H3 R3 N3 BX3 ZX3
  go_wp2_with fail
  generalize w4.setCell ⟨w.heap.size, 4, none⟩ (.slice B4 ni d4) = X4 at *
  obtain ⟨_, _, _, _, _, _, _, _, _, _, _, _⟩ := B6.facts H4.out
  go_wp2_with fail
  with_reducible refine (ES.out _ BX4.out).mono ?_
  rintro e w5 ⟨B5, d5, rfl, hd5, n5, b5⟩
  have zx := ZX4.out
  have z5 := b5.size
  have h5 := Lib.hid (B6.below H4.out b5 (by omega))
  have r5 := Lib.hid (B6.below R4.out b5 (by omega))
  have m3 := M3.out.below b5
  have m4 := N4.out.below b5
  have n5 := n5.less (l' := w.heap.size + 2) zx
  have bw5 : Below w.heap.size w w5 := BX4.out.trans (b5.mono (by omega))
  obtain ⟨_, _, _, _, _, _, _, _, _, _, _, _⟩ := B6.facts h5.out
  obtain ⟨_, _, _, _, _, _, _, _, _, _, _, _⟩ := B6.facts r5.out
  have H5 := Lib.hid (B6.set5 h5.out (.slice B5 nk d5))
  have R5 := Lib.hid (B6.past r5.out (p := ⟨w.heap.size, 5, none⟩) ng (.slice B5 nk d5))
  have M3' := Lib.hid (m3.set (g := w.heap.size) (i := 5) (by omega) (.slice B5 nk d5))
  have M4 := Lib.hid (m4.set (g := w.heap.size) (i := 5) (by omega) (.slice B5 nk d5))
  have N5 := Lib.hid (n5.set (g := w.heap.size) (i := 5) (by omega) (.slice B5 nk d5))
  have BX5 := Lib.hid (bw5.setCell (p := ⟨w.heap.size, 5, none⟩) (Nat.le_refl _) (.slice B5 nk d5))
  clear h5 r5 ES n5 m3 m4 z5 zx H4 R4 M3 N4 BX4 ZX4
  go_wp2_with fail
  try simp only [Exit.inBlock, Exit.then]
  refine post_V (x0 := .int .i64 k) (x1 := .int .i64 n) (x2 := .int .u64 bt) (x3 := .slice B3 nb d3) (x4 := .slice B4 ni d4) (x5 := .slice B5 nk d5) rfl rfl rfl (by go_simp) (by go_simp) (by go_simp) (by go_simp) (by go_simp) (by go_simp) ?_
  have K := fun (s : Nat) (ds : List D) (A : Option Addr) => set6_new (s := s) (ds := ds) (A := A) (w := w5.setCell ⟨w.heap.size, 5, none⟩ (.slice B5 nk d5)) (g := w.heap.size + 1) (l := w.heap.size + 2) (Nat.lt_succ_self _) (.int .i64 k) (.int .i64 n) (.int .u64 bt) (.slice B3 nb d3) (.slice B4 ni d4) (.slice B5 nk d5)
  have bE := ((((((BX5.out.setCell (p := ⟨w.heap.size + 1, 0, none⟩) (Nat.le_succ _) (.int .i64 k)).setCell (p := ⟨w.heap.size + 1, 1, none⟩) (Nat.le_succ _) (.int .i64 n)).setCell (p := ⟨w.heap.size + 1, 2, none⟩) (Nat.le_succ _) (.int .u64 bt)).setCell (p := ⟨w.heap.size + 1, 3, none⟩) (Nat.le_succ _) (.slice B3 nb d3)).setCell (p := ⟨w.heap.size + 1, 4, none⟩) (Nat.le_succ _) (.slice B4 ni d4)).setCell (p := ⟨w.heap.size + 1, 5, none⟩) (Nat.le_succ _) (.slice B5 nk d5))
  exact ⟨B3, d3, B4, d4, B5, d5, rfl, NN.out _ _ _ _ _ _ _ ((K _ _ _ M3'.out).less (Nat.le_add_right _ _)) hd3 ((K _ _ _ M4.out).less (Nat.le_add_right _ _)) hd4 ((K _ _ _ N5.out).less (Nat.le_add_right _ _)) hd5, bE⟩
theorem copyV_at : ∀ (N : Nat) (t : V), SizeOf.sizeOf t ≤ N → CpV t
  | 0, t, h => by cases t; simp at h
  | N + 1, .mk k n bt bs its ks, hN => copyV_step k n bt bs its ks fun i h => copyV_at N (its[i]'h) (by have := V.lt_its (v := .mk k n bt bs its ks) (i := i) h; simp only [V.its] at this; omega)
theorem copyV_any (t : V) : CpV t := copyV_at _ t (Nat.le_refl _)
end Go.Proofs.YtlpmcohbbffbfaaDoor
