/- Joined by tools/bundle.py: BC5 BC6 BC8 GatX. -/
import Derived.BigQuiet
import Derived.Test.YthogheglddfniaaGreatDoorW3
import Derived.Test.YthogheglddfniaaGreatDoorW10
import Derived.Test.YthogheglddfniaaGreatDoorW0
set_option maxRecDepth 100000
set_option maxHeartbeats 16000000
namespace Go.Proofs.YthogheglddfniaaGreatDoor
open Go.ChangeShapes Go.WideShapes Go.ChangeAt Go.RowKit Mem
def AlP (R : Except Int (List ByteArray)) (w : World) (e : Ending) (w' : World) : Prop :=
 Below w.heap.size w w' ∧ (∀ z, R = .error z → e = .returned (.tuple #[.slice none 0 0, .int .i64 z]) ∧ z ≠ 0) ∧ ∀ l, R = .ok l → ∃ v, e = .returned (.tuple #[v, .int .i64 0]) ∧ GatS w' w.heap.size 9 1 v (l.map D.s)
theorem alp_no {R : Except Int (List ByteArray)} {z : Int} {w w' : World} (h : R = .error z) (hz : z ≠ 0) (b : Below w.heap.size w w') : AlP R w (.returned (.tuple #[.slice none 0 0, .int .i64 z])) w' :=
 ⟨b, (fun y hy => by rw [h] at hy; injection hy with hy; exact ⟨by rw [hy], by omega⟩), fun l hl => by rw [h] at hl; cases hl⟩
theorem alp_yes {R : Except Int (List ByteArray)} {l : List ByteArray} {v : Value} {w w' : World} (h : R = .ok l) (b : Below w.heap.size w w') (g : GatS w' w.heap.size 9 1 v (l.map D.s)) : AlP R w (.returned (.tuple #[v, .int .i64 0])) w' :=
 ⟨b, (fun e he => by rw [h] at he; cases he), fun l' hl => by rw [h] at hl; injection hl with hl; subst hl; exact ⟨v, rfl, g⟩⟩
theorem mapO_snoc {f : ByteArray → Option ByteArray} {t u : ByteArray} (hu : f t = some u) : ∀ {l m : List ByteArray}, mapO f l = some m → mapO f (l ++ [t]) = some (m ++ [u])
 | [], m, h => by
  unfold mapO at h
  obtain rfl := Option.some.inj h
  show mapO f [t] = some [u]
  rw [mapO, hu]; rfl
 | x :: r, m, h => by
  rw [mapO] at h
  rw [List.cons_append, mapO]
  cases hx : f x with
  | none => rw [hx] at h; cases h
  | some y =>
   rw [hx] at h
   obtain ⟨q, hq, rfl⟩ := Option.map_eq_some_iff.1 h
   show (mapO f (r ++ [t])).map (y :: ·) = _
   rw [mapO_snoc hu hq]; rfl
theorem mapO_stop {f : ByteArray → Option ByteArray} {t : ByteArray} {s : List ByteArray} (hu : f t = none) : ∀ {l m : List ByteArray}, mapO f l = some m → mapO f (l ++ t :: s) = none
 | [], m, h => by show mapO f (t :: s) = none; rw [mapO, hu]
 | x :: r, m, h => by
  rw [mapO] at h
  rw [List.cons_append, mapO]
  cases hx : f x with
  | none => rfl
  | some y =>
   rw [hx] at h
   obtain ⟨q, hq, rfl⟩ := Option.map_eq_some_iff.1 h
   show (mapO f (r ++ t :: s)).map (y :: ·) = _
   rw [mapO_stop hu hq]; rfl
def simO (s : ByteArray) : Option ByteArray := if simpB s = true then some s else none
theorem els_strs {w w' : World} {S S' : Nat → Prop} : ∀ {l : List ByteArray} {xs : List Value}, ElsS w S 1 (l.map D.s) xs → ElsS w' S' 1 (l.map D.s) xs
 | [], _, h => h
 | _ :: _, _, ⟨c1, c2, e, h1, h2, h3⟩ => ⟨c1, c2, e, h1, lies_s.2 (lies_s.1 h2), els_strs h3⟩
theorem GatS.puts {w : World} {base : Nat} {e : TypeId} {v : Value} {l : List ByteArray} (h : GatS w base e 1 v (l.map D.s)) {i : Nat} (hi : i < l.length) : ∃ g c, v = .slice (some ⟨g, 0, none⟩) l.length c ∧ base ≤ g ∧ g < w.heap.size ∧ w.frozen? ⟨g, i, none⟩ = false ∧ w.cell? ⟨g, i, none⟩ = some (.string (l[i]'hi)) ∧
 ∀ w1, Below w.heap.size w w1 → ∀ u, GatS (w1.setCell ⟨g, i, none⟩ (.string u)) base e 1 v ((l.set i u).map D.s) := by
 obtain ⟨S, xs, h1, h2, h3, h4⟩ := h
 rcases h1.2 with ⟨_, h0⟩ | ⟨g, cap, cur, ev, hb, hg, hc, hm, hs, ht⟩
 · rw [List.length_map] at h0; omega
 · subst ev
   have hlt : g < w.heap.size := (Array.getElem?_eq_some_iff.1 hg).1
   have hil : i < (l.map D.s).length := by simpa using hi
   obtain ⟨cs, c1, c2, c3⟩ := ElsS.at_ h2 hil
   rw [List.getElem_map] at c2
   obtain rfl := lies_s.1 c2
   refine ⟨g, cap, by rw [List.length_map], hb, hlt, World.ownsRow.frozenAt h1 i, ?_, fun w1 b1 u => ?_⟩
   · rw [World.ownsRow.cellAt h1 i (by rw [List.length_map]; omega)]
     have := c3 0 (by omega)
     rw [Nat.mul_one, Nat.add_zero] at this
     exact this
   · have o1 := OwnR.below h1 b1
     have st := World.ownsRow.stored o1 i (.string u)
     refine ⟨fun _ => False, xs.set i (.string u), by have := st.1; simp only [List.length_map, List.length_set] at this ⊢; exact this, ?_, fun _ h => h.elim, fun _ h => h.elim⟩
     have k := ElsS.put (d' := D.s u) (u := .string u) (i := 0) (by omega) h2 hil fun cs hl hcs => by
      rw [List.getElem_map] at hcs
      obtain rfl := lies_s.1 hcs
      exact lies_s.2 rfl
     rw [Nat.mul_one, Nat.add_zero] at k
     rw [← List.map_set] at k
     exact els_strs k
theorem called1_any (own s : ByteArray) (ho : own.size ≤ 1000000000) (hs : s.size ≤ 1000000000) (q : Nat) (w : World) (hL : LaidN w) (hq : w.cell? ⟨q, 0, none⟩ = some (.string own)) :
 Calls Tryz.prog 159 #[.string s, .pointer (some ⟨q, 0, none⟩)] w (Ans (joined (Nm.join own.data.toList s.data.toList)) w) := by
 have JA := Lib.hid (nJoin_any own s ho hs w hL)
 unfold joined at JA ⊢
 go_enter Tryz.func159, Tryz.ntmps159
 go_wp2_with fail
 with_reducible refine JA.out.mono ?_
 rintro e w1 ⟨rfl, b1⟩
 go_wp2_with fail
 go_ret2
 exact ⟨rfl, b1⟩
theorem field2_any (s : ByteArray) (hs : s.size ≤ 1000000000) (w : World) :
 Calls Tryz.prog 177 #[.string s] w (Ans (.tuple #[.string s, .bool (Nm.simple s.data.toList)]) w) := by
 have SA := Lib.hid (nSimple_pure s hs w)
 go_enter Tryz.func177, Tryz.ntmps177
 go_wp2_with fail
 with_reducible refine SA.out.mono ?_
 rintro e w1 ⟨rfl, rfl⟩
 go_wp2_with fail
 go_ret2
 exact ⟨rfl, Below.refl _ _⟩
theorem aliasC_any (S : Nat → Prop) (j : J) (w : World) (_hL : LaidN w) (hS : ∀ b, S b → b < w.heap.size) (A3 A4 : Option Addr) (c3 c4 : Nat) (ht : TreeS w S j [.int .i64 j.k, .int .i64 j.n, .string j.t, .slice A3 j.its.length c3, .slice A4 j.ks.length c4]) (hw : j.wt ≤ 1000000) (own : ByteArray) (ho : own.size ≤ 1000000) (q : Nat) (hql : q < w.heap.size) (hq : w.cell? ⟨q, 0, none⟩ = some (.string own)) (R : Except Int (List ByteArray)) (hR : R = balias (joinB own) (j.get kAliases)) :
 Calls Tryz.prog 158 #[.func (.func 47) #[.agg #[.int .i64 j.k, .int .i64 j.n, .string j.t, .slice A3 j.its.length c3, .slice A4 j.ks.length c4]] #[], .func (.func 159) #[] #[.pointer (some ⟨q, 0, none⟩)]] w (AlP R w) := by
 have CS := cell_set
 have FC : Hid (∀ t : ByteArray, t.size ≤ 1000000 → ∀ W, Below w.heap.size w W → Calls Tryz.prog 159 #[.string t, .pointer (some ⟨q, 0, none⟩)] W (match joinB own t with | none => fun e w' => (∃ u0, e = .returned (.tuple #[.string u0, .bool false])) ∧ Below W.heap.size W w' | some u => fun e w' => e = .returned (.tuple #[.string u, .bool true]) ∧ Below W.heap.size W w')) := fun t hts W b => by
  have c := called1_any own t (by omega) (by omega) q W (LaidN.below _hL b) ((b.cell (p := ⟨q, 0, none⟩) hql).trans hq)
  unfold joinB
  cases hj : Nm.join own.data.toList t.data.toList with
  | none => rw [hj] at c; exact c.mono fun e w' h => ⟨⟨_, h.1⟩, h.2⟩
  | some u => rw [hj] at c; exact c
 cases ho : j.get kAliases with
 | none =>
  have Z : Hid (R = .ok []) := by show _ = _; rw [hR]; unfold balias; rw [ho]
  have IT := Lib.hid (take_none S j kAliases w hS A3 A4 c3 c4 ht ho)
  unfold kAliases at IT
  clear hR ho ht hS FC
  go_enter Tryz.func158, Tryz.ntmps158
  go_wp2_with fail
  with_reducible refine IT.out.mono ?_
  rintro e w1 ⟨X3, x3, X4, x4, rfl, _, b1⟩
  have s1 := b1.size
  go_wp2_with fail
  go_ret2
  exact alp_yes Z.out bqq (GatS.none_ _ _ _ _)
 | some x =>
 have IT := Lib.hid (take_some S j kAliases w hS A3 A4 c3 c4 ht ho)
 have TX := Lib.hid (fun W (b : Below w.heap.size w W) => texts_any S j kAliases W (fun k hk => Nat.lt_of_lt_of_le (hS k hk) b.size) A3 A4 c3 c4 (TreeS.keep (fun p hp => b.cell (hS _ hp)) (fun _ h => h) ht) hw _ rfl)
 have xw : x.wt ≤ 1000000 := Nat.le_trans (J.get_wt ho) hw
 have lx : x.its.length ≤ 1000000 := by have := wts_ln12 x.its; have := J.its_wt x; omega
 have sx : ∀ t ∈ x.its.map J.t, t.size ≤ 1000000 := fun t ht => by
  obtain ⟨y, hy, rfl⟩ := List.mem_map.1 ht
  have a := J.wts_mem hy
  have b := J.its_wt x
  have c : y.t.size ≤ y.wt := by cases y with | mk k n t its ks => unfold J.wt; show t.size ≤ _; omega
  omega
 have HR : Hid (R = match btexts x with | none => .error 30 | some l => if 40 < l.length then .error 3 else match mapO (joinB own) l with | none => .error 31 | some m => .ok m) := by show _ = _; rw [hR]; unfold balias; rw [ho]; rfl
 have hbt : ∀ l, btexts x = some l → l = x.its.map J.t := fun l h => by
  unfold btexts at h
  split at h
  · exact (Option.some.inj h).symm
  · cases h
 have eT : (j.get kAliases).bind btexts = btexts x := by rw [ho]; rfl
 rw [eT] at TX
 unfold kAliases at IT TX
 clear hR ho ht hS
 generalize hbx : btexts x = bo at *
 cases bo with
 | none =>
  have Z : Hid (R = .error 30) := HR.out
  clear HR FC
  go_enter Tryz.func158, Tryz.ntmps158
  go_wp2_with fail
  with_reducible refine IT.out.mono ?_
  rintro e w1 ⟨X3, x3, X4, x4, rfl, _, b1⟩
  have s1 := b1.size
  have bb : Hid (Below w.heap.size w (w1.alloc (.cells #[.int .i64 x.k, .int .i64 x.n, .string x.t, .slice X3 x.its.length x3, .slice X4 x.ks.length x4] 25))) := by show Below _ _ _; (repeat' (first | with_reducible assumption | with_reducible exact Below.refl _ _ | (with_reducible refine Below.alloc ?_ ?_ _; rotate_left; focus ((first | exact Nat.le_refl _ | (simp; done) | (simp; omega) | omega | fail))) | (with_reducible refine Below.setCell ?_ ?_ _; rotate_left; focus ((first | exact Nat.le_refl _ | (simp; done) | (simp; omega) | omega | fail))) | with_reducible refine Mem.bel_drewN ?_ _ | with_reducible refine Below.drew ?_ | (with_reducible refine Mem.bel_call (by with_reducible assumption) ?_ ?_; focus ((first | exact Nat.le_refl _ | (simp; done) | (simp; omega) | omega | fail))) | fail))
  go_wp2_with fail
  with_reducible refine (TX.out _ bb.out).mono ?_
  rintro e w2 tp
  obtain ⟨b2, h2, _⟩ := tp
  obtain rfl := h2 rfl
  have b3 := bb.out.trans (b2.mono bb.out.size)
  go_wp2_with fail
  go_ret2
  exact alp_no Z.out (by decide) b3
 | some l =>
  obtain rfl := hbt l rfl
  obtain ⟨L, hLL⟩ : ∃ L, L = x.its.map J.t := ⟨_, rfl⟩
  have ln : L.length ≤ 1000000 := by rw [hLL, List.length_map]; exact lx
  rw [← hLL] at HR TX sx
  clear hbt hbx hLL
  have HSX := Lib.hid sx
  clear sx
  go_enter Tryz.func158, Tryz.ntmps158
  go_wp2_with fail
  with_reducible refine IT.out.mono ?_
  rintro e w1 ⟨X3, x3, X4, x4, rfl, _, b1⟩
  have s1 := b1.size
  have bb : Hid (Below w.heap.size w (w1.alloc (.cells #[.int .i64 x.k, .int .i64 x.n, .string x.t, .slice X3 x.its.length x3, .slice X4 x.ks.length x4] 25))) := by show Below _ _ _; (repeat' (first | with_reducible assumption | with_reducible exact Below.refl _ _ | (with_reducible refine Below.alloc ?_ ?_ _; rotate_left; focus ((first | exact Nat.le_refl _ | (simp; done) | (simp; omega) | omega | fail))) | (with_reducible refine Below.setCell ?_ ?_ _; rotate_left; focus ((first | exact Nat.le_refl _ | (simp; done) | (simp; omega) | omega | fail))) | with_reducible refine Mem.bel_drewN ?_ _ | with_reducible refine Below.drew ?_ | (with_reducible refine Mem.bel_call (by with_reducible assumption) ?_ ?_; focus ((first | exact Nat.le_refl _ | (simp; done) | (simp; omega) | omega | fail))) | fail))
  go_wp2_with fail
  with_reducible refine (TX.out _ bb.out).mono ?_
  rintro e w2 tp
  obtain ⟨b2, _, h2⟩ := tp
  obtain ⟨v, rfl, hg⟩ := h2 L rfl
  have b3 := Lib.hid (bb.out.trans (b2.mono bb.out.size))
  have G0 := Lib.hid (GatS.less_ hg bb.out.size)
  obtain ⟨A, c, rfl, hc, _⟩ := hg.done
  rw [List.length_map] at hc G0 ⊢
  obtain ⟨n, hn⟩ : ∃ n, n = L.length := ⟨_, rfl⟩
  have HN := Lib.hid hn
  rw [← hn] at hc G0 ln ⊢
  have nmax : n ≤ 9223372036854775807 := by omega
  clear hn hg h2 b2 bb TX IT
  by_cases h40 : 40 < n
  · have Z : Hid (R = .error 3) := by show _ = _; rw [HR.out]; exact if_pos (by rw [← HN.out]; exact h40)
    have q : (40 : Int) < (n : Int) := by omega
    clear h40 HR FC
    go_wp2_with fail
    go_ret2
    exact alp_no Z.out (by decide) b3.out
  have q40 : ¬ (40 : Int) < (n : Int) := by omega
  have HR2 : Hid (R = match mapO (joinB own) L with | none => .error 31 | some m => .ok m) := by show _ = _; rw [HR.out]; exact if_neg (by rw [← HN.out]; exact h40)
  clear h40 HR
  go_wp2_with fail
  go_loopw [9, 10, 11, 31] (fun _ _ _ t wr => ∃ (i : Nat) (pre : List ByteArray), i ≤ n ∧ t = .int .i64 (i : Int) ∧ Hid (mapO (joinB own) (L.take i) = some pre) ∧ Hid (pre.length = i) ∧ Hid (GatS wr w.heap.size 9 1 (.slice A n c) ((pre ++ L.drop i).map D.s)) ∧ Hid (Below w.heap.size w wr)) (fun _ _ _ t _ => n - (intOf t).toNat)
  case atStart => exact ⟨0, [], Nat.zero_le _, rfl, rfl, rfl, G0.out, b3.out⟩
  case round =>
   obtain ⟨i, pre, hi, rfl, HM, HP, HG, bl⟩ := hrel
   by_cases hin : i < n
   · have h1 : i < L.length := by rw [← HN.out]; exact hin
     have q : (i : Int) < (n : Int) := by omega
     have hpi : i < (pre ++ L.drop i).length := by have := HP.out; simp; omega
     obtain ⟨g, cc, ev, hbg, hlg, hfz, hce, PUT⟩ := GatS.puts HG.out hpi
     obtain ⟨eA, eC⟩ : A = some ⟨g, 0, none⟩ ∧ c = cc := by
      simp only [Value.slice.injEq] at ev
      exact ⟨ev.1, ev.2.2⟩
     clear ev
     subst eA eC
     have e0 : (pre ++ L.drop i)[i]'hpi = L[i]'h1 := by
      rw [List.getElem_append_right (by rw [HP.out]; exact Nat.le_refl _)]
      simp [HP.out]
     rw [e0] at hce
     have FI := Lib.hid (FC.out (L[i]'h1) (by have := HSX.out _ (List.getElem_mem h1); omega) wr bl.out)
     have M1 : Hid (∀ u, (joinB own (L[i]'h1)) = some u → mapO (joinB own) (L.take (i + 1)) = some (pre ++ [u])) := fun u hu => by
      rw [List.take_succ_eq_append_getElem h1]; exact mapO_snoc hu HM.out
     have M0 : Hid ((joinB own (L[i]'h1)) = none → R = .error 31) := fun hu => by
      rw [HR2.out, show mapO (joinB own) L = none from by rw [← List.take_append_drop i L, List.drop_eq_getElem_cons h1]; exact mapO_stop hu HM.out]
     have SE : Hid (∀ u : ByteArray, (pre ++ L.drop i).set i u = (pre ++ [u]) ++ L.drop (i + 1)) := fun u => by
      rw [List.drop_eq_getElem_cons h1, List.set_append_right _ _ (by rw [HP.out]; exact Nat.le_refl _), HP.out, Nat.sub_self, List.set_cons_zero, List.append_assoc]
      rfl
     have hpn : pre.length = i := HP.out
     have PU := Lib.hid PUT
     have hgn : n = (pre ++ L.drop i).length := by have := HN.out; simp; omega
     generalize hY : L[i]'h1 = Y at *
     obtain ⟨o, hoo⟩ : ∃ o, o = joinB own Y := ⟨_, rfl⟩
     rw [← hoo] at FI M1 M0
     clear h1 e0 PUT hY HM HR2 hpi hoo hgn HG
     cases o with
     | none =>
      have Z := Lib.hid (M0.out rfl)
      clear M0 M1 SE
      go_wp2_with fail
      with_reducible refine FI.out.mono ?_
      rintro e w4 ⟨⟨u0, rfl⟩, b4⟩
      have z4 := b4.size
      have f4 := (b4.frozen (p := ⟨g, i, none⟩) hlg).trans hfz
      have k4 := (b4.cell (p := ⟨g, i, none⟩) hlg).trans hce
      have b5 : Below w.heap.size w w4 := bl.out.trans (b4.mono bl.out.size)
      go_wp2_with fail
      go_ret2
      exact alp_no Z.out (by decide) (b5.setCell hbg _)
     | some u =>
      have M2 := Lib.hid (M1.out u rfl)
      have PU2 : Hid (∀ w4, Below wr.heap.size wr w4 → GatS (w4.setCell ⟨g, i, none⟩ (.string u)) w.heap.size 9 1 (.slice (some ⟨g, 0, none⟩) n c) (((pre ++ [u]) ++ L.drop (i + 1)).map D.s)) := fun w4 b4 => by rw [← SE.out u]; exact PU.out w4 b4 u
      clear M0 M1 SE PU
      go_wp2_with fail
      with_reducible refine FI.out.mono ?_
      rintro e w4 ⟨rfl, b4⟩
      have z4 := b4.size
      have f4 := (b4.frozen (p := ⟨g, i, none⟩) hlg).trans hfz
      have k4 := (b4.cell (p := ⟨g, i, none⟩) hlg).trans hce
      have b5 : Below w.heap.size w w4 := bl.out.trans (b4.mono bl.out.size)
      have G4 := Lib.hid (PU2.out w4 b4)
      have B5 : Hid (Below w.heap.size w (w4.setCell ⟨g, i, none⟩ (.string u))) := b5.setCell hbg _
      go_wp2_with fail
      go_roundw
      case rel => exact ⟨i + 1, pre ++ [u], by omega, by go_num, M2, (by show _ = _; simp [hpn]), G4, B5⟩
      case measure => simp [intOf]; omega
   · obtain rfl : i = n := by omega
     have q : ¬ (i : Int) < (i : Int) := by omega
     have ed : L.drop i = [] := List.drop_eq_nil_of_le (by rw [← HN.out]; exact Nat.le_refl _)
     have et : L.take i = L := List.take_of_length_le (by rw [← HN.out]; exact Nat.le_refl _)
     have Z : Hid (R = .ok pre) := by show _ = _; rw [HR2.out, ← et, HM.out]
     rw [ed, List.append_nil] at HG
     clear HM HR2 ed et
     go_wp2_with fail
     go_ret2
     exact alp_yes Z.out bl.out HG.out
theorem aliasF_any (S : Nat → Prop) (j : J) (w : World) (_hL : LaidN w) (hS : ∀ b, S b → b < w.heap.size) (A3 A4 : Option Addr) (c3 c4 : Nat) (ht : TreeS w S j [.int .i64 j.k, .int .i64 j.n, .string j.t, .slice A3 j.its.length c3, .slice A4 j.ks.length c4]) (hw : j.wt ≤ 1000000) (R : Except Int (List ByteArray)) (hR : R = balias (simO) (j.get kAliases)) :
 Calls Tryz.prog 158 #[.func (.func 47) #[.agg #[.int .i64 j.k, .int .i64 j.n, .string j.t, .slice A3 j.its.length c3, .slice A4 j.ks.length c4]] #[], .func (.func 177) #[] #[]] w (AlP R w) := by
 have CS := cell_set
 have FC : Hid (∀ t : ByteArray, t.size ≤ 1000000 → ∀ W, Below w.heap.size w W → Calls Tryz.prog 177 #[.string t] W (match simO t with | none => fun e w' => (∃ u0, e = .returned (.tuple #[.string u0, .bool false])) ∧ Below W.heap.size W w' | some u => fun e w' => e = .returned (.tuple #[.string u, .bool true]) ∧ Below W.heap.size W w')) := fun t hts W b => by
  have c := field2_any t (by omega) W
  unfold simO simpB
  cases hj : Nm.simple t.data.toList with
  | false => rw [hj] at c; exact c.mono fun e w' h => ⟨⟨_, h.1⟩, h.2⟩
  | true => rw [hj] at c; exact c
 cases ho : j.get kAliases with
 | none =>
  have Z : Hid (R = .ok []) := by show _ = _; rw [hR]; unfold balias; rw [ho]
  have IT := Lib.hid (take_none S j kAliases w hS A3 A4 c3 c4 ht ho)
  unfold kAliases at IT
  clear hR ho ht hS FC
  go_enter Tryz.func158, Tryz.ntmps158
  go_wp2_with fail
  with_reducible refine IT.out.mono ?_
  rintro e w1 ⟨X3, x3, X4, x4, rfl, _, b1⟩
  have s1 := b1.size
  go_wp2_with fail
  go_ret2
  exact alp_yes Z.out bqq (GatS.none_ _ _ _ _)
 | some x =>
 have IT := Lib.hid (take_some S j kAliases w hS A3 A4 c3 c4 ht ho)
 have TX := Lib.hid (fun W (b : Below w.heap.size w W) => texts_any S j kAliases W (fun k hk => Nat.lt_of_lt_of_le (hS k hk) b.size) A3 A4 c3 c4 (TreeS.keep (fun p hp => b.cell (hS _ hp)) (fun _ h => h) ht) hw _ rfl)
 have xw : x.wt ≤ 1000000 := Nat.le_trans (J.get_wt ho) hw
 have lx : x.its.length ≤ 1000000 := by have := wts_ln12 x.its; have := J.its_wt x; omega
 have sx : ∀ t ∈ x.its.map J.t, t.size ≤ 1000000 := fun t ht => by
  obtain ⟨y, hy, rfl⟩ := List.mem_map.1 ht
  have a := J.wts_mem hy
  have b := J.its_wt x
  have c : y.t.size ≤ y.wt := by cases y with | mk k n t its ks => unfold J.wt; show t.size ≤ _; omega
  omega
 have HR : Hid (R = match btexts x with | none => .error 30 | some l => if 40 < l.length then .error 3 else match mapO (simO) l with | none => .error 31 | some m => .ok m) := by show _ = _; rw [hR]; unfold balias; rw [ho]; rfl
 have hbt : ∀ l, btexts x = some l → l = x.its.map J.t := fun l h => by
  unfold btexts at h
  split at h
  · exact (Option.some.inj h).symm
  · cases h
 have eT : (j.get kAliases).bind btexts = btexts x := by rw [ho]; rfl
 rw [eT] at TX
 unfold kAliases at IT TX
 clear hR ho ht hS
 generalize hbx : btexts x = bo at *
 cases bo with
 | none =>
  have Z : Hid (R = .error 30) := HR.out
  clear HR FC
  go_enter Tryz.func158, Tryz.ntmps158
  go_wp2_with fail
  with_reducible refine IT.out.mono ?_
  rintro e w1 ⟨X3, x3, X4, x4, rfl, _, b1⟩
  have s1 := b1.size
  have bb : Hid (Below w.heap.size w (w1.alloc (.cells #[.int .i64 x.k, .int .i64 x.n, .string x.t, .slice X3 x.its.length x3, .slice X4 x.ks.length x4] 25))) := by show Below _ _ _; (repeat' (first | with_reducible assumption | with_reducible exact Below.refl _ _ | (with_reducible refine Below.alloc ?_ ?_ _; rotate_left; focus ((first | exact Nat.le_refl _ | (simp; done) | (simp; omega) | omega | fail))) | (with_reducible refine Below.setCell ?_ ?_ _; rotate_left; focus ((first | exact Nat.le_refl _ | (simp; done) | (simp; omega) | omega | fail))) | with_reducible refine Mem.bel_drewN ?_ _ | with_reducible refine Below.drew ?_ | (with_reducible refine Mem.bel_call (by with_reducible assumption) ?_ ?_; focus ((first | exact Nat.le_refl _ | (simp; done) | (simp; omega) | omega | fail))) | fail))
  go_wp2_with fail
  with_reducible refine (TX.out _ bb.out).mono ?_
  rintro e w2 tp
  obtain ⟨b2, h2, _⟩ := tp
  obtain rfl := h2 rfl
  have b3 := bb.out.trans (b2.mono bb.out.size)
  go_wp2_with fail
  go_ret2
  exact alp_no Z.out (by decide) b3
 | some l =>
  obtain rfl := hbt l rfl
  obtain ⟨L, hLL⟩ : ∃ L, L = x.its.map J.t := ⟨_, rfl⟩
  have ln : L.length ≤ 1000000 := by rw [hLL, List.length_map]; exact lx
  rw [← hLL] at HR TX sx
  clear hbt hbx hLL
  have HSX := Lib.hid sx
  clear sx
  go_enter Tryz.func158, Tryz.ntmps158
  go_wp2_with fail
  with_reducible refine IT.out.mono ?_
  rintro e w1 ⟨X3, x3, X4, x4, rfl, _, b1⟩
  have s1 := b1.size
  have bb : Hid (Below w.heap.size w (w1.alloc (.cells #[.int .i64 x.k, .int .i64 x.n, .string x.t, .slice X3 x.its.length x3, .slice X4 x.ks.length x4] 25))) := by show Below _ _ _; (repeat' (first | with_reducible assumption | with_reducible exact Below.refl _ _ | (with_reducible refine Below.alloc ?_ ?_ _; rotate_left; focus ((first | exact Nat.le_refl _ | (simp; done) | (simp; omega) | omega | fail))) | (with_reducible refine Below.setCell ?_ ?_ _; rotate_left; focus ((first | exact Nat.le_refl _ | (simp; done) | (simp; omega) | omega | fail))) | with_reducible refine Mem.bel_drewN ?_ _ | with_reducible refine Below.drew ?_ | (with_reducible refine Mem.bel_call (by with_reducible assumption) ?_ ?_; focus ((first | exact Nat.le_refl _ | (simp; done) | (simp; omega) | omega | fail))) | fail))
  go_wp2_with fail
  with_reducible refine (TX.out _ bb.out).mono ?_
  rintro e w2 tp
  obtain ⟨b2, _, h2⟩ := tp
  obtain ⟨v, rfl, hg⟩ := h2 L rfl
  have b3 := Lib.hid (bb.out.trans (b2.mono bb.out.size))
  have G0 := Lib.hid (GatS.less_ hg bb.out.size)
  obtain ⟨A, c, rfl, hc, _⟩ := hg.done
  rw [List.length_map] at hc G0 ⊢
  obtain ⟨n, hn⟩ : ∃ n, n = L.length := ⟨_, rfl⟩
  have HN := Lib.hid hn
  rw [← hn] at hc G0 ln ⊢
  have nmax : n ≤ 9223372036854775807 := by omega
  clear hn hg h2 b2 bb TX IT
  by_cases h40 : 40 < n
  · have Z : Hid (R = .error 3) := by show _ = _; rw [HR.out]; exact if_pos (by rw [← HN.out]; exact h40)
    have q : (40 : Int) < (n : Int) := by omega
    clear h40 HR FC
    go_wp2_with fail
    go_ret2
    exact alp_no Z.out (by decide) b3.out
  have q40 : ¬ (40 : Int) < (n : Int) := by omega
  have HR2 : Hid (R = match mapO (simO) L with | none => .error 31 | some m => .ok m) := by show _ = _; rw [HR.out]; exact if_neg (by rw [← HN.out]; exact h40)
  clear h40 HR
  go_wp2_with fail
  go_loopw [9, 10, 11, 31] (fun _ _ _ t wr => ∃ (i : Nat) (pre : List ByteArray), i ≤ n ∧ t = .int .i64 (i : Int) ∧ Hid (mapO (simO) (L.take i) = some pre) ∧ Hid (pre.length = i) ∧ Hid (GatS wr w.heap.size 9 1 (.slice A n c) ((pre ++ L.drop i).map D.s)) ∧ Hid (Below w.heap.size w wr)) (fun _ _ _ t _ => n - (intOf t).toNat)
  case atStart => exact ⟨0, [], Nat.zero_le _, rfl, rfl, rfl, G0.out, b3.out⟩
  case round =>
   obtain ⟨i, pre, hi, rfl, HM, HP, HG, bl⟩ := hrel
   by_cases hin : i < n
   · have h1 : i < L.length := by rw [← HN.out]; exact hin
     have q : (i : Int) < (n : Int) := by omega
     have hpi : i < (pre ++ L.drop i).length := by have := HP.out; simp; omega
     obtain ⟨g, cc, ev, hbg, hlg, hfz, hce, PUT⟩ := GatS.puts HG.out hpi
     obtain ⟨eA, eC⟩ : A = some ⟨g, 0, none⟩ ∧ c = cc := by
      simp only [Value.slice.injEq] at ev
      exact ⟨ev.1, ev.2.2⟩
     clear ev
     subst eA eC
     have e0 : (pre ++ L.drop i)[i]'hpi = L[i]'h1 := by
      rw [List.getElem_append_right (by rw [HP.out]; exact Nat.le_refl _)]
      simp [HP.out]
     rw [e0] at hce
     have FI := Lib.hid (FC.out (L[i]'h1) (by have := HSX.out _ (List.getElem_mem h1); omega) wr bl.out)
     have M1 : Hid (∀ u, (simO (L[i]'h1)) = some u → mapO (simO) (L.take (i + 1)) = some (pre ++ [u])) := fun u hu => by
      rw [List.take_succ_eq_append_getElem h1]; exact mapO_snoc hu HM.out
     have M0 : Hid ((simO (L[i]'h1)) = none → R = .error 31) := fun hu => by
      rw [HR2.out, show mapO (simO) L = none from by rw [← List.take_append_drop i L, List.drop_eq_getElem_cons h1]; exact mapO_stop hu HM.out]
     have SE : Hid (∀ u : ByteArray, (pre ++ L.drop i).set i u = (pre ++ [u]) ++ L.drop (i + 1)) := fun u => by
      rw [List.drop_eq_getElem_cons h1, List.set_append_right _ _ (by rw [HP.out]; exact Nat.le_refl _), HP.out, Nat.sub_self, List.set_cons_zero, List.append_assoc]
      rfl
     have hpn : pre.length = i := HP.out
     have PU := Lib.hid PUT
     have hgn : n = (pre ++ L.drop i).length := by have := HN.out; simp; omega
     generalize hY : L[i]'h1 = Y at *
     obtain ⟨o, hoo⟩ : ∃ o, o = simO Y := ⟨_, rfl⟩
     rw [← hoo] at FI M1 M0
     clear h1 e0 PUT hY HM HR2 hpi hoo hgn HG
     cases o with
     | none =>
      have Z := Lib.hid (M0.out rfl)
      clear M0 M1 SE
      go_wp2_with fail
      with_reducible refine FI.out.mono ?_
      rintro e w4 ⟨⟨u0, rfl⟩, b4⟩
      have z4 := b4.size
      have f4 := (b4.frozen (p := ⟨g, i, none⟩) hlg).trans hfz
      have k4 := (b4.cell (p := ⟨g, i, none⟩) hlg).trans hce
      have b5 : Below w.heap.size w w4 := bl.out.trans (b4.mono bl.out.size)
      go_wp2_with fail
      go_ret2
      exact alp_no Z.out (by decide) (b5.setCell hbg _)
     | some u =>
      have M2 := Lib.hid (M1.out u rfl)
      have PU2 : Hid (∀ w4, Below wr.heap.size wr w4 → GatS (w4.setCell ⟨g, i, none⟩ (.string u)) w.heap.size 9 1 (.slice (some ⟨g, 0, none⟩) n c) (((pre ++ [u]) ++ L.drop (i + 1)).map D.s)) := fun w4 b4 => by rw [← SE.out u]; exact PU.out w4 b4 u
      clear M0 M1 SE PU
      go_wp2_with fail
      with_reducible refine FI.out.mono ?_
      rintro e w4 ⟨rfl, b4⟩
      have z4 := b4.size
      have f4 := (b4.frozen (p := ⟨g, i, none⟩) hlg).trans hfz
      have k4 := (b4.cell (p := ⟨g, i, none⟩) hlg).trans hce
      have b5 : Below w.heap.size w w4 := bl.out.trans (b4.mono bl.out.size)
      have G4 := Lib.hid (PU2.out w4 b4)
      have B5 : Hid (Below w.heap.size w (w4.setCell ⟨g, i, none⟩ (.string u))) := b5.setCell hbg _
      go_wp2_with fail
      go_roundw
      case rel => exact ⟨i + 1, pre ++ [u], by omega, by go_num, M2, (by show _ = _; simp [hpn]), G4, B5⟩
      case measure => simp [intOf]; omega
   · obtain rfl : i = n := by omega
     have q : ¬ (i : Int) < (i : Int) := by omega
     have ed : L.drop i = [] := List.drop_eq_nil_of_le (by rw [← HN.out]; exact Nat.le_refl _)
     have et : L.take i = L := List.take_of_length_le (by rw [← HN.out]; exact Nat.le_refl _)
     have Z : Hid (R = .ok pre) := by show _ = _; rw [HR2.out, ← et, HM.out]
     rw [ed, List.append_nil] at HG
     clear HM HR2 ed et
     go_wp2_with fail
     go_ret2
     exact alp_yes Z.out bl.out HG.out
def FxP (R : Except Int Int) (q : Nat) (w : World) (e : Ending) (w' : World) : Prop :=
 (∀ z, R = .error z → e = .returned (.int .i64 z) ∧ z ≠ 0 ∧ Below w.heap.size w w') ∧ ∀ n, R = .ok n → e = .returned (.int .i64 0) ∧ ∃ W, Below w.heap.size w W ∧ w' = W.setCell ⟨q, 7, none⟩ (.int .i64 n)
theorem fxp_no {R : Except Int Int} {q : Nat} {z : Int} {w w' : World} (h : R = .error z) (hz : z ≠ 0) (b : Below w.heap.size w w') : FxP R q w (.returned (.int .i64 z)) w' :=
 ⟨(fun y hy => by rw [h] at hy; injection hy with hy; exact ⟨by rw [hy], by omega, b⟩), fun l hl => by rw [h] at hl; cases hl⟩
theorem fxp_yes {R : Except Int Int} {q : Nat} {n : Int} {w W : World} (h : R = .ok n) (b : Below w.heap.size w W) : FxP R q w (.returned (.int .i64 0)) (W.setCell ⟨q, 7, none⟩ (.int .i64 n)) :=
 ⟨(fun y hy => by rw [h] at hy; cases hy), fun l hl => by rw [h] at hl; injection hl with hl; subst hl; exact ⟨rfl, W, b, rfl⟩⟩
theorem fixed_any (S : Nat → Prop) (j : J) (w : World) (hS : ∀ b, S b → b < w.heap.size) (A3 A4 : Option Addr) (c3 c4 : Nat) (ht : TreeS w S j [.int .i64 j.k, .int .i64 j.n, .string j.t, .slice A3 j.its.length c3, .slice A4 j.ks.length c4]) (q : Nat) (x0 x1 x2 x3 x4 x5 x6 x7 x8 x9 : Value) (hq : B10 w q 41 x0 x1 x2 x3 x4 x5 x6 x7 x8 x9) (R : Except Int Int) (hR : R = bfixed j) :
 Calls Tryz.prog 134 #[.pointer (some ⟨q, 0, none⟩), .func (.func 47) #[.agg #[.int .i64 j.k, .int .i64 j.n, .string j.t, .slice A3 j.its.length c3, .slice A4 j.ks.length c4]] #[]] w (FxP R q w) := by
 have CS := cell_set
 have hql := hq.lt
 by_cases hk : ∃ x, j.get kSize = some x ∧ x.k = 3
 rotate_left
 · have Z : Hid (R = .error 30) := by
    show _ = _
    rw [hR]; unfold bfixed
    rcases ho : j.get kSize with _ | x
    · rfl
    · exact if_neg fun g => hk ⟨x, ho, g⟩
   have IT := Lib.hid (one_no (kind := 3) S j kSize w hS A3 A4 c3 c4 ht fun x hx e => hk ⟨x, hx, e⟩)
   unfold kSize at IT
   clear hR hk ht hS hq
   go_enter Tryz.func134, Tryz.ntmps134
   go_wp2_with fail
   with_reducible refine IT.out.mono ?_
   rintro e w1 ⟨K0, K1, K2, X3, l3, x3, X4, l4, x4, rfl, b1⟩
   have s1 := b1.size
   go_wp2_with fail
   go_ret
   exact fxp_no Z.out (by decide) bqq
 obtain ⟨x, hx, hk⟩ := hk
 have IT := Lib.hid (one_yes S j kSize w hS A3 A4 c3 c4 ht hx hk)
 have HR : Hid (R = if x.n < 0 ∨ 1000 < x.n then .error 3 else .ok x.n) := by show _ = _; rw [hR]; unfold bfixed; rw [hx]; exact if_pos hk
 have BQ := Lib.hid hq
 unfold kSize at IT
 clear hR ht hS hx hk hq
 generalize x.n = m at *
 by_cases h0 : m < 0
 · have Z : Hid (R = .error 3) := by show _ = _; rw [HR.out, if_pos (.inl h0)]
   clear HR BQ
   go_enter Tryz.func134, Tryz.ntmps134
   go_wp2_with fail
   with_reducible refine IT.out.mono ?_
   rintro e w1 ⟨X3, x3, X4, x4, rfl, _, b1⟩
   have s1 := b1.size
   go_wp2_with fail
   go_ret
   exact fxp_no Z.out (by decide) bqq
 by_cases h1 : 1000 < m
 · have Z : Hid (R = .error 3) := by show _ = _; rw [HR.out, if_pos (.inr h1)]
   clear HR BQ
   go_enter Tryz.func134, Tryz.ntmps134
   go_wp2_with fail
   with_reducible refine IT.out.mono ?_
   rintro e w1 ⟨X3, x3, X4, x4, rfl, _, b1⟩
   have s1 := b1.size
   go_wp2_with fail
   go_ret
   exact fxp_no Z.out (by decide) bqq
 have Z : Hid (R = .ok m) := by show _ = _; rw [HR.out, if_neg (by omega)]
 clear HR
 go_enter Tryz.func134, Tryz.ntmps134
 go_wp2_with fail
 with_reducible refine IT.out.mono ?_
 rintro e w1 ⟨X3, x3, X4, x4, rfl, _, b1⟩
 have s1 := b1.size
 have B1 := Lib.hid ((B10.below BQ.out b1 hql).alloc (.cells #[.int .i64 x.k, .int .i64 m, .string x.t, .slice X3 x.its.length x3, .slice X4 x.ks.length x4] 25))
 obtain ⟨_, _, _, _, _, _, _, _, _, _, _, _, _, _, _, _, _, _, _, _⟩ := B10.facts B1.out
 have nq : w1.heap.size ≠ q := by omega
 have nq2 : q ≠ w1.heap.size := by omega
 go_wp2_with fail
 go_ret
 exact fxp_yes Z.out bqq
def offB (ns : List Nd) (p : Nat) (K : Int) (o : Nat) : Bool := decide (o = p) || (decide (kindK (ns.map er) o = K) && !named K)
theorem kindK_at {ns : List Nd} {i : Nat} (hi : i < ns.length) : kindK (ns.map er) i = (ns[i]'hi).k := by
 unfold kindK
 rw [List.getElem?_map, List.getElem?_eq_getElem hi]
 rfl
theorem fits1_any {X : Nat → Prop} (o p : Nat) (K : Int) (g r : Nat) (ns : List Nd) (w : World) (h : Mkr X w 52 41 g r ns) (ho : o < ns.length) (hn : ns.length ≤ 200) (q1 q2 q3 : Nat) (_l1 : q1 < w.heap.size) (_l2 : q2 < w.heap.size) (_l3 : q3 < w.heap.size) (h1 : w.cell? ⟨q1, 0, none⟩ = some (.int .i64 (p : Int))) (h2 : w.cell? ⟨q2, 0, none⟩ = some (.pointer (some ⟨g, 0, none⟩))) (h3 : w.cell? ⟨q3, 0, none⟩ = some (.int .i64 K)) :
 Calls Tryz.prog 130 #[.int .i64 (o : Int), .pointer (some ⟨q1, 0, none⟩), .pointer (some ⟨q2, 0, none⟩), .pointer (some ⟨q3, 0, none⟩)] w (Ans (.bool (offB ns p K o)) w) := by
 have CS := cell_set
 have NP : Hid (∀ W, Calls Tryz.prog 31 #[.int .i64 K] W (fun e w' => e = .returned (.bool (named K)) ∧ w' = W)) := fun W => sNamed_pure K W
 have lg := h.lt
 by_cases h0 : o = p
 · have Z : Hid (offB ns p K o = true) := by show _ = _; unfold offB; rw [decide_eq_true h0]; rfl
   have q : ((o : Int) == (p : Int)) = true := by rw [beq_iff_eq, h0]
   clear h0 h
   go_enter Tryz.func130, Tryz.ntmps130
   go_wp2_with fail
   go_quiet (fail)
   go_wp2_with fail
   go_ret
   exact ⟨by first | (rw [Z.out]; done) | (rw [Z.out]; rfl), bqq⟩
 have q : ((o : Int) == (p : Int)) = false := by rw [beq_eq_false_iff_ne]; omega
 obtain ⟨A, c, hB, hc, hA, _, _⟩ := h.out
 obtain rfl := hA (by omega)
 obtain ⟨_, _, _, _⟩ := B2.facts hB
 obtain ⟨Y2, y2, Y3, y3, Y4, y4, Y9, y9, ⟨k0, _, _, _, _, _, _, _, _, _⟩, fz⟩ := h.node ho
 have f0 := fz (o * 10)
 rw [← kindK_at ho] at k0
 obtain ⟨kk, hkk⟩ : ∃ k, k = kindK (ns.map er) o := ⟨_, rfl⟩
 obtain ⟨m, hm⟩ : ∃ m, m = ns.length := ⟨_, rfl⟩
 rw [← hkk] at k0
 have io : (o : Int) < (m : Int) := by omega
 have i0 : ¬ (o : Int) < 0 := by omega
 by_cases h4 : kk = K
 · have q4 : (kk == K) = true := by rw [beq_iff_eq]; exact h4
   have Z : Hid (offB ns p K o = !named K) := by show _ = _; unfold offB; rw [← hkk, decide_eq_false h0, decide_eq_true h4]; simp
   rw [← hm] at *
   generalize named K = nb at *
   clear h4 h0 hkk
   cases nb <;>
   · go_enter Tryz.func130, Tryz.ntmps130
     go_wp2_with fail
     go_quiet ((go_at_call 31; first | exact Calls.quiet_of_same (NP.out _) | exact quiet_add_same (NP.out _)))
     go_wp2_with fail
     go_ret
     exact ⟨by first | (rw [Z.out]; done) | (rw [Z.out]; rfl), bqq⟩
 · have q4 : (kk == K) = false := by rw [beq_eq_false_iff_ne]; exact h4
   have Z : Hid (offB ns p K o = false) := by show _ = _; unfold offB; rw [← hkk, decide_eq_false h0, decide_eq_false h4]; simp
   rw [← hm] at *
   clear h4 h0 hkk
   go_enter Tryz.func130, Tryz.ntmps130
   go_wp2_with fail
   go_quiet (fail)
   go_wp2_with fail
   go_ret
   exact ⟨by first | (rw [Z.out]; done) | (rw [Z.out]; rfl), bqq⟩
def IxP (b : Bool) (w : World) (e : Ending) (w' : World) : Prop := ∃ z : Int, e = .returned (.int .i64 z) ∧ (b = true → 0 ≤ z) ∧ (b = false → ¬ 0 ≤ z) ∧ Below w.heap.size w w'
theorem ixp_ {b : Bool} {z : Int} {w w' : World} (h1 : b = true → 0 ≤ z) (h2 : b = false → ¬ 0 ≤ z) (hb : Below w.heap.size w w') : IxP b w (.returned (.int .i64 z)) w' := ⟨z, rfl, h1, h2, hb⟩
theorem fl_ints {w : World} {S : Nat → Prop} {A : Option Addr} {l : List Nat} (h : FlS w S A (l.map fun (n : Nat) => Value.int .i64 (n : Int))) {i : Nat} (hi : i < l.length) : ∃ b off, A = some ⟨b, off, none⟩ ∧ S b ∧ w.cell? ⟨b, off + i, none⟩ = some (.int .i64 ((l[i]'hi : Nat) : Int)) := by
 rcases h with h | ⟨b, off, e, hb, hc⟩
 · have : l = [] := by simpa using h
   subst this
   exact absurd hi (Nat.not_lt_zero _)
 · refine ⟨b, off, e, hb, ?_⟩
   rw [hc i (by simpa using hi), List.getElem?_map, List.getElem?_eq_getElem hi]
   rfl
theorem idxf_any {X : Nat → Prop} (l : List Nat) (A : Option Addr) (c : Nat) (p : Nat) (K : Int) (g r : Nat) (ns : List Nd) (w : World) (h : Mkr X w 52 41 g r ns) (hl : ∀ o ∈ l, o < ns.length) (hn : ns.length ≤ 200) (hll : l.length ≤ 1000000) (hA : FlS w (· < w.heap.size) A (l.map fun (n : Nat) => Value.int .i64 (n : Int))) (q1 q2 q3 : Nat) (l1 : q1 < w.heap.size) (l2 : q2 < w.heap.size) (l3 : q3 < w.heap.size) (h1 : w.cell? ⟨q1, 0, none⟩ = some (.int .i64 (p : Int))) (h2 : w.cell? ⟨q2, 0, none⟩ = some (.pointer (some ⟨g, 0, none⟩))) (h3 : w.cell? ⟨q3, 0, none⟩ = some (.int .i64 K)) :
 Calls Tryz.prog 156 #[.slice A l.length c, .func (.func 130) #[] #[.pointer (some ⟨q1, 0, none⟩), .pointer (some ⟨q2, 0, none⟩), .pointer (some ⟨q3, 0, none⟩)]] w (IxP (l.any (offB ns p K)) w) := by
 have CS := cell_set
 have F := Lib.hid hA
 have FC : Hid (∀ o ∈ l, ∀ W, Below w.heap.size w W → Calls Tryz.prog 130 #[.int .i64 (o : Int), .pointer (some ⟨q1, 0, none⟩), .pointer (some ⟨q2, 0, none⟩), .pointer (some ⟨q3, 0, none⟩)] W (Ans (.bool (offB ns p K o)) W)) := fun o ho W b =>
  fits1_any o p K g r ns W (h.below b) (hl o ho) hn q1 q2 q3 (Nat.lt_of_lt_of_le l1 b.size) (Nat.lt_of_lt_of_le l2 b.size) (Nat.lt_of_lt_of_le l3 b.size) ((b.cell (p := ⟨q1, 0, none⟩) l1).trans h1) ((b.cell (p := ⟨q2, 0, none⟩) l2).trans h2) ((b.cell (p := ⟨q3, 0, none⟩) l3).trans h3)
 obtain ⟨f, hf⟩ : ∃ f, f = offB ns p K := ⟨_, rfl⟩
 rw [← hf] at FC ⊢
 obtain ⟨nk, hnk⟩ : ∃ m, m = l.length := ⟨_, rfl⟩
 have HNK := Lib.hid hnk
 rw [← hnk] at hll ⊢
 have hb : nk ≤ 9223372036854775807 := by omega
 clear hnk h hl hA h1 h2 h3 l1 l2 l3 hf hn
 go_enter Tryz.func156, Tryz.ntmps156
 go_wp2_with fail
 go_loopw [8] (fun t wq => ∃ j : Nat, j ≤ nk ∧ t = .int .i64 (j : Int) ∧ Hid (∀ m (h : m < l.length), m < j → f (l[m]'h) = false) ∧ Hid (Below w.heap.size w wq)) (fun t _ => nk - (intOf t).toNat)
 case atStart => exact ⟨0, Nat.zero_le _, rfl, (fun _ _ h => absurd h (Nat.not_lt_zero _)), Below.refl _ _⟩
 case round =>
  obtain ⟨m, hm, rfl, NE, bl⟩ := hrel
  have bw := bl.out
  by_cases hmk : m < nk
  · have h1 : m < l.length := by rw [← HNK.out]; exact hmk
    obtain ⟨b8, o8, e8, hb8, z0⟩ := fl_ints F.out h1
    have z1 := (bw.cell (p := ⟨b8, o8 + m, none⟩) hb8).trans z0
    have FM := Lib.hid (FC.out _ (List.getElem_mem h1) _ bw)
    have ZT : Hid (f (l[m]'h1) = true → l.any f = true) := fun hx => List.any_eq_true.2 ⟨_, List.getElem_mem h1, hx⟩
    have NE2 : Hid (f (l[m]'h1) = false → ∀ q (h : q < l.length), q < m + 1 → f (l[q]'h) = false) := fun hx q h hq => by
     rcases Nat.lt_or_ge q m with g | g
     · exact NE.out q h g
     · obtain rfl : q = m := by omega
       exact hx
    generalize l[m]'h1 = Y at *
    have k1 : (m : Int) < (nk : Int) := by omega
    have k2 : ¬ (m : Int) < 0 := by omega
    subst e8
    clear h1 z0 NE
    generalize hfy : f Y = fy at *
    cases fy with
    | true =>
     have Z := Lib.hid (ZT.out rfl)
     clear ZT NE2 hfy
     go_wp2_with fail
     with_reducible refine FM.out.mono ?_
     rintro e w4 ⟨rfl, b4⟩
     have b5 : Below w.heap.size w w4 := bw.trans (b4.mono bw.size)
     go_wp2_with fail
     go_ret
     exact ixp_ (fun _ => by omega) (fun e => by rw [Z.out] at e; cases e) b5
    | false =>
     have N3 := Lib.hid (NE2.out rfl)
     clear ZT NE2 hfy
     go_wp2_with fail
     with_reducible refine FM.out.mono ?_
     rintro e w4 ⟨rfl, b4⟩
     have b5 : Hid (Below w.heap.size w w4) := bw.trans (b4.mono bw.size)
     go_wp2_with fail
     go_roundw
     case rel => exact ⟨m + 1, by omega, by go_num, N3, b5⟩
     case measure => simp [intOf]; omega
  · obtain rfl : m = nk := by omega
    have Z : Hid (l.any f = false) := by
     refine List.any_eq_false.2 fun x hx => ?_
     obtain ⟨q, hq, rfl⟩ := List.getElem_of_mem hx
     rw [NE.out q hq (by rw [HNK.out]; exact hq)]
     simp
    clear NE hmk FC
    go_wp2_with fail
    go_ret
    exact ixp_ (fun e => by rw [Z.out] at e; cases e) (fun _ => by decide) bw
theorem conf_any {X : Nat → Prop} (l : List Nat) (A : Option Addr) (c : Nat) (p : Nat) (K : Int) (g r : Nat) (ns : List Nd) (w : World) (h : Mkr X w 52 41 g r ns) (hl : ∀ o ∈ l, o < ns.length) (hn : ns.length ≤ 200) (hll : l.length ≤ 1000000) (hA : FlS w (· < w.heap.size) A (l.map fun (n : Nat) => Value.int .i64 (n : Int))) (q1 q2 q3 : Nat) (l1 : q1 < w.heap.size) (l2 : q2 < w.heap.size) (l3 : q3 < w.heap.size) (h1 : w.cell? ⟨q1, 0, none⟩ = some (.int .i64 (p : Int))) (h2 : w.cell? ⟨q2, 0, none⟩ = some (.pointer (some ⟨g, 0, none⟩))) (h3 : w.cell? ⟨q3, 0, none⟩ = some (.int .i64 K)) :
 Calls Tryz.prog 129 #[.slice A l.length c, .func (.func 130) #[] #[.pointer (some ⟨q1, 0, none⟩), .pointer (some ⟨q2, 0, none⟩), .pointer (some ⟨q3, 0, none⟩)]] w (Ans (.bool (l.any (offB ns p K))) w) := by
 have IX := Lib.hid (idxf_any l A c p K g r ns w h hl hn hll hA q1 q2 q3 l1 l2 l3 h1 h2 h3)
 obtain ⟨nk, hnk⟩ : ∃ m, m = l.length := ⟨_, rfl⟩
 generalize l.any (offB ns p K) = b at *
 rw [← hnk] at IX ⊢
 clear hnk h hl hA h1 h2 h3 l1 l2 l3 hn hll
 cases b <;>
 · go_enter Tryz.func129, Tryz.ntmps129
   go_wp2_with fail
   with_reducible refine IX.out.mono ?_
   rintro e w1 ⟨z, rfl, hz, hz2, b1⟩
   first | have q2 := hz rfl | have q2 := hz2 rfl
   clear hz hz2
   go_wp2_with fail
   go_ret
   exact ⟨by first | rfl | simp [q2], b1⟩
theorem fitsK_any {ns : List Nd} {p : Nat} {acc : List Nat} : fitsK (ns.map er) p acc = (decide (kindK (ns.map er) p ≠ 13) && !acc.any (offB ns p (kindK (ns.map er) p))) := by
 unfold fitsK
 congr 1
 induction acc with
 | nil => rfl
 | cons q r ih =>
  rw [List.all_cons, List.any_cons, Bool.not_or, ih]
  congr 1
  unfold offB
  by_cases h1 : q = p <;> by_cases h2 : kindK (ns.map er) q = kindK (ns.map er) p <;> simp [h1, h2]
theorem bFits_any {X : Nat → Prop} (l : List Nat) (A : Option Addr) (c : Nat) (p : Nat) (g r : Nat) (ns : List Nd) (w : World) (h : MkW X w g r ns) (hp : p < ns.length) (hl : ∀ o ∈ l, o < ns.length) (hll : l.length ≤ 1000000) (hA : FlS w (· < w.heap.size) A (l.map fun (n : Nat) => Value.int .i64 (n : Int))) :
 Calls Tryz.prog 90 #[.pointer (some ⟨g, 0, none⟩), .int .i64 (p : Int), .slice A l.length c] w (Ans (.bool (fitsK (ns.map er) p l)) w) := by
 have CS := cell_set
 have CF := Lib.hid (fun W (b : Below w.heap.size w W) K q1 q2 q3 l1 l2 l3 h1 h2 h3 => conf_any l A c p K g r ns W (h.mkr.below b) hl h.len hll (hA.imp id fun ⟨q, o, e, hq, hc⟩ => ⟨q, o, e, Nat.lt_of_lt_of_le hq b.size, fun k hk => (b.cell (p := ⟨q, o + k, none⟩) hq).trans (hc k hk)⟩) q1 q2 q3 l1 l2 l3 h1 h2 h3)
 have lg := h.mkr.lt
 obtain ⟨X, x, hB, hc, hX, _, _⟩ := h.mkr.out
 obtain rfl := hX (by omega)
 obtain ⟨z0, z1, z2, z3⟩ := B2.facts hB
 obtain ⟨Y2, y2, Y3, y3, Y4, y4, Y9, y9, ⟨k0, _, _, _, _, _, _, _, _, _⟩, fz⟩ := h.mkr.node hp
 have f0 := fz (p * 10)
 rw [← kindK_at hp] at k0
 rw [fitsK_any]
 obtain ⟨K, hK⟩ : ∃ k, k = kindK (ns.map er) p := ⟨_, rfl⟩
 obtain ⟨m, hm⟩ : ∃ m, m = ns.length := ⟨_, rfl⟩
 obtain ⟨nl, hnl⟩ : ∃ m, m = l.length := ⟨_, rfl⟩
 rw [← hK] at k0 ⊢
 have io : (p : Int) < (m : Int) := by omega
 rw [← hm] at z0
 rw [← hnl] at CF ⊢
 have W6 : Hid (Below w.heap.size w ((w.alloc (.cells #[.pointer (some ⟨g, 0, none⟩)] 78)).alloc (.cells #[.int .i64 (p : Int)] 3))) := by show Below _ _ _; (repeat' (first | with_reducible assumption | with_reducible exact Below.refl _ _ | (with_reducible refine Below.alloc ?_ ?_ _; rotate_left; focus ((first | exact Nat.le_refl _ | (simp; done) | (simp; omega) | omega | fail))) | (with_reducible refine Below.setCell ?_ ?_ _; rotate_left; focus ((first | exact Nat.le_refl _ | (simp; done) | (simp; omega) | omega | fail))) | with_reducible refine Mem.bel_drewN ?_ _ | with_reducible refine Below.drew ?_ | (with_reducible refine Mem.bel_call (by with_reducible assumption) ?_ ?_; focus ((first | exact Nat.le_refl _ | (simp; done) | (simp; omega) | omega | fail))) | fail))
 have C6 : Hid (((w.alloc (.cells #[.pointer (some ⟨g, 0, none⟩)] 78)).alloc (.cells #[.int .i64 (p : Int)] 3)).cell? ⟨w.heap.size, 0, none⟩ = some (.pointer (some ⟨g, 0, none⟩))) := by show _ = _; go_simp
 have D6 : Hid (((w.alloc (.cells #[.pointer (some ⟨g, 0, none⟩)] 78)).alloc (.cells #[.int .i64 (p : Int)] 3)).cell? ⟨w.heap.size + 1, 0, none⟩ = some (.int .i64 (p : Int))) := by show _ = _; go_simp
 have Z6 : Hid (((w.alloc (.cells #[.pointer (some ⟨g, 0, none⟩)] 78)).alloc (.cells #[.int .i64 (p : Int)] 3)).heap.size = w.heap.size + 2) := by show _ = _; simp
 have i0 : ¬ (p : Int) < 0 := by omega
 have lg1 := lg.1
 have lg2 := lg.2.1
 by_cases h13 : K = 13
 · have q : (K == 13) = true := by rw [beq_iff_eq]; exact h13
   have Z : Hid ((decide (K ≠ 13) && !l.any (offB ns p K)) = false) := by show _ = _; rw [h13]; rfl
   clear h13 hK hm hnl CF hl h hA
   go_enter Tryz.func90, Tryz.ntmps90
   go_wp2_with fail
   obtain ⟨w6, hw6⟩ : ∃ W, W = ((w.alloc (.cells #[.pointer (some ⟨g, 0, none⟩)] 78)).alloc (.cells #[.int .i64 (p : Int)] 3)) := ⟨_, rfl⟩
   rw [← hw6] at W6 C6 D6 Z6
   rw [← hw6]
   have bw6 := W6.out
   have c6 := C6.out
   have d6 := D6.out
   have s6 := Z6.out
   have y0 := (bw6.cell (p := ⟨g, 0, none⟩) lg1).trans z0
   have y1 := (bw6.cell (p := ⟨r, p * 10, none⟩) lg2).trans k0
   have y2 := (bw6.frozen (p := ⟨r, p * 10, none⟩) lg2).trans f0
   have lg6 : g < w6.heap.size := by omega
   have lr6 : r < w6.heap.size := by omega
   have lw6 : w.heap.size < w6.heap.size := by omega
   have lx6 : w.heap.size + 1 < w6.heap.size := by omega
   clear hw6 s6
   go_region
   all_goals
    go_wp2_with fail
    go_ret
    exact ⟨by rw [Z.out]; rfl, bqq⟩
 have q : (K == 13) = false := by rw [beq_eq_false_iff_ne]; exact h13
 have Z : Hid ((decide (K ≠ 13) && !l.any (offB ns p K)) = !l.any (offB ns p K)) := by show _ = _; rw [decide_eq_true h13]; rfl
 clear h13 hK hm hnl hl h hA
 go_enter Tryz.func90, Tryz.ntmps90
 go_wp2_with fail
 obtain ⟨w6, hw6⟩ : ∃ W, W = ((w.alloc (.cells #[.pointer (some ⟨g, 0, none⟩)] 78)).alloc (.cells #[.int .i64 (p : Int)] 3)) := ⟨_, rfl⟩
 rw [← hw6] at W6 C6 D6 Z6
 rw [← hw6]
 have bw6 := W6.out
 have c6 := C6.out
 have d6 := D6.out
 have s6 := Z6.out
 have y0 := (bw6.cell (p := ⟨g, 0, none⟩) lg1).trans z0
 have y1 := (bw6.cell (p := ⟨r, p * 10, none⟩) lg2).trans k0
 have y2 := (bw6.frozen (p := ⟨r, p * 10, none⟩) lg2).trans f0
 have lg6 : g < w6.heap.size := by omega
 have lr6 : r < w6.heap.size := by omega
 have lw6 : w.heap.size < w6.heap.size := by omega
 have lx6 : w.heap.size + 1 < w6.heap.size := by omega
 clear hw6 s6
 go_region
 all_goals
  go_wp2_with fail
  with_reducible refine (CF.out _ bqq K _ _ _ (by first | (simp; done) | (simp; omega)) (by first | (simp; done) | (simp; omega)) (by first | (simp; done) | (simp; omega)) (by go_simp) (by go_simp) (by go_simp)).mono ?_
  rintro e w1 ⟨rfl, b1⟩
  go_wp2_with fail
  go_ret
  exact ⟨by rw [Z.out]; rfl, bqq⟩
end Go.Proofs.YthogheglddfniaaGreatDoor
namespace Go.Proofs.YthogheglddfniaaGreatDoor
open Go.RowKit Mem
section
variable {T X X' : Nat → Prop} {w w' : World} {base g r r' : Nat} {e : TypeId} {s : Nat} {v v' : Value} {ds : List D}
def GatX (T : Nat → Prop) (w : World) (base r : Nat) (e : TypeId) (s : Nat) (v : Value) (ds : List D) : Prop :=
 ∃ (S : Nat → Prop) (xs : List Value), OwnR w base e s v ds.length xs ∧ ElsS w S s ds xs ∧ (∀ b, S b → (T b ∨ base ≤ b) ∧ b < w.heap.size ∧ some b ≠ v.ownBlock ∧ b ≠ r) ∧ some r ≠ v.ownBlock
theorem GatX.none_ (T : Nat → Prop) (w : World) (base r : Nat) (e : TypeId) (s : Nat) : GatX T w base r e s (.slice none 0 0) [] :=
 ⟨fun _ => False, [], OwnR.none_ _ _ _ _, rfl, fun _ h => h.elim, fun h => by cases h⟩
theorem GatX.keep (h : GatX T w base r e s v ds) (hb : ∀ k, k < w.heap.size → T k ∨ base ≤ k → k ≠ r → w'.heap[k]? = w.heap[k]?) (hs : w.heap.size ≤ w'.heap.size) (hr : r' = r ∨ w.heap.size ≤ r') : GatX T w' base r' e s v ds := by
 obtain ⟨S, xs, h1, h2, h3, h4⟩ := h
 have nr : ∀ k, k < w.heap.size → k ≠ r → k ≠ r' := fun k hk hn e => by rcases hr with z | z; exact hn (e.trans z); omega
 refine ⟨S, xs, h1.keepb fun q hq => ?_, h2.keep (fun p hp => World.cell?_of_block (hb _ (h3 _ hp).2.1 (h3 _ hp).1 (h3 _ hp).2.2.2)) fun _ h => h, fun b hs' => ⟨(h3 b hs').1, Nat.lt_of_lt_of_le (h3 b hs').2.1 hs, (h3 b hs').2.2.1, nr b (h3 b hs').2.1 (h3 b hs').2.2.2⟩, fun hq => ?_⟩
 · have := h1.base_le hq
   exact hb q this.2 (.inr this.1) (fun e => h4 (by rw [← e]; exact hq))
 · have := h1.base_le hq
   exact nr r' this.2 (fun e => h4 (e ▸ hq)) rfl
theorem GatX.below (h : GatX T w base r e s v ds) (b : Below w.heap.size w w') : GatX T w' base r e s v ds := h.keep (fun k hk _ _ => b.block k hk) b.size (.inl rfl)
theorem GatX.sav (h : GatX T w base r e s v ds) (hg : g < base) (hT : ∀ b, T b → b < g) (sv : Sav g r w.heap.size w w') (hr : r' = r ∨ w.heap.size ≤ r') : GatX T w' base r' e s v ds :=
 h.keep (fun k hk h1 h2 => sv.block k hk (fun e => by rcases h1 with z | z; have := hT _ z; omega; omega) h2) sv.size hr
theorem GatX.own (h : GatX T w base r e s v ds) {b : Nat} (hb : v.ownBlock = some b) : base ≤ b ∧ b < w.heap.size ∧ b ≠ r := by
 obtain ⟨S, xs, h1, _, _, h4⟩ := h
 exact ⟨(h1.base_le hb.symm).1, (h1.base_le hb.symm).2, fun e => h4 (by rw [hb, e])⟩
theorem GatX.done (h : GatX T w base r e s v ds) : ∃ A c, v = .slice A ds.length c ∧ ds.length ≤ c ∧ RowD w (fun b => (T b ∨ base ≤ b) ∧ b < w.heap.size ∧ b ≠ r) s ds A := by
 obtain ⟨S, xs, h1, h2, h3, h4⟩ := h
 obtain ⟨A, c, ev, hc, hf⟩ := h1.fl
 refine ⟨A, c, ev, hc, ?_⟩
 rcases h1.2 with ⟨e0, hn⟩ | ⟨g, cap, cur, e1, hg, hh, _⟩
 · obtain rfl : ds = [] := List.length_eq_zero_iff.1 hn
   exact RowD.nil_ _ _ _ _
 · have eA : A = some ⟨g, 0, none⟩ := by rw [ev] at e1; injection e1
   subst eA
   have hgs : g < w.heap.size := (Array.getElem?_eq_some_iff.1 hh).1
   refine ElsS.row (S := fun b => (T b ∨ base ≤ b) ∧ b < w.heap.size ∧ b ≠ r) (off := 0) ⟨.inr hg, hgs, fun e => h4 (by rw [ev, ← e]; rfl)⟩ (h2.keep (fun _ _ => rfl) fun b h => ⟨(h3 b h).1, (h3 b h).2.1, (h3 b h).2.2.2⟩) fun k hk => ?_
   rcases hf with hf | ⟨b, off, e2, _, hf⟩
   · rw [hf] at hk; exact absurd hk (Nat.not_lt_zero _)
   · simp only [Option.some.injEq, Addr.mk.injEq, and_true] at e2
     obtain ⟨rfl, rfl⟩ := e2
     exact hf k hk
theorem Mkr.frame {mt nt : TypeId} {ns : List Nd} (h : Mkr X w mt nt g r ns) (hk : ∀ k, k < w.heap.size → ¬ X k → w'.heap[k]? = w.heap[k]?) (hs : w.heap.size ≤ w'.heap.size) (hg : ¬ X g) (hr : ¬ X r) (hX : ∀ b, X' b → X b ∨ w.heap.size ≤ b) : Mkr X' w' mt nt g r ns := by
 obtain ⟨u, h1, xs, S, k1, k2, k3, k4, k5, k6⟩ := h
 refine ⟨u, (hk g h1.lt hg).trans h1, xs, S, k1.keepb fun q hq => ?_, k2, Nat.lt_of_lt_of_le k3 hs, k4, k5.keep (fun p hp => World.cell?_of_block (hk _ (k6 _ hp).1 (k6 _ hp).2.2.2)) fun _ h => h, fun b hb => ⟨Nat.lt_of_lt_of_le (k6 b hb).1 hs, (k6 b hb).2.1, (k6 b hb).2.2.1, fun hx => ?_⟩⟩
 · rw [k2 q hq.symm]; exact hk r k3 hr
 · rcases hX b hx with z | z
   · exact (k6 b hb).2.2.2 z
   · have := (k6 b hb).1; omega
theorem Mkr.weak {mt nt : TypeId} {ns : List Nd} (h : Mkr X w mt nt g r ns) (hX : ∀ b, X' b → X b ∨ w.heap.size ≤ b) : Mkr X' w mt nt g r ns := by
 obtain ⟨u, h1, xs, S, k1, k2, k3, k4, k5, k6⟩ := h
 refine ⟨u, h1, xs, S, k1, k2, k3, k4, k5, fun b hb => ⟨(k6 b hb).1, (k6 b hb).2.1, (k6 b hb).2.2.1, fun hx => ?_⟩⟩
 rcases hX b hx with z | z
 · exact (k6 b hb).2.2.2 z
 · have := (k6 b hb).1; omega
end
section
open Go
variable {P : Program} (w : World) {t e : TypeId} {s : Nat} {z : Value} {y : Nat}
theorem wpList_gax (hu : RecT P t e s z y) {ops : Array Oper} {rest : List Oper} {o : Oper} {a : Act} {Q : Exit → Act → World → Prop} (hgd : o.guard = none) (sO x : Operand)
 (ho : o.op = .call { callee := .builtin .append, args := #[sO, x], argTypes := #[t, t] })
 (T : Nat → Prop) (base r : Nat) (v : Value) (ds : List D) (hs : a.eval sO = v) (hg : GatX T w base r e s v ds) (c : Nat) (cs : Array Value) (hx : a.eval x = .slice (some ⟨w.heap.size, 0, none⟩) 1 c) (hl : cs.size = s)
 (h1 : ∀ u ∈ cs.toList, u.oneCell' = true) (hlen : ds.length + 1 ≤ 1000000000) (hbase : base ≤ w.heap.size) (hr : r < w.heap.size) (d : D) (hd : Lies w (fun b => (T b ∨ base ≤ b) ∧ b < w.heap.size ∧ some b ≠ v.ownBlock ∧ b ≠ r) d cs.toList)
 (h : ∀ v' w', GatX T w' base r e s v' (ds ++ [d]) → Below base w w' → (∀ k, k < w.heap.size → some k ≠ v.ownBlock → w'.heap[k]? = w.heap[k]?) → (∀ b, v'.ownBlock = some b → v.ownBlock = some b ∨ w.heap.size ≤ b) → wpList P ops Q rest (a.put o.dst v') w') : wpList P ops Q (o :: rest) a (w.alloc (.cells cs e)) := by
 obtain ⟨S, xs, k1, k2, k3, k4⟩ := hg
 refine wpList_appRg1 w hu hgd _ rfl sO x ho base v ds.length xs hs k1 c cs hx hl h1 hlen hbase fun v' w' r1 r2 r3 r4 => h v' w' ⟨fun b => (T b ∨ base ≤ b) ∧ b < w.heap.size ∧ some b ≠ v.ownBlock ∧ b ≠ r, xs ++ cs.toList, by simpa using r1, ?_, fun b hs => ?_, ?_⟩ r2 (fun k hk hn => r3.block k hk hn) fun b hb => ?_
 · exact ElsS.snoc (by simpa using hl) (hd.keep (fun p hp => World.cell?_of_block (r3.block _ hp.2.1 hp.2.2.1)) fun _ h => h) (k2.keep (fun p hp => World.cell?_of_block (r3.block _ (k3 _ hp).2.1 (k3 _ hp).2.2.1)) fun b hb => k3 b hb)
 · exact ⟨hs.1, Nat.lt_of_lt_of_le hs.2.1 r3.size, ne_own hs.2.2.1 r4 (by have := hs.2.1; omega), hs.2.2.2⟩
 · exact ne_own k4 r4 (by omega)
 · rcases r4 with q | q <;> rw [q] at hb
   · exact .inl hb
   · injection hb with hb
     exact .inr (by omega)
end
end Go.Proofs.YthogheglddfniaaGreatDoor
