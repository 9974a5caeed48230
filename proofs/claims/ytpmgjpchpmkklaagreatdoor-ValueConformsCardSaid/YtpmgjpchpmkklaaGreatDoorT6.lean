/- Joined by tools/bundle.py: SBulk VEx NamR NamS. -/
import Derived.Deep.LoopGhost
import Derived.Deep.RegionHeldLaw
import Derived.Test.YtpmgjpchpmkklaaGreatDoorT1
import Derived.Test.YtpmgjpchpmkklaaGreatDoorT3
import Derived.Test.YtpmgjpchpmkklaaGreatDoorT4
import Derived.Test.YtpmgjpchpmkklaaGreatDoorT5
import Derived.Test.YtpmgjpchpmkklaaGreatDoorT0
set_option maxRecDepth 100000
set_option maxHeartbeats 16000000
namespace Go.Proofs.YtpmgjpchpmkklaaGreatDoor
open Go.ChangeShapes Go.WideShapes Go.ChangeAt Go.RowKit Mem
def txF : List ByteArray → Nat → Nat
 | [], n => n
 | t :: r, n => if n ≤ 2500 then (if 2500 < t.size then 2501 else txF r (n + t.size)) else n
def tx (l : List ByteArray) : Nat := if 2500 < l.length then 2501 else txF l l.length
theorem txF_le : ∀ (l : List ByteArray) (n : Nat), n ≤ 5000 → txF l n ≤ 5000
 | [], n, h => h
 | t :: r, n, h => by
  unfold txF
  split
  · split
    · omega
    · exact txF_le r _ (by omega)
  · exact h
theorem tx_le (l : List ByteArray) : tx l ≤ 5000 := by
 unfold tx
 split
 · omega
 · exact txF_le _ _ (by omega)
def sizes (l : List ByteArray) : Nat := (l.map fun t => t.size).sum
theorem txF_ge : ∀ (l : List ByteArray) (n : Nat), txF l n ≤ 2500 → txF l n = n + sizes l
 | [], n, h => by simp [txF, sizes]
 | t :: r, n, h => by
  unfold txF at h ⊢
  by_cases h1 : n ≤ 2500
  · rw [if_pos h1] at h ⊢
    by_cases h2 : 2500 < t.size
    · rw [if_pos h2] at h; omega
    · rw [if_neg h2] at h ⊢
      rw [txF_ge r _ h]
      simp [sizes]; omega
  · rw [if_neg h1] at h; omega
theorem kwt_sizes : ∀ (l : List ByteArray), kwt l = l.length + sizes l
 | [] => rfl
 | t :: r => by
  unfold kwt
  rw [kwt_sizes r]
  simp [sizes]; omega
theorem tx_ge {l : List ByteArray} (h : tx l ≤ 2500) : kwt l = tx l := by
 unfold tx at h ⊢
 by_cases h1 : 2500 < l.length
 · rw [if_pos h1] at h; omega
 · rw [if_neg h1] at h ⊢
   rw [txF_ge _ _ h, kwt_sizes]
theorem rtexts10_any (A : Option Addr) (c : Nat) (ks : List ByteArray) (w : World) (h : FlS w (· < w.heap.size) A (ks.map Value.string)) (hl : ks.length ≤ maxLen) :
 Calls Tryz.prog 19 #[.slice A ks.length c, .int .i64 2500] w (fun e w' => e = .returned (.int .i64 (tx ks : Nat)) ∧ w = w') := by
 have F := Lib.hid h
 obtain ⟨R, hR⟩ : ∃ R, R = tx ks := ⟨_, rfl⟩
 rw [← hR]
 unfold tx at hR
 have hb : ks.length ≤ 9223372036854775807 := by unfold maxLen at hl; exact hl
 have NX : Hid (∀ i (h : i < ks.length) n, txF (ks.drop i) n = if n ≤ 2500 then (if 2500 < (ks[i]'h).size then 2501 else txF (ks.drop (i + 1)) (n + (ks[i]'h).size)) else n) := fun i h n => by
  rw [List.drop_eq_getElem_cons h, txF]
 obtain ⟨nk, hnk⟩ : ∃ m, m = ks.length := ⟨_, rfl⟩
 have HNK := Lib.hid hnk
 rw [← hnk] at hR hb ⊢
 clear h hl
 by_cases h1 : 2500 < nk
 · have q : (2500 : Int) < (nk : Int) := by omega
   rw [if_pos h1] at hR
   have Z := Lib.hid hR
   clear hR hnk
   go_enter Tryz.func19, Tryz.ntmps19
   go_wp2_with fail
   go_ret
   exact ⟨by rw [Z.out]; rfl, rfl⟩
 · have q : ¬ (2500 : Int) < (nk : Int) := by omega
   rw [if_neg h1] at hR
   have Z : Hid (R = txF (ks.drop 0) nk) := hR
   have DN : Hid (ks.drop nk = []) := by show _ = _; rw [hnk, List.drop_length]
   have hk : nk ≤ 2500 := by omega
   clear hR hnk h1
   go_enter Tryz.func19, Tryz.ntmps19
   go_wp2_with fail
   go_loopw [5, 6] (fun m t wr => ∃ i n : Nat, i ≤ nk ∧ n ≤ 5000 ∧ t = .int .i64 (i : Int) ∧ m = .int .i64 (n : Int) ∧ Hid (R = txF (ks.drop i) n) ∧ wr = w) (fun _ t _ => nk - (intOf t).toNat)
   case atStart => exact ⟨0, nk, Nat.zero_le _, by omega, rfl, rfl, Z.out, rfl⟩
   case round =>
    obtain ⟨i, n, hi, hn, rfl, rfl, HE, rfl⟩ := hrel
    by_cases hik : i < nk
    · have h1 : i < ks.length := by rw [← HNK.out]; exact hik
      obtain ⟨b8, o8, e8, hb8, z0⟩ := fl_str F.out h1
      have nx := HE.out.trans (NX.out i h1 n)
      generalize ks[i]'h1 = Y at *
      subst e8
      clear h1
      by_cases hn2 : n ≤ 2500
      · have qn : (n : Int) ≤ 2500 := by omega
        rw [if_pos hn2] at nx
        by_cases hy : 2500 < Y.size
        · rw [if_pos hy] at nx
          have qy : (2500 : Int) < (Y.size : Int) := by omega
          have Z2 := Lib.hid nx
          clear nx HE
          go_wp2_with fail
          go_ret
          exact ⟨by rw [Z2.out]; rfl, by first | rfl | trivial⟩
        · rw [if_neg hy] at nx
          have qy : ¬ (2500 : Int) < (Y.size : Int) := by omega
          have Z2 := Lib.hid nx
          clear nx HE
          go_wp2_with fail
          go_roundw
          case rel => exact ⟨i + 1, n + Y.size, by omega, by omega, by go_num, by push_cast; rfl, Z2, by first | rfl | trivial⟩
          case measure => simp [intOf]; omega
      · have qn : ¬ (n : Int) ≤ 2500 := by omega
        rw [if_neg hn2] at nx
        have Z2 := Lib.hid nx
        clear nx HE
        go_wp2_with fail
        go_ret
        exact ⟨by rw [Z2.out]; rfl, by first | rfl | trivial⟩
    · obtain rfl : i = nk := by omega
      have he := HE.out
      rw [DN.out] at he
      unfold txF at he
      have Z2 := Lib.hid he
      clear he HE hik
      go_wp2_with fail
      go_ret
      exact ⟨by rw [Z2.out]; rfl, by first | rfl | trivial⟩
def Fd.sm (f : Fd) : Prop := f.name.size ≤ 2500 ∧ kwt f.al ≤ 2500 ∧ f.df.wt ≤ 2500 ∧ f.df.deep ≤ 61
def AllF (l : List Fd) (n : Nat) : Prop := ∀ i (h : i < l.length), i < n → (l[i]'h).sm
def Nd.sm (n : Nd) : Prop := n.name.size ≤ 2500 ∧ n.fs.length ≤ 2500 ∧ n.br.length ≤ 2500 ∧ n.df.size ≤ 2500 ∧ kwt n.al ≤ 2500 ∧ kwt n.sy ≤ 2500 ∧ ∀ i (h : i < n.fs.length), (n.fs[i]'h).sm
def Sc.sm (s : Sc) : Prop := s.nodes.length ≤ 2500 ∧ ∀ i (h : i < s.nodes.length), (s.nodes[i]'h).sm
def BulS (s : Sc) (w : World) (e : Ending) (w' : World) : Prop := ∃ n : Nat, e = .returned (.int .i64 (n : Int)) ∧ (n ≤ 2500 → s.sm) ∧ Below w.heap.size w w'
theorem wrap_in {z : Int} (h1 : -9223372036854775808 ≤ z) (h2 : z ≤ 9223372036854775807) : IntKind.i64.wrap z = z := by rw [IntKind.wrap_i64]; omega
theorem wrap3 (a b c d : Nat) (h : a + b + c + d ≤ 1000000) : Value.int .i64 (IntKind.i64.wrap (IntKind.i64.wrap (IntKind.i64.wrap ((a : Int) + (b : Int)) + (c : Int)) + (d : Int))) = Value.int .i64 (((a + b + c + d : Nat)) : Int) := by
 rw [wrap_in (z := (a : Int) + (b : Int)) (by omega) (by omega), wrap_in (z := (a : Int) + (b : Int) + (c : Int)) (by omega) (by omega), wrap_in (by omega) (by omega)]
 push_cast; rfl
theorem buls_ret {s : Sc} {n : Nat} {z : Int} {w w' : World} (hz : z = (n : Int)) (h : n ≤ 2500 → s.sm) (hb : Below w.heap.size w w') : BulS s w (.returned (.int .i64 z)) w' := by subst hz; exact ⟨n, rfl, h, hb⟩
theorem sbulk_any (sc : Sc) (w : World) (A : Option Addr) (c : Nat) (hs : Lies w (· < w.heap.size) sc.enc [.slice A sc.nodes.length c, .int .i64 sc.root]) :
 Calls Tryz.prog 9 #[.agg #[.slice A sc.nodes.length c, .int .i64 sc.root], .int .i64 2500] w (BulS sc w) := by
 have CS := cell_set
 obtain ⟨_, _, e, hl, rd⟩ := Sc.out.1 hs
 simp only [List.cons.injEq, Value.slice.injEq, true_and, and_true] at e
 obtain ⟨rfl, rfl⟩ := e
 have hb := hl.2
 unfold maxLen at hb
 obtain ⟨nn, hnn⟩ : ∃ m, m = sc.nodes.length := ⟨_, rfl⟩
 have HNN := Lib.hid hnn
 rw [← hnn] at hb ⊢
 have RD := Lib.hid rd
 clear hs rd hl hnn
 generalize sc.root = rt at *
 have W1 : Below w.heap.size w (w.alloc (.cells #[.slice A nn c, .int .i64 rt] 24)) := (Below.refl _ _).alloc (Nat.le_refl _) _
 have gz1 : (w.alloc (.cells #[.slice A nn c, .int .i64 rt] 24)).heap.size = w.heap.size + 1 := by simp
 have GZ1 := Lib.hid gz1
 clear gz1
 by_cases h0 : 2500 < nn
 · have q0 : (2500 : Int) < (nn : Int) := by omega
   go_enter Tryz.func9, Tryz.ntmps9
   go_wp2_with fail
   go_ret
   exact buls_ret (n := 2501) (by rfl) (fun h => by omega) W1
 · have q0 : ¬ (2500 : Int) < (nn : Int) := by omega
   have n0 : nn ≤ 2500 := by omega
   go_enter Tryz.func9, Tryz.ntmps9
   go_wp2_with fail
   go_loopw [5, 6] (fun m t wr => ∃ i n : Nat, i ≤ nn ∧ n ≤ 200000 ∧ t = .int .i64 (i : Int) ∧ m = .int .i64 (n : Int) ∧ Hid (n ≤ 2500 → ∀ m (h : m < sc.nodes.length), m < i → (sc.nodes[m]'h).sm) ∧ Below (w.heap.size + 1) (w.alloc (.cells #[.slice A nn c, .int .i64 rt] 24)) wr) (fun _ t _ => nn - (intOf t).toNat)
   case atStart => exact ⟨0, nn, Nat.zero_le _, by omega, rfl, rfl, fun _ _ _ h => absurd h (Nat.not_lt_zero _), Below.refl _ _⟩
   case round =>
    obtain ⟨i, n, hi, hn, rfl, rfl, HE, bl⟩ := hrel
    obtain ⟨wo, hwo⟩ : ∃ x, x = wr := ⟨_, rfl⟩
    subst hwo
    have gsz := bl.size
    rw [GZ1.out] at gsz
    have gsz2 : w.heap.size ≤ wo.heap.size := by omega
    have blw : Below w.heap.size w wo := W1.trans (bl.mono (by omega))
    have hOwn := Nat.lt_of_lt_of_le (n := w.heap.size) sdd (Below.size bl)
    have hOwn1 := Nat.ne_of_gt hOwn
    have hOwn2 := Nat.ne_of_lt hOwn
    have hOwn := ocl bl w.heap.size 0
    have hOwn := ocl bl w.heap.size 1
    have hOwn := ofr bl w.heap.size 0
    have hOwn := ofr bl w.heap.size 1
    by_cases hin : i < nn ∧ n ≤ 2500
    · obtain ⟨hin, hn2⟩ := hin
      have h1 : i < sc.nodes.length := by rw [← HNN.out]; exact hin
      have qn : (n : Int) ≤ 2500 := by omega
      obtain ⟨b1, o1, A2, c2, A3, c3, A4, c4, A9, c9, e1, hb1, ⟨y0, y1, y2, y3, y4, y5, y6, y7, y8, y9⟩, ly⟩ := nodes_at (RD.out.below blw) h1
      obtain ⟨_, _, _, _, _, _, _, _, e, l2, f2, l3, r3, l4, f4, l9, r9⟩ := Nd.out.1 ly
      simp only [List.cons.injEq, Value.slice.injEq, true_and, and_true] at e
      obtain ⟨⟨rfl, rfl⟩, ⟨rfl, rfl⟩, ⟨rfl, rfl⟩, rfl, rfl⟩ := e
      have HX : Hid (∀ n', n' ≤ 2500 → n ≤ n' → (n' ≤ 2500 → (sc.nodes[i]'h1).sm) → ∀ m (h : m < sc.nodes.length), m < i + 1 → (sc.nodes[m]'h).sm) := fun n' h2 h3 h4 m h hm => by
       rcases Nat.lt_or_ge m i with g | g
       · exact HE.out (by omega) m h g
       · obtain rfl : m = i := by omega
         exact h4 h2
      have HA : Hid (n ≤ 2500 → (∀ m (h : m < sc.nodes.length), m < nn → (sc.nodes[m]'h).sm) → sc.sm) := fun _ h => ⟨by rw [← HNN.out]; exact n0, fun m hm => h m hm (by rw [HNN.out]; exact hm)⟩
      clear HA
      generalize sc.nodes[i]'h1 = T at *
      subst e1
      have lb1 : b1 < w.heap.size := hb1
      have t2 := Lib.hid (fun W (b : Below w.heap.size wo W) => rtexts10_any A2 c2 T.al W ((f2.keep (Below.keeps b) (fun _ h => h)).keep (fun _ _ => rfl) fun _ h => Nat.lt_of_lt_of_le h (Nat.le_trans gsz2 b.size)) l2.2)
      have t4 := Lib.hid (fun W (b : Below w.heap.size wo W) => rtexts10_any A4 c4 T.sy W ((f4.keep (Below.keeps b) (fun _ h => h)).keep (fun _ _ => rfl) fun _ h => Nat.lt_of_lt_of_le h (Nat.le_trans gsz2 b.size)) l4.2)
      have R3 := Lib.hid r3
      have x2 := tx_le T.al
      have x4 := tx_le T.sy
      have k2 := Lib.hid (@tx_ge T.al)
      have k4 := Lib.hid (@tx_ge T.sy)
      have b3 := l3.2; have b9 := l9.2
      unfold maxLen at b3 b9
      have SMT : Hid (T.name.size ≤ 2500 → T.fs.length ≤ 2500 → T.br.length ≤ 2500 → T.df.size ≤ 2500 → kwt T.al ≤ 2500 → kwt T.sy ≤ 2500 → AllF T.fs T.fs.length → T.sm) := fun a b c d e f g => ⟨a, b, c, d, e, f, fun i h => g i h h⟩
      obtain ⟨X2, hX2⟩ : ∃ x, x = tx T.al := ⟨_, rfl⟩
      obtain ⟨X4, hX4⟩ : ∃ x, x = tx T.sy := ⟨_, rfl⟩
      rw [← hX2] at x2 t2 k2
      rw [← hX4] at x4 t4 k4
      obtain ⟨nf, hnf⟩ : ∃ m, m = T.fs.length := ⟨_, rfl⟩
      have HNF := Lib.hid hnf
      rw [← hnf] at b3 SMT y3
      clear ly f2 f4 l2 l3 l4 l9 r9 r3 h1 hX2 hX4 hnf
      by_cases g1 : 2500 < T.name.size
      · have q1 : (2500 : Int) < (T.name.size : Int) := by omega
        go_wp2_with fail
        go_ret
        exact buls_ret (n := 2501) (by rfl) (fun h => by omega) bqq
      · have q1 : ¬ (2500 : Int) < (T.name.size : Int) := by omega
        by_cases g2 : 2500 < nf
        · have q2 : (2500 : Int) < (nf : Int) := by omega
          go_wp2_with fail
          go_ret
          exact buls_ret (n := 2501) (by rfl) (fun h => by omega) bqq
        · have q2 : ¬ (2500 : Int) < (nf : Int) := by omega
          by_cases g3 : 2500 < T.br.length
          · have q3 : (2500 : Int) < (T.br.length : Int) := by omega
            go_wp2_with fail
            go_ret
            exact buls_ret (n := 2501) (by rfl) (fun h => by omega) bqq
          · have q3 : ¬ (2500 : Int) < (T.br.length : Int) := by omega
            by_cases g4 : 2500 < T.df.size
            · have q4 : (2500 : Int) < (T.df.size : Int) := by omega
              go_wp2_with fail
              go_ret
              exact buls_ret (n := 2501) (by rfl) (fun h => by omega) bqq
            · have q4 : ¬ (2500 : Int) < (T.df.size : Int) := by omega
              obtain ⟨nm, hnm⟩ : ∃ m, m = T.name.size := ⟨_, rfl⟩
              obtain ⟨nb, hnb⟩ : ∃ m, m = T.br.length := ⟨_, rfl⟩
              obtain ⟨nd, hnd⟩ : ∃ m, m = T.df.size := ⟨_, rfl⟩
              have p1 : T.name.size ≤ 2500 := by omega
              have p2 : nf ≤ 2500 := by omega
              have p3 : T.br.length ≤ 2500 := by omega
              have p4 : T.df.size ≤ 2500 := by omega
              have SM2 : Hid (X2 ≤ 2500 → X4 ≤ 2500 → AllF T.fs nf → T.sm) := fun a b g => SMT.out (by omega) p2 (by omega) (by omega) (by rw [k2.out a]; exact a) (by rw [k4.out b]; exact b) g
              have wn : Below wo.heap.size wo (wo.alloc (.cells #[.int .i64 T.k, .string T.name, .slice A2 T.al.length c2, .slice A3 nf c3, .slice A4 T.sy.length c4, .bool T.has, .string T.df, .int .i64 T.size, .int .i64 T.items, .slice A9 T.br.length c9] 42)) := (Below.refl _ _).alloc (Nat.le_refl _) _
              have TQ2 : Hid (∀ k, Calls Tryz.prog 19 #[.slice A2 T.al.length c2, .int .i64 2500] ((wo.alloc (.cells #[.int .i64 T.k, .string T.name, .slice A2 T.al.length c2, .slice A3 nf c3, .slice A4 T.sy.length c4, .bool T.has, .string T.df, .int .i64 T.size, .int .i64 T.items, .slice A9 T.br.length c9] 42)).drewN k) (fun x w' => x = .returned (.int .i64 (X2 : Int)) ∧ w' = (wo.alloc (.cells #[.int .i64 T.k, .string T.name, .slice A2 T.al.length c2, .slice A3 nf c3, .slice A4 T.sy.length c4, .bool T.has, .string T.df, .int .i64 T.size, .int .i64 T.items, .slice A9 T.br.length c9] 42)).drewN k)) := fun k => (t2.out _ (bel_drewN (wn.mono gsz2) k)).mono fun _ _ h => ⟨h.1, h.2.symm⟩
              have TQ4 : Hid (∀ k, Calls Tryz.prog 19 #[.slice A4 T.sy.length c4, .int .i64 2500] ((wo.alloc (.cells #[.int .i64 T.k, .string T.name, .slice A2 T.al.length c2, .slice A3 nf c3, .slice A4 T.sy.length c4, .bool T.has, .string T.df, .int .i64 T.size, .int .i64 T.items, .slice A9 T.br.length c9] 42)).drewN k) (fun x w' => x = .returned (.int .i64 (X4 : Int)) ∧ w' = (wo.alloc (.cells #[.int .i64 T.k, .string T.name, .slice A2 T.al.length c2, .slice A3 nf c3, .slice A4 T.sy.length c4, .bool T.has, .string T.df, .int .i64 T.size, .int .i64 T.items, .slice A9 T.br.length c9] 42)).drewN k)) := fun k => (t4.out _ (bel_drewN (wn.mono gsz2) k)).mono fun _ _ h => ⟨h.1, h.2.symm⟩
              clear SMT k2 k4 wn hnm hnb hnd nm nb nd
              go_wp2_with fail
              go_quiet ((first | (go_at_call 19; with_reducible exact Calls.quiet_of_same (TQ2.out _)) | (go_at_call 19; with_reducible exact Calls.quiet_of_same (TQ4.out _))))
              have gzn : (wo.alloc (.cells #[.int .i64 T.k, .string T.name, .slice A2 T.al.length c2, .slice A3 nf c3, .slice A4 T.sy.length c4, .bool T.has, .string T.df, .int .i64 T.size, .int .i64 T.items, .slice A9 T.br.length c9] 42)).heap.size = wo.heap.size + 1 := by simp
              have GZN := Lib.hid gzn
              have B2 : Below w.heap.size wo (wo.alloc (.cells #[.int .i64 T.k, .string T.name, .slice A2 T.al.length c2, .slice A3 nf c3, .slice A4 T.sy.length c4, .bool T.has, .string T.df, .int .i64 T.size, .int .i64 T.items, .slice A9 T.br.length c9] 42)) := (Below.refl _ _).alloc gsz2 _
              clear gzn TQ2 TQ4
              go_wp2_with fail
              go_loopw [5, 8] (fun m t wr => ∃ p u : Nat, p ≤ nf ∧ u ≤ 200000 ∧ t = .int .i64 (p : Int) ∧ m = .int .i64 (u : Int) ∧ Hid (X2 + X4 ≤ u ∧ n ≤ u ∧ (u ≤ 2500 → AllF T.fs p)) ∧ Below (wo.heap.size + 1) (wo.alloc (.cells #[.int .i64 T.k, .string T.name, .slice A2 T.al.length c2, .slice A3 nf c3, .slice A4 T.sy.length c4, .bool T.has, .string T.df, .int .i64 T.size, .int .i64 T.items, .slice A9 T.br.length c9] 42)) wr) (fun _ t _ => nf - (intOf t).toNat)
              case atStart => exact ⟨0, n + T.name.size + nf + T.br.length + T.df.size + X2 + X4, Nat.zero_le _, by omega, rfl, by push_cast; rfl, ⟨by omega, by omega, fun _ _ _ h => absurd h (Nat.not_lt_zero _)⟩, bel_drewN (Below.refl _ _) _⟩
              case round =>
               obtain ⟨p, u, hp, hu, rfl, rfl, HU, bq⟩ := hrel
               have zq := bq.size
               rw [GZN.out] at zq
               have bqw : Below w.heap.size wo wr := B2.trans (bq.mono (by omega))
               have bww : Below w.heap.size w wr := blw.trans bqw
               have hOwn := Nat.lt_of_lt_of_le (n := wo.heap.size) sdd (Below.size bq)
               have hOwn1 := Nat.ne_of_gt hOwn
               have hOwn2 := Nat.ne_of_lt hOwn
               have hOwn := ocl bq wo.heap.size 0
               have hOwn := ocl bq wo.heap.size 1
               have hOwn := ocl bq wo.heap.size 2
               have hOwn := ocl bq wo.heap.size 3
               have hOwn := ocl bq wo.heap.size 4
               have hOwn := ocl bq wo.heap.size 5
               have hOwn := ocl bq wo.heap.size 6
               have hOwn := ocl bq wo.heap.size 7
               have hOwn := ocl bq wo.heap.size 8
               have hOwn := ocl bq wo.heap.size 9
               have hOwn := ofr bq wo.heap.size 0
               have hOwn := ofr bq wo.heap.size 1
               have hOwn := ofr bq wo.heap.size 2
               have hOwn := ofr bq wo.heap.size 3
               have hOwn := ofr bq wo.heap.size 4
               have hOwn := ofr bq wo.heap.size 5
               have hOwn := ofr bq wo.heap.size 6
               have hOwn := ofr bq wo.heap.size 7
               have hOwn := ofr bq wo.heap.size 8
               have hOwn := ofr bq wo.heap.size 9
               by_cases hpn : p < nf ∧ u ≤ 2500
               · obtain ⟨hpf, hu2⟩ := hpn
                 have h2 : p < T.fs.length := by rw [← HNF.out]; exact hpf
                 have qu : (u : Int) ≤ 2500 := by omega
                 obtain ⟨b5, o5, X1, x1, X3, x3, X5, x5, e5, hb5, ⟨z0, z1, z2, z3, z4, z5, z6, z7, z8⟩, l1, f1, tj⟩ := fields_at (R3.out.below bqw) h2
                 have TF := Lib.hid (fun W (b : Below w.heap.size wr W) => rtexts10_any X1 x1 (T.fs[p]'h2).al W ((f1.keep (Below.keeps b) (fun _ h => h)).keep (fun _ _ => rfl) fun _ h => Nat.lt_of_lt_of_le h (Nat.le_trans bww.size b.size)) l1.2)
                 have BK := Lib.hid (fun W (b : Below w.heap.size wr W) => bulk25_any (T.fs[p]'h2).df 0 W X3 X5 x3 x5 (by omega) ((tj.below b).more (Nat.le_trans bww.size b.size)))
                 rw [show ((0 : Nat) : Int) = 0 from rfl] at BK
                 have h6 := HU.out
                 have AF : Hid ((T.fs[p]'h2).sm → AllF T.fs p → AllF T.fs (p + 1)) := fun a b j hj hq => by
                  rcases Nat.lt_or_ge j p with g | g
                  · exact b j hj g
                  · obtain rfl : j = p := by omega
                    exact a
                 have xf := tx_le (T.fs[p]'h2).al
                 have kf := Lib.hid (@tx_ge (T.fs[p]'h2).al)
                 generalize T.fs[p]'h2 = F at *
                 subst e5
                 have lb5 : b5 < w.heap.size := hb5
                 obtain ⟨XF, hXF⟩ : ∃ x, x = tx F.al := ⟨_, rfl⟩
                 rw [← hXF] at xf kf TF
                 have m3 : wr.cell? ⟨wo.heap.size, 3, none⟩ = some (.slice (some ⟨b5, o5, none⟩) nf c3) := (bq.cell (p := ⟨wo.heap.size, 3, none⟩) (by show wo.heap.size < wo.heap.size + 1; omega)).trans (by go_simp)
                 by_cases g6 : 2500 < F.name.size
                 · have q6 : (2500 : Int) < (F.name.size : Int) := by omega
                   clear hXF h2 tj f1 l1 AF kf TF BK
                   go_wp2_with fail
                   go_ret
                   exact buls_ret (n := 2501) (by rfl) (fun h => by omega) bqq
                 · have q6 : ¬ (2500 : Int) < (F.name.size : Int) := by omega
                   have p6 : F.name.size ≤ 2500 := by omega
                   have FSM : Hid (∀ n3 : Nat, (n3 ≤ 2500 → F.df.deep + 0 ≤ 61 ∧ F.df.wt = n3) → X2 + X4 ≤ u + F.name.size + XF + n3 ∧ n ≤ u + F.name.size + XF + n3 ∧ (u + F.name.size + XF + n3 ≤ 2500 → AllF T.fs (p + 1))) := fun n3 h3 => by
                    refine ⟨by omega, by omega, fun hs => AF.out ⟨p6, ?_, ?_, ?_⟩ (h6.2.2 hu2)⟩
                    · rw [kf.out (by omega)]; omega
                    · have := h3 (by omega); omega
                    · have := h3 (by omega); omega
                   have bend : Below (wo.heap.size + 1) (wo.alloc (.cells #[.int .i64 T.k, .string T.name, .slice A2 T.al.length c2, .slice (some ⟨b5, o5, none⟩) nf c3, .slice A4 T.sy.length c4, .bool T.has, .string T.df, .int .i64 T.size, .int .i64 T.items, .slice A9 T.br.length c9] 42)) wr := bq
                   clear hXF h2 tj f1 l1 AF kf HU h6 SM2 HX HE R3 RD
                   go_wp2_with fail
                   have bqz : Below w.heap.size wr wr := Below.refl _ _
                   go_region_held_law (fun w' => w'.cell? ⟨wo.heap.size, 3, none⟩ = some (.slice (some ⟨b5, o5, none⟩) nf c3) ∧ w'.cell? ⟨b5, o5 + p * 9, none⟩ = some (.string F.name) ∧ w'.cell? ⟨b5, o5 + p * 9 + 1, none⟩ = some (.slice X1 F.al.length x1) ∧ w'.cell? ⟨b5, o5 + p * 9 + 4, none⟩ = some (.int .i64 F.df.k) ∧ w'.cell? ⟨b5, o5 + p * 9 + 5, none⟩ = some (.int .i64 F.df.n) ∧ w'.cell? ⟨b5, o5 + p * 9 + 6, none⟩ = some (.string F.df.t) ∧ w'.cell? ⟨b5, o5 + p * 9 + 7, none⟩ = some (.slice X3 F.df.its.length x3) ∧ w'.cell? ⟨b5, o5 + p * 9 + 8, none⟩ = some (.slice X5 F.df.ks.length x5))
                    (exact ⟨(by first | with_reducible assumption | (go_simp; done)), (by first | with_reducible assumption | (go_simp; done)), (by first | with_reducible assumption | (go_simp; done)), (by first | with_reducible assumption | (go_simp; done)), (by first | with_reducible assumption | (go_simp; done)), (by first | with_reducible assumption | (go_simp; done)), (by first | with_reducible assumption | (go_simp; done)), (by first | with_reducible assumption | (go_simp; done))⟩)
                    (first
                     | (go_at_call 19; with_reducible refine (TF.out _ bqq).mono ?_; rintro e w' ⟨rfl, rfl⟩)
                     | (go_at_call 20; refine (BK.out _ (bel_drewN (n := 1) bqz)).mono ?_; rintro e w3 ⟨n3, rfl, hn3, hd3, b3⟩; have FS3 := Lib.hid (FSM.out n3 hd3); clear hd3; have k0 := (Below.cell b3 (p := ⟨wo.heap.size, 3, none⟩) (by show wo.heap.size < wr.heap.size; omega)).trans m3; have k1 := (Below.cell b3 (p := ⟨b5, o5 + p * 9, none⟩) (by show b5 < wr.heap.size; omega)).trans z0; have k2 := (Below.cell b3 (p := ⟨b5, o5 + p * 9 + 1, none⟩) (by show b5 < wr.heap.size; omega)).trans z1; have k3 := (Below.cell b3 (p := ⟨b5, o5 + p * 9 + 4, none⟩) (by show b5 < wr.heap.size; omega)).trans z4; have k4 := (Below.cell b3 (p := ⟨b5, o5 + p * 9 + 5, none⟩) (by show b5 < wr.heap.size; omega)).trans z5; have k5 := (Below.cell b3 (p := ⟨b5, o5 + p * 9 + 6, none⟩) (by show b5 < wr.heap.size; omega)).trans z6; have k6 := (Below.cell b3 (p := ⟨b5, o5 + p * 9 + 7, none⟩) (by show b5 < wr.heap.size; omega)).trans z7; have k7 := (Below.cell b3 (p := ⟨b5, o5 + p * 9 + 8, none⟩) (by show b5 < wr.heap.size; omega)).trans z8))
                   all_goals
                    go_wp2_with fail
                    go_roundw
                    case rel => exact ⟨p + 1, u + F.name.size + XF + n3, by omega, by omega, by go_num, (by first | exact wrap3 _ _ _ _ (by omega) | (push_cast; rfl)), FS3, (bel_drewN bend _).trans (b3.mono zq)⟩
                    case measure => simp [intOf]; omega
               · have h5 : ¬ (p : Int) < (nf : Int) ∨ (p : Int) < (nf : Int) ∧ ¬ (u : Int) ≤ 2500 := by omega
                 have h6 := HU.out
                 have REL : Hid (u ≤ 2500 → ∀ m (h : m < sc.nodes.length), m < i + 1 → (sc.nodes[m]'h).sm) := fun hu2 => HX.out u hu2 h6.2.1 (fun _ => SM2.out (by omega) (by omega) (by
                  have pe : p = nf := by omega
                  rw [← pe]; exact h6.2.2 hu2))
                 clear h6 HU HX SM2 hpn
                 have bend : Below (w.heap.size + 1) (w.alloc (.cells #[.slice (some ⟨b1, o1, none⟩) nn c, .int .i64 rt] 24)) wr := bl.trans (((Below.refl _ _).alloc gsz _).trans (bq.mono (by omega)))
                 rcases h5 with h5 | ⟨h5, h7⟩
                 all_goals
                  go_wp2_with fail
                  go_roundw
                  case rel => exact ⟨i + 1, u, by omega, by omega, by go_num, rfl, REL, bend⟩
                  case measure => simp [intOf]; omega
    · have h5 : ¬ (i : Int) < (nn : Int) ∨ (i : Int) < (nn : Int) ∧ ¬ (n : Int) ≤ 2500 := by omega
      have FIN : Hid (n ≤ 2500 → sc.sm) := fun hn2 => ⟨by rw [← HNN.out]; exact n0, fun m hm => HE.out hn2 m hm (by rw [← HNN.out] at hm; omega)⟩
      clear hin HE
      rcases h5 with h5 | ⟨h5, h6⟩
      all_goals
       go_wp2_with fail
       go_ret
       exact buls_ret (n := n) (by rfl) FIN.out bqq
def lays (w : World) : List Obj → World
 | [] => w
 | o :: r => lays (w.alloc o) r
theorem lays_size : ∀ (os : List Obj) (w : World), (lays w os).heap.size = w.heap.size + os.length
 | [], _ => rfl
 | o :: r, w => by unfold lays; rw [lays_size r]; simp; omega
theorem lays_below : ∀ (os : List Obj) (w : World), Below w.heap.size w (lays w os)
 | [], _ => Below.refl _ _
 | o :: r, w => by
  unfold lays
  exact ((Below.refl w.heap.size w).alloc (Nat.le_refl _) o).trans ((lays_below r (w.alloc o)).mono (by simp))
theorem lays_at : ∀ (os : List Obj) (w : World) {i : Nat} (h : i < os.length), (lays w os).heap[w.heap.size + i]? = some (os[i]'h)
 | [], _, _, h => absurd h (Nat.not_lt_zero _)
 | o :: r, w, i, h => by
  unfold lays
  cases i with
  | zero => rw [(lays_below r (w.alloc o)).block _ (by simp)]; exact heap_alloc_new w o
  | succ i =>
   have := lays_at r (w.alloc o) (i := i) (by simpa using h)
   rw [show (w.alloc o).heap.size + i = w.heap.size + (i + 1) by simp; omega] at this
   exact this
def nd11 : Nd := ⟨11, ⟨#[]⟩, [], [], [], false, ⟨#[]⟩, 0, 1, []⟩
def ex11 : Sc := ⟨[nd11, Nd.z 3], 0⟩
theorem ex11_met : met ex11 33 0 = some 2 := by
 simp [met, metK, Sc.kidsAt, Sc.kind, Nd.kids, ex11, nd11, Nd.z, named]
theorem ex11_right : ex11.right := by
 refine ⟨⟨by decide, by decide, rfl, ex11_met⟩, ?_, ?_, by decide⟩
 · intro n hn
   unfold ex11 at hn
   simp only [List.mem_cons, List.not_mem_nil, or_false] at hn
   rcases hn with rfl | rfl
   · exact (ok_11 rfl).2 rfl
   · exact (ok_prim (by decide)).2 rfl
 · intro i hi
   have h9 : ex11.kind (i : Int) ≠ 9 := by
    obtain rfl | rfl : i = 0 ∨ i = 1 := by have : ex11.nodes.length = 2 := rfl; omega
    · decide
    · decide
   rw [Sc.wt_fix, if_neg h9]; decide
theorem ex11_sm : ex11.sm := by
 have key : ∀ n ∈ ex11.nodes, n.sm := by
  intro n hn
  unfold ex11 at hn
  simp only [List.mem_cons, List.not_mem_nil, or_false] at hn
  rcases hn with rfl | rfl
  · exact ⟨by decide, by decide, by decide, by decide, by decide, by decide, fun i h => absurd h (Nat.not_lt_zero _)⟩
  · exact ⟨by decide, by decide, by decide, by decide, by decide, by decide, fun i h => absurd h (Nat.not_lt_zero _)⟩
 exact ⟨by decide, fun i h => key _ (List.getElem_mem h)⟩
def one11 : V := .mk 3 1 0 [] [] []
def long11 : V := .mk 4 1 0 [] [] []
def v11 : V := .mk 11 0 0 [] [one11, one11] []
def w11 : V := .mk 11 0 0 [] [one11, long11] []
theorem one_is : V.is ex11 one11 1 := by
 have := V.is_leaf (s := ex11) (p := 1) (by decide) (k := 3) (n := 1) (bt := 0) (bs := []) (its := []) (ks := []) (fun h => absurd h (by decide)) rfl (by decide)
 exact this.2 ⟨by unfold VJust; decide, (fun h => absurd h (by decide)), (fun _ => by decide), (fun h => absurd h (by decide)), (fun h => absurd h (by decide)), (fun h => absurd h (by decide)), (fun h => absurd h (by decide)), (fun h => absurd h (by decide))⟩
theorem v11_is : V.is ex11 v11 0 := by
 have := V.is_11 (s := ex11) (p := 0) (by decide) (n := 0) (bt := 0) (bs := []) (its := [one11, one11]) (ks := []) rfl
 refine this.2 ⟨by unfold VJust; decide, by decide, fun i h => ?_⟩
 have e : ([one11, one11] : List V)[i]'h = one11 := by
  obtain rfl | rfl : i = 0 ∨ i = 1 := by simp at h; omega
  · rfl
  · rfl
 rw [e]
 exact one_is
theorem w11_not : ¬ V.is ex11 w11 0 := by
 have := V.is_11 (s := ex11) (p := 0) (by decide) (n := 0) (bt := 0) (bs := []) (its := [one11, long11]) (ks := []) rfl
 intro h
 have g := (this.1 h).2.2 1 (by decide)
 exact V.is_not (s := ex11) (p := 1) (by decide) (k := 4) (by decide) g
def sst (l : List UInt8) : ByteArray := ⟨l.toArray⟩
theorem sst_out (s : ByteArray) : sst s.data.toList = s := by unfold sst; simp
theorem sst_in (l : List UInt8) : (sst l).data.toList = l := by unfold sst; simp
theorem sst_size (l : List UInt8) : (sst l).size = l.length := by unfold sst; show l.toArray.size = _; simp
theorem len_str (s : ByteArray) : s.data.toList.length = s.size := by rw [Array.length_toList]; rfl
theorem idx_str (s : ByteArray) (j : Nat) (h : j < s.size) (W : World) : (Instr.index 9 (.string s) (.int .i64 (j : Int))).run Tryz.prog W = .ok (.int .u8 ((Jx.byt s.data.toList j : Nat) : Int)) W := by
 rw [run_index_string _ _ _ _ _ strT, dif_pos ⟨by omega, by omega⟩]
 congr 2
 unfold Jx.byt
 have e : s.data.toList.getD j 0 = s[j]'h := by
  rw [List.getD, List.getElem?_eq_getElem (by rw [len_str]; exact h)]
  simp
  rfl
 rw [e]
 rfl
theorem ext_l (s : ByteArray) (k : Nat) : s.extract k s.size = sst (s.data.toList.drop k) := by
 apply ByteArray.ext
 unfold sst
 apply Array.ext'
 rw [ByteArray.data_extract, Array.toList_extract]
 have := len_str s
 simp [List.extract, List.take_of_length_le, this]
theorem ext_h (s : ByteArray) (k : Nat) : s.extract 0 k = sst (s.data.toList.take k) := by
 apply ByteArray.ext
 unfold sst
 apply Array.ext'
 rw [ByteArray.data_extract, Array.toList_extract]
 simp [List.extract]
def Pure (v : Value) (w : World) (e : Ending) (w' : World) : Prop := e = .returned v ∧ w = w'
theorem pure_ret {v v' : Value} {w : World} (h : v = v') : Pure v w (.returned v') w := by subst h; exact ⟨rfl, rfl⟩
theorem rletter_any (c : Nat) (_h : c < 256) (w : World) : Calls Tryz.prog 92 #[.int .u8 (c : Int)] w (Pure (.bool (Nm.lt c)) w) := by
 obtain ⟨b, hb⟩ : ∃ b, b = Nm.lt c := ⟨_, rfl⟩
 rw [← hb]
 unfold Nm.lt at hb
 rcases (show c < 65 ∨ (65 ≤ c ∧ c ≤ 90) ∨ (90 < c ∧ c < 95) ∨ c = 95 ∨ c = 96 ∨ (97 ≤ c ∧ c ≤ 122) ∨ 122 < c by omega) with g | ⟨g1, g2⟩ | ⟨g1, g2⟩ | g | g | ⟨g1, g2⟩ | g
 all_goals
  first
   | (have hq : b = true := by rw [hb, decide_eq_true_eq]; omega)
   | (have hq : b = false := by rw [hb, decide_eq_false_iff_not]; omega)
  subst hq
  clear hb
  try subst g
  try (have t90 : (c : Int) ≤ 90 := by omega)
  try (have t90 : ¬ (c : Int) ≤ 90 := by omega)
  try (have t122 : (c : Int) ≤ 122 := by omega)
  try (have t122 : ¬ (c : Int) ≤ 122 := by omega)
  try (have t65 : (65 : Int) ≤ (c : Int) := by omega)
  try (have t65 : ¬ (65 : Int) ≤ (c : Int) := by omega)
  try (have t97 : (97 : Int) ≤ (c : Int) := by omega)
  try (have t97 : ¬ (97 : Int) ≤ (c : Int) := by omega)
  try (have q95 : ((c : Int) == 95) = false := by rw [beq_eq_false_iff_ne]; omega)
  go_enter Tryz.func92, Tryz.ntmps92
  go_wp2_with fail
  go_ret
  exact ⟨rfl, rfl⟩
theorem rdigit_any (c : Nat) (_h : c < 256) (w : World) : Calls Tryz.prog 93 #[.int .u8 (c : Int)] w (Pure (.bool (Jx.isD c)) w) := by
 obtain ⟨b, hb⟩ : ∃ b, b = Jx.isD c := ⟨_, rfl⟩
 rw [← hb]
 unfold Jx.isD at hb
 rcases (show c < 48 ∨ (48 ≤ c ∧ c ≤ 57) ∨ 57 < c by omega) with g | ⟨g1, g2⟩ | g
 all_goals
  first
   | (have hq : b = true := by rw [hb, decide_eq_true_eq]; omega)
   | (have hq : b = false := by rw [hb, decide_eq_false_iff_not]; omega)
  subst hq
  clear hb
  try (have t57 : (c : Int) ≤ 57 := by omega)
  try (have t57 : ¬ (c : Int) ≤ 57 := by omega)
  try (have t48 : (48 : Int) ≤ (c : Int) := by omega)
  try (have t48 : ¬ (48 : Int) ≤ (c : Int) := by omega)
  go_enter Tryz.func93, Tryz.ntmps93
  go_wp2_with fail
  go_ret
  exact ⟨rfl, rfl⟩
theorem simple_iff {l : List UInt8} : Nm.simple l = true ↔ l.length ≠ 0 ∧ l.length ≤ 100 ∧ Nm.lt (Jx.byt l 0) = true ∧ ∀ j, j < l.length → Nm.ch (Jx.byt l j) = true := by
 unfold Nm.simple Nm.chs
 simp only [Bool.and_eq_true, decide_eq_true_eq, List.all_eq_true]
 constructor
 · rintro ⟨⟨⟨h1, h2⟩, h3⟩, h4⟩
   refine ⟨h1, h2, h3, fun j hj => ?_⟩
   have := h4 _ (List.getElem_mem hj)
   unfold Jx.byt
   rw [List.getD, List.getElem?_eq_getElem hj]
   exact this
 · rintro ⟨h1, h2, h3, h4⟩
   refine ⟨⟨⟨h1, h2⟩, h3⟩, fun x hx => ?_⟩
   obtain ⟨j, hj, rfl⟩ := List.getElem_of_mem hx
   have := h4 j hj
   unfold Jx.byt at this
   rw [List.getD, List.getElem?_eq_getElem hj] at this
   exact this
theorem simple_no {l : List UInt8} (h : ¬ (l.length ≠ 0 ∧ l.length ≤ 100 ∧ Nm.lt (Jx.byt l 0) = true ∧ ∀ j, j < l.length → Nm.ch (Jx.byt l j) = true)) : Nm.simple l = false := by
 rcases hs : Nm.simple l with _ | _
 · rfl
 · exact absurd (simple_iff.1 hs) h
theorem rSimple_any (s : ByteArray) (hs : s.size ≤ 9223372036854775807) (w : World) : Calls Tryz.prog 77 #[.string s] w (Pure (.bool (Nm.simple s.data.toList)) w) := by
 obtain ⟨l, hl⟩ : ∃ l, l = s.data.toList := ⟨_, rfl⟩
 have ix := fun j h W => idx_str s j h W
 have ln := len_str s
 rw [← hl] at ix ln ⊢
 have SI := Lib.hid (@simple_iff l)
 have NO := Lib.hid (@simple_no l)
 obtain ⟨R, hR⟩ : ∃ R, R = Nm.simple l := ⟨_, rfl⟩
 rw [← hR] at SI NO ⊢
 obtain ⟨n, hn⟩ : ∃ n, n = s.size := ⟨_, rfl⟩
 have IX := Lib.hid ix
 have LT := Lib.hid (fun c h W => rletter_any c h W)
 have DG := Lib.hid (fun c h W => rdigit_any c h W)
 have HN := Lib.hid hn
 have LN := Lib.hid ln
 rw [← hn] at hs IX
 clear hl hR ix ln hn
 by_cases h0 : n = 0
 · have q0 : ((s.size : Int) == 0) = true := by rw [beq_iff_eq, ← HN.out]; omega
   have Z := Lib.hid (NO.out fun h => h.1 (by rw [LN.out, ← HN.out]; exact h0))
   clear IX LT DG NO SI
   go_enter Tryz.func77, Tryz.ntmps77
   go_wp2_with fail
   go_ret
   exact pure_ret (by first | (rw [Z.out]; done) | (rw [Z.out]; rfl))
 · have q0 : ((s.size : Int) == 0) = false := by rw [beq_eq_false_iff_ne, ← HN.out]; omega
   by_cases h1 : 100 < n
   · have q1 : (100 : Int) < (s.size : Int) := by rw [← HN.out]; omega
     have Z := Lib.hid (NO.out fun h => by have := h.2.1; rw [LN.out, ← HN.out] at this; omega)
     clear IX LT DG NO SI
     go_enter Tryz.func77, Tryz.ntmps77
     go_wp2_with fail
     go_ret
     exact pure_ret (by first | (rw [Z.out]; done) | (rw [Z.out]; rfl))
   · have q1 : ¬ (100 : Int) < (s.size : Int) := by rw [← HN.out]; omega
     have i0 := IX.out 0 (by omega)
     have L0 := Lib.hid (LT.out (Jx.byt l 0) (Jx.byt_lt l 0))
     obtain ⟨b, hb⟩ : ∃ b, b = Nm.lt (Jx.byt l 0) := ⟨_, rfl⟩
     rw [← hb] at L0 SI NO
     rw [show ((0 : Nat) : Int) = 0 from rfl] at i0
     clear hb
     cases b with
     | false =>
      have Z := Lib.hid (NO.out fun h => by have := h.2.2.1; cases this)
      clear IX LT DG NO SI
      go_enter Tryz.func77, Tryz.ntmps77
      go_wp2_with fail
      with_reducible refine (L0.out _).mono ?_
      rintro e w1 ⟨rfl, rfl⟩
      go_wp2_with fail
      go_ret
      exact pure_ret (by first | (rw [Z.out]; done) | (rw [Z.out]; rfl))
     | true =>
      have hn1 : n ≤ 100 := by omega
      have hn0 : n ≠ 0 := h0
      have Y : Hid ((∀ j, j < n → Nm.ch (Jx.byt l j) = true) → R = true) := fun h => SI.out.2 ⟨by rw [LN.out, ← HN.out]; exact hn0, by rw [LN.out, ← HN.out]; exact hn1, rfl, by rw [LN.out, ← HN.out]; exact h⟩
      have X : Hid (∀ j, j < n → Nm.ch (Jx.byt l j) = false → R = false) := fun j hj e => NO.out fun h => by
       have := h.2.2.2 j (by rw [LN.out, ← HN.out]; exact hj)
       rw [e] at this; cases this
      clear NO SI
      go_enter Tryz.func77, Tryz.ntmps77
      go_wp2_with fail
      with_reducible refine (L0.out _).mono ?_
      rintro e w1 ⟨rfl, rfl⟩
      go_wp2_with fail
      go_loopw [3] (fun t wr => ∃ j : Nat, j ≤ n ∧ t = .int .i64 (j : Int) ∧ Hid (∀ m, m < j → Nm.ch (Jx.byt l m) = true) ∧ wr = w) (fun t _ => n - (intOf t).toNat)
      case atStart => exact ⟨0, Nat.zero_le _, rfl, fun _ h => absurd h (Nat.not_lt_zero _), rfl⟩
      case round =>
       obtain ⟨j, hj, rfl, AL, rfl⟩ := hrel
       by_cases hjn : j < n
       · have qj : (j : Int) < (s.size : Int) := by rw [← HN.out]; omega
         have ij := IX.out j hjn
         have LJ := Lib.hid (LT.out (Jx.byt l j) (Jx.byt_lt l j))
         have DJ := Lib.hid (DG.out (Jx.byt l j) (Jx.byt_lt l j))
         have XJ := Lib.hid (X.out j hjn)
         have CH : Hid (Nm.ch (Jx.byt l j) = (Nm.lt (Jx.byt l j) || Jx.isD (Jx.byt l j))) := rfl
         have NX : Hid (Nm.ch (Jx.byt l j) = true → ∀ m, m < j + 1 → Nm.ch (Jx.byt l m) = true) := fun e m hm => by
          rcases Nat.lt_or_ge m j with g | g
          · exact AL.out m g
          · obtain rfl : m = j := by omega
            exact e
         obtain ⟨C, hC⟩ : ∃ C, C = Nm.ch (Jx.byt l j) := ⟨_, rfl⟩
         obtain ⟨a, ha⟩ : ∃ a, a = Nm.lt (Jx.byt l j) := ⟨_, rfl⟩
         obtain ⟨d, hd⟩ : ∃ d, d = Jx.isD (Jx.byt l j) := ⟨_, rfl⟩
         rw [← hC] at XJ CH NX
         rw [← ha] at LJ CH
         rw [← hd] at DJ CH
         clear hC ha hd
         go_wp2_with fail
         with_reducible refine (LJ.out _).mono ?_
         rintro e w1 ⟨rfl, rfl⟩
         cases a with
         | true =>
          have nx := NX.out (by rw [CH.out]; rfl)
          have NX2 := Lib.hid nx
          clear nx NX
          go_wp2_with fail
          go_roundw
          case rel => exact ⟨j + 1, by omega, by go_num, NX2, by first | rfl | trivial⟩
          case measure => simp [intOf]; omega
         | false =>
          go_wp2_with fail
          with_reducible refine (DJ.out _).mono ?_
          rintro e w1 ⟨rfl, rfl⟩
          cases d with
          | true =>
           have nx := NX.out (by rw [CH.out]; rfl)
           have NX2 := Lib.hid nx
           clear nx NX
           go_wp2_with fail
           go_roundw
           case rel => exact ⟨j + 1, by omega, by go_num, NX2, by first | rfl | trivial⟩
           case measure => simp [intOf]; omega
          | false =>
           have Z := Lib.hid (XJ.out (by rw [CH.out]; rfl))
           go_wp2_with fail
           go_ret
           exact pure_ret (by first | (rw [Z.out]; done) | (rw [Z.out]; rfl))
       · obtain rfl : j = n := by omega
         have qj : ¬ (j : Int) < (s.size : Int) := by rw [← HN.out]; omega
         have Z := Lib.hid (Y.out AL.out)
         clear hjn
         go_wp2_with fail
         go_ret
         exact pure_ret (by first | (rw [Z.out]; done) | (rw [Z.out]; rfl))
theorem rDot_any (s : ByteArray) (hs : s.size ≤ 9223372036854775806) (w : World) : Calls Tryz.prog 76 #[.string s] w (Pure (.int .i64 (Nm.dot s.data.toList)) w) := by
 obtain ⟨l, hl⟩ : ∃ l, l = s.data.toList := ⟨_, rfl⟩
 have ix := fun j h W => idx_str s j h W
 have ln := len_str s
 rw [← hl] at ix ln ⊢
 have IX := Lib.hid ix
 obtain ⟨n, hn⟩ : ∃ n, n = s.size := ⟨_, rfl⟩
 have HN := Lib.hid hn
 have DT : Hid (Nm.dot l = Nm.dotN n l) := by show _ = _; unfold Nm.dot; rw [ln, hn]
 have DL := Lib.hid (fun j => Nm.dotN_lt j l)
 rw [← hn] at hs IX
 obtain ⟨D, hD⟩ : ∃ D : Nat → Int, D = fun j => Nm.dotN j l := ⟨_, rfl⟩
 have D0 : Hid (D 0 = -1) := by show _ = _; rw [hD]; rfl
 have DY : Hid (∀ j, Jx.byt l j = 46 → D (j + 1) = (j : Int)) := fun j e => by rw [hD]; show Nm.dotN (j + 1) l = _; unfold Nm.dotN; exact if_pos e
 have DN : Hid (∀ j, Jx.byt l j ≠ 46 → D (j + 1) = D j) := fun j e => by rw [hD]; show Nm.dotN (j + 1) l = _; rw [Nm.dotN]; exact if_neg e
 have DT2 : Hid (Nm.dot l = D n) := by show _ = _; rw [hD]; exact DT.out
 have DL2 : Hid (∀ j, -1 ≤ D j ∧ D j < (j : Int)) := fun j => by rw [hD]; exact DL.out j
 clear hl ix ln hn DT DL hD
 go_enter Tryz.func76, Tryz.ntmps76
 go_wp2_with fail
 go_loopw [3, 4] (fun a t wr => ∃ j : Nat, j ≤ n ∧ t = .int .i64 (j : Int) ∧ a = .int .i64 (D j) ∧ wr = w) (fun _ t _ => n - (intOf t).toNat)
 case atStart => exact ⟨0, Nat.zero_le _, rfl, by rw [D0.out], rfl⟩
 case round =>
  obtain ⟨j, hj, rfl, rfl, rfl⟩ := hrel
  by_cases hjn : j < n
  · have qj : (j : Int) < (s.size : Int) := by rw [← HN.out]; omega
    have ij := IX.out j hjn
    by_cases h46 : Jx.byt l j = 46
    · have q : ((Jx.byt l j : Int) == 46) = true := by rw [beq_iff_eq]; omega
      have E := Lib.hid (DY.out j h46)
      clear h46
      go_wp2_with fail
      go_roundw
      case rel => exact ⟨j + 1, by omega, by go_num, by rw [E.out], by first | rfl | trivial⟩
      case measure => simp [intOf]; omega
    · have q : ((Jx.byt l j : Int) == 46) = false := by rw [beq_eq_false_iff_ne]; omega
      have E := Lib.hid (DN.out j h46)
      clear h46
      go_wp2_with fail
      go_roundw
      case rel => exact ⟨j + 1, by omega, by go_num, by rw [E.out], by first | rfl | trivial⟩
      case measure => simp [intOf]; omega
  · obtain rfl : j = n := by omega
    have qj : ¬ (j : Int) < (s.size : Int) := by rw [← HN.out]; omega
    clear hjn
    go_wp2_with fail
    go_ret
    exact pure_ret (by first | (rw [DT2.out]; done) | (rw [DT2.out]; rfl))
def strSz : Value → Nat
 | .string s => s.size
 | _ => 0
theorem cut_l (s : ByteArray) (m : Nat) (z : Int) (hz : z = (m : Int)) (hm : m ≤ s.size) (W : World) : (Instr.slice 9 (.string s) (some (.int .i64 z)) none none).run Tryz.prog W = .ok (.string (sst (s.data.toList.drop m))) W := by
 subst hz
 rw [run_slice_string_l W _ s strT .i64 _ (by omega) (by omega)]
 rw [show ((m : Int)).toNat = m by omega, ext_l]
theorem cut_h (s : ByteArray) (m : Nat) (z : Int) (hz : z = (m : Int)) (hm : m ≤ s.size) (W : World) : (Instr.slice 9 (.string s) none (some (.int .i64 z)) none).run Tryz.prog W = .ok (.string (sst (s.data.toList.take m))) W := by
 subst hz
 rw [run_slice_string_h W _ s strT .i64 _ (by omega) (by omega)]
 rw [show ((m : Int)).toNat = m by omega, ext_h]
theorem rFull_any (s : ByteArray) (hs : s.size ≤ 9223372036854775806) (w : World) : Calls Tryz.prog 53 #[.string s] w (Pure (.bool (Nm.full s.data.toList)) w) := by
 have ln := len_str s
 obtain ⟨R, hR⟩ : ∃ R, R = Nm.full s.data.toList := ⟨_, rfl⟩
 by_cases h1 : 100 < s.size
 · have q : (100 : Int) < (s.size : Int) := by omega
   have Z : Hid (R = false) := by show _ = _; rw [hR]; unfold Nm.full; rw [ln, decide_eq_false (by omega)]; rfl
   rw [← hR]
   clear hR
   go_enter Tryz.func53, Tryz.ntmps53
   go_wp2_with fail
   go_ret
   exact pure_ret (by first | (rw [Z.out]; done) | (rw [Z.out]; rfl))
 · have q : ¬ (100 : Int) < (s.size : Int) := by omega
   have HR := Lib.hid hR
   have hs1 : s.size ≤ 100 := by omega
   rw [← hR]
   clear hR ln hs h1
   go_enter Tryz.func53, Tryz.ntmps53
   go_wp2_with fail
   go_loopw [0] (fun v wr => ∃ s1 : ByteArray, v = .string s1 ∧ s1.size ≤ 100 ∧ Hid (R = Nm.full s1.data.toList) ∧ wr = w) (fun v _ => strSz v)
   case atStart => exact ⟨s, rfl, hs1, HR.out, rfl⟩
   case round =>
    obtain ⟨s1, rfl, hz, HE, rfl⟩ := hrel
    have ln := len_str s1
    have dt := Nm.dot_lt s1.data.toList
    have DT := Lib.hid (fun W => rDot_any s1 (by omega) W)
    have FG := Lib.hid (@Nm.full_go s1.data.toList)
    have FO := Lib.hid (@Nm.full_one s1.data.toList)
    have LA : Hid (Nm.last s1.data.toList = s1.data.toList.drop (Nm.dot s1.data.toList + 1).toNat) := rfl
    have SP : Hid (0 ≤ Nm.dot s1.data.toList → Nm.space s1.data.toList = s1.data.toList.take (Nm.dot s1.data.toList).toNat) := fun h => by unfold Nm.space; exact if_neg (by omega)
    have cl := fun m z h1 h2 => cut_l s1 m z h1 h2
    have ch := fun m z h1 h2 => cut_h s1 m z h1 h2
    obtain ⟨D, hD⟩ : ∃ D, D = Nm.dot s1.data.toList := ⟨_, rfl⟩
    rw [← hD] at dt DT FG FO LA SP
    rw [ln] at dt
    clear hD
    by_cases h0 : 0 ≤ D
    · have lt := dt.2
      have sl := fun W => cl (D + 1).toNat (D + 1) (by omega) (by omega) W
      have sh := fun W => ch D.toNat D (by omega) (by omega) W
      have SM := Lib.hid (fun W => rSimple_any (sst (s1.data.toList.drop (D + 1).toNat)) (by rw [sst_size, List.length_drop]; omega) W)
      rw [sst_in] at SM
      have fg := FG.out h0
      rw [LA.out, SP.out h0, ln, decide_eq_true hz, Bool.true_and] at fg
      have hd1 : D ≤ 100 := by omega
      have HM : Hid ((sst (s1.data.toList.take D.toNat)).size < s1.size ∧ (sst (s1.data.toList.take D.toNat)).size ≤ 100) := by show _ ∧ _; rw [sst_size, List.length_take]; omega
      have HE2 := Lib.hid (HE.out.trans fg)
      have HS := Lib.hid (sst_in (s1.data.toList.take D.toNat))
      generalize sst (s1.data.toList.drop (D + 1).toNat) = L1 at *
      generalize s1.data.toList.drop (D + 1).toNat = L at *
      generalize s1.data.toList.take D.toNat = T at *
      obtain ⟨b, hb⟩ : ∃ b, b = Nm.simple L := ⟨_, rfl⟩
      rw [← hb] at SM HE2
      clear fg FG FO LA SP hb cl ch HE dt
      go_wp2_with fail
      with_reducible refine (DT.out _).mono ?_
      rintro e w1 ⟨rfl, rfl⟩
      go_wp2_with fail
      with_reducible refine (DT.out _).mono ?_
      rintro e w1 ⟨rfl, rfl⟩
      go_wp2_with fail
      with_reducible refine (SM.out _).mono ?_
      rintro e w1 ⟨rfl, rfl⟩
      cases b with
      | false =>
       have Z : Hid (R = false) := HE2.out
       go_wp2_with fail
       go_ret
       exact pure_ret (by first | (rw [Z.out]; done) | (rw [Z.out]; rfl))
      | true =>
       have Z : Hid (R = Nm.full T) := HE2.out.trans (Bool.true_and _)
       go_wp2_with fail
       with_reducible refine (DT.out _).mono ?_
       rintro e w1 ⟨rfl, rfl⟩
       go_wp2_with fail
       go_roundw
       case rel => exact ⟨sst T, rfl, HM.out.2, by rw [HS.out]; exact Z.out, by first | rfl | trivial⟩
       case measure => exact HM.out.1
    · have fo := FO.out (by omega)
      have Z := Lib.hid (HE.out.trans fo)
      have SM := Lib.hid (fun W => rSimple_any s1 (by omega) W)
      generalize Nm.simple s1.data.toList = B at *
      clear fo FG FO LA SP HE cl ch
      go_wp2_with fail
      with_reducible refine (DT.out _).mono ?_
      rintro e w1 ⟨rfl, rfl⟩
      go_wp2_with fail
      with_reducible refine (SM.out _).mono ?_
      rintro e w1 ⟨rfl, rfl⟩
      go_wp2_with fail
      go_ret
      exact pure_ret (by first | (rw [Z.out]; done) | (rw [Z.out]; rfl))
theorem rWord_any (k : Int) (w : World) : Calls Tryz.prog 78 #[.int .i64 k] w (Pure (.string (sst (Nm.word k))) w) := by
 by_cases hk : k = 1 ∨ k = 2 ∨ k = 3 ∨ k = 4 ∨ k = 5 ∨ k = 6 ∨ k = 7 ∨ k = 8 ∨ k = 9 ∨ k = 10 ∨ k = 11 ∨ k = 12 ∨ k = 14
 · rcases hk with rfl | rfl | rfl | rfl | rfl | rfl | rfl | rfl | rfl | rfl | rfl | rfl | rfl
   all_goals
    go_enter Tryz.func78, Tryz.ntmps78
    go_wp2_with fail
    go_ret
    exact pure_ret rfl
 · simp only [not_or] at hk
   obtain ⟨g1, g2, g3, g4, g5, g6, g7, g8, g9, g10, g11, g12, g14⟩ := hk
   have Z : Hid (Nm.word k = []) := by
    show _ = _
    unfold Nm.word
    rw [if_neg g1, if_neg g2, if_neg g3, if_neg g4, if_neg g5, if_neg g6, if_neg g7, if_neg g8, if_neg g9, if_neg g10, if_neg g11, if_neg g12, if_neg g14]
   have f1 := beq_eq_false_iff_ne.2 g1; have f2 := beq_eq_false_iff_ne.2 g2; have f3 := beq_eq_false_iff_ne.2 g3; have f4 := beq_eq_false_iff_ne.2 g4; have f5 := beq_eq_false_iff_ne.2 g5
   have f6 := beq_eq_false_iff_ne.2 g6; have f7 := beq_eq_false_iff_ne.2 g7; have f8 := beq_eq_false_iff_ne.2 g8; have f9 := beq_eq_false_iff_ne.2 g9; have f10 := beq_eq_false_iff_ne.2 g10
   have f11 := beq_eq_false_iff_ne.2 g11; have f12 := beq_eq_false_iff_ne.2 g12; have f14 := beq_eq_false_iff_ne.2 g14
   generalize Nm.word k = X at *
   clear g1 g2 g3 g4 g5 g6 g7 g8 g9 g10 g11 g12 g14
   go_enter Tryz.func78, Tryz.ntmps78
   go_wp2_with fail
   go_ret
   exact pure_ret (by first | (rw [Z.out]; done) | (rw [Z.out]; rfl))
theorem rKind_any (s : ByteArray) (w : World) : Calls Tryz.prog 54 #[.string s] w (Pure (.int .i64 (Nm.kind s.data.toList : Nat)) w) := by
 obtain ⟨K, hK⟩ : ∃ K, K = Nm.kind s.data.toList := ⟨_, rfl⟩
 rw [← hK]
 have WD := Lib.hid (fun k W => rWord_any k W)
 by_cases hz : s = ⟨#[]⟩
 · have e0 : s.data.toList = [] := by rw [hz]
   have Z : Hid (K = 0) := by show _ = _; rw [hK, e0]; decide
   subst hz
   clear hK WD
   go_enter Tryz.func54, Tryz.ntmps54
   go_wp2_with fail
   go_loopw [3] (fun t wr => ∃ k : Nat, k ≤ 15 ∧ t = .int .i64 (k : Int) ∧ wr = w) (fun t _ => 15 - (intOf t).toNat)
   case atStart => exact ⟨1, by omega, rfl, rfl⟩
   case round =>
    obtain ⟨k, hk, rfl, rfl⟩ := hrel
    by_cases h14 : k ≤ 14
    · have q : (k : Int) ≤ 14 := by omega
      go_wp2_with fail
      go_roundw
      case rel => exact ⟨k + 1, by omega, by go_num, by first | rfl | trivial⟩
      case measure => (first | (simp [intOf]; done) | (simp [intOf]; omega))
    · have q : ¬ (k : Int) ≤ 14 := by omega
      go_wp2_with fail
      go_ret
      exact pure_ret (by rw [Z.out]; rfl)
 · have ne : s.data.toList ≠ [] := fun e => hz (by rw [← sst_out s, e]; rfl)
   have sx : (s.toList != (⟨#[]⟩ : ByteArray).toList) = true := by rw [str_bne]; simpa using hz
   have sx3 : (s.toList != []) = true := by have := sx; rwa [show (⟨#[]⟩ : ByteArray).toList = [] by rw [ByteArray.toList_eq]] at this
   have sx5 : s.toList.isEmpty = false := by rw [List.isEmpty_eq_false_iff]; simpa using sx3
   have KF : Hid (∀ k, k ≤ 14 → Nm.kindF (15 - k) k s.data.toList = if Nm.word (k : Int) = s.data.toList then k else Nm.kindF (15 - (k + 1)) (k + 1) s.data.toList) := fun k h => by
    rw [show 15 - k = (15 - (k + 1)) + 1 by omega, Nm.kindF]
    by_cases g : Nm.word (k : Int) = s.data.toList
    · rw [if_pos ⟨ne, g⟩, if_pos g]
    · rw [if_neg fun h => g h.2, if_neg g]
   have K0 : Hid (K = Nm.kindF (15 - 1) 1 s.data.toList) := hK
   have EQ : Hid (∀ k : Nat, ((sst (Nm.word (k : Int))).toList == s.toList) = decide (Nm.word (k : Int) = s.data.toList)) := fun k => by
    rw [str_beq]
    rw [decide_eq_decide]
    exact ⟨fun h => by rw [← h, sst_in], fun h => by rw [h, sst_out]⟩
   clear hK hz ne
   go_enter Tryz.func54, Tryz.ntmps54
   go_wp2_with fail
   go_loopw [3] (fun t wr => ∃ k : Nat, 1 ≤ k ∧ k ≤ 15 ∧ t = .int .i64 (k : Int) ∧ Hid (K = Nm.kindF (15 - k) k s.data.toList) ∧ wr = w) (fun t _ => 15 - (intOf t).toNat)
   case atStart => exact ⟨1, by omega, by omega, rfl, K0.out, rfl⟩
   case round =>
    obtain ⟨k, h1, hk, rfl, KE, rfl⟩ := hrel
    by_cases h14 : k ≤ 14
    · have q : (k : Int) ≤ 14 := by omega
      have W1 := Lib.hid (WD.out (k : Int))
      have eq := EQ.out k
      have kf := KE.out.trans (KF.out k h14)
      generalize sst (Nm.word (k : Int)) = X at *
      by_cases g : Nm.word (k : Int) = s.data.toList
      · rw [if_pos g] at kf
        rw [decide_eq_true g] at eq
        have Z := Lib.hid kf
        clear kf KE g
        go_wp2_with fail
        with_reducible refine (W1.out _).mono ?_
        rintro e w1 ⟨rfl, rfl⟩
        go_wp2_with fail
        go_ret
        exact pure_ret (by first | (rw [Z.out]; done) | (rw [Z.out]; rfl))
      · rw [if_neg g] at kf
        rw [decide_eq_false g] at eq
        have Z := Lib.hid kf
        clear kf KE g
        go_wp2_with fail
        with_reducible refine (W1.out _).mono ?_
        rintro e w1 ⟨rfl, rfl⟩
        go_wp2_with fail
        go_roundw
        case rel => exact ⟨k + 1, by omega, by omega, by go_num, Z, by first | rfl | trivial⟩
        case measure => simp [intOf]; omega
    · have q : ¬ (k : Int) ≤ 14 := by omega
      obtain rfl : k = 15 := by omega
      have Z : Hid (K = 0) := KE.out
      clear KE
      go_wp2_with fail
      go_ret
      exact pure_ret (by rw [Z.out]; rfl)
end Go.Proofs.YtpmgjpchpmkklaaGreatDoor
