/- Joined by tools/bundle.py: SBulk Num Fp Dv. -/
import Derived.Deep.LoopGhost
import Derived.Deep.RegionHeldLaw
import Derived.Lib.Zigzag
import Derived.Laws.BitsAllLaws
import Derived.RowKit
import GoSem.Core.Float
import Derived.Test.YthfoomobicbcpaaGreatDoorZ3
import Derived.Test.YthfoomobicbcpaaGreatDoorZ5
import Derived.Test.YthfoomobicbcpaaGreatDoorZ0
set_option maxRecDepth 100000
set_option maxHeartbeats 16000000
namespace Go.Proofs.YthfoomobicbcpaaGreatDoor
open Go.ChangeShapes Go.WideShapes Go.ChangeAt Go.RowKit Mem
def txF : List ByteArray → Nat → Nat
 | [], n => n
 | t :: r, n => if n ≤ 2500 then (if 2500 < t.size then 2501 else txF r (n + t.size)) else n
def tx (l : List ByteArray) : Nat := if 2500 < l.length then 2501 else txF l l.length
theorem txF_le : ∀ (l : List ByteArray) (n : Nat), n ≤ 5000 → txF l n ≤ 5000
 | [], n, h => h
 | t :: r, n, h => by
  unfold txF
  split
  · split
    · omega
    · exact txF_le r _ (by omega)
  · exact h
theorem tx_le (l : List ByteArray) : tx l ≤ 5000 := by
 unfold tx
 split
 · omega
 · exact txF_le _ _ (by omega)
def sizes (l : List ByteArray) : Nat := (l.map fun t => t.size).sum
theorem txF_ge : ∀ (l : List ByteArray) (n : Nat), txF l n ≤ 2500 → txF l n = n + sizes l
 | [], n, h => by simp [txF, sizes]
 | t :: r, n, h => by
  unfold txF at h ⊢
  by_cases h1 : n ≤ 2500
  · rw [if_pos h1] at h ⊢
    by_cases h2 : 2500 < t.size
    · rw [if_pos h2] at h; omega
    · rw [if_neg h2] at h ⊢
      rw [txF_ge r _ h]
      simp [sizes]; omega
  · rw [if_neg h1] at h; omega
theorem kwt_sizes : ∀ (l : List ByteArray), kwt l = l.length + sizes l
 | [] => rfl
 | t :: r => by
  unfold kwt
  rw [kwt_sizes r]
  simp [sizes]; omega
theorem tx_ge {l : List ByteArray} (h : tx l ≤ 2500) : kwt l = tx l := by
 unfold tx at h ⊢
 by_cases h1 : 2500 < l.length
 · rw [if_pos h1] at h; omega
 · rw [if_neg h1] at h ⊢
   rw [txF_ge _ _ h, kwt_sizes]
theorem rtexts10_any (A : Option Addr) (c : Nat) (ks : List ByteArray) (w : World) (h : FlS w (· < w.heap.size) A (ks.map Value.string)) (hl : ks.length ≤ maxLen) :
 Calls Tryz.prog 70 #[.slice A ks.length c, .int .i64 2500] w (fun e w' => e = .returned (.int .i64 (tx ks : Nat)) ∧ w = w') := by
 have F := Lib.hid h
 obtain ⟨R, hR⟩ : ∃ R, R = tx ks := ⟨_, rfl⟩
 rw [← hR]
 unfold tx at hR
 have hb : ks.length ≤ 9223372036854775807 := by unfold maxLen at hl; exact hl
 have NX : Hid (∀ i (h : i < ks.length) n, txF (ks.drop i) n = if n ≤ 2500 then (if 2500 < (ks[i]'h).size then 2501 else txF (ks.drop (i + 1)) (n + (ks[i]'h).size)) else n) := fun i h n => by
  rw [List.drop_eq_getElem_cons h, txF]
 obtain ⟨nk, hnk⟩ : ∃ m, m = ks.length := ⟨_, rfl⟩
 have HNK := Lib.hid hnk
 rw [← hnk] at hR hb ⊢
 clear h hl
 by_cases h1 : 2500 < nk
 · have q : (2500 : Int) < (nk : Int) := by omega
   rw [if_pos h1] at hR
   have Z := Lib.hid hR
   clear hR hnk
   go_enter Tryz.func70, Tryz.ntmps70
   go_wp2_with fail
   go_ret
   exact ⟨by rw [Z.out]; rfl, rfl⟩
 · have q : ¬ (2500 : Int) < (nk : Int) := by omega
   rw [if_neg h1] at hR
   have Z : Hid (R = txF (ks.drop 0) nk) := hR
   have DN : Hid (ks.drop nk = []) := by show _ = _; rw [hnk, List.drop_length]
   have hk : nk ≤ 2500 := by omega
   clear hR hnk h1
   go_enter Tryz.func70, Tryz.ntmps70
   go_wp2_with fail
   go_loopw [5, 6] (fun m t wr => ∃ i n : Nat, i ≤ nk ∧ n ≤ 5000 ∧ t = .int .i64 (i : Int) ∧ m = .int .i64 (n : Int) ∧ Hid (R = txF (ks.drop i) n) ∧ wr = w) (fun _ t _ => nk - (intOf t).toNat)
   case atStart => exact ⟨0, nk, Nat.zero_le _, by omega, rfl, rfl, Z.out, rfl⟩
   case round =>
    obtain ⟨i, n, hi, hn, rfl, rfl, HE, rfl⟩ := hrel
    by_cases hik : i < nk
    · have h1 : i < ks.length := by rw [← HNK.out]; exact hik
      obtain ⟨b8, o8, e8, hb8, z0⟩ := fl_str F.out h1
      have nx := HE.out.trans (NX.out i h1 n)
      generalize ks[i]'h1 = Y at *
      subst e8
      clear h1
      by_cases hn2 : n ≤ 2500
      · have qn : (n : Int) ≤ 2500 := by omega
        rw [if_pos hn2] at nx
        by_cases hy : 2500 < Y.size
        · rw [if_pos hy] at nx
          have qy : (2500 : Int) < (Y.size : Int) := by omega
          have Z2 := Lib.hid nx
          clear nx HE
          go_wp2_with fail
          go_ret
          exact ⟨by rw [Z2.out]; rfl, by first | rfl | trivial⟩
        · rw [if_neg hy] at nx
          have qy : ¬ (2500 : Int) < (Y.size : Int) := by omega
          have Z2 := Lib.hid nx
          clear nx HE
          go_wp2_with fail
          go_roundw
          case rel => exact ⟨i + 1, n + Y.size, by omega, by omega, by go_num, by push_cast; rfl, Z2, by first | rfl | trivial⟩
          case measure => simp [intOf]; omega
      · have qn : ¬ (n : Int) ≤ 2500 := by omega
        rw [if_neg hn2] at nx
        have Z2 := Lib.hid nx
        clear nx HE
        go_wp2_with fail
        go_ret
        exact ⟨by rw [Z2.out]; rfl, by first | rfl | trivial⟩
    · obtain rfl : i = nk := by omega
      have he := HE.out
      rw [DN.out] at he
      unfold txF at he
      have Z2 := Lib.hid he
      clear he HE hik
      go_wp2_with fail
      go_ret
      exact ⟨by rw [Z2.out]; rfl, by first | rfl | trivial⟩
def Fd.sm (f : Fd) : Prop := f.name.size ≤ 2500 ∧ kwt f.al ≤ 10000 ∧ f.df.wt ≤ 2500 ∧ f.df.deep ≤ 61
def AllF (l : List Fd) (n : Nat) : Prop := ∀ i (h : i < l.length), i < n → (l[i]'h).sm
def Nd.sm (n : Nd) : Prop := n.name.size ≤ 2500 ∧ n.fs.length ≤ 2500 ∧ n.br.length ≤ 2500 ∧ n.df.size ≤ 2500 ∧ kwt n.al ≤ 10000 ∧ kwt n.sy ≤ 10000 ∧ ∀ i (h : i < n.fs.length), (n.fs[i]'h).sm
def Sc.sm (s : Sc) : Prop := s.nodes.length ≤ 2500 ∧ ∀ i (h : i < s.nodes.length), (s.nodes[i]'h).sm
def BulS (s : Sc) (w : World) (e : Ending) (w' : World) : Prop := ∃ n : Nat, e = .returned (.int .i64 (n : Int)) ∧ (n ≤ 2500 → s.sm) ∧ Below w.heap.size w w'
theorem wrap_in {z : Int} (h1 : -9223372036854775808 ≤ z) (h2 : z ≤ 9223372036854775807) : IntKind.i64.wrap z = z := by rw [IntKind.wrap_i64]; omega
theorem wrap3 (a b c d : Nat) (h : a + b + c + d ≤ 1000000) : Value.int .i64 (IntKind.i64.wrap (IntKind.i64.wrap (IntKind.i64.wrap ((a : Int) + (b : Int)) + (c : Int)) + (d : Int))) = Value.int .i64 (((a + b + c + d : Nat)) : Int) := by
 rw [wrap_in (z := (a : Int) + (b : Int)) (by omega) (by omega), wrap_in (z := (a : Int) + (b : Int) + (c : Int)) (by omega) (by omega), wrap_in (by omega) (by omega)]
 push_cast; rfl
theorem buls_ret {s : Sc} {n : Nat} {z : Int} {w w' : World} (hz : z = (n : Int)) (h : n ≤ 2500 → s.sm) (hb : Below w.heap.size w w') : BulS s w (.returned (.int .i64 z)) w' := by subst hz; exact ⟨n, rfl, h, hb⟩
theorem sbulk_any (sc : Sc) (w : World) (A : Option Addr) (c : Nat) (hs : Lies w (· < w.heap.size) sc.enc [.slice A sc.nodes.length c, .int .i64 sc.root]) :
 Calls Tryz.prog 34 #[.agg #[.slice A sc.nodes.length c, .int .i64 sc.root], .int .i64 2500] w (BulS sc w) := by
 have CS := cell_set
 obtain ⟨_, _, e, hl, rd⟩ := Sc.out.1 hs
 simp only [List.cons.injEq, Value.slice.injEq, true_and, and_true] at e
 obtain ⟨rfl, rfl⟩ := e
 have hb := hl.2
 unfold maxLen at hb
 obtain ⟨nn, hnn⟩ : ∃ m, m = sc.nodes.length := ⟨_, rfl⟩
 have HNN := Lib.hid hnn
 rw [← hnn] at hb ⊢
 have RD := Lib.hid rd
 clear hs rd hl hnn
 generalize sc.root = rt at *
 have W1 : Below w.heap.size w (w.alloc (.cells #[.slice A nn c, .int .i64 rt] 30)) := (Below.refl _ _).alloc (Nat.le_refl _) _
 have gz1 : (w.alloc (.cells #[.slice A nn c, .int .i64 rt] 30)).heap.size = w.heap.size + 1 := by simp
 have GZ1 := Lib.hid gz1
 clear gz1
 by_cases h0 : 2500 < nn
 · have q0 : (2500 : Int) < (nn : Int) := by omega
   go_enter Tryz.func34, Tryz.ntmps34
   go_wp2_with fail
   go_ret
   exact buls_ret (n := 2501) (by rfl) (fun h => by omega) W1
 · have q0 : ¬ (2500 : Int) < (nn : Int) := by omega
   have n0 : nn ≤ 2500 := by omega
   go_enter Tryz.func34, Tryz.ntmps34
   go_wp2_with fail
   go_loopw [5, 6] (fun m t wr => ∃ i n : Nat, i ≤ nn ∧ n ≤ 200000 ∧ t = .int .i64 (i : Int) ∧ m = .int .i64 (n : Int) ∧ Hid (n ≤ 2500 → ∀ m (h : m < sc.nodes.length), m < i → (sc.nodes[m]'h).sm) ∧ Below (w.heap.size + 1) (w.alloc (.cells #[.slice A nn c, .int .i64 rt] 30)) wr) (fun _ t _ => nn - (intOf t).toNat)
   case atStart => exact ⟨0, nn, Nat.zero_le _, by omega, rfl, rfl, fun _ _ _ h => absurd h (Nat.not_lt_zero _), Below.refl _ _⟩
   case round =>
    obtain ⟨i, n, hi, hn, rfl, rfl, HE, bl⟩ := hrel
    obtain ⟨wo, hwo⟩ : ∃ x, x = wr := ⟨_, rfl⟩
    subst hwo
    have gsz := bl.size
    rw [GZ1.out] at gsz
    have gsz2 : w.heap.size ≤ wo.heap.size := by omega
    have blw : Below w.heap.size w wo := W1.trans (bl.mono (by omega))
    have hOwn := Nat.lt_of_lt_of_le (n := w.heap.size) sdd (Below.size bl)
    have hOwn1 := Nat.ne_of_gt hOwn
    have hOwn2 := Nat.ne_of_lt hOwn
    have hOwn := ocl bl w.heap.size 0
    have hOwn := ocl bl w.heap.size 1
    have hOwn := ofr bl w.heap.size 0
    have hOwn := ofr bl w.heap.size 1
    by_cases hin : i < nn ∧ n ≤ 2500
    · obtain ⟨hin, hn2⟩ := hin
      have h1 : i < sc.nodes.length := by rw [← HNN.out]; exact hin
      have qn : (n : Int) ≤ 2500 := by omega
      obtain ⟨b1, o1, A2, c2, A3, c3, A4, c4, A9, c9, e1, hb1, ⟨y0, y1, y2, y3, y4, y5, y6, y7, y8, y9⟩, ly⟩ := nodes_at (RD.out.below blw) h1
      obtain ⟨_, _, _, _, _, _, _, _, e, l2, f2, l3, r3, l4, f4, l9, r9⟩ := Nd.out.1 ly
      simp only [List.cons.injEq, Value.slice.injEq, true_and, and_true] at e
      obtain ⟨⟨rfl, rfl⟩, ⟨rfl, rfl⟩, ⟨rfl, rfl⟩, rfl, rfl⟩ := e
      have HX : Hid (∀ n', n' ≤ 2500 → n ≤ n' → (n' ≤ 2500 → (sc.nodes[i]'h1).sm) → ∀ m (h : m < sc.nodes.length), m < i + 1 → (sc.nodes[m]'h).sm) := fun n' h2 h3 h4 m h hm => by
       rcases Nat.lt_or_ge m i with g | g
       · exact HE.out (by omega) m h g
       · obtain rfl : m = i := by omega
         exact h4 h2
      have HA : Hid (n ≤ 2500 → (∀ m (h : m < sc.nodes.length), m < nn → (sc.nodes[m]'h).sm) → sc.sm) := fun _ h => ⟨by rw [← HNN.out]; exact n0, fun m hm => h m hm (by rw [HNN.out]; exact hm)⟩
      clear HA
      generalize sc.nodes[i]'h1 = T at *
      subst e1
      have lb1 : b1 < w.heap.size := hb1
      have t2 := Lib.hid (fun W (b : Below w.heap.size wo W) => rtexts10_any A2 c2 T.al W ((f2.keep (Below.keeps b) (fun _ h => h)).keep (fun _ _ => rfl) fun _ h => Nat.lt_of_lt_of_le h (Nat.le_trans gsz2 b.size)) l2.2)
      have t4 := Lib.hid (fun W (b : Below w.heap.size wo W) => rtexts10_any A4 c4 T.sy W ((f4.keep (Below.keeps b) (fun _ h => h)).keep (fun _ _ => rfl) fun _ h => Nat.lt_of_lt_of_le h (Nat.le_trans gsz2 b.size)) l4.2)
      have R3 := Lib.hid r3
      have x2 := tx_le T.al
      have x4 := tx_le T.sy
      have k2 := Lib.hid (@tx_ge T.al)
      have k4 := Lib.hid (@tx_ge T.sy)
      have b3 := l3.2; have b9 := l9.2
      unfold maxLen at b3 b9
      have SMT : Hid (T.name.size ≤ 2500 → T.fs.length ≤ 2500 → T.br.length ≤ 2500 → T.df.size ≤ 2500 → kwt T.al ≤ 2500 → kwt T.sy ≤ 2500 → AllF T.fs T.fs.length → T.sm) := fun a b c d e f g => ⟨a, b, c, d, by omega, by omega, fun i h => g i h h⟩
      obtain ⟨X2, hX2⟩ : ∃ x, x = tx T.al := ⟨_, rfl⟩
      obtain ⟨X4, hX4⟩ : ∃ x, x = tx T.sy := ⟨_, rfl⟩
      rw [← hX2] at x2 t2 k2
      rw [← hX4] at x4 t4 k4
      obtain ⟨nf, hnf⟩ : ∃ m, m = T.fs.length := ⟨_, rfl⟩
      have HNF := Lib.hid hnf
      rw [← hnf] at b3 SMT y3
      clear ly f2 f4 l2 l3 l4 l9 r9 r3 h1 hX2 hX4 hnf
      by_cases g1 : 2500 < T.name.size
      · have q1 : (2500 : Int) < (T.name.size : Int) := by omega
        go_wp2_with fail
        go_ret
        exact buls_ret (n := 2501) (by rfl) (fun h => by omega) bqq
      · have q1 : ¬ (2500 : Int) < (T.name.size : Int) := by omega
        by_cases g2 : 2500 < nf
        · have q2 : (2500 : Int) < (nf : Int) := by omega
          go_wp2_with fail
          go_ret
          exact buls_ret (n := 2501) (by rfl) (fun h => by omega) bqq
        · have q2 : ¬ (2500 : Int) < (nf : Int) := by omega
          by_cases g3 : 2500 < T.br.length
          · have q3 : (2500 : Int) < (T.br.length : Int) := by omega
            go_wp2_with fail
            go_ret
            exact buls_ret (n := 2501) (by rfl) (fun h => by omega) bqq
          · have q3 : ¬ (2500 : Int) < (T.br.length : Int) := by omega
            by_cases g4 : 2500 < T.df.size
            · have q4 : (2500 : Int) < (T.df.size : Int) := by omega
              go_wp2_with fail
              go_ret
              exact buls_ret (n := 2501) (by rfl) (fun h => by omega) bqq
            · have q4 : ¬ (2500 : Int) < (T.df.size : Int) := by omega
              obtain ⟨nm, hnm⟩ : ∃ m, m = T.name.size := ⟨_, rfl⟩
              obtain ⟨nb, hnb⟩ : ∃ m, m = T.br.length := ⟨_, rfl⟩
              obtain ⟨nd, hnd⟩ : ∃ m, m = T.df.size := ⟨_, rfl⟩
              have p1 : T.name.size ≤ 2500 := by omega
              have p2 : nf ≤ 2500 := by omega
              have p3 : T.br.length ≤ 2500 := by omega
              have p4 : T.df.size ≤ 2500 := by omega
              have SM2 : Hid (X2 ≤ 2500 → X4 ≤ 2500 → AllF T.fs nf → T.sm) := fun a b g => SMT.out (by omega) p2 (by omega) (by omega) (by rw [k2.out a]; exact a) (by rw [k4.out b]; exact b) g
              have wn : Below wo.heap.size wo (wo.alloc (.cells #[.int .i64 T.k, .string T.name, .slice A2 T.al.length c2, .slice A3 nf c3, .slice A4 T.sy.length c4, .bool T.has, .string T.df, .int .i64 T.size, .int .i64 T.items, .slice A9 T.br.length c9] 59)) := (Below.refl _ _).alloc (Nat.le_refl _) _
              have TQ2 : Hid (∀ k, Calls Tryz.prog 70 #[.slice A2 T.al.length c2, .int .i64 2500] ((wo.alloc (.cells #[.int .i64 T.k, .string T.name, .slice A2 T.al.length c2, .slice A3 nf c3, .slice A4 T.sy.length c4, .bool T.has, .string T.df, .int .i64 T.size, .int .i64 T.items, .slice A9 T.br.length c9] 59)).drewN k) (fun x w' => x = .returned (.int .i64 (X2 : Int)) ∧ w' = (wo.alloc (.cells #[.int .i64 T.k, .string T.name, .slice A2 T.al.length c2, .slice A3 nf c3, .slice A4 T.sy.length c4, .bool T.has, .string T.df, .int .i64 T.size, .int .i64 T.items, .slice A9 T.br.length c9] 59)).drewN k)) := fun k => (t2.out _ (bel_drewN (wn.mono gsz2) k)).mono fun _ _ h => ⟨h.1, h.2.symm⟩
              have TQ4 : Hid (∀ k, Calls Tryz.prog 70 #[.slice A4 T.sy.length c4, .int .i64 2500] ((wo.alloc (.cells #[.int .i64 T.k, .string T.name, .slice A2 T.al.length c2, .slice A3 nf c3, .slice A4 T.sy.length c4, .bool T.has, .string T.df, .int .i64 T.size, .int .i64 T.items, .slice A9 T.br.length c9] 59)).drewN k) (fun x w' => x = .returned (.int .i64 (X4 : Int)) ∧ w' = (wo.alloc (.cells #[.int .i64 T.k, .string T.name, .slice A2 T.al.length c2, .slice A3 nf c3, .slice A4 T.sy.length c4, .bool T.has, .string T.df, .int .i64 T.size, .int .i64 T.items, .slice A9 T.br.length c9] 59)).drewN k)) := fun k => (t4.out _ (bel_drewN (wn.mono gsz2) k)).mono fun _ _ h => ⟨h.1, h.2.symm⟩
              clear SMT k2 k4 wn hnm hnb hnd nm nb nd
              go_wp2_with fail
              go_quiet ((first | (go_at_call 70; with_reducible exact Calls.quiet_of_same (TQ2.out _)) | (go_at_call 70; with_reducible exact Calls.quiet_of_same (TQ4.out _))))
              have gzn : (wo.alloc (.cells #[.int .i64 T.k, .string T.name, .slice A2 T.al.length c2, .slice A3 nf c3, .slice A4 T.sy.length c4, .bool T.has, .string T.df, .int .i64 T.size, .int .i64 T.items, .slice A9 T.br.length c9] 59)).heap.size = wo.heap.size + 1 := by simp
              have GZN := Lib.hid gzn
              have B2 : Below w.heap.size wo (wo.alloc (.cells #[.int .i64 T.k, .string T.name, .slice A2 T.al.length c2, .slice A3 nf c3, .slice A4 T.sy.length c4, .bool T.has, .string T.df, .int .i64 T.size, .int .i64 T.items, .slice A9 T.br.length c9] 59)) := (Below.refl _ _).alloc gsz2 _
              clear gzn TQ2 TQ4
              go_wp2_with fail
              go_loopw [5, 8] (fun m t wr => ∃ p u : Nat, p ≤ nf ∧ u ≤ 200000 ∧ t = .int .i64 (p : Int) ∧ m = .int .i64 (u : Int) ∧ Hid (X2 + X4 ≤ u ∧ n ≤ u ∧ (u ≤ 2500 → AllF T.fs p)) ∧ Below (wo.heap.size + 1) (wo.alloc (.cells #[.int .i64 T.k, .string T.name, .slice A2 T.al.length c2, .slice A3 nf c3, .slice A4 T.sy.length c4, .bool T.has, .string T.df, .int .i64 T.size, .int .i64 T.items, .slice A9 T.br.length c9] 59)) wr) (fun _ t _ => nf - (intOf t).toNat)
              case atStart => exact ⟨0, n + T.name.size + nf + T.br.length + T.df.size + X2 + X4, Nat.zero_le _, by omega, rfl, by push_cast; rfl, ⟨by omega, by omega, fun _ _ _ h => absurd h (Nat.not_lt_zero _)⟩, bel_drewN (Below.refl _ _) _⟩
              case round =>
               obtain ⟨p, u, hp, hu, rfl, rfl, HU, bq⟩ := hrel
               have zq := bq.size
               rw [GZN.out] at zq
               have bqw : Below w.heap.size wo wr := B2.trans (bq.mono (by omega))
               have bww : Below w.heap.size w wr := blw.trans bqw
               have hOwn := Nat.lt_of_lt_of_le (n := wo.heap.size) sdd (Below.size bq)
               have hOwn1 := Nat.ne_of_gt hOwn
               have hOwn2 := Nat.ne_of_lt hOwn
               have hOwn := ocl bq wo.heap.size 0
               have hOwn := ocl bq wo.heap.size 1
               have hOwn := ocl bq wo.heap.size 2
               have hOwn := ocl bq wo.heap.size 3
               have hOwn := ocl bq wo.heap.size 4
               have hOwn := ocl bq wo.heap.size 5
               have hOwn := ocl bq wo.heap.size 6
               have hOwn := ocl bq wo.heap.size 7
               have hOwn := ocl bq wo.heap.size 8
               have hOwn := ocl bq wo.heap.size 9
               have hOwn := ofr bq wo.heap.size 0
               have hOwn := ofr bq wo.heap.size 1
               have hOwn := ofr bq wo.heap.size 2
               have hOwn := ofr bq wo.heap.size 3
               have hOwn := ofr bq wo.heap.size 4
               have hOwn := ofr bq wo.heap.size 5
               have hOwn := ofr bq wo.heap.size 6
               have hOwn := ofr bq wo.heap.size 7
               have hOwn := ofr bq wo.heap.size 8
               have hOwn := ofr bq wo.heap.size 9
               by_cases hpn : p < nf ∧ u ≤ 2500
               · obtain ⟨hpf, hu2⟩ := hpn
                 have h2 : p < T.fs.length := by rw [← HNF.out]; exact hpf
                 have qu : (u : Int) ≤ 2500 := by omega
                 obtain ⟨b5, o5, X1, x1, X3, x3, X5, x5, e5, hb5, ⟨z0, z1, z2, z3, z4, z5, z6, z7, z8⟩, l1, f1, tj⟩ := fields_at (R3.out.below bqw) h2
                 have TF := Lib.hid (fun W (b : Below w.heap.size wr W) => rtexts10_any X1 x1 (T.fs[p]'h2).al W ((f1.keep (Below.keeps b) (fun _ h => h)).keep (fun _ _ => rfl) fun _ h => Nat.lt_of_lt_of_le h (Nat.le_trans bww.size b.size)) l1.2)
                 have BK := Lib.hid (fun W (b : Below w.heap.size wr W) => bulk25_any (T.fs[p]'h2).df 0 W X3 X5 x3 x5 (by omega) ((tj.below b).more (Nat.le_trans bww.size b.size)))
                 rw [show ((0 : Nat) : Int) = 0 from rfl] at BK
                 have h6 := HU.out
                 have AF : Hid ((T.fs[p]'h2).sm → AllF T.fs p → AllF T.fs (p + 1)) := fun a b j hj hq => by
                  rcases Nat.lt_or_ge j p with g | g
                  · exact b j hj g
                  · obtain rfl : j = p := by omega
                    exact a
                 have xf := tx_le (T.fs[p]'h2).al
                 have kf := Lib.hid (@tx_ge (T.fs[p]'h2).al)
                 generalize T.fs[p]'h2 = F at *
                 subst e5
                 have lb5 : b5 < w.heap.size := hb5
                 obtain ⟨XF, hXF⟩ : ∃ x, x = tx F.al := ⟨_, rfl⟩
                 rw [← hXF] at xf kf TF
                 have m3 : wr.cell? ⟨wo.heap.size, 3, none⟩ = some (.slice (some ⟨b5, o5, none⟩) nf c3) := (bq.cell (p := ⟨wo.heap.size, 3, none⟩) (by show wo.heap.size < wo.heap.size + 1; omega)).trans (by go_simp)
                 by_cases g6 : 2500 < F.name.size
                 · have q6 : (2500 : Int) < (F.name.size : Int) := by omega
                   clear hXF h2 tj f1 l1 AF kf TF BK
                   go_wp2_with fail
                   go_ret
                   exact buls_ret (n := 2501) (by rfl) (fun h => by omega) bqq
                 · have q6 : ¬ (2500 : Int) < (F.name.size : Int) := by omega
                   have p6 : F.name.size ≤ 2500 := by omega
                   have FSM : Hid (∀ n3 : Nat, (n3 ≤ 2500 → F.df.deep + 0 ≤ 61 ∧ F.df.wt = n3) → X2 + X4 ≤ u + F.name.size + XF + n3 ∧ n ≤ u + F.name.size + XF + n3 ∧ (u + F.name.size + XF + n3 ≤ 2500 → AllF T.fs (p + 1))) := fun n3 h3 => by
                    refine ⟨by omega, by omega, fun hs => AF.out ⟨p6, ?_, ?_, ?_⟩ (h6.2.2 hu2)⟩
                    · rw [kf.out (by omega)]; omega
                    · have := h3 (by omega); omega
                    · have := h3 (by omega); omega
                   have bend : Below (wo.heap.size + 1) (wo.alloc (.cells #[.int .i64 T.k, .string T.name, .slice A2 T.al.length c2, .slice (some ⟨b5, o5, none⟩) nf c3, .slice A4 T.sy.length c4, .bool T.has, .string T.df, .int .i64 T.size, .int .i64 T.items, .slice A9 T.br.length c9] 59)) wr := bq
                   clear hXF h2 tj f1 l1 AF kf HU h6 SM2 HX HE R3 RD
                   go_wp2_with fail
                   have bqz : Below w.heap.size wr wr := Below.refl _ _
                   go_region_held_law (fun w' => w'.cell? ⟨wo.heap.size, 3, none⟩ = some (.slice (some ⟨b5, o5, none⟩) nf c3) ∧ w'.cell? ⟨b5, o5 + p * 9, none⟩ = some (.string F.name) ∧ w'.cell? ⟨b5, o5 + p * 9 + 1, none⟩ = some (.slice X1 F.al.length x1) ∧ w'.cell? ⟨b5, o5 + p * 9 + 4, none⟩ = some (.int .i64 F.df.k) ∧ w'.cell? ⟨b5, o5 + p * 9 + 5, none⟩ = some (.int .i64 F.df.n) ∧ w'.cell? ⟨b5, o5 + p * 9 + 6, none⟩ = some (.string F.df.t) ∧ w'.cell? ⟨b5, o5 + p * 9 + 7, none⟩ = some (.slice X3 F.df.its.length x3) ∧ w'.cell? ⟨b5, o5 + p * 9 + 8, none⟩ = some (.slice X5 F.df.ks.length x5))
                    (exact ⟨(by first | with_reducible assumption | (go_simp; done)), (by first | with_reducible assumption | (go_simp; done)), (by first | with_reducible assumption | (go_simp; done)), (by first | with_reducible assumption | (go_simp; done)), (by first | with_reducible assumption | (go_simp; done)), (by first | with_reducible assumption | (go_simp; done)), (by first | with_reducible assumption | (go_simp; done)), (by first | with_reducible assumption | (go_simp; done))⟩)
                    (first
                     | (go_at_call 70; with_reducible refine (TF.out _ bqq).mono ?_; rintro e w' ⟨rfl, rfl⟩)
                     | (go_at_call 24; refine (BK.out _ (bel_drewN (n := 1) bqz)).mono ?_; rintro e w3 ⟨n3, rfl, hn3, hd3, b3⟩; have FS3 := Lib.hid (FSM.out n3 hd3); clear hd3; have k0 := (Below.cell b3 (p := ⟨wo.heap.size, 3, none⟩) (by show wo.heap.size < wr.heap.size; omega)).trans m3; have k1 := (Below.cell b3 (p := ⟨b5, o5 + p * 9, none⟩) (by show b5 < wr.heap.size; omega)).trans z0; have k2 := (Below.cell b3 (p := ⟨b5, o5 + p * 9 + 1, none⟩) (by show b5 < wr.heap.size; omega)).trans z1; have k3 := (Below.cell b3 (p := ⟨b5, o5 + p * 9 + 4, none⟩) (by show b5 < wr.heap.size; omega)).trans z4; have k4 := (Below.cell b3 (p := ⟨b5, o5 + p * 9 + 5, none⟩) (by show b5 < wr.heap.size; omega)).trans z5; have k5 := (Below.cell b3 (p := ⟨b5, o5 + p * 9 + 6, none⟩) (by show b5 < wr.heap.size; omega)).trans z6; have k6 := (Below.cell b3 (p := ⟨b5, o5 + p * 9 + 7, none⟩) (by show b5 < wr.heap.size; omega)).trans z7; have k7 := (Below.cell b3 (p := ⟨b5, o5 + p * 9 + 8, none⟩) (by show b5 < wr.heap.size; omega)).trans z8))
                   all_goals
                    go_wp2_with fail
                    go_roundw
                    case rel => exact ⟨p + 1, u + F.name.size + XF + n3, by omega, by omega, by go_num, (by first | exact wrap3 _ _ _ _ (by omega) | (push_cast; rfl)), FS3, (bel_drewN bend _).trans (b3.mono zq)⟩
                    case measure => simp [intOf]; omega
               · have h5 : ¬ (p : Int) < (nf : Int) ∨ (p : Int) < (nf : Int) ∧ ¬ (u : Int) ≤ 2500 := by omega
                 have h6 := HU.out
                 have REL : Hid (u ≤ 2500 → ∀ m (h : m < sc.nodes.length), m < i + 1 → (sc.nodes[m]'h).sm) := fun hu2 => HX.out u hu2 h6.2.1 (fun _ => SM2.out (by omega) (by omega) (by
                  have pe : p = nf := by omega
                  rw [← pe]; exact h6.2.2 hu2))
                 clear h6 HU HX SM2 hpn
                 have bend : Below (w.heap.size + 1) (w.alloc (.cells #[.slice (some ⟨b1, o1, none⟩) nn c, .int .i64 rt] 30)) wr := bl.trans (((Below.refl _ _).alloc gsz _).trans (bq.mono (by omega)))
                 rcases h5 with h5 | ⟨h5, h7⟩
                 all_goals
                  go_wp2_with fail
                  go_roundw
                  case rel => exact ⟨i + 1, u, by omega, by omega, by go_num, rfl, REL, bend⟩
                  case measure => simp [intOf]; omega
    · have h5 : ¬ (i : Int) < (nn : Int) ∨ (i : Int) < (nn : Int) ∧ ¬ (n : Int) ≤ 2500 := by omega
      have FIN : Hid (n ≤ 2500 → sc.sm) := fun hn2 => ⟨by rw [← HNN.out]; exact n0, fun m hm => HE.out hn2 m hm (by rw [← HNN.out] at hm; omega)⟩
      clear hin HE
      rcases h5 with h5 | ⟨h5, h6⟩
      all_goals
       go_wp2_with fail
       go_ret
       exact buls_ret (n := n) (by rfl) FIN.out bqq
end Go.Proofs.YthfoomobicbcpaaGreatDoor
namespace Go.Proofs.YthfoomobicbcpaaGreatDoor.Num
def dig : Nat → Nat → Nat
 | 0, _ => 0
 | f + 1, u => if u = 0 then 0 else dig f (u / 2) + 1
theorem dig_fuel : ∀ (f g u : Nat), u < 2 ^ f → u < 2 ^ g → dig f u = dig g u
 | 0, 0, _, _, _ => rfl
 | 0, g + 1, u, h, _ => by
  have : u = 0 := by simp at h; exact h
  subst this; simp [dig]
 | f + 1, 0, u, _, h => by
  have : u = 0 := by simp at h; exact h
  subst this; simp [dig]
 | f + 1, g + 1, u, h, k => by
  rw [Nat.pow_succ] at h k
  unfold dig
  by_cases e : u = 0
  · rw [if_pos e, if_pos e]
  · rw [if_neg e, if_neg e, dig_fuel f g (u / 2) (by omega) (by omega)]
theorem dig_le : ∀ (f k u : Nat), u < 2 ^ k → dig f u ≤ k
 | 0, _, _, _ => Nat.zero_le _
 | f + 1, 0, u, h => by
  have : u = 0 := by simp at h; exact h
  subst this; simp [dig]
 | f + 1, k + 1, u, h => by
  rw [Nat.pow_succ] at h
  unfold dig
  split
  · omega
  · have := dig_le f k (u / 2) (by omega); omega
theorem dig_mono : ∀ (f u v : Nat), u ≤ v → dig f u ≤ dig f v
 | 0, _, _, _ => Nat.le_refl _
 | f + 1, u, v, h => by
  unfold dig
  by_cases e : u = 0
  · rw [if_pos e]; omega
  · rw [if_neg e, if_neg (by omega)]
    have := dig_mono f (u / 2) (v / 2) (by omega); omega
def bl (u : Int) : Int := dig 64 u.toNat
theorem bl_zero : bl 0 = 0 := by decide
theorem bl_lo (u : Int) : 0 ≤ bl u := by unfold bl; omega
theorem bl_step {u : Int} (h0 : 0 < u) (h1 : u ≤ 18446744073709551615) : bl u = bl (u / 2) + 1 := by
 unfold bl
 rw [show dig 64 u.toNat = dig 63 (u.toNat / 2) + 1 by rw [dig, if_neg (by omega)], dig_fuel 63 64 (u.toNat / 2) (by omega) (by omega), show (u / 2).toNat = u.toNat / 2 by omega]
 omega
theorem bl_hi {u : Int} (h : u ≤ 18446744073709551615) : bl u ≤ 64 := by
 unfold bl
 have := dig_le 64 64 u.toNat (by omega); omega
theorem bl_mono {u v : Int} (h : u ≤ v) : bl u ≤ bl v := by
 unfold bl
 have := dig_mono 64 u.toNat v.toNat (by omega); omega
theorem bl_one : bl 1 = 1 := by decide
theorem bl_pos {u : Int} (h : 0 < u) : 1 ≤ bl u := by
 have := bl_mono (u := 1) (v := u) (by omega); rw [bl_one] at this; exact this
theorem bl_8 {u : Int} (h0 : 255 < u) (h1 : u ≤ 18446744073709551615) : bl u = bl (u / 256) + 8 := by
 rw [bl_step (by omega) h1, bl_step (u := u / 2) (by omega) (by omega), bl_step (u := u / 2 / 2) (by omega) (by omega), bl_step (u := u / 2 / 2 / 2) (by omega) (by omega),
  bl_step (u := u / 2 / 2 / 2 / 2) (by omega) (by omega), bl_step (u := u / 2 / 2 / 2 / 2 / 2) (by omega) (by omega), bl_step (u := u / 2 / 2 / 2 / 2 / 2 / 2) (by omega) (by omega),
  bl_step (u := u / 2 / 2 / 2 / 2 / 2 / 2 / 2) (by omega) (by omega), show u / 2 / 2 / 2 / 2 / 2 / 2 / 2 / 2 = u / 256 by omega]
 omega
theorem bl_small {u : Int} (h : u ≤ 127) : bl u ≤ 7 := by
 unfold bl
 have := dig_le 64 7 u.toNat (by omega); omega
def parts (u : Int) : Int := (max (bl u) 1 + 6) / 7
theorem parts_small {u : Int} (h : u ≤ 127) : parts u = 1 := by
 unfold parts; have := bl_small h; have := bl_lo u; omega
end Go.Proofs.YthfoomobicbcpaaGreatDoor.Num
namespace Go.Proofs.YthfoomobicbcpaaGreatDoor.Fp
def up (u d : Nat) : Nat := if 2 ^ (d - 1) < u % 2 ^ d ∨ (u % 2 ^ d = 2 ^ (d - 1) ∧ u / 2 ^ d % 2 = 1) then 1 else 0
def rnd (u d : Nat) : Nat := if d = 0 then u else u / 2 ^ d + up u d
def mv (u p q : Nat) : Nat := if q < p then rnd u (p - q) else u * 2 ^ (q - p)
def mag (F B s : Nat) : Nat := if s = 0 then 0 else (B + s.log2 - 1) * 2 ^ F + mv s s.log2 F
def fp (E F B : Nat) (n : Int) : Nat := if n < 0 then 2 ^ (E + F) + mag F B n.natAbs else mag F B n.natAbs
theorem up_le (u d : Nat) : up u d ≤ 1 := by unfold up; split <;> omega
theorem rnd_zero (u : Nat) : rnd u 0 = u := by simp [rnd]
theorem rnd_le (u d : Nat) : rnd u d ≤ u / 2 ^ d + 1 := by
 unfold rnd; split
 · subst d; simp
 · have := up_le u d; omega
theorem log2_lt {s : Nat} (_h : s ≠ 0) : s < 2 ^ (s.log2 + 1) := Nat.lt_log2_self
theorem mv_le {s : Nat} (h : s ≠ 0) (q : Nat) : mv s s.log2 q ≤ 2 ^ (q + 1) := by
 unfold mv
 split
 · rename_i hq
   have h1 := rnd_le s (s.log2 - q)
   have h2 : s / 2 ^ (s.log2 - q) < 2 ^ (q + 1) := by
    rw [Nat.div_lt_iff_lt_mul (Nat.two_pow_pos _), ← Nat.pow_add, show q + 1 + (s.log2 - q) = s.log2 + 1 by omega]
    exact log2_lt h
   omega
 · rename_i hq
   calc s * 2 ^ (q - s.log2) ≤ 2 ^ (s.log2 + 1) * 2 ^ (q - s.log2) := Nat.mul_le_mul_right _ (Nat.le_of_lt (log2_lt h))
    _ = 2 ^ (q + 1) := by rw [← Nat.pow_add, show s.log2 + 1 + (q - s.log2) = q + 1 by omega]
theorem mv_lt {s : Nat} (h : s ≠ 0) {q : Nat} (hq : s.log2 ≤ q) : mv s s.log2 q < 2 ^ (q + 1) := by
 unfold mv
 rw [if_neg (by omega)]
 calc s * 2 ^ (q - s.log2) < 2 ^ (s.log2 + 1) * 2 ^ (q - s.log2) := Nat.mul_lt_mul_of_pos_right (log2_lt h) (Nat.two_pow_pos _)
  _ = 2 ^ (q + 1) := by rw [← Nat.pow_add, show s.log2 + 1 + (q - s.log2) = q + 1 by omega]
theorem mag_zero (F B : Nat) : mag F B 0 = 0 := by simp [mag]
theorem log2_hi {s : Nat} (h : s < 2 ^ 64) : s.log2 < 64 := by
 by_cases h0 : s = 0
 · subst h0; decide
 · exact (Nat.log2_lt h0).2 h
theorem mag_hi {F B s : Nat} (hB : 1 ≤ B) (h : s < 2 ^ 64) : mag F B s ≤ (B + 64) * 2 ^ F := by
 unfold mag
 split
 · omega
 · rename_i h0
   have a := mv_le h0 F
   have := log2_hi h
   rw [Nat.pow_succ] at a
   have c : (B + s.log2 - 1 + 2) * 2 ^ F ≤ (B + 64) * 2 ^ F := Nat.mul_le_mul_right _ (by omega)
   rw [Nat.add_mul] at c
   omega
theorem bl_log2 (s : Nat) (h0 : s ≠ 0) (h : s < 2 ^ 64) : Num.bl (s : Int) = ((s.log2 : Nat) : Int) + 1 := by
 induction s using Nat.strongRecOn with
 | _ s ih =>
  rw [Num.bl_step (by omega) (by omega)]
  by_cases h2 : 2 ≤ s
  · have := ih (s / 2) (by omega) (by omega) (by omega)
    rw [show ((s : Int) / 2) = ((s / 2 : Nat) : Int) by omega, this, Nat.log2_def s, if_pos h2]
    omega
  · obtain rfl : s = 1 := by omega
    decide
theorem gap_pow (d n : Nat) (h : d ≤ n.log2 + 2) : 1 <<< min d (n.log2 + 2) = 2 ^ d := by
 rw [Nat.min_eq_left h, Nat.shiftLeft_eq, Nat.one_mul]
theorem cut_rnd (neg : Bool) (n d : Nat) (h : d ≤ n.log2 + 2) : Ieee.Toward.even.cut neg n d = rnd n d := by
 unfold Ieee.Toward.cut
 rw [gap_pow d n h]
 unfold rnd up
 by_cases hd : d = 0
 · subst d; simp [Nat.mod_one]
 · obtain ⟨k, rfl⟩ : ∃ k, d = k + 1 := ⟨d - 1, by omega⟩
   rw [if_neg hd]
   simp only [Nat.add_sub_cancel]
   generalize hr : n % 2 ^ (k + 1) = r
   generalize n / 2 ^ (k + 1) = q
   have e : 2 ^ (k + 1) = 2 * 2 ^ k := by rw [Nat.pow_succ, Nat.mul_comm]
   rw [e]
   generalize 2 ^ k = g
   by_cases c : g < r ∨ (r = g ∧ q % 2 = 1)
   · rw [if_pos c]
     have : (decide (2 * g < 2 * r) || (2 * g == 2 * r && q % 2 == 1)) = true := by
      rcases c with c | ⟨rfl, c⟩
      · simp; omega
      · simp [c]
     simp only [this, Bool.toNat_true]
   · rw [if_neg c]
     have : (decide (2 * g < 2 * r) || (2 * g == 2 * r && q % 2 == 1)) = false := by
      have c1 : ¬ g < r := fun h => c (.inl h)
      have c2 : ¬ (r = g ∧ q % 2 = 1) := fun h => c (.inr h)
      simp only [Bool.or_eq_false_iff, decide_eq_false_iff_not, Bool.and_eq_false_iff, beq_eq_false_iff_ne]
      refine ⟨by omega, ?_⟩
      by_cases h : q % 2 = 1
      · exact .inl (fun hh => c2 ⟨by omega, h⟩)
      · exact .inr h
     simp only [this, Bool.toNat_false]
theorem nearest_fp {f : Ieee.Format} {B : Nat} (hB : B + 1 = 2 ^ (f.exponentBits - 1)) (h1 : 1 ≤ B) (hI : (B + 64) * f.binade ≤ f.infRung)
 (neg : Bool) (s : Nat) (hs : s < 2 ^ 64) :
 f.nearest neg s 0 = f.word neg (mag f.fractionBits B s) := by
 unfold Ieee.Format.nearest
 by_cases h0 : s = 0
 · rw [if_pos h0, h0, mag_zero]
 · rw [if_neg h0]
   have hlp : f.leastPlace = 1 - (B : Int) - f.fractionBits := by
    unfold Ieee.Format.leastPlace
    have : ((2 : Int) ^ (f.exponentBits - 1)) = ((B + 1 : Nat) : Int) := by rw [hB]; simp
    rw [this]; omega
   have hl : max ((0 : Int) + s.log2 - f.fractionBits) (1 - (B : Int) - f.fractionBits) = (s.log2 : Int) - f.fractionBits := by omega
   simp only [hlp, hl]
   have e1 : ((s.log2 : Int) - f.fractionBits - (1 - (B : Int) - f.fractionBits)).toNat = B + s.log2 - 1 := by omega
   rw [e1]
   have e2 : Ieee.Toward.even.cut neg (s <<< (0 - ((s.log2 : Int) - f.fractionBits)).toNat) ((s.log2 : Int) - f.fractionBits - 0).toNat = mv s s.log2 f.fractionBits := by
    unfold mv
    by_cases c : f.fractionBits < s.log2
    · rw [if_pos c, show (0 - ((s.log2 : Int) - f.fractionBits)).toNat = 0 by omega, show ((s.log2 : Int) - f.fractionBits - 0).toNat = s.log2 - f.fractionBits by omega, Nat.shiftLeft_zero]
      exact cut_rnd neg s _ (by omega)
    · rw [if_neg c, show (0 - ((s.log2 : Int) - f.fractionBits)).toNat = f.fractionBits - s.log2 by omega, show ((s.log2 : Int) - f.fractionBits - 0).toNat = 0 by omega,
       cut_rnd neg _ _ (by omega), rnd_zero, Nat.shiftLeft_eq]
   rw [e2]
   have := mag_hi (F := f.fractionBits) (B := B) h1 hs
   unfold mag at this
   rw [if_neg h0] at this
   unfold Ieee.Format.binade at hI ⊢
   rw [Nat.min_eq_left (by omega)]
   unfold mag
   rw [if_neg h0]
theorem word_fp (f : Ieee.Format) (B : Nat) (n : Int) : f.word (decide (n < 0)) (mag f.fractionBits B n.natAbs) = fp f.exponentBits f.fractionBits B n := by
 unfold Ieee.Format.word Ieee.Format.signWeight fp
 by_cases h : n < 0
 · simp [h]
 · simp [h]
theorem near64 (n : Int) (h0 : -9223372036854775808 ≤ n) (h1 : n ≤ 9223372036854775807) : FloatKind.f64.nearest n = fp 11 52 1023 n := by
 unfold FloatKind.nearest FloatKind.encode Ieee.Format.write
 have := nearest_fp (f := Ieee.double) (B := 1023) (by decide) (by decide) (by decide) (decide (n < 0)) n.natAbs (by omega)
 exact this.trans (word_fp Ieee.double 1023 n)
def wsz (d : Nat) : Nat := if d / 4503599627370496 < 1023 ∨ 1087 ≤ d / 4503599627370496 then 0
 else if 1075 < d / 4503599627370496 then (d % 4503599627370496 + 4503599627370496) * 2 ^ (d / 4503599627370496 - 1075)
 else (d % 4503599627370496 + 4503599627370496) / 2 ^ (1075 - d / 4503599627370496)
def wok (d : Nat) : Bool := d == 0 || (decide (1023 ≤ d / 4503599627370496) && decide (d / 4503599627370496 < 1087) &&
 (decide (1075 < d / 4503599627370496) || (d % 4503599627370496 + 4503599627370496) / 2 ^ (1075 - d / 4503599627370496) * 2 ^ (1075 - d / 4503599627370496) == d % 4503599627370496 + 4503599627370496))
def hok (d : Nat) : Bool := wok (d % 9223372036854775808) && decide (wsz (d % 9223372036854775808) ≤ 9223372036854775807 + d / 9223372036854775808)
theorem fp32_lt (n : Int) (h0 : -9223372036854775808 ≤ n) (h1 : n ≤ 9223372036854775807) : fp 8 23 127 n < 4294967296 := by
 have := mag_hi (F := 23) (B := 127) (s := n.natAbs) (by decide) (by omega)
 unfold fp; split <;> omega
end Go.Proofs.YthfoomobicbcpaaGreatDoor.Fp
namespace Go.Proofs.YthfoomobicbcpaaGreatDoor
open Go.RowKit Mem
def askedK (k : Int) : Int := if k = 1 then 1 else if k = 2 then 2 else if 3 ≤ k ∧ k ≤ 6 then 3 else if k = 11 then 5 else if k = 9 ∨ k = 12 then 6 else 4
def octs (most : Nat) : Nat → List UInt8 → List UInt8 → Option (List UInt8)
 | 0, D, acc => if D = [] then some acc else none
 | f + 1, D, acc => if D = [] then some acc else if acc.length = most ∨ 255 < (Num.fst D).1 then none else octs most f (D.drop (Num.fst D).2.1) (acc ++ [UInt8.ofNat (Num.fst D).1])
def octsT (most : Nat) (t : ByteArray) : Option (List UInt8) := octs most t.data.toList.length t.data.toList []
theorem octs_len {most : Nat} : ∀ {f : Nat} {D acc l : List UInt8}, octs most f D acc = some l → acc.length ≤ most → l.length ≤ most ∧ l.length ≤ acc.length + f
 | 0, D, acc, l, h, hl => by
  unfold octs at h
  split at h
  · cases h; exact ⟨hl, by omega⟩
  · cases h
 | f + 1, D, acc, l, h, hl => by
  unfold octs at h
  split at h
  · cases h; exact ⟨hl, by omega⟩
  · split at h
    · cases h
    · have := octs_len h (by simp; omega)
      simp at this
      omega
theorem octsT_len {most : Nat} {t : ByteArray} {l : List UInt8} (h : octsT most t = some l) : l.length ≤ most ∧ l.length ≤ t.size := by
 have := octs_len h (by simp)
 refine ⟨this.1, ?_⟩
 have e : t.data.toList.length = t.size := by simp
 simp only [List.length_nil, Nat.zero_add] at this
 omega
def dtextV (nd : Nd) (t : ByteArray) : Option V :=
 if nd.k = 10 then (place7 nd.sy t).map fun i => V.mk 10 ((i : Nat) : Int) 0 [] [] []
 else if nd.k = 8 then (if t.size ≤ 20000 then some (.mk 8 0 0 t.data.toList [] []) else none)
 else if nd.k = 7 then (octsT 20000 t).map fun l => .mk 7 0 0 l [] []
 else (octsT nd.size.toNat t).bind fun l => if (l.length : Int) = nd.size then some (.mk 14 0 0 l [] []) else none
def dnumV (k n : Int) : Option V :=
 if k = 5 then some (.mk 5 0 ((Fp.fp 8 23 127 n : Nat) : Int) [] [] [])
 else if k = 6 then some (.mk 6 0 ((Fp.fp 11 52 1023 n : Nat) : Int) [] [] [])
 else if k = 3 ∧ ¬ (-2147483648 ≤ n ∧ n ≤ 2147483647) then none
 else some (.mk k n 0 [] [] [])
def textK (k : Int) : Prop := k = 7 ∨ k = 8 ∨ k = 10 ∨ k = 14
instance (k : Int) : Decidable (textK k) := by unfold textK; infer_instance
def dleaf (nd : Nd) (j : J) : Option V := if textK nd.k then dtextV nd j.t else dnumV nd.k j.n
def dgo {α : Type} (B : α → Nat → Option (V × Nat)) : List α → Nat → List V → Option (List V × Nat)
 | [], left, acc => some (acc, left)
 | x :: r, left, acc => match B x left with
  | none => none
  | some (v, l) => dgo B r l (acc ++ [v])
def said (j : J) (f : Fd) : J := (j.get f.name).getD f.df
abbrev DB := Int → J → Nat → Option (V × Nat)
def keysFit (ks : List ByteArray) : Bool := ks.all fun x => decide (x.size ≤ 20000)
def dlist (B : DB) (a : Int) (its : List J) (left : Nat) : Option (List V × Nat) := if 300 < its.length then none else dgo (B a) its left []
def dparted (B : DB) (nd : Nd) (j : J) (left : Nat) : Option (V × Nat) :=
 if nd.k = 9 then (dgo (fun f => B f.ty (said j f)) nd.fs left []).map fun p => (.mk 9 0 0 [] p.1 [], p.2)
 else if nd.k = 13 then (dlist B (nd.br.getD 0 0) [j] left).map fun p => (.mk 13 0 0 [] p.1 [], p.2)
 else if nd.k = 12 then (if keysFit j.ks = true then (dlist B nd.items j.its left).map fun p => (.mk 12 0 0 [] p.1 j.ks, p.2) else none)
 else (dlist B nd.items j.its left).map fun p => (.mk 11 0 0 [] p.1 [], p.2)
def dstep (o : Option DB) (nd : Nd) (j : J) (left : Nat) : Option (V × Nat) :=
 if left = 0 ∨ (nd.k ≠ 13 ∧ j.k ≠ askedK nd.k) then none
 else if deepK nd.k then o.bind fun B => dparted B nd j (left - 1)
 else (dleaf nd j).map fun v => (v, left - 1)
def dval (s : Sc) : Nat → DB
 | 0, a, j, left => dstep none (s.node a) j left
 | d + 1, a, j, left => dstep (some (dval s d)) (s.node a) j left
theorem dgo_ok {α : Type} {B : α → Nat → Option (V × Nat)} {Q : α → V → Prop} {d : Nat} : ∀ (l : List α) (left : Nat) (acc vs : List V) (l' : Nat),
 (∀ x ∈ l, ∀ left v l', B x left = some (v, l') → Q x v ∧ v.deep ≤ d ∧ l' < left ∧ v.wt + l' * 2502 ≤ left * 2502) → dgo B l left acc = some (vs, l') →
 ∃ new, vs = acc ++ new ∧ new.length = l.length ∧ (∀ i (h : i < new.length) (g : i < l.length), Q (l[i]'g) (new[i]'h)) ∧ V.deeps new ≤ d ∧ l' ≤ left ∧ V.wts new + l' * 2502 ≤ left * 2502
 | [], left, acc, vs, l', _, h => by
  simp only [dgo, Option.some.injEq, Prod.mk.injEq] at h
  obtain ⟨rfl, rfl⟩ := h
  exact ⟨[], by simp, rfl, fun i h => absurd h (Nat.not_lt_zero _), by simp [V.deeps], Nat.le_refl _, by simp [V.wts]⟩
 | x :: r, left, acc, vs, l', hB, h => by
  unfold dgo at h
  cases hb : B x left with
  | none => rw [hb] at h; cases h
  | some p =>
   obtain ⟨v, l1⟩ := p
   rw [hb] at h
   obtain ⟨q1, q2, q3, q4⟩ := hB x (by simp) left v l1 hb
   obtain ⟨new, e, hl, hq, hd, hle, hw⟩ := dgo_ok r l1 (acc ++ [v]) vs l' (fun y hy => hB y (by simp [hy])) h
   refine ⟨v :: new, by rw [e]; simp, by simp [hl], fun i h g => ?_, by simp only [V.deeps]; omega, by omega, by simp only [V.wts]; omega⟩
   cases i with
   | zero => exact q1
   | succ i => exact hq i (by simpa using h) (by simpa using g)
theorem J.frm_out {j : J} (h : j.frm) : 1 ≤ j.k ∧ j.k ≤ 6 ∧ (j.k ≠ 2 → j.k ≠ 3 → j.n = 0) ∧ (j.k = 2 → j.n = 0 ∨ j.n = 1) ∧ (Num.cU j.t.data.toList).isSome = true ∧ (j.k ≠ 6 → j.ks = []) ∧ (j.k = 6 → j.ks.length = j.its.length) ∧ (∀ x ∈ j.ks, (Num.cU x.data.toList).isSome = true) ∧ J.frms j.its := by
 cases j
 unfold J.frm at h
 exact ⟨h.1, h.2.1, h.2.2.1, h.2.2.2.1, h.2.2.2.2.2.1, h.2.2.2.2.2.2.2.1, h.2.2.2.2.2.2.2.2.1, h.2.2.2.2.2.2.2.2.2.1, h.2.2.2.2.2.2.2.2.2.2.2⟩
def JG (j : J) : Prop := (j.frm ∨ j = zJ) ∧ j.rng ∧ j.wt ≤ 2500
theorem J.wt_out (j : J) : j.wt = 1 + j.t.size + kwt j.ks + J.wts j.its := by cases j; unfold J.wt; rfl
theorem J.rng_out {j : J} (h : j.rng) : I64 j.n ∧ J.rngs j.its := by cases j; unfold J.rng at h; exact ⟨⟨h.1, h.2.1⟩, h.2.2⟩
theorem jrngs_at : ∀ {l : List J} (_ : J.rngs l) {i : Nat} (h : i < l.length), (l[i]'h).rng
 | [], _, _, h => absurd h (Nat.not_lt_zero _)
 | x :: r, hr, i, h => by
  unfold J.rngs at hr
  cases i with
  | zero => exact hr.1
  | succ i => exact jrngs_at hr.2 (i := i) (by simpa using h)
theorem JG.item {j : J} (h : JG j) {i : Nat} (hi : i < j.its.length) : JG (j.its[i]'hi) := by
 obtain ⟨h1, h2, h3⟩ := h
 refine ⟨.inl ?_, jrngs_at (J.rng_out h2).2 hi, ?_⟩
 · rcases h1 with h1 | h1
   · exact J.frms_iff.1 (J.frm_out h1).2.2.2.2.2.2.2.2 i hi
   · subst h1; exact absurd hi (Nat.not_lt_zero _)
 · have := wts_at (l := j.its) hi
   have := J.wt_out j
   omega
theorem JG.mem {j x : J} (h : JG j) (hx : x ∈ j.its) : JG x := by
 obtain ⟨i, hi, rfl⟩ := List.getElem_of_mem hx
 exact h.item hi
theorem kid_in {s : Sc} (ho : s.ordered) {p : Nat} (hp : p < s.nodes.length) {k : Int} (hk : k ∈ (s.nodes[p]'hp).kids) : 0 ≤ k ∧ k < (s.nodes.length : Int) := by
 have := (ordered_good ho).1 p (Nat.zero_le _) hp k (by unfold Sc.kidsAt; rw [List.getElem?_eq_getElem hp]; exact hk)
 exact ⟨this.1, this.2.1⟩
structure ScG (s : Sc) : Prop where
 right : s.right
 rng : s.rng
 sm : s.sm
theorem ScG.df {s : Sc} (h : ScG s) {p : Nat} (hp : p < s.nodes.length) (h9 : (s.nodes[p]'hp).k = 9) {f : Fd} (hf : f ∈ (s.nodes[p]'hp).fs) : JG f.df := by
 have ok := h.right.2.1 _ (List.getElem_mem hp)
 have o9 := ok.2.2.2.1
 rw [if_pos h9] at o9
 have of := (o9.2.2 f hf).2
 have r := (h.rng.2 _ (List.getElem_mem hp)).2.2.2.2 f hf
 obtain ⟨i, hi, rfl⟩ := List.getElem_of_mem hf
 have m := (h.sm.2 p hp).2.2.2.2.2.2 i hi
 refine ⟨?_, r.2, m.2.2.1⟩
 split at of
 · exact .inl of.2
 · exact .inr of
theorem said_JG {s : Sc} (h : ScG s) {j : J} (hj : JG j) {p : Nat} (hp : p < s.nodes.length) (h9 : (s.nodes[p]'hp).k = 9) {f : Fd} (hf : f ∈ (s.nodes[p]'hp).fs) : JG (said j f) := by
 unfold said
 cases hg : j.get f.name with
 | none => exact h.df hp h9 hf
 | some x => exact hj.mem (J.get_in hg).2
theorem wts_nil : V.wts [] = 0 := by unfold V.wts; rfl
theorem kwt_nil : kwt [] = 0 := by unfold kwt; rfl
theorem leaf_wt (k n bt : Int) (bs : List UInt8) : (V.mk k n bt bs [] []).wt = 1 + bs.length := by unfold V.wt; rw [kwt_nil, wts_nil]; omega
theorem dleaf_wt {nd : Nd} {j : J} {v : V} (h : dleaf nd j = some v) : v.wt ≤ 1 + j.t.size ∧ v.k = (if textK nd.k then v.k else nd.k) := by
 unfold dleaf at h
 split at h
 next ht =>
  refine ⟨?_, by rw [if_pos ht]⟩
  unfold dtextV at h
  split at h
  · cases hp : place7 nd.sy j.t with
    | none => rw [hp] at h; cases h
    | some i => rw [hp] at h; cases h; rw [leaf_wt]; simp
  · split at h
    · split at h
      · cases h; rw [leaf_wt]; simp
      · cases h
    · split at h
      · cases hp : octsT 20000 j.t with
        | none => rw [hp] at h; cases h
        | some l => rw [hp] at h; cases h; have := octsT_len hp; rw [leaf_wt]; omega
      · cases hp : octsT nd.size.toNat j.t with
        | none => rw [hp] at h; cases h
        | some l =>
         rw [hp] at h
         simp only [Option.bind_some] at h
         split at h
         · cases h; have := octsT_len hp; rw [leaf_wt]; omega
         · cases h
 next ht =>
  rw [if_neg ht]
  unfold dnumV at h
  split at h
  next hk => cases h; exact ⟨by rw [leaf_wt]; simp, hk.symm⟩
  next =>
   split at h
   next hk => cases h; exact ⟨by rw [leaf_wt]; simp, hk.symm⟩
   next =>
    split at h
    · cases h
    · cases h; exact ⟨by rw [leaf_wt]; simp, rfl⟩
end Go.Proofs.YthfoomobicbcpaaGreatDoor
