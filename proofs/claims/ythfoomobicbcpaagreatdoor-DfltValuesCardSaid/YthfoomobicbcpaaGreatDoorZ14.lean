/- Joined by tools/bundle.py: SOk SCH. -/
import Derived.Deep.RegionHeldLaw
import Derived.Deep.CutRange
import Derived.Test.YthfoomobicbcpaaGreatDoorZ3
import Derived.Test.YthfoomobicbcpaaGreatDoorZ4
import Derived.Test.YthfoomobicbcpaaGreatDoorZ5
import Derived.Test.YthfoomobicbcpaaGreatDoorZ6
import Derived.Test.YthfoomobicbcpaaGreatDoorZ7
import Derived.Test.YthfoomobicbcpaaGreatDoorZ0
set_option maxRecDepth 100000
set_option maxHeartbeats 16000000
namespace Go.Proofs.YthfoomobicbcpaaGreatDoor
open Go.ChangeShapes Go.WideShapes Go.ChangeAt Go.RowKit Mem
def Tells (P : Prop) (w : World) (e : Ending) (w' : World) : Prop := ∃ b : Bool, e = .returned (.bool b) ∧ (b = true ↔ P) ∧ Below w.heap.size w w'
theorem tells_yes {P : Prop} {b : Bool} {w w' : World} (hb : b = true) (h : P) (k : Below w.heap.size w w') : Tells P w (.returned (.bool b)) w' := ⟨b, rfl, ⟨fun _ => h, fun _ => hb⟩, k⟩
theorem tells_no {P : Prop} {b : Bool} {w w' : World} (hb : b = false) (h : ¬ P) (k : Below w.heap.size w w') : Tells P w (.returned (.bool b)) w' := ⟨b, rfl, ⟨fun g => (by rw [hb] at g; cases g), fun g => absurd g h⟩, k⟩
theorem zJ_lies {w : World} {S : Nat → Prop} : Lies w S zJ.enc [.int .i64 0, .int .i64 0, .string ⟨#[]⟩, .slice none 0 0, .slice none 0 0] := by
 refine tree_lies.2 ?_
 unfold zJ TreeS
 exact ⟨none, 0, none, 0, rfl, ⟨Nat.le_refl _, Nat.zero_le _⟩, ⟨Nat.le_refl _, Nat.zero_le _⟩, (by unfold RowS; trivial), .inl rfl⟩
theorem J.same_iff_ {a b : J} : J.same a b = true ↔ a = b := by
 constructor
 · intro h
   refine Classical.byContradiction fun g => ?_
   rw [J.same_no g] at h; cases h
 · intro h; subst h; exact J.same_refl _
theorem Tells.iff {P Q : Prop} {w : World} {e : Ending} {w' : World} (h : Tells P w e w') (k : P ↔ Q) : Tells Q w e w' := by
 obtain ⟨b, h1, h2, h3⟩ := h
 exact ⟨b, h1, h2.trans k, h3⟩
theorem told_tells {b : Bool} {P : Prop} {w : World} {e : Ending} {w' : World} (h : Told b w e w') (k : b = true ↔ P) : Tells P w e w' := ⟨b, h.1, k, h.2⟩
def unionOk (s : Sc) (br : List Int) : Prop := br ≠ [] ∧ br.length ≤ 10 ∧ (∀ b ∈ br, s.kind b ≠ 13) ∧ br.Pairwise (fun a b => a ≠ b ∧ (s.kind a ≠ s.kind b ∨ named (s.kind a) = true))
theorem kind_cell {s : Sc} {w : World} {S : Nat → Prop} {A : Option Addr} (h : RowD w S 10 (s.nodes.map Nd.enc) A) {p : Int} (h0 : 0 ≤ p) (h1 : p < (s.nodes.length : Int)) : ∃ q b o, p = ((q : Nat) : Int) ∧ q < s.nodes.length ∧ A = some ⟨b, o, none⟩ ∧ w.cell? ⟨b, o + q * 10, none⟩ = some (.int .i64 (s.kind p)) := by
 have hq : p.toNat < s.nodes.length := by omega
 obtain ⟨b, o, X2, x2, X3, x3, X4, x4, X9, x9, e1, _, ⟨y0, _⟩, _⟩ := nodes_at h hq
 refine ⟨p.toNat, b, o, by omega, hq, e1, ?_⟩
 rw [y0]
 unfold Sc.kind
 rw [if_pos h0, List.getElem?_eq_getElem hq]; rfl
def Nd.z (k : Int) : Nd := ⟨k, ⟨#[]⟩, [], [], [], false, ⟨#[]⟩, 0, 0, []⟩
def enumOk (n : Nd) : Prop := n.sy ≠ [] ∧ okSimples n.sy ∧ n.sy.Nodup ∧ (if n.has = true then n.df ∈ n.sy else n.df = ⟨#[]⟩)
def recOk (n : Nd) : Prop := okSimples (n.fs.map Fd.name) ∧ (n.fs.map Fd.name).Nodup ∧ ∀ f ∈ n.fs, f.ok
theorem z_lies {w : World} {S : Nat → Prop} {k : Int} : Lies w S (Nd.z k).enc [.int .i64 k, .string ⟨#[]⟩, .slice none 0 0, .slice none 0 0, .slice none 0 0, .bool false, .string ⟨#[]⟩, .int .i64 0, .int .i64 0, .slice none 0 0] :=
 Nd.out.2 ⟨none, 0, none, 0, none, 0, none, 0, rfl, ⟨Nat.le_refl _, Nat.zero_le _⟩, .inl rfl, ⟨Nat.le_refl _, Nat.zero_le _⟩, RowD.nil_ _ _ _ _, ⟨Nat.le_refl _, Nat.zero_le _⟩, .inl rfl, ⟨Nat.le_refl _, Nat.zero_le _⟩, RowD.nil_ _ _ _ _⟩
theorem ok_prim {s : Sc} {n : Nd} (hk : 1 ≤ n.k ∧ n.k ≤ 8) : n.ok s ↔ (⟨n.k, n.name, n.al, n.fs, n.sy, n.has, n.df, n.size, n.items, n.br⟩ : Nd) = Nd.z n.k := by
 obtain ⟨k, name, al, fs, sy, has, df, size, items, br⟩ := n
 simp only at hk
 simp only [Nd.ok, Nd.z, named, Nd.mk.injEq, true_and]
 have e9 : ¬ k = 9 := by omega
 have e10 : ¬ k = 10 := by omega
 have e11 : ¬ k = 11 := by omega
 have e12 : ¬ k = 12 := by omega
 have e13 : ¬ k = 13 := by omega
 have e14 : ¬ k = 14 := by omega
 simp only [e9, e10, e11, e12, e13, e14, if_false, or_false, decide_false, Bool.false_eq_true]
 constructor
 · rintro ⟨_, _, ⟨h1, h2⟩, h3, ⟨h4, h5, h6⟩, h7, h8, h9⟩
   exact ⟨h1, h2, h3, h4, h5, h6, h7, h8, h9⟩
 · rintro ⟨h1, h2, h3, h4, h5, h6, h7, h8, h9⟩
   exact ⟨by omega, by omega, ⟨h1, h2⟩, h3, ⟨h4, h5, h6⟩, h7, h8, h9⟩
theorem ok_11 {s : Sc} {n : Nd} (hk : n.k = 11) : n.ok s ↔ (⟨11, n.name, n.al, n.fs, n.sy, n.has, n.df, n.size, 0, n.br⟩ : Nd) = Nd.z 11 := by
 obtain ⟨k, name, al, fs, sy, has, df, size, items, br⟩ := n
 simp only at hk
 subst hk
 simp only [Nd.ok, Nd.z, named, Nd.mk.injEq, true_and]
 simp
 constructor
 · rintro ⟨⟨h1, h2⟩, h3, ⟨h4, h5, h6⟩, h7, h9⟩
   exact ⟨h1, h2, h3, h4, h5, h6, h7, h9⟩
 · rintro ⟨h1, h2, h3, h4, h5, h6, h7, h9⟩
   exact ⟨⟨h1, h2⟩, h3, ⟨h4, h5, h6⟩, h7, h9⟩
theorem ok_12 {s : Sc} {n : Nd} (hk : n.k = 12) : n.ok s ↔ (⟨12, n.name, n.al, n.fs, n.sy, n.has, n.df, n.size, 0, n.br⟩ : Nd) = Nd.z 12 := by
 obtain ⟨k, name, al, fs, sy, has, df, size, items, br⟩ := n
 simp only at hk
 subst hk
 simp only [Nd.ok, Nd.z, named, Nd.mk.injEq, true_and]
 simp
 constructor
 · rintro ⟨⟨h1, h2⟩, h3, ⟨h4, h5, h6⟩, h7, h9⟩
   exact ⟨h1, h2, h3, h4, h5, h6, h7, h9⟩
 · rintro ⟨h1, h2, h3, h4, h5, h6, h7, h9⟩
   exact ⟨⟨h1, h2⟩, h3, ⟨h4, h5, h6⟩, h7, h9⟩
theorem ok_13 {s : Sc} {n : Nd} (hk : n.k = 13) : n.ok s ↔ unionOk s n.br ∧ (⟨13, n.name, n.al, n.fs, n.sy, n.has, n.df, n.size, n.items, []⟩ : Nd) = Nd.z 13 := by
 obtain ⟨k, name, al, fs, sy, has, df, size, items, br⟩ := n
 simp only at hk
 subst hk
 simp only [Nd.ok, Nd.z, named, unionOk, Nd.mk.injEq, true_and]
 simp
 constructor
 · rintro ⟨⟨h1, h2⟩, h3, ⟨h4, h5, h6⟩, h7, h8, h9⟩
   exact ⟨h9, h1, h2, h3, h4, h5, h6, h7, h8⟩
 · rintro ⟨h9, h1, h2, h3, h4, h5, h6, h7, h8⟩
   exact ⟨⟨h1, h2⟩, h3, ⟨h4, h5, h6⟩, h7, h8, h9⟩
theorem ok_9 {s : Sc} {n : Nd} (hk : n.k = 9) : n.ok s ↔ (okName n.name ∧ okFulls n.al) ∧ recOk n ∧ (⟨9, ⟨#[]⟩, [], [], n.sy, n.has, n.df, n.size, n.items, n.br⟩ : Nd) = Nd.z 9 := by
 obtain ⟨k, name, al, fs, sy, has, df, size, items, br⟩ := n
 simp only at hk
 subst hk
 simp only [Nd.ok, Nd.z, named, recOk, Nd.mk.injEq, true_and]
 constructor
 · intro h
   simp at h ⊢
   obtain ⟨⟨h1, h2⟩, h3, ⟨h4, h5, h6⟩, h7, h8, h9⟩ := h
   exact ⟨⟨h1, h2⟩, h3, h4, h5, h6, h7, h8, h9⟩
 · intro h
   simp at h ⊢
   obtain ⟨⟨h1, h2⟩, h3, h4, h5, h6, h7, h8, h9⟩ := h
   exact ⟨⟨h1, h2⟩, h3, ⟨h4, h5, h6⟩, h7, h8, h9⟩
theorem ok_10 {s : Sc} {n : Nd} (hk : n.k = 10) : n.ok s ↔ (okName n.name ∧ okFulls n.al) ∧ enumOk n ∧ (⟨10, ⟨#[]⟩, [], n.fs, [], false, ⟨#[]⟩, n.size, n.items, n.br⟩ : Nd) = Nd.z 10 := by
 obtain ⟨k, name, al, fs, sy, has, df, size, items, br⟩ := n
 simp only at hk
 subst hk
 simp only [Nd.ok, Nd.z, named, enumOk, Nd.mk.injEq, true_and]
 constructor
 · intro h
   simp at h ⊢
   obtain ⟨⟨h1, h2⟩, h3, h4, h7, h8, h9⟩ := h
   exact ⟨⟨h1, h2⟩, h4, h3, h7, h8, h9⟩
 · intro h
   simp at h ⊢
   obtain ⟨⟨h1, h2⟩, h4, h3, h7, h8, h9⟩ := h
   exact ⟨⟨h1, h2⟩, h3, h4, h7, h8, h9⟩
theorem ok_14 {s : Sc} {n : Nd} (hk : n.k = 14) : n.ok s ↔ (okName n.name ∧ okFulls n.al) ∧ (0 ≤ n.size ∧ n.size ≤ 1000) ∧ (⟨14, ⟨#[]⟩, [], n.fs, n.sy, n.has, n.df, 0, n.items, n.br⟩ : Nd) = Nd.z 14 := by
 obtain ⟨k, name, al, fs, sy, has, df, size, items, br⟩ := n
 simp only at hk
 subst hk
 simp only [Nd.ok, Nd.z, named, Nd.mk.injEq, true_and]
 constructor
 · intro h
   simp at h ⊢
   obtain ⟨⟨h1, h2⟩, h3, ⟨h4, h5, h6⟩, h7, h8, h9⟩ := h
   exact ⟨⟨h1, h2⟩, h7, h3, h4, h5, h6, h8, h9⟩
 · intro h
   simp at h ⊢
   obtain ⟨⟨h1, h2⟩, h7, h3, h4, h5, h6, h8, h9⟩ := h
   exact ⟨⟨h1, h2⟩, h3, ⟨h4, h5, h6⟩, h7, h8, h9⟩
def MetA (R : Option Nat) (n d g : Nat) (A : Option Addr) (c : Nat) (w : World) (e : Ending) (w' : World) : Prop :=
 ∃ (b : Bool) (x : Int), e = .returned (.bool b) ∧ Save g w w' ∧ B3 w' g 168 (.slice A n c) (.int .i64 x) (.int .i64 (d : Int)) ∧ (b = true → ∃ m : Nat, x = (m : Int) ∧ R = some m) ∧ (b = false → R = none)
theorem metA_yes {R : Option Nat} {n d g m : Nat} {A : Option Addr} {c : Nat} {w w' : World} {b : Bool} (hb : b = true) (s : Save g w w') (h : B3 w' g 168 (.slice A n c) (.int .i64 (m : Int)) (.int .i64 (d : Int))) (hR : R = some m) : MetA R n d g A c w (.returned (.bool b)) w' := by
 subst hb; exact ⟨true, m, rfl, s, h, fun _ => ⟨m, rfl, hR⟩, fun h => by cases h⟩
theorem metA_no {R : Option Nat} {n d g : Nat} {x : Int} {A : Option Addr} {c : Nat} {w w' : World} {b : Bool} (hb : b = false) (s : Save g w w') (h : B3 w' g 168 (.slice A n c) (.int .i64 x) (.int .i64 (d : Int))) (hR : R = none) : MetA R n d g A c w (.returned (.bool b)) w' := by
 subst hb; exact ⟨false, x, rfl, s, h, fun h => (by cases h), fun _ => hR⟩
def NodesB (s : Sc) (w : World) (g : Nat) (A : Option Addr) : Prop := RowD w (· < g) 10 (s.nodes.map Nd.enc) A
theorem NodesB.save {s : Sc} {w w' : World} {g : Nat} {A : Option Addr} (h : NodesB s w g A) (k : Save g w w') : NodesB s w' g A := RowD.below h k.bel
theorem row_save {w w' : World} {S : Nat → Prop} {g n : Nat} {l : List D} {A : Option Addr} (h : RowD w S n l A) (k : Save g w w') (hS : ∀ b, S b → b < w.heap.size ∧ b ≠ g) : RowD w' S n l A := h.keep (fun _ hp => k.cell (hS _ hp).1 (hS _ hp).2) fun _ h => h
def MeetC (s : Sc) (f d : Nat) : Prop := ∀ (w : World) (g m : Nat) (p : Int) (A : Option Addr) (c : Nat), m ≤ s.nodes.length → B3 w g 168 (.slice A s.nodes.length c) (.int .i64 (m : Int)) (.int .i64 (d : Int)) → NodesB s w g A →
 Calls Tryz.prog 120 #[.pointer (some ⟨g, 0, none⟩), .int .i64 p] w (MetA (meetM s f m p) s.nodes.length d g A c w)
theorem all_any (s : Sc) (f d : Nat) (hM : MeetC s f d) (w : World) (g m : Nat) (A : Option Addr) (c : Nat) (l : List Int) (K : Option Addr) (ck : Nat) (hm : m ≤ s.nodes.length) (hB : B3 w g 168 (.slice A s.nodes.length c) (.int .i64 (m : Int)) (.int .i64 (d : Int)))
 (hN : NodesB s w g A) (hK : RowD w (fun b => g < b ∧ b < w.heap.size) 1 (l.map (D.i .i64)) K) (hl : l.length ≤ maxLen) :
 Calls Tryz.prog 160 #[.slice K l.length ck, .func (.func 120) #[.pointer (some ⟨g, 0, none⟩)] #[]] w (MetA (metK s f l m) s.nodes.length d g A c w) := by
 have HM := Lib.hid hM; have HB := Lib.hid hB; have HN := Lib.hid hN; have HK := Lib.hid hK
 obtain ⟨R, hR⟩ : ∃ R, R = metK s f l m := ⟨_, rfl⟩
 have HR := Lib.hid hR
 rw [← hR]
 obtain ⟨n, hn⟩ : ∃ n, n = l.length := ⟨_, rfl⟩
 have HL := Lib.hid hn
 obtain ⟨ns, hns⟩ : ∃ n, n = s.nodes.length := ⟨_, rfl⟩
 have HNS := Lib.hid hns
 rw [← hn, ← hns]
 have hb : n ≤ 9223372036854775807 := by unfold maxLen at hl; omega
 have hm' : m ≤ ns := by omega
 clear hM hB hN hK hR hn hl hns hm
 go_enter Tryz.func160, Tryz.ntmps160
 go_wp2_with fail
 go_loopw [9] (fun t wr => ∃ j q : Nat, j ≤ n ∧ t = .int .i64 (j : Int) ∧ q ≤ ns ∧ Hid (metK s f (l.drop j) q = R) ∧ Hid (B3 wr g 168 (.slice A ns c) (.int .i64 (q : Int)) (.int .i64 (d : Int))) ∧ Hid (Save g w wr)) (fun t _ => n - (intOf t).toNat)
 case atStart => exact ⟨0, m, Nat.zero_le _, rfl, hm', by rw [List.drop_zero]; exact HR.out.symm, by rw [HNS.out]; exact HB.out, Save.refl _ _⟩
 case round =>
  obtain ⟨j, q, hj, rfl, hq, HT, hbr, sv⟩ := hrel
  by_cases hjn : j < n
  · have h1 : j < l.length := by rw [← HL.out]; exact hjn
    have ql : (j : Int) < (n : Int) := by omega
    have kr := row_save HK.out sv.out (fun b h => ⟨h.2, by omega⟩)
    obtain ⟨b8, o8, e8, ⟨hb8, hb9⟩, z0⟩ := ints_at kr h1
    have DR : l.drop j = (l[j]'h1) :: l.drop (j + 1) := List.drop_eq_getElem_cons h1
    have CM := Lib.hid (HM.out wr g q (l[j]'h1) A c (by rw [← HNS.out]; exact hq) (by rw [← HNS.out]; exact hbr.out) (HN.out.save sv.out))
    have ht := HT.out
    rw [DR] at ht
    have NX : Hid (∀ q', meetM s f q (l[j]'h1) = some q' → metK s f (l.drop (j + 1)) q' = R ∧ q' ≤ ns) := fun q' h => ⟨by rw [← ht]; exact (metK_some h).symm, by rw [HNS.out]; exact meetM_le (by rw [← HNS.out]; exact hq) h⟩
    have NO : Hid (meetM s f q (l[j]'h1) = none → R = none) := fun h => by rw [← ht]; exact metK_none h
    rw [← HNS.out] at CM
    generalize l[j]'h1 = Y at *
    subst e8
    clear h1 DR ht kr HT
    go_wp2_with fail
    with_reducible refine CM.out.mono ?_
    rintro e w1 ⟨b, x, rfl, s1, h1, y1, n1⟩
    cases b with
    | true =>
     obtain ⟨q', rfl, hq'⟩ := y1 rfl
     obtain ⟨g1, g2⟩ := NX.out q' hq'
     have G1 := Lib.hid g1; have S1 := Lib.hid (sv.out.trans s1); have H1 := Lib.hid h1
     clear y1 n1 hq' g1 s1 h1
     go_wp2_with fail
     go_roundw
     case rel => exact ⟨j + 1, q', by omega, by go_num, g2, G1, H1, S1⟩
     case measure => simp [intOf]; omega
    | false =>
     have Z := Lib.hid (NO.out (n1 rfl)); have S1 := Lib.hid (sv.out.trans s1); have H1 := Lib.hid h1
     clear y1 n1 s1 h1
     go_wp2_with fail
     go_ret
     exact metA_no rfl S1.out H1.out Z.out
  · obtain rfl : j = n := by omega
    have ql : ¬ (j : Int) < (j : Int) := by omega
    have Z : Hid (R = some q) := by
     have := HT.out
     rw [List.drop_eq_nil_of_le (by rw [HL.out]; exact Nat.le_refl _), metK] at this
     exact this.symm
    clear HT
    go_wp2_with fail
    go_ret
    exact metA_yes rfl sv.out hbr.out Z.out
theorem meet_old (s : Sc) (f d m q : Nat) (hq : q < m) (w : World) (g : Nat) (A : Option Addr) (c : Nat) (hm : m ≤ s.nodes.length) (hB : B3 w g 168 (.slice A s.nodes.length c) (.int .i64 (m : Int)) (.int .i64 (d : Int))) (hN : NodesB s w g A) :
 Calls Tryz.prog 120 #[.pointer (some ⟨g, 0, none⟩), .int .i64 (q : Int)] w (MetA (meetM s f m (q : Int)) s.nodes.length d g A c w) := by
 have h1 : q < s.nodes.length := by omega
 obtain ⟨b1, o1, X2, x2, X3, x3, X4, x4, X9, x9, e1, hb1, ⟨y0, y1, y2, y3, y4, y5, y6, y7, y8, y9⟩, lx⟩ := nodes_at hN h1
 have HK : s.kind (q : Int) = (s.nodes[q]'h1).k := by unfold Sc.kind; rw [if_pos (by omega), Int.toNat_natCast, List.getElem?_eq_getElem h1]; rfl
 have RY : Hid (named (s.nodes[q]'h1).k = true → meetM s f m (q : Int) = some m) := fun h => by
  unfold meetM; rw [if_neg (by rw [HK, h]; simp; omega), if_neg (by omega)]
 have RN : Hid (named (s.nodes[q]'h1).k = false → meetM s f m (q : Int) = none) := fun h => by
  unfold meetM; rw [if_pos (.inr (.inr ⟨by omega, by rw [HK]; exact h⟩))]
 obtain ⟨f0, f1, f2, fr0, fr1, fr2⟩ := B3.facts hB
 have HB := Lib.hid hB
 have q0 : (0 : Int) ≤ (q : Int) := by omega
 have q1 : (q : Int) < (m : Int) := by omega
 generalize meetM s f m (q : Int) = R at *
 generalize hk : (s.nodes[q]'h1).k = k at *
 obtain ⟨ns, hns⟩ : ∃ n, n = s.nodes.length := ⟨_, rfl⟩
 rw [← hns] at f0 HB hm ⊢
 have qs : q < ns := by omega
 subst e1
 have NM := Lib.hid (sNamed_pure k)
 clear lx HK hk hN hB y1 y2 y3 y4 y5 y6 y7 y8 y9 h1 hns
 cases hnk : named k with
 | true =>
  have Z := Lib.hid (RY.out hnk)
  rw [hnk] at NM
  clear hnk
  go_enter Tryz.func120, Tryz.ntmps120
  go_wp2_with fail
  with_reducible refine (NM.out _).mono ?_
  rintro e w1 ⟨rfl, rfl⟩
  go_wp2_with fail
  go_ret
  exact metA_yes rfl (Save.refl _ _) HB.out Z.out
 | false =>
  have Z := Lib.hid (RN.out hnk)
  rw [hnk] at NM
  clear hnk
  go_enter Tryz.func120, Tryz.ntmps120
  go_wp2_with fail
  with_reducible refine (NM.out _).mono ?_
  rintro e w1 ⟨rfl, rfl⟩
  go_wp2_with fail
  go_ret
  exact metA_no rfl (Save.refl _ _) HB.out Z.out
theorem meet_neg (s : Sc) (f d m : Nat) (p : Int) (hp : p < 0) (w : World) (g : Nat) (A : Option Addr) (c : Nat) (hB : B3 w g 168 (.slice A s.nodes.length c) (.int .i64 (m : Int)) (.int .i64 (d : Int))) :
 Calls Tryz.prog 120 #[.pointer (some ⟨g, 0, none⟩), .int .i64 p] w (MetA (meetM s f m p) s.nodes.length d g A c w) := by
 have Z : Hid (meetM s f m p = none) := by show _ = _; unfold meetM; rw [if_pos (.inl hp)]
 obtain ⟨f0, f1, f2, fr0, fr1, fr2⟩ := B3.facts hB
 have HB := Lib.hid hB
 generalize meetM s f m p = R at *
 have q0 : ¬ (0 : Int) ≤ p := by omega
 have q2 : (p != (m : Int)) = true := by rw [bne_iff_ne]; omega
 clear hB hp
 go_enter Tryz.func120, Tryz.ntmps120
 go_wp2_with fail
 go_ret
 exact metA_no rfl (Save.refl _ _) HB.out Z.out
theorem meet_far (s : Sc) (f d m : Nat) (p : Int) (hp : (m : Int) < p) (w : World) (g : Nat) (A : Option Addr) (c : Nat) (hB : B3 w g 168 (.slice A s.nodes.length c) (.int .i64 (m : Int)) (.int .i64 (d : Int))) :
 Calls Tryz.prog 120 #[.pointer (some ⟨g, 0, none⟩), .int .i64 p] w (MetA (meetM s f m p) s.nodes.length d g A c w) := by
 have Z : Hid (meetM s f m p = none) := by show _ = _; unfold meetM; rw [if_pos (.inr (.inl hp))]
 obtain ⟨f0, f1, f2, fr0, fr1, fr2⟩ := B3.facts hB
 have HB := Lib.hid hB
 generalize meetM s f m p = R at *
 have q0 : (0 : Int) ≤ p := by omega
 have q1 : ¬ p < (m : Int) := by omega
 have q2 : (p != (m : Int)) = true := by rw [bne_iff_ne]; omega
 clear hB hp
 go_enter Tryz.func120, Tryz.ntmps120
 go_wp2_with fail
 go_ret
 exact metA_no rfl (Save.refl _ _) HB.out Z.out
theorem meet_end (s : Sc) (f d m : Nat) (hm : m = s.nodes.length) (w : World) (g : Nat) (A : Option Addr) (c : Nat) (hB : B3 w g 168 (.slice A s.nodes.length c) (.int .i64 (m : Int)) (.int .i64 (d : Int))) :
 Calls Tryz.prog 120 #[.pointer (some ⟨g, 0, none⟩), .int .i64 (m : Int)] w (MetA (meetM s f m (m : Int)) s.nodes.length d g A c w) := by
 have Z : Hid (meetM s f m (m : Int) = none) := by show _ = _; unfold meetM; rw [if_neg (by omega), if_pos rfl]; exact met_out (by omega)
 obtain ⟨f0, f1, f2, fr0, fr1, fr2⟩ := B3.facts hB
 have HB := Lib.hid hB
 generalize meetM s f m (m : Int) = R at *
 have q0 : (0 : Int) ≤ (m : Int) := by omega
 have q1 : ¬ (m : Int) < (m : Int) := by omega
 have q2 : ((m : Int) != (m : Int)) = false := by simp
 have q3 : ((m : Int) == (s.nodes.length : Int)) = true := by simp [hm]
 generalize s.nodes.length = ns at *
 clear hB hm
 go_enter Tryz.func120, Tryz.ntmps120
 go_wp2_with fail
 go_ret
 exact metA_no rfl (Save.refl _ _) HB.out Z.out
theorem meet_deep (s : Sc) (f d m : Nat) (hm : m < s.nodes.length) (hd : d = 33) (hf : f = 0) (w : World) (g : Nat) (A : Option Addr) (c : Nat) (hB : B3 w g 168 (.slice A s.nodes.length c) (.int .i64 (m : Int)) (.int .i64 (d : Int))) :
 Calls Tryz.prog 120 #[.pointer (some ⟨g, 0, none⟩), .int .i64 (m : Int)] w (MetA (meetM s f m (m : Int)) s.nodes.length d g A c w) := by
 have Z : Hid (meetM s f m (m : Int) = none) := by show _ = _; unfold meetM; rw [if_neg (by omega), if_pos rfl, hf]; rw [met]
 obtain ⟨f0, f1, f2, fr0, fr1, fr2⟩ := B3.facts hB
 have HB := Lib.hid hB
 generalize meetM s f m (m : Int) = R at *
 have q0 : (0 : Int) ≤ (m : Int) := by omega
 have q1 : ¬ (m : Int) < (m : Int) := by omega
 have q2 : ((m : Int) != (m : Int)) = false := by simp
 have q3 : ((m : Int) == (s.nodes.length : Int)) = false := by rw [beq_eq_false_iff_ne]; omega
 have q4 : (32 : Int) < (d : Int) := by omega
 generalize s.nodes.length = ns at *
 clear hB hm hd hf
 go_enter Tryz.func120, Tryz.ntmps120
 go_wp2_with fail
 go_ret
 exact metA_no rfl (Save.refl _ _) HB.out Z.out
theorem meet_new (s : Sc) (f d m : Nat) (hM : MeetC s f (d + 1)) (hs : s.sm) (hm : m < s.nodes.length) (hd : d ≤ 32) (w : World) (g : Nat) (A : Option Addr) (c : Nat) (hB : B3 w g 168 (.slice A s.nodes.length c) (.int .i64 (m : Int)) (.int .i64 (d : Int))) (hN : NodesB s w g A) :
 Calls Tryz.prog 120 #[.pointer (some ⟨g, 0, none⟩), .int .i64 (m : Int)] w (MetA (meetM s (f + 1) m (m : Int)) s.nodes.length d g A c w) := by
 have CS := cell_set
 have n25 : s.nodes.length ≤ 2500 := hs.1
 have smT := hs.2 m hm
 have gl := hB.lt
 obtain ⟨b1, o1, X2, x2, X3, x3, X4, x4, X9, x9, e1, hb1, ⟨y0, y1, y2, y3, y4, y5, y6, y7, y8, y9⟩, lx⟩ := nodes_at hN hm
 have Z : Hid (meetM s (f + 1) m (m : Int) = metK s f (s.nodes[m]'hm).kids (m + 1)) := by
  show _ = _
  unfold meetM
  rw [if_neg (by omega), if_pos rfl, met_in hm]
  have : s.kidsAt m = (s.nodes[m]'hm).kids := by unfold Sc.kidsAt; rw [List.getElem?_eq_getElem hm]; rfl
  rw [this]
 obtain ⟨f0, f1, f2, fr0, fr1, fr2⟩ := B3.facts hB
 have HB := Lib.hid hB; have HN := Lib.hid hN
 have AL := Lib.hid (all_any s f (d + 1) hM)
 have KD := Lib.hid (fun W h => sKids_any (s.nodes[m]'hm) (by have := smT.2.1; omega) (by have := smT.2.2.1; omega) W X2 X3 X4 X9 x2 x3 x4 x9 h)
 have q0 : (0 : Int) ≤ (m : Int) := by omega
 have q1 : ¬ (m : Int) < (m : Int) := by omega
 have q2 : ((m : Int) != (m : Int)) = false := by simp
 have q3 : ((m : Int) == (s.nodes.length : Int)) = false := by rw [beq_eq_false_iff_ne]; omega
 have q4 : ¬ (32 : Int) < (d : Int) := by omega
 have q5 : (m : Int) < (s.nodes.length : Int) := by omega
 have LX := Lib.hid lx
 subst e1
 have nbg : b1 ≠ g := by have : b1 < g := hb1; omega
 have ngb : g ≠ b1 := fun e => nbg e.symm
 rw [Z.out]
 generalize s.nodes[m]'hm = T at *
 generalize HR : metK s f T.kids (m + 1) = R at *
 have HRH := Lib.hid HR
 obtain ⟨ns, hns⟩ : ∃ n, n = s.nodes.length := ⟨_, rfl⟩
 have HNS := Lib.hid hns
 rw [← hns] at f0 HB hm n25 q3 q5 AL ⊢
 have h1 := Lib.hid (B3.set2 (B3.set1 HB.out (.int .i64 ((m : Int) + 1))) (.int .i64 ((d : Int) + 1)))
 have s1 := Lib.hid (((Save.refl g w).set 1 (.int .i64 ((m : Int) + 1))).set 2 (.int .i64 ((d : Int) + 1)))
 have LZ : Hid (Lies ((w.setCell ⟨g, 1, none⟩ (.int .i64 ((m : Int) + 1))).setCell ⟨g, 2, none⟩ (.int .i64 ((d : Int) + 1))) (· < ((w.setCell ⟨g, 1, none⟩ (.int .i64 ((m : Int) + 1))).setCell ⟨g, 2, none⟩ (.int .i64 ((d : Int) + 1))).heap.size) T.enc [.int .i64 T.k, .string T.name, .slice X2 T.al.length x2, .slice X3 T.fs.length x3, .slice X4 T.sy.length x4, .bool T.has, .string T.df, .int .i64 T.size, .int .i64 T.items, .slice X9 T.br.length x9]) := (LX.out.below s1.out.bel).more (by simp [World.setCell]; omega)
 clear lx hN hB hM Z smT hs HR hns LX
 go_enter Tryz.func120, Tryz.ntmps120
 go_wp2_with fail
 with_reducible refine (KD.out _ LZ.out).mono ?_
 rintro e w2 ⟨K, ck, rfl, ⟨lk1, lk2⟩, rk, b2⟩
 have zz := b2.size
 simp only [World.setCell, Array.size_modify] at zz
 have h2 := B3.below h1.out b2 (by simp [World.setCell]; omega)
 have s2 := Lib.hid (Save.call b2 (by simp [World.setCell]; omega) s1.out)
 rw [show (m : Int) + 1 = ((m + 1 : Nat) : Int) by omega, show (d : Int) + 1 = ((d + 1 : Nat) : Int) by omega] at h2
 have H2 := Lib.hid h2
 have rk2 := Lib.hid (rk.keep (fun _ _ => rfl) (fun b hb => (by have := hb.1; simp only [World.setCell, Array.size_modify] at this; exact ⟨by omega, hb.2⟩ : g < b ∧ b < w2.heap.size)))
 clear rk h2
 go_wp2_with fail
 with_reducible refine (AL.out w2 g (m + 1) _ c T.kids K ck (by omega) H2.out (HN.out.save s2.out) rk2.out lk2).mono ?_
 rintro e w3 ⟨b, x, rfl, s3, h3, y3, n3⟩
 have H3 := Lib.hid h3
 obtain ⟨i0, i1, i2, ir0, ir1, ir2⟩ := B3.facts h3
 have S3 := Lib.hid (s2.out.trans s3)
 have Y3 := Lib.hid y3; have N3 := Lib.hid n3
 go_wp2_with fail
 go_ret
 cases b with
 | true =>
  obtain ⟨m', e1, e2⟩ := Y3.out rfl
  subst e1
  exact metA_yes rfl (S3.out.set 2 _) (by simpa using B3.set2 H3.out (.int .i64 (d : Int))) (HRH.out.symm.trans e2)
 | false => exact metA_no rfl (S3.out.set 2 _) (by simpa using B3.set2 H3.out (.int .i64 (d : Int))) (HRH.out.symm.trans (N3.out rfl))
theorem meet_at (s : Sc) (hs : s.sm) : ∀ (f d : Nat), f + d = 33 → MeetC s f d
 | f, d, h => by
  intro w g m p A c hm hB hN
  by_cases h0 : p < 0
  · exact meet_neg s f d m p h0 w g A c hB
  · by_cases h1 : (m : Int) < p
    · exact meet_far s f d m p h1 w g A c hB
    · obtain ⟨q, rfl⟩ : ∃ q : Nat, p = (q : Int) := ⟨p.toNat, by omega⟩
      by_cases h2 : q < m
      · exact meet_old s f d m q h2 w g A c hm hB hN
      · obtain rfl : q = m := by omega
        by_cases h3 : q = s.nodes.length
        · exact meet_end s f d q h3 w g A c hB
        · cases f with
          | zero => exact meet_deep s 0 d q (by omega) (by omega) rfl w g A c hB
          | succ f => exact meet_new s f d q (meet_at s hs f (d + 1) (by omega)) hs (by omega) (by omega) w g A c hB hN
theorem sOrdered_any (s : Sc) (hs : s.sm) (w : World) (A : Option Addr) (c : Nat) (h : Lies w (· < w.heap.size) s.enc [.slice A s.nodes.length c, .int .i64 s.root]) :
 Calls Tryz.prog 71 #[.agg #[.slice A s.nodes.length c, .int .i64 s.root]] w (Tells s.ordered w) := by
 have CS := cell_set
 obtain ⟨_, _, e, la, ra⟩ := Sc.out.1 h
 simp only [List.cons.injEq, Value.slice.injEq, true_and, and_true] at e
 obtain ⟨rfl, rfl⟩ := e
 have MC : Hid (∀ (W : World) (rt : Int), B3 W (w.heap.size + 1) 168 (.slice A s.nodes.length c) (.int .i64 0) (.int .i64 0) → NodesB s W (w.heap.size + 1) A → Calls Tryz.prog 120 #[.pointer (some ⟨w.heap.size + 1, 0, none⟩), .int .i64 rt] W (MetA (meetM s 33 0 rt) s.nodes.length 0 (w.heap.size + 1) A c W)) := fun W rt h1 h2 => meet_at s hs 33 0 rfl W (w.heap.size + 1) 0 rt A c (Nat.zero_le _) h1 h2
 have n25 : s.nodes.length ≤ 2500 := hs.1
 have RA := Lib.hid ra
 have ON : Hid (∀ m : Nat, meetM s 33 0 s.root = some m → m = s.nodes.length → s.nodes.length ≤ 200 → s.ordered) := fun m h1 h2 h3 => by
  unfold meetM at h1
  split at h1
  · cases h1
  · rename_i g
    split at h1
    · rename_i g2
      refine ⟨?_, h3, by simpa using g2, by rw [h1, h2]⟩
      rcases Nat.eq_zero_or_pos s.nodes.length with e | e
      · rw [met_out (by omega)] at h1; cases h1
      · exact e
    · rename_i g2; simp at g g2; omega
 have OM : Hid (s.ordered → s.nodes.length ≤ 200 ∧ meetM s 33 0 s.root = some s.nodes.length) := fun ⟨_, h2, h3, h4⟩ => ⟨h2, by unfold meetM; rw [h3, if_neg (by simp), if_pos (by simp), h4]⟩
 have H0 := Lib.hid (B3.newat (w := w.alloc (.cells #[.slice A s.nodes.length c, .int .i64 s.root] 30)) (g := w.heap.size + 1) (t := 168) (x0 := .slice A s.nodes.length c) (x1 := .int .i64 0) (x2 := .int .i64 0) (by simp))
 have K0 := Lib.hid (B2.alloc (B2.newat (w := w) (t := 30) (x0 := .slice A s.nodes.length c) (x1 := .int .i64 s.root) rfl) (.cells #[.slice A s.nodes.length c, .int .i64 0, .int .i64 0] 168))
 have NB : Hid (∀ W, Below w.heap.size w W → NodesB s W (w.heap.size + 1) A) := fun W b => (RA.out.below b).more (Nat.le_succ _)
 obtain ⟨ns, hns⟩ : ∃ n, n = s.nodes.length := ⟨_, rfl⟩
 have HNS := Lib.hid hns
 generalize hrt : s.root = rt at *
 rw [← hns] at n25 ON OM H0 K0 MC ⊢
 clear h la ra hs RA
 by_cases h2 : ns ≤ 200
 · have q2 : (ns : Int) ≤ 200 := by omega
   clear hns
   go_enter Tryz.func71, Tryz.ntmps71
   go_wp2_with fail
   with_reducible refine (MC.out _ rt H0.out (NB.out _ bqq)).mono ?_
   rintro e w3 ⟨b, x, rfl, s3, h3, y3, n3⟩
   have K3 : B2 w3 w.heap.size 30 (.slice A ns c) (.int .i64 rt) := (s3.block (K0.out).lt (by omega)).trans K0.out
   have bw : Below w.heap.size w w3 := Below.trans bqq (s3.bel.mono (Nat.le_succ _))
   obtain ⟨i0, i1, i2, ir0, ir1, ir2⟩ := B3.facts h3
   obtain ⟨_, _, _, _⟩ := B2.facts K3
   have Y3 := Lib.hid y3; have N3 := Lib.hid n3
   clear y3 n3 h3 K3 s3
   cases b with
   | false =>
    have NO : Hid (¬ s.ordered) := fun o => by have := (OM.out o).2; rw [N3.out rfl] at this; cases this
    clear N3 Y3
    go_wp2_with fail
    go_ret
    exact tells_no rfl NO.out bw
   | true =>
    obtain ⟨m, rfl, hm⟩ := Y3.out rfl
    have HM := Lib.hid hm
    clear N3 Y3 hm
    by_cases h4 : m = ns
    · have q4 : ((m : Int) == (ns : Int)) = true := by simp [h4]
      have YES : Hid s.ordered := ON.out m HM.out h4 h2
      clear h4
      go_wp2_with fail
      go_ret
      exact tells_yes rfl YES.out bw
    · have q4 : ((m : Int) == (ns : Int)) = false := by rw [beq_eq_false_iff_ne]; omega
      have NO : Hid (¬ s.ordered) := fun o => h4 (by have := (OM.out o).2; rw [HM.out] at this; injection this)
      clear h4
      go_wp2_with fail
      go_ret
      exact tells_no rfl NO.out bw
 · have q2 : ¬ (ns : Int) ≤ 200 := by omega
   have NO : Hid (¬ s.ordered) := fun o => h2 (OM.out o).1
   clear h2 hns
   go_enter Tryz.func71, Tryz.ntmps71
   go_wp2_with fail
   go_ret
   exact tells_no rfl NO.out bqq
end Go.Proofs.YthfoomobicbcpaaGreatDoor
namespace Go.Proofs.YthfoomobicbcpaaGreatDoor
open Go.ChangeShapes Go.WideShapes Go.ChangeAt Go.RowKit Mem
def vals (W : List Nat) : Array Value := (W.map fun x => Value.int .i64 ((x : Nat) : Int)).toArray
theorem vals_at {W : List Nat} {i : Nat} (h : i < W.length) : (vals W)[i]? = some (.int .i64 ((W[i]'h : Nat) : Int)) := by
 unfold vals; rw [List.getElem?_toArray, List.getElem?_map, List.getElem?_eq_getElem h]; rfl
theorem vals_set (W : List Nat) (i x : Nat) : (vals W).setIfInBounds i (.int .i64 (x : Int)) = vals (W.set i x) := by
 unfold vals; rw [List.setIfInBounds_toArray, List.map_set]
theorem vals_zero (n : Nat) : madeCells #[Value.int .i64 0] n = vals (List.replicate n 0) := by
 apply Array.ext
 · simp [vals, size_madeCells]
 · intro i h1 h2
   simp [vals, madeCells, Nat.mod_one]
def WgA (s : Sc) (a : Nat) (W : List Nat) (r : Nat) (w : World) (e : Ending) (w' : World) : Prop := ∃ W', e = .returned (.int .i64 ((s.wt a : Nat) : Int)) ∧ Won s W W' ∧ Blk w' r 3 (vals W') ∧ Save r w w'
theorem wgA_ret {s : Sc} {a : Nat} {W W' : List Nat} {r : Nat} {w w' : World} {v : Value} (hv : v = .int .i64 ((s.wt a : Nat) : Int)) (h : Won s W W') (k : Blk w' r 3 (vals W')) (sv : Save r w w') : WgA s a W r w (.returned v) w' := by
 subst hv; exact ⟨W', rfl, h, k, sv⟩
def KidsIn (s : Sc) : Prop := ∀ i, i < s.nodes.length → ∀ k ∈ s.kidsAt i, 0 ≤ k ∧ k < (s.nodes.length : Int)
def WeighC (s : Sc) (N : Nat) : Prop := ∀ (w : World) (g r B a : Nat) (W : List Nat) (A : Option Addr) (c : Nat), zeros W ≤ N → W.length = s.nodes.length → a < s.nodes.length → Wok s a W → g ≠ r → B ≤ r →
 B2 w g 152 (.slice A s.nodes.length c) (.slice (some ⟨r, 0, none⟩) s.nodes.length s.nodes.length) → Blk w r 3 (vals W) → NodesB s w B A →
 Calls Tryz.prog 104 #[.pointer (some ⟨g, 0, none⟩), .int .i64 (a : Int)] w (WgA s a W r w)
theorem weigh_old (s : Sc) (hs : s.sm) (w : World) (g r a : Nat) (W : List Nat) (A : Option Addr) (c : Nat) (hl : W.length = s.nodes.length) (hW : Wok s a W) (h0 : ∀ h : a < W.length, W[a]'h ≠ 0) (ha' : a < s.nodes.length)
 (hG : B2 w g 152 (.slice A s.nodes.length c) (.slice (some ⟨r, 0, none⟩) s.nodes.length s.nodes.length)) (hR : Blk w r 3 (vals W)) :
 Calls Tryz.prog 104 #[.pointer (some ⟨g, 0, none⟩), .int .i64 (a : Int)] w (WgA s a W r w) := by
 have CS := cell_set
 have ha : a < W.length := by omega
 have c0 := (hR.cell a).trans (vals_at ha)
 have fr := hR.frozen a
 obtain ⟨f0, f1, fr0, fr1⟩ := B2.facts hG
 have n25 : s.nodes.length ≤ 2500 := hs.1
 rw [hW.self ha (h0 ha)] at c0
 have p0 := (s.wt_le a).1
 have HR := Lib.hid hR
 obtain ⟨x, hx⟩ : ∃ x, x = s.wt a := ⟨_, rfl⟩
 have HX := Lib.hid hx
 rw [← hx] at c0 p0
 obtain ⟨ns, hns⟩ : ∃ n, n = s.nodes.length := ⟨_, rfl⟩
 rw [← hns] at ha' f0 f1 n25
 have q : (0 : Int) < (x : Int) := by omega
 have q2 : (a : Int) < (ns : Int) := by omega
 clear hG hR hx ha h0 hs hns hl
 go_enter Tryz.func104, Tryz.ntmps104
 go_wp2_with fail
 go_ret
 exact wgA_ret (by show Value.int _ _ = _; rw [HX.out]) (Won.refl s W) HR.out (Save.refl _ _)
theorem weigh_new (s : Sc) (hs : s.sm) (hK : KidsIn s) (N : Nat) (IH : WeighC s N) (w : World) (g r B a : Nat) (W : List Nat) (A : Option Addr) (c : Nat) (hz : zeros W ≤ N + 1) (hl : W.length = s.nodes.length) (ha' : a < s.nodes.length) (hW : Wok s a W) (h0 : ∀ h : a < W.length, W[a]'h = 0) (hgr : g ≠ r) (hB : B ≤ r)
 (hG : B2 w g 152 (.slice A s.nodes.length c) (.slice (some ⟨r, 0, none⟩) s.nodes.length s.nodes.length)) (hR : Blk w r 3 (vals W)) (hN : NodesB s w B A) :
 Calls Tryz.prog 104 #[.pointer (some ⟨g, 0, none⟩), .int .i64 (a : Int)] w (WgA s a W r w) := by
 have CS := cell_set
 have ha : a < W.length := by omega
 have c0 := (hR.cell a).trans (vals_at ha)
 have fr := hR.frozen a
 obtain ⟨f0, f1, fr0, fr1⟩ := B2.facts hG
 have n25 : s.nodes.length ≤ 2500 := hs.1
 rw [h0 ha] at c0
 have z1 : zeros (W.set a 1001) ≤ N := by have := zeros_set (v := 1001) ha (h0 ha) (by decide); omega
 have gl := hG.lt
 have rl := hR.lt
 have smT := hs.2 a ha'
 obtain ⟨b1, o1, X2, x2, X3, x3, X4, x4, X9, x9, e1, hb1, ⟨y0, y1, y2, y3, y4, y5, y6, y7, y8, y9⟩, lx⟩ := nodes_at hN ha'
 have hkind : s.kind (a : Int) = (s.nodes[a]'ha').k := by unfold Sc.kind; rw [if_pos (by omega), Int.toNat_natCast, List.getElem?_eq_getElem ha']; rfl
 have hkids : s.kidsAt a = (s.nodes[a]'ha').kids := by unfold Sc.kidsAt; rw [List.getElem?_eq_getElem ha']; rfl
 have KD := Lib.hid (fun W h => sKids_any (s.nodes[a]'ha') (by have := smT.2.1; omega) (by have := smT.2.2.1; omega) W X2 X3 X4 X9 x2 x3 x4 x9 h)
 have KI := hK a ha'
 rw [hkids] at KI
 have LX := Lib.hid lx
 have HN := Lib.hid hN; have HG := Lib.hid hG
 have nbr : b1 ≠ r := by have : b1 < B := hb1; omega
 have nrb : r ≠ b1 := fun e => nbr e.symm
 have PUT : Hid (∀ W', Won s (W.set a 1001) W' → Won s W (W'.set a (s.wt a))) := fun W' h => Won.put ha (h0 ha) h
 have PART : Hid (∀ W' k, Won s (W.set a 1001) W' → s.edge a k → Wok s k W') := fun W' k h e => (hW.part ha e).won h
 have HIH : Hid (∀ (wr : World) (q : Nat) (W' : List Nat), zeros W' ≤ N → W'.length = s.nodes.length → q < s.nodes.length → Wok s q W' → B2 wr g 152 (.slice A s.nodes.length c) (.slice (some ⟨r, 0, none⟩) s.nodes.length s.nodes.length) → Blk wr r 3 (vals W') → NodesB s wr B A →
  Calls Tryz.prog 104 #[.pointer (some ⟨g, 0, none⟩), .int .i64 (q : Int)] wr (WgA s q W' r wr)) := fun wr q W' h1 h2 h3 h4 h5 h6 h7 => IH wr g r B q W' A c h1 h2 h3 h4 hgr hB h5 h6 h7
 have WT := s.wt_fix a
 rw [hkind, hkids] at WT
 have ED : Hid ((s.nodes[a]'ha').k = 9 → ∀ k : Nat, (k : Int) ∈ (s.nodes[a]'ha').kids → s.edge a k) := fun h k hk => ⟨by rw [hkind]; exact h, by rw [hkids]; exact hk⟩
 subst e1
 generalize s.nodes[a]'ha' = T at *
 have R1 := hR.set a (.int .i64 ((1001 : Nat) : Int))
 rw [vals_set] at R1
 have HR1 := Lib.hid R1
 have S1 := Lib.hid ((Save.refl r w).set a (.int .i64 ((1001 : Nat) : Int)))
 have LZ : Hid (Lies (w.setCell ⟨r, a, none⟩ (.int .i64 1001)) (· < (w.setCell ⟨r, a, none⟩ (.int .i64 1001)).heap.size) T.enc [.int .i64 T.k, .string T.name, .slice X2 T.al.length x2, .slice X3 T.fs.length x3, .slice X4 T.sy.length x4, .bool T.has, .string T.df, .int .i64 T.size, .int .i64 T.items, .slice X9 T.br.length x9]) := (LX.out.below (S1.out.bel.mono hB)).more (by simp [World.setCell]; omega)
 have LEN : Hid ((W.set a 1001).length = s.nodes.length) := by rw [List.length_set]; exact hl
 obtain ⟨ns, hns⟩ : ∃ n, n = s.nodes.length := ⟨_, rfl⟩
 have HNS := Lib.hid hns
 rw [← hns] at ha' f0 f1 n25 HG KI HIH LEN
 have q2 : (a : Int) < (ns : Int) := by omega
 obtain ⟨wa, hwa⟩ : ∃ x, x = s.wt a := ⟨_, rfl⟩
 have HWA := Lib.hid hwa
 rw [← hwa] at PUT WT
 clear lx hN hG hR R1 LX smT hs hK IH hW h0 ha hkind hkids hz hl hns hwa
 by_cases hk : T.k = 9
 · rw [if_pos hk] at WT
   have WTH := Lib.hid WT
   have ED2 := Lib.hid (ED.out hk)
   have KIH := Lib.hid KI
   have qk : (T.k == 9) = true := by simp [hk]
   clear WT ED KI hk
   go_enter Tryz.func104, Tryz.ntmps104
   go_wp2_with fail
   with_reducible refine (KD.out _ LZ.out).mono ?_
   rintro e w2 ⟨K, ck, rfl, ⟨lk1, lk2⟩, rk, b2⟩
   have zz := b2.size
   simp only [World.setCell, Array.size_modify] at zz
   have R2 := Lib.hid (HR1.out.below b2 (by simp [World.setCell]; omega))
   have S2 := Lib.hid (Save.call b2 (by simp [World.setCell]; omega) S1.out)
   have RK := Lib.hid (rk.keep (fun _ _ => rfl) (fun b hb => (by have := hb.1; simp only [World.setCell, Array.size_modify] at this; exact ⟨by omega, by omega⟩ : b < w2.heap.size ∧ b ≠ r)))
   obtain ⟨nk, hnk⟩ : ∃ n, n = T.kids.length := ⟨_, rfl⟩
   have HNK := Lib.hid hnk
   rw [← hnk] at lk1 lk2 ⊢
   have hb : nk ≤ 9223372036854775807 := by unfold maxLen at lk2; exact lk2
   have rl2 : r < w2.heap.size := by omega
   have gl2 : g < w2.heap.size := by omega
   clear rk hnk c0 fr y0 y1 y2 y3 y4 y5 y6 y7 y8 y9 f0 f1 fr0 fr1
   go_wp2_with fail
   go_loopw [47, 5] (fun t v wr => ∃ (j x : Nat) (W' : List Nat), j ≤ nk ∧ x ≤ 1001 ∧ t = .int .i64 (j : Int) ∧ v = .int .i64 (x : Int) ∧ Hid (x = capF s.wt (T.kids.take j) 1) ∧ Hid (Won s (W.set a 1001) W') ∧ Hid (Blk wr r 3 (vals W')) ∧ Hid (Save r w2 wr)) (fun t _ _ => nk - (intOf t).toNat)
   case atStart => exact ⟨0, 1, _, Nat.zero_le _, by omega, rfl, rfl, (by show _ = _; rw [List.take_zero]; rfl), Won.refl _ _, R2.out, Save.refl _ _⟩
   case round =>
    obtain ⟨j, x, W', hj, hx, rfl, rfl, HV, HW, HBl, sv⟩ := hrel
    have gb := Lib.hid ((sv.out.block gl2 hgr).trans ((S2.out.block gl hgr).trans HG.out) : B2 wr g 152 _ _)
    obtain ⟨g0, g1, gr0, gr1⟩ := B2.facts gb.out
    by_cases hjk : j < nk
    · have h1 : j < T.kids.length := by rw [← HNK.out]; exact hjk
      have ql : (j : Int) < (nk : Int) := by omega
      have kr := row_save RK.out sv.out (fun _ h => h)
      obtain ⟨b9, o9, e9, _, v0⟩ := ints_at kr h1
      have gk := KIH.out _ (List.getElem_mem h1)
      have TK : Hid (T.kids.take (j + 1) = T.kids.take j ++ [T.kids[j]'h1]) := List.take_succ_eq_append_getElem h1
      have ED3 : Hid (∀ q : Nat, T.kids[j]'h1 = (q : Int) → s.edge a q) := fun q e => ED2.out q (by rw [← e]; exact List.getElem_mem h1)
      generalize T.kids[j]'h1 = Y at *
      subst e9
      obtain ⟨q, rfl⟩ : ∃ m : Nat, Y = (m : Int) := ⟨Y.toNat, by omega⟩
      have CALL := Lib.hid (HIH.out wr q W' (Nat.le_trans (zeros_won HW.out) z1) (HW.out.1.trans LEN.out) (by omega) (PART.out _ _ HW.out (ED3.out q rfl)) gb.out HBl.out (HN.out.below ((S2.out.trans (Save.refl _ _)).bel.mono hB) |>.below (sv.out.bel.mono hB)))
      have VQ : Hid (capF s.wt (T.kids.take (j + 1)) 1 = min (x + s.wt q) 1001) := by show _ = _; rw [TK.out, capF_snoc, ← HV.out, Int.toNat_natCast]
      have wl := s.wt_le q
      clear h1 kr gk
      go_wp2_with fail
      with_reducible refine CALL.out.mono ?_
      rintro e w3 ⟨W2, rfl, won, blk, sv3⟩
      have HW2 := Lib.hid (HW.out.trans won); have HB2 := Lib.hid blk; have SV2 := Lib.hid (sv.out.trans sv3)
      clear won blk sv3
      generalize s.wt q = wk at *
      by_cases hm : x + wk ≤ 1001
      · have qm : (x : Int) + (wk : Int) ≤ 1001 := by omega
        go_wp2_with fail
        go_roundw
        case rel => exact ⟨j + 1, x + wk, W2, by omega, by omega, by go_num, by first | (push_cast; rfl) | (congr 1; omega), by show _ = _; rw [VQ.out]; omega, HW2, HB2, SV2⟩
        case measure => simp [intOf]; omega
      · have qm : ¬ (x : Int) + (wk : Int) ≤ 1001 := by omega
        go_wp2_with fail
        go_roundw
        case rel => exact ⟨j + 1, 1001, W2, by omega, by omega, by go_num, by first | rfl | (congr 1; omega), by show _ = _; rw [VQ.out]; omega, HW2, HB2, SV2⟩
        case measure => simp [intOf]; omega
    · obtain rfl : j = nk := by omega
      have ql : ¬ (j : Int) < (j : Int) := by omega
      have WV : Hid (wa = x) := by
       show _ = _
       rw [WTH.out, HV.out, HNK.out, List.take_length]
      have la : a < W'.length := by rw [HW.out.1, LEN.out]; exact ha'
      have c0 := (HBl.out.cell a).trans (vals_at la)
      have fr := HBl.out.frozen a
      have F := PUT.out _ HW.out
      rw [WV.out] at F
      have FH := Lib.hid F
      have R3 := HBl.out.set a (.int .i64 (x : Int))
      rw [vals_set] at R3
      have HR3 := Lib.hid R3
      clear F R3 HV
      go_wp2_with fail
      go_ret
      exact wgA_ret (by rw [← HWA.out, WV.out]; rfl) FH.out HR3.out ((S2.out.trans sv.out).set a _)
 · rw [if_neg hk] at WT
   have qk : (T.k == 9) = false := by rw [beq_eq_false_iff_ne]; exact hk
   have WTH := Lib.hid WT
   have F := PUT.out _ (Won.refl s _)
   rw [WT] at F
   have FH := Lib.hid F
   have R2 := HR1.out.set a (.int .i64 ((1 : Nat) : Int))
   rw [vals_set] at R2
   have HR2 := Lib.hid R2
   clear WT hk F R2 ED
   go_enter Tryz.func104, Tryz.ntmps104
   go_wp2_with fail
   go_ret
   exact wgA_ret (by rw [← HWA.out, WTH.out]; rfl) FH.out HR2.out (by exact S1.out.set a _)
theorem weigh_at (s : Sc) (hs : s.sm) (hK : KidsIn s) : ∀ N, WeighC s N := by
 intro N
 induction N with
 | zero =>
  intro w g r B a W A c hz hl ha hW hgr hB hG hR hN
  refine weigh_old s hs w g r a W A c hl hW (fun h e => ?_) ha hG hR
  have := zeros_set (v := 1) h e (by decide)
  omega
 | succ N ih =>
  intro w g r B a W A c hz hl ha hW hgr hB hG hR hN
  by_cases h0 : ∃ h : a < W.length, W[a]'h = 0
  · obtain ⟨h1, h0⟩ := h0
    exact weigh_new s hs hK N ih w g r B a W A c hz hl ha hW (fun _ => h0) hgr hB hG hR hN
  · exact weigh_old s hs w g r a W A c hl hW (fun h e => h0 ⟨h, e⟩) ha hG hR
end Go.Proofs.YthfoomobicbcpaaGreatDoor
namespace Go.Proofs.YthfoomobicbcpaaGreatDoor
open Go.ChangeShapes Go.WideShapes Go.ChangeAt Go.RowKit Mem
theorem kids_in {s : Sc} (h : s.ordered) : KidsIn s := fun i hi k hk => by
 have := (ordered_good h).1 i (Nat.zero_le _) hi k hk
 exact ⟨this.1, this.2.1⟩
theorem sLight_any (s : Sc) (hs : s.sm) (hK : KidsIn s) (w : World) (A : Option Addr) (c : Nat) (h : RowD w (· < w.heap.size) 10 (s.nodes.map Nd.enc) A) :
 Calls Tryz.prog 75 #[.slice A s.nodes.length c] w (Tells (∀ i, i < s.nodes.length → s.wt i ≤ 1000) w) := by
 have CS := cell_set
 have n25 : s.nodes.length ≤ 2500 := hs.1
 have WC : Hid (∀ (W : World) (a : Nat) (L : List Nat), Wfin s L → L.length = s.nodes.length → a < s.nodes.length → B2 W (w.heap.size + 1) 152 (.slice A s.nodes.length c) (.slice (some ⟨w.heap.size, 0, none⟩) s.nodes.length s.nodes.length) → Blk W w.heap.size 3 (vals L) → NodesB s W w.heap.size A →
  Calls Tryz.prog 104 #[.pointer (some ⟨w.heap.size + 1, 0, none⟩), .int .i64 (a : Int)] W (WgA s a L w.heap.size W)) := fun W a L h1 h2 h3 h4 h5 h6 =>
  weigh_at s hs hK _ W (w.heap.size + 1) w.heap.size w.heap.size a L A c (Nat.le_refl _) h2 h3 (h1.ok a) (by omega) (Nat.le_refl _) h4 h5 h6
 have NB : Hid (NodesB s w w.heap.size A) := h
 have hmk := run_make_row' (P := Tryz.prog) 57 3 (.int .i64 0) 8 intT.sl intT.info rfl .i64 .i64 s.nodes.length (by omega) (by omega)
 rw [vals_zero] at hmk
 have W1 : Below w.heap.size w ((w.alloc (.cells (vals (List.replicate s.nodes.length 0)) 3)).alloc (.cells #[.slice A s.nodes.length c, .slice (some ⟨w.heap.size, 0, none⟩) s.nodes.length s.nodes.length] 152)) := bqq
 have R1 := Lib.hid (Blk.alloc (Blk.new w 3 (vals (List.replicate s.nodes.length 0))) (.cells #[.slice A s.nodes.length c, .slice (some ⟨w.heap.size, 0, none⟩) s.nodes.length s.nodes.length] 152))
 have G1 := Lib.hid (B2.newat (w := w.alloc (.cells (vals (List.replicate s.nodes.length 0)) 3)) (g := w.heap.size + 1) (t := 152) (x0 := .slice A s.nodes.length c) (x1 := .slice (some ⟨w.heap.size, 0, none⟩) s.nodes.length s.nodes.length) (by simp))
 have LW : Hid ((List.replicate s.nodes.length 0).length = s.nodes.length) := by show _ = _; simp
 have FZ : Hid (Wfin s (List.replicate s.nodes.length 0)) := fun i h => .inl (by simp)
 generalize List.replicate s.nodes.length 0 = W0 at *
 obtain ⟨ns, hns⟩ : ∃ n, n = s.nodes.length := ⟨_, rfl⟩
 rw [← hns] at n25 WC hmk W1 R1 G1 LW ⊢
 have HW1 := Lib.hid W1
 have z1 : w.heap.size + 2 ≤ ((w.alloc (.cells (vals W0) 3)).alloc (.cells #[.slice A ns c, .slice (some ⟨w.heap.size, 0, none⟩) ns ns] 152)).heap.size := by simp
 have HZ1 := Lib.hid z1
 clear h hs hK hns W1 z1
 go_enter Tryz.func75, Tryz.ntmps75
 go_wp2_with fail
 go_loopw [12] (fun t wr => ∃ (j : Nat) (L : List Nat), j ≤ ns ∧ t = .int .i64 (j : Int) ∧ Hid (Wfin s L ∧ L.length = ns) ∧ Hid (∀ i, i < j → s.wt i ≤ 1000) ∧ Hid (Blk wr w.heap.size 3 (vals L)) ∧ Hid (Save w.heap.size ((w.alloc (.cells (vals W0) 3)).alloc (.cells #[.slice A ns c, .slice (some ⟨w.heap.size, 0, none⟩) ns ns] 152)) wr)) (fun t _ => ns - (intOf t).toNat)
 case atStart => exact ⟨0, W0, Nat.zero_le _, rfl, ⟨FZ.out, LW.out⟩, (fun i h => absurd h (Nat.not_lt_zero _)), R1.out, Save.refl _ _⟩
 case round =>
  obtain ⟨j, L, hj, rfl, HL, HI, HB, sv⟩ := hrel
  have g1 := Lib.hid ((sv.out.block (G1.out).lt (by omega)).trans G1.out : B2 wr (w.heap.size + 1) 152 _ _)
  have bw := Lib.hid (HW1.out.trans sv.out.bel)
  obtain ⟨f0, f1, fr0, fr1⟩ := B2.facts g1.out
  by_cases hjn : j < ns
  · have ql : (j : Int) < (ns : Int) := by omega
    have CALL := Lib.hid (WC.out wr j L HL.out.1 HL.out.2 hjn g1.out HB.out (NB.out.below bw.out))
    have wl := s.wt_le j
    obtain ⟨x, hx⟩ : ∃ x, x = s.wt j := ⟨_, rfl⟩
    have HX := Lib.hid hx
    unfold WgA at CALL
    rw [← hx] at CALL wl
    clear hx
    go_wp2_with fail
    with_reducible refine CALL.out.mono ?_
    rintro e w3 ⟨L2, rfl, won, blk, sv3⟩
    have HL2 := Lib.hid (And.intro (HL.out.1.won won) (won.1.trans HL.out.2)); have HB2 := Lib.hid blk; have SV2 := Lib.hid (sv.out.trans sv3)
    have bw3 := Lib.hid (bw.out.trans sv3.bel)
    clear won blk sv3
    by_cases hm : x = 1001
    · have qm : ((x : Int) == 1001) = true := by simp [hm]
      have NO : Hid (¬ ∀ i, i < ns → s.wt i ≤ 1000) := fun o => by have := o j hjn; rw [← HX.out] at this; omega
      clear hm
      go_wp2_with fail
      go_ret
      exact tells_no rfl NO.out bw3.out
    · have qm : ((x : Int) == 1001) = false := by rw [beq_eq_false_iff_ne]; omega
      have HI2 : Hid (∀ i, i < j + 1 → s.wt i ≤ 1000) := fun i hi => by
       rcases Nat.lt_or_ge i j with g | g
       · exact HI.out i g
       · obtain rfl : i = j := by omega
         rw [← HX.out]; omega
      clear hm
      go_wp2_with fail
      go_roundw
      case rel => exact ⟨j + 1, L2, by omega, by go_num, HL2, HI2, HB2, SV2⟩
      case measure => simp [intOf]; omega
  · obtain rfl : j = ns := by omega
    have ql : ¬ (j : Int) < (j : Int) := by omega
    go_wp2_with fail
    go_ret
    exact tells_yes rfl HI.out bw.out
end Go.Proofs.YthfoomobicbcpaaGreatDoor
