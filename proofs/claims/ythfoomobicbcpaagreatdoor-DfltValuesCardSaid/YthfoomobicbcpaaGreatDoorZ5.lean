/- Joined by tools/bundle.py: Nam JPar KFrm SRgt VIs JEq JGet JRBulk JRB25. -/
import Derived.Deep.LoopGhost
import Derived.BigQuiet
import Derived.Test.YthfoomobicbcpaaGreatDoorZ1
import Derived.Test.YthfoomobicbcpaaGreatDoorZ3
import Derived.Test.YthfoomobicbcpaaGreatDoorZ4
import Derived.Test.YthfoomobicbcpaaGreatDoorZ0
set_option maxRecDepth 100000
set_option maxHeartbeats 16000000
namespace Go.Proofs.YthfoomobicbcpaaGreatDoor.Nm
open Jx
def lt (c : Nat) : Bool := decide ((97 ≤ c ∧ c ≤ 122) ∨ (65 ≤ c ∧ c ≤ 90) ∨ c = 95)
def ch (c : Nat) : Bool := lt c || isD c
def chs (l : List UInt8) : Bool := l.all fun x => ch x.toNat
def simple (l : List UInt8) : Bool := decide (l.length ≠ 0) && decide (l.length ≤ 100) && lt (byt l 0) && chs l
def dotN : Nat → List UInt8 → Int
 | 0, _ => -1
 | i + 1, l => if byt l i = 46 then (i : Int) else dotN i l
def dot (l : List UInt8) : Int := dotN l.length l
theorem dotN_lt : ∀ (i : Nat) (l : List UInt8), -1 ≤ dotN i l ∧ dotN i l < (i : Int)
 | 0, l => by simp [dotN]
 | i + 1, l => by
  unfold dotN
  have := dotN_lt i l
  split <;> omega
theorem dotN_at : ∀ (i : Nat) (l : List UInt8) (k : Nat), dotN i l = (k : Int) → byt l k = 46 ∧ ∀ j, k < j → j < i → byt l j ≠ 46
 | 0, l, k, h => by unfold dotN at h; omega
 | i + 1, l, k, h => by
  unfold dotN at h
  split at h
  · rename_i h1
    obtain rfl : i = k := by omega
    exact ⟨h1, fun j a b => by omega⟩
  · rename_i h1
    have ih := dotN_at i l k h
    refine ⟨ih.1, fun j a b => ?_⟩
    rcases Nat.lt_or_ge j i with g | g
    · exact ih.2 j a g
    · obtain rfl : j = i := by omega
      exact h1
theorem dotN_no : ∀ (i : Nat) (l : List UInt8), dotN i l < 0 → ∀ j, j < i → byt l j ≠ 46
 | 0, l, _, j, hj => absurd hj (Nat.not_lt_zero _)
 | i + 1, l, h, j, hj => by
  unfold dotN at h
  split at h
  · omega
  · rename_i h1
    rcases Nat.lt_or_ge j i with g | g
    · exact dotN_no i l h j g
    · obtain rfl : j = i := by omega
      exact h1
theorem dotN_none : ∀ (i : Nat) (l : List UInt8), (∀ j, j < i → byt l j ≠ 46) → dotN i l = -1
 | 0, _, _ => rfl
 | i + 1, l, h => by
  unfold dotN
  rw [if_neg (h i (by omega)), dotN_none i l (fun j hj => h j (by omega))]
theorem dot_lt (l : List UInt8) : -1 ≤ dot l ∧ dot l < (l.length : Int) := dotN_lt _ l
theorem dot_place {l : List UInt8} (h : 0 ≤ dot l) : ∃ k : Nat, dot l = (k : Int) ∧ k < l.length ∧ byt l k = 46 ∧ ∀ j, k < j → j < l.length → byt l j ≠ 46 := by
 obtain ⟨k, hk⟩ : ∃ k : Nat, dot l = (k : Int) := ⟨(dot l).toNat, by omega⟩
 have := dot_lt l
 have a := dotN_at l.length l k hk
 exact ⟨k, hk, by omega, a.1, a.2⟩
def fullF : Nat → List UInt8 → Bool
 | 0, _ => false
 | f + 1, l => if 0 ≤ dot l then simple (l.drop (dot l + 1).toNat) && fullF f (l.take (dot l).toNat) else simple l
def full (l : List UInt8) : Bool := decide (l.length ≤ 100) && fullF (l.length + 1) l
def space (l : List UInt8) : List UInt8 := if dot l < 0 then [] else l.take (dot l).toNat
def last (l : List UInt8) : List UInt8 := l.drop (dot l + 1).toNat
theorem fullF_fuel : ∀ (f g : Nat) (l : List UInt8), l.length < f → l.length < g → fullF f l = fullF g l
 | 0, _, _, h, _ => absurd h (Nat.not_lt_zero _)
 | _ + 1, 0, _, _, h => absurd h (Nat.not_lt_zero _)
 | f + 1, g + 1, l, h1, h2 => by
  unfold fullF
  split
  · rename_i h
    have := dot_lt l
    rw [fullF_fuel f g (l.take (dot l).toNat) (by rw [List.length_take]; omega) (by rw [List.length_take]; omega)]
  · rfl
theorem full_go {l : List UInt8} (h : 0 ≤ dot l) : full l = (decide (l.length ≤ 100) && (simple (last l) && full (space l))) := by
 have d := dot_lt l
 have e : space l = l.take (dot l).toNat := by unfold space; rw [if_neg (by omega)]
 unfold full
 rw [fullF, if_pos h, e]
 have hl : (l.take (dot l).toNat).length = (dot l).toNat := by rw [List.length_take]; omega
 rw [fullF_fuel l.length ((l.take (dot l).toNat).length + 1) (l.take (dot l).toNat) (by omega) (by omega), hl]
 unfold last
 by_cases h100 : l.length ≤ 100
 · rw [show decide ((dot l).toNat ≤ 100) = true by simp; omega]; simp
 · simp [h100]
theorem full_one {l : List UInt8} (h : dot l < 0) : full l = simple l := by
 unfold full
 rw [fullF, if_neg (by omega)]
 unfold simple
 by_cases h100 : l.length ≤ 100 <;> simp [h100]
theorem last_no (l : List UInt8) : dot (last l) < 0 := by
 have d := dot_lt l
 have : dot (last l) = -1 := by
  refine dotN_none _ _ fun j hj => ?_
  unfold last at hj ⊢
  rw [List.length_drop] at hj
  rw [byt_drop]
  rcases Int.lt_or_le (dot l) 0 with h | h
  · exact dotN_no l.length l h _ (by omega)
  · obtain ⟨k, hk, _, _, h2⟩ := dot_place h
    exact h2 _ (by omega) (by omega)
 omega
end Go.Proofs.YthfoomobicbcpaaGreatDoor.Nm
namespace Go.Proofs.YthfoomobicbcpaaGreatDoor.Nm
def word (k : Int) : List UInt8 :=
 if k = 1 then [110, 117, 108, 108] else if k = 2 then [98, 111, 111, 108, 101, 97, 110] else if k = 3 then [105, 110, 116] else if k = 4 then [108, 111, 110, 103] else if k = 5 then [102, 108, 111, 97, 116]
 else if k = 6 then [100, 111, 117, 98, 108, 101] else if k = 7 then [98, 121, 116, 101, 115] else if k = 8 then [115, 116, 114, 105, 110, 103] else if k = 9 then [114, 101, 99, 111, 114, 100] else if k = 10 then [101, 110, 117, 109]
 else if k = 11 then [97, 114, 114, 97, 121] else if k = 12 then [109, 97, 112] else if k = 14 then [102, 105, 120, 101, 100] else []
def kindF : Nat → Nat → List UInt8 → Nat
 | 0, _, _ => 0
 | f + 1, k, s => if s ≠ [] ∧ word (k : Int) = s then k else kindF f (k + 1) s
def kind (s : List UInt8) : Nat := kindF 14 1 s
end Go.Proofs.YthfoomobicbcpaaGreatDoor.Nm
namespace Go.Proofs.YthfoomobicbcpaaGreatDoor.Jp
open Jx
def nil_ : ByteArray := ⟨#[]⟩
def str (t : List UInt8) : ByteArray := ⟨t.toArray⟩
abbrev R := J × Nat × Nat
def bad (e : Nat) : R := (J.zero, 0, e)
def wlF : Nat → List UInt8 → Nat → List Wd
 | 0, _, _ => []
 | f + 1, l, p => if (tak l p).2 ≠ 0 then [⟨0, ((tak l p).2 : Int), [], 0, 0⟩] else if (tak l p).1.k = 11 then [(tak l p).1] else (tak l p).1 :: wlF f l (tak l p).1.x
def wl (l : List UInt8) (p : Nat) : List Wd := wlF (l.length + 1 - p) l p
end Go.Proofs.YthfoomobicbcpaaGreatDoor.Jp
namespace Go.Proofs.YthfoomobicbcpaaGreatDoor
open Num
mutual
/-- May a tree be, but for how deep it is? -/
def J.frm : J → Prop
 | .mk k n t its ks => 1 ≤ k ∧ k ≤ 6 ∧ (k ≠ 2 → k ≠ 3 → n = 0) ∧ (k = 2 → n = 0 ∨ n = 1) ∧ (k ≠ 4 → t = Jp.nil_) ∧ (cU t.data.toList).isSome = true ∧ (k < 5 → its = []) ∧ (k ≠ 6 → ks = []) ∧ (k = 6 → ks.length = its.length) ∧ (∀ x ∈ ks, (cU x.data.toList).isSome = true) ∧ ks.Nodup ∧ J.frms its
def J.frms : List J → Prop
 | [] => True
 | j :: r => J.frm j ∧ J.frms r
end
theorem J.frms_nil : J.frms [] := by unfold J.frms; trivial
theorem J.frms_iff : ∀ {l : List J}, J.frms l ↔ ∀ i (h : i < l.length), (l[i]'h).frm
 | [] => ⟨fun _ i h => absurd h (Nat.not_lt_zero _), fun _ => by unfold J.frms; trivial⟩
 | j :: r => by
  unfold J.frms
  rw [J.frms_iff (l := r)]
  constructor
  · intro h i hi
    cases i with
    | zero => exact h.1
    | succ i => exact h.2 i (by simpa using hi)
  · intro h
    exact ⟨h 0 (by simp), fun i hi => by have := h (i + 1) (by simpa using hi); simpa using this⟩
noncomputable def J.frmb (t : J) : Bool := @decide t.frm (Classical.propDecidable _)
theorem J.frmb_iff {t : J} : t.frmb = true ↔ t.frm := by unfold J.frmb; simp
noncomputable def J.rightb (t : J) : Bool := decide (t.deep ≤ 32) && t.frmb
theorem J.rightb_iff {t : J} : t.rightb = true ↔ t.deep ≤ 32 ∧ t.frm := by unfold J.rightb; rw [Bool.and_eq_true, decide_eq_true_eq, J.frmb_iff]
end Go.Proofs.YthfoomobicbcpaaGreatDoor
namespace Go.Proofs.YthfoomobicbcpaaGreatDoor
def zJ : J := .mk 0 0 ⟨#[]⟩ [] []
def okName (t : ByteArray) : Prop := Nm.full t.data.toList = true ∧ Nm.kind t.data.toList = 0
def okFulls (l : List ByteArray) : Prop := l.length ≤ 40 ∧ ∀ t ∈ l, Nm.full t.data.toList = true
def okSimples (l : List ByteArray) : Prop := l.length ≤ 40 ∧ ∀ t ∈ l, Nm.simple t.data.toList = true
def Fd.ok (f : Fd) : Prop := okSimples f.al ∧ (if f.has = true then f.df.deep ≤ 32 ∧ f.df.frm else f.df = zJ)
def Nd.ok (s : Sc) (n : Nd) : Prop := 1 ≤ n.k ∧ n.k ≤ 14 ∧
 (if named n.k = true then okName n.name ∧ okFulls n.al else n.name = ⟨#[]⟩ ∧ n.al = []) ∧
 (if n.k = 9 then okSimples (n.fs.map Fd.name) ∧ (n.fs.map Fd.name).Nodup ∧ ∀ f ∈ n.fs, f.ok else n.fs = []) ∧
 (if n.k = 10 then n.sy ≠ [] ∧ okSimples n.sy ∧ n.sy.Nodup ∧ (if n.has = true then n.df ∈ n.sy else n.df = ⟨#[]⟩) else n.sy = [] ∧ n.has = false ∧ n.df = ⟨#[]⟩) ∧
 (if n.k = 14 then 0 ≤ n.size ∧ n.size ≤ 1000 else n.size = 0) ∧
 (if n.k = 11 ∨ n.k = 12 then True else n.items = 0) ∧
 (if n.k = 13 then n.br ≠ [] ∧ n.br.length ≤ 10 ∧ (∀ b ∈ n.br, s.kind b ≠ 13) ∧ n.br.Pairwise (fun a b => a ≠ b ∧ (s.kind a ≠ s.kind b ∨ named (s.kind a) = true)) else n.br = [])
def Sc.names (s : Sc) : List ByteArray := (s.nodes.filter fun n => named n.k).map Nd.name
def Sc.right (s : Sc) : Prop := s.ordered ∧ (∀ n ∈ s.nodes, n.ok s) ∧ (∀ i, i < s.nodes.length → s.wt i ≤ 1000) ∧ s.names.Nodup
def VJust (k n bt : Int) (nb ni nk : Nat) : Prop := (k = 2 ∨ k = 3 ∨ k = 4 ∨ k = 10 ∨ k = 13 ∨ n = 0) ∧ (k = 5 ∨ k = 6 ∨ bt = 0) ∧ (k = 7 ∨ k = 8 ∨ k = 14 ∨ nb = 0) ∧ (k = 9 ∨ k = 11 ∨ k = 12 ∨ k = 13 ∨ ni = 0) ∧ (k = 12 ∨ nk = 0)
def keysOk (ks : List ByteArray) : Prop := ∀ i (h : i < ks.length), (ks[i]'h).size ≤ 20000 ∧ (Num.cU (ks[i]'h).data.toList).isSome = true
theorem keysOk_iff {ks : List ByteArray} : keysOk ks ↔ ∀ x ∈ ks, x.size ≤ 20000 ∧ (Num.cU x.data.toList).isSome = true :=
 ⟨fun h x hx => by obtain ⟨i, hi, rfl⟩ := List.getElem_of_mem hx; exact h i hi, fun h i hi => h _ (List.getElem_mem hi)⟩
section
variable {s : Sc} {p : Nat} (hp : p < s.nodes.length) {k n bt : Int} {bs : List UInt8} {its : List V} {ks : List ByteArray}
theorem Sc.node_at {s : Sc} {p : Nat} (hp : p < s.nodes.length) : s.node (p : Int) = s.nodes[p]'hp := by
 unfold Sc.node
 rw [Int.toNat_natCast, List.getElem?_eq_getElem hp]; rfl
include hp in
theorem V.is_at : V.is s (.mk k n bt bs its ks) (p : Int) ↔ k = (s.nodes[p]'hp).k ∧ bs.length ≤ 20000 ∧ its.length ≤ 300 ∧ VOwn (s.nodes[p]'hp) n bt bs its.length ks ∧ V.all s its (VKids (s.nodes[p]'hp) n its.length) := by
 unfold V.is
 rw [Sc.node_at hp]
 constructor
 · rintro ⟨_, _, h⟩; exact h
 · intro h; exact ⟨by omega, by omega, h⟩
theorem V.is_not (h : ¬ k = (s.nodes[p]'hp).k) : ¬ V.is s (.mk k n bt bs its ks) (p : Int) := fun g => h ((V.is_at hp).1 g).1
theorem vown_iff {nd : Nd} {m : Nat} (hs : nd.k = 14 → nd.size ≤ 1000) : (bs.length ≤ 20000 ∧ m ≤ 300 ∧ VOwn nd n bt bs m ks ∧ (nd.k = 9 ∨ nd.k = 11 ∨ nd.k = 12 ∨ nd.k = 13 ∨ m = 0)) ↔ VJust nd.k n bt bs.length m ks.length ∧ m ≤ 300 ∧
 (nd.k = 2 → n = 0 ∨ n = 1) ∧ (nd.k = 3 → -2147483648 ≤ n ∧ n ≤ 2147483647) ∧ (nd.k = 10 → 0 ≤ n ∧ n < (nd.sy.length : Int)) ∧ (nd.k = 13 → 0 ≤ n ∧ n < (nd.br.length : Int)) ∧ (nd.k = 5 → bt ≤ 4294967295) ∧
 (nd.k = 7 → bs.length ≤ 20000) ∧ (nd.k = 8 → (Num.cU bs).isSome = true ∧ bs.length ≤ 20000) ∧ (nd.k = 14 → (bs.length : Int) = nd.size) ∧ (nd.k = 12 → ks.length = m ∧ keysOk ks) := by
 have e1 : bs = [] ↔ bs.length = 0 := List.length_eq_zero_iff.symm
 have e2 : ks = [] ↔ ks.length = 0 := List.length_eq_zero_iff.symm
 unfold VOwn VJust
 rw [e1, e2, ← keysOk_iff]
 generalize keysOk ks = KO
 generalize ((Num.cU bs).isSome = true) = CO
 generalize bs.length = nb
 generalize ks.length = nk
 generalize (nd.sy.length : Int) = ls
 generalize (nd.br.length : Int) = lb
 generalize nd.size = sz at *
 generalize nd.k = K at *
 constructor
 · rintro ⟨h1, h2, ⟨h3, h4, h5, h6⟩, h7⟩
   refine ⟨⟨?_, ?_, ?_, ?_, ?_⟩, h2, ?_, ?_, ?_, ?_, ?_, ?_, ?_, ?_, ?_⟩
   · by_cases c2 : K = 2
     · exact .inl c2
     by_cases c3 : K = 3
     · exact .inr (.inl c3)
     by_cases c4 : K = 4
     · exact .inr (.inr (.inl c4))
     by_cases c10 : K = 10
     · exact .inr (.inr (.inr (.inl c10)))
     by_cases c13 : K = 13
     · exact .inr (.inr (.inr (.inr (.inl c13))))
     rw [if_neg c2, if_neg c3, if_neg c4, if_neg c10, if_neg c13] at h3
     exact .inr (.inr (.inr (.inr (.inr h3))))
   · by_cases c5 : K = 5
     · exact .inl c5
     by_cases c6 : K = 6
     · exact .inr (.inl c6)
     rw [if_neg c5, if_neg c6] at h4
     exact .inr (.inr h4)
   · by_cases c7 : K = 7
     · exact .inl c7
     by_cases c8 : K = 8
     · exact .inr (.inl c8)
     by_cases c14 : K = 14
     · exact .inr (.inr (.inl c14))
     rw [if_neg c7, if_neg c8, if_neg c14] at h5
     exact .inr (.inr (.inr h5))
   · exact h7
   · by_cases c12 : K = 12
     · exact .inl c12
     rw [if_neg c12] at h6
     exact .inr h6
   · rintro rfl; simpa using h3
   · rintro rfl; simpa using h3
   · rintro rfl; simpa using h3
   · rintro rfl; simpa using h3
   · rintro rfl
     have h4 : bt < 4294967296 := by simpa using h4
     clear h1 h2 h3 h5 h6 h7 hs
     omega
   · rintro _; exact h1
   · rintro rfl; exact ⟨by simpa using h5, h1⟩
   · rintro rfl; simpa using h5
   · rintro rfl; simpa using h6
 · rintro ⟨⟨j1, j2, j3, j4, j5⟩, h2, g2, g3, g10, g13, g5, g7, g8, g14, g12⟩
   refine ⟨?_, h2, ⟨?_, ?_, ?_, ?_⟩, j4⟩
   · by_cases c7 : K = 7
     · exact g7 c7
     by_cases c8 : K = 8
     · exact (g8 c8).2
     by_cases c14 : K = 14
     · have a := g14 c14
       have b := hs c14
       clear j1 j2 j3 j4 j5 h2 g2 g3 g10 g13 g5 g7 g8 g14 g12 hs
       omega
     · exact Nat.le_trans (Nat.le_of_eq (((j3.resolve_left c7).resolve_left c8).resolve_left c14)) (Nat.zero_le _)
   · by_cases c2 : K = 2
     · rw [if_pos c2]; exact g2 c2
     rw [if_neg c2]
     by_cases c3 : K = 3
     · rw [if_pos c3]; exact g3 c3
     rw [if_neg c3]
     by_cases c4 : K = 4
     · rw [if_pos c4]; trivial
     rw [if_neg c4]
     by_cases c10 : K = 10
     · rw [if_pos c10]; exact g10 c10
     rw [if_neg c10]
     by_cases c13 : K = 13
     · rw [if_pos c13]; exact g13 c13
     rw [if_neg c13]
     exact ((((j1.resolve_left c2).resolve_left c3).resolve_left c4).resolve_left c10).resolve_left c13
   · by_cases c5 : K = 5
     · rw [if_pos c5]
       have a := g5 c5
       clear j1 j2 j3 j4 j5 h2 g2 g3 g10 g13 g5 g7 g8 g14 g12 hs
       omega
     rw [if_neg c5]
     by_cases c6 : K = 6
     · rw [if_pos c6]; trivial
     rw [if_neg c6]
     exact (j2.resolve_left c5).resolve_left c6
   · by_cases c7 : K = 7
     · rw [if_pos c7]; trivial
     rw [if_neg c7]
     by_cases c8 : K = 8
     · rw [if_pos c8]; exact (g8 c8).1
     rw [if_neg c8]
     by_cases c14 : K = 14
     · rw [if_pos c14]; exact g14 c14
     rw [if_neg c14]
     exact ((j3.resolve_left c7).resolve_left c8).resolve_left c14
   · by_cases c12 : K = 12
     · rw [if_pos c12]; exact g12 c12
     rw [if_neg c12]
     exact j5.resolve_left c12
theorem vkids_none {nd : Nd} {m : Nat} (h : ¬ (nd.k = 9 ∨ nd.k = 11 ∨ nd.k = 12 ∨ nd.k = 13)) : VKids nd n m = [] := by
 unfold VKids
 rw [if_neg (by omega), if_neg (by omega), if_neg (by omega)]
theorem all_none : V.all s its [] ↔ its.length = 0 := by
 rw [V.all_iff]
 constructor
 · rintro ⟨h, _⟩; simpa using h.symm
 · intro h; exact ⟨by simpa using h.symm, fun i hi => by omega⟩
theorem V.is_leaf (hs : (s.nodes[p]'hp).k = 14 → (s.nodes[p]'hp).size ≤ 1000) (hk : k = (s.nodes[p]'hp).k) (hl : ¬ (k = 9 ∨ k = 11 ∨ k = 12 ∨ k = 13)) : V.is s (.mk k n bt bs its ks) (p : Int) ↔ VJust k n bt bs.length its.length ks.length ∧
 (k = 2 → n = 0 ∨ n = 1) ∧ (k = 3 → -2147483648 ≤ n ∧ n ≤ 2147483647) ∧ (k = 10 → 0 ≤ n ∧ n < ((s.nodes[p]'hp).sy.length : Int)) ∧ (k = 5 → bt ≤ 4294967295) ∧
 (k = 7 → bs.length ≤ 20000) ∧ (k = 8 → (Num.cU bs).isSome = true ∧ bs.length ≤ 20000) ∧ (k = 14 → (bs.length : Int) = (s.nodes[p]'hp).size) := by
 have v := vown_iff (n := n) (bt := bt) (bs := bs) (ks := ks) (m := its.length) hs
 rw [V.is_at hp]
 generalize s.nodes[p]'hp = nd at *
 subst hk
 rw [vkids_none hl, all_none]
 constructor
 · rintro ⟨_, h1, h2, h3, h4⟩
   obtain ⟨a1, a2, a3, a4, a5, a6, a7, a8, a9, a10, a11⟩ := v.1 ⟨h1, h2, h3, by omega⟩
   exact ⟨a1, a3, a4, a5, a7, a8, a9, a10⟩
 · rintro ⟨a1, a3, a4, a5, a7, a8, a9, a10⟩
   have z : its.length = 0 := by have := a1.2.2.2.1; omega
   obtain ⟨b1, b2, b3, _⟩ := v.2 ⟨a1, by omega, a3, a4, a5, (fun h => by omega), a7, a8, a9, a10, (fun h => by omega)⟩
   exact ⟨rfl, b1, b2, b3, z⟩
theorem V.is_part (hk : k = (s.nodes[p]'hp).k) (hl : k = 9 ∨ k = 11 ∨ k = 12 ∨ k = 13) : V.is s (.mk k n bt bs its ks) (p : Int) ↔ VJust k n bt bs.length its.length ks.length ∧ its.length ≤ 300 ∧ (k = 13 → 0 ≤ n ∧ n < ((s.nodes[p]'hp).br.length : Int)) ∧ (k = 12 → ks.length = its.length ∧ keysOk ks) ∧
 (VKids (s.nodes[p]'hp) n its.length).length = its.length ∧ ∀ i (h : i < its.length) (g : i < (VKids (s.nodes[p]'hp) n its.length).length), V.is s (its[i]'h) ((VKids (s.nodes[p]'hp) n its.length)[i]'g) := by
 have v := vown_iff (nd := s.nodes[p]'hp) (n := n) (bt := bt) (bs := bs) (ks := ks) (m := its.length) (fun h => by omega)
 rw [V.is_at hp, V.all_iff]
 generalize s.nodes[p]'hp = nd at *
 subst hk
 constructor
 · rintro ⟨_, h1, h2, h3, h4⟩
   obtain ⟨a1, a2, a3, a4, a5, a6, a7, a8, a9, a10, a11⟩ := v.1 ⟨h1, h2, h3, by omega⟩
   exact ⟨a1, a2, a6, a11, h4⟩
 · rintro ⟨a1, a2, a6, a11, h4⟩
   obtain ⟨b1, b2, b3, _⟩ := v.2 ⟨a1, a2, (fun h => by omega), (fun h => by omega), (fun h => by omega), a6, (fun h => by omega), (fun h => by omega), (fun h => by omega), (fun h => by omega), a11⟩
   exact ⟨rfl, b1, b2, b3, h4⟩
theorem V.is_9 (hk : (s.nodes[p]'hp).k = 9) (hf : (s.nodes[p]'hp).fs.length ≤ 300) : V.is s (.mk 9 n bt bs its ks) (p : Int) ↔ VJust 9 n bt bs.length its.length ks.length ∧ (its.length = (s.nodes[p]'hp).fs.length ∧ ∀ i (h : i < its.length) (g : i < (s.nodes[p]'hp).fs.length), V.is s (its[i]'h) ((s.nodes[p]'hp).fs[i]'g).ty) := by
 rw [V.is_part hp hk.symm (.inl rfl)]
 have e : VKids (s.nodes[p]'hp) n its.length = (s.nodes[p]'hp).fs.map Fd.ty := by unfold VKids; rw [if_pos hk]
 rw [e]
 have lm : ((s.nodes[p]'hp).fs.map Fd.ty).length = (s.nodes[p]'hp).fs.length := List.length_map ..
 generalize s.nodes[p]'hp = nd at *
 constructor
 · rintro ⟨h1, _, _, _, h2, h3⟩
   exact ⟨h1, h2.symm.trans lm, fun i h g => by have := h3 i h (by rw [List.length_map]; exact g); rwa [List.getElem_map] at this⟩
 · rintro ⟨h1, h2, h3⟩
   exact ⟨h1, by omega, (fun h => by omega), (fun h => by omega), lm.trans h2.symm, fun i h g => by rw [List.getElem_map]; exact h3 i h (by rw [List.length_map] at g; exact g)⟩
theorem V.is_11 (hk : (s.nodes[p]'hp).k = 11) : V.is s (.mk 11 n bt bs its ks) (p : Int) ↔ VJust 11 n bt bs.length its.length ks.length ∧ (its.length ≤ 300 ∧ ∀ i (h : i < its.length), V.is s (its[i]'h) (s.nodes[p]'hp).items) := by
 rw [V.is_part hp hk.symm (.inr (.inl rfl))]
 have e : VKids (s.nodes[p]'hp) n its.length = List.replicate its.length (s.nodes[p]'hp).items := by unfold VKids; rw [if_neg (by omega), if_pos (.inl hk)]
 rw [e]
 generalize s.nodes[p]'hp = nd at *
 constructor
 · rintro ⟨h1, h0, _, _, h2, h3⟩
   exact ⟨h1, h0, fun i h => by have := h3 i h (by rw [List.length_replicate]; exact h); rwa [List.getElem_replicate] at this⟩
 · rintro ⟨h1, h2, h3⟩
   exact ⟨h1, h2, (fun h => by omega), (fun h => by omega), List.length_replicate, fun i h g => by rw [List.getElem_replicate]; exact h3 i h⟩
theorem V.is_12 (hk : (s.nodes[p]'hp).k = 12) : V.is s (.mk 12 n bt bs its ks) (p : Int) ↔ VJust 12 n bt bs.length its.length ks.length ∧ (ks.length = its.length ∧ keysOk ks) ∧ (its.length ≤ 300 ∧ ∀ i (h : i < its.length), V.is s (its[i]'h) (s.nodes[p]'hp).items) := by
 rw [V.is_part hp hk.symm (.inr (.inr (.inl rfl)))]
 have e : VKids (s.nodes[p]'hp) n its.length = List.replicate its.length (s.nodes[p]'hp).items := by unfold VKids; rw [if_neg (by omega), if_pos (.inr hk)]
 rw [e]
 generalize s.nodes[p]'hp = nd at *
 constructor
 · rintro ⟨h1, h0, _, h4, h2, h3⟩
   exact ⟨h1, h4 rfl, h0, fun i h => by have := h3 i h (by rw [List.length_replicate]; exact h); rwa [List.getElem_replicate] at this⟩
 · rintro ⟨h1, h4, h2, h3⟩
   exact ⟨h1, h2, (fun h => by omega), (fun _ => h4), List.length_replicate, fun i h g => by rw [List.getElem_replicate]; exact h3 i h⟩
theorem V.is_13 (hk : (s.nodes[p]'hp).k = 13) : V.is s (.mk 13 n bt bs its ks) (p : Int) ↔ VJust 13 n bt bs.length its.length ks.length ∧ (0 ≤ n ∧ n < ((s.nodes[p]'hp).br.length : Int)) ∧ its.length = 1 ∧ (∃ h : 0 < its.length, V.is s (its[0]'h) ((s.nodes[p]'hp).br.getD n.toNat 0)) := by
 rw [V.is_part hp hk.symm (.inr (.inr (.inr rfl)))]
 have e : VKids (s.nodes[p]'hp) n its.length = ((s.nodes[p]'hp).br[n.toNat]?).toList := by unfold VKids; rw [if_neg (by omega), if_neg (by omega), if_pos hk]
 rw [e]
 generalize s.nodes[p]'hp = nd at *
 constructor
 · rintro ⟨h1, h0, h5, _, h2, h3⟩
   have h5 := h5 rfl
   have hl : n.toNat < nd.br.length := by omega
   have ek : (nd.br[n.toNat]?).toList = [nd.br.getD n.toNat 0] := by rw [List.getElem?_eq_getElem hl, List.getD_eq_getElem?_getD, List.getElem?_eq_getElem hl]; rfl
   rw [ek] at h2
   have l1 : its.length = 1 := by simpa using h2.symm
   refine ⟨h1, h5, l1, by omega, ?_⟩
   have := h3 0 (by omega) (by rw [ek]; simp)
   simpa [ek] using this
 · rintro ⟨h1, h5, l1, h0, h3⟩
   have hl : n.toNat < nd.br.length := by omega
   have ek : (nd.br[n.toNat]?).toList = [nd.br.getD n.toNat 0] := by rw [List.getElem?_eq_getElem hl, List.getD_eq_getElem?_getD, List.getElem?_eq_getElem hl]; rfl
   refine ⟨h1, by omega, (fun _ => h5), (fun h => by omega), by rw [ek, l1]; rfl, fun i h g => ?_⟩
   obtain rfl : i = 0 := by omega
   simpa [ek] using h3
end
end Go.Proofs.YthfoomobicbcpaaGreatDoor
namespace Go.Proofs.YthfoomobicbcpaaGreatDoor
open Go.ChangeShapes Go.WideShapes Go.ChangeAt Go.RowKit Mem
def place7 (ks : List ByteArray) (k : ByteArray) : Option Nat := ks.findIdx? fun x => decide (x = k)
theorem place7_at {ks : List ByteArray} {k : ByteArray} {i : Nat} (hi : i < ks.length) (h : ks[i]'hi = k) (hn : ∀ m (g : m < ks.length), m < i → ks[m]'g ≠ k) : place7 ks k = some i := by
 unfold place7
 rw [List.findIdx?_eq_some_iff_getElem]
 exact ⟨hi, by simpa using h, fun j hj => by simpa using hn j (by omega) hj⟩
theorem place7_no {ks : List ByteArray} {k : ByteArray} (hn : ∀ m (g : m < ks.length), ks[m]'g ≠ k) : place7 ks k = none := by
 unfold place7
 rw [List.findIdx?_eq_none_iff]
 intro x hx
 obtain ⟨m, hm, rfl⟩ := List.getElem_of_mem hx
 simpa using hn m hm
theorem place7_lt {ks : List ByteArray} {k : ByteArray} {i : Nat} (h : place7 ks k = some i) : i < ks.length := by
 unfold place7 at h
 rw [List.findIdx?_eq_some_iff_getElem] at h
 exact h.1
theorem place7_any {ks : List ByteArray} {k : ByteArray} : (ks.any fun x => decide (x = k)) = (place7 ks k).isSome := by
 unfold place7
 simp [List.findIdx?_isSome]
def num7 (o : Option Nat) : Int := match o with | none => -1 | some i => (i : Int)
def Idx (ks : List ByteArray) (k : ByteArray) (w : World) (e : Ending) (w' : World) : Prop := e = .returned (.int .i64 (num7 (place7 ks k))) ∧ w' = w
theorem idx_ret {ks : List ByteArray} {k : ByteArray} {o : Option Nat} {w w' : World} {z : Int} (h : place7 ks k = o) (hz : z = num7 o) (hw : w' = w) : Idx ks k w (.returned (.int .i64 z)) w' := by
 subst hz; subst h; exact ⟨rfl, hw⟩
theorem index_any (S : Nat → Prop) (A : Option Addr) (c : Nat) (ks : List ByteArray) (k : ByteArray) (w : World) (h : FlS w S A (ks.map Value.string)) (hl : ks.length ≤ maxLen) :
 Calls Tryz.prog 152 #[.slice A ks.length c, .string k] w (Idx ks k w) := by
 have F := Lib.hid h
 obtain ⟨nk, hnk⟩ : ∃ m, m = ks.length := ⟨_, rfl⟩
 have HNK := Lib.hid hnk
 rw [← hnk] at hl ⊢
 have hb : nk ≤ 9223372036854775807 := by unfold maxLen at hl; exact hl
 clear hnk h hl
 go_enter Tryz.func152, Tryz.ntmps152
 go_wp2_with fail
 go_loopw [8] (fun t wq => ∃ j : Nat, j ≤ nk ∧ t = .int .i64 (j : Int) ∧ Hid (∀ m (h : m < ks.length), m < j → ks[m]'h ≠ k) ∧ wq = w) (fun t _ => nk - (intOf t).toNat)
 case atStart => exact ⟨0, Nat.zero_le _, rfl, fun _ _ h => absurd h (Nat.not_lt_zero _), rfl⟩
 case round =>
  obtain ⟨m, hm, rfl, NE, rfl⟩ := hrel
  by_cases hmk : m < nk
  · have h1 : m < ks.length := by rw [← HNK.out]; exact hmk
    obtain ⟨b8, o8, e8, hb8, z0⟩ := fl_str F.out h1
    have ne := NE.out
    by_cases hx : ks[m]'h1 = k
    · have Z := Lib.hid (place7_at h1 hx (fun q g hq => ne q g hq))
      rw [hx] at z0
      have sx : (k.toList == k.toList) = true := by simp
      subst e8
      clear ne hx h1
      go_wp2_with fail
      go_ret
      exact idx_ret Z.out rfl rfl
    · have NE2 : Hid (∀ q (h : q < ks.length), q < m + 1 → ks[q]'h ≠ k) := fun q h hq => by
       rcases Nat.lt_or_ge q m with g | g
       · exact ne q h g
       · obtain rfl : q = m := by omega
         exact hx
      have sx : (k.toList == (ks[m]'h1).toList) = false := by rw [str_beq]; simpa using fun e => hx e.symm
      generalize ks[m]'h1 = Y at *
      subst e8
      clear ne hx h1
      go_wp2_with fail
      go_roundw
      case rel => exact ⟨m + 1, by omega, by go_num, NE2, by first | rfl | trivial⟩
      case measure => simp [intOf]; omega
  · obtain rfl : m = nk := by omega
    have Z := Lib.hid (place7_no (ks := ks) (k := k) (fun q g => NE.out q g (by rw [HNK.out]; exact g)))
    clear NE hmk
    go_wp2_with fail
    go_ret
    exact idx_ret Z.out rfl rfl
theorem contains_any (S : Nat → Prop) (A : Option Addr) (c : Nat) (ks : List ByteArray) (k : ByteArray) (w : World) (h : FlS w S A (ks.map Value.string)) (hl : ks.length ≤ maxLen) :
 Calls Tryz.prog 164 #[.slice A ks.length c, .string k] w (fun e w' => e = .returned (.bool (place7 ks k).isSome) ∧ w' = w) := by
 have IX := Lib.hid (index_any S A c ks k w h hl)
 obtain ⟨o, ho⟩ : ∃ o, o = place7 ks k := ⟨_, rfl⟩
 obtain ⟨nk, hnk⟩ : ∃ m, m = ks.length := ⟨_, rfl⟩
 have ix := IX.out
 unfold Idx at ix
 rw [← ho, ← hnk] at ix
 rw [← ho, ← hnk]
 have IX2 := Lib.hid ix
 clear ix IX ho hnk h hl
 cases o with
 | none =>
  go_enter Tryz.func164, Tryz.ntmps164
  go_wp2_with fail
  with_reducible refine IX2.out.mono ?_
  rintro e w1 ⟨rfl, rfl⟩
  have q2 : ¬ (0 : Int) ≤ num7 none := by decide
  go_wp2_with fail
  go_ret
  exact ⟨by simp [num7], rfl⟩
 | some i =>
  go_enter Tryz.func164, Tryz.ntmps164
  go_wp2_with fail
  with_reducible refine IX2.out.mono ?_
  rintro e w1 ⟨rfl, rfl⟩
  have q2 : (0 : Int) ≤ num7 (some i) := by show (0 : Int) ≤ (i : Int); omega
  go_wp2_with fail
  go_ret
  exact ⟨by simp, rfl⟩
def eqs (a b : List ByteArray) : Bool := decide (a = b)
theorem Drewn7.next {w a : World} (h : Drewn7 w a) (n : Nat) : Drewn7 w (a.drewN n) := by obtain ⟨k, rfl⟩ := h; exact ⟨k + n, by simp⟩
def Eqd (r : Bool) (w : World) (e : Ending) (w' : World) : Prop := e = .returned (.bool r) ∧ Drewn7 w w'
theorem eqd_ret {r c : Bool} {w w' : World} (h : r = c) (hw : Drewn7 w w') : Eqd r w (.returned (.bool c)) w' := by subst h; exact ⟨rfl, hw⟩
theorem equal_any (S : Nat → Prop) (A D : Option Addr) (c d : Nat) (ks ls : List ByteArray) (w : World) (h : FlS w S A (ks.map Value.string)) (h' : FlS w S D (ls.map Value.string)) (hl : ks.length ≤ maxLen) (_hl' : ls.length ≤ maxLen) :
 Calls Tryz.prog 44 #[.slice A ks.length c, .slice D ls.length d] w (Eqd (eqs ks ls) w) := by
 have F := Lib.hid h
 have G := Lib.hid h'
 obtain ⟨R, hR⟩ : ∃ R, R = eqs ks ls := ⟨_, rfl⟩
 rw [← hR]
 unfold eqs at hR
 by_cases hlen : ks.length = ls.length
 · obtain ⟨nk, hnk⟩ : ∃ m, m = ks.length := ⟨_, rfl⟩
   have HNK := Lib.hid hnk
   have HNL : Hid (nk = ls.length) := hnk.trans hlen
   rw [← HNL.out, ← hnk]
   have hb : nk ≤ 9223372036854775807 := by unfold maxLen at hl; omega
   have YES : Hid (ks = ls → R = true) := fun e => by rw [hR]; simpa using e
   have NO : Hid (ks ≠ ls → R = false) := fun e => by rw [hR]; simpa using e
   clear hnk h h' hl hlen hR
   go_enter Tryz.func44, Tryz.ntmps44
   go_wp2_with fail
   go_loopw [13] (fun t wq => ∃ j : Nat, j ≤ nk ∧ t = .int .i64 (j : Int) ∧ Hid (∀ m (h : m < ks.length) (g : m < ls.length), m < j → ks[m]'h = ls[m]'g) ∧ Drewn7 w wq) (fun t _ => nk - (intOf t).toNat)
   case atStart => exact ⟨0, Nat.zero_le _, rfl, fun _ _ _ h => absurd h (Nat.not_lt_zero _), ⟨0, rfl⟩⟩
   case round =>
    obtain ⟨m, hm, rfl, NE, ⟨nd, rfl⟩⟩ := hrel
    by_cases hmk : m < nk
    · have h1 : m < ks.length := by rw [← HNK.out]; exact hmk
      have h2 : m < ls.length := by rw [← HNL.out]; exact hmk
      obtain ⟨b8, o8, e8, hb8, z0⟩ := fl_str F.out h1
      obtain ⟨b9, o9, e9, hb9, z1⟩ := fl_str G.out h2
      have ne := NE.out
      by_cases hx : ks[m]'h1 = ls[m]'h2
      · have NE2 : Hid (∀ q (h : q < ks.length) (g : q < ls.length), q < m + 1 → ks[q]'h = ls[q]'g) := fun q h g hq => by
         rcases Nat.lt_or_ge q m with k | k
         · exact ne q h g k
         · obtain rfl : q = m := by omega
           exact hx
        rw [← hx] at z1
        generalize ks[m]'h1 = Y at *
        have sx : (Y.toList != Y.toList) = false := by rw [str_bne]; simp
        subst e8 e9
        clear ne hx h1 h2
        go_wp2_with fail
        go_quiet (fail)
        go_wp2_with fail
        go_roundw
        case rel => exact ⟨m + 1, by omega, by go_num, NE2, ⟨_, rfl⟩⟩
        case measure => simp [intOf]; omega
      · have Z := Lib.hid (NO.out (fun e => hx (by subst e; rfl)))
        have sx : ((ks[m]'h1).toList != (ls[m]'h2).toList) = true := by rw [str_bne]; simpa using hx
        have sx2 : ((ks[m]'h1).toList == (ls[m]'h2).toList) = false := by rw [str_beq]; simpa using hx
        generalize ks[m]'h1 = Y at *
        generalize ls[m]'h2 = X at *
        subst e8 e9
        clear ne hx h1 h2
        go_wp2_with fail
        go_quiet (fail)
        go_wp2_with fail
        go_ret
        exact eqd_ret Z.out (Drewn7.next ⟨_, rfl⟩ _)
    · obtain rfl : m = nk := by omega
      have Z := Lib.hid (YES.out (List.ext_getElem (by rw [← HNK.out, HNL.out]) fun j g1 g2 => NE.out j g1 g2 (by rw [HNK.out]; exact g1)))
      clear NE hmk
      go_wp2_with fail
      go_ret
      exact eqd_ret Z.out ⟨_, rfl⟩
 · have Z : Hid (R = false) := by show _ = _; rw [hR]; simp only [decide_eq_false_iff_not]; intro e; exact hlen (by rw [e])
   have q : ((ks.length : Int) != (ls.length : Int)) = true := by rw [bne_iff_ne]; omega
   clear hlen hR h h'
   go_enter Tryz.func44, Tryz.ntmps44
   go_wp2_with fail
   go_ret
   exact eqd_ret Z.out ⟨0, rfl⟩
end Go.Proofs.YthfoomobicbcpaaGreatDoor
namespace Go.Proofs.YthfoomobicbcpaaGreatDoor
def J.get (j : J) (k : ByteArray) : Option J := if j.k = 6 then (place7 j.ks k).bind fun i => j.its[i]? else none
def gotten (o : Option J) : J := o.getD J.zero
theorem J.get_in {j x : J} {k : ByteArray} (h : j.get k = some x) : j.k = 6 ∧ x ∈ j.its := by
 unfold J.get at h
 by_cases hk : j.k = 6
 · rw [if_pos hk, Option.bind_eq_some_iff] at h
   obtain ⟨i, _, h⟩ := h
   exact ⟨hk, List.mem_of_getElem? h⟩
 · rw [if_neg hk] at h; cases h
end Go.Proofs.YthfoomobicbcpaaGreatDoor
namespace Go.Proofs.YthfoomobicbcpaaGreatDoor
open Go.ChangeShapes Go.WideShapes Go.ChangeAt Go.RowKit Mem
def Bul (t : J) (D : Nat) (w : World) (e : Ending) (w' : World) : Prop := ∃ n : Nat, e = .returned (.int .i64 (n : Int)) ∧ n ≤ 4001 + 2000 * (61 - D) ∧ (n ≤ 2000 → t.deep + D ≤ 61 ∧ t.wt = n) ∧ Below w.heap.size w w'
theorem bul_ret {t : J} {D n : Nat} {z : Int} {w w' : World} (hz : z = (n : Int)) (h : n ≤ 4001 + 2000 * (61 - D)) (hd : n ≤ 2000 → t.deep + D ≤ 61 ∧ t.wt = n) (hb : Below w.heap.size w w') : Bul t D w (.returned (.int .i64 z)) w' := by subst hz; exact ⟨n, rfl, h, hd, hb⟩
theorem bulk_at : ∀ (N : Nat) (t : J), SizeOf.sizeOf t ≤ N → ∀ (D : Nat) (w : World) (A3 A4 : Option Addr) (c3 c4 : Nat), D ≤ 61 →
 TreeC w w.heap.size t [.int .i64 t.k, .int .i64 t.n, .string t.t, .slice A3 t.its.length c3, .slice A4 t.ks.length c4] →
 Calls Tryz.prog 24 #[.agg #[.int .i64 t.k, .int .i64 t.n, .string t.t, .slice A3 t.its.length c3, .slice A4 t.ks.length c4], .int .i64 2000, .int .i64 (D : Int)] w (Bul t D w)
 | 0, t, h => by cases t; simp at h
 | N + 1, .mk k n s its ks, hN => by
  intro D w A3 A4 c3 c4 hD ht
  have CS := cell_set
  obtain ⟨_, _, _, _, e, hc3, hc4, rt, ft⟩ := ht.out
  simp only [J.k, J.n, J.t, J.its, J.ks, List.cons.injEq, Value.slice.injEq, true_and, and_true] at e hc3 hc4 rt ft
  obtain ⟨⟨rfl, rfl⟩, rfl, rfl⟩ := e
  have db : ∀ M, 1 ≤ M → (∀ i (g : i < its.length), (its[i]'g).deep + 1 ≤ M) → (J.mk k n s its ks).deep ≤ M := fun M hM h => J.deep_bound (j := .mk k n s its ks) hM h
  have wt : (J.mk k n s its ks).wt = 1 + s.size + kwt ks + J.wts its := by unfold J.wt; rfl
  have KT := Lib.hid (fun i (h : i < ks.length) => kwt_take h)
  have WT := Lib.hid (fun i (h : i < its.length) => J.wts_take h)
  have KA : Hid (kwt (ks.take ks.length) = kwt ks) := by show _ = _; rw [List.take_length]
  have WA : Hid (J.wts (its.take its.length) = J.wts its) := by show _ = _; rw [List.take_length]
  obtain ⟨KW, hKW⟩ : ∃ f : Nat → Nat, f = fun i => kwt (ks.take i) := ⟨_, rfl⟩
  obtain ⟨JW, hJW⟩ : ∃ f : Nat → Nat, f = fun i => J.wts (its.take i) := ⟨_, rfl⟩
  have KT' : Hid (∀ i (h : i < ks.length), KW (i + 1) = KW i + 1 + (ks[i]'h).size) := fun i h => by rw [hKW]; exact KT.out i h
  have WT' : Hid (∀ i (h : i < its.length), JW (i + 1) = JW i + (its[i]'h).wt) := fun i h => by rw [hJW]; exact WT.out i h
  have K0 : Hid (KW 0 = 0) := by show _ = _; rw [hKW]; rfl
  have J0 : Hid (JW 0 = 0) := by show _ = _; rw [hJW]; rfl
  have KA' : Hid (KW ks.length = kwt ks) := by show _ = _; rw [hKW]; exact KA.out
  have WA' : Hid (JW its.length = J.wts its) := by show _ = _; rw [hJW]; exact WA.out
  clear KT WT KA WA hKW hJW
  obtain ⟨T, hT⟩ : ∃ T, T = J.mk k n s its ks := ⟨_, rfl⟩
  rw [← hT] at wt
  have WT0 := Lib.hid wt
  clear wt
  simp only [J.k, J.n, J.t, J.its, J.ks]
  rw [← hT] at db ⊢
  have IH : Hid (∀ (i : Nat) (h1 : i < its.length) (W : World) (A3 A4 : Option Addr) (c3 c4 : Nat), D + 1 ≤ 61 →
   TreeC W W.heap.size (its[i]'h1) [.int .i64 (its[i]'h1).k, .int .i64 (its[i]'h1).n, .string (its[i]'h1).t, .slice A3 (its[i]'h1).its.length c3, .slice A4 (its[i]'h1).ks.length c4] →
   Calls Tryz.prog 24 #[.agg #[.int .i64 (its[i]'h1).k, .int .i64 (its[i]'h1).n, .string (its[i]'h1).t, .slice A3 (its[i]'h1).its.length c3, .slice A4 (its[i]'h1).ks.length c4], .int .i64 2000, .int .i64 ((D : Int) + 1)] W (Bul (its[i]'h1) (D + 1) W)) := fun i h1 W A3 A4 c3 c4 hd a =>
   bulk_at N (its[i]'h1) (by have := J.lt_its (j := .mk k n s its ks) (i := i) h1; simp only [J.its] at this; omega) (D + 1) W A3 A4 c3 c4 hd a
  have RT := Lib.hid rt; have FT := Lib.hid ft; have DB := Lib.hid db
  have hb4 := hc4.2
  have hb3 := hc3.2
  unfold maxLen at hb4 hb3
  obtain ⟨ni, hni⟩ : ∃ m, m = its.length := ⟨_, rfl⟩
  obtain ⟨nk, hnk⟩ : ∃ m, m = ks.length := ⟨_, rfl⟩
  have HNI := Lib.hid hni; have HNK := Lib.hid hnk
  rw [← hni] at hb3 ⊢
  rw [← hnk] at hb4 ⊢
  clear ht rt ft hN db hc3 hc4 hni hnk hT
  rw [← HNI.out] at WA'
  rw [← HNK.out] at KA'
  by_cases g1 : (60 : Int) < (D : Int)
  · go_enter Tryz.func24, Tryz.ntmps24
    go_wp2_with fail
    go_ret
    exact bul_ret (n := 2001) (by rfl) (by omega) (fun h => by omega) bqq
  · by_cases g2 : (2000 : Int) < (s.size : Int)
    · go_enter Tryz.func24, Tryz.ntmps24
      go_wp2_with fail
      go_ret
      exact bul_ret (n := 2001) (by rfl) (by omega) (fun h => by omega) bqq
    · by_cases g3 : (2000 : Int) < (nk : Int)
      · go_enter Tryz.func24, Tryz.ntmps24
        go_wp2_with fail
        go_ret
        exact bul_ret (n := 2001) (by rfl) (by omega) (fun h => by omega) bqq
      · by_cases g4 : (2000 : Int) < (ni : Int)
        · go_enter Tryz.func24, Tryz.ntmps24
          go_wp2_with fail
          go_ret
          exact bul_ret (n := 2001) (by rfl) (by omega) (fun h => by omega) bqq
        · have hD2 : D ≤ 60 := by omega
          have G0 : Below w.heap.size w (w.alloc (.cells #[.int .i64 k, .int .i64 n, .string s, .slice A3 ni c3, .slice A4 nk c4] 25)) := (Below.refl _ _).alloc (Nat.le_refl _) _
          have gz0 : (w.alloc (.cells #[.int .i64 k, .int .i64 n, .string s, .slice A3 ni c3, .slice A4 nk c4] 25)).heap.size = w.heap.size + 1 := by simp
          have GZ0 := Lib.hid gz0
          clear gz0
          go_enter Tryz.func24, Tryz.ntmps24
          go_wp2_with fail
          go_loopw [7, 8] (fun m t wr => ∃ i v : Nat, i ≤ nk ∧ v ≤ 4001 ∧ Hid (v = 1 + s.size + KW i) ∧ t = .int .i64 (i : Int) ∧ m = .int .i64 (v : Int) ∧ wr = (w.alloc (.cells #[.int .i64 k, .int .i64 n, .string s, .slice A3 ni c3, .slice A4 nk c4] 25))) (fun _ t _ => nk - (intOf t).toNat)
          case atStart => exact ⟨0, 1 + s.size, Nat.zero_le _, by omega, (by show _ = _; rw [K0.out, Nat.add_zero]), rfl, by push_cast; rfl, by first | rfl | trivial⟩
          case round =>
           obtain ⟨i, v, hik, hv, HVV, rfl, rfl, rfl⟩ := hrel
           by_cases h1 : i < nk ∧ v ≤ 2000
           · obtain ⟨h1, h2⟩ := h1
             have h1' : i < ks.length := by rw [← HNK.out]; exact h1
             obtain ⟨b8, o8, e8, hb8, z0⟩ := fl_str FT.out h1'
             have q2 : (v : Int) ≤ 2000 := by omega
             have HV2 : Hid (v + 1 + (ks[i]'h1').size = 1 + s.size + KW (i + 1)) := by
              show _ = _
              have := HVV.out; have := KT'.out i h1'; omega
             clear HVV
             generalize ks[i]'h1' = Y at *
             subst e8
             have lb8 : b8 < w.heap.size := hb8
             by_cases hy : (2000 : Int) < (Y.size : Int)
             · go_wp2_with fail
               go_ret
               exact bul_ret (n := 2001) (by rfl) (by omega) (fun h => by omega) bqq
             · go_wp2_with fail
               go_roundw
               case rel => exact ⟨i + 1, v + 1 + Y.size, by omega, by omega, HV2, by go_num, by push_cast; rfl, by first | rfl | trivial⟩
               case measure => simp [intOf]; omega
           · have h2 : ¬ (i : Int) < (nk : Int) ∨ (i : Int) < (nk : Int) ∧ ¬ (v : Int) ≤ 2000 := by omega
             have HV3 : Hid (v ≤ 2000 → v = 1 + s.size + kwt ks) := fun hv2 => by
              have e : i = nk := by omega
              have := HVV.out; have := KA'.out
              rw [e] at *; omega
             clear h1 HVV
             rcases h2 with h2 | ⟨h2, h3⟩
             all_goals
              go_wp2_with fail
              go_loopw [7, 9] (fun m t wr => ∃ p u : Nat, p ≤ ni ∧ u ≤ 4001 + 2000 * (61 - D) ∧ t = .int .i64 (p : Int) ∧ m = .int .i64 (u : Int) ∧ Hid (∀ j (h : j < its.length), j < p → u ≤ 2000 → (its[j]'h).deep + D + 1 ≤ 61) ∧ Hid (u ≤ 2000 → u = 1 + s.size + kwt ks + JW p) ∧ Below (w.heap.size + 1) (w.alloc (.cells #[.int .i64 k, .int .i64 n, .string s, .slice A3 ni c3, .slice A4 nk c4] 25)) wr) (fun _ t _ => ni - (intOf t).toNat)
              case atStart => exact ⟨0, v, Nat.zero_le _, by omega, rfl, rfl, fun _ _ h => absurd h (Nat.not_lt_zero _), (fun h => by have := HV3.out h; have := J0.out; omega), Below.refl _ _⟩
              case round =>
               obtain ⟨p, u, hp, hu, rfl, rfl, HE, HU, bl⟩ := hrel
               have gsz := bl.size
               rw [GZ0.out] at gsz
               have gsz2 : w.heap.size ≤ wr.heap.size := by omega
               have blw := G0.trans (bl.mono (by omega))
               have hOwn := Nat.lt_of_lt_of_le (n := w.heap.size) sdd (Below.size bl)
               have hOwn1 := Nat.ne_of_gt hOwn
               have hOwn2 := Nat.ne_of_lt hOwn
               have hOwn := ocl bl w.heap.size 0
               have hOwn := ocl bl w.heap.size 1
               have hOwn := ocl bl w.heap.size 2
               have hOwn := ocl bl w.heap.size 3
               have hOwn := ocl bl w.heap.size 4
               have hOwn := ofr bl w.heap.size 0
               have hOwn := ofr bl w.heap.size 1
               have hOwn := ofr bl w.heap.size 2
               have hOwn := ofr bl w.heap.size 3
               have hOwn := ofr bl w.heap.size 4
               by_cases h4 : p < ni ∧ u ≤ 2000
               · obtain ⟨h4, h5⟩ := h4
                 have h1' : p < its.length := by rw [← HNI.out]; exact h4
                 obtain ⟨b1, o1, X3, x3, X4, x4, e1, hb1, y0, y1, y2, y3, y4, ty⟩ := (RT.out.below blw).cells h1'
                 have I2 := Lib.hid (fun W a => IH.out p h1' W X3 X4 x3 x4 (by omega) a)
                 have he := HE.out
                 have q5 : (u : Int) ≤ 2000 := by omega
                 have HE2 : Hid (∀ n', (n' ≤ 2000 → (its[p]'h1').deep + (D + 1) ≤ 61) → ∀ j (h : j < its.length), j < p + 1 → u + n' ≤ 2000 → (its[j]'h).deep + D + 1 ≤ 61) := fun n' hn j h hj hs => by
                  rcases Nat.lt_or_ge j p with g | g
                  · exact he j h g (by omega)
                  · obtain rfl : j = p := by omega
                    have := hn (by omega); omega
                 have HU2 : Hid (∀ n', (n' ≤ 2000 → (its[p]'h1').wt = n') → u + n' ≤ 2000 → u + n' = 1 + s.size + kwt ks + JW (p + 1)) := fun n' hn hs => by
                  have := HU.out h5; have := WT'.out p h1'; have := hn (by omega); omega
                 clear HU
                 generalize its[p]'h1' = T' at *
                 subst e1
                 have TY := Lib.hid (ty.more gsz2)
                 clear ty h1' he
                 go_wp2_with fail
                 with_reducible refine (I2.out _ TY.out).mono ?_
                 rintro e w3 ⟨n', rfl, hn1, hn2, b3⟩
                 have HN2 := Lib.hid (HE2.out n' (fun h => (hn2 h).1))
                 have HN3 := Lib.hid (HU2.out n' (fun h => (hn2 h).2))
                 clear hn2
                 go_wp2_with fail
                 go_roundw
                 case rel => exact ⟨p + 1, u + n', by omega, by omega, by go_num, by push_cast; rfl, HN2, HN3, bl.trans (b3.mono gsz)⟩
                 case measure => simp [intOf]; omega
               · have h5 : ¬ (p : Int) < (ni : Int) ∨ (p : Int) < (ni : Int) ∧ ¬ (u : Int) ≤ 2000 := by omega
                 have fin : u ≤ 2000 → T.deep + D ≤ 61 ∧ T.wt = u := fun hu2 => by
                  have e := HU.out hu2
                  have wt := WT0.out
                  have pe : p = ni := by omega
                  have wa := WA'.out
                  rw [pe] at e
                  refine ⟨?_, by omega⟩
                  have := DB.out (61 - D) (by omega) (fun i g => by have := HE.out i g (by rw [← HNI.out] at g; omega) hu2; omega)
                  omega
                 have FIN := Lib.hid fin
                 clear fin h4 HE HU
                 rcases h5 with h5 | ⟨h5, h6⟩
                 all_goals
                  go_wp2_with fail
                  go_ret
                  exact bul_ret (n := u) (by rfl) hu FIN.out bqq
theorem bulk_any (t : J) (D : Nat) (w : World) (A3 A4 : Option Addr) (c3 c4 : Nat) (hD : D ≤ 61) (ht : TreeC w w.heap.size t [.int .i64 t.k, .int .i64 t.n, .string t.t, .slice A3 t.its.length c3, .slice A4 t.ks.length c4]) :
 Calls Tryz.prog 24 #[.agg #[.int .i64 t.k, .int .i64 t.n, .string t.t, .slice A3 t.its.length c3, .slice A4 t.ks.length c4], .int .i64 2000, .int .i64 (D : Int)] w (Bul t D w) := bulk_at _ t (Nat.le_refl _) D w A3 A4 c3 c4 hD ht
end Go.Proofs.YthfoomobicbcpaaGreatDoor
namespace Go.Proofs.YthfoomobicbcpaaGreatDoor
open Go.ChangeShapes Go.WideShapes Go.ChangeAt Go.RowKit Mem
theorem great_any (t : J) (w : World) (A3 A4 : Option Addr) (c3 c4 : Nat) (ht : TreeC w w.heap.size t [.int .i64 t.k, .int .i64 t.n, .string t.t, .slice A3 t.its.length c3, .slice A4 t.ks.length c4]) :
 Calls Tryz.prog 7 #[.agg #[.int .i64 t.k, .int .i64 t.n, .string t.t, .slice A3 t.its.length c3, .slice A4 t.ks.length c4]] w (fun e w' => ∃ b : Bool, e = .returned (.bool b) ∧ (b = false → t.deep ≤ 61 ∧ t.wt ≤ 2000) ∧ Below w.heap.size w w') := by
 have CS := cell_set
 have W1 : Below w.heap.size w (w.alloc (.cells #[.int .i64 t.k, .int .i64 t.n, .string t.t, .slice A3 t.its.length c3, .slice A4 t.ks.length c4] 25)) := bqq
 have b0 := bulk_any t 0 _ A3 A4 c3 c4 (by omega) ((ht.below W1).more W1.size)
 rw [show ((0 : Nat) : Int) = 0 from rfl] at b0
 have B0 := Lib.hid b0
 clear b0
 go_enter Tryz.func7, Tryz.ntmps7
 go_wp2_with fail
 with_reducible refine B0.out.mono ?_
 rintro e w3 ⟨n, rfl, hn, hd, b3⟩
 have bw : Below w.heap.size w w3 := bqq
 have HD := Lib.hid hd
 clear hd
 by_cases h : (2000 : Int) < (n : Int)
 · go_wp2_with fail
   go_ret
   exact ⟨true, rfl, (fun h => by cases h), bw⟩
 · go_wp2_with fail
   go_ret
   have q : decide ((2000 : Int) < (n : Int)) = false := by simpa using h
   exact ⟨false, by first | rfl | exact congrArg (fun b => Ending.returned (.bool b)) q, (fun _ => by have := HD.out (by omega); omega), bw⟩
def Bul25 (t : J) (D : Nat) (w : World) (e : Ending) (w' : World) : Prop := ∃ n : Nat, e = .returned (.int .i64 (n : Int)) ∧ n ≤ 5001 + 2500 * (61 - D) ∧ (n ≤ 2500 → t.deep + D ≤ 61 ∧ t.wt = n) ∧ Below w.heap.size w w'
theorem bul25_ret {t : J} {D n : Nat} {z : Int} {w w' : World} (hz : z = (n : Int)) (h : n ≤ 5001 + 2500 * (61 - D)) (hd : n ≤ 2500 → t.deep + D ≤ 61 ∧ t.wt = n) (hb : Below w.heap.size w w') : Bul25 t D w (.returned (.int .i64 z)) w' := by subst hz; exact ⟨n, rfl, h, hd, hb⟩
theorem bulk25_at : ∀ (N : Nat) (t : J), SizeOf.sizeOf t ≤ N → ∀ (D : Nat) (w : World) (A3 A4 : Option Addr) (c3 c4 : Nat), D ≤ 61 →
 TreeC w w.heap.size t [.int .i64 t.k, .int .i64 t.n, .string t.t, .slice A3 t.its.length c3, .slice A4 t.ks.length c4] →
 Calls Tryz.prog 24 #[.agg #[.int .i64 t.k, .int .i64 t.n, .string t.t, .slice A3 t.its.length c3, .slice A4 t.ks.length c4], .int .i64 2500, .int .i64 (D : Int)] w (Bul25 t D w)
 | 0, t, h => by cases t; simp at h
 | N + 1, .mk k n s its ks, hN => by
  intro D w A3 A4 c3 c4 hD ht
  have CS := cell_set
  obtain ⟨_, _, _, _, e, hc3, hc4, rt, ft⟩ := ht.out
  simp only [J.k, J.n, J.t, J.its, J.ks, List.cons.injEq, Value.slice.injEq, true_and, and_true] at e hc3 hc4 rt ft
  obtain ⟨⟨rfl, rfl⟩, rfl, rfl⟩ := e
  have db : ∀ M, 1 ≤ M → (∀ i (g : i < its.length), (its[i]'g).deep + 1 ≤ M) → (J.mk k n s its ks).deep ≤ M := fun M hM h => J.deep_bound (j := .mk k n s its ks) hM h
  have wt : (J.mk k n s its ks).wt = 1 + s.size + kwt ks + J.wts its := by unfold J.wt; rfl
  have KT := Lib.hid (fun i (h : i < ks.length) => kwt_take h)
  have WT := Lib.hid (fun i (h : i < its.length) => J.wts_take h)
  have KA : Hid (kwt (ks.take ks.length) = kwt ks) := by show _ = _; rw [List.take_length]
  have WA : Hid (J.wts (its.take its.length) = J.wts its) := by show _ = _; rw [List.take_length]
  obtain ⟨KW, hKW⟩ : ∃ f : Nat → Nat, f = fun i => kwt (ks.take i) := ⟨_, rfl⟩
  obtain ⟨JW, hJW⟩ : ∃ f : Nat → Nat, f = fun i => J.wts (its.take i) := ⟨_, rfl⟩
  have KT' : Hid (∀ i (h : i < ks.length), KW (i + 1) = KW i + 1 + (ks[i]'h).size) := fun i h => by rw [hKW]; exact KT.out i h
  have WT' : Hid (∀ i (h : i < its.length), JW (i + 1) = JW i + (its[i]'h).wt) := fun i h => by rw [hJW]; exact WT.out i h
  have K0 : Hid (KW 0 = 0) := by show _ = _; rw [hKW]; rfl
  have J0 : Hid (JW 0 = 0) := by show _ = _; rw [hJW]; rfl
  have KA' : Hid (KW ks.length = kwt ks) := by show _ = _; rw [hKW]; exact KA.out
  have WA' : Hid (JW its.length = J.wts its) := by show _ = _; rw [hJW]; exact WA.out
  clear KT WT KA WA hKW hJW
  obtain ⟨T, hT⟩ : ∃ T, T = J.mk k n s its ks := ⟨_, rfl⟩
  rw [← hT] at wt
  have WT0 := Lib.hid wt
  clear wt
  simp only [J.k, J.n, J.t, J.its, J.ks]
  rw [← hT] at db ⊢
  have IH : Hid (∀ (i : Nat) (h1 : i < its.length) (W : World) (A3 A4 : Option Addr) (c3 c4 : Nat), D + 1 ≤ 61 →
   TreeC W W.heap.size (its[i]'h1) [.int .i64 (its[i]'h1).k, .int .i64 (its[i]'h1).n, .string (its[i]'h1).t, .slice A3 (its[i]'h1).its.length c3, .slice A4 (its[i]'h1).ks.length c4] →
   Calls Tryz.prog 24 #[.agg #[.int .i64 (its[i]'h1).k, .int .i64 (its[i]'h1).n, .string (its[i]'h1).t, .slice A3 (its[i]'h1).its.length c3, .slice A4 (its[i]'h1).ks.length c4], .int .i64 2500, .int .i64 ((D : Int) + 1)] W (Bul25 (its[i]'h1) (D + 1) W)) := fun i h1 W A3 A4 c3 c4 hd a =>
   bulk25_at N (its[i]'h1) (by have := J.lt_its (j := .mk k n s its ks) (i := i) h1; simp only [J.its] at this; omega) (D + 1) W A3 A4 c3 c4 hd a
  have RT := Lib.hid rt; have FT := Lib.hid ft; have DB := Lib.hid db
  have hb4 := hc4.2
  have hb3 := hc3.2
  unfold maxLen at hb4 hb3
  obtain ⟨ni, hni⟩ : ∃ m, m = its.length := ⟨_, rfl⟩
  obtain ⟨nk, hnk⟩ : ∃ m, m = ks.length := ⟨_, rfl⟩
  have HNI := Lib.hid hni; have HNK := Lib.hid hnk
  rw [← hni] at hb3 ⊢
  rw [← hnk] at hb4 ⊢
  clear ht rt ft hN db hc3 hc4 hni hnk hT
  rw [← HNI.out] at WA'
  rw [← HNK.out] at KA'
  by_cases g1 : (60 : Int) < (D : Int)
  · go_enter Tryz.func24, Tryz.ntmps24
    go_wp2_with fail
    go_ret
    exact bul25_ret (n := 2501) (by rfl) (by omega) (fun h => by omega) bqq
  · by_cases g2 : (2500 : Int) < (s.size : Int)
    · go_enter Tryz.func24, Tryz.ntmps24
      go_wp2_with fail
      go_ret
      exact bul25_ret (n := 2501) (by rfl) (by omega) (fun h => by omega) bqq
    · by_cases g3 : (2500 : Int) < (nk : Int)
      · go_enter Tryz.func24, Tryz.ntmps24
        go_wp2_with fail
        go_ret
        exact bul25_ret (n := 2501) (by rfl) (by omega) (fun h => by omega) bqq
      · by_cases g4 : (2500 : Int) < (ni : Int)
        · go_enter Tryz.func24, Tryz.ntmps24
          go_wp2_with fail
          go_ret
          exact bul25_ret (n := 2501) (by rfl) (by omega) (fun h => by omega) bqq
        · have hD2 : D ≤ 60 := by omega
          have G0 : Below w.heap.size w (w.alloc (.cells #[.int .i64 k, .int .i64 n, .string s, .slice A3 ni c3, .slice A4 nk c4] 25)) := (Below.refl _ _).alloc (Nat.le_refl _) _
          have gz0 : (w.alloc (.cells #[.int .i64 k, .int .i64 n, .string s, .slice A3 ni c3, .slice A4 nk c4] 25)).heap.size = w.heap.size + 1 := by simp
          have GZ0 := Lib.hid gz0
          clear gz0
          go_enter Tryz.func24, Tryz.ntmps24
          go_wp2_with fail
          go_loopw [7, 8] (fun m t wr => ∃ i v : Nat, i ≤ nk ∧ v ≤ 5001 ∧ Hid (v = 1 + s.size + KW i) ∧ t = .int .i64 (i : Int) ∧ m = .int .i64 (v : Int) ∧ wr = (w.alloc (.cells #[.int .i64 k, .int .i64 n, .string s, .slice A3 ni c3, .slice A4 nk c4] 25))) (fun _ t _ => nk - (intOf t).toNat)
          case atStart => exact ⟨0, 1 + s.size, Nat.zero_le _, by omega, (by show _ = _; rw [K0.out, Nat.add_zero]), rfl, by push_cast; rfl, by first | rfl | trivial⟩
          case round =>
           obtain ⟨i, v, hik, hv, HVV, rfl, rfl, rfl⟩ := hrel
           by_cases h1 : i < nk ∧ v ≤ 2500
           · obtain ⟨h1, h2⟩ := h1
             have h1' : i < ks.length := by rw [← HNK.out]; exact h1
             obtain ⟨b8, o8, e8, hb8, z0⟩ := fl_str FT.out h1'
             have q2 : (v : Int) ≤ 2500 := by omega
             have HV2 : Hid (v + 1 + (ks[i]'h1').size = 1 + s.size + KW (i + 1)) := by
              show _ = _
              have := HVV.out; have := KT'.out i h1'; omega
             clear HVV
             generalize ks[i]'h1' = Y at *
             subst e8
             have lb8 : b8 < w.heap.size := hb8
             by_cases hy : (2500 : Int) < (Y.size : Int)
             · go_wp2_with fail
               go_ret
               exact bul25_ret (n := 2501) (by rfl) (by omega) (fun h => by omega) bqq
             · go_wp2_with fail
               go_roundw
               case rel => exact ⟨i + 1, v + 1 + Y.size, by omega, by omega, HV2, by go_num, by push_cast; rfl, by first | rfl | trivial⟩
               case measure => simp [intOf]; omega
           · have h2 : ¬ (i : Int) < (nk : Int) ∨ (i : Int) < (nk : Int) ∧ ¬ (v : Int) ≤ 2500 := by omega
             have HV3 : Hid (v ≤ 2500 → v = 1 + s.size + kwt ks) := fun hv2 => by
              have e : i = nk := by omega
              have := HVV.out; have := KA'.out
              rw [e] at *; omega
             clear h1 HVV
             rcases h2 with h2 | ⟨h2, h3⟩
             all_goals
              go_wp2_with fail
              go_loopw [7, 9] (fun m t wr => ∃ p u : Nat, p ≤ ni ∧ u ≤ 5001 + 2500 * (61 - D) ∧ t = .int .i64 (p : Int) ∧ m = .int .i64 (u : Int) ∧ Hid (∀ j (h : j < its.length), j < p → u ≤ 2500 → (its[j]'h).deep + D + 1 ≤ 61) ∧ Hid (u ≤ 2500 → u = 1 + s.size + kwt ks + JW p) ∧ Below (w.heap.size + 1) (w.alloc (.cells #[.int .i64 k, .int .i64 n, .string s, .slice A3 ni c3, .slice A4 nk c4] 25)) wr) (fun _ t _ => ni - (intOf t).toNat)
              case atStart => exact ⟨0, v, Nat.zero_le _, by omega, rfl, rfl, fun _ _ h => absurd h (Nat.not_lt_zero _), (fun h => by have := HV3.out h; have := J0.out; omega), Below.refl _ _⟩
              case round =>
               obtain ⟨p, u, hp, hu, rfl, rfl, HE, HU, bl⟩ := hrel
               have gsz := bl.size
               rw [GZ0.out] at gsz
               have gsz2 : w.heap.size ≤ wr.heap.size := by omega
               have blw := G0.trans (bl.mono (by omega))
               have hOwn := Nat.lt_of_lt_of_le (n := w.heap.size) sdd (Below.size bl)
               have hOwn1 := Nat.ne_of_gt hOwn
               have hOwn2 := Nat.ne_of_lt hOwn
               have hOwn := ocl bl w.heap.size 0
               have hOwn := ocl bl w.heap.size 1
               have hOwn := ocl bl w.heap.size 2
               have hOwn := ocl bl w.heap.size 3
               have hOwn := ocl bl w.heap.size 4
               have hOwn := ofr bl w.heap.size 0
               have hOwn := ofr bl w.heap.size 1
               have hOwn := ofr bl w.heap.size 2
               have hOwn := ofr bl w.heap.size 3
               have hOwn := ofr bl w.heap.size 4
               by_cases h4 : p < ni ∧ u ≤ 2500
               · obtain ⟨h4, h5⟩ := h4
                 have h1' : p < its.length := by rw [← HNI.out]; exact h4
                 obtain ⟨b1, o1, X3, x3, X4, x4, e1, hb1, y0, y1, y2, y3, y4, ty⟩ := (RT.out.below blw).cells h1'
                 have I2 := Lib.hid (fun W a => IH.out p h1' W X3 X4 x3 x4 (by omega) a)
                 have he := HE.out
                 have q5 : (u : Int) ≤ 2500 := by omega
                 have HE2 : Hid (∀ n', (n' ≤ 2500 → (its[p]'h1').deep + (D + 1) ≤ 61) → ∀ j (h : j < its.length), j < p + 1 → u + n' ≤ 2500 → (its[j]'h).deep + D + 1 ≤ 61) := fun n' hn j h hj hs => by
                  rcases Nat.lt_or_ge j p with g | g
                  · exact he j h g (by omega)
                  · obtain rfl : j = p := by omega
                    have := hn (by omega); omega
                 have HU2 : Hid (∀ n', (n' ≤ 2500 → (its[p]'h1').wt = n') → u + n' ≤ 2500 → u + n' = 1 + s.size + kwt ks + JW (p + 1)) := fun n' hn hs => by
                  have := HU.out h5; have := WT'.out p h1'; have := hn (by omega); omega
                 clear HU
                 generalize its[p]'h1' = T' at *
                 subst e1
                 have TY := Lib.hid (ty.more gsz2)
                 clear ty h1' he
                 go_wp2_with fail
                 with_reducible refine (I2.out _ TY.out).mono ?_
                 rintro e w3 ⟨n', rfl, hn1, hn2, b3⟩
                 have HN2 := Lib.hid (HE2.out n' (fun h => (hn2 h).1))
                 have HN3 := Lib.hid (HU2.out n' (fun h => (hn2 h).2))
                 clear hn2
                 go_wp2_with fail
                 go_roundw
                 case rel => exact ⟨p + 1, u + n', by omega, by omega, by go_num, by push_cast; rfl, HN2, HN3, bl.trans (b3.mono gsz)⟩
                 case measure => simp [intOf]; omega
               · have h5 : ¬ (p : Int) < (ni : Int) ∨ (p : Int) < (ni : Int) ∧ ¬ (u : Int) ≤ 2500 := by omega
                 have fin : u ≤ 2500 → T.deep + D ≤ 61 ∧ T.wt = u := fun hu2 => by
                  have e := HU.out hu2
                  have wt := WT0.out
                  have pe : p = ni := by omega
                  have wa := WA'.out
                  rw [pe] at e
                  refine ⟨?_, by omega⟩
                  have := DB.out (61 - D) (by omega) (fun i g => by have := HE.out i g (by rw [← HNI.out] at g; omega) hu2; omega)
                  omega
                 have FIN := Lib.hid fin
                 clear fin h4 HE HU
                 rcases h5 with h5 | ⟨h5, h6⟩
                 all_goals
                  go_wp2_with fail
                  go_ret
                  exact bul25_ret (n := u) (by rfl) hu FIN.out bqq
theorem bulk25_any (t : J) (D : Nat) (w : World) (A3 A4 : Option Addr) (c3 c4 : Nat) (hD : D ≤ 61) (ht : TreeC w w.heap.size t [.int .i64 t.k, .int .i64 t.n, .string t.t, .slice A3 t.its.length c3, .slice A4 t.ks.length c4]) :
 Calls Tryz.prog 24 #[.agg #[.int .i64 t.k, .int .i64 t.n, .string t.t, .slice A3 t.its.length c3, .slice A4 t.ks.length c4], .int .i64 2500, .int .i64 (D : Int)] w (Bul25 t D w) := bulk25_at _ t (Nat.le_refl _) D w A3 A4 c3 c4 hD ht
end Go.Proofs.YthfoomobicbcpaaGreatDoor
