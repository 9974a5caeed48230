/- Joined by tools/bundle.py: Nam JPar KFrm SRgt VIs SOk JRB25. -/
import Derived.Deep.LoopGhost
import Derived.Test.YtpmgjpchpmkklaaGreatDoorT1
import Derived.Test.YtpmgjpchpmkklaaGreatDoorT2
import Derived.Test.YtpmgjpchpmkklaaGreatDoorT3
import Derived.Test.YtpmgjpchpmkklaaGreatDoorT4
import Derived.Test.YtpmgjpchpmkklaaGreatDoorT0
set_option maxRecDepth 100000
set_option maxHeartbeats 16000000
namespace Go.Proofs.YtpmgjpchpmkklaaGreatDoor.Nm
open Jx
def lt (c : Nat) : Bool := decide ((97 ≤ c ∧ c ≤ 122) ∨ (65 ≤ c ∧ c ≤ 90) ∨ c = 95)
def ch (c : Nat) : Bool := lt c || isD c
def chs (l : List UInt8) : Bool := l.all fun x => ch x.toNat
def simple (l : List UInt8) : Bool := decide (l.length ≠ 0) && decide (l.length ≤ 100) && lt (byt l 0) && chs l
def dotN : Nat → List UInt8 → Int
 | 0, _ => -1
 | i + 1, l => if byt l i = 46 then (i : Int) else dotN i l
def dot (l : List UInt8) : Int := dotN l.length l
theorem dotN_lt : ∀ (i : Nat) (l : List UInt8), -1 ≤ dotN i l ∧ dotN i l < (i : Int)
 | 0, l => by simp [dotN]
 | i + 1, l => by
  unfold dotN
  have := dotN_lt i l
  split <;> omega
theorem dotN_at : ∀ (i : Nat) (l : List UInt8) (k : Nat), dotN i l = (k : Int) → byt l k = 46 ∧ ∀ j, k < j → j < i → byt l j ≠ 46
 | 0, l, k, h => by unfold dotN at h; omega
 | i + 1, l, k, h => by
  unfold dotN at h
  split at h
  · rename_i h1
    obtain rfl : i = k := by omega
    exact ⟨h1, fun j a b => by omega⟩
  · rename_i h1
    have ih := dotN_at i l k h
    refine ⟨ih.1, fun j a b => ?_⟩
    rcases Nat.lt_or_ge j i with g | g
    · exact ih.2 j a g
    · obtain rfl : j = i := by omega
      exact h1
theorem dotN_no : ∀ (i : Nat) (l : List UInt8), dotN i l < 0 → ∀ j, j < i → byt l j ≠ 46
 | 0, l, _, j, hj => absurd hj (Nat.not_lt_zero _)
 | i + 1, l, h, j, hj => by
  unfold dotN at h
  split at h
  · omega
  · rename_i h1
    rcases Nat.lt_or_ge j i with g | g
    · exact dotN_no i l h j g
    · obtain rfl : j = i := by omega
      exact h1
theorem dotN_none : ∀ (i : Nat) (l : List UInt8), (∀ j, j < i → byt l j ≠ 46) → dotN i l = -1
 | 0, _, _ => rfl
 | i + 1, l, h => by
  unfold dotN
  rw [if_neg (h i (by omega)), dotN_none i l (fun j hj => h j (by omega))]
theorem dot_lt (l : List UInt8) : -1 ≤ dot l ∧ dot l < (l.length : Int) := dotN_lt _ l
theorem dot_place {l : List UInt8} (h : 0 ≤ dot l) : ∃ k : Nat, dot l = (k : Int) ∧ k < l.length ∧ byt l k = 46 ∧ ∀ j, k < j → j < l.length → byt l j ≠ 46 := by
 obtain ⟨k, hk⟩ : ∃ k : Nat, dot l = (k : Int) := ⟨(dot l).toNat, by omega⟩
 have := dot_lt l
 have a := dotN_at l.length l k hk
 exact ⟨k, hk, by omega, a.1, a.2⟩
def fullF : Nat → List UInt8 → Bool
 | 0, _ => false
 | f + 1, l => if 0 ≤ dot l then simple (l.drop (dot l + 1).toNat) && fullF f (l.take (dot l).toNat) else simple l
def full (l : List UInt8) : Bool := decide (l.length ≤ 100) && fullF (l.length + 1) l
def space (l : List UInt8) : List UInt8 := if dot l < 0 then [] else l.take (dot l).toNat
def last (l : List UInt8) : List UInt8 := l.drop (dot l + 1).toNat
theorem fullF_fuel : ∀ (f g : Nat) (l : List UInt8), l.length < f → l.length < g → fullF f l = fullF g l
 | 0, _, _, h, _ => absurd h (Nat.not_lt_zero _)
 | _ + 1, 0, _, _, h => absurd h (Nat.not_lt_zero _)
 | f + 1, g + 1, l, h1, h2 => by
  unfold fullF
  split
  · rename_i h
    have := dot_lt l
    rw [fullF_fuel f g (l.take (dot l).toNat) (by rw [List.length_take]; omega) (by rw [List.length_take]; omega)]
  · rfl
theorem full_go {l : List UInt8} (h : 0 ≤ dot l) : full l = (decide (l.length ≤ 100) && (simple (last l) && full (space l))) := by
 have d := dot_lt l
 have e : space l = l.take (dot l).toNat := by unfold space; rw [if_neg (by omega)]
 unfold full
 rw [fullF, if_pos h, e]
 have hl : (l.take (dot l).toNat).length = (dot l).toNat := by rw [List.length_take]; omega
 rw [fullF_fuel l.length ((l.take (dot l).toNat).length + 1) (l.take (dot l).toNat) (by omega) (by omega), hl]
 unfold last
 by_cases h100 : l.length ≤ 100
 · rw [show decide ((dot l).toNat ≤ 100) = true by simp; omega]; simp
 · simp [h100]
theorem full_one {l : List UInt8} (h : dot l < 0) : full l = simple l := by
 unfold full
 rw [fullF, if_neg (by omega)]
 unfold simple
 by_cases h100 : l.length ≤ 100 <;> simp [h100]
theorem last_no (l : List UInt8) : dot (last l) < 0 := by
 have d := dot_lt l
 have : dot (last l) = -1 := by
  refine dotN_none _ _ fun j hj => ?_
  unfold last at hj ⊢
  rw [List.length_drop] at hj
  rw [byt_drop]
  rcases Int.lt_or_le (dot l) 0 with h | h
  · exact dotN_no l.length l h _ (by omega)
  · obtain ⟨k, hk, _, _, h2⟩ := dot_place h
    exact h2 _ (by omega) (by omega)
 omega
end Go.Proofs.YtpmgjpchpmkklaaGreatDoor.Nm
namespace Go.Proofs.YtpmgjpchpmkklaaGreatDoor.Nm
def word (k : Int) : List UInt8 :=
 if k = 1 then [110, 117, 108, 108] else if k = 2 then [98, 111, 111, 108, 101, 97, 110] else if k = 3 then [105, 110, 116] else if k = 4 then [108, 111, 110, 103] else if k = 5 then [102, 108, 111, 97, 116]
 else if k = 6 then [100, 111, 117, 98, 108, 101] else if k = 7 then [98, 121, 116, 101, 115] else if k = 8 then [115, 116, 114, 105, 110, 103] else if k = 9 then [114, 101, 99, 111, 114, 100] else if k = 10 then [101, 110, 117, 109]
 else if k = 11 then [97, 114, 114, 97, 121] else if k = 12 then [109, 97, 112] else if k = 14 then [102, 105, 120, 101, 100] else []
def kindF : Nat → Nat → List UInt8 → Nat
 | 0, _, _ => 0
 | f + 1, k, s => if s ≠ [] ∧ word (k : Int) = s then k else kindF f (k + 1) s
def kind (s : List UInt8) : Nat := kindF 14 1 s
end Go.Proofs.YtpmgjpchpmkklaaGreatDoor.Nm
namespace Go.Proofs.YtpmgjpchpmkklaaGreatDoor.Jp
open Jx
def nil_ : ByteArray := ⟨#[]⟩
def str (t : List UInt8) : ByteArray := ⟨t.toArray⟩
abbrev R := J × Nat × Nat
def bad (e : Nat) : R := (J.zero, 0, e)
def wlF : Nat → List UInt8 → Nat → List Wd
 | 0, _, _ => []
 | f + 1, l, p => if (tak l p).2 ≠ 0 then [⟨0, ((tak l p).2 : Int), [], 0, 0⟩] else if (tak l p).1.k = 11 then [(tak l p).1] else (tak l p).1 :: wlF f l (tak l p).1.x
def wl (l : List UInt8) (p : Nat) : List Wd := wlF (l.length + 1 - p) l p
end Go.Proofs.YtpmgjpchpmkklaaGreatDoor.Jp
namespace Go.Proofs.YtpmgjpchpmkklaaGreatDoor
open Num
mutual
/-- May a tree be, but for how deep it is? -/
def J.frm : J → Prop
 | .mk k n t its ks => 1 ≤ k ∧ k ≤ 6 ∧ (k ≠ 2 → k ≠ 3 → n = 0) ∧ (k = 2 → n = 0 ∨ n = 1) ∧ (k ≠ 4 → t = Jp.nil_) ∧ (cU t.data.toList).isSome = true ∧ (k < 5 → its = []) ∧ (k ≠ 6 → ks = []) ∧ (k = 6 → ks.length = its.length) ∧ (∀ x ∈ ks, (cU x.data.toList).isSome = true) ∧ ks.Nodup ∧ J.frms its
def J.frms : List J → Prop
 | [] => True
 | j :: r => J.frm j ∧ J.frms r
end
theorem J.frms_iff : ∀ {l : List J}, J.frms l ↔ ∀ i (h : i < l.length), (l[i]'h).frm
 | [] => ⟨fun _ i h => absurd h (Nat.not_lt_zero _), fun _ => by unfold J.frms; trivial⟩
 | j :: r => by
  unfold J.frms
  rw [J.frms_iff (l := r)]
  constructor
  · intro h i hi
    cases i with
    | zero => exact h.1
    | succ i => exact h.2 i (by simpa using hi)
  · intro h
    exact ⟨h 0 (by simp), fun i hi => by have := h (i + 1) (by simpa using hi); simpa using this⟩
noncomputable def J.frmb (t : J) : Bool := @decide t.frm (Classical.propDecidable _)
theorem J.frmb_no {t : J} (h : ¬ t.frm) : t.frmb = false := by unfold J.frmb; simpa using h
theorem J.frmb_yes {t : J} (h : t.frm) : t.frmb = true := by unfold J.frmb; simpa using h
theorem J.frmb_iff {t : J} : t.frmb = true ↔ t.frm := by unfold J.frmb; simp
noncomputable def J.rightb (t : J) : Bool := decide (t.deep ≤ 32) && t.frmb
theorem J.rightb_iff {t : J} : t.rightb = true ↔ t.deep ≤ 32 ∧ t.frm := by unfold J.rightb; rw [Bool.and_eq_true, decide_eq_true_eq, J.frmb_iff]
end Go.Proofs.YtpmgjpchpmkklaaGreatDoor
namespace Go.Proofs.YtpmgjpchpmkklaaGreatDoor
def zJ : J := .mk 0 0 ⟨#[]⟩ [] []
def okName (t : ByteArray) : Prop := Nm.full t.data.toList = true ∧ Nm.kind t.data.toList = 0
def okFulls (l : List ByteArray) : Prop := l.length ≤ 40 ∧ ∀ t ∈ l, Nm.full t.data.toList = true
def okSimples (l : List ByteArray) : Prop := l.length ≤ 40 ∧ ∀ t ∈ l, Nm.simple t.data.toList = true
def Fd.ok (f : Fd) : Prop := okSimples f.al ∧ (if f.has = true then f.df.deep ≤ 32 ∧ f.df.frm else f.df = zJ)
def Nd.ok (s : Sc) (n : Nd) : Prop := 1 ≤ n.k ∧ n.k ≤ 14 ∧
 (if named n.k = true then okName n.name ∧ okFulls n.al else n.name = ⟨#[]⟩ ∧ n.al = []) ∧
 (if n.k = 9 then okSimples (n.fs.map Fd.name) ∧ (n.fs.map Fd.name).Nodup ∧ ∀ f ∈ n.fs, f.ok else n.fs = []) ∧
 (if n.k = 10 then n.sy ≠ [] ∧ okSimples n.sy ∧ n.sy.Nodup ∧ (if n.has = true then n.df ∈ n.sy else n.df = ⟨#[]⟩) else n.sy = [] ∧ n.has = false ∧ n.df = ⟨#[]⟩) ∧
 (if n.k = 14 then 0 ≤ n.size ∧ n.size ≤ 1000 else n.size = 0) ∧
 (if n.k = 11 ∨ n.k = 12 then True else n.items = 0) ∧
 (if n.k = 13 then n.br ≠ [] ∧ n.br.length ≤ 10 ∧ (∀ b ∈ n.br, s.kind b ≠ 13) ∧ n.br.Pairwise (fun a b => a ≠ b ∧ (s.kind a ≠ s.kind b ∨ named (s.kind a) = true)) else n.br = [])
def Sc.names (s : Sc) : List ByteArray := (s.nodes.filter fun n => named n.k).map Nd.name
def Sc.right (s : Sc) : Prop := s.ordered ∧ (∀ n ∈ s.nodes, n.ok s) ∧ (∀ i, i < s.nodes.length → s.wt i ≤ 1000) ∧ s.names.Nodup
def VJust (k n bt : Int) (nb ni nk : Nat) : Prop := (k = 2 ∨ k = 3 ∨ k = 4 ∨ k = 10 ∨ k = 13 ∨ n = 0) ∧ (k = 5 ∨ k = 6 ∨ bt = 0) ∧ (k = 7 ∨ k = 8 ∨ k = 14 ∨ nb = 0) ∧ (k = 9 ∨ k = 11 ∨ k = 12 ∨ k = 13 ∨ ni = 0) ∧ (k = 12 ∨ nk = 0)
def keysOk (ks : List ByteArray) : Prop := ∀ i (h : i < ks.length), (ks[i]'h).size ≤ 20000 ∧ (Num.cU (ks[i]'h).data.toList).isSome = true
theorem keysOk_iff {ks : List ByteArray} : keysOk ks ↔ ∀ x ∈ ks, x.size ≤ 20000 ∧ (Num.cU x.data.toList).isSome = true :=
 ⟨fun h x hx => by obtain ⟨i, hi, rfl⟩ := List.getElem_of_mem hx; exact h i hi, fun h i hi => h _ (List.getElem_mem hi)⟩
section
variable {s : Sc} {p : Nat} (hp : p < s.nodes.length) {k n bt : Int} {bs : List UInt8} {its : List V} {ks : List ByteArray}
theorem Sc.node_at {s : Sc} {p : Nat} (hp : p < s.nodes.length) : s.node (p : Int) = s.nodes[p]'hp := by
 unfold Sc.node
 rw [Int.toNat_natCast, List.getElem?_eq_getElem hp]; rfl
include hp in
theorem V.is_at : V.is s (.mk k n bt bs its ks) (p : Int) ↔ k = (s.nodes[p]'hp).k ∧ bs.length ≤ 20000 ∧ its.length ≤ 300 ∧ VOwn (s.nodes[p]'hp) n bt bs its.length ks ∧ V.all s its (VKids (s.nodes[p]'hp) n its.length) := by
 unfold V.is
 rw [Sc.node_at hp]
 constructor
 · rintro ⟨_, _, h⟩; exact h
 · intro h; exact ⟨by omega, by omega, h⟩
theorem V.is_not (h : ¬ k = (s.nodes[p]'hp).k) : ¬ V.is s (.mk k n bt bs its ks) (p : Int) := fun g => h ((V.is_at hp).1 g).1
theorem vown_iff {nd : Nd} {m : Nat} (hs : nd.k = 14 → nd.size ≤ 1000) : (bs.length ≤ 20000 ∧ m ≤ 300 ∧ VOwn nd n bt bs m ks ∧ (nd.k = 9 ∨ nd.k = 11 ∨ nd.k = 12 ∨ nd.k = 13 ∨ m = 0)) ↔ VJust nd.k n bt bs.length m ks.length ∧ m ≤ 300 ∧
 (nd.k = 2 → n = 0 ∨ n = 1) ∧ (nd.k = 3 → -2147483648 ≤ n ∧ n ≤ 2147483647) ∧ (nd.k = 10 → 0 ≤ n ∧ n < (nd.sy.length : Int)) ∧ (nd.k = 13 → 0 ≤ n ∧ n < (nd.br.length : Int)) ∧ (nd.k = 5 → bt ≤ 4294967295) ∧
 (nd.k = 7 → bs.length ≤ 20000) ∧ (nd.k = 8 → (Num.cU bs).isSome = true ∧ bs.length ≤ 20000) ∧ (nd.k = 14 → (bs.length : Int) = nd.size) ∧ (nd.k = 12 → ks.length = m ∧ keysOk ks) := by
 have e1 : bs = [] ↔ bs.length = 0 := List.length_eq_zero_iff.symm
 have e2 : ks = [] ↔ ks.length = 0 := List.length_eq_zero_iff.symm
 unfold VOwn VJust
 rw [e1, e2, ← keysOk_iff]
 generalize keysOk ks = KO
 generalize ((Num.cU bs).isSome = true) = CO
 generalize bs.length = nb
 generalize ks.length = nk
 generalize (nd.sy.length : Int) = ls
 generalize (nd.br.length : Int) = lb
 generalize nd.size = sz at *
 generalize nd.k = K at *
 constructor
 · rintro ⟨h1, h2, ⟨h3, h4, h5, h6⟩, h7⟩
   refine ⟨⟨?_, ?_, ?_, ?_, ?_⟩, h2, ?_, ?_, ?_, ?_, ?_, ?_, ?_, ?_, ?_⟩
   · by_cases c2 : K = 2
     · exact .inl c2
     by_cases c3 : K = 3
     · exact .inr (.inl c3)
     by_cases c4 : K = 4
     · exact .inr (.inr (.inl c4))
     by_cases c10 : K = 10
     · exact .inr (.inr (.inr (.inl c10)))
     by_cases c13 : K = 13
     · exact .inr (.inr (.inr (.inr (.inl c13))))
     rw [if_neg c2, if_neg c3, if_neg c4, if_neg c10, if_neg c13] at h3
     exact .inr (.inr (.inr (.inr (.inr h3))))
   · by_cases c5 : K = 5
     · exact .inl c5
     by_cases c6 : K = 6
     · exact .inr (.inl c6)
     rw [if_neg c5, if_neg c6] at h4
     exact .inr (.inr h4)
   · by_cases c7 : K = 7
     · exact .inl c7
     by_cases c8 : K = 8
     · exact .inr (.inl c8)
     by_cases c14 : K = 14
     · exact .inr (.inr (.inl c14))
     rw [if_neg c7, if_neg c8, if_neg c14] at h5
     exact .inr (.inr (.inr h5))
   · exact h7
   · by_cases c12 : K = 12
     · exact .inl c12
     rw [if_neg c12] at h6
     exact .inr h6
   · rintro rfl; simpa using h3
   · rintro rfl; simpa using h3
   · rintro rfl; simpa using h3
   · rintro rfl; simpa using h3
   · rintro rfl
     have h4 : bt < 4294967296 := by simpa using h4
     clear h1 h2 h3 h5 h6 h7 hs
     omega
   · rintro _; exact h1
   · rintro rfl; exact ⟨by simpa using h5, h1⟩
   · rintro rfl; simpa using h5
   · rintro rfl; simpa using h6
 · rintro ⟨⟨j1, j2, j3, j4, j5⟩, h2, g2, g3, g10, g13, g5, g7, g8, g14, g12⟩
   refine ⟨?_, h2, ⟨?_, ?_, ?_, ?_⟩, j4⟩
   · by_cases c7 : K = 7
     · exact g7 c7
     by_cases c8 : K = 8
     · exact (g8 c8).2
     by_cases c14 : K = 14
     · have a := g14 c14
       have b := hs c14
       clear j1 j2 j3 j4 j5 h2 g2 g3 g10 g13 g5 g7 g8 g14 g12 hs
       omega
     · exact Nat.le_trans (Nat.le_of_eq (((j3.resolve_left c7).resolve_left c8).resolve_left c14)) (Nat.zero_le _)
   · by_cases c2 : K = 2
     · rw [if_pos c2]; exact g2 c2
     rw [if_neg c2]
     by_cases c3 : K = 3
     · rw [if_pos c3]; exact g3 c3
     rw [if_neg c3]
     by_cases c4 : K = 4
     · rw [if_pos c4]; trivial
     rw [if_neg c4]
     by_cases c10 : K = 10
     · rw [if_pos c10]; exact g10 c10
     rw [if_neg c10]
     by_cases c13 : K = 13
     · rw [if_pos c13]; exact g13 c13
     rw [if_neg c13]
     exact ((((j1.resolve_left c2).resolve_left c3).resolve_left c4).resolve_left c10).resolve_left c13
   · by_cases c5 : K = 5
     · rw [if_pos c5]
       have a := g5 c5
       clear j1 j2 j3 j4 j5 h2 g2 g3 g10 g13 g5 g7 g8 g14 g12 hs
       omega
     rw [if_neg c5]
     by_cases c6 : K = 6
     · rw [if_pos c6]; trivial
     rw [if_neg c6]
     exact (j2.resolve_left c5).resolve_left c6
   · by_cases c7 : K = 7
     · rw [if_pos c7]; trivial
     rw [if_neg c7]
     by_cases c8 : K = 8
     · rw [if_pos c8]; exact (g8 c8).1
     rw [if_neg c8]
     by_cases c14 : K = 14
     · rw [if_pos c14]; exact g14 c14
     rw [if_neg c14]
     exact ((j3.resolve_left c7).resolve_left c8).resolve_left c14
   · by_cases c12 : K = 12
     · rw [if_pos c12]; exact g12 c12
     rw [if_neg c12]
     exact j5.resolve_left c12
theorem vkids_none {nd : Nd} {m : Nat} (h : ¬ (nd.k = 9 ∨ nd.k = 11 ∨ nd.k = 12 ∨ nd.k = 13)) : VKids nd n m = [] := by
 unfold VKids
 rw [if_neg (by omega), if_neg (by omega), if_neg (by omega)]
theorem all_none : V.all s its [] ↔ its.length = 0 := by
 rw [V.all_iff]
 constructor
 · rintro ⟨h, _⟩; simpa using h.symm
 · intro h; exact ⟨by simpa using h.symm, fun i hi => by omega⟩
theorem V.is_leaf (hs : (s.nodes[p]'hp).k = 14 → (s.nodes[p]'hp).size ≤ 1000) (hk : k = (s.nodes[p]'hp).k) (hl : ¬ (k = 9 ∨ k = 11 ∨ k = 12 ∨ k = 13)) : V.is s (.mk k n bt bs its ks) (p : Int) ↔ VJust k n bt bs.length its.length ks.length ∧
 (k = 2 → n = 0 ∨ n = 1) ∧ (k = 3 → -2147483648 ≤ n ∧ n ≤ 2147483647) ∧ (k = 10 → 0 ≤ n ∧ n < ((s.nodes[p]'hp).sy.length : Int)) ∧ (k = 5 → bt ≤ 4294967295) ∧
 (k = 7 → bs.length ≤ 20000) ∧ (k = 8 → (Num.cU bs).isSome = true ∧ bs.length ≤ 20000) ∧ (k = 14 → (bs.length : Int) = (s.nodes[p]'hp).size) := by
 have v := vown_iff (n := n) (bt := bt) (bs := bs) (ks := ks) (m := its.length) hs
 rw [V.is_at hp]
 generalize s.nodes[p]'hp = nd at *
 subst hk
 rw [vkids_none hl, all_none]
 constructor
 · rintro ⟨_, h1, h2, h3, h4⟩
   obtain ⟨a1, a2, a3, a4, a5, a6, a7, a8, a9, a10, a11⟩ := v.1 ⟨h1, h2, h3, by omega⟩
   exact ⟨a1, a3, a4, a5, a7, a8, a9, a10⟩
 · rintro ⟨a1, a3, a4, a5, a7, a8, a9, a10⟩
   have z : its.length = 0 := by have := a1.2.2.2.1; omega
   obtain ⟨b1, b2, b3, _⟩ := v.2 ⟨a1, by omega, a3, a4, a5, (fun h => by omega), a7, a8, a9, a10, (fun h => by omega)⟩
   exact ⟨rfl, b1, b2, b3, z⟩
theorem V.is_part (hk : k = (s.nodes[p]'hp).k) (hl : k = 9 ∨ k = 11 ∨ k = 12 ∨ k = 13) : V.is s (.mk k n bt bs its ks) (p : Int) ↔ VJust k n bt bs.length its.length ks.length ∧ its.length ≤ 300 ∧ (k = 13 → 0 ≤ n ∧ n < ((s.nodes[p]'hp).br.length : Int)) ∧ (k = 12 → ks.length = its.length ∧ keysOk ks) ∧
 (VKids (s.nodes[p]'hp) n its.length).length = its.length ∧ ∀ i (h : i < its.length) (g : i < (VKids (s.nodes[p]'hp) n its.length).length), V.is s (its[i]'h) ((VKids (s.nodes[p]'hp) n its.length)[i]'g) := by
 have v := vown_iff (nd := s.nodes[p]'hp) (n := n) (bt := bt) (bs := bs) (ks := ks) (m := its.length) (fun h => by omega)
 rw [V.is_at hp, V.all_iff]
 generalize s.nodes[p]'hp = nd at *
 subst hk
 constructor
 · rintro ⟨_, h1, h2, h3, h4⟩
   obtain ⟨a1, a2, a3, a4, a5, a6, a7, a8, a9, a10, a11⟩ := v.1 ⟨h1, h2, h3, by omega⟩
   exact ⟨a1, a2, a6, a11, h4⟩
 · rintro ⟨a1, a2, a6, a11, h4⟩
   obtain ⟨b1, b2, b3, _⟩ := v.2 ⟨a1, a2, (fun h => by omega), (fun h => by omega), (fun h => by omega), a6, (fun h => by omega), (fun h => by omega), (fun h => by omega), (fun h => by omega), a11⟩
   exact ⟨rfl, b1, b2, b3, h4⟩
theorem V.is_9 (hk : (s.nodes[p]'hp).k = 9) (hf : (s.nodes[p]'hp).fs.length ≤ 300) : V.is s (.mk 9 n bt bs its ks) (p : Int) ↔ VJust 9 n bt bs.length its.length ks.length ∧ (its.length = (s.nodes[p]'hp).fs.length ∧ ∀ i (h : i < its.length) (g : i < (s.nodes[p]'hp).fs.length), V.is s (its[i]'h) ((s.nodes[p]'hp).fs[i]'g).ty) := by
 rw [V.is_part hp hk.symm (.inl rfl)]
 have e : VKids (s.nodes[p]'hp) n its.length = (s.nodes[p]'hp).fs.map Fd.ty := by unfold VKids; rw [if_pos hk]
 rw [e]
 have lm : ((s.nodes[p]'hp).fs.map Fd.ty).length = (s.nodes[p]'hp).fs.length := List.length_map ..
 generalize s.nodes[p]'hp = nd at *
 constructor
 · rintro ⟨h1, _, _, _, h2, h3⟩
   exact ⟨h1, h2.symm.trans lm, fun i h g => by have := h3 i h (by rw [List.length_map]; exact g); rwa [List.getElem_map] at this⟩
 · rintro ⟨h1, h2, h3⟩
   exact ⟨h1, by omega, (fun h => by omega), (fun h => by omega), lm.trans h2.symm, fun i h g => by rw [List.getElem_map]; exact h3 i h (by rw [List.length_map] at g; exact g)⟩
theorem V.is_11 (hk : (s.nodes[p]'hp).k = 11) : V.is s (.mk 11 n bt bs its ks) (p : Int) ↔ VJust 11 n bt bs.length its.length ks.length ∧ (its.length ≤ 300 ∧ ∀ i (h : i < its.length), V.is s (its[i]'h) (s.nodes[p]'hp).items) := by
 rw [V.is_part hp hk.symm (.inr (.inl rfl))]
 have e : VKids (s.nodes[p]'hp) n its.length = List.replicate its.length (s.nodes[p]'hp).items := by unfold VKids; rw [if_neg (by omega), if_pos (.inl hk)]
 rw [e]
 generalize s.nodes[p]'hp = nd at *
 constructor
 · rintro ⟨h1, h0, _, _, h2, h3⟩
   exact ⟨h1, h0, fun i h => by have := h3 i h (by rw [List.length_replicate]; exact h); rwa [List.getElem_replicate] at this⟩
 · rintro ⟨h1, h2, h3⟩
   exact ⟨h1, h2, (fun h => by omega), (fun h => by omega), List.length_replicate, fun i h g => by rw [List.getElem_replicate]; exact h3 i h⟩
theorem V.is_12 (hk : (s.nodes[p]'hp).k = 12) : V.is s (.mk 12 n bt bs its ks) (p : Int) ↔ VJust 12 n bt bs.length its.length ks.length ∧ (ks.length = its.length ∧ keysOk ks) ∧ (its.length ≤ 300 ∧ ∀ i (h : i < its.length), V.is s (its[i]'h) (s.nodes[p]'hp).items) := by
 rw [V.is_part hp hk.symm (.inr (.inr (.inl rfl)))]
 have e : VKids (s.nodes[p]'hp) n its.length = List.replicate its.length (s.nodes[p]'hp).items := by unfold VKids; rw [if_neg (by omega), if_pos (.inr hk)]
 rw [e]
 generalize s.nodes[p]'hp = nd at *
 constructor
 · rintro ⟨h1, h0, _, h4, h2, h3⟩
   exact ⟨h1, h4 rfl, h0, fun i h => by have := h3 i h (by rw [List.length_replicate]; exact h); rwa [List.getElem_replicate] at this⟩
 · rintro ⟨h1, h4, h2, h3⟩
   exact ⟨h1, h2, (fun h => by omega), (fun _ => h4), List.length_replicate, fun i h g => by rw [List.getElem_replicate]; exact h3 i h⟩
theorem V.is_13 (hk : (s.nodes[p]'hp).k = 13) : V.is s (.mk 13 n bt bs its ks) (p : Int) ↔ VJust 13 n bt bs.length its.length ks.length ∧ (0 ≤ n ∧ n < ((s.nodes[p]'hp).br.length : Int)) ∧ its.length = 1 ∧ (∃ h : 0 < its.length, V.is s (its[0]'h) ((s.nodes[p]'hp).br.getD n.toNat 0)) := by
 rw [V.is_part hp hk.symm (.inr (.inr (.inr rfl)))]
 have e : VKids (s.nodes[p]'hp) n its.length = ((s.nodes[p]'hp).br[n.toNat]?).toList := by unfold VKids; rw [if_neg (by omega), if_neg (by omega), if_pos hk]
 rw [e]
 generalize s.nodes[p]'hp = nd at *
 constructor
 · rintro ⟨h1, h0, h5, _, h2, h3⟩
   have h5 := h5 rfl
   have hl : n.toNat < nd.br.length := by omega
   have ek : (nd.br[n.toNat]?).toList = [nd.br.getD n.toNat 0] := by rw [List.getElem?_eq_getElem hl, List.getD_eq_getElem?_getD, List.getElem?_eq_getElem hl]; rfl
   rw [ek] at h2
   have l1 : its.length = 1 := by simpa using h2.symm
   refine ⟨h1, h5, l1, by omega, ?_⟩
   have := h3 0 (by omega) (by rw [ek]; simp)
   simpa [ek] using this
 · rintro ⟨h1, h5, l1, h0, h3⟩
   have hl : n.toNat < nd.br.length := by omega
   have ek : (nd.br[n.toNat]?).toList = [nd.br.getD n.toNat 0] := by rw [List.getElem?_eq_getElem hl, List.getD_eq_getElem?_getD, List.getElem?_eq_getElem hl]; rfl
   refine ⟨h1, by omega, (fun _ => h5), (fun h => by omega), by rw [ek, l1]; rfl, fun i h g => ?_⟩
   obtain rfl : i = 0 := by omega
   simpa [ek] using h3
end
end Go.Proofs.YtpmgjpchpmkklaaGreatDoor
namespace Go.Proofs.YtpmgjpchpmkklaaGreatDoor
open Go.ChangeShapes Go.WideShapes Go.ChangeAt Go.RowKit Mem
def Tells (P : Prop) (w : World) (e : Ending) (w' : World) : Prop := ∃ b : Bool, e = .returned (.bool b) ∧ (b = true ↔ P) ∧ Below w.heap.size w w'
theorem tells_yes {P : Prop} {b : Bool} {w w' : World} (hb : b = true) (h : P) (k : Below w.heap.size w w') : Tells P w (.returned (.bool b)) w' := ⟨b, rfl, ⟨fun _ => h, fun _ => hb⟩, k⟩
theorem tells_no {P : Prop} {b : Bool} {w w' : World} (hb : b = false) (h : ¬ P) (k : Below w.heap.size w w') : Tells P w (.returned (.bool b)) w' := ⟨b, rfl, ⟨fun g => (by rw [hb] at g; cases g), fun g => absurd g h⟩, k⟩
theorem zJ_lies {w : World} {S : Nat → Prop} : Lies w S zJ.enc [.int .i64 0, .int .i64 0, .string ⟨#[]⟩, .slice none 0 0, .slice none 0 0] := by
 refine tree_lies.2 ?_
 unfold zJ TreeS
 exact ⟨none, 0, none, 0, rfl, ⟨Nat.le_refl _, Nat.zero_le _⟩, ⟨Nat.le_refl _, Nat.zero_le _⟩, (by unfold RowS; trivial), .inl rfl⟩
theorem J.same_iff_ {a b : J} : J.same a b = true ↔ a = b := by
 constructor
 · intro h
   refine Classical.byContradiction fun g => ?_
   rw [J.same_no g] at h; cases h
 · intro h; subst h; exact J.same_refl _
theorem Tells.iff {P Q : Prop} {w : World} {e : Ending} {w' : World} (h : Tells P w e w') (k : P ↔ Q) : Tells Q w e w' := by
 obtain ⟨b, h1, h2, h3⟩ := h
 exact ⟨b, h1, h2.trans k, h3⟩
theorem told_tells {b : Bool} {P : Prop} {w : World} {e : Ending} {w' : World} (h : Told b w e w') (k : b = true ↔ P) : Tells P w e w' := ⟨b, h.1, k, h.2⟩
def unionOk (s : Sc) (br : List Int) : Prop := br ≠ [] ∧ br.length ≤ 10 ∧ (∀ b ∈ br, s.kind b ≠ 13) ∧ br.Pairwise (fun a b => a ≠ b ∧ (s.kind a ≠ s.kind b ∨ named (s.kind a) = true))
theorem kind_cell {s : Sc} {w : World} {S : Nat → Prop} {A : Option Addr} (h : RowD w S 10 (s.nodes.map Nd.enc) A) {p : Int} (h0 : 0 ≤ p) (h1 : p < (s.nodes.length : Int)) : ∃ q b o, p = ((q : Nat) : Int) ∧ q < s.nodes.length ∧ A = some ⟨b, o, none⟩ ∧ w.cell? ⟨b, o + q * 10, none⟩ = some (.int .i64 (s.kind p)) := by
 have hq : p.toNat < s.nodes.length := by omega
 obtain ⟨b, o, X2, x2, X3, x3, X4, x4, X9, x9, e1, _, ⟨y0, _⟩, _⟩ := nodes_at h hq
 refine ⟨p.toNat, b, o, by omega, hq, e1, ?_⟩
 rw [y0]
 unfold Sc.kind
 rw [if_pos h0, List.getElem?_eq_getElem hq]; rfl
def Nd.z (k : Int) : Nd := ⟨k, ⟨#[]⟩, [], [], [], false, ⟨#[]⟩, 0, 0, []⟩
def enumOk (n : Nd) : Prop := n.sy ≠ [] ∧ okSimples n.sy ∧ n.sy.Nodup ∧ (if n.has = true then n.df ∈ n.sy else n.df = ⟨#[]⟩)
def recOk (n : Nd) : Prop := okSimples (n.fs.map Fd.name) ∧ (n.fs.map Fd.name).Nodup ∧ ∀ f ∈ n.fs, f.ok
theorem z_lies {w : World} {S : Nat → Prop} {k : Int} : Lies w S (Nd.z k).enc [.int .i64 k, .string ⟨#[]⟩, .slice none 0 0, .slice none 0 0, .slice none 0 0, .bool false, .string ⟨#[]⟩, .int .i64 0, .int .i64 0, .slice none 0 0] :=
 Nd.out.2 ⟨none, 0, none, 0, none, 0, none, 0, rfl, ⟨Nat.le_refl _, Nat.zero_le _⟩, .inl rfl, ⟨Nat.le_refl _, Nat.zero_le _⟩, RowD.nil_ _ _ _ _, ⟨Nat.le_refl _, Nat.zero_le _⟩, .inl rfl, ⟨Nat.le_refl _, Nat.zero_le _⟩, RowD.nil_ _ _ _ _⟩
theorem ok_prim {s : Sc} {n : Nd} (hk : 1 ≤ n.k ∧ n.k ≤ 8) : n.ok s ↔ (⟨n.k, n.name, n.al, n.fs, n.sy, n.has, n.df, n.size, n.items, n.br⟩ : Nd) = Nd.z n.k := by
 obtain ⟨k, name, al, fs, sy, has, df, size, items, br⟩ := n
 simp only at hk
 simp only [Nd.ok, Nd.z, named, Nd.mk.injEq, true_and]
 have e9 : ¬ k = 9 := by omega
 have e10 : ¬ k = 10 := by omega
 have e11 : ¬ k = 11 := by omega
 have e12 : ¬ k = 12 := by omega
 have e13 : ¬ k = 13 := by omega
 have e14 : ¬ k = 14 := by omega
 simp only [e9, e10, e11, e12, e13, e14, if_false, or_false, decide_false, Bool.false_eq_true]
 constructor
 · rintro ⟨_, _, ⟨h1, h2⟩, h3, ⟨h4, h5, h6⟩, h7, h8, h9⟩
   exact ⟨h1, h2, h3, h4, h5, h6, h7, h8, h9⟩
 · rintro ⟨h1, h2, h3, h4, h5, h6, h7, h8, h9⟩
   exact ⟨by omega, by omega, ⟨h1, h2⟩, h3, ⟨h4, h5, h6⟩, h7, h8, h9⟩
theorem ok_11 {s : Sc} {n : Nd} (hk : n.k = 11) : n.ok s ↔ (⟨11, n.name, n.al, n.fs, n.sy, n.has, n.df, n.size, 0, n.br⟩ : Nd) = Nd.z 11 := by
 obtain ⟨k, name, al, fs, sy, has, df, size, items, br⟩ := n
 simp only at hk
 subst hk
 simp only [Nd.ok, Nd.z, named, Nd.mk.injEq, true_and]
 simp
 constructor
 · rintro ⟨⟨h1, h2⟩, h3, ⟨h4, h5, h6⟩, h7, h9⟩
   exact ⟨h1, h2, h3, h4, h5, h6, h7, h9⟩
 · rintro ⟨h1, h2, h3, h4, h5, h6, h7, h9⟩
   exact ⟨⟨h1, h2⟩, h3, ⟨h4, h5, h6⟩, h7, h9⟩
theorem ok_12 {s : Sc} {n : Nd} (hk : n.k = 12) : n.ok s ↔ (⟨12, n.name, n.al, n.fs, n.sy, n.has, n.df, n.size, 0, n.br⟩ : Nd) = Nd.z 12 := by
 obtain ⟨k, name, al, fs, sy, has, df, size, items, br⟩ := n
 simp only at hk
 subst hk
 simp only [Nd.ok, Nd.z, named, Nd.mk.injEq, true_and]
 simp
 constructor
 · rintro ⟨⟨h1, h2⟩, h3, ⟨h4, h5, h6⟩, h7, h9⟩
   exact ⟨h1, h2, h3, h4, h5, h6, h7, h9⟩
 · rintro ⟨h1, h2, h3, h4, h5, h6, h7, h9⟩
   exact ⟨⟨h1, h2⟩, h3, ⟨h4, h5, h6⟩, h7, h9⟩
theorem ok_13 {s : Sc} {n : Nd} (hk : n.k = 13) : n.ok s ↔ unionOk s n.br ∧ (⟨13, n.name, n.al, n.fs, n.sy, n.has, n.df, n.size, n.items, []⟩ : Nd) = Nd.z 13 := by
 obtain ⟨k, name, al, fs, sy, has, df, size, items, br⟩ := n
 simp only at hk
 subst hk
 simp only [Nd.ok, Nd.z, named, unionOk, Nd.mk.injEq, true_and]
 simp
 constructor
 · rintro ⟨⟨h1, h2⟩, h3, ⟨h4, h5, h6⟩, h7, h8, h9⟩
   exact ⟨h9, h1, h2, h3, h4, h5, h6, h7, h8⟩
 · rintro ⟨h9, h1, h2, h3, h4, h5, h6, h7, h8⟩
   exact ⟨⟨h1, h2⟩, h3, ⟨h4, h5, h6⟩, h7, h8, h9⟩
theorem ok_9 {s : Sc} {n : Nd} (hk : n.k = 9) : n.ok s ↔ (okName n.name ∧ okFulls n.al) ∧ recOk n ∧ (⟨9, ⟨#[]⟩, [], [], n.sy, n.has, n.df, n.size, n.items, n.br⟩ : Nd) = Nd.z 9 := by
 obtain ⟨k, name, al, fs, sy, has, df, size, items, br⟩ := n
 simp only at hk
 subst hk
 simp only [Nd.ok, Nd.z, named, recOk, Nd.mk.injEq, true_and]
 constructor
 · intro h
   simp at h ⊢
   obtain ⟨⟨h1, h2⟩, h3, ⟨h4, h5, h6⟩, h7, h8, h9⟩ := h
   exact ⟨⟨h1, h2⟩, h3, h4, h5, h6, h7, h8, h9⟩
 · intro h
   simp at h ⊢
   obtain ⟨⟨h1, h2⟩, h3, h4, h5, h6, h7, h8, h9⟩ := h
   exact ⟨⟨h1, h2⟩, h3, ⟨h4, h5, h6⟩, h7, h8, h9⟩
theorem ok_10 {s : Sc} {n : Nd} (hk : n.k = 10) : n.ok s ↔ (okName n.name ∧ okFulls n.al) ∧ enumOk n ∧ (⟨10, ⟨#[]⟩, [], n.fs, [], false, ⟨#[]⟩, n.size, n.items, n.br⟩ : Nd) = Nd.z 10 := by
 obtain ⟨k, name, al, fs, sy, has, df, size, items, br⟩ := n
 simp only at hk
 subst hk
 simp only [Nd.ok, Nd.z, named, enumOk, Nd.mk.injEq, true_and]
 constructor
 · intro h
   simp at h ⊢
   obtain ⟨⟨h1, h2⟩, h3, h4, h7, h8, h9⟩ := h
   exact ⟨⟨h1, h2⟩, h4, h3, h7, h8, h9⟩
 · intro h
   simp at h ⊢
   obtain ⟨⟨h1, h2⟩, h4, h3, h7, h8, h9⟩ := h
   exact ⟨⟨h1, h2⟩, h3, h4, h7, h8, h9⟩
theorem ok_14 {s : Sc} {n : Nd} (hk : n.k = 14) : n.ok s ↔ (okName n.name ∧ okFulls n.al) ∧ (0 ≤ n.size ∧ n.size ≤ 1000) ∧ (⟨14, ⟨#[]⟩, [], n.fs, n.sy, n.has, n.df, 0, n.items, n.br⟩ : Nd) = Nd.z 14 := by
 obtain ⟨k, name, al, fs, sy, has, df, size, items, br⟩ := n
 simp only at hk
 subst hk
 simp only [Nd.ok, Nd.z, named, Nd.mk.injEq, true_and]
 constructor
 · intro h
   simp at h ⊢
   obtain ⟨⟨h1, h2⟩, h3, ⟨h4, h5, h6⟩, h7, h8, h9⟩ := h
   exact ⟨⟨h1, h2⟩, h7, h3, h4, h5, h6, h8, h9⟩
 · intro h
   simp at h ⊢
   obtain ⟨⟨h1, h2⟩, h7, h3, h4, h5, h6, h8, h9⟩ := h
   exact ⟨⟨h1, h2⟩, h3, ⟨h4, h5, h6⟩, h7, h8, h9⟩
def Bul25 (t : J) (D : Nat) (w : World) (e : Ending) (w' : World) : Prop := ∃ n : Nat, e = .returned (.int .i64 (n : Int)) ∧ n ≤ 5001 + 2500 * (61 - D) ∧ (n ≤ 2500 → t.deep + D ≤ 61 ∧ t.wt = n) ∧ Below w.heap.size w w'
theorem bul25_ret {t : J} {D n : Nat} {z : Int} {w w' : World} (hz : z = (n : Int)) (h : n ≤ 5001 + 2500 * (61 - D)) (hd : n ≤ 2500 → t.deep + D ≤ 61 ∧ t.wt = n) (hb : Below w.heap.size w w') : Bul25 t D w (.returned (.int .i64 z)) w' := by subst hz; exact ⟨n, rfl, h, hd, hb⟩
theorem bulk25_at : ∀ (N : Nat) (t : J), SizeOf.sizeOf t ≤ N → ∀ (D : Nat) (w : World) (A3 A4 : Option Addr) (c3 c4 : Nat), D ≤ 61 →
 TreeC w w.heap.size t [.int .i64 t.k, .int .i64 t.n, .string t.t, .slice A3 t.its.length c3, .slice A4 t.ks.length c4] →
 Calls Tryz.prog 20 #[.agg #[.int .i64 t.k, .int .i64 t.n, .string t.t, .slice A3 t.its.length c3, .slice A4 t.ks.length c4], .int .i64 2500, .int .i64 (D : Int)] w (Bul25 t D w)
 | 0, t, h => by cases t; simp at h
 | N + 1, .mk k n s its ks, hN => by
  intro D w A3 A4 c3 c4 hD ht
  have CS := cell_set
  obtain ⟨_, _, _, _, e, hc3, hc4, rt, ft⟩ := ht.out
  simp only [J.k, J.n, J.t, J.its, J.ks, List.cons.injEq, Value.slice.injEq, true_and, and_true] at e hc3 hc4 rt ft
  obtain ⟨⟨rfl, rfl⟩, rfl, rfl⟩ := e
  have db : ∀ M, 1 ≤ M → (∀ i (g : i < its.length), (its[i]'g).deep + 1 ≤ M) → (J.mk k n s its ks).deep ≤ M := fun M hM h => J.deep_bound (j := .mk k n s its ks) hM h
  have wt : (J.mk k n s its ks).wt = 1 + s.size + kwt ks + J.wts its := by unfold J.wt; rfl
  have KT := Lib.hid (fun i (h : i < ks.length) => kwt_take h)
  have WT := Lib.hid (fun i (h : i < its.length) => J.wts_take h)
  have KA : Hid (kwt (ks.take ks.length) = kwt ks) := by show _ = _; rw [List.take_length]
  have WA : Hid (J.wts (its.take its.length) = J.wts its) := by show _ = _; rw [List.take_length]
  obtain ⟨KW, hKW⟩ : ∃ f : Nat → Nat, f = fun i => kwt (ks.take i) := ⟨_, rfl⟩
  obtain ⟨JW, hJW⟩ : ∃ f : Nat → Nat, f = fun i => J.wts (its.take i) := ⟨_, rfl⟩
  have KT' : Hid (∀ i (h : i < ks.length), KW (i + 1) = KW i + 1 + (ks[i]'h).size) := fun i h => by rw [hKW]; exact KT.out i h
  have WT' : Hid (∀ i (h : i < its.length), JW (i + 1) = JW i + (its[i]'h).wt) := fun i h => by rw [hJW]; exact WT.out i h
  have K0 : Hid (KW 0 = 0) := by show _ = _; rw [hKW]; rfl
  have J0 : Hid (JW 0 = 0) := by show _ = _; rw [hJW]; rfl
  have KA' : Hid (KW ks.length = kwt ks) := by show _ = _; rw [hKW]; exact KA.out
  have WA' : Hid (JW its.length = J.wts its) := by show _ = _; rw [hJW]; exact WA.out
  clear KT WT KA WA hKW hJW
  obtain ⟨T, hT⟩ : ∃ T, T = J.mk k n s its ks := ⟨_, rfl⟩
  rw [← hT] at wt
  have WT0 := Lib.hid wt
  clear wt
  simp only [J.k, J.n, J.t, J.its, J.ks]
  rw [← hT] at db ⊢
  have IH : Hid (∀ (i : Nat) (h1 : i < its.length) (W : World) (A3 A4 : Option Addr) (c3 c4 : Nat), D + 1 ≤ 61 →
   TreeC W W.heap.size (its[i]'h1) [.int .i64 (its[i]'h1).k, .int .i64 (its[i]'h1).n, .string (its[i]'h1).t, .slice A3 (its[i]'h1).its.length c3, .slice A4 (its[i]'h1).ks.length c4] →
   Calls Tryz.prog 20 #[.agg #[.int .i64 (its[i]'h1).k, .int .i64 (its[i]'h1).n, .string (its[i]'h1).t, .slice A3 (its[i]'h1).its.length c3, .slice A4 (its[i]'h1).ks.length c4], .int .i64 2500, .int .i64 ((D : Int) + 1)] W (Bul25 (its[i]'h1) (D + 1) W)) := fun i h1 W A3 A4 c3 c4 hd a =>
   bulk25_at N (its[i]'h1) (by have := J.lt_its (j := .mk k n s its ks) (i := i) h1; simp only [J.its] at this; omega) (D + 1) W A3 A4 c3 c4 hd a
  have RT := Lib.hid rt; have FT := Lib.hid ft; have DB := Lib.hid db
  have hb4 := hc4.2
  have hb3 := hc3.2
  unfold maxLen at hb4 hb3
  obtain ⟨ni, hni⟩ : ∃ m, m = its.length := ⟨_, rfl⟩
  obtain ⟨nk, hnk⟩ : ∃ m, m = ks.length := ⟨_, rfl⟩
  have HNI := Lib.hid hni; have HNK := Lib.hid hnk
  rw [← hni] at hb3 ⊢
  rw [← hnk] at hb4 ⊢
  clear ht rt ft hN db hc3 hc4 hni hnk hT
  rw [← HNI.out] at WA'
  rw [← HNK.out] at KA'
  by_cases g1 : (60 : Int) < (D : Int)
  · go_enter Tryz.func20, Tryz.ntmps20
    go_wp2_with fail
    go_ret
    exact bul25_ret (n := 2501) (by rfl) (by omega) (fun h => by omega) bqq
  · by_cases g2 : (2500 : Int) < (s.size : Int)
    · go_enter Tryz.func20, Tryz.ntmps20
      go_wp2_with fail
      go_ret
      exact bul25_ret (n := 2501) (by rfl) (by omega) (fun h => by omega) bqq
    · by_cases g3 : (2500 : Int) < (nk : Int)
      · go_enter Tryz.func20, Tryz.ntmps20
        go_wp2_with fail
        go_ret
        exact bul25_ret (n := 2501) (by rfl) (by omega) (fun h => by omega) bqq
      · by_cases g4 : (2500 : Int) < (ni : Int)
        · go_enter Tryz.func20, Tryz.ntmps20
          go_wp2_with fail
          go_ret
          exact bul25_ret (n := 2501) (by rfl) (by omega) (fun h => by omega) bqq
        · have hD2 : D ≤ 60 := by omega
          have G0 : Below w.heap.size w (w.alloc (.cells #[.int .i64 k, .int .i64 n, .string s, .slice A3 ni c3, .slice A4 nk c4] 49)) := (Below.refl _ _).alloc (Nat.le_refl _) _
          have gz0 : (w.alloc (.cells #[.int .i64 k, .int .i64 n, .string s, .slice A3 ni c3, .slice A4 nk c4] 49)).heap.size = w.heap.size + 1 := by simp
          have GZ0 := Lib.hid gz0
          clear gz0
          go_enter Tryz.func20, Tryz.ntmps20
          go_wp2_with fail
          go_loopw [7, 8] (fun m t wr => ∃ i v : Nat, i ≤ nk ∧ v ≤ 5001 ∧ Hid (v = 1 + s.size + KW i) ∧ t = .int .i64 (i : Int) ∧ m = .int .i64 (v : Int) ∧ wr = (w.alloc (.cells #[.int .i64 k, .int .i64 n, .string s, .slice A3 ni c3, .slice A4 nk c4] 49))) (fun _ t _ => nk - (intOf t).toNat)
          case atStart => exact ⟨0, 1 + s.size, Nat.zero_le _, by omega, (by show _ = _; rw [K0.out, Nat.add_zero]), rfl, by push_cast; rfl, by first | rfl | trivial⟩
          case round =>
           obtain ⟨i, v, hik, hv, HVV, rfl, rfl, rfl⟩ := hrel
           by_cases h1 : i < nk ∧ v ≤ 2500
           · obtain ⟨h1, h2⟩ := h1
             have h1' : i < ks.length := by rw [← HNK.out]; exact h1
             obtain ⟨b8, o8, e8, hb8, z0⟩ := fl_str FT.out h1'
             have q2 : (v : Int) ≤ 2500 := by omega
             have HV2 : Hid (v + 1 + (ks[i]'h1').size = 1 + s.size + KW (i + 1)) := by
              show _ = _
              have := HVV.out; have := KT'.out i h1'; omega
             clear HVV
             generalize ks[i]'h1' = Y at *
             subst e8
             have lb8 : b8 < w.heap.size := hb8
             by_cases hy : (2500 : Int) < (Y.size : Int)
             · go_wp2_with fail
               go_ret
               exact bul25_ret (n := 2501) (by rfl) (by omega) (fun h => by omega) bqq
             · go_wp2_with fail
               go_roundw
               case rel => exact ⟨i + 1, v + 1 + Y.size, by omega, by omega, HV2, by go_num, by push_cast; rfl, by first | rfl | trivial⟩
               case measure => simp [intOf]; omega
           · have h2 : ¬ (i : Int) < (nk : Int) ∨ (i : Int) < (nk : Int) ∧ ¬ (v : Int) ≤ 2500 := by omega
             have HV3 : Hid (v ≤ 2500 → v = 1 + s.size + kwt ks) := fun hv2 => by
              have e : i = nk := by omega
              have := HVV.out; have := KA'.out
              rw [e] at *; omega
             clear h1 HVV
             rcases h2 with h2 | ⟨h2, h3⟩
             all_goals
              go_wp2_with fail
              go_loopw [7, 9] (fun m t wr => ∃ p u : Nat, p ≤ ni ∧ u ≤ 5001 + 2500 * (61 - D) ∧ t = .int .i64 (p : Int) ∧ m = .int .i64 (u : Int) ∧ Hid (∀ j (h : j < its.length), j < p → u ≤ 2500 → (its[j]'h).deep + D + 1 ≤ 61) ∧ Hid (u ≤ 2500 → u = 1 + s.size + kwt ks + JW p) ∧ Below (w.heap.size + 1) (w.alloc (.cells #[.int .i64 k, .int .i64 n, .string s, .slice A3 ni c3, .slice A4 nk c4] 49)) wr) (fun _ t _ => ni - (intOf t).toNat)
              case atStart => exact ⟨0, v, Nat.zero_le _, by omega, rfl, rfl, fun _ _ h => absurd h (Nat.not_lt_zero _), (fun h => by have := HV3.out h; have := J0.out; omega), Below.refl _ _⟩
              case round =>
               obtain ⟨p, u, hp, hu, rfl, rfl, HE, HU, bl⟩ := hrel
               have gsz := bl.size
               rw [GZ0.out] at gsz
               have gsz2 : w.heap.size ≤ wr.heap.size := by omega
               have blw := G0.trans (bl.mono (by omega))
               have hOwn := Nat.lt_of_lt_of_le (n := w.heap.size) sdd (Below.size bl)
               have hOwn1 := Nat.ne_of_gt hOwn
               have hOwn2 := Nat.ne_of_lt hOwn
               have hOwn := ocl bl w.heap.size 0
               have hOwn := ocl bl w.heap.size 1
               have hOwn := ocl bl w.heap.size 2
               have hOwn := ocl bl w.heap.size 3
               have hOwn := ocl bl w.heap.size 4
               have hOwn := ofr bl w.heap.size 0
               have hOwn := ofr bl w.heap.size 1
               have hOwn := ofr bl w.heap.size 2
               have hOwn := ofr bl w.heap.size 3
               have hOwn := ofr bl w.heap.size 4
               by_cases h4 : p < ni ∧ u ≤ 2500
               · obtain ⟨h4, h5⟩ := h4
                 have h1' : p < its.length := by rw [← HNI.out]; exact h4
                 obtain ⟨b1, o1, X3, x3, X4, x4, e1, hb1, y0, y1, y2, y3, y4, ty⟩ := (RT.out.below blw).cells h1'
                 have I2 := Lib.hid (fun W a => IH.out p h1' W X3 X4 x3 x4 (by omega) a)
                 have he := HE.out
                 have q5 : (u : Int) ≤ 2500 := by omega
                 have HE2 : Hid (∀ n', (n' ≤ 2500 → (its[p]'h1').deep + (D + 1) ≤ 61) → ∀ j (h : j < its.length), j < p + 1 → u + n' ≤ 2500 → (its[j]'h).deep + D + 1 ≤ 61) := fun n' hn j h hj hs => by
                  rcases Nat.lt_or_ge j p with g | g
                  · exact he j h g (by omega)
                  · obtain rfl : j = p := by omega
                    have := hn (by omega); omega
                 have HU2 : Hid (∀ n', (n' ≤ 2500 → (its[p]'h1').wt = n') → u + n' ≤ 2500 → u + n' = 1 + s.size + kwt ks + JW (p + 1)) := fun n' hn hs => by
                  have := HU.out h5; have := WT'.out p h1'; have := hn (by omega); omega
                 clear HU
                 generalize its[p]'h1' = T' at *
                 subst e1
                 have TY := Lib.hid (ty.more gsz2)
                 clear ty h1' he
                 go_wp2_with fail
                 with_reducible refine (I2.out _ TY.out).mono ?_
                 rintro e w3 ⟨n', rfl, hn1, hn2, b3⟩
                 have HN2 := Lib.hid (HE2.out n' (fun h => (hn2 h).1))
                 have HN3 := Lib.hid (HU2.out n' (fun h => (hn2 h).2))
                 clear hn2
                 go_wp2_with fail
                 go_roundw
                 case rel => exact ⟨p + 1, u + n', by omega, by omega, by go_num, by push_cast; rfl, HN2, HN3, bl.trans (b3.mono gsz)⟩
                 case measure => simp [intOf]; omega
               · have h5 : ¬ (p : Int) < (ni : Int) ∨ (p : Int) < (ni : Int) ∧ ¬ (u : Int) ≤ 2500 := by omega
                 have fin : u ≤ 2500 → T.deep + D ≤ 61 ∧ T.wt = u := fun hu2 => by
                  have e := HU.out hu2
                  have wt := WT0.out
                  have pe : p = ni := by omega
                  have wa := WA'.out
                  rw [pe] at e
                  refine ⟨?_, by omega⟩
                  have := DB.out (61 - D) (by omega) (fun i g => by have := HE.out i g (by rw [← HNI.out] at g; omega) hu2; omega)
                  omega
                 have FIN := Lib.hid fin
                 clear fin h4 HE HU
                 rcases h5 with h5 | ⟨h5, h6⟩
                 all_goals
                  go_wp2_with fail
                  go_ret
                  exact bul25_ret (n := u) (by rfl) hu FIN.out bqq
theorem bulk25_any (t : J) (D : Nat) (w : World) (A3 A4 : Option Addr) (c3 c4 : Nat) (hD : D ≤ 61) (ht : TreeC w w.heap.size t [.int .i64 t.k, .int .i64 t.n, .string t.t, .slice A3 t.its.length c3, .slice A4 t.ks.length c4]) :
 Calls Tryz.prog 20 #[.agg #[.int .i64 t.k, .int .i64 t.n, .string t.t, .slice A3 t.its.length c3, .slice A4 t.ks.length c4], .int .i64 2500, .int .i64 (D : Int)] w (Bul25 t D w) := bulk25_at _ t (Nat.le_refl _) D w A3 A4 c3 c4 hD ht
end Go.Proofs.YtpmgjpchpmkklaaGreatDoor
