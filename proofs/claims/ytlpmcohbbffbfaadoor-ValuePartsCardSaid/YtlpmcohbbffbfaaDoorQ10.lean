/- Joined by tools/bundle.py: NamC NShelf NCode NCodeB SCpy SReg SCE. -/
import Derived.Lib.SplitLaws
import Derived.Lib.LastIndexByte
import Derived.Shelf.LaysM
import Derived.Shelf.Strconv.Clone
import Derived.Shelf.Strings.Search1
import Derived.Shelf.Strings.Search2
import Derived.Shelf.Strings.Search3
import Derived.Shelf.Strings.Count
import Derived.Shelf.Strings.Shaped
import Derived.Shelf.Strings.Split
import Derived.Shelf.Strings.SplitShaped
import Derived.Shelf.Unicode.DecodeSlow
import Derived.Test.YtlpmcohbbffbfaaDoorProg
import Derived.Shelf.Strings.SplitCore
import Derived.Below
import Derived.Deep.RegionHeld
import Derived.Deep.CutRange
import Derived.Deep.RegionHeldLaw
import Derived.Lib.SliceRun
import Derived.Test.YtlpmcohbbffbfaaDoorQ1
import Derived.Test.YtlpmcohbbffbfaaDoorQ2
import Derived.Test.YtlpmcohbbffbfaaDoorQ3
import Derived.Test.YtlpmcohbbffbfaaDoorQ4
import Derived.Test.YtlpmcohbbffbfaaDoorQ5
import Derived.Test.YtlpmcohbbffbfaaDoorQ6
import Derived.Test.YtlpmcohbbffbfaaDoorQ9
namespace Go.Proofs.YtlpmcohbbffbfaaDoor.Nm
open Jx
def parts : List UInt8 → List (List UInt8)
  | [] => [[]]
  | c :: l => if c = 46 then [] :: parts l else match parts l with
    | [] => [[c]]
    | p :: r => (c :: p) :: r
theorem parts_ne : ∀ l : List UInt8, parts l ≠ []
  | [] => by simp [parts]
  | c :: l => by
    unfold parts
    split
    · simp
    · split <;> simp
theorem parts_app : ∀ a b : List UInt8, parts (a ++ 46 :: b) = parts a ++ parts b
  | [], b => by simp [parts]
  | c :: a, b => by
    rw [List.cons_append, parts, parts_app a b]
    conv => rhs; rw [parts]
    split
    · rfl
    · have := parts_ne a
      rcases h : parts a with _ | ⟨p, r⟩
      · exact absurd h this
      · rfl
theorem parts_no : ∀ b : List UInt8, (∀ x ∈ b, x ≠ 46) → parts b = [b]
  | [], _ => rfl
  | c :: b, h => by
    rw [parts, if_neg (h c (by simp)), parts_no b fun x hx => h x (by simp [hx])]
theorem parts_small : ∀ (l : List UInt8) (p : List UInt8), p ∈ parts l → p.length ≤ l.length
  | [], p, h => by simp [parts] at h; subst h; simp
  | c :: l, p, h => by
    have ih := parts_small l
    rw [parts] at h
    split at h
    · rcases List.mem_cons.1 h with rfl | g
      · simp
      · have := ih p g; rw [List.length_cons]; omega
    · have ne := parts_ne l
      rcases hp : parts l with _ | ⟨q, r⟩
      · exact absurd hp ne
      · rw [hp] at h ih
        rcases List.mem_cons.1 h with rfl | g
        · have := ih q (by simp); simp only [List.length_cons]; omega
        · have := ih p (List.mem_cons_of_mem _ g); rw [List.length_cons]; omega
theorem parts_count : ∀ l : List UInt8, (parts l).length ≤ l.length + 1
  | [] => by simp [parts]
  | c :: l => by
    have ih := parts_count l
    rw [parts]
    split
    · simp only [List.length_cons]; omega
    · have ne := parts_ne l
      rcases hp : parts l with _ | ⟨q, r⟩
      · exact absurd hp ne
      · rw [hp] at ih; simp only [List.length_cons] at ih ⊢; omega
theorem splitK_parts : ∀ l : List UInt8, Lib.splitK [46] 0 (Lib.count l [46]) l = parts l
  | [] => by rw [Lib.count_one]; rfl
  | c :: l => by
    have ih := splitK_parts l
    by_cases hc : c = 46
    · subst hc
      rw [Lib.count_cons_eq, Nat.add_comm, Lib.splitK]
      have e : Lib.index (46 :: l) [46] = 0 := by rw [Lib.index]; simp [List.isPrefixOf]
      rw [e, if_neg (by decide), parts, if_pos rfl, ← ih]
      rfl
    · rw [Lib.count_cons_ne c 46 l hc, parts, if_neg hc]
      have hp : ([46] : List UInt8).isPrefixOf (c :: l) = false := by simp [List.isPrefixOf, Ne.symm hc]
      have e : Lib.index (c :: l) [46] = if Lib.index l [46] == -1 then -1 else Lib.index l [46] + 1 := by rw [Lib.index, hp]; simp
      rcases hk : Lib.count l [46] with _ | k
      · rw [hk, Lib.splitK] at ih
        rw [← ih, Lib.splitK]
      · rw [hk, Lib.splitK] at ih
        rw [Lib.splitK, e]
        by_cases hm : Lib.index l [46] = -1
        · rw [if_pos (beq_iff_eq.2 hm)] at ih
          rw [if_pos (beq_iff_eq.2 hm), if_pos (by decide), ← ih]
        · have hge := Lib.index_ge l [46]
          rw [if_neg (fun g => hm (beq_iff_eq.1 g))] at ih
          rw [if_neg (fun g => hm (beq_iff_eq.1 g)), if_neg (fun g => by have := beq_iff_eq.1 g; omega), ← ih]
          obtain ⟨j, hj⟩ : ∃ j : Nat, Lib.index l [46] = j := ⟨(Lib.index l [46]).toNat, by omega⟩
          rw [hj, show ((j : Int) + 1).toNat + 0 = j + 1 by omega, show (j : Int).toNat + 0 = j by omega, show ((j : Int) + 1).toNat = j + 1 by omega, show (j : Int).toNat = j by omega]
          show _ = (c :: l.take j) :: _
          rw [List.take_succ_cons, List.length_singleton, List.drop_succ_cons]
theorem no_dot {l : List UInt8} (h : dot l < 0) : ∀ x ∈ l, x ≠ 46 := by
  intro x hx e
  obtain ⟨j, hj, rfl⟩ := List.getElem_of_mem hx
  apply dotN_no l.length l h j hj
  unfold byt
  rw [List.getD, List.getElem?_eq_getElem hj, Option.getD_some, e]
  rfl
theorem whole_dot {l : List UInt8} (hd : 0 ≤ dot l) : space l ++ 46 :: last l = l := by
  obtain ⟨k, hk, hkl, h46, _⟩ := dot_place hd
  have es : space l = l.take k := by unfold space; rw [if_neg (by omega), hk]; rfl
  have el : last l = l.drop (k + 1) := by unfold last; rw [hk]; rfl
  rw [es, el]
  have h1 : l.drop k = 46 :: l.drop (k + 1) := by
    rw [List.drop_eq_getElem_cons hkl]
    congr 1
    have : (l[k]'hkl).toNat = 46 := by
      rw [← h46]; unfold byt; simp [List.getD, List.getElem?_eq_getElem hkl]
    exact UInt8.toNat_inj.1 this
  rw [← h1, List.take_append_drop]
theorem full_all : ∀ (n : Nat) (l : List UInt8), l.length ≤ n → full l = (decide (l.length ≤ 100) && (parts l).all simple)
  | n, l, hn => by
    rcases Int.lt_or_le (dot l) 0 with h | h
    · rw [full_one h, parts_no l (no_dot h)]
      by_cases h100 : l.length ≤ 100
      · simp [h100]
      · simp only [h100, decide_false, Bool.false_and]
        unfold simple
        simp [h100]
    · have w := whole_dot h
      have hl : (space l).length < l.length := by
        have := congrArg List.length w
        rw [List.length_append, List.length_cons] at this
        omega
      cases n with
      | zero => omega
      | succ n =>
        have ih := full_all n (space l) (by omega)
        have e : parts l = parts (space l) ++ [last l] := by
          rw [← parts_no (last l) (no_dot (last_no l)), ← parts_app, w]
        rw [full_go h, ih, e, List.all_append]
        by_cases h100 : l.length ≤ 100
        · have h2 : (space l).length ≤ 100 := by omega
          simp [h100, h2, Bool.and_comm]
        · simp [h100]
theorem full_parts' (l : List UInt8) : full l = (decide (l.length ≤ 100) && (parts l).all simple) := full_all _ l (Nat.le_refl _)
theorem kindF_skip {f k : Nat} {s : List UInt8} (h : word (k : Int) ≠ s) : kindF (f + 1) k s = kindF f (k + 1) s := by
  rw [kindF, if_neg fun g => h g.2]
theorem kindF_hit {f k : Nat} {s : List UInt8} (h0 : s ≠ []) (h : word (k : Int) = s) : kindF (f + 1) k s = k := by
  rw [kindF, if_pos ⟨h0, h⟩]
theorem kindF_from {j : Nat} {l : List UInt8} (h0 : l ≠ []) (hj : word (j : Int) = l) : ∀ (f k : Nat), k ≤ j → j < k + f → (∀ m : Nat, k ≤ m → m < j → word (m : Int) ≠ l) → kindF f k l = j
  | 0, k, h1, h2, _ => by omega
  | f + 1, k, h1, h2, h => by
    rcases Nat.lt_or_ge k j with g | g
    · rw [kindF_skip (h k (Nat.le_refl _) g), kindF_from h0 hj f (k + 1) g (by omega) fun m a b => h m (by omega) b]
    · obtain rfl : k = j := by omega
      exact kindF_hit h0 hj
theorem kindF_none {l : List UInt8} : ∀ (f k : Nat), (∀ m : Nat, k ≤ m → m < k + f → word (m : Int) ≠ l) → kindF f k l = 0
  | 0, _, _ => rfl
  | f + 1, k, h => by rw [kindF_skip (h k (Nat.le_refl _) (by omega)), kindF_none f (k + 1) fun m a b => h m (by omega) (by omega)]
theorem kind_first {j : Nat} {l : List UInt8} (hj : j < 15) (h : ∀ m : Nat, m < j → word (m : Int) ≠ l) (e : word (j : Int) = l) : kind l = j := by
  rcases Nat.eq_zero_or_pos j with rfl | hp
  · rw [← e]; decide
  · have h0 : l ≠ [] := fun g => h 0 hp (by rw [g]; decide)
    unfold kind
    exact kindF_from h0 e 14 1 hp (by omega) fun m _ b => h m b
theorem kind_none {l : List UInt8} (h : ∀ m : Nat, m < 15 → word (m : Int) ≠ l) : kind l = 0 := by
  unfold kind
  exact kindF_none 14 1 fun m _ b => h m (by omega)
end Go.Proofs.YtlpmcohbbffbfaaDoor.Nm
namespace Go.Proofs
open Go.Shelf
def Tryd.lays146_ren : Go.Shelf.Ren := ⟨fun | 146 => 62 | 221 => 69 | 268 => 74 | 138 => 75 | 143 => 76 | 195 => 80 | 197 => 81 | 218 => 82 | 219 => 83 | 260 => 84 | 217 => 85 | 225 => 86 | 224 => 87 | 267 => 88 | 266 => 89 | 314 => 90 | n => n, fun | 9 => 9 | 31 => 25 | 3 => 3 | 4 => 4 | 0 => 0 | 105 => 116 | 21 => 21 | 5 => 5 | 46 => 112 | 119 => 119 | 139 => 122 | 138 => 121 | 146 => 124 | 51 => 123 | n => n, fun | 1 => 2 | 3 => 3 | 4 => 4 | n => n⟩
theorem Tryd.lays146 : Go.Proofs.Lays.n146 Tryd.prog Tryd.lays146_ren := {
  mixed := by kernel_rfl
  f138 := Tryd.func75.trans (congrArg some (by kernel_rfl))
  f143 := Tryd.func76.trans (congrArg some (by kernel_rfl))
  f146 := Tryd.func62.trans (congrArg some (by kernel_rfl))
  f195 := Tryd.func80.trans (congrArg some (by kernel_rfl))
  f197 := Tryd.func81.trans (congrArg some (by kernel_rfl))
  f217 := Tryd.func85.trans (congrArg some (by kernel_rfl))
  f218 := Tryd.func82.trans (congrArg some (by kernel_rfl))
  f219 := Tryd.func83.trans (congrArg some (by kernel_rfl))
  f221 := Tryd.func69.trans (congrArg some (by kernel_rfl))
  f224 := Tryd.func87.trans (congrArg some (by kernel_rfl))
  f225 := Tryd.func86.trans (congrArg some (by kernel_rfl))
  f260 := Tryd.func84.trans (congrArg some (by kernel_rfl))
  f266 := Tryd.func89.trans (congrArg some (by kernel_rfl))
  f267 := Tryd.func88.trans (congrArg some (by kernel_rfl))
  f268 := Tryd.func74.trans (congrArg some (by kernel_rfl))
  f314 := Tryd.func90.trans (congrArg some (by kernel_rfl))
  t0 := Tryd.underlying0
  a0 := Tryd.isAgg0
  z0 := Tryd.sizeOf0
  v0 := Tryd.zeroValue0
  t3 := Tryd.underlying3
  a3 := Tryd.isAgg3
  z3 := Tryd.sizeOf3
  v3 := Tryd.zeroValue3
  t4 := Tryd.underlying4
  a4 := Tryd.isAgg4
  z4 := Tryd.sizeOf4
  v4 := Tryd.zeroValue4
  t5 := Tryd.underlying5
  a5 := Tryd.isAgg5
  z5 := Tryd.sizeOf5
  v5 := Tryd.zeroValue5
  t9 := Tryd.underlying9
  a9 := Tryd.isAgg9
  z9 := Tryd.sizeOf9
  v9 := Tryd.zeroValue9
  t21 := Tryd.underlying21
  a21 := Tryd.isAgg21
  z21 := Tryd.sizeOf21
  v21 := Tryd.zeroValue21
  t31 := Tryd.underlying25
  a31 := Tryd.isAgg25
  z31 := Tryd.sizeOf25
  v31 := Tryd.zeroValue25
  t46 := Tryd.underlying112
  a46 := Tryd.isAgg112
  z46 := Tryd.sizeOf112
  v46 := Tryd.zeroValue112
  t51 := Tryd.underlying123
  a51 := Tryd.isAgg123
  z51 := Tryd.sizeOf123
  v51 := Tryd.zeroValue123
  t105 := Tryd.underlying116
  a105 := Tryd.isAgg116
  z105 := Tryd.sizeOf116
  v105 := Tryd.zeroValue116
  t119 := Tryd.underlying119
  a119 := Tryd.isAgg119
  z119 := Tryd.sizeOf119
  t138 := Tryd.underlying121
  a138 := Tryd.isAgg121
  z138 := Tryd.sizeOf121
  v138 := Tryd.zeroValue121
  t139 := Tryd.underlying122
  a139 := Tryd.isAgg122
  z139 := Tryd.sizeOf122
  v139 := Tryd.zeroValue122
  t146 := Tryd.underlying124
  a146 := Tryd.isAgg124
  z146 := Tryd.sizeOf124
  v146 := Tryd.zeroValue124
  g1 := by kernel_rfl
  g3 := by kernel_rfl
  g4 := by kernel_rfl }
def Tryd.laysM316_ren : Go.Shelf.Ren := ⟨fun | 316 => 36 | n => n, fun | 9 => 9 | 3 => 3 | 4 => 4 | 37 => 23 | 0 => 0 | 127 => 82 | 5 => 5 | n => n, fun | n => n⟩
theorem Tryd.laysM316 : Go.Proofs.LaysM.n316 Tryd.prog Tryd.laysM316_ren := {
  mixed := by kernel_rfl
  f316 := Tryd.func36.trans (congrArg some (by kernel_rfl))
  t0 := Tryd.underlying0
  a0 := Tryd.isAgg0
  z0 := Tryd.sizeOf0
  v0 := Tryd.zeroValue0
  t3 := Tryd.underlying3
  a3 := Tryd.isAgg3
  z3 := Tryd.sizeOf3
  v3 := Tryd.zeroValue3
  t4 := Tryd.underlying4
  a4 := Tryd.isAgg4
  z4 := Tryd.sizeOf4
  v4 := Tryd.zeroValue4
  t9 := Tryd.underlying9
  a9 := Tryd.isAgg9
  z9 := Tryd.sizeOf9
  v9 := Tryd.zeroValue9
  t37 := Tryd.underlying23
  a37 := Tryd.isAgg23
  z37 := Tryd.sizeOf23
  v37 := Tryd.zeroValue23
  t127 := Tryd.underlying82
  a127 := Tryd.isAgg82
  z127 := Tryd.sizeOf82
  v127 := Tryd.zeroValue82
  t5 := Tryd.underlying5
  a5 := Tryd.isAgg5
  z5 := Tryd.sizeOf5
  v5 := Tryd.zeroValue5
  i0 := by kernel_rfl
  i3 := by kernel_rfl
  i4 := by kernel_rfl
  i5 := by kernel_rfl
  i9 := by kernel_rfl
  i37 := by kernel_rfl
  i127 := by kernel_rfl }
open Go.RowKit in
theorem Tryd.stringslite_Clone (s : ByteArray) (w : World) (hlim : s.size ≤ 281474976710656) :
    Calls Tryd.prog 36 #[.string s] w fun e w' => e = .returned (.string s) ∧ Below w.heap.size w w' := Any.stringslite_Clone Tryd.laysM316 s w hlim
end Go.Proofs
namespace Go.Proofs.YtlpmcohbbffbfaaDoor
open Go.ChangeShapes Go.WideShapes Go.ChangeAt Go.RowKit Mem
abbrev LaidN := Laid
theorem LaidN.below {w w' : World} (h : LaidN w) (b : Below w.heap.size w w') : LaidN w' := Laid.below h b h.top
def Ans (v : Value) (w : World) (e : Ending) (w' : World) : Prop := e = .returned v ∧ Below w.heap.size w w'
theorem Pure.ans {v : Value} {w w' : World} {e : Ending} (h : Pure v w e w') : Ans v w e w' := ⟨h.1, by rw [← h.2]; exact Below.refl _ _⟩
theorem ne_facts {s : ByteArray} (h : s ≠ ⟨#[]⟩) : (s.toList != (⟨#[]⟩ : ByteArray).toList) = true ∧ (s.toList != []) = true ∧ s.toList.isEmpty = false ∧ (s.toList == (⟨#[]⟩ : ByteArray).toList) = false ∧ (s.toList == []) = false := by
  have e0 : (⟨#[]⟩ : ByteArray).toList = [] := by rw [ByteArray.toList_eq]
  have sx : (s.toList != (⟨#[]⟩ : ByteArray).toList) = true := by rw [str_bne]; simpa using h
  have sy : (s.toList == (⟨#[]⟩ : ByteArray).toList) = false := by rw [str_beq]; simpa using h
  have sx3 : (s.toList != []) = true := by rwa [e0] at sx
  have sy3 : (s.toList == []) = false := by rwa [e0] at sy
  exact ⟨sx, sx3, by rw [List.isEmpty_eq_false_iff]; simpa using sx3, sy, sy3⟩
theorem size_0 {s : ByteArray} (h : s.size = 0) : s = ⟨#[]⟩ := by
  rw [← sst_out s]
  have := len_str s
  rw [h] at this
  rw [List.length_eq_zero_iff.1 this]
  rfl
set_option maxRecDepth 100000 in
theorem nletter_any (c : Nat) (_h : c < 256) (w : World) : Calls Tryd.prog 64 #[.int .u8 (c : Int)] w (Pure (.bool (Nm.lt c)) w) := by
  obtain ⟨b, hb⟩ : ∃ b, b = Nm.lt c := ⟨_, rfl⟩
  rw [← hb]
  unfold Nm.lt at hb
  rcases (show c < 65 ∨ (65 ≤ c ∧ c ≤ 90) ∨ (90 < c ∧ c < 95) ∨ c = 95 ∨ c = 96 ∨ (97 ≤ c ∧ c ≤ 122) ∨ 122 < c by omega) with g | ⟨g1, g2⟩ | ⟨g1, g2⟩ | g | g | ⟨g1, g2⟩ | g
  all_goals
    first
      | (have hq : b = true := by rw [hb, decide_eq_true_eq]; omega)
      | (have hq : b = false := by rw [hb, decide_eq_false_iff_not]; omega)
    subst hq
    clear hb
    try subst g
    try (have t90 : (c : Int) ≤ 90 := by omega)
    try (have t90 : ¬ (c : Int) ≤ 90 := by omega)
    try (have t122 : (c : Int) ≤ 122 := by omega)
    try (have t122 : ¬ (c : Int) ≤ 122 := by omega)
    try (have t65 : (65 : Int) ≤ (c : Int) := by omega)
    try (have t65 : ¬ (65 : Int) ≤ (c : Int) := by omega)
    try (have t97 : (97 : Int) ≤ (c : Int) := by omega)
    try (have t97 : ¬ (97 : Int) ≤ (c : Int) := by omega)
    try (have q95 : ((c : Int) == 95) = false := by rw [beq_eq_false_iff_ne]; omega)
    go_enter Tryd.func64, Tryd.ntmps64
    go_wp2_with fail
    go_ret
    exact ⟨rfl, rfl⟩
set_option maxRecDepth 100000 in
theorem ndigit_any (c : Nat) (_h : c < 256) (w : World) : Calls Tryd.prog 63 #[.int .u8 (c : Int)] w (Pure (.bool (Jx.isD c)) w) := by
  obtain ⟨b, hb⟩ : ∃ b, b = Jx.isD c := ⟨_, rfl⟩
  rw [← hb]
  unfold Jx.isD at hb
  rcases (show c < 48 ∨ (48 ≤ c ∧ c ≤ 57) ∨ 57 < c by omega) with g | ⟨g1, g2⟩ | g
  all_goals
    first
      | (have hq : b = true := by rw [hb, decide_eq_true_eq]; omega)
      | (have hq : b = false := by rw [hb, decide_eq_false_iff_not]; omega)
    subst hq
    clear hb
    try (have t57 : (c : Int) ≤ 57 := by omega)
    try (have t57 : ¬ (c : Int) ≤ 57 := by omega)
    try (have t48 : (48 : Int) ≤ (c : Int) := by omega)
    try (have t48 : ¬ (48 : Int) ≤ (c : Int) := by omega)
    go_enter Tryd.func63, Tryd.ntmps63
    go_wp2_with fail
    go_ret
    exact ⟨rfl, rfl⟩
theorem lt_digit {c : Nat} (h : Nm.lt c = true) : Jx.isD c = false := by
  unfold Nm.lt at h
  unfold Jx.isD
  rw [decide_eq_true_eq] at h
  rw [decide_eq_false_iff_not]; omega
theorem ch_digit {c : Nat} (h : Nm.ch c = true) (k : Jx.isD c = false) : Nm.lt c = true := by
  unfold Nm.ch at h; rw [k, Bool.or_false] at h; exact h
set_option maxRecDepth 100000 in
set_option maxHeartbeats 2000000 in
theorem nSimple_pure (s : ByteArray) (hs : s.size ≤ 1000000000) (w : World) : Calls Tryd.prog 55 #[.string s] w (Pure (.bool (Nm.simple s.data.toList)) w) := by
  obtain ⟨l, hl⟩ : ∃ l, l = s.data.toList := ⟨_, rfl⟩
  have ix := fun j h W => idx_str s j h W
  have ln := len_str s
  rw [← hl] at ix ln ⊢
  have SI := Lib.hid (@simple_iff l)
  have NO := Lib.hid (@simple_no l)
  obtain ⟨R, hR⟩ : ∃ R, R = Nm.simple l := ⟨_, rfl⟩
  rw [← hR] at SI NO ⊢
  have IX := Lib.hid ix
  have LT := Lib.hid (fun c h W => nletter_any c h W)
  have DG := Lib.hid (fun c h W => ndigit_any c h W)
  have LN := Lib.hid ln
  clear ix
  by_cases h0 : s.size = 0
  · have Z := Lib.hid (NO.out fun h => h.1 (by rw [LN.out]; exact h0))
    obtain rfl := size_0 h0
    clear IX LT DG NO SI LN hR h0 hl ln hs
    go_enter Tryd.func55, Tryd.ntmps55
    go_wp2_with fail
    go_ret
    exact pure_ret (by first | (rw [Z.out]; done) | (rw [Z.out]; rfl))
  · obtain ⟨n1, n2, n3, n4, n5⟩ := ne_facts (s := s) (fun e => h0 (by rw [e]; rfl))
    obtain ⟨n, hn⟩ : ∃ n, n = s.size := ⟨_, rfl⟩
    have HN := Lib.hid hn
    rw [← hn] at h0 hs IX LN
    clear hl hR hn ln
    by_cases h1 : 100 < n
    · have q1 : (100 : Int) < (s.size : Int) := by rw [← HN.out]; omega
      have Z := Lib.hid (NO.out fun h => by have := h.2.1; rw [LN.out] at this; omega)
      clear IX LT DG NO SI
      go_enter Tryd.func55, Tryd.ntmps55
      go_wp2_with fail
      go_ret
      exact pure_ret (by first | (rw [Z.out]; done) | (rw [Z.out]; rfl))
    · have q1 : ¬ (100 : Int) < (s.size : Int) := by rw [← HN.out]; omega
      have i0 := IX.out 0 (by omega)
      have D0 := Lib.hid (DG.out (Jx.byt l 0) (Jx.byt_lt l 0))
      obtain ⟨b, hb⟩ : ∃ b, b = Jx.isD (Jx.byt l 0) := ⟨_, rfl⟩
      rw [← hb] at D0
      have HB := Lib.hid hb
      rw [show ((0 : Nat) : Int) = 0 from rfl] at i0
      clear hb
      cases b with
      | true =>
        have Z := Lib.hid (NO.out fun h => by have := lt_digit h.2.2.1; rw [← HB.out] at this; cases this)
        clear IX LT DG NO SI HB
        go_enter Tryd.func55, Tryd.ntmps55
        go_wp2_with fail
        with_reducible refine (D0.out _).mono ?_
        rintro e w1 ⟨rfl, rfl⟩
        go_wp2_with fail
        go_ret
        exact pure_ret (by first | (rw [Z.out]; done) | (rw [Z.out]; rfl))
      | false =>
        have hn1 : n ≤ 100 := by omega
        have hn0 : n ≠ 0 := h0
        have Y : Hid ((∀ j, j < n → Nm.ch (Jx.byt l j) = true) → R = true) := fun h => SI.out.2 ⟨by rw [LN.out]; exact hn0, by rw [LN.out]; exact hn1, ch_digit (h 0 (by omega)) HB.out.symm, by rw [LN.out]; exact h⟩
        have X : Hid (∀ j, j < n → Nm.ch (Jx.byt l j) = false → R = false) := fun j hj e => NO.out fun h => by
          have := h.2.2.2 j (by rw [LN.out]; exact hj)
          rw [e] at this; cases this
        clear NO SI HB
        go_enter Tryd.func55, Tryd.ntmps55
        go_wp2_with fail
        with_reducible refine (D0.out _).mono ?_
        rintro e w1 ⟨rfl, rfl⟩
        go_wp2_with fail
        go_loopw [18] (fun t wr => ∃ j : Nat, j ≤ n ∧ t = .int .i64 (j : Int) ∧ Hid (∀ m, m < j → Nm.ch (Jx.byt l m) = true) ∧ wr = w) (fun t _ => n - (intOf t).toNat)
        case atStart => exact ⟨0, Nat.zero_le _, rfl, fun _ h => absurd h (Nat.not_lt_zero _), rfl⟩
        case round =>
          obtain ⟨j, hj, rfl, AL, rfl⟩ := hrel
          by_cases hjn : j < n
          · have qj : (j : Int) < (s.size : Int) := by rw [← HN.out]; omega
            have ij := IX.out j (by omega)
            have LJ := Lib.hid (LT.out (Jx.byt l j) (Jx.byt_lt l j))
            have DJ := Lib.hid (DG.out (Jx.byt l j) (Jx.byt_lt l j))
            have XJ := Lib.hid (X.out j hjn)
            have CH : Hid (Nm.ch (Jx.byt l j) = (Nm.lt (Jx.byt l j) || Jx.isD (Jx.byt l j))) := rfl
            have NX : Hid (Nm.ch (Jx.byt l j) = true → ∀ m, m < j + 1 → Nm.ch (Jx.byt l m) = true) := fun e m hm => by
              rcases Nat.lt_or_ge m j with g | g
              · exact AL.out m g
              · obtain rfl : m = j := by omega
                exact e
            obtain ⟨C, hC⟩ : ∃ C, C = Nm.ch (Jx.byt l j) := ⟨_, rfl⟩
            obtain ⟨a, ha⟩ : ∃ a, a = Nm.lt (Jx.byt l j) := ⟨_, rfl⟩
            obtain ⟨d, hd⟩ : ∃ d, d = Jx.isD (Jx.byt l j) := ⟨_, rfl⟩
            rw [← hC] at XJ CH NX
            rw [← ha] at LJ CH
            rw [← hd] at DJ CH
            clear hC ha hd
            go_wp2_with fail
            with_reducible refine (LJ.out _).mono ?_
            rintro e w1 ⟨rfl, rfl⟩
            cases a with
            | true =>
              have nx := NX.out (by rw [CH.out]; rfl)
              have NX2 := Lib.hid nx
              clear nx NX
              go_wp2_with fail
              go_roundw
              case rel => exact ⟨j + 1, by omega, by go_num, NX2, by first | rfl | trivial⟩
              case measure => simp [intOf]; omega
            | false =>
              go_wp2_with fail
              with_reducible refine (DJ.out _).mono ?_
              rintro e w1 ⟨rfl, rfl⟩
              cases d with
              | true =>
                have nx := NX.out (by rw [CH.out]; rfl)
                have NX2 := Lib.hid nx
                clear nx NX
                go_wp2_with fail
                go_roundw
                case rel => exact ⟨j + 1, by omega, by go_num, NX2, by first | rfl | trivial⟩
                case measure => simp [intOf]; omega
              | false =>
                have Z := Lib.hid (XJ.out (by rw [CH.out]; rfl))
                go_wp2_with fail
                go_ret
                exact pure_ret (by first | (rw [Z.out]; done) | (rw [Z.out]; rfl))
          · obtain rfl : j = n := by omega
            have qj : ¬ (j : Int) < (s.size : Int) := by rw [← HN.out]; omega
            have Z := Lib.hid (Y.out AL.out)
            clear hjn
            go_wp2_with fail
            go_ret
            exact pure_ret (by first | (rw [Z.out]; done) | (rw [Z.out]; rfl))
theorem nSimple_any (s : ByteArray) (hs : s.size ≤ 1000000000) (w : World) (_hL : LaidN w) : Calls Tryd.prog 55 #[.string s] w (Ans (.bool (Nm.simple s.data.toList)) w) :=
  (nSimple_pure s hs w).mono fun _ _ h => h.ans
def Cut (s : ByteArray) (w : World) (e : Ending) (w' : World) : Prop :=
  ∃ L : List ByteArray, L.map (·.data.toList) = Nm.parts s.data.toList ∧ e = .returned (.slice (some ⟨w.heap.size, 0, none⟩) L.length L.length) ∧ w' = w.alloc (.cells (L.map Value.string).toArray 9)
set_option maxHeartbeats 2000000 in
theorem split_any (s : ByteArray) (hs : s.size ≤ 1000000000) (w : World) : Calls Tryd.prog 62 #[.string s, .string ⟨#[46]⟩] w (Cut s w) := by
  have L := Tryd.lays146
  have hle := Lib.countB_le ⟨#[46]⟩ (by decide) s.size s (Nat.le_refl _)
  have hlen := Lib.splitB_all ⟨#[46]⟩ (by decide) 0 _ s rfl
  have c : Calls Tryd.prog 69 #[.string s, .string ⟨#[46]⟩, .int .i64 0, .int .i64 (-1)] w fun e w' =>
      e = .returned (.slice (some ⟨w.heap.size, 0, none⟩) (Lib.splitB ⟨#[46]⟩ 0 (Lib.countB s ⟨#[46]⟩ + 1 - 1) s).length (Lib.countB s ⟨#[46]⟩ + 1)) ∧ w' = w.alloc (.cells (Lib.cellsOf (Lib.splitB ⟨#[46]⟩ 0 (Lib.countB s ⟨#[46]⟩ + 1 - 1) s) (Lib.countB s ⟨#[46]⟩ + 1)) 9) :=
    Any.strings_genSplit_core { L with } (by kernel_rfl) s ⟨#[46]⟩ 0 (-1) (Lib.countB s ⟨#[46]⟩ + 1) w (by omega) (by decide) (by decide)
      (fun x cc _ => by
        refine (Any.strings_Index_one { L with } x 46 (w.alloc (.cells cc 9))).mono ?_
        rintro e w' ⟨h1, h2⟩
        refine ⟨?_, h2⟩
        rw [h1]
        show _ = Ending.returned (Value.int .i64 (Lib.index x.data.toList [46]))
        rw [Lib.index_one])
      (by
        refine (Any.strings_Count_one { L with } s 46 w).mono ?_
        rintro e w' ⟨h1, h2⟩
        refine ⟨?_, h2⟩
        rw [h1]
        show _ = Ending.returned (Value.int .i64 ((Lib.count s.data.toList [46] : Nat) : Int))
        rw [Lib.count_one]
        rfl)
      (by decide) (by decide) (by rw [if_pos (by decide)]; omega)
  rw [Nat.add_sub_cancel, hlen] at c
  have e2 : Lib.cellsOf (Lib.splitB ⟨#[46]⟩ 0 (Lib.countB s ⟨#[46]⟩) s) (Lib.countB s ⟨#[46]⟩ + 1) = ((Lib.splitB ⟨#[46]⟩ 0 (Lib.countB s ⟨#[46]⟩) s).map Value.string).toArray := by rw [← hlen]; exact Lib.cellsOf_full _
  rw [e2, ← hlen] at c
  have e3 : (Lib.splitB ⟨#[46]⟩ 0 (Lib.countB s ⟨#[46]⟩) s).map (·.data.toList) = Nm.parts s.data.toList := by
    rw [Lib.splitB_data, ← Nm.splitK_parts]
  generalize Lib.splitB ⟨#[46]⟩ 0 (Lib.countB s ⟨#[46]⟩) s = L0 at *
  have C := Lib.hid c
  have E3 := Lib.hid e3
  clear c e3 e2 hlen hle L
  go_enter Tryd.func62, Tryd.ntmps62
  go_wp2_with fail
  refine (C.out).mono ?_
  rintro e w1 ⟨rfl, rfl⟩
  go_wp2_with fail
  go_ret
  exact ⟨L0, E3.out, rfl, rfl⟩
end Go.Proofs.YtlpmcohbbffbfaaDoor
namespace Go.Proofs.YtlpmcohbbffbfaaDoor
open Go.ChangeShapes Go.WideShapes Go.ChangeAt Go.RowKit Mem
theorem sclone_any (s : ByteArray) (hs : s.size ≤ 1000000000) (w : World) : Calls Tryd.prog 21 #[.string s] w (Ans (.string s) w) := by
  have C := Lib.hid (fun W => Tryd.stringslite_Clone s W (by omega))
  go_enter Tryd.func21, Tryd.ntmps21
  go_wp2_with fail
  refine (C.out _).mono ?_
  rintro e w1 ⟨rfl, b1⟩
  go_wp2_with fail
  go_ret
  exact ⟨rfl, b1⟩
theorem parts_cell (w : World) (L : List ByteArray) (i : Nat) (h : i < L.length) : (w.alloc (.cells (L.map Value.string).toArray 9)).cell? ⟨w.heap.size, i, none⟩ = some (.string (L.getD i ⟨#[]⟩)) := by
  have hh : (w.alloc (.cells (L.map Value.string).toArray 9)).heap[w.heap.size]? = some (.cells (L.map Value.string).toArray 9 (0, 0)) := heap_alloc_new w _
  rw [cell_of_row _ _ _ _ _ _ hh]
  simp [List.getD, List.getElem?_eq_getElem h]
set_option maxRecDepth 100000 in
set_option maxHeartbeats 2000000 in
theorem nFull_any (s : ByteArray) (hs : s.size ≤ 1000000000) (w : World) (_hL : LaidN w) : Calls Tryd.prog 52 #[.string s] w (Ans (.bool (Nm.full s.data.toList)) w) := by
  have ln := len_str s
  have FP := Nm.full_parts' s.data.toList
  rw [ln] at FP
  obtain ⟨R, hR⟩ : ∃ R, R = Nm.full s.data.toList := ⟨_, rfl⟩
  rw [← hR] at FP ⊢
  by_cases h1 : 100 < s.size
  · have q : (100 : Int) < (s.size : Int) := by omega
    have Z : Hid (R = false) := by show _ = _; rw [FP, decide_eq_false (by omega)]; rfl
    clear hR FP
    go_enter Tryd.func52, Tryd.ntmps52
    go_wp2_with fail
    go_ret
    exact ⟨by first | (rw [Z.out]; done) | (rw [Z.out]; rfl), Below.refl _ _⟩
  · have q : ¬ (100 : Int) < (s.size : Int) := by omega
    rw [decide_eq_true (by omega), Bool.true_and] at FP
    have SPL := Lib.hid (fun W => split_any s hs W)
    have FPH := Lib.hid FP
    have hsz : s.size ≤ 100 := by omega
    clear FP hR h1
    go_enter Tryd.func52, Tryd.ntmps52
    go_wp2_with fail
    refine (SPL.out _).mono ?_
    rintro e w1 ⟨L, hL, rfl, rfl⟩
    have KL : Hid (∀ i, i < L.length → (L.getD i ⟨#[]⟩).size ≤ 1000000000) := fun i hi => by
      have := Nm.parts_small s.data.toList ((L.getD i ⟨#[]⟩).data.toList) (by rw [← hL]; exact List.mem_map.2 ⟨_, by simp [List.getD, List.getElem?_eq_getElem hi], rfl⟩)
      rw [len_str] at this
      omega
    have RA : Hid (R = L.all fun x => Nm.simple x.data.toList) := by show _ = _; rw [FPH.out, ← hL, List.all_map]; rfl
    have nb : L.length ≤ 101 := by have a := congrArg List.length hL; have b := Nm.parts_count s.data.toList; rw [List.length_map] at a; omega
    have CE := fun i h => parts_cell w L i h
    have NB : w.heap.size < (w.alloc (.cells (L.map Value.string).toArray 9)).heap.size := by simp
    have BW : Below w.heap.size w (w.alloc (.cells (L.map Value.string).toArray 9)) := (Below.refl _ _).alloc (Nat.le_refl _) _
    generalize w.alloc (.cells (L.map Value.string).toArray 9) = w2 at *
    obtain ⟨n, hn⟩ : ∃ n, n = L.length := ⟨_, rfl⟩
    rw [← hn] at CE KL nb ⊢
    have HN := Lib.hid hn
    clear hL hn FPH SPL
    have CEH := Lib.hid CE
    clear CE
    go_wp2_with fail
    go_loopw [11] (fun t wr => ∃ j : Nat, j ≤ n ∧ t = .int .i64 (j : Int) ∧ Hid (∀ m, m < j → Nm.simple (L.getD m ⟨#[]⟩).data.toList = true) ∧ wr = w2) (fun t _ => n - (intOf t).toNat)
    case atStart => exact ⟨0, Nat.zero_le _, rfl, fun _ h => absurd h (Nat.not_lt_zero _), rfl⟩
    case round =>
      obtain ⟨j, hj, rfl, AL, rfl⟩ := hrel
      by_cases hjn : j < n
      · have qj : (j : Int) < (n : Int) := by omega
        have cj := CEH.out j hjn
        have SJ := Lib.hid (fun W => nSimple_pure (L.getD j ⟨#[]⟩) (KL.out j hjn) W)
        have NX : Hid (Nm.simple (L.getD j ⟨#[]⟩).data.toList = true → ∀ m, m < j + 1 → Nm.simple (L.getD m ⟨#[]⟩).data.toList = true) := fun e m hm => by
          rcases Nat.lt_or_ge m j with g | g
          · exact AL.out m g
          · obtain rfl : m = j := by omega
            exact e
        have XJ : Hid (Nm.simple (L.getD j ⟨#[]⟩).data.toList = false → R = false) := fun e => by
          rw [RA.out, List.all_eq_false]
          exact ⟨L.getD j ⟨#[]⟩, by rw [List.getD, List.getElem?_eq_getElem (by rw [← HN.out]; exact hjn)]; simp, by rw [e]; decide⟩
        generalize L.getD j ⟨#[]⟩ = P at *
        obtain ⟨b, hb⟩ : ∃ b, b = Nm.simple P.data.toList := ⟨_, rfl⟩
        rw [← hb] at SJ NX XJ
        clear hb
        go_wp2_with fail
        with_reducible refine (SJ.out _).mono ?_
        rintro e w1 ⟨rfl, rfl⟩
        cases b with
        | true =>
          have NX2 := Lib.hid (NX.out rfl)
          go_wp2_with fail
          go_roundw
          case rel => exact ⟨j + 1, by omega, by go_num, NX2, by first | rfl | trivial⟩
          case measure => simp [intOf]; omega
        | false =>
          have Z := Lib.hid (XJ.out rfl)
          go_wp2_with fail
          go_ret
          exact ⟨by first | (rw [Z.out]; done) | (rw [Z.out]; rfl), BW⟩
      · obtain rfl : j = n := by omega
        have qj : ¬ (j : Int) < (j : Int) := by omega
        have Z : Hid (R = true) := by
          show _ = _
          rw [RA.out, List.all_eq_true]
          intro x hx
          obtain ⟨m, hm, rfl⟩ := List.getElem_of_mem hx
          have := AL.out m (by rw [HN.out]; exact hm)
          rwa [List.getD, List.getElem?_eq_getElem hm, Option.getD_some] at this
        clear hjn
        go_wp2_with fail
        go_ret
        exact ⟨by first | (rw [Z.out]; done) | (rw [Z.out]; rfl), BW⟩
end Go.Proofs.YtlpmcohbbffbfaaDoor
namespace Go.Proofs.YtlpmcohbbffbfaaDoor
open Go.RowKit Mem
def Alike (v u : Value) : Prop := (∃ k n m, v = .int k n ∧ u = .int k m) ∨ (∃ s t, v = .string s ∧ u = .string t) ∨ u = v
structure Sim (S : Nat → Prop) (w w' : World) : Prop where
  os : w'.os = w.os
  tape : w'.tape = w.tape
  output : w'.output = w.output
  size : w'.heap.size = w.heap.size
  out : ∀ k, ¬ S k → w'.heap[k]? = w.heap[k]?
  fro : ∀ p, w'.frozen? p = w.frozen? p
  like : ∀ (g i : Nat) v, w.cell? ⟨g, i, none⟩ = some v → ∃ u, w'.cell? ⟨g, i, none⟩ = some u ∧ Alike v u
section
variable {S : Nat → Prop} {w w' : World}
theorem Sim.refl : Sim S w w := ⟨rfl, rfl, rfl, rfl, fun _ _ => rfl, fun _ => rfl, fun _ _ v h => ⟨v, h, .inr (.inr rfl)⟩⟩
theorem Sim.below {B : Nat} (h : Sim S w w') (hB : ∀ k, S k → B ≤ k) : Below B w w' :=
  ⟨h.os, h.tape, h.output, by rw [h.size]; exact Nat.le_refl _, fun k hk => h.out k fun hS => absurd (hB k hS) (by omega)⟩
theorem Sim.cell (h : Sim S w w') {p : Addr} (hp : ¬ S p.block) : w'.cell? p = w.cell? p := World.cell?_of_block (w := w) (h.out _ hp)
theorem Sim.int (h : Sim S w w') {g i : Nat} {k : IntKind} {n : Int} (hc : w.cell? ⟨g, i, none⟩ = some (.int k n)) : ∃ m, w'.cell? ⟨g, i, none⟩ = some (.int k m) := by
  obtain ⟨u, hu, ⟨k', n', m, e, rfl⟩ | ⟨s, t, e, rfl⟩ | rfl⟩ := h.like _ _ _ hc
  · obtain ⟨rfl, rfl⟩ := Value.int.inj e; exact ⟨m, hu⟩
  · cases e
  · exact ⟨n, hu⟩
theorem Sim.str (h : Sim S w w') {g i : Nat} {s : ByteArray} (hc : w.cell? ⟨g, i, none⟩ = some (.string s)) : ∃ t, w'.cell? ⟨g, i, none⟩ = some (.string t) := by
  obtain ⟨u, hu, ⟨k', n', m, e, rfl⟩ | ⟨s, t, e, rfl⟩ | rfl⟩ := h.like _ _ _ hc
  · cases e
  · exact ⟨t, hu⟩
  · exact ⟨s, hu⟩
theorem Sim.slice (h : Sim S w w') {g i : Nat} {A : Option Addr} {n c : Nat} (hc : w.cell? ⟨g, i, none⟩ = some (.slice A n c)) : w'.cell? ⟨g, i, none⟩ = some (.slice A n c) := by
  obtain ⟨u, hu, ⟨k', n', m, e, rfl⟩ | ⟨s, t, e, rfl⟩ | rfl⟩ := h.like _ _ _ hc
  · cases e
  · cases e
  · exact hu
theorem Alike.trans {a b c : Value} (h : Alike a b) (g : Alike b c) : Alike a c := by
  rcases h with ⟨k, n, m, rfl, rfl⟩ | ⟨s, t, rfl, rfl⟩ | rfl
  · rcases g with ⟨k', n', m', e, rfl⟩ | ⟨s, t, e, rfl⟩ | rfl
    · obtain ⟨rfl, rfl⟩ := Value.int.inj e; exact .inl ⟨_, _, _, rfl, rfl⟩
    · cases e
    · exact .inl ⟨_, _, _, rfl, rfl⟩
  · rcases g with ⟨k', n', m', e, rfl⟩ | ⟨s', t', e, rfl⟩ | rfl
    · cases e
    · exact .inr (.inl ⟨_, _, rfl, rfl⟩)
    · exact .inr (.inl ⟨_, _, rfl, rfl⟩)
  · exact g
theorem Sim.set (h : Sim S w w') {g i : Nat} (hg : S g) {v x : Value} (hc : w'.cell? ⟨g, i, none⟩ = some v) (ha : Alike v x) : Sim S w (w'.setCell ⟨g, i, none⟩ x) where
  os := h.os
  tape := h.tape
  output := h.output
  size := by rw [← h.size]; simp [World.setCell]
  out := fun k hk => (Below.heap_setCell _ _ _ _ (fun e => hk (by rw [e]; exact hg))).trans (h.out k hk)
  fro := fun p => (World.frozen?_setCell _ _ _ _).trans (h.fro p)
  like := fun a j u hu => by
    obtain ⟨y, hy, hl⟩ := h.like _ _ _ hu
    rw [cell_set]
    by_cases e : g = a ∧ i = j
    · obtain ⟨rfl, rfl⟩ := e
      rw [if_pos ⟨rfl, rfl⟩, hc]
      rw [hc] at hy
      obtain rfl := Option.some.inj hy
      exact ⟨x, rfl, hl.trans ha⟩
    · rw [if_neg e]
      exact ⟨y, hy, hl⟩
end
end Go.Proofs.YtlpmcohbbffbfaaDoor
namespace Go.Proofs.YtlpmcohbbffbfaaDoor
open Go.RowKit Mem
def Kept (l h : Nat) (w w' : World) : Prop := ∀ p : Addr, l ≤ p.block → p.block < h → w'.cell? p = w.cell? p ∧ w'.frozen? p = w.frozen? p
theorem Kept.below {w w' : World} {B l h : Nat} (b : Below B w w') (hB : h ≤ B) : Kept l h w w' := fun _ _ h2 => ⟨b.cell (Nat.lt_of_lt_of_le h2 hB), b.frozen (Nat.lt_of_lt_of_le h2 hB)⟩
theorem Kept.set {w : World} {l h g i : Nat} (hg : g < l ∨ h ≤ g) (v : Value) : Kept l h w (w.setCell ⟨g, i, none⟩ v) := fun p h1 h2 =>
  ⟨World.cell?_setCell_other w _ _ _ (fun e => by subst e; simp at h1 h2; omega), World.frozen?_setCell _ _ _ _⟩
theorem Kept.trans {a b c : World} {l h : Nat} (k : Kept l h a b) (m : Kept l h b c) : Kept l h a c := fun p h1 h2 => ⟨((m p h1 h2).1).trans (k p h1 h2).1, ((m p h1 h2).2).trans (k p h1 h2).2⟩
def Cp (sc : Sc) (w : World) (l h : Nat) (v : Value) : Prop :=
  ∃ A c, ∃ S : Nat → Prop, v = .agg #[.slice A sc.nodes.length c, .int .i64 sc.root] ∧ (∀ b, S b → l ≤ b ∧ b < h) ∧ Lies w S sc.enc [.slice A sc.nodes.length c, .int .i64 sc.root] ∧ ∀ p : Addr, S p.block → w.frozen? p = false
theorem Cp.keep {sc : Sc} {w w' : World} {l h : Nat} {v : Value} (k : Kept l h w w') (c : Cp sc w l h v) : Cp sc w' l h v := by
  obtain ⟨A, c, S, rfl, hS, hl, hf⟩ := c
  exact ⟨A, c, S, rfl, hS, hl.keep (fun p hp => (k p (hS _ hp).1 (hS _ hp).2).1) fun _ h => h, fun p hp => (k p (hS _ hp).1 (hS _ hp).2).2.trans (hf p hp)⟩
def Bx (w : World) (l h : Nat) (v : Value) : Prop :=
  v = .pointer (some ⟨l, 0, none⟩) ∧ h = l + 1 ∧ (∃ x, w.cell? ⟨l, 0, none⟩ = some x) ∧ (∃ x, w.cell? ⟨l, 1, none⟩ = some x) ∧ w.frozen? ⟨l, 0, none⟩ = false ∧ w.frozen? ⟨l, 1, none⟩ = false
theorem Bx.keep {w w' : World} {l h : Nat} {v : Value} (k : Kept l h w w') (c : Bx w l h v) : Bx w' l h v := by
  obtain ⟨rfl, rfl, ⟨x, hx⟩, ⟨y, hy⟩, f0, f1⟩ := c
  have k0 := k ⟨l, 0, none⟩ (Nat.le_refl _) (Nat.lt_succ_self _)
  have k1 := k ⟨l, 1, none⟩ (Nat.le_refl _) (Nat.lt_succ_self _)
  exact ⟨rfl, rfl, ⟨x, k0.1.trans hx⟩, ⟨y, k1.1.trans hy⟩, k0.2.trans f0, k1.2.trans f1⟩
def Hd (w : World) (l : Nat) (v : Value) : Prop := ∃ x y, v = .agg #[x, y] ∧ w.cell? ⟨l, 0, none⟩ = some x ∧ w.cell? ⟨l, 1, none⟩ = some y
theorem Hd.keep {w w' : World} {l h : Nat} {v : Value} (k : Kept l h w w') (hl : l < h) (c : Hd w l v) : Hd w' l v := by
  obtain ⟨x, y, rfl, h0, h1⟩ := c
  exact ⟨x, y, rfl, (k ⟨l, 0, none⟩ (Nat.le_refl _) hl).1.trans h0, (k ⟨l, 1, none⟩ (Nat.le_refl _) hl).1.trans h1⟩
structure Side (sc : Sc) (base : Nat) (w : World) (bc bb bs : Bool) (vc vb : Value) (lc hc lb hb : Nat) : Prop where
  cp : bc = true → Cp sc w lc hc vc ∧ base ≤ lc
  bx : bb = true → Bx w lb hb vb ∧ base ≤ lb
  hd : bs = true → bc = true ∧ bb = true ∧ Hd w lb vc
  szc : hc ≤ w.heap.size
  szb : hb ≤ w.heap.size
  ap : hc ≤ lb ∨ hb ≤ lc
section
variable {sc : Sc} {base : Nat} {w w' : World} {bc bb bs : Bool} {vc vb : Value} {lc hc lb hb : Nat}
theorem Side.keep (s : Side sc base w bc bb bs vc vb lc hc lb hb) (kc : Kept lc hc w w') (kb : Kept lb hb w w') (hz : w.heap.size ≤ w'.heap.size) : Side sc base w' bc bb bs vc vb lc hc lb hb where
  cp := fun h => ⟨(s.cp h).1.keep kc, (s.cp h).2⟩
  bx := fun h => ⟨(s.bx h).1.keep kb, (s.bx h).2⟩
  hd := fun h => by
    obtain ⟨h1, h2, h3⟩ := s.hd h
    have := (s.bx h2).1.2.1
    exact ⟨h1, h2, h3.keep kb (by omega)⟩
  szc := Nat.le_trans s.szc hz
  szb := Nat.le_trans s.szb hz
  ap := s.ap
theorem Side.put (s : Side sc base w true true bs vc vb lc hc lb hb) {x y : Value} (hv : vc = .agg #[x, y]) : Side sc base ((w.setCell ⟨lb, 0, none⟩ x).setCell ⟨lb, 1, none⟩ y) true true true vc vb lc hc lb hb := by
  obtain ⟨⟨rfl, rfl, ⟨x0, hx⟩, ⟨y0, hy⟩, f0, f1⟩, hB⟩ := s.bx rfl
  have ap := s.ap
  have k : Kept lc hc w ((w.setCell ⟨lb, 0, none⟩ x).setCell ⟨lb, 1, none⟩ y) := (Kept.set (by omega) x).trans (Kept.set (by omega) y)
  have hz : ((w.setCell ⟨lb, 0, none⟩ x).setCell ⟨lb, 1, none⟩ y).heap.size = w.heap.size := by simp [World.setCell]
  have e0 : ((w.setCell ⟨lb, 0, none⟩ x).setCell ⟨lb, 1, none⟩ y).cell? ⟨lb, 0, none⟩ = some x := by
    rw [cell_set, if_neg (by simp), cell_set, if_pos ⟨rfl, rfl⟩, hx]; rfl
  have e1 : ((w.setCell ⟨lb, 0, none⟩ x).setCell ⟨lb, 1, none⟩ y).cell? ⟨lb, 1, none⟩ = some y := by
    rw [cell_set, if_pos ⟨rfl, rfl⟩, cell_set, if_neg (by simp), hy]; rfl
  refine ⟨fun _ => ⟨(s.cp rfl).1.keep k, (s.cp rfl).2⟩, fun _ => ⟨⟨rfl, rfl, ⟨x, e0⟩, ⟨y, e1⟩, ?_, ?_⟩, hB⟩, fun _ => ⟨rfl, rfl, x, y, hv, e0, e1⟩, by rw [hz]; exact s.szc, by rw [hz]; exact s.szb, s.ap⟩
  · rw [World.frozen?_setCell, World.frozen?_setCell]; exact f0
  · rw [World.frozen?_setCell, World.frozen?_setCell]; exact f1
end
structure Sides (sc : Sc) (base : Nat) (w0 w : World) (bc bb bs : Bool) (vc vb : Value) (lc hc lb hb : Nat) (dc db ds : Bool) (uc ub : Value) (mc kc mb kb : Nat) : Prop where
  bel : Below base w0 w
  one : Side sc base w bc bb bs vc vb lc hc lb hb
  two : Side sc base w dc db ds uc ub mc kc mb kb
  cc : hc ≤ mc ∨ kc ≤ lc
  cb : hc ≤ mb ∨ kb ≤ lc
  bc_ : hb ≤ mc ∨ kc ≤ lb
  bb_ : hb ≤ mb ∨ kb ≤ lb
section
variable {sc : Sc} {base : Nat} {w0 w w' : World} {bc bb bs : Bool} {vc vb : Value} {lc hc lb hb : Nat} {dc db ds : Bool} {uc ub : Value} {mc kc mb kb : Nat}
theorem Sides.put (s : Sides sc base w0 w true true bs vc vb lc hc lb hb dc db ds uc ub mc kc mb kb) {x y : Value} (hv : vc = .agg #[x, y]) :
    Sides sc base w0 ((w.setCell ⟨lb, 0, none⟩ x).setCell ⟨lb, 1, none⟩ y) true true true vc vb lc hc lb hb dc db ds uc ub mc kc mb kb := by
  have hk := (s.one.bx rfl).1.2.1
  have hB := (s.one.bx rfl).2
  have a1 := s.bc_; have a2 := s.bb_
  have hz : ((w.setCell ⟨lb, 0, none⟩ x).setCell ⟨lb, 1, none⟩ y).heap.size = w.heap.size := by simp [World.setCell]
  exact ⟨(s.bel.setCell hB x).setCell hB y, s.one.put hv, s.two.keep ((Kept.set (by omega) x).trans (Kept.set (by omega) y)) ((Kept.set (by omega) x).trans (Kept.set (by omega) y)) (by rw [hz]; exact Nat.le_refl _), s.cc, s.cb, s.bc_, s.bb_⟩
end
end Go.Proofs.YtlpmcohbbffbfaaDoor
namespace Go.Proofs.YtlpmcohbbffbfaaDoor
open Go.ChangeShapes Go.WideShapes Go.ChangeAt Go.RowKit Mem
def NewA (s : Nat) (ds : List D) (w : World) (e : Ending) (w' : World) : Prop := ∃ A c, e = .returned (.slice A ds.length c) ∧ ds.length ≤ c ∧ NewR w' w.heap.size s ds A ∧ Below w.heap.size w w'
theorem newA_ret {s n : Nat} {ds : List D} {A : Option Addr} {c : Nat} {w w' : World} (hn : n = ds.length) (hc : n ≤ c) (h : NewR w' w.heap.size s ds A) (b : Below w.heap.size w w') : NewA s ds w (.returned (.slice A n c)) w' := by
  subst hn; exact ⟨A, c, rfl, hc, h, b⟩
theorem kwt_len : ∀ (l : List ByteArray), l.length ≤ kwt l
  | [] => Nat.zero_le _
  | k :: r => by have := kwt_len r; simp only [List.length_cons, kwt]; omega
end Go.Proofs.YtlpmcohbbffbfaaDoor
