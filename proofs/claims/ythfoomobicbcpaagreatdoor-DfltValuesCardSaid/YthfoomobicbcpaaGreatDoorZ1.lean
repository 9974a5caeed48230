/- Joined by tools/bundle.py: UNum Mem Base Laid UtfCard. -/
import Derived.Laws.BitsLemmas
import Derived.Laws.BitsAllLaws
import Derived.Below
import Derived.Maps.AppendAt
import Derived.Deep.AppendLies
import Derived.RegionTactic
import Derived.OwnWalk
import Derived.Laws.OwnMore
import Derived.Laws.BytesArg
import Derived.Deep.Draws
import Derived.Lib.Hide
import Derived.Test.YthfoomobicbcpaaGreatDoorRows
import Derived.WalkKit
import Derived.ProofKit
import Derived.OpenShut
import Derived.Outline
import Derived.LoopTactic
import Derived.Deep.QuietTactic
import Derived.BigQuiet
import Derived.WalkMore
import Derived.Deep.LoopGhost
import Derived.IntWalk
import Derived.Lib.ConvBytes
import Derived.LaidLaws
import Derived.ChangeArms
import Derived.FnData
import Derived.MakeChecks
import Derived.LaidMore
import Derived.KernelRfl
import Derived.Test.YthfoomobicbcpaaGreatDoorZ0
set_option maxRecDepth 100000
set_option maxHeartbeats 16000000
namespace Go.Proofs.YthfoomobicbcpaaGreatDoor.Num
def isC (c : Int) : Prop := 0 ≤ c ∧ c ≤ 1114111 ∧ (c < 55296 ∨ 57343 < c)
instance (c : Int) : Decidable (isC c) := by unfold isC; infer_instance
def ue (c : Nat) : List UInt8 :=
 if c < 128 then [UInt8.ofNat c]
 else if c < 2048 then [UInt8.ofNat (192 + c / 64), UInt8.ofNat (128 + c % 64)]
 else if c < 65536 then [UInt8.ofNat (224 + c / 4096), UInt8.ofNat (128 + c / 64 % 64), UInt8.ofNat (128 + c % 64)]
 else [UInt8.ofNat (240 + c / 262144), UInt8.ofNat (128 + c / 4096 % 64), UInt8.ofNat (128 + c / 64 % 64), UInt8.ofNat (128 + c % 64)]
theorem ue_1 {c : Nat} (h : c < 128) : ue c = [UInt8.ofNat c] := by unfold ue; rw [if_pos h]
theorem ue_2 {c : Nat} (h : 128 ≤ c) (k : c < 2048) : ue c = [UInt8.ofNat (192 + c / 64), UInt8.ofNat (128 + c % 64)] := by unfold ue; rw [if_neg (by omega), if_pos k]
theorem ue_3 {c : Nat} (h : 2048 ≤ c) (k : c < 65536) : ue c = [UInt8.ofNat (224 + c / 4096), UInt8.ofNat (128 + c / 64 % 64), UInt8.ofNat (128 + c % 64)] := by
 unfold ue; rw [if_neg (by omega), if_neg (by omega), if_pos k]
theorem ue_4 {c : Nat} (h : 65536 ≤ c) : ue c = [UInt8.ofNat (240 + c / 262144), UInt8.ofNat (128 + c / 4096 % 64), UInt8.ofNat (128 + c / 64 % 64), UInt8.ofNat (128 + c % 64)] := by
 unfold ue; rw [if_neg (by omega), if_neg (by omega), if_neg (by omega)]
theorem of8 (x : UInt8) : UInt8.ofNat x.toNat = x := by simp
def ask (x : Nat) : Nat := if 244 < x then 0 else if 240 ≤ x then 4 else if 224 ≤ x then 3 else if 194 ≤ x then 2 else if x < 128 then 1 else 0
def mark : Nat → Nat
 | 2 => 192
 | 3 => 224
 | 4 => 240
 | _ => 0
def lo (x : Nat) : Nat := if x = 224 then 160 else if x = 240 then 144 else 128
def hi (x : Nat) : Nat := if x = 237 then 159 else if x = 244 then 143 else 191
theorem ask_is (x : Nat) : (ask x = 0 ∧ (244 < x ∨ (128 ≤ x ∧ x < 194))) ∨ (ask x = 1 ∧ x < 128) ∨ (ask x = 2 ∧ 194 ≤ x ∧ x < 224) ∨ (ask x = 3 ∧ 224 ≤ x ∧ x < 240) ∨ (ask x = 4 ∧ 240 ≤ x ∧ x ≤ 244) := by
 unfold ask; split
 · omega
 · split
   · omega
   · split
     · omega
     · split
       · omega
       · split <;> omega
theorem lo_is (x : Nat) : (x = 224 ∧ lo x = 160) ∨ (x = 240 ∧ lo x = 144) ∨ (x ≠ 224 ∧ x ≠ 240 ∧ lo x = 128) := by
 unfold lo; split
 · omega
 · split <;> omega
theorem hi_is (x : Nat) : (x = 237 ∧ hi x = 159) ∨ (x = 244 ∧ hi x = 143) ∨ (x ≠ 237 ∧ x ≠ 244 ∧ hi x = 191) := by
 unfold hi; split
 · omega
 · split <;> omega
def more : Nat → Nat → Nat → Nat → Nat → List UInt8 → Nat × Nat × Nat
 | 0, _, _, a, s, _ => (a, s, 0)
 | _ + 1, _, _, _, _, [] => (0, 0, 10)
 | k + 1, f, t, a, s, y :: r => if y.toNat < f ∨ t < y.toNat then (0, 0, 11) else more k 128 191 (a * 64 + (y.toNat - 128)) s r
def fst : List UInt8 → Nat × Nat × Nat
 | [] => (0, 0, 10)
 | x :: r => if ask x.toNat = 0 then (0, 0, 11) else more (ask x.toNat - 1) (lo x.toNat) (hi x.toNat) (x.toNat - mark (ask x.toNat)) (ask x.toNat) r
theorem fst_cons (x : UInt8) (r : List UInt8) : fst (x :: r) = if ask x.toNat = 0 then (0, 0, 11) else more (ask x.toNat - 1) (lo x.toNat) (hi x.toNat) (x.toNat - mark (ask x.toNat)) (ask x.toNat) r := rfl
theorem more_cons (k f t a s : Nat) (y : UInt8) (r : List UInt8) : more (k + 1) f t a s (y :: r) = if y.toNat < f ∨ t < y.toNat then (0, 0, 11) else more k 128 191 (a * 64 + (y.toNat - 128)) s r := rfl
theorem more_zero (f t a s : Nat) (l : List UInt8) : more 0 f t a s l = (a, s, 0) := rfl
theorem more_nil {k f t a s : Nat} (h : 0 < k) : more k f t a s [] = (0, 0, 10) := by
 obtain ⟨j, rfl⟩ : ∃ j, k = j + 1 := ⟨k - 1, by omega⟩
 rfl
theorem more_bad {k f t a s : Nat} {y : UInt8} {r : List UInt8} (h : 0 < k) (hy : y.toNat < f ∨ t < y.toNat) : more k f t a s (y :: r) = (0, 0, 11) := by
 obtain ⟨j, rfl⟩ : ∃ j, k = j + 1 := ⟨k - 1, by omega⟩
 rw [more_cons, if_pos hy]
theorem more_go {k f t a s : Nat} {y : UInt8} {r : List UInt8} (h : 0 < k) (h1 : f ≤ y.toNat) (h2 : y.toNat ≤ t) : more k f t a s (y :: r) = more (k - 1) 128 191 (a * 64 + (y.toNat - 128)) s r := by
 obtain ⟨j, rfl⟩ : ∃ j, k = j + 1 := ⟨k - 1, by omega⟩
 rw [more_cons, if_neg (by omega)]; rfl
theorem more_end {l : List UInt8} {p k f t a s : Nat} (h : 0 < k) (hp : p = l.length) : more k f t a s (l.drop p) = (0, 0, 10) := by
 rw [List.drop_eq_nil_of_le (by omega), more_nil h]
theorem drop_at {l : List UInt8} {p : Nat} (h : p < l.length) : l.drop p = l.getD p 0 :: l.drop (p + 1) := by
 rw [List.drop_eq_getElem_cons h]; simp [List.getD, List.getElem?_eq_getElem h]
theorem more_bad_at {l : List UInt8} {p k f t a s X : Nat} (h : 0 < k) (hp : p < l.length) (hX : X = (l.getD p 0).toNat) (hy : X < f ∨ t < X) : more k f t a s (l.drop p) = (0, 0, 11) := by
 rw [drop_at hp]; exact more_bad h (by omega)
theorem more_go_at {l : List UInt8} {p k f t a s X : Nat} (h : 0 < k) (hp : p < l.length) (hX : X = (l.getD p 0).toNat) (h1 : f ≤ X) (h2 : X ≤ t) : more k f t a s (l.drop p) = more (k - 1) 128 191 (a * 64 + (X - 128)) s (l.drop (p + 1)) := by
 rw [drop_at hp, more_go h (by omega) (by omega), ← hX]
theorem more_err : ∀ (k f t a s : Nat) (l : List UInt8), (∃ c, more k f t a s l = (c, s, 0) ∧ k ≤ l.length) ∨ (more k f t a s l = (0, 0, 10) ∧ l.length < k) ∨ more k f t a s l = (0, 0, 11)
 | 0, _, _, a, _, l => .inl ⟨a, rfl, Nat.zero_le _⟩
 | _ + 1, _, _, _, _, [] => .inr (.inl ⟨rfl, by simp⟩)
 | k + 1, f, t, a, s, y :: r => by
  rw [more_cons]
  split
  · exact .inr (.inr rfl)
  · rcases more_err k 128 191 (a * 64 + (y.toNat - 128)) s r with ⟨c, h, hl⟩ | ⟨h, hl⟩ | h
    · exact .inl ⟨c, h, by simp; omega⟩
    · exact .inr (.inl ⟨h, by simp; omega⟩)
    · exact .inr (.inr h)
theorem fst_err (l : List UInt8) : (∃ c n, fst l = (c, n, 0) ∧ 0 < n ∧ n ≤ 4 ∧ n ≤ l.length) ∨ (fst l = (0, 0, 10) ∧ l.length < 4) ∨ fst l = (0, 0, 11) := by
 cases l with
 | nil => exact .inr (.inl ⟨rfl, by simp⟩)
 | cons x r =>
  rw [fst_cons]
  have a := ask_is x.toNat
  split
  · exact .inr (.inr rfl)
  · rcases more_err (ask x.toNat - 1) (lo x.toNat) (hi x.toNat) (x.toNat - mark (ask x.toNat)) (ask x.toNat) r with ⟨c, h, hl⟩ | ⟨h, hl⟩ | h
    · exact .inl ⟨c, _, h, by omega, by omega, by simp; omega⟩
    · exact .inr (.inl ⟨h, by simp; omega⟩)
    · exact .inr (.inr h)
def csum (n : Nat) (l : List UInt8) : Int :=
 let x : Nat → Int := fun i => (((l.getD i 0).toNat : Nat) : Int)
 match n with
 | 1 => x 0
 | 2 => (x 0 - 192) * 64 + (x 1 - 128)
 | 3 => (x 0 - 224) * 4096 + (x 1 - 128) * 64 + (x 2 - 128)
 | _ => (x 0 - 240) * 262144 + (x 1 - 128) * 4096 + (x 2 - 128) * 64 + (x 3 - 128)
theorem of8_eq {x : UInt8} {n : Nat} (h : x.toNat = n) : UInt8.ofNat n = x := by rw [← h]; simp
theorem ue_fst {l : List UInt8} {c n : Nat} (h : fst l = (c, n, 0)) : isC (c : Int) ∧ ue c = l.take n ∧ csum n l = (c : Int) := by
 cases l with
 | nil => simp [fst] at h
 | cons x l =>
  rw [fst_cons] at h
  have a := ask_is x.toNat
  have b1 := lo_is x.toNat
  have b2 := hi_is x.toNat
  rcases a with ⟨a1, a2⟩ | ⟨a1, a2⟩ | ⟨a1, a2⟩ | ⟨a1, a2⟩ | ⟨a1, a2⟩
  · rw [a1, if_pos rfl] at h; simp at h
  · rw [a1, if_neg (by omega), show 1 - 1 = 0 from rfl, more_zero, show mark 1 = 0 from rfl] at h
    simp only [Prod.mk.injEq, and_true, Nat.sub_zero] at h
    obtain ⟨rfl, rfl⟩ := h
    refine ⟨by unfold isC; omega, ?_, ?_⟩
    · rw [ue_1 a2]; simp
    · simp [csum]
  · rw [a1, if_neg (by omega), show 2 - 1 = 0 + 1 from rfl, show mark 2 = 192 from rfl] at h
    match l with
    | [] => rw [more_nil (by omega)] at h; simp at h
    | y :: l =>
     rw [more_cons, more_zero] at h
     split at h
     · simp at h
     · rename_i g
       simp only [Prod.mk.injEq, and_true] at h
       obtain ⟨rfl, rfl⟩ := h
       have e1 : (x.toNat - 192) * 64 + (y.toNat - 128) < 2048 := by omega
       refine ⟨by unfold isC; omega, ?_, ?_⟩
       · rw [ue_2 (by omega) e1]
         simp only [List.take_succ_cons, List.take_zero]
         rw [of8_eq (x := x) (by omega), of8_eq (x := y) (by omega)]
       · simp only [csum, List.getD_cons_zero, List.getD_cons_succ]; omega
  · rw [a1, if_neg (by omega), show 3 - 1 = 0 + 1 + 1 from rfl, show mark 3 = 224 from rfl] at h
    match l with
    | [] => rw [more_nil (by omega)] at h; simp at h
    | y :: l =>
     rw [more_cons] at h
     split at h
     · simp at h
     · rename_i g
       match l with
       | [] => rw [more_nil (by omega)] at h; simp at h
       | z :: l =>
        rw [more_cons, more_zero] at h
        split at h
        · simp at h
        · rename_i g2
          simp only [Prod.mk.injEq, and_true] at h
          obtain ⟨rfl, rfl⟩ := h
          have e1 : ((x.toNat - 224) * 64 + (y.toNat - 128)) * 64 + (z.toNat - 128) < 65536 := by omega
          refine ⟨by unfold isC; omega, ?_, ?_⟩
          · rw [ue_3 (by omega) e1]
            simp only [List.take_succ_cons, List.take_zero]
            rw [of8_eq (x := x) (by omega), of8_eq (x := y) (by omega), of8_eq (x := z) (by omega)]
          · simp only [csum, List.getD_cons_zero, List.getD_cons_succ]; omega
  · rw [a1, if_neg (by omega), show 4 - 1 = 0 + 1 + 1 + 1 from rfl, show mark 4 = 240 from rfl] at h
    match l with
    | [] => rw [more_nil (by omega)] at h; simp at h
    | y :: l =>
     rw [more_cons] at h
     split at h
     · simp at h
     · rename_i g
       match l with
       | [] => rw [more_nil (by omega)] at h; simp at h
       | z :: l =>
        rw [more_cons] at h
        split at h
        · simp at h
        · rename_i g2
          match l with
          | [] => rw [more_nil (by omega)] at h; simp at h
          | u :: l =>
           rw [more_cons, more_zero] at h
           split at h
           · simp at h
           · rename_i g3
             simp only [Prod.mk.injEq, and_true] at h
             obtain ⟨rfl, rfl⟩ := h
             refine ⟨by unfold isC; omega, ?_, ?_⟩
             · rw [ue_4 (by omega)]
               simp only [List.take_succ_cons, List.take_zero]
               rw [of8_eq (x := x) (by omega), of8_eq (x := y) (by omega), of8_eq (x := z) (by omega), of8_eq (x := u) (by omega)]
             · simp only [csum, List.getD_cons_zero, List.getD_cons_succ]; omega
def cU (l : List UInt8) : Option Nat :=
 if h : l = [] then some 0
 else if h2 : (fst l).2.2 = 0 then (cU (l.drop (fst l).2.1)).map (· + 1)
 else none
termination_by l.length
decreasing_by
 rcases fst_err l with ⟨c, n, e, h1, h3, h4⟩ | ⟨e, _⟩ | e
 · rw [e]; simp; omega
 · rw [e] at h2; simp at h2
 · rw [e] at h2; simp at h2
theorem cU_nil : cU [] = some 0 := by rw [cU]; simp
theorem cU_go {l : List UInt8} {c n : Nat} (h : fst l = (c, n, 0)) : cU l = (cU (l.drop n)).map (· + 1) := by
 rw [cU, dif_neg (by intro e; subst e; simp [fst] at h), dif_pos (by rw [h]), h]
theorem cU_bad {l : List UInt8} (hl : l ≠ []) (h : (fst l).2.2 ≠ 0) : cU l = none := by
 rw [cU, dif_neg hl, dif_neg h]
end Go.Proofs.YthfoomobicbcpaaGreatDoor.Num
namespace Go.Proofs.YthfoomobicbcpaaGreatDoor.Mem
open Go.RowKit
theorem bel_drewN {B : Nat} {a w : World} (h : Below B a w) (n : Nat) : Below B a (w.drewN n) := ⟨h.os, h.tape, h.output, h.size, h.block⟩
def Blk (w : World) (g : Nat) (t : TypeId) (cs : Array Value) : Prop := w.heap[g]? = some (.cells cs t (0, 0))
theorem Blk.lt {w : World} {g : Nat} {t : TypeId} {cs : Array Value} (h : Blk w g t cs) : g < w.heap.size := by
 rcases Nat.lt_or_ge g w.heap.size with hlt | hge
 · exact hlt
 · unfold Blk at h; rw [Array.getElem?_eq_none hge] at h; cases h
theorem Blk.cell {w : World} {g : Nat} {t : TypeId} {cs : Array Value} (h : Blk w g t cs) (i : Nat) : w.cell? ⟨g, i, none⟩ = cs[i]? := cell_of_row w g i cs t (0, 0) h
theorem Blk.new (w : World) (t : TypeId) (cs : Array Value) : Blk (w.alloc (.cells cs t)) w.heap.size t cs := heap_alloc_new w _
theorem Blk.alloc {w : World} {g : Nat} {t : TypeId} {cs : Array Value} (h : Blk w g t cs) (o : Obj) : Blk (w.alloc o) g t cs := (Below.heap_alloc w o g h.lt).trans h
theorem Blk.below {w w' : World} {g B : Nat} {t : TypeId} {cs : Array Value} (h : Blk w g t cs) (hb : Below B w w') (hg : g < B) : Blk w' g t cs := (hb.block g hg).trans h
theorem Blk.drewN {w : World} {g : Nat} {t : TypeId} {cs : Array Value} (h : Blk w g t cs) (k : Nat) : Blk (w.drewN k) g t cs := h
def cel (x : UInt8) : Value := .int .u8 ((x.toNat : Nat) : Int)
def cels (l : List UInt8) : List Value := l.map cel
theorem cels_len (l : List UInt8) : (cels l).length = l.length := by simp [cels]
theorem cels_app (l m : List UInt8) : cels (l ++ m) = cels l ++ cels m := by simp [cels]
theorem cels_one (l : List UInt8) : ∀ u ∈ cels l, u.oneCell' = true := by
 intro u hu
 obtain ⟨x, _, rfl⟩ := List.mem_map.1 hu
 rfl
theorem cels_at {l : List UInt8} {k : Nat} (h : k < l.length) : (cels l)[k]? = some (cel (l.getD k 0)) := by
 unfold cels
 simp [List.getElem?_eq_getElem h, List.getD]
structure U8 (P : Program) (t e : TypeId) : Prop where
 sl : P.underlying t = some (.slice e)
 el : P.underlying e = some (.int .u8)
 info : (P.info? e).map (fun i => (i.zero, i.size, i.bytes)) = some (some (.int .u8 0), 1, 1)
def Bys (w : World) (B : Nat) (A : Option Addr) (l : List UInt8) : Prop :=
 l = [] ∨ ∃ b off, A = some ⟨b, off, none⟩ ∧ b < B ∧ ∀ k, k < l.length → w.cell? ⟨b, off + k, none⟩ = some (cel (l.getD k 0))
theorem add_plain (b off k : Nat) : (⟨b, off, none⟩ : Addr).add k = ⟨b, off + k, none⟩ := by unfold Addr.add; split <;> simp_all
section
variable {w w' : World} {B B' : Nat} {A : Option Addr} {l : List UInt8}
theorem Bys.keep (h : Bys w B A l) (hk : ∀ p : Addr, p.block < B → w'.cell? p = w.cell? p) : Bys w' B A l := by
 rcases h with h | ⟨b, off, rfl, hb, hc⟩
 · exact .inl h
 · exact .inr ⟨b, off, rfl, hb, fun k hl => (hk _ hb).trans (hc k hl)⟩
theorem Bys.more (h : Bys w B A l) (hB : B ≤ B') : Bys w B' A l := by
 rcases h with h | ⟨b, off, rfl, hb, hc⟩
 · exact .inl h
 · exact .inr ⟨b, off, rfl, by omega, hc⟩
theorem Bys.below (h : Bys w B A l) (hb : Below B w w') : Bys w' B A l := h.keep fun _ hp => hb.cell hp
theorem Bys.tail {b off : Nat} (h : Bys w B (some ⟨b, off, none⟩) l) (k : Nat) : Bys w B (some ⟨b, off + k, none⟩) (l.drop k) := by
 by_cases hk : k < l.length
 · rcases h with h | ⟨b', off', e, hb, hc⟩
   · subst h; simp at hk
   · simp only [Option.some.injEq, Addr.mk.injEq, and_true] at e
     obtain ⟨rfl, rfl⟩ := e
     refine .inr ⟨_, _, rfl, hb, fun j hj => ?_⟩
     have := hc (k + j) (by simp at hj; omega)
     rw [show off + k + j = off + (k + j) by omega, this]
     simp [List.getD, List.getElem?_drop]
 · exact .inl (List.drop_eq_nil_of_le (by omega))
theorem Bys.cut (h : Bys w B A l) (k c : Nat) (hc : l.length ≤ c) : Bys w B (if c = k then A else A.map (·.add k)) (l.drop k) := by
 by_cases hk : k < l.length
 · rw [if_neg (by omega)]
   rcases h with h | ⟨b, off, rfl, hb, hx⟩
   · subst h; simp at hk
   · show Bys w B (some ((⟨b, off, none⟩ : Addr).add k)) (l.drop k)
     rw [add_plain]
     exact Bys.tail (.inr ⟨b, off, rfl, hb, hx⟩) k
 · exact .inl (List.drop_eq_nil_of_le (by omega))
theorem nums_str (l : List UInt8) : strOfNums (l.map fun x => ((x.toNat : Nat) : Int)) = ⟨l.toArray⟩ := by
 unfold strOfNums
 congr 2
 rw [List.map_map]
 conv => rhs; rw [← List.map_id l]
 apply List.map_congr_left
 intro x _
 simp
theorem Bys.str {P : Program} {t e s : TypeId} (hu : U8 P t e) (hs : P.underlying s = some .string) (h : Bys w B A l) (c : Nat) :
 (convert t s (.slice A l.length c)).run P w = .ok (.string ⟨l.toArray⟩) w := by
 rcases h with h | ⟨b, off, rfl, hb, hc⟩
 · subst h
   cases A with
   | none => exact run_convert_bytes_nil w t e hu.sl hu.el 0 c s hs
   | some ad =>
    rw [run_convert_bytes_string w t s e _ _ c hu.sl hu.el hs, run_bytesToString w ad _ c [] (by
     have := run_loadCells_list (P := P) w ad [] (fun j v hj => by simp at hj)
     simpa using this)]
    rfl
 · rw [run_convert_bytes_arg w t e hu.sl hu.el b off l.length c (l.map fun x => ((x.toNat : Nat) : Int)) (by simp) (fun i hi => by
    rw [hc i hi]
    simp [cel, List.getD, List.getElem?_eq_getElem hi]) s hs, nums_str]
end
def Own (w : World) (base : Nat) (e : TypeId) (v : Value) (l : List UInt8) : Prop := w.ownsRow base e 1 v l.length (cels l)
section
variable {w w' : World} {base : Nat} {e : TypeId} {v : Value} {l : List UInt8}
theorem Own.none_ (w : World) (base : Nat) (e : TypeId) : Own w base e (.slice none 0 0) [] := World.ownsRow_nil w base e 1
theorem Own.alloc (h : Own w base e v l) (o : Obj) : Own (w.alloc o) base e v l := World.ownsRow.alloc h o
theorem Own.below (h : Own w base e v l) (hb : Below w.heap.size w w') : Own w' base e v l := by
 obtain ⟨h1, h2⟩ := h
 refine ⟨h1, ?_⟩
 rcases h2 with h2 | ⟨g, cap, cur, hv, hg, hh, r⟩
 · exact .inl h2
 · exact .inr ⟨g, cap, cur, hv, hg, by rw [hb.block g (Array.getElem?_eq_some_iff.1 hh).1]; exact hh, r⟩
theorem Own.bys (h : Own w base e v l) : ∃ A c, v = .slice A l.length c ∧ Bys w w.heap.size A l := by
 by_cases hl : l = []
 · subst hl
   rcases h.2 with ⟨rfl, _⟩ | ⟨g, cap, cur, rfl, _⟩
   · exact ⟨_, _, rfl, .inl rfl⟩
   · exact ⟨_, _, rfl, .inl rfl⟩
 · have hp : 0 < l.length := List.length_pos_iff.2 hl
   obtain ⟨g, cap, hv, _, hlt⟩ := World.ownsRow.form h hp
   subst hv
   refine ⟨_, _, rfl, .inr ⟨g, 0, rfl, hlt, fun k hk => ?_⟩⟩
   have := World.ownsRow.cellAt h k (by omega)
   rw [show 0 + k = k by omega, this, cels_at hk]
end
theorem Own.room {w : World} {base : Nat} {e : TypeId} {v : Value} {l : List UInt8} (h : Own w base e v l) : ∃ A c, v = .slice A l.length c ∧ Bys w w.heap.size A l ∧ l.length ≤ c := by
 obtain ⟨A, c, rfl, hy⟩ := h.bys
 refine ⟨A, c, rfl, hy, ?_⟩
 rcases h.2 with ⟨e, h0⟩ | ⟨g, cap, cur, e, _, _, hc, _⟩
 · omega
 · injection e with _ _ e
   omega
section
variable {P : Program} (w : World)
theorem run_app {t e : TypeId} (hu : U8 P t e) (base : Nat) (ty : TypeId) (v : Value) (l : List UInt8) (hown : Own w base e v l) (B : Nat) (A : Option Addr) (c : Nat) (m : List UInt8) (hr : Bys w B A m)
 (hlen : l.length + m.length ≤ 140000000000) (hbase : base ≤ w.heap.size) :
 ∃ v' w', (Builtin.append_ #[t, t] ty #[v, .slice A m.length c]).run P w = .ok v' w' ∧ Own w' base e v' (l ++ m) ∧ Below base w w' := by
 obtain ⟨i, hi, hzz⟩ := Option.map_eq_some_iff.1 hu.info
 simp only [Prod.mk.injEq] at hzz
 obtain ⟨hz, hsz, hby⟩ := hzz
 have fin : ∀ v' w', w'.ownsRow base e 1 v' (l.length + m.length) (cels l ++ cels m) → w.grownBy w' v.ownBlock → Own w' base e v' (l ++ m) ∧ Below base w w' := by
  intro v' w' h2 h3
  refine ⟨by unfold Own; rw [List.length_append, cels_app]; exact h2, (Below.refl _ _).grown h3 hbase (fun k hk => (World.ownsRow.lt hown k hk).1)⟩
 have big : l.length + m.length ≤ maxLen := by unfold maxLen; omega
 have step : ∀ ad : Addr, (∀ j u, (cels m)[j]? = some u → w.cell? (ad.add j) = some u) → ∃ v' w', (Builtin.append_ #[t, t] ty #[v, .slice (some ad) m.length c]).run P w = .ok v' w' ∧ Own w' base e v' (l ++ m) ∧ Below base w w' := by
  intro ad hc
  obtain ⟨v', w', hrun, h2, h3, _⟩ := run_append_own_at (P := P) w base t ty e i _ 1 1 hu.sl hi hz hsz hby rfl (by omega) v l.length (cels l) hown ad m.length c (cels m) (by rw [cels_len]; omega) hc (cels_one m) big (by omega) hbase
  exact ⟨v', w', hrun, fin v' w' h2 h3⟩
 rcases hr with h | ⟨b, off, rfl, _, hc⟩
 · subst h
   cases A with
   | none =>
    refine ⟨v, w, ?_, by simpa using hown, Below.refl _ _⟩
    rcases hown.2 with ⟨rfl, hn⟩ | ⟨g, cap, cur, rfl, _, _, hnc, _⟩
    · simp [Builtin.append_, run_underlying hu.sl, sizeOf, typeInfo, hi, Builtin.lenOf, Builtin.firstCells]
    · simp [Builtin.append_, run_underlying hu.sl, sizeOf, typeInfo, hi, Builtin.lenOf, Builtin.firstCells, hnc, storeCells]
   | some ad => exact step ad (by intro j u hj; simp [cels] at hj)
 · refine step _ (fun j u hj => ?_)
   have hj' : j < m.length := by
    have := (List.getElem?_eq_some_iff.1 hj).1
    rwa [cels_len] at this
   rw [cels_at hj'] at hj
   rw [add_plain, hc j hj']
   exact hj
theorem wp_app {t e : TypeId} (hu : U8 P t e) {o : Oper} {a : Act} {K : Act → World → Prop} {Q : Exit → Act → World → Prop} (s x : Operand)
 (ho : o.op = .call { callee := .builtin .append, args := #[s, x], argTypes := #[t, t] })
 (base : Nat) (v : Value) (l : List UInt8) (hs : a.eval s = v) (hown : Own w base e v l) (B : Nat) (A : Option Addr) (c : Nat) (m : List UInt8) (hx : a.eval x = .slice A m.length c) (hr : Bys w B A m)
 (hlen : l.length + m.length ≤ 140000000000) (hbase : base ≤ w.heap.size)
 (h : ∀ v' w', Own w' base e v' (l ++ m) → Below base w w' → K (a.put o.dst v') w') : o.wp P a w K Q := by
 obtain ⟨v', w', hrun, h2, h3⟩ := run_app (P := P) w hu base o.type v l hown B A c m hr hlen hbase
 unfold Oper.wp execOp
 simp only [ho, resolve, invoke, builtin, Sem.run_bind, Sem.run_pure, Result.andThen_ok, List.map_toArray, List.map_cons, List.map_nil, hs, hx, hrun]
 exact h v' w' h2 h3
theorem wpList_app {t e : TypeId} (hu : U8 P t e) {ops : Array Oper} {rest : List Oper} {o : Oper} {a : Act} {Q : Exit → Act → World → Prop} (hgd : o.guard = none) (s x : Operand)
 (ho : o.op = .call { callee := .builtin .append, args := #[s, x], argTypes := #[t, t] })
 (base : Nat) (v : Value) (l : List UInt8) (hs : a.eval s = v) (hown : Own w base e v l) (B : Nat) (A : Option Addr) (c : Nat) (m : List UInt8) (hx : a.eval x = .slice A m.length c) (hr : Bys w B A m)
 (hlen : l.length + m.length ≤ 140000000000) (hbase : base ≤ w.heap.size)
 (h : ∀ v' w', Own w' base e v' (l ++ m) → Below base w w' → wpList P ops Q rest (a.put o.dst v') w') : wpList P ops Q (o :: rest) a w :=
 wpList_plain hgd fun _ hK => wp_app w hu s x ho base v l hs hown B A c m hx hr hlen hbase fun v' w' h2 h3 => hK _ _ (h v' w' h2 h3)
theorem new_cell (x : Value) (t : TypeId) : (w.alloc (.cells #[x] t)).cell? ⟨w.heap.size, 0, none⟩ = some x := by
 simp
theorem wpList_app1 {t e : TypeId} (hu : U8 P t e) {ops : Array Oper} {rest : List Oper} {o : Oper} {a : Act} {Q : Exit → Act → World → Prop} (hgd : o.guard = none) (s x : Operand)
 (ho : o.op = .call { callee := .builtin .append, args := #[s, x], argTypes := #[t, t] })
 (base : Nat) (v : Value) (l : List UInt8) (hs : a.eval s = v) (hown : Own w base e v l) (c : Nat) (n : Int) (n0 : 0 ≤ n) (n1 : n ≤ 255) (hx : a.eval x = .slice (some ⟨w.heap.size, 0, none⟩) 1 c)
 (hlen : l.length < 140000000000) (hbase : base ≤ w.heap.size)
 (h : ∀ v' w', Own w' base e v' (l ++ [UInt8.ofNat n.toNat]) → Below base w w' → wpList P ops Q rest (a.put o.dst v') w') : wpList P ops Q (o :: rest) a (w.alloc (.cells #[.int .u8 n] e)) := by
 have hn : ((UInt8.ofNat n.toNat).toNat : Int) = n := by
  rw [UInt8.toNat_ofNat_of_lt' (by show n.toNat < 256; omega)]; omega
 refine wpList_app _ hu hgd s x ho base v l hs (hown.alloc _) (w.heap.size + 1) (some ⟨w.heap.size, 0, none⟩) c [UInt8.ofNat n.toNat] (by simpa using hx) (.inr ⟨_, 0, rfl, by omega, fun k hk => ?_⟩) (by simp; omega) (by simp; omega)
  (fun v' w' h1 h2 => h v' w' h1 (((Below.refl _ _).alloc hbase _).trans h2))
 obtain rfl : k = 0 := by simp at hk; omega
 show (w.alloc _).cell? ⟨w.heap.size, 0 + 0, none⟩ = some (.int .u8 ((UInt8.ofNat n.toNat).toNat : Int))
 rw [hn]
 exact new_cell w _ _
end
end Go.Proofs.YthfoomobicbcpaaGreatDoor.Mem
namespace Go.Proofs.YthfoomobicbcpaaGreatDoor
open Go.ChangeShapes Go.WideShapes Go.ChangeAt Go.RowKit Mem
theorem byteT : U8 Tryz.prog 39 5 := ⟨by kernel_rfl, by kernel_rfl, by kernel_rfl⟩
theorem strT : Tryz.prog.underlying 9 = some .string := by kernel_rfl
theorem fit_i64 {a : Int} (h : (Lit.int .i64 a).wf = true) : -9223372036854775808 ≤ a ∧ a ≤ 9223372036854775807 := by
 simpa [Lit.wf, IntKind.min, IntKind.max, IntKind.signed, IntKind.bits] using h
theorem Below.next {w a b : World} (h : Below w.heap.size w a) (k : Below a.heap.size a b) : Below w.heap.size w b := h.trans (k.mono h.size)
end Go.Proofs.YthfoomobicbcpaaGreatDoor
namespace Go.Proofs.YthfoomobicbcpaaGreatDoor
open Go.ChangeShapes Go.WideShapes Go.ChangeAt Go.RowKit Mem
def Laysb (s : ByteArray) (W W' : World) : Prop := Below W.heap.size W W' ∧ Bys W' W'.heap.size (some ⟨W.heap.size, 0, none⟩) s.data.toList
theorem conv_lays (s : ByteArray) (W : World) : ∃ c W', (convert 9 39 (.string s)).run Tryz.prog W = .ok (.slice (some ⟨W.heap.size, 0, none⟩) s.size c) W' ∧ s.size ≤ c ∧ Laysb s W W' := by
 refine ⟨_, _, Lib.run_convert_string_bytes W 9 39 5 s strT byteT.sl byteT.el, ?_, ?_, ?_⟩
 · exact grownCap_ge W s.size 0 _
 · exact ⟨rfl, rfl, rfl, by rw [Lib.bytesWorld_size]; omega, fun g hg => Lib.bytesWorld_at_old W 5 s g hg⟩
 · refine .inr ⟨_, 0, rfl, by rw [Lib.bytesWorld_size]; omega, fun k hk => ?_⟩
   rw [Nat.zero_add]
   exact Lib.bytesWorld_cell W 5 s k (by simpa using hk)
theorem conv_all (s : ByteArray) : ∃ (F : World → World) (G : World → Nat), (∀ W, (convert 9 39 (.string s)).run Tryz.prog W = .ok (.slice (some ⟨W.heap.size, 0, none⟩) s.size (G W)) (F W)) ∧ (∀ W, s.size ≤ G W) ∧ ∀ W, Laysb s W (F W) :=
 ⟨fun W => (conv_lays s W).choose_spec.choose, fun W => (conv_lays s W).choose, fun W => (conv_lays s W).choose_spec.choose_spec.1, fun W => (conv_lays s W).choose_spec.choose_spec.2.1, fun W => (conv_lays s W).choose_spec.choose_spec.2.2⟩
def spells : List Value := [.string ⟨#[116, 114, 117, 101]⟩, .int .i64 7, .int .i64 1, .string ⟨#[102, 97, 108, 115, 101]⟩, .int .i64 7, .int .i64 0, .string ⟨#[110, 117, 108, 108]⟩, .int .i64 8, .int .i64 0]
def kwords : List Value := [.string ⟨#[]⟩, .string ⟨#[110, 117, 108, 108]⟩, .string ⟨#[98, 111, 111, 108, 101, 97, 110]⟩, .string ⟨#[105, 110, 116]⟩, .string ⟨#[108, 111, 110, 103]⟩, .string ⟨#[102, 108, 111, 97, 116]⟩, .string ⟨#[100, 111, 117, 98, 108, 101]⟩, .string ⟨#[98, 121, 116, 101, 115]⟩, .string ⟨#[115, 116, 114, 105, 110, 103]⟩, .string ⟨#[114, 101, 99, 111, 114, 100]⟩, .string ⟨#[101, 110, 117, 109]⟩, .string ⟨#[97, 114, 114, 97, 121]⟩, .string ⟨#[109, 97, 112]⟩, .string ⟨#[]⟩, .string ⟨#[102, 105, 120, 101, 100]⟩]
structure Laid (w : World) : Prop where
 top : 6 < w.heap.size
 marks : ∀ n, n < 5 → w.cell? ⟨2, n, none⟩ = some (.int .u8 (Num.mark n : Int))
 words : ∀ n, n < 15 → w.cell? ⟨0, n, none⟩ = kwords[n]?
theorem Laid.below {B : Nat} {w w' : World} (h : Laid w) (hb : Below B w w') (hB : 6 < B) : Laid w' where
 top := Nat.lt_of_lt_of_le h.top hb.size
 marks := fun n hn => (hb.cell (p := ⟨2, n, none⟩) (Nat.lt_of_le_of_lt (by show 2 ≤ 6; decide) hB)).trans (h.marks n hn)
 words := fun n hn => (hb.cell (p := ⟨0, n, none⟩) (Nat.lt_of_le_of_lt (by show 0 ≤ 6; decide) hB)).trans (h.words n hn)
theorem Laid.alloc {w : World} (h : Laid w) (o : Obj) : Laid (w.alloc o) := h.below ((Below.refl w.heap.size w).alloc (Nat.le_refl _) o) h.1
theorem Laid.drew {w : World} (h : Laid w) : Laid w.drew := h.below (B := w.heap.size) (Below.refl _ _).drew h.1
end Go.Proofs.YthfoomobicbcpaaGreatDoor
namespace Go.Proofs.YthfoomobicbcpaaGreatDoor.Tab
def flat {H : Type} : Nat → DataW H → List Value
 | _ + 1, .lit (.bool b) => [.bool b]
 | _ + 1, .lit (.int k n) => [.int k n]
 | _ + 1, .lit (.string s) => [.string ⟨s.toArray⟩]
 | f + 1, .agg ds => ds.flatMap (flat f)
 | _, _ => []
def plainT (P : Program) : Nat → TypeId → Bool
 | 0, _ => false
 | f + 1, t => match P.underlying t with
  | some .bool => true
  | some (.int _) => true
  | some .string => true
  | some (.array n e) => plainT P f e && P.cellsOf t == ((List.replicate n e).map P.cellsOf).sum
  | some (.struct fs) => (fs.toList.all fun x => plainT P f x.type) && P.cellsOf t == (fs.toList.map fun x => P.cellsOf x.type).sum &&
   (List.range fs.size).all fun i => match fs[i]? with
    | some x => x.offset == ((fs.toList.take i).map fun x => P.cellsOf x.type).sum
    | none => true
  | _ => false
theorem cut_all {β : Type} (g : β → List Value) (cs : List Value) : ∀ (ys : List (Nat × β)) (o : Nat), cs.length = o + (ys.map (·.1)).sum →
 (∀ i y, ys[i]? = some y → (cs.drop (o + ((ys.take i).map (·.1)).sum)).take y.1 = g y.2) → cs.drop o = ys.flatMap fun y => g y.2
 | [], o, hl, _ => by simp at hl; simp [List.drop_eq_nil_of_le (Nat.le_of_eq hl)]
 | y :: r, o, hl, h => by
  have h0 := h 0 y rfl
  simp only [List.take_zero, List.map_nil, List.sum_nil, Nat.add_zero] at h0
  have h1 := cut_all g cs r (o + y.1) (by simp at hl; omega) (fun i z hz => by
   have := h (i + 1) z (by simpa using hz)
   simp only [List.take_succ_cons, List.map_cons, List.sum_cons] at this
   rw [Nat.add_assoc]; exact this)
  rw [List.flatMap_cons, ← h0, ← h1, ← List.drop_drop, List.take_append_drop]
theorem sum_take_rep (c : Nat) : ∀ (n i : Nat), i ≤ n → ((List.replicate n c).take i).sum = i * c
 | n, 0, _ => by simp
 | 0, i + 1, h => absurd h (by omega)
 | n + 1, i + 1, h => by rw [List.replicate_succ, List.take_succ_cons, List.sum_cons, sum_take_rep c n i (by omega), Nat.succ_mul, Nat.add_comm]
theorem trod_flat {H : Type} {enc : TypeId × Value → H} {P : Program} {w : World} {base : Nat} {sp : Nat → Bool} {held : Bool} : ∀ (f : Nat) {fuel : Nat} {t : TypeId} {cs : List Value} {d : DataW H} {p : List MemPlace},
 plainT P f t = true → DataW.trod enc P w base sp held fuel t cs = some (d, p) → cs = flat f d
 | 0, _, _, _, _, _, h, _ => by simp [plainT] at h
 | f + 1, fuel, t, cs, d, p, h, hd => by
  unfold plainT at h
  split at h
  · rename_i hu
    cases fuel with
    | zero => simp [DataW.trod] at hd
    | succ n =>
     unfold DataW.trod at hd
     rw [hu] at hd
     split at hd <;> simp_all
     rw [← hd.1]; rfl
  · rename_i k hu
    obtain ⟨z, rfl, hx, _⟩ := DataW.trod_int hu hd
    obtain rfl := (Prod.mk.inj hx).1
    rfl
  · rename_i hu
    obtain ⟨s, rfl, hx, _⟩ := DataW.trod_string hu hd
    obtain rfl := (Prod.mk.inj hx).1
    simp [flat]
  · rename_i n e hu
    simp only [Bool.and_eq_true, beq_iff_eq] at h
    obtain ⟨he, hc⟩ := h
    obtain ⟨xs, m, rfl, hx, hl, hn, hall⟩ := DataW.trod_array hu hd
    obtain rfl := (Prod.mk.inj hx).1
    have rep : (xs.map fun x => (P.cellsOf e, x.1)).map (·.1) = List.replicate n (P.cellsOf e) := by
     rw [List.map_map, ← hn]; exact List.map_const'
    have := cut_all (flat f) cs (xs.map fun x => (P.cellsOf e, x.1)) 0 (by rw [rep, hl, hc, List.map_replicate]; omega) (fun i y hy => by
     rw [List.getElem?_map] at hy
     obtain ⟨x, hx, rfl⟩ := Option.map_eq_some_iff.1 hy
     have hi : i < n := by rw [← hn]; exact (List.getElem?_eq_some_iff.1 hx).1
     have := hall i hi
     rw [hx] at this
     rw [List.map_take, rep, sum_take_rep _ _ _ (by omega), Nat.zero_add]
     exact trod_flat f he (p := x.2) this)
    rw [List.drop_zero] at this
    rw [this]
    simp [flat, List.flatMap_map]
  · rename_i fs hu
    simp only [Bool.and_eq_true, beq_iff_eq, List.all_eq_true] at h
    obtain ⟨⟨he, hc⟩, ho⟩ := h
    obtain ⟨xs, m, rfl, hx, hl, hn, hall⟩ := DataW.trod_struct hu hd
    obtain rfl := (Prod.mk.inj hx).1
    have hz : (fs.toList.zip xs).length = fs.size := by simp [hn]
    have rep : ((fs.toList.zip xs).map fun x => (P.cellsOf x.1.type, x.2.1)).map (·.1) = fs.toList.map fun x => P.cellsOf x.type := by
     rw [List.map_map]
     have : (fs.toList.zip xs).map Prod.fst = fs.toList := List.map_fst_zip (by simp [hn])
     conv => rhs; rw [← this]
     rw [List.map_map]; rfl
    have := cut_all (flat f) cs ((fs.toList.zip xs).map fun x => (P.cellsOf x.1.type, x.2.1)) 0 (by rw [rep, hl, hc]; omega) (fun i y hy => by
     rw [List.getElem?_map] at hy
     obtain ⟨x, hx, rfl⟩ := Option.map_eq_some_iff.1 hy
     obtain ⟨h1, h2⟩ := List.getElem?_zip_eq_some.1 hx
     have hf : fs[i]? = some x.1 := by simpa using h1
     have hi : i < fs.size := (Array.getElem?_eq_some_iff.1 hf).1
     have := hall i x.1 hf
     rw [h2] at this
     have o := ho i (List.mem_range.2 hi)
     rw [hf] at o
     simp only [beq_iff_eq] at o
     rw [List.map_take, rep, Nat.zero_add, ← List.map_take, ← o]
     exact trod_flat f (he x.1 (List.mem_of_getElem? h1)) (p := x.2.2) this)
    rw [List.drop_zero] at this
    rw [this]
    have hm : (fs.toList.zip xs).map Prod.snd = xs := List.map_snd_zip (by simp [hn])
    show _ = (xs.map (·.1)).flatMap (flat f)
    rw [List.flatMap_map, List.flatMap_map]
    conv => rhs; rw [← hm]
    rw [List.flatMap_map]
  · cases h
theorem cells_of_laid {P : Program} {w : World} {n : String} {d : DataW Unit} {g : Nat} {t : TypeId} (f : Nat) (hg : P.globalNamed n = some g) (ht : (P.globals[g]?).map (·.type) = some t) (hp : plainT P f t = true) :
 ∀ {l : List (String × DataW Unit)} {ps : List MemPlace}, DataW.LaidVars P w l ps → (n, d) ∈ l → ∀ i, w.cell? ⟨g, i, none⟩ = (flat f d)[i]?
 | [], _, _, hm => by cases hm
 | (n', d') :: r, ps, h, hm => by
  obtain ⟨g', t', cs, fuel, p, q, h1, h2, h3, h4, h5, _⟩ := h
  rcases List.mem_cons.1 hm with e | e
  · cases e
    obtain rfl := Option.some.inj (hg.symm.trans h1)
    obtain rfl := Option.some.inj (ht.symm.trans h2)
    intro i
    rw [World.var?_cell hg h3 i, ← trod_flat f hp h4, Array.getElem?_toList]
  · exact cells_of_laid f hg ht hp h5 e
theorem cells_of_laidH {P : Program} {w : World} {n : String} {d : DataW Unit} {g : Nat} {t : TypeId} (f : Nat) {l : List (String × DataW Unit)} (h : laidMetH P l w) (hh : (l.all fun x => x.2.handleName?.isNone) = true)
 (hm : (n, d) ∈ l) (hg : P.globalNamed n = some g) (ht : (P.globals[g]?).map (·.type) = some t) (hp : plainT P f t = true) : ∀ i, w.cell? ⟨g, i, none⟩ = (flat f d)[i]? := by
 rw [MakeChecks.laidMetH_plain _ _ _ hh] at h
 obtain ⟨ps, hv, _⟩ := h
 exact cells_of_laid f hg ht hp hv hm
end Go.Proofs.YthfoomobicbcpaaGreatDoor.Tab
namespace Go.Proofs.YthfoomobicbcpaaGreatDoor
open Go.ChangeShapes Go.WideShapes Go.ChangeAt Go.RowKit Mem
theorem laid_of {W : World} (h : laidMetH Tryz.prog [("unicode/utf8.acceptRanges", Rows.laid_unicode_utf8_acceptRanges), ("avocet/utf.marks", Rows.laid_avocet_utf_marks), ("avocet/naming.words", Rows.laid_avocet_naming_words), ("unicode/utf8.first", Rows.laid_unicode_utf8_first)] W) : Laid W := by
 have m := Tab.cells_of_laidH (n := "avocet/utf.marks") (d := Rows.laid_avocet_utf_marks) (g := 2) (t := 241) 2 h (by kernel_rfl) (by simp) (by kernel_rfl) (by kernel_rfl) (by kernel_rfl)
 have k := Tab.cells_of_laidH (n := "avocet/naming.words") (d := Rows.laid_avocet_naming_words) (g := 0) (t := 188) 2 h (by kernel_rfl) (by simp) (by kernel_rfl) (by kernel_rfl) (by kernel_rfl)
 have r := Tab.cells_of_laidH (n := "unicode/utf8.acceptRanges") (d := Rows.laid_unicode_utf8_acceptRanges) (g := 6) (t := 272) 3 h (by kernel_rfl) (by simp) (by kernel_rfl) (by kernel_rfl) (by kernel_rfl)
 constructor
 · exact World.block_lt_of_cell? _ _ (r 0)
 · intro n hn
   rw [m n]
   obtain rfl | rfl | rfl | rfl | rfl : n = 0 ∨ n = 1 ∨ n = 2 ∨ n = 3 ∨ n = 4 := by omega
   all_goals rfl
 · intro n hn
   rw [k n]
   obtain rfl | rfl | rfl | rfl | rfl | rfl | rfl | rfl | rfl | rfl | rfl | rfl | rfl | rfl | rfl : n = 0 ∨ n = 1 ∨ n = 2 ∨ n = 3 ∨ n = 4 ∨ n = 5 ∨ n = 6 ∨ n = 7 ∨ n = 8 ∨ n = 9 ∨ n = 10 ∨ n = 11 ∨ n = 12 ∨ n = 13 ∨ n = 14 := by omega
   all_goals rfl
end Go.Proofs.YthfoomobicbcpaaGreatDoor
