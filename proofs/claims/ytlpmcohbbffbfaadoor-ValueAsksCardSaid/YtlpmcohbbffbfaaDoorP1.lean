/- Joined by tools/bundle.py: UNum Mem Base Laid UtfCard Rec Dat. -/
import Derived.Laws.BitsLemmas
import Derived.Laws.BitsAllLaws
import Derived.Below
import Derived.Maps.AppendAt
import Derived.Deep.AppendLies
import Derived.RegionTactic
import Derived.OwnWalk
import Derived.Laws.OwnMore
import Derived.Laws.BytesArg
import Derived.Deep.Draws
import Derived.Lib.Hide
import Derived.Test.YtlpmcohbbffbfaaDoorRows
import Derived.WalkKit
import Derived.ProofKit
import Derived.OpenShut
import Derived.Outline
import Derived.LoopTactic
import Derived.Deep.QuietTactic
import Derived.BigQuiet
import Derived.WalkMore
import Derived.Deep.LoopGhost
import Derived.IntWalk
import Derived.Lib.ConvBytes
import Derived.LaidLaws
import Derived.ChangeArms
import Derived.FnData
import Derived.MakeChecks
import Derived.LaidMore
import Derived.KernelRfl
import Derived.Laws.CopyOwn
import Derived.Laws.MakeOwn
import Derived.Deep.OwnRows
import Derived.Deep.Slices
namespace Go.Proofs.YtlpmcohbbffbfaaDoor.Num
def isC (c : Int) : Prop := 0 ≤ c ∧ c ≤ 1114111 ∧ (c < 55296 ∨ 57343 < c)
instance (c : Int) : Decidable (isC c) := by unfold isC; infer_instance
def ue (c : Nat) : List UInt8 :=
  if c < 128 then [UInt8.ofNat c]
  else if c < 2048 then [UInt8.ofNat (192 + c / 64), UInt8.ofNat (128 + c % 64)]
  else if c < 65536 then [UInt8.ofNat (224 + c / 4096), UInt8.ofNat (128 + c / 64 % 64), UInt8.ofNat (128 + c % 64)]
  else [UInt8.ofNat (240 + c / 262144), UInt8.ofNat (128 + c / 4096 % 64), UInt8.ofNat (128 + c / 64 % 64), UInt8.ofNat (128 + c % 64)]
theorem ue_len (c : Nat) : 1 ≤ (ue c).length ∧ (ue c).length ≤ 4 := by
  unfold ue; split
  · simp
  · split
    · simp
    · split <;> simp
def ask (x : Nat) : Nat := if 244 < x then 0 else if 240 ≤ x then 4 else if 224 ≤ x then 3 else if 194 ≤ x then 2 else if x < 128 then 1 else 0
def mark : Nat → Nat
  | 2 => 192
  | 3 => 224
  | 4 => 240
  | _ => 0
def lo (x : Nat) : Nat := if x = 224 then 160 else if x = 240 then 144 else 128
def hi (x : Nat) : Nat := if x = 237 then 159 else if x = 244 then 143 else 191
theorem ask_is (x : Nat) : (ask x = 0 ∧ (244 < x ∨ (128 ≤ x ∧ x < 194))) ∨ (ask x = 1 ∧ x < 128) ∨ (ask x = 2 ∧ 194 ≤ x ∧ x < 224) ∨ (ask x = 3 ∧ 224 ≤ x ∧ x < 240) ∨ (ask x = 4 ∧ 240 ≤ x ∧ x ≤ 244) := by
  unfold ask; split
  · omega
  · split
    · omega
    · split
      · omega
      · split
        · omega
        · split <;> omega
theorem lo_is (x : Nat) : (x = 224 ∧ lo x = 160) ∨ (x = 240 ∧ lo x = 144) ∨ (x ≠ 224 ∧ x ≠ 240 ∧ lo x = 128) := by
  unfold lo; split
  · omega
  · split <;> omega
theorem hi_is (x : Nat) : (x = 237 ∧ hi x = 159) ∨ (x = 244 ∧ hi x = 143) ∨ (x ≠ 237 ∧ x ≠ 244 ∧ hi x = 191) := by
  unfold hi; split
  · omega
  · split <;> omega
def more : Nat → Nat → Nat → Nat → Nat → List UInt8 → Nat × Nat × Nat
  | 0, _, _, a, s, _ => (a, s, 0)
  | _ + 1, _, _, _, _, [] => (0, 0, 10)
  | k + 1, f, t, a, s, y :: r => if y.toNat < f ∨ t < y.toNat then (0, 0, 11) else more k 128 191 (a * 64 + (y.toNat - 128)) s r
def fst : List UInt8 → Nat × Nat × Nat
  | [] => (0, 0, 10)
  | x :: r => if ask x.toNat = 0 then (0, 0, 11) else more (ask x.toNat - 1) (lo x.toNat) (hi x.toNat) (x.toNat - mark (ask x.toNat)) (ask x.toNat) r
theorem fst_cons (x : UInt8) (r : List UInt8) : fst (x :: r) = if ask x.toNat = 0 then (0, 0, 11) else more (ask x.toNat - 1) (lo x.toNat) (hi x.toNat) (x.toNat - mark (ask x.toNat)) (ask x.toNat) r := rfl
theorem more_cons (k f t a s : Nat) (y : UInt8) (r : List UInt8) : more (k + 1) f t a s (y :: r) = if y.toNat < f ∨ t < y.toNat then (0, 0, 11) else more k 128 191 (a * 64 + (y.toNat - 128)) s r := rfl
theorem more_zero (f t a s : Nat) (l : List UInt8) : more 0 f t a s l = (a, s, 0) := rfl
theorem more_nil {k f t a s : Nat} (h : 0 < k) : more k f t a s [] = (0, 0, 10) := by
  obtain ⟨j, rfl⟩ : ∃ j, k = j + 1 := ⟨k - 1, by omega⟩
  rfl
theorem more_bad {k f t a s : Nat} {y : UInt8} {r : List UInt8} (h : 0 < k) (hy : y.toNat < f ∨ t < y.toNat) : more k f t a s (y :: r) = (0, 0, 11) := by
  obtain ⟨j, rfl⟩ : ∃ j, k = j + 1 := ⟨k - 1, by omega⟩
  rw [more_cons, if_pos hy]
theorem more_go {k f t a s : Nat} {y : UInt8} {r : List UInt8} (h : 0 < k) (h1 : f ≤ y.toNat) (h2 : y.toNat ≤ t) : more k f t a s (y :: r) = more (k - 1) 128 191 (a * 64 + (y.toNat - 128)) s r := by
  obtain ⟨j, rfl⟩ : ∃ j, k = j + 1 := ⟨k - 1, by omega⟩
  rw [more_cons, if_neg (by omega)]; rfl
theorem more_end {l : List UInt8} {p k f t a s : Nat} (h : 0 < k) (hp : p = l.length) : more k f t a s (l.drop p) = (0, 0, 10) := by
  rw [List.drop_eq_nil_of_le (by omega), more_nil h]
theorem drop_at {l : List UInt8} {p : Nat} (h : p < l.length) : l.drop p = l.getD p 0 :: l.drop (p + 1) := by
  rw [List.drop_eq_getElem_cons h]; simp [List.getD, List.getElem?_eq_getElem h]
theorem more_bad_at {l : List UInt8} {p k f t a s X : Nat} (h : 0 < k) (hp : p < l.length) (hX : X = (l.getD p 0).toNat) (hy : X < f ∨ t < X) : more k f t a s (l.drop p) = (0, 0, 11) := by
  rw [drop_at hp]; exact more_bad h (by omega)
theorem more_go_at {l : List UInt8} {p k f t a s X : Nat} (h : 0 < k) (hp : p < l.length) (hX : X = (l.getD p 0).toNat) (h1 : f ≤ X) (h2 : X ≤ t) : more k f t a s (l.drop p) = more (k - 1) 128 191 (a * 64 + (X - 128)) s (l.drop (p + 1)) := by
  rw [drop_at hp, more_go h (by omega) (by omega), ← hX]
theorem more_err : ∀ (k f t a s : Nat) (l : List UInt8), (∃ c, more k f t a s l = (c, s, 0) ∧ k ≤ l.length) ∨ (more k f t a s l = (0, 0, 10) ∧ l.length < k) ∨ more k f t a s l = (0, 0, 11)
  | 0, _, _, a, _, l => .inl ⟨a, rfl, Nat.zero_le _⟩
  | _ + 1, _, _, _, _, [] => .inr (.inl ⟨rfl, by simp⟩)
  | k + 1, f, t, a, s, y :: r => by
    rw [more_cons]
    split
    · exact .inr (.inr rfl)
    · rcases more_err k 128 191 (a * 64 + (y.toNat - 128)) s r with ⟨c, h, hl⟩ | ⟨h, hl⟩ | h
      · exact .inl ⟨c, h, by simp; omega⟩
      · exact .inr (.inl ⟨h, by simp; omega⟩)
      · exact .inr (.inr h)
theorem fst_err (l : List UInt8) : (∃ c n, fst l = (c, n, 0) ∧ 0 < n ∧ n ≤ 4 ∧ n ≤ l.length) ∨ (fst l = (0, 0, 10) ∧ l.length < 4) ∨ fst l = (0, 0, 11) := by
  cases l with
  | nil => exact .inr (.inl ⟨rfl, by simp⟩)
  | cons x r =>
    rw [fst_cons]
    have a := ask_is x.toNat
    split
    · exact .inr (.inr rfl)
    · rcases more_err (ask x.toNat - 1) (lo x.toNat) (hi x.toNat) (x.toNat - mark (ask x.toNat)) (ask x.toNat) r with ⟨c, h, hl⟩ | ⟨h, hl⟩ | h
      · exact .inl ⟨c, _, h, by omega, by omega, by simp; omega⟩
      · exact .inr (.inl ⟨h, by simp; omega⟩)
      · exact .inr (.inr h)
def cU (l : List UInt8) : Option Nat :=
  if h : l = [] then some 0
  else if h2 : (fst l).2.2 = 0 then (cU (l.drop (fst l).2.1)).map (· + 1)
  else none
termination_by l.length
decreasing_by
  rcases fst_err l with ⟨c, n, e, h1, h3, h4⟩ | ⟨e, _⟩ | e
  · rw [e]; simp; omega
  · rw [e] at h2; simp at h2
  · rw [e] at h2; simp at h2
theorem cU_nil : cU [] = some 0 := by rw [cU]; simp
theorem cU_go {l : List UInt8} {c n : Nat} (h : fst l = (c, n, 0)) : cU l = (cU (l.drop n)).map (· + 1) := by
  rw [cU, dif_neg (by intro e; subst e; simp [fst] at h), dif_pos (by rw [h]), h]
theorem cU_bad {l : List UInt8} (hl : l ≠ []) (h : (fst l).2.2 ≠ 0) : cU l = none := by
  rw [cU, dif_neg hl, dif_neg h]
end Go.Proofs.YtlpmcohbbffbfaaDoor.Num
namespace Go.Proofs.YtlpmcohbbffbfaaDoor.Mem
open Go.RowKit
theorem bel_drewN {B : Nat} {a w : World} (h : Below B a w) (n : Nat) : Below B a (w.drewN n) := ⟨h.os, h.tape, h.output, h.size, h.block⟩
def Blk (w : World) (g : Nat) (t : TypeId) (cs : Array Value) : Prop := w.heap[g]? = some (.cells cs t (0, 0))
theorem Blk.lt {w : World} {g : Nat} {t : TypeId} {cs : Array Value} (h : Blk w g t cs) : g < w.heap.size := by
  rcases Nat.lt_or_ge g w.heap.size with hlt | hge
  · exact hlt
  · unfold Blk at h; rw [Array.getElem?_eq_none hge] at h; cases h
theorem Blk.cell {w : World} {g : Nat} {t : TypeId} {cs : Array Value} (h : Blk w g t cs) (i : Nat) : w.cell? ⟨g, i, none⟩ = cs[i]? := cell_of_row w g i cs t (0, 0) h
theorem Blk.new (w : World) (t : TypeId) (cs : Array Value) : Blk (w.alloc (.cells cs t)) w.heap.size t cs := heap_alloc_new w _
theorem Blk.alloc {w : World} {g : Nat} {t : TypeId} {cs : Array Value} (h : Blk w g t cs) (o : Obj) : Blk (w.alloc o) g t cs := (Below.heap_alloc w o g h.lt).trans h
theorem Blk.below {w w' : World} {g B : Nat} {t : TypeId} {cs : Array Value} (h : Blk w g t cs) (hb : Below B w w') (hg : g < B) : Blk w' g t cs := (hb.block g hg).trans h
theorem Blk.drewN {w : World} {g : Nat} {t : TypeId} {cs : Array Value} (h : Blk w g t cs) (k : Nat) : Blk (w.drewN k) g t cs := h
def cel (x : UInt8) : Value := .int .u8 ((x.toNat : Nat) : Int)
def cels (l : List UInt8) : List Value := l.map cel
theorem cels_at {l : List UInt8} {k : Nat} (h : k < l.length) : (cels l)[k]? = some (cel (l.getD k 0)) := by
  unfold cels
  simp [List.getElem?_eq_getElem h, List.getD]
structure U8 (P : Program) (t e : TypeId) : Prop where
  sl : P.underlying t = some (.slice e)
  el : P.underlying e = some (.int .u8)
  info : (P.info? e).map (fun i => (i.zero, i.size, i.bytes)) = some (some (.int .u8 0), 1, 1)
def Bys (w : World) (B : Nat) (A : Option Addr) (l : List UInt8) : Prop :=
  l = [] ∨ ∃ b off, A = some ⟨b, off, none⟩ ∧ b < B ∧ ∀ k, k < l.length → w.cell? ⟨b, off + k, none⟩ = some (cel (l.getD k 0))
theorem add_plain (b off k : Nat) : (⟨b, off, none⟩ : Addr).add k = ⟨b, off + k, none⟩ := by unfold Addr.add; split <;> simp_all
section
variable {w w' : World} {B B' : Nat} {A : Option Addr} {l : List UInt8}
theorem Bys.keep (h : Bys w B A l) (hk : ∀ p : Addr, p.block < B → w'.cell? p = w.cell? p) : Bys w' B A l := by
  rcases h with h | ⟨b, off, rfl, hb, hc⟩
  · exact .inl h
  · exact .inr ⟨b, off, rfl, hb, fun k hl => (hk _ hb).trans (hc k hl)⟩
theorem Bys.more (h : Bys w B A l) (hB : B ≤ B') : Bys w B' A l := by
  rcases h with h | ⟨b, off, rfl, hb, hc⟩
  · exact .inl h
  · exact .inr ⟨b, off, rfl, by omega, hc⟩
theorem Bys.below (h : Bys w B A l) (hb : Below B w w') : Bys w' B A l := h.keep fun _ hp => hb.cell hp
theorem Bys.nil (w : World) (B : Nat) (A : Option Addr) : Bys w B A [] := .inl rfl
theorem Bys.drewN (h : Bys w B A l) (n : Nat) : Bys (w.drewN n) B A l := h
theorem Bys.drew (h : Bys w B A l) : Bys w.drew B A l := h
theorem Bys.alloc (h : Bys w B A l) (hB : B ≤ w.heap.size) (o : Obj) : Bys (w.alloc o) B A l := h.keep fun p hp => World.cell?_alloc_lt w o p (by omega)
theorem Bys.setCell (h : Bys w B A l) {p : Addr} (hB : B ≤ p.block) (u : Value) : Bys (w.setCell p u) B A l :=
  h.keep fun q hq => World.cell?_setCell_other w p q u (fun e => by subst e; omega)
theorem Bys.tail {b off : Nat} (h : Bys w B (some ⟨b, off, none⟩) l) (k : Nat) : Bys w B (some ⟨b, off + k, none⟩) (l.drop k) := by
  by_cases hk : k < l.length
  · rcases h with h | ⟨b', off', e, hb, hc⟩
    · subst h; simp at hk
    · simp only [Option.some.injEq, Addr.mk.injEq, and_true] at e
      obtain ⟨rfl, rfl⟩ := e
      refine .inr ⟨_, _, rfl, hb, fun j hj => ?_⟩
      have := hc (k + j) (by simp at hj; omega)
      rw [show off + k + j = off + (k + j) by omega, this]
      simp [List.getD, List.getElem?_drop]
  · exact .inl (List.drop_eq_nil_of_le (by omega))
theorem Bys.cut (h : Bys w B A l) (k c : Nat) (hc : l.length ≤ c) : Bys w B (if c = k then A else A.map (·.add k)) (l.drop k) := by
  by_cases hk : k < l.length
  · rw [if_neg (by omega)]
    rcases h with h | ⟨b, off, rfl, hb, hx⟩
    · subst h; simp at hk
    · show Bys w B (some ((⟨b, off, none⟩ : Addr).add k)) (l.drop k)
      rw [add_plain]
      exact Bys.tail (.inr ⟨b, off, rfl, hb, hx⟩) k
  · exact .inl (List.drop_eq_nil_of_le (by omega))
theorem nums_str (l : List UInt8) : strOfNums (l.map fun x => ((x.toNat : Nat) : Int)) = ⟨l.toArray⟩ := by
  unfold strOfNums
  congr 2
  rw [List.map_map]
  conv => rhs; rw [← List.map_id l]
  apply List.map_congr_left
  intro x _
  simp
theorem Bys.str {P : Program} {t e s : TypeId} (hu : U8 P t e) (hs : P.underlying s = some .string) (h : Bys w B A l) (c : Nat) :
    (convert t s (.slice A l.length c)).run P w = .ok (.string ⟨l.toArray⟩) w := by
  rcases h with h | ⟨b, off, rfl, hb, hc⟩
  · subst h
    cases A with
    | none => exact run_convert_bytes_nil w t e hu.sl hu.el 0 c s hs
    | some ad =>
      rw [run_convert_bytes_string w t s e _ _ c hu.sl hu.el hs, run_bytesToString w ad _ c [] (by
        have := run_loadCells_list (P := P) w ad [] (fun j v hj => by simp at hj)
        simpa using this)]
      rfl
  · rw [run_convert_bytes_arg w t e hu.sl hu.el b off l.length c (l.map fun x => ((x.toNat : Nat) : Int)) (by simp) (fun i hi => by
      rw [hc i hi]
      simp [cel, List.getD, List.getElem?_eq_getElem hi]) s hs, nums_str]
end
def Own (w : World) (base : Nat) (e : TypeId) (v : Value) (l : List UInt8) : Prop := w.ownsRow base e 1 v l.length (cels l)
section
variable {w w' : World} {base : Nat} {e : TypeId} {v : Value} {l : List UInt8}
theorem Own.none_ (w : World) (base : Nat) (e : TypeId) : Own w base e (.slice none 0 0) [] := World.ownsRow_nil w base e 1
theorem Own.alloc (h : Own w base e v l) (o : Obj) : Own (w.alloc o) base e v l := World.ownsRow.alloc h o
theorem Own.drewN (h : Own w base e v l) (n : Nat) : Own (w.drewN n) base e v l := h
theorem Own.drew (h : Own w base e v l) : Own w.drew base e v l := h
theorem Own.less {base' : Nat} (h : Own w base e v l) (hb : base' ≤ base) : Own w base' e v l := by
  obtain ⟨h1, h2⟩ := h
  refine ⟨h1, ?_⟩
  rcases h2 with h2 | ⟨g, cap, cur, hv, hg, r⟩
  · exact .inl h2
  · exact .inr ⟨g, cap, cur, hv, by omega, r⟩
theorem Own.below (h : Own w base e v l) (hb : Below w.heap.size w w') : Own w' base e v l := by
  obtain ⟨h1, h2⟩ := h
  refine ⟨h1, ?_⟩
  rcases h2 with h2 | ⟨g, cap, cur, hv, hg, hh, r⟩
  · exact .inl h2
  · exact .inr ⟨g, cap, cur, hv, hg, by rw [hb.block g (Array.getElem?_eq_some_iff.1 hh).1]; exact hh, r⟩
theorem Own.bys (h : Own w base e v l) : ∃ A c, v = .slice A l.length c ∧ Bys w w.heap.size A l := by
  by_cases hl : l = []
  · subst hl
    rcases h.2 with ⟨rfl, _⟩ | ⟨g, cap, cur, rfl, _⟩
    · exact ⟨_, _, rfl, .inl rfl⟩
    · exact ⟨_, _, rfl, .inl rfl⟩
  · have hp : 0 < l.length := List.length_pos_iff.2 hl
    obtain ⟨g, cap, hv, _, hlt⟩ := World.ownsRow.form h hp
    subst hv
    refine ⟨_, _, rfl, .inr ⟨g, 0, rfl, hlt, fun k hk => ?_⟩⟩
    have := World.ownsRow.cellAt h k (by omega)
    rw [show 0 + k = k by omega, this, cels_at hk]
end
theorem Own.room {w : World} {base : Nat} {e : TypeId} {v : Value} {l : List UInt8} (h : Own w base e v l) : ∃ A c, v = .slice A l.length c ∧ Bys w w.heap.size A l ∧ l.length ≤ c := by
  obtain ⟨A, c, rfl, hy⟩ := h.bys
  refine ⟨A, c, rfl, hy, ?_⟩
  rcases h.2 with ⟨e, h0⟩ | ⟨g, cap, cur, e, _, _, hc, _⟩
  · omega
  · injection e with _ _ e
    omega
end Go.Proofs.YtlpmcohbbffbfaaDoor.Mem
namespace Go.Proofs.YtlpmcohbbffbfaaDoor
open Go.ChangeShapes Go.WideShapes Go.ChangeAt Go.RowKit Mem
theorem byteT : U8 Tryd.prog 23 5 := ⟨by kernel_rfl, by kernel_rfl, by kernel_rfl⟩
theorem strT : Tryd.prog.underlying 9 = some .string := by kernel_rfl
theorem fit_i64 {a : Int} (h : (Lit.int .i64 a).wf = true) : -9223372036854775808 ≤ a ∧ a ≤ 9223372036854775807 := by
  simpa [Lit.wf, IntKind.min, IntKind.max, IntKind.signed, IntKind.bits] using h
def Made (base : Nat) (l : List UInt8) (w : World) (e : Ending) (w' : World) : Prop := ∃ v, e = .returned v ∧ Own w' base 5 v l ∧ Below base w w'
def Row (l : List UInt8) (n : Nat) (w : World) (e : Ending) (w' : World) : Prop :=
  ∃ A c, e = .returned (.slice A n c) ∧ l.length = n ∧ Bys w' w'.heap.size A l ∧ (convert 23 9 (.slice A n c)).run Tryd.prog w' = .ok (.string ⟨l.toArray⟩) w' ∧ Below w.heap.size w w'
theorem Made.row {l : List UInt8} {n : Nat} {w w' : World} {e : Ending} (h : Made w.heap.size l w e w') (hn : l.length = n) : Row l n w e w' := by
  obtain ⟨v, rfl, ho, hb⟩ := h
  obtain ⟨A, c, rfl, hy⟩ := ho.bys
  subst hn
  exact ⟨A, c, rfl, rfl, hy, hy.str byteT strT c, hb⟩
theorem Below.next {w a b : World} (h : Below w.heap.size w a) (k : Below a.heap.size a b) : Below w.heap.size w b := h.trans (k.mono h.size)
end Go.Proofs.YtlpmcohbbffbfaaDoor
namespace Go.Proofs.YtlpmcohbbffbfaaDoor
open Go.ChangeShapes Go.WideShapes Go.ChangeAt Go.RowKit Mem
def Laysb (s : ByteArray) (W W' : World) : Prop := Below W.heap.size W W' ∧ Bys W' W'.heap.size (some ⟨W.heap.size, 0, none⟩) s.data.toList
theorem conv_lays (s : ByteArray) (W : World) : ∃ c W', (convert 9 23 (.string s)).run Tryd.prog W = .ok (.slice (some ⟨W.heap.size, 0, none⟩) s.size c) W' ∧ s.size ≤ c ∧ Laysb s W W' := by
  refine ⟨_, _, Lib.run_convert_string_bytes W 9 23 5 s strT byteT.sl byteT.el, ?_, ?_, ?_⟩
  · exact grownCap_ge W s.size 0 _
  · exact ⟨rfl, rfl, rfl, by rw [Lib.bytesWorld_size]; omega, fun g hg => Lib.bytesWorld_at_old W 5 s g hg⟩
  · refine .inr ⟨_, 0, rfl, by rw [Lib.bytesWorld_size]; omega, fun k hk => ?_⟩
    rw [Nat.zero_add]
    exact Lib.bytesWorld_cell W 5 s k (by simpa using hk)
theorem conv_all (s : ByteArray) : ∃ (F : World → World) (G : World → Nat), (∀ W, (convert 9 23 (.string s)).run Tryd.prog W = .ok (.slice (some ⟨W.heap.size, 0, none⟩) s.size (G W)) (F W)) ∧ (∀ W, s.size ≤ G W) ∧ ∀ W, Laysb s W (F W) :=
  ⟨fun W => (conv_lays s W).choose_spec.choose, fun W => (conv_lays s W).choose, fun W => (conv_lays s W).choose_spec.choose_spec.1, fun W => (conv_lays s W).choose_spec.choose_spec.2.1, fun W => (conv_lays s W).choose_spec.choose_spec.2.2⟩
end Go.Proofs.YtlpmcohbbffbfaaDoor
namespace Go.Proofs.YtlpmcohbbffbfaaDoor
open Go.ChangeShapes Go.WideShapes Go.ChangeAt Go.RowKit Mem
def kwords : List Value := [.string ⟨#[]⟩, .string ⟨#[110, 117, 108, 108]⟩, .string ⟨#[98, 111, 111, 108, 101, 97, 110]⟩, .string ⟨#[105, 110, 116]⟩, .string ⟨#[108, 111, 110, 103]⟩, .string ⟨#[102, 108, 111, 97, 116]⟩, .string ⟨#[100, 111, 117, 98, 108, 101]⟩, .string ⟨#[98, 121, 116, 101, 115]⟩, .string ⟨#[115, 116, 114, 105, 110, 103]⟩, .string ⟨#[114, 101, 99, 111, 114, 100]⟩, .string ⟨#[101, 110, 117, 109]⟩, .string ⟨#[97, 114, 114, 97, 121]⟩, .string ⟨#[109, 97, 112]⟩, .string ⟨#[]⟩, .string ⟨#[102, 105, 120, 101, 100]⟩]
structure Laid (w : World) : Prop where
  top : 4 < w.heap.size
  marks : ∀ n, n < 5 → w.cell? ⟨1, n, none⟩ = some (.int .u8 (Num.mark n : Int))
  words : ∀ n, n < 15 → w.cell? ⟨0, n, none⟩ = kwords[n]?
theorem Laid.below {B : Nat} {w w' : World} (h : Laid w) (hb : Below B w w') (hB : 4 < B) : Laid w' where
  top := Nat.lt_of_lt_of_le h.top hb.size
  marks := fun n hn => (hb.cell (p := ⟨1, n, none⟩) (Nat.lt_of_le_of_lt (by show 1 ≤ 4; decide) hB)).trans (h.marks n hn)
  words := fun n hn => (hb.cell (p := ⟨0, n, none⟩) (Nat.lt_of_le_of_lt (by show 0 ≤ 4; decide) hB)).trans (h.words n hn)
theorem Laid.alloc {w : World} (h : Laid w) (o : Obj) : Laid (w.alloc o) := h.below ((Below.refl w.heap.size w).alloc (Nat.le_refl _) o) h.1
theorem Laid.drewN {w : World} (h : Laid w) (k : Nat) : Laid (w.drewN k) := h.below (B := w.heap.size) (bel_drewN (Below.refl _ _) k) h.1
theorem Laid.drew {w : World} (h : Laid w) : Laid w.drew := h.below (B := w.heap.size) (Below.refl _ _).drew h.1
end Go.Proofs.YtlpmcohbbffbfaaDoor
namespace Go.Proofs.YtlpmcohbbffbfaaDoor.Tab
def flat {H : Type} : Nat → DataW H → List Value
  | _ + 1, .lit (.bool b) => [.bool b]
  | _ + 1, .lit (.int k n) => [.int k n]
  | _ + 1, .lit (.string s) => [.string ⟨s.toArray⟩]
  | f + 1, .agg ds => ds.flatMap (flat f)
  | _, _ => []
def plainT (P : Program) : Nat → TypeId → Bool
  | 0, _ => false
  | f + 1, t => match P.underlying t with
    | some .bool => true
    | some (.int _) => true
    | some .string => true
    | some (.array n e) => plainT P f e && P.cellsOf t == ((List.replicate n e).map P.cellsOf).sum
    | some (.struct fs) => (fs.toList.all fun x => plainT P f x.type) && P.cellsOf t == (fs.toList.map fun x => P.cellsOf x.type).sum &&
        (List.range fs.size).all fun i => match fs[i]? with
          | some x => x.offset == ((fs.toList.take i).map fun x => P.cellsOf x.type).sum
          | none => true
    | _ => false
theorem cut_all {β : Type} (g : β → List Value) (cs : List Value) : ∀ (ys : List (Nat × β)) (o : Nat), cs.length = o + (ys.map (·.1)).sum →
    (∀ i y, ys[i]? = some y → (cs.drop (o + ((ys.take i).map (·.1)).sum)).take y.1 = g y.2) → cs.drop o = ys.flatMap fun y => g y.2
  | [], o, hl, _ => by simp at hl; simp [List.drop_eq_nil_of_le (Nat.le_of_eq hl)]
  | y :: r, o, hl, h => by
    have h0 := h 0 y rfl
    simp only [List.take_zero, List.map_nil, List.sum_nil, Nat.add_zero] at h0
    have h1 := cut_all g cs r (o + y.1) (by simp at hl; omega) (fun i z hz => by
      have := h (i + 1) z (by simpa using hz)
      simp only [List.take_succ_cons, List.map_cons, List.sum_cons] at this
      rw [Nat.add_assoc]; exact this)
    rw [List.flatMap_cons, ← h0, ← h1, ← List.drop_drop, List.take_append_drop]
theorem sum_take_rep (c : Nat) : ∀ (n i : Nat), i ≤ n → ((List.replicate n c).take i).sum = i * c
  | n, 0, _ => by simp
  | 0, i + 1, h => absurd h (by omega)
  | n + 1, i + 1, h => by rw [List.replicate_succ, List.take_succ_cons, List.sum_cons, sum_take_rep c n i (by omega), Nat.succ_mul, Nat.add_comm]
theorem trod_flat {H : Type} {enc : TypeId × Value → H} {P : Program} {w : World} {base : Nat} {sp : Nat → Bool} {held : Bool} : ∀ (f : Nat) {fuel : Nat} {t : TypeId} {cs : List Value} {d : DataW H} {p : List MemPlace},
    plainT P f t = true → DataW.trod enc P w base sp held fuel t cs = some (d, p) → cs = flat f d
  | 0, _, _, _, _, _, h, _ => by simp [plainT] at h
  | f + 1, fuel, t, cs, d, p, h, hd => by
    unfold plainT at h
    split at h
    · rename_i hu
      cases fuel with
      | zero => simp [DataW.trod] at hd
      | succ n =>
        unfold DataW.trod at hd
        rw [hu] at hd
        split at hd <;> simp_all
        rw [← hd.1]; rfl
    · rename_i k hu
      obtain ⟨z, rfl, hx, _⟩ := DataW.trod_int hu hd
      obtain rfl := (Prod.mk.inj hx).1
      rfl
    · rename_i hu
      obtain ⟨s, rfl, hx, _⟩ := DataW.trod_string hu hd
      obtain rfl := (Prod.mk.inj hx).1
      simp [flat]
    · rename_i n e hu
      simp only [Bool.and_eq_true, beq_iff_eq] at h
      obtain ⟨he, hc⟩ := h
      obtain ⟨xs, m, rfl, hx, hl, hn, hall⟩ := DataW.trod_array hu hd
      obtain rfl := (Prod.mk.inj hx).1
      have rep : (xs.map fun x => (P.cellsOf e, x.1)).map (·.1) = List.replicate n (P.cellsOf e) := by
        rw [List.map_map, ← hn]; exact List.map_const'
      have := cut_all (flat f) cs (xs.map fun x => (P.cellsOf e, x.1)) 0 (by rw [rep, hl, hc, List.map_replicate]; omega) (fun i y hy => by
        rw [List.getElem?_map] at hy
        obtain ⟨x, hx, rfl⟩ := Option.map_eq_some_iff.1 hy
        have hi : i < n := by rw [← hn]; exact (List.getElem?_eq_some_iff.1 hx).1
        have := hall i hi
        rw [hx] at this
        rw [List.map_take, rep, sum_take_rep _ _ _ (by omega), Nat.zero_add]
        exact trod_flat f he (p := x.2) this)
      rw [List.drop_zero] at this
      rw [this]
      simp [flat, List.flatMap_map]
    · rename_i fs hu
      simp only [Bool.and_eq_true, beq_iff_eq, List.all_eq_true] at h
      obtain ⟨⟨he, hc⟩, ho⟩ := h
      obtain ⟨xs, m, rfl, hx, hl, hn, hall⟩ := DataW.trod_struct hu hd
      obtain rfl := (Prod.mk.inj hx).1
      have hz : (fs.toList.zip xs).length = fs.size := by simp [hn]
      have rep : ((fs.toList.zip xs).map fun x => (P.cellsOf x.1.type, x.2.1)).map (·.1) = fs.toList.map fun x => P.cellsOf x.type := by
        rw [List.map_map]
        have : (fs.toList.zip xs).map Prod.fst = fs.toList := List.map_fst_zip (by simp [hn])
        conv => rhs; rw [← this]
        rw [List.map_map]; rfl
      have := cut_all (flat f) cs ((fs.toList.zip xs).map fun x => (P.cellsOf x.1.type, x.2.1)) 0 (by rw [rep, hl, hc]; omega) (fun i y hy => by
        rw [List.getElem?_map] at hy
        obtain ⟨x, hx, rfl⟩ := Option.map_eq_some_iff.1 hy
        obtain ⟨h1, h2⟩ := List.getElem?_zip_eq_some.1 hx
        have hf : fs[i]? = some x.1 := by simpa using h1
        have hi : i < fs.size := (Array.getElem?_eq_some_iff.1 hf).1
        have := hall i x.1 hf
        rw [h2] at this
        have o := ho i (List.mem_range.2 hi)
        rw [hf] at o
        simp only [beq_iff_eq] at o
        rw [List.map_take, rep, Nat.zero_add, ← List.map_take, ← o]
        exact trod_flat f (he x.1 (List.mem_of_getElem? h1)) (p := x.2.2) this)
      rw [List.drop_zero] at this
      rw [this]
      have hm : (fs.toList.zip xs).map Prod.snd = xs := List.map_snd_zip (by simp [hn])
      show _ = (xs.map (·.1)).flatMap (flat f)
      rw [List.flatMap_map, List.flatMap_map]
      conv => rhs; rw [← hm]
      rw [List.flatMap_map]
    · cases h
theorem cells_of_laid {P : Program} {w : World} {n : String} {d : DataW Unit} {g : Nat} {t : TypeId} (f : Nat) (hg : P.globalNamed n = some g) (ht : (P.globals[g]?).map (·.type) = some t) (hp : plainT P f t = true) :
    ∀ {l : List (String × DataW Unit)} {ps : List MemPlace}, DataW.LaidVars P w l ps → (n, d) ∈ l → ∀ i, w.cell? ⟨g, i, none⟩ = (flat f d)[i]?
  | [], _, _, hm => by cases hm
  | (n', d') :: r, ps, h, hm => by
    obtain ⟨g', t', cs, fuel, p, q, h1, h2, h3, h4, h5, _⟩ := h
    rcases List.mem_cons.1 hm with e | e
    · cases e
      obtain rfl := Option.some.inj (hg.symm.trans h1)
      obtain rfl := Option.some.inj (ht.symm.trans h2)
      intro i
      rw [World.var?_cell hg h3 i, ← trod_flat f hp h4, Array.getElem?_toList]
    · exact cells_of_laid f hg ht hp h5 e
theorem cells_of_laidH {P : Program} {w : World} {n : String} {d : DataW Unit} {g : Nat} {t : TypeId} (f : Nat) {l : List (String × DataW Unit)} (h : laidMetH P l w) (hh : (l.all fun x => x.2.handleName?.isNone) = true)
    (hm : (n, d) ∈ l) (hg : P.globalNamed n = some g) (ht : (P.globals[g]?).map (·.type) = some t) (hp : plainT P f t = true) : ∀ i, w.cell? ⟨g, i, none⟩ = (flat f d)[i]? := by
  rw [MakeChecks.laidMetH_plain _ _ _ hh] at h
  obtain ⟨ps, hv, _⟩ := h
  exact cells_of_laid f hg ht hp hv hm
end Go.Proofs.YtlpmcohbbffbfaaDoor.Tab
namespace Go.Proofs.YtlpmcohbbffbfaaDoor
open Go.ChangeShapes Go.WideShapes Go.ChangeAt Go.RowKit Mem
theorem laid_of {W : World} (h : laidMetH Tryd.prog [("unicode/utf8.acceptRanges", Rows.laid_unicode_utf8_acceptRanges), ("avocet/utf.marks", Rows.laid_avocet_utf_marks), ("avocet/naming.words", Rows.laid_avocet_naming_words), ("unicode/utf8.first", Rows.laid_unicode_utf8_first)] W) : Laid W := by
  have m := Tab.cells_of_laidH (n := "avocet/utf.marks") (d := Rows.laid_avocet_utf_marks) (g := 1) (t := 109) 2 h (by kernel_rfl) (by simp) (by kernel_rfl) (by kernel_rfl) (by kernel_rfl)
  have k := Tab.cells_of_laidH (n := "avocet/naming.words") (d := Rows.laid_avocet_naming_words) (g := 0) (t := 98) 2 h (by kernel_rfl) (by simp) (by kernel_rfl) (by kernel_rfl) (by kernel_rfl)
  have r := Tab.cells_of_laidH (n := "unicode/utf8.acceptRanges") (d := Rows.laid_unicode_utf8_acceptRanges) (g := 4) (t := 122) 3 h (by kernel_rfl) (by simp) (by kernel_rfl) (by kernel_rfl) (by kernel_rfl)
  constructor
  · exact World.block_lt_of_cell? _ _ (r 0)
  · intro n hn
    rw [m n]
    obtain rfl | rfl | rfl | rfl | rfl : n = 0 ∨ n = 1 ∨ n = 2 ∨ n = 3 ∨ n = 4 := by omega
    all_goals rfl
  · intro n hn
    rw [k n]
    obtain rfl | rfl | rfl | rfl | rfl | rfl | rfl | rfl | rfl | rfl | rfl | rfl | rfl | rfl | rfl : n = 0 ∨ n = 1 ∨ n = 2 ∨ n = 3 ∨ n = 4 ∨ n = 5 ∨ n = 6 ∨ n = 7 ∨ n = 8 ∨ n = 9 ∨ n = 10 ∨ n = 11 ∨ n = 12 ∨ n = 13 ∨ n = 14 := by omega
    all_goals rfl
end Go.Proofs.YtlpmcohbbffbfaaDoor
namespace Go.Proofs.YtlpmcohbbffbfaaDoor.Mem
open Go.RowKit
structure RecT (P : Program) (t e : TypeId) (s : Nat) (z : Value) (y : Nat) : Prop where
  sl : P.underlying t = some (.slice e)
  info : (P.info? e).map (fun i => (i.zero, i.size, i.bytes)) = some (some z, s, y)
  zs : z.cells.size = s
  pos : 0 < s
  by_ : y ≤ 1000
def Fl (w : World) (B : Nat) (A : Option Addr) (xs : List Value) : Prop :=
  xs = [] ∨ ∃ b off, A = some ⟨b, off, none⟩ ∧ b < B ∧ ∀ k, k < xs.length → w.cell? ⟨b, off + k, none⟩ = xs[k]?
section
variable {w w' : World} {B B' : Nat} {A : Option Addr} {xs : List Value}
theorem Fl.keep (h : Fl w B A xs) (hk : ∀ p : Addr, p.block < B → w'.cell? p = w.cell? p) : Fl w' B A xs := by
  rcases h with h | ⟨b, off, rfl, hb, hc⟩
  · exact .inl h
  · exact .inr ⟨b, off, rfl, hb, fun k hl => (hk _ hb).trans (hc k hl)⟩
theorem Fl.more (h : Fl w B A xs) (hB : B ≤ B') : Fl w B' A xs := by
  rcases h with h | ⟨b, off, rfl, hb, hc⟩
  · exact .inl h
  · exact .inr ⟨b, off, rfl, by omega, hc⟩
theorem Fl.below (h : Fl w B A xs) (hb : Below B w w') : Fl w' B A xs := h.keep fun _ hp => hb.cell hp
theorem Fl.drewN (h : Fl w B A xs) (n : Nat) : Fl (w.drewN n) B A xs := h
theorem Fl.drew (h : Fl w B A xs) : Fl w.drew B A xs := h
theorem Fl.alloc (h : Fl w B A xs) (hB : B ≤ w.heap.size) (o : Obj) : Fl (w.alloc o) B A xs := h.keep fun p hp => World.cell?_alloc_lt w o p (by omega)
theorem Fl.setCell (h : Fl w B A xs) {p : Addr} (hB : B ≤ p.block) (u : Value) : Fl (w.setCell p u) B A xs :=
  h.keep fun q hq => World.cell?_setCell_other w p q u (fun e => by subst e; omega)
theorem Fl.cell (h : Fl w B A xs) {k : Nat} (hk : k < xs.length) : ∃ b off, A = some ⟨b, off, none⟩ ∧ b < B ∧ w.cell? ⟨b, off + k, none⟩ = xs[k]? := by
  rcases h with h | ⟨b, off, rfl, hb, hc⟩
  · subst h; simp at hk
  · exact ⟨b, off, rfl, hb, hc k hk⟩
end
def OwnR (w : World) (base : Nat) (e : TypeId) (s : Nat) (v : Value) (n : Nat) (xs : List Value) : Prop := w.ownsRow base e s v n xs
section
variable {w w' : World} {base : Nat} {e : TypeId} {s : Nat} {v : Value} {n : Nat} {xs : List Value}
theorem OwnR.none_ (w : World) (base : Nat) (e : TypeId) (s : Nat) : OwnR w base e s (.slice none 0 0) 0 [] := World.ownsRow_nil w base e s
theorem OwnR.alloc (h : OwnR w base e s v n xs) (o : Obj) : OwnR (w.alloc o) base e s v n xs := World.ownsRow.alloc h o
theorem OwnR.drewN (h : OwnR w base e s v n xs) (k : Nat) : OwnR (w.drewN k) base e s v n xs := h
theorem OwnR.drew (h : OwnR w base e s v n xs) : OwnR w.drew base e s v n xs := h
theorem OwnR.less {base' : Nat} (h : OwnR w base e s v n xs) (hb : base' ≤ base) : OwnR w base' e s v n xs := by
  obtain ⟨h1, h2⟩ := h
  refine ⟨h1, ?_⟩
  rcases h2 with h2 | ⟨g, cap, cur, hv, hg, r⟩
  · exact .inl h2
  · exact .inr ⟨g, cap, cur, hv, by omega, r⟩
theorem OwnR.below (h : OwnR w base e s v n xs) (hb : Below w.heap.size w w') : OwnR w' base e s v n xs := by
  obtain ⟨h1, h2⟩ := h
  refine ⟨h1, ?_⟩
  rcases h2 with h2 | ⟨g, cap, cur, hv, hg, hh, r⟩
  · exact .inl h2
  · exact .inr ⟨g, cap, cur, hv, hg, by rw [hb.block g (Array.getElem?_eq_some_iff.1 hh).1]; exact hh, r⟩
theorem OwnR.fl (h : OwnR w base e s v n xs) : ∃ A c, v = .slice A n c ∧ n ≤ c ∧ Fl w w.heap.size A xs := by
  by_cases hl : n = 0
  · subst hl
    have hx : xs = [] := List.length_eq_zero_iff.1 (by have := h.1; simpa using this)
    rcases h.2 with ⟨rfl, _⟩ | ⟨g, cap, cur, rfl, _⟩
    · exact ⟨_, _, rfl, Nat.zero_le _, .inl hx⟩
    · exact ⟨_, _, rfl, Nat.zero_le _, .inl hx⟩
  · obtain ⟨g, cap, hv, _, hlt⟩ := World.ownsRow.form h (Nat.pos_of_ne_zero hl)
    subst hv
    refine ⟨_, _, rfl, ?_, .inr ⟨g, 0, rfl, hlt, fun k hk => ?_⟩⟩
    · rcases h.2 with ⟨e, h0⟩ | ⟨g, cap, cur, e, _, _, hc, _⟩
      · omega
      · injection e with _ _ e
        omega
    · rw [show 0 + k = k by omega]
      exact World.ownsRow.cellAt h k (by rw [← h.1]; exact hk)
end
theorem grown_next {a b c : World} {row : Option Nat} (h : a.grownBy b none) (k : b.grownBy c row) : a.grownBy c row :=
  ⟨k.os.trans h.os, k.tape.trans h.tape, k.output.trans h.output, Nat.le_trans h.size k.size, fun j hj hr => (k.block j (Nat.lt_of_lt_of_le hj h.size) hr).trans (h.block j hj (by simp))⟩
theorem OwnR.apart {w : World} {base : Nat} {e : TypeId} {s : Nat} {v : Value} {n : Nat} {xs : List Value} (h : OwnR w base e s v n xs) {g : Nat} (hg : w.heap.size ≤ g) : some g ≠ v.ownBlock := fun e => by
  have := (World.ownsRow.lt h g e.symm).2; omega
section
variable {P : Program} (w : World) {t e : TypeId} {s : Nat} {z : Value} {y : Nat}
theorem run_appR (hu : RecT P t e s z y) (base : Nat) (ty : TypeId) (v : Value) (n : Nat) (xs : List Value) (hown : OwnR w base e s v n xs) (ad : Addr) (m c : Nat) (news : List Value) (hl : news.length = m * s)
    (hnews : ∀ j u, news[j]? = some u → w.cell? (ad.add j) = some u) (h1 : ∀ u ∈ news, u.oneCell' = true) (hlen : n + m ≤ 1000000000) (hbase : base ≤ w.heap.size) :
    ∃ v' w', (Builtin.append_ #[t, t] ty #[v, .slice (some ad) m c]).run P w = .ok v' w' ∧ OwnR w' base e s v' (n + m) (xs ++ news) ∧ Below base w w' ∧ w.grownBy w' v.ownBlock := by
  obtain ⟨i, hi, hzz⟩ := Option.map_eq_some_iff.1 hu.info
  simp only [Prod.mk.injEq] at hzz
  obtain ⟨hz, hsz, hby⟩ := hzz
  have hb : (n + m) * y ≤ 1000000000 * 1000 := Nat.mul_le_mul hlen hu.by_
  obtain ⟨v', w', hrun, h2, h3, _⟩ := run_append_own_at (P := P) w base t ty e i z s y hu.sl hi hz hsz hby hu.zs hu.pos v n xs hown ad m c news hl hnews h1 (by unfold maxLen; omega) (by omega) hbase
  exact ⟨v', w', hrun, h2, (Below.refl _ _).grown h3 hbase (fun k hk => (World.ownsRow.lt hown k hk).1), h3⟩
theorem wp_appR (hu : RecT P t e s z y) {o : Oper} {a : Act} {K : Act → World → Prop} {Q : Exit → Act → World → Prop} (sO x : Operand)
    (ho : o.op = .call { callee := .builtin .append, args := #[sO, x], argTypes := #[t, t] })
    (base : Nat) (v : Value) (n : Nat) (xs : List Value) (hs : a.eval sO = v) (hown : OwnR w base e s v n xs) (ad : Addr) (m c : Nat) (news : List Value) (hx : a.eval x = .slice (some ad) m c) (hl : news.length = m * s)
    (hnews : ∀ j u, news[j]? = some u → w.cell? (ad.add j) = some u) (h1 : ∀ u ∈ news, u.oneCell' = true) (hlen : n + m ≤ 1000000000) (hbase : base ≤ w.heap.size)
    (h : ∀ v' w', OwnR w' base e s v' (n + m) (xs ++ news) → Below base w w' → w.grownBy w' v.ownBlock → K (a.put o.dst v') w') : o.wp P a w K Q := by
  obtain ⟨v', w', hrun, h2, h3, h4⟩ := run_appR (P := P) w hu base o.type v n xs hown ad m c news hl hnews h1 hlen hbase
  unfold Oper.wp execOp
  simp only [ho, resolve, invoke, builtin, Sem.run_bind, Sem.run_pure, Result.andThen_ok, List.map_toArray, List.map_cons, List.map_nil, hs, hx, hrun]
  exact h v' w' h2 h3 h4
theorem wpList_appR1 (hu : RecT P t e s z y) {ops : Array Oper} {rest : List Oper} {o : Oper} {a : Act} {Q : Exit → Act → World → Prop} (hgd : o.guard = none) (sO x : Operand)
    (ho : o.op = .call { callee := .builtin .append, args := #[sO, x], argTypes := #[t, t] })
    (base : Nat) (v : Value) (n : Nat) (xs : List Value) (hs : a.eval sO = v) (hown : OwnR w base e s v n xs) (c : Nat) (cs : Array Value) (hx : a.eval x = .slice (some ⟨w.heap.size, 0, none⟩) 1 c) (hl : cs.size = s)
    (h1 : ∀ u ∈ cs.toList, u.oneCell' = true) (hlen : n + 1 ≤ 1000000000) (hbase : base ≤ w.heap.size)
    (h : ∀ v' w', OwnR w' base e s v' (n + 1) (xs ++ cs.toList) → Below base w w' → w.grownBy w' v.ownBlock → wpList P ops Q rest (a.put o.dst v') w') : wpList P ops Q (o :: rest) a (w.alloc (.cells cs e)) := by
  refine wpList_plain hgd fun _ hK => wp_appR _ hu sO x ho base v n xs hs (hown.alloc _) ⟨w.heap.size, 0, none⟩ 1 c cs.toList hx (by simp [hl]) (fun j u hj => ?_) h1 hlen (by simp; omega) fun v' w' h2 h3 h4 => hK _ _ (h v' w' h2 (((Below.refl _ _).alloc hbase _).trans h3) (grown_next (World.grownBy_alloc w _ none) h4))
  rw [add_plain, (Blk.new w e cs).cell, show 0 + j = j by omega]
  simpa using hj
end
end Go.Proofs.YtlpmcohbbffbfaaDoor.Mem
namespace Go.Proofs.YtlpmcohbbffbfaaDoor.Mem
open Go.RowKit
theorem OwnR.keepb {w w' : World} {base : Nat} {e : TypeId} {s : Nat} {v : Value} {n : Nat} {xs : List Value} (h : OwnR w base e s v n xs) (hk : ∀ g, some g = v.ownBlock → w'.heap[g]? = w.heap[g]?) : OwnR w' base e s v n xs := by
  obtain ⟨h1, h2⟩ := h
  refine ⟨h1, ?_⟩
  rcases h2 with h2 | ⟨g, cap, cur, hv, hg, hh, r⟩
  · exact .inl h2
  · refine .inr ⟨g, cap, cur, hv, hg, ?_, r⟩
    rw [hk g (by subst hv; rfl)]; exact hh
theorem OwnR.base_le {w : World} {base : Nat} {e : TypeId} {s : Nat} {v : Value} {n : Nat} {xs : List Value} (h : OwnR w base e s v n xs) {g : Nat} (hg : some g = v.ownBlock) : base ≤ g ∧ g < w.heap.size := World.ownsRow.lt h g hg.symm
theorem OwnR.set {w : World} {base : Nat} {e : TypeId} {s : Nat} {v : Value} {n : Nat} {xs : List Value} (h : OwnR w base e s v n xs) {p : Addr} (hp : p.block < base) (u : Value) : OwnR (w.setCell p u) base e s v n xs :=
  h.keepb fun g hg => Below.heap_setCell _ _ _ _ (fun e => by have := (h.base_le hg).1; omega)
theorem ne_own {v v' : Value} {g n : Nat} (h : some g ≠ v.ownBlock) (k : v'.ownBlock = v.ownBlock ∨ v'.ownBlock = some n) (hg : g < n) : some g ≠ v'.ownBlock := by
  rcases k with k | k <;> rw [k]
  · exact h
  · intro e; injection e; omega
section
variable {P : Program} (w : World) {t e : TypeId} {s : Nat} {z : Value} {y : Nat}
theorem run_appRg (hu : RecT P t e s z y) (base : Nat) (ty : TypeId) (v : Value) (n : Nat) (xs : List Value) (hown : OwnR w base e s v n xs) (ad : Addr) (m c : Nat) (news : List Value) (hl : news.length = m * s)
    (hnews : ∀ j u, news[j]? = some u → w.cell? (ad.add j) = some u) (h1 : ∀ u ∈ news, u.oneCell' = true) (hlen : n + m ≤ 1000000000) (hbase : base ≤ w.heap.size) :
    ∃ v' w', (Builtin.append_ #[t, t] ty #[v, .slice (some ad) m c]).run P w = .ok v' w' ∧ OwnR w' base e s v' (n + m) (xs ++ news) ∧ Below base w w' ∧ w.grownBy w' v.ownBlock ∧ (v'.ownBlock = v.ownBlock ∨ v'.ownBlock = some w.heap.size) := by
  obtain ⟨i, hi, hzz⟩ := Option.map_eq_some_iff.1 hu.info
  simp only [Prod.mk.injEq] at hzz
  obtain ⟨hz, hsz, hby⟩ := hzz
  have hb : (n + m) * y ≤ 1000000000 * 1000 := Nat.mul_le_mul hlen hu.by_
  obtain ⟨v', w', hrun, h2, h3, _, h4⟩ := run_append_own_at (P := P) w base t ty e i z s y hu.sl hi hz hsz hby hu.zs hu.pos v n xs hown ad m c news hl hnews h1 (by unfold maxLen; omega) (by omega) hbase
  exact ⟨v', w', hrun, h2, (Below.refl _ _).grown h3 hbase (fun k hk => (World.ownsRow.lt hown k hk).1), h3, h4⟩
theorem wp_appRg (hu : RecT P t e s z y) {o : Oper} {a : Act} {K : Act → World → Prop} {Q : Exit → Act → World → Prop} (d : Option Tmp) (hd : o.dst = d) (sO x : Operand)
    (ho : o.op = .call { callee := .builtin .append, args := #[sO, x], argTypes := #[t, t] })
    (base : Nat) (v : Value) (n : Nat) (xs : List Value) (hs : a.eval sO = v) (hown : OwnR w base e s v n xs) (ad : Addr) (m c : Nat) (news : List Value) (hx : a.eval x = .slice (some ad) m c) (hl : news.length = m * s)
    (hnews : ∀ j u, news[j]? = some u → w.cell? (ad.add j) = some u) (h1 : ∀ u ∈ news, u.oneCell' = true) (hlen : n + m ≤ 1000000000) (hbase : base ≤ w.heap.size)
    (h : ∀ v' w', OwnR w' base e s v' (n + m) (xs ++ news) → Below base w w' → w.grownBy w' v.ownBlock → (v'.ownBlock = v.ownBlock ∨ v'.ownBlock = some w.heap.size) → K (a.put d v') w') : o.wp P a w K Q := by
  obtain ⟨v', w', hrun, h2, h3, h4, h5⟩ := run_appRg (P := P) w hu base o.type v n xs hown ad m c news hl hnews h1 hlen hbase
  unfold Oper.wp execOp
  simp only [ho, resolve, invoke, builtin, Sem.run_bind, Sem.run_pure, Result.andThen_ok, List.map_toArray, List.map_cons, List.map_nil, hs, hx, hrun]
  have := h v' w' h2 h3 h4 h5
  rw [← hd] at this
  exact this
theorem wpList_appRg1 (hu : RecT P t e s z y) {ops : Array Oper} {rest : List Oper} {o : Oper} {a : Act} {Q : Exit → Act → World → Prop} (hgd : o.guard = none) (d : Option Tmp) (hd : o.dst = d) (sO x : Operand)
    (ho : o.op = .call { callee := .builtin .append, args := #[sO, x], argTypes := #[t, t] })
    (base : Nat) (v : Value) (n : Nat) (xs : List Value) (hs : a.eval sO = v) (hown : OwnR w base e s v n xs) (c : Nat) (cs : Array Value) (hx : a.eval x = .slice (some ⟨w.heap.size, 0, none⟩) 1 c) (hl : cs.size = s)
    (h1 : ∀ u ∈ cs.toList, u.oneCell' = true) (hlen : n + 1 ≤ 1000000000) (hbase : base ≤ w.heap.size)
    (h : ∀ v' w', OwnR w' base e s v' (n + 1) (xs ++ cs.toList) → Below base w w' → w.grownBy w' v.ownBlock → (v'.ownBlock = v.ownBlock ∨ v'.ownBlock = some (w.heap.size + 1)) → wpList P ops Q rest (a.put d v') w') : wpList P ops Q (o :: rest) a (w.alloc (.cells cs e)) := by
  refine wpList_plain hgd fun _ hK => wp_appRg _ hu _ rfl sO x ho base v n xs hs (hown.alloc _) ⟨w.heap.size, 0, none⟩ 1 c cs.toList hx (by simp [hl]) (fun j u hj => ?_) h1 hlen (by simp; omega) fun v' w' h2 h3 h4 h5 => hK _ _ ?_
  · rw [add_plain, (Blk.new w e cs).cell, show 0 + j = j by omega]
    simpa using hj
  · have := h v' w' h2 (((Below.refl _ _).alloc hbase _).trans h3) (grown_next (World.grownBy_alloc w _ none) h4) (h5.imp id fun e => e.trans (by simp))
    rw [← hd] at this
    exact this
end
end Go.Proofs.YtlpmcohbbffbfaaDoor.Mem
namespace Go.Proofs.YtlpmcohbbffbfaaDoor.Mem
open Go.RowKit
theorem bel_call {B B' : Nat} {w a b : World} (h : Below B' a b) (hle : B ≤ B') (k : Below B w a) : Below B w b := k.trans (h.mono hle)
theorem Bys.now {w W : World} {A : Option Addr} {l : List UInt8} (h : Bys w w.heap.size A l) (b : Below w.heap.size w W) : Bys W W.heap.size A l := (h.below b).more b.size
theorem Bys.one {w : World} {B : Nat} {A : Option Addr} {x : UInt8} (h : Bys w B A [x]) : ∃ b off, A = some ⟨b, off, none⟩ ∧ b < B ∧ w.cell? ⟨b, off, none⟩ = some (.int .u8 ((x.toNat : Nat) : Int)) := by
  rcases h with h | ⟨b, off, rfl, hb, hc⟩
  · cases h
  · exact ⟨b, off, rfl, hb, hc 0 (by simp)⟩
theorem Blk.frozen {w : World} {g : Nat} {t : TypeId} {cs : Array Value} (h : Blk w g t cs) (i : Nat) : w.frozen? ⟨g, i, none⟩ = false := by
  unfold Blk at h; simp [World.frozen?, h]
theorem Blk.past {w : World} {g : Nat} {t : TypeId} {cs : Array Value} (h : Blk w g t cs) {p : Addr} (hp : p.block ≠ g) (u : Value) : Blk (w.setCell p u) g t cs :=
  (Below.heap_setCell _ _ _ _ (fun e => hp e.symm)).trans h
theorem Blk.set {w : World} {g : Nat} {t : TypeId} {cs : Array Value} (h : Blk w g t cs) (i : Nat) (u : Value) : Blk (w.setCell ⟨g, i, none⟩ u) g t (cs.setIfInBounds i u) := by
  unfold Blk at h ⊢; simp [World.setCell, Array.getElem?_modify, h]
theorem cell_set (w : World) (g i h j : Nat) (u : Value) : (w.setCell ⟨g, i, none⟩ u).cell? ⟨h, j, none⟩ = if g = h ∧ i = j then (w.cell? ⟨g, i, none⟩).map (fun _ => u) else w.cell? ⟨h, j, none⟩ := by
  split
  · rename_i e
    obtain ⟨rfl, rfl⟩ := e
    cases hc : w.cell? ⟨g, i, none⟩ with
    | none =>
      have : (w.setCell ⟨g, i, none⟩ u).cell? ⟨g, i, none⟩ = none := by
        unfold World.cell? at hc ⊢
        simp only [World.setCell, Array.getElem?_modify, if_true]
        cases hg : w.heap[g]? with
        | none => rfl
        | some o => cases o <;> simp_all
      rw [this]; rfl
    | some v => exact World.cell?_setCell_same _ _ _ hc
  · rename_i e
    exact World.cell?_setCell_other _ _ _ _ (by intro k; injection k; omega)
theorem Bys.apart {w : World} {B g off : Nat} {l : List UInt8} (h : Bys w B (some ⟨g, off, none⟩) l) {p : Addr} (hp : p.block ≠ g) (u : Value) : Bys (w.setCell p u) B (some ⟨g, off, none⟩) l := by
  rcases h with h | ⟨b, o, e, hb, hc⟩
  · exact .inl h
  · simp only [Option.some.injEq, Addr.mk.injEq, and_true] at e
    obtain ⟨rfl, rfl⟩ := e
    exact .inr ⟨_, _, rfl, hb, fun k hk => (World.cell?_setCell_other _ _ _ _ (by intro e; subst e; exact hp rfl)).trans (hc k hk)⟩
def NewBys (B : Nat) (w : World) (A : Option Addr) (l : List UInt8) : Prop := Bys w w.heap.size A l ∧ (l = [] ∨ ∃ b off, A = some ⟨b, off, none⟩ ∧ B ≤ b)
theorem NewBys.nil (B : Nat) (w : World) (A : Option Addr) : NewBys B w A [] := ⟨Bys.nil _ _ _, .inl rfl⟩
theorem NewBys.less {B B' : Nat} {w : World} {A : Option Addr} {l : List UInt8} (h : NewBys B w A l) (hB : B' ≤ B) : NewBys B' w A l :=
  ⟨h.1, h.2.imp id fun ⟨b, off, e, k⟩ => ⟨b, off, e, by omega⟩⟩
theorem NewBys.now {B : Nat} {w w' : World} {A : Option Addr} {l : List UInt8} (h : NewBys B w A l) (b : Below w.heap.size w w') : NewBys B w' A l := ⟨h.1.now b, h.2⟩
theorem NewBys.alloc {B : Nat} {w : World} {A : Option Addr} {l : List UInt8} (h : NewBys B w A l) (o : Obj) : NewBys B (w.alloc o) A l := h.now ((Below.refl _ _).alloc (Nat.le_refl _) _)
theorem NewBys.drew {B : Nat} {w : World} {A : Option Addr} {l : List UInt8} (h : NewBys B w A l) : NewBys B w.drew A l := h
theorem NewBys.set {B : Nat} {w : World} {A : Option Addr} {l : List UInt8} (h : NewBys B w A l) {p : Addr} (hp : p.block < B) (u : Value) : NewBys B (w.setCell p u) A l := by
  refine ⟨Bys.more (B := w.heap.size) ?_ (by simp [World.setCell]), h.2⟩
  rcases h.2 with rfl | ⟨b, off, rfl, hb⟩
  · exact Bys.nil _ _ _
  · exact h.1.apart (by omega) u
theorem Own.new {w : World} {base : Nat} {e : TypeId} {v : Value} {l : List UInt8} (h : Own w base e v l) : ∃ A c, v = .slice A l.length c ∧ l.length ≤ c ∧ NewBys base w A l := by
  obtain ⟨A, c, rfl, hy, hc⟩ := h.room
  refine ⟨A, c, rfl, hc, hy, ?_⟩
  rcases h.2 with ⟨e, h0⟩ | ⟨g, cap, cur, e, hg, _⟩
  · exact .inl (List.length_eq_zero_iff.1 h0)
  · injection e with e _ _
    exact .inr ⟨g, 0, e, hg⟩
structure Save (g : Nat) (w w' : World) : Prop where
  bel : Below g w w'
  rest : ∀ b, g < b → b < w.heap.size → w'.heap[b]? = w.heap[b]?
theorem Save.refl (g : Nat) (w : World) : Save g w w := ⟨Below.refl _ _, fun _ _ _ => rfl⟩
theorem Save.trans {g : Nat} {a b c : World} (h : Save g a b) (k : Save g b c) : Save g a c :=
  ⟨h.bel.trans k.bel, fun i hi hs => (k.rest i hi (Nat.lt_of_lt_of_le hs h.bel.size)).trans (h.rest i hi hs)⟩
theorem Save.of {g : Nat} {w w' : World} (h : Below w.heap.size w w') (hg : g ≤ w.heap.size) : Save g w w' := ⟨h.mono hg, fun b _ hb => h.block b hb⟩
theorem Save.call {g : Nat} {w a b : World} (h : Below a.heap.size a b) (hg : g ≤ a.heap.size) (k : Save g w a) : Save g w b := k.trans (Save.of h hg)
theorem Save.next {g : Nat} {w a b : World} (h : Save g a b) (k : Save g w a) : Save g w b := k.trans h
theorem Save.drewN {g : Nat} {w w' : World} (h : Save g w w') (n : Nat) : Save g w (w'.drewN n) := ⟨bel_drewN h.bel n, h.rest⟩
theorem Save.drew {g : Nat} {w w' : World} (h : Save g w w') : Save g w w'.drew := ⟨h.bel.drew, h.rest⟩
theorem Save.set {g : Nat} {w w' : World} (h : Save g w w') (i : Nat) (u : Value) : Save g w (w'.setCell ⟨g, i, none⟩ u) :=
  ⟨h.bel.setCell (Nat.le_refl _) u, fun b hb hs => (Below.heap_setCell _ _ _ _ (by intro e; have e' : b = g := e; omega)).trans (h.rest b hb hs)⟩
theorem Save.alloc {g : Nat} {w w' : World} (h : Save g w w') (hg : g ≤ w'.heap.size) (o : Obj) : Save g w (w'.alloc o) := Save.call ((Below.refl _ _).alloc (Nat.le_refl _) o) hg h
theorem Save.size {g : Nat} {w w' : World} (h : Save g w w') : w.heap.size ≤ w'.heap.size := h.bel.size
theorem Save.block {g : Nat} {w w' : World} (h : Save g w w') {b : Nat} (hb : b < w.heap.size) (hn : b ≠ g) : w'.heap[b]? = w.heap[b]? := by
  by_cases k : b < g
  · exact h.bel.block b k
  · exact h.rest b (by omega) hb
theorem Save.cell {g : Nat} {w w' : World} (h : Save g w w') {p : Addr} (hp : p.block < w.heap.size) (hn : p.block ≠ g) : w'.cell? p = w.cell? p := World.cell?_of_block (w := w) (h.block hp hn)
theorem Save.frozen {g : Nat} {w w' : World} (h : Save g w w') {p : Addr} (hp : p.block < w.heap.size) (hn : p.block ≠ g) : w'.frozen? p = w.frozen? p := World.frozen?_of_block (w := w) (h.block hp hn)
theorem Save.bys {g B : Nat} {w w' : World} {A : Option Addr} {l : List UInt8} (h : Save g w w') (y : Bys w B A l) (hB : B ≤ g) : Bys w' B A l := y.below (h.bel.mono hB)
theorem Blk.newat {w : World} {g : Nat} {t : TypeId} {cs : Array Value} (e : g = w.heap.size) : Blk (w.alloc (.cells cs t)) g t cs := e ▸ Blk.new w t cs
def B1 (w : World) (g : Nat) (t : TypeId) (x0 : Value) : Prop := Blk w g t #[x0]
theorem B1.newat {w : World} {g : Nat} {t : TypeId} {x0 : Value} (e : g = w.heap.size) : B1 (w.alloc (.cells #[x0] t)) g t x0 := Blk.newat e
theorem B1.alloc {w : World} {g : Nat} {t : TypeId} {x0 : Value} (h : B1 w g t x0) (o : Obj) : B1 (w.alloc o) g t x0 := Blk.alloc h o
theorem B1.past {w : World} {g : Nat} {t : TypeId} {x0 : Value} (h : B1 w g t x0) {p : Addr} (hp : p.block ≠ g) (u : Value) : B1 (w.setCell p u) g t x0 := Blk.past h hp u
theorem B1.drewN {w : World} {g : Nat} {t : TypeId} {x0 : Value} (h : B1 w g t x0) (k : Nat) : B1 (w.drewN k) g t x0 := h
theorem B1.drew {w : World} {g : Nat} {t : TypeId} {x0 : Value} (h : B1 w g t x0) : B1 w.drew g t x0 := h
theorem B1.below {w : World} {g : Nat} {t : TypeId} {x0 : Value} {B : Nat} {w' : World} (h : B1 w g t x0) (hb : Below B w w') (hg : g < B) : B1 w' g t x0 := Blk.below h hb hg
theorem B1.lt {w : World} {g : Nat} {t : TypeId} {x0 : Value} (h : B1 w g t x0) : g < w.heap.size := Blk.lt h
theorem B1.c0 {w : World} {g : Nat} {t : TypeId} {x0 : Value} (h : B1 w g t x0) : w.cell? ⟨g, 0, none⟩ = some x0 := Blk.cell h 0
theorem B1.facts {w : World} {g : Nat} {t : TypeId} {x0 : Value} (h : B1 w g t x0) : w.cell? ⟨g, 0, none⟩ = some x0 ∧ w.frozen? ⟨g, 0, none⟩ = false := ⟨h.c0, Blk.frozen h 0⟩
def B2 (w : World) (g : Nat) (t : TypeId) (x0 x1 : Value) : Prop := Blk w g t #[x0, x1]
theorem B2.newat {w : World} {g : Nat} {t : TypeId} {x0 x1 : Value} (e : g = w.heap.size) : B2 (w.alloc (.cells #[x0, x1] t)) g t x0 x1 := Blk.newat e
theorem B2.alloc {w : World} {g : Nat} {t : TypeId} {x0 x1 : Value} (h : B2 w g t x0 x1) (o : Obj) : B2 (w.alloc o) g t x0 x1 := Blk.alloc h o
theorem B2.past {w : World} {g : Nat} {t : TypeId} {x0 x1 : Value} (h : B2 w g t x0 x1) {p : Addr} (hp : p.block ≠ g) (u : Value) : B2 (w.setCell p u) g t x0 x1 := Blk.past h hp u
theorem B2.drewN {w : World} {g : Nat} {t : TypeId} {x0 x1 : Value} (h : B2 w g t x0 x1) (k : Nat) : B2 (w.drewN k) g t x0 x1 := h
theorem B2.drew {w : World} {g : Nat} {t : TypeId} {x0 x1 : Value} (h : B2 w g t x0 x1) : B2 w.drew g t x0 x1 := h
theorem B2.below {w : World} {g : Nat} {t : TypeId} {x0 x1 : Value} {B : Nat} {w' : World} (h : B2 w g t x0 x1) (hb : Below B w w') (hg : g < B) : B2 w' g t x0 x1 := Blk.below h hb hg
theorem B2.lt {w : World} {g : Nat} {t : TypeId} {x0 x1 : Value} (h : B2 w g t x0 x1) : g < w.heap.size := Blk.lt h
theorem B2.c0 {w : World} {g : Nat} {t : TypeId} {x0 x1 : Value} (h : B2 w g t x0 x1) : w.cell? ⟨g, 0, none⟩ = some x0 := Blk.cell h 0
theorem B2.set1 {w : World} {g : Nat} {t : TypeId} {x0 x1 : Value} (h : B2 w g t x0 x1) (u : Value) : B2 (w.setCell ⟨g, 1, none⟩ u) g t x0 u := Blk.set h 1 u
theorem B2.c1 {w : World} {g : Nat} {t : TypeId} {x0 x1 : Value} (h : B2 w g t x0 x1) : w.cell? ⟨g, 1, none⟩ = some x1 := Blk.cell h 1
theorem B2.facts {w : World} {g : Nat} {t : TypeId} {x0 x1 : Value} (h : B2 w g t x0 x1) : w.cell? ⟨g, 0, none⟩ = some x0 ∧ w.cell? ⟨g, 1, none⟩ = some x1 ∧ w.frozen? ⟨g, 0, none⟩ = false ∧ w.frozen? ⟨g, 1, none⟩ = false := ⟨h.c0, h.c1, Blk.frozen h 0, Blk.frozen h 1⟩
def B3 (w : World) (g : Nat) (t : TypeId) (x0 x1 x2 : Value) : Prop := Blk w g t #[x0, x1, x2]
theorem B3.newat {w : World} {g : Nat} {t : TypeId} {x0 x1 x2 : Value} (e : g = w.heap.size) : B3 (w.alloc (.cells #[x0, x1, x2] t)) g t x0 x1 x2 := Blk.newat e
theorem B3.alloc {w : World} {g : Nat} {t : TypeId} {x0 x1 x2 : Value} (h : B3 w g t x0 x1 x2) (o : Obj) : B3 (w.alloc o) g t x0 x1 x2 := Blk.alloc h o
theorem B3.past {w : World} {g : Nat} {t : TypeId} {x0 x1 x2 : Value} (h : B3 w g t x0 x1 x2) {p : Addr} (hp : p.block ≠ g) (u : Value) : B3 (w.setCell p u) g t x0 x1 x2 := Blk.past h hp u
theorem B3.drewN {w : World} {g : Nat} {t : TypeId} {x0 x1 x2 : Value} (h : B3 w g t x0 x1 x2) (k : Nat) : B3 (w.drewN k) g t x0 x1 x2 := h
theorem B3.drew {w : World} {g : Nat} {t : TypeId} {x0 x1 x2 : Value} (h : B3 w g t x0 x1 x2) : B3 w.drew g t x0 x1 x2 := h
theorem B3.below {w : World} {g : Nat} {t : TypeId} {x0 x1 x2 : Value} {B : Nat} {w' : World} (h : B3 w g t x0 x1 x2) (hb : Below B w w') (hg : g < B) : B3 w' g t x0 x1 x2 := Blk.below h hb hg
theorem B3.lt {w : World} {g : Nat} {t : TypeId} {x0 x1 x2 : Value} (h : B3 w g t x0 x1 x2) : g < w.heap.size := Blk.lt h
theorem B3.c0 {w : World} {g : Nat} {t : TypeId} {x0 x1 x2 : Value} (h : B3 w g t x0 x1 x2) : w.cell? ⟨g, 0, none⟩ = some x0 := Blk.cell h 0
theorem B3.set1 {w : World} {g : Nat} {t : TypeId} {x0 x1 x2 : Value} (h : B3 w g t x0 x1 x2) (u : Value) : B3 (w.setCell ⟨g, 1, none⟩ u) g t x0 u x2 := Blk.set h 1 u
theorem B3.c1 {w : World} {g : Nat} {t : TypeId} {x0 x1 x2 : Value} (h : B3 w g t x0 x1 x2) : w.cell? ⟨g, 1, none⟩ = some x1 := Blk.cell h 1
theorem B3.set2 {w : World} {g : Nat} {t : TypeId} {x0 x1 x2 : Value} (h : B3 w g t x0 x1 x2) (u : Value) : B3 (w.setCell ⟨g, 2, none⟩ u) g t x0 x1 u := Blk.set h 2 u
theorem B3.c2 {w : World} {g : Nat} {t : TypeId} {x0 x1 x2 : Value} (h : B3 w g t x0 x1 x2) : w.cell? ⟨g, 2, none⟩ = some x2 := Blk.cell h 2
theorem B3.facts {w : World} {g : Nat} {t : TypeId} {x0 x1 x2 : Value} (h : B3 w g t x0 x1 x2) : w.cell? ⟨g, 0, none⟩ = some x0 ∧ w.cell? ⟨g, 1, none⟩ = some x1 ∧ w.cell? ⟨g, 2, none⟩ = some x2 ∧ w.frozen? ⟨g, 0, none⟩ = false ∧ w.frozen? ⟨g, 1, none⟩ = false ∧ w.frozen? ⟨g, 2, none⟩ = false := ⟨h.c0, h.c1, h.c2, Blk.frozen h 0, Blk.frozen h 1, Blk.frozen h 2⟩
def B4 (w : World) (g : Nat) (t : TypeId) (x0 x1 x2 x3 : Value) : Prop := Blk w g t #[x0, x1, x2, x3]
theorem B4.newat {w : World} {g : Nat} {t : TypeId} {x0 x1 x2 x3 : Value} (e : g = w.heap.size) : B4 (w.alloc (.cells #[x0, x1, x2, x3] t)) g t x0 x1 x2 x3 := Blk.newat e
theorem B4.alloc {w : World} {g : Nat} {t : TypeId} {x0 x1 x2 x3 : Value} (h : B4 w g t x0 x1 x2 x3) (o : Obj) : B4 (w.alloc o) g t x0 x1 x2 x3 := Blk.alloc h o
theorem B4.past {w : World} {g : Nat} {t : TypeId} {x0 x1 x2 x3 : Value} (h : B4 w g t x0 x1 x2 x3) {p : Addr} (hp : p.block ≠ g) (u : Value) : B4 (w.setCell p u) g t x0 x1 x2 x3 := Blk.past h hp u
theorem B4.drewN {w : World} {g : Nat} {t : TypeId} {x0 x1 x2 x3 : Value} (h : B4 w g t x0 x1 x2 x3) (k : Nat) : B4 (w.drewN k) g t x0 x1 x2 x3 := h
theorem B4.drew {w : World} {g : Nat} {t : TypeId} {x0 x1 x2 x3 : Value} (h : B4 w g t x0 x1 x2 x3) : B4 w.drew g t x0 x1 x2 x3 := h
theorem B4.below {w : World} {g : Nat} {t : TypeId} {x0 x1 x2 x3 : Value} {B : Nat} {w' : World} (h : B4 w g t x0 x1 x2 x3) (hb : Below B w w') (hg : g < B) : B4 w' g t x0 x1 x2 x3 := Blk.below h hb hg
theorem B4.lt {w : World} {g : Nat} {t : TypeId} {x0 x1 x2 x3 : Value} (h : B4 w g t x0 x1 x2 x3) : g < w.heap.size := Blk.lt h
theorem B4.c0 {w : World} {g : Nat} {t : TypeId} {x0 x1 x2 x3 : Value} (h : B4 w g t x0 x1 x2 x3) : w.cell? ⟨g, 0, none⟩ = some x0 := Blk.cell h 0
theorem B4.set1 {w : World} {g : Nat} {t : TypeId} {x0 x1 x2 x3 : Value} (h : B4 w g t x0 x1 x2 x3) (u : Value) : B4 (w.setCell ⟨g, 1, none⟩ u) g t x0 u x2 x3 := Blk.set h 1 u
theorem B4.c1 {w : World} {g : Nat} {t : TypeId} {x0 x1 x2 x3 : Value} (h : B4 w g t x0 x1 x2 x3) : w.cell? ⟨g, 1, none⟩ = some x1 := Blk.cell h 1
theorem B4.set2 {w : World} {g : Nat} {t : TypeId} {x0 x1 x2 x3 : Value} (h : B4 w g t x0 x1 x2 x3) (u : Value) : B4 (w.setCell ⟨g, 2, none⟩ u) g t x0 x1 u x3 := Blk.set h 2 u
theorem B4.c2 {w : World} {g : Nat} {t : TypeId} {x0 x1 x2 x3 : Value} (h : B4 w g t x0 x1 x2 x3) : w.cell? ⟨g, 2, none⟩ = some x2 := Blk.cell h 2
theorem B4.set3 {w : World} {g : Nat} {t : TypeId} {x0 x1 x2 x3 : Value} (h : B4 w g t x0 x1 x2 x3) (u : Value) : B4 (w.setCell ⟨g, 3, none⟩ u) g t x0 x1 x2 u := Blk.set h 3 u
theorem B4.c3 {w : World} {g : Nat} {t : TypeId} {x0 x1 x2 x3 : Value} (h : B4 w g t x0 x1 x2 x3) : w.cell? ⟨g, 3, none⟩ = some x3 := Blk.cell h 3
theorem B4.facts {w : World} {g : Nat} {t : TypeId} {x0 x1 x2 x3 : Value} (h : B4 w g t x0 x1 x2 x3) : w.cell? ⟨g, 0, none⟩ = some x0 ∧ w.cell? ⟨g, 1, none⟩ = some x1 ∧ w.cell? ⟨g, 2, none⟩ = some x2 ∧ w.cell? ⟨g, 3, none⟩ = some x3 ∧ w.frozen? ⟨g, 0, none⟩ = false ∧ w.frozen? ⟨g, 1, none⟩ = false ∧ w.frozen? ⟨g, 2, none⟩ = false ∧ w.frozen? ⟨g, 3, none⟩ = false := ⟨h.c0, h.c1, h.c2, h.c3, Blk.frozen h 0, Blk.frozen h 1, Blk.frozen h 2, Blk.frozen h 3⟩
def B5 (w : World) (g : Nat) (t : TypeId) (x0 x1 x2 x3 x4 : Value) : Prop := Blk w g t #[x0, x1, x2, x3, x4]
theorem B5.newat {w : World} {g : Nat} {t : TypeId} {x0 x1 x2 x3 x4 : Value} (e : g = w.heap.size) : B5 (w.alloc (.cells #[x0, x1, x2, x3, x4] t)) g t x0 x1 x2 x3 x4 := Blk.newat e
theorem B5.alloc {w : World} {g : Nat} {t : TypeId} {x0 x1 x2 x3 x4 : Value} (h : B5 w g t x0 x1 x2 x3 x4) (o : Obj) : B5 (w.alloc o) g t x0 x1 x2 x3 x4 := Blk.alloc h o
theorem B5.past {w : World} {g : Nat} {t : TypeId} {x0 x1 x2 x3 x4 : Value} (h : B5 w g t x0 x1 x2 x3 x4) {p : Addr} (hp : p.block ≠ g) (u : Value) : B5 (w.setCell p u) g t x0 x1 x2 x3 x4 := Blk.past h hp u
theorem B5.drewN {w : World} {g : Nat} {t : TypeId} {x0 x1 x2 x3 x4 : Value} (h : B5 w g t x0 x1 x2 x3 x4) (k : Nat) : B5 (w.drewN k) g t x0 x1 x2 x3 x4 := h
theorem B5.drew {w : World} {g : Nat} {t : TypeId} {x0 x1 x2 x3 x4 : Value} (h : B5 w g t x0 x1 x2 x3 x4) : B5 w.drew g t x0 x1 x2 x3 x4 := h
theorem B5.below {w : World} {g : Nat} {t : TypeId} {x0 x1 x2 x3 x4 : Value} {B : Nat} {w' : World} (h : B5 w g t x0 x1 x2 x3 x4) (hb : Below B w w') (hg : g < B) : B5 w' g t x0 x1 x2 x3 x4 := Blk.below h hb hg
theorem B5.lt {w : World} {g : Nat} {t : TypeId} {x0 x1 x2 x3 x4 : Value} (h : B5 w g t x0 x1 x2 x3 x4) : g < w.heap.size := Blk.lt h
theorem B5.c0 {w : World} {g : Nat} {t : TypeId} {x0 x1 x2 x3 x4 : Value} (h : B5 w g t x0 x1 x2 x3 x4) : w.cell? ⟨g, 0, none⟩ = some x0 := Blk.cell h 0
theorem B5.set1 {w : World} {g : Nat} {t : TypeId} {x0 x1 x2 x3 x4 : Value} (h : B5 w g t x0 x1 x2 x3 x4) (u : Value) : B5 (w.setCell ⟨g, 1, none⟩ u) g t x0 u x2 x3 x4 := Blk.set h 1 u
theorem B5.c1 {w : World} {g : Nat} {t : TypeId} {x0 x1 x2 x3 x4 : Value} (h : B5 w g t x0 x1 x2 x3 x4) : w.cell? ⟨g, 1, none⟩ = some x1 := Blk.cell h 1
theorem B5.set2 {w : World} {g : Nat} {t : TypeId} {x0 x1 x2 x3 x4 : Value} (h : B5 w g t x0 x1 x2 x3 x4) (u : Value) : B5 (w.setCell ⟨g, 2, none⟩ u) g t x0 x1 u x3 x4 := Blk.set h 2 u
theorem B5.c2 {w : World} {g : Nat} {t : TypeId} {x0 x1 x2 x3 x4 : Value} (h : B5 w g t x0 x1 x2 x3 x4) : w.cell? ⟨g, 2, none⟩ = some x2 := Blk.cell h 2
theorem B5.set3 {w : World} {g : Nat} {t : TypeId} {x0 x1 x2 x3 x4 : Value} (h : B5 w g t x0 x1 x2 x3 x4) (u : Value) : B5 (w.setCell ⟨g, 3, none⟩ u) g t x0 x1 x2 u x4 := Blk.set h 3 u
theorem B5.c3 {w : World} {g : Nat} {t : TypeId} {x0 x1 x2 x3 x4 : Value} (h : B5 w g t x0 x1 x2 x3 x4) : w.cell? ⟨g, 3, none⟩ = some x3 := Blk.cell h 3
theorem B5.set4 {w : World} {g : Nat} {t : TypeId} {x0 x1 x2 x3 x4 : Value} (h : B5 w g t x0 x1 x2 x3 x4) (u : Value) : B5 (w.setCell ⟨g, 4, none⟩ u) g t x0 x1 x2 x3 u := Blk.set h 4 u
theorem B5.c4 {w : World} {g : Nat} {t : TypeId} {x0 x1 x2 x3 x4 : Value} (h : B5 w g t x0 x1 x2 x3 x4) : w.cell? ⟨g, 4, none⟩ = some x4 := Blk.cell h 4
theorem B5.facts {w : World} {g : Nat} {t : TypeId} {x0 x1 x2 x3 x4 : Value} (h : B5 w g t x0 x1 x2 x3 x4) : w.cell? ⟨g, 0, none⟩ = some x0 ∧ w.cell? ⟨g, 1, none⟩ = some x1 ∧ w.cell? ⟨g, 2, none⟩ = some x2 ∧ w.cell? ⟨g, 3, none⟩ = some x3 ∧ w.cell? ⟨g, 4, none⟩ = some x4 ∧ w.frozen? ⟨g, 0, none⟩ = false ∧ w.frozen? ⟨g, 1, none⟩ = false ∧ w.frozen? ⟨g, 2, none⟩ = false ∧ w.frozen? ⟨g, 3, none⟩ = false ∧ w.frozen? ⟨g, 4, none⟩ = false := ⟨h.c0, h.c1, h.c2, h.c3, h.c4, Blk.frozen h 0, Blk.frozen h 1, Blk.frozen h 2, Blk.frozen h 3, Blk.frozen h 4⟩
def B6 (w : World) (g : Nat) (t : TypeId) (x0 x1 x2 x3 x4 x5 : Value) : Prop := Blk w g t #[x0, x1, x2, x3, x4, x5]
theorem B6.newat {w : World} {g : Nat} {t : TypeId} {x0 x1 x2 x3 x4 x5 : Value} (e : g = w.heap.size) : B6 (w.alloc (.cells #[x0, x1, x2, x3, x4, x5] t)) g t x0 x1 x2 x3 x4 x5 := Blk.newat e
theorem B6.alloc {w : World} {g : Nat} {t : TypeId} {x0 x1 x2 x3 x4 x5 : Value} (h : B6 w g t x0 x1 x2 x3 x4 x5) (o : Obj) : B6 (w.alloc o) g t x0 x1 x2 x3 x4 x5 := Blk.alloc h o
theorem B6.past {w : World} {g : Nat} {t : TypeId} {x0 x1 x2 x3 x4 x5 : Value} (h : B6 w g t x0 x1 x2 x3 x4 x5) {p : Addr} (hp : p.block ≠ g) (u : Value) : B6 (w.setCell p u) g t x0 x1 x2 x3 x4 x5 := Blk.past h hp u
theorem B6.drewN {w : World} {g : Nat} {t : TypeId} {x0 x1 x2 x3 x4 x5 : Value} (h : B6 w g t x0 x1 x2 x3 x4 x5) (k : Nat) : B6 (w.drewN k) g t x0 x1 x2 x3 x4 x5 := h
theorem B6.drew {w : World} {g : Nat} {t : TypeId} {x0 x1 x2 x3 x4 x5 : Value} (h : B6 w g t x0 x1 x2 x3 x4 x5) : B6 w.drew g t x0 x1 x2 x3 x4 x5 := h
theorem B6.below {w : World} {g : Nat} {t : TypeId} {x0 x1 x2 x3 x4 x5 : Value} {B : Nat} {w' : World} (h : B6 w g t x0 x1 x2 x3 x4 x5) (hb : Below B w w') (hg : g < B) : B6 w' g t x0 x1 x2 x3 x4 x5 := Blk.below h hb hg
theorem B6.lt {w : World} {g : Nat} {t : TypeId} {x0 x1 x2 x3 x4 x5 : Value} (h : B6 w g t x0 x1 x2 x3 x4 x5) : g < w.heap.size := Blk.lt h
theorem B6.c0 {w : World} {g : Nat} {t : TypeId} {x0 x1 x2 x3 x4 x5 : Value} (h : B6 w g t x0 x1 x2 x3 x4 x5) : w.cell? ⟨g, 0, none⟩ = some x0 := Blk.cell h 0
theorem B6.set1 {w : World} {g : Nat} {t : TypeId} {x0 x1 x2 x3 x4 x5 : Value} (h : B6 w g t x0 x1 x2 x3 x4 x5) (u : Value) : B6 (w.setCell ⟨g, 1, none⟩ u) g t x0 u x2 x3 x4 x5 := Blk.set h 1 u
theorem B6.c1 {w : World} {g : Nat} {t : TypeId} {x0 x1 x2 x3 x4 x5 : Value} (h : B6 w g t x0 x1 x2 x3 x4 x5) : w.cell? ⟨g, 1, none⟩ = some x1 := Blk.cell h 1
theorem B6.set2 {w : World} {g : Nat} {t : TypeId} {x0 x1 x2 x3 x4 x5 : Value} (h : B6 w g t x0 x1 x2 x3 x4 x5) (u : Value) : B6 (w.setCell ⟨g, 2, none⟩ u) g t x0 x1 u x3 x4 x5 := Blk.set h 2 u
theorem B6.c2 {w : World} {g : Nat} {t : TypeId} {x0 x1 x2 x3 x4 x5 : Value} (h : B6 w g t x0 x1 x2 x3 x4 x5) : w.cell? ⟨g, 2, none⟩ = some x2 := Blk.cell h 2
theorem B6.set3 {w : World} {g : Nat} {t : TypeId} {x0 x1 x2 x3 x4 x5 : Value} (h : B6 w g t x0 x1 x2 x3 x4 x5) (u : Value) : B6 (w.setCell ⟨g, 3, none⟩ u) g t x0 x1 x2 u x4 x5 := Blk.set h 3 u
theorem B6.c3 {w : World} {g : Nat} {t : TypeId} {x0 x1 x2 x3 x4 x5 : Value} (h : B6 w g t x0 x1 x2 x3 x4 x5) : w.cell? ⟨g, 3, none⟩ = some x3 := Blk.cell h 3
theorem B6.set4 {w : World} {g : Nat} {t : TypeId} {x0 x1 x2 x3 x4 x5 : Value} (h : B6 w g t x0 x1 x2 x3 x4 x5) (u : Value) : B6 (w.setCell ⟨g, 4, none⟩ u) g t x0 x1 x2 x3 u x5 := Blk.set h 4 u
theorem B6.c4 {w : World} {g : Nat} {t : TypeId} {x0 x1 x2 x3 x4 x5 : Value} (h : B6 w g t x0 x1 x2 x3 x4 x5) : w.cell? ⟨g, 4, none⟩ = some x4 := Blk.cell h 4
theorem B6.set5 {w : World} {g : Nat} {t : TypeId} {x0 x1 x2 x3 x4 x5 : Value} (h : B6 w g t x0 x1 x2 x3 x4 x5) (u : Value) : B6 (w.setCell ⟨g, 5, none⟩ u) g t x0 x1 x2 x3 x4 u := Blk.set h 5 u
theorem B6.c5 {w : World} {g : Nat} {t : TypeId} {x0 x1 x2 x3 x4 x5 : Value} (h : B6 w g t x0 x1 x2 x3 x4 x5) : w.cell? ⟨g, 5, none⟩ = some x5 := Blk.cell h 5
theorem B6.facts {w : World} {g : Nat} {t : TypeId} {x0 x1 x2 x3 x4 x5 : Value} (h : B6 w g t x0 x1 x2 x3 x4 x5) : w.cell? ⟨g, 0, none⟩ = some x0 ∧ w.cell? ⟨g, 1, none⟩ = some x1 ∧ w.cell? ⟨g, 2, none⟩ = some x2 ∧ w.cell? ⟨g, 3, none⟩ = some x3 ∧ w.cell? ⟨g, 4, none⟩ = some x4 ∧ w.cell? ⟨g, 5, none⟩ = some x5 ∧ w.frozen? ⟨g, 0, none⟩ = false ∧ w.frozen? ⟨g, 1, none⟩ = false ∧ w.frozen? ⟨g, 2, none⟩ = false ∧ w.frozen? ⟨g, 3, none⟩ = false ∧ w.frozen? ⟨g, 4, none⟩ = false ∧ w.frozen? ⟨g, 5, none⟩ = false := ⟨h.c0, h.c1, h.c2, h.c3, h.c4, h.c5, Blk.frozen h 0, Blk.frozen h 1, Blk.frozen h 2, Blk.frozen h 3, Blk.frozen h 4, Blk.frozen h 5⟩
end Go.Proofs.YtlpmcohbbffbfaaDoor.Mem
namespace Go.Proofs.YtlpmcohbbffbfaaDoor.Mem
open Go.RowKit
def B9 (w : World) (g : Nat) (t : TypeId) (x0 x1 x2 x3 x4 x5 x6 x7 x8 : Value) : Prop := Blk w g t #[x0, x1, x2, x3, x4, x5, x6, x7, x8]
theorem B9.newat {w : World} {g : Nat} {t : TypeId} {x0 x1 x2 x3 x4 x5 x6 x7 x8 : Value} (e : g = w.heap.size) : B9 (w.alloc (.cells #[x0, x1, x2, x3, x4, x5, x6, x7, x8] t)) g t x0 x1 x2 x3 x4 x5 x6 x7 x8 := Blk.newat e
theorem B9.alloc {w : World} {g : Nat} {t : TypeId} {x0 x1 x2 x3 x4 x5 x6 x7 x8 : Value} (h : B9 w g t x0 x1 x2 x3 x4 x5 x6 x7 x8) (o : Obj) : B9 (w.alloc o) g t x0 x1 x2 x3 x4 x5 x6 x7 x8 := Blk.alloc h o
theorem B9.past {w : World} {g : Nat} {t : TypeId} {x0 x1 x2 x3 x4 x5 x6 x7 x8 : Value} (h : B9 w g t x0 x1 x2 x3 x4 x5 x6 x7 x8) {p : Addr} (hp : p.block ≠ g) (u : Value) : B9 (w.setCell p u) g t x0 x1 x2 x3 x4 x5 x6 x7 x8 := Blk.past h hp u
theorem B9.drewN {w : World} {g : Nat} {t : TypeId} {x0 x1 x2 x3 x4 x5 x6 x7 x8 : Value} (h : B9 w g t x0 x1 x2 x3 x4 x5 x6 x7 x8) (k : Nat) : B9 (w.drewN k) g t x0 x1 x2 x3 x4 x5 x6 x7 x8 := h
theorem B9.drew {w : World} {g : Nat} {t : TypeId} {x0 x1 x2 x3 x4 x5 x6 x7 x8 : Value} (h : B9 w g t x0 x1 x2 x3 x4 x5 x6 x7 x8) : B9 w.drew g t x0 x1 x2 x3 x4 x5 x6 x7 x8 := h
theorem B9.below {w : World} {g : Nat} {t : TypeId} {x0 x1 x2 x3 x4 x5 x6 x7 x8 : Value} {B : Nat} {w' : World} (h : B9 w g t x0 x1 x2 x3 x4 x5 x6 x7 x8) (hb : Below B w w') (hg : g < B) : B9 w' g t x0 x1 x2 x3 x4 x5 x6 x7 x8 := Blk.below h hb hg
theorem B9.lt {w : World} {g : Nat} {t : TypeId} {x0 x1 x2 x3 x4 x5 x6 x7 x8 : Value} (h : B9 w g t x0 x1 x2 x3 x4 x5 x6 x7 x8) : g < w.heap.size := Blk.lt h
theorem B9.set1 {w : World} {g : Nat} {t : TypeId} {x0 x1 x2 x3 x4 x5 x6 x7 x8 : Value} (h : B9 w g t x0 x1 x2 x3 x4 x5 x6 x7 x8) (u : Value) : B9 (w.setCell ⟨g, 1, none⟩ u) g t x0 u x2 x3 x4 x5 x6 x7 x8 := Blk.set h 1 u
theorem B9.set2 {w : World} {g : Nat} {t : TypeId} {x0 x1 x2 x3 x4 x5 x6 x7 x8 : Value} (h : B9 w g t x0 x1 x2 x3 x4 x5 x6 x7 x8) (u : Value) : B9 (w.setCell ⟨g, 2, none⟩ u) g t x0 x1 u x3 x4 x5 x6 x7 x8 := Blk.set h 2 u
theorem B9.set3 {w : World} {g : Nat} {t : TypeId} {x0 x1 x2 x3 x4 x5 x6 x7 x8 : Value} (h : B9 w g t x0 x1 x2 x3 x4 x5 x6 x7 x8) (u : Value) : B9 (w.setCell ⟨g, 3, none⟩ u) g t x0 x1 x2 u x4 x5 x6 x7 x8 := Blk.set h 3 u
theorem B9.set4 {w : World} {g : Nat} {t : TypeId} {x0 x1 x2 x3 x4 x5 x6 x7 x8 : Value} (h : B9 w g t x0 x1 x2 x3 x4 x5 x6 x7 x8) (u : Value) : B9 (w.setCell ⟨g, 4, none⟩ u) g t x0 x1 x2 x3 u x5 x6 x7 x8 := Blk.set h 4 u
theorem B9.set5 {w : World} {g : Nat} {t : TypeId} {x0 x1 x2 x3 x4 x5 x6 x7 x8 : Value} (h : B9 w g t x0 x1 x2 x3 x4 x5 x6 x7 x8) (u : Value) : B9 (w.setCell ⟨g, 5, none⟩ u) g t x0 x1 x2 x3 x4 u x6 x7 x8 := Blk.set h 5 u
theorem B9.facts {w : World} {g : Nat} {t : TypeId} {x0 x1 x2 x3 x4 x5 x6 x7 x8 : Value} (h : B9 w g t x0 x1 x2 x3 x4 x5 x6 x7 x8) : w.cell? ⟨g, 0, none⟩ = some x0 ∧ w.cell? ⟨g, 1, none⟩ = some x1 ∧ w.cell? ⟨g, 2, none⟩ = some x2 ∧ w.cell? ⟨g, 3, none⟩ = some x3 ∧ w.cell? ⟨g, 4, none⟩ = some x4 ∧ w.cell? ⟨g, 5, none⟩ = some x5 ∧ w.cell? ⟨g, 6, none⟩ = some x6 ∧ w.cell? ⟨g, 7, none⟩ = some x7 ∧ w.cell? ⟨g, 8, none⟩ = some x8 ∧ w.frozen? ⟨g, 0, none⟩ = false ∧ w.frozen? ⟨g, 1, none⟩ = false ∧ w.frozen? ⟨g, 2, none⟩ = false ∧ w.frozen? ⟨g, 3, none⟩ = false ∧ w.frozen? ⟨g, 4, none⟩ = false ∧ w.frozen? ⟨g, 5, none⟩ = false ∧ w.frozen? ⟨g, 6, none⟩ = false ∧ w.frozen? ⟨g, 7, none⟩ = false ∧ w.frozen? ⟨g, 8, none⟩ = false := ⟨Blk.cell h 0, Blk.cell h 1, Blk.cell h 2, Blk.cell h 3, Blk.cell h 4, Blk.cell h 5, Blk.cell h 6, Blk.cell h 7, Blk.cell h 8, Blk.frozen h 0, Blk.frozen h 1, Blk.frozen h 2, Blk.frozen h 3, Blk.frozen h 4, Blk.frozen h 5, Blk.frozen h 6, Blk.frozen h 7, Blk.frozen h 8⟩
def B10 (w : World) (g : Nat) (t : TypeId) (x0 x1 x2 x3 x4 x5 x6 x7 x8 x9 : Value) : Prop := Blk w g t #[x0, x1, x2, x3, x4, x5, x6, x7, x8, x9]
theorem B10.newat {w : World} {g : Nat} {t : TypeId} {x0 x1 x2 x3 x4 x5 x6 x7 x8 x9 : Value} (e : g = w.heap.size) : B10 (w.alloc (.cells #[x0, x1, x2, x3, x4, x5, x6, x7, x8, x9] t)) g t x0 x1 x2 x3 x4 x5 x6 x7 x8 x9 := Blk.newat e
theorem B10.alloc {w : World} {g : Nat} {t : TypeId} {x0 x1 x2 x3 x4 x5 x6 x7 x8 x9 : Value} (h : B10 w g t x0 x1 x2 x3 x4 x5 x6 x7 x8 x9) (o : Obj) : B10 (w.alloc o) g t x0 x1 x2 x3 x4 x5 x6 x7 x8 x9 := Blk.alloc h o
theorem B10.past {w : World} {g : Nat} {t : TypeId} {x0 x1 x2 x3 x4 x5 x6 x7 x8 x9 : Value} (h : B10 w g t x0 x1 x2 x3 x4 x5 x6 x7 x8 x9) {p : Addr} (hp : p.block ≠ g) (u : Value) : B10 (w.setCell p u) g t x0 x1 x2 x3 x4 x5 x6 x7 x8 x9 := Blk.past h hp u
theorem B10.drewN {w : World} {g : Nat} {t : TypeId} {x0 x1 x2 x3 x4 x5 x6 x7 x8 x9 : Value} (h : B10 w g t x0 x1 x2 x3 x4 x5 x6 x7 x8 x9) (k : Nat) : B10 (w.drewN k) g t x0 x1 x2 x3 x4 x5 x6 x7 x8 x9 := h
theorem B10.drew {w : World} {g : Nat} {t : TypeId} {x0 x1 x2 x3 x4 x5 x6 x7 x8 x9 : Value} (h : B10 w g t x0 x1 x2 x3 x4 x5 x6 x7 x8 x9) : B10 w.drew g t x0 x1 x2 x3 x4 x5 x6 x7 x8 x9 := h
theorem B10.below {w : World} {g : Nat} {t : TypeId} {x0 x1 x2 x3 x4 x5 x6 x7 x8 x9 : Value} {B : Nat} {w' : World} (h : B10 w g t x0 x1 x2 x3 x4 x5 x6 x7 x8 x9) (hb : Below B w w') (hg : g < B) : B10 w' g t x0 x1 x2 x3 x4 x5 x6 x7 x8 x9 := Blk.below h hb hg
theorem B10.lt {w : World} {g : Nat} {t : TypeId} {x0 x1 x2 x3 x4 x5 x6 x7 x8 x9 : Value} (h : B10 w g t x0 x1 x2 x3 x4 x5 x6 x7 x8 x9) : g < w.heap.size := Blk.lt h
theorem B10.set1 {w : World} {g : Nat} {t : TypeId} {x0 x1 x2 x3 x4 x5 x6 x7 x8 x9 : Value} (h : B10 w g t x0 x1 x2 x3 x4 x5 x6 x7 x8 x9) (u : Value) : B10 (w.setCell ⟨g, 1, none⟩ u) g t x0 u x2 x3 x4 x5 x6 x7 x8 x9 := Blk.set h 1 u
theorem B10.set2 {w : World} {g : Nat} {t : TypeId} {x0 x1 x2 x3 x4 x5 x6 x7 x8 x9 : Value} (h : B10 w g t x0 x1 x2 x3 x4 x5 x6 x7 x8 x9) (u : Value) : B10 (w.setCell ⟨g, 2, none⟩ u) g t x0 x1 u x3 x4 x5 x6 x7 x8 x9 := Blk.set h 2 u
theorem B10.set3 {w : World} {g : Nat} {t : TypeId} {x0 x1 x2 x3 x4 x5 x6 x7 x8 x9 : Value} (h : B10 w g t x0 x1 x2 x3 x4 x5 x6 x7 x8 x9) (u : Value) : B10 (w.setCell ⟨g, 3, none⟩ u) g t x0 x1 x2 u x4 x5 x6 x7 x8 x9 := Blk.set h 3 u
theorem B10.set4 {w : World} {g : Nat} {t : TypeId} {x0 x1 x2 x3 x4 x5 x6 x7 x8 x9 : Value} (h : B10 w g t x0 x1 x2 x3 x4 x5 x6 x7 x8 x9) (u : Value) : B10 (w.setCell ⟨g, 4, none⟩ u) g t x0 x1 x2 x3 u x5 x6 x7 x8 x9 := Blk.set h 4 u
theorem B10.set5 {w : World} {g : Nat} {t : TypeId} {x0 x1 x2 x3 x4 x5 x6 x7 x8 x9 : Value} (h : B10 w g t x0 x1 x2 x3 x4 x5 x6 x7 x8 x9) (u : Value) : B10 (w.setCell ⟨g, 5, none⟩ u) g t x0 x1 x2 x3 x4 u x6 x7 x8 x9 := Blk.set h 5 u
theorem B10.facts {w : World} {g : Nat} {t : TypeId} {x0 x1 x2 x3 x4 x5 x6 x7 x8 x9 : Value} (h : B10 w g t x0 x1 x2 x3 x4 x5 x6 x7 x8 x9) : w.cell? ⟨g, 0, none⟩ = some x0 ∧ w.cell? ⟨g, 1, none⟩ = some x1 ∧ w.cell? ⟨g, 2, none⟩ = some x2 ∧ w.cell? ⟨g, 3, none⟩ = some x3 ∧ w.cell? ⟨g, 4, none⟩ = some x4 ∧ w.cell? ⟨g, 5, none⟩ = some x5 ∧ w.cell? ⟨g, 6, none⟩ = some x6 ∧ w.cell? ⟨g, 7, none⟩ = some x7 ∧ w.cell? ⟨g, 8, none⟩ = some x8 ∧ w.cell? ⟨g, 9, none⟩ = some x9 ∧ w.frozen? ⟨g, 0, none⟩ = false ∧ w.frozen? ⟨g, 1, none⟩ = false ∧ w.frozen? ⟨g, 2, none⟩ = false ∧ w.frozen? ⟨g, 3, none⟩ = false ∧ w.frozen? ⟨g, 4, none⟩ = false ∧ w.frozen? ⟨g, 5, none⟩ = false ∧ w.frozen? ⟨g, 6, none⟩ = false ∧ w.frozen? ⟨g, 7, none⟩ = false ∧ w.frozen? ⟨g, 8, none⟩ = false ∧ w.frozen? ⟨g, 9, none⟩ = false := ⟨Blk.cell h 0, Blk.cell h 1, Blk.cell h 2, Blk.cell h 3, Blk.cell h 4, Blk.cell h 5, Blk.cell h 6, Blk.cell h 7, Blk.cell h 8, Blk.cell h 9, Blk.frozen h 0, Blk.frozen h 1, Blk.frozen h 2, Blk.frozen h 3, Blk.frozen h 4, Blk.frozen h 5, Blk.frozen h 6, Blk.frozen h 7, Blk.frozen h 8, Blk.frozen h 9⟩
end Go.Proofs.YtlpmcohbbffbfaaDoor.Mem
namespace Go.Proofs.YtlpmcohbbffbfaaDoor
open Go.RowKit Mem
inductive D where
  | i (k : IntKind) (n : Int)
  | b (x : Bool)
  | s (t : ByteArray)
  | ag (fs : List D)
  | sl (n : Nat) (items : List D)
mutual
/-- Cells that are a datum, whose parts lie in blocks that S has. -/
def Lies (w : World) (S : Nat → Prop) : D → List Value → Prop
  | .i k n, cs => cs = [.int k n]
  | .b x, cs => cs = [.bool x]
  | .s t, cs => cs = [.string t]
  | .ag fs, cs => LiesA w S fs cs
  | .sl n items, cs => ∃ A c, cs = [.slice A items.length c] ∧ items.length ≤ c ∧ items.length ≤ maxLen ∧ RowD w S n items A
/-- Fields, one behind the other. -/
def LiesA (w : World) (S : Nat → Prop) : List D → List Value → Prop
  | [], cs => cs = []
  | d :: r, cs => ∃ c1 c2, cs = c1 ++ c2 ∧ Lies w S d c1 ∧ LiesA w S r c2
/-- A place from which data stand, each of n cells. -/
def RowD (w : World) (S : Nat → Prop) (n : Nat) : List D → Option Addr → Prop
  | [], _ => True
  | d :: r, A => ∃ g off cs, A = some ⟨g, off, none⟩ ∧ S g ∧ cs.length = n ∧ (∀ j, j < n → w.cell? ⟨g, off + j, none⟩ = cs[j]?) ∧ Lies w S d cs ∧ RowD w S n r (some ⟨g, off + n, none⟩)
end
section
variable {w w' : World} {S S' : Nat → Prop}
mutual
theorem Lies.keep (hk : ∀ p : Addr, S p.block → w'.cell? p = w.cell? p) (hS : ∀ g, S g → S' g) : ∀ {d : D} {cs : List Value}, Lies w S d cs → Lies w' S' d cs
  | .i _ _, cs, h => by unfold Lies at h ⊢; exact h
  | .b _, cs, h => by unfold Lies at h ⊢; exact h
  | .s _, cs, h => by unfold Lies at h ⊢; exact h
  | .ag fs, cs, h => by unfold Lies at h ⊢; exact LiesA.keep hk hS h
  | .sl n items, cs, h => by
    unfold Lies at h ⊢
    obtain ⟨A, c, e, h1, h2, h3⟩ := h
    exact ⟨A, c, e, h1, h2, RowD.keep hk hS h3⟩
theorem LiesA.keep (hk : ∀ p : Addr, S p.block → w'.cell? p = w.cell? p) (hS : ∀ g, S g → S' g) : ∀ {fs : List D} {cs : List Value}, LiesA w S fs cs → LiesA w' S' fs cs
  | [], cs, h => by unfold LiesA at h ⊢; exact h
  | d :: r, cs, h => by
    unfold LiesA at h ⊢
    obtain ⟨c1, c2, e, h1, h2⟩ := h
    exact ⟨c1, c2, e, Lies.keep hk hS h1, LiesA.keep hk hS h2⟩
theorem RowD.keep (hk : ∀ p : Addr, S p.block → w'.cell? p = w.cell? p) (hS : ∀ g, S g → S' g) {n : Nat} : ∀ {l : List D} {A : Option Addr}, RowD w S n l A → RowD w' S' n l A
  | [], A, _ => by unfold RowD; trivial
  | d :: r, A, h => by
    unfold RowD at h ⊢
    obtain ⟨g, off, cs, e, hg, hl, hc, h1, h2⟩ := h
    exact ⟨g, off, cs, e, hS g hg, hl, fun j hj => (hk _ hg).trans (hc j hj), Lies.keep hk hS h1, RowD.keep hk hS h2⟩
end
end
section
variable {w w' : World} {B B' : Nat} {d : D} {cs : List Value} {l : List D} {A : Option Addr} {n : Nat}
theorem Lies.below (h : Lies w (· < B) d cs) (hb : Below B w w') : Lies w' (· < B) d cs := h.keep (fun _ hp => hb.cell hp) fun _ h => h
theorem Lies.more (h : Lies w (· < B) d cs) (hB : B ≤ B') : Lies w (· < B') d cs := h.keep (fun _ _ => rfl) fun _ h => Nat.lt_of_lt_of_le h hB
theorem Lies.on (h : Lies w (· < w.heap.size) d cs) (hb : Below w.heap.size w w') : Lies w' (· < w'.heap.size) d cs := (h.below hb).more hb.size
theorem RowD.below (h : RowD w (· < B) n l A) (hb : Below B w w') : RowD w' (· < B) n l A := h.keep (fun _ hp => hb.cell hp) fun _ h => h
theorem RowD.more (h : RowD w (· < B) n l A) (hB : B ≤ B') : RowD w (· < B') n l A := h.keep (fun _ _ => rfl) fun _ h => Nat.lt_of_lt_of_le h hB
theorem RowD.on (h : RowD w (· < w.heap.size) n l A) (hb : Below w.heap.size w w') : RowD w' (· < w'.heap.size) n l A := (h.below hb).more hb.size
theorem RowD.nil_ (w : World) (S : Nat → Prop) (n : Nat) (A : Option Addr) : RowD w S n [] A := by unfold RowD; trivial
end
section
variable {w : World} {S : Nat → Prop}
theorem RowD.at_ {n : Nat} : ∀ {l : List D} {A : Option Addr} (_ : RowD w S n l A) {i : Nat} (hi : i < l.length), ∃ g off cs, A = some ⟨g, off, none⟩ ∧ S g ∧ cs.length = n ∧ (∀ j, j < n → w.cell? ⟨g, off + i * n + j, none⟩ = cs[j]?) ∧ Lies w S (l[i]'hi) cs
  | [], _, _, i, hi => absurd hi (Nat.not_lt_zero _)
  | d :: r, A, h, i, hi => by
    unfold RowD at h
    obtain ⟨g, off, cs, rfl, hg, hl, hc, h1, h2⟩ := h
    cases i with
    | zero => exact ⟨g, off, cs, rfl, hg, hl, fun j hj => by rw [Nat.zero_mul, Nat.add_zero]; exact hc j hj, h1⟩
    | succ i =>
      obtain ⟨g', off', cs', e, hg', hl', hc', h'⟩ := RowD.at_ h2 (i := i) (by simpa using hi)
      simp only [Option.some.injEq, Addr.mk.injEq, and_true] at e
      obtain ⟨rfl, rfl⟩ := e
      exact ⟨g, off, cs', rfl, hg, hl', fun j hj => by rw [show off + (i + 1) * n + j = off + n + i * n + j by rw [Nat.succ_mul]; omega]; exact hc' j hj, h'⟩
theorem RowD.snoc {n : Nat} {d : D} {cs : List Value} {g off : Nat} (hg : S g) (hl : cs.length = n) (hd : Lies w S d cs) : ∀ {l : List D} {o : Nat}, RowD w S n l (some ⟨g, o, none⟩) → off = o + l.length * n → (∀ j, j < n → w.cell? ⟨g, off + j, none⟩ = cs[j]?) → RowD w S n (l ++ [d]) (some ⟨g, o, none⟩)
  | [], o, _, e, hc => by
    obtain rfl : off = o := by simpa using e
    show RowD w S n [d] _
    unfold RowD
    exact ⟨g, off, cs, rfl, hg, hl, hc, hd, RowD.nil_ _ _ _ _⟩
  | x :: r, o, h, e, hc => by
    unfold RowD at h
    obtain ⟨g', o', cs', e', hg', hl', hc', h1, h2⟩ := h
    simp only [Option.some.injEq, Addr.mk.injEq, and_true] at e'
    obtain ⟨rfl, rfl⟩ := e'
    show RowD w S n (x :: (r ++ [d])) _
    unfold RowD
    exact ⟨g, o, cs', rfl, hg, hl', hc', h1, RowD.snoc hg hl hd h2 (by rw [List.length_cons, Nat.succ_mul] at e; omega) hc⟩
theorem RowD.of {n g off : Nat} (hg : S g) : ∀ (m : Nat) (f : Nat → D) (F : Nat → List Value), (∀ i, i < m → (F i).length = n ∧ (∀ j, j < n → w.cell? ⟨g, off + i * n + j, none⟩ = (F i)[j]?) ∧ Lies w S (f i) (F i)) → RowD w S n ((List.range m).map f) (some ⟨g, off, none⟩)
  | 0, _, _, _ => RowD.nil_ _ _ _ _
  | m + 1, f, F, h => by
    rw [List.range_succ, List.map_append, List.map_cons, List.map_nil]
    obtain ⟨h1, h2, h3⟩ := h m (by omega)
    exact RowD.snoc hg h1 h3 (RowD.of hg m f F fun i hi => h i (by omega)) (by simp) h2
theorem lies_i {k : IntKind} {n : Int} {cs : List Value} : Lies w S (.i k n) cs ↔ cs = [.int k n] := by unfold Lies; exact Iff.rfl
theorem lies_b {x : Bool} {cs : List Value} : Lies w S (.b x) cs ↔ cs = [.bool x] := by unfold Lies; exact Iff.rfl
theorem lies_s {t : ByteArray} {cs : List Value} : Lies w S (.s t) cs ↔ cs = [.string t] := by unfold Lies; exact Iff.rfl
theorem lies_ag {fs : List D} {cs : List Value} : Lies w S (.ag fs) cs ↔ LiesA w S fs cs := by unfold Lies; exact Iff.rfl
theorem lies_sl {n : Nat} {l : List D} {cs : List Value} : Lies w S (.sl n l) cs ↔ ∃ A c, cs = [.slice A l.length c] ∧ l.length ≤ c ∧ l.length ≤ maxLen ∧ RowD w S n l A := by
  conv => lhs; unfold Lies
theorem liesA_nil {cs : List Value} : LiesA w S [] cs ↔ cs = [] := by unfold LiesA; exact Iff.rfl
theorem liesA_cons {d : D} {r : List D} {cs : List Value} : LiesA w S (d :: r) cs ↔ ∃ c1 c2, cs = c1 ++ c2 ∧ Lies w S d c1 ∧ LiesA w S r c2 := by
  conv => lhs; unfold LiesA
end
section
variable {H : Type} {enc : TypeId × Value → H} {P : Program} {w : World} {sp : Nat → Bool} {held : Bool}
mutual
/-- A datum has a type. -/
def Typed (P : Program) : D → TypeId → Prop
  | .i k n, t => P.underlying t = some (.int k) ∧ (Lit.int k n).wf = true
  | .b _, t => P.underlying t = some .bool
  | .s _, t => P.underlying t = some .string
  | .ag ds, t => ∃ fs, P.underlying t = some (.struct fs) ∧ TypedA P ds (fs.toList.map fun f => f.type)
  | .sl n items, t => ∃ e, P.underlying t = some (.slice e) ∧ n = P.cellsOf e ∧ TypedR P items e
def TypedA (P : Program) : List D → List TypeId → Prop
  | [], ts => ts = []
  | d :: r, ts => ∃ t q, ts = t :: q ∧ Typed P d t ∧ TypedA P r q
def TypedR (P : Program) : List D → TypeId → Prop
  | [], _ => True
  | d :: r, t => Typed P d t ∧ TypedR P r t
end
theorem TypedR.snoc {d : D} {t : TypeId} (hd : Typed P d t) : ∀ {l : List D}, TypedR P l t → TypedR P (l ++ [d]) t
  | [], _ => by show TypedR P [d] t; unfold TypedR TypedR; exact ⟨hd, trivial⟩
  | x :: r, h => by
    unfold TypedR at h
    show TypedR P (x :: (r ++ [d])) t
    unfold TypedR
    exact ⟨h.1, TypedR.snoc hd h.2⟩
theorem TypedR.at_ {t : TypeId} : ∀ {l : List D} (_ : TypedR P l t) {i : Nat} (hi : i < l.length), Typed P (l[i]'hi) t
  | [], _, i, hi => absurd hi (Nat.not_lt_zero _)
  | d :: r, h, i, hi => by
    unfold TypedR at h
    cases i with
    | zero => exact h.1
    | succ i => exact TypedR.at_ h.2 (i := i) (by simpa using hi)
def plainSet (P : Program) (G : List TypeId) : Bool := G.all fun t => decide (1 ≤ P.cellsOf t) && match P.underlying t with
  | some .bool => P.cellsOf t == 1
  | some (.int _) => P.cellsOf t == 1
  | some .string => P.cellsOf t == 1
  | some (.slice e) => P.cellsOf t == 1 && G.contains e
  | some (.struct fs) => (fs.toList.all fun f => G.contains f.type) && P.cellsOf t == (fs.toList.map fun x => P.cellsOf x.type).sum &&
      (List.range fs.size).all fun i => match fs[i]? with
        | some x => x.offset == ((fs.toList.take i).map fun x => P.cellsOf x.type).sum
        | none => true
  | _ => false
theorem liesA_of {w : World} {S : Nat → Prop} {cs : List Value} : ∀ (ts : List TypeId) (o : Nat), cs.length = o + (ts.map P.cellsOf).sum →
    (∀ i t, ts[i]? = some t → ∃ d, Lies w S d ((cs.drop (o + ((ts.take i).map P.cellsOf).sum)).take (P.cellsOf t)) ∧ Typed P d t) → ∃ ds, LiesA w S ds (cs.drop o) ∧ TypedA P ds ts
  | [], o, hl, _ => ⟨[], by unfold LiesA; simp at hl; simp [List.drop_eq_nil_of_le (Nat.le_of_eq hl)], by unfold TypedA; rfl⟩
  | t :: q, o, hl, h => by
    obtain ⟨d, h1, h2⟩ := h 0 t rfl
    simp only [List.take_zero, List.map_nil, List.sum_nil, Nat.add_zero] at h1
    obtain ⟨ds, h3, h4⟩ := liesA_of (cs := cs) q (o + P.cellsOf t) (by simp at hl; omega) (fun i u hu => by
      have := h (i + 1) u (by simpa using hu)
      simp only [List.take_succ_cons, List.map_cons, List.sum_cons] at this
      rw [Nat.add_assoc]; exact this)
    refine ⟨d :: ds, ?_, by unfold TypedA; exact ⟨t, q, rfl, h2, h4⟩⟩
    unfold LiesA
    exact ⟨_, _, (by rw [← List.drop_drop, List.take_append_drop] : cs.drop o = (cs.drop o).take (P.cellsOf t) ++ cs.drop (o + P.cellsOf t)), h1, h3⟩
theorem cells_slice {t e : TypeId} {fuel : Nat} {cs : List Value} {x : DataW H × List MemPlace} {base : Nat} (ht : P.underlying t = some (.slice e)) (h : DataW.trod enc P w base sp held fuel t cs = some x) :
    cs = [.slice none 0 0] ∨ ∃ a len cap n, fuel = n + 1 ∧ cs = [.slice (some a) len cap] ∧ len ≤ cap ∧ cap ≤ maxLen ∧ ∀ i, i < len → ∃ cs' y, w.cells? base (a.add (i * P.cellsOf e)) (P.cellsOf e) = some cs' ∧ DataW.trod enc P w base sp held n e cs' = some y := by
  rcases DataW.trod_slice ht h with ⟨e, _⟩ | ⟨a, len, cap, elems, rest, n, hf, hc, _, _, hl, hm, hlen, hel, _⟩
  · exact .inl e
  · refine .inr ⟨a, len, cap, n, hf, hc, hl, hm, fun i hi => ?_⟩
    have := hel i hi
    rw [List.getElem?_eq_getElem (by omega)] at this
    obtain ⟨cs', h1, h2⟩ := Option.bind_eq_some_iff.1 this
    exact ⟨cs', _, h1, h2⟩
theorem lies_of_trod (G : List TypeId) (hG : plainSet P G = true) : ∀ (N fuel : Nat), fuel ≤ N → ∀ {t : TypeId} {cs : List Value} {x : DataW H × List MemPlace}, t ∈ G → DataW.trod enc P w 0 sp held fuel t cs = some x →
    ∃ d, Lies w (· < w.heap.size) d cs ∧ Typed P d t ∧ cs.length = P.cellsOf t
  | 0, 0, _, _, _, _, _, h => by simp [DataW.trod] at h
  | N + 1, fuel, hf, t, cs, x, ht, h => by
    have g := List.all_eq_true.1 hG t ht
    rw [Bool.and_eq_true, decide_eq_true_eq] at g
    obtain ⟨gp, g⟩ := g
    split at g
    · rename_i hu
      have g1 : P.cellsOf t = 1 := by simpa using g
      cases fuel with
      | zero => simp [DataW.trod] at h
      | succ n =>
        unfold DataW.trod at h
        rw [hu] at h
        split at h
        all_goals first
          | cases h
          | skip
        all_goals simp_all
        rename_i b
        exact ⟨.b b, by unfold Lies; rfl, by unfold Typed; exact hu⟩
    · rename_i k hu
      have g1 : P.cellsOf t = 1 := by simpa using g
      obtain ⟨z, rfl, _, hw⟩ := DataW.trod_int hu h
      exact ⟨.i k z, by unfold Lies; rfl, by unfold Typed; exact ⟨hu, hw⟩, by rw [g1]; rfl⟩
    · rename_i hu
      have g1 : P.cellsOf t = 1 := by simpa using g
      obtain ⟨z, rfl, _⟩ := DataW.trod_string hu h
      exact ⟨.s z, by unfold Lies; rfl, by unfold Typed; exact hu, by rw [g1]; rfl⟩
    · rename_i e hu
      simp only [Bool.and_eq_true, beq_iff_eq, List.contains_iff_mem] at g
      obtain ⟨g1, ge⟩ := g
      rcases cells_slice hu h with rfl | ⟨a, len, cap, n, hfu, rfl, hlc, hcm, hx⟩
      · exact ⟨.sl (P.cellsOf e) [], by unfold Lies; exact ⟨none, 0, rfl, Nat.le_refl _, Nat.zero_le _, RowD.nil_ _ _ _ _⟩, by unfold Typed; exact ⟨e, hu, rfl, by unfold TypedR; trivial⟩, by rw [g1]; rfl⟩
      · obtain ⟨b, off, spot⟩ := a
        by_cases hp : spot = none ∧ b < w.heap.size
        · obtain ⟨rfl, hbl⟩ := hp
          have key : ∀ m, m ≤ len → ∃ l : List D, l.length = m ∧ RowD w (· < w.heap.size) (P.cellsOf e) l (some ⟨b, off, none⟩) ∧ TypedR P l e := by
            intro m
            induction m with
            | zero => exact fun _ => ⟨[], rfl, RowD.nil_ _ _ _ _, by unfold TypedR; trivial⟩
            | succ m ih =>
              intro hm
              obtain ⟨l, hl, hr, htr⟩ := ih (by omega)
              obtain ⟨cs', _, h1, h2⟩ := hx m (by omega)
              obtain ⟨d, hd, htd, hcl⟩ := lies_of_trod G hG N n (by omega) ge h2
              obtain ⟨_, hlen, hcell⟩ := World.cells?_some h1
              refine ⟨l ++ [d], by simp [hl], RowD.snoc (S := (· < w.heap.size)) hbl hcl hd hr (off := off + m * P.cellsOf e) (by rw [hl]) (fun j hj => ?_), htr.snoc htd⟩
              have := hcell j (by omega)
              rw [Mem.add_plain, Mem.add_plain] at this
              exact this
          obtain ⟨l, hl, hr, htr⟩ := key len (Nat.le_refl _)
          exact ⟨.sl (P.cellsOf e) l, by unfold Lies; exact ⟨_, cap, by rw [hl], by omega, by omega, hr⟩, by unfold Typed; exact ⟨e, hu, rfl, htr⟩, by rw [g1]; rfl⟩
        · have e0 : len = 0 := by
            rcases Nat.eq_zero_or_pos len with e0 | e0
            · exact e0
            · exfalso
              have e1 : 1 ≤ P.cellsOf e := by
                have := List.all_eq_true.1 hG e ge
                rw [Bool.and_eq_true, decide_eq_true_eq] at this
                exact this.1
              obtain ⟨cs', _, h1, _⟩ := hx 0 e0
              obtain ⟨_, hlen, hcell⟩ := World.cells?_some h1
              have := hcell 0 e1
              rw [Nat.zero_mul, show ((⟨b, off, spot⟩ : Addr).add 0).add 0 = ⟨b, off, spot⟩ by cases spot <;> rfl] at this
              have hv : ∃ v, w.cell? ⟨b, off, spot⟩ = some v := ⟨cs'[0]'(by omega), by rw [this]; exact List.getElem?_eq_getElem _⟩
              obtain ⟨v, hv⟩ := hv
              obtain rfl : spot = none := World.cell?_spot hv
              exact hp ⟨rfl, World.block_lt_of_cell? _ _ hv⟩
          subst e0
          exact ⟨.sl (P.cellsOf e) [], by unfold Lies; exact ⟨_, cap, rfl, Nat.zero_le _, Nat.zero_le _, RowD.nil_ _ _ _ _⟩, by unfold Typed; exact ⟨e, hu, rfl, by unfold TypedR; trivial⟩, by rw [g1]; rfl⟩
    · rename_i fs hu
      simp only [Bool.and_eq_true, beq_iff_eq, List.all_eq_true, List.contains_iff_mem] at g
      obtain ⟨⟨gf, hc⟩, ho⟩ := g
      obtain ⟨xs, m, hfm, rfl, hl, hn, hall⟩ := DataW.trod_struct hu h
      obtain ⟨ds, h1, h2⟩ := liesA_of (P := P) (w := w) (S := (· < w.heap.size)) (cs := cs) (fs.toList.map fun f => f.type) 0 (by rw [hl, hc, List.map_map]; simp; rfl) (fun i u hi => by
        rw [List.getElem?_map] at hi
        obtain ⟨f, hf', rfl⟩ := Option.map_eq_some_iff.1 hi
        have hi' : i < fs.size := by have := (List.getElem?_eq_some_iff.1 hf').1; simpa using this
        have hfa : fs[i]? = some f := by rw [← Array.getElem?_toList]; exact hf'
        have := hall i f hfa
        obtain ⟨y, hy⟩ : ∃ y, xs[i]? = some y := ⟨xs[i]'(by omega), List.getElem?_eq_getElem _⟩
        rw [hy] at this
        have o := ho i (List.mem_range.2 hi')
        rw [hfa] at o
        simp only [beq_iff_eq] at o
        rw [Nat.zero_add, ← List.map_take, List.map_map]
        have o2 : f.offset = (List.map (P.cellsOf ∘ fun f => f.type) (List.take i fs.toList)).sum := o
        rw [← o2]
        obtain ⟨d, hd, htd, _⟩ := lies_of_trod G hG N m (by omega) (gf f (List.mem_of_getElem? hf')) this
        exact ⟨d, hd, htd⟩)
      rw [List.drop_zero] at h1
      exact ⟨.ag ds, by unfold Lies; exact h1, by unfold Typed; exact ⟨fs, hu, h2⟩, hl⟩
    · cases g
end
end Go.Proofs.YtlpmcohbbffbfaaDoor
