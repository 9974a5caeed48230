/- Joined by tools/bundle.py: Nam SRgt JTIn SchIn SOk NamC Bd. -/
import Derived.Deep.Slices
import Derived.KernelRfl
import Derived.Lib.SplitLaws
import Derived.Lib.LastIndexByte
import Derived.Test.YthogheglddfniaaGreatDoorW1
import Derived.Test.YthogheglddfniaaGreatDoorW2
import Derived.Test.YthogheglddfniaaGreatDoorW3
import Derived.Test.YthogheglddfniaaGreatDoorW4
import Derived.Test.YthogheglddfniaaGreatDoorW0
set_option maxRecDepth 100000
set_option maxHeartbeats 16000000
namespace Go.Proofs.YthogheglddfniaaGreatDoor.Nm
open Jx
def lt (c : Nat) : Bool := decide ((97 ≤ c ∧ c ≤ 122) ∨ (65 ≤ c ∧ c ≤ 90) ∨ c = 95)
def ch (c : Nat) : Bool := lt c || isD c
def chs (l : List UInt8) : Bool := l.all fun x => ch x.toNat
def simple (l : List UInt8) : Bool := decide (l.length ≠ 0) && decide (l.length ≤ 100) && lt (byt l 0) && chs l
def dotN : Nat → List UInt8 → Int
 | 0, _ => -1
 | i + 1, l => if byt l i = 46 then (i : Int) else dotN i l
def dot (l : List UInt8) : Int := dotN l.length l
theorem dotN_lt : ∀ (i : Nat) (l : List UInt8), -1 ≤ dotN i l ∧ dotN i l < (i : Int)
 | 0, l => by simp [dotN]
 | i + 1, l => by
  unfold dotN
  have := dotN_lt i l
  split <;> omega
theorem dotN_at : ∀ (i : Nat) (l : List UInt8) (k : Nat), dotN i l = (k : Int) → byt l k = 46 ∧ ∀ j, k < j → j < i → byt l j ≠ 46
 | 0, l, k, h => by unfold dotN at h; omega
 | i + 1, l, k, h => by
  unfold dotN at h
  split at h
  · rename_i h1
    obtain rfl : i = k := by omega
    exact ⟨h1, fun j a b => by omega⟩
  · rename_i h1
    have ih := dotN_at i l k h
    refine ⟨ih.1, fun j a b => ?_⟩
    rcases Nat.lt_or_ge j i with g | g
    · exact ih.2 j a g
    · obtain rfl : j = i := by omega
      exact h1
theorem dotN_no : ∀ (i : Nat) (l : List UInt8), dotN i l < 0 → ∀ j, j < i → byt l j ≠ 46
 | 0, l, _, j, hj => absurd hj (Nat.not_lt_zero _)
 | i + 1, l, h, j, hj => by
  unfold dotN at h
  split at h
  · omega
  · rename_i h1
    rcases Nat.lt_or_ge j i with g | g
    · exact dotN_no i l h j g
    · obtain rfl : j = i := by omega
      exact h1
theorem dotN_none : ∀ (i : Nat) (l : List UInt8), (∀ j, j < i → byt l j ≠ 46) → dotN i l = -1
 | 0, _, _ => rfl
 | i + 1, l, h => by
  unfold dotN
  rw [if_neg (h i (by omega)), dotN_none i l (fun j hj => h j (by omega))]
theorem dot_lt (l : List UInt8) : -1 ≤ dot l ∧ dot l < (l.length : Int) := dotN_lt _ l
theorem dot_place {l : List UInt8} (h : 0 ≤ dot l) : ∃ k : Nat, dot l = (k : Int) ∧ k < l.length ∧ byt l k = 46 ∧ ∀ j, k < j → j < l.length → byt l j ≠ 46 := by
 obtain ⟨k, hk⟩ : ∃ k : Nat, dot l = (k : Int) := ⟨(dot l).toNat, by omega⟩
 have := dot_lt l
 have a := dotN_at l.length l k hk
 exact ⟨k, hk, by omega, a.1, a.2⟩
def fullF : Nat → List UInt8 → Bool
 | 0, _ => false
 | f + 1, l => if 0 ≤ dot l then simple (l.drop (dot l + 1).toNat) && fullF f (l.take (dot l).toNat) else simple l
def full (l : List UInt8) : Bool := decide (l.length ≤ 100) && fullF (l.length + 1) l
def space (l : List UInt8) : List UInt8 := if dot l < 0 then [] else l.take (dot l).toNat
def last (l : List UInt8) : List UInt8 := l.drop (dot l + 1).toNat
def join (s n : List UInt8) : Option (List UInt8) :=
 if dot n < 0 then
  if simple n = true then
   if full (if s ≠ [] then s ++ 46 :: n else n) = true then some (if s ≠ [] then s ++ 46 :: n else n) else none
  else none
 else if full n = true then some n else none
theorem fullF_fuel : ∀ (f g : Nat) (l : List UInt8), l.length < f → l.length < g → fullF f l = fullF g l
 | 0, _, _, h, _ => absurd h (Nat.not_lt_zero _)
 | _ + 1, 0, _, _, h => absurd h (Nat.not_lt_zero _)
 | f + 1, g + 1, l, h1, h2 => by
  unfold fullF
  split
  · rename_i h
    have := dot_lt l
    rw [fullF_fuel f g (l.take (dot l).toNat) (by rw [List.length_take]; omega) (by rw [List.length_take]; omega)]
  · rfl
theorem full_go {l : List UInt8} (h : 0 ≤ dot l) : full l = (decide (l.length ≤ 100) && (simple (last l) && full (space l))) := by
 have d := dot_lt l
 have e : space l = l.take (dot l).toNat := by unfold space; rw [if_neg (by omega)]
 unfold full
 rw [fullF, if_pos h, e]
 have hl : (l.take (dot l).toNat).length = (dot l).toNat := by rw [List.length_take]; omega
 rw [fullF_fuel l.length ((l.take (dot l).toNat).length + 1) (l.take (dot l).toNat) (by omega) (by omega), hl]
 unfold last
 by_cases h100 : l.length ≤ 100
 · rw [show decide ((dot l).toNat ≤ 100) = true by simp; omega]; simp
 · simp [h100]
theorem full_one {l : List UInt8} (h : dot l < 0) : full l = simple l := by
 unfold full
 rw [fullF, if_neg (by omega)]
 unfold simple
 by_cases h100 : l.length ≤ 100 <;> simp [h100]
theorem last_no (l : List UInt8) : dot (last l) < 0 := by
 have d := dot_lt l
 have : dot (last l) = -1 := by
  refine dotN_none _ _ fun j hj => ?_
  unfold last at hj ⊢
  rw [List.length_drop] at hj
  rw [byt_drop]
  rcases Int.lt_or_le (dot l) 0 with h | h
  · exact dotN_no l.length l h _ (by omega)
  · obtain ⟨k, hk, _, _, h2⟩ := dot_place h
    exact h2 _ (by omega) (by omega)
 omega
end Go.Proofs.YthogheglddfniaaGreatDoor.Nm
namespace Go.Proofs.YthogheglddfniaaGreatDoor.Nm
def word (k : Int) : List UInt8 :=
 if k = 1 then [110, 117, 108, 108] else if k = 2 then [98, 111, 111, 108, 101, 97, 110] else if k = 3 then [105, 110, 116] else if k = 4 then [108, 111, 110, 103] else if k = 5 then [102, 108, 111, 97, 116]
 else if k = 6 then [100, 111, 117, 98, 108, 101] else if k = 7 then [98, 121, 116, 101, 115] else if k = 8 then [115, 116, 114, 105, 110, 103] else if k = 9 then [114, 101, 99, 111, 114, 100] else if k = 10 then [101, 110, 117, 109]
 else if k = 11 then [97, 114, 114, 97, 121] else if k = 12 then [109, 97, 112] else if k = 14 then [102, 105, 120, 101, 100] else []
def kindF : Nat → Nat → List UInt8 → Nat
 | 0, _, _ => 0
 | f + 1, k, s => if s ≠ [] ∧ word (k : Int) = s then k else kindF f (k + 1) s
def kind (s : List UInt8) : Nat := kindF 14 1 s
end Go.Proofs.YthogheglddfniaaGreatDoor.Nm
namespace Go.Proofs.YthogheglddfniaaGreatDoor
def zJ : J := .mk 0 0 ⟨#[]⟩ [] []
def okName (t : ByteArray) : Prop := Nm.full t.data.toList = true ∧ Nm.kind t.data.toList = 0
def okFulls (l : List ByteArray) : Prop := l.length ≤ 40 ∧ ∀ t ∈ l, Nm.full t.data.toList = true
def okSimples (l : List ByteArray) : Prop := l.length ≤ 40 ∧ ∀ t ∈ l, Nm.simple t.data.toList = true
def Fd.ok (f : Fd) : Prop := okSimples f.al ∧ (if f.has = true then f.df.deep ≤ 32 ∧ f.df.frm else f.df = zJ)
def Nd.ok (s : Sc) (n : Nd) : Prop := 1 ≤ n.k ∧ n.k ≤ 14 ∧
 (if named n.k = true then okName n.name ∧ okFulls n.al else n.name = ⟨#[]⟩ ∧ n.al = []) ∧
 (if n.k = 9 then okSimples (n.fs.map Fd.name) ∧ (n.fs.map Fd.name).Nodup ∧ ∀ f ∈ n.fs, f.ok else n.fs = []) ∧
 (if n.k = 10 then n.sy ≠ [] ∧ okSimples n.sy ∧ n.sy.Nodup ∧ (if n.has = true then n.df ∈ n.sy else n.df = ⟨#[]⟩) else n.sy = [] ∧ n.has = false ∧ n.df = ⟨#[]⟩) ∧
 (if n.k = 14 then 0 ≤ n.size ∧ n.size ≤ 1000 else n.size = 0) ∧
 (if n.k = 11 ∨ n.k = 12 then True else n.items = 0) ∧
 (if n.k = 13 then n.br ≠ [] ∧ n.br.length ≤ 10 ∧ (∀ b ∈ n.br, s.kind b ≠ 13) ∧ n.br.Pairwise (fun a b => a ≠ b ∧ (s.kind a ≠ s.kind b ∨ named (s.kind a) = true)) else n.br = [])
def Sc.names (s : Sc) : List ByteArray := (s.nodes.filter fun n => named n.k).map Nd.name
def Sc.right (s : Sc) : Prop := s.ordered ∧ (∀ n ∈ s.nodes, n.ok s) ∧ (∀ i, i < s.nodes.length → s.wt i ≤ 1000) ∧ s.names.Nodup
theorem ba_beq {a b : ByteArray} : (a == b) = true ↔ a = b := by
 obtain ⟨a⟩ := a
 obtain ⟨b⟩ := b
 constructor
 · intro h
   have : (a == b) = true := h
   rw [eq_of_beq this]
 · intro h
   obtain rfl := ByteArray.mk.inj h
   show (a == a) = true
   simp
end Go.Proofs.YthogheglddfniaaGreatDoor
namespace Go.Proofs.YthogheglddfniaaGreatDoor
open Go.ChangeShapes Go.WideShapes Go.ChangeAt Go.RowKit Mem
mutual
/-- Numbers of 64 bits. -/
def J.rng : J → Prop
 | .mk _ n _ its _ => -9223372036854775808 ≤ n ∧ n ≤ 9223372036854775807 ∧ J.rngs its
def J.rngs : List J → Prop
 | [] => True
 | j :: r => J.rng j ∧ J.rngs r
end
theorem J.rngs_nil : J.rngs [] := by unfold J.rngs; trivial
theorem J.rngs_snoc {l : List J} {j : J} (h : J.rngs l) (hj : j.rng) : J.rngs (l ++ [j]) := by
 induction l with
 | nil => unfold J.rngs; exact ⟨hj, J.rngs_nil⟩
 | cons x r ih => unfold J.rngs at h; rw [List.cons_append]; unfold J.rngs; exact ⟨h.1, ih h.2⟩
variable {H : Type} {enc : TypeId × Value → H} {w : World} {sp : Nat → Bool} {held : Bool}
def I64 (n : Int) : Prop := -9223372036854775808 ≤ n ∧ n ≤ 9223372036854775807
def Fd.rng (f : Fd) : Prop := I64 f.ty ∧ f.df.rng
def Nd.rng (n : Nd) : Prop := I64 n.k ∧ I64 n.size ∧ I64 n.items ∧ (∀ b ∈ n.br, I64 b) ∧ ∀ f ∈ n.fs, f.rng
def Sc.rng (s : Sc) : Prop := I64 s.root ∧ ∀ n ∈ s.nodes, n.rng
def Tells (P : Prop) (w : World) (e : Ending) (w' : World) : Prop := ∃ b : Bool, e = .returned (.bool b) ∧ (b = true ↔ P) ∧ Below w.heap.size w w'
theorem tells_yes {P : Prop} {b : Bool} {w w' : World} (hb : b = true) (h : P) (k : Below w.heap.size w w') : Tells P w (.returned (.bool b)) w' := ⟨b, rfl, ⟨fun _ => h, fun _ => hb⟩, k⟩
theorem tells_no {P : Prop} {b : Bool} {w w' : World} (hb : b = false) (h : ¬ P) (k : Below w.heap.size w w') : Tells P w (.returned (.bool b)) w' := ⟨b, rfl, ⟨fun g => (by rw [hb] at g; cases g), fun g => absurd g h⟩, k⟩
def unionOk (s : Sc) (br : List Int) : Prop := br ≠ [] ∧ br.length ≤ 10 ∧ (∀ b ∈ br, s.kind b ≠ 13) ∧ br.Pairwise (fun a b => a ≠ b ∧ (s.kind a ≠ s.kind b ∨ named (s.kind a) = true))
def Nd.z (k : Int) : Nd := ⟨k, ⟨#[]⟩, [], [], [], false, ⟨#[]⟩, 0, 0, []⟩
def enumOk (n : Nd) : Prop := n.sy ≠ [] ∧ okSimples n.sy ∧ n.sy.Nodup ∧ (if n.has = true then n.df ∈ n.sy else n.df = ⟨#[]⟩)
def recOk (n : Nd) : Prop := okSimples (n.fs.map Fd.name) ∧ (n.fs.map Fd.name).Nodup ∧ ∀ f ∈ n.fs, f.ok
theorem z_lies {w : World} {S : Nat → Prop} {k : Int} : Lies w S (Nd.z k).enc [.int .i64 k, .string ⟨#[]⟩, .slice none 0 0, .slice none 0 0, .slice none 0 0, .bool false, .string ⟨#[]⟩, .int .i64 0, .int .i64 0, .slice none 0 0] :=
 Nd.out.2 ⟨none, 0, none, 0, none, 0, none, 0, rfl, ⟨Nat.le_refl _, Nat.zero_le _⟩, .inl rfl, ⟨Nat.le_refl _, Nat.zero_le _⟩, RowD.nil_ _ _ _ _, ⟨Nat.le_refl _, Nat.zero_le _⟩, .inl rfl, ⟨Nat.le_refl _, Nat.zero_le _⟩, RowD.nil_ _ _ _ _⟩
theorem ok_prim {s : Sc} {n : Nd} (hk : 1 ≤ n.k ∧ n.k ≤ 8) : n.ok s ↔ (⟨n.k, n.name, n.al, n.fs, n.sy, n.has, n.df, n.size, n.items, n.br⟩ : Nd) = Nd.z n.k := by
 obtain ⟨k, name, al, fs, sy, has, df, size, items, br⟩ := n
 simp only at hk
 simp only [Nd.ok, Nd.z, named, Nd.mk.injEq, true_and]
 have e9 : ¬ k = 9 := by omega
 have e10 : ¬ k = 10 := by omega
 have e11 : ¬ k = 11 := by omega
 have e12 : ¬ k = 12 := by omega
 have e13 : ¬ k = 13 := by omega
 have e14 : ¬ k = 14 := by omega
 simp only [e9, e10, e11, e12, e13, e14, if_false, or_false, decide_false, Bool.false_eq_true]
 constructor
 · rintro ⟨_, _, ⟨h1, h2⟩, h3, ⟨h4, h5, h6⟩, h7, h8, h9⟩
   exact ⟨h1, h2, h3, h4, h5, h6, h7, h8, h9⟩
 · rintro ⟨h1, h2, h3, h4, h5, h6, h7, h8, h9⟩
   exact ⟨by omega, by omega, ⟨h1, h2⟩, h3, ⟨h4, h5, h6⟩, h7, h8, h9⟩
theorem ok_11 {s : Sc} {n : Nd} (hk : n.k = 11) : n.ok s ↔ (⟨11, n.name, n.al, n.fs, n.sy, n.has, n.df, n.size, 0, n.br⟩ : Nd) = Nd.z 11 := by
 obtain ⟨k, name, al, fs, sy, has, df, size, items, br⟩ := n
 simp only at hk
 subst hk
 simp only [Nd.ok, Nd.z, named, Nd.mk.injEq, true_and]
 simp
 constructor
 · rintro ⟨⟨h1, h2⟩, h3, ⟨h4, h5, h6⟩, h7, h9⟩
   exact ⟨h1, h2, h3, h4, h5, h6, h7, h9⟩
 · rintro ⟨h1, h2, h3, h4, h5, h6, h7, h9⟩
   exact ⟨⟨h1, h2⟩, h3, ⟨h4, h5, h6⟩, h7, h9⟩
theorem ok_12 {s : Sc} {n : Nd} (hk : n.k = 12) : n.ok s ↔ (⟨12, n.name, n.al, n.fs, n.sy, n.has, n.df, n.size, 0, n.br⟩ : Nd) = Nd.z 12 := by
 obtain ⟨k, name, al, fs, sy, has, df, size, items, br⟩ := n
 simp only at hk
 subst hk
 simp only [Nd.ok, Nd.z, named, Nd.mk.injEq, true_and]
 simp
 constructor
 · rintro ⟨⟨h1, h2⟩, h3, ⟨h4, h5, h6⟩, h7, h9⟩
   exact ⟨h1, h2, h3, h4, h5, h6, h7, h9⟩
 · rintro ⟨h1, h2, h3, h4, h5, h6, h7, h9⟩
   exact ⟨⟨h1, h2⟩, h3, ⟨h4, h5, h6⟩, h7, h9⟩
theorem ok_13 {s : Sc} {n : Nd} (hk : n.k = 13) : n.ok s ↔ unionOk s n.br ∧ (⟨13, n.name, n.al, n.fs, n.sy, n.has, n.df, n.size, n.items, []⟩ : Nd) = Nd.z 13 := by
 obtain ⟨k, name, al, fs, sy, has, df, size, items, br⟩ := n
 simp only at hk
 subst hk
 simp only [Nd.ok, Nd.z, named, unionOk, Nd.mk.injEq, true_and]
 simp
 constructor
 · rintro ⟨⟨h1, h2⟩, h3, ⟨h4, h5, h6⟩, h7, h8, h9⟩
   exact ⟨h9, h1, h2, h3, h4, h5, h6, h7, h8⟩
 · rintro ⟨h9, h1, h2, h3, h4, h5, h6, h7, h8⟩
   exact ⟨⟨h1, h2⟩, h3, ⟨h4, h5, h6⟩, h7, h8, h9⟩
theorem ok_9 {s : Sc} {n : Nd} (hk : n.k = 9) : n.ok s ↔ (okName n.name ∧ okFulls n.al) ∧ recOk n ∧ (⟨9, ⟨#[]⟩, [], [], n.sy, n.has, n.df, n.size, n.items, n.br⟩ : Nd) = Nd.z 9 := by
 obtain ⟨k, name, al, fs, sy, has, df, size, items, br⟩ := n
 simp only at hk
 subst hk
 simp only [Nd.ok, Nd.z, named, recOk, Nd.mk.injEq, true_and]
 constructor
 · intro h
   simp at h ⊢
   obtain ⟨⟨h1, h2⟩, h3, ⟨h4, h5, h6⟩, h7, h8, h9⟩ := h
   exact ⟨⟨h1, h2⟩, h3, h4, h5, h6, h7, h8, h9⟩
 · intro h
   simp at h ⊢
   obtain ⟨⟨h1, h2⟩, h3, h4, h5, h6, h7, h8, h9⟩ := h
   exact ⟨⟨h1, h2⟩, h3, ⟨h4, h5, h6⟩, h7, h8, h9⟩
theorem ok_10 {s : Sc} {n : Nd} (hk : n.k = 10) : n.ok s ↔ (okName n.name ∧ okFulls n.al) ∧ enumOk n ∧ (⟨10, ⟨#[]⟩, [], n.fs, [], false, ⟨#[]⟩, n.size, n.items, n.br⟩ : Nd) = Nd.z 10 := by
 obtain ⟨k, name, al, fs, sy, has, df, size, items, br⟩ := n
 simp only at hk
 subst hk
 simp only [Nd.ok, Nd.z, named, enumOk, Nd.mk.injEq, true_and]
 constructor
 · intro h
   simp at h ⊢
   obtain ⟨⟨h1, h2⟩, h3, h4, h7, h8, h9⟩ := h
   exact ⟨⟨h1, h2⟩, h4, h3, h7, h8, h9⟩
 · intro h
   simp at h ⊢
   obtain ⟨⟨h1, h2⟩, h4, h3, h7, h8, h9⟩ := h
   exact ⟨⟨h1, h2⟩, h3, h4, h7, h8, h9⟩
theorem ok_14 {s : Sc} {n : Nd} (hk : n.k = 14) : n.ok s ↔ (okName n.name ∧ okFulls n.al) ∧ (0 ≤ n.size ∧ n.size ≤ 1000) ∧ (⟨14, ⟨#[]⟩, [], n.fs, n.sy, n.has, n.df, 0, n.items, n.br⟩ : Nd) = Nd.z 14 := by
 obtain ⟨k, name, al, fs, sy, has, df, size, items, br⟩ := n
 simp only at hk
 subst hk
 simp only [Nd.ok, Nd.z, named, Nd.mk.injEq, true_and]
 constructor
 · intro h
   simp at h ⊢
   obtain ⟨⟨h1, h2⟩, h3, ⟨h4, h5, h6⟩, h7, h8, h9⟩ := h
   exact ⟨⟨h1, h2⟩, h7, h3, h4, h5, h6, h8, h9⟩
 · intro h
   simp at h ⊢
   obtain ⟨⟨h1, h2⟩, h7, h3, h4, h5, h6, h8, h9⟩ := h
   exact ⟨⟨h1, h2⟩, h3, ⟨h4, h5, h6⟩, h7, h8, h9⟩
end Go.Proofs.YthogheglddfniaaGreatDoor
namespace Go.Proofs.YthogheglddfniaaGreatDoor.Nm
open Jx
def parts : List UInt8 → List (List UInt8)
 | [] => [[]]
 | c :: l => if c = 46 then [] :: parts l else match parts l with
  | [] => [[c]]
  | p :: r => (c :: p) :: r
theorem parts_ne : ∀ l : List UInt8, parts l ≠ []
 | [] => by simp [parts]
 | c :: l => by
  unfold parts
  split
  · simp
  · split <;> simp
theorem parts_app : ∀ a b : List UInt8, parts (a ++ 46 :: b) = parts a ++ parts b
 | [], b => by simp [parts]
 | c :: a, b => by
  rw [List.cons_append, parts, parts_app a b]
  conv => rhs; rw [parts]
  split
  · rfl
  · have := parts_ne a
    rcases h : parts a with _ | ⟨p, r⟩
    · exact absurd h this
    · rfl
theorem parts_no : ∀ b : List UInt8, (∀ x ∈ b, x ≠ 46) → parts b = [b]
 | [], _ => rfl
 | c :: b, h => by
  rw [parts, if_neg (h c (by simp)), parts_no b fun x hx => h x (by simp [hx])]
theorem parts_small : ∀ (l : List UInt8) (p : List UInt8), p ∈ parts l → p.length ≤ l.length
 | [], p, h => by simp [parts] at h; subst h; simp
 | c :: l, p, h => by
  have ih := parts_small l
  rw [parts] at h
  split at h
  · rcases List.mem_cons.1 h with rfl | g
    · simp
    · have := ih p g; rw [List.length_cons]; omega
  · have ne := parts_ne l
    rcases hp : parts l with _ | ⟨q, r⟩
    · exact absurd hp ne
    · rw [hp] at h ih
      rcases List.mem_cons.1 h with rfl | g
      · have := ih q (by simp); simp only [List.length_cons]; omega
      · have := ih p (List.mem_cons_of_mem _ g); rw [List.length_cons]; omega
theorem parts_count : ∀ l : List UInt8, (parts l).length ≤ l.length + 1
 | [] => by simp [parts]
 | c :: l => by
  have ih := parts_count l
  rw [parts]
  split
  · simp only [List.length_cons]; omega
  · have ne := parts_ne l
    rcases hp : parts l with _ | ⟨q, r⟩
    · exact absurd hp ne
    · rw [hp] at ih; simp only [List.length_cons] at ih ⊢; omega
theorem splitK_parts : ∀ l : List UInt8, Lib.splitK [46] 0 (Lib.count l [46]) l = parts l
 | [] => by rw [Lib.count_one]; rfl
 | c :: l => by
  have ih := splitK_parts l
  by_cases hc : c = 46
  · subst hc
    rw [Lib.count_cons_eq, Nat.add_comm, Lib.splitK]
    have e : Lib.index (46 :: l) [46] = 0 := by rw [Lib.index]; simp [List.isPrefixOf]
    rw [e, if_neg (by decide), parts, if_pos rfl, ← ih]
    rfl
  · rw [Lib.count_cons_ne c 46 l hc, parts, if_neg hc]
    have hp : ([46] : List UInt8).isPrefixOf (c :: l) = false := by simp [List.isPrefixOf, Ne.symm hc]
    have e : Lib.index (c :: l) [46] = if Lib.index l [46] == -1 then -1 else Lib.index l [46] + 1 := by rw [Lib.index, hp]; simp
    rcases hk : Lib.count l [46] with _ | k
    · rw [hk, Lib.splitK] at ih
      rw [← ih, Lib.splitK]
    · rw [hk, Lib.splitK] at ih
      rw [Lib.splitK, e]
      by_cases hm : Lib.index l [46] = -1
      · rw [if_pos (beq_iff_eq.2 hm)] at ih
        rw [if_pos (beq_iff_eq.2 hm), if_pos (by decide), ← ih]
      · have hge := Lib.index_ge l [46]
        rw [if_neg (fun g => hm (beq_iff_eq.1 g))] at ih
        rw [if_neg (fun g => hm (beq_iff_eq.1 g)), if_neg (fun g => by have := beq_iff_eq.1 g; omega), ← ih]
        obtain ⟨j, hj⟩ : ∃ j : Nat, Lib.index l [46] = j := ⟨(Lib.index l [46]).toNat, by omega⟩
        rw [hj, show ((j : Int) + 1).toNat + 0 = j + 1 by omega, show (j : Int).toNat + 0 = j by omega, show ((j : Int) + 1).toNat = j + 1 by omega, show (j : Int).toNat = j by omega]
        show _ = (c :: l.take j) :: _
        rw [List.take_succ_cons, List.length_singleton, List.drop_succ_cons]
theorem no_dot {l : List UInt8} (h : dot l < 0) : ∀ x ∈ l, x ≠ 46 := by
 intro x hx e
 obtain ⟨j, hj, rfl⟩ := List.getElem_of_mem hx
 apply dotN_no l.length l h j hj
 unfold byt
 rw [List.getD, List.getElem?_eq_getElem hj, Option.getD_some, e]
 rfl
theorem whole_dot {l : List UInt8} (hd : 0 ≤ dot l) : space l ++ 46 :: last l = l := by
 obtain ⟨k, hk, hkl, h46, _⟩ := dot_place hd
 have es : space l = l.take k := by unfold space; rw [if_neg (by omega), hk]; rfl
 have el : last l = l.drop (k + 1) := by unfold last; rw [hk]; rfl
 rw [es, el]
 have h1 : l.drop k = 46 :: l.drop (k + 1) := by
  rw [List.drop_eq_getElem_cons hkl]
  congr 1
  have : (l[k]'hkl).toNat = 46 := by
   rw [← h46]; unfold byt; simp [List.getD, List.getElem?_eq_getElem hkl]
  exact UInt8.toNat_inj.1 this
 rw [← h1, List.take_append_drop]
theorem full_all : ∀ (n : Nat) (l : List UInt8), l.length ≤ n → full l = (decide (l.length ≤ 100) && (parts l).all simple)
 | n, l, hn => by
  rcases Int.lt_or_le (dot l) 0 with h | h
  · rw [full_one h, parts_no l (no_dot h)]
    by_cases h100 : l.length ≤ 100
    · simp [h100]
    · simp only [h100, decide_false, Bool.false_and]
      unfold simple
      simp [h100]
  · have w := whole_dot h
    have hl : (space l).length < l.length := by
     have := congrArg List.length w
     rw [List.length_append, List.length_cons] at this
     omega
    cases n with
    | zero => omega
    | succ n =>
     have ih := full_all n (space l) (by omega)
     have e : parts l = parts (space l) ++ [last l] := by
      rw [← parts_no (last l) (no_dot (last_no l)), ← parts_app, w]
     rw [full_go h, ih, e, List.all_append]
     by_cases h100 : l.length ≤ 100
     · have h2 : (space l).length ≤ 100 := by omega
       simp [h100, h2, Bool.and_comm]
     · simp [h100]
theorem full_parts' (l : List UInt8) : full l = (decide (l.length ≤ 100) && (parts l).all simple) := full_all _ l (Nat.le_refl _)
theorem last_dot (s : ByteArray) : Lib.lastIndexByte s 46 = dot s.data.toList := by
 have hs : s.data.toList.length = s.size := by rw [Array.length_toList]; rfl
 have key : ∀ i, i ≤ s.size → Lib.lastIdx s 46 i = dotN i s.data.toList := by
  intro i
  induction i with
  | zero => intro _; rfl
  | succ i ih =>
   intro hi
   have e : (s.data[i]!).toNat = byt s.data.toList i := by
    unfold byt
    rw [List.getD, List.getElem?_eq_getElem (by rw [hs]; omega), Option.getD_some]
    congr 1
    rw [getElem!_pos s.data i (by show i < s.size; omega)]
    rfl
   unfold Lib.lastIdx dotN
   rw [ih (by omega), e]
   by_cases hb : byt s.data.toList i = 46
   · rw [if_pos hb, if_pos (by omega)]
   · rw [if_neg hb, if_neg (by omega)]
 unfold Lib.lastIndexByte dot
 rw [hs]
 exact key _ (Nat.le_refl _)
theorem has_dot (l : List UInt8) : decide (0 ≤ Lib.indexByte l 46) = decide (0 ≤ dot l) := by
 have a : ∀ l : List UInt8, 0 ≤ Lib.indexByte l 46 ↔ (46 : UInt8) ∈ l := by
  intro l
  induction l with
  | nil => simp [Lib.indexByte]
  | cons b l ih =>
   have g := Lib.indexByte_ge l 46
   unfold Lib.indexByte
   split
   · rename_i h; have : b = 46 := by simpa using h
     subst this; simp
   · rename_i h
     have hb : b ≠ 46 := by simpa using h
     split
     · rename_i h2
       have e : Lib.indexByte l 46 = -1 := by simpa using h2
       constructor
       · intro x; omega
       · intro x
         rcases List.mem_cons.1 x with y | y
         · exact absurd y.symm hb
         · have := ih.2 y; omega
     · rename_i h2
       have e : Lib.indexByte l 46 ≠ -1 := by simpa using h2
       constructor
       · intro _; exact List.mem_cons_of_mem _ (ih.1 (by omega))
       · intro _; omega
 have b : 0 ≤ dot l ↔ (46 : UInt8) ∈ l := by
  constructor
  · intro h
    obtain ⟨k, _, hk, h46, _⟩ := dot_place h
    have : (l[k]'hk) = 46 := by
     apply UInt8.toNat_inj.1
     show _ = 46
     rw [← h46]; unfold byt; simp [List.getD, List.getElem?_eq_getElem hk]
    rw [← this]; exact List.getElem_mem hk
  · intro h
    rcases Int.lt_or_le (dot l) 0 with g | g
    · exact absurd rfl (no_dot g _ h)
    · exact g
 exact decide_eq_decide.2 ((a l).trans b.symm)
theorem kindF_skip {f k : Nat} {s : List UInt8} (h : word (k : Int) ≠ s) : kindF (f + 1) k s = kindF f (k + 1) s := by
 rw [kindF, if_neg fun g => h g.2]
theorem kindF_hit {f k : Nat} {s : List UInt8} (h0 : s ≠ []) (h : word (k : Int) = s) : kindF (f + 1) k s = k := by
 rw [kindF, if_pos ⟨h0, h⟩]
theorem kindF_from {j : Nat} {l : List UInt8} (h0 : l ≠ []) (hj : word (j : Int) = l) : ∀ (f k : Nat), k ≤ j → j < k + f → (∀ m : Nat, k ≤ m → m < j → word (m : Int) ≠ l) → kindF f k l = j
 | 0, k, h1, h2, _ => by omega
 | f + 1, k, h1, h2, h => by
  rcases Nat.lt_or_ge k j with g | g
  · rw [kindF_skip (h k (Nat.le_refl _) g), kindF_from h0 hj f (k + 1) g (by omega) fun m a b => h m (by omega) b]
  · obtain rfl : k = j := by omega
    exact kindF_hit h0 hj
theorem kindF_none {l : List UInt8} : ∀ (f k : Nat), (∀ m : Nat, k ≤ m → m < k + f → word (m : Int) ≠ l) → kindF f k l = 0
 | 0, _, _ => rfl
 | f + 1, k, h => by rw [kindF_skip (h k (Nat.le_refl _) (by omega)), kindF_none f (k + 1) fun m a b => h m (by omega) (by omega)]
theorem kind_first {j : Nat} {l : List UInt8} (hj : j < 15) (h : ∀ m : Nat, m < j → word (m : Int) ≠ l) (e : word (j : Int) = l) : kind l = j := by
 rcases Nat.eq_zero_or_pos j with rfl | hp
 · rw [← e]; decide
 · have h0 : l ≠ [] := fun g => h 0 hp (by rw [g]; decide)
   unfold kind
   exact kindF_from h0 e 14 1 hp (by omega) fun m _ b => h m b
theorem kind_none {l : List UInt8} (h : ∀ m : Nat, m < 15 → word (m : Int) ≠ l) : kind l = 0 := by
 unfold kind
 exact kindF_none 14 1 fun m _ b => h m (by omega)
theorem join_not {s n : List UInt8} (h : full n = false) : join s n = none := by
 unfold join
 split
 · rename_i hd
   rw [full_one hd] at h
   rw [if_neg (by rw [h]; decide)]
 · rw [if_neg (by rw [h]; decide)]
theorem join_has {s n : List UInt8} (h : full n = true) (hd : s = [] ∨ 0 ≤ dot n) : join s n = some n := by
 unfold join
 by_cases g : dot n < 0
 · rcases hd with rfl | hd
   · have hs : simple n = true := by rw [← full_one g]; exact h
     rw [if_pos g, if_pos hs]; simp [h]
   · omega
 · rw [if_neg g, if_pos h]
theorem space_of (s n : List UInt8) (h : dot n < 0) : dot (s ++ 46 :: n) = (s.length : Int) := by
 have hb : byt (s ++ 46 :: n) s.length = 46 := by
  unfold byt; rw [List.getD, List.getElem?_append_right (Nat.le_refl _), Nat.sub_self]; rfl
 have no : ∀ j, s.length < j → j < (s ++ 46 :: n).length → byt (s ++ 46 :: n) j ≠ 46 := by
  intro j h1 h2
  rw [List.length_append, List.length_cons] at h2
  obtain ⟨m, rfl⟩ : ∃ m, j = s.length + (m + 1) := ⟨j - s.length - 1, by omega⟩
  have := dotN_no n.length n h m (by omega)
  intro e
  apply this
  rw [← e]
  unfold byt
  rw [List.getD, List.getD, List.getElem?_append_right (by omega), Nat.add_sub_cancel_left, List.getElem?_cons_succ]
 rcases Int.lt_or_le (dot (s ++ 46 :: n)) 0 with g | g
 · exact absurd hb (dotN_no _ _ g s.length (by rw [List.length_append, List.length_cons]; omega))
 · obtain ⟨k, hk, hkl, h46, hn⟩ := dot_place g
   rw [hk]
   rcases Nat.lt_trichotomy k s.length with a | a | a
   · exact absurd hb (hn s.length a (by rw [List.length_append, List.length_cons]; omega))
   · rw [a]
   · exact absurd h46 (no k a hkl)
theorem join_in {s n : List UInt8} (hf : full n = true) (hs : s ≠ []) (hd : dot n < 0) : join s n = if full s = true ∧ s.length + 1 + n.length ≤ 100 then some (s ++ 46 :: n) else none := by
 have sm : simple n = true := by rw [← full_one hd]; exact hf
 unfold join
 rw [if_pos hd, if_pos sm, if_pos hs]
 have d := space_of s n hd
 have e1 : space (s ++ 46 :: n) = s := by unfold space; rw [if_neg (by omega), d]; simp
 have e2 : last (s ++ 46 :: n) = n := by
  unfold last
  rw [d, show ((s.length : Int) + 1).toNat = s.length + 1 by omega, List.drop_append]
  simp
 rw [full_go (by omega), e1, e2, sm, Bool.true_and, List.length_append, List.length_cons]
 by_cases h1 : full s = true
 · by_cases h2 : s.length + 1 + n.length ≤ 100
   · rw [if_pos (by rw [h1, Bool.and_true]; simp; omega), if_pos ⟨h1, h2⟩]
   · rw [if_neg (by rw [h1, Bool.and_true]; simp; omega), if_neg fun g => h2 g.2]
 · rw [if_neg (by simp [h1]), if_neg fun g => h1 g.1]
end Go.Proofs.YthogheglddfniaaGreatDoor.Nm
namespace Go.Proofs.YthogheglddfniaaGreatDoor
def kType : ByteArray := ⟨#[116, 121, 112, 101]⟩
def kName : ByteArray := ⟨#[110, 97, 109, 101]⟩
def kSpace : ByteArray := ⟨#[110, 97, 109, 101, 115, 112, 97, 99, 101]⟩
def kAliases : ByteArray := ⟨#[97, 108, 105, 97, 115, 101, 115]⟩
def kFields : ByteArray := ⟨#[102, 105, 101, 108, 100, 115]⟩
def kSymbols : ByteArray := ⟨#[115, 121, 109, 98, 111, 108, 115]⟩
def kDefault : ByteArray := ⟨#[100, 101, 102, 97, 117, 108, 116]⟩
def kSize : ByteArray := ⟨#[115, 105, 122, 101]⟩
def kItems : ByteArray := ⟨#[105, 116, 101, 109, 115]⟩
def kValues : ByteArray := ⟨#[118, 97, 108, 117, 101, 115]⟩
abbrev Kn := List (Int × ByteArray)
def er (n : Nd) : Int × ByteArray := (n.k, n.name)
def findK (c : Kn) (t : ByteArray) : Option Nat := c.findIdx? fun p => named p.1 && p.2 == t
def kindK (c : Kn) (i : Nat) : Int := ((c[i]?).map Prod.fst).getD 0
abbrev Bres := Except Int (List Nd × Nat)
def kindB (t : ByteArray) : Nat := Nm.kind t.data.toList
def joinB (s t : ByteArray) : Option ByteArray := (Nm.join s.data.toList t.data.toList).map fun l => ⟨l.toArray⟩
def spaceB (t : ByteArray) : ByteArray := ⟨(Nm.space t.data.toList).toArray⟩
def simpB (t : ByteArray) : Bool := Nm.simple t.data.toList
def txt (o : Option J) : Option ByteArray := o.bind fun x => if x.k = 4 then some x.t else none
def bword (c : Kn) (w sp : ByteArray) : Bres :=
 if 1 ≤ kindB w ∧ kindB w ≤ 8 then (if c.length = 200 then .error 3 else .ok ([Nd.z (kindB w)], c.length))
 else match joinB sp w with
  | none => .error 31
  | some t => match findK c t with
   | none => .error 33
   | some p => .ok ([], p)
def fitsK (c : Kn) (p : Nat) (acc : List Nat) : Bool := decide (kindK c p ≠ 13) && acc.all fun q => decide (q ≠ p) && (decide (kindK c q ≠ kindK c p) || named (kindK c p))
def bbrs (B : Kn → J → ByteArray → Bres) (sp : ByteArray) (c : Kn) : List J → List Nd → List Nat → Except Int (List Nd × List Nat)
 | [], ext, acc => .ok (ext, acc)
 | j :: r, ext, acc => match B (c ++ ext.map er) j sp with
  | .error e => .error e
  | .ok (x, p) => if fitsK (c ++ (ext ++ x).map er) p acc = true then bbrs B sp c r (ext ++ x) (acc ++ [p]) else .error 34
def intsN (l : List Nat) : List Int := l.map fun (n : Nat) => (n : Int)
def bunion (B : Kn → J → ByteArray → Bres) (c : Kn) (its : List J) (sp : ByteArray) : Bres :=
 if its.length = 0 ∨ 10 < its.length then .error 34 else if c.length = 200 then .error 3 else
 match bbrs B sp (c ++ [er (Nd.z 13)]) its [] [] with
 | .error e => .error e
 | .ok (ext, br) => .ok ({ Nd.z 13 with br := intsN br } :: ext, c.length)
def bmany (B : Kn → J → ByteArray → Bres) (c : Kn) (j : J) (sp : ByteArray) (k : Int) (key : ByteArray) : Bres :=
 match j.get key with
 | none => .error 30
 | some x => if c.length = 200 then .error 3 else match B (c ++ [er (Nd.z k)]) x sp with
  | .error e => .error e
  | .ok (ext, p) => .ok ({ Nd.z k with items := (p : Int) } :: ext, c.length)
def mapO (f : ByteArray → Option ByteArray) : List ByteArray → Option (List ByteArray)
 | [] => some []
 | t :: r => match f t with
  | none => none
  | some u => (mapO f r).map (u :: ·)
def btexts (x : J) : Option (List ByteArray) := if x.k = 5 ∧ (x.its.all fun y => decide (y.k = 4)) = true then some (x.its.map J.t) else none
def balias (f : ByteArray → Option ByteArray) (o : Option J) : Except Int (List ByteArray) :=
 match o with
 | none => .ok []
 | some x => match btexts x with
  | none => .error 30
  | some l => if 40 < l.length then .error 3 else match mapO f l with
   | none => .error 31
   | some m => .ok m
def bfull (j : J) (sp name : ByteArray) : Except Int (Option ByteArray) :=
 match j.get kSpace with
 | none => .ok (joinB sp name)
 | some x => if x.k = 4 then .ok (joinB x.t name) else .error 30
def bhead (c : Kn) (j : J) (sp : ByteArray) : Except Int (ByteArray × List ByteArray) :=
 match txt (j.get kName) with
 | none => .error 30
 | some name => match bfull j sp name with
  | .error e => .error e
  | .ok none => .error 31
  | .ok (some full) => if kindB full ≠ 0 then .error 31 else if (findK c full).isSome = true then .error 32 else match balias (joinB (spaceB full)) (j.get kAliases) with
   | .error e => .error e
   | .ok al => .ok (full, al)
def inB (t : ByteArray) (l : List ByteArray) : Bool := l.any fun x => decide (x = t)
theorem inB_iff {t : ByteArray} {l : List ByteArray} : inB t l = true ↔ t ∈ l := by unfold inB; simp
def bsyms : List ByteArray → List ByteArray → Option Int
 | [], _ => none
 | t :: r, a => if simpB t = false then some 31 else if inB t a = true then some 36 else bsyms r (a ++ [t])
def benum (j : J) : Except Int (List ByteArray × Bool × ByteArray) :=
 match (j.get kSymbols).bind btexts with
 | none => .error 30
 | some l => if l = [] then .error 30 else if 40 < l.length then .error 3 else match bsyms l [] with
  | some e => .error e
  | none => match j.get kDefault with
   | none => .ok (l, false, ⟨#[]⟩)
   | some d => if d.k = 4 then (if inB d.t l = true then .ok (l, true, d.t) else .error 35) else .error 30
def bfixed (j : J) : Except Int Int :=
 match j.get kSize with
 | none => .error 30
 | some x => if x.k = 3 then (if x.n < 0 ∨ 1000 < x.n then .error 3 else .ok x.n) else .error 30
def bfield (j : J) (a : List Fd) : Except Int Fd :=
 match txt (j.get kName) with
 | none => .error 30
 | some t => if simpB t = false then .error 31 else if inB t (a.map Fd.name) = true then .error 36 else match balias (fun s => if simpB s = true then some s else none) (j.get kAliases) with
  | .error e => .error e
  | .ok al => .ok ⟨t, al, 0, (j.get kDefault).isSome, gotten (j.get kDefault)⟩
def bfields (B : Kn → J → ByteArray → Bres) (sp : ByteArray) (c : Kn) : List J → List Nd → List Fd → Except Int (List Nd × List Fd)
 | [], ext, a => .ok (ext, a)
 | j :: r, ext, a => match bfield j a with
  | .error e => .error e
  | .ok f => match B (c ++ ext.map er) (gotten (j.get kType)) sp with
   | .error e => .error e
   | .ok (x, p) => bfields B sp c r (ext ++ x) (a ++ [{ f with ty := (p : Int) }])
def brecord (B : Kn → J → ByteArray → Bres) (c : Kn) (j : J) (full : ByteArray) (al : List ByteArray) : Bres :=
 match j.get kFields with
 | none => .error 30
 | some x => if x.k = 5 then (if 40 < x.its.length then .error 3 else if c.length = 200 then .error 3 else match bfields B (spaceB full) (c ++ [(9, full)]) x.its [] [] with
  | .error e => .error e
  | .ok (ext, fs) => .ok ({ Nd.z 9 with name := full, al := al, fs := fs } :: ext, c.length)) else .error 30
def bnamed (B : Kn → J → ByteArray → Bres) (c : Kn) (j : J) (sp : ByteArray) (k : Int) : Bres :=
 match bhead c j sp with
 | .error e => .error e
 | .ok (full, al) => if k = 9 then brecord B c j full al else if k = 10 then (match benum j with
  | .error e => .error e
  | .ok (sy, has, df) => if c.length = 200 then .error 3 else .ok ([{ Nd.z 10 with name := full, al := al, sy := sy, has := has, df := df }], c.length))
  else (match bfixed j with
   | .error e => .error e
   | .ok n => if c.length = 200 then .error 3 else .ok ([{ Nd.z 14 with name := full, al := al, size := n }], c.length))
def bnode : Nat → Kn → J → ByteArray → Bres
 | 0, _, _, _ => .error 30
 | f + 1, c, j, sp => if j.k = 4 then bword c j.t sp else if j.k = 5 then bunion (bnode f) c j.its sp else
  match txt (j.get kType) with
  | none => .error 30
  | some w => if kindB w = 11 then bmany (bnode f) c j sp 11 kItems else if kindB w = 12 then bmany (bnode f) c j sp 12 kValues
   else if named (kindB w) = true then bnamed (bnode f) c j sp (kindB w) else bword c w sp
end Go.Proofs.YthogheglddfniaaGreatDoor
