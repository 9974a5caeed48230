/- Joined by tools/bundle.py: JCSt JSnd. -/
import Derived.Test.YthogheglddfniaaGreatDoorQ1
import Derived.Test.YthogheglddfniaaGreatDoorQ3
import Derived.Test.YthogheglddfniaaGreatDoorQ4
import Derived.Test.YthogheglddfniaaGreatDoorQ25
import Derived.Test.YthogheglddfniaaGreatDoorQ0
set_option maxRecDepth 100000
set_option maxHeartbeats 16000000
namespace Go.Proofs.YthogheglddfniaaGreatDoor.Jp
open Jx
def kv (f : Nat) (l : List UInt8) (p d : Nat) (ks : List ByteArray) : R :=
 if (tak l p).1.k ≠ 10 then bad 20
 else if (place7 ks (str (tak l p).1.t)).isSome = true then bad 23
 else if (tak l (tak l p).1.x).2 ≠ 0 then bad (tak l (tak l p).1.x).2
 else if (tak l (tak l p).1.x).1.k ≠ 5 then bad 20
 else pval f l (tak l (tak l p).1.x).1.x d
def nxt (r : R) (kn : List ByteArray) (e g : Nat) (l : List UInt8) (d : Nat) (js : List J) : R :=
 if r.2.2 ≠ 0 then bad r.2.2
 else if (tak l r.2.1).2 ≠ 0 then bad (tak l r.2.1).2
 else if (tak l r.2.1).1.k = e then (.mk (kindOf e) 0 nil_ (js ++ [r.1]) kn, (tak l r.2.1).1.x, 0)
 else if (tak l r.2.1).1.k ≠ 6 then bad 20
 else pits g l (tak l r.2.1).1.x d e kn (js ++ [r.1])
theorem pits_4 (g : Nat) (l : List UInt8) (p d : Nat) (ks : List ByteArray) (js : List J) : pits (g + 1) l p d 4 ks js = nxt (pval g l p d) ks 4 g l d js := by
 rw [pits, if_neg dcq]; rfl
theorem pits_2 (g : Nat) (l : List UInt8) (p d : Nat) (ks : List ByteArray) (js : List J) (h : (tak l p).2 = 0) : pits (g + 1) l p d 2 ks js = nxt (kv g l p d ks) (ks ++ [str (tak l p).1.t]) 2 g l d js := by
 rw [pits, if_pos rfl, if_neg omq, place7_any]
 unfold nxt
 obtain ⟨r, hr⟩ : ∃ r, r = kv g l p d ks := ⟨_, rfl⟩
 rw [← hr]
 unfold kv at hr
 by_cases h1 : (tak l p).1.k = 10
 · rw [if_neg (fun h => h h1)] at hr ⊢
   by_cases h2 : (place7 ks (str (tak l p).1.t)).isSome = true
   · rw [if_pos h2] at hr ⊢; subst hr; rfl
   · rw [if_neg h2] at hr ⊢
     by_cases h3 : (tak l (tak l p).1.x).2 = 0
     · rw [if_neg (fun h => h h3)] at hr ⊢
       by_cases h4 : (tak l (tak l p).1.x).1.k = 5
       · rw [if_neg (fun h => h h4)] at hr ⊢
         rw [← hr]
       · rw [if_pos h4] at hr ⊢; subst hr; rfl
     · rw [if_pos h3] at hr ⊢; rw [hr, if_pos (show (bad (tak l (tak l p).1.x).2).2.2 ≠ 0 from h3)]; rfl
 · rw [if_pos h1] at hr ⊢; subst hr; rfl
theorem pits_bad (g : Nat) (l : List UInt8) (p d e : Nat) (ks : List ByteArray) (js : List J) (he : e = 2 ∨ e = 4) (h : (tak l p).2 ≠ 0) : pits (g + 2) l p d e ks js = bad (tak l p).2 := by
 rcases he with rfl | rfl
 · rw [pits, if_pos rfl, if_pos h]
 · rw [pits_4]
   unfold nxt pval
   rw [if_pos h, if_pos (show (bad (tak l p).2).2.2 ≠ 0 from h)]; rfl
theorem fine_x {l : List UInt8} {p : Nat} (hp : p <= l.length) : (tak l p).1.x <= l.length := (tak_fine l p hp).1.2.1
theorem nxt_pos {r : R} {kn : List ByteArray} {e g : Nat} {l : List UInt8} {d : Nat} {js : List J} {p : Nat} (he : e = 2 ∨ e = 4) (hr : r.2.2 = 0 -> p < r.2.1 /\ r.2.1 <= l.length)
 (hi : ∀ p d kn js, p <= l.length -> (pits g l p d e kn js).2.2 = 0 -> p < (pits g l p d e kn js).2.1 /\ (pits g l p d e kn js).2.1 <= l.length) (h : (nxt r kn e g l d js).2.2 = 0) : p < (nxt r kn e g l d js).2.1 /\ (nxt r kn e g l d js).2.1 <= l.length := by
 unfold nxt at h ⊢
 by_cases h1 : r.2.2 = 0
 · rw [if_neg omq] at h ⊢
   obtain ⟨a, b⟩ := hr h1
   by_cases h2 : (tak l r.2.1).2 = 0
   · rw [if_neg omq] at h ⊢
     have fx := fine_x b
     by_cases h3 : (tak l r.2.1).1.k = e
     · rw [if_pos h3] at h ⊢
       have m := (tak_more b h2 omq).1
       exact ⟨show p < (tak l r.2.1).1.x by omega, fx⟩
     · rw [if_neg h3] at h ⊢
       by_cases h4 : (tak l r.2.1).1.k = 6
       · rw [if_neg omq] at h ⊢
         have m := (tak_more b h2 omq).1
         have := hi _ _ _ _ fx h
         exact ⟨by omega, this.2⟩
       · rw [if_pos h4] at h; cases h
   · rw [if_pos h2] at h; exact absurd h h2
 · rw [if_pos h1] at h; exact absurd h h1
theorem pos (f : Nat) : (∀ (l : List UInt8) (p d : Nat), p <= l.length -> (pval f l p d).2.2 = 0 -> p < (pval f l p d).2.1 /\ (pval f l p d).2.1 <= l.length) /\
 (∀ (l : List UInt8) (e : Nat), (e = 2 ∨ e = 4) -> ∀ (p d : Nat) (ks : List ByteArray) (js : List J), p <= l.length -> (pits f l p d e ks js).2.2 = 0 -> p < (pits f l p d e ks js).2.1 /\ (pits f l p d e ks js).2.1 <= l.length) := by
 induction f with
 | zero =>
  refine ⟨fun l p d _ h => ?_, fun l e _ p d ks js _ h => ?_⟩
  · unfold pval at h; cases h
  · unfold pits at h; cases h
 | succ f ih =>
  refine ⟨fun l p d hp h => ?_, fun l e he p d ks js hp h => ?_⟩
  · unfold pval at h ⊢
    by_cases h0 : (tak l p).2 = 0
    · rw [if_neg omq] at h ⊢
      have fx := fine_x hp
      by_cases h7 : (tak l p).1.k = 7
      · rw [if_pos h7] at h ⊢
        exact ⟨(tak_more hp h0 omq).1, fx⟩
      · rw [if_neg h7] at h ⊢
        by_cases h8 : (tak l p).1.k = 8
        · rw [if_pos h8] at h ⊢
          exact ⟨(tak_more hp h0 omq).1, fx⟩
        · rw [if_neg h8] at h ⊢
          by_cases h9 : (tak l p).1.k = 9
          · rw [if_pos h9] at h ⊢
            exact ⟨(tak_more hp h0 omq).1, fx⟩
          · rw [if_neg h9] at h ⊢
            by_cases h10 : (tak l p).1.k = 10
            · rw [if_pos h10] at h ⊢
              exact ⟨(tak_more hp h0 omq).1, fx⟩
            · rw [if_neg h10] at h ⊢
              by_cases h13 : (tak l p).1.k = 1 ∨ (tak l p).1.k = 3
              · rw [if_pos h13] at h ⊢
                have m := (tak_more hp h0 omq).1
                by_cases hd : d = 32
                · rw [if_pos hd] at h; cases h
                · rw [if_neg hd] at h ⊢
                  by_cases hz : (tak l (tak l p).1.x).2 = 0 /\ (tak l (tak l p).1.x).1.k = (tak l p).1.k + 1
                  · rw [if_pos hz] at h ⊢
                    have m2 := (tak_more fx hz.1 omq).1
                    exact ⟨show p < (tak l (tak l p).1.x).1.x by omega, fine_x fx⟩
                  · rw [if_neg hz] at h ⊢
                    have := ih.2 l ((tak l p).1.k + 1) omq _ _ _ _ fx h
                    exact ⟨by omega, this.2⟩
              · rw [if_neg h13] at h; cases h
    · rw [if_pos h0] at h; exact absurd h h0
  · rcases he with rfl | rfl
    · by_cases h0 : (tak l p).2 = 0
      · rw [pits_2 f l p d ks js h0] at h ⊢
        refine nxt_pos (.inl rfl) (fun hr => ?_) (ih.2 l 2 (.inl rfl)) h
        unfold kv at hr ⊢
        by_cases h1 : (tak l p).1.k = 10
        · rw [if_neg omq] at hr ⊢
          have m := (tak_more hp h0 omq).1
          have fx := fine_x hp
          by_cases h2 : (place7 ks (str (tak l p).1.t)).isSome = true
          · rw [if_pos h2] at hr; cases hr
          · rw [if_neg h2] at hr ⊢
            by_cases h3 : (tak l (tak l p).1.x).2 = 0
            · rw [if_neg omq] at hr ⊢
              by_cases h4 : (tak l (tak l p).1.x).1.k = 5
              · rw [if_neg omq] at hr ⊢
                have m2 := (tak_more fx h3 omq).1
                have := ih.1 l _ d (fine_x fx) hr
                exact ⟨by omega, this.2⟩
              · rw [if_pos h4] at hr; cases hr
            · rw [if_pos h3] at hr; exact absurd hr h3
        · rw [if_pos h1] at hr; cases hr
      · rw [pits, if_pos rfl, if_pos h0] at h; exact absurd h h0
    · rw [pits_4] at h ⊢
      exact nxt_pos (.inr rfl) (fun hr => ih.1 l p d hp hr) (ih.2 l 4 (.inr rfl)) h
theorem kv_pos {f : Nat} {l : List UInt8} {p d : Nat} {ks : List ByteArray} (hp : p <= l.length) (h0 : (tak l p).2 = 0) (hr : (kv f l p d ks).2.2 = 0) : p < (kv f l p d ks).2.1 /\ (kv f l p d ks).2.1 <= l.length := by
 unfold kv at hr ⊢
 by_cases h1 : (tak l p).1.k = 10
 · rw [if_neg omq] at hr ⊢
   have m := (tak_more hp h0 omq).1
   have fx := fine_x hp
   by_cases h2 : (place7 ks (str (tak l p).1.t)).isSome = true
   · rw [if_pos h2] at hr; cases hr
   · rw [if_neg h2] at hr ⊢
     by_cases h3 : (tak l (tak l p).1.x).2 = 0
     · rw [if_neg omq] at hr ⊢
       by_cases h4 : (tak l (tak l p).1.x).1.k = 5
       · rw [if_neg omq] at hr ⊢
         have m2 := (tak_more fx h3 omq).1
         have := (pos f).1 l _ d (fine_x fx) hr
         exact ⟨by omega, this.2⟩
       · rw [if_pos h4] at hr; cases hr
     · rw [if_pos h3] at hr; exact absurd hr h3
 · rw [if_pos h1] at hr; cases hr
end Go.Proofs.YthogheglddfniaaGreatDoor.Jp
namespace Go.Proofs.YthogheglddfniaaGreatDoor
open Go.ChangeShapes Go.WideShapes Go.ChangeAt Go.RowKit Mem
theorem Mem.OwnR.put5 {w : World} {base g cap n : Nat} {e : TypeId} {xs : List Value} {z0 z1 z2 z3 z4 : Value} (h : OwnR w base e 5 (.slice (some ⟨g, 0, none⟩) (n + 1) cap) (n + 1) (xs ++ [z0, z1, z2, z3, z4])) (hx : xs.length = n * 5) (x0 x1 x2 x3 x4 : Value) :
 OwnR (((((w.setCell ⟨g, n * 5, none⟩ x0).setCell ⟨g, n * 5 + 1, none⟩ x1).setCell ⟨g, n * 5 + 2, none⟩ x2).setCell ⟨g, n * 5 + 3, none⟩ x3).setCell ⟨g, n * 5 + 4, none⟩ x4) base e 5 (.slice (some ⟨g, 0, none⟩) (n + 1) cap) (n + 1) (xs ++ [x0, x1, x2, x3, x4]) := by
 have s0 := (World.ownsRow.stored h (n * 5) x0).1
 have s1 := (World.ownsRow.stored s0 (n * 5 + 1) x1).1
 have s2 := (World.ownsRow.stored s1 (n * 5 + 2) x2).1
 have s3 := (World.ownsRow.stored s2 (n * 5 + 3) x3).1
 have s4 := (World.ownsRow.stored s3 (n * 5 + 4) x4).1
 have e : (((((xs ++ [z0, z1, z2, z3, z4]).set (n * 5) x0).set (n * 5 + 1) x1).set (n * 5 + 2) x2).set (n * 5 + 3) x3).set (n * 5 + 4) x4 = xs ++ [x0, x1, x2, x3, x4] := by
  rw [← hx]
  simp
 rw [e] at s4
 exact s4
theorem Mem.setCell_comm (w : World) (a b : Addr) (u v : Value) (h : a.block ≠ b.block) : (w.setCell a u).setCell b v = (w.setCell b v).setCell a u := by
 unfold World.setCell
 congr 1
 apply Array.ext_getElem?
 intro i
 simp only [Array.getElem?_modify]
 by_cases h1 : a.block = i
 · have h2 : b.block ≠ i := fun e => h (h1.trans e.symm)
   simp [h1, h2]
 · simp [h1]
theorem Mem.comm5 {w : World} {g gj i : Nat} {x0 x1 x2 x3 x4 v : Value} (h : gj ≠ g) : (((((w.setCell ⟨gj, 3, none⟩ v).setCell ⟨g, i, none⟩ x0).setCell ⟨g, i + 1, none⟩ x1).setCell ⟨g, i + 2, none⟩ x2).setCell ⟨g, i + 3, none⟩ x3).setCell ⟨g, i + 4, none⟩ x4 =
 (((((w.setCell ⟨g, i, none⟩ x0).setCell ⟨g, i + 1, none⟩ x1).setCell ⟨g, i + 2, none⟩ x2).setCell ⟨g, i + 3, none⟩ x3).setCell ⟨g, i + 4, none⟩ x4).setCell ⟨gj, 3, none⟩ v := by
 rw [setCell_comm w ⟨gj, 3, none⟩ ⟨g, i, none⟩ v x0 h, setCell_comm _ ⟨gj, 3, none⟩ ⟨g, i + 1, none⟩ v x1 h, setCell_comm _ ⟨gj, 3, none⟩ ⟨g, i + 2, none⟩ v x2 h, setCell_comm _ ⟨gj, 3, none⟩ ⟨g, i + 3, none⟩ v x3 h, setCell_comm _ ⟨gj, 3, none⟩ ⟨g, i + 4, none⟩ v x4 h]
def FreeC (N : Nat) (w : World) (v3 v4 : Value) : Nat -> Prop := fun b => N <= b /\ b < w.heap.size /\ some b ≠ v3.ownBlock /\ some b ≠ v4.ownBlock
structure StC (gj N : Nat) (w : World) (kind : Int) (ks : List ByteArray) (js : List J) (css : List (List Value)) (v3 v4 : Value) : Prop where
 o3 : OwnR w N 25 5 v3 js.length css.flatten
 o4 : OwnR w N 9 1 v4 ks.length (ks.map Value.string)
 tr : TreesS w (FreeC N w v3 v4) js css
 ap : ∀ g, some g = v3.ownBlock -> some g ≠ v4.ownBlock
 bk : B5 w gj 25 (.int .i64 kind) (.int .i64 0) (.string ⟨#[]⟩) v3 v4
 lt : gj < N
 le : N <= w.heap.size
section
variable {gj N : Nat} {w w' : World} {kind : Int} {ks : List ByteArray} {js : List J} {css : List (List Value)} {v3 v4 v3' v4' : Value}
theorem StC.keep (h : StC gj N w kind ks js css v3 v4) (hk : ∀ b, (b = gj ∨ N <= b) -> b < w.heap.size -> w'.heap[b]? = w.heap[b]?) (hs : w.heap.size <= w'.heap.size) : StC gj N w' kind ks js css v3 v4 where
 o3 := h.o3.keepb (fun g hg => hk g (.inr (h.o3.base_le hg).1) (h.o3.base_le hg).2)
 o4 := h.o4.keepb (fun g hg => hk g (.inr (h.o4.base_le hg).1) (h.o4.base_le hg).2)
 tr := h.tr.keep (fun p hp => World.cell?_of_block (w := w) (hk p.block (.inr hp.1) hp.2.1)) (fun _ hb => ⟨hb.1, nll hb.2.1 hs, hb.2.2⟩)
 ap := h.ap
 bk := (hk gj (.inl rfl) h.bk.lt).trans h.bk
 lt := h.lt
 le := Nat.le_trans h.le hs
theorem StC.sav {a b : Nat} (h : StC gj N w kind ks js css v3 v4) (s : Sav a b w.heap.size w w') (ha : a < N) (hb : b < N) (ha' : a ≠ gj) (hb' : b ≠ gj) : StC gj N w' kind ks js css v3 v4 :=
 h.keep (fun k hk hl => s.block k hl omq omq) s.size
theorem StC.below (h : StC gj N w kind ks js css v3 v4) (s : Below w.heap.size w w') : StC gj N w' kind ks js css v3 v4 := h.keep (fun k _ hl => s.block k hl) s.size
theorem StC.alloc (h : StC gj N w kind ks js css v3 v4) (o : Obj) : StC gj N (w.alloc o) kind ks js css v3 v4 := h.below ((Below.refl _ _).alloc (nlr _) o)
theorem StC.key (h : StC gj N w kind ks js css v3 v4) {k : ByteArray} (o4' : OwnR w' N 9 1 v4' (ks.length + 1) (ks.map Value.string ++ [.string k])) (hg : w.grownBy w' v4.ownBlock)
 (hbl : Below N w w') (ob : v4'.ownBlock = v4.ownBlock ∨ ∃ n, v4'.ownBlock = some n /\ w.heap.size <= n) : StC gj N (w'.setCell ⟨gj, 4, none⟩ v4') kind (ks ++ [k]) js css v3 v4' := by
 have hlt := h.lt
 have hne : ∀ g, g < w.heap.size -> some g ≠ v4.ownBlock -> some g ≠ v4'.ownBlock := fun g hl hn => by
  rcases ob with e | ⟨n, e, hle⟩
  · rw [e]; exact hn
  · rw [e]; intro hh; injection hh; omega
 refine ⟨?_, ?_, ?_, ?_, ?_, h.lt, Nat.le_trans h.le (by simp [World.setCell]; exact hg.size)⟩
 · exact (h.o3.keepb (w' := w') fun g hg' => hg.block g (own_lt h.o3 g hg') (h.ap g hg')).set (by show gj < N; omega) _
 · have := o4'.set (p := ⟨gj, 4, none⟩) (by show gj < N; omega) v4'
   rw [List.length_append, List.map_append]; exact this
 · refine h.tr.keep (fun p hp => ?_) (fun b hb => ⟨hb.1, by have := hg.size; simp [World.setCell]; have := hb.2.1; omega, hb.2.2.1, hne b hb.2.1 hb.2.2.2⟩)
   exact (World.cell?_setCell_other _ _ _ _ (fun e => by have h1 := hp.1; have h2 := congrArg Addr.block e; simp only at h2; omega)).trans (World.cell?_of_block (hg.block p.block hp.2.1 hp.2.2.2))
 · exact fun g hg' => hne g (own_lt h.o3 g hg') (h.ap g hg')
 · exact B5.set4 (h.bk.below hbl hlt) v4'
theorem StC.item5 {g cap : Nat} {j : J} {z0 z1 z2 z3 z4 x0 x1 x2 x3 x4 : Value} (h : StC gj N w kind ks js css v3 v4) (o3' : OwnR w' N 25 5 (.slice (some ⟨g, 0, none⟩) (js.length + 1) cap) (js.length + 1) (css.flatten ++ [z0, z1, z2, z3, z4])) (hg : w.grownBy w' v3.ownBlock)
 (hbl : Below N w w') (ob : some g = v3.ownBlock ∨ w.heap.size <= g) (ht : TreeS w (FreeC N w v3 v4) j [x0, x1, x2, x3, x4]) :
 StC gj N ((((((w'.setCell ⟨g, js.length * 5, none⟩ x0).setCell ⟨g, js.length * 5 + 1, none⟩ x1).setCell ⟨g, js.length * 5 + 2, none⟩ x2).setCell ⟨g, js.length * 5 + 3, none⟩ x3).setCell ⟨g, js.length * 5 + 4, none⟩ x4).setCell ⟨gj, 3, none⟩ (.slice (some ⟨g, 0, none⟩) (js.length + 1) cap))
  kind ks (js ++ [j]) (css ++ [[x0, x1, x2, x3, x4]]) (.slice (some ⟨g, 0, none⟩) (js.length + 1) cap) v4 := by
 have hlt := h.lt
 have hN : N <= g := (o3'.base_le (g := g) rfl).1
 have five : css.flatten.length = js.length * 5 := h.tr.flat
 have hne : ∀ k, k < w.heap.size -> some k ≠ v3.ownBlock -> k ≠ g := fun k hl hn e => by
  subst e
  rcases ob with e | e
  · exact hn e
  · omega
 have rest : ∀ k, k ≠ g -> k ≠ gj -> ((((((w'.setCell ⟨g, js.length * 5, none⟩ x0).setCell ⟨g, js.length * 5 + 1, none⟩ x1).setCell ⟨g, js.length * 5 + 2, none⟩ x2).setCell ⟨g, js.length * 5 + 3, none⟩ x3).setCell ⟨g, js.length * 5 + 4, none⟩ x4).setCell ⟨gj, 3, none⟩ (.slice (some ⟨g, 0, none⟩) (js.length + 1) cap)).heap[k]? = w'.heap[k]? := fun k h1 h2 => by
  rw [Below.heap_setCell _ _ _ _ h2, Below.heap_setCell _ _ _ _ h1, Below.heap_setCell _ _ _ _ h1, Below.heap_setCell _ _ _ _ h1, Below.heap_setCell _ _ _ _ h1, Below.heap_setCell _ _ _ _ h1]
 have sz : ((((((w'.setCell ⟨g, js.length * 5, none⟩ x0).setCell ⟨g, js.length * 5 + 1, none⟩ x1).setCell ⟨g, js.length * 5 + 2, none⟩ x2).setCell ⟨g, js.length * 5 + 3, none⟩ x3).setCell ⟨g, js.length * 5 + 4, none⟩ x4).setCell ⟨gj, 3, none⟩ (.slice (some ⟨g, 0, none⟩) (js.length + 1) cap)).heap.size = w'.heap.size := by simp [World.setCell]
 have bk5 : B5 (((((w'.setCell ⟨g, js.length * 5, none⟩ x0).setCell ⟨g, js.length * 5 + 1, none⟩ x1).setCell ⟨g, js.length * 5 + 2, none⟩ x2).setCell ⟨g, js.length * 5 + 3, none⟩ x3).setCell ⟨g, js.length * 5 + 4, none⟩ x4) gj 25 (.int .i64 kind) (.int .i64 0) (.string ⟨#[]⟩) v3 v4 := by
  have hn : g ≠ gj := by omega
  exact (((((h.bk.below hbl hlt).past hn _).past hn _).past hn _).past hn _).past hn _
 have o3'' := (Mem.OwnR.put5 o3' five x0 x1 x2 x3 x4).set (p := ⟨gj, 3, none⟩) (by show gj < N; omega) (.slice (some ⟨g, 0, none⟩) (js.length + 1) cap)
 have bk6 := B5.set3 bk5 (.slice (some ⟨g, 0, none⟩) (js.length + 1) cap)
 generalize ((((((w'.setCell ⟨g, js.length * 5, none⟩ x0).setCell ⟨g, js.length * 5 + 1, none⟩ x1).setCell ⟨g, js.length * 5 + 2, none⟩ x2).setCell ⟨g, js.length * 5 + 3, none⟩ x3).setCell ⟨g, js.length * 5 + 4, none⟩ x4).setCell ⟨gj, 3, none⟩ (.slice (some ⟨g, 0, none⟩) (js.length + 1) cap)) = W at *
 have hne4 : ∀ k, some k = v4.ownBlock -> some k ≠ v3.ownBlock := fun k hg' hn => h.ap k hn hg'
 refine ⟨?_, ?_, ?_, ?_, bk6, h.lt, by rw [sz]; exact Nat.le_trans h.le hg.size⟩
 · rw [List.length_append, List.flatten_append]; simpa using o3''
 · exact h.o4.keepb fun k hk => (rest k (hne k (own_lt h.o4 k hk) (hne4 k hk)) (by have := (h.o4.base_le hk).1; omega)).trans (hg.block k (own_lt h.o4 k hk) (hne4 k hk))
 · refine TreesS.keep (fun p hp => ?_) (fun b hb => ⟨hb.1, by rw [sz]; exact nll hb.2.1 hg.size, ?_, hb.2.2.2⟩) (h.tr.snoc ht)
   · exact World.cell?_of_block ((rest p.block (hne _ hp.2.1 hp.2.2.1) (by have := hp.1; omega)).trans (hg.block p.block hp.2.1 hp.2.2.1))
   · intro e
     exact hne b hb.2.1 hb.2.2.1 (by injection e)
 · intro k hk e
   have e2 : k = g := by injection hk
   subst e2
   rcases ob with o | o
   · exact h.ap k o e
   · have := own_lt h.o4 k e
     omega
theorem StC.tree (h : StC gj N w kind ks js css v3 v4) (hj : js.length <= 1000000000) (hk : ks.length <= 1000000000) : ∃ A3 c3 A4 c4, v3 = .slice A3 js.length c3 /\ v4 = .slice A4 ks.length c4 /\
 TreeS w (Btw N w.heap.size) (.mk kind 0 ⟨#[]⟩ js ks) [.int .i64 kind, .int .i64 0, .string ⟨#[]⟩, .slice A3 js.length c3, .slice A4 ks.length c4] := by
 obtain ⟨A3, c3, e3, h3, f3⟩ := ownR_fls h.o3
 obtain ⟨A4, c4, e4, h4, f4⟩ := ownR_fls h.o4
 exact ⟨A3, c3, A4, c4, e3, e4, TreeS.mk_ ⟨h3, by unfold maxLen; omega⟩ ⟨h4, by unfold maxLen; omega⟩ (trees_fl h.tr f3 (fun b hb => ⟨hb.1, hb.2.1⟩)) f4⟩
theorem StC.start (bk : B5 w gj 25 (.int .i64 kind) (.int .i64 0) (.string ⟨#[]⟩) (.slice none 0 0) (.slice none 0 0)) (lt : gj < N) (le : N <= w.heap.size) : StC gj N w kind [] [] [] (.slice none 0 0) (.slice none 0 0) :=
 ⟨OwnR.none_ _ _ _ _, OwnR.none_ _ _ _ _, trivial, fun g hg => by simp [Value.ownBlock] at hg, bk, lt, le⟩
end
end Go.Proofs.YthogheglddfniaaGreatDoor
namespace Go.Proofs.YthogheglddfniaaGreatDoor
open Num
theorem Num.cU_ue {c : Nat} (h : isC (c : Int)) : (cU (ue c)).isSome = true := by
 rw [cU_go (by simpa using fst_ue h []), List.drop_length, cU_nil]; rfl
theorem Num.cU_join {a b : List UInt8} (ha : (cU a).isSome = true) (hb : (cU b).isSome = true) : (cU (a ++ b)).isSome = true := by
 obtain ⟨n, hn⟩ := Option.isSome_iff_exists.1 ha
 rw [cU_app a.length a b n (nlr _) hn, Option.isSome_map]; exact hb
theorem Num.cU_fst {l : List UInt8} (h : (fst l).2.2 = 0) : (cU (l.take (fst l).2.1)).isSome = true := by
 rcases fst_err l with ⟨c, n, e, _⟩ | ⟨e, _⟩ | e
 · obtain ⟨h1, h2, _⟩ := ue_fst e
   rw [e, ← h2]; exact cU_ue h1
 · rw [e] at h; cases h
 · rw [e] at h; cases h
namespace Jx
theorem item_right {l o : List UInt8} {n : Nat} (h : item l = some (o, n)) : (cU o).isSome = true := by
 unfold item at h
 split at h
 · split at h
   · rename_i v hv
     simp only [Option.some.injEq, Prod.mk.injEq] at h
     obtain ⟨rfl, _⟩ := h
     have hv2 : v < 128 := by
      unfold esc at hv
      repeat' (split at hv)
      all_goals first
       | (simp only [Option.some.injEq] at hv; omega)
       | cases hv
     rw [← ue_1 hv2]
     exact cU_ue (by unfold isC; omega)
   · split at h
     · unfold uni at h
       split at h
       · split at h
         · rename_i h1 h2
           simp only [Option.some.injEq, Prod.mk.injEq] at h
           obtain ⟨rfl, _⟩ := h
           exact cU_ue (by unfold isC; omega)
         · cases h
       · split at h
         · rename_i h1 h2
           simp only [Option.some.injEq, Prod.mk.injEq] at h
           obtain ⟨rfl, _⟩ := h
           have h3 := h2
           unfold isC at h3
           exact cU_ue (by rw [Int.toNat_of_nonneg h3.1]; exact h2)
         · cases h
     · cases h
 · split at h
   · rename_i h1
     simp only [Option.some.injEq, Prod.mk.injEq] at h
     obtain ⟨rfl, _⟩ := h
     exact cU_fst h1
   · cases h
theorem txtF_right : ∀ (f : Nat) {l o : List UInt8} {n : Nat}, txtF f l = some (o, n) -> (cU o).isSome = true
 | 0, _, _, _, h => by cases h
 | f + 1, l, o, n, h => by
  unfold txtF at h
  split at h
  · cases h
  · split at h
    · simp only [Option.some.injEq, Prod.mk.injEq] at h
      obtain ⟨rfl, _⟩ := h
      rw [cU_nil]; rfl
    · split at h
      · cases h
      · rename_i o1 n1 hi
        obtain ⟨⟨o2, n2⟩, h2, e⟩ := Option.map_eq_some_iff.1 h
        simp only [Prod.mk.injEq] at e
        obtain ⟨rfl, _⟩ := e
        exact cU_join (item_right hi) (txtF_right f h2)
theorem word_right {l : List UInt8} (h : (word l).1.k = 10) : (cU (word l).1.t).isSome = true := by
 unfold word at h ⊢
 split
 · rename_i h1
   rw [if_pos h1] at h
   have h' : punct (byt l 0) = 10 := h
   have : punct (byt l 0) <= 6 := by unfold punct; (repeat' split) <;> omega
   omega
 · rename_i h1
   rw [if_neg h1] at h
   split
   · rename_i h2
     rw [if_pos h2] at h
     split
     · rename_i h3; rw [h3] at h; cases h
     · rename_i s k h3
       exact txtF_right _ h3
   · rename_i h2
     rw [if_neg h2] at h
     repeat' split at h
     all_goals cases h
theorem tak_right {l : List UInt8} {p : Nat} (h : (tak l p).1.k = 10) : (cU (tak l p).1.t).isSome = true := by
 unfold tak at h ⊢
 split
 · rename_i h1; rw [if_pos h1] at h; cases h
 · rename_i h1
   rw [if_neg h1] at h
   split
   · rename_i h2
     rw [if_pos h2] at h
     exact word_right h
   · rename_i h2; rw [if_neg h2] at h; cases h
end Jx
def right7 (s : ByteArray) : Prop := (cU s.data.toList).isSome = true /\ s.size <= 100000000
mutual
/-- A tree without a key twice, of texts of characters. -/
def J.snd : J -> Prop
 | .mk k _ t its ks => right7 t /\ (k = 6 -> ks.length = its.length) /\ (ks ≠ [] -> k = 6) /\ (∀ x, x ∈ ks -> right7 x) /\ ks.Nodup /\ J.snds its
def J.snds : List J -> Prop
 | [] => True
 | j :: r => J.snd j /\ J.snds r
end
theorem J.snds_snoc {l : List J} {j : J} (h : J.snds l) (hj : j.snd) : J.snds (l ++ [j]) := by
 induction l with
 | nil => unfold J.snds; exact ⟨hj, by unfold J.snds; trivial⟩
 | cons x r ih => unfold J.snds at h; rw [List.cons_append]; unfold J.snds; exact ⟨h.1, ih h.2⟩
theorem right7_nil : right7 ⟨#[]⟩ := ⟨by rw [show (⟨#[]⟩ : ByteArray).data.toList = [] from rfl, cU_nil]; rfl, by decide⟩
theorem right7_str {t : List UInt8} (h : (cU t).isSome = true) (hl : t.length <= 100000000) : right7 (Jp.str t) := ⟨by unfold Jp.str; simpa using h, by unfold Jp.str; simpa [ByteArray.size] using hl⟩
theorem J.snd_leaf (k n : Int) {t : ByteArray} (h : right7 t) : (J.mk k n t [] []).snd := by
 unfold J.snd; exact ⟨h, (fun _ => rfl), (fun h => absurd rfl h), (fun _ h => by cases h), List.nodup_nil, (by unfold J.snds; trivial)⟩
namespace Jp
open Jx
structure Gd (e d : Nat) (ks : List ByteArray) (js : List J) : Prop where
 len : e = 2 -> ks.length = js.length
 nok : e = 4 -> ks = []
 rt : ∀ x, x ∈ ks -> right7 x
 nd : ks.Nodup
 sn : J.snds js
 dp : ∀ i (h : i < js.length), (js[i]'h).deep + d <= 32
theorem Gd.nil (e d : Nat) : Gd e d [] [] := ⟨(fun _ => rfl), (fun _ => rfl), (fun _ h => by cases h), List.nodup_nil, (by unfold J.snds; trivial), (fun _ h => absurd h (Nat.not_lt_zero _))⟩
theorem Gd.tree {e d : Nat} {ks : List ByteArray} {js : List J} (h : Gd e d ks js) (he : e = 2 ∨ e = 4) (h1 : 1 <= d) (h32 : d <= 32) : (J.mk (kindOf e) 0 nil_ js ks).snd /\ (J.mk (kindOf e) 0 nil_ js ks).deep + (d - 1) <= 32 := by
 constructor
 · unfold J.snd
   refine ⟨right7_nil, fun hk => ?_, fun hk => ?_, h.rt, h.nd, h.sn⟩
   · rcases he with rfl | rfl
     · exact h.len rfl
     · unfold kindOf at hk; simp at hk
   · rcases he with rfl | rfl
     · rfl
     · exact absurd (h.nok rfl) hk
 · have : (J.mk (kindOf e) 0 nil_ js ks).deep <= 33 - d := by
    have dk : (kindOf e) = 5 ∨ (kindOf e) = 6 := by rcases he with rfl | rfl <;> decide
    rw [J.deep_in (j := J.mk (kindOf e) 0 nil_ js ks) dk]
    show J.deeps js <= _
    have key : ∀ (l : List J), (∀ i (h : i < l.length), (l[i]'h).deep + d <= 32) -> J.deeps l <= 33 - d := by
     intro l
     induction l with
     | nil => intro _; unfold J.deeps; omega
     | cons x r ih =>
      intro hh
      unfold J.deeps
      have h0 := hh 0 smq
      have hr := ih (fun i hi => by have := hh (i + 1) (by simpa using hi); simpa using this)
      simp at h0
      omega
    exact key js h.dp
   omega
theorem Gd.item4 {d : Nat} {ks : List ByteArray} {js : List J} {j : J} (h : Gd 4 d ks js) (hs : j.snd) (hd : j.deep + d <= 32) : Gd 4 d ks (js ++ [j]) where
 len := fun e => by cases e
 nok := h.nok
 rt := h.rt
 nd := h.nd
 sn := J.snds_snoc h.sn hs
 dp := fun i hi => by
  rcases Nat.lt_or_ge i js.length with g | g
  · rw [List.getElem_append_left g]; exact h.dp i g
  · obtain rfl : i = js.length := by simp at hi; omega
    simpa using hd
theorem Gd.item2 {d : Nat} {ks : List ByteArray} {js : List J} {j : J} {k : ByteArray} (h : Gd 2 d ks js) (hs : j.snd) (hd : j.deep + d <= 32) (hk : right7 k) (hn : ¬ (place7 ks k).isSome = true) : Gd 2 d (ks ++ [k]) (js ++ [j]) where
 len := fun _ => by simp [h.len rfl]
 nok := fun e => by cases e
 rt := fun x hx => by
  rcases List.mem_append.1 hx with g | g
  · exact h.rt x g
  · rw [List.mem_singleton.1 g]; exact hk
 nd := by
  rw [List.nodup_append]
  refine ⟨h.nd, by simp, fun x hx y hy => ?_⟩
  rw [List.mem_singleton.1 hy]
  intro e
  subst e
  apply hn
  rw [← place7_any, List.any_eq_true]
  exact ⟨_, hx, by simp⟩
 sn := J.snds_snoc h.sn hs
 dp := fun i hi => by
  rcases Nat.lt_or_ge i js.length with g | g
  · rw [List.getElem_append_left g]; exact h.dp i g
  · obtain rfl : i = js.length := by simp at hi; omega
    simpa using hd
theorem nxt_gd {r : R} {kn : List ByteArray} {e g : Nat} {l : List UInt8} {d : Nat} {js : List J} (he : e = 2 ∨ e = 4) (h1 : 1 <= d) (h32 : d <= 32) (hl : r.2.2 = 0 -> r.2.1 <= l.length) (hg : r.2.2 = 0 -> Gd e d kn (js ++ [r.1]))
 (hi : ∀ p kn js, p <= l.length -> Gd e d kn js -> (pits g l p d e kn js).2.2 = 0 -> (pits g l p d e kn js).1.snd /\ (pits g l p d e kn js).1.deep + (d - 1) <= 32) (h : (nxt r kn e g l d js).2.2 = 0) : (nxt r kn e g l d js).1.snd /\ (nxt r kn e g l d js).1.deep + (d - 1) <= 32 := by
 unfold nxt at h ⊢
 by_cases g1 : r.2.2 = 0
 · rw [if_neg (fun h => h g1)] at h ⊢
   by_cases g2 : (tak l r.2.1).2 = 0
   · rw [if_neg (fun h => h g2)] at h ⊢
     by_cases g3 : (tak l r.2.1).1.k = e
     · rw [if_pos g3] at h ⊢
       exact (hg g1).tree he h1 h32
     · rw [if_neg g3] at h ⊢
       by_cases g4 : (tak l r.2.1).1.k = 6
       · rw [if_neg (fun h => h g4)] at h ⊢
         exact hi _ _ _ (fine_x (hl g1)) (hg g1) h
       · rw [if_pos g4] at h; cases h
   · rw [if_pos g2] at h; exact absurd h g2
 · rw [if_pos g1] at h; exact absurd h g1
theorem snd_all (f : Nat) : (∀ (l : List UInt8) (p d : Nat), l.length <= 100000000 -> p <= l.length -> d <= 32 -> (pval f l p d).2.2 = 0 -> (pval f l p d).1.snd /\ (pval f l p d).1.deep + d <= 32) /\
 (∀ (l : List UInt8) (e : Nat), l.length <= 100000000 -> (e = 2 ∨ e = 4) -> ∀ (d : Nat), 1 <= d -> d <= 32 -> ∀ (p : Nat) (ks : List ByteArray) (js : List J), p <= l.length -> Gd e d ks js -> (pits f l p d e ks js).2.2 = 0 -> (pits f l p d e ks js).1.snd /\ (pits f l p d e ks js).1.deep + (d - 1) <= 32) := by
 induction f with
 | zero =>
  refine ⟨fun l p d _ _ _ h => ?_, fun l e _ _ d _ _ p ks js _ _ h => ?_⟩
  · unfold pval at h; cases h
  · unfold pits at h; cases h
 | succ f ih =>
  refine ⟨fun l p d hl hp hd h => ?_, fun l e hl he d h1 h32 p ks js hp hg h => ?_⟩
  · unfold pval at h ⊢
    by_cases h0 : (tak l p).2 = 0
    · rw [if_neg (fun h => h h0)] at h ⊢
      have fx := fine_x hp
      have leaf : ∀ (k n : Int) (t : ByteArray), (¬ (k = 5 ∨ k = 6)) -> right7 t -> (J.mk k n t [] []).snd /\ (J.mk k n t [] []).deep + d <= 32 := fun k n t hk ht => ⟨J.snd_leaf k n ht, by rw [J.deep_out (j := .mk k n t [] []) hk]; omega⟩
      by_cases h7 : (tak l p).1.k = 7
      · rw [if_pos h7]; exact leaf 2 _ _ dcq right7_nil
      · rw [if_neg h7] at h ⊢
        by_cases h8 : (tak l p).1.k = 8
        · rw [if_pos h8]; exact leaf 1 _ _ dcq right7_nil
        · rw [if_neg h8] at h ⊢
          by_cases h9 : (tak l p).1.k = 9
          · rw [if_pos h9]; exact leaf 3 _ _ dcq right7_nil
          · rw [if_neg h9] at h ⊢
            by_cases h10 : (tak l p).1.k = 10
            · rw [if_pos h10]
              exact leaf 4 _ _ dcq (right7_str (tak_right h10) (Nat.le_trans (tak_fine l p hp).1.2.2.2.2.2 hl))
            · rw [if_neg h10] at h ⊢
              by_cases h13 : (tak l p).1.k = 1 ∨ (tak l p).1.k = 3
              · rw [if_pos h13] at h ⊢
                by_cases h32 : d = 32
                · rw [if_pos h32] at h; cases h
                · rw [if_neg h32] at h ⊢
                  have he : (tak l p).1.k + 1 = 2 ∨ (tak l p).1.k + 1 = 4 := by omega
                  by_cases hz : (tak l (tak l p).1.x).2 = 0 /\ (tak l (tak l p).1.x).1.k = (tak l p).1.k + 1
                  · rw [if_pos hz]
                    have := (Gd.nil ((tak l p).1.k + 1) (d + 1)).tree he omq omq
                    exact ⟨this.1, by have := this.2; simpa using this⟩
                  · rw [if_neg hz] at h ⊢
                    have := ih.2 l _ hl he (d + 1) omq omq _ [] [] fx (Gd.nil _ _) h
                    exact ⟨this.1, by have := this.2; simpa using this⟩
              · rw [if_neg h13] at h; cases h
    · rw [if_pos h0] at h; exact absurd h h0
  · rcases he with rfl | rfl
    · by_cases h0 : (tak l p).2 = 0
      · rw [pits_2 f l p d ks js h0] at h ⊢
        have fx := fine_x hp
        refine nxt_gd (.inl rfl) h1 h32 (fun hr => (kv_pos hp h0 hr).2) (fun hr => ?_) (fun p kn js hp hg => ih.2 l 2 hl (.inl rfl) d h1 h32 p kn js hp hg) h
        unfold kv at hr ⊢
        by_cases g1 : (tak l p).1.k = 10
        · rw [if_neg (fun h => h g1)] at hr ⊢
          by_cases g2 : (place7 ks (str (tak l p).1.t)).isSome = true
          · rw [if_pos g2] at hr; cases hr
          · rw [if_neg g2] at hr ⊢
            by_cases g3 : (tak l (tak l p).1.x).2 = 0
            · rw [if_neg (fun h => h g3)] at hr ⊢
              by_cases g4 : (tak l (tak l p).1.x).1.k = 5
              · rw [if_neg (fun h => h g4)] at hr ⊢
                have := ih.1 l _ d hl (fine_x fx) h32 hr
                exact hg.item2 this.1 this.2 (right7_str (tak_right g1) (Nat.le_trans (tak_fine l p hp).1.2.2.2.2.2 hl)) g2
              · rw [if_pos g4] at hr; cases hr
            · rw [if_pos g3] at hr; exact absurd hr g3
        · rw [if_pos g1] at hr; cases hr
      · rw [pits, if_pos rfl, if_pos h0] at h; exact absurd h h0
    · rw [pits_4] at h ⊢
      refine nxt_gd (.inr rfl) h1 h32 (fun hr => ((pos f).1 l p d hp hr).2) (fun hr => ?_) (fun p kn js hp hg => ih.2 l 4 hl (.inr rfl) d h1 h32 p kn js hp hg) h
      have := ih.1 l p d hl hp h32 hr
      exact hg.item4 this.1 this.2
theorem parse_snd {l : List UInt8} (h : (parse l).2 = 0) : (parse l).1.snd /\ (parse l).1.deep <= 32 := by
 unfold parse at h ⊢
 by_cases h0 : 20000 < l.length
 · rw [if_pos h0] at h; cases h
 · rw [if_neg h0] at h ⊢
   by_cases h1 : (pval (2 * l.length + 3) l 0 0).2.2 = 0
   · rw [if_neg (fun h => h h1)] at h ⊢
     have := (snd_all _).1 l 0 0 omq (Nat.zero_le _) omq h1
     by_cases h2 : (tak l (pval (2 * l.length + 3) l 0 0).2.1).2 = 0
     · rw [if_neg (fun h => h h2)] at h ⊢
       by_cases h3 : (tak l (pval (2 * l.length + 3) l 0 0).2.1).1.k = 11
       · rw [if_neg (fun h => h h3)]; exact this
       · rw [if_pos h3] at h; cases h
     · rw [if_pos h2] at h; exact absurd h h2
   · rw [if_pos h1] at h; exact absurd h h1
end Jp
end Go.Proofs.YthogheglddfniaaGreatDoor
