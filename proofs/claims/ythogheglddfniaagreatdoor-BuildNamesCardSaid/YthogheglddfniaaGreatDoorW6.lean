/- Joined by tools/bundle.py: BdS JRef JRefB. -/
import Derived.Deep.RegionHeldLaw
import Derived.Test.YthogheglddfniaaGreatDoorW1
import Derived.Test.YthogheglddfniaaGreatDoorW4
import Derived.Test.YthogheglddfniaaGreatDoorW5
import Derived.Test.YthogheglddfniaaGreatDoorW0
set_option maxRecDepth 100000
set_option maxHeartbeats 16000000
namespace Go.Proofs.YthogheglddfniaaGreatDoor
def nmsK (c : Kn) : List ByteArray := (c.filter fun p => named p.1).map Prod.snd
theorem nmsK_app (a b : Kn) : nmsK (a ++ b) = nmsK a ++ nmsK b := by unfold nmsK; rw [List.filter_append, List.map_append]
theorem findK_none {c : Kn} {t : ByteArray} (h : findK c t = none) : t ∉ nmsK c := by
 unfold findK at h
 rw [List.findIdx?_eq_none_iff] at h
 intro g
 unfold nmsK at g
 obtain ⟨p, hp, rfl⟩ := List.mem_map.1 g
 obtain ⟨h1, h2⟩ := List.mem_filter.1 hp
 have := h p h1
 rw [h2, Bool.true_and] at this
 exact absurd (ba_beq.2 rfl) (by rw [this]; simp)
theorem findK_some {c : Kn} {t : ByteArray} {p : Nat} (h : findK c t = some p) : p < c.length ∧ named (kindK c p) = true := by
 unfold findK at h
 rw [List.findIdx?_eq_some_iff_getElem] at h
 obtain ⟨h1, h2, _⟩ := h
 refine ⟨h1, ?_⟩
 unfold kindK
 rw [List.getElem?_eq_getElem h1]
 rw [Bool.and_eq_true] at h2
 exact h2.1
theorem kindK_pre {c d : Kn} {i : Nat} (h : i < c.length) : kindK (c ++ d) i = kindK c i := by unfold kindK; rw [List.getElem?_append_left h]
theorem kind_er (s : Sc) (i : Nat) : s.kind (i : Int) = kindK (s.nodes.map er) i := by
 unfold Sc.kind kindK
 rw [if_pos (by omega), Int.toNat_natCast, List.getElem?_map]
 cases s.nodes[i]? <;> rfl
theorem joinB_full {s t u : ByteArray} (h : joinB s t = some u) : Nm.full u.data.toList = true := by
 unfold joinB at h
 obtain ⟨l, hl, rfl⟩ := Option.map_eq_some_iff.1 h
 show Nm.full l = true
 unfold Nm.join at hl
 by_cases h1 : Nm.dot t.data.toList < 0
 · rw [if_pos h1] at hl
   by_cases h2 : Nm.simple t.data.toList = true
   · rw [if_pos h2] at hl
     generalize (if s.data.toList ≠ [] then s.data.toList ++ 46 :: t.data.toList else t.data.toList) = m at hl
     by_cases h3 : Nm.full m = true
     · rw [if_pos h3] at hl; obtain rfl := Option.some.inj hl; exact h3
     · rw [if_neg h3] at hl; cases hl
   · rw [if_neg h2] at hl; cases hl
 · rw [if_neg h1] at hl
   by_cases h3 : Nm.full t.data.toList = true
   · rw [if_pos h3] at hl; obtain rfl := Option.some.inj hl; exact h3
   · rw [if_neg h3] at hl; cases hl
structure Snd (f : Nat) (c : Kn) (ext : List Nd) (p : Nat) : Prop where
 len : c.length + ext.length ≤ 200
 lt : p < c.length + ext.length
 nm : (nmsK c).Nodup → (nmsK (c ++ ext.map er)).Nodup
 ok : ∀ (s : Sc) (pre post : List Nd), s.nodes = pre ++ ext ++ post → pre.map er = c → ∀ n ∈ ext, n.ok s
 mt : ∀ (s : Sc) (pre post : List Nd), s.nodes = pre ++ ext ++ post → pre.map er = c → (ext = [] ∧ p < c.length ∧ named (kindK c p) = true) ∨ (p = c.length ∧ met s f c.length = some (c.length + ext.length))
theorem Snd.step {f : Nat} {c : Kn} {ext : List Nd} {p : Nat} (h : Snd f c ext p) (s : Sc) (pre post : List Nd) (hs : s.nodes = pre ++ ext ++ post) (hc : pre.map er = c) (r : List Int) :
 metK s f ((p : Int) :: r) c.length = metK s f r (c.length + ext.length) := by
 have hn : s.nodes.map er = c ++ ext.map er ++ post.map er := by rw [hs, List.map_append, List.map_append, hc]
 rcases h.mt s pre post hs hc with ⟨h1, h2, h3⟩ | ⟨h1, h2⟩
 · subst h1
   rw [metK]
   rw [if_neg (by
    rintro (g | g | ⟨_, g⟩)
    · omega
    · omega
    · rw [kind_er, hn, List.append_assoc, kindK_pre h2, h3] at g; cases g), if_neg (by omega)]
   rfl
 · subst h1
   rw [metK]
   rw [if_neg (by omega), if_pos rfl, h2]
theorem snd_word {f : Nat} {c : Kn} {w sp : ByteArray} {ext : List Nd} {p : Nat} (hl : c.length ≤ 200) (h : bword c w sp = .ok (ext, p)) : Snd (f + 1) c ext p := by
 unfold bword at h
 split at h
 · rename_i hk
   split at h
   · cases h
   · rename_i hc
     simp only [Except.ok.injEq, Prod.mk.injEq] at h
     obtain ⟨rfl, rfl⟩ := h
     have hn : named ((kindB w : Nat) : Int) = false := by unfold named; simp; omega
     have hkid : ∀ (s : Sc) (pre post : List Nd), s.nodes = pre ++ [Nd.z (kindB w)] ++ post → pre.map er = c → s.kidsAt c.length = [] := fun s pre post hs hc => by
      have hpl : pre.length = c.length := by rw [← hc, List.length_map]
      unfold Sc.kidsAt
      rw [hs, List.getElem?_append_left (by simp; omega), List.getElem?_append_right (by omega), hpl, Nat.sub_self]
      show Nd.kids (Nd.z (kindB w)) = []
      unfold Nd.kids Nd.z
      simp only
      rw [if_neg (by omega), if_neg (by omega), if_neg (by omega)]
     refine ⟨by simp; omega, by simp, fun h => ?_, fun s pre post hs hc n hn2 => ?_, fun s pre post hs hc2 => .inr ⟨rfl, ?_⟩⟩
     · rw [nmsK_app]
       have : nmsK ([Nd.z (kindB w)].map er) = [] := by unfold nmsK er Nd.z; simp [hn]
       rw [this, List.append_nil]; exact h
     · obtain rfl := List.mem_singleton.1 hn2
       exact (ok_prim (by unfold Nd.z; simp only; omega)).2 rfl
     · rw [met, if_neg (by rw [hs]; have : pre.length = c.length := by rw [← hc2, List.length_map]
                           simp; omega), hkid s pre post hs hc2]
       unfold metK
       simp
 · split at h
   · cases h
   · rename_i t _
     split at h
     · cases h
     · rename_i q hq
       simp only [Except.ok.injEq, Prod.mk.injEq] at h
       obtain ⟨rfl, rfl⟩ := h
       obtain ⟨h1, h2⟩ := findK_some hq
       exact ⟨by simpa using hl, by simpa using h1, fun h => by simpa using h, (fun _ _ _ _ _ n hn => by cases hn), fun _ _ _ _ _ => .inl ⟨rfl, h1, h2⟩⟩
structure BrI (f : Nat) (c : Kn) (ext : List Nd) (acc : List Nat) : Prop where
 len : c.length + ext.length ≤ 200
 lts : ∀ q ∈ acc, q < c.length + ext.length
 nm : (nmsK c).Nodup → (nmsK (c ++ ext.map er)).Nodup
 ok : ∀ (s : Sc) (pre post : List Nd), s.nodes = pre ++ ext ++ post → pre.map er = c → ∀ n ∈ ext, n.ok s
 mt : ∀ (s : Sc) (pre post : List Nd), s.nodes = pre ++ ext ++ post → pre.map er = c → ∀ r, metK s f (intsN acc ++ r) c.length = metK s f r (c.length + ext.length)
theorem BrI.nil_ {f : Nat} {c : Kn} (h : c.length ≤ 200) : BrI f c [] [] := ⟨by simpa using h, (fun _ h => by cases h), fun h => by simpa using h, (fun _ _ _ _ _ _ h => by cases h), fun _ _ _ _ _ r => by simp [intsN]⟩
theorem BrI.step {f : Nat} {c : Kn} {ext x : List Nd} {acc : List Nat} {p : Nat} (h : BrI f c ext acc) (k : Snd f (c ++ ext.map er) x p) : BrI f c (ext ++ x) (acc ++ [p]) := by
 have hl : (c ++ ext.map er).length = c.length + ext.length := by simp
 have k1 := k.len; have k2 := k.lt
 rw [hl] at k1 k2
 refine ⟨by rw [List.length_append]; omega, fun q hq => ?_, fun hn => ?_, fun s pre post hs hc n hn => ?_, fun s pre post hs hc r => ?_⟩
 · rw [List.length_append]
   rcases List.mem_append.1 hq with g | g
   · have := h.lts q g; omega
   · obtain rfl := List.mem_singleton.1 g; omega
 · have := k.nm (h.nm hn)
   rwa [List.append_assoc, ← List.map_append] at this
 · rcases List.mem_append.1 hn with g | g
   · exact h.ok s pre (x ++ post) (by rw [hs]; simp) hc n g
   · exact k.ok s (pre ++ ext) post (by rw [hs]; simp) (by rw [List.map_append, hc]) n g
 · have e : intsN (acc ++ [p]) ++ r = intsN acc ++ ((p : Int) :: r) := by unfold intsN; simp
   rw [e, h.mt s pre (x ++ post) (by rw [hs]; simp) hc]
   have st := k.step s (pre ++ ext) post (by rw [hs]; simp) (by rw [List.map_append, hc]) r
   rw [hl] at st
   rw [st, List.length_append, Nat.add_assoc]
theorem Snd.new {f : Nat} {c : Kn} {n : Nd} {ext : List Nd} {acc : List Nat} (h : BrI f (c ++ [er n]) ext acc) (hk : n.kids = intsN acc) (hn : named n.k = true → n.name ∉ nmsK c)
 (hok : ∀ (s : Sc) (pre post : List Nd), s.nodes = pre ++ (n :: ext) ++ post → pre.map er = c → n.ok s) : Snd (f + 1) c (n :: ext) c.length := by
 have hl : (c ++ [er n]).length = c.length + 1 := by simp
 have h1 := h.len
 rw [hl] at h1
 have nn : nmsK [er n] = if named n.k = true then [n.name] else [] := by unfold nmsK er; by_cases g : named n.k = true <;> simp [g]
 refine ⟨by simp; omega, by simp, fun hd => ?_, fun s pre post hs hc m hm => ?_, fun s pre post hs hc => .inr ⟨rfl, ?_⟩⟩
 · have : nmsK (c ++ (n :: ext).map er) = nmsK ((c ++ [er n]) ++ ext.map er) := by simp
   rw [this]
   apply h.nm
   rw [nmsK_app, nn]
   by_cases g : named n.k = true
   · rw [if_pos g]
     refine List.nodup_append.2 ⟨hd, by simp, fun a ha b hb => ?_⟩
     obtain rfl := List.mem_singleton.1 hb
     intro e
     exact hn g (e ▸ ha)
   · rw [if_neg g, List.append_nil]; exact hd
 · rcases List.mem_cons.1 hm with rfl | g
   · exact hok s pre post hs hc
   · exact h.ok s (pre ++ [n]) post (by rw [hs]; simp) (by rw [List.map_append, hc]; rfl) m g
 · have hpl : pre.length = c.length := by rw [← hc, List.length_map]
   have kid : s.kidsAt c.length = intsN acc := by
    unfold Sc.kidsAt
    rw [hs, List.getElem?_append_left (by simp; omega), List.getElem?_append_right (by omega), hpl, Nat.sub_self]
    exact hk
   rw [met, if_neg (by rw [hs]; simp; omega), kid]
   have := h.mt s (pre ++ [n]) post (by rw [hs]; simp) (by rw [List.map_append, hc]; rfl) []
   rw [List.append_nil, hl] at this
   rw [this, metK]
   simp
   omega
def SndB (f : Nat) (B : Kn → J → ByteArray → Bres) : Prop := ∀ (c : Kn) (j : J) (sp : ByteArray) (ext : List Nd) (p : Nat), c.length ≤ 200 → ((j.frm ∧ j.deep ≤ 32) ∨ j = J.zero) → B c j sp = .ok (ext, p) → Snd f c ext p
def Fit (c : Kn) (acc : List Nat) : Prop := (∀ b ∈ acc, kindK c b ≠ 13) ∧ acc.Pairwise fun a b => a ≠ b ∧ (kindK c a ≠ kindK c b ∨ named (kindK c a) = true)
theorem Fit.more {c d : Kn} {acc : List Nat} (h : Fit c acc) (hl : ∀ q ∈ acc, q < c.length) : Fit (c ++ d) acc := by
 refine ⟨fun b hb => by rw [kindK_pre (hl b hb)]; exact h.1 b hb, ?_⟩
 refine List.Pairwise.imp_of_mem (fun {a b} ha hb hr => ?_) h.2
 rw [kindK_pre (hl a ha), kindK_pre (hl b hb)]; exact hr
theorem Fit.snoc {c : Kn} {acc : List Nat} {p : Nat} (h : Fit c acc) (hp : fitsK c p acc = true) : Fit c (acc ++ [p]) := by
 unfold fitsK at hp
 rw [Bool.and_eq_true, decide_eq_true_eq, List.all_eq_true] at hp
 obtain ⟨h1, h2⟩ := hp
 refine ⟨fun b hb => ?_, List.pairwise_append.2 ⟨h.2, by simp, fun a ha b hb => ?_⟩⟩
 · rcases List.mem_append.1 hb with g | g
   · exact h.1 b g
   · obtain rfl := List.mem_singleton.1 g; exact h1
 · obtain rfl := List.mem_singleton.1 hb
   have := h2 a ha
   rw [Bool.and_eq_true, decide_eq_true_eq, Bool.or_eq_true, decide_eq_true_eq] at this
   refine ⟨this.1, ?_⟩
   by_cases g : kindK c a = kindK c b
   · right
     rcases this.2 with k | k
     · exact absurd g k
     · rw [g]; exact k
   · exact .inl g
theorem bbrs_snd {f : Nat} {B : Kn → J → ByteArray → Bres} (hB : SndB f B) (sp : ByteArray) (c : Kn) : ∀ (its : List J) (ext : List Nd) (acc : List Nat) (ext' : List Nd) (acc' : List Nat), (∀ j ∈ its, j.frm ∧ j.deep ≤ 32) → BrI f c ext acc → Fit (c ++ ext.map er) acc →
 bbrs B sp c its ext acc = .ok (ext', acc') → BrI f c ext' acc' ∧ Fit (c ++ ext'.map er) acc' ∧ acc'.length = acc.length + its.length
 | [], ext, acc, ext', acc', _, hI, hF, h => by
  unfold bbrs at h
  simp only [Except.ok.injEq, Prod.mk.injEq] at h
  obtain ⟨rfl, rfl⟩ := h
  exact ⟨hI, hF, rfl⟩
 | j :: r, ext, acc, ext', acc', hj, hI, hF, h => by
  unfold bbrs at h
  split at h
  · cases h
  · rename_i x p hb
    split at h
    · rename_i hf
      have hl : (c ++ ext.map er).length ≤ 200 := by have := hI.len; simp; omega
      have k := hB _ _ _ _ _ hl (.inl (hj j (by simp))) hb
      have hI2 := hI.step k
      have e : c ++ (ext ++ x).map er = (c ++ ext.map er) ++ x.map er := by simp
      have hF2 : Fit (c ++ (ext ++ x).map er) (acc ++ [p]) := by
       refine Fit.snoc ?_ hf
       rw [e]
       exact hF.more fun q hq => by have := hI.lts q hq; simpa using this
      obtain ⟨a1, a2, a3⟩ := bbrs_snd hB sp c r _ _ _ _ (fun j h => hj j (by simp [h])) hI2 hF2 h
      exact ⟨a1, a2, by rw [a3]; simp; omega⟩
    · cases h
theorem len1 {c : Kn} {n : Nd} (h : c.length ≤ 200) (h2 : ¬ c.length = 200) : (c ++ [er n]).length ≤ 200 := by simp; omega
theorem snd_union {f : Nat} {B : Kn → J → ByteArray → Bres} (hB : SndB f B) {c : Kn} {its : List J} {sp : ByteArray} {ext : List Nd} {p : Nat} (hl : c.length ≤ 200) (hj : ∀ j ∈ its, j.frm ∧ j.deep ≤ 32) (h : bunion B c its sp = .ok (ext, p)) : Snd (f + 1) c ext p := by
 unfold bunion at h
 split at h
 · cases h
 · rename_i h10
   split at h
   · cases h
   · rename_i h200
     split at h
     · cases h
     · rename_i x br hb
       simp only [Except.ok.injEq, Prod.mk.injEq] at h
       obtain ⟨rfl, rfl⟩ := h
       obtain ⟨a1, a2, a3⟩ := bbrs_snd hB sp _ _ _ _ _ _ hj (BrI.nil_ (len1 hl h200)) ⟨(fun b h => by cases h), by simp⟩ hb
       have el : br.length = its.length := by simpa using a3
       refine Snd.new (n := { Nd.z 13 with br := intsN br }) (acc := br) a1 (by unfold Nd.kids Nd.z; simp) (fun h => by unfold Nd.z named at h; simp at h) fun s pre post hs hc => (ok_13 rfl).2 ⟨⟨?_, ?_, ?_, ?_⟩, rfl⟩
       · intro e
         have : br.length = 0 := by unfold intsN at e; simpa using e
         omega
       · show (intsN br).length ≤ 10; unfold intsN; rw [List.length_map]; omega
       all_goals
        have hn : s.nodes.map er = (c ++ [er (Nd.z 13)] ++ x.map er) ++ post.map er := by rw [hs]; simp [hc]; rfl
        have ks : ∀ q ∈ br, s.kind (q : Int) = kindK (c ++ [er (Nd.z 13)] ++ x.map er) q := fun q hq => by
         rw [kind_er, hn, kindK_pre (by have := a1.lts q hq; simp at this ⊢; omega)]
       · intro b hb
         obtain ⟨q, hq, rfl⟩ := List.mem_map.1 hb
         rw [ks q hq]; exact a2.1 q hq
       · show (br.map _).Pairwise _
         rw [List.pairwise_map]
         refine List.Pairwise.imp_of_mem (fun {a b} ha hb hr => ?_) a2.2
         rw [ks a ha, ks b hb]
         exact ⟨by omega, hr.2⟩
theorem snd_many {f : Nat} {B : Kn → J → ByteArray → Bres} (hB : SndB f B) {c : Kn} {j : J} {sp : ByteArray} {k : Int} (hk : k = 11 ∨ k = 12) {key : ByteArray} {ext : List Nd} {p : Nat} (hl : c.length ≤ 200) (hj : j.frm ∧ j.deep ≤ 32) (h : bmany B c j sp k key = .ok (ext, p)) : Snd (f + 1) c ext p := by
 unfold bmany at h
 split at h
 · cases h
 · rename_i y hy
   split at h
   · cases h
   · rename_i h200
     split at h
     · cases h
     · rename_i x q hb
       simp only [Except.ok.injEq, Prod.mk.injEq] at h
       obtain ⟨rfl, rfl⟩ := h
       have k1 := hB _ _ _ _ _ (len1 hl h200) (.inl ⟨J.get_frm hy hj.1, by have := J.get_deep hy; omega⟩) hb
       have a1 := (BrI.nil_ (f := f) (len1 (n := Nd.z k) hl h200)).step (by simpa using k1)
       rw [List.nil_append, List.nil_append] at a1
       refine Snd.new (n := { Nd.z k with items := (q : Int) }) (acc := [q]) a1 (by unfold Nd.kids Nd.z intsN; rcases hk with rfl | rfl <;> simp) (fun h => by unfold Nd.z named at h; rcases hk with rfl | rfl <;> simp at h) fun s pre post hs hc => ?_
       rcases hk with rfl | rfl
       · exact (ok_11 rfl).2 rfl
       · exact (ok_12 rfl).2 rfl
theorem mapO_some {f : ByteArray → Option ByteArray} : ∀ {l m : List ByteArray}, mapO f l = some m → m.length = l.length ∧ ∀ u ∈ m, ∃ t, f t = some u
 | [], m, h => by unfold mapO at h; obtain rfl := Option.some.inj h; exact ⟨rfl, fun _ h => by cases h⟩
 | t :: r, m, h => by
  unfold mapO at h
  split at h
  · cases h
  · rename_i u hu
    obtain ⟨q, hq, rfl⟩ := Option.map_eq_some_iff.1 h
    obtain ⟨h1, h2⟩ := mapO_some hq
    refine ⟨by simp [h1], fun v hv => ?_⟩
    rcases List.mem_cons.1 hv with rfl | g
    · exact ⟨t, hu⟩
    · exact h2 v g
theorem balias_ok {f : ByteArray → Option ByteArray} {o : Option J} {al : List ByteArray} (h : balias f o = .ok al) : al.length ≤ 40 ∧ ∀ u ∈ al, ∃ t, f t = some u := by
 unfold balias at h
 split at h
 · simp only [Except.ok.injEq] at h; subst h; exact ⟨by simp, fun _ h => by cases h⟩
 · split at h
   · cases h
   · split at h
     · cases h
     · rename_i l _ h40
       split at h
       · cases h
       · rename_i m hm
         simp only [Except.ok.injEq] at h
         subst h
         obtain ⟨h1, h2⟩ := mapO_some hm
         exact ⟨by omega, h2⟩
theorem bfull_full {j : J} {sp name t : ByteArray} (h : bfull j sp name = .ok (some t)) : Nm.full t.data.toList = true := by
 unfold bfull at h
 split at h
 · simp only [Except.ok.injEq] at h; exact joinB_full h
 · split at h
   · simp only [Except.ok.injEq] at h; exact joinB_full h
   · cases h
theorem bhead_ok {c : Kn} {j : J} {sp full : ByteArray} {al : List ByteArray} (h : bhead c j sp = .ok (full, al)) : okName full ∧ okFulls al ∧ full ∉ nmsK c := by
 unfold bhead at h
 split at h
 · cases h
 · split at h
   · cases h
   · cases h
   · rename_i t ht
     split at h
     · cases h
     · rename_i h0
       split at h
       · cases h
       · rename_i hf
         split at h
         · cases h
         · rename_i l hl
           simp only [Except.ok.injEq, Prod.mk.injEq] at h
           obtain ⟨rfl, rfl⟩ := h
           obtain ⟨a1, a2⟩ := balias_ok hl
           refine ⟨⟨bfull_full ht, by unfold kindB at h0; omega⟩, ⟨a1, fun u hu => ?_⟩, findK_none (by simpa using hf)⟩
           obtain ⟨v, hv⟩ := a2 u hu
           exact joinB_full hv
theorem bsyms_ok : ∀ {l a : List ByteArray}, bsyms l a = none → a.Nodup → (∀ t ∈ l, Nm.simple t.data.toList = true) ∧ (a ++ l).Nodup
 | [], a, _, hn => ⟨(fun _ h => by cases h), by simpa using hn⟩
 | t :: r, a, h, hn => by
  unfold bsyms at h
  split at h
  · cases h
  · rename_i h1
    split at h
    · cases h
    · rename_i h2
      have hn2 : (a ++ [t]).Nodup := List.nodup_append.2 ⟨hn, by simp, fun x hx y hy => by
       obtain rfl := List.mem_singleton.1 hy
       intro e
       exact h2 (inB_iff.2 (e ▸ hx))⟩
      obtain ⟨a1, a2⟩ := bsyms_ok h hn2
      refine ⟨fun u hu => ?_, by simpa using a2⟩
      rcases List.mem_cons.1 hu with rfl | g
      · unfold simpB at h1; simpa using h1
      · exact a1 u g
theorem benum_ok {j : J} {sy : List ByteArray} {has : Bool} {df : ByteArray} (h : benum j = .ok (sy, has, df)) : sy ≠ [] ∧ okSimples sy ∧ sy.Nodup ∧ (if has = true then df ∈ sy else df = ⟨#[]⟩) := by
 unfold benum at h
 split at h
 · cases h
 · split at h
   · cases h
   · rename_i l _ hne
     split at h
     · cases h
     · rename_i h40
       split at h
       · cases h
       · rename_i hs
         obtain ⟨a1, a2⟩ := bsyms_ok hs (by simp)
         rw [List.nil_append] at a2
         split at h
         · simp only [Except.ok.injEq, Prod.mk.injEq] at h
           obtain ⟨rfl, rfl, rfl⟩ := h
           exact ⟨hne, ⟨by omega, a1⟩, a2, by simp⟩
         · split at h
           · split at h
             · rename_i hin
               simp only [Except.ok.injEq, Prod.mk.injEq] at h
               obtain ⟨rfl, rfl, rfl⟩ := h
               exact ⟨hne, ⟨by omega, a1⟩, a2, by rw [if_pos rfl]; exact inB_iff.1 hin⟩
             · cases h
           · cases h
theorem bfixed_ok {j : J} {n : Int} (h : bfixed j = .ok n) : 0 ≤ n ∧ n ≤ 1000 := by
 unfold bfixed at h
 split at h
 · cases h
 · split at h
   · split at h
     · cases h
     · simp only [Except.ok.injEq] at h; omega
   · cases h
theorem bfield_ok {j : J} {a : List Fd} {f : Fd} (hj : j.frm ∧ j.deep ≤ 32) (h : bfield j a = .ok f) : Nm.simple f.name.data.toList = true ∧ f.name ∉ a.map Fd.name ∧ f.ok := by
 unfold bfield at h
 split at h
 · cases h
 · split at h
   · cases h
   · rename_i h1
     split at h
     · cases h
     · rename_i h2
       split at h
       · cases h
       · rename_i al hal
         simp only [Except.ok.injEq] at h
         subst h
         obtain ⟨a1, a2⟩ := balias_ok hal
         refine ⟨by unfold simpB at h1; simpa using h1, fun g => h2 (inB_iff.2 g), ⟨⟨a1, fun u hu => ?_⟩, ?_⟩⟩
         · obtain ⟨t, ht⟩ := a2 u hu
           split at ht
           · rename_i g; obtain rfl := Option.some.inj ht; exact g
           · cases ht
         · simp only
           rcases hd : j.get kDefault with _ | d
           · simp [gotten]; rfl
           · simp only [Option.isSome_some, if_true, gotten, Option.getD_some]
             exact ⟨by have := J.get_deep hd; omega, J.get_frm hd hj.1⟩
theorem bfields_snd {f : Nat} {B : Kn → J → ByteArray → Bres} (hB : SndB f B) (sp : ByteArray) (c : Kn) : ∀ (its : List J) (ext : List Nd) (a : List Fd) (acc : List Nat) (ext' : List Nd) (a' : List Fd), (∀ j ∈ its, j.frm ∧ j.deep ≤ 32) → BrI f c ext acc → a.map Fd.ty = intsN acc →
 ((∀ x ∈ a, Nm.simple x.name.data.toList = true ∧ x.ok) ∧ (a.map Fd.name).Nodup) → bfields B sp c its ext a = .ok (ext', a') →
 ∃ acc', BrI f c ext' acc' ∧ a'.map Fd.ty = intsN acc' ∧ ((∀ x ∈ a', Nm.simple x.name.data.toList = true ∧ x.ok) ∧ (a'.map Fd.name).Nodup) ∧ a'.length = a.length + its.length
 | [], ext, a, acc, ext', a', _, hI, hT, hA, h => by
  unfold bfields at h
  simp only [Except.ok.injEq, Prod.mk.injEq] at h
  obtain ⟨rfl, rfl⟩ := h
  exact ⟨acc, hI, hT, hA, rfl⟩
 | j :: r, ext, a, acc, ext', a', hj, hI, hT, hA, h => by
  unfold bfields at h
  split at h
  · cases h
  · rename_i fd hfd
    split at h
    · cases h
    · rename_i x p hb
      have hl : (c ++ ext.map er).length ≤ 200 := by have := hI.len; simp; omega
      have jj := hj j (by simp)
      obtain ⟨f1, f2, f3⟩ := bfield_ok jj hfd
      have k := hB _ _ _ _ _ hl (by
       rcases ht : j.get kType with _ | y
       · exact .inr rfl
       · exact .inl ⟨J.get_frm ht jj.1, by show y.deep ≤ 32; have := J.get_deep ht; omega⟩) hb
      obtain ⟨acc', b1, b2, b3, b4⟩ := bfields_snd hB sp c r _ (a ++ [{ fd with ty := (p : Int) }]) (acc ++ [p]) _ _ (fun j h => hj j (by simp [h])) (hI.step k) (by rw [List.map_append, hT]; unfold intsN; simp) ⟨fun y hy => by
       rcases List.mem_append.1 hy with g | g
       · exact hA.1 y g
       · obtain rfl := List.mem_singleton.1 g; exact ⟨f1, f3⟩, by
       rw [List.map_append]
       exact List.nodup_append.2 ⟨hA.2, by simp, fun y hy z hz => by
        obtain rfl := List.mem_singleton.1 hz
        intro e
        exact f2 (e ▸ hy)⟩⟩ h
      exact ⟨acc', b1, b2, b3, by rw [b4]; simp; omega⟩
theorem snd_named {f : Nat} {B : Kn → J → ByteArray → Bres} (hB : SndB f B) {c : Kn} {j : J} {sp : ByteArray} {k : Int} (_hk : named k = true) {ext : List Nd} {p : Nat} (hl : c.length ≤ 200) (hj : j.frm ∧ j.deep ≤ 32) (h : bnamed B c j sp k = .ok (ext, p)) : Snd (f + 1) c ext p := by
 unfold bnamed at h
 split at h
 · cases h
 · rename_i full al hh
   obtain ⟨n1, n2, n3⟩ := bhead_ok hh
   split at h
   · unfold brecord at h
     split at h
     · cases h
     · rename_i y hy
       split at h
       · split at h
         · cases h
         · rename_i h40
           split at h
           · cases h
           · rename_i h200
             split at h
             · cases h
             · rename_i x fs hb
               simp only [Except.ok.injEq, Prod.mk.injEq] at h
               obtain ⟨rfl, rfl⟩ := h
               have yf := J.frm_its (J.get_frm hy hj.1)
               have yd := J.get_deep hy
               have y5 : y.k = 5 := by assumption
               obtain ⟨acc, b1, b2, b3, b4⟩ := bfields_snd hB (spaceB full) (c ++ [(9, full)]) y.its [] [] [] x fs (fun z hz => ⟨J.frms_mem yf hz, by have := J.deeps_mem hz; rw [← J.deep_in (.inl y5)] at this; omega⟩) (BrI.nil_ (by simp; omega)) (by simp [intsN]) ⟨(fun _ h => by cases h), by simp⟩ hb
               refine Snd.new (n := { Nd.z 9 with name := full, al := al, fs := fs }) (acc := acc) b1 (by unfold Nd.kids Nd.z; simpa using b2) (fun _ => n3) fun s pre post hs hc => (ok_9 rfl).2 ⟨⟨n1, n2⟩, ⟨⟨?_, fun t ht => ?_⟩, b3.2, fun z hz => (b3.1 z hz).2⟩, rfl⟩
               · show (fs.map Fd.name).length ≤ 40
                 rw [List.length_map, b4]; simp; omega
               · obtain ⟨z, hz, rfl⟩ := List.mem_map.1 ht
                 exact (b3.1 z hz).1
       · cases h
   · split at h
     · split at h
       · cases h
       · rename_i sy has df he
         split at h
         · cases h
         · rename_i h200
           simp only [Except.ok.injEq, Prod.mk.injEq] at h
           obtain ⟨rfl, rfl⟩ := h
           exact Snd.new (n := { Nd.z 10 with name := full, al := al, sy := sy, has := has, df := df }) (acc := []) (BrI.nil_ (len1 hl h200)) (by unfold Nd.kids Nd.z intsN; simp) (fun _ => n3) fun s pre post hs hc => (ok_10 rfl).2 ⟨⟨n1, n2⟩, benum_ok he, rfl⟩
     · split at h
       · cases h
       · rename_i n he
         split at h
         · cases h
         · rename_i h200
           simp only [Except.ok.injEq, Prod.mk.injEq] at h
           obtain ⟨rfl, rfl⟩ := h
           exact Snd.new (n := { Nd.z 14 with name := full, al := al, size := n }) (acc := []) (BrI.nil_ (len1 hl h200)) (by unfold Nd.kids Nd.z intsN; simp) (fun _ => n3) fun s pre post hs hc => (ok_14 rfl).2 ⟨⟨n1, n2⟩, bfixed_ok he, rfl⟩
theorem bnode_snd : ∀ f, SndB f (bnode f)
 | 0, c, j, sp, ext, p, _, _, h => by unfold bnode at h; cases h
 | f + 1, c, j, sp, ext, p, hl, hj, h => by
  rcases hj with hj | rfl
  · unfold bnode at h
    split at h
    · exact snd_word hl h
    · split at h
      · rename_i h5
        exact snd_union (bnode_snd f) hl (fun z hz => ⟨J.frms_mem (J.frm_its hj.1) hz, by have := J.deeps_mem hz; rw [← J.deep_in (.inl h5)] at this; omega⟩) h
      · split at h
        · cases h
        · split at h
          · exact snd_many (bnode_snd f) (.inl rfl) hl hj h
          · split at h
            · exact snd_many (bnode_snd f) (.inr rfl) hl hj h
            · split at h
              · rename_i hk
                exact snd_named (bnode_snd f) hk hl hj h
              · exact snd_word hl h
  · unfold bnode at h
    rw [if_neg (by decide), if_neg (by decide)] at h
    have : txt (J.zero.get kType) = none := rfl
    rw [this] at h
    cases h
end Go.Proofs.YthogheglddfniaaGreatDoor
namespace Go.Proofs.YthogheglddfniaaGreatDoor
open Go.ChangeShapes Go.WideShapes Go.ChangeAt Go.RowKit Mem
theorem retBool {a b : Bool} (h : a = b) : Ending.returned (.bool a) = .returned (.bool b) := by rw [h]
theorem bys_cell {w : World} {B : Nat} {A : Option Addr} {l : List UInt8} (h : Bys w B A l) {k : Nat} (hk : k < l.length) : ∃ b off, A = some ⟨b, off, none⟩ ∧ b < B ∧ w.cell? ⟨b, off + k, none⟩ = some (.int .u8 (Jx.byt l k : Int)) := by
 rcases h with h | ⟨b, off, rfl, hb, hc⟩
 · subst h; simp at hk
 · exact ⟨b, off, rfl, hb, hc k hk⟩
def acc (l : List UInt8) : Nat → Int
 | 0 => 0
 | j + 1 => acc l j * 16 + Jx.hex (Jx.byt l j)
theorem acc_le (l : List UInt8) (j : Nat) (hj : j ≤ 4) (h : ∀ i, i < j → 0 ≤ Jx.hex (Jx.byt l i)) : 0 ≤ acc l j ∧ acc l j ≤ 65535 := by
 obtain rfl | rfl | rfl | rfl | rfl : j = 0 ∨ j = 1 ∨ j = 2 ∨ j = 3 ∨ j = 4 := by omega
 all_goals
  have a := Jx.hex_le (Jx.byt l 0); have b := Jx.hex_le (Jx.byt l 1); have c := Jx.hex_le (Jx.byt l 2); have d := Jx.hex_le (Jx.byt l 3)
  have x0 := h 0; have x1 := h 1; have x2 := h 2; have x3 := h 3
  simp only [acc]
  omega
def Hx (l : List UInt8) (j : Nat) : Prop := ∀ i, i < j → 0 ≤ Jx.hex (Jx.byt l i)
theorem Hx.done {l : List UInt8} (h : Hx l 4) : Jx.four l = acc l 4 := by
 have x0 := h 0 (by omega); have x1 := h 1 (by omega); have x2 := h 2 (by omega); have x3 := h 3 (by omega)
 unfold Jx.four
 rw [if_neg (by omega)]
 simp only [acc]
 omega
theorem Hx.bad {l : List UInt8} {j : Nat} (hj : j < 4) (h : Jx.hex (Jx.byt l j) < 0) : Jx.four l = -1 := by
 unfold Jx.four
 rw [if_pos]
 obtain rfl | rfl | rfl | rfl : j = 0 ∨ j = 1 ∨ j = 2 ∨ j = 3 := by omega
 · exact .inl h
 · exact .inr (.inl h)
 · exact .inr (.inr (.inl h))
 · exact .inr (.inr (.inr h))
theorem Hx.go {l : List UInt8} {j : Nat} (h : Hx l j) (k : 0 ≤ Jx.hex (Jx.byt l j)) : Hx l (j + 1) := fun i hi => by
 rcases Nat.lt_or_ge i j with a | a
 · exact h i a
 · obtain rfl : i = j := by omega
   exact k
theorem numR_20 {m : Nat} {r : List UInt8} (h : Jx.cnt Jx.isD r = 0 ∨ (Jx.byt r 0 = 48 ∧ 1 < Jx.cnt Jx.isD r) ∨ (Jx.isL (Jx.byt r (Jx.cnt Jx.isD r)) = true ∧ Jx.byt r (Jx.cnt Jx.isD r) ≠ 101 ∧ Jx.byt r (Jx.cnt Jx.isD r) ≠ 69)) : Jx.numR m r = (0, m + Jx.cnt Jx.isD r, 20) := by
 unfold Jx.numR; rw [if_pos h]
theorem numR_22 {m : Nat} {r : List UInt8} (h : ¬ (Jx.cnt Jx.isD r = 0 ∨ (Jx.byt r 0 = 48 ∧ 1 < Jx.cnt Jx.isD r) ∨ (Jx.isL (Jx.byt r (Jx.cnt Jx.isD r)) = true ∧ Jx.byt r (Jx.cnt Jx.isD r) ≠ 101 ∧ Jx.byt r (Jx.cnt Jx.isD r) ≠ 69)))
 (h2 : Jx.byt r (Jx.cnt Jx.isD r) = 46 ∨ Jx.isL (Jx.byt r (Jx.cnt Jx.isD r)) = true ∨ 9223372036854775808 < Jx.val (r.take (Jx.cnt Jx.isD r)) ∨ (Jx.val (r.take (Jx.cnt Jx.isD r)) = 9223372036854775808 ∧ m = 0)) : Jx.numR m r = (0, m + Jx.cnt Jx.isD r, 22) := by
 unfold Jx.numR; rw [if_neg h, if_pos h2]
theorem numR_ok {m : Nat} {r : List UInt8} (h : ¬ (Jx.cnt Jx.isD r = 0 ∨ (Jx.byt r 0 = 48 ∧ 1 < Jx.cnt Jx.isD r) ∨ (Jx.isL (Jx.byt r (Jx.cnt Jx.isD r)) = true ∧ Jx.byt r (Jx.cnt Jx.isD r) ≠ 101 ∧ Jx.byt r (Jx.cnt Jx.isD r) ≠ 69)))
 (h2 : ¬ (Jx.byt r (Jx.cnt Jx.isD r) = 46 ∨ Jx.isL (Jx.byt r (Jx.cnt Jx.isD r)) = true ∨ 9223372036854775808 < Jx.val (r.take (Jx.cnt Jx.isD r)) ∨ (Jx.val (r.take (Jx.cnt Jx.isD r)) = 9223372036854775808 ∧ m = 0))) :
 Jx.numR m r = (if m = 0 then (Jx.val (r.take (Jx.cnt Jx.isD r)) : Int) else -(Jx.val (r.take (Jx.cnt Jx.isD r)) : Int), m + Jx.cnt Jx.isD r, 0) := by
 unfold Jx.numR; rw [if_neg h, if_neg h2]
theorem numR_long {r : List UInt8} (h0 : Jx.byt r 0 ≠ 48) (h : 19 < Jx.cnt Jx.isD r) : 9223372036854775808 < Jx.val (r.take (Jx.cnt Jx.isD r)) := by
 have hl := Jx.cnt_le Jx.isD r
 have h1 := Jx.cnt_in Jx.isD r (k := 0) (by omega)
 rw [Jx.isD_is] at h1
 have g := Jx.val_ge (d := r) (by omega) (Jx.cnt Jx.isD r - 1) (by omega)
 rw [show Jx.cnt Jx.isD r - 1 + 1 = Jx.cnt Jx.isD r by omega] at g
 have p : 10 ^ 19 ≤ 10 ^ (Jx.cnt Jx.isD r - 1) := Nat.pow_le_pow_right (by decide) (by omega)
 omega
end Go.Proofs.YthogheglddfniaaGreatDoor
namespace Go.Proofs.YthogheglddfniaaGreatDoor
open Go.ChangeShapes Go.WideShapes Go.ChangeAt Go.RowKit Mem
theorem str_eq (X S : List UInt8) : ((⟨X.toArray⟩ : ByteArray).toList == (⟨S.toArray⟩ : ByteArray).toList) = decide (X = S) := by
 rw [ByteArray.toList_eq, ByteArray.toList_eq, Bool.eq_iff_iff, beq_iff_eq, decide_eq_true_eq]
theorem bys_mid {w : World} {B b off : Nat} {l : List UInt8} (h : Bys w B (some ⟨b, off, none⟩) l) (k n m c : Nat) (hn : n = ((l.drop k).take m).length) :
 (convert 50 9 (.slice (some ⟨b, off + k, none⟩) n c)).run Tryz.prog w = .ok (.string ⟨((l.drop k).take m).toArray⟩) w := by
 subst hn
 exact ((h.tail k).front m).str byteT strT c
end Go.Proofs.YthogheglddfniaaGreatDoor
