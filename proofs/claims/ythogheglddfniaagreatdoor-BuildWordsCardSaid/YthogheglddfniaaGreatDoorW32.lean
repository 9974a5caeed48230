/- Joined by tools/bundle.py: BLawA. -/
import Derived.Test.YthogheglddfniaaGreatDoorW14
import Derived.Test.YthogheglddfniaaGreatDoorW31
import Derived.Test.YthogheglddfniaaGreatDoorW0
set_option maxRecDepth 100000
set_option maxHeartbeats 16000000
namespace Go.Proofs.YthogheglddfniaaGreatDoor
open Go.ChangeShapes Go.WideShapes Go.ChangeAt Go.RowKit Mem
theorem text_wt (t : ByteArray) : (jText t).wt ≤ t.size + 10 := by
 unfold jText J.wt J.wts kwt
 omega
theorem word_wt (t : ByteArray) : (jWord t).wt ≤ t.size + 30 := by
 have := text_wt t
 unfold jWord J.wt J.wts J.wts kwt kwt
 have : kType.size = 4 := rfl
 have : Jp.nil_.size = 0 := rfl
 omega
theorem text_tree {w : World} {S : Nat → Prop} (t : ByteArray) : TreeS w S (jText t) [.int .i64 4, .int .i64 0, .string t, .slice none 0 0, .slice none 0 0] :=
 ⟨none, 0, none, 0, rfl, ⟨Nat.le_refl _, Nat.zero_le _⟩, ⟨Nat.le_refl _, Nat.zero_le _⟩, trivial, .inl rfl⟩
theorem word_tree {w : World} {S : Nat → Prop} {t : ByteArray} {I K : Nat} (hI : S I) (hK : S K) (h : B5 w I 25 (.int .i64 4) (.int .i64 0) (.string t) (.slice none 0 0) (.slice none 0 0)) (k : w.cell? ⟨K, 0, none⟩ = some (.string ⟨#[116, 121, 112, 101]⟩)) : TreeS w S (jWord t) [.int .i64 6, .int .i64 0, .string ⟨#[]⟩, .slice (some ⟨I, 0, none⟩) 1 1, .slice (some ⟨K, 0, none⟩) 1 1] := by
 obtain ⟨c0, c1, c2, c3, c4, _⟩ := B5.facts h
 refine ⟨some ⟨I, 0, none⟩, 1, some ⟨K, 0, none⟩, 1, rfl, ⟨Nat.le_refl _, by show 1 ≤ maxLen; unfold maxLen; decide⟩, ⟨Nat.le_refl _, by show 1 ≤ maxLen; unfold maxLen; decide⟩, ⟨I, 0, _, rfl, hI, fun i hi => ?_, text_tree t, trivial⟩, .inr ⟨K, 0, rfl, hK, fun i hi => ?_⟩⟩
 · obtain rfl | rfl | rfl | rfl | rfl : i = 0 ∨ i = 1 ∨ i = 2 ∨ i = 3 ∨ i = 4 := by omega
   · exact c0
   · exact c1
   · exact c2
   · exact c3
   · exact c4
 · obtain rfl : i = 0 := by simpa using hi
   exact k
theorem buildWords_walk (word : ByteArray) (w : World) (hL : LaidN w) : Calls Tryz.prog 5 #[.string word] w (fun e w' => e = .returned (.bool true) ∧ Below w.heap.size w w') := by
 have CS := cell_set
 have WK := Lib.hid (works12_any w hL)
 have HL := Lib.hid (fun W (b : Below w.heap.size w W) => LaidN.below hL b)
 clear hL
 by_cases hbig : 1000 < word.size
 · have q : (1000 : Int) < (word.size : Int) := by omega
   clear hbig HL
   go_enter Tryz.func5, Tryz.ntmps5
   go_wp2_with fail
   with_reducible refine WK.out.mono ?_
   rintro e w1 ⟨rfl, b1⟩
   go_wp2_with fail
   go_ret
   exact ⟨rfl, bqq⟩
 have q : ¬ (1000 : Int) < (word.size : Int) := by omega
 have hw1 : (jText word).wt ≤ 2500 := by have := text_wt word; omega
 have hw2 : (jWord word).wt ≤ 2500 := by have := word_wt word; omega
 have hd1 : (jText word).deep ≤ 1000000 := by rw [text_deep]; decide
 have hd2 : (jWord word).deep ≤ 1000000 := by
  rw [J.deep_in (.inr rfl)]
  show J.deeps [jText word] ≤ _
  rw [J.deeps, J.deeps, text_deep]
  decide
 have BA := Lib.hid (fun W (b : Below w.heap.size w W) => build_any (jText word) hw1 hd1 W (HL.out W b) none none 0 0 (text_tree word) _ rfl)
 have BB := Lib.hid (fun W (b : Below w.heap.size w W) I K (hI : I < W.heap.size) (hK : K < W.heap.size) h k => build_any (jWord word) hw2 hd2 W (HL.out W b) (some ⟨I, 0, none⟩) (some ⟨K, 0, none⟩) 1 1 (word_tree hI hK h k) _ rfl)
 change Hid (∀ W, Below w.heap.size w W → Calls _ _ #[.agg #[.int .i64 4, .int .i64 0, .string word, .slice none 0 0, .slice none 0 0]] W _) at BA
 change Hid (∀ W, Below w.heap.size w W → ∀ I K (hI : I < W.heap.size) (hK : K < W.heap.size) (h : B5 W I 25 (.int .i64 4) (.int .i64 0) (.string word) (.slice none 0 0) (.slice none 0 0)) (k : W.cell? ⟨K, 0, none⟩ = some (.string ⟨#[116, 121, 112, 101]⟩)), Calls _ _ #[.agg #[.int .i64 6, .int .i64 0, .string ⟨#[]⟩, .slice (some ⟨I, 0, none⟩) 1 1, .slice (some ⟨K, 0, none⟩) 1 1]] W _) at BB
 have WB := Lib.hid (words_built word)
 generalize bbuild (jText word) = R1 at *
 generalize bbuild (jWord word) = R2 at *
 clear hbig hw1 hw2 hd1 hd2
 go_enter Tryz.func5, Tryz.ntmps5
 go_wp2_with fail
 with_reducible refine WK.out.mono ?_
 rintro e w1 ⟨rfl, b1⟩
 have s1 := b1.size
 have B1 : Hid (Below w.heap.size w (w1.alloc (.cells #[.int .i64 4, .int .i64 0, .string word, .slice none 0 0, .slice none 0 0] 25))) := by show Below _ _ _; (repeat' (first | with_reducible assumption | with_reducible exact Below.refl _ _ | (with_reducible refine Below.alloc ?_ ?_ _; rotate_left; focus ((first | exact Nat.le_refl _ | (simp; done) | (simp; omega) | omega | fail))) | (with_reducible refine Below.setCell ?_ ?_ _; rotate_left; focus ((first | exact Nat.le_refl _ | (simp; done) | (simp; omega) | omega | fail))) | with_reducible refine Mem.bel_drewN ?_ _ | with_reducible refine Below.drew ?_ | (with_reducible refine Mem.bel_call (by with_reducible assumption) ?_ ?_; focus ((first | exact Nat.le_refl _ | (simp; done) | (simp; omega) | omega | fail))) | fail))
 have T1 : Hid (B5 (w1.alloc (.cells #[.int .i64 4, .int .i64 0, .string word, .slice none 0 0, .slice none 0 0] 25)) w1.heap.size 25 (.int .i64 4) (.int .i64 0) (.string word) (.slice none 0 0) (.slice none 0 0)) := B5.newat rfl
 go_wp2_with fail
 with_reducible refine (BA.out _ B1.out).mono ?_
 rintro e w2 hp
 obtain ⟨b2, h2, h2'⟩ := hp
 have bw2 : Below w.heap.size w w2 := B1.out.trans (b2.mono B1.out.size)
 have T2 := Lib.hid (B5.below T1.out b2 T1.out.lt)
 have tl2 := T2.out.lt
 have s2 := bw2.size
 have zz : w.heap.size ≤ w1.heap.size := s1
 clear WK BA T1 B1 b2
 rcases WB.out with ⟨k, k1, k8, rfl, rfl⟩ | ⟨⟨z1, rfl⟩, z2, rfl⟩
 · obtain ⟨A, c, rfl, n1⟩ := h2' _ rfl
   simp only [List.length_cons, List.length_nil, Nat.zero_add] at n1 ⊢
   have B6 : Hid (Below w.heap.size w (((w2.alloc (.cells #[.slice A 1 c, .int .i64 0] 30)).alloc (.cells #[.string ⟨#[116, 121, 112, 101]⟩] 9)).alloc (.cells #[.int .i64 4, .int .i64 0, .string word, .slice none 0 0, .slice none 0 0] 25))) := by show Below _ _ _; (repeat' (first | with_reducible assumption | with_reducible exact Below.refl _ _ | (with_reducible refine Below.alloc ?_ ?_ _; rotate_left; focus ((first | exact Nat.le_refl _ | (simp; done) | (simp; omega) | omega | fail))) | (with_reducible refine Below.setCell ?_ ?_ _; rotate_left; focus ((first | exact Nat.le_refl _ | (simp; done) | (simp; omega) | omega | fail))) | with_reducible refine Mem.bel_drewN ?_ _ | with_reducible refine Below.drew ?_ | (with_reducible refine Mem.bel_call (by with_reducible assumption) ?_ ?_; focus ((first | exact Nat.le_refl _ | (simp; done) | (simp; omega) | omega | fail))) | fail))
   have B26 : Hid (Below w2.heap.size w2 (((w2.alloc (.cells #[.slice A 1 c, .int .i64 0] 30)).alloc (.cells #[.string ⟨#[116, 121, 112, 101]⟩] 9)).alloc (.cells #[.int .i64 4, .int .i64 0, .string word, .slice none 0 0, .slice none 0 0] 25))) := by show Below _ _ _; (repeat' (first | with_reducible assumption | with_reducible exact Below.refl _ _ | (with_reducible refine Below.alloc ?_ ?_ _; rotate_left; focus ((first | exact Nat.le_refl _ | (simp; done) | (simp; omega) | omega | fail))) | (with_reducible refine Below.setCell ?_ ?_ _; rotate_left; focus ((first | exact Nat.le_refl _ | (simp; done) | (simp; omega) | omega | fail))) | with_reducible refine Mem.bel_drewN ?_ _ | with_reducible refine Below.drew ?_ | (with_reducible refine Mem.bel_call (by with_reducible assumption) ?_ ?_; focus ((first | exact Nat.le_refl _ | (simp; done) | (simp; omega) | omega | fail))) | fail))
   have T6 : Hid (B5 (((w2.alloc (.cells #[.slice A 1 c, .int .i64 0] 30)).alloc (.cells #[.string ⟨#[116, 121, 112, 101]⟩] 9)).alloc (.cells #[.int .i64 4, .int .i64 0, .string word, .slice none 0 0, .slice none 0 0] 25)) (w2.heap.size + 1 + 1) 25 (.int .i64 4) (.int .i64 0) (.string word) (.slice none 0 0) (.slice none 0 0)) := B5.newat (by simp)
   have K6 : Hid ((((w2.alloc (.cells #[.slice A 1 c, .int .i64 0] 30)).alloc (.cells #[.string ⟨#[116, 121, 112, 101]⟩] 9)).alloc (.cells #[.int .i64 4, .int .i64 0, .string word, .slice none 0 0, .slice none 0 0] 25)).cell? ⟨w2.heap.size + 1, 0, none⟩ = some (.string ⟨#[116, 121, 112, 101]⟩)) := by show _ = _; go_simp
   have S6 : Hid (B2 (((w2.alloc (.cells #[.slice A 1 c, .int .i64 0] 30)).alloc (.cells #[.string ⟨#[116, 121, 112, 101]⟩] 9)).alloc (.cells #[.int .i64 4, .int .i64 0, .string word, .slice none 0 0, .slice none 0 0] 25)) w2.heap.size 30 (.slice A 1 c) (.int .i64 0)) := ((B2.newat rfl).alloc _).alloc _
   have C6 := Lib.hid (BB.out _ B6.out (w2.heap.size + 1 + 1) (w2.heap.size + 1) (by simp) (by first | (simp; done) | (simp; omega)) T6.out K6.out)
   obtain ⟨_, _, _, _, _, _, _, _, _, _⟩ := B5.facts T2.out
   clear BB
   go_wp2_with fail
   with_reducible refine C6.out.mono ?_
   rintro e w3 ⟨b3, h3, h3'⟩
   have bw3 : Below w.heap.size w w3 := B6.out.trans (b3.mono B6.out.size)
   have S3 := Lib.hid (B2.below S6.out b3 S6.out.lt)
   have b23 : Below w2.heap.size w2 w3 := B26.out.trans (b3.mono B26.out.size)
   have sl3 := S3.out.lt
   obtain ⟨A', c', rfl, n2⟩ := h3' _ rfl
   simp only [List.length_cons, List.length_nil, Nat.zero_add] at n2 ⊢
   have n1' := n1.below b23
   have b34 : Below w3.heap.size w3 (w3.alloc (.cells #[.slice A' 1 c', .int .i64 0] 30)) := (Below.refl _ _).alloc (Nat.le_refl _) _
   have SS := (sSame_any ⟨[Nd.z k], 0⟩ (w3.alloc (.cells #[.slice A' 1 c', .int .i64 0] 30)) A A' c c' (n1'.below b34).lies (n2.below b34).lies)
   simp only [List.length_cons, List.length_nil, Nat.zero_add] at SS
   replace SS := Lib.hid SS
   obtain ⟨_, _, e, la, ra⟩ := Sc.out.1 n1'.lies
   simp only [List.cons.injEq, Value.slice.injEq, true_and, and_true] at e
   obtain ⟨rfl, rfl⟩ := e
   dsimp only at ra
   obtain ⟨g0, o0, _, _, _, _, _, _, _, _, rfl, hg0, ⟨c00, _, _, _, _, _, _, _, _, _⟩, _⟩ := nodes_at ra (i := 0) (by simp)
   have q8 : k ≤ 8 := k8
   have c00' : w3.cell? ⟨g0, o0, none⟩ = some (.int .i64 k) := by simpa [Nd.z] using c00
   have s33 := bw3.size
   obtain ⟨_, _, _, _⟩ := B2.facts S3.out
   have bk : Hid (Below w.heap.size w (w3.alloc (.cells #[.slice A' 1 c', .int .i64 0] 30))) := by show Below _ _ _; (repeat' (first | with_reducible assumption | with_reducible exact Below.refl _ _ | (with_reducible refine Below.alloc ?_ ?_ _; rotate_left; focus ((first | exact Nat.le_refl _ | (simp; done) | (simp; omega) | omega | fail))) | (with_reducible refine Below.setCell ?_ ?_ _; rotate_left; focus ((first | exact Nat.le_refl _ | (simp; done) | (simp; omega) | omega | fail))) | with_reducible refine Mem.bel_drewN ?_ _ | with_reducible refine Below.drew ?_ | (with_reducible refine Mem.bel_call (by with_reducible assumption) ?_ ?_; focus ((first | exact Nat.le_refl _ | (simp; done) | (simp; omega) | omega | fail))) | fail))
   clear h3 h3' n1 n1' n2 C6 T6 K6 S6 B6 B26 b3 T2 h2 h2' WB c00 la ra
   go_wp2_with fail
   with_reducible refine SS.out.mono ?_
   rintro e w4 ⟨rfl, b4⟩
   have b4' : Below w3.heap.size w3 w4 := b34.trans (b4.mono b34.size)
   have bw4 : Below w.heap.size w w4 := bk.out.trans (b4.mono bk.out.size)
   have S5 := Lib.hid (B2.below S3.out b4' S3.out.lt)
   obtain ⟨_, _, _, _⟩ := B2.facts S5.out
   have c01 := (b4'.cell (p := ⟨g0, o0, none⟩) hg0).trans c00'
   clear b4 b4' SS S3
   go_wp2_with fail
   go_ret
   exact ⟨rfl, bqq⟩
 · obtain ⟨hz1, rfl⟩ := h2 z1 rfl
   have B6 : Hid (Below w.heap.size w (((w2.alloc (.cells #[.slice none 0 0, .int .i64 0] 30)).alloc (.cells #[.string ⟨#[116, 121, 112, 101]⟩] 9)).alloc (.cells #[.int .i64 4, .int .i64 0, .string word, .slice none 0 0, .slice none 0 0] 25))) := by show Below _ _ _; (repeat' (first | with_reducible assumption | with_reducible exact Below.refl _ _ | (with_reducible refine Below.alloc ?_ ?_ _; rotate_left; focus ((first | exact Nat.le_refl _ | (simp; done) | (simp; omega) | omega | fail))) | (with_reducible refine Below.setCell ?_ ?_ _; rotate_left; focus ((first | exact Nat.le_refl _ | (simp; done) | (simp; omega) | omega | fail))) | with_reducible refine Mem.bel_drewN ?_ _ | with_reducible refine Below.drew ?_ | (with_reducible refine Mem.bel_call (by with_reducible assumption) ?_ ?_; focus ((first | exact Nat.le_refl _ | (simp; done) | (simp; omega) | omega | fail))) | fail))
   have B26 : Hid (Below w2.heap.size w2 (((w2.alloc (.cells #[.slice none 0 0, .int .i64 0] 30)).alloc (.cells #[.string ⟨#[116, 121, 112, 101]⟩] 9)).alloc (.cells #[.int .i64 4, .int .i64 0, .string word, .slice none 0 0, .slice none 0 0] 25))) := by show Below _ _ _; (repeat' (first | with_reducible assumption | with_reducible exact Below.refl _ _ | (with_reducible refine Below.alloc ?_ ?_ _; rotate_left; focus ((first | exact Nat.le_refl _ | (simp; done) | (simp; omega) | omega | fail))) | (with_reducible refine Below.setCell ?_ ?_ _; rotate_left; focus ((first | exact Nat.le_refl _ | (simp; done) | (simp; omega) | omega | fail))) | with_reducible refine Mem.bel_drewN ?_ _ | with_reducible refine Below.drew ?_ | (with_reducible refine Mem.bel_call (by with_reducible assumption) ?_ ?_; focus ((first | exact Nat.le_refl _ | (simp; done) | (simp; omega) | omega | fail))) | fail))
   have T6 : Hid (B5 (((w2.alloc (.cells #[.slice none 0 0, .int .i64 0] 30)).alloc (.cells #[.string ⟨#[116, 121, 112, 101]⟩] 9)).alloc (.cells #[.int .i64 4, .int .i64 0, .string word, .slice none 0 0, .slice none 0 0] 25)) (w2.heap.size + 1 + 1) 25 (.int .i64 4) (.int .i64 0) (.string word) (.slice none 0 0) (.slice none 0 0)) := B5.newat (by simp)
   have K6 : Hid ((((w2.alloc (.cells #[.slice none 0 0, .int .i64 0] 30)).alloc (.cells #[.string ⟨#[116, 121, 112, 101]⟩] 9)).alloc (.cells #[.int .i64 4, .int .i64 0, .string word, .slice none 0 0, .slice none 0 0] 25)).cell? ⟨w2.heap.size + 1, 0, none⟩ = some (.string ⟨#[116, 121, 112, 101]⟩)) := by show _ = _; go_simp
   have S6 : Hid (B2 (((w2.alloc (.cells #[.slice none 0 0, .int .i64 0] 30)).alloc (.cells #[.string ⟨#[116, 121, 112, 101]⟩] 9)).alloc (.cells #[.int .i64 4, .int .i64 0, .string word, .slice none 0 0, .slice none 0 0] 25)) w2.heap.size 30 (.slice none 0 0) (.int .i64 0)) := ((B2.newat rfl).alloc _).alloc _
   have C6 := Lib.hid (BB.out _ B6.out (w2.heap.size + 1 + 1) (w2.heap.size + 1) (by simp) (by first | (simp; done) | (simp; omega)) T6.out K6.out)
   obtain ⟨_, _, _, _, _, _, _, _, _, _⟩ := B5.facts T2.out
   clear BB
   go_wp2_with fail
   with_reducible refine C6.out.mono ?_
   rintro e w3 ⟨b3, h3, h3'⟩
   have bw3 : Below w.heap.size w w3 := B6.out.trans (b3.mono B6.out.size)
   have S3 := Lib.hid (B2.below S6.out b3 S6.out.lt)
   have b23 : Below w2.heap.size w2 w3 := B26.out.trans (b3.mono B26.out.size)
   have sl3 := S3.out.lt
   obtain ⟨hz2, rfl⟩ := h3 z2 rfl
   have q1 : (z1 != 0) = true := by rw [bne_iff_ne]; exact hz1
   have q2 : (z2 != 0) = true := by rw [bne_iff_ne]; exact hz2
   clear h3 h3' C6 T6 K6 S6 B6 B26 b3 T2 h2 h2' WB hz1 hz2
   go_wp2_with fail
   go_ret
   exact ⟨rfl, bqq⟩
end Go.Proofs.YthogheglddfniaaGreatDoor
