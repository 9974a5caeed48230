/- Joined by tools/bundle.py: R10D R10Da. -/
import Derived.Test.YtpmgjpchpmkklaaGreatDoorT7
import Derived.Test.YtpmgjpchpmkklaaGreatDoorT0
set_option maxRecDepth 100000
set_option maxHeartbeats 16000000
namespace Go.Proofs.YtpmgjpchpmkklaaGreatDoor
open Go.ChangeShapes Go.WideShapes Go.ChangeAt Go.RowKit Mem
theorem rOne_no_k (k1 k2 : Int) (n1 n2 : ByteArray) (al1 al2 : List ByteArray) (sy1 sy2 : List ByteArray) (h1 h2 : Bool) (df1 df2 : ByteArray) (z1 z2 : Int) (i1 i2 : Int) (b1 b2 : Nat) (f1 f2 : Nat) (A2 A3 A4 A9 B2 B3 B4 B9 : Option Addr) (c2 c3 c4 c9 d2 d3 d4 d9 : Nat) (w : World) (hne : k1 ≠ k2) :
 Calls Tryz.prog 81 #[.agg #[.int .i64 k1, .string n1, .slice A2 al1.length c2, .slice A3 f1 c3, .slice A4 sy1.length c4, .bool h1, .string df1, .int .i64 z1, .int .i64 i1, .slice A9 b1 c9], .agg #[.int .i64 k2, .string n2, .slice B2 al2.length d2, .slice B3 f2 d3, .slice B4 sy2.length d4, .bool h2, .string df2, .int .i64 z2, .int .i64 i2, .slice B9 b2 d9]] w (Told false w) := by
 have CS := cell_set
 have nn : ∀ X : ByteArray, (X.toList != X.toList) = false := by simp
 have q : (k1 != k2) = true := by rw [bne_iff_ne]; exact hne
 clear hne
 go_enter Tryz.func81, Tryz.ntmps81
 go_wp2_with fail
 go_ret
 exact told_ret (by first | rfl | simp) bqq
theorem rOne_no_n (k : Int) (n1 n2 : ByteArray) (al1 al2 : List ByteArray) (sy1 sy2 : List ByteArray) (h1 h2 : Bool) (df1 df2 : ByteArray) (z1 z2 : Int) (i1 i2 : Int) (b1 b2 : Nat) (f1 f2 : Nat) (A2 A3 A4 A9 B2 B3 B4 B9 : Option Addr) (c2 c3 c4 c9 d2 d3 d4 d9 : Nat) (w : World) (hne : n1 ≠ n2) :
 Calls Tryz.prog 81 #[.agg #[.int .i64 k, .string n1, .slice A2 al1.length c2, .slice A3 f1 c3, .slice A4 sy1.length c4, .bool h1, .string df1, .int .i64 z1, .int .i64 i1, .slice A9 b1 c9], .agg #[.int .i64 k, .string n2, .slice B2 al2.length d2, .slice B3 f2 d3, .slice B4 sy2.length d4, .bool h2, .string df2, .int .i64 z2, .int .i64 i2, .slice B9 b2 d9]] w (Told false w) := by
 have CS := cell_set
 have nn : ∀ X : ByteArray, (X.toList != X.toList) = false := by simp
 have q : (n1.toList != n2.toList) = true := by rw [str_bne]; simpa using hne
 have q2 : (n1.toList == n2.toList) = false := by rw [str_beq]; simpa using hne
 clear hne
 go_enter Tryz.func81, Tryz.ntmps81
 go_wp2_with fail
 go_ret
 exact told_ret (by first | rfl | simp) bqq
theorem rOne_no_al (k : Int) (n : ByteArray) (al1 al2 : List ByteArray) (sy1 sy2 : List ByteArray) (h1 h2 : Bool) (df1 df2 : ByteArray) (z1 z2 : Int) (i1 i2 : Int) (b1 b2 : Nat) (f1 f2 : Nat) (A2 A3 A4 A9 B2 B3 B4 B9 : Option Addr) (c2 c3 c4 c9 d2 d3 d4 d9 : Nat) (w : World) (hne : al1 ≠ al2) (fa2 : FlS w (· < w.heap.size) A2 (al1.map Value.string)) (fb2 : FlS w (· < w.heap.size) B2 (al2.map Value.string)) (la2 : al1.length ≤ maxLen) (lb2 : al2.length ≤ maxLen) :
 Calls Tryz.prog 81 #[.agg #[.int .i64 k, .string n, .slice A2 al1.length c2, .slice A3 f1 c3, .slice A4 sy1.length c4, .bool h1, .string df1, .int .i64 z1, .int .i64 i1, .slice A9 b1 c9], .agg #[.int .i64 k, .string n, .slice B2 al2.length d2, .slice B3 f2 d3, .slice B4 sy2.length d4, .bool h2, .string df2, .int .i64 z2, .int .i64 i2, .slice B9 b2 d9]] w (Told false w) := by
 have CS := cell_set
 have nn : ∀ X : ByteArray, (X.toList != X.toList) = false := by simp
 have kp : ∀ {A : Option Addr} {l : List ByteArray} {W : World}, FlS w (· < w.heap.size) A (l.map Value.string) → Below w.heap.size w W → FlS W (· < W.heap.size) A (l.map Value.string) := fun h b => (h.keep (Below.keeps b) (fun _ h => h)).keep (fun _ _ => rfl) fun _ h => Nat.lt_of_lt_of_le h b.size
 have T2 := Lib.hid (fun W (b : Below w.heap.size w W) => rTexts_any A2 B2 c2 d2 al1 al2 W (kp fa2 b) (kp fb2 b) la2 lb2)
 rw [decide_eq_false hne] at T2
 have W2 : Below w.heap.size w ((w.alloc (.cells #[.int .i64 k, .string n, .slice A2 al1.length c2, .slice A3 f1 c3, .slice A4 sy1.length c4, .bool h1, .string df1, .int .i64 z1, .int .i64 i1, .slice A9 b1 c9] 42)).alloc (.cells #[.int .i64 k, .string n, .slice B2 al2.length d2, .slice B3 f2 d3, .slice B4 sy2.length d4, .bool h2, .string df2, .int .i64 z2, .int .i64 i2, .slice B9 b2 d9] 42)) := ((Below.refl _ _).alloc (Nat.le_refl _) _).alloc (by simp) _
 have gz2 : ((w.alloc (.cells #[.int .i64 k, .string n, .slice A2 al1.length c2, .slice A3 f1 c3, .slice A4 sy1.length c4, .bool h1, .string df1, .int .i64 z1, .int .i64 i1, .slice A9 b1 c9] 42)).alloc (.cells #[.int .i64 k, .string n, .slice B2 al2.length d2, .slice B3 f2 d3, .slice B4 sy2.length d4, .bool h2, .string df2, .int .i64 z2, .int .i64 i2, .slice B9 b2 d9] 42)).heap.size = w.heap.size + 2 := by simp
 have GZ2 := Lib.hid gz2
 clear gz2 kp fa2 fb2 la2 lb2 hne
 go_enter Tryz.func81, Tryz.ntmps81
 go_wp2_with fail
 with_reducible refine (T2.out _ W2).mono ?_
 rintro e w1 ⟨rfl, b1⟩
 rw [GZ2.out] at b1
 have z1 := b1.size
 rw [GZ2.out] at z1
 have bw1 : Below w.heap.size w w1 := W2.trans (b1.mono (by omega))
 go_wp2_with fail
 go_ret
 exact told_ret (by first | rfl | simp) bw1
theorem rOne_no_sy (k : Int) (n : ByteArray) (al : List ByteArray) (sy1 sy2 : List ByteArray) (h1 h2 : Bool) (df1 df2 : ByteArray) (z1 z2 : Int) (i1 i2 : Int) (b1 b2 : Nat) (f1 f2 : Nat) (A2 A3 A4 A9 B2 B3 B4 B9 : Option Addr) (c2 c3 c4 c9 d2 d3 d4 d9 : Nat) (w : World) (hne : sy1 ≠ sy2) (fa2 : FlS w (· < w.heap.size) A2 (al.map Value.string)) (fb2 : FlS w (· < w.heap.size) B2 (al.map Value.string)) (la2 : al.length ≤ maxLen) (lb2 : al.length ≤ maxLen) (fa4 : FlS w (· < w.heap.size) A4 (sy1.map Value.string)) (fb4 : FlS w (· < w.heap.size) B4 (sy2.map Value.string)) (la4 : sy1.length ≤ maxLen) (lb4 : sy2.length ≤ maxLen) :
 Calls Tryz.prog 81 #[.agg #[.int .i64 k, .string n, .slice A2 al.length c2, .slice A3 f1 c3, .slice A4 sy1.length c4, .bool h1, .string df1, .int .i64 z1, .int .i64 i1, .slice A9 b1 c9], .agg #[.int .i64 k, .string n, .slice B2 al.length d2, .slice B3 f2 d3, .slice B4 sy2.length d4, .bool h2, .string df2, .int .i64 z2, .int .i64 i2, .slice B9 b2 d9]] w (Told false w) := by
 have CS := cell_set
 have nn : ∀ X : ByteArray, (X.toList != X.toList) = false := by simp
 have kp : ∀ {A : Option Addr} {l : List ByteArray} {W : World}, FlS w (· < w.heap.size) A (l.map Value.string) → Below w.heap.size w W → FlS W (· < W.heap.size) A (l.map Value.string) := fun h b => (h.keep (Below.keeps b) (fun _ h => h)).keep (fun _ _ => rfl) fun _ h => Nat.lt_of_lt_of_le h b.size
 have T2 := Lib.hid (fun W (b : Below w.heap.size w W) => rTexts_any A2 B2 c2 d2 al al W (kp fa2 b) (kp fb2 b) la2 lb2)
 rw [decide_eq_true rfl] at T2
 have T4 := Lib.hid (fun W (b : Below w.heap.size w W) => rTexts_any A4 B4 c4 d4 sy1 sy2 W (kp fa4 b) (kp fb4 b) la4 lb4)
 rw [decide_eq_false hne] at T4
 have W2 : Below w.heap.size w ((w.alloc (.cells #[.int .i64 k, .string n, .slice A2 al.length c2, .slice A3 f1 c3, .slice A4 sy1.length c4, .bool h1, .string df1, .int .i64 z1, .int .i64 i1, .slice A9 b1 c9] 42)).alloc (.cells #[.int .i64 k, .string n, .slice B2 al.length d2, .slice B3 f2 d3, .slice B4 sy2.length d4, .bool h2, .string df2, .int .i64 z2, .int .i64 i2, .slice B9 b2 d9] 42)) := ((Below.refl _ _).alloc (Nat.le_refl _) _).alloc (by simp) _
 have gz2 : ((w.alloc (.cells #[.int .i64 k, .string n, .slice A2 al.length c2, .slice A3 f1 c3, .slice A4 sy1.length c4, .bool h1, .string df1, .int .i64 z1, .int .i64 i1, .slice A9 b1 c9] 42)).alloc (.cells #[.int .i64 k, .string n, .slice B2 al.length d2, .slice B3 f2 d3, .slice B4 sy2.length d4, .bool h2, .string df2, .int .i64 z2, .int .i64 i2, .slice B9 b2 d9] 42)).heap.size = w.heap.size + 2 := by simp
 have GZ2 := Lib.hid gz2
 clear gz2 kp fa2 fb2 la2 lb2 fa4 fb4 la4 lb4 hne
 go_enter Tryz.func81, Tryz.ntmps81
 go_wp2_with fail
 with_reducible refine (T2.out _ W2).mono ?_
 rintro e w1 ⟨rfl, b1⟩
 rw [GZ2.out] at b1
 have z1 := b1.size
 rw [GZ2.out] at z1
 have bw1 : Below w.heap.size w w1 := W2.trans (b1.mono (by omega))
 have hOwn := Nat.lt_of_lt_of_le (n := w.heap.size) sdd (Below.size b1)
 have hOwn1 := Nat.ne_of_gt hOwn
 have hOwn2 := Nat.ne_of_lt hOwn
 have hOwn := ocl b1 w.heap.size 0
 have hOwn := ocl b1 w.heap.size 1
 have hOwn := ocl b1 w.heap.size 2
 have hOwn := ocl b1 w.heap.size 3
 have hOwn := ocl b1 w.heap.size 4
 have hOwn := ocl b1 w.heap.size 5
 have hOwn := ocl b1 w.heap.size 6
 have hOwn := ocl b1 w.heap.size 7
 have hOwn := ocl b1 w.heap.size 8
 have hOwn := ocl b1 w.heap.size 9
 have hOwn := ofr b1 w.heap.size 0
 have hOwn := ofr b1 w.heap.size 1
 have hOwn := ofr b1 w.heap.size 2
 have hOwn := ofr b1 w.heap.size 3
 have hOwn := ofr b1 w.heap.size 4
 have hOwn := ofr b1 w.heap.size 5
 have hOwn := ofr b1 w.heap.size 6
 have hOwn := ofr b1 w.heap.size 7
 have hOwn := ofr b1 w.heap.size 8
 have hOwn := ofr b1 w.heap.size 9
 have hOwn := Nat.lt_of_lt_of_le (n := (w.heap.size + 1)) sdd (Below.size b1)
 have hOwn1 := Nat.ne_of_gt hOwn
 have hOwn2 := Nat.ne_of_lt hOwn
 have hOwn := ocl b1 ((w.heap.size + 1)) 0
 have hOwn := ocl b1 ((w.heap.size + 1)) 1
 have hOwn := ocl b1 ((w.heap.size + 1)) 2
 have hOwn := ocl b1 ((w.heap.size + 1)) 3
 have hOwn := ocl b1 ((w.heap.size + 1)) 4
 have hOwn := ocl b1 ((w.heap.size + 1)) 5
 have hOwn := ocl b1 ((w.heap.size + 1)) 6
 have hOwn := ocl b1 ((w.heap.size + 1)) 7
 have hOwn := ocl b1 ((w.heap.size + 1)) 8
 have hOwn := ocl b1 ((w.heap.size + 1)) 9
 have hOwn := ofr b1 ((w.heap.size + 1)) 0
 have hOwn := ofr b1 ((w.heap.size + 1)) 1
 have hOwn := ofr b1 ((w.heap.size + 1)) 2
 have hOwn := ofr b1 ((w.heap.size + 1)) 3
 have hOwn := ofr b1 ((w.heap.size + 1)) 4
 have hOwn := ofr b1 ((w.heap.size + 1)) 5
 have hOwn := ofr b1 ((w.heap.size + 1)) 6
 have hOwn := ofr b1 ((w.heap.size + 1)) 7
 have hOwn := ofr b1 ((w.heap.size + 1)) 8
 have hOwn := ofr b1 ((w.heap.size + 1)) 9
 go_wp2_with fail
 with_reducible refine (T4.out w1 bw1).mono ?_
 rintro e w3 ⟨rfl, b3⟩
 have z3 := b3.size
 have bw3 : Below w.heap.size w w3 := bw1.trans (b3.mono (by omega))
 go_wp2_with fail
 go_ret
 exact told_ret (by first | rfl | simp) bw3
theorem rOne_no_h (k : Int) (n : ByteArray) (al : List ByteArray) (sy : List ByteArray) (h1 h2 : Bool) (df1 df2 : ByteArray) (z1 z2 : Int) (i1 i2 : Int) (b1 b2 : Nat) (f1 f2 : Nat) (A2 A3 A4 A9 B2 B3 B4 B9 : Option Addr) (c2 c3 c4 c9 d2 d3 d4 d9 : Nat) (w : World) (hne : h1 ≠ h2) (fa2 : FlS w (· < w.heap.size) A2 (al.map Value.string)) (fb2 : FlS w (· < w.heap.size) B2 (al.map Value.string)) (la2 : al.length ≤ maxLen) (lb2 : al.length ≤ maxLen) (fa4 : FlS w (· < w.heap.size) A4 (sy.map Value.string)) (fb4 : FlS w (· < w.heap.size) B4 (sy.map Value.string)) (la4 : sy.length ≤ maxLen) (lb4 : sy.length ≤ maxLen) :
 Calls Tryz.prog 81 #[.agg #[.int .i64 k, .string n, .slice A2 al.length c2, .slice A3 f1 c3, .slice A4 sy.length c4, .bool h1, .string df1, .int .i64 z1, .int .i64 i1, .slice A9 b1 c9], .agg #[.int .i64 k, .string n, .slice B2 al.length d2, .slice B3 f2 d3, .slice B4 sy.length d4, .bool h2, .string df2, .int .i64 z2, .int .i64 i2, .slice B9 b2 d9]] w (Told false w) := by
 obtain ⟨rfl, rfl⟩ | ⟨rfl, rfl⟩ : (h1 = true ∧ h2 = false) ∨ (h1 = false ∧ h2 = true) := by cases h1 <;> cases h2 <;> simp at hne ⊢
 · have CS := cell_set
   have nn : ∀ X : ByteArray, (X.toList != X.toList) = false := by simp
   have kp : ∀ {A : Option Addr} {l : List ByteArray} {W : World}, FlS w (· < w.heap.size) A (l.map Value.string) → Below w.heap.size w W → FlS W (· < W.heap.size) A (l.map Value.string) := fun h b => (h.keep (Below.keeps b) (fun _ h => h)).keep (fun _ _ => rfl) fun _ h => Nat.lt_of_lt_of_le h b.size
   have T2 := Lib.hid (fun W (b : Below w.heap.size w W) => rTexts_any A2 B2 c2 d2 al al W (kp fa2 b) (kp fb2 b) la2 lb2)
   rw [decide_eq_true rfl] at T2
   have T4 := Lib.hid (fun W (b : Below w.heap.size w W) => rTexts_any A4 B4 c4 d4 sy sy W (kp fa4 b) (kp fb4 b) la4 lb4)
   rw [decide_eq_true rfl] at T4
   have W2 : Below w.heap.size w ((w.alloc (.cells #[.int .i64 k, .string n, .slice A2 al.length c2, .slice A3 f1 c3, .slice A4 sy.length c4, .bool true, .string df1, .int .i64 z1, .int .i64 i1, .slice A9 b1 c9] 42)).alloc (.cells #[.int .i64 k, .string n, .slice B2 al.length d2, .slice B3 f2 d3, .slice B4 sy.length d4, .bool false, .string df2, .int .i64 z2, .int .i64 i2, .slice B9 b2 d9] 42)) := ((Below.refl _ _).alloc (Nat.le_refl _) _).alloc (by simp) _
   have gz2 : ((w.alloc (.cells #[.int .i64 k, .string n, .slice A2 al.length c2, .slice A3 f1 c3, .slice A4 sy.length c4, .bool true, .string df1, .int .i64 z1, .int .i64 i1, .slice A9 b1 c9] 42)).alloc (.cells #[.int .i64 k, .string n, .slice B2 al.length d2, .slice B3 f2 d3, .slice B4 sy.length d4, .bool false, .string df2, .int .i64 z2, .int .i64 i2, .slice B9 b2 d9] 42)).heap.size = w.heap.size + 2 := by simp
   have GZ2 := Lib.hid gz2
   clear gz2 kp fa2 fb2 la2 lb2 fa4 fb4 la4 lb4 hne
   go_enter Tryz.func81, Tryz.ntmps81
   go_wp2_with fail
   with_reducible refine (T2.out _ W2).mono ?_
   rintro e w1 ⟨rfl, b1⟩
   rw [GZ2.out] at b1
   have z1 := b1.size
   rw [GZ2.out] at z1
   have bw1 : Below w.heap.size w w1 := W2.trans (b1.mono (by omega))
   have hOwn := Nat.lt_of_lt_of_le (n := w.heap.size) sdd (Below.size b1)
   have hOwn1 := Nat.ne_of_gt hOwn
   have hOwn2 := Nat.ne_of_lt hOwn
   have hOwn := ocl b1 w.heap.size 0
   have hOwn := ocl b1 w.heap.size 1
   have hOwn := ocl b1 w.heap.size 2
   have hOwn := ocl b1 w.heap.size 3
   have hOwn := ocl b1 w.heap.size 4
   have hOwn := ocl b1 w.heap.size 5
   have hOwn := ocl b1 w.heap.size 6
   have hOwn := ocl b1 w.heap.size 7
   have hOwn := ocl b1 w.heap.size 8
   have hOwn := ocl b1 w.heap.size 9
   have hOwn := ofr b1 w.heap.size 0
   have hOwn := ofr b1 w.heap.size 1
   have hOwn := ofr b1 w.heap.size 2
   have hOwn := ofr b1 w.heap.size 3
   have hOwn := ofr b1 w.heap.size 4
   have hOwn := ofr b1 w.heap.size 5
   have hOwn := ofr b1 w.heap.size 6
   have hOwn := ofr b1 w.heap.size 7
   have hOwn := ofr b1 w.heap.size 8
   have hOwn := ofr b1 w.heap.size 9
   have hOwn := Nat.lt_of_lt_of_le (n := (w.heap.size + 1)) sdd (Below.size b1)
   have hOwn1 := Nat.ne_of_gt hOwn
   have hOwn2 := Nat.ne_of_lt hOwn
   have hOwn := ocl b1 ((w.heap.size + 1)) 0
   have hOwn := ocl b1 ((w.heap.size + 1)) 1
   have hOwn := ocl b1 ((w.heap.size + 1)) 2
   have hOwn := ocl b1 ((w.heap.size + 1)) 3
   have hOwn := ocl b1 ((w.heap.size + 1)) 4
   have hOwn := ocl b1 ((w.heap.size + 1)) 5
   have hOwn := ocl b1 ((w.heap.size + 1)) 6
   have hOwn := ocl b1 ((w.heap.size + 1)) 7
   have hOwn := ocl b1 ((w.heap.size + 1)) 8
   have hOwn := ocl b1 ((w.heap.size + 1)) 9
   have hOwn := ofr b1 ((w.heap.size + 1)) 0
   have hOwn := ofr b1 ((w.heap.size + 1)) 1
   have hOwn := ofr b1 ((w.heap.size + 1)) 2
   have hOwn := ofr b1 ((w.heap.size + 1)) 3
   have hOwn := ofr b1 ((w.heap.size + 1)) 4
   have hOwn := ofr b1 ((w.heap.size + 1)) 5
   have hOwn := ofr b1 ((w.heap.size + 1)) 6
   have hOwn := ofr b1 ((w.heap.size + 1)) 7
   have hOwn := ofr b1 ((w.heap.size + 1)) 8
   have hOwn := ofr b1 ((w.heap.size + 1)) 9
   go_wp2_with fail
   with_reducible refine (T4.out w1 bw1).mono ?_
   rintro e w3 ⟨rfl, b3⟩
   have z3 := b3.size
   have bw3 : Below w.heap.size w w3 := bw1.trans (b3.mono (by omega))
   have hOwn := Nat.lt_of_lt_of_le (n := w.heap.size) sdd (Below.size b3)
   have hOwn1 := Nat.ne_of_gt hOwn
   have hOwn2 := Nat.ne_of_lt hOwn
   have hOwn := ocl b3 w.heap.size 0
   have hOwn := ocl b3 w.heap.size 1
   have hOwn := ocl b3 w.heap.size 2
   have hOwn := ocl b3 w.heap.size 3
   have hOwn := ocl b3 w.heap.size 4
   have hOwn := ocl b3 w.heap.size 5
   have hOwn := ocl b3 w.heap.size 6
   have hOwn := ocl b3 w.heap.size 7
   have hOwn := ocl b3 w.heap.size 8
   have hOwn := ocl b3 w.heap.size 9
   have hOwn := ofr b3 w.heap.size 0
   have hOwn := ofr b3 w.heap.size 1
   have hOwn := ofr b3 w.heap.size 2
   have hOwn := ofr b3 w.heap.size 3
   have hOwn := ofr b3 w.heap.size 4
   have hOwn := ofr b3 w.heap.size 5
   have hOwn := ofr b3 w.heap.size 6
   have hOwn := ofr b3 w.heap.size 7
   have hOwn := ofr b3 w.heap.size 8
   have hOwn := ofr b3 w.heap.size 9
   have hOwn := Nat.lt_of_lt_of_le (n := (w.heap.size + 1)) sdd (Below.size b3)
   have hOwn1 := Nat.ne_of_gt hOwn
   have hOwn2 := Nat.ne_of_lt hOwn
   have hOwn := ocl b3 ((w.heap.size + 1)) 0
   have hOwn := ocl b3 ((w.heap.size + 1)) 1
   have hOwn := ocl b3 ((w.heap.size + 1)) 2
   have hOwn := ocl b3 ((w.heap.size + 1)) 3
   have hOwn := ocl b3 ((w.heap.size + 1)) 4
   have hOwn := ocl b3 ((w.heap.size + 1)) 5
   have hOwn := ocl b3 ((w.heap.size + 1)) 6
   have hOwn := ocl b3 ((w.heap.size + 1)) 7
   have hOwn := ocl b3 ((w.heap.size + 1)) 8
   have hOwn := ocl b3 ((w.heap.size + 1)) 9
   have hOwn := ofr b3 ((w.heap.size + 1)) 0
   have hOwn := ofr b3 ((w.heap.size + 1)) 1
   have hOwn := ofr b3 ((w.heap.size + 1)) 2
   have hOwn := ofr b3 ((w.heap.size + 1)) 3
   have hOwn := ofr b3 ((w.heap.size + 1)) 4
   have hOwn := ofr b3 ((w.heap.size + 1)) 5
   have hOwn := ofr b3 ((w.heap.size + 1)) 6
   have hOwn := ofr b3 ((w.heap.size + 1)) 7
   have hOwn := ofr b3 ((w.heap.size + 1)) 8
   have hOwn := ofr b3 ((w.heap.size + 1)) 9
   go_wp2_with fail
   go_ret
   exact told_ret (by first | rfl | simp) bw3
 · have CS := cell_set
   have nn : ∀ X : ByteArray, (X.toList != X.toList) = false := by simp
   have kp : ∀ {A : Option Addr} {l : List ByteArray} {W : World}, FlS w (· < w.heap.size) A (l.map Value.string) → Below w.heap.size w W → FlS W (· < W.heap.size) A (l.map Value.string) := fun h b => (h.keep (Below.keeps b) (fun _ h => h)).keep (fun _ _ => rfl) fun _ h => Nat.lt_of_lt_of_le h b.size
   have T2 := Lib.hid (fun W (b : Below w.heap.size w W) => rTexts_any A2 B2 c2 d2 al al W (kp fa2 b) (kp fb2 b) la2 lb2)
   rw [decide_eq_true rfl] at T2
   have T4 := Lib.hid (fun W (b : Below w.heap.size w W) => rTexts_any A4 B4 c4 d4 sy sy W (kp fa4 b) (kp fb4 b) la4 lb4)
   rw [decide_eq_true rfl] at T4
   have W2 : Below w.heap.size w ((w.alloc (.cells #[.int .i64 k, .string n, .slice A2 al.length c2, .slice A3 f1 c3, .slice A4 sy.length c4, .bool false, .string df1, .int .i64 z1, .int .i64 i1, .slice A9 b1 c9] 42)).alloc (.cells #[.int .i64 k, .string n, .slice B2 al.length d2, .slice B3 f2 d3, .slice B4 sy.length d4, .bool true, .string df2, .int .i64 z2, .int .i64 i2, .slice B9 b2 d9] 42)) := ((Below.refl _ _).alloc (Nat.le_refl _) _).alloc (by simp) _
   have gz2 : ((w.alloc (.cells #[.int .i64 k, .string n, .slice A2 al.length c2, .slice A3 f1 c3, .slice A4 sy.length c4, .bool false, .string df1, .int .i64 z1, .int .i64 i1, .slice A9 b1 c9] 42)).alloc (.cells #[.int .i64 k, .string n, .slice B2 al.length d2, .slice B3 f2 d3, .slice B4 sy.length d4, .bool true, .string df2, .int .i64 z2, .int .i64 i2, .slice B9 b2 d9] 42)).heap.size = w.heap.size + 2 := by simp
   have GZ2 := Lib.hid gz2
   clear gz2 kp fa2 fb2 la2 lb2 fa4 fb4 la4 lb4 hne
   go_enter Tryz.func81, Tryz.ntmps81
   go_wp2_with fail
   with_reducible refine (T2.out _ W2).mono ?_
   rintro e w1 ⟨rfl, b1⟩
   rw [GZ2.out] at b1
   have z1 := b1.size
   rw [GZ2.out] at z1
   have bw1 : Below w.heap.size w w1 := W2.trans (b1.mono (by omega))
   have hOwn := Nat.lt_of_lt_of_le (n := w.heap.size) sdd (Below.size b1)
   have hOwn1 := Nat.ne_of_gt hOwn
   have hOwn2 := Nat.ne_of_lt hOwn
   have hOwn := ocl b1 w.heap.size 0
   have hOwn := ocl b1 w.heap.size 1
   have hOwn := ocl b1 w.heap.size 2
   have hOwn := ocl b1 w.heap.size 3
   have hOwn := ocl b1 w.heap.size 4
   have hOwn := ocl b1 w.heap.size 5
   have hOwn := ocl b1 w.heap.size 6
   have hOwn := ocl b1 w.heap.size 7
   have hOwn := ocl b1 w.heap.size 8
   have hOwn := ocl b1 w.heap.size 9
   have hOwn := ofr b1 w.heap.size 0
   have hOwn := ofr b1 w.heap.size 1
   have hOwn := ofr b1 w.heap.size 2
   have hOwn := ofr b1 w.heap.size 3
   have hOwn := ofr b1 w.heap.size 4
   have hOwn := ofr b1 w.heap.size 5
   have hOwn := ofr b1 w.heap.size 6
   have hOwn := ofr b1 w.heap.size 7
   have hOwn := ofr b1 w.heap.size 8
   have hOwn := ofr b1 w.heap.size 9
   have hOwn := Nat.lt_of_lt_of_le (n := (w.heap.size + 1)) sdd (Below.size b1)
   have hOwn1 := Nat.ne_of_gt hOwn
   have hOwn2 := Nat.ne_of_lt hOwn
   have hOwn := ocl b1 ((w.heap.size + 1)) 0
   have hOwn := ocl b1 ((w.heap.size + 1)) 1
   have hOwn := ocl b1 ((w.heap.size + 1)) 2
   have hOwn := ocl b1 ((w.heap.size + 1)) 3
   have hOwn := ocl b1 ((w.heap.size + 1)) 4
   have hOwn := ocl b1 ((w.heap.size + 1)) 5
   have hOwn := ocl b1 ((w.heap.size + 1)) 6
   have hOwn := ocl b1 ((w.heap.size + 1)) 7
   have hOwn := ocl b1 ((w.heap.size + 1)) 8
   have hOwn := ocl b1 ((w.heap.size + 1)) 9
   have hOwn := ofr b1 ((w.heap.size + 1)) 0
   have hOwn := ofr b1 ((w.heap.size + 1)) 1
   have hOwn := ofr b1 ((w.heap.size + 1)) 2
   have hOwn := ofr b1 ((w.heap.size + 1)) 3
   have hOwn := ofr b1 ((w.heap.size + 1)) 4
   have hOwn := ofr b1 ((w.heap.size + 1)) 5
   have hOwn := ofr b1 ((w.heap.size + 1)) 6
   have hOwn := ofr b1 ((w.heap.size + 1)) 7
   have hOwn := ofr b1 ((w.heap.size + 1)) 8
   have hOwn := ofr b1 ((w.heap.size + 1)) 9
   go_wp2_with fail
   with_reducible refine (T4.out w1 bw1).mono ?_
   rintro e w3 ⟨rfl, b3⟩
   have z3 := b3.size
   have bw3 : Below w.heap.size w w3 := bw1.trans (b3.mono (by omega))
   have hOwn := Nat.lt_of_lt_of_le (n := w.heap.size) sdd (Below.size b3)
   have hOwn1 := Nat.ne_of_gt hOwn
   have hOwn2 := Nat.ne_of_lt hOwn
   have hOwn := ocl b3 w.heap.size 0
   have hOwn := ocl b3 w.heap.size 1
   have hOwn := ocl b3 w.heap.size 2
   have hOwn := ocl b3 w.heap.size 3
   have hOwn := ocl b3 w.heap.size 4
   have hOwn := ocl b3 w.heap.size 5
   have hOwn := ocl b3 w.heap.size 6
   have hOwn := ocl b3 w.heap.size 7
   have hOwn := ocl b3 w.heap.size 8
   have hOwn := ocl b3 w.heap.size 9
   have hOwn := ofr b3 w.heap.size 0
   have hOwn := ofr b3 w.heap.size 1
   have hOwn := ofr b3 w.heap.size 2
   have hOwn := ofr b3 w.heap.size 3
   have hOwn := ofr b3 w.heap.size 4
   have hOwn := ofr b3 w.heap.size 5
   have hOwn := ofr b3 w.heap.size 6
   have hOwn := ofr b3 w.heap.size 7
   have hOwn := ofr b3 w.heap.size 8
   have hOwn := ofr b3 w.heap.size 9
   have hOwn := Nat.lt_of_lt_of_le (n := (w.heap.size + 1)) sdd (Below.size b3)
   have hOwn1 := Nat.ne_of_gt hOwn
   have hOwn2 := Nat.ne_of_lt hOwn
   have hOwn := ocl b3 ((w.heap.size + 1)) 0
   have hOwn := ocl b3 ((w.heap.size + 1)) 1
   have hOwn := ocl b3 ((w.heap.size + 1)) 2
   have hOwn := ocl b3 ((w.heap.size + 1)) 3
   have hOwn := ocl b3 ((w.heap.size + 1)) 4
   have hOwn := ocl b3 ((w.heap.size + 1)) 5
   have hOwn := ocl b3 ((w.heap.size + 1)) 6
   have hOwn := ocl b3 ((w.heap.size + 1)) 7
   have hOwn := ocl b3 ((w.heap.size + 1)) 8
   have hOwn := ocl b3 ((w.heap.size + 1)) 9
   have hOwn := ofr b3 ((w.heap.size + 1)) 0
   have hOwn := ofr b3 ((w.heap.size + 1)) 1
   have hOwn := ofr b3 ((w.heap.size + 1)) 2
   have hOwn := ofr b3 ((w.heap.size + 1)) 3
   have hOwn := ofr b3 ((w.heap.size + 1)) 4
   have hOwn := ofr b3 ((w.heap.size + 1)) 5
   have hOwn := ofr b3 ((w.heap.size + 1)) 6
   have hOwn := ofr b3 ((w.heap.size + 1)) 7
   have hOwn := ofr b3 ((w.heap.size + 1)) 8
   have hOwn := ofr b3 ((w.heap.size + 1)) 9
   go_wp2_with fail
   go_ret
   exact told_ret (by first | rfl | simp) bw3
theorem rOne_no_df (k : Int) (n : ByteArray) (al : List ByteArray) (sy : List ByteArray) (h : Bool) (df1 df2 : ByteArray) (z1 z2 : Int) (i1 i2 : Int) (b1 b2 : Nat) (f1 f2 : Nat) (A2 A3 A4 A9 B2 B3 B4 B9 : Option Addr) (c2 c3 c4 c9 d2 d3 d4 d9 : Nat) (w : World) (hne : df1 ≠ df2) (fa2 : FlS w (· < w.heap.size) A2 (al.map Value.string)) (fb2 : FlS w (· < w.heap.size) B2 (al.map Value.string)) (la2 : al.length ≤ maxLen) (lb2 : al.length ≤ maxLen) (fa4 : FlS w (· < w.heap.size) A4 (sy.map Value.string)) (fb4 : FlS w (· < w.heap.size) B4 (sy.map Value.string)) (la4 : sy.length ≤ maxLen) (lb4 : sy.length ≤ maxLen) :
 Calls Tryz.prog 81 #[.agg #[.int .i64 k, .string n, .slice A2 al.length c2, .slice A3 f1 c3, .slice A4 sy.length c4, .bool h, .string df1, .int .i64 z1, .int .i64 i1, .slice A9 b1 c9], .agg #[.int .i64 k, .string n, .slice B2 al.length d2, .slice B3 f2 d3, .slice B4 sy.length d4, .bool h, .string df2, .int .i64 z2, .int .i64 i2, .slice B9 b2 d9]] w (Told false w) := by
 have CS := cell_set
 have nn : ∀ X : ByteArray, (X.toList != X.toList) = false := by simp
 have kp : ∀ {A : Option Addr} {l : List ByteArray} {W : World}, FlS w (· < w.heap.size) A (l.map Value.string) → Below w.heap.size w W → FlS W (· < W.heap.size) A (l.map Value.string) := fun h b => (h.keep (Below.keeps b) (fun _ h => h)).keep (fun _ _ => rfl) fun _ h => Nat.lt_of_lt_of_le h b.size
 have T2 := Lib.hid (fun W (b : Below w.heap.size w W) => rTexts_any A2 B2 c2 d2 al al W (kp fa2 b) (kp fb2 b) la2 lb2)
 rw [decide_eq_true rfl] at T2
 have T4 := Lib.hid (fun W (b : Below w.heap.size w W) => rTexts_any A4 B4 c4 d4 sy sy W (kp fa4 b) (kp fb4 b) la4 lb4)
 rw [decide_eq_true rfl] at T4
 have q : (df1.toList != df2.toList) = true := by rw [str_bne]; simpa using hne
 have q2 : (df1.toList == df2.toList) = false := by rw [str_beq]; simpa using hne
 have W2 : Below w.heap.size w ((w.alloc (.cells #[.int .i64 k, .string n, .slice A2 al.length c2, .slice A3 f1 c3, .slice A4 sy.length c4, .bool h, .string df1, .int .i64 z1, .int .i64 i1, .slice A9 b1 c9] 42)).alloc (.cells #[.int .i64 k, .string n, .slice B2 al.length d2, .slice B3 f2 d3, .slice B4 sy.length d4, .bool h, .string df2, .int .i64 z2, .int .i64 i2, .slice B9 b2 d9] 42)) := ((Below.refl _ _).alloc (Nat.le_refl _) _).alloc (by simp) _
 have gz2 : ((w.alloc (.cells #[.int .i64 k, .string n, .slice A2 al.length c2, .slice A3 f1 c3, .slice A4 sy.length c4, .bool h, .string df1, .int .i64 z1, .int .i64 i1, .slice A9 b1 c9] 42)).alloc (.cells #[.int .i64 k, .string n, .slice B2 al.length d2, .slice B3 f2 d3, .slice B4 sy.length d4, .bool h, .string df2, .int .i64 z2, .int .i64 i2, .slice B9 b2 d9] 42)).heap.size = w.heap.size + 2 := by simp
 have GZ2 := Lib.hid gz2
 clear gz2 kp fa2 fb2 la2 lb2 fa4 fb4 la4 lb4 hne
 go_enter Tryz.func81, Tryz.ntmps81
 go_wp2_with fail
 with_reducible refine (T2.out _ W2).mono ?_
 rintro e w1 ⟨rfl, b1⟩
 rw [GZ2.out] at b1
 have z1 := b1.size
 rw [GZ2.out] at z1
 have bw1 : Below w.heap.size w w1 := W2.trans (b1.mono (by omega))
 have hOwn := Nat.lt_of_lt_of_le (n := w.heap.size) sdd (Below.size b1)
 have hOwn1 := Nat.ne_of_gt hOwn
 have hOwn2 := Nat.ne_of_lt hOwn
 have hOwn := ocl b1 w.heap.size 0
 have hOwn := ocl b1 w.heap.size 1
 have hOwn := ocl b1 w.heap.size 2
 have hOwn := ocl b1 w.heap.size 3
 have hOwn := ocl b1 w.heap.size 4
 have hOwn := ocl b1 w.heap.size 5
 have hOwn := ocl b1 w.heap.size 6
 have hOwn := ocl b1 w.heap.size 7
 have hOwn := ocl b1 w.heap.size 8
 have hOwn := ocl b1 w.heap.size 9
 have hOwn := ofr b1 w.heap.size 0
 have hOwn := ofr b1 w.heap.size 1
 have hOwn := ofr b1 w.heap.size 2
 have hOwn := ofr b1 w.heap.size 3
 have hOwn := ofr b1 w.heap.size 4
 have hOwn := ofr b1 w.heap.size 5
 have hOwn := ofr b1 w.heap.size 6
 have hOwn := ofr b1 w.heap.size 7
 have hOwn := ofr b1 w.heap.size 8
 have hOwn := ofr b1 w.heap.size 9
 have hOwn := Nat.lt_of_lt_of_le (n := (w.heap.size + 1)) sdd (Below.size b1)
 have hOwn1 := Nat.ne_of_gt hOwn
 have hOwn2 := Nat.ne_of_lt hOwn
 have hOwn := ocl b1 ((w.heap.size + 1)) 0
 have hOwn := ocl b1 ((w.heap.size + 1)) 1
 have hOwn := ocl b1 ((w.heap.size + 1)) 2
 have hOwn := ocl b1 ((w.heap.size + 1)) 3
 have hOwn := ocl b1 ((w.heap.size + 1)) 4
 have hOwn := ocl b1 ((w.heap.size + 1)) 5
 have hOwn := ocl b1 ((w.heap.size + 1)) 6
 have hOwn := ocl b1 ((w.heap.size + 1)) 7
 have hOwn := ocl b1 ((w.heap.size + 1)) 8
 have hOwn := ocl b1 ((w.heap.size + 1)) 9
 have hOwn := ofr b1 ((w.heap.size + 1)) 0
 have hOwn := ofr b1 ((w.heap.size + 1)) 1
 have hOwn := ofr b1 ((w.heap.size + 1)) 2
 have hOwn := ofr b1 ((w.heap.size + 1)) 3
 have hOwn := ofr b1 ((w.heap.size + 1)) 4
 have hOwn := ofr b1 ((w.heap.size + 1)) 5
 have hOwn := ofr b1 ((w.heap.size + 1)) 6
 have hOwn := ofr b1 ((w.heap.size + 1)) 7
 have hOwn := ofr b1 ((w.heap.size + 1)) 8
 have hOwn := ofr b1 ((w.heap.size + 1)) 9
 go_wp2_with fail
 with_reducible refine (T4.out w1 bw1).mono ?_
 rintro e w3 ⟨rfl, b3⟩
 have z3 := b3.size
 have bw3 : Below w.heap.size w w3 := bw1.trans (b3.mono (by omega))
 have hOwn := Nat.lt_of_lt_of_le (n := w.heap.size) sdd (Below.size b3)
 have hOwn1 := Nat.ne_of_gt hOwn
 have hOwn2 := Nat.ne_of_lt hOwn
 have hOwn := ocl b3 w.heap.size 0
 have hOwn := ocl b3 w.heap.size 1
 have hOwn := ocl b3 w.heap.size 2
 have hOwn := ocl b3 w.heap.size 3
 have hOwn := ocl b3 w.heap.size 4
 have hOwn := ocl b3 w.heap.size 5
 have hOwn := ocl b3 w.heap.size 6
 have hOwn := ocl b3 w.heap.size 7
 have hOwn := ocl b3 w.heap.size 8
 have hOwn := ocl b3 w.heap.size 9
 have hOwn := ofr b3 w.heap.size 0
 have hOwn := ofr b3 w.heap.size 1
 have hOwn := ofr b3 w.heap.size 2
 have hOwn := ofr b3 w.heap.size 3
 have hOwn := ofr b3 w.heap.size 4
 have hOwn := ofr b3 w.heap.size 5
 have hOwn := ofr b3 w.heap.size 6
 have hOwn := ofr b3 w.heap.size 7
 have hOwn := ofr b3 w.heap.size 8
 have hOwn := ofr b3 w.heap.size 9
 have hOwn := Nat.lt_of_lt_of_le (n := (w.heap.size + 1)) sdd (Below.size b3)
 have hOwn1 := Nat.ne_of_gt hOwn
 have hOwn2 := Nat.ne_of_lt hOwn
 have hOwn := ocl b3 ((w.heap.size + 1)) 0
 have hOwn := ocl b3 ((w.heap.size + 1)) 1
 have hOwn := ocl b3 ((w.heap.size + 1)) 2
 have hOwn := ocl b3 ((w.heap.size + 1)) 3
 have hOwn := ocl b3 ((w.heap.size + 1)) 4
 have hOwn := ocl b3 ((w.heap.size + 1)) 5
 have hOwn := ocl b3 ((w.heap.size + 1)) 6
 have hOwn := ocl b3 ((w.heap.size + 1)) 7
 have hOwn := ocl b3 ((w.heap.size + 1)) 8
 have hOwn := ocl b3 ((w.heap.size + 1)) 9
 have hOwn := ofr b3 ((w.heap.size + 1)) 0
 have hOwn := ofr b3 ((w.heap.size + 1)) 1
 have hOwn := ofr b3 ((w.heap.size + 1)) 2
 have hOwn := ofr b3 ((w.heap.size + 1)) 3
 have hOwn := ofr b3 ((w.heap.size + 1)) 4
 have hOwn := ofr b3 ((w.heap.size + 1)) 5
 have hOwn := ofr b3 ((w.heap.size + 1)) 6
 have hOwn := ofr b3 ((w.heap.size + 1)) 7
 have hOwn := ofr b3 ((w.heap.size + 1)) 8
 have hOwn := ofr b3 ((w.heap.size + 1)) 9
 go_wp2_with fail
 go_ret
 exact told_ret (by first | rfl | simp) bw3
theorem rOne_no_z (k : Int) (n : ByteArray) (al : List ByteArray) (sy : List ByteArray) (h : Bool) (df : ByteArray) (z1 z2 : Int) (i1 i2 : Int) (b1 b2 : Nat) (f1 f2 : Nat) (A2 A3 A4 A9 B2 B3 B4 B9 : Option Addr) (c2 c3 c4 c9 d2 d3 d4 d9 : Nat) (w : World) (hne : z1 ≠ z2) (fa2 : FlS w (· < w.heap.size) A2 (al.map Value.string)) (fb2 : FlS w (· < w.heap.size) B2 (al.map Value.string)) (la2 : al.length ≤ maxLen) (lb2 : al.length ≤ maxLen) (fa4 : FlS w (· < w.heap.size) A4 (sy.map Value.string)) (fb4 : FlS w (· < w.heap.size) B4 (sy.map Value.string)) (la4 : sy.length ≤ maxLen) (lb4 : sy.length ≤ maxLen) :
 Calls Tryz.prog 81 #[.agg #[.int .i64 k, .string n, .slice A2 al.length c2, .slice A3 f1 c3, .slice A4 sy.length c4, .bool h, .string df, .int .i64 z1, .int .i64 i1, .slice A9 b1 c9], .agg #[.int .i64 k, .string n, .slice B2 al.length d2, .slice B3 f2 d3, .slice B4 sy.length d4, .bool h, .string df, .int .i64 z2, .int .i64 i2, .slice B9 b2 d9]] w (Told false w) := by
 have CS := cell_set
 have nn : ∀ X : ByteArray, (X.toList != X.toList) = false := by simp
 have kp : ∀ {A : Option Addr} {l : List ByteArray} {W : World}, FlS w (· < w.heap.size) A (l.map Value.string) → Below w.heap.size w W → FlS W (· < W.heap.size) A (l.map Value.string) := fun h b => (h.keep (Below.keeps b) (fun _ h => h)).keep (fun _ _ => rfl) fun _ h => Nat.lt_of_lt_of_le h b.size
 have T2 := Lib.hid (fun W (b : Below w.heap.size w W) => rTexts_any A2 B2 c2 d2 al al W (kp fa2 b) (kp fb2 b) la2 lb2)
 rw [decide_eq_true rfl] at T2
 have T4 := Lib.hid (fun W (b : Below w.heap.size w W) => rTexts_any A4 B4 c4 d4 sy sy W (kp fa4 b) (kp fb4 b) la4 lb4)
 rw [decide_eq_true rfl] at T4
 have q : (z1 != z2) = true := by rw [bne_iff_ne]; exact hne
 have W2 : Below w.heap.size w ((w.alloc (.cells #[.int .i64 k, .string n, .slice A2 al.length c2, .slice A3 f1 c3, .slice A4 sy.length c4, .bool h, .string df, .int .i64 z1, .int .i64 i1, .slice A9 b1 c9] 42)).alloc (.cells #[.int .i64 k, .string n, .slice B2 al.length d2, .slice B3 f2 d3, .slice B4 sy.length d4, .bool h, .string df, .int .i64 z2, .int .i64 i2, .slice B9 b2 d9] 42)) := ((Below.refl _ _).alloc (Nat.le_refl _) _).alloc (by simp) _
 have gz2 : ((w.alloc (.cells #[.int .i64 k, .string n, .slice A2 al.length c2, .slice A3 f1 c3, .slice A4 sy.length c4, .bool h, .string df, .int .i64 z1, .int .i64 i1, .slice A9 b1 c9] 42)).alloc (.cells #[.int .i64 k, .string n, .slice B2 al.length d2, .slice B3 f2 d3, .slice B4 sy.length d4, .bool h, .string df, .int .i64 z2, .int .i64 i2, .slice B9 b2 d9] 42)).heap.size = w.heap.size + 2 := by simp
 have GZ2 := Lib.hid gz2
 clear gz2 kp fa2 fb2 la2 lb2 fa4 fb4 la4 lb4 hne
 go_enter Tryz.func81, Tryz.ntmps81
 go_wp2_with fail
 with_reducible refine (T2.out _ W2).mono ?_
 rintro e w1 ⟨rfl, b1⟩
 rw [GZ2.out] at b1
 have z1 := b1.size
 rw [GZ2.out] at z1
 have bw1 : Below w.heap.size w w1 := W2.trans (b1.mono (by omega))
 have hOwn := Nat.lt_of_lt_of_le (n := w.heap.size) sdd (Below.size b1)
 have hOwn1 := Nat.ne_of_gt hOwn
 have hOwn2 := Nat.ne_of_lt hOwn
 have hOwn := ocl b1 w.heap.size 0
 have hOwn := ocl b1 w.heap.size 1
 have hOwn := ocl b1 w.heap.size 2
 have hOwn := ocl b1 w.heap.size 3
 have hOwn := ocl b1 w.heap.size 4
 have hOwn := ocl b1 w.heap.size 5
 have hOwn := ocl b1 w.heap.size 6
 have hOwn := ocl b1 w.heap.size 7
 have hOwn := ocl b1 w.heap.size 8
 have hOwn := ocl b1 w.heap.size 9
 have hOwn := ofr b1 w.heap.size 0
 have hOwn := ofr b1 w.heap.size 1
 have hOwn := ofr b1 w.heap.size 2
 have hOwn := ofr b1 w.heap.size 3
 have hOwn := ofr b1 w.heap.size 4
 have hOwn := ofr b1 w.heap.size 5
 have hOwn := ofr b1 w.heap.size 6
 have hOwn := ofr b1 w.heap.size 7
 have hOwn := ofr b1 w.heap.size 8
 have hOwn := ofr b1 w.heap.size 9
 have hOwn := Nat.lt_of_lt_of_le (n := (w.heap.size + 1)) sdd (Below.size b1)
 have hOwn1 := Nat.ne_of_gt hOwn
 have hOwn2 := Nat.ne_of_lt hOwn
 have hOwn := ocl b1 ((w.heap.size + 1)) 0
 have hOwn := ocl b1 ((w.heap.size + 1)) 1
 have hOwn := ocl b1 ((w.heap.size + 1)) 2
 have hOwn := ocl b1 ((w.heap.size + 1)) 3
 have hOwn := ocl b1 ((w.heap.size + 1)) 4
 have hOwn := ocl b1 ((w.heap.size + 1)) 5
 have hOwn := ocl b1 ((w.heap.size + 1)) 6
 have hOwn := ocl b1 ((w.heap.size + 1)) 7
 have hOwn := ocl b1 ((w.heap.size + 1)) 8
 have hOwn := ocl b1 ((w.heap.size + 1)) 9
 have hOwn := ofr b1 ((w.heap.size + 1)) 0
 have hOwn := ofr b1 ((w.heap.size + 1)) 1
 have hOwn := ofr b1 ((w.heap.size + 1)) 2
 have hOwn := ofr b1 ((w.heap.size + 1)) 3
 have hOwn := ofr b1 ((w.heap.size + 1)) 4
 have hOwn := ofr b1 ((w.heap.size + 1)) 5
 have hOwn := ofr b1 ((w.heap.size + 1)) 6
 have hOwn := ofr b1 ((w.heap.size + 1)) 7
 have hOwn := ofr b1 ((w.heap.size + 1)) 8
 have hOwn := ofr b1 ((w.heap.size + 1)) 9
 go_wp2_with fail
 with_reducible refine (T4.out w1 bw1).mono ?_
 rintro e w3 ⟨rfl, b3⟩
 have z3 := b3.size
 have bw3 : Below w.heap.size w w3 := bw1.trans (b3.mono (by omega))
 have hOwn := Nat.lt_of_lt_of_le (n := w.heap.size) sdd (Below.size b3)
 have hOwn1 := Nat.ne_of_gt hOwn
 have hOwn2 := Nat.ne_of_lt hOwn
 have hOwn := ocl b3 w.heap.size 0
 have hOwn := ocl b3 w.heap.size 1
 have hOwn := ocl b3 w.heap.size 2
 have hOwn := ocl b3 w.heap.size 3
 have hOwn := ocl b3 w.heap.size 4
 have hOwn := ocl b3 w.heap.size 5
 have hOwn := ocl b3 w.heap.size 6
 have hOwn := ocl b3 w.heap.size 7
 have hOwn := ocl b3 w.heap.size 8
 have hOwn := ocl b3 w.heap.size 9
 have hOwn := ofr b3 w.heap.size 0
 have hOwn := ofr b3 w.heap.size 1
 have hOwn := ofr b3 w.heap.size 2
 have hOwn := ofr b3 w.heap.size 3
 have hOwn := ofr b3 w.heap.size 4
 have hOwn := ofr b3 w.heap.size 5
 have hOwn := ofr b3 w.heap.size 6
 have hOwn := ofr b3 w.heap.size 7
 have hOwn := ofr b3 w.heap.size 8
 have hOwn := ofr b3 w.heap.size 9
 have hOwn := Nat.lt_of_lt_of_le (n := (w.heap.size + 1)) sdd (Below.size b3)
 have hOwn1 := Nat.ne_of_gt hOwn
 have hOwn2 := Nat.ne_of_lt hOwn
 have hOwn := ocl b3 ((w.heap.size + 1)) 0
 have hOwn := ocl b3 ((w.heap.size + 1)) 1
 have hOwn := ocl b3 ((w.heap.size + 1)) 2
 have hOwn := ocl b3 ((w.heap.size + 1)) 3
 have hOwn := ocl b3 ((w.heap.size + 1)) 4
 have hOwn := ocl b3 ((w.heap.size + 1)) 5
 have hOwn := ocl b3 ((w.heap.size + 1)) 6
 have hOwn := ocl b3 ((w.heap.size + 1)) 7
 have hOwn := ocl b3 ((w.heap.size + 1)) 8
 have hOwn := ocl b3 ((w.heap.size + 1)) 9
 have hOwn := ofr b3 ((w.heap.size + 1)) 0
 have hOwn := ofr b3 ((w.heap.size + 1)) 1
 have hOwn := ofr b3 ((w.heap.size + 1)) 2
 have hOwn := ofr b3 ((w.heap.size + 1)) 3
 have hOwn := ofr b3 ((w.heap.size + 1)) 4
 have hOwn := ofr b3 ((w.heap.size + 1)) 5
 have hOwn := ofr b3 ((w.heap.size + 1)) 6
 have hOwn := ofr b3 ((w.heap.size + 1)) 7
 have hOwn := ofr b3 ((w.heap.size + 1)) 8
 have hOwn := ofr b3 ((w.heap.size + 1)) 9
 go_wp2_with fail
 go_ret
 exact told_ret (by first | rfl | simp) bw3
theorem rOne_no_i (k : Int) (n : ByteArray) (al : List ByteArray) (sy : List ByteArray) (h : Bool) (df : ByteArray) (z : Int) (i1 i2 : Int) (b1 b2 : Nat) (f1 f2 : Nat) (A2 A3 A4 A9 B2 B3 B4 B9 : Option Addr) (c2 c3 c4 c9 d2 d3 d4 d9 : Nat) (w : World) (hne : i1 ≠ i2) (fa2 : FlS w (· < w.heap.size) A2 (al.map Value.string)) (fb2 : FlS w (· < w.heap.size) B2 (al.map Value.string)) (la2 : al.length ≤ maxLen) (lb2 : al.length ≤ maxLen) (fa4 : FlS w (· < w.heap.size) A4 (sy.map Value.string)) (fb4 : FlS w (· < w.heap.size) B4 (sy.map Value.string)) (la4 : sy.length ≤ maxLen) (lb4 : sy.length ≤ maxLen) :
 Calls Tryz.prog 81 #[.agg #[.int .i64 k, .string n, .slice A2 al.length c2, .slice A3 f1 c3, .slice A4 sy.length c4, .bool h, .string df, .int .i64 z, .int .i64 i1, .slice A9 b1 c9], .agg #[.int .i64 k, .string n, .slice B2 al.length d2, .slice B3 f2 d3, .slice B4 sy.length d4, .bool h, .string df, .int .i64 z, .int .i64 i2, .slice B9 b2 d9]] w (Told false w) := by
 have CS := cell_set
 have nn : ∀ X : ByteArray, (X.toList != X.toList) = false := by simp
 have kp : ∀ {A : Option Addr} {l : List ByteArray} {W : World}, FlS w (· < w.heap.size) A (l.map Value.string) → Below w.heap.size w W → FlS W (· < W.heap.size) A (l.map Value.string) := fun h b => (h.keep (Below.keeps b) (fun _ h => h)).keep (fun _ _ => rfl) fun _ h => Nat.lt_of_lt_of_le h b.size
 have T2 := Lib.hid (fun W (b : Below w.heap.size w W) => rTexts_any A2 B2 c2 d2 al al W (kp fa2 b) (kp fb2 b) la2 lb2)
 rw [decide_eq_true rfl] at T2
 have T4 := Lib.hid (fun W (b : Below w.heap.size w W) => rTexts_any A4 B4 c4 d4 sy sy W (kp fa4 b) (kp fb4 b) la4 lb4)
 rw [decide_eq_true rfl] at T4
 have q : (i1 != i2) = true := by rw [bne_iff_ne]; exact hne
 have W2 : Below w.heap.size w ((w.alloc (.cells #[.int .i64 k, .string n, .slice A2 al.length c2, .slice A3 f1 c3, .slice A4 sy.length c4, .bool h, .string df, .int .i64 z, .int .i64 i1, .slice A9 b1 c9] 42)).alloc (.cells #[.int .i64 k, .string n, .slice B2 al.length d2, .slice B3 f2 d3, .slice B4 sy.length d4, .bool h, .string df, .int .i64 z, .int .i64 i2, .slice B9 b2 d9] 42)) := ((Below.refl _ _).alloc (Nat.le_refl _) _).alloc (by simp) _
 have gz2 : ((w.alloc (.cells #[.int .i64 k, .string n, .slice A2 al.length c2, .slice A3 f1 c3, .slice A4 sy.length c4, .bool h, .string df, .int .i64 z, .int .i64 i1, .slice A9 b1 c9] 42)).alloc (.cells #[.int .i64 k, .string n, .slice B2 al.length d2, .slice B3 f2 d3, .slice B4 sy.length d4, .bool h, .string df, .int .i64 z, .int .i64 i2, .slice B9 b2 d9] 42)).heap.size = w.heap.size + 2 := by simp
 have GZ2 := Lib.hid gz2
 clear gz2 kp fa2 fb2 la2 lb2 fa4 fb4 la4 lb4 hne
 go_enter Tryz.func81, Tryz.ntmps81
 go_wp2_with fail
 with_reducible refine (T2.out _ W2).mono ?_
 rintro e w1 ⟨rfl, b1⟩
 rw [GZ2.out] at b1
 have z1 := b1.size
 rw [GZ2.out] at z1
 have bw1 : Below w.heap.size w w1 := W2.trans (b1.mono (by omega))
 have hOwn := Nat.lt_of_lt_of_le (n := w.heap.size) sdd (Below.size b1)
 have hOwn1 := Nat.ne_of_gt hOwn
 have hOwn2 := Nat.ne_of_lt hOwn
 have hOwn := ocl b1 w.heap.size 0
 have hOwn := ocl b1 w.heap.size 1
 have hOwn := ocl b1 w.heap.size 2
 have hOwn := ocl b1 w.heap.size 3
 have hOwn := ocl b1 w.heap.size 4
 have hOwn := ocl b1 w.heap.size 5
 have hOwn := ocl b1 w.heap.size 6
 have hOwn := ocl b1 w.heap.size 7
 have hOwn := ocl b1 w.heap.size 8
 have hOwn := ocl b1 w.heap.size 9
 have hOwn := ofr b1 w.heap.size 0
 have hOwn := ofr b1 w.heap.size 1
 have hOwn := ofr b1 w.heap.size 2
 have hOwn := ofr b1 w.heap.size 3
 have hOwn := ofr b1 w.heap.size 4
 have hOwn := ofr b1 w.heap.size 5
 have hOwn := ofr b1 w.heap.size 6
 have hOwn := ofr b1 w.heap.size 7
 have hOwn := ofr b1 w.heap.size 8
 have hOwn := ofr b1 w.heap.size 9
 have hOwn := Nat.lt_of_lt_of_le (n := (w.heap.size + 1)) sdd (Below.size b1)
 have hOwn1 := Nat.ne_of_gt hOwn
 have hOwn2 := Nat.ne_of_lt hOwn
 have hOwn := ocl b1 ((w.heap.size + 1)) 0
 have hOwn := ocl b1 ((w.heap.size + 1)) 1
 have hOwn := ocl b1 ((w.heap.size + 1)) 2
 have hOwn := ocl b1 ((w.heap.size + 1)) 3
 have hOwn := ocl b1 ((w.heap.size + 1)) 4
 have hOwn := ocl b1 ((w.heap.size + 1)) 5
 have hOwn := ocl b1 ((w.heap.size + 1)) 6
 have hOwn := ocl b1 ((w.heap.size + 1)) 7
 have hOwn := ocl b1 ((w.heap.size + 1)) 8
 have hOwn := ocl b1 ((w.heap.size + 1)) 9
 have hOwn := ofr b1 ((w.heap.size + 1)) 0
 have hOwn := ofr b1 ((w.heap.size + 1)) 1
 have hOwn := ofr b1 ((w.heap.size + 1)) 2
 have hOwn := ofr b1 ((w.heap.size + 1)) 3
 have hOwn := ofr b1 ((w.heap.size + 1)) 4
 have hOwn := ofr b1 ((w.heap.size + 1)) 5
 have hOwn := ofr b1 ((w.heap.size + 1)) 6
 have hOwn := ofr b1 ((w.heap.size + 1)) 7
 have hOwn := ofr b1 ((w.heap.size + 1)) 8
 have hOwn := ofr b1 ((w.heap.size + 1)) 9
 go_wp2_with fail
 with_reducible refine (T4.out w1 bw1).mono ?_
 rintro e w3 ⟨rfl, b3⟩
 have z3 := b3.size
 have bw3 : Below w.heap.size w w3 := bw1.trans (b3.mono (by omega))
 have hOwn := Nat.lt_of_lt_of_le (n := w.heap.size) sdd (Below.size b3)
 have hOwn1 := Nat.ne_of_gt hOwn
 have hOwn2 := Nat.ne_of_lt hOwn
 have hOwn := ocl b3 w.heap.size 0
 have hOwn := ocl b3 w.heap.size 1
 have hOwn := ocl b3 w.heap.size 2
 have hOwn := ocl b3 w.heap.size 3
 have hOwn := ocl b3 w.heap.size 4
 have hOwn := ocl b3 w.heap.size 5
 have hOwn := ocl b3 w.heap.size 6
 have hOwn := ocl b3 w.heap.size 7
 have hOwn := ocl b3 w.heap.size 8
 have hOwn := ocl b3 w.heap.size 9
 have hOwn := ofr b3 w.heap.size 0
 have hOwn := ofr b3 w.heap.size 1
 have hOwn := ofr b3 w.heap.size 2
 have hOwn := ofr b3 w.heap.size 3
 have hOwn := ofr b3 w.heap.size 4
 have hOwn := ofr b3 w.heap.size 5
 have hOwn := ofr b3 w.heap.size 6
 have hOwn := ofr b3 w.heap.size 7
 have hOwn := ofr b3 w.heap.size 8
 have hOwn := ofr b3 w.heap.size 9
 have hOwn := Nat.lt_of_lt_of_le (n := (w.heap.size + 1)) sdd (Below.size b3)
 have hOwn1 := Nat.ne_of_gt hOwn
 have hOwn2 := Nat.ne_of_lt hOwn
 have hOwn := ocl b3 ((w.heap.size + 1)) 0
 have hOwn := ocl b3 ((w.heap.size + 1)) 1
 have hOwn := ocl b3 ((w.heap.size + 1)) 2
 have hOwn := ocl b3 ((w.heap.size + 1)) 3
 have hOwn := ocl b3 ((w.heap.size + 1)) 4
 have hOwn := ocl b3 ((w.heap.size + 1)) 5
 have hOwn := ocl b3 ((w.heap.size + 1)) 6
 have hOwn := ocl b3 ((w.heap.size + 1)) 7
 have hOwn := ocl b3 ((w.heap.size + 1)) 8
 have hOwn := ocl b3 ((w.heap.size + 1)) 9
 have hOwn := ofr b3 ((w.heap.size + 1)) 0
 have hOwn := ofr b3 ((w.heap.size + 1)) 1
 have hOwn := ofr b3 ((w.heap.size + 1)) 2
 have hOwn := ofr b3 ((w.heap.size + 1)) 3
 have hOwn := ofr b3 ((w.heap.size + 1)) 4
 have hOwn := ofr b3 ((w.heap.size + 1)) 5
 have hOwn := ofr b3 ((w.heap.size + 1)) 6
 have hOwn := ofr b3 ((w.heap.size + 1)) 7
 have hOwn := ofr b3 ((w.heap.size + 1)) 8
 have hOwn := ofr b3 ((w.heap.size + 1)) 9
 go_wp2_with fail
 go_ret
 exact told_ret (by first | rfl | simp) bw3
theorem rOne_no_b (k : Int) (n : ByteArray) (al : List ByteArray) (sy : List ByteArray) (h : Bool) (df : ByteArray) (z : Int) (i : Int) (b1 b2 : Nat) (f1 f2 : Nat) (A2 A3 A4 A9 B2 B3 B4 B9 : Option Addr) (c2 c3 c4 c9 d2 d3 d4 d9 : Nat) (w : World) (hne : b1 ≠ b2) (fa2 : FlS w (· < w.heap.size) A2 (al.map Value.string)) (fb2 : FlS w (· < w.heap.size) B2 (al.map Value.string)) (la2 : al.length ≤ maxLen) (lb2 : al.length ≤ maxLen) (fa4 : FlS w (· < w.heap.size) A4 (sy.map Value.string)) (fb4 : FlS w (· < w.heap.size) B4 (sy.map Value.string)) (la4 : sy.length ≤ maxLen) (lb4 : sy.length ≤ maxLen) :
 Calls Tryz.prog 81 #[.agg #[.int .i64 k, .string n, .slice A2 al.length c2, .slice A3 f1 c3, .slice A4 sy.length c4, .bool h, .string df, .int .i64 z, .int .i64 i, .slice A9 b1 c9], .agg #[.int .i64 k, .string n, .slice B2 al.length d2, .slice B3 f2 d3, .slice B4 sy.length d4, .bool h, .string df, .int .i64 z, .int .i64 i, .slice B9 b2 d9]] w (Told false w) := by
 have CS := cell_set
 have nn : ∀ X : ByteArray, (X.toList != X.toList) = false := by simp
 have kp : ∀ {A : Option Addr} {l : List ByteArray} {W : World}, FlS w (· < w.heap.size) A (l.map Value.string) → Below w.heap.size w W → FlS W (· < W.heap.size) A (l.map Value.string) := fun h b => (h.keep (Below.keeps b) (fun _ h => h)).keep (fun _ _ => rfl) fun _ h => Nat.lt_of_lt_of_le h b.size
 have T2 := Lib.hid (fun W (b : Below w.heap.size w W) => rTexts_any A2 B2 c2 d2 al al W (kp fa2 b) (kp fb2 b) la2 lb2)
 rw [decide_eq_true rfl] at T2
 have T4 := Lib.hid (fun W (b : Below w.heap.size w W) => rTexts_any A4 B4 c4 d4 sy sy W (kp fa4 b) (kp fb4 b) la4 lb4)
 rw [decide_eq_true rfl] at T4
 have q : ((b1 : Int) != (b2 : Int)) = true := by rw [bne_iff_ne]; omega
 have W2 : Below w.heap.size w ((w.alloc (.cells #[.int .i64 k, .string n, .slice A2 al.length c2, .slice A3 f1 c3, .slice A4 sy.length c4, .bool h, .string df, .int .i64 z, .int .i64 i, .slice A9 b1 c9] 42)).alloc (.cells #[.int .i64 k, .string n, .slice B2 al.length d2, .slice B3 f2 d3, .slice B4 sy.length d4, .bool h, .string df, .int .i64 z, .int .i64 i, .slice B9 b2 d9] 42)) := ((Below.refl _ _).alloc (Nat.le_refl _) _).alloc (by simp) _
 have gz2 : ((w.alloc (.cells #[.int .i64 k, .string n, .slice A2 al.length c2, .slice A3 f1 c3, .slice A4 sy.length c4, .bool h, .string df, .int .i64 z, .int .i64 i, .slice A9 b1 c9] 42)).alloc (.cells #[.int .i64 k, .string n, .slice B2 al.length d2, .slice B3 f2 d3, .slice B4 sy.length d4, .bool h, .string df, .int .i64 z, .int .i64 i, .slice B9 b2 d9] 42)).heap.size = w.heap.size + 2 := by simp
 have GZ2 := Lib.hid gz2
 clear gz2 kp fa2 fb2 la2 lb2 fa4 fb4 la4 lb4 hne
 go_enter Tryz.func81, Tryz.ntmps81
 go_wp2_with fail
 with_reducible refine (T2.out _ W2).mono ?_
 rintro e w1 ⟨rfl, b1⟩
 rw [GZ2.out] at b1
 have z1 := b1.size
 rw [GZ2.out] at z1
 have bw1 : Below w.heap.size w w1 := W2.trans (b1.mono (by omega))
 have hOwn := Nat.lt_of_lt_of_le (n := w.heap.size) sdd (Below.size b1)
 have hOwn1 := Nat.ne_of_gt hOwn
 have hOwn2 := Nat.ne_of_lt hOwn
 have hOwn := ocl b1 w.heap.size 0
 have hOwn := ocl b1 w.heap.size 1
 have hOwn := ocl b1 w.heap.size 2
 have hOwn := ocl b1 w.heap.size 3
 have hOwn := ocl b1 w.heap.size 4
 have hOwn := ocl b1 w.heap.size 5
 have hOwn := ocl b1 w.heap.size 6
 have hOwn := ocl b1 w.heap.size 7
 have hOwn := ocl b1 w.heap.size 8
 have hOwn := ocl b1 w.heap.size 9
 have hOwn := ofr b1 w.heap.size 0
 have hOwn := ofr b1 w.heap.size 1
 have hOwn := ofr b1 w.heap.size 2
 have hOwn := ofr b1 w.heap.size 3
 have hOwn := ofr b1 w.heap.size 4
 have hOwn := ofr b1 w.heap.size 5
 have hOwn := ofr b1 w.heap.size 6
 have hOwn := ofr b1 w.heap.size 7
 have hOwn := ofr b1 w.heap.size 8
 have hOwn := ofr b1 w.heap.size 9
 have hOwn := Nat.lt_of_lt_of_le (n := (w.heap.size + 1)) sdd (Below.size b1)
 have hOwn1 := Nat.ne_of_gt hOwn
 have hOwn2 := Nat.ne_of_lt hOwn
 have hOwn := ocl b1 ((w.heap.size + 1)) 0
 have hOwn := ocl b1 ((w.heap.size + 1)) 1
 have hOwn := ocl b1 ((w.heap.size + 1)) 2
 have hOwn := ocl b1 ((w.heap.size + 1)) 3
 have hOwn := ocl b1 ((w.heap.size + 1)) 4
 have hOwn := ocl b1 ((w.heap.size + 1)) 5
 have hOwn := ocl b1 ((w.heap.size + 1)) 6
 have hOwn := ocl b1 ((w.heap.size + 1)) 7
 have hOwn := ocl b1 ((w.heap.size + 1)) 8
 have hOwn := ocl b1 ((w.heap.size + 1)) 9
 have hOwn := ofr b1 ((w.heap.size + 1)) 0
 have hOwn := ofr b1 ((w.heap.size + 1)) 1
 have hOwn := ofr b1 ((w.heap.size + 1)) 2
 have hOwn := ofr b1 ((w.heap.size + 1)) 3
 have hOwn := ofr b1 ((w.heap.size + 1)) 4
 have hOwn := ofr b1 ((w.heap.size + 1)) 5
 have hOwn := ofr b1 ((w.heap.size + 1)) 6
 have hOwn := ofr b1 ((w.heap.size + 1)) 7
 have hOwn := ofr b1 ((w.heap.size + 1)) 8
 have hOwn := ofr b1 ((w.heap.size + 1)) 9
 go_wp2_with fail
 with_reducible refine (T4.out w1 bw1).mono ?_
 rintro e w3 ⟨rfl, b3⟩
 have z3 := b3.size
 have bw3 : Below w.heap.size w w3 := bw1.trans (b3.mono (by omega))
 have hOwn := Nat.lt_of_lt_of_le (n := w.heap.size) sdd (Below.size b3)
 have hOwn1 := Nat.ne_of_gt hOwn
 have hOwn2 := Nat.ne_of_lt hOwn
 have hOwn := ocl b3 w.heap.size 0
 have hOwn := ocl b3 w.heap.size 1
 have hOwn := ocl b3 w.heap.size 2
 have hOwn := ocl b3 w.heap.size 3
 have hOwn := ocl b3 w.heap.size 4
 have hOwn := ocl b3 w.heap.size 5
 have hOwn := ocl b3 w.heap.size 6
 have hOwn := ocl b3 w.heap.size 7
 have hOwn := ocl b3 w.heap.size 8
 have hOwn := ocl b3 w.heap.size 9
 have hOwn := ofr b3 w.heap.size 0
 have hOwn := ofr b3 w.heap.size 1
 have hOwn := ofr b3 w.heap.size 2
 have hOwn := ofr b3 w.heap.size 3
 have hOwn := ofr b3 w.heap.size 4
 have hOwn := ofr b3 w.heap.size 5
 have hOwn := ofr b3 w.heap.size 6
 have hOwn := ofr b3 w.heap.size 7
 have hOwn := ofr b3 w.heap.size 8
 have hOwn := ofr b3 w.heap.size 9
 have hOwn := Nat.lt_of_lt_of_le (n := (w.heap.size + 1)) sdd (Below.size b3)
 have hOwn1 := Nat.ne_of_gt hOwn
 have hOwn2 := Nat.ne_of_lt hOwn
 have hOwn := ocl b3 ((w.heap.size + 1)) 0
 have hOwn := ocl b3 ((w.heap.size + 1)) 1
 have hOwn := ocl b3 ((w.heap.size + 1)) 2
 have hOwn := ocl b3 ((w.heap.size + 1)) 3
 have hOwn := ocl b3 ((w.heap.size + 1)) 4
 have hOwn := ocl b3 ((w.heap.size + 1)) 5
 have hOwn := ocl b3 ((w.heap.size + 1)) 6
 have hOwn := ocl b3 ((w.heap.size + 1)) 7
 have hOwn := ocl b3 ((w.heap.size + 1)) 8
 have hOwn := ocl b3 ((w.heap.size + 1)) 9
 have hOwn := ofr b3 ((w.heap.size + 1)) 0
 have hOwn := ofr b3 ((w.heap.size + 1)) 1
 have hOwn := ofr b3 ((w.heap.size + 1)) 2
 have hOwn := ofr b3 ((w.heap.size + 1)) 3
 have hOwn := ofr b3 ((w.heap.size + 1)) 4
 have hOwn := ofr b3 ((w.heap.size + 1)) 5
 have hOwn := ofr b3 ((w.heap.size + 1)) 6
 have hOwn := ofr b3 ((w.heap.size + 1)) 7
 have hOwn := ofr b3 ((w.heap.size + 1)) 8
 have hOwn := ofr b3 ((w.heap.size + 1)) 9
 go_wp2_with fail
 go_ret
 exact told_ret (by first | rfl | simp) bw3
theorem rOne_no_f (k : Int) (n : ByteArray) (al : List ByteArray) (sy : List ByteArray) (h : Bool) (df : ByteArray) (z : Int) (i : Int) (b : Nat) (f1 f2 : Nat) (A2 A3 A4 A9 B2 B3 B4 B9 : Option Addr) (c2 c3 c4 c9 d2 d3 d4 d9 : Nat) (w : World) (hne : f1 ≠ f2) (fa2 : FlS w (· < w.heap.size) A2 (al.map Value.string)) (fb2 : FlS w (· < w.heap.size) B2 (al.map Value.string)) (la2 : al.length ≤ maxLen) (lb2 : al.length ≤ maxLen) (fa4 : FlS w (· < w.heap.size) A4 (sy.map Value.string)) (fb4 : FlS w (· < w.heap.size) B4 (sy.map Value.string)) (la4 : sy.length ≤ maxLen) (lb4 : sy.length ≤ maxLen) :
 Calls Tryz.prog 81 #[.agg #[.int .i64 k, .string n, .slice A2 al.length c2, .slice A3 f1 c3, .slice A4 sy.length c4, .bool h, .string df, .int .i64 z, .int .i64 i, .slice A9 b c9], .agg #[.int .i64 k, .string n, .slice B2 al.length d2, .slice B3 f2 d3, .slice B4 sy.length d4, .bool h, .string df, .int .i64 z, .int .i64 i, .slice B9 b d9]] w (Told false w) := by
 have CS := cell_set
 have nn : ∀ X : ByteArray, (X.toList != X.toList) = false := by simp
 have kp : ∀ {A : Option Addr} {l : List ByteArray} {W : World}, FlS w (· < w.heap.size) A (l.map Value.string) → Below w.heap.size w W → FlS W (· < W.heap.size) A (l.map Value.string) := fun h b => (h.keep (Below.keeps b) (fun _ h => h)).keep (fun _ _ => rfl) fun _ h => Nat.lt_of_lt_of_le h b.size
 have T2 := Lib.hid (fun W (b : Below w.heap.size w W) => rTexts_any A2 B2 c2 d2 al al W (kp fa2 b) (kp fb2 b) la2 lb2)
 rw [decide_eq_true rfl] at T2
 have T4 := Lib.hid (fun W (b : Below w.heap.size w W) => rTexts_any A4 B4 c4 d4 sy sy W (kp fa4 b) (kp fb4 b) la4 lb4)
 rw [decide_eq_true rfl] at T4
 have q : ((f1 : Int) != (f2 : Int)) = true := by rw [bne_iff_ne]; omega
 have W2 : Below w.heap.size w ((w.alloc (.cells #[.int .i64 k, .string n, .slice A2 al.length c2, .slice A3 f1 c3, .slice A4 sy.length c4, .bool h, .string df, .int .i64 z, .int .i64 i, .slice A9 b c9] 42)).alloc (.cells #[.int .i64 k, .string n, .slice B2 al.length d2, .slice B3 f2 d3, .slice B4 sy.length d4, .bool h, .string df, .int .i64 z, .int .i64 i, .slice B9 b d9] 42)) := ((Below.refl _ _).alloc (Nat.le_refl _) _).alloc (by simp) _
 have gz2 : ((w.alloc (.cells #[.int .i64 k, .string n, .slice A2 al.length c2, .slice A3 f1 c3, .slice A4 sy.length c4, .bool h, .string df, .int .i64 z, .int .i64 i, .slice A9 b c9] 42)).alloc (.cells #[.int .i64 k, .string n, .slice B2 al.length d2, .slice B3 f2 d3, .slice B4 sy.length d4, .bool h, .string df, .int .i64 z, .int .i64 i, .slice B9 b d9] 42)).heap.size = w.heap.size + 2 := by simp
 have GZ2 := Lib.hid gz2
 clear gz2 kp fa2 fb2 la2 lb2 fa4 fb4 la4 lb4 hne
 go_enter Tryz.func81, Tryz.ntmps81
 go_wp2_with fail
 with_reducible refine (T2.out _ W2).mono ?_
 rintro e w1 ⟨rfl, b1⟩
 rw [GZ2.out] at b1
 have z1 := b1.size
 rw [GZ2.out] at z1
 have bw1 : Below w.heap.size w w1 := W2.trans (b1.mono (by omega))
 have hOwn := Nat.lt_of_lt_of_le (n := w.heap.size) sdd (Below.size b1)
 have hOwn1 := Nat.ne_of_gt hOwn
 have hOwn2 := Nat.ne_of_lt hOwn
 have hOwn := ocl b1 w.heap.size 0
 have hOwn := ocl b1 w.heap.size 1
 have hOwn := ocl b1 w.heap.size 2
 have hOwn := ocl b1 w.heap.size 3
 have hOwn := ocl b1 w.heap.size 4
 have hOwn := ocl b1 w.heap.size 5
 have hOwn := ocl b1 w.heap.size 6
 have hOwn := ocl b1 w.heap.size 7
 have hOwn := ocl b1 w.heap.size 8
 have hOwn := ocl b1 w.heap.size 9
 have hOwn := ofr b1 w.heap.size 0
 have hOwn := ofr b1 w.heap.size 1
 have hOwn := ofr b1 w.heap.size 2
 have hOwn := ofr b1 w.heap.size 3
 have hOwn := ofr b1 w.heap.size 4
 have hOwn := ofr b1 w.heap.size 5
 have hOwn := ofr b1 w.heap.size 6
 have hOwn := ofr b1 w.heap.size 7
 have hOwn := ofr b1 w.heap.size 8
 have hOwn := ofr b1 w.heap.size 9
 have hOwn := Nat.lt_of_lt_of_le (n := (w.heap.size + 1)) sdd (Below.size b1)
 have hOwn1 := Nat.ne_of_gt hOwn
 have hOwn2 := Nat.ne_of_lt hOwn
 have hOwn := ocl b1 ((w.heap.size + 1)) 0
 have hOwn := ocl b1 ((w.heap.size + 1)) 1
 have hOwn := ocl b1 ((w.heap.size + 1)) 2
 have hOwn := ocl b1 ((w.heap.size + 1)) 3
 have hOwn := ocl b1 ((w.heap.size + 1)) 4
 have hOwn := ocl b1 ((w.heap.size + 1)) 5
 have hOwn := ocl b1 ((w.heap.size + 1)) 6
 have hOwn := ocl b1 ((w.heap.size + 1)) 7
 have hOwn := ocl b1 ((w.heap.size + 1)) 8
 have hOwn := ocl b1 ((w.heap.size + 1)) 9
 have hOwn := ofr b1 ((w.heap.size + 1)) 0
 have hOwn := ofr b1 ((w.heap.size + 1)) 1
 have hOwn := ofr b1 ((w.heap.size + 1)) 2
 have hOwn := ofr b1 ((w.heap.size + 1)) 3
 have hOwn := ofr b1 ((w.heap.size + 1)) 4
 have hOwn := ofr b1 ((w.heap.size + 1)) 5
 have hOwn := ofr b1 ((w.heap.size + 1)) 6
 have hOwn := ofr b1 ((w.heap.size + 1)) 7
 have hOwn := ofr b1 ((w.heap.size + 1)) 8
 have hOwn := ofr b1 ((w.heap.size + 1)) 9
 go_wp2_with fail
 with_reducible refine (T4.out w1 bw1).mono ?_
 rintro e w3 ⟨rfl, b3⟩
 have z3 := b3.size
 have bw3 : Below w.heap.size w w3 := bw1.trans (b3.mono (by omega))
 have hOwn := Nat.lt_of_lt_of_le (n := w.heap.size) sdd (Below.size b3)
 have hOwn1 := Nat.ne_of_gt hOwn
 have hOwn2 := Nat.ne_of_lt hOwn
 have hOwn := ocl b3 w.heap.size 0
 have hOwn := ocl b3 w.heap.size 1
 have hOwn := ocl b3 w.heap.size 2
 have hOwn := ocl b3 w.heap.size 3
 have hOwn := ocl b3 w.heap.size 4
 have hOwn := ocl b3 w.heap.size 5
 have hOwn := ocl b3 w.heap.size 6
 have hOwn := ocl b3 w.heap.size 7
 have hOwn := ocl b3 w.heap.size 8
 have hOwn := ocl b3 w.heap.size 9
 have hOwn := ofr b3 w.heap.size 0
 have hOwn := ofr b3 w.heap.size 1
 have hOwn := ofr b3 w.heap.size 2
 have hOwn := ofr b3 w.heap.size 3
 have hOwn := ofr b3 w.heap.size 4
 have hOwn := ofr b3 w.heap.size 5
 have hOwn := ofr b3 w.heap.size 6
 have hOwn := ofr b3 w.heap.size 7
 have hOwn := ofr b3 w.heap.size 8
 have hOwn := ofr b3 w.heap.size 9
 have hOwn := Nat.lt_of_lt_of_le (n := (w.heap.size + 1)) sdd (Below.size b3)
 have hOwn1 := Nat.ne_of_gt hOwn
 have hOwn2 := Nat.ne_of_lt hOwn
 have hOwn := ocl b3 ((w.heap.size + 1)) 0
 have hOwn := ocl b3 ((w.heap.size + 1)) 1
 have hOwn := ocl b3 ((w.heap.size + 1)) 2
 have hOwn := ocl b3 ((w.heap.size + 1)) 3
 have hOwn := ocl b3 ((w.heap.size + 1)) 4
 have hOwn := ocl b3 ((w.heap.size + 1)) 5
 have hOwn := ocl b3 ((w.heap.size + 1)) 6
 have hOwn := ocl b3 ((w.heap.size + 1)) 7
 have hOwn := ocl b3 ((w.heap.size + 1)) 8
 have hOwn := ocl b3 ((w.heap.size + 1)) 9
 have hOwn := ofr b3 ((w.heap.size + 1)) 0
 have hOwn := ofr b3 ((w.heap.size + 1)) 1
 have hOwn := ofr b3 ((w.heap.size + 1)) 2
 have hOwn := ofr b3 ((w.heap.size + 1)) 3
 have hOwn := ofr b3 ((w.heap.size + 1)) 4
 have hOwn := ofr b3 ((w.heap.size + 1)) 5
 have hOwn := ofr b3 ((w.heap.size + 1)) 6
 have hOwn := ofr b3 ((w.heap.size + 1)) 7
 have hOwn := ofr b3 ((w.heap.size + 1)) 8
 have hOwn := ofr b3 ((w.heap.size + 1)) 9
 go_wp2_with fail
 go_ret
 exact told_ret (by first | rfl | simp) bw3
end Go.Proofs.YtpmgjpchpmkklaaGreatDoor
