/- Layer 6, the code's own calls at every input: escapes, characters. -/
import Derived.Test.YtbogafecgakgiaaDoorJlexA
import Derived.Test.YtbogafecgakgiaaDoorJRefC
import Derived.Test.YtbogafecgakgiaaDoorJRefD
namespace Go.Proofs.YtbogafecgakgiaaDoor
open Go.ChangeShapes Go.WideShapes Go.ChangeAt Go.RowKit Mem

/-- An escape of four digits at a place: its number, where it ends. -/
def unt (l : List UInt8) (k : Nat) : Int × Nat × Bool := if Jx.byt l k = 92 ∧ Jx.byt l (k + 1) = 117 ∧ 0 ≤ Jx.four (l.drop (k + 2)) then (Jx.four (l.drop (k + 2)), k + 6, true) else (0, k, false)
theorem unt_yes {l : List UInt8} {k : Nat} (h1 : Jx.byt l k = 92) (h2 : Jx.byt l (k + 1) = 117) (h3 : 0 ≤ Jx.four (l.drop (k + 2))) : unt l k = (Jx.four (l.drop (k + 2)), k + 6, true) := by unfold unt; rw [if_pos ⟨h1, h2, h3⟩]
theorem unt_no {l : List UInt8} {k : Nat} (h : ¬ (Jx.byt l k = 92 ∧ Jx.byt l (k + 1) = 117 ∧ 0 ≤ Jx.four (l.drop (k + 2)))) : unt l k = (0, k, false) := by unfold unt; rw [if_neg h]
theorem unt_short {l : List UInt8} {k : Nat} (h : l.length < k + 6) : unt l k = (0, k, false) := unt_no fun ⟨_, _, h3⟩ => by
  have := Jx.four_len h3; rw [List.length_drop] at this; omega
def Un (r : Int × Nat × Bool) (w : World) (e : Ending) (w' : World) : Prop := e = .returned (.tuple #[.int .i32 r.1, .int .i64 (r.2.1 : Int), .bool r.2.2]) ∧ w = w'
theorem un_ret {r : Int × Nat × Bool} {n : Int} {k : Nat} {z : Int} {b : Bool} {w : World} (h : r = (n, k, b)) (hz : z = (k : Int)) : Un r w (.returned (.tuple #[.int .i32 n, .int .i64 z, .bool b])) w := by subst h; subst hz; exact ⟨rfl, rfl⟩
theorem or_hex {a h : Int} (h0 : 0 ≤ a) (h1 : a ≤ 4095) (h2 : 0 ≤ h) (h3 : h < 16) : bits .or .i32 (a * 16) h = a * 16 + h :=
  bits_join .i32 31 (by decide) wraps_i32 4 (a * 16) h (by omega) (by omega) (by omega) h2 (by omega) (by omega)
theorem acc_lt (l : List UInt8) (j : Nat) (hj : j < 4) (h : ∀ i, i < j → 0 ≤ Jx.hex (Jx.byt l i)) : 0 ≤ acc l j ∧ acc l j ≤ 4095 := by
  obtain rfl | rfl | rfl | rfl : j = 0 ∨ j = 1 ∨ j = 2 ∨ j = 3 := by omega
  all_goals
    have a := Jx.hex_le (Jx.byt l 0); have b := Jx.hex_le (Jx.byt l 1); have c := Jx.hex_le (Jx.byt l 2)
    have x0 := h 0; have x1 := h 1; have x2 := h 2
    simp only [acc]
    omega
theorem two_bytes {l : List UInt8} {k : Nat} (h : k + 2 ≤ l.length) : (l.drop k).take 2 = [UInt8.ofNat (Jx.byt l k), UInt8.ofNat (Jx.byt l (k + 1))] := by
  rw [Num.drop_at (l := l) (p := k) (by omega), Num.drop_at (l := l) (p := k + 1) (by omega), ← Jx.byt_toNat, ← Jx.byt_toNat]
  rfl
theorem two_is {l : List UInt8} {k : Nat} (h : k + 2 ≤ l.length) : ((l.drop k).take 2 = [92, 117]) ↔ (Jx.byt l k = 92 ∧ Jx.byt l (k + 1) = 117) := by
  rw [two_bytes h]
  have a := Jx.byt_lt l k; have b := Jx.byt_lt l (k + 1)
  constructor
  · intro e
    simp only [List.cons.injEq, and_true] at e
    have e1 := congrArg UInt8.toNat e.1; have e2 := congrArg UInt8.toNat e.2
    rw [Num.nat8 a] at e1; rw [Num.nat8 b] at e2
    exact ⟨e1, e2⟩
  · rintro ⟨e1, e2⟩; rw [e1, e2]; rfl

set_option maxRecDepth 100000 in
set_option maxHeartbeats 2000000 in
theorem unit_any (A : Option Addr) (c : Nat) (l : List UInt8) (k : Nat) (w : World) (B : Nat) (hb : Bys w B A l) (hl : l.length ≤ 60000000000) (hc : l.length ≤ c) (hk : k ≤ l.length) :
    Calls Tryd.prog 51 #[.slice A l.length c, .int .i64 (k : Int)] w (Un (unt l k) w) := by
  by_cases hs : l.length < k + 6
  · rw [unt_short hs]
    have q : decide ((l.length : Int) < (k : Int) + 2 + 4) = true := by simp; omega
    clear hb
    go_enter Tryd.func51, Tryd.ntmps51
    go_wp2_with fail
    all_goals go_ret3
    all_goals exact un_ret rfl rfl
  · obtain ⟨b, off, rfl, hB, _⟩ := bys_cell hb (k := k) (by omega)
    have hconv := bys_mid hb k 2 2 (c - k) (by rw [List.length_take, List.length_drop]; omega)
    have two := two_is (l := l) (k := k) (by omega)
    have CELL := Lib.hid (fun j hj => bys_cell hb (k := j) hj)
    have yes := @unt_yes l k; have no := @unt_no l k
    have bd := Jx.byt_drop l (k + 2)
    obtain ⟨D, hD⟩ : ∃ D, D = l.drop (k + 2) := ⟨_, rfl⟩
    rw [← hD] at yes no bd
    generalize unt l k = R at *
    generalize hX : (l.drop k).take 2 = X at *
    have seq : ((⟨X.toArray⟩ : ByteArray).toList == (⟨#[92, 117]⟩ : ByteArray).toList) = decide (X = [92, 117]) := str_eq X [92, 117]
    have hck : c ≠ k := by omega
    have BD := Lib.hid bd
    clear hX hD bd hb
    by_cases hX : X = [92, 117]
    · have t := two.1 hX
      subst hX
      rw [decide_eq_true rfl] at seq
      have YES := Lib.hid (yes t.1 t.2); have NO := Lib.hid (fun (h : ¬ 0 ≤ Jx.four D) => no (fun k => h k.2.2))
      clear yes no t two
      go_enter Tryd.func51, Tryd.ntmps51
      go_wp2_with fail
      go_loop [4, 5, 28] (fun n x q => ∃ j : Nat, j ≤ 4 ∧ Hid (Hx D j) ∧ q = .int .i64 (j : Int) ∧ n = .int .i32 (acc D j) ∧ x = .int .i64 ((k : Int) + 6)) (fun _ _ q => 4 - (intOf q).toNat)
      case atStart => exact ⟨0, by omega, fun i hi => absurd hi (Nat.not_lt_zero _), rfl, rfl, by first | rfl | go_num⟩
      case round =>
        obtain ⟨j, hj, H, rfl, rfl, rfl⟩ := hrel
        by_cases h4 : j < 4
        · have al := acc_lt D j h4 H.out
          have e1 := BD.out j
          have bad := fun h => Hx.bad (l := D) (j := j) h4 h
          have go := H.out.go
          have ac : acc D (j + 1) = acc D j * 16 + Jx.hex (Jx.byt D j) := rfl
          rw [e1] at bad go ac
          have x256 := Jx.byt_lt l (k + 2 + j)
          obtain ⟨b2, off2, e2, _, cell2⟩ := CELL.out (k + 2 + j) (by omega)
          simp only [Option.some.injEq, Addr.mk.injEq, and_true] at e2
          obtain ⟨rfl, rfl⟩ := e2
          have hx := Lib.hid (hex_any (Jx.byt l (k + 2 + j)) x256)
          have hle := Jx.hex_le (Jx.byt l (k + 2 + j))
          obtain ⟨V, hV⟩ : ∃ V, V = acc D j := ⟨_, rfl⟩
          rw [← hV] at ac al ⊢
          generalize Jx.byt l (k + 2 + j) = X at *
          generalize Jx.hex X = h at *
          have AC := Lib.hid ac
          have GO := Lib.hid go
          have BAD := Lib.hid bad
          obtain ⟨v0, v1⟩ := al
          clear e1 hV ac go bad
          by_cases h0 : 0 ≤ h
          · rw [show max h 0 = h by omega, show decide (0 ≤ h) = true by simpa using h0] at hx
            have oh := or_hex v0 v1 h0 (by omega)
            go_wp2_with fail
            with_reducible refine (hx.out _).mono ?_
            rintro e w1 ⟨rfl, rfl⟩
            go_wp2_with fail
            go_round
            case rel => exact ⟨j + 1, by omega, GO.out h0, by go_num, by rw [AC.out], rfl⟩
            case measure => simp [intOf]; omega
          · rw [show max h 0 = 0 by omega, show decide (0 ≤ h) = false by simpa using h0] at hx
            have Z := Lib.hid (NO.out (by rw [BAD.out (by omega)]; decide))
            go_wp2_with fail
            with_reducible refine (hx.out _).mono ?_
            rintro e w1 ⟨rfl, rfl⟩
            go_wp2_with fail
            all_goals go_ret3
            all_goals exact un_ret Z.out rfl
        · obtain rfl : j = 4 := by omega
          have al := acc_le D 4 (by omega) H.out
          have Z := Lib.hid (YES.out (by rw [H.out.done]; exact al.1))
          have E := Lib.hid H.out.done
          go_wp2_with fail
          all_goals go_ret3
          all_goals exact un_ret (k := k + 6) (by rw [← E.out]; exact Z.out) (by push_cast; omega)
    · have Z := Lib.hid (no (fun t => hX (two.2 ⟨t.1, t.2.1⟩)))
      rw [decide_eq_false hX] at seq
      have seq2 : (X == [92, 117]) = false := by simpa using hX
      have HX := Lib.hid hX
      clear yes no two hX
      go_enter Tryd.func51, Tryd.ntmps51
      go_wp2_with fail
      all_goals go_ret3
      all_goals exact un_ret Z.out rfl

/-- An escape of one byte. -/
def sho (l : List UInt8) (k : Nat) : Nat × Nat × Nat := match Jx.esc (Jx.byt l (k + 1)) with
  | some v => (v, k + 2, 0)
  | none => (0, k, 20)
theorem sho_yes {l : List UInt8} {k v : Nat} (h : Jx.esc (Jx.byt l (k + 1)) = some v) : sho l k = (v, k + 2, 0) := by unfold sho; rw [h]
theorem sho_no {l : List UInt8} {k : Nat} (h : Jx.esc (Jx.byt l (k + 1)) = none) : sho l k = (0, k, 20) := by unfold sho; rw [h]
def Ch (r : Int × Nat × Nat) (w : World) (e : Ending) (w' : World) : Prop := e = .returned (.tuple #[.int .i32 r.1, .int .i64 (r.2.1 : Int), .int .i64 (r.2.2 : Int)]) ∧ Below w.heap.size w w'
theorem ch_ret {r : Int × Nat × Nat} {n z y : Int} {k e : Nat} {w w' : World} (h : r = (n, k, e)) (hz : z = (k : Int)) (hy : y = (e : Int)) (hb : Below w.heap.size w w') : Ch r w (.returned (.tuple #[.int .i32 n, .int .i64 z, .int .i64 y])) w' := by
  subst h; subst hz; subst hy; exact ⟨rfl, hb⟩
def Chs (r : Nat × Nat × Nat) (w : World) (e : Ending) (w' : World) : Prop := e = .returned (.tuple #[.int .i32 (r.1 : Int), .int .i64 (r.2.1 : Int), .int .i64 (r.2.2 : Int)]) ∧ w = w'
theorem chs_ret {r : Nat × Nat × Nat} {n z y : Int} {m k e : Nat} {w : World} (h : r = (m, k, e)) (hn : n = (m : Int)) (hz : z = (k : Int)) (hy : y = (e : Int)) : Chs r w (.returned (.tuple #[.int .i32 n, .int .i64 z, .int .i64 y])) w := by
  subst h; subst hn; subst hz; subst hy; exact ⟨rfl, rfl⟩
theorem place_esc : ∀ x : Nat, x < 256 → Jx.esc x = none → place [34, 92, 98, 102, 110, 114, 116, 47] x = -1 := by
  have h : ∀ x : Fin 256, Jx.esc x.val = none → place [34, 92, 98, 102, 110, 114, 116, 47] x.val = -1 := by decide +kernel
  exact fun x hx => h ⟨x, hx⟩

set_option maxHeartbeats 1000000 in
theorem shortEscape_any (A : Option Addr) (c : Nat) (l : List UInt8) (k : Nat) (w : World) (B : Nat) (hb : Bys w B A l) (hl : l.length ≤ 60000000000) (hk : k < l.length) :
    Calls Tryd.prog 52 #[.slice A l.length c, .int .i64 (k : Int)] w (Chs (sho l k) w) := by
  have yes := fun v => @sho_yes l k v; have no := @sho_no l k
  generalize sho l k = R at *
  by_cases hs : k + 1 < l.length
  · obtain ⟨b, off, rfl, hB, hcell⟩ := bys_cell hb hs
    have P := Lib.hid (fun z (hz : z = (Jx.byt l (k + 1) : Int)) W => hz ▸ place_any ⟨#[34, 92, 98, 102, 110, 114, 116, 47]⟩ (Jx.byt l (k + 1)) W)
    rw [show (⟨#[34, 92, 98, 102, 110, 114, 116, 47]⟩ : ByteArray).data.toList = [34, 92, 98, 102, 110, 114, 116, 47] from rfl] at P
    have pn := place_esc _ (Jx.byt_lt l (k + 1))
    have ew := esc_ways (Jx.byt l (k + 1))
    have q : (((k : Int) + 1) == (l.length : Int)) = false := by rw [beq_eq_false_iff_ne]; omega
    generalize Jx.byt l (k + 1) = X at *
    have NO := Lib.hid no; have YES := Lib.hid yes; have PN := Lib.hid pn
    clear hb no yes pn
    rcases ew with rfl | rfl | rfl | rfl | rfl | rfl | rfl | rfl | ⟨hn, n1, n2, n3, n4, n5, n6, n7, n8⟩
    · have Z := Lib.hid (YES.out _ (rfl : Jx.esc 34 = some 34))
      rw [show place [34, 92, 98, 102, 110, 114, 116, 47] 34 = 0 by decide +kernel] at P
      go_enter Tryd.func52, Tryd.ntmps52
      go_wp2_with fail
      with_reducible refine (P.out _ (by omega) _).mono ?_
      rintro e w1 ⟨rfl, rfl⟩
      go_wp2_with fail
      all_goals go_ret3
      all_goals exact chs_ret Z.out (by decide +kernel) (by push_cast; omega) rfl
    · have Z := Lib.hid (YES.out _ (rfl : Jx.esc 47 = some 47))
      rw [show place [34, 92, 98, 102, 110, 114, 116, 47] 47 = 7 by decide +kernel] at P
      go_enter Tryd.func52, Tryd.ntmps52
      go_wp2_with fail
      with_reducible refine (P.out _ (by omega) _).mono ?_
      rintro e w1 ⟨rfl, rfl⟩
      go_wp2_with fail
      all_goals go_ret3
      all_goals exact chs_ret Z.out (by decide +kernel) (by push_cast; omega) rfl
    · have Z := Lib.hid (YES.out _ (rfl : Jx.esc 92 = some 92))
      rw [show place [34, 92, 98, 102, 110, 114, 116, 47] 92 = 1 by decide +kernel] at P
      go_enter Tryd.func52, Tryd.ntmps52
      go_wp2_with fail
      with_reducible refine (P.out _ (by omega) _).mono ?_
      rintro e w1 ⟨rfl, rfl⟩
      go_wp2_with fail
      all_goals go_ret3
      all_goals exact chs_ret Z.out (by decide +kernel) (by push_cast; omega) rfl
    · have Z := Lib.hid (YES.out _ (rfl : Jx.esc 98 = some 8))
      rw [show place [34, 92, 98, 102, 110, 114, 116, 47] 98 = 2 by decide +kernel] at P
      go_enter Tryd.func52, Tryd.ntmps52
      go_wp2_with fail
      with_reducible refine (P.out _ (by omega) _).mono ?_
      rintro e w1 ⟨rfl, rfl⟩
      go_wp2_with fail
      all_goals go_ret3
      all_goals exact chs_ret Z.out (by decide +kernel) (by push_cast; omega) rfl
    · have Z := Lib.hid (YES.out _ (rfl : Jx.esc 102 = some 12))
      rw [show place [34, 92, 98, 102, 110, 114, 116, 47] 102 = 3 by decide +kernel] at P
      go_enter Tryd.func52, Tryd.ntmps52
      go_wp2_with fail
      with_reducible refine (P.out _ (by omega) _).mono ?_
      rintro e w1 ⟨rfl, rfl⟩
      go_wp2_with fail
      all_goals go_ret3
      all_goals exact chs_ret Z.out (by decide +kernel) (by push_cast; omega) rfl
    · have Z := Lib.hid (YES.out _ (rfl : Jx.esc 110 = some 10))
      rw [show place [34, 92, 98, 102, 110, 114, 116, 47] 110 = 4 by decide +kernel] at P
      go_enter Tryd.func52, Tryd.ntmps52
      go_wp2_with fail
      with_reducible refine (P.out _ (by omega) _).mono ?_
      rintro e w1 ⟨rfl, rfl⟩
      go_wp2_with fail
      all_goals go_ret3
      all_goals exact chs_ret Z.out (by decide +kernel) (by push_cast; omega) rfl
    · have Z := Lib.hid (YES.out _ (rfl : Jx.esc 114 = some 13))
      rw [show place [34, 92, 98, 102, 110, 114, 116, 47] 114 = 5 by decide +kernel] at P
      go_enter Tryd.func52, Tryd.ntmps52
      go_wp2_with fail
      with_reducible refine (P.out _ (by omega) _).mono ?_
      rintro e w1 ⟨rfl, rfl⟩
      go_wp2_with fail
      all_goals go_ret3
      all_goals exact chs_ret Z.out (by decide +kernel) (by push_cast; omega) rfl
    · have Z := Lib.hid (YES.out _ (rfl : Jx.esc 116 = some 9))
      rw [show place [34, 92, 98, 102, 110, 114, 116, 47] 116 = 6 by decide +kernel] at P
      go_enter Tryd.func52, Tryd.ntmps52
      go_wp2_with fail
      with_reducible refine (P.out _ (by omega) _).mono ?_
      rintro e w1 ⟨rfl, rfl⟩
      go_wp2_with fail
      all_goals go_ret3
      all_goals exact chs_ret Z.out (by decide +kernel) (by push_cast; omega) rfl
    · have Z := Lib.hid (NO.out hn)
      rw [PN.out hn] at P
      clear hn n1 n2 n3 n4 n5 n6 n7 n8
      go_enter Tryd.func52, Tryd.ntmps52
      go_wp2_with fail
      with_reducible refine (P.out _ (by omega) _).mono ?_
      rintro e w1 ⟨rfl, rfl⟩
      go_wp2_with fail
      all_goals go_ret3
      all_goals exact chs_ret Z.out rfl rfl rfl
  · have Z := Lib.hid (no (by rw [Jx.byt_end (by omega)]; rfl))
    have q : (((k : Int) + 1) == (l.length : Int)) = true := by rw [beq_iff_eq]; omega
    clear yes no hb
    go_enter Tryd.func52, Tryd.ntmps52
    go_wp2_with fail
    all_goals go_ret3
    all_goals exact chs_ret Z.out rfl rfl rfl
end Go.Proofs.YtbogafecgakgiaaDoor
