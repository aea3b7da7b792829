/-
  The document's own first rune of a text (newsstandref05.First). Condition: the text is not empty, its length a length.
-/
import Derived.Test.YtelhdkidnhfnbabGreatDoorUStr
namespace Go.Proofs.YtelhdkidnhfnbabGreatDoor
open Go.RowKit
open Go.Lib (decodeL decodeN)

def tailB (c : Nat) : Bool := decide (128 ≤ c ∧ c < 192)
theorem tail_iff (c : Nat) : tailB c = true ↔ 128 ≤ c ∧ c < 192 := by unfold tailB; exact decide_eq_true_iff
theorem tail_no (c : Nat) : tailB c = false ↔ ¬ (128 ≤ c ∧ c < 192) := by unfold tailB; exact decide_eq_false_iff_not
set_option maxHeartbeats 400000 in
theorem rtail_any (c : Nat) (w : World) : Calls Tryz.prog 91 #[.int .u8 (c : Int)] w (Pure w (.bool (tailB c))) := by
  by_cases h1 : (128 : Int) ≤ (c : Int)
  · by_cases h2 : (c : Int) < 192
    · have hd := (tail_iff c).2 (by omega)
      have HD := Lib.hid hd
      clear hd
      go_enter Tryz.func91, Tryz.ntmps91
      go_wp2
      go_ret
      exact ⟨by rw [HD.out]; rfl, rfl⟩
    · have hd := (tail_no c).2 (by omega)
      have HD := Lib.hid hd
      have d2 : decide ((c : Int) < 192) = false := decide_eq_false h2
      clear hd
      go_enter Tryz.func91, Tryz.ntmps91
      go_wp2
      go_ret
      exact ⟨by rw [HD.out]; rfl, rfl⟩
  · have hd := (tail_no c).2 (by omega)
    have HD := Lib.hid hd
    have d1 : decide ((128 : Int) ≤ (c : Int)) = false := decide_eq_false h1
    clear hd
    go_enter Tryz.func91, Tryz.ntmps91
    go_wp2
    go_ret
    exact ⟨by rw [HD.out]; rfl, rfl⟩

/-- The number that a first byte and those behind it make. -/
def accN (l : List UInt8) (c0 : Nat) : Nat → Nat
  | 0 => c0
  | j + 1 => accN l c0 j * 64 + (at0B l (j + 1) - 128)
theorem accN0 (l : List UInt8) (c0 : Nat) : accN l c0 0 = c0 := rfl
theorem accN1 (l : List UInt8) (c0 : Nat) : accN l c0 1 = c0 * 64 + (at0B l 1 - 128) := rfl
theorem accN2 (l : List UInt8) (c0 : Nat) : accN l c0 2 = (c0 * 64 + (at0B l 1 - 128)) * 64 + (at0B l 2 - 128) := rfl
theorem accN3 (l : List UInt8) (c0 : Nat) : accN l c0 3 = ((c0 * 64 + (at0B l 1 - 128)) * 64 + (at0B l 2 - 128)) * 64 + (at0B l 3 - 128) := rfl
theorem accN_step (l : List UInt8) (c0 k : Nat) : accN l c0 (k + 1) = accN l c0 k * 64 + (at0B l (k + 1) - 128) := rfl
/-- The three kinds of runes of more than one byte: how many bytes, the least, what the first byte has more. -/
def Kind (c n least base : Nat) : Prop := (n = 2 ∧ least = 128 ∧ base = 192 ∧ 192 ≤ c ∧ c < 224) ∨ (n = 3 ∧ least = 2048 ∧ base = 224 ∧ 224 ≤ c ∧ c < 240) ∨ (n = 4 ∧ least = 65536 ∧ base = 240 ∧ 240 ≤ c ∧ c < 248)
def Tails (l : List UInt8) (k : Nat) : Prop := ∀ j, 1 ≤ j → j < k → 128 ≤ at0B l j ∧ at0B l j < 192
set_option maxRecDepth 100000 in
set_option maxHeartbeats 1000000 in
theorem acc_bd {l : List UInt8} {n least base : Nat} (h : Kind (at0B l 0) n least base) (j : Nat) (hj : j + 1 < n) (ht : Tails l (j + 1)) : accN l (at0B l 0 - base) j ≤ 32767 := by
  have t1 := ht 1
  have t2 := ht 2
  unfold Kind at h
  have hj3 : j = 0 ∨ j = 1 ∨ j = 2 := by omega
  rcases hj3 with rfl | rfl | rfl
  · rw [accN0]; omega
  · rw [accN1]; omega
  · rw [accN2]; omega
set_option maxRecDepth 100000 in
set_option maxHeartbeats 1000000 in
theorem dec_short {l : List UInt8} {n least base : Nat} (h : Kind (at0B l 0) n least base) (hl : l.length < n) : decodeL l = (65533, 1) := by
  rw [Lib.decodeL_N]
  change decodeN l.length (at0B l 0) (at0B l 1) (at0B l 2) (at0B l 3) = _
  unfold Kind at h
  unfold decodeN
  repeat' split
  all_goals first | rfl | (exfalso; omega)
set_option maxRecDepth 100000 in
set_option maxHeartbeats 1000000 in
theorem dec_notail {l : List UInt8} {n least base k : Nat} (h : Kind (at0B l 0) n least base) (hk : 1 ≤ k) (hkn : k < n) (ht : ¬ (128 ≤ at0B l k ∧ at0B l k < 192)) : decodeL l = (65533, 1) := by
  rw [Lib.decodeL_N]
  change decodeN l.length (at0B l 0) (at0B l 1) (at0B l 2) (at0B l 3) = _
  unfold Kind at h
  have hk3 : k = 1 ∨ k = 2 ∨ k = 3 := by omega
  unfold decodeN
  rcases hk3 with rfl | rfl | rfl
  all_goals
    repeat' split
    all_goals first | rfl | (exfalso; omega)
set_option maxRecDepth 100000 in
set_option maxHeartbeats 1000000 in
theorem dec_bad {l : List UInt8} {n least base : Nat} (h : Kind (at0B l 0) n least base) (hl : n ≤ l.length) (ht : Tails l n)
    (hv : accN l (at0B l 0 - base) (n - 1) < least ∨ 1114111 < accN l (at0B l 0 - base) (n - 1) ∨ (55296 ≤ accN l (at0B l 0 - base) (n - 1) ∧ accN l (at0B l 0 - base) (n - 1) ≤ 57343)) : decodeL l = (65533, 1) := by
  rw [Lib.decodeL_N]
  change decodeN l.length (at0B l 0) (at0B l 1) (at0B l 2) (at0B l 3) = _
  have t1 := ht 1
  have t2 := ht 2
  have t3 := ht 3
  unfold decodeN
  rcases h with ⟨rfl, rfl, rfl, h1, h2⟩ | ⟨rfl, rfl, rfl, h1, h2⟩ | ⟨rfl, rfl, rfl, h1, h2⟩
  all_goals
    simp only [Nat.reduceSub, accN1, accN2, accN3] at hv
    repeat' split
    all_goals first | rfl | (exfalso; omega)
set_option maxRecDepth 100000 in
set_option maxHeartbeats 1000000 in
theorem dec_good {l : List UInt8} {n least base : Nat} (h : Kind (at0B l 0) n least base) (hl : n ≤ l.length) (ht : Tails l n)
    (hv : ¬ (accN l (at0B l 0 - base) (n - 1) < least ∨ 1114111 < accN l (at0B l 0 - base) (n - 1) ∨ (55296 ≤ accN l (at0B l 0 - base) (n - 1) ∧ accN l (at0B l 0 - base) (n - 1) ≤ 57343))) : decodeL l = (accN l (at0B l 0 - base) (n - 1), n) := by
  rw [Lib.decodeL_N]
  change decodeN l.length (at0B l 0) (at0B l 1) (at0B l 2) (at0B l 3) = _
  have t1 := ht 1
  have t2 := ht 2
  have t3 := ht 3
  unfold decodeN
  rcases h with ⟨rfl, rfl, rfl, h1, h2⟩ | ⟨rfl, rfl, rfl, h1, h2⟩ | ⟨rfl, rfl, rfl, h1, h2⟩
  all_goals
    simp only [Nat.reduceSub, accN1, accN2, accN3] at hv ⊢
    repeat' split
    all_goals first | (exfalso; omega) | (apply Prod.ext <;> simp only <;> omega)
theorem dec_one {l : List UInt8} (h : at0B l 0 < 128) : decodeL l = (at0B l 0, 1) := by
  rw [Lib.decodeL_N]
  change decodeN l.length (at0B l 0) (at0B l 1) (at0B l 2) (at0B l 3) = _
  unfold decodeN
  rw [if_pos h]
theorem dec_none {l : List UInt8} (h : (128 ≤ at0B l 0 ∧ at0B l 0 < 192) ∨ 248 ≤ at0B l 0) : decodeL l = (65533, 1) := by
  have := at0B_lt l 0
  rw [Lib.decodeL_N]
  change decodeN l.length (at0B l 0) (at0B l 1) (at0B l 2) (at0B l 3) = _
  unfold decodeN
  repeat' split
  all_goals first | rfl | (exfalso; omega)

/-- The document's first rune, and its bytes. -/
def FirstV (w : World) (l : List UInt8) (e : Ending) (w' : World) : Prop := e = .returned (.tuple #[.int .i32 ((decodeL l).1 : Int), .int .i64 ((decodeL l).2 : Int)]) ∧ w = w'
theorem firstV_mk {w : World} {l : List UInt8} {a b : Nat} {x y : Int} (h : decodeL l = (a, b)) (hx : x = (a : Int)) (hy : y = (b : Int)) : FirstV w l (.returned (.tuple #[.int .i32 x, .int .i64 y])) w := by
  unfold FirstV
  rw [h, hx, hy]
  exact ⟨rfl, rfl⟩
def FRel (l : List UInt8) (n c0 : Nat) (u6 u8 : Value) : Prop := ∃ k : Nat, k + 1 ≤ n ∧ Tails l (k + 1) ∧ u8 = .int .i64 ((k : Int) + 1) ∧ u6 = .int .i32 (accN l c0 k : Int)

set_option maxRecDepth 100000 in
set_option maxHeartbeats 3200000 in
theorem rfirst_2 (l : List UInt8) (w : World) (h0 : 0 < l.length) (hl : l.length ≤ 140737488351232) (h1 : 192 ≤ at0B l 0) (h2 : at0B l 0 < 224) :
    Calls Tryz.prog 72 #[.string (str l)] w (FirstV w l) := by
  have x0 : ∀ W, (Instr.index 9 (.string (str l)) (.int .i64 0)).run Tryz.prog W = .ok (.int .u8 (at0B l 0 : Int)) W := fun W => idx_at l 0 h0 W
  have hk : Kind (at0B l 0) 2 128 192 := .inl ⟨rfl, rfl, rfl, h1, h2⟩
  have hshort := dec_short hk
  have hnot := fun k => @dec_notail l 2 128 192 k hk
  have hbad := @dec_bad l 2 128 192 hk
  have hgood := @dec_good l 2 128 192 hk
  have hbd := @acc_bd l 2 128 192 hk
  have HS := Lib.hid hshort
  have HN := Lib.hid hnot
  have HB := Lib.hid hbad
  have HG := Lib.hid hgood
  have HA := Lib.hid hbd
  have hX : ∀ k, k < l.length → ∀ W, (Instr.index 9 (.string (str l)) (.int .i64 (k : Int))).run Tryz.prog W = .ok (.int .u8 (at0B l k : Int)) W := fun k h W => idx_at l k h W
  have HX := Lib.hid hX
  clear hX hshort hnot hbad hgood hbd hk
  obtain ⟨c0, hc0⟩ : ∃ c0, c0 = at0B l 0 - 192 := ⟨_, rfl⟩
  rw [← hc0] at HA HB HG
  generalize hcc : at0B l 0 = c at *
  have i1 : ¬ (c : Int) < 128 := by omega
  have i2 : (192 : Int) ≤ (c : Int) := by omega
  have i3 : (c : Int) < 224 := by omega
  have HC0 := Lib.hid hc0
  have HCC := Lib.hid hcc
  have hcb : c0 + 192 = c := by omega
  have HCB := Lib.hid hcb
  clear hcc hc0 hcb
  by_cases hlen : l.length < 2
  · have hlI : (l.length : Int) < 2 := by omega
    clear hlen HN HA HG HB HX
    go_enter Tryz.func72, Tryz.ntmps72
    go_wp2_with fail
    go_ret2
    exact firstV_mk (HS.out (by omega)) rfl rfl
  · have hlI : ¬ (l.length : Int) < 2 := by omega
    clear hlen HS
    go_enter Tryz.func72, Tryz.ntmps72
    go_wp2_with fail
    go_loop [6, 8] (FRel l 2 c0) (fun _ i => 2 - (intOf i).toNat)
    case atStart => exact ⟨0, by omega, fun j h1 h2 => by omega, rfl, int_val (by rw [accN0]; have := HCB.out; omega)⟩
    case round =>
      obtain ⟨k, hkn, ht, rfl, rfl⟩ := hrel
      have HT := Lib.hid ht
      clear ht
      by_cases hk : k + 1 < 2
      · have hkI : (k : Int) + 1 < 2 := by omega
        have hkl : k + 1 < l.length := by omega
        have hix : ∀ W, (Instr.index 9 (.string (str l)) (.int .i64 ((k : Int) + 1))).run Tryz.prog W = .ok (.int .u8 (at0B l (k + 1) : Int)) W := fun W => HX.out (k + 1) hkl W
        have hnx := accN_step l c0 k
        have hb := at0B_lt l (k + 1)
        have hno := HN.out (k + 1) (by omega) hk
        have hv := HA.out k hk HT.out
        have htt : 128 ≤ at0B l (k + 1) ∧ at0B l (k + 1) < 192 → Tails l (k + 1 + 1) := fun h j h1 h2 => by
          by_cases e : j = k + 1
          · subst e; exact h
          · exact HT.out j h1 (by omega)
        generalize at0B l (k + 1) = b at hix hnx hb hno htt
        generalize accN l c0 k = v at hnx hv
        have HNX := Lib.hid hnx
        have HNO := Lib.hid hno
        have HTT := Lib.hid htt
        clear hnx hno htt
        cases hy : tailB b with
        | true =>
          have hbb := (tail_iff b).1 hy
          have hb1 : (128 : Int) ≤ (b : Int) := by omega
          have hb2 : (b : Int) < 192 := by omega
          have hvI : (v : Int) ≤ 32767 := by omega
          have HY := Lib.hid hy
          have HBB := Lib.hid hbb
          clear hy hbb hv hb
          go_wp2_with (go_at_call 91; refine (rtail_any _ _).mono ?_; rw [HY.out]; rintro e w' ⟨rfl, rfl⟩)
          go_round
          case rel => exact ⟨k + 1, by omega, HTT.out HBB.out, int_val (by omega), int_val (by rw [HNX.out]; omega)⟩
          case measure => simp [intOf]; omega
        | false =>
          have hbb := (tail_no b).1 hy
          have hd := HNO.out hbb
          have HD := Lib.hid hd
          have HY := Lib.hid hy
          clear hy hbb hd
          go_wp2_with (go_at_call 91; refine (rtail_any _ _).mono ?_; rw [HY.out]; rintro e w' ⟨rfl, rfl⟩)
          go_ret2
          exact firstV_mk HD.out rfl rfl
      · have hkI : ¬ (k : Int) + 1 < 2 := by omega
        obtain rfl : k = 2 - 1 := by omega
        have hbad := HB.out (by omega) HT.out
        have hgood := HG.out (by omega) HT.out
        simp only [Nat.reduceSub] at hbad hgood hkI ⊢
        generalize accN l c0 1 = v at hbad hgood ⊢
        by_cases hv : v < 128 ∨ 1114111 < v ∨ (55296 ≤ v ∧ v ≤ 57343)
        · have hd := hbad hv
          have HD := Lib.hid hd
          have hc3 : (v : Int) < 128 ∨ ((128 : Int) ≤ (v : Int) ∧ (1114111 : Int) < (v : Int)) ∨ ((128 : Int) ≤ (v : Int) ∧ (v : Int) ≤ 1114111 ∧ (55296 : Int) ≤ (v : Int) ∧ (v : Int) ≤ 57343) := by omega
          clear hbad hgood hv hd
          rcases hc3 with q1 | ⟨q1, q2⟩ | ⟨q1, q2, q3, q4⟩
          · have p1 : decide ((v : Int) < 128) = true := decide_eq_true q1
            go_wp2_with fail
            go_ret2
            exact firstV_mk HD.out rfl rfl
          · have p1 : decide ((v : Int) < 128) = false := decide_eq_false (by omega)
            have p2 : decide ((1114111 : Int) < (v : Int)) = true := decide_eq_true q2
            clear q1 q2
            go_wp2_with fail
            go_ret2
            exact firstV_mk HD.out rfl rfl
          · have p1 : decide ((v : Int) < 128) = false := decide_eq_false (by omega)
            have p2 : decide ((1114111 : Int) < (v : Int)) = false := decide_eq_false (by omega)
            have p3 : decide ((55296 : Int) ≤ (v : Int)) = true := decide_eq_true q3
            have p4 : decide ((v : Int) ≤ 57343) = true := decide_eq_true q4
            clear q1 q2 q3 q4
            go_wp2_with fail
            go_ret2
            exact firstV_mk HD.out rfl rfl
        · have hd := hgood hv
          have HD := Lib.hid hd
          have p1 : decide ((v : Int) < 128) = false := decide_eq_false (by omega)
          have p2 : decide ((1114111 : Int) < (v : Int)) = false := decide_eq_false (by omega)
          have hc3 : ¬ (55296 : Int) ≤ (v : Int) ∨ ((55296 : Int) ≤ (v : Int) ∧ ¬ (v : Int) ≤ 57343) := by omega
          clear hbad hgood hv hd
          rcases hc3 with q1 | ⟨q1, q2⟩
          · have p3 : decide ((55296 : Int) ≤ (v : Int)) = false := decide_eq_false q1
            clear q1
            go_wp2_with fail
            go_ret2
            exact firstV_mk HD.out rfl rfl
          · have p3 : decide ((55296 : Int) ≤ (v : Int)) = true := decide_eq_true q1
            have p4 : decide ((v : Int) ≤ 57343) = false := decide_eq_false q2
            clear q1 q2
            go_wp2_with fail
            go_ret2
            exact firstV_mk HD.out rfl rfl
set_option maxRecDepth 100000 in
set_option maxHeartbeats 3200000 in
theorem rfirst_3 (l : List UInt8) (w : World) (h0 : 0 < l.length) (hl : l.length ≤ 140737488351232) (h1 : 224 ≤ at0B l 0) (h2 : at0B l 0 < 240) :
    Calls Tryz.prog 72 #[.string (str l)] w (FirstV w l) := by
  have x0 : ∀ W, (Instr.index 9 (.string (str l)) (.int .i64 0)).run Tryz.prog W = .ok (.int .u8 (at0B l 0 : Int)) W := fun W => idx_at l 0 h0 W
  have hk : Kind (at0B l 0) 3 2048 224 := .inr (.inl ⟨rfl, rfl, rfl, h1, h2⟩)
  have hshort := dec_short hk
  have hnot := fun k => @dec_notail l 3 2048 224 k hk
  have hbad := @dec_bad l 3 2048 224 hk
  have hgood := @dec_good l 3 2048 224 hk
  have hbd := @acc_bd l 3 2048 224 hk
  have HS := Lib.hid hshort
  have HN := Lib.hid hnot
  have HB := Lib.hid hbad
  have HG := Lib.hid hgood
  have HA := Lib.hid hbd
  have hX : ∀ k, k < l.length → ∀ W, (Instr.index 9 (.string (str l)) (.int .i64 (k : Int))).run Tryz.prog W = .ok (.int .u8 (at0B l k : Int)) W := fun k h W => idx_at l k h W
  have HX := Lib.hid hX
  clear hX hshort hnot hbad hgood hbd hk
  obtain ⟨c0, hc0⟩ : ∃ c0, c0 = at0B l 0 - 224 := ⟨_, rfl⟩
  rw [← hc0] at HA HB HG
  generalize hcc : at0B l 0 = c at *
  have i1 : ¬ (c : Int) < 128 := by omega
  have i2 : (192 : Int) ≤ (c : Int) := by omega
  have i3 : decide ((c : Int) < 224) = false := decide_eq_false (by omega)
  have i4 : (224 : Int) ≤ (c : Int) := by omega
  have i5 : (c : Int) < 240 := by omega
  have HC0 := Lib.hid hc0
  have HCC := Lib.hid hcc
  have hcb : c0 + 224 = c := by omega
  have HCB := Lib.hid hcb
  clear hcc hc0 hcb
  by_cases hlen : l.length < 3
  · have hlI : (l.length : Int) < 3 := by omega
    clear hlen HN HA HG HB HX
    go_enter Tryz.func72, Tryz.ntmps72
    go_wp2_with fail
    go_ret2
    exact firstV_mk (HS.out (by omega)) rfl rfl
  · have hlI : ¬ (l.length : Int) < 3 := by omega
    clear hlen HS
    go_enter Tryz.func72, Tryz.ntmps72
    go_wp2_with fail
    go_loop [6, 8] (FRel l 3 c0) (fun _ i => 3 - (intOf i).toNat)
    case atStart => exact ⟨0, by omega, fun j h1 h2 => by omega, rfl, int_val (by rw [accN0]; have := HCB.out; omega)⟩
    case round =>
      obtain ⟨k, hkn, ht, rfl, rfl⟩ := hrel
      have HT := Lib.hid ht
      clear ht
      by_cases hk : k + 1 < 3
      · have hkI : (k : Int) + 1 < 3 := by omega
        have hkl : k + 1 < l.length := by omega
        have hix : ∀ W, (Instr.index 9 (.string (str l)) (.int .i64 ((k : Int) + 1))).run Tryz.prog W = .ok (.int .u8 (at0B l (k + 1) : Int)) W := fun W => HX.out (k + 1) hkl W
        have hnx := accN_step l c0 k
        have hb := at0B_lt l (k + 1)
        have hno := HN.out (k + 1) (by omega) hk
        have hv := HA.out k hk HT.out
        have htt : 128 ≤ at0B l (k + 1) ∧ at0B l (k + 1) < 192 → Tails l (k + 1 + 1) := fun h j h1 h2 => by
          by_cases e : j = k + 1
          · subst e; exact h
          · exact HT.out j h1 (by omega)
        generalize at0B l (k + 1) = b at hix hnx hb hno htt
        generalize accN l c0 k = v at hnx hv
        have HNX := Lib.hid hnx
        have HNO := Lib.hid hno
        have HTT := Lib.hid htt
        clear hnx hno htt
        cases hy : tailB b with
        | true =>
          have hbb := (tail_iff b).1 hy
          have hb1 : (128 : Int) ≤ (b : Int) := by omega
          have hb2 : (b : Int) < 192 := by omega
          have hvI : (v : Int) ≤ 32767 := by omega
          have HY := Lib.hid hy
          have HBB := Lib.hid hbb
          clear hy hbb hv hb
          go_wp2_with (go_at_call 91; refine (rtail_any _ _).mono ?_; rw [HY.out]; rintro e w' ⟨rfl, rfl⟩)
          go_round
          case rel => exact ⟨k + 1, by omega, HTT.out HBB.out, int_val (by omega), int_val (by rw [HNX.out]; omega)⟩
          case measure => simp [intOf]; omega
        | false =>
          have hbb := (tail_no b).1 hy
          have hd := HNO.out hbb
          have HD := Lib.hid hd
          have HY := Lib.hid hy
          clear hy hbb hd
          go_wp2_with (go_at_call 91; refine (rtail_any _ _).mono ?_; rw [HY.out]; rintro e w' ⟨rfl, rfl⟩)
          go_ret2
          exact firstV_mk HD.out rfl rfl
      · have hkI : ¬ (k : Int) + 1 < 3 := by omega
        obtain rfl : k = 3 - 1 := by omega
        have hbad := HB.out (by omega) HT.out
        have hgood := HG.out (by omega) HT.out
        simp only [Nat.reduceSub] at hbad hgood hkI ⊢
        generalize accN l c0 2 = v at hbad hgood ⊢
        by_cases hv : v < 2048 ∨ 1114111 < v ∨ (55296 ≤ v ∧ v ≤ 57343)
        · have hd := hbad hv
          have HD := Lib.hid hd
          have hc3 : (v : Int) < 2048 ∨ ((2048 : Int) ≤ (v : Int) ∧ (1114111 : Int) < (v : Int)) ∨ ((2048 : Int) ≤ (v : Int) ∧ (v : Int) ≤ 1114111 ∧ (55296 : Int) ≤ (v : Int) ∧ (v : Int) ≤ 57343) := by omega
          clear hbad hgood hv hd
          rcases hc3 with q1 | ⟨q1, q2⟩ | ⟨q1, q2, q3, q4⟩
          · have p1 : decide ((v : Int) < 2048) = true := decide_eq_true q1
            go_wp2_with fail
            go_ret2
            exact firstV_mk HD.out rfl rfl
          · have p1 : decide ((v : Int) < 2048) = false := decide_eq_false (by omega)
            have p2 : decide ((1114111 : Int) < (v : Int)) = true := decide_eq_true q2
            clear q1 q2
            go_wp2_with fail
            go_ret2
            exact firstV_mk HD.out rfl rfl
          · have p1 : decide ((v : Int) < 2048) = false := decide_eq_false (by omega)
            have p2 : decide ((1114111 : Int) < (v : Int)) = false := decide_eq_false (by omega)
            have p3 : decide ((55296 : Int) ≤ (v : Int)) = true := decide_eq_true q3
            have p4 : decide ((v : Int) ≤ 57343) = true := decide_eq_true q4
            clear q1 q2 q3 q4
            go_wp2_with fail
            go_ret2
            exact firstV_mk HD.out rfl rfl
        · have hd := hgood hv
          have HD := Lib.hid hd
          have p1 : decide ((v : Int) < 2048) = false := decide_eq_false (by omega)
          have p2 : decide ((1114111 : Int) < (v : Int)) = false := decide_eq_false (by omega)
          have hc3 : ¬ (55296 : Int) ≤ (v : Int) ∨ ((55296 : Int) ≤ (v : Int) ∧ ¬ (v : Int) ≤ 57343) := by omega
          clear hbad hgood hv hd
          rcases hc3 with q1 | ⟨q1, q2⟩
          · have p3 : decide ((55296 : Int) ≤ (v : Int)) = false := decide_eq_false q1
            clear q1
            go_wp2_with fail
            go_ret2
            exact firstV_mk HD.out rfl rfl
          · have p3 : decide ((55296 : Int) ≤ (v : Int)) = true := decide_eq_true q1
            have p4 : decide ((v : Int) ≤ 57343) = false := decide_eq_false q2
            clear q1 q2
            go_wp2_with fail
            go_ret2
            exact firstV_mk HD.out rfl rfl
set_option maxRecDepth 100000 in
set_option maxHeartbeats 3200000 in
theorem rfirst_4 (l : List UInt8) (w : World) (h0 : 0 < l.length) (hl : l.length ≤ 140737488351232) (h1 : 240 ≤ at0B l 0) (h2 : at0B l 0 < 248) :
    Calls Tryz.prog 72 #[.string (str l)] w (FirstV w l) := by
  have x0 : ∀ W, (Instr.index 9 (.string (str l)) (.int .i64 0)).run Tryz.prog W = .ok (.int .u8 (at0B l 0 : Int)) W := fun W => idx_at l 0 h0 W
  have hk : Kind (at0B l 0) 4 65536 240 := .inr (.inr ⟨rfl, rfl, rfl, h1, h2⟩)
  have hshort := dec_short hk
  have hnot := fun k => @dec_notail l 4 65536 240 k hk
  have hbad := @dec_bad l 4 65536 240 hk
  have hgood := @dec_good l 4 65536 240 hk
  have hbd := @acc_bd l 4 65536 240 hk
  have HS := Lib.hid hshort
  have HN := Lib.hid hnot
  have HB := Lib.hid hbad
  have HG := Lib.hid hgood
  have HA := Lib.hid hbd
  have hX : ∀ k, k < l.length → ∀ W, (Instr.index 9 (.string (str l)) (.int .i64 (k : Int))).run Tryz.prog W = .ok (.int .u8 (at0B l k : Int)) W := fun k h W => idx_at l k h W
  have HX := Lib.hid hX
  clear hX hshort hnot hbad hgood hbd hk
  obtain ⟨c0, hc0⟩ : ∃ c0, c0 = at0B l 0 - 240 := ⟨_, rfl⟩
  rw [← hc0] at HA HB HG
  generalize hcc : at0B l 0 = c at *
  have i1 : ¬ (c : Int) < 128 := by omega
  have i2 : (192 : Int) ≤ (c : Int) := by omega
  have i3 : decide ((c : Int) < 224) = false := decide_eq_false (by omega)
  have i4 : (224 : Int) ≤ (c : Int) := by omega
  have i5 : decide ((c : Int) < 240) = false := decide_eq_false (by omega)
  have i6 : (240 : Int) ≤ (c : Int) := by omega
  have i7 : (c : Int) < 248 := by omega
  have HC0 := Lib.hid hc0
  have HCC := Lib.hid hcc
  have hcb : c0 + 240 = c := by omega
  have HCB := Lib.hid hcb
  clear hcc hc0 hcb
  by_cases hlen : l.length < 4
  · have hlI : (l.length : Int) < 4 := by omega
    clear hlen HN HA HG HB HX
    go_enter Tryz.func72, Tryz.ntmps72
    go_wp2_with fail
    go_ret2
    exact firstV_mk (HS.out (by omega)) rfl rfl
  · have hlI : ¬ (l.length : Int) < 4 := by omega
    clear hlen HS
    go_enter Tryz.func72, Tryz.ntmps72
    go_wp2_with fail
    go_loop [6, 8] (FRel l 4 c0) (fun _ i => 4 - (intOf i).toNat)
    case atStart => exact ⟨0, by omega, fun j h1 h2 => by omega, rfl, int_val (by rw [accN0]; have := HCB.out; omega)⟩
    case round =>
      obtain ⟨k, hkn, ht, rfl, rfl⟩ := hrel
      have HT := Lib.hid ht
      clear ht
      by_cases hk : k + 1 < 4
      · have hkI : (k : Int) + 1 < 4 := by omega
        have hkl : k + 1 < l.length := by omega
        have hix : ∀ W, (Instr.index 9 (.string (str l)) (.int .i64 ((k : Int) + 1))).run Tryz.prog W = .ok (.int .u8 (at0B l (k + 1) : Int)) W := fun W => HX.out (k + 1) hkl W
        have hnx := accN_step l c0 k
        have hb := at0B_lt l (k + 1)
        have hno := HN.out (k + 1) (by omega) hk
        have hv := HA.out k hk HT.out
        have htt : 128 ≤ at0B l (k + 1) ∧ at0B l (k + 1) < 192 → Tails l (k + 1 + 1) := fun h j h1 h2 => by
          by_cases e : j = k + 1
          · subst e; exact h
          · exact HT.out j h1 (by omega)
        generalize at0B l (k + 1) = b at hix hnx hb hno htt
        generalize accN l c0 k = v at hnx hv
        have HNX := Lib.hid hnx
        have HNO := Lib.hid hno
        have HTT := Lib.hid htt
        clear hnx hno htt
        cases hy : tailB b with
        | true =>
          have hbb := (tail_iff b).1 hy
          have hb1 : (128 : Int) ≤ (b : Int) := by omega
          have hb2 : (b : Int) < 192 := by omega
          have hvI : (v : Int) ≤ 32767 := by omega
          have HY := Lib.hid hy
          have HBB := Lib.hid hbb
          clear hy hbb hv hb
          go_wp2_with (go_at_call 91; refine (rtail_any _ _).mono ?_; rw [HY.out]; rintro e w' ⟨rfl, rfl⟩)
          go_round
          case rel => exact ⟨k + 1, by omega, HTT.out HBB.out, int_val (by omega), int_val (by rw [HNX.out]; omega)⟩
          case measure => simp [intOf]; omega
        | false =>
          have hbb := (tail_no b).1 hy
          have hd := HNO.out hbb
          have HD := Lib.hid hd
          have HY := Lib.hid hy
          clear hy hbb hd
          go_wp2_with (go_at_call 91; refine (rtail_any _ _).mono ?_; rw [HY.out]; rintro e w' ⟨rfl, rfl⟩)
          go_ret2
          exact firstV_mk HD.out rfl rfl
      · have hkI : ¬ (k : Int) + 1 < 4 := by omega
        obtain rfl : k = 4 - 1 := by omega
        have hbad := HB.out (by omega) HT.out
        have hgood := HG.out (by omega) HT.out
        simp only [Nat.reduceSub] at hbad hgood hkI ⊢
        generalize accN l c0 3 = v at hbad hgood ⊢
        by_cases hv : v < 65536 ∨ 1114111 < v ∨ (55296 ≤ v ∧ v ≤ 57343)
        · have hd := hbad hv
          have HD := Lib.hid hd
          have hc3 : (v : Int) < 65536 ∨ ((65536 : Int) ≤ (v : Int) ∧ (1114111 : Int) < (v : Int)) ∨ ((65536 : Int) ≤ (v : Int) ∧ (v : Int) ≤ 1114111 ∧ (55296 : Int) ≤ (v : Int) ∧ (v : Int) ≤ 57343) := by omega
          clear hbad hgood hv hd
          rcases hc3 with q1 | ⟨q1, q2⟩ | ⟨q1, q2, q3, q4⟩
          · have p1 : decide ((v : Int) < 65536) = true := decide_eq_true q1
            go_wp2_with fail
            go_ret2
            exact firstV_mk HD.out rfl rfl
          · have p1 : decide ((v : Int) < 65536) = false := decide_eq_false (by omega)
            have p2 : decide ((1114111 : Int) < (v : Int)) = true := decide_eq_true q2
            clear q1 q2
            go_wp2_with fail
            go_ret2
            exact firstV_mk HD.out rfl rfl
          · have p1 : decide ((v : Int) < 65536) = false := decide_eq_false (by omega)
            have p2 : decide ((1114111 : Int) < (v : Int)) = false := decide_eq_false (by omega)
            have p3 : decide ((55296 : Int) ≤ (v : Int)) = true := decide_eq_true q3
            have p4 : decide ((v : Int) ≤ 57343) = true := decide_eq_true q4
            clear q1 q2 q3 q4
            go_wp2_with fail
            go_ret2
            exact firstV_mk HD.out rfl rfl
        · have hd := hgood hv
          have HD := Lib.hid hd
          have p1 : decide ((v : Int) < 65536) = false := decide_eq_false (by omega)
          have p2 : decide ((1114111 : Int) < (v : Int)) = false := decide_eq_false (by omega)
          have hc3 : ¬ (55296 : Int) ≤ (v : Int) ∨ ((55296 : Int) ≤ (v : Int) ∧ ¬ (v : Int) ≤ 57343) := by omega
          clear hbad hgood hv hd
          rcases hc3 with q1 | ⟨q1, q2⟩
          · have p3 : decide ((55296 : Int) ≤ (v : Int)) = false := decide_eq_false q1
            clear q1
            go_wp2_with fail
            go_ret2
            exact firstV_mk HD.out rfl rfl
          · have p3 : decide ((55296 : Int) ≤ (v : Int)) = true := decide_eq_true q1
            have p4 : decide ((v : Int) ≤ 57343) = false := decide_eq_false q2
            clear q1 q2
            go_wp2_with fail
            go_ret2
            exact firstV_mk HD.out rfl rfl
set_option maxHeartbeats 3200000 in
theorem rfirst_any (l : List UInt8) (w : World) (h0 : 0 < l.length) (hl : l.length ≤ 140737488351232) :
    Calls Tryz.prog 72 #[.string (str l)] w (FirstV w l) := by
  have x0 : ∀ W, (Instr.index 9 (.string (str l)) (.int .i64 0)).run Tryz.prog W = .ok (.int .u8 (at0B l 0 : Int)) W := fun W => idx_at l 0 h0 W
  have hc := at0B_lt l 0
  by_cases h128 : at0B l 0 < 128
  · have hd := dec_one h128
    have HD := Lib.hid hd
    generalize at0B l 0 = c at *
    have hI : (c : Int) < 128 := by omega
    clear hd h128
    go_enter Tryz.func72, Tryz.ntmps72
    go_wp2_with fail
    go_ret2
    exact firstV_mk HD.out rfl rfl
  · by_cases k2 : 192 ≤ at0B l 0 ∧ at0B l 0 < 224
    · exact rfirst_2 l w h0 hl k2.1 k2.2
    by_cases k3 : 224 ≤ at0B l 0 ∧ at0B l 0 < 240
    · exact rfirst_3 l w h0 hl k3.1 k3.2
    by_cases k4 : 240 ≤ at0B l 0 ∧ at0B l 0 < 248
    · exact rfirst_4 l w h0 hl k4.1 k4.2
    have hn : (128 ≤ at0B l 0 ∧ at0B l 0 < 192) ∨ 248 ≤ at0B l 0 := by omega
    clear k2 k3 k4
    · have hd := dec_none hn
      have HD := Lib.hid hd
      generalize at0B l 0 = c at *
      have i1 : ¬ (c : Int) < 128 := by omega
      clear hd h128
      rcases hn with ⟨a, b⟩ | a
      · have i2 : decide ((192 : Int) ≤ (c : Int)) = false := decide_eq_false (by omega)
        have i3 : decide ((224 : Int) ≤ (c : Int)) = false := decide_eq_false (by omega)
        have i4 : decide ((240 : Int) ≤ (c : Int)) = false := decide_eq_false (by omega)
        go_enter Tryz.func72, Tryz.ntmps72
        go_wp2_with fail
        go_ret2
        exact firstV_mk HD.out rfl rfl
      · have i2 : (192 : Int) ≤ (c : Int) := by omega
        have j2 : decide ((c : Int) < 224) = false := decide_eq_false (by omega)
        have i3 : (224 : Int) ≤ (c : Int) := by omega
        have j3 : decide ((c : Int) < 240) = false := decide_eq_false (by omega)
        have i4 : (240 : Int) ≤ (c : Int) := by omega
        have j4 : decide ((c : Int) < 248) = false := decide_eq_false (by omega)
        go_enter Tryz.func72, Tryz.ntmps72
        go_wp2_with fail
        go_ret2
        exact firstV_mk HD.out rfl rfl
end Go.Proofs.YtelhdkidnhfnbabGreatDoor
