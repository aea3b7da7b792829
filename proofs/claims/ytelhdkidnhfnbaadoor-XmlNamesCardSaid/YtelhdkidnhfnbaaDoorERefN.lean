/-
  The document's own digits, numbers and signs (newsstandref07): what they answer. Condition: lengths are lengths.
-/
import Derived.Test.YtelhdkidnhfnbaaDoorMgM
import Derived.Test.YtelhdkidnhfnbaaDoorEWMath
namespace Go.Proofs.YtelhdkidnhfnbaaDoor
open Go.RowKit

/-- A digit of a base, or below 0. -/
def digB (b base : Int) : Int := if base ≤ digN b then -1 else digN b
set_option maxHeartbeats 1600000 in
theorem rdigit_any (b base : Int) (h0 : 0 ≤ b) (h1 : b < 256) (hb : 10 ≤ base) (w : World) : Calls Tryd.prog 88 #[.int .u8 b, .int .i64 base] w (Pure w (.int .i64 (digB b base))) := by
  unfold digB
  by_cases c1 : 48 ≤ b ∧ b ≤ 57
  · have hd : digN b = b - 48 := by unfold digN; rw [if_pos c1]
    rw [hd]
    obtain ⟨a1, a2⟩ := c1
    clear hd
    by_cases hg : base ≤ b - 48
    · rw [if_pos hg]
      have hgd : decide (base ≤ b - 48) = true := decide_eq_true hg
      go_enter Tryd.func88, Tryd.ntmps88
      go_wp2_with fail
      go_ret
      exact ⟨rfl, rfl⟩
    · rw [if_neg hg]
      have hgd : decide (base ≤ b - 48) = false := decide_eq_false hg
      go_enter Tryd.func88, Tryd.ntmps88
      go_wp2_with fail
      go_ret
      exact ⟨rfl, rfl⟩
  · by_cases c2 : 97 ≤ b ∧ b ≤ 102
    · have hd : digN b = b - 97 + 10 := by unfold digN; rw [if_neg c1, if_pos c2]
      rw [hd]
      obtain ⟨a1, a2⟩ := c2
      have e1 : ¬ b ≤ 57 := by omega
      have e2 : 48 ≤ b := by omega
      clear hd c1
      by_cases hg : base ≤ b - 97 + 10
      · rw [if_pos hg]
        have hgd : decide (base ≤ b - 97 + 10) = true := decide_eq_true hg
        go_enter Tryd.func88, Tryd.ntmps88
        go_wp2_with fail
        go_ret
        exact ⟨rfl, rfl⟩
      · rw [if_neg hg]
        have hgd : decide (base ≤ b - 97 + 10) = false := decide_eq_false hg
        go_enter Tryd.func88, Tryd.ntmps88
        go_wp2_with fail
        go_ret
        exact ⟨rfl, rfl⟩
    · by_cases c3 : 65 ≤ b ∧ b ≤ 70
      · have hd : digN b = b - 65 + 10 := by unfold digN; rw [if_neg c1, if_neg c2, if_pos c3]
        rw [hd]
        obtain ⟨a1, a2⟩ := c3
        have e1 : ¬ b ≤ 57 := by omega
        have e2 : 48 ≤ b := by omega
        have e3 : ¬ 97 ≤ b := by omega
        clear hd c1 c2
        by_cases hg : base ≤ b - 65 + 10
        · rw [if_pos hg]
          have hgd : decide (base ≤ b - 65 + 10) = true := decide_eq_true hg
          go_enter Tryd.func88, Tryd.ntmps88
          go_wp2_with fail
          go_ret
          exact ⟨rfl, rfl⟩
        · rw [if_neg hg]
          have hgd : decide (base ≤ b - 65 + 10) = false := decide_eq_false hg
          go_enter Tryd.func88, Tryd.ntmps88
          go_wp2_with fail
          go_ret
          exact ⟨rfl, rfl⟩
      · have hd : digN b = -1 := by unfold digN; rw [if_neg c1, if_neg c2, if_neg c3]
        rw [hd, if_neg (by omega)]
        clear hd
        have hgd : decide (base ≤ -1) = false := decide_eq_false (by omega)
        by_cases e1 : 48 ≤ b
        · have f1 : ¬ b ≤ 57 := fun h => c1 ⟨e1, h⟩
          by_cases e2 : 97 ≤ b
          · have f2 : ¬ b ≤ 102 := fun h => c2 ⟨e2, h⟩
            have e3 : 65 ≤ b := by omega
            have f3 : ¬ b ≤ 70 := by omega
            clear c1 c2 c3
            go_enter Tryd.func88, Tryd.ntmps88
            go_wp2_with fail
            go_ret
            exact ⟨rfl, rfl⟩
          · by_cases e3 : 65 ≤ b
            · have f3 : ¬ b ≤ 70 := fun h => c3 ⟨e3, h⟩
              clear c1 c2 c3
              go_enter Tryd.func88, Tryd.ntmps88
              go_wp2_with fail
              go_ret
              exact ⟨rfl, rfl⟩
            · clear c1 c2 c3
              go_enter Tryd.func88, Tryd.ntmps88
              go_wp2_with fail
              go_ret
              exact ⟨rfl, rfl⟩
        · have e2 : ¬ 97 ≤ b := by omega
          have e3 : ¬ 65 ≤ b := by omega
          clear c1 c2 c3
          go_enter Tryd.func88, Tryd.ntmps88
          go_wp2_with fail
          go_ret
          exact ⟨rfl, rfl⟩

/-- What number answers: below 0 if it is none. -/
def numV : Option Int → Int
  | some n => n
  | none => -1
theorem digB_step (base : Int) (c m : Int) : (digB c base < 0 ∧ numStep base (some m) c = none) ∨ (0 ≤ digB c base ∧ digB c base < base ∧ digB c base ≤ 15 ∧ numStep base (some m) c = some (m * base + digB c base)) := by
  have h := digN_bd c
  rw [numStep_some]
  unfold digB
  by_cases h1 : base ≤ digN c
  · left
    rw [if_pos h1, if_pos (.inr h1)]
    exact ⟨by decide, rfl⟩
  · rw [if_neg h1]
    by_cases h2 : digN c < 0
    · left
      rw [if_pos (.inl h2)]
      exact ⟨h2, rfl⟩
    · right
      rw [if_neg (by omega)]
      exact ⟨by omega, by omega, by omega, rfl⟩

def RNumRel16 (l : List UInt8) (u7 u8 : Value) : Prop :=
  ∃ (k : Nat) (m : Int), k ≤ l.length ∧ u8 = .int .i64 (k : Int) ∧ u7 = .int .i64 m ∧ 0 ≤ m ∧ m < 16 ^ k ∧ (l.map fun b => (b.toNat : Int)).foldl (numStep 16) (some 0) = ((l.drop k).map fun b => (b.toNat : Int)).foldl (numStep 16) (some m)
set_option maxHeartbeats 1600000 in
theorem rnumber_16 (l : List UInt8) (w : World) (hl : l.length ≤ maxLen) : Calls Tryd.prog 79 #[.string (str l), .int .i64 16, .int .i64 6] w (Pure w (.int .i64 (numV (numB 16 6 l)))) := by
  unfold maxLen at hl
  by_cases h0 : (l.length : Int) < 1
  · have HV : Hid (numB 16 6 l = none) := Lib.hid (by unfold numB; rw [if_pos (by omega)])
    go_enter Tryd.func79, Tryd.ntmps79
    go_wp2_with fail
    go_ret
    exact ⟨by rw [HV.out]; rfl, rfl⟩
  · have h0d : decide ((l.length : Int) < 1) = false := decide_eq_false h0
    by_cases hm : (6 : Int) < (l.length : Int)
    · have HV : Hid (numB 16 6 l = none) := Lib.hid (by unfold numB; rw [if_pos (by omega)])
      go_enter Tryd.func79, Tryd.ntmps79
      go_wp2_with fail
      go_ret
      exact ⟨by rw [HV.out]; rfl, rfl⟩
    · have hmd : decide ((6 : Int) < (l.length : Int)) = false := decide_eq_false hm
      have HV : Hid (numB 16 6 l = (l.map fun b => (b.toNat : Int)).foldl (numStep 16) (some 0)) := Lib.hid (by unfold numB numS; rw [if_neg (by omega)])
      have hl6 : l.length ≤ 6 := by omega
      go_enter Tryd.func79, Tryd.ntmps79
      go_wp2_with fail
      go_loop [7, 8] (RNumRel16 l) (fun _ u8 => l.length - (intOf u8).toNat)
      case atStart => exact ⟨0, 0, Nat.zero_le _, rfl, rfl, Int.le_refl _, by decide, rfl⟩
      case round =>
        obtain ⟨k, m, hk, rfl, rfl, hm0, hm1, hj⟩ := hrel
        by_cases hkl : k < l.length
        · have hix := idx_at l k hkl
          have hx : at0B l k = l[k].toNat := by unfold at0B; rw [show l.getD k 0 = l[k] by simp [List.getD, hkl]]
          rw [hx] at hix
          rw [drop_cons hkl, List.map_cons, List.foldl_cons] at hj
          have hx1 : (l[k].toNat : Int) < 256 := by have := l[k].toNat_lt; omega
          have hst := digB_step 16 (l[k].toNat : Int) m
          have kd := rdigit_any (l[k].toNat : Int) 16 (by omega) hx1 (by decide)
          generalize hxx : ((l[k].toNat : Nat) : Int) = x at *
          have hp := pow_16 k (by omega)
          have hms : m ≤ 1048575 := by omega
          have HM1 := Lib.hid hm1
          have hi : (k : Int) < (l.length : Int) := by omega
          generalize hq : digB x 16 = q at *
          have KD := Lib.hid kd
          clear kd hq hxx hx hx1 hm1 hp
          rcases hst with ⟨q0, e⟩ | ⟨q0, q2, q1, e⟩
          · rw [e, numS_none] at hj
            have HJ := Lib.hid hj
            clear hj e
            go_wp2_with (go_at_call 88; refine (KD.out _).mono ?_; rintro e w' ⟨rfl, rfl⟩)
            go_ret
            exact ⟨by rw [HV.out, HJ.out]; rfl, rfl⟩
          · rw [e] at hj
            have HJ := Lib.hid hj
            have qd : decide (q < 0) = false := decide_eq_false (by omega)
            clear hj e
            go_wp2_with (go_at_call 88; refine (KD.out _).mono ?_; rintro e w' ⟨rfl, rfl⟩)
            go_round
            case rel =>
              refine ⟨k + 1, m * 16 + q, by omega, by go_num, int_val (by omega), by omega, ?_, HJ.out⟩
              rw [Int.pow_succ]
              have := HM1.out
              omega
            case measure => simp [intOf]; omega
        · have hke : k = l.length := by omega
          subst hke
          rw [List.drop_length] at hj
          have hj2 : (l.map fun b => (b.toNat : Int)).foldl (numStep 16) (some 0) = some m := hj
          have HJ := Lib.hid hj2
          clear hj hj2 hm1
          go_wp2_with fail
          go_ret
          exact ⟨by rw [HV.out, HJ.out]; rfl, rfl⟩

def RNumRel10 (l : List UInt8) (u7 u8 : Value) : Prop :=
  ∃ (k : Nat) (m : Int), k ≤ l.length ∧ u8 = .int .i64 (k : Int) ∧ u7 = .int .i64 m ∧ 0 ≤ m ∧ m < 10 ^ k ∧ (l.map fun b => (b.toNat : Int)).foldl (numStep 10) (some 0) = ((l.drop k).map fun b => (b.toNat : Int)).foldl (numStep 10) (some m)
set_option maxHeartbeats 1600000 in
theorem rnumber_10 (l : List UInt8) (w : World) (hl : l.length ≤ maxLen) : Calls Tryd.prog 79 #[.string (str l), .int .i64 10, .int .i64 7] w (Pure w (.int .i64 (numV (numB 10 7 l)))) := by
  unfold maxLen at hl
  by_cases h0 : (l.length : Int) < 1
  · have HV : Hid (numB 10 7 l = none) := Lib.hid (by unfold numB; rw [if_pos (by omega)])
    go_enter Tryd.func79, Tryd.ntmps79
    go_wp2_with fail
    go_ret
    exact ⟨by rw [HV.out]; rfl, rfl⟩
  · have h0d : decide ((l.length : Int) < 1) = false := decide_eq_false h0
    by_cases hm : (7 : Int) < (l.length : Int)
    · have HV : Hid (numB 10 7 l = none) := Lib.hid (by unfold numB; rw [if_pos (by omega)])
      go_enter Tryd.func79, Tryd.ntmps79
      go_wp2_with fail
      go_ret
      exact ⟨by rw [HV.out]; rfl, rfl⟩
    · have hmd : decide ((7 : Int) < (l.length : Int)) = false := decide_eq_false hm
      have HV : Hid (numB 10 7 l = (l.map fun b => (b.toNat : Int)).foldl (numStep 10) (some 0)) := Lib.hid (by unfold numB numS; rw [if_neg (by omega)])
      have hl6 : l.length ≤ 7 := by omega
      go_enter Tryd.func79, Tryd.ntmps79
      go_wp2_with fail
      go_loop [7, 8] (RNumRel10 l) (fun _ u8 => l.length - (intOf u8).toNat)
      case atStart => exact ⟨0, 0, Nat.zero_le _, rfl, rfl, Int.le_refl _, by decide, rfl⟩
      case round =>
        obtain ⟨k, m, hk, rfl, rfl, hm0, hm1, hj⟩ := hrel
        by_cases hkl : k < l.length
        · have hix := idx_at l k hkl
          have hx : at0B l k = l[k].toNat := by unfold at0B; rw [show l.getD k 0 = l[k] by simp [List.getD, hkl]]
          rw [hx] at hix
          rw [drop_cons hkl, List.map_cons, List.foldl_cons] at hj
          have hx1 : (l[k].toNat : Int) < 256 := by have := l[k].toNat_lt; omega
          have hst := digB_step 10 (l[k].toNat : Int) m
          have kd := rdigit_any (l[k].toNat : Int) 10 (by omega) hx1 (by decide)
          generalize hxx : ((l[k].toNat : Nat) : Int) = x at *
          have hp := pow_10 k (by omega)
          have hms : m ≤ 999999 := by omega
          have HM1 := Lib.hid hm1
          have hi : (k : Int) < (l.length : Int) := by omega
          generalize hq : digB x 10 = q at *
          have KD := Lib.hid kd
          clear kd hq hxx hx hx1 hm1 hp
          rcases hst with ⟨q0, e⟩ | ⟨q0, q2, q1, e⟩
          · rw [e, numS_none] at hj
            have HJ := Lib.hid hj
            clear hj e
            go_wp2_with (go_at_call 88; refine (KD.out _).mono ?_; rintro e w' ⟨rfl, rfl⟩)
            go_ret
            exact ⟨by rw [HV.out, HJ.out]; rfl, rfl⟩
          · rw [e] at hj
            have HJ := Lib.hid hj
            have qd : decide (q < 0) = false := decide_eq_false (by omega)
            clear hj e
            go_wp2_with (go_at_call 88; refine (KD.out _).mono ?_; rintro e w' ⟨rfl, rfl⟩)
            go_round
            case rel =>
              refine ⟨k + 1, m * 10 + q, by omega, by go_num, int_val (by omega), by omega, ?_, HJ.out⟩
              rw [Int.pow_succ]
              have := HM1.out
              omega
            case measure => simp [intOf]; omega
        · have hke : k = l.length := by omega
          subst hke
          rw [List.drop_length] at hj
          have hj2 : (l.map fun b => (b.toNat : Int)).foldl (numStep 10) (some 0) = some m := hj
          have HJ := Lib.hid hj2
          clear hj hj2 hm1
          go_wp2_with fail
          go_ret
          exact ⟨by rw [HV.out, HJ.out]; rfl, rfl⟩
end Go.Proofs.YtelhdkidnhfnbaaDoor
