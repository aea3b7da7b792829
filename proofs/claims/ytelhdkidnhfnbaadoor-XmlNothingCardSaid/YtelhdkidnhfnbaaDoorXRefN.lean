/-
  Names of tags (newsstandref08.name, Name): the document's. Condition: lengths are lengths.
-/
import Derived.Test.YtelhdkidnhfnbaaDoorXName
import Derived.BigQuiet
namespace Go.Proofs.YtelhdkidnhfnbaaDoor
open Go.RowKit

/-- How many bytes of a name stand first, whether or not one begins. -/
def nameN (l : List UInt8) : Nat := 1 + ((l.drop 1).takeWhile fun b => inN (b.toNat : Int)).length
/-- What name answers: the name that stands first, and the rest. -/
def nameV (l : List UInt8) : List UInt8 × List UInt8 := match l with
  | [] => ([], [])
  | b :: t => if beginN (b.toNat : Int) = false ∨ 64 < nameN (b :: t) then ([], b :: t) else ((b :: t).take (nameN (b :: t)), (b :: t).drop (nameN (b :: t)))
theorem tw_at (p : UInt8 → Bool) : ∀ (t : List UInt8) (j : Nat), j ≤ t.length → (t.take j).all p = true → (∀ h : j < t.length, p t[j] = false) → (t.takeWhile p).length = j
  | [], j, h, _, _ => by
    have : j = 0 := by simpa using h
    rw [this]
    rfl
  | b :: t, 0, _, _, h => by
    have := h (by simp)
    rw [List.takeWhile_cons_of_neg (by rw [show p b = false from this]; decide)]
    rfl
  | b :: t, j + 1, hj, ha, hn => by
    rw [List.take_succ_cons, List.all_cons, Bool.and_eq_true] at ha
    rw [List.takeWhile_cons_of_pos (by exact ha.1), List.length_cons, tw_at p t j (by simpa using hj) ha.2 (fun h => hn (by simpa using h))]
theorem nameN_at {l : List UInt8} {k : Nat} (h1 : 1 ≤ k) (hk : k ≤ l.length) (ha : ((l.drop 1).take (k - 1)).all (fun b => inN (b.toNat : Int)) = true) (hn : ∀ h : k < l.length, inN (l[k].toNat : Int) = false) : nameN l = k := by
  unfold nameN
  rw [tw_at _ _ (k - 1) (by rw [List.length_drop]; omega) ha (fun h => by
    rw [List.length_drop] at h
    have e : (l.drop 1)[k - 1]'(by rw [List.length_drop]; exact h) = l[k]'(by omega) := by rw [List.getElem_drop]; congr 1; omega
    rw [e]
    exact hn (by omega))]
  omega
theorem nameV_none {l : List UInt8} (h : 0 < l.length) (hb : beginN (l[0].toNat : Int) = false) : nameV l = ([], l) := by
  cases l with
  | nil => cases h
  | cons b t => unfold nameV; simp only; rw [if_pos (.inl hb)]
theorem nameV_long {l : List UInt8} (h : 0 < l.length) (hn : 64 < nameN l) : nameV l = ([], l) := by
  cases l with
  | nil => cases h
  | cons b t => unfold nameV; simp only; rw [if_pos (.inr hn)]
theorem nameV_some {l : List UInt8} (h : 0 < l.length) (hb : beginN (l[0].toNat : Int) = true) (hn : ¬ 64 < nameN l) : nameV l = (l.take (nameN l), l.drop (nameN l)) := by
  cases l with
  | nil => cases h
  | cons b t => unfold nameV; simp only; rw [if_neg (by rw [show beginN (b.toNat : Int) = true from hb]; simpa using hn)]
theorem tw_less (p : UInt8 → Bool) : ∀ t : List UInt8, t.all p = false → (t.takeWhile p).length < t.length
  | [], h => by cases h
  | b :: t, h => by
    cases hb : p b with
    | false => rw [List.takeWhile_cons_of_neg (by rw [hb]; decide)]; simp
    | true =>
      rw [List.all_cons, hb, Bool.true_and] at h
      rw [List.takeWhile_cons_of_pos hb, List.length_cons, List.length_cons]
      have := tw_less p t h
      omega
/-- A name is what name takes whole. -/
theorem nameX_eq (l : List UInt8) : nameX l = (!((nameV l).1 == []) && ((nameV l).2 == [])) := by
  cases l with
  | nil => rfl
  | cons b t =>
    cases hb : beginN (b.toNat : Int) with
    | false => rw [nameV_none (l := b :: t) (by simp) hb, nameX_nobegin (l := b :: t) (by simp) hb]; rfl
    | true =>
      have hin : inN (b.toNat : Int) = true := by unfold inN; rw [hb]; rfl
      have hn : nameN (b :: t) = 1 + (t.takeWhile fun b => inN (b.toNat : Int)).length := rfl
      cases ha : t.all fun b => inN (b.toNat : Int) with
      | true =>
        have hm : (t.takeWhile fun b => inN (b.toNat : Int)).length = t.length := tw_at _ t t.length (Nat.le_refl _) (by rw [List.take_length]; exact ha) (fun h => absurd h (by omega))
        rw [hm] at hn
        by_cases h64 : 64 < nameN (b :: t)
        · rw [nameV_long (l := b :: t) (by simp) h64, nameX_long (l := b :: t) (by rw [List.length_cons]; omega)]
          rfl
        · rw [nameV_some (l := b :: t) (by simp) hb h64, nameX_yes (l := b :: t) (by simp) (by rw [List.length_cons]; omega) hb (by rw [List.all_cons, hin, ha]; rfl), hn]
          rw [List.take_of_length_le (by rw [List.length_cons]; omega), List.drop_of_length_le (by rw [List.length_cons]; omega)]
          rfl
      | false =>
        have hm := tw_less _ t ha
        have hx : nameX (b :: t) = false := by
          unfold nameX
          simp only
          rw [List.all_cons, ha, Bool.and_false, Bool.and_false]
        rw [hx]
        by_cases h64 : 64 < nameN (b :: t)
        · rw [nameV_long (l := b :: t) (by simp) h64]
          rfl
        · rw [nameV_some (l := b :: t) (by simp) hb h64]
          have hd : ((b :: t).drop (nameN (b :: t)) == []) = false := by
            have hl : 0 < ((b :: t).drop (nameN (b :: t))).length := by rw [List.length_drop, List.length_cons]; omega
            cases hq : (b :: t).drop (nameN (b :: t)) with
            | nil => rw [hq] at hl; cases hl
            | cons x y => rfl
          rw [hd, Bool.and_false]

/-! ### the document's -/
theorem rbegin_any (b : Int) (w : World) : Calls Tryd.prog 55 #[.int .u8 b] w (Pure w (.bool (beginN b))) := by
  by_cases c1 : 65 ≤ b ∧ b ≤ 90
  · rw [(begin_iff b).2 (.inl c1)]
    have d1 : decide (65 ≤ b) = true := decide_eq_true (by omega)
    have d2 : decide (b ≤ 90) = true := decide_eq_true (by omega)
    clear c1
    go_enter Tryd.func55, Tryd.ntmps55
    go_wp2_with fail
    go_ret
    exact ⟨rfl, rfl⟩
  · by_cases c2 : 97 ≤ b ∧ b ≤ 122
    · rw [(begin_iff b).2 (.inr (.inl c2))]
      have d1 : decide (65 ≤ b) = true := decide_eq_true (by omega)
      have d2 : decide (b ≤ 90) = false := decide_eq_false (by omega)
      have d3 : decide (97 ≤ b) = true := decide_eq_true (by omega)
      have d4 : decide (b ≤ 122) = true := decide_eq_true (by omega)
      clear c1 c2
      go_enter Tryd.func55, Tryd.ntmps55
      go_wp2_with fail
      go_ret
      exact ⟨rfl, rfl⟩
    · by_cases c3 : b = 95
      · subst c3
        clear c1 c2
        go_enter Tryd.func55, Tryd.ntmps55
        go_wp2_with fail
        go_ret
        exact ⟨rfl, rfl⟩
      · have hv : beginN b = false := by
          cases h : beginN b with
          | false => rfl
          | true => have := (begin_iff b).1 h; omega
        rw [hv]
        have d5 : (b == 95) = false := by simpa using c3
        clear hv
        by_cases e1 : 65 ≤ b
        · have d1 : decide (65 ≤ b) = true := decide_eq_true e1
          have d2 : decide (b ≤ 90) = false := decide_eq_false (by omega)
          by_cases e2 : 97 ≤ b
          · have d3 : decide (97 ≤ b) = true := decide_eq_true e2
            have d4 : decide (b ≤ 122) = false := decide_eq_false (by omega)
            clear c1 c2 c3 e1 e2
            go_enter Tryd.func55, Tryd.ntmps55
            go_wp2_with fail
            go_ret
            exact ⟨rfl, rfl⟩
          · have d3 : decide (97 ≤ b) = false := decide_eq_false e2
            clear c1 c2 c3 e1 e2
            go_enter Tryd.func55, Tryd.ntmps55
            go_wp2_with fail
            go_ret
            exact ⟨rfl, rfl⟩
        · have d1 : decide (65 ≤ b) = false := decide_eq_false e1
          have d3 : decide (97 ≤ b) = false := decide_eq_false (by omega)
          clear c1 c2 c3 e1
          go_enter Tryd.func55, Tryd.ntmps55
          go_wp2_with fail
          go_ret
          exact ⟨rfl, rfl⟩
theorem rmore_any (b : Int) (w : World) : Calls Tryd.prog 56 #[.int .u8 b] w (Pure w (.bool (inN b))) := by
  have k1 := fun W => rbegin_any b W
  unfold inN btwX
  generalize beginN b = b1 at *
  have K1 := Lib.hid k1
  clear k1
  cases b1 with
  | true =>
    go_enter Tryd.func56, Tryd.ntmps56
    go_wp2_with fail
    refine (K1.out _).mono ?_
    rintro e w' ⟨rfl, rfl⟩
    go_wp2_with fail
    go_ret
    exact ⟨rfl, rfl⟩
  | false =>
    by_cases e1 : 48 ≤ b
    · by_cases e2 : b ≤ 57
      · rw [decide_eq_true e1, decide_eq_true e2]
        go_enter Tryd.func56, Tryd.ntmps56
        go_wp2_with fail
        refine (K1.out _).mono ?_
        rintro e w' ⟨rfl, rfl⟩
        go_wp2_with fail
        go_ret
        exact ⟨rfl, rfl⟩
      · rw [decide_eq_true e1, decide_eq_false e2]
        have g1 : decide (48 ≤ b) = true := decide_eq_true e1
        have g2 : decide (b ≤ 57) = false := decide_eq_false e2
        by_cases c58 : b = 58
        · subst c58
          go_enter Tryd.func56, Tryd.ntmps56
          go_wp2_with fail
          refine (K1.out _).mono ?_
          rintro e w' ⟨rfl, rfl⟩
          go_wp2_with fail
          go_ret
          exact ⟨rfl, rfl⟩
        · have d58 : (b == 58) = false := by simpa using c58
          by_cases c45 : b = 45
          · subst c45
            exact absurd e1 (by decide)
          · have d45 : (b == 45) = false := by simpa using c45
            by_cases c46 : b = 46
            · subst c46
              exact absurd e1 (by decide)
            · have d46 : (b == 46) = false := by simpa using c46
              rw [d58, d45, d46]
              go_enter Tryd.func56, Tryd.ntmps56
              go_wp2_with fail
              refine (K1.out _).mono ?_
              rintro e w' ⟨rfl, rfl⟩
              go_wp2_with fail
              go_ret
              exact ⟨rfl, rfl⟩
    · rw [decide_eq_false e1]
      have g1 : decide (48 ≤ b) = false := decide_eq_false e1
      by_cases c58 : b = 58
      · subst c58
        exact absurd (by decide) e1
      · have d58 : (b == 58) = false := by simpa using c58
        by_cases c45 : b = 45
        · subst c45
          go_enter Tryd.func56, Tryd.ntmps56
          go_wp2_with fail
          refine (K1.out _).mono ?_
          rintro e w' ⟨rfl, rfl⟩
          go_wp2_with fail
          go_ret
          exact ⟨rfl, rfl⟩
        · have d45 : (b == 45) = false := by simpa using c45
          by_cases c46 : b = 46
          · subst c46
            go_enter Tryd.func56, Tryd.ntmps56
            go_wp2_with fail
            refine (K1.out _).mono ?_
            rintro e w' ⟨rfl, rfl⟩
            go_wp2_with fail
            go_ret
            exact ⟨rfl, rfl⟩
          · have d46 : (b == 46) = false := by simpa using c46
            rw [d58, d45, d46]
            go_enter Tryd.func56, Tryd.ntmps56
            go_wp2_with fail
            refine (K1.out _).mono ?_
            rintro e w' ⟨rfl, rfl⟩
            go_wp2_with fail
            go_ret
            exact ⟨rfl, rfl⟩
def RNmRel (l : List UInt8) (u : Value) : Prop := ∃ k : Nat, 1 ≤ k ∧ k ≤ l.length ∧ ((l.drop 1).take (k - 1)).all (fun b => inN (b.toNat : Int)) = true ∧ u = .int .i64 (k : Int)
set_option maxHeartbeats 1600000 in
theorem rname_any (l : List UInt8) (w : World) (hl : l.length ≤ maxLen) : Calls Tryd.prog 30 #[.string (str l)] w (Made w (.tuple #[.string (str (nameV l).1), .string (str (nameV l).2)])) := by
  unfold maxLen at hl
  by_cases h0 : l = []
  · subst h0
    clear hl
    go_enter Tryd.func30, Tryd.ntmps30
    go_wp2_with fail
    go_ret2
    exact ⟨rfl, Below.refl _ _⟩
  · have hlp : 0 < l.length := List.length_pos_iff.2 h0
    have hlz : ((l.length : Int) == 0) = false := by simpa using h0
    have hix := idx_at l 0 hlp
    have hxx : at0B l 0 = l[0].toNat := by unfold at0B; rw [show l.getD 0 0 = l[0] by simp [List.getD, hlp]]
    rw [hxx, show ((0 : Nat) : Int) = 0 from rfl] at hix
    have kb := fun W => rbegin_any (l[0].toNat : Int) W
    cases hb : beginN (l[0].toNat : Int) with
    | false =>
      have HV := Lib.hid (nameV_none hlp hb)
      rw [hb] at kb
      generalize ((l[0].toNat : Nat) : Int) = x at *
      have KB := Lib.hid kb
      clear kb hb h0 hxx
      go_enter Tryd.func30, Tryd.ntmps30
      go_wp2_with fail
      refine (KB.out _).mono ?_
      rintro e w' ⟨rfl, rfl⟩
      go_wp2_with fail
      go_ret2
      exact ⟨by rw [HV.out]; rfl, Below.refl _ _⟩
    | true =>
      have HV := Lib.hid (fun hn => nameV_some hlp hb hn)
      have HVL := Lib.hid (fun hn => nameV_long (l := l) hlp hn)
      rw [hb] at kb
      generalize ((l[0].toNat : Nat) : Int) = x at *
      have KB := Lib.hid kb
      clear kb hb h0 hxx
      go_enter Tryd.func30, Tryd.ntmps30
      go_wp2_with fail
      refine (KB.out _).mono ?_
      rintro e w' ⟨rfl, rfl⟩
      go_wp2_with fail
      go_loop [4] (RNmRel l) (fun u => l.length - (intOf u).toNat)
      case atStart => exact ⟨1, Nat.le_refl _, by omega, rfl, rfl⟩
      case round =>
        obtain ⟨k, hk1, hk, hal, rfl⟩ := hrel
        by_cases hkl : k < l.length
        · have hkI : (k : Int) < (l.length : Int) := by omega
          have hky := idx_at l k hkl
          have hyy : at0B l k = l[k].toNat := by unfold at0B; rw [show l.getD k 0 = l[k] by simp [List.getD, hkl]]
          rw [hyy] at hky
          have km := fun W => rmore_any (l[k].toNat : Int) W
          cases hm : inN (l[k].toNat : Int) with
          | false =>
            have HN := Lib.hid (nameN_at hk1 hk hal (fun _ => hm))
            rw [hm] at km
            generalize ((l[k].toNat : Nat) : Int) = y at *
            have KM := Lib.hid km
            clear km hm hal hyy
            by_cases h64 : (64 : Int) < (k : Int)
            · have HX := Lib.hid (HVL.out (by rw [HN.out]; omega))
              go_wp2_with (go_at_call 56; refine (KM.out _).mono ?_; rintro e w' ⟨rfl, rfl⟩)
              go_ret2
              exact ⟨by rw [HX.out]; rfl, Below.refl _ _⟩
            · have HX := Lib.hid (HV.out (by rw [HN.out]; omega))
              have hd64 : decide ((64 : Int) < (k : Int)) = false := decide_eq_false h64
              have s1 := slf l k hk
              have s2 := slt l k hk
              go_wp2_with (go_at_call 56; refine (KM.out _).mono ?_; rintro e w' ⟨rfl, rfl⟩)
              go_quiet (fail)
              go_wp2_with fail
              go_ret2
              exact ⟨by rw [HX.out, HN.out]; rfl, below_drewN (Below.refl _ _) _⟩
          | true =>
            have ha2 : ((l.drop 1).take (k + 1 - 1)).all (fun b => inN (b.toNat : Int)) = true := by
              have hp : k - 1 < (l.drop 1).length := by rw [List.length_drop]; omega
              have e : (l.drop 1)[k - 1] = l[k] := by rw [List.getElem_drop]; congr 1; omega
              rw [show k + 1 - 1 = k - 1 + 1 by omega, List.take_succ_eq_append_getElem hp, List.all_append, hal, List.all_cons, List.all_nil, e, hm]
              rfl
            rw [hm] at km
            generalize ((l[k].toNat : Nat) : Int) = y at *
            have KM := Lib.hid km
            have HA := Lib.hid ha2
            clear km hm hal hyy ha2
            go_wp2_with (go_at_call 56; refine (KM.out _).mono ?_; rintro e w' ⟨rfl, rfl⟩)
            go_round
            case rel => exact ⟨k + 1, by omega, by omega, HA.out, by go_num⟩
            case measure => simp [intOf]; omega
        · have HN := Lib.hid (nameN_at hk1 hk hal (fun h => absurd h hkl))
          have hke : decide ((k : Int) < (l.length : Int)) = false := decide_eq_false (by omega)
          clear hal
          by_cases h64 : (64 : Int) < (k : Int)
          · have HX := Lib.hid (HVL.out (by rw [HN.out]; omega))
            go_wp2_with fail
            go_ret2
            exact ⟨by rw [HX.out]; rfl, Below.refl _ _⟩
          · have HX := Lib.hid (HV.out (by rw [HN.out]; omega))
            have hd64 : decide ((64 : Int) < (k : Int)) = false := decide_eq_false h64
            have s1 := slf l k hk
            have s2 := slt l k hk
            go_wp2_with fail
            go_quiet (fail)
            go_wp2_with fail
            go_ret2
            exact ⟨by rw [HX.out, HN.out]; rfl, below_drewN (Below.refl _ _) _⟩
theorem rnamex_any (l : List UInt8) (w : World) (hl : l.length ≤ maxLen) : Calls Tryd.prog 16 #[.string (str l)] w (Made w (.bool (nameX l))) := by
  have k1 := rname_any l w hl
  rw [nameX_eq]
  generalize nameV l = v at *
  obtain ⟨a, b⟩ := v
  dsimp only at *
  have K1 := Lib.hid k1
  clear k1 hl
  cases a with
  | nil =>
    go_enter Tryd.func16, Tryd.ntmps16
    go_wp2_with fail
    refine K1.out.mono ?_
    rintro e w1 ⟨rfl, b1⟩
    go_wp2_with fail
    go_ret
    exact ⟨rfl, b1⟩
  | cons x y =>
    cases b with
    | nil =>
      go_enter Tryd.func16, Tryd.ntmps16
      go_wp2_with fail
      refine K1.out.mono ?_
      rintro e w1 ⟨rfl, b1⟩
      go_wp2_with fail
      go_ret
      exact ⟨rfl, b1⟩
    | cons z t =>
      go_enter Tryd.func16, Tryd.ntmps16
      go_wp2_with fail
      refine K1.out.mono ?_
      rintro e w1 ⟨rfl, b1⟩
      go_wp2_with fail
      go_ret
      exact ⟨rfl, b1⟩
end Go.Proofs.YtelhdkidnhfnbaaDoor
