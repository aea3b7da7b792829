/-
  Names of tags (xml.Name): the program's. Condition: none.
-/
import Derived.Test.YtelhdkidnhfnbaaDoorEWMath
import Derived.Test.YtelhdkidnhfnbaaDoorENum
import Derived.Test.YtelhdkidnhfnbaaDoorMgF
namespace Go.Proofs.YtelhdkidnhfnbaaDoor
open Go.RowKit
open Go.Lib (decodeL encodeRune)

/-! ### in plain words -/
def btwX (a b c : Int) : Bool := decide (a ≤ c) && decide (c ≤ b)
def beginN (c : Int) : Bool := (btwX 65 90 c || btwX 97 122 c) || (c == 95)
def inN (c : Int) : Bool := (((beginN c || btwX 48 57 c) || (c == 58)) || (c == 45)) || (c == 46)
/-- Whether bytes are a name. -/
def nameX (l : List UInt8) : Bool := match l with
  | [] => false
  | b :: t => (decide ((b :: t).length ≤ 64) && beginN (b.toNat : Int)) && (b :: t).all fun b => inN (b.toNat : Int)
theorem btw_iff (a b c : Int) : btwX a b c = true ↔ a ≤ c ∧ c ≤ b := by unfold btwX; rw [Bool.and_eq_true, decide_eq_true_eq, decide_eq_true_eq]
theorem begin_iff (c : Int) : beginN c = true ↔ (65 ≤ c ∧ c ≤ 90) ∨ (97 ≤ c ∧ c ≤ 122) ∨ c = 95 := by
  unfold beginN
  rw [Bool.or_eq_true, Bool.or_eq_true, btw_iff, btw_iff, beq_iff_eq]
  omega
theorem in_iff (c : Int) : inN c = true ↔ (65 ≤ c ∧ c ≤ 90) ∨ (97 ≤ c ∧ c ≤ 122) ∨ c = 95 ∨ (48 ≤ c ∧ c ≤ 57) ∨ c = 58 ∨ c = 45 ∨ c = 46 := by
  unfold inN
  rw [Bool.or_eq_true, Bool.or_eq_true, Bool.or_eq_true, Bool.or_eq_true, begin_iff, btw_iff, beq_iff_eq, beq_iff_eq, beq_iff_eq]
  omega
theorem begin_low (c : Int) (h : beginN c = true) : 0 ≤ c ∧ c < 128 := by have := (begin_iff c).1 h; omega
theorem in_low (c : Int) (h : inN c = true) : 0 ≤ c ∧ c < 128 := by have := (in_iff c).1 h; omega
/-- A kind of ASCII's letters: of a rune and of its first byte the same is true. -/
theorem dec_kind {p : Int → Bool} (hp : ∀ c, p c = true → 0 ≤ c ∧ c < 128) {l : List UInt8} {k : Nat} (h : k < l.length) : p (l[k].toNat : Int) = p ((decodeL (l.drop k)).1 : Int) := by
  by_cases hc : (decodeL (l.drop k)).1 < 128
  · rw [(dec_low_at h hc).2]
  · have h1 : p ((decodeL (l.drop k)).1 : Int) = false := by
      cases hq : p ((decodeL (l.drop k)).1 : Int) with
      | false => rfl
      | true => have := hp _ hq; omega
    rw [h1]
    cases hq : p (l[k].toNat : Int) with
    | false => rfl
    | true =>
      have h2 := hp _ hq
      rw [drop_cons h, Lib.decodeL_ascii _ _ (by omega)] at hc
      exact (hc (by omega)).elim
theorem nameX_no {l : List UInt8} {k : Nat} (h : k < l.length) (hn : inN (l[k].toNat : Int) = false) : nameX l = false := by
  cases l with
  | nil => rfl
  | cons b t =>
    unfold nameX
    simp only
    have : ((b :: t).all fun b => inN (b.toNat : Int)) = false := by
      rw [List.all_eq_false]
      exact ⟨_, List.getElem_mem h, by rw [hn]; decide⟩
    rw [this, Bool.and_false]
theorem nameX_nobegin {l : List UInt8} (h : 0 < l.length) (hn : beginN (l[0].toNat : Int) = false) : nameX l = false := by
  cases l with
  | nil => rfl
  | cons b t =>
    unfold nameX
    simp only
    rw [show beginN (b.toNat : Int) = false from hn, Bool.and_false, Bool.false_and]
theorem nameX_long {l : List UInt8} (h : 64 < l.length) : nameX l = false := by
  cases l with
  | nil => rfl
  | cons b t =>
    unfold nameX
    simp only
    rw [decide_eq_false (by omega), Bool.false_and, Bool.false_and]
theorem nameX_yes {l : List UInt8} (h0 : 0 < l.length) (h : l.length ≤ 64) (hb : beginN (l[0].toNat : Int) = true) (ha : (l.all fun b => inN (b.toNat : Int)) = true) : nameX l = true := by
  cases l with
  | nil => cases h0
  | cons b t =>
    unfold nameX
    simp only
    rw [decide_eq_true h, show beginN (b.toNat : Int) = true from hb, ha]
    rfl

/-! ### the program's -/
theorem xbtw_any (c a b : Int) (w : World) : Calls Tryd.prog 54 #[.int .i32 c, .int .i32 a, .int .i32 b] w (Pure w (.bool (btwX a b c))) := by
  unfold btwX
  by_cases h1 : a ≤ c
  · by_cases h2 : c ≤ b
    · rw [decide_eq_true h1, decide_eq_true h2]
      go_enter Tryd.func54, Tryd.ntmps54
      go_wp2_with fail
      go_ret
      exact ⟨rfl, rfl⟩
    · rw [decide_eq_false h2, Bool.and_false]
      go_enter Tryd.func54, Tryd.ntmps54
      go_wp2_with fail
      go_ret
      exact ⟨rfl, rfl⟩
  · rw [decide_eq_false h1, Bool.false_and]
    go_enter Tryd.func54, Tryd.ntmps54
    go_wp2_with fail
    go_ret
    exact ⟨rfl, rfl⟩
theorem xbegin_any (c : Int) (w : World) : Calls Tryd.prog 29 #[.int .i32 c] w (Pure w (.bool (beginN c))) := by
  have k1 := fun W => xbtw_any c 65 90 W
  have k2 := fun W => xbtw_any c 97 122 W
  unfold beginN
  generalize btwX 65 90 c = b1 at *
  generalize btwX 97 122 c = b2 at *
  cases b1 with
  | true =>
    have K1 := Lib.hid k1
    clear k1 k2
    go_enter Tryd.func29, Tryd.ntmps29
    go_wp2_with fail
    refine (K1.out _).mono ?_
    rintro e w' ⟨rfl, rfl⟩
    go_wp2_with fail
    go_ret
    exact ⟨rfl, rfl⟩
  | false =>
    cases b2 with
    | true =>
      have K1 := Lib.hid k1
      have K2 := Lib.hid k2
      clear k1 k2
      go_enter Tryd.func29, Tryd.ntmps29
      go_wp2_with fail
      refine (K1.out _).mono ?_
      rintro e w' ⟨rfl, rfl⟩
      go_wp2_with fail
      refine (K2.out _).mono ?_
      rintro e w' ⟨rfl, rfl⟩
      go_wp2_with fail
      go_ret
      exact ⟨rfl, rfl⟩
    | false =>
      have K1 := Lib.hid k1
      have K2 := Lib.hid k2
      clear k1 k2
      go_enter Tryd.func29, Tryd.ntmps29
      go_wp2_with fail
      refine (K1.out _).mono ?_
      rintro e w' ⟨rfl, rfl⟩
      go_wp2_with fail
      refine (K2.out _).mono ?_
      rintro e w' ⟨rfl, rfl⟩
      go_wp2_with fail
      go_ret
      exact ⟨rfl, rfl⟩
theorem xin_any (c : Int) (w : World) : Calls Tryd.prog 28 #[.int .i32 c] w (Pure w (.bool (inN c))) := by
  have k1 := fun W => xbegin_any c W
  have k2 := fun W => xbtw_any c 48 57 W
  unfold inN
  generalize beginN c = b1 at *
  generalize btwX 48 57 c = b2 at *
  cases b1 with
  | true =>
    have K1 := Lib.hid k1
    clear k1 k2
    go_enter Tryd.func28, Tryd.ntmps28
    go_wp2_with fail
    refine (K1.out _).mono ?_
    rintro e w' ⟨rfl, rfl⟩
    go_wp2_with fail
    go_ret
    exact ⟨rfl, rfl⟩
  | false =>
    cases b2 with
    | true =>
      have K1 := Lib.hid k1
      have K2 := Lib.hid k2
      clear k1 k2
      go_enter Tryd.func28, Tryd.ntmps28
      go_wp2_with fail
      refine (K1.out _).mono ?_
      rintro e w' ⟨rfl, rfl⟩
      go_wp2_with fail
      refine (K2.out _).mono ?_
      rintro e w' ⟨rfl, rfl⟩
      go_wp2_with fail
      go_ret
      exact ⟨rfl, rfl⟩
    | false =>
      have K1 := Lib.hid k1
      have K2 := Lib.hid k2
      clear k1 k2
      by_cases c58 : c = 58
      · subst c58
        go_enter Tryd.func28, Tryd.ntmps28
        go_wp2_with fail
        refine (K1.out _).mono ?_
        rintro e w' ⟨rfl, rfl⟩
        go_wp2_with fail
        refine (K2.out _).mono ?_
        rintro e w' ⟨rfl, rfl⟩
        go_wp2_with fail
        go_ret
        exact ⟨rfl, rfl⟩
      · have d58 : (c == 58) = false := by simpa using c58
        clear c58
        by_cases c45 : c = 45
        · subst c45
          go_enter Tryd.func28, Tryd.ntmps28
          go_wp2_with fail
          refine (K1.out _).mono ?_
          rintro e w' ⟨rfl, rfl⟩
          go_wp2_with fail
          refine (K2.out _).mono ?_
          rintro e w' ⟨rfl, rfl⟩
          go_wp2_with fail
          go_ret
          exact ⟨rfl, rfl⟩
        · have d45 : (c == 45) = false := by simpa using c45
          clear c45
          by_cases c46 : c = 46
          · subst c46
            go_enter Tryd.func28, Tryd.ntmps28
            go_wp2_with fail
            refine (K1.out _).mono ?_
            rintro e w' ⟨rfl, rfl⟩
            go_wp2_with fail
            refine (K2.out _).mono ?_
            rintro e w' ⟨rfl, rfl⟩
            go_wp2_with fail
            go_ret
            exact ⟨rfl, rfl⟩
          · have d46 : (c == 46) = false := by simpa using c46
            clear c46
            rw [d58, d45, d46]
            go_enter Tryd.func28, Tryd.ntmps28
            go_wp2_with fail
            refine (K1.out _).mono ?_
            rintro e w' ⟨rfl, rfl⟩
            go_wp2_with fail
            refine (K2.out _).mono ?_
            rintro e w' ⟨rfl, rfl⟩
            go_wp2_with fail
            go_ret
            exact ⟨rfl, rfl⟩
def XNRel (l : List UInt8) (w : World) (W : World) : Prop := ∃ k : Nat, k ≤ l.length ∧ (∀ h : 0 < l.length, 0 < k → beginN (l[0].toNat : Int) = true) ∧ ((l.take k).all fun b => inN (b.toNat : Int)) = true ∧ W = w.iter (str l) k
set_option maxHeartbeats 1600000 in
theorem xname_any (l : List UInt8) (w : World) : Calls Tryd.prog 15 #[.string (str l)] w (Made w (.bool (nameX l))) := by
  by_cases h0 : l = []
  · subst h0
    go_enter Tryd.func15, Tryd.ntmps15
    go_wp2_with fail
    go_ret
    exact ⟨rfl, Below.refl _ _⟩
  · have e1 : (l == ([] : List UInt8)) = false := by simpa using h0
    have e2 : (([] : List UInt8) == l) = false := by simpa using fun h => h0 h
    have hlp : 0 < l.length := List.length_pos_iff.2 h0
    have hlI : (0 : Int) < (l.length : Int) := by omega
    by_cases h64 : (64 : Int) < (l.length : Int)
    · have HV := Lib.hid (nameX_long (l := l) (by omega))
      clear h0
      go_enter Tryd.func15, Tryd.ntmps15
      go_wp2_with fail
      go_ret
      exact ⟨by rw [HV.out]; rfl, Below.refl _ _⟩
    · have hd64 : decide ((64 : Int) < (l.length : Int)) = false := decide_eq_false h64
      have hl64 : Hid (l.length ≤ 64) := Lib.hid (by omega)
      clear h0 h64
      go_enter Tryd.func15, Tryd.ntmps15
      go_wp2_with fail
      go_loopw [] (XNRel l w) (fun wr => l.length - wr.iterPos w.heap.size)
      case atStart => exact ⟨0, Nat.zero_le _, fun _ h => absurd h (by omega), rfl, rfl⟩
      case round =>
        obtain ⟨k, hk, hbg, hal, rfl⟩ := hrel
        by_cases hkl : k < l.length
        · have hnx := fun ty => nxt_it w l k ty hkl
          have ki := dec_kind in_low hkl
          have kb := dec_kind begin_low hkl
          have hlow := @dec_low_at l k hkl
          have kc := fun W => xin_any ((decodeL (l.drop k)).1 : Int) W
          have kg := fun W => xbegin_any ((decodeL (l.drop k)).1 : Int) W
          generalize decodeL (l.drop k) = dd at *
          cases hi : inN (dd.1 : Int) with
          | false =>
            have HV := Lib.hid (nameX_no hkl (ki.trans hi))
            rw [hi] at kc
            have KC := Lib.hid kc
            clear kc kg ki kb hlow hi hbg hal
            go_wp2_with fail
            refine (KC.out _).mono ?_
            rintro e w' ⟨rfl, rfl⟩
            go_wp2_with fail
            go_ret
            exact ⟨by rw [HV.out]; rfl, (Below.refl _ _).alloc (Nat.le_refl _) _⟩
          | true =>
            have h128 := in_low _ hi
            obtain ⟨hd2, _⟩ := hlow (by omega)
            have ha2 : ((l.take (k + 1)).all fun b => inN (b.toNat : Int)) = true := by rw [List.take_succ_eq_append_getElem hkl, List.all_append, hal, List.all_cons, List.all_nil, ki, hi]; rfl
            rw [hi] at kc
            have KC := Lib.hid kc
            have HA := Lib.hid ha2
            by_cases hk0 : k = 0
            · subst hk0
              cases hb : beginN (dd.1 : Int) with
              | false =>
                rw [hb] at kg
                have KG := Lib.hid kg
                have HV := Lib.hid (nameX_nobegin hlp (kb.trans hb))
                clear kc kg ki kb hlow hi hbg hal hb ha2 h128 hd2
                go_wp2_with fail
                refine (KC.out _).mono ?_
                rintro e w' ⟨rfl, rfl⟩
                go_wp2_with fail
                refine (KG.out _).mono ?_
                rintro e w' ⟨rfl, rfl⟩
                go_wp2_with fail
                go_ret
                exact ⟨by rw [HV.out]; rfl, (Below.refl _ _).alloc (Nat.le_refl _) _⟩
              | true =>
                rw [hb] at kg
                have KG := Lib.hid kg
                have HB := Lib.hid (kb.trans hb)
                have HD2 := Lib.hid hd2
                clear kc kg ki kb hlow hi hbg hal hb ha2 h128 hd2
                go_wp2_with fail
                refine (KC.out _).mono ?_
                rintro e w' ⟨rfl, rfl⟩
                go_wp2_with fail
                refine (KG.out _).mono ?_
                rintro e w' ⟨rfl, rfl⟩
                go_wp2_with fail
                go_roundw
                case rel => exact ⟨1, by omega, fun _ _ => HB.out, HA.out, by rw [HD2.out]⟩
                case measure => simp [HD2.out]; omega
            · have hkz : ((k : Int) == 0) = false := by simpa using hk0
              have HB := Lib.hid (fun h => hbg h (Nat.pos_of_ne_zero hk0))
              have HD2 := Lib.hid hd2
              clear kc kg ki kb hlow hi hbg hal ha2 h128 hd2
              go_wp2_with fail
              refine (KC.out _).mono ?_
              rintro e w' ⟨rfl, rfl⟩
              go_wp2_with fail
              go_roundw
              case rel => exact ⟨k + 1, by omega, fun h _ => HB.out h, HA.out, by rw [HD2.out]⟩
              case measure => simp [HD2.out]; omega
        · have hnx := fun ty => nxt_itno w l k ty hkl
          have hke : k = l.length := by omega
          rw [List.take_of_length_le (by omega)] at hal
          have HV := Lib.hid (nameX_yes hlp hl64.out (hbg hlp (by omega)) hal)
          clear hbg hal hke
          go_wp2_with fail
          go_ret
          exact ⟨by rw [HV.out]; rfl, (Below.refl _ _).alloc (Nat.le_refl _) _⟩
end Go.Proofs.YtelhdkidnhfnbaaDoor
