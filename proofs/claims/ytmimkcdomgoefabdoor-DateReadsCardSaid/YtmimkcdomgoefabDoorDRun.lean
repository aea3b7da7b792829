/-
  What a reader takes of its text (date.reader.run), rune by rune. Condition: what may be taken is among the first 128 runes.
-/
import Derived.Test.YtmimkcdomgoefabDoorBlk
import Derived.Laws.RangeAny
namespace Go.Proofs.YtmimkcdomgoefabDoor
open Go.RowKit

def digB (c : Nat) : Bool := decide (48 ≤ c ∧ c ≤ 57)
def letB (c : Nat) : Bool := decide ((65 ≤ c ∧ c ≤ 90) ∨ (97 ≤ c ∧ c ≤ 122))
theorem dig_iff (c : Nat) : digB c = true ↔ 48 ≤ c ∧ c ≤ 57 := by unfold digB; simp
theorem dig_no (c : Nat) : digB c = false ↔ ¬ (48 ≤ c ∧ c ≤ 57) := by unfold digB; simp
theorem let_iff (c : Nat) : letB c = true ↔ (65 ≤ c ∧ c ≤ 90) ∨ (97 ≤ c ∧ c ≤ 122) := by unfold letB; simp
theorem let_no (c : Nat) : letB c = false ↔ ¬ ((65 ≤ c ∧ c ≤ 90) ∨ (97 ≤ c ∧ c ≤ 122)) := by unfold letB; simp

set_option maxHeartbeats 400000 in
theorem isDigit_any (c : Nat) (w : World) : Calls Tryd.prog 20 #[.int .i32 (c : Int)] w (Pure w (.bool (digB c))) := by
  by_cases h1 : (48 : Int) ≤ (c : Int)
  · by_cases h2 : (c : Int) ≤ 57
    · have hd := (dig_iff c).2 (by omega)
      have HD := Lib.hid hd
      clear hd
      go_enter Tryd.func20, Tryd.ntmps20
      go_wp2
      go_ret
      exact ⟨by rw [HD.out]; rfl, rfl⟩
    · have hd := (dig_no c).2 (by omega)
      have HD := Lib.hid hd
      have d2 : decide ((c : Int) ≤ 57) = false := decide_eq_false h2
      clear hd
      go_enter Tryd.func20, Tryd.ntmps20
      go_wp2
      go_ret
      exact ⟨by rw [HD.out]; rfl, rfl⟩
  · have hd := (dig_no c).2 (by omega)
    have HD := Lib.hid hd
    have d1 : decide ((48 : Int) ≤ (c : Int)) = false := decide_eq_false h1
    clear hd
    go_enter Tryd.func20, Tryd.ntmps20
    go_wp2
    go_ret
    exact ⟨by rw [HD.out]; rfl, rfl⟩

set_option maxHeartbeats 400000 in
theorem isLetter_any (c : Nat) (w : World) : Calls Tryd.prog 26 #[.int .i32 (c : Int)] w (Pure w (.bool (letB c))) := by
  by_cases h1 : (65 : Int) ≤ (c : Int)
  · have d1 : decide ((65 : Int) ≤ (c : Int)) = true := decide_eq_true h1
    by_cases h2 : (c : Int) ≤ 90
    · have d2 : decide ((c : Int) ≤ 90) = true := decide_eq_true h2
      have hd := (let_iff c).2 (by omega)
      have HD := Lib.hid hd
      clear hd
      go_enter Tryd.func26, Tryd.ntmps26
      go_wp2
      go_ret
      exact ⟨by rw [HD.out]; rfl, rfl⟩
    · have d2 : decide ((c : Int) ≤ 90) = false := decide_eq_false h2
      by_cases h3 : (97 : Int) ≤ (c : Int)
      · have d3 : decide ((97 : Int) ≤ (c : Int)) = true := decide_eq_true h3
        by_cases h4 : (c : Int) ≤ 122
        · have d4 : decide ((c : Int) ≤ 122) = true := decide_eq_true h4
          have hd := (let_iff c).2 (by omega)
          have HD := Lib.hid hd
          clear hd
          go_enter Tryd.func26, Tryd.ntmps26
          go_wp2
          go_ret
          exact ⟨by rw [HD.out]; rfl, rfl⟩
        · have d4 : decide ((c : Int) ≤ 122) = false := decide_eq_false h4
          have hd := (let_no c).2 (by omega)
          have HD := Lib.hid hd
          clear hd
          go_enter Tryd.func26, Tryd.ntmps26
          go_wp2
          go_ret
          exact ⟨by rw [HD.out]; rfl, rfl⟩
      · have d3 : decide ((97 : Int) ≤ (c : Int)) = false := decide_eq_false h3
        have hd := (let_no c).2 (by omega)
        have HD := Lib.hid hd
        clear hd
        go_enter Tryd.func26, Tryd.ntmps26
        go_wp2
        go_ret
        exact ⟨by rw [HD.out]; rfl, rfl⟩
  · have d1 : decide ((65 : Int) ≤ (c : Int)) = false := decide_eq_false h1
    have d3 : decide ((97 : Int) ≤ (c : Int)) = false := decide_eq_false (by omega)
    have hd := (let_no c).2 (by omega)
    have HD := Lib.hid hd
    clear hd
    go_enter Tryd.func26, Tryd.ntmps26
    go_wp2
    go_ret
    exact ⟨by rw [HD.out]; rfl, rfl⟩

/-- How many of the first bytes, at most m, fit. -/
def lead (p : Nat → Bool) : Nat → List UInt8 → Nat
  | 0, _ => 0
  | _ + 1, [] => 0
  | m + 1, x :: r => if p x.toNat = true then lead p m r + 1 else 0
def runT (p : Nat → Bool) (least most : Nat) (l : List UInt8) : List UInt8 := if lead p most l < least then [] else l.take (lead p most l)
def runL (p : Nat → Bool) (least most : Nat) (l : List UInt8) : List UInt8 := if lead p most l < least then l else l.drop (lead p most l)
def runB (p : Nat → Bool) (least most : Nat) (l : List UInt8) (bad : Bool) : Bool := if lead p most l < least then true else bad

theorem lead_le (p : Nat → Bool) : ∀ (m : Nat) (l : List UInt8), lead p m l ≤ l.length ∧ lead p m l ≤ m
  | 0, l => ⟨Nat.zero_le _, Nat.le_refl _⟩
  | m + 1, [] => ⟨Nat.le_refl _, Nat.zero_le _⟩
  | m + 1, x :: r => by
    have := lead_le p m r
    unfold lead
    split
    · exact ⟨by simp; omega, by omega⟩
    · exact ⟨Nat.zero_le _, Nat.zero_le _⟩

/-- How far a loop over the runes has come. -/
def Led (p : Nat → Bool) (most : Nat) (l : List UInt8) (k : Nat) : Prop := k ≤ l.length ∧ k ≤ most ∧ lead p most l = k + lead p (most - k) (l.drop k)
theorem led_start (p : Nat → Bool) (most : Nat) (l : List UInt8) : Led p most l 0 := ⟨Nat.zero_le _, Nat.zero_le _, by simp⟩
theorem led_end {p : Nat → Bool} {most k : Nat} {l : List UInt8} (h : Led p most l k) (hk : l.length ≤ k) : lead p most l = k := by
  obtain ⟨_, _, h3⟩ := h
  rw [h3, List.drop_eq_nil_of_le hk]
  cases most - k <;> rfl
theorem led_most {p : Nat → Bool} {most k : Nat} {l : List UInt8} (h : Led p most l k) (hk : k = most) : lead p most l = k := by
  obtain ⟨_, _, h3⟩ := h
  rw [h3, hk, Nat.sub_self]
  rfl
theorem led_no {p : Nat → Bool} {most k : Nat} {l : List UInt8} (h : Led p most l k) (hk : k < l.length) (hn : p l[k].toNat = false) : lead p most l = k := by
  obtain ⟨_, _, h3⟩ := h
  rw [h3, List.drop_eq_getElem_cons hk]
  cases most - k with
  | zero => rfl
  | succ j => unfold lead; rw [if_neg (by rw [hn]; simp), Nat.add_zero]
theorem led_more {p : Nat → Bool} {most k : Nat} {l : List UInt8} (h : Led p most l k) (hk : k < l.length) (hm : k ≠ most) (hy : p l[k].toNat = true) : Led p most l (k + 1) := by
  obtain ⟨h1, h2, h3⟩ := h
  refine ⟨by omega, by omega, ?_⟩
  rw [h3, List.drop_eq_getElem_cons hk, show most - k = (most - (k + 1)) + 1 by omega]
  show k + (if p l[k].toNat = true then lead p (most - (k + 1)) (l.drop (k + 1)) + 1 else 0) = _
  rw [if_pos hy]
  omega

theorem str_take (l : List UInt8) (k : Nat) : (str l).extract 0 k = str (l.take k) := by
  apply ByteArray.ext
  apply Array.ext'
  simp [str]
theorem str_drop (l : List UInt8) (k : Nat) : (str l).extract k l.length = str (l.drop k) := by
  apply ByteArray.ext
  apply Array.ext'
  simp [str]
  exact List.take_of_length_le (by simp)
end Go.Proofs.YtmimkcdomgoefabDoor
