/-
  The calendar, in plain words: months, days ahead of a year, of a month; each day is one date's. No condition.
-/
import Derived.Test.YtelhdkidnhfnbabGreatDoorProg
namespace Go.Proofs.YtelhdkidnhfnbabGreatDoor

def leapB (y : Int) : Bool := decide (y % 4 = 0 ∧ (y % 100 ≠ 0 ∨ y % 400 = 0))
theorem leap_iff (y : Int) : leapB y = true ↔ y % 4 = 0 ∧ (y % 100 ≠ 0 ∨ y % 400 = 0) := by unfold leapB; simp
theorem leap_no (y : Int) : leapB y = false ↔ ¬ (y % 4 = 0 ∧ (y % 100 ≠ 0 ∨ y % 400 = 0)) := by unfold leapB; simp

/-- Days of a month that is one, of a year that is one. -/
def dimN (y m : Int) : Int := if m = 2 then (if leapB y = true then 29 else 28) else if m = 4 ∨ m = 6 ∨ m = 9 ∨ m = 11 then 30 else 31
/-- Days of any month of any year. -/
def daysN (y m : Int) : Int := if y < 1 ∨ 9999 < y ∨ m < 1 ∨ 12 < m then 0 else dimN y m
def aheadN (y : Int) : Int := 365 * (y - 1) + (y - 1) / 4 - (y - 1) / 100 + (y - 1) / 400
/-- Days ahead of a month, of the year. -/
def cumN (y : Int) : Nat → Int
  | 0 => 0
  | k + 1 => cumN y k + dimN y (k + 1)
def dayN (y m d : Int) : Int := aheadN y + cumN y (m - 1).toNat + d - 1

def validD (y m d : Int) : Prop := 1 ≤ y ∧ y ≤ 9999 ∧ 1 ≤ m ∧ m ≤ 12 ∧ 1 ≤ d ∧ d ≤ dimN y m

theorem dim_bd (y m : Int) : 28 ≤ dimN y m ∧ dimN y m ≤ 31 := by
  unfold dimN
  split
  · split <;> omega
  · split <;> omega
theorem days_bd (y m : Int) : 0 ≤ daysN y m ∧ daysN y m ≤ 31 := by
  have := dim_bd y m
  unfold daysN
  split <;> omega
theorem days_in (y m : Int) (h1 : 1 ≤ y) (h2 : y ≤ 9999) (h3 : 1 ≤ m) (h4 : m ≤ 12) : daysN y m = dimN y m := by
  unfold daysN
  rw [if_neg (by omega)]

theorem cum_step (y m : Int) (h1 : 1 ≤ m) : cumN y m.toNat = cumN y (m - 1).toNat + dimN y m := by
  obtain ⟨k, rfl⟩ : ∃ k : Nat, m = (k : Int) + 1 := ⟨(m - 1).toNat, by omega⟩
  rw [show ((k : Int) + 1).toNat = k + 1 by omega, show ((k : Int) + 1 - 1).toNat = k by omega]
  rfl

theorem cum_mono (y : Int) : ∀ (j k : Nat), cumN y j ≤ cumN y (j + k)
  | _, 0 => Int.le_refl _
  | j, k + 1 => by
    have h1 := cum_mono y j k
    have h2 := dim_bd y ((j + k : Nat) + 1)
    show cumN y j ≤ cumN y (j + k) + dimN y ((j + k : Nat) + 1)
    omega
theorem cum_nonneg (y : Int) (k : Nat) : 0 ≤ cumN y k := by
  have := cum_mono y 0 k
  rw [Nat.zero_add] at this
  exact this

theorem cum_12 (y : Int) : cumN y 12 = if leapB y = true then 366 else 365 := by
  have h : cumN y 12 = 337 + dimN y 2 := by
    have e : cumN y 12 = 0 + dimN y 1 + dimN y 2 + dimN y 3 + dimN y 4 + dimN y 5 + dimN y 6 + dimN y 7 + dimN y 8 + dimN y 9 + dimN y 10 + dimN y 11 + dimN y 12 := rfl
    have e1 : dimN y 1 = 31 := rfl
    have e3 : dimN y 3 = 31 := rfl
    have e4 : dimN y 4 = 30 := rfl
    have e5 : dimN y 5 = 31 := rfl
    have e6 : dimN y 6 = 30 := rfl
    have e7 : dimN y 7 = 31 := rfl
    have e8 : dimN y 8 = 31 := rfl
    have e9 : dimN y 9 = 30 := rfl
    have e10 : dimN y 10 = 31 := rfl
    have e11 : dimN y 11 = 30 := rfl
    have e12 : dimN y 12 = 31 := rfl
    omega
  rw [h]
  have : dimN y 2 = if leapB y = true then 29 else 28 := rfl
  rw [this]
  split <;> rfl
theorem ahead_step (y : Int) : aheadN (y + 1) = aheadN y + cumN y 12 := by
  rw [cum_12]
  unfold aheadN
  by_cases hl : leapB y = true
  · rw [if_pos hl]
    rw [leap_iff] at hl
    omega
  · rw [if_neg hl]
    rw [leap_iff] at hl
    omega
theorem ahead_bd (y : Int) (h1 : 1 ≤ y) (h2 : y ≤ 10000) : 0 ≤ aheadN y ∧ aheadN y ≤ 3652059 := by
  unfold aheadN
  omega
theorem ahead_mono (y z : Int) (h2 : y ≤ z) : aheadN y ≤ aheadN z := by
  unfold aheadN
  omega
theorem ahead_guess (n : Int) (h : 0 ≤ n) : aheadN (n / 366 + 1) ≤ n := by
  unfold aheadN
  omega
theorem ahead_last : aheadN 10000 = 3652059 := by decide

theorem day_bd {y m d : Int} (h : validD y m d) : aheadN y ≤ dayN y m d ∧ dayN y m d < aheadN (y + 1) := by
  obtain ⟨h1, _, h3, h4, h5, h6⟩ := h
  have a := ahead_step y
  have b := cum_nonneg y (m - 1).toNat
  have c := cum_step y m h3
  have e := cum_mono y m.toNat (12 - m.toNat)
  rw [show m.toNat + (12 - m.toNat) = 12 by omega] at e
  unfold dayN
  omega

/-- Each day is one date's. -/
theorem day_inj {y m d y' m' d' : Int} (h : validD y m d) (h' : validD y' m' d') (he : dayN y m d = dayN y' m' d') : y = y' ∧ m = m' ∧ d = d' := by
  have b := day_bd h
  have b' := day_bd h'
  have hy : y = y' := by
    obtain ⟨h1, _⟩ := h
    obtain ⟨h1', _⟩ := h'
    rcases Int.lt_trichotomy y y' with hlt | heq | hgt
    · have := ahead_mono (y + 1) y' (by omega)
      omega
    · exact heq
    · have := ahead_mono (y' + 1) y (by omega)
      omega
  subst hy
  obtain ⟨_, _, h3, h4, h5, h6⟩ := h
  obtain ⟨_, _, h3', h4', h5', h6'⟩ := h'
  have c := cum_step y m h3
  have c' := cum_step y m' h3'
  unfold dayN at he
  have hm : m = m' := by
    rcases Int.lt_trichotomy m m' with hlt | heq | hgt
    · have := cum_mono y m.toNat ((m' - 1).toNat - m.toNat)
      rw [show m.toNat + ((m' - 1).toNat - m.toNat) = (m' - 1).toNat by omega] at this
      omega
    · exact heq
    · have := cum_mono y m'.toNat ((m - 1).toNat - m'.toNat)
      rw [show m'.toNat + ((m - 1).toNat - m'.toNat) = (m - 1).toNat by omega] at this
      omega
  subst hm
  refine ⟨rfl, rfl, by omega⟩

/-- The seconds ahead of 1970. -/
def zeroN : Int := 62135596800
def momN (y m d h mi s : Int) : Int := 86400 * dayN y m d + 3600 * h + 60 * mi + s - zeroN
def clockD (h mi s : Int) : Prop := 0 ≤ h ∧ h ≤ 23 ∧ 0 ≤ mi ∧ mi ≤ 59 ∧ 0 ≤ s ∧ s ≤ 59

theorem day_range {y m d : Int} (h : validD y m d) : 0 ≤ dayN y m d ∧ dayN y m d ≤ 3652058 := by
  have b := day_bd h
  have b1 := ahead_bd y h.1 (by have := h.2.1; omega)
  have b2 := ahead_bd (y + 1) (by have := h.1; omega) (by have := h.2.1; omega)
  omega
theorem mom_range {y m d h mi s : Int} (hd : validD y m d) (hc : clockD h mi s) : -62135596800 ≤ momN y m d h mi s ∧ momN y m d h mi s ≤ 253402300799 := by
  have := day_range hd
  unfold clockD at hc
  unfold momN zeroN
  omega
theorem mom_inj {y m d h mi s y' m' d' h' mi' s' : Int} (hd : validD y m d) (hc : clockD h mi s) (hd' : validD y' m' d') (hc' : clockD h' mi' s') (he : momN y m d h mi s = momN y' m' d' h' mi' s') :
    y = y' ∧ m = m' ∧ d = d' ∧ h = h' ∧ mi = mi' ∧ s = s' := by
  unfold clockD at hc hc'
  unfold momN at he
  have hday : dayN y m d = dayN y' m' d' := by omega
  obtain ⟨rfl, rfl, rfl⟩ := day_inj hd hd' hday
  refine ⟨rfl, rfl, rfl, by omega, by omega, by omega⟩
end Go.Proofs.YtelhdkidnhfnbabGreatDoor
