/-
  Months and years (date.below, leaps, Days, daysAhead; newsstandref04.leap, Days, ahead): what they answer. Conditions: the years are such that no sum wraps.
-/
import Derived.Test.YtelhdkidnhfnbabGreatDoorBlk
import Derived.Test.YtelhdkidnhfnbabGreatDoorCal
namespace Go.Proofs.YtelhdkidnhfnbabGreatDoor
open Go.RowKit

set_option maxHeartbeats 400000 in
theorem leap_any (y : Int) (w : World) (h : 0 ≤ y) : Calls Tryz.prog 108 #[.int .i64 y] w (Pure w (.bool (leapB y))) := by
  by_cases h4 : y % 4 = 0
  · by_cases h100 : y % 100 = 0
    · by_cases h400 : y % 400 = 0
      · have hl : leapB y = true := (leap_iff y).2 (by omega)
        have HL := Lib.hid hl
        have b400 : (y % 400 == 0) = true := by simp [h400]
        clear hl
        go_enter Tryz.func108, Tryz.ntmps108
        go_wp2
        go_ret
        exact ⟨by rw [HL.out]; rfl, rfl⟩
      · have hl : leapB y = false := (leap_no y).2 (by omega)
        have HL := Lib.hid hl
        have b400 : (y % 400 == 0) = false := by simp [h400]
        clear hl
        go_enter Tryz.func108, Tryz.ntmps108
        go_wp2
        go_ret
        exact ⟨by rw [HL.out]; rfl, rfl⟩
    · have hl : leapB y = true := (leap_iff y).2 (by omega)
      have HL := Lib.hid hl
      clear hl
      go_enter Tryz.func108, Tryz.ntmps108
      go_wp2
      go_ret
      exact ⟨by rw [HL.out]; rfl, rfl⟩
  · have hl : leapB y = false := (leap_no y).2 (by omega)
    have HL := Lib.hid hl
    clear hl
    go_enter Tryz.func108, Tryz.ntmps108
    go_wp2
    go_ret
    exact ⟨by rw [HL.out]; rfl, rfl⟩

set_option maxHeartbeats 400000 in
theorem rleap_any (y : Int) (w : World) (h : 0 ≤ y) : Calls Tryz.prog 107 #[.int .i64 y] w (Pure w (.bool (leapB y))) := by
  by_cases h4 : y % 4 = 0
  · by_cases h100 : y % 100 = 0
    · by_cases h400 : y % 400 = 0
      · have hl : leapB y = true := (leap_iff y).2 (by omega)
        have HL := Lib.hid hl
        have b400 : (y % 400 == 0) = true := by simp [h400]
        clear hl
        go_enter Tryz.func107, Tryz.ntmps107
        go_wp2
        go_ret
        exact ⟨by rw [HL.out]; rfl, rfl⟩
      · have hl : leapB y = false := (leap_no y).2 (by omega)
        have HL := Lib.hid hl
        have b400 : (y % 400 == 0) = false := by simp [h400]
        clear hl
        go_enter Tryz.func107, Tryz.ntmps107
        go_wp2
        go_ret
        exact ⟨by rw [HL.out]; rfl, rfl⟩
    · have hl : leapB y = true := (leap_iff y).2 (by omega)
      have HL := Lib.hid hl
      clear hl
      go_enter Tryz.func107, Tryz.ntmps107
      go_wp2
      go_ret
      exact ⟨by rw [HL.out]; rfl, rfl⟩
  · have hl : leapB y = false := (leap_no y).2 (by omega)
    have h400 : ¬ y % 400 = 0 := by omega
    have b400 : (y % 400 == 0) = false := by simp [h400]
    have HL := Lib.hid hl
    clear hl
    go_enter Tryz.func107, Tryz.ntmps107
    go_wp2
    go_ret
    exact ⟨by rw [HL.out]; rfl, rfl⟩

set_option maxHeartbeats 400000 in
theorem ahead_any (y : Int) (w : World) (h1 : 1 ≤ y) (h2 : y ≤ 10000) : Calls Tryz.prog 94 #[.int .i64 y] w (Pure w (.int .i64 (aheadN y))) := by
  go_enter Tryz.func94, Tryz.ntmps94
  go_wp2
  go_ret
  exact ⟨rfl, rfl⟩
set_option maxHeartbeats 400000 in
theorem rahead_any (y : Int) (w : World) (h1 : 1 ≤ y) (h2 : y ≤ 10000) : Calls Tryz.prog 92 #[.int .i64 y] w (Pure w (.int .i64 (aheadN y))) := by
  go_enter Tryz.func92, Tryz.ntmps92
  go_wp2
  go_ret
  exact ⟨rfl, rfl⟩

set_option maxHeartbeats 800000 in
theorem days_any (y m : Int) (w : World) : Calls Tryz.prog 95 #[.int .i64 y, .int .i64 m] w (Pure w (.int .i64 (daysN y m))) := by
  by_cases hy1 : y < 1
  · have hz : daysN y m = 0 := by unfold daysN; rw [if_pos (by omega)]
    have HZ := Lib.hid hz
    clear hz
    go_enter Tryz.func95, Tryz.ntmps95
    go_wp2
    go_ret
    exact ⟨by rw [HZ.out]; rfl, rfl⟩
  by_cases hy2 : 9999 < y
  · have hz : daysN y m = 0 := by unfold daysN; rw [if_pos (by omega)]
    have HZ := Lib.hid hz
    clear hz
    go_enter Tryz.func95, Tryz.ntmps95
    go_wp2
    go_ret
    exact ⟨by rw [HZ.out]; rfl, rfl⟩
  have hy0 : 1 ≤ y := by omega
  have hy9 : y ≤ 9999 := by omega
  by_cases hm1 : m < 1
  · have hz : daysN y m = 0 := by unfold daysN; rw [if_pos (by omega)]
    have HZ := Lib.hid hz
    clear hz
    go_enter Tryz.func95, Tryz.ntmps95
    go_wp2
    go_ret
    exact ⟨by rw [HZ.out]; rfl, rfl⟩
  by_cases hm2 : 12 < m
  · have hz : daysN y m = 0 := by unfold daysN; rw [if_pos (by omega)]
    have HZ := Lib.hid hz
    clear hz
    go_enter Tryz.func95, Tryz.ntmps95
    go_wp2
    go_ret
    exact ⟨by rw [HZ.out]; rfl, rfl⟩
  by_cases h2 : m = 2
  · subst h2
    cases hl : leapB y with
    | true =>
      have hz : daysN y 2 = 29 := by rw [days_in y 2 hy0 hy9 (by omega) (by omega)]; unfold dimN; rw [if_pos rfl, if_pos hl]
      have HZ := Lib.hid hz
      have HL := Lib.hid hl
      clear hz hl
      go_enter Tryz.func95, Tryz.ntmps95
      go_wp2_with fail
      refine (leap_any y _ (by omega)).mono ?_
      rw [HL.out]
      rintro e w' ⟨rfl, rfl⟩
      go_wp2_with fail
      go_ret
      exact ⟨by rw [HZ.out]; rfl, rfl⟩
    | false =>
      have hz : daysN y 2 = 28 := by rw [days_in y 2 hy0 hy9 (by omega) (by omega)]; unfold dimN; rw [if_pos rfl, if_neg (by rw [hl]; simp)]
      have HZ := Lib.hid hz
      have HL := Lib.hid hl
      clear hz hl
      go_enter Tryz.func95, Tryz.ntmps95
      go_wp2_with fail
      refine (leap_any y _ (by omega)).mono ?_
      rw [HL.out]
      rintro e w' ⟨rfl, rfl⟩
      go_wp2_with fail
      go_ret
      exact ⟨by rw [HZ.out]; rfl, rfl⟩
  by_cases h4 : m = 4
  · subst h4
    have hz : daysN y 4 = 30 := by rw [days_in y 4 hy0 hy9 (by omega) (by omega)]; rfl
    have HZ := Lib.hid hz
    clear hz
    go_enter Tryz.func95, Tryz.ntmps95
    go_wp2
    go_ret
    exact ⟨by rw [HZ.out]; rfl, rfl⟩
  by_cases h6 : m = 6
  · subst h6
    have hz : daysN y 6 = 30 := by rw [days_in y 6 hy0 hy9 (by omega) (by omega)]; rfl
    have HZ := Lib.hid hz
    clear hz
    go_enter Tryz.func95, Tryz.ntmps95
    go_wp2
    go_ret
    exact ⟨by rw [HZ.out]; rfl, rfl⟩
  by_cases h9 : m = 9
  · subst h9
    have hz : daysN y 9 = 30 := by rw [days_in y 9 hy0 hy9 (by omega) (by omega)]; rfl
    have HZ := Lib.hid hz
    clear hz
    go_enter Tryz.func95, Tryz.ntmps95
    go_wp2
    go_ret
    exact ⟨by rw [HZ.out]; rfl, rfl⟩
  by_cases h11 : m = 11
  · subst h11
    have hz : daysN y 11 = 30 := by rw [days_in y 11 hy0 hy9 (by omega) (by omega)]; rfl
    have HZ := Lib.hid hz
    clear hz
    go_enter Tryz.func95, Tryz.ntmps95
    go_wp2
    go_ret
    exact ⟨by rw [HZ.out]; rfl, rfl⟩
  by_cases h1 : m = 1
  · subst h1
    have hz : daysN y 1 = 31 := by rw [days_in y 1 hy0 hy9 (by omega) (by omega)]; rfl
    have HZ := Lib.hid hz
    clear hz
    go_enter Tryz.func95, Tryz.ntmps95
    go_wp2
    go_ret
    exact ⟨by rw [HZ.out]; rfl, rfl⟩
  by_cases h3 : m = 3
  · subst h3
    have hz : daysN y 3 = 31 := by rw [days_in y 3 hy0 hy9 (by omega) (by omega)]; rfl
    have HZ := Lib.hid hz
    clear hz
    go_enter Tryz.func95, Tryz.ntmps95
    go_wp2
    go_ret
    exact ⟨by rw [HZ.out]; rfl, rfl⟩
  by_cases h5 : m = 5
  · subst h5
    have hz : daysN y 5 = 31 := by rw [days_in y 5 hy0 hy9 (by omega) (by omega)]; rfl
    have HZ := Lib.hid hz
    clear hz
    go_enter Tryz.func95, Tryz.ntmps95
    go_wp2
    go_ret
    exact ⟨by rw [HZ.out]; rfl, rfl⟩
  by_cases h7 : m = 7
  · subst h7
    have hz : daysN y 7 = 31 := by rw [days_in y 7 hy0 hy9 (by omega) (by omega)]; rfl
    have HZ := Lib.hid hz
    clear hz
    go_enter Tryz.func95, Tryz.ntmps95
    go_wp2
    go_ret
    exact ⟨by rw [HZ.out]; rfl, rfl⟩
  by_cases h8 : m = 8
  · subst h8
    have hz : daysN y 8 = 31 := by rw [days_in y 8 hy0 hy9 (by omega) (by omega)]; rfl
    have HZ := Lib.hid hz
    clear hz
    go_enter Tryz.func95, Tryz.ntmps95
    go_wp2
    go_ret
    exact ⟨by rw [HZ.out]; rfl, rfl⟩
  by_cases h10 : m = 10
  · subst h10
    have hz : daysN y 10 = 31 := by rw [days_in y 10 hy0 hy9 (by omega) (by omega)]; rfl
    have HZ := Lib.hid hz
    clear hz
    go_enter Tryz.func95, Tryz.ntmps95
    go_wp2
    go_ret
    exact ⟨by rw [HZ.out]; rfl, rfl⟩
  by_cases h12 : m = 12
  · subst h12
    have hz : daysN y 12 = 31 := by rw [days_in y 12 hy0 hy9 (by omega) (by omega)]; rfl
    have HZ := Lib.hid hz
    clear hz
    go_enter Tryz.func95, Tryz.ntmps95
    go_wp2
    go_ret
    exact ⟨by rw [HZ.out]; rfl, rfl⟩
  omega

set_option maxHeartbeats 800000 in
theorem rdays_any (y m : Int) (w : World) : Calls Tryz.prog 93 #[.int .i64 y, .int .i64 m] w (Pure w (.int .i64 (daysN y m))) := by
  by_cases hy1 : y < 1
  · have hz : daysN y m = 0 := by unfold daysN; rw [if_pos (by omega)]
    have HZ := Lib.hid hz
    clear hz
    go_enter Tryz.func93, Tryz.ntmps93
    go_wp2
    go_ret
    exact ⟨by rw [HZ.out]; rfl, rfl⟩
  by_cases hy2 : 9999 < y
  · have hz : daysN y m = 0 := by unfold daysN; rw [if_pos (by omega)]
    have HZ := Lib.hid hz
    clear hz
    go_enter Tryz.func93, Tryz.ntmps93
    go_wp2
    go_ret
    exact ⟨by rw [HZ.out]; rfl, rfl⟩
  have hy0 : 1 ≤ y := by omega
  have hy9 : y ≤ 9999 := by omega
  by_cases hm1 : m < 1
  · have hz : daysN y m = 0 := by unfold daysN; rw [if_pos (by omega)]
    have HZ := Lib.hid hz
    have n1 : ¬ m = 1 := by omega
    have n2 : ¬ m = 2 := by omega
    have n3 : ¬ m = 3 := by omega
    have n4 : ¬ m = 4 := by omega
    have n5 : ¬ m = 5 := by omega
    have n6 : ¬ m = 6 := by omega
    have n7 : ¬ m = 7 := by omega
    have n8 : ¬ m = 8 := by omega
    have n9 : ¬ m = 9 := by omega
    have n10 : ¬ m = 10 := by omega
    have n11 : ¬ m = 11 := by omega
    have n12 : ¬ m = 12 := by omega
    clear hz
    go_enter Tryz.func93, Tryz.ntmps93
    go_wp2
    go_ret
    exact ⟨by rw [HZ.out]; rfl, rfl⟩
  by_cases hm2 : 12 < m
  · have hz : daysN y m = 0 := by unfold daysN; rw [if_pos (by omega)]
    have HZ := Lib.hid hz
    have n1 : ¬ m = 1 := by omega
    have n2 : ¬ m = 2 := by omega
    have n3 : ¬ m = 3 := by omega
    have n4 : ¬ m = 4 := by omega
    have n5 : ¬ m = 5 := by omega
    have n6 : ¬ m = 6 := by omega
    have n7 : ¬ m = 7 := by omega
    have n8 : ¬ m = 8 := by omega
    have n9 : ¬ m = 9 := by omega
    have n10 : ¬ m = 10 := by omega
    have n11 : ¬ m = 11 := by omega
    have n12 : ¬ m = 12 := by omega
    clear hz
    go_enter Tryz.func93, Tryz.ntmps93
    go_wp2
    go_ret
    exact ⟨by rw [HZ.out]; rfl, rfl⟩
  by_cases h2 : m = 2
  · subst h2
    cases hl : leapB y with
    | true =>
      have hz : daysN y 2 = 29 := by rw [days_in y 2 hy0 hy9 (by omega) (by omega)]; unfold dimN; rw [if_pos rfl, if_pos hl]
      have HZ := Lib.hid hz
      have HL := Lib.hid hl
      clear hz hl
      go_enter Tryz.func93, Tryz.ntmps93
      go_wp2_with fail
      refine (rleap_any y _ (by omega)).mono ?_
      rw [HL.out]
      rintro e w' ⟨rfl, rfl⟩
      go_wp2_with fail
      go_ret
      exact ⟨by rw [HZ.out]; rfl, rfl⟩
    | false =>
      have hz : daysN y 2 = 28 := by rw [days_in y 2 hy0 hy9 (by omega) (by omega)]; unfold dimN; rw [if_pos rfl, if_neg (by rw [hl]; simp)]
      have HZ := Lib.hid hz
      have HL := Lib.hid hl
      clear hz hl
      go_enter Tryz.func93, Tryz.ntmps93
      go_wp2_with fail
      refine (rleap_any y _ (by omega)).mono ?_
      rw [HL.out]
      rintro e w' ⟨rfl, rfl⟩
      go_wp2_with fail
      go_ret
      exact ⟨by rw [HZ.out]; rfl, rfl⟩
  by_cases h4 : m = 4
  · subst h4
    have hz : daysN y 4 = 30 := by rw [days_in y 4 hy0 hy9 (by omega) (by omega)]; rfl
    have HZ := Lib.hid hz
    clear hz
    go_enter Tryz.func93, Tryz.ntmps93
    go_wp2
    go_ret
    exact ⟨by rw [HZ.out]; rfl, rfl⟩
  by_cases h6 : m = 6
  · subst h6
    have hz : daysN y 6 = 30 := by rw [days_in y 6 hy0 hy9 (by omega) (by omega)]; rfl
    have HZ := Lib.hid hz
    clear hz
    go_enter Tryz.func93, Tryz.ntmps93
    go_wp2
    go_ret
    exact ⟨by rw [HZ.out]; rfl, rfl⟩
  by_cases h9 : m = 9
  · subst h9
    have hz : daysN y 9 = 30 := by rw [days_in y 9 hy0 hy9 (by omega) (by omega)]; rfl
    have HZ := Lib.hid hz
    clear hz
    go_enter Tryz.func93, Tryz.ntmps93
    go_wp2
    go_ret
    exact ⟨by rw [HZ.out]; rfl, rfl⟩
  by_cases h11 : m = 11
  · subst h11
    have hz : daysN y 11 = 30 := by rw [days_in y 11 hy0 hy9 (by omega) (by omega)]; rfl
    have HZ := Lib.hid hz
    clear hz
    go_enter Tryz.func93, Tryz.ntmps93
    go_wp2
    go_ret
    exact ⟨by rw [HZ.out]; rfl, rfl⟩
  by_cases h1 : m = 1
  · subst h1
    have hz : daysN y 1 = 31 := by rw [days_in y 1 hy0 hy9 (by omega) (by omega)]; rfl
    have HZ := Lib.hid hz
    clear hz
    go_enter Tryz.func93, Tryz.ntmps93
    go_wp2
    go_ret
    exact ⟨by rw [HZ.out]; rfl, rfl⟩
  by_cases h3 : m = 3
  · subst h3
    have hz : daysN y 3 = 31 := by rw [days_in y 3 hy0 hy9 (by omega) (by omega)]; rfl
    have HZ := Lib.hid hz
    clear hz
    go_enter Tryz.func93, Tryz.ntmps93
    go_wp2
    go_ret
    exact ⟨by rw [HZ.out]; rfl, rfl⟩
  by_cases h5 : m = 5
  · subst h5
    have hz : daysN y 5 = 31 := by rw [days_in y 5 hy0 hy9 (by omega) (by omega)]; rfl
    have HZ := Lib.hid hz
    clear hz
    go_enter Tryz.func93, Tryz.ntmps93
    go_wp2
    go_ret
    exact ⟨by rw [HZ.out]; rfl, rfl⟩
  by_cases h7 : m = 7
  · subst h7
    have hz : daysN y 7 = 31 := by rw [days_in y 7 hy0 hy9 (by omega) (by omega)]; rfl
    have HZ := Lib.hid hz
    clear hz
    go_enter Tryz.func93, Tryz.ntmps93
    go_wp2
    go_ret
    exact ⟨by rw [HZ.out]; rfl, rfl⟩
  by_cases h8 : m = 8
  · subst h8
    have hz : daysN y 8 = 31 := by rw [days_in y 8 hy0 hy9 (by omega) (by omega)]; rfl
    have HZ := Lib.hid hz
    clear hz
    go_enter Tryz.func93, Tryz.ntmps93
    go_wp2
    go_ret
    exact ⟨by rw [HZ.out]; rfl, rfl⟩
  by_cases h10 : m = 10
  · subst h10
    have hz : daysN y 10 = 31 := by rw [days_in y 10 hy0 hy9 (by omega) (by omega)]; rfl
    have HZ := Lib.hid hz
    clear hz
    go_enter Tryz.func93, Tryz.ntmps93
    go_wp2
    go_ret
    exact ⟨by rw [HZ.out]; rfl, rfl⟩
  by_cases h12 : m = 12
  · subst h12
    have hz : daysN y 12 = 31 := by rw [days_in y 12 hy0 hy9 (by omega) (by omega)]; rfl
    have HZ := Lib.hid hz
    clear hz
    go_enter Tryz.func93, Tryz.ntmps93
    go_wp2
    go_ret
    exact ⟨by rw [HZ.out]; rfl, rfl⟩
  omega
end Go.Proofs.YtelhdkidnhfnbabGreatDoor
