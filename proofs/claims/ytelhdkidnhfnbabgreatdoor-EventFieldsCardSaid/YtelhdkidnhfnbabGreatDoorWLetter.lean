/-
  Is a folded rune a letter: the program's and the document's. No condition.
-/
import Derived.Test.YtelhdkidnhfnbabGreatDoorURune
namespace Go.Proofs.YtelhdkidnhfnbabGreatDoor
open Go.RowKit

def letB (c : Int) : Bool := decide ((97 ≤ c ∧ c ≤ 122) ∨ (48 ≤ c ∧ c ≤ 57) ∨ (192 ≤ c ∧ c ≠ 215 ∧ c ≠ 247 ∧ ¬ (8192 ≤ c ∧ c ≤ 8303) ∧ ¬ (12288 ≤ c ∧ c ≤ 12351) ∧ c ≠ 65533))
theorem let_iff (c : Int) : letB c = true ↔ ((97 ≤ c ∧ c ≤ 122) ∨ (48 ≤ c ∧ c ≤ 57) ∨ (192 ≤ c ∧ c ≠ 215 ∧ c ≠ 247 ∧ ¬ (8192 ≤ c ∧ c ≤ 8303) ∧ ¬ (12288 ≤ c ∧ c ≤ 12351) ∧ c ≠ 65533)) := by unfold letB; exact decide_eq_true_iff
theorem let_no (c : Int) : letB c = false ↔ ¬ ((97 ≤ c ∧ c ≤ 122) ∨ (48 ≤ c ∧ c ≤ 57) ∨ (192 ≤ c ∧ c ≠ 215 ∧ c ≠ 247 ∧ ¬ (8192 ≤ c ∧ c ≤ 8303) ∧ ¬ (12288 ≤ c ∧ c ≤ 12351) ∧ c ≠ 65533)) := by unfold letB; exact decide_eq_false_iff_not
set_option maxHeartbeats 400000 in
theorem wbetween_any (c a b : Int) (w : World) : Calls Tryz.prog 106 #[.int .i32 c, .int .i32 a, .int .i32 b] w (Pure w (.bool (btwB c a b))) := by
  by_cases h1 : a ≤ c
  · have d1 : decide (a ≤ c) = true := decide_eq_true h1
    by_cases h2 : c ≤ b
    · have hd := btw_yes h1 h2
      have d2 : decide (c ≤ b) = true := decide_eq_true h2
      have HD := Lib.hid hd
      clear hd
      go_enter Tryz.func106, Tryz.ntmps106
      go_wp2
      go_ret
      exact ⟨by rw [HD.out]; rfl, rfl⟩
    · have hd := btw_no (fun h => h2 h.2 : ¬ (a ≤ c ∧ c ≤ b))
      have d2 : decide (c ≤ b) = false := decide_eq_false h2
      have HD := Lib.hid hd
      clear hd
      go_enter Tryz.func106, Tryz.ntmps106
      go_wp2
      go_ret
      exact ⟨by rw [HD.out]; rfl, rfl⟩
  · have hd := btw_no (fun h => h1 h.1 : ¬ (a ≤ c ∧ c ≤ b))
    have d1 : decide (a ≤ c) = false := decide_eq_false h1
    have HD := Lib.hid hd
    clear hd
    go_enter Tryz.func106, Tryz.ntmps106
    go_wp2
    go_ret
    exact ⟨by rw [HD.out]; rfl, rfl⟩
set_option maxRecDepth 100000 in
theorem flet_0 (c : Int) (w : World) (h2 : c ≤ 47) : Calls Tryz.prog 88 #[.int .i32 c] w (Pure w (.bool false)) := by
  have n0 : (c == 215) = false := by simp; omega
  have n1 : (c == 247) = false := by simp; omega
  have n2 : (c == 65533) = false := by simp; omega
  have l0 : decide (c < 192) = true := decide_eq_true (by omega)
  have b0 : btwB c 97 122 = false := btw_no (by omega)
  have b1 : btwB c 48 57 = false := btw_no (by omega)
  have b2 : btwB c 8192 8303 = false := btw_no (by omega)
  have b3 : btwB c 12288 12351 = false := btw_no (by omega)
  clear h2
  go_enter Tryz.func88, Tryz.ntmps88
  go_wp2_with (go_at_call 106; refine (wbetween_any _ _ _ _).mono ?_; rintro e w' ⟨rfl, rfl⟩)
  go_ret
  exact ⟨rfl, rfl⟩
set_option maxRecDepth 100000 in
theorem flet_1 (c : Int) (w : World) (h1 : 48 ≤ c) (h2 : c ≤ 57) : Calls Tryz.prog 88 #[.int .i32 c] w (Pure w (.bool true)) := by
  have n0 : (c == 215) = false := by simp; omega
  have n1 : (c == 247) = false := by simp; omega
  have n2 : (c == 65533) = false := by simp; omega
  have l0 : decide (c < 192) = true := decide_eq_true (by omega)
  have b0 : btwB c 97 122 = false := btw_no (by omega)
  have b1 : btwB c 48 57 = true := btw_yes (by omega) (by omega)
  have b2 : btwB c 8192 8303 = false := btw_no (by omega)
  have b3 : btwB c 12288 12351 = false := btw_no (by omega)
  clear h1 h2
  go_enter Tryz.func88, Tryz.ntmps88
  go_wp2_with (go_at_call 106; refine (wbetween_any _ _ _ _).mono ?_; rintro e w' ⟨rfl, rfl⟩)
  go_ret
  exact ⟨rfl, rfl⟩
set_option maxRecDepth 100000 in
theorem flet_2 (c : Int) (w : World) (h1 : 58 ≤ c) (h2 : c ≤ 96) : Calls Tryz.prog 88 #[.int .i32 c] w (Pure w (.bool false)) := by
  have n0 : (c == 215) = false := by simp; omega
  have n1 : (c == 247) = false := by simp; omega
  have n2 : (c == 65533) = false := by simp; omega
  have l0 : decide (c < 192) = true := decide_eq_true (by omega)
  have b0 : btwB c 97 122 = false := btw_no (by omega)
  have b1 : btwB c 48 57 = false := btw_no (by omega)
  have b2 : btwB c 8192 8303 = false := btw_no (by omega)
  have b3 : btwB c 12288 12351 = false := btw_no (by omega)
  clear h1 h2
  go_enter Tryz.func88, Tryz.ntmps88
  go_wp2_with (go_at_call 106; refine (wbetween_any _ _ _ _).mono ?_; rintro e w' ⟨rfl, rfl⟩)
  go_ret
  exact ⟨rfl, rfl⟩
set_option maxRecDepth 100000 in
theorem flet_3 (c : Int) (w : World) (h1 : 97 ≤ c) (h2 : c ≤ 122) : Calls Tryz.prog 88 #[.int .i32 c] w (Pure w (.bool true)) := by
  have n0 : (c == 215) = false := by simp; omega
  have n1 : (c == 247) = false := by simp; omega
  have n2 : (c == 65533) = false := by simp; omega
  have l0 : decide (c < 192) = true := decide_eq_true (by omega)
  have b0 : btwB c 97 122 = true := btw_yes (by omega) (by omega)
  have b1 : btwB c 48 57 = false := btw_no (by omega)
  have b2 : btwB c 8192 8303 = false := btw_no (by omega)
  have b3 : btwB c 12288 12351 = false := btw_no (by omega)
  clear h1 h2
  go_enter Tryz.func88, Tryz.ntmps88
  go_wp2_with (go_at_call 106; refine (wbetween_any _ _ _ _).mono ?_; rintro e w' ⟨rfl, rfl⟩)
  go_ret
  exact ⟨rfl, rfl⟩
set_option maxRecDepth 100000 in
theorem flet_4 (c : Int) (w : World) (h1 : 123 ≤ c) (h2 : c ≤ 191) : Calls Tryz.prog 88 #[.int .i32 c] w (Pure w (.bool false)) := by
  have n0 : (c == 215) = false := by simp; omega
  have n1 : (c == 247) = false := by simp; omega
  have n2 : (c == 65533) = false := by simp; omega
  have l0 : decide (c < 192) = true := decide_eq_true (by omega)
  have b0 : btwB c 97 122 = false := btw_no (by omega)
  have b1 : btwB c 48 57 = false := btw_no (by omega)
  have b2 : btwB c 8192 8303 = false := btw_no (by omega)
  have b3 : btwB c 12288 12351 = false := btw_no (by omega)
  clear h1 h2
  go_enter Tryz.func88, Tryz.ntmps88
  go_wp2_with (go_at_call 106; refine (wbetween_any _ _ _ _).mono ?_; rintro e w' ⟨rfl, rfl⟩)
  go_ret
  exact ⟨rfl, rfl⟩
set_option maxRecDepth 100000 in
theorem flet_5 (c : Int) (w : World) (h1 : 192 ≤ c) (h2 : c ≤ 214) : Calls Tryz.prog 88 #[.int .i32 c] w (Pure w (.bool true)) := by
  have n0 : (c == 215) = false := by simp; omega
  have n1 : (c == 247) = false := by simp; omega
  have n2 : (c == 65533) = false := by simp; omega
  have l0 : decide (c < 192) = false := decide_eq_false (by omega)
  have b0 : btwB c 97 122 = false := btw_no (by omega)
  have b1 : btwB c 48 57 = false := btw_no (by omega)
  have b2 : btwB c 8192 8303 = false := btw_no (by omega)
  have b3 : btwB c 12288 12351 = false := btw_no (by omega)
  clear h1 h2
  go_enter Tryz.func88, Tryz.ntmps88
  go_wp2_with (go_at_call 106; refine (wbetween_any _ _ _ _).mono ?_; rintro e w' ⟨rfl, rfl⟩)
  go_ret
  exact ⟨rfl, rfl⟩
set_option maxRecDepth 100000 in
theorem flet_6 (c : Int) (w : World) (h1 : 215 ≤ c) (h2 : c ≤ 215) : Calls Tryz.prog 88 #[.int .i32 c] w (Pure w (.bool false)) := by
  obtain rfl : c = 215 := by omega
  have b0 : btwB 215 97 122 = false := by decide
  have b1 : btwB 215 48 57 = false := by decide
  have b2 : btwB 215 8192 8303 = false := by decide
  have b3 : btwB 215 12288 12351 = false := by decide
  go_enter Tryz.func88, Tryz.ntmps88
  go_wp2_with (go_at_call 106; refine (wbetween_any _ _ _ _).mono ?_; rintro e w' ⟨rfl, rfl⟩)
  go_ret
  exact ⟨rfl, rfl⟩
set_option maxRecDepth 100000 in
theorem flet_7 (c : Int) (w : World) (h1 : 216 ≤ c) (h2 : c ≤ 246) : Calls Tryz.prog 88 #[.int .i32 c] w (Pure w (.bool true)) := by
  have n0 : (c == 215) = false := by simp; omega
  have n1 : (c == 247) = false := by simp; omega
  have n2 : (c == 65533) = false := by simp; omega
  have l0 : decide (c < 192) = false := decide_eq_false (by omega)
  have b0 : btwB c 97 122 = false := btw_no (by omega)
  have b1 : btwB c 48 57 = false := btw_no (by omega)
  have b2 : btwB c 8192 8303 = false := btw_no (by omega)
  have b3 : btwB c 12288 12351 = false := btw_no (by omega)
  clear h1 h2
  go_enter Tryz.func88, Tryz.ntmps88
  go_wp2_with (go_at_call 106; refine (wbetween_any _ _ _ _).mono ?_; rintro e w' ⟨rfl, rfl⟩)
  go_ret
  exact ⟨rfl, rfl⟩
set_option maxRecDepth 100000 in
theorem flet_8 (c : Int) (w : World) (h1 : 247 ≤ c) (h2 : c ≤ 247) : Calls Tryz.prog 88 #[.int .i32 c] w (Pure w (.bool false)) := by
  obtain rfl : c = 247 := by omega
  have b0 : btwB 247 97 122 = false := by decide
  have b1 : btwB 247 48 57 = false := by decide
  have b2 : btwB 247 8192 8303 = false := by decide
  have b3 : btwB 247 12288 12351 = false := by decide
  go_enter Tryz.func88, Tryz.ntmps88
  go_wp2_with (go_at_call 106; refine (wbetween_any _ _ _ _).mono ?_; rintro e w' ⟨rfl, rfl⟩)
  go_ret
  exact ⟨rfl, rfl⟩
set_option maxRecDepth 100000 in
theorem flet_9 (c : Int) (w : World) (h1 : 248 ≤ c) (h2 : c ≤ 8191) : Calls Tryz.prog 88 #[.int .i32 c] w (Pure w (.bool true)) := by
  have n0 : (c == 215) = false := by simp; omega
  have n1 : (c == 247) = false := by simp; omega
  have n2 : (c == 65533) = false := by simp; omega
  have l0 : decide (c < 192) = false := decide_eq_false (by omega)
  have b0 : btwB c 97 122 = false := btw_no (by omega)
  have b1 : btwB c 48 57 = false := btw_no (by omega)
  have b2 : btwB c 8192 8303 = false := btw_no (by omega)
  have b3 : btwB c 12288 12351 = false := btw_no (by omega)
  clear h1 h2
  go_enter Tryz.func88, Tryz.ntmps88
  go_wp2_with (go_at_call 106; refine (wbetween_any _ _ _ _).mono ?_; rintro e w' ⟨rfl, rfl⟩)
  go_ret
  exact ⟨rfl, rfl⟩
set_option maxRecDepth 100000 in
theorem flet_10 (c : Int) (w : World) (h1 : 8192 ≤ c) (h2 : c ≤ 8303) : Calls Tryz.prog 88 #[.int .i32 c] w (Pure w (.bool false)) := by
  have n0 : (c == 215) = false := by simp; omega
  have n1 : (c == 247) = false := by simp; omega
  have n2 : (c == 65533) = false := by simp; omega
  have l0 : decide (c < 192) = false := decide_eq_false (by omega)
  have b0 : btwB c 97 122 = false := btw_no (by omega)
  have b1 : btwB c 48 57 = false := btw_no (by omega)
  have b2 : btwB c 8192 8303 = true := btw_yes (by omega) (by omega)
  have b3 : btwB c 12288 12351 = false := btw_no (by omega)
  clear h1 h2
  go_enter Tryz.func88, Tryz.ntmps88
  go_wp2_with (go_at_call 106; refine (wbetween_any _ _ _ _).mono ?_; rintro e w' ⟨rfl, rfl⟩)
  go_ret
  exact ⟨rfl, rfl⟩
set_option maxRecDepth 100000 in
theorem flet_11 (c : Int) (w : World) (h1 : 8304 ≤ c) (h2 : c ≤ 12287) : Calls Tryz.prog 88 #[.int .i32 c] w (Pure w (.bool true)) := by
  have n0 : (c == 215) = false := by simp; omega
  have n1 : (c == 247) = false := by simp; omega
  have n2 : (c == 65533) = false := by simp; omega
  have l0 : decide (c < 192) = false := decide_eq_false (by omega)
  have b0 : btwB c 97 122 = false := btw_no (by omega)
  have b1 : btwB c 48 57 = false := btw_no (by omega)
  have b2 : btwB c 8192 8303 = false := btw_no (by omega)
  have b3 : btwB c 12288 12351 = false := btw_no (by omega)
  clear h1 h2
  go_enter Tryz.func88, Tryz.ntmps88
  go_wp2_with (go_at_call 106; refine (wbetween_any _ _ _ _).mono ?_; rintro e w' ⟨rfl, rfl⟩)
  go_ret
  exact ⟨rfl, rfl⟩
set_option maxRecDepth 100000 in
theorem flet_12 (c : Int) (w : World) (h1 : 12288 ≤ c) (h2 : c ≤ 12351) : Calls Tryz.prog 88 #[.int .i32 c] w (Pure w (.bool false)) := by
  have n0 : (c == 215) = false := by simp; omega
  have n1 : (c == 247) = false := by simp; omega
  have n2 : (c == 65533) = false := by simp; omega
  have l0 : decide (c < 192) = false := decide_eq_false (by omega)
  have b0 : btwB c 97 122 = false := btw_no (by omega)
  have b1 : btwB c 48 57 = false := btw_no (by omega)
  have b2 : btwB c 8192 8303 = false := btw_no (by omega)
  have b3 : btwB c 12288 12351 = true := btw_yes (by omega) (by omega)
  clear h1 h2
  go_enter Tryz.func88, Tryz.ntmps88
  go_wp2_with (go_at_call 106; refine (wbetween_any _ _ _ _).mono ?_; rintro e w' ⟨rfl, rfl⟩)
  go_ret
  exact ⟨rfl, rfl⟩
set_option maxRecDepth 100000 in
theorem flet_13 (c : Int) (w : World) (h1 : 12352 ≤ c) (h2 : c ≤ 65532) : Calls Tryz.prog 88 #[.int .i32 c] w (Pure w (.bool true)) := by
  have n0 : (c == 215) = false := by simp; omega
  have n1 : (c == 247) = false := by simp; omega
  have n2 : (c == 65533) = false := by simp; omega
  have l0 : decide (c < 192) = false := decide_eq_false (by omega)
  have b0 : btwB c 97 122 = false := btw_no (by omega)
  have b1 : btwB c 48 57 = false := btw_no (by omega)
  have b2 : btwB c 8192 8303 = false := btw_no (by omega)
  have b3 : btwB c 12288 12351 = false := btw_no (by omega)
  clear h1 h2
  go_enter Tryz.func88, Tryz.ntmps88
  go_wp2_with (go_at_call 106; refine (wbetween_any _ _ _ _).mono ?_; rintro e w' ⟨rfl, rfl⟩)
  go_ret
  exact ⟨rfl, rfl⟩
set_option maxRecDepth 100000 in
theorem flet_14 (c : Int) (w : World) (h1 : 65533 ≤ c) (h2 : c ≤ 65533) : Calls Tryz.prog 88 #[.int .i32 c] w (Pure w (.bool false)) := by
  obtain rfl : c = 65533 := by omega
  have b0 : btwB 65533 97 122 = false := by decide
  have b1 : btwB 65533 48 57 = false := by decide
  have b2 : btwB 65533 8192 8303 = false := by decide
  have b3 : btwB 65533 12288 12351 = false := by decide
  go_enter Tryz.func88, Tryz.ntmps88
  go_wp2_with (go_at_call 106; refine (wbetween_any _ _ _ _).mono ?_; rintro e w' ⟨rfl, rfl⟩)
  go_ret
  exact ⟨rfl, rfl⟩
set_option maxRecDepth 100000 in
theorem flet_15 (c : Int) (w : World) (h1 : 65534 ≤ c) : Calls Tryz.prog 88 #[.int .i32 c] w (Pure w (.bool true)) := by
  have n0 : (c == 215) = false := by simp; omega
  have n1 : (c == 247) = false := by simp; omega
  have n2 : (c == 65533) = false := by simp; omega
  have l0 : decide (c < 192) = false := decide_eq_false (by omega)
  have b0 : btwB c 97 122 = false := btw_no (by omega)
  have b1 : btwB c 48 57 = false := btw_no (by omega)
  have b2 : btwB c 8192 8303 = false := btw_no (by omega)
  have b3 : btwB c 12288 12351 = false := btw_no (by omega)
  clear h1
  go_enter Tryz.func88, Tryz.ntmps88
  go_wp2_with (go_at_call 106; refine (wbetween_any _ _ _ _).mono ?_; rintro e w' ⟨rfl, rfl⟩)
  go_ret
  exact ⟨rfl, rfl⟩
theorem letter_any (c : Int) (w : World) : Calls Tryz.prog 88 #[.int .i32 c] w (Pure w (.bool (letB c))) := by
  by_cases k0 : c ≤ 47
  · rw [show letB c = false from (let_no c).2 (by omega)]
    exact flet_0 c w (by omega)
  by_cases k1 : c ≤ 57
  · rw [show letB c = true from (let_iff c).2 (by omega)]
    exact flet_1 c w (by omega) (by omega)
  by_cases k2 : c ≤ 96
  · rw [show letB c = false from (let_no c).2 (by omega)]
    exact flet_2 c w (by omega) (by omega)
  by_cases k3 : c ≤ 122
  · rw [show letB c = true from (let_iff c).2 (by omega)]
    exact flet_3 c w (by omega) (by omega)
  by_cases k4 : c ≤ 191
  · rw [show letB c = false from (let_no c).2 (by omega)]
    exact flet_4 c w (by omega) (by omega)
  by_cases k5 : c ≤ 214
  · rw [show letB c = true from (let_iff c).2 (by omega)]
    exact flet_5 c w (by omega) (by omega)
  by_cases k6 : c ≤ 215
  · rw [show letB c = false from (let_no c).2 (by omega)]
    exact flet_6 c w (by omega) (by omega)
  by_cases k7 : c ≤ 246
  · rw [show letB c = true from (let_iff c).2 (by omega)]
    exact flet_7 c w (by omega) (by omega)
  by_cases k8 : c ≤ 247
  · rw [show letB c = false from (let_no c).2 (by omega)]
    exact flet_8 c w (by omega) (by omega)
  by_cases k9 : c ≤ 8191
  · rw [show letB c = true from (let_iff c).2 (by omega)]
    exact flet_9 c w (by omega) (by omega)
  by_cases k10 : c ≤ 8303
  · rw [show letB c = false from (let_no c).2 (by omega)]
    exact flet_10 c w (by omega) (by omega)
  by_cases k11 : c ≤ 12287
  · rw [show letB c = true from (let_iff c).2 (by omega)]
    exact flet_11 c w (by omega) (by omega)
  by_cases k12 : c ≤ 12351
  · rw [show letB c = false from (let_no c).2 (by omega)]
    exact flet_12 c w (by omega) (by omega)
  by_cases k13 : c ≤ 65532
  · rw [show letB c = true from (let_iff c).2 (by omega)]
    exact flet_13 c w (by omega) (by omega)
  by_cases k14 : c ≤ 65533
  · rw [show letB c = false from (let_no c).2 (by omega)]
    exact flet_14 c w (by omega) (by omega)
  rw [show letB c = true from (let_iff c).2 (by omega)]
  exact flet_15 c w (by omega)
set_option maxRecDepth 100000 in
theorem rlet_0 (c : Int) (w : World) (h2 : c ≤ 47) : Calls Tryz.prog 59 #[.int .i32 c] w (Pure w (.bool false)) := by
  have n0 : (c == 215) = false := by simp; omega
  have n1 : (c == 247) = false := by simp; omega
  have n2 : (c == 65533) = false := by simp; omega
  have l0 : decide (c < 192) = true := decide_eq_true (by omega)
  have a0 : decide ((97 : Int) ≤ c) = false := decide_eq_false (by omega)
  have b0 : decide (c ≤ 122) = true := decide_eq_true (by omega)
  have a1 : decide ((48 : Int) ≤ c) = false := decide_eq_false (by omega)
  have b1 : decide (c ≤ 57) = true := decide_eq_true (by omega)
  have a2 : decide ((8192 : Int) ≤ c) = false := decide_eq_false (by omega)
  have b2 : decide (c ≤ 8303) = true := decide_eq_true (by omega)
  have a3 : decide ((12288 : Int) ≤ c) = false := decide_eq_false (by omega)
  have b3 : decide (c ≤ 12351) = true := decide_eq_true (by omega)
  clear h2
  go_enter Tryz.func59, Tryz.ntmps59
  go_wp2_with (go_at_call 106; refine (wbetween_any _ _ _ _).mono ?_; rintro e w' ⟨rfl, rfl⟩)
  go_ret
  exact ⟨rfl, rfl⟩
set_option maxRecDepth 100000 in
theorem rlet_1 (c : Int) (w : World) (h1 : 48 ≤ c) (h2 : c ≤ 57) : Calls Tryz.prog 59 #[.int .i32 c] w (Pure w (.bool true)) := by
  have n0 : (c == 215) = false := by simp; omega
  have n1 : (c == 247) = false := by simp; omega
  have n2 : (c == 65533) = false := by simp; omega
  have l0 : decide (c < 192) = true := decide_eq_true (by omega)
  have a0 : decide ((97 : Int) ≤ c) = false := decide_eq_false (by omega)
  have b0 : decide (c ≤ 122) = true := decide_eq_true (by omega)
  have a1 : decide ((48 : Int) ≤ c) = true := decide_eq_true (by omega)
  have b1 : decide (c ≤ 57) = true := decide_eq_true (by omega)
  have a2 : decide ((8192 : Int) ≤ c) = false := decide_eq_false (by omega)
  have b2 : decide (c ≤ 8303) = true := decide_eq_true (by omega)
  have a3 : decide ((12288 : Int) ≤ c) = false := decide_eq_false (by omega)
  have b3 : decide (c ≤ 12351) = true := decide_eq_true (by omega)
  clear h1 h2
  go_enter Tryz.func59, Tryz.ntmps59
  go_wp2_with (go_at_call 106; refine (wbetween_any _ _ _ _).mono ?_; rintro e w' ⟨rfl, rfl⟩)
  go_ret
  exact ⟨rfl, rfl⟩
set_option maxRecDepth 100000 in
theorem rlet_2 (c : Int) (w : World) (h1 : 58 ≤ c) (h2 : c ≤ 96) : Calls Tryz.prog 59 #[.int .i32 c] w (Pure w (.bool false)) := by
  have n0 : (c == 215) = false := by simp; omega
  have n1 : (c == 247) = false := by simp; omega
  have n2 : (c == 65533) = false := by simp; omega
  have l0 : decide (c < 192) = true := decide_eq_true (by omega)
  have a0 : decide ((97 : Int) ≤ c) = false := decide_eq_false (by omega)
  have b0 : decide (c ≤ 122) = true := decide_eq_true (by omega)
  have a1 : decide ((48 : Int) ≤ c) = true := decide_eq_true (by omega)
  have b1 : decide (c ≤ 57) = false := decide_eq_false (by omega)
  have a2 : decide ((8192 : Int) ≤ c) = false := decide_eq_false (by omega)
  have b2 : decide (c ≤ 8303) = true := decide_eq_true (by omega)
  have a3 : decide ((12288 : Int) ≤ c) = false := decide_eq_false (by omega)
  have b3 : decide (c ≤ 12351) = true := decide_eq_true (by omega)
  clear h1 h2
  go_enter Tryz.func59, Tryz.ntmps59
  go_wp2_with (go_at_call 106; refine (wbetween_any _ _ _ _).mono ?_; rintro e w' ⟨rfl, rfl⟩)
  go_ret
  exact ⟨rfl, rfl⟩
set_option maxRecDepth 100000 in
theorem rlet_3 (c : Int) (w : World) (h1 : 97 ≤ c) (h2 : c ≤ 122) : Calls Tryz.prog 59 #[.int .i32 c] w (Pure w (.bool true)) := by
  have n0 : (c == 215) = false := by simp; omega
  have n1 : (c == 247) = false := by simp; omega
  have n2 : (c == 65533) = false := by simp; omega
  have l0 : decide (c < 192) = true := decide_eq_true (by omega)
  have a0 : decide ((97 : Int) ≤ c) = true := decide_eq_true (by omega)
  have b0 : decide (c ≤ 122) = true := decide_eq_true (by omega)
  have a1 : decide ((48 : Int) ≤ c) = true := decide_eq_true (by omega)
  have b1 : decide (c ≤ 57) = false := decide_eq_false (by omega)
  have a2 : decide ((8192 : Int) ≤ c) = false := decide_eq_false (by omega)
  have b2 : decide (c ≤ 8303) = true := decide_eq_true (by omega)
  have a3 : decide ((12288 : Int) ≤ c) = false := decide_eq_false (by omega)
  have b3 : decide (c ≤ 12351) = true := decide_eq_true (by omega)
  clear h1 h2
  go_enter Tryz.func59, Tryz.ntmps59
  go_wp2_with (go_at_call 106; refine (wbetween_any _ _ _ _).mono ?_; rintro e w' ⟨rfl, rfl⟩)
  go_ret
  exact ⟨rfl, rfl⟩
set_option maxRecDepth 100000 in
theorem rlet_4 (c : Int) (w : World) (h1 : 123 ≤ c) (h2 : c ≤ 191) : Calls Tryz.prog 59 #[.int .i32 c] w (Pure w (.bool false)) := by
  have n0 : (c == 215) = false := by simp; omega
  have n1 : (c == 247) = false := by simp; omega
  have n2 : (c == 65533) = false := by simp; omega
  have l0 : decide (c < 192) = true := decide_eq_true (by omega)
  have a0 : decide ((97 : Int) ≤ c) = true := decide_eq_true (by omega)
  have b0 : decide (c ≤ 122) = false := decide_eq_false (by omega)
  have a1 : decide ((48 : Int) ≤ c) = true := decide_eq_true (by omega)
  have b1 : decide (c ≤ 57) = false := decide_eq_false (by omega)
  have a2 : decide ((8192 : Int) ≤ c) = false := decide_eq_false (by omega)
  have b2 : decide (c ≤ 8303) = true := decide_eq_true (by omega)
  have a3 : decide ((12288 : Int) ≤ c) = false := decide_eq_false (by omega)
  have b3 : decide (c ≤ 12351) = true := decide_eq_true (by omega)
  clear h1 h2
  go_enter Tryz.func59, Tryz.ntmps59
  go_wp2_with (go_at_call 106; refine (wbetween_any _ _ _ _).mono ?_; rintro e w' ⟨rfl, rfl⟩)
  go_ret
  exact ⟨rfl, rfl⟩
set_option maxRecDepth 100000 in
theorem rlet_5 (c : Int) (w : World) (h1 : 192 ≤ c) (h2 : c ≤ 214) : Calls Tryz.prog 59 #[.int .i32 c] w (Pure w (.bool true)) := by
  have n0 : (c == 215) = false := by simp; omega
  have n1 : (c == 247) = false := by simp; omega
  have n2 : (c == 65533) = false := by simp; omega
  have l0 : decide (c < 192) = false := decide_eq_false (by omega)
  have a0 : decide ((97 : Int) ≤ c) = true := decide_eq_true (by omega)
  have b0 : decide (c ≤ 122) = false := decide_eq_false (by omega)
  have a1 : decide ((48 : Int) ≤ c) = true := decide_eq_true (by omega)
  have b1 : decide (c ≤ 57) = false := decide_eq_false (by omega)
  have a2 : decide ((8192 : Int) ≤ c) = false := decide_eq_false (by omega)
  have b2 : decide (c ≤ 8303) = true := decide_eq_true (by omega)
  have a3 : decide ((12288 : Int) ≤ c) = false := decide_eq_false (by omega)
  have b3 : decide (c ≤ 12351) = true := decide_eq_true (by omega)
  clear h1 h2
  go_enter Tryz.func59, Tryz.ntmps59
  go_wp2_with (go_at_call 106; refine (wbetween_any _ _ _ _).mono ?_; rintro e w' ⟨rfl, rfl⟩)
  go_ret
  exact ⟨rfl, rfl⟩
set_option maxRecDepth 100000 in
theorem rlet_6 (c : Int) (w : World) (h1 : 215 ≤ c) (h2 : c ≤ 215) : Calls Tryz.prog 59 #[.int .i32 c] w (Pure w (.bool false)) := by
  obtain rfl : c = 215 := by omega
  go_enter Tryz.func59, Tryz.ntmps59
  go_wp2_with (go_at_call 106; refine (wbetween_any _ _ _ _).mono ?_; rintro e w' ⟨rfl, rfl⟩)
  go_ret
  exact ⟨rfl, rfl⟩
set_option maxRecDepth 100000 in
theorem rlet_7 (c : Int) (w : World) (h1 : 216 ≤ c) (h2 : c ≤ 246) : Calls Tryz.prog 59 #[.int .i32 c] w (Pure w (.bool true)) := by
  have n0 : (c == 215) = false := by simp; omega
  have n1 : (c == 247) = false := by simp; omega
  have n2 : (c == 65533) = false := by simp; omega
  have l0 : decide (c < 192) = false := decide_eq_false (by omega)
  have a0 : decide ((97 : Int) ≤ c) = true := decide_eq_true (by omega)
  have b0 : decide (c ≤ 122) = false := decide_eq_false (by omega)
  have a1 : decide ((48 : Int) ≤ c) = true := decide_eq_true (by omega)
  have b1 : decide (c ≤ 57) = false := decide_eq_false (by omega)
  have a2 : decide ((8192 : Int) ≤ c) = false := decide_eq_false (by omega)
  have b2 : decide (c ≤ 8303) = true := decide_eq_true (by omega)
  have a3 : decide ((12288 : Int) ≤ c) = false := decide_eq_false (by omega)
  have b3 : decide (c ≤ 12351) = true := decide_eq_true (by omega)
  clear h1 h2
  go_enter Tryz.func59, Tryz.ntmps59
  go_wp2_with (go_at_call 106; refine (wbetween_any _ _ _ _).mono ?_; rintro e w' ⟨rfl, rfl⟩)
  go_ret
  exact ⟨rfl, rfl⟩
set_option maxRecDepth 100000 in
theorem rlet_8 (c : Int) (w : World) (h1 : 247 ≤ c) (h2 : c ≤ 247) : Calls Tryz.prog 59 #[.int .i32 c] w (Pure w (.bool false)) := by
  obtain rfl : c = 247 := by omega
  go_enter Tryz.func59, Tryz.ntmps59
  go_wp2_with (go_at_call 106; refine (wbetween_any _ _ _ _).mono ?_; rintro e w' ⟨rfl, rfl⟩)
  go_ret
  exact ⟨rfl, rfl⟩
set_option maxRecDepth 100000 in
theorem rlet_9 (c : Int) (w : World) (h1 : 248 ≤ c) (h2 : c ≤ 8191) : Calls Tryz.prog 59 #[.int .i32 c] w (Pure w (.bool true)) := by
  have n0 : (c == 215) = false := by simp; omega
  have n1 : (c == 247) = false := by simp; omega
  have n2 : (c == 65533) = false := by simp; omega
  have l0 : decide (c < 192) = false := decide_eq_false (by omega)
  have a0 : decide ((97 : Int) ≤ c) = true := decide_eq_true (by omega)
  have b0 : decide (c ≤ 122) = false := decide_eq_false (by omega)
  have a1 : decide ((48 : Int) ≤ c) = true := decide_eq_true (by omega)
  have b1 : decide (c ≤ 57) = false := decide_eq_false (by omega)
  have a2 : decide ((8192 : Int) ≤ c) = false := decide_eq_false (by omega)
  have b2 : decide (c ≤ 8303) = true := decide_eq_true (by omega)
  have a3 : decide ((12288 : Int) ≤ c) = false := decide_eq_false (by omega)
  have b3 : decide (c ≤ 12351) = true := decide_eq_true (by omega)
  clear h1 h2
  go_enter Tryz.func59, Tryz.ntmps59
  go_wp2_with (go_at_call 106; refine (wbetween_any _ _ _ _).mono ?_; rintro e w' ⟨rfl, rfl⟩)
  go_ret
  exact ⟨rfl, rfl⟩
set_option maxRecDepth 100000 in
theorem rlet_10 (c : Int) (w : World) (h1 : 8192 ≤ c) (h2 : c ≤ 8303) : Calls Tryz.prog 59 #[.int .i32 c] w (Pure w (.bool false)) := by
  have n0 : (c == 215) = false := by simp; omega
  have n1 : (c == 247) = false := by simp; omega
  have n2 : (c == 65533) = false := by simp; omega
  have l0 : decide (c < 192) = false := decide_eq_false (by omega)
  have a0 : decide ((97 : Int) ≤ c) = true := decide_eq_true (by omega)
  have b0 : decide (c ≤ 122) = false := decide_eq_false (by omega)
  have a1 : decide ((48 : Int) ≤ c) = true := decide_eq_true (by omega)
  have b1 : decide (c ≤ 57) = false := decide_eq_false (by omega)
  have a2 : decide ((8192 : Int) ≤ c) = true := decide_eq_true (by omega)
  have b2 : decide (c ≤ 8303) = true := decide_eq_true (by omega)
  have a3 : decide ((12288 : Int) ≤ c) = false := decide_eq_false (by omega)
  have b3 : decide (c ≤ 12351) = true := decide_eq_true (by omega)
  clear h1 h2
  go_enter Tryz.func59, Tryz.ntmps59
  go_wp2_with (go_at_call 106; refine (wbetween_any _ _ _ _).mono ?_; rintro e w' ⟨rfl, rfl⟩)
  go_ret
  exact ⟨rfl, rfl⟩
set_option maxRecDepth 100000 in
theorem rlet_11 (c : Int) (w : World) (h1 : 8304 ≤ c) (h2 : c ≤ 12287) : Calls Tryz.prog 59 #[.int .i32 c] w (Pure w (.bool true)) := by
  have n0 : (c == 215) = false := by simp; omega
  have n1 : (c == 247) = false := by simp; omega
  have n2 : (c == 65533) = false := by simp; omega
  have l0 : decide (c < 192) = false := decide_eq_false (by omega)
  have a0 : decide ((97 : Int) ≤ c) = true := decide_eq_true (by omega)
  have b0 : decide (c ≤ 122) = false := decide_eq_false (by omega)
  have a1 : decide ((48 : Int) ≤ c) = true := decide_eq_true (by omega)
  have b1 : decide (c ≤ 57) = false := decide_eq_false (by omega)
  have a2 : decide ((8192 : Int) ≤ c) = true := decide_eq_true (by omega)
  have b2 : decide (c ≤ 8303) = false := decide_eq_false (by omega)
  have a3 : decide ((12288 : Int) ≤ c) = false := decide_eq_false (by omega)
  have b3 : decide (c ≤ 12351) = true := decide_eq_true (by omega)
  clear h1 h2
  go_enter Tryz.func59, Tryz.ntmps59
  go_wp2_with (go_at_call 106; refine (wbetween_any _ _ _ _).mono ?_; rintro e w' ⟨rfl, rfl⟩)
  go_ret
  exact ⟨rfl, rfl⟩
set_option maxRecDepth 100000 in
theorem rlet_12 (c : Int) (w : World) (h1 : 12288 ≤ c) (h2 : c ≤ 12351) : Calls Tryz.prog 59 #[.int .i32 c] w (Pure w (.bool false)) := by
  have n0 : (c == 215) = false := by simp; omega
  have n1 : (c == 247) = false := by simp; omega
  have n2 : (c == 65533) = false := by simp; omega
  have l0 : decide (c < 192) = false := decide_eq_false (by omega)
  have a0 : decide ((97 : Int) ≤ c) = true := decide_eq_true (by omega)
  have b0 : decide (c ≤ 122) = false := decide_eq_false (by omega)
  have a1 : decide ((48 : Int) ≤ c) = true := decide_eq_true (by omega)
  have b1 : decide (c ≤ 57) = false := decide_eq_false (by omega)
  have a2 : decide ((8192 : Int) ≤ c) = true := decide_eq_true (by omega)
  have b2 : decide (c ≤ 8303) = false := decide_eq_false (by omega)
  have a3 : decide ((12288 : Int) ≤ c) = true := decide_eq_true (by omega)
  have b3 : decide (c ≤ 12351) = true := decide_eq_true (by omega)
  clear h1 h2
  go_enter Tryz.func59, Tryz.ntmps59
  go_wp2_with (go_at_call 106; refine (wbetween_any _ _ _ _).mono ?_; rintro e w' ⟨rfl, rfl⟩)
  go_ret
  exact ⟨rfl, rfl⟩
set_option maxRecDepth 100000 in
theorem rlet_13 (c : Int) (w : World) (h1 : 12352 ≤ c) (h2 : c ≤ 65532) : Calls Tryz.prog 59 #[.int .i32 c] w (Pure w (.bool true)) := by
  have n0 : (c == 215) = false := by simp; omega
  have n1 : (c == 247) = false := by simp; omega
  have n2 : (c == 65533) = false := by simp; omega
  have l0 : decide (c < 192) = false := decide_eq_false (by omega)
  have a0 : decide ((97 : Int) ≤ c) = true := decide_eq_true (by omega)
  have b0 : decide (c ≤ 122) = false := decide_eq_false (by omega)
  have a1 : decide ((48 : Int) ≤ c) = true := decide_eq_true (by omega)
  have b1 : decide (c ≤ 57) = false := decide_eq_false (by omega)
  have a2 : decide ((8192 : Int) ≤ c) = true := decide_eq_true (by omega)
  have b2 : decide (c ≤ 8303) = false := decide_eq_false (by omega)
  have a3 : decide ((12288 : Int) ≤ c) = true := decide_eq_true (by omega)
  have b3 : decide (c ≤ 12351) = false := decide_eq_false (by omega)
  clear h1 h2
  go_enter Tryz.func59, Tryz.ntmps59
  go_wp2_with (go_at_call 106; refine (wbetween_any _ _ _ _).mono ?_; rintro e w' ⟨rfl, rfl⟩)
  go_ret
  exact ⟨rfl, rfl⟩
set_option maxRecDepth 100000 in
theorem rlet_14 (c : Int) (w : World) (h1 : 65533 ≤ c) (h2 : c ≤ 65533) : Calls Tryz.prog 59 #[.int .i32 c] w (Pure w (.bool false)) := by
  obtain rfl : c = 65533 := by omega
  go_enter Tryz.func59, Tryz.ntmps59
  go_wp2_with (go_at_call 106; refine (wbetween_any _ _ _ _).mono ?_; rintro e w' ⟨rfl, rfl⟩)
  go_ret
  exact ⟨rfl, rfl⟩
set_option maxRecDepth 100000 in
theorem rlet_15 (c : Int) (w : World) (h1 : 65534 ≤ c) : Calls Tryz.prog 59 #[.int .i32 c] w (Pure w (.bool true)) := by
  have n0 : (c == 215) = false := by simp; omega
  have n1 : (c == 247) = false := by simp; omega
  have n2 : (c == 65533) = false := by simp; omega
  have l0 : decide (c < 192) = false := decide_eq_false (by omega)
  have a0 : decide ((97 : Int) ≤ c) = true := decide_eq_true (by omega)
  have b0 : decide (c ≤ 122) = false := decide_eq_false (by omega)
  have a1 : decide ((48 : Int) ≤ c) = true := decide_eq_true (by omega)
  have b1 : decide (c ≤ 57) = false := decide_eq_false (by omega)
  have a2 : decide ((8192 : Int) ≤ c) = true := decide_eq_true (by omega)
  have b2 : decide (c ≤ 8303) = false := decide_eq_false (by omega)
  have a3 : decide ((12288 : Int) ≤ c) = true := decide_eq_true (by omega)
  have b3 : decide (c ≤ 12351) = false := decide_eq_false (by omega)
  clear h1
  go_enter Tryz.func59, Tryz.ntmps59
  go_wp2_with (go_at_call 106; refine (wbetween_any _ _ _ _).mono ?_; rintro e w' ⟨rfl, rfl⟩)
  go_ret
  exact ⟨rfl, rfl⟩
theorem rletter_any (c : Int) (w : World) : Calls Tryz.prog 59 #[.int .i32 c] w (Pure w (.bool (letB c))) := by
  by_cases k0 : c ≤ 47
  · rw [show letB c = false from (let_no c).2 (by omega)]
    exact rlet_0 c w (by omega)
  by_cases k1 : c ≤ 57
  · rw [show letB c = true from (let_iff c).2 (by omega)]
    exact rlet_1 c w (by omega) (by omega)
  by_cases k2 : c ≤ 96
  · rw [show letB c = false from (let_no c).2 (by omega)]
    exact rlet_2 c w (by omega) (by omega)
  by_cases k3 : c ≤ 122
  · rw [show letB c = true from (let_iff c).2 (by omega)]
    exact rlet_3 c w (by omega) (by omega)
  by_cases k4 : c ≤ 191
  · rw [show letB c = false from (let_no c).2 (by omega)]
    exact rlet_4 c w (by omega) (by omega)
  by_cases k5 : c ≤ 214
  · rw [show letB c = true from (let_iff c).2 (by omega)]
    exact rlet_5 c w (by omega) (by omega)
  by_cases k6 : c ≤ 215
  · rw [show letB c = false from (let_no c).2 (by omega)]
    exact rlet_6 c w (by omega) (by omega)
  by_cases k7 : c ≤ 246
  · rw [show letB c = true from (let_iff c).2 (by omega)]
    exact rlet_7 c w (by omega) (by omega)
  by_cases k8 : c ≤ 247
  · rw [show letB c = false from (let_no c).2 (by omega)]
    exact rlet_8 c w (by omega) (by omega)
  by_cases k9 : c ≤ 8191
  · rw [show letB c = true from (let_iff c).2 (by omega)]
    exact rlet_9 c w (by omega) (by omega)
  by_cases k10 : c ≤ 8303
  · rw [show letB c = false from (let_no c).2 (by omega)]
    exact rlet_10 c w (by omega) (by omega)
  by_cases k11 : c ≤ 12287
  · rw [show letB c = true from (let_iff c).2 (by omega)]
    exact rlet_11 c w (by omega) (by omega)
  by_cases k12 : c ≤ 12351
  · rw [show letB c = false from (let_no c).2 (by omega)]
    exact rlet_12 c w (by omega) (by omega)
  by_cases k13 : c ≤ 65532
  · rw [show letB c = true from (let_iff c).2 (by omega)]
    exact rlet_13 c w (by omega) (by omega)
  by_cases k14 : c ≤ 65533
  · rw [show letB c = false from (let_no c).2 (by omega)]
    exact rlet_14 c w (by omega) (by omega)
  rw [show letB c = true from (let_iff c).2 (by omega)]
  exact rlet_15 c w (by omega)
end Go.Proofs.YtelhdkidnhfnbabGreatDoor
