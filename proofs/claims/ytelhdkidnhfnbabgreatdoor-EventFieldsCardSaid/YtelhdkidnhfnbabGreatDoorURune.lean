/-
  What is asked of one rune: between, Blank, unseen, folded; the document's Blank and fold. No condition.
-/
import Derived.Test.YtelhdkidnhfnbabGreatDoorUStr
namespace Go.Proofs.YtelhdkidnhfnbabGreatDoor
open Go.RowKit

def btwB (c a b : Int) : Bool := decide (a ≤ c ∧ c ≤ b)
theorem btw_yes {c a b : Int} (h : a ≤ c) (h' : c ≤ b) : btwB c a b = true := decide_eq_true ⟨h, h'⟩
theorem btw_no {c a b : Int} (h : ¬ (a ≤ c ∧ c ≤ b)) : btwB c a b = false := decide_eq_false h
set_option maxHeartbeats 400000 in
theorem between_any (c a b : Int) (w : World) : Calls Tryz.prog 86 #[.int .i32 c, .int .i32 a, .int .i32 b] w (Pure w (.bool (btwB c a b))) := by
  by_cases h1 : a ≤ c
  · have d1 : decide (a ≤ c) = true := decide_eq_true h1
    by_cases h2 : c ≤ b
    · have hd := btw_yes h1 h2
      have d2 : decide (c ≤ b) = true := decide_eq_true h2
      have HD := Lib.hid hd
      clear hd
      go_enter Tryz.func86, Tryz.ntmps86
      go_wp2
      go_ret
      exact ⟨by rw [HD.out]; rfl, rfl⟩
    · have hd := btw_no (fun h => h2 h.2 : ¬ (a ≤ c ∧ c ≤ b))
      have d2 : decide (c ≤ b) = false := decide_eq_false h2
      have HD := Lib.hid hd
      clear hd
      go_enter Tryz.func86, Tryz.ntmps86
      go_wp2
      go_ret
      exact ⟨by rw [HD.out]; rfl, rfl⟩
  · have hd := btw_no (fun h => h1 h.1 : ¬ (a ≤ c ∧ c ≤ b))
    have d1 : decide (a ≤ c) = false := decide_eq_false h1
    have HD := Lib.hid hd
    clear hd
    go_enter Tryz.func86, Tryz.ntmps86
    go_wp2
    go_ret
    exact ⟨by rw [HD.out]; rfl, rfl⟩
set_option maxHeartbeats 1600000 in
theorem blank_any (c : Int) (w : World) : Calls Tryz.prog 65 #[.int .i32 c] w (Pure w (.bool (blankB c))) := by
  by_cases hb : blankB c = true
  · have hc := (blank_iff c).1 hb
    rw [hb]
    clear hb
    rcases hc with rfl | rfl | rfl | rfl | rfl | rfl | rfl | rfl
    all_goals
      go_enter Tryz.func65, Tryz.ntmps65
      go_wp2
      go_ret
      exact ⟨rfl, rfl⟩
  · have hb' : blankB c = false := by simpa using hb
    have hc := (blank_no c).1 hb'
    rw [hb']
    have n0 : (c == 9) = false := by simp; omega
    have n1 : (c == 10) = false := by simp; omega
    have n2 : (c == 13) = false := by simp; omega
    have n3 : (c == 32) = false := by simp; omega
    have n4 : (c == 160) = false := by simp; omega
    have n5 : (c == 8232) = false := by simp; omega
    have n6 : (c == 8233) = false := by simp; omega
    have n7 : (c == 12288) = false := by simp; omega
    clear hb hb' hc
    go_enter Tryz.func65, Tryz.ntmps65
    go_wp2
    go_ret
    exact ⟨rfl, rfl⟩
set_option maxHeartbeats 1600000 in
theorem rblank_any (c : Int) (w : World) : Calls Tryz.prog 73 #[.int .i32 c] w (Pure w (.bool (blankB c))) := by
  by_cases hb : blankB c = true
  · have hc := (blank_iff c).1 hb
    rw [hb]
    clear hb
    rcases hc with rfl | rfl | rfl | rfl | rfl | rfl | rfl | rfl
    all_goals
      go_enter Tryz.func73, Tryz.ntmps73
      go_wp2
      go_ret
      exact ⟨rfl, rfl⟩
  · have hb' : blankB c = false := by simpa using hb
    have hc := (blank_no c).1 hb'
    rw [hb']
    have n0 : (c == 9) = false := by simp; omega
    have n1 : (c == 10) = false := by simp; omega
    have n2 : (c == 13) = false := by simp; omega
    have n3 : (c == 32) = false := by simp; omega
    have n4 : (c == 160) = false := by simp; omega
    have n5 : (c == 8232) = false := by simp; omega
    have n6 : (c == 8233) = false := by simp; omega
    have n7 : (c == 12288) = false := by simp; omega
    clear hb hb' hc
    go_enter Tryz.func73, Tryz.ntmps73
    go_wp2
    go_ret
    exact ⟨rfl, rfl⟩
set_option maxHeartbeats 400000 in
theorem unseen_any (c : Int) (w : World) : Calls Tryz.prog 66 #[.int .i32 c] w (Pure w (.bool (unseenB c))) := by
  by_cases h1 : c < 32
  · have hd := (unseen_iff c).2 (.inl h1)
    have d1 : decide (c < 32) = true := decide_eq_true h1
    have HD := Lib.hid hd
    clear hd
    go_enter Tryz.func66, Tryz.ntmps66
    go_wp2_with fail
    go_ret
    exact ⟨by rw [HD.out]; rfl, rfl⟩
  · have d1 : decide (c < 32) = false := decide_eq_false h1
    have hd : unseenB c = btwB c 127 159 := by
      unfold unseenB btwB
      by_cases h : 127 ≤ c ∧ c ≤ 159
      · rw [decide_eq_true (Or.inr h), decide_eq_true h]
      · rw [decide_eq_false h, decide_eq_false (by omega)]
    rw [hd]
    clear hd
    go_enter Tryz.func66, Tryz.ntmps66
    go_wp2_with (go_at_call 86; refine (between_any _ _ _ _).mono ?_; rintro e w' ⟨rfl, rfl⟩)
    go_ret
    exact ⟨rfl, rfl⟩
theorem ffold_0 (c : Int) (w : World) (h2 : c ≤ 64) : Calls Tryz.prog 90 #[.int .i32 c] w (Pure w (.int .i32 (c))) := by
  have n0 : (c == 215) = false := by simp; omega
  have m0 : (c != 215) = true := by simp; omega
  have n1 : (c == 930) = false := by simp; omega
  have m1 : (c != 930) = true := by simp; omega
  have b0 : btwB c 65 90 = false := btw_no (by omega)
  have b1 : btwB c 192 222 = false := btw_no (by omega)
  have b2 : btwB c 913 937 = false := btw_no (by omega)
  have b3 : btwB c 1040 1071 = false := btw_no (by omega)
  have b4 : btwB c 1024 1039 = false := btw_no (by omega)
  go_enter Tryz.func90, Tryz.ntmps90
  go_wp2_with (go_at_call 86; refine (between_any _ _ _ _).mono ?_; rintro e w' ⟨rfl, rfl⟩)
  go_ret
  exact ⟨rfl, rfl⟩
theorem ffold_1 (c : Int) (w : World) (h1 : 65 ≤ c) (h2 : c ≤ 90) : Calls Tryz.prog 90 #[.int .i32 c] w (Pure w (.int .i32 (c + 32))) := by
  have n0 : (c == 215) = false := by simp; omega
  have m0 : (c != 215) = true := by simp; omega
  have n1 : (c == 930) = false := by simp; omega
  have m1 : (c != 930) = true := by simp; omega
  have b0 : btwB c 65 90 = true := btw_yes (by omega) (by omega)
  have b1 : btwB c 192 222 = false := btw_no (by omega)
  have b2 : btwB c 913 937 = false := btw_no (by omega)
  have b3 : btwB c 1040 1071 = false := btw_no (by omega)
  have b4 : btwB c 1024 1039 = false := btw_no (by omega)
  go_enter Tryz.func90, Tryz.ntmps90
  go_wp2_with (go_at_call 86; refine (between_any _ _ _ _).mono ?_; rintro e w' ⟨rfl, rfl⟩)
  go_ret
  exact ⟨rfl, rfl⟩
theorem ffold_2 (c : Int) (w : World) (h1 : 91 ≤ c) (h2 : c ≤ 191) : Calls Tryz.prog 90 #[.int .i32 c] w (Pure w (.int .i32 (c))) := by
  have n0 : (c == 215) = false := by simp; omega
  have m0 : (c != 215) = true := by simp; omega
  have n1 : (c == 930) = false := by simp; omega
  have m1 : (c != 930) = true := by simp; omega
  have b0 : btwB c 65 90 = false := btw_no (by omega)
  have b1 : btwB c 192 222 = false := btw_no (by omega)
  have b2 : btwB c 913 937 = false := btw_no (by omega)
  have b3 : btwB c 1040 1071 = false := btw_no (by omega)
  have b4 : btwB c 1024 1039 = false := btw_no (by omega)
  go_enter Tryz.func90, Tryz.ntmps90
  go_wp2_with (go_at_call 86; refine (between_any _ _ _ _).mono ?_; rintro e w' ⟨rfl, rfl⟩)
  go_ret
  exact ⟨rfl, rfl⟩
theorem ffold_3 (c : Int) (w : World) (h1 : 192 ≤ c) (h2 : c ≤ 214) : Calls Tryz.prog 90 #[.int .i32 c] w (Pure w (.int .i32 (c + 32))) := by
  have n0 : (c == 215) = false := by simp; omega
  have m0 : (c != 215) = true := by simp; omega
  have n1 : (c == 930) = false := by simp; omega
  have m1 : (c != 930) = true := by simp; omega
  have b0 : btwB c 65 90 = false := btw_no (by omega)
  have b1 : btwB c 192 222 = true := btw_yes (by omega) (by omega)
  have b2 : btwB c 913 937 = false := btw_no (by omega)
  have b3 : btwB c 1040 1071 = false := btw_no (by omega)
  have b4 : btwB c 1024 1039 = false := btw_no (by omega)
  go_enter Tryz.func90, Tryz.ntmps90
  go_wp2_with (go_at_call 86; refine (between_any _ _ _ _).mono ?_; rintro e w' ⟨rfl, rfl⟩)
  go_ret
  exact ⟨rfl, rfl⟩
theorem ffold_4 (c : Int) (w : World) (h1 : 215 ≤ c) (h2 : c ≤ 215) : Calls Tryz.prog 90 #[.int .i32 c] w (Pure w (.int .i32 (c))) := by
  obtain rfl : c = 215 := by omega
  go_enter Tryz.func90, Tryz.ntmps90
  go_wp2_with (go_at_call 86; refine (between_any _ _ _ _).mono ?_; rintro e w' ⟨rfl, rfl⟩)
  go_ret
  exact ⟨rfl, rfl⟩
theorem ffold_5 (c : Int) (w : World) (h1 : 216 ≤ c) (h2 : c ≤ 222) : Calls Tryz.prog 90 #[.int .i32 c] w (Pure w (.int .i32 (c + 32))) := by
  have n0 : (c == 215) = false := by simp; omega
  have m0 : (c != 215) = true := by simp; omega
  have n1 : (c == 930) = false := by simp; omega
  have m1 : (c != 930) = true := by simp; omega
  have b0 : btwB c 65 90 = false := btw_no (by omega)
  have b1 : btwB c 192 222 = true := btw_yes (by omega) (by omega)
  have b2 : btwB c 913 937 = false := btw_no (by omega)
  have b3 : btwB c 1040 1071 = false := btw_no (by omega)
  have b4 : btwB c 1024 1039 = false := btw_no (by omega)
  go_enter Tryz.func90, Tryz.ntmps90
  go_wp2_with (go_at_call 86; refine (between_any _ _ _ _).mono ?_; rintro e w' ⟨rfl, rfl⟩)
  go_ret
  exact ⟨rfl, rfl⟩
theorem ffold_6 (c : Int) (w : World) (h1 : 223 ≤ c) (h2 : c ≤ 912) : Calls Tryz.prog 90 #[.int .i32 c] w (Pure w (.int .i32 (c))) := by
  have n0 : (c == 215) = false := by simp; omega
  have m0 : (c != 215) = true := by simp; omega
  have n1 : (c == 930) = false := by simp; omega
  have m1 : (c != 930) = true := by simp; omega
  have b0 : btwB c 65 90 = false := btw_no (by omega)
  have b1 : btwB c 192 222 = false := btw_no (by omega)
  have b2 : btwB c 913 937 = false := btw_no (by omega)
  have b3 : btwB c 1040 1071 = false := btw_no (by omega)
  have b4 : btwB c 1024 1039 = false := btw_no (by omega)
  go_enter Tryz.func90, Tryz.ntmps90
  go_wp2_with (go_at_call 86; refine (between_any _ _ _ _).mono ?_; rintro e w' ⟨rfl, rfl⟩)
  go_ret
  exact ⟨rfl, rfl⟩
theorem ffold_7 (c : Int) (w : World) (h1 : 913 ≤ c) (h2 : c ≤ 929) : Calls Tryz.prog 90 #[.int .i32 c] w (Pure w (.int .i32 (c + 32))) := by
  have n0 : (c == 215) = false := by simp; omega
  have m0 : (c != 215) = true := by simp; omega
  have n1 : (c == 930) = false := by simp; omega
  have m1 : (c != 930) = true := by simp; omega
  have b0 : btwB c 65 90 = false := btw_no (by omega)
  have b1 : btwB c 192 222 = false := btw_no (by omega)
  have b2 : btwB c 913 937 = true := btw_yes (by omega) (by omega)
  have b3 : btwB c 1040 1071 = false := btw_no (by omega)
  have b4 : btwB c 1024 1039 = false := btw_no (by omega)
  go_enter Tryz.func90, Tryz.ntmps90
  go_wp2_with (go_at_call 86; refine (between_any _ _ _ _).mono ?_; rintro e w' ⟨rfl, rfl⟩)
  go_ret
  exact ⟨rfl, rfl⟩
theorem ffold_8 (c : Int) (w : World) (h1 : 930 ≤ c) (h2 : c ≤ 930) : Calls Tryz.prog 90 #[.int .i32 c] w (Pure w (.int .i32 (c))) := by
  obtain rfl : c = 930 := by omega
  go_enter Tryz.func90, Tryz.ntmps90
  go_wp2_with (go_at_call 86; refine (between_any _ _ _ _).mono ?_; rintro e w' ⟨rfl, rfl⟩)
  go_ret
  exact ⟨rfl, rfl⟩
theorem ffold_9 (c : Int) (w : World) (h1 : 931 ≤ c) (h2 : c ≤ 937) : Calls Tryz.prog 90 #[.int .i32 c] w (Pure w (.int .i32 (c + 32))) := by
  have n0 : (c == 215) = false := by simp; omega
  have m0 : (c != 215) = true := by simp; omega
  have n1 : (c == 930) = false := by simp; omega
  have m1 : (c != 930) = true := by simp; omega
  have b0 : btwB c 65 90 = false := btw_no (by omega)
  have b1 : btwB c 192 222 = false := btw_no (by omega)
  have b2 : btwB c 913 937 = true := btw_yes (by omega) (by omega)
  have b3 : btwB c 1040 1071 = false := btw_no (by omega)
  have b4 : btwB c 1024 1039 = false := btw_no (by omega)
  go_enter Tryz.func90, Tryz.ntmps90
  go_wp2_with (go_at_call 86; refine (between_any _ _ _ _).mono ?_; rintro e w' ⟨rfl, rfl⟩)
  go_ret
  exact ⟨rfl, rfl⟩
theorem ffold_10 (c : Int) (w : World) (h1 : 938 ≤ c) (h2 : c ≤ 1023) : Calls Tryz.prog 90 #[.int .i32 c] w (Pure w (.int .i32 (c))) := by
  have n0 : (c == 215) = false := by simp; omega
  have m0 : (c != 215) = true := by simp; omega
  have n1 : (c == 930) = false := by simp; omega
  have m1 : (c != 930) = true := by simp; omega
  have b0 : btwB c 65 90 = false := btw_no (by omega)
  have b1 : btwB c 192 222 = false := btw_no (by omega)
  have b2 : btwB c 913 937 = false := btw_no (by omega)
  have b3 : btwB c 1040 1071 = false := btw_no (by omega)
  have b4 : btwB c 1024 1039 = false := btw_no (by omega)
  go_enter Tryz.func90, Tryz.ntmps90
  go_wp2_with (go_at_call 86; refine (between_any _ _ _ _).mono ?_; rintro e w' ⟨rfl, rfl⟩)
  go_ret
  exact ⟨rfl, rfl⟩
theorem ffold_11 (c : Int) (w : World) (h1 : 1024 ≤ c) (h2 : c ≤ 1039) : Calls Tryz.prog 90 #[.int .i32 c] w (Pure w (.int .i32 (c + 80))) := by
  have n0 : (c == 215) = false := by simp; omega
  have m0 : (c != 215) = true := by simp; omega
  have n1 : (c == 930) = false := by simp; omega
  have m1 : (c != 930) = true := by simp; omega
  have b0 : btwB c 65 90 = false := btw_no (by omega)
  have b1 : btwB c 192 222 = false := btw_no (by omega)
  have b2 : btwB c 913 937 = false := btw_no (by omega)
  have b3 : btwB c 1040 1071 = false := btw_no (by omega)
  have b4 : btwB c 1024 1039 = true := btw_yes (by omega) (by omega)
  go_enter Tryz.func90, Tryz.ntmps90
  go_wp2_with (go_at_call 86; refine (between_any _ _ _ _).mono ?_; rintro e w' ⟨rfl, rfl⟩)
  go_ret
  exact ⟨rfl, rfl⟩
theorem ffold_12 (c : Int) (w : World) (h1 : 1040 ≤ c) (h2 : c ≤ 1071) : Calls Tryz.prog 90 #[.int .i32 c] w (Pure w (.int .i32 (c + 32))) := by
  have n0 : (c == 215) = false := by simp; omega
  have m0 : (c != 215) = true := by simp; omega
  have n1 : (c == 930) = false := by simp; omega
  have m1 : (c != 930) = true := by simp; omega
  have b0 : btwB c 65 90 = false := btw_no (by omega)
  have b1 : btwB c 192 222 = false := btw_no (by omega)
  have b2 : btwB c 913 937 = false := btw_no (by omega)
  have b3 : btwB c 1040 1071 = true := btw_yes (by omega) (by omega)
  have b4 : btwB c 1024 1039 = false := btw_no (by omega)
  go_enter Tryz.func90, Tryz.ntmps90
  go_wp2_with (go_at_call 86; refine (between_any _ _ _ _).mono ?_; rintro e w' ⟨rfl, rfl⟩)
  go_ret
  exact ⟨rfl, rfl⟩
theorem ffold_13 (c : Int) (w : World) (h1 : 1072 ≤ c) : Calls Tryz.prog 90 #[.int .i32 c] w (Pure w (.int .i32 (c))) := by
  have n0 : (c == 215) = false := by simp; omega
  have m0 : (c != 215) = true := by simp; omega
  have n1 : (c == 930) = false := by simp; omega
  have m1 : (c != 930) = true := by simp; omega
  have b0 : btwB c 65 90 = false := btw_no (by omega)
  have b1 : btwB c 192 222 = false := btw_no (by omega)
  have b2 : btwB c 913 937 = false := btw_no (by omega)
  have b3 : btwB c 1040 1071 = false := btw_no (by omega)
  have b4 : btwB c 1024 1039 = false := btw_no (by omega)
  go_enter Tryz.func90, Tryz.ntmps90
  go_wp2_with (go_at_call 86; refine (between_any _ _ _ _).mono ?_; rintro e w' ⟨rfl, rfl⟩)
  go_ret
  exact ⟨rfl, rfl⟩
theorem folded_any (c : Int) (w : World) : Calls Tryz.prog 90 #[.int .i32 c] w (Pure w (.int .i32 (foldR c))) := by
  by_cases k0 : c ≤ 64
  · rw [show foldR c = c by unfold foldR; repeat' split <;> omega]
    exact ffold_0 c w (by omega)
  by_cases k1 : c ≤ 90
  · rw [show foldR c = c + 32 by unfold foldR; repeat' split <;> omega]
    exact ffold_1 c w (by omega) (by omega)
  by_cases k2 : c ≤ 191
  · rw [show foldR c = c by unfold foldR; repeat' split <;> omega]
    exact ffold_2 c w (by omega) (by omega)
  by_cases k3 : c ≤ 214
  · rw [show foldR c = c + 32 by unfold foldR; repeat' split <;> omega]
    exact ffold_3 c w (by omega) (by omega)
  by_cases k4 : c ≤ 215
  · rw [show foldR c = c by unfold foldR; repeat' split <;> omega]
    exact ffold_4 c w (by omega) (by omega)
  by_cases k5 : c ≤ 222
  · rw [show foldR c = c + 32 by unfold foldR; repeat' split <;> omega]
    exact ffold_5 c w (by omega) (by omega)
  by_cases k6 : c ≤ 912
  · rw [show foldR c = c by unfold foldR; repeat' split <;> omega]
    exact ffold_6 c w (by omega) (by omega)
  by_cases k7 : c ≤ 929
  · rw [show foldR c = c + 32 by unfold foldR; repeat' split <;> omega]
    exact ffold_7 c w (by omega) (by omega)
  by_cases k8 : c ≤ 930
  · rw [show foldR c = c by unfold foldR; repeat' split <;> omega]
    exact ffold_8 c w (by omega) (by omega)
  by_cases k9 : c ≤ 937
  · rw [show foldR c = c + 32 by unfold foldR; repeat' split <;> omega]
    exact ffold_9 c w (by omega) (by omega)
  by_cases k10 : c ≤ 1023
  · rw [show foldR c = c by unfold foldR; repeat' split <;> omega]
    exact ffold_10 c w (by omega) (by omega)
  by_cases k11 : c ≤ 1039
  · rw [show foldR c = c + 80 by unfold foldR; repeat' split <;> omega]
    exact ffold_11 c w (by omega) (by omega)
  by_cases k12 : c ≤ 1071
  · rw [show foldR c = c + 32 by unfold foldR; repeat' split <;> omega]
    exact ffold_12 c w (by omega) (by omega)
  rw [show foldR c = c by unfold foldR; repeat' split <;> omega]
  exact ffold_13 c w (by omega)
theorem rfold_0 (c : Int) (w : World) (h2 : c ≤ 64) : Calls Tryz.prog 75 #[.int .i32 c] w (Pure w (.int .i32 (c))) := by
  have n0 : (c == 215) = false := by simp; omega
  have m0 : (c != 215) = true := by simp; omega
  have n1 : (c == 930) = false := by simp; omega
  have m1 : (c != 930) = true := by simp; omega
  have a0 : decide ((65 : Int) ≤ c) = false := decide_eq_false (by omega)
  have b0 : decide (c ≤ 90) = true := decide_eq_true (by omega)
  have a1 : decide ((192 : Int) ≤ c) = false := decide_eq_false (by omega)
  have b1 : decide (c ≤ 222) = true := decide_eq_true (by omega)
  have a2 : decide ((913 : Int) ≤ c) = false := decide_eq_false (by omega)
  have b2 : decide (c ≤ 937) = true := decide_eq_true (by omega)
  have a3 : decide ((1040 : Int) ≤ c) = false := decide_eq_false (by omega)
  have b3 : decide (c ≤ 1071) = true := decide_eq_true (by omega)
  have a4 : decide ((1024 : Int) ≤ c) = false := decide_eq_false (by omega)
  have b4 : decide (c ≤ 1039) = true := decide_eq_true (by omega)
  go_enter Tryz.func75, Tryz.ntmps75
  go_wp2_with (go_at_call 86; refine (between_any _ _ _ _).mono ?_; rintro e w' ⟨rfl, rfl⟩)
  go_ret
  exact ⟨rfl, rfl⟩
theorem rfold_1 (c : Int) (w : World) (h1 : 65 ≤ c) (h2 : c ≤ 90) : Calls Tryz.prog 75 #[.int .i32 c] w (Pure w (.int .i32 (c + 32))) := by
  have n0 : (c == 215) = false := by simp; omega
  have m0 : (c != 215) = true := by simp; omega
  have n1 : (c == 930) = false := by simp; omega
  have m1 : (c != 930) = true := by simp; omega
  have a0 : decide ((65 : Int) ≤ c) = true := decide_eq_true (by omega)
  have b0 : decide (c ≤ 90) = true := decide_eq_true (by omega)
  have a1 : decide ((192 : Int) ≤ c) = false := decide_eq_false (by omega)
  have b1 : decide (c ≤ 222) = true := decide_eq_true (by omega)
  have a2 : decide ((913 : Int) ≤ c) = false := decide_eq_false (by omega)
  have b2 : decide (c ≤ 937) = true := decide_eq_true (by omega)
  have a3 : decide ((1040 : Int) ≤ c) = false := decide_eq_false (by omega)
  have b3 : decide (c ≤ 1071) = true := decide_eq_true (by omega)
  have a4 : decide ((1024 : Int) ≤ c) = false := decide_eq_false (by omega)
  have b4 : decide (c ≤ 1039) = true := decide_eq_true (by omega)
  go_enter Tryz.func75, Tryz.ntmps75
  go_wp2_with (go_at_call 86; refine (between_any _ _ _ _).mono ?_; rintro e w' ⟨rfl, rfl⟩)
  go_ret
  exact ⟨rfl, rfl⟩
theorem rfold_2 (c : Int) (w : World) (h1 : 91 ≤ c) (h2 : c ≤ 191) : Calls Tryz.prog 75 #[.int .i32 c] w (Pure w (.int .i32 (c))) := by
  have n0 : (c == 215) = false := by simp; omega
  have m0 : (c != 215) = true := by simp; omega
  have n1 : (c == 930) = false := by simp; omega
  have m1 : (c != 930) = true := by simp; omega
  have a0 : decide ((65 : Int) ≤ c) = true := decide_eq_true (by omega)
  have b0 : decide (c ≤ 90) = false := decide_eq_false (by omega)
  have a1 : decide ((192 : Int) ≤ c) = false := decide_eq_false (by omega)
  have b1 : decide (c ≤ 222) = true := decide_eq_true (by omega)
  have a2 : decide ((913 : Int) ≤ c) = false := decide_eq_false (by omega)
  have b2 : decide (c ≤ 937) = true := decide_eq_true (by omega)
  have a3 : decide ((1040 : Int) ≤ c) = false := decide_eq_false (by omega)
  have b3 : decide (c ≤ 1071) = true := decide_eq_true (by omega)
  have a4 : decide ((1024 : Int) ≤ c) = false := decide_eq_false (by omega)
  have b4 : decide (c ≤ 1039) = true := decide_eq_true (by omega)
  go_enter Tryz.func75, Tryz.ntmps75
  go_wp2_with (go_at_call 86; refine (between_any _ _ _ _).mono ?_; rintro e w' ⟨rfl, rfl⟩)
  go_ret
  exact ⟨rfl, rfl⟩
theorem rfold_3 (c : Int) (w : World) (h1 : 192 ≤ c) (h2 : c ≤ 214) : Calls Tryz.prog 75 #[.int .i32 c] w (Pure w (.int .i32 (c + 32))) := by
  have n0 : (c == 215) = false := by simp; omega
  have m0 : (c != 215) = true := by simp; omega
  have n1 : (c == 930) = false := by simp; omega
  have m1 : (c != 930) = true := by simp; omega
  have a0 : decide ((65 : Int) ≤ c) = true := decide_eq_true (by omega)
  have b0 : decide (c ≤ 90) = false := decide_eq_false (by omega)
  have a1 : decide ((192 : Int) ≤ c) = true := decide_eq_true (by omega)
  have b1 : decide (c ≤ 222) = true := decide_eq_true (by omega)
  have a2 : decide ((913 : Int) ≤ c) = false := decide_eq_false (by omega)
  have b2 : decide (c ≤ 937) = true := decide_eq_true (by omega)
  have a3 : decide ((1040 : Int) ≤ c) = false := decide_eq_false (by omega)
  have b3 : decide (c ≤ 1071) = true := decide_eq_true (by omega)
  have a4 : decide ((1024 : Int) ≤ c) = false := decide_eq_false (by omega)
  have b4 : decide (c ≤ 1039) = true := decide_eq_true (by omega)
  go_enter Tryz.func75, Tryz.ntmps75
  go_wp2_with (go_at_call 86; refine (between_any _ _ _ _).mono ?_; rintro e w' ⟨rfl, rfl⟩)
  go_ret
  exact ⟨rfl, rfl⟩
theorem rfold_4 (c : Int) (w : World) (h1 : 215 ≤ c) (h2 : c ≤ 215) : Calls Tryz.prog 75 #[.int .i32 c] w (Pure w (.int .i32 (c))) := by
  obtain rfl : c = 215 := by omega
  go_enter Tryz.func75, Tryz.ntmps75
  go_wp2_with (go_at_call 86; refine (between_any _ _ _ _).mono ?_; rintro e w' ⟨rfl, rfl⟩)
  go_ret
  exact ⟨rfl, rfl⟩
theorem rfold_5 (c : Int) (w : World) (h1 : 216 ≤ c) (h2 : c ≤ 222) : Calls Tryz.prog 75 #[.int .i32 c] w (Pure w (.int .i32 (c + 32))) := by
  have n0 : (c == 215) = false := by simp; omega
  have m0 : (c != 215) = true := by simp; omega
  have n1 : (c == 930) = false := by simp; omega
  have m1 : (c != 930) = true := by simp; omega
  have a0 : decide ((65 : Int) ≤ c) = true := decide_eq_true (by omega)
  have b0 : decide (c ≤ 90) = false := decide_eq_false (by omega)
  have a1 : decide ((192 : Int) ≤ c) = true := decide_eq_true (by omega)
  have b1 : decide (c ≤ 222) = true := decide_eq_true (by omega)
  have a2 : decide ((913 : Int) ≤ c) = false := decide_eq_false (by omega)
  have b2 : decide (c ≤ 937) = true := decide_eq_true (by omega)
  have a3 : decide ((1040 : Int) ≤ c) = false := decide_eq_false (by omega)
  have b3 : decide (c ≤ 1071) = true := decide_eq_true (by omega)
  have a4 : decide ((1024 : Int) ≤ c) = false := decide_eq_false (by omega)
  have b4 : decide (c ≤ 1039) = true := decide_eq_true (by omega)
  go_enter Tryz.func75, Tryz.ntmps75
  go_wp2_with (go_at_call 86; refine (between_any _ _ _ _).mono ?_; rintro e w' ⟨rfl, rfl⟩)
  go_ret
  exact ⟨rfl, rfl⟩
theorem rfold_6 (c : Int) (w : World) (h1 : 223 ≤ c) (h2 : c ≤ 912) : Calls Tryz.prog 75 #[.int .i32 c] w (Pure w (.int .i32 (c))) := by
  have n0 : (c == 215) = false := by simp; omega
  have m0 : (c != 215) = true := by simp; omega
  have n1 : (c == 930) = false := by simp; omega
  have m1 : (c != 930) = true := by simp; omega
  have a0 : decide ((65 : Int) ≤ c) = true := decide_eq_true (by omega)
  have b0 : decide (c ≤ 90) = false := decide_eq_false (by omega)
  have a1 : decide ((192 : Int) ≤ c) = true := decide_eq_true (by omega)
  have b1 : decide (c ≤ 222) = false := decide_eq_false (by omega)
  have a2 : decide ((913 : Int) ≤ c) = false := decide_eq_false (by omega)
  have b2 : decide (c ≤ 937) = true := decide_eq_true (by omega)
  have a3 : decide ((1040 : Int) ≤ c) = false := decide_eq_false (by omega)
  have b3 : decide (c ≤ 1071) = true := decide_eq_true (by omega)
  have a4 : decide ((1024 : Int) ≤ c) = false := decide_eq_false (by omega)
  have b4 : decide (c ≤ 1039) = true := decide_eq_true (by omega)
  go_enter Tryz.func75, Tryz.ntmps75
  go_wp2_with (go_at_call 86; refine (between_any _ _ _ _).mono ?_; rintro e w' ⟨rfl, rfl⟩)
  go_ret
  exact ⟨rfl, rfl⟩
theorem rfold_7 (c : Int) (w : World) (h1 : 913 ≤ c) (h2 : c ≤ 929) : Calls Tryz.prog 75 #[.int .i32 c] w (Pure w (.int .i32 (c + 32))) := by
  have n0 : (c == 215) = false := by simp; omega
  have m0 : (c != 215) = true := by simp; omega
  have n1 : (c == 930) = false := by simp; omega
  have m1 : (c != 930) = true := by simp; omega
  have a0 : decide ((65 : Int) ≤ c) = true := decide_eq_true (by omega)
  have b0 : decide (c ≤ 90) = false := decide_eq_false (by omega)
  have a1 : decide ((192 : Int) ≤ c) = true := decide_eq_true (by omega)
  have b1 : decide (c ≤ 222) = false := decide_eq_false (by omega)
  have a2 : decide ((913 : Int) ≤ c) = true := decide_eq_true (by omega)
  have b2 : decide (c ≤ 937) = true := decide_eq_true (by omega)
  have a3 : decide ((1040 : Int) ≤ c) = false := decide_eq_false (by omega)
  have b3 : decide (c ≤ 1071) = true := decide_eq_true (by omega)
  have a4 : decide ((1024 : Int) ≤ c) = false := decide_eq_false (by omega)
  have b4 : decide (c ≤ 1039) = true := decide_eq_true (by omega)
  go_enter Tryz.func75, Tryz.ntmps75
  go_wp2_with (go_at_call 86; refine (between_any _ _ _ _).mono ?_; rintro e w' ⟨rfl, rfl⟩)
  go_ret
  exact ⟨rfl, rfl⟩
theorem rfold_8 (c : Int) (w : World) (h1 : 930 ≤ c) (h2 : c ≤ 930) : Calls Tryz.prog 75 #[.int .i32 c] w (Pure w (.int .i32 (c))) := by
  obtain rfl : c = 930 := by omega
  go_enter Tryz.func75, Tryz.ntmps75
  go_wp2_with (go_at_call 86; refine (between_any _ _ _ _).mono ?_; rintro e w' ⟨rfl, rfl⟩)
  go_ret
  exact ⟨rfl, rfl⟩
theorem rfold_9 (c : Int) (w : World) (h1 : 931 ≤ c) (h2 : c ≤ 937) : Calls Tryz.prog 75 #[.int .i32 c] w (Pure w (.int .i32 (c + 32))) := by
  have n0 : (c == 215) = false := by simp; omega
  have m0 : (c != 215) = true := by simp; omega
  have n1 : (c == 930) = false := by simp; omega
  have m1 : (c != 930) = true := by simp; omega
  have a0 : decide ((65 : Int) ≤ c) = true := decide_eq_true (by omega)
  have b0 : decide (c ≤ 90) = false := decide_eq_false (by omega)
  have a1 : decide ((192 : Int) ≤ c) = true := decide_eq_true (by omega)
  have b1 : decide (c ≤ 222) = false := decide_eq_false (by omega)
  have a2 : decide ((913 : Int) ≤ c) = true := decide_eq_true (by omega)
  have b2 : decide (c ≤ 937) = true := decide_eq_true (by omega)
  have a3 : decide ((1040 : Int) ≤ c) = false := decide_eq_false (by omega)
  have b3 : decide (c ≤ 1071) = true := decide_eq_true (by omega)
  have a4 : decide ((1024 : Int) ≤ c) = false := decide_eq_false (by omega)
  have b4 : decide (c ≤ 1039) = true := decide_eq_true (by omega)
  go_enter Tryz.func75, Tryz.ntmps75
  go_wp2_with (go_at_call 86; refine (between_any _ _ _ _).mono ?_; rintro e w' ⟨rfl, rfl⟩)
  go_ret
  exact ⟨rfl, rfl⟩
theorem rfold_10 (c : Int) (w : World) (h1 : 938 ≤ c) (h2 : c ≤ 1023) : Calls Tryz.prog 75 #[.int .i32 c] w (Pure w (.int .i32 (c))) := by
  have n0 : (c == 215) = false := by simp; omega
  have m0 : (c != 215) = true := by simp; omega
  have n1 : (c == 930) = false := by simp; omega
  have m1 : (c != 930) = true := by simp; omega
  have a0 : decide ((65 : Int) ≤ c) = true := decide_eq_true (by omega)
  have b0 : decide (c ≤ 90) = false := decide_eq_false (by omega)
  have a1 : decide ((192 : Int) ≤ c) = true := decide_eq_true (by omega)
  have b1 : decide (c ≤ 222) = false := decide_eq_false (by omega)
  have a2 : decide ((913 : Int) ≤ c) = true := decide_eq_true (by omega)
  have b2 : decide (c ≤ 937) = false := decide_eq_false (by omega)
  have a3 : decide ((1040 : Int) ≤ c) = false := decide_eq_false (by omega)
  have b3 : decide (c ≤ 1071) = true := decide_eq_true (by omega)
  have a4 : decide ((1024 : Int) ≤ c) = false := decide_eq_false (by omega)
  have b4 : decide (c ≤ 1039) = true := decide_eq_true (by omega)
  go_enter Tryz.func75, Tryz.ntmps75
  go_wp2_with (go_at_call 86; refine (between_any _ _ _ _).mono ?_; rintro e w' ⟨rfl, rfl⟩)
  go_ret
  exact ⟨rfl, rfl⟩
theorem rfold_11 (c : Int) (w : World) (h1 : 1024 ≤ c) (h2 : c ≤ 1039) : Calls Tryz.prog 75 #[.int .i32 c] w (Pure w (.int .i32 (c + 80))) := by
  have n0 : (c == 215) = false := by simp; omega
  have m0 : (c != 215) = true := by simp; omega
  have n1 : (c == 930) = false := by simp; omega
  have m1 : (c != 930) = true := by simp; omega
  have a0 : decide ((65 : Int) ≤ c) = true := decide_eq_true (by omega)
  have b0 : decide (c ≤ 90) = false := decide_eq_false (by omega)
  have a1 : decide ((192 : Int) ≤ c) = true := decide_eq_true (by omega)
  have b1 : decide (c ≤ 222) = false := decide_eq_false (by omega)
  have a2 : decide ((913 : Int) ≤ c) = true := decide_eq_true (by omega)
  have b2 : decide (c ≤ 937) = false := decide_eq_false (by omega)
  have a3 : decide ((1040 : Int) ≤ c) = false := decide_eq_false (by omega)
  have b3 : decide (c ≤ 1071) = true := decide_eq_true (by omega)
  have a4 : decide ((1024 : Int) ≤ c) = true := decide_eq_true (by omega)
  have b4 : decide (c ≤ 1039) = true := decide_eq_true (by omega)
  go_enter Tryz.func75, Tryz.ntmps75
  go_wp2_with (go_at_call 86; refine (between_any _ _ _ _).mono ?_; rintro e w' ⟨rfl, rfl⟩)
  go_ret
  exact ⟨rfl, rfl⟩
theorem rfold_12 (c : Int) (w : World) (h1 : 1040 ≤ c) (h2 : c ≤ 1071) : Calls Tryz.prog 75 #[.int .i32 c] w (Pure w (.int .i32 (c + 32))) := by
  have n0 : (c == 215) = false := by simp; omega
  have m0 : (c != 215) = true := by simp; omega
  have n1 : (c == 930) = false := by simp; omega
  have m1 : (c != 930) = true := by simp; omega
  have a0 : decide ((65 : Int) ≤ c) = true := decide_eq_true (by omega)
  have b0 : decide (c ≤ 90) = false := decide_eq_false (by omega)
  have a1 : decide ((192 : Int) ≤ c) = true := decide_eq_true (by omega)
  have b1 : decide (c ≤ 222) = false := decide_eq_false (by omega)
  have a2 : decide ((913 : Int) ≤ c) = true := decide_eq_true (by omega)
  have b2 : decide (c ≤ 937) = false := decide_eq_false (by omega)
  have a3 : decide ((1040 : Int) ≤ c) = true := decide_eq_true (by omega)
  have b3 : decide (c ≤ 1071) = true := decide_eq_true (by omega)
  have a4 : decide ((1024 : Int) ≤ c) = true := decide_eq_true (by omega)
  have b4 : decide (c ≤ 1039) = false := decide_eq_false (by omega)
  go_enter Tryz.func75, Tryz.ntmps75
  go_wp2_with (go_at_call 86; refine (between_any _ _ _ _).mono ?_; rintro e w' ⟨rfl, rfl⟩)
  go_ret
  exact ⟨rfl, rfl⟩
theorem rfold_13 (c : Int) (w : World) (h1 : 1072 ≤ c) : Calls Tryz.prog 75 #[.int .i32 c] w (Pure w (.int .i32 (c))) := by
  have n0 : (c == 215) = false := by simp; omega
  have m0 : (c != 215) = true := by simp; omega
  have n1 : (c == 930) = false := by simp; omega
  have m1 : (c != 930) = true := by simp; omega
  have a0 : decide ((65 : Int) ≤ c) = true := decide_eq_true (by omega)
  have b0 : decide (c ≤ 90) = false := decide_eq_false (by omega)
  have a1 : decide ((192 : Int) ≤ c) = true := decide_eq_true (by omega)
  have b1 : decide (c ≤ 222) = false := decide_eq_false (by omega)
  have a2 : decide ((913 : Int) ≤ c) = true := decide_eq_true (by omega)
  have b2 : decide (c ≤ 937) = false := decide_eq_false (by omega)
  have a3 : decide ((1040 : Int) ≤ c) = true := decide_eq_true (by omega)
  have b3 : decide (c ≤ 1071) = false := decide_eq_false (by omega)
  have a4 : decide ((1024 : Int) ≤ c) = true := decide_eq_true (by omega)
  have b4 : decide (c ≤ 1039) = false := decide_eq_false (by omega)
  go_enter Tryz.func75, Tryz.ntmps75
  go_wp2_with (go_at_call 86; refine (between_any _ _ _ _).mono ?_; rintro e w' ⟨rfl, rfl⟩)
  go_ret
  exact ⟨rfl, rfl⟩
theorem rfold_any (c : Int) (w : World) : Calls Tryz.prog 75 #[.int .i32 c] w (Pure w (.int .i32 (foldR c))) := by
  by_cases k0 : c ≤ 64
  · rw [show foldR c = c by unfold foldR; repeat' split <;> omega]
    exact rfold_0 c w (by omega)
  by_cases k1 : c ≤ 90
  · rw [show foldR c = c + 32 by unfold foldR; repeat' split <;> omega]
    exact rfold_1 c w (by omega) (by omega)
  by_cases k2 : c ≤ 191
  · rw [show foldR c = c by unfold foldR; repeat' split <;> omega]
    exact rfold_2 c w (by omega) (by omega)
  by_cases k3 : c ≤ 214
  · rw [show foldR c = c + 32 by unfold foldR; repeat' split <;> omega]
    exact rfold_3 c w (by omega) (by omega)
  by_cases k4 : c ≤ 215
  · rw [show foldR c = c by unfold foldR; repeat' split <;> omega]
    exact rfold_4 c w (by omega) (by omega)
  by_cases k5 : c ≤ 222
  · rw [show foldR c = c + 32 by unfold foldR; repeat' split <;> omega]
    exact rfold_5 c w (by omega) (by omega)
  by_cases k6 : c ≤ 912
  · rw [show foldR c = c by unfold foldR; repeat' split <;> omega]
    exact rfold_6 c w (by omega) (by omega)
  by_cases k7 : c ≤ 929
  · rw [show foldR c = c + 32 by unfold foldR; repeat' split <;> omega]
    exact rfold_7 c w (by omega) (by omega)
  by_cases k8 : c ≤ 930
  · rw [show foldR c = c by unfold foldR; repeat' split <;> omega]
    exact rfold_8 c w (by omega) (by omega)
  by_cases k9 : c ≤ 937
  · rw [show foldR c = c + 32 by unfold foldR; repeat' split <;> omega]
    exact rfold_9 c w (by omega) (by omega)
  by_cases k10 : c ≤ 1023
  · rw [show foldR c = c by unfold foldR; repeat' split <;> omega]
    exact rfold_10 c w (by omega) (by omega)
  by_cases k11 : c ≤ 1039
  · rw [show foldR c = c + 80 by unfold foldR; repeat' split <;> omega]
    exact rfold_11 c w (by omega) (by omega)
  by_cases k12 : c ≤ 1071
  · rw [show foldR c = c + 32 by unfold foldR; repeat' split <;> omega]
    exact rfold_12 c w (by omega) (by omega)
  rw [show foldR c = c by unfold foldR; repeat' split <;> omega]
  exact rfold_13 c w (by omega)
end Go.Proofs.YtelhdkidnhfnbabGreatDoor
