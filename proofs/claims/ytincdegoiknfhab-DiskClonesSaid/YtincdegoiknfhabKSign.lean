/-
  Signs of a name. No condition.
-/
import Derived.Test.YtincdegoiknfhabKUsed
namespace Go.Proofs.Ytincdegoiknfhab
open Go.RowKit

def signB (c : Int) : Bool := decide (97 ≤ c) && decide (c ≤ 122) || decide (48 ≤ c) && decide (c ≤ 57) || c == 46 || c == 45
set_option maxHeartbeats 1600000 in
theorem ksign (c : Int) (w : World) : Calls Try.prog 78 #[.int .i32 c] w (Ans w (.bool (signB c))) := by
  by_cases h1 : 97 ≤ c ∧ c ≤ 122
  · have hv : signB c = true := by unfold signB; rw [decide_eq_true h1.1, decide_eq_true h1.2]; rfl
    have HV := Lib.hid hv
    obtain ⟨a1, a2⟩ := h1
    clear hv
    go_enter Try.func78, Try.ntmps78
    go_wp2_with fail
    go_ret
    exact ⟨by rw [HV.out]; rfl, rfl⟩
  · have e1 : (decide (97 ≤ c) && decide (c ≤ 122)) = false := by
      rw [Bool.and_eq_false_iff, decide_eq_false_iff_not, decide_eq_false_iff_not]; omega
    by_cases h2 : 48 ≤ c ∧ c ≤ 57
    · have hv : signB c = true := by unfold signB; rw [e1, decide_eq_true h2.1, decide_eq_true h2.2]; rfl
      have HV := Lib.hid hv
      obtain ⟨a1, a2⟩ := h2
      have b1 : ¬ 97 ≤ c := by omega
      clear hv e1 h1
      go_enter Try.func78, Try.ntmps78
      go_wp2_with fail
      go_ret
      exact ⟨by rw [HV.out]; rfl, rfl⟩
    · have e2 : (decide (48 ≤ c) && decide (c ≤ 57)) = false := by
        rw [Bool.and_eq_false_iff, decide_eq_false_iff_not, decide_eq_false_iff_not]; omega
      have hv : signB c = (c == 46 || c == 45) := by unfold signB; rw [e1, e2]; rfl
      have HV := Lib.hid hv
      clear hv e1 e2
      by_cases h3 : c = 46
      · subst h3
        go_enter Try.func78, Try.ntmps78
        go_wp2_with fail
        go_ret
        exact ⟨by rw [HV.out]; rfl, rfl⟩
      · have c3 : (c == 46) = false := by simp [h3]
        by_cases h4 : c = 45
        · subst h4
          go_enter Try.func78, Try.ntmps78
          go_wp2_with fail
          go_ret
          exact ⟨by rw [HV.out]; rfl, rfl⟩
        · have c4 : (c == 45) = false := by simp [h4]
          have hv2 := HV.out
          rw [c3, c4] at hv2
          have HV2 := Lib.hid hv2
          clear hv2
          by_cases b1 : 97 ≤ c
          · have b2 : ¬ c ≤ 122 := fun x => h1 ⟨b1, x⟩
            have b3 : 48 ≤ c := by omega
            have b4 : ¬ c ≤ 57 := by omega
            clear h1 h2
            go_enter Try.func78, Try.ntmps78
            go_wp2_with fail
            go_ret
            exact ⟨by rw [HV2.out]; rfl, rfl⟩
          · by_cases b3 : 48 ≤ c
            · have b4 : ¬ c ≤ 57 := fun x => h2 ⟨b3, x⟩
              clear h1 h2
              go_enter Try.func78, Try.ntmps78
              go_wp2_with fail
              go_ret
              exact ⟨by rw [HV2.out]; rfl, rfl⟩
            · clear h1 h2
              go_enter Try.func78, Try.ntmps78
              go_wp2_with fail
              go_ret
              exact ⟨by rw [HV2.out]; rfl, rfl⟩
end Go.Proofs.Ytincdegoiknfhab
