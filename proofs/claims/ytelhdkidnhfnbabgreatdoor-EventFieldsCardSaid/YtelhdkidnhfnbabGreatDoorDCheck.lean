/-
  Which dates may be (date.Check, newsstandref04.Check). No condition.
-/
import Derived.Test.YtelhdkidnhfnbabGreatDoorDCal
namespace Go.Proofs.YtelhdkidnhfnbabGreatDoor
open Go.RowKit

/-- May the date be? -/
def okD (y m d h mi s : Int) : Prop := 1 ≤ d ∧ d ≤ daysN y m ∧ 0 ≤ h ∧ h < 24 ∧ 0 ≤ mi ∧ mi < 60 ∧ 0 ≤ s ∧ s < 60
theorem okD_valid {y m d h mi s : Int} (hk : okD y m d h mi s) : validD y m d ∧ clockD h mi s := by
  obtain ⟨h1, h2, h3, h4, h5, h6, h7, h8⟩ := hk
  have : ¬ (y < 1 ∨ 9999 < y ∨ m < 1 ∨ 12 < m) := fun hb => by
    unfold daysN at h2
    rw [if_pos hb] at h2
    omega
  refine ⟨⟨by omega, by omega, by omega, by omega, h1, ?_⟩, ⟨h3, by omega, h5, by omega, h7, by omega⟩⟩
  rw [← days_in y m (by omega) (by omega) (by omega) (by omega)]
  exact h2
theorem valid_okD {y m d h mi s : Int} (hv : validD y m d) (hc : clockD h mi s) : okD y m d h mi s := by
  obtain ⟨a, b, c, e, f, g⟩ := hv
  obtain ⟨h1, h2, h3, h4, h5, h6⟩ := hc
  refine ⟨f, ?_, h1, by omega, h3, by omega, h5, by omega⟩
  rw [days_in y m a b c e]
  exact g

end Go.Proofs.YtelhdkidnhfnbabGreatDoor
