/-
  What is asked of one rune: between, Blank, unseen, folded; the document's Blank and fold. No condition.
-/
import Derived.Test.YthnepbdkbiieiaaDoorUStr
namespace Go.Proofs.YthnepbdkbiieiaaDoor
open Go.RowKit

def btwB (c a b : Int) : Bool := decide (a ≤ c ∧ c ≤ b)
theorem btw_yes {c a b : Int} (h : a ≤ c) (h' : c ≤ b) : btwB c a b = true := decide_eq_true ⟨h, h'⟩
theorem btw_no {c a b : Int} (h : ¬ (a ≤ c ∧ c ≤ b)) : btwB c a b = false := decide_eq_false h
end Go.Proofs.YthnepbdkbiieiaaDoor
