/-
  The words of folded runes, step by step, in plain words. No condition.
-/
import Derived.Test.YtelhdkidnhfnbabGreatDoorWLetter
namespace Go.Proofs.YtelhdkidnhfnbabGreatDoor
open Go.RowKit

/-- One rune more: the words that are told, and the one that goes on. -/
def wStep (o : List (List UInt8) × List Int) (c : Int) : List (List UInt8) × List Int :=
  if letB c = true then (if o.2.length < 32 then (o.1, o.2 ++ [c]) else o)
  else if o.2.length = 0 then o else (o.1 ++ [put o.2], [])
def wFold (rs : List Int) : List (List UInt8) × List Int := rs.foldl wStep ([], [])
def wordsR (rs : List Int) : List (List UInt8) := (wStep (wFold rs) 32).1
def wordsS (l : List UInt8) : List (List UInt8) := wordsR ((runes l).map foldR)
theorem wFold_snoc (rs : List Int) (c : Int) : wFold (rs ++ [c]) = wStep (wFold rs) c := by unfold wFold; rw [List.foldl_append]; rfl
theorem step_add {o : List (List UInt8) × List Int} {c : Int} (h : letB c = true) (h' : o.2.length < 32) : wStep o c = (o.1, o.2 ++ [c]) := by unfold wStep; rw [if_pos h, if_pos h']
theorem step_full {o : List (List UInt8) × List Int} {c : Int} (h : letB c = true) (h' : ¬ o.2.length < 32) : wStep o c = o := by unfold wStep; rw [if_pos h, if_neg h']
theorem step_tell {o : List (List UInt8) × List Int} {c : Int} (h : letB c = false) (h' : ¬ o.2.length = 0) : wStep o c = (o.1 ++ [put o.2], []) := by unfold wStep; rw [if_neg (by simp [h]), if_neg h']
theorem step_idle {o : List (List UInt8) × List Int} {c : Int} (h : letB c = false) (h' : o.2.length = 0) : wStep o c = o := by unfold wStep; rw [if_neg (by simp [h]), if_pos h']
theorem wStep_bd {o : List (List UInt8) × List Int} {c : Int} (h2 : o.2.length ≤ 32) : (wStep o c).2.length ≤ 32 ∧ (wStep o c).1.length ≤ o.1.length + 1 := by
  unfold wStep
  split
  · split
    · simp; omega
    · exact ⟨h2, by omega⟩
  · split
    · exact ⟨h2, by omega⟩
    · simp
theorem wFold_bd : ∀ (rs : List Int) (o : List (List UInt8) × List Int), o.2.length ≤ 32 → (rs.foldl wStep o).2.length ≤ 32 ∧ (rs.foldl wStep o).1.length ≤ o.1.length + rs.length
  | [], o, h => ⟨h, by simp⟩
  | c :: rs, o, h => by
    have h1 := wStep_bd (c := c) h
    have h2 := wFold_bd rs (wStep o c) h1.1
    rw [List.foldl_cons, List.length_cons]
    exact ⟨h2.1, by omega⟩
end Go.Proofs.YtelhdkidnhfnbabGreatDoor
