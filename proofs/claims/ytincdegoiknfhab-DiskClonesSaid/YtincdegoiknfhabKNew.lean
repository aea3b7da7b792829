/-
  New; a copy of a row of bytes (slices.Clone); Read. Conditions: names' and rows' lengths are lengths.
-/
import Derived.Test.YtincdegoiknfhabKDel
import Derived.Test.YtincdegoiknfhabGuard
namespace Go.Proofs.Ytincdegoiknfhab
open Go.RowKit

/-- New answers a disk without files, or none. -/
def newD (q : Int) : KDisk := ⟨q, 0, -1, false, []⟩
def MadeDisk (w : World) (q : Int) (e : Ending) (w' : World) : Prop := ∃ g b, e = .returned (.tuple #[.pointer (some ⟨g, 0, none⟩), .int .i64 0]) ∧ DiskAt w' w.heap.size g b (newD q) ∧ Below w.heap.size w w'
theorem knew_no (q : Int) (w : World) (h : q < 0 ∨ 16777216 < q) : Calls Try.prog 9 #[.int .i64 q] w (Ans w (.tuple #[.pointer none, .int .i64 1])) := by
  by_cases h1 : q < 0
  · clear h
    go_enter Try.func9, Try.ntmps9
    go_wp2_with fail
    go_ret2
    exact ⟨rfl, rfl⟩
  · have h2 := h.resolve_left h1
    have h1' : decide (q < 0) = false := decide_eq_false h1
    clear h
    go_enter Try.func9, Try.ntmps9
    go_wp2_with fail
    go_ret2
    exact ⟨rfl, rfl⟩
set_option maxRecDepth 100000 in
theorem knew (q : Int) (w : World) (h1 : ¬ q < 0) (h2 : ¬ 16777216 < q) : Calls Try.prog 9 #[.int .i64 q] w (MadeDisk w q) := by
  have h1' : decide (q < 0) = false := decide_eq_false h1
  have h2' : decide (16777216 < q) = false := decide_eq_false h2
  have hmk : ∀ W : World, (Instr.makeMap 62 none).run Try.prog W = .ok (.map (some W.heap.size)) (W.alloc (.map #[] 0)) := fun W => run_makeMap _ W
  have hd : DiskAt ((w.alloc (.map #[] 0)).alloc (.cells #[.int .i64 q, .map (some w.heap.size), .int .i64 0, .int .i64 (-1), .bool false] 64)) w.heap.size (w.heap.size + 1) w.heap.size (newD q) := by
    refine ⟨Nat.le_succ _, Nat.le_refl _, ?_, ?_, fun e he => (by cases he), List.Pairwise.nil⟩
    · have hf := Blk.fresh (w.alloc (.map #[] 0)) 64 #[.int .i64 q, .map (some w.heap.size), .int .i64 0, .int .i64 (-1), .bool false]
      have e : (w.alloc (.map #[] 0)).heap.size = w.heap.size + 1 := by simp
      rw [e] at hf
      exact hf
    · exact (MapAt.made w).grown (World.grownBy_alloc _ _ none) (by simp)
  have HD := Lib.hid hd
  clear hd
  go_enter Try.func9, Try.ntmps9
  go_wp2_with fail
  go_ret2
  exact ⟨_, _, rfl, HD.out, ((Below.refl _ _).alloc (Nat.le_refl _) _).alloc (by simp) _⟩
end Go.Proofs.Ytincdegoiknfhab
