/-
  CrcMores' call: it answers true. Conditions: the slice reads as bytes; the table is as the program's text lays it.
-/
import Derived.Test.YteffidhbcdkikaaDoorLives2
namespace Go.Proofs.YteffidhbcdkikaaDoor
open Go.RowKit

set_option maxHeartbeats 800000 in
set_option maxRecDepth 100000 in
theorem mores_any (s : Nat) (v : Value) (l : List UInt8) (B : Nat) (w : World) (hs : (s : Int) < 4294967296) (hr : Rd w B v l) (hB : B ≤ w.heap.size) (hH : Halves w) :
    Calls Tryd.prog 4 #[.int .u32 (s : Int), v] w (Holds w) := by
  have R := Lib.hid hr
  obtain ⟨A, c, rfl, hlc, hcm, _⟩ := hr
  unfold maxLen at hcm
  have HH := Lib.hid hH
  clear hH
  by_cases h3 : (3000 : Int) < (l.length : Int)
  · go_enter Tryd.func4, Tryd.ntmps4
    go_wp2_with fail
    refine (lives_any _ (by exact HH.out)).mono ?_
    rintro e w1 ⟨rfl, b1⟩
    go_wp2_with fail
    go_ret
    exact ⟨rfl, b1⟩
  · go_enter Tryd.func4, Tryd.ntmps4
    go_wp2_with fail
    refine (lives_any _ (by exact HH.out)).mono ?_
    rintro e w1 ⟨rfl, b1⟩
    have r1 := R.out.below (b1.mono hB)
    have h1 := HH.out.next b1
    go_wp2_with fail
    refine (more_any s _ l B _ hs (by exact r1) (by exact h1)).mono ?_
    rintro e w2 ⟨rfl, rfl⟩
    generalize hm : moreN s l = m
    have M := Lib.hid hm
    clear hm
    go_wp2_with fail
    refine (rmore_any s _ l B _ hs (by exact r1)).mono ?_
    rw [M.out]
    rintro e w3 ⟨rfl, rfl⟩
    go_wp2_with fail
    refine (more_any s _ [] B _ hs (by exact Rd.nil _ _) (by exact h1)).mono ?_
    rw [moreN_nil s (by omega)]
    rintro e w4 ⟨rfl, rfl⟩
    go_wp2_with fail
    go_ret
    exact ⟨rfl, b1⟩
end Go.Proofs.YteffidhbcdkikaaDoor
