/-
  The document's Check at each kind.
-/
import Derived.Test.YtelhdkidnhfnbabGreatDoorVChk
import Derived.Test.YtelhdkidnhfnbabGreatDoorVShRef
import Derived.Test.YtelhdkidnhfnbabGreatDoorUp2
namespace Go.Proofs.YtelhdkidnhfnbabGreatDoor
open Go.RowKit

theorem Blk.off {w : World} {g : Nat} {t : TypeId} {cs : Array Value} (h : Blk w g t cs) {g' : Nat} (hne : g ≠ g') (i : Nat) (u : Value) : Blk (w.setCell ⟨g', i, none⟩ u) g t cs := (heap_setCell_other w ⟨g', i, none⟩ g u hne).trans h
/-- Two events in memory: the one looked at, and the one built. -/
def St (w : World) (e x : Array Value) (W : World) : Prop := Below w.heap.size w W ∧ Blk W w.heap.size 23 e ∧ Blk W (w.heap.size + 1) 23 x
theorem St.start (w : World) (e x : Array Value) : St w e x ((w.alloc (.cells e 23)).alloc (.cells x 23)) := by
  have G1 : (w.alloc (.cells e 23)).heap.size = w.heap.size + 1 := by show (w.heap.push _).size = _; rw [Array.size_push]
  refine ⟨((Below.refl _ _).alloc (Nat.le_refl _) _).alloc (by rw [G1]; exact Nat.le_succ _) _, (Blk.fresh w _ e).alloc _, ?_⟩
  have h := Blk.fresh (w.alloc (.cells e 23)) 23 x
  rw [G1] at h; exact h
theorem St.set {w : World} {e x : Array Value} {W : World} (h : St w e x W) (i : Nat) (u : Value) : St w e (x.setIfInBounds i u) (W.setCell ⟨w.heap.size + 1, i, none⟩ u) :=
  ⟨below_mv h.1 (grown_set W (w.heap.size + 1) i u) (Nat.le_succ _), h.2.1.off (Nat.ne_of_lt (Nat.lt_succ_self _)) i u, h.2.2.set i u⟩
theorem St.made {w : World} {e x : Array Value} {W v : World} (h : St w e x W) (hb : Below W.heap.size W v) : St w e x v :=
  ⟨below_thC h.1 hb, h.2.1.below hb h.2.1.lt, h.2.2.below hb h.2.2.lt⟩

theorem St.drew {w : World} {e x : Array Value} {W : World} (h : St w e x W) : St w e x W.drew := ⟨⟨h.1.os, h.1.tape, h.1.output, h.1.size, h.1.block⟩, h.2.1, h.2.2⟩

set_option maxHeartbeats 6400000 in
set_option maxRecDepth 100000 in
theorem rid_any (n : Int) (w : World) : Calls Tryz.prog 20 #[.int .i64 n] w (Pure w (.bool (idB n))) := by
  unfold idB
  by_cases h1 : 1 ≤ n
  · by_cases h2 : n ≤ 1048576
    · go_enter Tryz.func20, Tryz.ntmps20
      go_wp2_with (fail)
      go_ret
      exact ⟨by simp [h1, h2], rfl⟩
    · go_enter Tryz.func20, Tryz.ntmps20
      go_wp2_with (fail)
      go_ret
      exact ⟨by simp [h2], rfl⟩
  · go_enter Tryz.func20, Tryz.ntmps20
    go_wp2_with (fail)
    go_ret
    exact ⟨by rw [decide_eq_false (Int.not_le.2 h1)]; rfl, rfl⟩
end Go.Proofs.YtelhdkidnhfnbabGreatDoor
