/-
  What must come of every program of layer 2 (newsstandlaw02.lives): it answers true, and nothing that was there is changed. Condition: the table is as the program's text lays it.
-/
import Derived.Test.YtjflfennmeackaaDoorSealed
import Derived.Test.YtjflfennmeackaaDoorRefCrc
import Derived.Lib.SmallJoins
namespace Go.Proofs.YtjflfennmeackaaDoor
open Go.RowKit

/-- A constant's new block of bytes, as a slice. -/
theorem rd_const (w : World) (e : TypeId) (a : Nat) (ha : a = w.heap.size) (cs : Array Value) (fr : Nat × Nat) (n : Nat) (l : List UInt8) (hcs : cs = (bvs l).toArray) (hn : n = l.length) (hm : l.length ≤ 1000) :
    Rd (w.alloc (.cells cs e fr)) (a + 1) (.slice (some ⟨a, 0, none⟩) n n) l := by
  subst hcs hn ha
  refine ⟨_, _, rfl, Nat.le_refl _, by unfold maxLen; omega, fun _ => ⟨w.heap.size, 0, rfl, Nat.lt_succ_self _, fun j hj => ?_⟩⟩
  rw [Nat.zero_add, World.cell?_alloc_mark w _ e fr j]
  simp [bvs, hj]

set_option maxHeartbeats 800000 in
set_option maxRecDepth 100000 in
theorem lives_any (w : World) (hH : Halves w) : Calls Tryd.prog 7 #[] w (Holds w) := by
  have x1 : openS (sealB [97, 98]) = some [97, 98] := openS_sealB _
  have x2 : openS [97, 98, 99, 100, 101, 102] = none := by decide
  have x3 : moreN 0 [49, 50, 51, 52, 53, 54, 55, 56, 57] = 3421780262 := by decide
  have x4 : moreN (moreN 0 [49, 50, 51, 52, 53]) [54, 55, 56, 57] = 3421780262 := by rw [moreN_append]; exact x3
  have X1 := Lib.hid x1
  have X2 := Lib.hid x2
  have X3 := Lib.hid x3
  have X4 := Lib.hid x4
  have HH := Lib.hid hH
  clear x1 x2 x3 x4 hH
  have kc := fun (w : World) (C : Array Value) (n c : Nat) => Lib.run_convert_bytes_const (P := Tryd.prog) w 22 5 C n c Tryd.underlying22 Tryd.underlying5
  go_enter Tryd.func7, Tryd.ntmps7
  go_wp2_with fail
  refine (seal_any _ [97, 98] (w.heap.size + 1) _ (by exact rd_const w _ _ rfl _ _ _ [97, 98] rfl rfl (by simp)) (by simp) (by simp) (by exact HH.out.next ((Below.refl _ _).alloc (Nat.le_refl _) _))).mono ?_
  rintro e w1 ⟨v1, rfl, own1, hb1⟩
  have b1 : Below w.heap.size w w1 := ((Below.refl _ _).alloc (Nat.le_refl _) _).trans (hb1.mono (by simp))
  have r1 := own1.rd (Nat.le_refl _)
  clear own1 hb1
  go_wp2_with fail
  refine (open_any _ (sealB [97, 98]) _ _ (by exact r1) (Nat.le_refl _) (by rw [sealB_len]; simp) (by exact HH.out.next b1)).mono ?_
  rw [X1.out]
  rintro e w2 ⟨v2, rfl, own2, hb2⟩
  have b2 : Below w.heap.size w w2 := b1.trans (hb2.mono b1.size)
  have r2 := own2.rd (Nat.le_refl _)
  clear own2 r1
  go_wp2_with fail
  refine (open_any _ [97, 98, 99, 100, 101, 102] (w2.heap.size + 1) _ (by exact rd_const w2 _ _ rfl _ _ _ [97, 98, 99, 100, 101, 102] rfl rfl (by simp)) (by simp) (by simp) (by exact HH.out.next (b2.alloc b2.size _))).mono ?_
  rw [X2.out]
  rintro e w3 ⟨rfl, hb3⟩
  have b23 : Below w2.heap.size w2 w3 := ((Below.refl _ _).alloc (Nat.le_refl _) _).trans (hb3.mono (by simp))
  have b3 : Below w.heap.size w w3 := b2.trans (b23.mono b2.size)
  have r3 := r2.below b23
  clear r2 hb3
  go_wp2_with fail
  refine (sum_any _ [49, 50, 51, 52, 53, 54, 55, 56, 57] (w3.heap.size + 1) _ (by exact rd_const w3 _ _ rfl _ _ _ [49, 50, 51, 52, 53, 54, 55, 56, 57] rfl rfl (by simp)) (by exact HH.out.next (b3.alloc b3.size _))).mono ?_
  rw [X3.out]
  rintro e w4 ⟨rfl, hw4⟩
  have b34 : Below w3.heap.size w3 w4 := by rw [← hw4]; exact (Below.refl _ _).alloc (Nat.le_refl _) _
  have b4 : Below w.heap.size w w4 := b3.trans (b34.mono b3.size)
  have q := conv_at (r3.below (b34.mono b23.size))
  clear hw4 b34 r3
  go_wp2_with fail
  refine (sum_any _ [49, 50, 51, 52, 53] (w4.heap.size + 1) _ (by exact rd_const w4 _ _ rfl _ _ _ [49, 50, 51, 52, 53] rfl rfl (by simp)) (by exact HH.out.next (b4.alloc b4.size _))).mono ?_
  rintro e w5 ⟨rfl, hw5⟩
  have b45 : Below w4.heap.size w4 w5 := by rw [← hw5]; exact (Below.refl _ _).alloc (Nat.le_refl _) _
  have b5 : Below w.heap.size w w5 := b4.trans (b45.mono b4.size)
  clear hw5 b45
  have hm := moreN_lt 0 [49, 50, 51, 52, 53]
  generalize hq : moreN 0 [49, 50, 51, 52, 53] = m at hm X4
  clear hq
  go_wp2_with fail
  refine (more_any m _ [54, 55, 56, 57] (w5.heap.size + 1) _ (by omega) (by exact rd_const w5 _ _ rfl _ _ _ [54, 55, 56, 57] rfl rfl (by simp)) (by exact HH.out.next (b5.alloc b5.size _))).mono ?_
  rw [X4.out]
  rintro e w6 ⟨rfl, hw6⟩
  have b6 : Below w.heap.size w w6 := by rw [← hw6]; exact b5.alloc b5.size _
  clear hw6
  go_wp2_with fail
  go_ret
  exact ⟨rfl, b6⟩
end Go.Proofs.YtjflfennmeackaaDoor
