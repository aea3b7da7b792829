/-
  What must come of every program of layer 5 (newsstandlaw05.lives): it answers true, and nothing that was there is changed. No condition.
-/
import Derived.Test.YtmimkcdomgoefaaURef3
import Derived.KernelRfl
namespace Go.Proofs.Ytmimkcdomgoefaa
open Go.RowKit
open Go.Lib (decodeL encodeRune validD)

theorem u5_1 : cleanS [32, 97, 9, 10, 32, 98, 0, 32] = [97, 32, 98] := by kernel_rfl
theorem u5_2 : foldS [195, 132, 66, 208, 150] = [195, 164, 98, 208, 182] := by kernel_rfl
theorem u5_3 : validD [195, 164] = true := by kernel_rfl
theorem u5_4 : validD [255] = false := by kernel_rfl
theorem u5_5 : runes [97, 255] = [97, 65533] := by kernel_rfl
theorem u5_6 : put [97, 8364] = [97, 226, 130, 172] := by kernel_rfl
theorem u5_7 : (runes [226, 130, 172, 49]).length = 2 := by kernel_rfl
theorem u5_8 : List.take (cutN [226, 130, 172, 49] 3) ([226, 130, 172, 49] : List UInt8) = [226, 130, 172] := by kernel_rfl
theorem u5_9 : List.take (cutN [226, 130, 172, 49] 2) ([226, 130, 172, 49] : List UInt8) = [] := by kernel_rfl
theorem rdv_two (w : World) (e : TypeId) (a b : Int) : RdV (w.alloc (.cells #[.int .i32 a, .int .i32 b] e)) (w.heap.size + 1) (.slice (some ⟨w.heap.size, 0, none⟩) 2 2) (rvs [a, b]) := by
  refine ⟨_, 2, rfl, Nat.le_refl _, by unfold maxLen; omega, fun _ => ⟨w.heap.size, 0, rfl, by omega, fun j hj => ?_⟩⟩
  have hb : (w.alloc (.cells #[.int .i32 a, .int .i32 b] e)).heap[w.heap.size]? = some (.cells #[.int .i32 a, .int .i32 b] e (0, 0)) := heap_alloc_new w _
  have hj2 : j < 2 := hj
  rw [Nat.zero_add, cell_of_row _ w.heap.size j _ e (0, 0) hb]
  have hj3 : j = 0 ∨ j = 1 := by omega
  rcases hj3 with rfl | rfl <;> rfl

set_option maxHeartbeats 1600000 in
set_option maxRecDepth 100000 in
theorem ulives_any (w : World) : Calls Try.prog 11 #[] w (Holds w) := by
  go_enter Try.func11, Try.ntmps11
  go_wp2_with fail
  refine (clean_any [32, 97, 9, 10, 32, 98, 0, 32] _ (by decide)).mono ?_
  rw [u5_1]
  rintro e w1 ⟨rfl, b1⟩
  go_wp2_with fail
  refine (fold_any [195, 132, 66, 208, 150] _ (by decide)).mono ?_
  rw [u5_2]
  rintro e w2 ⟨rfl, hb⟩
  have b2 : Below w.heap.size w w2 := b1.trans (hb.mono b1.size)
  clear hb
  go_wp2_with fail
  refine (right_any [195, 164] _).mono ?_
  rw [u5_3]
  rintro e w3 ⟨rfl, hb⟩
  have b3 : Below w.heap.size w w3 := b2.trans (hb.mono b2.size)
  clear hb
  go_wp2_with fail
  refine (right_any [255] _).mono ?_
  rw [u5_4]
  rintro e w4 ⟨rfl, hb⟩
  have b4 : Below w.heap.size w w4 := b3.trans (hb.mono b3.size)
  clear hb
  go_wp2_with fail
  refine (runes_any [97, 255] _ (by decide)).mono ?_
  rw [u5_5]
  rintro e w5 ⟨v, rfl, hown, hb⟩
  have b5 : Below w.heap.size w w5 := b4.trans (hb.mono b4.size)
  have hr1 := (hown.rdv (Nat.le_refl _)).below ((Below.refl w5.heap.size w5).alloc (Nat.le_refl _) (.cells #[.int .i32 97, .int .i32 65533] 21))
  have hr2 := rdv_two w5 21 97 65533
  have HR1 := Lib.hid hr1
  have HR2 := Lib.hid hr2
  clear hb hown hr1 hr2
  go_wp2_with fail
  refine (same_any [97, 65533] [97, 65533] _ _ (w5.heap.size + 1) _ (by exact HR1.out.more (by omega)) (by exact HR2.out)).mono ?_
  rw [show decide (([97, 65533] : List Int) = [97, 65533]) = true by decide]
  rintro e w6 ⟨rfl, q, hw6⟩
  have b6 : Below w.heap.size w w6 := by rw [hw6]; exact below_drewN (b5.alloc b5.size _) q
  clear hw6
  have hr3 := rdv_two w6 21 97 8364
  have HR3 := Lib.hid hr3
  clear hr3
  go_wp2_with fail
  refine (put_any [97, 8364] _ _ (by simpa using HR3.out) (by decide)).mono ?_
  rw [u5_6]
  rintro e w7 ⟨rfl, hb⟩
  have b7 : Below w.heap.size w w7 := (b6.alloc b6.size _).trans (hb.mono (b6.alloc b6.size _).size)
  clear hb
  go_wp2_with fail
  refine (count_any [226, 130, 172, 49] _ (by decide)).mono ?_
  rw [u5_7]
  rintro e w8 ⟨rfl, hb⟩
  have b8 : Below w.heap.size w w8 := b7.trans (hb.mono b7.size)
  clear hb
  go_wp2_with fail
  refine (cut_any [226, 130, 172, 49] 3 _).mono ?_
  rw [u5_8]
  rintro e w9 ⟨rfl, hb⟩
  have b9 : Below w.heap.size w w9 := b8.trans (hb.mono b8.size)
  clear hb
  go_wp2_with fail
  refine (cut_any [226, 130, 172, 49] 2 _).mono ?_
  rw [u5_9]
  rintro e w10 ⟨rfl, hb⟩
  have b10 : Below w.heap.size w w10 := b9.trans (hb.mono b9.size)
  clear hb
  go_wp2_with fail
  refine (blank_any 12288 _).mono ?_
  rw [show blankB 12288 = true by decide]
  rintro e w11 ⟨rfl, rfl⟩
  go_wp2_with fail
  go_ret
  exact ⟨rfl, b10⟩
end Go.Proofs.Ytmimkcdomgoefaa
