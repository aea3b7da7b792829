/-
  What must come of every program of layer 7 (newsstandlaw07.lives): it answers true, and nothing that was there is changed. Condition: the table is as the program's text lays it.
-/
import Derived.Test.YthnepbdkbiieiaaDoorERead
import Derived.KernelRfl
namespace Go.Proofs.YthnepbdkbiieiaaDoor
open Go.RowKit

theorem e7_1 : sgV (signR [35, 56, 51, 54, 52]) = .tuple #[.int .i32 8364, .bool true] := by kernel_rfl
theorem e7_2 : sgV (signR [110, 98, 115, 112]) = .tuple #[.int .i32 0, .bool false] := by kernel_rfl
theorem e7_3 : readR [97, 32, 38, 108, 116, 59, 32, 98, 32, 38, 35, 120, 52, 49, 59, 38, 110, 98, 115, 112, 59, 38] = [97, 32, 60, 32, 98, 32, 65, 38, 110, 98, 115, 112, 59, 38] := by kernel_rfl
theorem e7_4 : writeR [60, 97, 32, 98, 61, 39, 99, 39, 62, 38, 34] = [38, 108, 116, 59, 97, 32, 98, 61, 38, 97, 112, 111, 115, 59, 99, 38, 97, 112, 111, 115, 59, 38, 103, 116, 59, 38, 97, 109, 112, 59, 38, 113, 117, 111, 116, 59] := by kernel_rfl
theorem e7_5 : plainR [97, 59, 98] = true := by kernel_rfl
theorem e7_6 : plainR [97, 38, 98] = false := by kernel_rfl
set_option maxHeartbeats 1600000 in
set_option maxRecDepth 100000 in
theorem elives_any (w : World) (hS : Sig w) : Calls Tryd.prog 11 #[] w (Holds w) := by
  have HS := Lib.hid hS
  clear hS
  go_enter Tryd.func11, Tryd.ntmps11
  go_wp2_with fail
  refine (sign_any [35, 56, 51, 54, 52] _ HS.out (by decide)).mono ?_
  rw [e7_1]
  rintro e w1 ⟨rfl, b1⟩
  have S1 := Lib.hid (HS.out.below b1)
  go_wp2_with fail
  refine (sign_any [110, 98, 115, 112] _ S1.out (by decide)).mono ?_
  rw [e7_2]
  rintro e w2 ⟨rfl, hb⟩
  have S2 := Lib.hid (S1.out.below hb)
  have b2 : Below w.heap.size w w2 := b1.trans (hb.mono b1.size)
  clear hb b1
  go_wp2_with fail
  refine (read_any [97, 32, 38, 108, 116, 59, 32, 98, 32, 38, 35, 120, 52, 49, 59, 38, 110, 98, 115, 112, 59, 38] _ S2.out (by decide)).mono ?_
  rw [e7_3]
  rintro e w3 ⟨rfl, hb⟩
  have S3 := Lib.hid (S2.out.below hb)
  have b3 : Below w.heap.size w w3 := b2.trans (hb.mono b2.size)
  clear hb b2
  go_wp2_with fail
  refine (write_any [60, 97, 32, 98, 61, 39, 99, 39, 62, 38, 34] _ S3.out (by decide)).mono ?_
  rw [e7_4]
  rintro e w4 ⟨rfl, hb⟩
  have S4 := Lib.hid (S3.out.below hb)
  have b4 : Below w.heap.size w w4 := b3.trans (hb.mono b3.size)
  clear hb b3
  go_wp2_with fail
  refine (plain_any [97, 59, 98] _ S4.out).mono ?_
  rw [e7_5]
  rintro e w5 ⟨rfl, hb⟩
  have S5 := Lib.hid (S4.out.below hb)
  have b5 : Below w.heap.size w w5 := b4.trans (hb.mono b4.size)
  clear hb b4
  go_wp2_with fail
  refine (plain_any [97, 38, 98] _ S5.out).mono ?_
  rw [e7_6]
  rintro e w6 ⟨rfl, hb⟩
  have b6 : Below w.heap.size w w6 := b5.trans (hb.mono b5.size)
  go_wp2_with fail
  go_ret
  exact ⟨rfl, b6⟩
end Go.Proofs.YthnepbdkbiieiaaDoor
