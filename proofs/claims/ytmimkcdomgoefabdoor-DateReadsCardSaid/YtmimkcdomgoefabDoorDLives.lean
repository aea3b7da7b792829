/-
  What must come of every program of layer 4 (newsstandlaw04.lives): it answers true, and nothing that was there is changed. Condition: the table of powers of ten is as the library's text lays it.
-/
import Derived.Test.YtmimkcdomgoefabDoorDWebM
import Derived.Test.YtmimkcdomgoefabDoorDShow
import Derived.KernelRfl
namespace Go.Proofs.YtmimkcdomgoefabDoor
open Go.RowKit

theorem l4_1 : webS [49, 57, 55, 48, 45, 48, 49, 45, 48, 50, 84, 48, 48, 58, 48, 48, 58, 48, 49, 90] = some 86401 := by kernel_rfl
theorem l4_2 : mailS [70, 114, 105, 44, 32, 49, 51, 32, 70, 101, 98, 32, 50, 48, 48, 57, 32, 50, 51, 58, 51, 49, 58, 51, 48, 32, 71, 77, 84] = some 1234567890 := by kernel_rfl
theorem l4_3 : anyS [50, 48, 48, 57, 45, 48, 50, 45, 49, 52, 84, 48, 49, 58, 51, 49, 58, 51, 48, 46, 53, 43, 48, 50, 58, 48, 48] = some 1234567890 := by kernel_rfl
theorem l4_4 : anyS [50, 48, 48, 57, 45, 48, 50, 45, 51, 48, 84, 48, 49, 58, 51, 49, 58, 51, 48, 90] = none := by kernel_rfl
theorem l4_5 : momN 2000 2 29 0 0 0 = 951782400 := by decide
theorem l4_6 : momN 2009 2 13 23 31 30 = 1234567890 := by decide
theorem l4_7 : showL 2009 2 13 23 31 30 = [50, 48, 48, 57, 45, 48, 50, 45, 49, 51, 84, 50, 51, 58, 51, 49, 58, 51, 48, 90] := by kernel_rfl
theorem l4_8 : daysN 1900 2 = 28 := by decide

set_option maxHeartbeats 1600000 in
set_option maxRecDepth 100000 in
theorem lives_any (w : World) (hT : Tab w) : Calls Tryd.prog 4 #[] w (Holds w) := by
  have HT := Lib.hid hT
  clear hT
  go_enter Tryd.func4, Tryd.ntmps4
  go_wp2_with fail
  refine (web_any [49, 57, 55, 48, 45, 48, 49, 45, 48, 50, 84, 48, 48, 58, 48, 48, 58, 48, 49, 90] _ (by decide)).mono ?_
  rw [l4_1]
  simp only [momV, errN, Option.getD_some]
  rintro e w1 ⟨rfl, hb1⟩
  have b1 : Below w.heap.size w w1 := hb1
  clear hb1
  go_wp2_with fail
  refine (mail_any [70, 114, 105, 44, 32, 49, 51, 32, 70, 101, 98, 32, 50, 48, 48, 57, 32, 50, 51, 58, 51, 49, 58, 51, 48, 32, 71, 77, 84] _ (by decide)).mono ?_
  rw [l4_2]
  simp only [momV, errN, Option.getD_some]
  rintro e w2 ⟨rfl, hb2⟩
  have b2 : Below w.heap.size w w2 := b1.trans (hb2.mono b1.size)
  clear hb2
  go_wp2_with fail
  refine (any_any [50, 48, 48, 57, 45, 48, 50, 45, 49, 52, 84, 48, 49, 58, 51, 49, 58, 51, 48, 46, 53, 43, 48, 50, 58, 48, 48] _ (by decide)).mono ?_
  rw [l4_3]
  simp only [momV, errN, Option.getD_some]
  rintro e w3 ⟨rfl, hb3⟩
  have b3 : Below w.heap.size w w3 := b2.trans (hb3.mono b2.size)
  clear hb3
  go_wp2_with fail
  refine (any_any [50, 48, 48, 57, 45, 48, 50, 45, 51, 48, 84, 48, 49, 58, 51, 49, 58, 51, 48, 90] _ (by decide)).mono ?_
  rw [l4_4]
  simp only [momV, errN, Option.getD_none]
  rintro e w4 ⟨rfl, hb4⟩
  have b4 : Below w.heap.size w w4 := b3.trans (hb4.mono b3.size)
  clear hb4
  go_wp2_with fail
  refine (of_yes 951782400 _ (by decide)).mono ?_
  rintro e w5 ⟨y, m, d, h, mi, s, rfl, hv, hc, hmom, hb5⟩
  have b5 : Below w.heap.size w w5 := b4.trans (hb5.mono b4.size)
  obtain ⟨rfl, rfl, rfl, rfl, rfl, rfl⟩ := mom_inj hv hc (y' := 2000) (m' := 2) (d' := 29) (h' := 0) (mi' := 0) (s' := 0) (by unfold validD; decide) (by unfold clockD; decide) (hmom.trans l4_5.symm)
  clear hb5 hv hc hmom
  go_wp2_with fail
  refine (show_yes 1234567890 _ (by exact HT.out.next (b5.alloc b5.size _)) (by decide)).mono ?_
  rintro e w6 ⟨y, m, d, h, mi, s, rfl, hv, hc, hmom, hb6⟩
  obtain ⟨ey, em, ed, eh, emi, es⟩ := mom_inj hv hc (y' := 2009) (m' := 2) (d' := 13) (h' := 23) (mi' := 31) (s' := 30) (by unfold validD; decide) (by unfold clockD; decide) (hmom.trans l4_6.symm)
  obtain rfl : y = 2009 := by omega
  obtain rfl : m = 2 := by omega
  obtain rfl : d = 13 := by omega
  obtain rfl : h = 23 := by omega
  obtain rfl : mi = 31 := by omega
  obtain rfl : s = 30 := by omega
  rw [l4_7]
  have b6 : Below w.heap.size w w6 := (b5.alloc b5.size _).trans (hb6.mono (b5.alloc b5.size _).size)
  clear ey em ed eh emi es hv hc hmom hb6
  go_wp2_with fail
  refine (days_any 1900 2 _).mono ?_
  rw [l4_8]
  rintro e w7 ⟨rfl, rfl⟩
  go_wp2_with fail
  refine (check_no 0 0 0 0 0 0 _ (by unfold okD; decide)).mono ?_
  rintro e w7 ⟨rfl, hb7⟩
  have b7 : Below w.heap.size w w7 := b6.trans (hb7.mono b6.size)
  clear hb7
  go_wp2_with fail
  go_ret
  exact ⟨rfl, b7⟩
end Go.Proofs.YtmimkcdomgoefabDoor
