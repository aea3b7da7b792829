/-
  EntityWrites's call: it answers true. Conditions: lengths are lengths; the table is as the program's text lays it.
-/
import Derived.Test.YthnepbdkbiieiaaDoorELives
import Derived.Test.YthnepbdkbiieiaaDoorERefW
namespace Go.Proofs.YthnepbdkbiieiaaDoor
open Go.RowKit

set_option maxHeartbeats 3200000 in
set_option maxRecDepth 100000 in
theorem ewrites_any (l : List UInt8) (w : World) (hS : Sig w) : Calls Tryd.prog 5 #[.string (str l)] w (Holds w) := by
  have HS := Lib.hid hS
  clear hS
  by_cases h1 : (2000 : Int) < (l.length : Int)
  · go_enter Tryd.func5, Tryd.ntmps5
    go_wp2_with fail
    refine (elives_any _ HS.out).mono ?_
    rintro e w1 ⟨rfl, b1⟩
    go_wp2_with fail
    go_ret
    exact ⟨rfl, b1⟩
  · have h1' : decide ((2000 : Int) < (l.length : Int)) = false := decide_eq_false h1
    have la : l.length ≤ 2000 := by omega
    have lw := (writeR_len l).2
    have hrt := Lib.hid (read_write l)
    cases hp : plainR l with
    | true =>
      have HP := Lib.hid hp
      have HW := Lib.hid (writeR_plain l hp)
      have hrl : readR l = l := by have := hrt.out; rw [HW.out] at this; exact this
      have HR := Lib.hid hrl
      clear hrl hp lw h1
      go_enter Tryd.func5, Tryd.ntmps5
      go_wp2_with fail
      refine (write_any l _ HS.out (by omega)).mono ?_
      rw [HW.out]
      rintro e w1 ⟨rfl, b1⟩
      have S1 := Lib.hid (HS.out.below b1)
      have B1 := Lib.hid b1
      clear b1
      go_wp2_with fail
      refine (elives_any _ S1.out).mono ?_
      rintro e w2 ⟨rfl, hb⟩
      have S2 := Lib.hid (S1.out.below hb)
      have B2 := Lib.hid (B1.out.trans (hb.mono B1.out.size))
      clear hb
      go_wp2_with fail
      refine (rwrite_any l _ (by omega)).mono ?_
      rw [HW.out]
      rintro e w3 ⟨rfl, rfl⟩
      go_wp2_with fail
      refine (read_any l _ S2.out (by omega)).mono ?_
      rw [HR.out]
      rintro e w4 ⟨rfl, hb⟩
      have S4 := Lib.hid (S2.out.below hb)
      have B4 := Lib.hid (B2.out.trans (hb.mono B2.out.size))
      clear hb
      go_wp2_with fail
      refine (plain_any l _ S4.out).mono ?_
      rw [HP.out]
      rintro e w5 ⟨rfl, hb⟩
      have B5 := Lib.hid (B4.out.trans (hb.mono B4.out.size))
      clear hb
      go_wp2_with fail
      go_ret
      exact ⟨rfl, B5.out⟩
    | false =>
      have HP := Lib.hid hp
      have hne : writeR l ≠ l := fun h => by
        have := plain_iff l
        rw [hp, decide_eq_true h] at this
        cases this
      have hn1 : (writeR l == l) = false := by simpa using hne
      have hn2 : (l == writeR l) = false := by simpa using fun h : l = writeR l => hne h.symm
      clear hp hne h1
      go_enter Tryd.func5, Tryd.ntmps5
      go_wp2_with fail
      refine (write_any l _ HS.out (by omega)).mono ?_
      rintro e w1 ⟨rfl, b1⟩
      have S1 := Lib.hid (HS.out.below b1)
      have B1 := Lib.hid b1
      clear b1
      go_wp2_with fail
      refine (elives_any _ S1.out).mono ?_
      rintro e w2 ⟨rfl, hb⟩
      have S2 := Lib.hid (S1.out.below hb)
      have B2 := Lib.hid (B1.out.trans (hb.mono B1.out.size))
      clear hb
      go_wp2_with fail
      refine (rwrite_any l _ (by omega)).mono ?_
      rintro e w3 ⟨rfl, rfl⟩
      go_wp2_with fail
      refine (read_any (writeR l) _ S2.out (by omega)).mono ?_
      rw [hrt.out]
      rintro e w4 ⟨rfl, hb⟩
      have S4 := Lib.hid (S2.out.below hb)
      have B4 := Lib.hid (B2.out.trans (hb.mono B2.out.size))
      clear hb
      go_wp2_with fail
      refine (plain_any l _ S4.out).mono ?_
      rw [HP.out]
      rintro e w5 ⟨rfl, hb⟩
      have B5 := Lib.hid (B4.out.trans (hb.mono B4.out.size))
      clear hb
      go_wp2_with fail
      go_ret
      exact ⟨rfl, B5.out⟩
end Go.Proofs.YthnepbdkbiieiaaDoor
