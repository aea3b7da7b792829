/-
  EntityReads's call: it answers true. Conditions: lengths are lengths; the table is as the program's text lays it.
-/
import Derived.Test.YthnepbdkbiieiaaDoorELives
import Derived.Test.YthnepbdkbiieiaaDoorERefR
namespace Go.Proofs.YthnepbdkbiieiaaDoor
open Go.RowKit

set_option maxHeartbeats 3200000 in
set_option maxRecDepth 100000 in
theorem ereads_any (l : List UInt8) (w : World) (hS : Sig w) : Calls Tryd.prog 4 #[.string (str l)] w (Holds w) := by
  have HS := Lib.hid hS
  clear hS
  by_cases h1 : (2000 : Int) < (l.length : Int)
  · go_enter Tryd.func4, Tryd.ntmps4
    go_wp2_with fail
    refine (elives_any _ HS.out).mono ?_
    rintro e w1 ⟨rfl, b1⟩
    go_wp2_with fail
    go_ret
    exact ⟨rfl, b1⟩
  · have h1' : decide ((2000 : Int) < (l.length : Int)) = false := decide_eq_false h1
    have la : Hid (l.length ≤ 1099511627776) := Lib.hid (by omega)
    clear h1
    go_enter Tryd.func4, Tryd.ntmps4
    go_wp2_with fail
    refine (elives_any _ HS.out).mono ?_
    rintro e w1 ⟨rfl, b1⟩
    have S1 := Lib.hid (HS.out.below b1)
    have B1 := Lib.hid b1
    clear b1
    go_wp2_with fail
    refine (read_any l _ S1.out la.out).mono ?_
    rintro e w2 ⟨rfl, hb⟩
    have B2 := Lib.hid (B1.out.trans (hb.mono B1.out.size))
    clear hb
    go_wp2_with fail
    refine (rread_any l _ la.out).mono ?_
    rintro e w3 ⟨rfl, hb⟩
    have B3 := Lib.hid (B2.out.trans (hb.mono B2.out.size))
    clear hb
    go_wp2_with fail
    go_ret
    exact ⟨rfl, B3.out⟩
end Go.Proofs.YthnepbdkbiieiaaDoor
