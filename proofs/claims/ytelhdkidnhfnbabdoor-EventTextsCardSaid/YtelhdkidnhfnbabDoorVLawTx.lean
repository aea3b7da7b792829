/-
  EventTexts's call: it answers true. Conditions: the tables of names and of powers of ten lie as the program's text lays them; the library's MaxLen is a number.
-/
import Derived.Test.YtelhdkidnhfnbabDoorVLives
namespace Go.Proofs.YtelhdkidnhfnbabDoor
open Go.RowKit

set_option maxHeartbeats 6400000 in
set_option maxRecDepth 100000 in
theorem ltexts_any (l : List UInt8) (w : World) (hW : EvW w) : Calls Tryd.prog 3 #[.string (str l)] w (Made w (.bool true)) := by
  have HW := Lib.hid hW
  clear hW
  by_cases h1 : (1000 : Int) < (l.length : Int)
  · go_enter Tryd.func3, Tryd.ntmps3
    go_wp2_with (go_at_call 5; refine (lives_any _ HW.out).mono ?_; rintro e w1 ⟨rfl, b1⟩; have B1 := Lib.hid b1; clear b1)
    go_ret
    exact ⟨rfl, B1.out⟩
  · have h1' : decide ((1000 : Int) < (l.length : Int)) = false := decide_eq_false h1
    have KLabel : Hid (∀ W, Calls Tryd.prog 6 #[.string (str l)] W (Made W (.bool (labelB l)))) := Lib.hid fun W => label_any l W (by omega)
    have RLabel : Hid (∀ W, Calls Tryd.prog 7 #[.string (str l)] W (Made W (.bool (labelB l)))) := Lib.hid fun W => rlabel_any l W (by omega)
    have KTag : Hid (∀ W, Calls Tryd.prog 8 #[.string (str l)] W (Made W (.bool (tagB l)))) := Lib.hid fun W => tag_any l W (by omega) (by omega)
    have RTag : Hid (∀ W, Calls Tryd.prog 9 #[.string (str l)] W (Made W (.bool (tagB l)))) := Lib.hid fun W => rtag_any l W (by omega) (by omega)
    have KTitle : Hid (∀ W, Calls Tryd.prog 10 #[.string (str l)] W (Made W (.bool (textB l 256)))) := Lib.hid fun W => title_any l W (by omega)
    have RTitle : Hid (∀ W, Calls Tryd.prog 11 #[.string (str l)] W (Made W (.bool (textB l 256)))) := Lib.hid fun W => rtitle_any l W (by omega)
    have KLink : Hid (∀ W, Calls Tryd.prog 12 #[.string (str l)] W (Made W (.bool (textB l 512)))) := Lib.hid fun W => link_any l W (by omega)
    have RLink : Hid (∀ W, Calls Tryd.prog 13 #[.string (str l)] W (Made W (.bool (textB l 512)))) := Lib.hid fun W => rlink_any l W (by omega)
    have KQuery : Hid (∀ W, Calls Tryd.prog 14 #[.string (str l)] W (Made W (.bool (queryB l)))) := Lib.hid fun W => query_any l W (by omega)
    have RQuery : Hid (∀ W, Calls Tryd.prog 15 #[.string (str l)] W (Made W (.bool (queryB l)))) := Lib.hid fun W => rquery_any l W (by omega)
    clear h1
    generalize labelB l = q1 at *
    generalize tagB l = q2 at *
    generalize textB l 256 = q3 at *
    generalize textB l 512 = q4 at *
    generalize queryB l = q5 at *
    go_enter Tryd.func3, Tryd.ntmps3
    go_wp2_with (first
      | (go_at_call 5; refine (lives_any _ HW.out).mono ?_; rintro e v0 ⟨rfl, b1⟩; have B0 := Lib.hid b1; clear b1)
      | (go_at_call 6; refine (KLabel.out _).mono ?_; rintro e v1 ⟨rfl, hb⟩; have B1 := Lib.hid (below_thC B0.out hb); clear hb)
      | (go_at_call 7; refine (RLabel.out _).mono ?_; rintro e v2 ⟨rfl, hb⟩; have B2 := Lib.hid (below_thC B1.out hb); clear hb)
      | (go_at_call 8; refine (KTag.out _).mono ?_; rintro e v3 ⟨rfl, hb⟩; have B3 := Lib.hid (below_thC B2.out hb); clear hb)
      | (go_at_call 9; refine (RTag.out _).mono ?_; rintro e v4 ⟨rfl, hb⟩; have B4 := Lib.hid (below_thC B3.out hb); clear hb)
      | (go_at_call 10; refine (KTitle.out _).mono ?_; rintro e v5 ⟨rfl, hb⟩; have B5 := Lib.hid (below_thC B4.out hb); clear hb)
      | (go_at_call 11; refine (RTitle.out _).mono ?_; rintro e v6 ⟨rfl, hb⟩; have B6 := Lib.hid (below_thC B5.out hb); clear hb)
      | (go_at_call 12; refine (KLink.out _).mono ?_; rintro e v7 ⟨rfl, hb⟩; have B7 := Lib.hid (below_thC B6.out hb); clear hb)
      | (go_at_call 13; refine (RLink.out _).mono ?_; rintro e v8 ⟨rfl, hb⟩; have B8 := Lib.hid (below_thC B7.out hb); clear hb)
      | (go_at_call 14; refine (KQuery.out _).mono ?_; rintro e v9 ⟨rfl, hb⟩; have B9 := Lib.hid (below_thC B8.out hb); clear hb)
      | (go_at_call 15; refine (RQuery.out _).mono ?_; rintro e v10 ⟨rfl, hb⟩; have B10 := Lib.hid (below_thC B9.out hb); clear hb))
    go_ret
    exact ⟨rfl, B10.out⟩
end Go.Proofs.YtelhdkidnhfnbabDoor
