/-
  Names of months, days of the week and zones (date.month, isWeekday, zone). No condition.
-/
import Derived.Test.YtmimkcdomgoefabDoorBlk
namespace Go.Proofs.YtmimkcdomgoefabDoor
open Go.RowKit

def monN (l : List UInt8) : Int :=
  if (l == [74, 97, 110]) = true then 1 else if (l == [70, 101, 98]) = true then 2 else if (l == [77, 97, 114]) = true then 3 else if (l == [65, 112, 114]) = true then 4 else if (l == [77, 97, 121]) = true then 5 else if (l == [74, 117, 110]) = true then 6 else if (l == [74, 117, 108]) = true then 7 else if (l == [65, 117, 103]) = true then 8 else if (l == [83, 101, 112]) = true then 9 else if (l == [79, 99, 116]) = true then 10 else if (l == [78, 111, 118]) = true then 11 else if (l == [68, 101, 99]) = true then 12 else 0
def wdB (l : List UInt8) : Bool := (l == [77, 111, 110]) || (l == [84, 117, 101]) || (l == [87, 101, 100]) || (l == [84, 104, 117]) || (l == [70, 114, 105]) || (l == [83, 97, 116]) || (l == [83, 117, 110])
def zonN (l : List UInt8) : Option Int :=
  if (l == [71, 77, 84]) = true ∨ (l == [85, 84]) = true ∨ (l == [85, 84, 67]) = true ∨ (l == [90]) = true then some 0 else if (l == [69, 68, 84]) = true then some (-4) else if (l == [69, 83, 84]) = true ∨ (l == [67, 68, 84]) = true then some (-5) else if (l == [67, 83, 84]) = true ∨ (l == [77, 68, 84]) = true then some (-6) else if (l == [77, 83, 84]) = true ∨ (l == [80, 68, 84]) = true then some (-7) else if (l == [80, 83, 84]) = true then some (-8) else none

set_option maxHeartbeats 800000 in
theorem month_any (l : List UInt8) (w : World) : Calls Tryd.prog 25 #[.string (str l)] w (Pure w (.int .i64 (monN l))) := by
  go_enter Tryd.func25, Tryd.ntmps25
  go_wp2
  all_goals (go_ret; exact ⟨ret_val (int_val (by unfold monN; simp only [*]; rfl)), rfl⟩)

set_option maxHeartbeats 800000 in
theorem weekday_any (l : List UInt8) (w : World) : Calls Tryd.prog 43 #[.string (str l)] w (Pure w (.bool (wdB l))) := by
  go_enter Tryd.func43, Tryd.ntmps43
  go_wp2
  all_goals (first | (exfalso; simp_all; done) | (go_ret; exact ⟨ret_val (congrArg Value.bool (by unfold wdB; simp only [*]; rfl)), rfl⟩))

def zonV : Option Int → Value
  | none => .tuple #[.int .i64 0, .bool false]
  | some n => .tuple #[.int .i64 n, .bool true]

set_option maxHeartbeats 800000 in
theorem zone_any (l : List UInt8) (w : World) : Calls Tryd.prog 44 #[.string (str l)] w (Pure w (zonV (zonN l))) := by
  go_enter Tryd.func44, Tryd.ntmps44
  go_wp2
  all_goals (first | (exfalso; simp_all; done) | (go_ret2; exact ⟨ret_val (by unfold zonN; simp [*, zonV]), rfl⟩))
end Go.Proofs.YtmimkcdomgoefabDoor
