/-
  What a nil disk answers. No condition.
-/
import Derived.Test.YtincdegoiknfhabBlk
namespace Go.Proofs.Ytincdegoiknfhab
open Go.RowKit

/-- It answers v, and the world is as it was. -/
def Ans (w : World) (v : Value) (e : Ending) (w' : World) : Prop := e = .returned v ∧ w' = w
theorem nclosed (w : World) : Calls Try.prog 43 #[.pointer none] w (Ans w (.bool true)) := by
  go_enter Try.func43, Try.ntmps43
  go_wp2_with fail
  go_ret
  exact ⟨rfl, rfl⟩
theorem nready (w : World) : Calls Try.prog 55 #[.pointer none] w (Ans w (.int .i64 6)) := by
  go_enter Try.func55, Try.ntmps55
  go_wp2_with (go_at_call 43; refine (nclosed _).mono ?_; rintro e w' ⟨rfl, rfl⟩)
  go_ret
  exact ⟨rfl, rfl⟩
theorem nfind (s : ByteArray) (w : World) : Calls Try.prog 58 #[.pointer none, .string s] w (Ans w (.tuple #[.pointer none, .int .i64 6])) := by
  go_enter Try.func58, Try.ntmps58
  go_wp2_with (go_at_call 55; refine (nready _).mono ?_; rintro e w' ⟨rfl, rfl⟩)
  go_ret2
  exact ⟨rfl, rfl⟩
theorem nappend (s : ByteArray) (v : Value) (w : World) : Calls Try.prog 24 #[.pointer none, .string s, v] w (Ans w (.int .i64 6)) := by
  go_enter Try.func24, Try.ntmps24
  go_wp2_with (go_at_call 55; refine (nready _).mono ?_; rintro e w' ⟨rfl, rfl⟩)
  go_ret
  exact ⟨rfl, rfl⟩
theorem nsync (s : ByteArray) (w : World) : Calls Try.prog 25 #[.pointer none, .string s] w (Ans w (.int .i64 6)) := by
  go_enter Try.func25, Try.ntmps25
  go_wp2_with (go_at_call 58; refine (nfind _ _).mono ?_; rintro e w' ⟨rfl, rfl⟩)
  go_ret
  exact ⟨rfl, rfl⟩
theorem nrename (s t : ByteArray) (w : World) : Calls Try.prog 27 #[.pointer none, .string s, .string t] w (Ans w (.int .i64 6)) := by
  go_enter Try.func27, Try.ntmps27
  go_wp2_with (go_at_call 55; refine (nready _).mono ?_; rintro e w' ⟨rfl, rfl⟩)
  go_ret
  exact ⟨rfl, rfl⟩
theorem ndelete (s : ByteArray) (w : World) : Calls Try.prog 34 #[.pointer none, .string s] w (Ans w (.int .i64 6)) := by
  go_enter Try.func34, Try.ntmps34
  go_wp2_with (go_at_call 58; refine (nfind _ _).mono ?_; rintro e w' ⟨rfl, rfl⟩)
  go_ret
  exact ⟨rfl, rfl⟩
theorem nread (s : ByteArray) (w : World) : Calls Try.prog 30 #[.pointer none, .string s] w (Ans w (.tuple #[.slice none 0 0, .int .i64 6])) := by
  go_enter Try.func30, Try.ntmps30
  go_wp2_with (go_at_call 58; refine (nfind _ _).mono ?_; rintro e w' ⟨rfl, rfl⟩)
  go_ret2
  exact ⟨rfl, rfl⟩
theorem nnames (w : World) : Calls Try.prog 31 #[.pointer none] w (Ans w (.slice none 0 0)) := by
  go_enter Try.func31, Try.ntmps31
  go_wp2_with (go_at_call 43; refine (nclosed _).mono ?_; rintro e w' ⟨rfl, rfl⟩)
  go_ret
  exact ⟨rfl, rfl⟩
theorem nused (w : World) : Calls Try.prog 32 #[.pointer none] w (Ans w (.int .i64 0)) := by
  go_enter Try.func32, Try.ntmps32
  go_wp2_with (go_at_call 43; refine (nclosed _).mono ?_; rintro e w' ⟨rfl, rfl⟩)
  go_ret
  exact ⟨rfl, rfl⟩
theorem nstop (n : Int) (w : World) : Calls Try.prog 26 #[.pointer none, .int .i64 n] w (Ans w (.int .i64 6)) := by
  go_enter Try.func26, Try.ntmps26
  go_wp2_with (go_at_call 43; refine (nclosed _).mono ?_; rintro e w' ⟨rfl, rfl⟩)
  go_ret
  exact ⟨rfl, rfl⟩
theorem noff (w : World) : Calls Try.prog 28 #[.pointer none] w (Ans w (.bool true)) := by
  go_enter Try.func28, Try.ntmps28
  go_wp2_with (go_at_call 43; refine (nclosed _).mono ?_; rintro e w' ⟨rfl, rfl⟩)
  go_ret
  exact ⟨rfl, rfl⟩
theorem ndeeds (w : World) : Calls Try.prog 33 #[.pointer none] w (Ans w (.int .i64 0)) := by
  go_enter Try.func33, Try.ntmps33
  go_wp2_with (go_at_call 43; refine (nclosed _).mono ?_; rintro e w' ⟨rfl, rfl⟩)
  go_ret
  exact ⟨rfl, rfl⟩
theorem nclone (w : World) : Calls Try.prog 15 #[.pointer none] w (Ans w (.pointer none)) := by
  go_enter Try.func15, Try.ntmps15
  go_wp2_with (go_at_call 43; refine (nclosed _).mono ?_; rintro e w' ⟨rfl, rfl⟩)
  go_ret
  exact ⟨rfl, rfl⟩
def ZeroRel (w : World) (u : Value) (W : World) : Prop := u = .int .i64 0 ∧ W = w
theorem ncrash (v : Value) (w : World) : Calls Try.prog 29 #[.pointer none, v] w (Ans w (.tuple #[])) := by
  go_enter Try.func29, Try.ntmps29
  go_wp2_with (go_at_call 31; refine (nnames _).mono ?_; rintro e w' ⟨rfl, rfl⟩)
  go_loopw [11] (ZeroRel w') (fun _ _ => 0)
  case atStart => exact ⟨rfl, rfl⟩
  case round =>
    obtain ⟨rfl, rfl⟩ := hrel
    go_wp2_with (go_at_call 43; refine (nclosed _).mono ?_; rintro e w' ⟨rfl, rfl⟩)
    go_end0
    exact ⟨rfl, rfl⟩
end Go.Proofs.Ytincdegoiknfhab
