/-
  DiskNobody's call: it answers true. Condition: the call's fields are of their types' shapes.
-/
import Derived.Test.YthnepbdkbiieiabKLives
namespace Go.Proofs.Ythnepbdkbiieiab
open Go.RowKit

set_option maxHeartbeats 3200000 in
set_option maxRecDepth 100000 in
theorem knob_any (k n : Int) (sa sb : ByteArray) (Ad : Option Addr) (nd cd : Nat) (Ak : Option Addr) (nk ck : Nat) (w : World) :
    Calls Try.prog 7 #[.agg #[.int .i64 k, .string sa, .string sb, .int .i64 n, .slice Ad nd cd, .slice Ak nk ck]] w (Holds w) := by
  have hfr := Blk.fresh w 35 #[.int .i64 k, .string sa, .string sb, .int .i64 n, .slice Ad nd cd, .slice Ak nk ck]
  have HF := Lib.hid hfr
  clear hfr
  go_enter Try.func7, Try.ntmps7
  go_wp2_with (first
    | (go_at_call 17; refine (nread _ _).mono ?_; rintro e w' ⟨rfl, rfl⟩)
    | (go_at_call 16; refine (ncrash _ _).mono ?_; rintro e w' ⟨rfl, rfl⟩))
  refine (klives_any _).mono ?_
  rintro e w1 ⟨rfl, b1⟩
  have hf1 := HF.out.below b1 HF.out.lt
  have HB1 := Lib.hid (((Below.refl w.heap.size w).alloc (Nat.le_refl _) (.cells #[.int .i64 k, .string sa, .string sb, .int .i64 n, .slice Ad nd cd, .slice Ak nk ck] 35)).trans (b1.mono (by simp)))
  have x1 : w1.cell? ⟨w.heap.size, 1, none⟩ = some (.string sa) := hf1.cell 1
  have x2 : w1.cell? ⟨w.heap.size, 2, none⟩ = some (.string sb) := hf1.cell 2
  have x3 : w1.cell? ⟨w.heap.size, 3, none⟩ = some (.int .i64 n) := hf1.cell 3
  have x4 : w1.cell? ⟨w.heap.size, 4, none⟩ = some (.slice Ad nd cd) := hf1.cell 4
  clear hf1 b1 HF
  go_wp2_with (first
    | (go_at_call 14; refine (nappend _ _ _).mono ?_; rintro e w' ⟨rfl, rfl⟩)
    | (go_at_call 15; refine (nsync _ _).mono ?_; rintro e w' ⟨rfl, rfl⟩)
    | (go_at_call 24; refine (nrename _ _ _).mono ?_; rintro e w' ⟨rfl, rfl⟩)
    | (go_at_call 25; refine (ndelete _ _).mono ?_; rintro e w' ⟨rfl, rfl⟩)
    | (go_at_call 26; refine (nnames _).mono ?_; rintro e w' ⟨rfl, rfl⟩)
    | (go_at_call 27; refine (nused _).mono ?_; rintro e w' ⟨rfl, rfl⟩)
    | (go_at_call 20; refine (nstop _ _).mono ?_; rintro e w' ⟨rfl, rfl⟩)
    | (go_at_call 22; refine (noff _).mono ?_; rintro e w' ⟨rfl, rfl⟩)
    | (go_at_call 23; refine (ndeeds _).mono ?_; rintro e w' ⟨rfl, rfl⟩)
    | (go_at_call 18; refine (nclone _).mono ?_; rintro e w' ⟨rfl, rfl⟩))
  go_ret
  exact ⟨rfl, HB1.out⟩
end Go.Proofs.Ythnepbdkbiieiab
