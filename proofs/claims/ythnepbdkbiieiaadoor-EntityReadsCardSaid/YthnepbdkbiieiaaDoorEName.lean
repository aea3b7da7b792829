/-
  The signs that have names (entity.signs, laid by the program's text), the name of a rune. Condition: the table is as the program's text lays it.
-/
import Derived.Test.YthnepbdkbiieiaaDoorEMath
import Derived.Test.YthnepbdkbiieiaaDoorURef3
import Derived.Deep.MidRow
namespace Go.Proofs.YthnepbdkbiieiaaDoor
open Go.RowKit
open Go.Lib (decodeL encodeRune)

def sigCells : List Value := [.int .i32 38, .string (str [97, 109, 112]), .int .i32 60, .string (str [108, 116]), .int .i32 62, .string (str [103, 116]), .int .i32 34, .string (str [113, 117, 111, 116]), .int .i32 39, .string (str [97, 112, 111, 115])]
/-- The table lies as the text lays it. -/
def Sig (w : World) : Prop := 0 < w.heap.size ∧ w.rangeAt 0 0 sigCells
theorem Sig.below {w w' : World} (h : Sig w) (hb : Below w.heap.size w w') : Sig w' := ⟨Nat.lt_of_lt_of_le h.1 hb.size, fun i v hv => (hb.cell (p := ⟨0, 0 + i, none⟩) h.1).trans (h.2 i v hv)⟩
theorem sig_0 (W : World) : (Instr.index 43 (.agg sigCells.toArray) (.int .i64 0)).run Tryd.prog W = .ok (.agg #[.int .i32 38, .string (str [97, 109, 112])]) W := by kernel_rfl
theorem sig_1 (W : World) : (Instr.index 43 (.agg sigCells.toArray) (.int .i64 1)).run Tryd.prog W = .ok (.agg #[.int .i32 60, .string (str [108, 116])]) W := by kernel_rfl
theorem sig_2 (W : World) : (Instr.index 43 (.agg sigCells.toArray) (.int .i64 2)).run Tryd.prog W = .ok (.agg #[.int .i32 62, .string (str [103, 116])]) W := by kernel_rfl
theorem sig_3 (W : World) : (Instr.index 43 (.agg sigCells.toArray) (.int .i64 3)).run Tryd.prog W = .ok (.agg #[.int .i32 34, .string (str [113, 117, 111, 116])]) W := by kernel_rfl
theorem sig_4 (W : World) : (Instr.index 43 (.agg sigCells.toArray) (.int .i64 4)).run Tryd.prog W = .ok (.agg #[.int .i32 39, .string (str [97, 112, 111, 115])]) W := by kernel_rfl
/-- None of the first k signs is c. -/
def NF (k : Nat) (c : Int) : Prop := (0 < k → c ≠ 38) ∧ (1 < k → c ≠ 60) ∧ (2 < k → c ≠ 62) ∧ (3 < k → c ≠ 34) ∧ (4 < k → c ≠ 39)
theorem NF.all {c : Int} (h : NF 5 c) : nameE c = [] := by
  obtain ⟨h1, h2, h3, h4, h5⟩ := h
  unfold nameE
  rw [if_neg (h1 (by decide)), if_neg (h2 (by decide)), if_neg (h3 (by decide)), if_neg (h4 (by decide)), if_neg (h5 (by decide))]
def NameRelE (c : Int) (w : World) (u : Value) (W : World) : Prop := ∃ k : Nat, k ≤ 5 ∧ u = .int .i64 (k : Int) ∧ NF k c ∧ Below w.heap.size w W
set_option maxHeartbeats 1600000 in
theorem nameOf_any (c : Int) (w : World) (hS : Sig w) : Calls Tryd.prog 38 #[.int .i32 c] w (Made w (.string (str (nameE c)))) := by
  have HS := Lib.hid hS
  have i0 := sig_0
  have i1 := sig_1
  have i2 := sig_2
  have i3 := sig_3
  have i4 := sig_4
  clear hS
  go_enter Tryd.func38, Tryd.ntmps38
  go_wp2_with (refine wpList_load_mid (by rfl) _ _ (by rfl) 0 0 (by rfl) sigCells _ HS.out.2 Tryd.underlying43 (by rfl) (by kernel_rfl) ?_)
  generalize sigCells.toArray = SC at *
  go_loopw [6] (NameRelE c w) (fun u _ => 5 - (intOf u).toNat)
  case atStart => exact ⟨0, by decide, rfl, by unfold NF; omega, Below.refl _ _⟩
  case round =>
    obtain ⟨k, hk, rfl, hnf, hbw⟩ := hrel
    have HN := Lib.hid hnf
    have HB := Lib.hid hbw
    clear hnf hbw
    have hk6 : k = 0 ∨ k = 1 ∨ k = 2 ∨ k = 3 ∨ k = 4 ∨ k = 5 := by omega
    rcases hk6 with rfl | rfl | rfl | rfl | rfl | rfl
    · by_cases hc : c = 38
      · subst hc
        go_wp2_with fail
        go_ret
        exact ⟨rfl, HB.out.alloc HB.out.size _⟩
      · have hcb : ((38 : Int) == c) = false := by simpa using fun e => hc e.symm
        have HNE := Lib.hid hc
        clear hc
        go_wp2_with fail
        go_roundw
        case rel => exact ⟨1, by decide, rfl, by have h1 := HN.out; have h2 := HNE.out; unfold NF at h1 ⊢; omega, HB.out.alloc HB.out.size _⟩
        case measure => simp [intOf]
    · by_cases hc : c = 60
      · subst hc
        go_wp2_with fail
        go_ret
        exact ⟨rfl, HB.out.alloc HB.out.size _⟩
      · have hcb : ((60 : Int) == c) = false := by simpa using fun e => hc e.symm
        have HNE := Lib.hid hc
        clear hc
        go_wp2_with fail
        go_roundw
        case rel => exact ⟨2, by decide, rfl, by have h1 := HN.out; have h2 := HNE.out; unfold NF at h1 ⊢; omega, HB.out.alloc HB.out.size _⟩
        case measure => simp [intOf]
    · by_cases hc : c = 62
      · subst hc
        go_wp2_with fail
        go_ret
        exact ⟨rfl, HB.out.alloc HB.out.size _⟩
      · have hcb : ((62 : Int) == c) = false := by simpa using fun e => hc e.symm
        have HNE := Lib.hid hc
        clear hc
        go_wp2_with fail
        go_roundw
        case rel => exact ⟨3, by decide, rfl, by have h1 := HN.out; have h2 := HNE.out; unfold NF at h1 ⊢; omega, HB.out.alloc HB.out.size _⟩
        case measure => simp [intOf]
    · by_cases hc : c = 34
      · subst hc
        go_wp2_with fail
        go_ret
        exact ⟨rfl, HB.out.alloc HB.out.size _⟩
      · have hcb : ((34 : Int) == c) = false := by simpa using fun e => hc e.symm
        have HNE := Lib.hid hc
        clear hc
        go_wp2_with fail
        go_roundw
        case rel => exact ⟨4, by decide, rfl, by have h1 := HN.out; have h2 := HNE.out; unfold NF at h1 ⊢; omega, HB.out.alloc HB.out.size _⟩
        case measure => simp [intOf]
    · by_cases hc : c = 39
      · subst hc
        go_wp2_with fail
        go_ret
        exact ⟨rfl, HB.out.alloc HB.out.size _⟩
      · have hcb : ((39 : Int) == c) = false := by simpa using fun e => hc e.symm
        have HNE := Lib.hid hc
        clear hc
        go_wp2_with fail
        go_roundw
        case rel => exact ⟨5, by decide, rfl, by have h1 := HN.out; have h2 := HNE.out; unfold NF at h1 ⊢; omega, HB.out.alloc HB.out.size _⟩
        case measure => simp [intOf]
    · go_wp2_with fail
      go_ret
      exact ⟨by rw [NF.all HN.out]; rfl, HB.out⟩
end Go.Proofs.YthnepbdkbiieiaaDoor
