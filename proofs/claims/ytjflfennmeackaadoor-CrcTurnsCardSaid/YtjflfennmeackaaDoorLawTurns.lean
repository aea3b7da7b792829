/-
  CrcTurns' call: it answers true. Conditions: the slice reads as bytes; the table is as the program's text lays it.
-/
import Derived.Test.YtjflfennmeackaaDoorLives2
import Derived.Test.YtjflfennmeackaaDoorRefSeal
import Derived.Test.YtjflfennmeackaaDoorRefTurn
namespace Go.Proofs.YtjflfennmeackaaDoor
open Go.RowKit

set_option maxHeartbeats 800000 in
set_option maxRecDepth 100000 in
theorem turns_main (v : Value) (l : List UInt8) (p t : Nat) (B : Nat) (w : World) (hr : Rd w B v l) (hB : B ≤ w.heap.size) (hH : Halves w) (hl : l.length ≤ 3000) (hp : p + 32 ≤ 8 * (l.length + 4)) (ht : (t : Int) < 4294967296) (h0 : t ≠ 0) :
    Calls Tryd.prog 6 #[v, .int .i64 (p : Int), .int .u32 (t : Int)] w (Holds w) := by
  have R := Lib.hid hr
  obtain ⟨A, c, rfl, hlc, hcm, _⟩ := hr
  have hs := sealB_len l
  have hb : ∀ m : List UInt8, m.length = (sealB l).length → numL m = numL (sealB l) ^^^ 2 ^ p * t → openS m = none := fun m h1 h2 =>
    burst (sealB l) m p t (by rw [openS_sealB]; exact fun h => by cases h) (by omega) h1 (by omega) (by omega) h0 h2
  have ht' : U32 t := by unfold U32; omega
  have hlI : (l.length : Int) ≤ 3000 := by omega
  have hpI : (p : Int) ≤ 8 * ((l.length : Int) + 4) - 32 := by omega
  have hp0 : (0 : Int) ≤ (p : Int) := by omega
  have ht0 : ¬ (t : Int) = 0 := by omega
  have hlI2 : ¬ (3000 : Int) < (l.length : Int) := by omega
  have hpI2 : ¬ 8 * ((l.length : Int) + 4) - 32 < (p : Int) := by omega
  have HH := Lib.hid hH
  have HL := Lib.hid hl
  have HS := Lib.hid hs
  have HB := Lib.hid hb
  have HP := Lib.hid hp
  clear hH hcm hl hs hb hp ht h0
  go_enter Tryd.func6, Tryd.ntmps6
  go_wp2_with fail
  refine (rseal_any _ l B _ (by exact R.out) hB (by have := HL.out; omega)).mono ?_
  rintro e w1 ⟨v1, rfl, own1, b1⟩
  have r1 := own1.rd (Nat.le_refl _)
  have R1 := Lib.hid r1
  clear own1 r1
  go_wp2_with fail
  refine (turn_any _ (sealB l) p t _ _ (by exact R1.out) (Nat.le_refl _) (by have := HS.out; omega) (by have := HS.out; have := HL.out; omega) (by have := HS.out; have := HP.out; omega) (by unfold U32 at ht'; omega)).mono ?_
  rintro e w2 ⟨v2, m, rfl, r2, hml, hnum, hb2⟩
  have b2 : Below w.heap.size w w2 := b1.trans (hb2.mono b1.size)
  have hnone := HB.out m hml hnum
  have hmlen : m.length ≤ 70368744177664 := by have := HS.out; have := HL.out; omega
  have NO := Lib.hid hnone
  have R2 := Lib.hid r2
  have HM := Lib.hid hmlen
  clear hml hnum hnone r2 hmlen hb2
  go_wp2_with fail
  refine (open_any _ m _ _ (by exact R2.out) (Nat.le_refl _) (by exact HM.out) (by exact HH.out.next b2)).mono ?_
  rw [NO.out]
  rintro e w3 ⟨rfl, hb3⟩
  have b3 : Below w.heap.size w w3 := b2.trans (hb3.mono b2.size)
  go_wp2_with fail
  refine (lives_any _ (by exact HH.out.next b3)).mono ?_
  rintro e w4 ⟨rfl, hb4⟩
  have b4 : Below w.heap.size w w4 := b3.trans (hb4.mono b3.size)
  go_wp2_with fail
  go_ret
  exact ⟨rfl, b4⟩

set_option maxHeartbeats 800000 in
set_option maxRecDepth 100000 in
theorem turns_any (v : Value) (l : List UInt8) (a : Int) (t : Nat) (B : Nat) (w : World) (hr : Rd w B v l) (hB : B ≤ w.heap.size) (hH : Halves w) (ha : -9223372036854775808 ≤ a ∧ a ≤ 9223372036854775807) (ht : (t : Int) < 4294967296) :
    Calls Tryd.prog 6 #[v, .int .i64 a, .int .u32 (t : Int)] w (Holds w) := by
  by_cases hm : l.length ≤ 3000 ∧ 0 ≤ a ∧ a ≤ 8 * ((l.length : Int) + 4) - 32 ∧ t ≠ 0
  · obtain ⟨p, rfl⟩ : ∃ p : Nat, a = (p : Int) := ⟨a.toNat, by omega⟩
    exact turns_main v l p t B w hr hB hH hm.1 (by omega) ht hm.2.2.2
  · have hc : 3000 < l.length ∨ (l.length ≤ 3000 ∧ a < 0) ∨ (l.length ≤ 3000 ∧ 0 ≤ a ∧ 8 * ((l.length : Int) + 4) - 32 < a) ∨ (l.length ≤ 3000 ∧ 0 ≤ a ∧ a ≤ 8 * ((l.length : Int) + 4) - 32 ∧ t = 0) := by omega
    obtain ⟨A, c, rfl, hlc, hcm, _⟩ := hr
    have HH := Lib.hid hH
    clear hH hcm hm ht ha
    rcases hc with h1 | ⟨h1, h2⟩ | ⟨h1, h2, h3⟩ | ⟨h1, h2, h3, h4⟩
    · have g1 : (3000 : Int) < (l.length : Int) := by omega
      go_enter Tryd.func6, Tryd.ntmps6
      go_wp2_with fail
      refine (lives_any _ (by exact HH.out)).mono ?_
      rintro e w1 ⟨rfl, b1⟩
      go_wp2_with fail
      go_ret
      exact ⟨rfl, b1⟩
    · have g1 : ¬ (3000 : Int) < (l.length : Int) := by omega
      go_enter Tryd.func6, Tryd.ntmps6
      go_wp2_with fail
      refine (lives_any _ (by exact HH.out)).mono ?_
      rintro e w1 ⟨rfl, b1⟩
      go_wp2_with fail
      go_ret
      exact ⟨rfl, b1⟩
    · have g1 : ¬ (3000 : Int) < (l.length : Int) := by omega
      have g2 : ¬ a < 0 := by omega
      go_enter Tryd.func6, Tryd.ntmps6
      go_wp2_with fail
      refine (lives_any _ (by exact HH.out)).mono ?_
      rintro e w1 ⟨rfl, b1⟩
      go_wp2_with fail
      go_ret
      exact ⟨rfl, b1⟩
    · subst h4
      have g1 : ¬ (3000 : Int) < (l.length : Int) := by omega
      have g2 : ¬ a < 0 := by omega
      have g3 : ¬ 8 * ((l.length : Int) + 4) - 32 < a := by omega
      go_enter Tryd.func6, Tryd.ntmps6
      go_wp2_with fail
      refine (lives_any _ (by exact HH.out)).mono ?_
      rintro e w1 ⟨rfl, b1⟩
      go_wp2_with fail
      go_ret
      exact ⟨rfl, b1⟩
end Go.Proofs.YtjflfennmeackaaDoor
