/-
  The document's own sums (newsstandref02): More, Sum. Condition: the slice reads as bytes.
-/
import Derived.Test.YtjflfennmeackaaDoorCrcMore
namespace Go.Proofs.YtjflfennmeackaaDoor
open Go.RowKit

def StepRel (c : Nat) (u5 u7 : Value) : Prop :=
  ∃ j d : Nat, j ≤ 8 ∧ d < 4294967296 ∧ u7 = .int .i64 (j : Int) ∧ u5 = .int .u32 (d : Int) ∧ steps (8 - j) d = steps 8 c

theorem step_even_eq (d : Nat) (h : d % 2 = 0) : step d = d / 2 := by
  unfold step
  rw [if_neg (by omega), Nat.xor_zero]
theorem step_odd_eq (d : Nat) (hd : d < 4294967296) (h : d % 2 = 1) : bits .xor .u32 ((d : Int) / 2) 3988292384 = (step d : Int) := by
  have := u32_xor_nat (d / 2) 3988292384 (by omega) (by decide)
  unfold step
  rw [if_pos h]
  exact this

theorem not_cap (s : Nat) (hs : s < 4294967296) : bits .xor .u32 (s : Int) 4294967295 = ((4294967295 - s : Nat) : Int) := by
  have h1 := not_u32 s (by omega)
  have h2 := u32_xor_nat 4294967295 s (by decide) (by omega)
  have h3 := u32_xor_nat s 4294967295 (by omega) (by decide)
  rw [Nat.xor_comm, ← h2] at h3
  rw [← h1]
  exact h3

set_option maxHeartbeats 800000 in
theorem rmore_any (s : Nat) (v : Value) (l : List UInt8) (B : Nat) (w : World) (hs : (s : Int) < 4294967296) (hr : Rd w B v l) :
    Calls Tryd.prog 11 #[.int .u32 (s : Int), v] w fun e w' => e = .returned (.int .u32 (moreN s l : Int)) ∧ w = w' := by
  obtain ⟨A, c, rfl, hlc, hcm, hA⟩ := hr
  unfold maxLen at hcm
  have hlm : (l.length : Int) ≤ 9223372036854775807 := by omega
  have hnot := not_cap s (by omega)
  generalize hr0 : 4294967295 - s = r0 at hnot
  have Hr0 := Lib.hid hr0
  clear hcm hs hr0
  go_enter Tryd.func11, Tryd.ntmps11
  go_wp2_with fail
  clear hnot
  go_loop [5, 6] (MoreRel s l) (fun _ i => l.length - (intOf i).toNat)
  case atStart => exact ⟨0, by omega, rfl, by rw [← Hr0.out]; rfl⟩
  case round =>
    obtain ⟨k, hk, rfl, rfl⟩ := hrel
    have hrl := regB_lt (l.take k) (4294967295 - s) (by omega)
    generalize hr : regB (4294967295 - s) (l.take k) = r at hrl
    have Hr := Lib.hid hr
    clear hr
    by_cases hlt : k < l.length
    · obtain ⟨b, o, rfl, _, hc⟩ := hA (by omega)
      have hcell := hc k hlt
      unfold u8v at hcell
      have hby : l[k].toNat < 256 := l[k].toNat_lt
      generalize hy : l[k].toNat = y at hcell hby
      have Hy := Lib.hid hy
      have hx := u32_xor_nat r y hrl (by omega)
      have hxl : r ^^^ y < 2 ^ 32 := Nat.xor_lt_two_pow (by omega) (by omega)
      generalize hq : r ^^^ y = q at hx hxl
      have Hq := Lib.hid hq
      have Hql := Lib.hid hxl
      clear hc hA hy hq hrl hxl
      go_wp2
      clear hx
      go_loop [5, 7] (StepRel q) (fun _ i => 8 - (intOf i).toNat)
      case atStart => exact ⟨0, q, by omega, by have := Hql.out; omega, rfl, rfl, rfl⟩
      case round =>
        obtain ⟨j, d, hj, hd, rfl, rfl, he⟩ := hrel
        have He := Lib.hid he
        clear he
        by_cases hlt8 : j < 8
        · have hsl := step_lt d hd
          have hst : steps (8 - (j + 1)) (step d) = steps 8 q := by
            rw [← He.out, show 8 - j = (8 - (j + 1)) + 1 by omega]; rfl
          have Hst := Lib.hid hst
          have Hsl := Lib.hid hsl
          clear hst hsl
          by_cases hev : d % 2 = 0
          · go_wp2
            go_round
            case rel => exact ⟨j + 1, step d, by omega, Hsl.out, by go_num, by rw [step_even_eq d hev]; simp, Hst.out⟩
            case measure => simp [intOf]; omega
          · have hx := step_odd_eq d hd (by omega)
            generalize hp : step d = p at hx
            have Hp := Lib.hid hp
            clear hp
            go_wp2
            go_round
            case rel => exact ⟨j + 1, step d, by omega, Hsl.out, by go_num, by rw [Hp.out], Hst.out⟩
            case measure => simp [intOf]; omega
        · have hj8 : j = 8 := by omega
          subst hj8
          have hfin : d = steps 8 q := He.out
          have Hfin := Lib.hid hfin
          clear hfin
          go_wp2
          go_round
          case rel => exact ⟨k + 1, by omega, by go_num, by rw [regB_snoc _ _ _ hlt, Hr.out, Hy.out, Hfin.out, ← Hq.out]; rfl⟩
          case measure => simp [intOf]; omega
    · have hfin : moreN s l = 4294967295 - r := by
        unfold moreN
        rw [← Hr.out, List.take_of_length_le (by omega)]
      have Hfin := Lib.hid hfin
      have hnot := not_cap r hrl
      generalize hq : 4294967295 - r = q at hnot
      have Hq := Lib.hid hq
      clear hfin hrl hq
      go_wp2
      go_ret
      exact ⟨by rw [Hfin.out, Hq.out]; rfl, rfl⟩

set_option maxHeartbeats 400000 in
theorem rsum_any (v : Value) (l : List UInt8) (B : Nat) (w : World) (hr : Rd w B v l) :
    Calls Tryd.prog 9 #[v] w fun e w' => e = .returned (.int .u32 (moreN 0 l : Int)) ∧ w = w' := by
  have hc := rmore_any 0 v l B w (by decide) hr
  have Hc := Lib.hid hc
  clear hc
  go_enter Tryd.func9, Tryd.ntmps9
  go_wp2_with fail
  refine Hc.out.mono ?_
  rintro e w' ⟨rfl, rfl⟩
  go_wp2_with fail
  go_ret
  exact ⟨rfl, rfl⟩
end Go.Proofs.YtjflfennmeackaaDoor
