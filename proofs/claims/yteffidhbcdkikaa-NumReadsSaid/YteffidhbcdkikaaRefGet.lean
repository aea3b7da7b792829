/-
  The document's own reading of a number (newsstandref01.Get), of whatever bytes. No condition but that the slice reads as bytes.
-/
import Derived.Test.YteffidhbcdkikaaRefNum
namespace Go.Proofs.Yteffidhbcdkikaa
open Go.RowKit

/-- What newsstandref01.Get answers. -/
def rgetV : Option (Nat × Nat) → Value
  | some (y, n) => .tuple #[.int .i64 (unfoldN y), .int .i64 (n : Int), .bool true]
  | none => .tuple #[.int .i64 0, .int .i64 0, .bool false]

def RgetRel (l : List UInt8) (u5 u6 u7 : Value) : Prop :=
  ∃ k x p : Nat, k ≤ 8 ∧ k ≤ l.length ∧ u7 = .int .i64 (k : Int) ∧ u6 = .int .i64 (p : Int) ∧ u5 = .int .i64 (x : Int) ∧ p = 128 ^ k ∧ x < 128 ^ k ∧ vgetF (8 - k) k x (l.drop k) = vget l

theorem rgetRel_next {l : List UInt8} {k x z y p : Nat} (hk : k < l.length) (hk8 : k < 8) (hy : l[k].toNat = y) (hp : p = 128 ^ k) (hz : z = x + y % 128 * p) (hx : x < 128 ^ k) (h128 : 128 ≤ y)
    (heq : vgetF (8 - k) k x (l.drop k) = vget l) : RgetRel l (.int .i64 (z : Int)) (.int .i64 ((p : Int) * 128)) (.int .i64 ((k : Int) + 1)) := by
  have hm : y % 128 * 128 ^ k ≤ 127 * 128 ^ k := Nat.mul_le_mul_right _ (by omega)
  refine ⟨k + 1, z, p * 128, by omega, by omega, by simp, by simp, rfl, by rw [Nat.pow_succ, hp], by rw [Nat.pow_succ, hz, hp]; omega, ?_⟩
  subst hy
  rw [show 8 - k = (8 - (k + 1)) + 1 by omega, vgetF_more _ k x l hk h128] at heq
  rw [hz, hp]; exact heq

theorem rsum (x y p : Nat) (h : (y : Int) % 128 * (p : Int) = ((y % 128 * p : Nat) : Int)) : (x : Int) + (y : Int) % 128 * (p : Int) = ((x + y % 128 * p : Nat) : Int) := by rw [h]; simp

set_option maxHeartbeats 800000 in
set_option maxRecDepth 100000 in
theorem rget_any (v : Value) (l : List UInt8) (B : Nat) (w : World) (hr : Rd w B v l) :
    Calls Try.prog 12 #[v] w fun e w' => e = .returned (rgetV (vget l)) ∧ w = w' := by
  obtain ⟨A, c, rfl, hlc, hcm, hA⟩ := hr
  unfold maxLen at hcm
  have hlm : (l.length : Int) ≤ 9223372036854775807 := by omega
  clear hcm
  go_enter Try.func12, Try.ntmps12
  go_wp2_with fail
  go_loop [5, 6, 7] (RgetRel l) (fun _ _ i => (8 - intOf i).toNat)
  case atStart => exact ⟨0, 0, 1, by omega, by omega, rfl, rfl, rfl, by simp, by simp, rfl⟩
  case round =>
    obtain ⟨k, x, p, hk8, hkl, rfl, rfl, rfl, hp, hx, heq⟩ := hrel
    by_cases hlt : k < l.length ∧ k < 8
    · obtain ⟨hlt, hlt8⟩ := hlt
      obtain ⟨b, o, rfl, _, hc⟩ := hA (by omega)
      have hcell := hc k hlt
      unfold u8v at hcell
      have hby : l[k].toNat < 256 := l[k].toNat_lt
      generalize hy : l[k].toNat = y at hcell hby
      have hpl : (p : Int) ≤ 562949953421312 := by
        have : (128 : Nat) ^ k ≤ 128 ^ 7 := Nat.pow_le_pow_right (by decide) (by omega)
        omega
      have hp1 : 1 ≤ (p : Int) := by
        have : 0 < (128 : Nat) ^ k := Nat.pow_pos (by decide)
        omega
      have hxp : (x : Int) < p := by omega
      have hm0 : (y : Int) % 128 * (p : Int) = ((y % 128 * p : Nat) : Int) := by simp
      have hm : y % 128 * p ≤ 127 * p := Nat.mul_le_mul_right _ (by omega)
      generalize hq : y % 128 * p = q at hm0 hm
      have hz : x + q = x + y % 128 * p := by rw [hq]
      generalize hzz : x + q = z at hz
      have hsum : (x : Int) + (q : Int) = (z : Int) := by omega
      have hq1 : (q : Int) ≤ 71494644084506624 := by omega
      have hzl : (z : Int) ≤ 72057594037927936 := by omega
      have Hy := Lib.hid hy
      have Hz := Lib.hid hz
      have Hp := Lib.hid hp
      have Hx := Lib.hid hx
      have Heq := Lib.hid heq
      clear hc hA hy hp hx heq hz hq hzz hm hxp
      by_cases h128 : 128 ≤ y
      · go_wp2
        go_round
        case rel => exact rgetRel_next hlt hlt8 Hy.out Hp.out Hz.out Hx.out h128 Heq.out
        case measure => simp [intOf]; omega
      · have hk1 : 8 - k = (8 - (k + 1)) + 1 := by omega
        have Hk1 := Lib.hid hk1
        clear hk1
        by_cases hzero : y = 0 ∧ 0 < k
        · obtain ⟨rfl, hk0⟩ := hzero
          have hfin : vget l = none := by
            rw [← Heq.out, Hk1.out]; exact vgetF_bad _ _ _ _ hlt Hy.out hk0
          have Hfin := Lib.hid hfin
          clear hfin
          go_wp2
          go_ret3
          exact ⟨by rw [Hfin.out]; rfl, rfl⟩
        · by_cases hgr : 18014398509481982 < (z : Int)
          · have hfin : vget l = none := by
              rw [← Heq.out, Hk1.out]
              exact vgetF_great _ _ _ _ hlt (by rw [Hy.out]; omega) (by rw [Hy.out, ← Hp.out, ← Hz.out]; omega)
            have Hfin := Lib.hid hfin
            clear hfin
            have hy0 : y ≠ 0 := by
              intro hy0
              have hk0 : k = 0 := by omega
              have h1 := Hz.out
              have h2 := Hx.out
              rw [hy0] at h1
              rw [hk0] at h2
              simp at h1 h2
              omega
            by_cases hodd : z % 2 = 1
            · have hob : ((z : Int) % 2 == 1) = true := by rw [beq_iff_eq]; omega
              have Hodd := Lib.hid hodd
              clear hodd
              go_wp2_with (go_at_call 9; go_must (refine (rmay_no _ _ (by have := Hodd.out; omega)).mono ?_); rintro e w' ⟨rfl, rfl⟩)
              all_goals (go_ret3; exact ⟨by rw [Hfin.out]; rfl, rfl⟩)
            · have hob : ((z : Int) % 2 == 1) = false := by rw [beq_eq_false_iff_ne]; omega
              have Hodd := Lib.hid hodd
              clear hodd
              go_wp2_with (go_at_call 9; go_must (refine (rmay_no _ _ (by have := Hodd.out; omega)).mono ?_); rintro e w' ⟨rfl, rfl⟩)
              all_goals (go_ret3; exact ⟨by rw [Hfin.out]; rfl, rfl⟩)
          · have hfin : vget l = some (z, k + 1) := by
              rw [← Heq.out, Hk1.out]
              rw [vgetF_end _ _ _ _ hlt (by rw [Hy.out]; omega) (by rw [Hy.out]; omega) (by rw [Hy.out, ← Hp.out, ← Hz.out]; omega), Hy.out, ← Hp.out, ← Hz.out]
            have Hfin := Lib.hid hfin
            clear hfin
            have hzb : ((y : Int) == 0 && decide (0 < (k : Int))) = false := by
              rcases Nat.eq_zero_or_pos k with h | h
              · simp [h]
              · have : y ≠ 0 := fun e => hzero ⟨e, h⟩
                simp; omega
            by_cases hodd : z % 2 = 1
            · have hob : ((z : Int) % 2 == 1) = true := by rw [beq_iff_eq]; omega
              have hu : unfoldN z = -((z : Int) / 2) - 1 := by unfold unfoldN; rw [if_pos hodd]; simp
              have Hu := Lib.hid hu
              have Hodd := Lib.hid hodd
              clear hodd hu
              by_cases hk0 : 0 < k
              · have hyb : ((y : Int) == 0) = false := by rw [beq_eq_false_iff_ne]; omega
                clear hzero hzb
                go_wp2_with (go_at_call 9; go_must (refine (rmay_yes _ _ (by have := Hodd.out; omega) (by have := Hodd.out; omega)).mono ?_); rintro e w' ⟨rfl, rfl⟩)
                go_ret3
                exact ⟨by rw [Hfin.out, rgetV, Hu.out]; rfl, rfl⟩
              · clear hzero hzb
                go_wp2_with (go_at_call 9; go_must (refine (rmay_yes _ _ (by have := Hodd.out; omega) (by have := Hodd.out; omega)).mono ?_); rintro e w' ⟨rfl, rfl⟩)
                go_ret3
                exact ⟨by rw [Hfin.out, rgetV, Hu.out]; rfl, rfl⟩
            · have hob : ((z : Int) % 2 == 1) = false := by rw [beq_eq_false_iff_ne]; omega
              have hu : unfoldN z = (z : Int) / 2 := by unfold unfoldN; rw [if_neg hodd]; simp
              have Hu := Lib.hid hu
              have Hodd := Lib.hid hodd
              clear hodd hu
              by_cases hk0 : 0 < k
              · have hyb : ((y : Int) == 0) = false := by rw [beq_eq_false_iff_ne]; omega
                clear hzero hzb
                go_wp2_with (go_at_call 9; go_must (refine (rmay_yes _ _ (by have := Hodd.out; omega) (by have := Hodd.out; omega)).mono ?_); rintro e w' ⟨rfl, rfl⟩)
                go_ret3
                exact ⟨by rw [Hfin.out, rgetV, Hu.out]; rfl, rfl⟩
              · clear hzero hzb
                go_wp2_with (go_at_call 9; go_must (refine (rmay_yes _ _ (by have := Hodd.out; omega) (by have := Hodd.out; omega)).mono ?_); rintro e w' ⟨rfl, rfl⟩)
                go_ret3
                exact ⟨by rw [Hfin.out, rgetV, Hu.out]; rfl, rfl⟩
    · have hfin : vget l = none := by
        rw [← heq]
        rcases Nat.lt_or_ge k l.length with h | h
        · rw [show 8 - k = 0 by omega]; rfl
        · exact vgetF_out _ _ _ _ h
      have Hfin := Lib.hid hfin
      clear heq hx hfin hp
      by_cases hkl' : k < l.length
      · go_wp2
        go_ret3
        exact ⟨by rw [Hfin.out]; rfl, rfl⟩
      · go_wp2
        go_ret3
        exact ⟨by rw [Hfin.out]; rfl, rfl⟩
end Go.Proofs.Yteffidhbcdkikaa
