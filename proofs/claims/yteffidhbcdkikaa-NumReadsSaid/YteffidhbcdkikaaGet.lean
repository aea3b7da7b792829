/-
  num.Get, num.unfold: what they answer, of whatever bytes. No condition but that the slice reads as bytes.
-/
import Derived.Test.YteffidhbcdkikaaPut
namespace Go.Proofs.Yteffidhbcdkikaa
open Go.RowKit

set_option maxHeartbeats 400000 in
theorem unfold_any (f : Nat) (w : World) (h : (f : Int) ≤ 18014398509481982) :
    Calls Try.prog 30 #[.int .u64 (f : Int)] w fun e w' => e = .returned (.int .i64 (unfoldN f)) ∧ w = w' := by
  have hand : bits .and .u64 (f : Int) 1 = ((f % 2 : Nat) : Int) := by
    have := bits_mask .u64 63 (by decide) (fun n h0 h1 => by rw [IntKind.wrap_u64]; omega) 1 (by decide) (f : Int) (by omega) (by omega)
    simpa using this
  by_cases hf : f % 2 = 1
  · have e : unfoldN f = -((f / 2 : Nat) : Int) - 1 := by unfold unfoldN; rw [if_pos hf]
    rw [e]; clear e
    have hand' : bits .and .u64 (f : Int) 1 = 1 := by rw [hand, hf]; rfl
    clear hand hf
    go_enter Try.func30, Try.ntmps30
    go_wp2
    go_ret
    exact ⟨ret_val (int_val (by omega)), rfl⟩
  · have e : unfoldN f = ((f / 2 : Nat) : Int) := by unfold unfoldN; rw [if_neg hf]
    rw [e]; clear e
    have hand' : bits .and .u64 (f : Int) 1 = 0 := by rw [hand, show f % 2 = 0 by omega]; rfl
    clear hand hf
    go_enter Try.func30, Try.ntmps30
    go_wp2
    go_ret
    exact ⟨ret_val (int_val (by omega)), rfl⟩

/-- What num.Get answers. -/
def getV : Option (Nat × Nat) → Value
  | some (y, n) => .tuple #[.int .i64 (unfoldN y), .int .i64 (n : Int), .int .i64 0]
  | none => .tuple #[.int .i64 0, .int .i64 0, .int .i64 10]

theorem mask127 (y : Nat) (h : y < 256) : bits .and .u8 (y : Int) 127 = ((y % 128 : Nat) : Int) := by
  have h' : ∀ a : Fin 256, bits .and .u8 (a.val : Int) 127 = ((a.val % 128 : Nat) : Int) := by decide +kernel
  exact h' ⟨y, h⟩

def GetRel (l : List UInt8) (u5 u10 : Value) : Prop :=
  ∃ k x : Nat, k ≤ 8 ∧ k ≤ l.length ∧ u10 = .int .i64 (k : Int) ∧ u5 = .int .u64 (x : Int) ∧ x < 128 ^ k ∧ vgetF (8 - k) k x (l.drop k) = vget l

theorem or_group (x y k : Nat) (hx : x < 128 ^ k) (hk : k < 8) :
    bits .or .u64 (x : Int) (IntKind.u64.wrap ((y : Int) % 128 * 2 ^ (7 * k))) = ((x + y % 128 * 128 ^ k : Nat) : Int) ∧ x + y % 128 * 128 ^ k < 128 ^ (k + 1) := by
  have hp : (128 : Nat) ^ k = 2 ^ (7 * k) := by rw [Nat.pow_mul]
  have hk8 : (128 : Nat) ^ k ≤ 128 ^ 7 := Nat.pow_le_pow_right (by decide) (by omega)
  have hm : y % 128 * 128 ^ k ≤ 127 * 128 ^ k := Nat.mul_le_mul_right _ (by omega)
  have hc : ((y : Int) % 128 * 2 ^ (7 * k)) = ((y % 128 * 128 ^ k : Nat) : Int) := by rw [hp]; simp
  refine ⟨?_, by rw [Nat.pow_succ]; omega⟩
  rw [hc]
  generalize hz : y % 128 * 128 ^ k = z at *
  rw [IntKind.wrap_u64, Int.emod_eq_of_lt (by omega) (by omega)]
  rw [(bits_nat .u64 63 (by decide) (fun n h0 h1 => by rw [IntKind.wrap_u64]; omega) x z (by omega) (by omega)).2]
  congr 1
  rw [← hz, hp, Nat.or_comm, Nat.mul_comm, ← Nat.two_pow_add_eq_or_of_lt (by rw [← hp]; exact hx)]
  omega

theorem getRel_next {l : List UInt8} {k x z y : Nat} (hk : k < l.length) (hk8 : k < 8) (hy : l[k].toNat = y) (hz : z = x + y % 128 * 128 ^ k) (hzl : z < 128 ^ (k + 1)) (h128 : 128 ≤ y)
    (heq : vgetF (8 - k) k x (l.drop k) = vget l) : GetRel l (.int .u64 (z : Int)) (.int .i64 ((k : Int) + 1)) := by
  refine ⟨k + 1, z, by omega, by omega, by simp, rfl, hzl, ?_⟩
  subst hy
  rw [show 8 - k = (8 - (k + 1)) + 1 by omega, vgetF_more _ k x l hk h128] at heq
  rw [hz]; exact heq

set_option maxHeartbeats 800000 in
set_option maxRecDepth 100000 in
theorem get_any (v : Value) (l : List UInt8) (B : Nat) (w : World) (hr : Rd w B v l) :
    Calls Try.prog 10 #[v] w fun e w' => e = .returned (getV (vget l)) ∧ w = w' := by
  obtain ⟨A, c, rfl, hlc, hcm, hA⟩ := hr
  unfold maxLen at hcm
  have hlm : (l.length : Int) ≤ 9223372036854775807 := by omega
  clear hcm
  go_enter Try.func10, Try.ntmps10
  go_wp2_with fail
  go_loop [5, 10] (GetRel l) (fun _ i => (8 - intOf i).toNat)
  case atStart => exact ⟨0, 0, by omega, by omega, rfl, rfl, by simp, rfl⟩
  case round =>
    obtain ⟨k, x, hk8, hkl, rfl, rfl, hx, heq⟩ := hrel
    by_cases hlt : k < l.length ∧ k < 8
    · obtain ⟨hlt, hlt8⟩ := hlt
      obtain ⟨b, o, rfl, _, hc⟩ := hA (by omega)
      have hcell := hc k hlt
      unfold u8v at hcell
      have hby : l[k].toNat < 256 := l[k].toNat_lt
      generalize hy : l[k].toNat = y at hcell hby
      obtain ⟨hor, hzl⟩ := or_group x y k hx hlt8
      generalize hz : x + y % 128 * 128 ^ k = z at hor hzl
      have Hy := Lib.hid hy
      have Hz := Lib.hid hz
      have Hzl := Lib.hid hzl
      have Heq := Lib.hid heq
      have hmask := mask127 y hby
      clear hc hA hy hx heq hz hzl
      by_cases h128 : 128 ≤ y
      · go_wp2
        go_round
        case rel => exact getRel_next hlt hlt8 Hy.out Hz.out.symm Hzl.out h128 Heq.out
        case measure => simp [intOf]; omega
      · by_cases hzero : y = 0 ∧ 0 < k
        · obtain ⟨rfl, hk0⟩ := hzero
          have hfin : vget l = none := by
            rw [← Heq.out, show 8 - k = (8 - (k + 1)) + 1 by omega]; exact vgetF_bad _ _ _ _ hlt Hy.out hk0
          have Hfin := Lib.hid hfin
          clear hfin
          go_wp2
          go_ret3
          exact ⟨by rw [Hfin.out]; rfl, rfl⟩
        · by_cases hgr : 18014398509481982 < (z : Int)
          · have hfin : vget l = none := by
              rw [← Heq.out, show 8 - k = (8 - (k + 1)) + 1 by omega]
              exact vgetF_great _ _ _ _ hlt (by rw [Hy.out]; omega) (by rw [Hy.out, Hz.out]; omega)
            have Hfin := Lib.hid hfin
            clear hfin
            have hy0 : y ≠ 0 := by
              intro hy0
              have hk0 : k = 0 := by omega
              have := Hzl.out
              rw [hk0] at this
              omega
            go_wp2
            go_ret3
            exact ⟨by rw [Hfin.out]; rfl, rfl⟩
          · have hfin : vget l = some (z, k + 1) := by
              rw [← Heq.out, show 8 - k = (8 - (k + 1)) + 1 by omega]
              rw [vgetF_end _ _ _ _ hlt (by rw [Hy.out]; omega) (by rw [Hy.out]; omega) (by rw [Hy.out, Hz.out]; omega), Hy.out, Hz.out]
            have Hfin := Lib.hid hfin
            clear hfin
            by_cases hy0 : y = 0
            · have hk0 : k ≤ 0 := by omega
              have hy0b : ((y : Int) == 0) = true := by rw [hy0]; rfl
              clear hy0 hzero
              go_wp2_with (go_at_call 30; go_must (refine (unfold_any _ _ (by omega)).mono ?_); rintro e w' ⟨rfl, rfl⟩)
              go_ret3
              exact ⟨by rw [Hfin.out]; rfl, rfl⟩
            · go_wp2_with (go_at_call 30; go_must (refine (unfold_any _ _ (by omega)).mono ?_); rintro e w' ⟨rfl, rfl⟩)
              go_ret3
              exact ⟨by rw [Hfin.out]; rfl, rfl⟩
    · have hfin : vget l = none := by
        rw [← heq]
        rcases Nat.lt_or_ge k l.length with h | h
        · rw [show 8 - k = 0 by omega]; rfl
        · exact vgetF_out _ _ _ _ h
      have Hfin := Lib.hid hfin
      clear hfin
      clear heq hx
      go_wp2
      go_ret3
      exact ⟨by rw [Hfin.out]; rfl, rfl⟩
end Go.Proofs.Yteffidhbcdkikaa
