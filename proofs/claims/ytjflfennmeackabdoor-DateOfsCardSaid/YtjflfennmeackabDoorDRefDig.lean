/-
  The document's own digits (newsstandref04.digits). Condition: at most four.
-/
import Derived.Test.YtjflfennmeackabDoorDShow
namespace Go.Proofs.YtjflfennmeackabDoor
open Go.RowKit

theorem padN_front : ∀ j n, padN (j + 1) n = UInt8.ofNat (48 + n / 10 ^ j % 10) :: padN j n
  | 0, n => by
    show padN 0 (n / 10) ++ [UInt8.ofNat (48 + n % 10)] = _
    rw [Nat.pow_zero, Nat.div_one]
    rfl
  | j + 1, n => by
    show padN (j + 1) (n / 10) ++ [UInt8.ofNat (48 + n % 10)] = _
    rw [padN_front j (n / 10), Nat.div_div_eq_div_mul, show 10 * 10 ^ j = 10 ^ (j + 1) by rw [Nat.pow_succ, Nat.mul_comm]]
    rfl

theorem digit_cut (w : World) : ∀ a : Nat, a < 10 → (Instr.slice 9 (.string ⟨#[48, 49, 50, 51, 52, 53, 54, 55, 56, 57]⟩) (some (.int .i64 (a : Int))) (some (.int .i64 ((a : Int) + 1))) none).run Tryd.prog w = .ok (.string (str [UInt8.ofNat (48 + a)])) w
  | 0, _ => by kernel_rfl
  | 1, _ => by kernel_rfl
  | 2, _ => by kernel_rfl
  | 3, _ => by kernel_rfl
  | 4, _ => by kernel_rfl
  | 5, _ => by kernel_rfl
  | 6, _ => by kernel_rfl
  | 7, _ => by kernel_rfl
  | 8, _ => by kernel_rfl
  | 9, _ => by kernel_rfl

def DigRel (n k : Nat) (u0 u5 u6 : Value) : Prop := ∃ j : Nat, j ≤ k ∧ u6 = .int .i64 (j : Int) ∧ u0 = .int .i64 ((n / 10 ^ j : Nat) : Int) ∧ u5 = .string (str (padN j n))

set_option maxHeartbeats 800000 in
set_option maxRecDepth 100000 in
theorem rdigits_any (n k : Nat) (w : World) (hk : k ≤ 3) (hn : n < 10 ^ (k + 1)) :
    Calls Tryd.prog 44 #[.int .i64 (n : Int), .int .i64 ((k + 1 : Nat) : Int)] w (Pure w (.string (str (padN (k + 1) n)))) := by
  have h9 : (10 : Nat) ^ (k + 1) ≤ 10 ^ 4 := Nat.pow_le_pow_right (by decide) (by omega)
  have hnI : n ≤ 10000 := by omega
  have hkI : (k : Int) ≤ 3 := by omega
  clear h9 hn
  go_enter Tryd.func44, Tryd.ntmps44
  go_wp2_with fail
  go_loop [0, 5, 6] (DigRel n (k + 1)) (fun _ _ u => k + 1 - (intOf u).toNat)
  case atStart => exact ⟨0, Nat.zero_le _, rfl, by rw [Nat.pow_zero, Nat.div_one], rfl⟩
  case round =>
    obtain ⟨j, hj, rfl, rfl, rfl⟩ := hrel
    by_cases hlt : j < k + 1
    · have hltI : (j : Int) < (k : Int) + 1 := by omega
      have hq : n / 10 ^ j ≤ n := Nat.div_le_self _ _
      have hnext : n / 10 ^ (j + 1) = n / 10 ^ j / 10 := by rw [Nat.pow_succ, Nat.div_div_eq_div_mul]
      have hfront := padN_front j n
      have hlen := padN_len j n
      generalize n / 10 ^ j = q at hq hnext hfront
      have hcut := digit_cut w (q % 10) (by omega)
      generalize hr : q % 10 = r at hcut hfront
      have hrI : (q : Int) % 10 = (r : Int) := by omega
      have hr10 : (r : Int) < 10 := by omega
      have hqI : (q : Int) ≤ 10000 := by omega
      have hll : ((padN j n).length : Int) ≤ 100 := by omega
      generalize UInt8.ofNat (48 + r) = x at hcut hfront
      have hcat := str_app [x] (padN j n)
      have HC := Lib.hid hcat
      have HF := Lib.hid hfront
      have HN := Lib.hid hnext
      generalize padN j n = p at hll HC HF
      clear hq hnext hfront hlen hr hcat hlt
      go_wp2_with fail
      go_round
      case rel =>
        refine ⟨j + 1, by omega, by go_num, ?_, ?_⟩
        · rw [HN.out]; exact int_val (by omega)
        · rw [HF.out, HC.out]; rfl
      case measure => simp [intOf]; omega
    · have hje : j = k + 1 := by omega
      subst hje
      go_wp2_with fail
      go_ret
      exact ⟨rfl, rfl⟩

end Go.Proofs.YtjflfennmeackabDoor
