/-
  One bit of one byte turned, in plain words. No condition.
-/
import Derived.Test.YtjflfennmeackaaDoorBurst
namespace Go.Proofs.YtjflfennmeackaaDoor

theorem mul_xor (n a b : Nat) : 2 ^ n * (a ^^^ b) = 2 ^ n * a ^^^ 2 ^ n * b := by
  apply Nat.eq_of_testBit_eq
  intro i
  rw [Nat.testBit_xor, Nat.testBit_two_pow_mul, Nat.testBit_two_pow_mul, Nat.testBit_two_pow_mul, Nat.testBit_xor]
  by_cases h : n ≤ i <;> simp [h]

theorem numL_turn : ∀ (l : List UInt8) (j k : Nat) (h : j < l.length), k < 8 → numL (l.set j (UInt8.ofNat (l[j].toNat ^^^ 2 ^ k))) = numL l ^^^ 2 ^ (8 * j + k)
  | x :: r, 0, k, _, hk => by
    have hp : 2 ^ k < 2 ^ 8 := Nat.pow_lt_pow_right (by decide) hk
    have hx := x.toNat_lt
    have hxy : x.toNat ^^^ 2 ^ k < 2 ^ 8 := Nat.xor_lt_two_pow (by omega) hp
    show (UInt8.ofNat (x.toNat ^^^ 2 ^ k)).toNat ^^^ 2 ^ 8 * numL r = (x.toNat ^^^ 2 ^ 8 * numL r) ^^^ 2 ^ (8 * 0 + k)
    rw [UInt8.toNat_ofNat', Nat.mod_eq_of_lt hxy, Nat.mul_zero, Nat.zero_add, Nat.xor_assoc, Nat.xor_comm (2 ^ k), ← Nat.xor_assoc]
  | x :: r, j + 1, k, h, hk => by
    have h' : j < r.length := by simpa using h
    have ih := numL_turn r j k h' hk
    show x.toNat ^^^ 2 ^ 8 * numL (r.set j (UInt8.ofNat (r[j].toNat ^^^ 2 ^ k))) = (x.toNat ^^^ 2 ^ 8 * numL r) ^^^ 2 ^ (8 * (j + 1) + k)
    rw [ih, mul_xor, ← Nat.xor_assoc, ← Nat.pow_add, show 8 + (8 * j + k) = 8 * (j + 1) + k by omega]

/-- One bit more of what is to be turned. -/
theorem turn_more (turn i : Nat) : turn % 2 ^ (i + 1) = turn % 2 ^ i ^^^ (if turn / 2 ^ i % 2 = 1 then 2 ^ i else 0) := by
  apply Nat.eq_of_testBit_eq
  intro j
  rw [Nat.testBit_xor, Nat.testBit_mod_two_pow, Nat.testBit_mod_two_pow]
  have hb : turn.testBit i = decide (turn / 2 ^ i % 2 = 1) := by rw [Nat.testBit_eq_decide_div_mod_eq]
  by_cases h1 : turn / 2 ^ i % 2 = 1
  · rw [if_pos h1, Nat.testBit_two_pow]
    by_cases hj : j = i
    · subst hj
      simp [hb, h1]
    · have : decide (j < i + 1) = decide (j < i) := by congr 1; simp; omega
      rw [this]
      simp [show ¬ i = j by omega]
  · rw [if_neg h1, Nat.zero_testBit]
    by_cases hj : j = i
    · subst hj
      simp [hb, h1]
    · have : decide (j < i + 1) = decide (j < i) := by congr 1; simp; omega
      rw [this]
      simp
end Go.Proofs.YtjflfennmeackaaDoor
