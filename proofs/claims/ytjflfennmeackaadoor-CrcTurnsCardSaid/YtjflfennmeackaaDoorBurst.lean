/-
  Bytes of which some within 32 bits in a row are turned: the register tells. In plain words; no condition.
-/
import Derived.Test.YtjflfennmeackaaDoorSealed
namespace Go.Proofs.YtjflfennmeackaaDoor

/-- Bytes as a number, the first the lowest. -/
def numL : List UInt8 → Nat
  | [] => 0
  | x :: r => x.toNat ^^^ 2 ^ 8 * numL r

theorem xor_zero_eq {a b : Nat} (h : a ^^^ b = 0) : a = b := by
  have h1 : a ^^^ b ^^^ b = b := by rw [h, Nat.zero_xor]
  rwa [Nat.xor_assoc, Nat.xor_self, Nat.xor_zero] at h1
theorem step_zero (c : Nat) (hc : c < 4294967296) (h : step c = 0) : c = 0 := by
  unfold step at h
  have hx : c / 2 = if c % 2 = 1 then poly else 0 := xor_zero_eq h
  by_cases ho : c % 2 = 1
  · rw [if_pos ho] at hx
    unfold poly at hx
    omega
  · rw [if_neg ho] at hx
    omega
theorem steps_zero : ∀ (k c : Nat), c < 4294967296 → steps k c = 0 → c = 0
  | 0, _, _, h => h
  | k + 1, c, hc, h => step_zero c hc (steps_zero k (step c) (step_lt c hc) h)
theorem xor_lt32 {a b : Nat} (ha : a < 4294967296) (hb : b < 4294967296) : a ^^^ b < 4294967296 := by
  have : a ^^^ b < 2 ^ 32 := Nat.xor_lt_two_pow (by omega) (by omega)
  omega
theorem steps_inj (k a b : Nat) (ha : a < 4294967296) (hb : b < 4294967296) (h : steps k a = steps k b) : a = b := by
  have h1 : steps k (a ^^^ b) = 0 := by rw [steps_xor, h, Nat.xor_self]
  exact xor_zero_eq (steps_zero k _ (xor_lt32 ha hb) h1)

theorem regB_steps : ∀ (l : List UInt8) (c : Nat), regB c l = steps (8 * l.length) (c ^^^ numL l)
  | [], c => by show c = steps 0 (c ^^^ 0); rw [Nat.xor_zero]; rfl
  | x :: r, c => by
    show regB (stepB c x.toNat) r = steps (8 * (r.length + 1)) (c ^^^ (x.toNat ^^^ 2 ^ 8 * numL r))
    rw [regB_steps r, show 8 * (r.length + 1) = 8 + 8 * r.length by omega, steps_add, ← Nat.xor_assoc, steps_xor 8, steps_shift]
    rfl

theorem not_xor (s : Nat) (hs : s < 4294967296) : s ^^^ 4294967295 = 4294967295 - s := by
  apply Nat.eq_of_testBit_eq
  intro i
  rw [Nat.testBit_xor, show (4294967295 : Nat) = 2 ^ 32 - 1 from rfl, Nat.testBit_two_pow_sub_one, show (2 ^ 32 - 1 - s : Nat) = 2 ^ 32 - (s + 1) by omega, Nat.testBit_two_pow_sub_succ (show s < 2 ^ 32 by omega)]
  by_cases hi : i < 32
  · simp [hi]
  · simp only [hi, decide_false, Bool.bne_false, Bool.false_and]
    exact Nat.testBit_lt_two_pow (Nat.lt_of_lt_of_le (show s < 2 ^ 32 by omega) (Nat.pow_le_pow_right (show 0 < 2 by decide) (Nat.le_of_not_lt hi)))

theorem numL_word (l : List UInt8) (h : l.length = 4) : numL l = wordN l := by
  match l, h with
  | [a, b, c, d], _ =>
    have ha := a.toNat_lt
    have hb := b.toNat_lt
    have hc := c.toNat_lt
    have hd := d.toNat_lt
    have key : ∀ x y : Nat, x < 256 → x ^^^ 2 ^ 8 * y = x + 256 * y := fun x y hx => by
      have e := split_low 8 (2 ^ 8 * y + x)
      rw [show (2 ^ 8 * y + x) / 2 ^ 8 = y by omega, show (2 ^ 8 * y + x) % 2 ^ 8 = x by omega] at e
      rw [Nat.xor_comm, ← e]
      omega
    show a.toNat ^^^ 2 ^ 8 * (b.toNat ^^^ 2 ^ 8 * (c.toNat ^^^ 2 ^ 8 * (d.toNat ^^^ 2 ^ 8 * 0))) = a.toNat + 256 * b.toNat + 65536 * c.toNat + 16777216 * d.toNat
    rw [key d.toNat _ (by omega), key c.toNat _ (by omega), key b.toNat _ (by omega), key a.toNat _ (by omega)]
    omega

/-- The register behind sealed bytes is ever the same; behind others it is not. -/
theorem openS_reg (l : List UInt8) (h : 4 ≤ l.length) : openS l ≠ none ↔ regB 4294967295 l = steps 32 4294967295 := by
  obtain ⟨n, hn⟩ : ∃ n, l.length = n + 4 := ⟨l.length - 4, by omega⟩
  have hR := regB_lt (l.take n) 4294967295 (by decide)
  have hd : (l.drop n).length = 4 := by rw [List.length_drop]; omega
  have hw : wordN (l.drop n) < 4294967296 := by
    match l.drop n, hd with
    | [a, b, c, d], _ =>
      have ha := a.toNat_lt
      have hb := b.toNat_lt
      have hc := c.toNat_lt
      have hd := d.toNat_lt
      show a.toNat + 256 * b.toNat + 65536 * c.toNat + 16777216 * d.toNat < _
      omega
  have hreg : regB 4294967295 l = steps 32 (regB 4294967295 (l.take n) ^^^ wordN (l.drop n)) := by
    have : regB 4294967295 (l.take n ++ l.drop n) = regB 4294967295 l := by rw [List.take_append_drop]
    rw [← this, regB_append, regB_steps (l.drop n), hd, numL_word _ hd]
  have hm : moreN 0 (l.take n) = 4294967295 - regB 4294967295 (l.take n) := rfl
  rw [hreg]
  unfold openS
  rw [if_neg (by omega), show l.length - 4 = n by omega, hm]
  generalize regB 4294967295 (l.take n) = R at hR
  generalize wordN (l.drop n) = t at hw
  constructor
  · intro h
    by_cases ht : t = 4294967295 - R
    · rw [ht, ← not_xor R hR, ← Nat.xor_assoc, Nat.xor_self, Nat.zero_xor]
    · rw [if_neg ht] at h
      exact absurd rfl h
  · intro h
    have := steps_inj 32 _ _ (xor_lt32 hR hw) (by decide) h
    have ht : t = 4294967295 - R := by
      rw [← not_xor R hR, ← this, ← Nat.xor_assoc, Nat.xor_self, Nat.zero_xor]
    rw [if_pos ht]
    exact fun h => by cases h

/-- Turned within 32 bits in a row, they are not sealed. -/
theorem burst (l l' : List UInt8) (at_ turn : Nat) (hs : openS l ≠ none) (h4 : 4 ≤ l.length) (hlen : l'.length = l.length) (hat : at_ ≤ 8 * l.length) (ht : turn < 4294967296) (h0 : turn ≠ 0)
    (hn : numL l' = numL l ^^^ 2 ^ at_ * turn) : openS l' = none := by
  refine Classical.byContradiction fun h => ?_
  have h1 := (openS_reg l h4).1 hs
  have h2 := (openS_reg l' (by omega)).1 h
  rw [← h1, regB_steps l', regB_steps l, hlen, hn, ← Nat.xor_assoc, steps_xor] at h2
  have h3 : steps (8 * l.length) (2 ^ at_ * turn) = 0 := by
    have := congrArg (fun x => steps (8 * l.length) (4294967295 ^^^ numL l) ^^^ x) h2
    simp only [← Nat.xor_assoc, Nat.xor_self, Nat.zero_xor] at this
    exact this
  rw [show 8 * l.length = at_ + (8 * l.length - at_) by omega, steps_add, steps_shift] at h3
  exact h0 (steps_zero _ _ ht h3)
end Go.Proofs.YtjflfennmeackaaDoor
