/-
  Sums of bytes, in plain words: one bit of the register, a half of a byte, a byte, bytes; and that the register's step is linear and one to one. No condition.
-/
import Derived.Test.YtjflfennmeackaaDoorWord
namespace Go.Proofs.YtjflfennmeackaaDoor

/-- The polynomial, the highest power lowest. -/
def poly : Nat := 3988292384

/-- One bit leaves the register. -/
def step (c : Nat) : Nat := c / 2 ^^^ (if c % 2 = 1 then poly else 0)
def steps : Nat → Nat → Nat
  | 0, c => c
  | k + 1, c => steps k (step c)
/-- What half a byte that leaves turns in the rest. -/
def halfT (i : Nat) : Nat := steps 4 i
/-- The register behind one byte more. -/
def stepB (c x : Nat) : Nat := steps 8 (c ^^^ x)
/-- The register behind bytes. -/
def regB (c : Nat) (l : List UInt8) : Nat := l.foldl (fun r x => stepB r x.toNat) c
/-- The sum that a sum becomes by bytes behind it. -/
def moreN (s : Nat) (l : List UInt8) : Nat := 4294967295 - regB (4294967295 - s) l

theorem step_lt (c : Nat) (h : c < 4294967296) : step c < 4294967296 := by
  have : step c < 2 ^ 32 := by
    unfold step
    refine Nat.xor_lt_two_pow (by omega) ?_
    unfold poly
    split <;> omega
  omega
theorem steps_lt : ∀ (k c : Nat), c < 4294967296 → steps k c < 4294967296
  | 0, _, h => h
  | k + 1, c, h => steps_lt k (step c) (step_lt c h)
theorem steps_add : ∀ (j k c : Nat), steps (j + k) c = steps k (steps j c)
  | 0, k, c => by rw [Nat.zero_add]; rfl
  | j + 1, k, c => by rw [show j + 1 + k = (j + k) + 1 by omega]; exact steps_add j k (step c)
theorem step_xor (a b : Nat) : step (a ^^^ b) = step a ^^^ step b := by
  unfold step
  rw [Nat.xor_div_two]
  have ha : a % 2 = 0 ∨ a % 2 = 1 := by omega
  have hb : b % 2 = 0 ∨ b % 2 = 1 := by omega
  have hx := @Nat.xor_mod_two_eq_one a b
  rcases ha with ha | ha <;> rcases hb with hb | hb
  · have h : ¬ (a ^^^ b) % 2 = 1 := fun h => hx.1 h (by omega)
    rw [if_neg h, if_neg (by omega), if_neg (by omega)]; simp
  · have h : (a ^^^ b) % 2 = 1 := hx.2 (by omega)
    rw [if_pos h, if_neg (by omega), if_pos hb, Nat.xor_zero, Nat.xor_assoc]
  · have h : (a ^^^ b) % 2 = 1 := hx.2 (by omega)
    rw [if_pos h, if_pos ha, if_neg (by omega), Nat.xor_zero, Nat.xor_assoc, Nat.xor_assoc, Nat.xor_comm poly]
  · have h : ¬ (a ^^^ b) % 2 = 1 := fun h => hx.1 h (by omega)
    rw [if_neg h, if_pos ha, if_pos hb, Nat.xor_zero]
    rw [Nat.xor_assoc (a / 2) poly, Nat.xor_comm (b / 2) poly, ← Nat.xor_assoc poly, Nat.xor_self, Nat.zero_xor]
theorem steps_xor : ∀ (k a b : Nat), steps k (a ^^^ b) = steps k a ^^^ steps k b
  | 0, _, _ => rfl
  | k + 1, a, b => by
    show steps k (step (a ^^^ b)) = _
    rw [step_xor, steps_xor k]; rfl
theorem step_even (c : Nat) : step (2 * c) = c := by
  unfold step
  rw [if_neg (by omega), Nat.mul_div_cancel_left _ (by decide)]
  simp
theorem steps_shift : ∀ (k c : Nat), steps k (2 ^ k * c) = c
  | 0, c => by simp [steps]
  | k + 1, c => by
    show steps k (step (2 ^ (k + 1) * c)) = c
    rw [show 2 ^ (k + 1) * c = 2 * (2 ^ k * c) by rw [Nat.pow_succ, Nat.mul_comm (2 ^ k) 2, Nat.mul_assoc], step_even]
    exact steps_shift k c
/-- A number is its high part and its low part. -/
theorem split_low (k c : Nat) : c = 2 ^ k * (c / 2 ^ k) ^^^ c % 2 ^ k := by
  have hl : c % 2 ^ k < 2 ^ k := Nat.mod_lt _ (Nat.two_pow_pos k)
  apply Nat.eq_of_testBit_eq
  intro i
  rw [Nat.testBit_xor, Nat.testBit_two_pow_mul, Nat.testBit_mod_two_pow, Nat.testBit_div_two_pow]
  by_cases h : i < k
  · simp [h, Nat.not_le.2 h]
  · simp [h, Nat.le_of_not_lt h]
theorem nib_eq (c : Nat) : c / 16 ^^^ halfT (c % 16) = steps 4 c := by
  have h := split_low 4 c
  have : steps 4 c = steps 4 (2 ^ 4 * (c / 2 ^ 4) ^^^ c % 2 ^ 4) := by rw [← h]
  rw [this, steps_xor, steps_shift]
  rfl
theorem stepB_eq (c x : Nat) : stepB c x = steps 4 (steps 4 (c ^^^ x)) := by
  unfold stepB
  exact steps_add 4 4 _
theorem stepB_lt (c x : Nat) (h : c < 4294967296) (hx : x < 256) : stepB c x < 4294967296 := by
  unfold stepB
  apply steps_lt
  have : c ^^^ x < 2 ^ 32 := Nat.xor_lt_two_pow (by omega) (by omega)
  omega
theorem regB_lt (l : List UInt8) : ∀ c, c < 4294967296 → regB c l < 4294967296 := by
  induction l with
  | nil => intro c h; exact h
  | cons x r ih => intro c h; exact ih _ (stepB_lt c _ h x.toNat_lt)
theorem regB_snoc (c : Nat) (l : List UInt8) (k : Nat) (h : k < l.length) : regB c (l.take (k + 1)) = stepB (regB c (l.take k)) l[k].toNat := by
  rw [List.take_succ_eq_append_getElem h]
  unfold regB
  rw [List.foldl_append]; rfl
theorem regB_append (c : Nat) (a b : List UInt8) : regB c (a ++ b) = regB (regB c a) b := by unfold regB; rw [List.foldl_append]
theorem moreN_lt (s : Nat) (l : List UInt8) : moreN s l < 4294967296 := by unfold moreN; omega
theorem moreN_append (s : Nat) (a b : List UInt8) : moreN (moreN s a) b = moreN s (a ++ b) := by
  unfold moreN
  have := regB_lt a (4294967295 - s) (by omega)
  rw [show 4294967295 - (4294967295 - regB (4294967295 - s) a) = regB (4294967295 - s) a by omega, regB_append]
theorem moreN_nil (s : Nat) (h : s < 4294967296) : moreN s [] = s := by
  show 4294967295 - (4294967295 - s) = s
  omega

end Go.Proofs.YtjflfennmeackaaDoor
