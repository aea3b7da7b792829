/-
  Numbers as bytes, in plain words: folds, groups of 7 bits, and what bytes begin with. No condition.
-/
import Derived.Test.YtjflfennmeackaaDoorMem
namespace Go.Proofs.YtjflfennmeackaaDoor

/-- The greatest number. -/
def maxNum : Int := 9007199254740991

def foldN (n : Int) : Nat := if n < 0 then (-2 * n - 1).toNat else (2 * n).toNat
def unfoldN (f : Nat) : Int := if f % 2 = 1 then -((f / 2 : Nat) : Int) - 1 else ((f / 2 : Nat) : Int)

theorem unfold_fold (n : Int) : unfoldN (foldN n) = n := by
  unfold foldN unfoldN
  split <;> split <;> omega
theorem fold_unfold (f : Nat) : foldN (unfoldN f) = f := by
  unfold foldN unfoldN
  split <;> split <;> omega

/-- The groups of a fold, at most 'fuel' and one more. -/
def vput : Nat → Nat → List UInt8
  | 0, x => [UInt8.ofNat x]
  | k + 1, x => if x < 128 then [UInt8.ofNat x] else UInt8.ofNat (x % 128 + 128) :: vput k (x / 128)

theorem vput_small (k x : Nat) (h : x < 128) : vput k x = [UInt8.ofNat x] := by
  cases k with
  | zero => rfl
  | succ k => simp [vput, h]
theorem vput_big (k x : Nat) (h : 128 ≤ x) : vput (k + 1) x = UInt8.ofNat (x % 128 + 128) :: vput k (x / 128) := by
  simp [vput, show ¬ x < 128 by omega]
theorem vput_len (k x : Nat) : 1 ≤ (vput k x).length ∧ (vput k x).length ≤ k + 1 := by
  induction k generalizing x with
  | zero => simp [vput]
  | succ k ih =>
    unfold vput
    split
    · simp
    · have := ih (x / 128); simp; omega

/-- The bytes of a number. -/
def numB (n : Int) : List UInt8 := vput 9 (foldN n)

theorem numB_len (n : Int) : 1 ≤ (numB n).length ∧ (numB n).length ≤ 10 := vput_len 9 _

/-- The fold with which bytes begin, and how many bytes it takes: 'k' groups may still come, 'i' are read, 'x' is what they came to. -/
def vgetF : Nat → Nat → Nat → List UInt8 → Option (Nat × Nat)
  | 0, _, _, _ => none
  | _ + 1, _, _, [] => none
  | k + 1, i, x, b :: r =>
    if 128 ≤ b.toNat then vgetF k (i + 1) (x + b.toNat % 128 * 128 ^ i) r
    else if b.toNat = 0 ∧ 0 < i then none
    else if 18014398509481982 < x + b.toNat % 128 * 128 ^ i then none
    else some (x + b.toNat % 128 * 128 ^ i, i + 1)

def vget (l : List UInt8) : Option (Nat × Nat) := vgetF 8 0 0 l

theorem drop_cons (l : List UInt8) (k : Nat) (h : k < l.length) : l.drop k = l[k] :: l.drop (k + 1) := List.drop_eq_getElem_cons h

theorem vgetF_more (k i x : Nat) (l : List UInt8) (hi : i < l.length) (hb : 128 ≤ l[i].toNat) :
    vgetF (k + 1) i x (l.drop i) = vgetF k (i + 1) (x + l[i].toNat % 128 * 128 ^ i) (l.drop (i + 1)) := by
  rw [drop_cons l i hi, vgetF, if_pos hb]
theorem vgetF_bad (k i x : Nat) (l : List UInt8) (hi : i < l.length) (hb : l[i].toNat = 0) (h0 : 0 < i) : vgetF (k + 1) i x (l.drop i) = none := by
  rw [drop_cons l i hi, vgetF, if_neg (by omega), if_pos ⟨hb, h0⟩]
theorem vgetF_great (k i x : Nat) (l : List UInt8) (hi : i < l.length) (hb : l[i].toNat < 128) (h0 : 18014398509481982 < x + l[i].toNat % 128 * 128 ^ i) : vgetF (k + 1) i x (l.drop i) = none := by
  rw [drop_cons l i hi, vgetF, if_neg (by omega), if_pos h0]
  exact ite_self _
theorem vgetF_end (k i x : Nat) (l : List UInt8) (hi : i < l.length) (hb : l[i].toNat < 128) (h0 : l[i].toNat ≠ 0 ∨ i = 0) (h : x + l[i].toNat % 128 * 128 ^ i ≤ 18014398509481982) :
    vgetF (k + 1) i x (l.drop i) = some (x + l[i].toNat % 128 * 128 ^ i, i + 1) := by
  rw [drop_cons l i hi, vgetF, if_neg (by omega), if_neg (by omega), if_neg (by omega)]
theorem vgetF_out (k i x : Nat) (l : List UInt8) (hi : l.length ≤ i) : vgetF k i x (l.drop i) = none := by
  rw [List.drop_eq_nil_of_le hi]
  cases k <;> rfl

/-- What is put is got, whatever stands behind it. -/
theorem vget_put (f : Nat) : ∀ (k i x : Nat) (y : Nat) (r : List UInt8), f = k → y < 128 ^ (k + 1) → (0 < i → 0 < y) → x + y * 128 ^ i ≤ 18014398509481982 →
    vgetF (k + 1) i x (vput k y ++ r) = some (x + y * 128 ^ i, i + (vput k y).length) := by
  induction f with
  | zero =>
    intro k i x y r hk hy h0 hm
    subst hk
    have hy' : y < 128 := by simpa using hy
    have e : (UInt8.ofNat y).toNat = y := by rw [UInt8.toNat_ofNat']; omega
    show vgetF 1 i x (UInt8.ofNat y :: r) = some (x + y * 128 ^ i, i + 1)
    rw [vgetF, e, Nat.mod_eq_of_lt hy', if_neg (by omega), if_neg (by omega), if_neg (by omega)]
  | succ f ih =>
    intro k i x y r hk hy h0 hm
    subst hk
    by_cases hc : y < 128
    · have e : (UInt8.ofNat y).toNat = y := by rw [UInt8.toNat_ofNat']; omega
      rw [vput_small _ _ hc]
      show vgetF (f + 1 + 1) i x (UInt8.ofNat y :: r) = some (x + y * 128 ^ i, i + 1)
      rw [vgetF, e, Nat.mod_eq_of_lt hc, if_neg (by omega), if_neg (by omega), if_neg (by omega)]
    · have e : (UInt8.ofNat (y % 128 + 128)).toNat = y % 128 + 128 := by rw [UInt8.toNat_ofNat']; omega
      rw [vput_big _ _ (by omega)]
      show vgetF (f + 1 + 1) i x (UInt8.ofNat (y % 128 + 128) :: (vput f (y / 128) ++ r)) = _
      have hp : y * 128 ^ i = y % 128 * 128 ^ i + y / 128 * 128 ^ (i + 1) := by
        rw [Nat.pow_succ, ← Nat.mul_assoc, Nat.mul_right_comm, ← Nat.add_mul]
        congr 1; omega
      rw [vgetF, e, if_pos (by omega), show (y % 128 + 128) % 128 = y % 128 by omega]
      rw [ih f (i + 1) (x + y % 128 * 128 ^ i) (y / 128) r rfl ?_ (fun _ => by omega) (by omega)]
      · rw [hp]; simp only [Option.some.injEq, Prod.mk.injEq, List.length_cons]; constructor <;> omega
      · rw [Nat.pow_succ] at hy; exact Nat.div_lt_of_lt_mul (by rw [Nat.mul_comm]; exact hy)

theorem vgetF_le : ∀ (k i x : Nat) (l : List UInt8) (y n : Nat), vgetF k i x l = some (y, n) → y ≤ 18014398509481982 ∧ i < n ∧ n ≤ i + k ∧ n ≤ i + l.length := by
  intro k
  induction k with
  | zero => intro i x l y n h; simp [vgetF] at h
  | succ k ih =>
    intro i x l y n h
    cases l with
    | nil => simp [vgetF] at h
    | cons b r =>
      rw [vgetF] at h
      split at h
      · have := ih _ _ _ _ _ h; simp; omega
      · split at h
        · cases h
        · split at h
          · cases h
          · simp at h; simp; omega

/-- Each number has just one way to be: what is got is what would be put. -/
theorem vput_get : ∀ (k i x : Nat) (l : List UInt8) (y n : Nat), x < 128 ^ i → vgetF (k + 1) i x l = some (y, n) →
    ∃ z, y = x + z * 128 ^ i ∧ (0 < i → 0 < z) ∧ l.take (n - i) = vput k z := by
  intro k
  induction k with
  | zero =>
    intro i x l y n hx h
    cases l with
    | nil => simp [vgetF] at h
    | cons b r =>
      rw [vgetF] at h
      split at h
      · simp [vgetF] at h
      · split at h
        · cases h
        · split at h
          · cases h
          · simp only [Option.some.injEq, Prod.mk.injEq] at h
            obtain ⟨rfl, rfl⟩ := h
            refine ⟨b.toNat % 128, rfl, fun _ => by omega, ?_⟩
            rw [show i + 1 - i = 1 by omega, Nat.mod_eq_of_lt (by omega)]
            simp [vput]
  | succ k ih =>
    intro i x l y n hx h
    cases l with
    | nil => simp [vgetF] at h
    | cons b r =>
      rw [vgetF] at h
      split at h
      · rename_i hb
        have hle := (vgetF_le _ _ _ _ _ _ h).2.1
        obtain ⟨z, hz, hz0, ht⟩ := ih (i + 1) (x + b.toNat % 128 * 128 ^ i) r y n (by
          rw [Nat.pow_succ]
          have : b.toNat % 128 * 128 ^ i ≤ 127 * 128 ^ i := Nat.mul_le_mul_right _ (by omega)
          omega) h
        have hz1 := hz0 (by omega)
        refine ⟨b.toNat % 128 + z * 128, ?_, fun _ => by omega, ?_⟩
        · rw [hz, Nat.pow_succ, Nat.add_mul, Nat.mul_assoc z 128, Nat.mul_comm 128, Nat.add_assoc]
        · rw [show n - i = (n - (i + 1)) + 1 by omega, List.take_succ_cons, ht, vput_big _ _ (by omega)]
          have e1 : (b.toNat % 128 + z * 128) / 128 = z := by omega
          have e2 : (b.toNat % 128 + z * 128) % 128 + 128 = b.toNat := by have := b.toNat_lt; omega
          rw [e1, e2]; simp
      · split at h
        · cases h
        · split at h
          · cases h
          · simp only [Option.some.injEq, Prod.mk.injEq] at h
            obtain ⟨rfl, rfl⟩ := h
            refine ⟨b.toNat % 128, rfl, fun _ => by omega, ?_⟩
            rw [show i + 1 - i = 1 by omega, Nat.mod_eq_of_lt (by omega), vput_small _ _ (by omega)]
            simp

/-- More room for groups turns nothing. -/
theorem vput_fuel : ∀ (k j x : Nat), x < 128 ^ (k + 1) → vput (k + j) x = vput k x := by
  intro k
  induction k with
  | zero =>
    intro j x hx
    have : x < 128 := by simpa using hx
    rw [vput_small _ _ this, vput_small _ _ this]
  | succ k ih =>
    intro j x hx
    by_cases hc : x < 128
    · rw [vput_small _ _ hc, vput_small _ _ hc]
    · rw [show k + 1 + j = (k + j) + 1 by omega, vput_big _ _ (by omega), vput_big _ _ (by omega), ih]
      rw [Nat.pow_succ] at hx; exact Nat.div_lt_of_lt_mul (by rw [Nat.mul_comm]; exact hx)

theorem foldN_bd (n : Int) (h1 : -9007199254740991 ≤ n) (h2 : n ≤ 9007199254740991) : foldN n ≤ 18014398509481982 := by
  unfold foldN; split <;> omega

theorem numB_8 (n : Int) (h1 : -9007199254740991 ≤ n) (h2 : n ≤ 9007199254740991) : numB n = vput 7 (foldN n) := by
  have := foldN_bd n h1 h2
  exact vput_fuel 7 2 _ (by omega)

theorem vget_num (n : Int) (r : List UInt8) (h1 : -9007199254740991 ≤ n) (h2 : n ≤ 9007199254740991) : vget (numB n ++ r) = some (foldN n, (numB n).length) := by
  have hb := foldN_bd n h1 h2
  rw [numB_8 n h1 h2]
  have := vget_put 7 7 0 0 (foldN n) r rfl (by omega) (fun h => absurd h (by omega)) (by omega)
  unfold vget
  rw [this]; simp

theorem num_vget (l : List UInt8) (y n : Nat) (h : vget l = some (y, n)) : numB (unfoldN y) = l.take n ∧ y ≤ 18014398509481982 ∧ 1 ≤ n ∧ n ≤ 8 ∧ n ≤ l.length ∧ -9007199254740991 ≤ unfoldN y ∧ unfoldN y ≤ 9007199254740991 := by
  have h' := vgetF_le _ _ _ _ _ _ h
  obtain ⟨z, hz, _, ht⟩ := vput_get 7 0 0 l y n (by omega) h
  have hzy : y = z := by omega
  subst hzy
  refine ⟨?_, by omega, by omega, by omega, by omega, ?_⟩
  · unfold numB
    rw [fold_unfold, show (9 : Nat) = 7 + 2 from rfl, vput_fuel 7 2 y (by omega), ← ht]
    rw [Nat.sub_zero]
  · have := h'.1
    unfold unfoldN
    constructor <;> split <;> omega

end Go.Proofs.YtjflfennmeackaaDoor
