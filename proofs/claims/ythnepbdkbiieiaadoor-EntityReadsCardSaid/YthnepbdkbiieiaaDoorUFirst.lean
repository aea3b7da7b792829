/-
  The document's own first rune of a text (newsstandref05.First). Condition: the text is not empty, its length a length.
-/
import Derived.Test.YthnepbdkbiieiaaDoorUStr
namespace Go.Proofs.YthnepbdkbiieiaaDoor
open Go.RowKit
open Go.Lib (decodeL decodeN)

def tailB (c : Nat) : Bool := decide (128 ≤ c ∧ c < 192)
theorem tail_iff (c : Nat) : tailB c = true ↔ 128 ≤ c ∧ c < 192 := by unfold tailB; exact decide_eq_true_iff
theorem tail_no (c : Nat) : tailB c = false ↔ ¬ (128 ≤ c ∧ c < 192) := by unfold tailB; exact decide_eq_false_iff_not
/-- The number that a first byte and those behind it make. -/
def accN (l : List UInt8) (c0 : Nat) : Nat → Nat
  | 0 => c0
  | j + 1 => accN l c0 j * 64 + (at0B l (j + 1) - 128)
theorem accN0 (l : List UInt8) (c0 : Nat) : accN l c0 0 = c0 := rfl
theorem accN1 (l : List UInt8) (c0 : Nat) : accN l c0 1 = c0 * 64 + (at0B l 1 - 128) := rfl
theorem accN2 (l : List UInt8) (c0 : Nat) : accN l c0 2 = (c0 * 64 + (at0B l 1 - 128)) * 64 + (at0B l 2 - 128) := rfl
theorem accN3 (l : List UInt8) (c0 : Nat) : accN l c0 3 = ((c0 * 64 + (at0B l 1 - 128)) * 64 + (at0B l 2 - 128)) * 64 + (at0B l 3 - 128) := rfl
theorem accN_step (l : List UInt8) (c0 k : Nat) : accN l c0 (k + 1) = accN l c0 k * 64 + (at0B l (k + 1) - 128) := rfl
/-- The three kinds of runes of more than one byte: how many bytes, the least, what the first byte has more. -/
def Kind (c n least base : Nat) : Prop := (n = 2 ∧ least = 128 ∧ base = 192 ∧ 192 ≤ c ∧ c < 224) ∨ (n = 3 ∧ least = 2048 ∧ base = 224 ∧ 224 ≤ c ∧ c < 240) ∨ (n = 4 ∧ least = 65536 ∧ base = 240 ∧ 240 ≤ c ∧ c < 248)
def Tails (l : List UInt8) (k : Nat) : Prop := ∀ j, 1 ≤ j → j < k → 128 ≤ at0B l j ∧ at0B l j < 192
set_option maxRecDepth 100000 in
set_option maxHeartbeats 1000000 in
theorem acc_bd {l : List UInt8} {n least base : Nat} (h : Kind (at0B l 0) n least base) (j : Nat) (hj : j + 1 < n) (ht : Tails l (j + 1)) : accN l (at0B l 0 - base) j ≤ 32767 := by
  have t1 := ht 1
  have t2 := ht 2
  unfold Kind at h
  have hj3 : j = 0 ∨ j = 1 ∨ j = 2 := by omega
  rcases hj3 with rfl | rfl | rfl
  · rw [accN0]; omega
  · rw [accN1]; omega
  · rw [accN2]; omega
set_option maxRecDepth 100000 in
set_option maxHeartbeats 1000000 in
theorem dec_short {l : List UInt8} {n least base : Nat} (h : Kind (at0B l 0) n least base) (hl : l.length < n) : decodeL l = (65533, 1) := by
  rw [Lib.decodeL_N]
  change decodeN l.length (at0B l 0) (at0B l 1) (at0B l 2) (at0B l 3) = _
  unfold Kind at h
  unfold decodeN
  repeat' split
  all_goals first | rfl | (exfalso; omega)
set_option maxRecDepth 100000 in
set_option maxHeartbeats 1000000 in
theorem dec_notail {l : List UInt8} {n least base k : Nat} (h : Kind (at0B l 0) n least base) (hk : 1 ≤ k) (hkn : k < n) (ht : ¬ (128 ≤ at0B l k ∧ at0B l k < 192)) : decodeL l = (65533, 1) := by
  rw [Lib.decodeL_N]
  change decodeN l.length (at0B l 0) (at0B l 1) (at0B l 2) (at0B l 3) = _
  unfold Kind at h
  have hk3 : k = 1 ∨ k = 2 ∨ k = 3 := by omega
  unfold decodeN
  rcases hk3 with rfl | rfl | rfl
  all_goals
    repeat' split
    all_goals first | rfl | (exfalso; omega)
set_option maxRecDepth 100000 in
set_option maxHeartbeats 1000000 in
theorem dec_bad {l : List UInt8} {n least base : Nat} (h : Kind (at0B l 0) n least base) (hl : n ≤ l.length) (ht : Tails l n)
    (hv : accN l (at0B l 0 - base) (n - 1) < least ∨ 1114111 < accN l (at0B l 0 - base) (n - 1) ∨ (55296 ≤ accN l (at0B l 0 - base) (n - 1) ∧ accN l (at0B l 0 - base) (n - 1) ≤ 57343)) : decodeL l = (65533, 1) := by
  rw [Lib.decodeL_N]
  change decodeN l.length (at0B l 0) (at0B l 1) (at0B l 2) (at0B l 3) = _
  have t1 := ht 1
  have t2 := ht 2
  have t3 := ht 3
  unfold decodeN
  rcases h with ⟨rfl, rfl, rfl, h1, h2⟩ | ⟨rfl, rfl, rfl, h1, h2⟩ | ⟨rfl, rfl, rfl, h1, h2⟩
  all_goals
    simp only [Nat.reduceSub, accN1, accN2, accN3] at hv
    repeat' split
    all_goals first | rfl | (exfalso; omega)
set_option maxRecDepth 100000 in
set_option maxHeartbeats 1000000 in
theorem dec_good {l : List UInt8} {n least base : Nat} (h : Kind (at0B l 0) n least base) (hl : n ≤ l.length) (ht : Tails l n)
    (hv : ¬ (accN l (at0B l 0 - base) (n - 1) < least ∨ 1114111 < accN l (at0B l 0 - base) (n - 1) ∨ (55296 ≤ accN l (at0B l 0 - base) (n - 1) ∧ accN l (at0B l 0 - base) (n - 1) ≤ 57343))) : decodeL l = (accN l (at0B l 0 - base) (n - 1), n) := by
  rw [Lib.decodeL_N]
  change decodeN l.length (at0B l 0) (at0B l 1) (at0B l 2) (at0B l 3) = _
  have t1 := ht 1
  have t2 := ht 2
  have t3 := ht 3
  unfold decodeN
  rcases h with ⟨rfl, rfl, rfl, h1, h2⟩ | ⟨rfl, rfl, rfl, h1, h2⟩ | ⟨rfl, rfl, rfl, h1, h2⟩
  all_goals
    simp only [Nat.reduceSub, accN1, accN2, accN3] at hv ⊢
    repeat' split
    all_goals first | (exfalso; omega) | (apply Prod.ext <;> simp only <;> omega)
theorem dec_one {l : List UInt8} (h : at0B l 0 < 128) : decodeL l = (at0B l 0, 1) := by
  rw [Lib.decodeL_N]
  change decodeN l.length (at0B l 0) (at0B l 1) (at0B l 2) (at0B l 3) = _
  unfold decodeN
  rw [if_pos h]
theorem dec_none {l : List UInt8} (h : (128 ≤ at0B l 0 ∧ at0B l 0 < 192) ∨ 248 ≤ at0B l 0) : decodeL l = (65533, 1) := by
  have := at0B_lt l 0
  rw [Lib.decodeL_N]
  change decodeN l.length (at0B l 0) (at0B l 1) (at0B l 2) (at0B l 3) = _
  unfold decodeN
  repeat' split
  all_goals first | rfl | (exfalso; omega)

/-- The document's first rune, and its bytes. -/
def FirstV (w : World) (l : List UInt8) (e : Ending) (w' : World) : Prop := e = .returned (.tuple #[.int .i32 ((decodeL l).1 : Int), .int .i64 ((decodeL l).2 : Int)]) ∧ w = w'
theorem firstV_mk {w : World} {l : List UInt8} {a b : Nat} {x y : Int} (h : decodeL l = (a, b)) (hx : x = (a : Int)) (hy : y = (b : Int)) : FirstV w l (.returned (.tuple #[.int .i32 x, .int .i64 y])) w := by
  unfold FirstV
  rw [h, hx, hy]
  exact ⟨rfl, rfl⟩
def FRel (l : List UInt8) (n c0 : Nat) (u6 u8 : Value) : Prop := ∃ k : Nat, k + 1 ≤ n ∧ Tails l (k + 1) ∧ u8 = .int .i64 ((k : Int) + 1) ∧ u6 = .int .i32 (accN l c0 k : Int)

end Go.Proofs.YthnepbdkbiieiaaDoor
