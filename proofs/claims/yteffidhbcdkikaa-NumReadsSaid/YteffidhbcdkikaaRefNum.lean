/-
  The document's own numbers as bytes (newsstandref01): May, Put, Get. Conditions: of Put, that it is a number.
-/
import Derived.Test.YteffidhbcdkikaaPut
namespace Go.Proofs.Yteffidhbcdkikaa
open Go.RowKit

def mayB (n : Int) : Bool := decide (-9007199254740991 ≤ n ∧ n ≤ 9007199254740991)

set_option maxHeartbeats 400000 in
theorem rmay_yes (n : Int) (w : World) (h1 : -9007199254740991 ≤ n) (h2 : n ≤ 9007199254740991) :
    Calls Try.prog 9 #[.int .i64 n] w fun e w' => e = .returned (.bool true) ∧ w = w' := by
  go_enter Try.func9, Try.ntmps9
  go_wp2
  go_ret
  exact ⟨by first | rfl | (simp; done) | (simp; omega), rfl⟩

set_option maxHeartbeats 400000 in
theorem rmay_no (n : Int) (w : World) (h : n < -9007199254740991 ∨ 9007199254740991 < n) :
    Calls Try.prog 9 #[.int .i64 n] w fun e w' => e = .returned (.bool false) ∧ w = w' := by
  rcases h with h | h
  · go_enter Try.func9, Try.ntmps9
    go_wp2
    go_ret
    exact ⟨by first | rfl | (simp; done) | (simp; omega), rfl⟩
  · have h' : -9007199254740991 ≤ n := by omega
    go_enter Try.func9, Try.ntmps9
    go_wp2
    go_ret
    exact ⟨by first | rfl | (simp; done) | (simp; omega), rfl⟩

set_option maxHeartbeats 400000 in
theorem rfold_any (n : Int) (w : World) (h1 : -9007199254740991 ≤ n) (h2 : n ≤ 9007199254740991) :
    Calls Try.prog 31 #[.int .i64 n] w fun e w' => e = .returned (.int .i64 (foldN n : Int)) ∧ w = w' := by
  by_cases h : 0 ≤ n
  · have hf : (foldN n : Int) = 2 * n := by unfold foldN; rw [if_neg (by omega)]; omega
    rw [hf]; clear hf
    go_enter Try.func31, Try.ntmps31
    go_wp2
    go_ret
    exact ⟨ret_val (int_val (by omega)), rfl⟩
  · have hf : (foldN n : Int) = -2 * n - 1 := by unfold foldN; rw [if_pos (by omega)]; omega
    rw [hf]; clear hf
    go_enter Try.func31, Try.ntmps31
    go_wp2
    go_ret
    exact ⟨ret_val (int_val (by omega)), rfl⟩

def RputRel (n : Int) (w : World) (v f : Value) (wr : World) : Prop :=
  ∃ (x k : Nat) (l : List UInt8), f = .int .i64 (x : Int) ∧ (x : Int) ≤ 18014398509481982 ∧ x < 128 ^ (k + 1) ∧ l.length + k ≤ 9 ∧
      Own wr w.heap.size 5 v (bvs l) ∧ Below w.heap.size w wr ∧ l ++ vput k x = numB n

theorem rputRel_next {n : Int} {w wr w1 : World} {v1 : Value} {x k : Nat} {l : List UInt8} (hx : (x : Int) ≤ 18014398509481982) (hk : x < 128 ^ (k + 1)) (hl : l.length + k ≤ 9) (hc : ¬ x < 128)
    (hbw : Below w.heap.size w wr) (heq : l ++ vput k x = numB n) (hb1 : Below w.heap.size wr w1)
    (hown : Own w1 w.heap.size 5 v1 (bvs l ++ [.int .u8 ((x : Int) % 128 + 128)])) : RputRel n w v1 (.int .i64 ((x : Int) / 128)) w1 := by
  rw [show ((x : Int) % 128 + 128) = ((x % 128 + 128 : Nat) : Int) by omega, push_eq l _ (by omega)] at hown
  have hk1 : 1 ≤ k := by
    rcases Nat.eq_zero_or_pos k with h | h
    · subst h; simp at hk; omega
    · exact h
  obtain ⟨k, rfl⟩ : ∃ j, k = j + 1 := ⟨k - 1, by omega⟩
  refine ⟨x / 128, k, _, by simp, by omega, ?_, by simp; omega, hown, hbw.trans hb1, ?_⟩
  · rw [Nat.pow_succ] at hk; exact Nat.div_lt_of_lt_mul (by rw [Nat.mul_comm]; exact hk)
  · rw [← heq, vput_big k x (by omega)]; simp

theorem rput_last {n : Int} {w wr w1 : World} {v1 : Value} {x k : Nat} {l : List UInt8} (hc : x < 128) (hbw : Below w.heap.size w wr) (heq : l ++ vput k x = numB n) (hb1 : Below w.heap.size wr w1)
    (hown : Own w1 w.heap.size 5 v1 (bvs l ++ [.int .u8 (x : Int)])) : Fresh 5 w (bvs (numB n)) (fun v => v) (.returned v1) w1 := by
  rw [push_eq l _ (by omega)] at hown
  refine ⟨v1, rfl, ?_, hbw.trans hb1⟩
  rw [← heq, vput_small k x hc]; exact hown

set_option maxHeartbeats 800000 in
set_option maxRecDepth 100000 in
theorem rput_any (n : Int) (w : World) (h1 : -9007199254740991 ≤ n) (h2 : n ≤ 9007199254740991) :
    Calls Try.prog 11 #[.int .i64 n] w (Fresh 5 w (bvs (numB n)) fun v => v) := by
  have hb := foldN_bd n h1 h2
  go_enter Try.func11, Try.ntmps11
  go_wp2_with (go_at_call 31; refine (rfold_any _ _ (by omega) (by omega)).mono ?_; rintro e w' ⟨rfl, rfl⟩)
  go_loopw [4, 3] (RputRel n w) (fun _ f _ => (intOf f).toNat)
  case atStart => exact ⟨foldN n, 9, [], rfl, by omega, by omega, by simp, Own.nil _ _ _, Below.refl _ _, rfl⟩
  case round =>
    obtain ⟨x, k, l, rfl, hx, hk, hl, hown, hbw, heq⟩ := hrel
    have Heq := Lib.hid heq
    have Hk := Lib.hid hk
    clear heq hk hb h1 h2
    by_cases hc : x < 128
    · go_wp2_with (at_builtin; go_must (refine wpList_push wr rfl (.tmp 18) (.tmp 21) _ rfl w.heap.size 5 _ 1 Try.underlying22 Try.u8info rfl _ _ rfl (by exact hown) _ rfl rfl (by rw [bvs_length]; unfold maxLen; omega) (by rw [bvs_length]; omega) hbw.size ?_); intro v1 w1 hown1 hg1 hb1 _)
      go_ret
      exact rput_last hc hbw Heq.out hb1 hown1
    · go_wp2_with (at_builtin; go_must (refine wpList_push wr rfl (.tmp 9) (.tmp 14) _ rfl w.heap.size 5 _ 1 Try.underlying22 Try.u8info rfl _ _ rfl (by exact hown) _ rfl rfl (by rw [bvs_length]; unfold maxLen; omega) (by rw [bvs_length]; omega) hbw.size ?_); intro v1 w1 hown1 hg1 hb1 _)
      go_roundw
      case rel => exact rputRel_next hx Hk.out hl hc hbw Heq.out hb1 hown1
      case measure => simp [intOf]; omega
end Go.Proofs.Yteffidhbcdkikaa
