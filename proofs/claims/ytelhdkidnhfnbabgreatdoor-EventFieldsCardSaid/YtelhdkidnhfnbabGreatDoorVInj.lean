/-
  Unlike events of kinds are shown by unlike texts, in plain words. No condition; no run.
-/
import Derived.Test.YtelhdkidnhfnbabGreatDoorVShowP
namespace Go.Proofs.YtelhdkidnhfnbabGreatDoor
open Go.RowKit

theorem dec_no : ∀ (k n : Nat), n < k → ∀ b ∈ Lib.decDigits n, 48 ≤ b.toNat ∧ b.toNat ≤ 57
  | 0, n, h, _, _ => absurd h (Nat.not_lt_zero _)
  | k + 1, n, h, b, hb => by
    rw [Lib.decDigits] at hb
    split at hb
    · rw [List.mem_singleton.1 hb, UInt8.toNat_ofNat']
      omega
    · rcases List.mem_append.1 hb with hb | hb
      · exact dec_no k (n / 10) (by omega) b hb
      · rw [List.mem_singleton.1 hb, UInt8.toNat_ofNat']
        omega
def valD (l : List UInt8) : Nat := l.foldl (fun a b => a * 10 + (b.toNat - 48)) 0
theorem valD_dec : ∀ (k n : Nat), n < k → valD (Lib.decDigits n) = n
  | 0, n, h => absurd h (Nat.not_lt_zero _)
  | k + 1, n, h => by
    rw [Lib.decDigits]
    split
    · rename_i h10
      show 0 * 10 + ((UInt8.ofNat (48 + n)).toNat - 48) = n
      rw [UInt8.toNat_ofNat']
      omega
    · unfold valD
      rw [List.foldl_append]
      show valD (Lib.decDigits (n / 10)) * 10 + ((UInt8.ofNat (48 + n % 10)).toNat - 48) = n
      rw [valD_dec k (n / 10) (by omega), UInt8.toNat_ofNat']
      omega
theorem dec_inj {m n : Nat} (h : Lib.decDigits m = Lib.decDigits n) : m = n := by
  rw [← valD_dec (m + 1) m (Nat.lt_succ_self _), h, valD_dec (n + 1) n (Nat.lt_succ_self _)]
theorem itoa_no (n : Int) : ∀ b ∈ Lib.itoa n, b ≠ 32 := fun b hb => by
  unfold Lib.itoa at hb
  split at hb
  · rcases List.mem_cons.1 hb with rfl | hb
    · decide
    · intro e
      have := dec_no _ _ (Nat.lt_succ_self _) b hb
      rw [e] at this
      exact absurd this (by decide)
  · intro e
    have := dec_no _ _ (Nat.lt_succ_self _) b hb
    rw [e] at this
    exact absurd this (by decide)
theorem itoa_inj {m n : Int} (h : Lib.itoa m = Lib.itoa n) : m = n := by
  unfold Lib.itoa at h
  have neg : ∀ (u v : Nat), 45 :: Lib.decDigits u = Lib.decDigits v → False := fun u v e => by
    have h1 : (45 : UInt8) ∈ Lib.decDigits v := by rw [← e]; exact List.mem_cons_self
    exact absurd (dec_no _ _ (Nat.lt_succ_self _) 45 h1) (by decide)
  by_cases hm : m < 0
  · by_cases hn : n < 0
    · rw [if_pos hm, if_pos hn] at h
      injection h with _ h
      have := dec_inj h
      omega
    · rw [if_pos hm, if_neg hn] at h
      exact (neg _ _ h).elim
  · by_cases hn : n < 0
    · rw [if_neg hm, if_pos hn] at h
      exact (neg _ _ h.symm).elim
    · rw [if_neg hm, if_neg hn] at h
      have := dec_inj h
      omega
theorem split_at : ∀ (x y r q : List UInt8), (∀ b ∈ x, b ≠ 32) → (∀ b ∈ y, b ≠ 32) → x ++ 32 :: r = y ++ 32 :: q → x = y ∧ r = q
  | [], [], r, q, _, _, h => by
    injection h with _ h
    exact ⟨rfl, h⟩
  | [], c :: y, r, q, _, hy, h => by
    injection h with h _
    exact absurd h.symm (hy c List.mem_cons_self)
  | c :: x, [], r, q, hx, _, h => by
    injection h with h _
    exact absurd h (hx c List.mem_cons_self)
  | c :: x, d :: y, r, q, hx, hy, h => by
    injection h with h1 h2
    obtain ⟨h3, h4⟩ := split_at x y r q (fun b hb => hx b (List.mem_cons_of_mem _ hb)) (fun b hb => hy b (List.mem_cons_of_mem _ hb)) h2
    rw [h1, h3]
    exact ⟨rfl, h4⟩
theorem esc_split : ∀ (l m r q : List UInt8), l.flatMap escQ ++ 34 :: r = m.flatMap escQ ++ 34 :: q → l = m ∧ r = q
  | [], [], r, q, h => by
    injection h with _ h
    exact ⟨rfl, h⟩
  | [], c :: m, r, q, h => by
    rw [List.flatMap_cons] at h
    unfold escQ at h
    split at h
    · injection h with h _
      exact absurd h (by decide)
    · rename_i hc
      injection h with h _
      exact absurd (.inl h.symm) hc
  | c :: l, [], r, q, h => by
    rw [List.flatMap_cons] at h
    unfold escQ at h
    split at h
    · injection h with h _
      exact absurd h (by decide)
    · rename_i hc
      injection h with h _
      exact absurd (.inl h) hc
  | c :: l, d :: m, r, q, h => by
    rw [List.flatMap_cons, List.flatMap_cons, List.append_assoc, List.append_assoc] at h
    have hs : c = d ∧ l.flatMap escQ ++ 34 :: r = m.flatMap escQ ++ 34 :: q := by
      by_cases hc : c = 34 ∨ c = 92
      · have e1 : escQ c = [92, c] := by unfold escQ; rw [if_pos hc]
        by_cases hd : d = 34 ∨ d = 92
        · have e2 : escQ d = [92, d] := by unfold escQ; rw [if_pos hd]
          rw [e1, e2] at h
          injection h with _ h
          injection h with h1 h2
          exact ⟨h1, h2⟩
        · have e2 : escQ d = [d] := by unfold escQ; rw [if_neg hd]
          rw [e1, e2] at h
          injection h with h1 _
          exact absurd (.inr h1.symm) hd
      · have e1 : escQ c = [c] := by unfold escQ; rw [if_neg hc]
        by_cases hd : d = 34 ∨ d = 92
        · have e2 : escQ d = [92, d] := by unfold escQ; rw [if_pos hd]
          rw [e1, e2] at h
          injection h with h1 _
          exact absurd (.inr h1) hc
        · have e2 : escQ d = [d] := by unfold escQ; rw [if_neg hd]
          rw [e1, e2] at h
          injection h with h1 h2
          exact ⟨h1, h2⟩
    obtain ⟨h1, h2⟩ := hs
    obtain ⟨h3, h4⟩ := esc_split l m r q h2
    rw [h1, h3]
    exact ⟨rfl, h4⟩
theorem quote_split {l m r q : List UInt8} (h : quoteS l ++ r = quoteS m ++ q) : l = m ∧ r = q := by
  unfold quoteS at h
  rw [List.cons_append, List.cons_append, List.append_assoc, List.append_assoc] at h
  injection h with _ h
  exact esc_split l m r q h
theorem names_no : ∀ i, i < 13 → ((namesL.getD i []).all fun b => b != 32) = true := by decide
theorem names_inj : ∀ i, i < 13 → ∀ j, j < 13 → namesL.getD i [] = namesL.getD j [] → i = j := by decide
theorem nameOf_at {k : Int} (h : ¬ nameOf k = []) : ∃ m : Nat, m < 13 ∧ k = (m : Int) + 1 ∧ nameOf k = namesL.getD m [] := by
  unfold nameOf at h ⊢
  by_cases h1 : 1 ≤ k ∧ k ≤ 13
  · rw [if_pos h1]
    exact ⟨k.toNat - 1, by omega, by omega, rfl⟩
  · rw [if_neg h1] at h
    exact absurd rfl h
theorem nameOf_no {k : Int} (h : ¬ nameOf k = []) : ∀ b ∈ nameOf k, b ≠ 32 := fun b hb => by
  obtain ⟨m, hm, _, e⟩ := nameOf_at h
  rw [e] at hb
  have := List.all_eq_true.1 (names_no m hm) b hb
  simpa using this
theorem nameOf_inj {k j : Int} (h : ¬ nameOf k = []) (g : ¬ nameOf j = []) (e : nameOf k = nameOf j) : k = j := by
  obtain ⟨m, hm, hk, e1⟩ := nameOf_at h
  obtain ⟨n, hn, hj, e2⟩ := nameOf_at g
  rw [e1, e2] at e
  have := names_inj m hm n hn e
  omega
theorem show_inj {k a b n k' a' b' n' : Int} {s t u s' t' u' : List UInt8} (hk : ¬ nameOf k = []) (hk' : ¬ nameOf k' = [])
    (h : (nameOf k ++ numsS [a, b, n]) ++ textsS [s, t, u] = (nameOf k' ++ numsS [a', b', n']) ++ textsS [s', t', u']) : k = k' ∧ a = a' ∧ b = b' ∧ n = n' ∧ s = s' ∧ t = t' ∧ u = u' := by
  have e : ∀ (x : List UInt8) (a b n : Int) (s t u : List UInt8), (x ++ numsS [a, b, n]) ++ textsS [s, t, u] = x ++ 32 :: (Lib.itoa a ++ 32 :: (Lib.itoa b ++ 32 :: (Lib.itoa n ++ 32 :: (quoteS s ++ 32 :: (quoteS t ++ 32 :: (quoteS u ++ [])))))) := fun x a b n s t u => by
    unfold numsS textsS
    simp only [List.flatMap_cons, List.flatMap_nil, List.append_assoc, List.cons_append, List.append_nil]
  rw [e, e] at h
  obtain ⟨h1, h⟩ := split_at _ _ _ _ (nameOf_no hk) (nameOf_no hk') h
  obtain ⟨h2, h⟩ := split_at _ _ _ _ (itoa_no _) (itoa_no _) h
  obtain ⟨h3, h⟩ := split_at _ _ _ _ (itoa_no _) (itoa_no _) h
  obtain ⟨h4, h⟩ := split_at _ _ _ _ (itoa_no _) (itoa_no _) h
  obtain ⟨h5, h⟩ := quote_split h
  injection h with _ h
  obtain ⟨h6, h⟩ := quote_split h
  injection h with _ h
  obtain ⟨h7, _⟩ := quote_split h
  exact ⟨nameOf_inj hk hk' h1, itoa_inj h2, itoa_inj h3, itoa_inj h4, h5, h6, h7⟩
end Go.Proofs.YtelhdkidnhfnbabGreatDoor
