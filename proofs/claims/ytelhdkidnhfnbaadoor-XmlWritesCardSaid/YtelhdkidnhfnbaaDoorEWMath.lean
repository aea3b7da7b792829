/-
  Steps of writing and of reading, in plain words. No condition; no run.
-/
import Derived.Test.YtelhdkidnhfnbaaDoorEMath
namespace Go.Proofs.YtelhdkidnhfnbaaDoor
open Go.Lib (decodeL encodeRune)

theorem drop_cons {l : List UInt8} {k : Nat} (h : k < l.length) : l.drop k = l[k] :: l.drop (k + 1) := List.drop_eq_getElem_cons h
/-- A rune of ASCII is one byte. -/
theorem dec_low_at {l : List UInt8} {k : Nat} (h : k < l.length) (hc : (decodeL (l.drop k)).1 < 128) : (decodeL (l.drop k)).2 = 1 ∧ l[k].toNat = (decodeL (l.drop k)).1 := by
  rw [drop_cons h] at hc ⊢
  by_cases hb : l[k].toNat < 128
  · rw [Lib.decodeL_ascii _ _ hb]
    exact ⟨rfl, rfl⟩
  · have := (dec_high l[k] (l.drop (k + 1)) hb).1
    omega
/-- No sign among the bytes of a rune that is none. -/
theorem dec_nosign {l : List UInt8} {k : Nat} (h : k < l.length) (hs : signE ((decodeL (l.drop k)).1 : Int) = false) : ((l.drop k).take (decodeL (l.drop k)).2).all (fun b => !signE (b.toNat : Int)) = true := by
  by_cases hc : (decodeL (l.drop k)).1 < 128
  · obtain ⟨h1, h2⟩ := dec_low_at h hc
    rw [h1, drop_cons h, List.take_succ_cons, List.take_zero, List.all_cons, List.all_nil, h2, hs]
    rfl
  · rw [drop_cons h] at hc hs ⊢
    by_cases hb : l[k].toNat < 128
    · rw [Lib.decodeL_ascii _ _ hb] at hc
      exact (hc hb).elim
    · have h2 := (dec_high l[k] (l.drop (k + 1)) hb).2
      rw [List.all_eq_true]
      intro x hx
      have h3 := h2 x hx
      cases hq : signE (x.toNat : Int) with
      | false => rfl
      | true => have := signE_low _ hq; omega
theorem plain_next {l : List UInt8} {f k d : Nat} (hf : f ≤ k) (hp : plainR ((l.drop f).take (k - f)) = true) (hd : ((l.drop k).take d).all (fun b => !signE (b.toNat : Int)) = true) : plainR ((l.drop f).take (k + d - f)) = true := by
  have e : k + d - f = (k - f) + d := by omega
  rw [e, List.take_add, List.drop_drop, plain_append, hp, Bool.true_and]
  have e2 : f + (k - f) = k := by omega
  rw [e2]
  exact hd
/-- What is written up to a place, in two parts. -/
theorem write_upto {l : List UInt8} {f k : Nat} (hf : f ≤ k) (hp : plainR ((l.drop f).take (k - f)) = true) : writeR (l.take k) = writeR (l.take f) ++ (l.drop f).take (k - f) := by
  have e : l.take k = l.take f ++ (l.drop f).take (k - f) := by
    conv => lhs; rw [show k = f + (k - f) by omega, List.take_add]
  rw [e, writeR_append, writeR_plain _ hp]
theorem write_sign {l : List UInt8} {f k : Nat} (hf : f ≤ k) (hk : k < l.length) (hp : plainR ((l.drop f).take (k - f)) = true) (hs : signE (l[k].toNat : Int) = true) : writeR (l.take (k + 1)) = (writeR (l.take f) ++ (l.drop f).take (k - f)) ++ (38 :: nameE (l[k].toNat : Int) ++ [59]) := by
  rw [List.take_succ_eq_append_getElem hk, writeR_append, write_upto hf hp]
  have e : writeR [l[k]] = 38 :: nameE (l[k].toNat : Int) ++ [59] := by
    unfold writeR escB
    rw [List.flatMap_cons, List.flatMap_nil, List.append_nil, if_pos hs]
  rw [e]

/-! ### reading -/
theorem cutN_ascii : ∀ (m : Nat) (l : List UInt8) (n : Int), m ≤ l.length → (m : Int) ≤ n → (∀ b ∈ l.take m, b.toNat < 128) → m ≤ cutN l n
  | 0, _, _, _, _, _ => Nat.zero_le _
  | m + 1, [], _, h, _, _ => by simp at h
  | m + 1, b :: t, n, h, hn, ha => by
    have hb : b.toNat < 128 := ha b (by simp)
    rw [cutN_step (by simp), Lib.decodeL_ascii b t hb]
    simp only
    rw [if_neg (by omega)]
    have ih := cutN_ascii m t (n - 1) (by simpa using h) (by omega) (fun x hx => ha x (by simp [hx]))
    show m + 1 ≤ 1 + cutN t (n - ((1 : Nat) : Int))
    have e : n - ((1 : Nat) : Int) = n - 1 := by omega
    rw [e]
    omega
def cutC (c : UInt8) (l : List UInt8) : List UInt8 × List UInt8 × Bool := if l.all (fun b => b != c) = true then (l, [], false) else (l.takeWhile (fun b => b != c), l.drop ((l.takeWhile fun b => b != c).length + 1), true)
theorem tw_lt (c : UInt8) : ∀ l : List UInt8, l.all (fun b => b != c) = false → (l.takeWhile fun b => b != c).length < l.length ∧ l[(l.takeWhile fun b => b != c).length]? = some c
  | [], h => by cases h
  | b :: t, h => by
    rw [List.all_cons] at h
    by_cases hb : b = c
    · subst hb
      rw [List.takeWhile_cons_of_neg (by simp)]
      exact ⟨by simp, rfl⟩
    · have h2 : (b != c) = true := by simpa using hb
      rw [h2, Bool.true_and] at h
      obtain ⟨h3, h4⟩ := tw_lt c t h
      rw [List.takeWhile_cons_of_pos (by exact h2), List.length_cons, List.length_cons]
      exact ⟨by omega, by simpa using h4⟩
theorem tw_take (c : UInt8) (l : List UInt8) : l.take (l.takeWhile fun b => b != c).length = l.takeWhile fun b => b != c := by
  conv => lhs; arg 2; rw [← List.takeWhile_append_dropWhile (p := fun b => b != c) (l := l)]
  rw [List.take_left]
theorem tw_ne (c : UInt8) : ∀ l : List UInt8, ∀ b ∈ l.takeWhile (fun b => b != c), b ≠ c
  | [], b, h => by cases h
  | x :: t, b, h => by
    by_cases hx : x = c
    · subst hx
      rw [List.takeWhile_cons_of_neg (by simp)] at h
      cases h
    · rw [List.takeWhile_cons_of_pos (by simpa using hx)] at h
      rcases List.mem_cons.1 h with rfl | h
      · exact hx
      · exact tw_ne c t b h
/-- A text parted at the next &: what is read of it. -/
theorem cut_read (l : List UInt8) : readR l = (cutC 38 l).1 ++ (if (cutC 38 l).2.2 = true then readR (38 :: (cutC 38 l).2.1) else []) := by
  unfold cutC
  cases ha : l.all fun b => b != 38 with
  | true =>
    rw [if_pos rfl]
    simp only [Bool.false_eq_true, if_false, List.append_nil]
    have h1 : ∀ b ∈ l, b ≠ 38 := fun b hb => by simpa using List.all_eq_true.1 ha b hb
    have := readR_text l [] h1
    rw [List.append_nil, readR_nil, List.append_nil] at this
    exact this
  | false =>
    rw [if_neg Bool.false_ne_true]
    simp only [if_true]
    obtain ⟨h1, h2⟩ := tw_lt 38 l ha
    obtain ⟨h3, h4⟩ := List.getElem?_eq_some_iff.1 h2
    have e : l = (l.takeWhile fun b => b != 38) ++ 38 :: l.drop ((l.takeWhile fun b => b != 38).length + 1) := by
      conv => lhs; rw [← List.take_append_drop (l.takeWhile fun b => b != 38).length l, tw_take, drop_cons h1, h4]
    conv => lhs; rw [e]
    rw [readR_text _ _ (tw_ne 38 l)]
theorem cut_less (l : List UInt8) (h : (cutC 38 l).2.2 = true) : (cutC 38 l).2.1.length < l.length := by
  unfold cutC at h ⊢
  cases ha : l.all fun b => b != 38 with
  | true => rw [ha, if_pos rfl] at h; cases h
  | false =>
    rw [if_neg Bool.false_ne_true]
    have := (tw_lt 38 l ha).1
    show (l.drop _).length < l.length
    rw [List.length_drop]
    omega
theorem cut_len (c : UInt8) (l : List UInt8) : (cutC c l).1.length ≤ l.length ∧ (cutC c l).2.1.length ≤ l.length := by
  unfold cutC
  split
  · exact ⟨Nat.le_refl _, Nat.zero_le _⟩
  · refine ⟨?_, ?_⟩
    · show (l.takeWhile _).length ≤ l.length
      rw [← tw_take]
      rw [List.length_take]
      omega
    · show (l.drop _).length ≤ l.length
      rw [List.length_drop]
      omega
/-- What stands behind a &, as the program looks at it. -/
def firstP (l : List UInt8) : Option (Int × Nat) := if (cutC 59 (l.take (cutN l 9))).2.2 = true then (signR (cutC 59 (l.take (cutN l 9))).1).map fun c => (c, (cutC 59 (l.take (cutN l 9))).1.length + 1) else none
theorem semi_eq (l : List UInt8) (p : Nat) (hp : p < l.length) (h59 : l[p] = 59) (hb : ∀ b ∈ l.take p, b ≠ 59) : semi l = some p := by
  have e : l = l.take p ++ 59 :: l.drop (p + 1) := by
    conv => lhs; rw [← List.take_append_drop p l, drop_cons hp, h59]
  have hl : (l.take p).length = p := by rw [List.length_take]; omega
  rw [e, semi_at _ _ hb, hl]
theorem first_eq (l : List UInt8) : firstP l = firstR l := by
  unfold firstP cutC
  cases ha : (l.take (cutN l 9)).all fun b => b != 59 with
  | false =>
    rw [if_neg Bool.false_ne_true]
    simp only [if_true]
    obtain ⟨h1, h2⟩ := tw_lt 59 _ ha
    obtain ⟨h3, h4⟩ := List.getElem?_eq_some_iff.1 h2
    have htw := tw_take 59 (l.take (cutN l 9))
    have hne := tw_ne 59 (l.take (cutN l 9))
    generalize hp : ((l.take (cutN l 9)).takeWhile fun b => b != 59) = nm at *
    have hlen : nm.length < cutN l 9 ∧ nm.length < l.length := by rw [List.length_take] at h1; omega
    have e1 : l.take nm.length = nm := by
      rw [List.take_take, Nat.min_eq_left (by omega)] at htw
      exact htw
    have hs : semi l = some nm.length := semi_eq l nm.length hlen.2 (by rw [List.getElem_take] at h4; exact h4) (by rw [e1]; exact hne)
    unfold firstR
    rw [hs]
    simp only
    rw [e1]
  | true =>
    rw [if_pos rfl]
    simp only [Bool.false_eq_true, if_false]
    unfold firstR
    cases hs : semi l with
    | none => rfl
    | some p =>
      simp only
      cases hg : signR (l.take p) with
      | none => rfl
      | some c =>
        exfalso
        have hlow := signR_low hg
        unfold semi at hs
        cases hl : l.all fun b => b != 59 with
        | true => rw [hl, if_pos rfl] at hs; cases hs
        | false =>
          rw [hl, if_neg Bool.false_ne_true] at hs
          injection hs with hs
          obtain ⟨h1, h2⟩ := tw_lt 59 l hl
          rw [hs] at h1 h2
          obtain ⟨h3, h4⟩ := List.getElem?_eq_some_iff.1 h2
          have hpl : (l.take p).length = p := by rw [List.length_take]; omega
          have hcn : p + 1 ≤ cutN l 9 := cutN_ascii (p + 1) l 9 (by omega) (by rw [hpl] at hlow; omega) (fun b hb => by
            rw [List.take_succ_eq_append_getElem h1, List.mem_append, List.mem_singleton] at hb
            rcases hb with hb | hb
            · exact hlow.2 b hb
            · rw [hb, h4]; decide)
          have hm : (59 : UInt8) ∈ l.take (cutN l 9) := by
            have h5 : p < (l.take (cutN l 9)).length := by rw [List.length_take]; omega
            have h6 : (l.take (cutN l 9))[p] = 59 := by rw [List.getElem_take]; exact h4
            rw [← h6]
            exact List.getElem_mem h5
          have := List.all_eq_true.1 ha 59 hm
          simp at this
/-- What first answers. -/
def firstV (l : List UInt8) : Int × Nat := match firstR l with
  | some o => o
  | none => (38, 0)
theorem first_read (l : List UInt8) : readR (38 :: l) = encodeRune (firstV l).1 ++ readR (l.drop (firstV l).2) := by
  rw [readR_amp]
  unfold firstV
  cases firstR l with
  | none => rfl
  | some o => rfl
theorem first_len (l : List UInt8) : (firstV l).2 ≤ l.length := by
  unfold firstV firstR
  cases hs : semi l with
  | none => exact Nat.zero_le _
  | some p =>
    simp only
    cases signR (l.take p) with
    | none => exact Nat.zero_le _
    | some c =>
      unfold semi at hs
      cases hl : l.all fun b => b != 59 with
      | true => rw [hl, if_pos rfl] at hs; cases hs
      | false =>
        rw [hl, if_neg Bool.false_ne_true] at hs
        injection hs with hs
        have := (tw_lt 59 l hl).1
        rw [hs] at this
        exact this
theorem readF_len : ∀ (n : Nat) (l : List UInt8), l.length ≤ n → (readR l).length ≤ 4 * l.length
  | 0, l, h => by
    have : l = [] := List.length_eq_zero_iff.1 (by omega)
    subst this
    exact Nat.le_refl _
  | n + 1, [], _ => Nat.le_refl _
  | n + 1, b :: r, h => by
    have hr : r.length ≤ n := by simpa using h
    by_cases hb : b = 38
    · subst hb
      rw [first_read, List.length_append, List.length_cons]
      have h1 := enc_len (firstV r).1
      have h2 := readF_len n (r.drop (firstV r).2) (by rw [List.length_drop]; omega)
      rw [List.length_drop] at h2
      omega
    · rw [readR_other b r hb, List.length_cons, List.length_cons]
      have := readF_len n r hr
      omega
end Go.Proofs.YtelhdkidnhfnbaaDoor
