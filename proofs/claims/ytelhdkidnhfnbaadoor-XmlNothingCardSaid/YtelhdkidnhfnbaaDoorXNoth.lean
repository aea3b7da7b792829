/-
  Remarks and notes between parts are nothing: the tokens of a document with one put in, in plain words. No condition; no run.
-/
import Derived.Test.YtelhdkidnhfnbaaDoorXRToks
namespace Go.Proofs.YtelhdkidnhfnbaaDoor
open Go.RowKit

theorem ne_of_has {l : List UInt8} {c : UInt8} {m : List UInt8} (h : hasB l (c :: m) = true) : l ≠ [] := fun e => by
  subst e
  unfold hasB at h
  simp at h
theorem has_cons {l m : List UInt8} (h : hasB l m = true) : ∃ x, l = m ++ x := by
  have h1 : l.take m.length = m := by simpa [hasB] using h
  exact ⟨l.drop m.length, by conv => lhs; rw [← List.take_append_drop m.length l, h1]⟩
theorem has_app {l m t : List UInt8} (h : hasB l m = true) : hasB (l ++ t) m = true := by
  obtain ⟨x, rfl⟩ := has_cons h
  unfold hasB
  simp
theorem has1_app {l t : List UInt8} {c : UInt8} (h : l ≠ []) : hasB (l ++ t) [c] = hasB l [c] := by
  cases l with
  | nil => exact absurd rfl h
  | cons b r => rfl
theorem tw_app (p : UInt8 → Bool) : ∀ {l : List UInt8} (t : List UInt8), l.dropWhile p ≠ [] → (l ++ t).takeWhile p = l.takeWhile p ∧ (l ++ t).dropWhile p = l.dropWhile p ++ t
  | [], t, h => absurd rfl h
  | b :: r, t, h => by
    cases hb : p b with
    | true =>
      rw [List.dropWhile_cons_of_pos hb] at h
      obtain ⟨h1, h2⟩ := tw_app p t h
      rw [List.cons_append, List.takeWhile_cons_of_pos hb, List.dropWhile_cons_of_pos hb, List.takeWhile_cons_of_pos hb, List.dropWhile_cons_of_pos hb, h1, h2]
      exact ⟨rfl, rfl⟩
    | false =>
      have hb' : ¬ p b = true := by rw [hb]; exact Bool.false_ne_true
      rw [List.cons_append, List.takeWhile_cons_of_neg hb', List.dropWhile_cons_of_neg hb', List.takeWhile_cons_of_neg hb', List.dropWhile_cons_of_neg hb']
      exact ⟨rfl, rfl⟩
theorem dropB_app {l : List UInt8} (t : List UInt8) (h : dropB l ≠ []) : dropB (l ++ t) = dropB l ++ t := (tw_app _ t h).2
theorem dropB_nil : dropB [] = [] := rfl
theorem blk1_app {l : List UInt8} (t : List UInt8) (h : l ≠ []) : blk1 (l ++ t) = blk1 l := by
  cases l with
  | nil => exact absurd rfl h
  | cons b r =>
    unfold blk1
    rw [List.cons_append]
    cases hb : blkB (b.toNat : Int) with
    | true => rw [List.takeWhile_cons_of_pos (p := fun b : UInt8 => blkB (b.toNat : Int)) hb, List.takeWhile_cons_of_pos (p := fun b : UInt8 => blkB (b.toNat : Int)) hb]; rfl
    | false =>
      have hb' : ¬ blkB (b.toNat : Int) = true := by rw [hb]; exact Bool.false_ne_true
      rw [List.takeWhile_cons_of_neg (p := fun b : UInt8 => blkB (b.toNat : Int)) hb', List.takeWhile_cons_of_neg (p := fun b : UInt8 => blkB (b.toNat : Int)) hb']
theorem atEndB_app {l : List UInt8} (t : List UInt8) (h : l ≠ []) : atEndB (l ++ t) = atEndB l := by
  cases l with
  | nil => exact absurd rfl h
  | cons b r => rfl
theorem drop1_app {l : List UInt8} (t : List UInt8) (h : l ≠ []) : (l ++ t).drop 1 = l.drop 1 ++ t := by
  cases l with
  | nil => exact absurd rfl h
  | cons b r => rfl
theorem skip1_app {l : List UInt8} (t : List UInt8) (c : UInt8) (h : l ≠ []) : skipD (l ++ t) [c] = skipD l [c] ++ t := by
  unfold skipD
  rw [has1_app h]
  split
  · exact drop1_app t h
  · rfl
theorem rest_app {l : List UInt8} (t : List UInt8) (h : restIn l ≠ []) : nameIn (l ++ t) = nameIn l ∧ restIn (l ++ t) = restIn l ++ t := by
  have h1 : l.dropWhile (fun b => inN (b.toNat : Int)) ≠ [] := fun e => h (by unfold restIn; rw [e]; rfl)
  obtain ⟨h2, h3⟩ := tw_app _ t h1
  refine ⟨h2, ?_⟩
  unfold restIn
  rw [h3]
  exact dropB_app t h
theorem valQ_app {n : Nat} {l : List UInt8} (t : List UInt8) (hl : l ≠ []) (h : (valQ n l).1.2 = true) : valQ n (l ++ t) = ((valQ n l).1, (valQ n l).2 ++ t) := by
  unfold valQ at h ⊢
  have h1 := ne_of_has h
  obtain ⟨h2, h3⟩ := tw_app _ t h1
  rw [drop1_app t hl, h2, h3, has1_app h1, skip1_app t _ h1]
theorem valX_app {l : List UInt8} (t : List UInt8) (h : (valX l).1.2 = true) : valX (l ++ t) = ((valX l).1, (valX l).2 ++ t) := by
  have hl : l ≠ [] := fun e => by subst e; cases h
  unfold valX at h ⊢
  rw [has1_app hl, has1_app hl]
  by_cases h1 : hasB l [34] = true
  · rw [if_pos h1] at h ⊢
    rw [if_pos h1]
    exact valQ_app t hl h
  · rw [if_neg h1] at h ⊢
    rw [if_neg h1]
    by_cases h2 : hasB l [39] = true
    · rw [if_pos h2] at h ⊢
      rw [if_pos h2]
      exact valQ_app t hl h
    · rw [if_neg h2] at h
      cases h
theorem attrX_app {l : List UInt8} (t : List UInt8) (h : (attrX l).1.2.2 = true) : attrX (l ++ t) = ((attrX l).1, (attrX l).2 ++ t) := by
  unfold attrX at h ⊢
  by_cases h1 : hasB (restIn l) [61] = true
  · rw [if_pos h1] at h ⊢
    have h2 := ne_of_has h1
    obtain ⟨h3, h4⟩ := rest_app t h2
    have h5 : dropB ((restIn l).drop 1) ≠ [] := fun e => by rw [e] at h; cases h
    rw [h3, h4, has1_app h2, if_pos h1, drop1_app t h2, dropB_app t h5, valX_app t h]
  · rw [if_neg h1] at h; cases h
theorem opnF_app (t : List UInt8) : ∀ (n m : Nat) (l : List UInt8) (L L' : AttrL) (d : List UInt8), opnF n l L = some (L', d) → d ≠ [] → n ≤ m → opnF m (l ++ t) L = some (L', d ++ t)
  | 0, _, _, _, _, _, h, _, _ => by cases h
  | n + 1, m, l, L, L', d, h, hd, hm => by
    obtain ⟨k, rfl⟩ : ∃ k, m = k + 1 := ⟨m - 1, by omega⟩
    rw [opnF] at h
    by_cases h1 : blk1 l = true ∧ atEndB (dropB l) = false
    · rw [if_pos h1] at h
      have h2 : dropB l ≠ [] := fun e => by have := h1.2; rw [e] at this; cases this
      have h3 : l ≠ [] := fun e => h2 (by rw [e]; rfl)
      by_cases h4 : (attrX (dropB l)).1.2.2 = true
      · rw [if_pos h4] at h
        have h5 := attrX_app t h4
        rw [opnF_more (by rw [blk1_app t h3]; exact h1.1) (by rw [dropB_app t h2, atEndB_app t h2]; exact h1.2) (by rw [dropB_app t h2, h5]; exact h4)]
        rw [dropB_app t h2, h5]
        exact opnF_app t n k _ _ _ _ h hd (by omega)
      · rw [if_neg h4] at h; cases h
    · rw [if_neg h1] at h
      injection h with h
      injection h with h5 h6
      subst h5 h6
      have h3 : l ≠ [] := fun e => hd (by rw [e]; rfl)
      rw [opnF, dropB_app t hd, blk1_app t h3, atEndB_app t hd, if_neg h1]
theorem opnX_app {l r : List UInt8} {L : AttrL} {c : Bool} (t : List UInt8) (h : opnX l = some (L, c, r)) : opnX (l ++ t) = some (L, c, r ++ t) ∧ nameIn (l ++ t) = nameIn l := by
  unfold opnX at h ⊢
  cases ho : opnF ((tailX l).length + 1) (tailX l) [] with
  | none => rw [ho] at h; cases h
  | some q =>
    obtain ⟨M, d⟩ := q
    rw [ho] at h
    simp only at h
    by_cases h1 : (hasB (skipD d [47]) [62] && mayTok 1 (nameIn l) M []) = true
    · rw [if_pos h1] at h
      injection h with h
      injection h with h2 h
      injection h with h3 h4
      subst h2 h3 h4
      have hs := ne_of_has (by simpa using (Bool.and_eq_true _ _ ▸ h1).1 : hasB (skipD d [47]) [62] = true)
      have hd : d ≠ [] := fun e => hs (by rw [e]; rfl)
      have ht : tailX l ≠ [] := fun e => by
        rw [e] at ho
        rw [opnF_stop (.inl rfl)] at ho
        injection ho with ho
        injection ho with _ ho
        exact hd ho.symm
      obtain ⟨h5, h6⟩ := tw_app (fun b => inN (b.toNat : Int)) t ht
      have h5' : nameIn (l ++ t) = nameIn l := h5
      have h6' : tailX (l ++ t) = tailX l ++ t := h6
      rw [h5', h6', opnF_app t _ _ _ _ _ _ ho hd (by rw [List.length_append]; omega)]
      simp only
      rw [skip1_app t 47 hd, has1_app hs, if_pos h1, drop1_app t hs, has1_app hd]
      exact ⟨rfl, trivial⟩
    · rw [if_neg h1] at h; cases h
theorem findI_app {m : List UInt8} (t : List UInt8) (hm : m ≠ []) : ∀ (l : List UInt8) (n : Nat), findI m l = some n → findI m (l ++ t) = some n
  | [], n, h => by rw [findI, if_neg hm] at h; cases h
  | b :: r, n, h => by
    rw [findI] at h
    by_cases h1 : (b :: r).take m.length = m
    · rw [if_pos h1] at h
      injection h with h
      subst h
      refine findI_yes ?_
      have h2 : m.length ≤ (b :: r).length := by
        have := congrArg List.length h1
        rw [List.length_take] at this
        omega
      rw [List.take_append_of_le_length h2]
      exact h1
    · rw [if_neg h1] at h
      rw [List.cons_append, findI]
      cases hf : findI m r with
      | none => rw [hf] at h; cases h
      | some k =>
        rw [hf] at h
        injection h with h
        have h3 := findI_le r k hf
        have h2 : m.length ≤ (b :: r).length := by rw [List.length_cons]; omega
        rw [← List.cons_append, List.take_append_of_le_length h2, if_neg h1, findI_app t hm r k hf]
        simp only [Option.map_some, h]
theorem betw_app {l a b : List UInt8} {r : List UInt8 × List UInt8} (t : List UInt8) (hb : b ≠ []) (hl : hasB l a = true) (h : betwX l a b = some r) : betwX (l ++ t) a b = some (r.1, r.2 ++ t) := by
  obtain ⟨x, rfl⟩ := has_cons hl
  unfold betwX at h ⊢
  rw [List.append_assoc, List.drop_left' rfl]
  rw [List.drop_left' rfl] at h
  rw [cutW_find] at h ⊢
  cases hf : findI b x with
  | none => rw [hf] at h; cases h
  | some n =>
    have h4 := findI_le x n hf
    rw [hf] at h
    rw [findI_app t hb x n hf]
    simp only [if_true] at h ⊢
    injection h with h
    subst h
    rw [List.take_append_of_le_length (by omega), List.drop_append_of_le_length (by omega)]

theorem clos_app {l : List UInt8} (t : List UInt8) (h : closX l = true) : closX (l ++ t) = true ∧ nameIn (l ++ t) = nameIn l ∧ (restIn (l ++ t)).drop 1 = (restIn l).drop 1 ++ t := by
  unfold closX at h ⊢
  have h1 := Bool.and_eq_true _ _ ▸ h
  have h2 := ne_of_has h1.1
  obtain ⟨h3, h4⟩ := rest_app t h2
  rw [h3, h4, has1_app h2, drop1_app t h2]
  exact ⟨h, rfl, rfl⟩
theorem opnX_name {l r : List UInt8} {L : AttrL} {c : Bool} (h : opnX l = some (L, c, r)) : ∃ b y, l = b :: y ∧ inN (b.toNat : Int) = true := by
  have hn : nameX (nameIn l) = true := by
    unfold opnX at h
    cases ho : opnF ((tailX l).length + 1) (tailX l) [] with
    | none => rw [ho] at h; cases h
    | some q =>
      obtain ⟨M, d⟩ := q
      rw [ho] at h
      simp only at h
      by_cases h1 : (hasB (skipD d [47]) [62] && mayTok 1 (nameIn l) M []) = true
      · have h2 := (Bool.and_eq_true _ _ ▸ h1).2
        unfold mayTok at h2
        rw [if_pos rfl] at h2
        have h3 := (Bool.and_eq_true _ _ ▸ h2).1
        exact (Bool.and_eq_true _ _ ▸ h3).1
      · rw [if_neg h1] at h; cases h
  cases l with
  | nil => cases hn
  | cons b y =>
    refine ⟨b, y, rfl, ?_⟩
    cases hb : inN (b.toNat : Int) with
    | true => rfl
    | false =>
      have hb' : ¬ inN (b.toNat : Int) = true := by rw [hb]; exact Bool.false_ne_true
      unfold nameIn at hn
      rw [List.takeWhile_cons_of_neg (p := fun b : UInt8 => inN (b.toNat : Int)) hb'] at hn
      cases hn
theorem no_mark {b : UInt8} (hb : inN (b.toNat : Int) = true) (x : List UInt8) : hasB (60 :: b :: x) mk1 = false ∧ hasB (60 :: b :: x) mk2 = false ∧ hasB (60 :: b :: x) mk3 = false ∧ hasB (60 :: b :: x) mk4 = false ∧ hasB (60 :: b :: x) mk5 = false := by
  have h := (in_iff _).1 hb
  have n1 : (b == 33) = false := by
    cases q : b == 33 with
    | false => rfl
    | true => have : b = 33 := by simpa using q
              subst this; exact absurd h (by decide)
  have n2 : (b == 63) = false := by
    cases q : b == 63 with
    | false => rfl
    | true => have : b = 63 := by simpa using q
              subst this; exact absurd h (by decide)
  have n3 : (b == 47) = false := by
    cases q : b == 47 with
    | false => rfl
    | true => have : b = 47 := by simpa using q
              subst this; exact absurd h (by decide)
  unfold hasB mk1 mk2 mk3 mk4 mk5
  simp only [List.length_cons, List.length_nil, List.take_succ_cons, List.cons_beq_cons, n1, n2, n3, Bool.false_and, Bool.and_false, and_self]
theorem opt_map {α β : Type} {o : Option α} {f : α → β} {y : β} (h : o.map f = some y) : ∃ x, o = some x ∧ f x = y := by
  cases o with
  | none => cases h
  | some x => injection h with h; exact ⟨x, rfl, h⟩
/-- A part stays what it is before a part that begins with a mark. -/
theorem part_app {l r : List UInt8} {ts : List Tk} (t : List UInt8) (h : partX l = some (ts, r)) (h0 : l ≠ []) (ht : hasB t [60] = true) : partX (l ++ t) = some (ts, r ++ t) := by
  unfold partX at h
  by_cases a1 : hasB l mk1 = true
  · rw [if_pos a1] at h
    obtain ⟨x, hx, he⟩ := opt_map h
    injection he with h1 h2
    subst h1 h2
    unfold partX
    rw [if_pos (has_app a1), betw_app t (by simp) a1 hx]
    rfl
  rw [if_neg a1] at h
  by_cases a2 : hasB l mk2 = true
  · rw [if_pos a2] at h
    obtain ⟨x, hx, he⟩ := opt_map h
    injection he with h1 h2
    subst h1 h2
    have e1 : hasB (l ++ t) mk1 = false := by obtain ⟨x, rfl⟩ := has_cons a2; rfl
    unfold partX
    rw [if_neg (by rw [e1]; exact Bool.false_ne_true), if_pos (has_app a2), betw_app t (by simp) a2 hx]
    rfl
  rw [if_neg a2] at h
  by_cases a3 : hasB l mk3 = true
  · rw [if_pos a3] at h
    have e1 : hasB (l ++ t) mk1 = false := by obtain ⟨x, rfl⟩ := has_cons a3; rfl
    have e2 : hasB (l ++ t) mk2 = false := by obtain ⟨x, rfl⟩ := has_cons a3; rfl
    cases hb : betwX l mk3 [62] with
    | none => rw [hb] at h; cases h
    | some q =>
      rw [hb] at h
      simp only at h
      unfold partX
      rw [if_neg (by rw [e1]; exact Bool.false_ne_true), if_neg (by rw [e2]; exact Bool.false_ne_true), if_pos (has_app a3), betw_app t (by simp) a3 hb]
      simp only
      split at h
      · cases h
      · rename_i h9
        injection h with h
        injection h with h1 h2
        subst h1 h2
        rw [if_neg h9]
  rw [if_neg a3] at h
  by_cases a4 : hasB l mk4 = true
  · rw [if_pos a4] at h
    obtain ⟨x, hx, he⟩ := opt_map h
    injection he with h1 h2
    subst h1 h2
    have e1 : hasB (l ++ t) mk1 = false := by obtain ⟨x, rfl⟩ := has_cons a4; rfl
    have e2 : hasB (l ++ t) mk2 = false := by obtain ⟨x, rfl⟩ := has_cons a4; rfl
    have e3 : hasB (l ++ t) mk3 = false := by obtain ⟨x, rfl⟩ := has_cons a4; rfl
    unfold partX
    rw [if_neg (by rw [e1]; exact Bool.false_ne_true), if_neg (by rw [e2]; exact Bool.false_ne_true), if_neg (by rw [e3]; exact Bool.false_ne_true), if_pos (has_app a4), betw_app t (by simp) a4 hx]
    rfl
  rw [if_neg a4] at h
  by_cases a5 : hasB l mk5 = true
  · rw [if_pos a5] at h
    have e1 : hasB (l ++ t) mk1 = false := by obtain ⟨x, rfl⟩ := has_cons a5; rfl
    have e2 : hasB (l ++ t) mk2 = false := by obtain ⟨x, rfl⟩ := has_cons a5; rfl
    have e3 : hasB (l ++ t) mk3 = false := by obtain ⟨x, rfl⟩ := has_cons a5; rfl
    have e4 : hasB (l ++ t) mk4 = false := by obtain ⟨x, rfl⟩ := has_cons a5; rfl
    have e5 : (l ++ t).drop 2 = l.drop 2 ++ t := by obtain ⟨x, rfl⟩ := has_cons a5; rfl
    by_cases hc : closX (l.drop 2) = true
    · rw [if_pos hc] at h
      injection h with h
      injection h with h1 h2
      subst h1 h2
      obtain ⟨c1, c2, c3⟩ := clos_app t hc
      unfold partX
      rw [if_neg (by rw [e1]; exact Bool.false_ne_true), if_neg (by rw [e2]; exact Bool.false_ne_true), if_neg (by rw [e3]; exact Bool.false_ne_true), if_neg (by rw [e4]; exact Bool.false_ne_true), if_pos (has_app a5), e5, if_pos c1, c2, c3]
    · rw [if_neg hc] at h; cases h
  rw [if_neg a5] at h
  by_cases a6 : hasB l [60] = true
  · rw [if_pos a6] at h
    obtain ⟨⟨L, c, d⟩, hx, he⟩ := opt_map h
    injection he with h1 h2
    simp only at h1 h2
    subst h1 h2
    obtain ⟨b, y, hl, hb⟩ := opnX_name hx
    obtain ⟨x, rfl⟩ := has_cons a6
    have hx0 : x = b :: y := hl
    subst hx0
    obtain ⟨m1, m2, m3, m4, m5⟩ := no_mark hb (y ++ t)
    obtain ⟨o1, o2⟩ := opnX_app t hx
    have o1' : opnX (b :: (y ++ t)) = some (L, c, d ++ t) := o1
    have o2' : nameIn (b :: (y ++ t)) = nameIn (b :: y) := o2
    show partX (60 :: b :: (y ++ t)) = _
    unfold partX
    rw [m1, m2, m3, m4, m5]
    simp only [Bool.false_eq_true, if_false]
    rw [if_pos (show hasB (60 :: b :: (y ++ t)) [60] = true from rfl)]
    show (opnX (b :: (y ++ t))).map _ = _
    rw [o1']
    show some (openT (b :: (y ++ t)) L c, d ++ t) = some (openT (b :: y) L c, d ++ t)
    unfold openT
    rw [o2']
  · rw [if_neg a6] at h
    injection h with h
    injection h with h1 h2
    subst h1 h2
    have f0 : hasB l [60] = false := by simpa using a6
    have f1 : hasB (l ++ t) [60] = false := by rw [has1_app h0]; exact f0
    unfold partX
    rw [show hasB (l ++ t) mk1 = false from has_first f1, show hasB (l ++ t) mk2 = false from has_first f1, show hasB (l ++ t) mk3 = false from has_first f1, show hasB (l ++ t) mk4 = false from has_first f1, show hasB (l ++ t) mk5 = false from has_first f1, f1]
    simp only [Bool.false_eq_true, if_false]
    by_cases hd : l.dropWhile (fun b => b.toNat != 60) = []
    · obtain ⟨x, rfl⟩ := has_cons ht
      have ha : ∀ b ∈ l, (fun b : UInt8 => b.toNat != 60) b = true := by
        intro b hb
        have h9 := List.takeWhile_append_dropWhile (p := fun b : UInt8 => b.toNat != 60) (l := l)
        rw [hd, List.append_nil] at h9
        rw [← h9] at hb
        have := tw_all (fun b : UInt8 => b.toNat != 60) l
        exact List.all_eq_true.1 this b hb
      rw [List.takeWhile_append_of_pos ha, List.dropWhile_append_of_pos ha, (tw_self _ l ha).1, (tw_self _ l ha).2]
      show some ([(⟨3, [], [], readR (l ++ [])⟩ : Tk)], _) = _
      rw [List.append_nil]
      rfl
    · obtain ⟨h1, h2⟩ := tw_app _ t hd
      rw [h1, h2]

/-! ### tokens -/
theorem tokFV_app {t : List UInt8} (ht : hasB t [60] = true) : ∀ (n N : Nat) (l : List UInt8) (o T : List Tk) (m : Nat), tokFV n N l o = (T, m, 0) → l.length < n → ∀ n2 N2, (l ++ t).length < n2 → ∃ n3, t.length < n3 ∧ tokFV n2 N2 (l ++ t) o = tokFV n3 N2 t T
  | 0, _, _, _, _, _, _, hn, _, _, _ => absurd hn (Nat.not_lt_zero _)
  | n + 1, N, l, o, T, m, h, hn, n2, N2, h2 => by
    by_cases h0 : l = []
    · subst h0
      rw [tokFV_end] at h
      injection h with h _
      subst h
      exact ⟨n2, h2, rfl⟩
    · cases hp : partV l with
      | none => rw [tokFV_bad h0 hp] at h; injection h with _ h; injection h with _ h; cases h
      | some q =>
        obtain ⟨ts, r⟩ := q
        by_cases h8 : 8192 < (ts.foldl addV o).length
        · rw [tokFV_long h0 hp h8] at h; injection h with _ h; injection h with _ h; cases h
        · rw [tokFV_next h0 hp h8] at h
          rw [part_eq] at hp
          have h3 := (prt_len hp h0 [] []).1
          have h4 := part_app t hp h0 ht
          rw [← part_eq] at h4
          obtain ⟨k, rfl⟩ : ∃ k, n2 = k + 1 := ⟨n2 - 1, by omega⟩
          rw [tokFV_next (by simp [h0]) h4 h8]
          rw [List.length_append] at h2
          exact tokFV_app ht n N r _ T m h (by omega) k N2 (by rw [List.length_append]; omega)
/-- One row of tokens behind another: two texts that meet are one. -/
def glueV (o : List Tk) : List Tk → List Tk
  | [] => o
  | y :: r => addV o y ++ r
def HeadOk (M : List Tk) : Prop := ∀ y, M.head? = some y → ¬ (y.kind = 3 ∧ y.text = [])
theorem addV_on {X M : List Tk} (t : Tk) (hM : M ≠ []) : addV (X ++ M) t = X ++ addV M t := by
  unfold addV
  split
  · rfl
  · rw [List.getLast?_append]
    cases hl : M.getLast? with
    | none => exact absurd (List.getLast?_eq_none_iff.1 hl) hM
    | some x =>
      simp only [Option.some_or]
      split
      · rw [List.dropLast_append_of_ne_nil hM, List.append_assoc]
      · rw [List.append_assoc]
theorem addV_add (o : List Tk) (y t : Tk) (hy : ¬ (y.kind = 3 ∧ y.text = [])) : addV (addV o y) t = glueV o (addV [y] t) ∧ HeadOk (addV [y] t) := by
  by_cases h1 : t.kind = 3 ∧ t.text = []
  · have e1 : ∀ Z, addV Z t = Z := fun Z => by unfold addV; rw [if_pos h1]
    rw [e1, e1]
    refine ⟨by show _ = addV o y ++ []; rw [List.append_nil], fun z hz => ?_⟩
    injection hz with hz
    subst hz
    exact hy
  · by_cases h2 : t.kind = 3 ∧ y.kind = 3
    · have hy0 : y.text ≠ [] := fun e => hy ⟨h2.2, e⟩
      have ht0 : t.text ≠ [] := fun e => h1 ⟨h2.1, e⟩
      have e1 : addV [y] t = [{ y with text := y.text ++ t.text }] := addV_join (P := []) h2.1 ht0 h2.2
      rw [e1]
      have hz0 : y.text ++ t.text ≠ [] := by simp [hy0]
      refine ⟨?_, fun z hz => ?_⟩
      · show _ = addV o { y with text := y.text ++ t.text } ++ []
        rw [List.append_nil]
        rcases List.eq_nil_or_concat o with rfl | ⟨P, x, rfl⟩
        · rw [addV_first hy0, e1, addV_first hz0]
        · rw [List.concat_eq_append]
          by_cases hx : x.kind = 3
          · rw [addV_join h2.2 hy0 hx, addV_join h2.1 ht0 (by exact hx), addV_join (by exact h2.2) (by exact hz0) hx, List.append_assoc]
          · rw [addV_behind hy0 hx, addV_join h2.1 ht0 h2.2, addV_behind (by exact hz0) hx]
      · injection hz with hz
        subst hz
        exact fun h => hz0 h.2
    · have e1 : addV [y] t = [y, t] := by
        unfold addV
        rw [if_neg h1]
        exact if_neg h2
      rw [e1]
      refine ⟨?_, fun z hz => ?_⟩
      · show _ = addV o y ++ [t]
        have hk : ∀ x, (addV o y).getLast? = some x → (x.kind = 3 ↔ y.kind = 3) := by
          intro x hx
          rcases List.eq_nil_or_concat o with rfl | ⟨P, z, rfl⟩
          · unfold addV at hx
            rw [if_neg hy] at hx
            injection hx with hx
            have hx' : y = x := hx
            rw [hx']
          · rw [List.concat_eq_append] at hx
            by_cases hy3 : y.kind = 3
            · have hy0 : y.text ≠ [] := fun e => hy ⟨hy3, e⟩
              by_cases hz3 : z.kind = 3
              · rw [addV_join hy3 hy0 hz3, List.getLast?_append] at hx
                injection hx with hx
                rw [← hx]
                exact ⟨fun _ => hy3, fun _ => hz3⟩
              · rw [addV_behind hy0 hz3, List.getLast?_append] at hx
                injection hx with hx
                have hx' : y = x := hx
                rw [hx']
            · rw [addV_tag hy3, List.getLast?_append] at hx
              injection hx with hx
              have hx' : y = x := hx
              rw [hx']
        unfold addV
        rw [if_neg h1]
        show (match (addV o y).getLast? with | none => _ | some x => _) = _
        cases hl : (addV o y).getLast? with
        | none => rfl
        | some x =>
          simp only
          rw [if_neg fun h => h2 ⟨h.1, (hk x hl).1 h.2⟩]
      · injection hz with hz
        subst hz
        exact hy
theorem glue_add (o : List Tk) (t : Tk) : ∀ M : List Tk, HeadOk M → addV (glueV o M) t = glueV o (addV M t) ∧ HeadOk (addV M t)
  | [], _ => by
    by_cases h1 : t.kind = 3 ∧ t.text = []
    · have e1 : ∀ Z, addV Z t = Z := fun Z => by unfold addV; rw [if_pos h1]
      rw [e1, e1]
      exact ⟨rfl, fun z hz => by cases hz⟩
    · have e1 : addV [] t = [t] := by
        unfold addV
        rw [if_neg h1]
        rfl
      rw [e1]
      refine ⟨(List.append_nil _).symm, fun z hz => ?_⟩
      injection hz with hz
      subst hz
      exact h1
  | y :: [], h => by
    have h1 := addV_add o y t (h y rfl)
    have e1 : glueV o [y] = addV o y := List.append_nil _
    rw [e1]
    exact h1
  | y :: z :: r, h => by
    have e2 : addV (y :: z :: r) t = y :: addV (z :: r) t := addV_on (X := [y]) t (by simp)
    rw [e2]
    refine ⟨addV_on (X := addV o y) t (by simp), fun q hq => ?_⟩
    injection hq with hq
    subst hq
    exact h _ rfl
theorem glue_fold (o : List Tk) : ∀ (ts M : List Tk), HeadOk M → ts.foldl addV (glueV o M) = glueV o (ts.foldl addV M) ∧ HeadOk (ts.foldl addV M)
  | [], M, h => ⟨rfl, h⟩
  | t :: ts, M, h => by
    obtain ⟨h1, h2⟩ := glue_add o t M h
    rw [List.foldl_cons, List.foldl_cons, h1]
    exact glue_fold o ts _ h2
theorem addV_len (o : List Tk) (t : Tk) : (addV o t).length ≤ o.length + 1 := by
  unfold addV
  split
  · omega
  · cases o.getLast? with
    | none => simp
    | some x =>
      simp only
      split
      · rw [List.length_append, List.length_dropLast, List.length_singleton]; omega
      · rw [List.length_append, List.length_singleton]; omega
theorem fold_len : ∀ (ts o : List Tk), (ts.foldl addV o).length ≤ o.length + ts.length
  | [], o => Nat.le_refl _
  | t :: ts, o => by
    rw [List.foldl_cons]
    have h1 := fold_len ts (addV o t)
    have h2 := addV_len o t
    rw [List.length_cons]; omega
theorem glue_len (o : List Tk) : ∀ M : List Tk, (glueV o M).length ≤ o.length + M.length
  | [] => Nat.le_refl _
  | y :: r => by
    show (addV o y ++ r).length ≤ _
    have := addV_len o y
    rw [List.length_append, List.length_cons]; omega
theorem part_two {l r : List UInt8} {ts : List Tk} (h : partX l = some (ts, r)) : ts.length ≤ 2 := by
  unfold partX at h
  repeat' split at h
  all_goals first
    | (cases h; done)
    | (obtain ⟨x, _, he⟩ := opt_map h; injection he with h1 _; subst h1; first | exact Nat.zero_le _ | exact (show 1 ≤ 2 from by decide) | (unfold openT; split <;> simp))
    | (injection h with h; injection h with h1 _; subst h1; first | exact Nat.zero_le _ | exact (show 1 ≤ 2 from by decide))
theorem tokFV_len : ∀ (n N : Nat) (l : List UInt8) (o T : List Tk) (m : Nat) (e : Int), tokFV n N l o = (T, m, e) → T.length ≤ o.length + 2 * l.length
  | 0, _, _, _, _, _, _, h => by injection h with h _; subst h; exact Nat.zero_le _
  | n + 1, N, l, o, T, m, e, h => by
    by_cases h0 : l = []
    · subst h0
      rw [tokFV_end] at h
      injection h with h _
      subst h
      omega
    · cases hp : partV l with
      | none => rw [tokFV_bad h0 hp] at h; injection h with h _; subst h; exact Nat.zero_le _
      | some q =>
        obtain ⟨ts, r⟩ := q
        by_cases h8 : 8192 < (ts.foldl addV o).length
        · rw [tokFV_long h0 hp h8] at h; injection h with h _; subst h; exact Nat.zero_le _
        · rw [tokFV_next h0 hp h8] at h
          rw [part_eq] at hp
          have h3 := (prt_len hp h0 [] []).1
          have h4 := part_two hp
          have h5 := fold_len ts o
          have h6 := tokFV_len n N r _ T m e h
          omega
theorem tokFV_glue (o : List Tk) : ∀ (n N : Nat) (l : List UInt8) (M T : List Tk) (m : Nat), tokFV n N l M = (T, m, 0) → l.length < n → HeadOk M → o.length + M.length + 2 * l.length ≤ 8000 → ∀ n2 N2, l.length < n2 → tokFV n2 N2 l (glueV o M) = (glueV o T, N2, 0)
  | 0, _, _, _, _, _, _, hn, _, _, _, _, _ => absurd hn (Nat.not_lt_zero _)
  | n + 1, N, l, M, T, m, h, hn, hM, hs, n2, N2, h2 => by
    obtain ⟨k, rfl⟩ : ∃ k, n2 = k + 1 := ⟨n2 - 1, by omega⟩
    by_cases h0 : l = []
    · subst h0
      rw [tokFV_end] at h
      injection h with h _
      subst h
      exact tokFV_end
    · cases hp : partV l with
      | none => rw [tokFV_bad h0 hp] at h; injection h with _ h; injection h with _ h; cases h
      | some q =>
        obtain ⟨ts, r⟩ := q
        by_cases h8 : 8192 < (ts.foldl addV M).length
        · rw [tokFV_long h0 hp h8] at h; injection h with _ h; injection h with _ h; cases h
        · rw [tokFV_next h0 hp h8] at h
          have hp' := hp
          rw [part_eq] at hp'
          have h3 := (prt_len hp' h0 [] []).1
          have h4 := part_two hp'
          have h5 := fold_len ts M
          obtain ⟨h6, h7⟩ := glue_fold o ts M hM
          have h9 := glue_len o (ts.foldl addV M)
          rw [tokFV_next h0 hp (by rw [h6]; omega), h6]
          exact tokFV_glue o n N r _ T m h (by omega) h7 (by omega) k N2 (by omega)
/-- A document with a part put in that is nothing. -/
theorem noth_eq {a b m : List UInt8} {T U : List Tk} {p q : Nat} (ha : tokX a = (T, p, 0)) (hb : tokX b = (U, q, 0)) (hla : a.length ≤ 1000) (hlb : b.length ≤ 1000) (hlm : m.length ≤ 1000) (hm1 : hasB m [60] = true) (hm : partX (m ++ b) = some ([], b)) :
    tokX (a ++ (m ++ b)) = (glueV T U, (a ++ (m ++ b)).length, 0) := by
  rw [← tok_eq] at ha hb ⊢
  unfold tokV at ha hb ⊢
  rw [if_neg (by omega)] at ha hb
  rw [if_neg (by rw [List.length_append, List.length_append]; omega)]
  obtain ⟨n3, h1, h2⟩ := tokFV_app (has_app (t := b) hm1) _ _ _ _ _ _ ha (by omega) ((a ++ (m ++ b)).length + 1) (a ++ (m ++ b)).length (by omega)
  rw [h2]
  have hT := tokFV_len _ _ _ _ _ _ _ ha
  rw [List.length_nil] at hT
  obtain ⟨k, rfl⟩ : ∃ k, n3 = k + 1 := ⟨n3 - 1, by omega⟩
  have h0 : m ++ b ≠ [] := fun e => ne_of_has (has_app (t := b) hm1) e
  have hl := (prt_len hm h0 [] []).1
  rw [← part_eq] at hm
  rw [tokFV_next h0 hm (by show ¬ 8192 < T.length; omega)]
  exact tokFV_glue T _ _ _ [] _ _ hb (by omega) (fun y hy => by cases hy) (by rw [List.length_nil]; omega) k _ (by omega)
theorem find_in {c : UInt8} {m : List UInt8} {b : List UInt8} : ∀ i : List UInt8, (∀ x ∈ i, x ≠ c) → findI (c :: m) (i ++ ((c :: m) ++ b)) = some i.length
  | [], _ => findI_yes (by simp)
  | x :: r, h => by
    have h1 := find_in (c := c) (m := m) (b := b) r fun y hy => h y (List.mem_cons_of_mem _ hy)
    rw [List.cons_append, findI, if_neg (fun e => h x List.mem_cons_self (by rw [List.length_cons, List.take_succ_cons] at e; injection e)), h1]
    rfl
theorem cut_in {c : UInt8} {m b i : List UInt8} (h : ∀ x ∈ i, x ≠ c) : cutW (i ++ ((c :: m) ++ b)) (c :: m) = (i, b, true) := by
  rw [cutW_find, find_in i h]
  simp only
  rw [List.take_left' rfl, ← List.append_assoc, List.drop_left' (by rw [List.length_append])]
theorem note_part {i b : List UInt8} (h : ∀ x ∈ i, x ≠ 45) : partX (([60, 33, 45, 45] ++ (i ++ [45, 45, 62])) ++ b) = some ([], b) := by
  have h1 : hasB (([60, 33, 45, 45] ++ (i ++ [45, 45, 62])) ++ b) mk1 = true := rfl
  unfold partX
  rw [if_pos h1]
  unfold betwX
  have h2 : (([60, 33, 45, 45] ++ (i ++ [45, 45, 62])) ++ b).drop mk1.length = i ++ (([45, 45, 62]) ++ b) := by
    show (i ++ [45, 45, 62]) ++ b = _
    rw [List.append_assoc]
  rw [h2, cut_in h]
  rfl
theorem inst_part {i b : List UInt8} (h : ∀ x ∈ i, x ≠ 63) : partX (([60, 63] ++ (i ++ [63, 62])) ++ b) = some ([], b) := by
  have h0 : hasB (([60, 63] ++ (i ++ [63, 62])) ++ b) mk1 = false := rfl
  have h1 : hasB (([60, 63] ++ (i ++ [63, 62])) ++ b) mk2 = true := rfl
  unfold partX
  rw [if_neg (by rw [h0]; exact Bool.false_ne_true), if_pos h1]
  unfold betwX
  have h2 : (([60, 63] ++ (i ++ [63, 62])) ++ b).drop mk2.length = i ++ (([63, 62]) ++ b) := by
    show (i ++ [63, 62]) ++ b = _
    rw [List.append_assoc]
  rw [h2, cut_in h]
  rfl
/-! ### what a row of tokens has -/
theorem fold_text {B : Nat} {l r : List UInt8} {ts : List Tk} (h : partX l = some (ts, r)) (h0 : l ≠ []) (hB : 4 * l.length ≤ B) (o : List Tk) (ho : ∀ t ∈ o, t.text.length + 4 * l.length ≤ B) : ∀ t ∈ ts.foldl addV o, t.text.length + 4 * r.length ≤ B := by
  obtain ⟨h1, h2, h3⟩ := part_shape h
  have h4 := (prt_len h h0 [] []).1
  have one : ∀ (o : List Tk) (t : Tk), (∀ x ∈ o, x.text.length + 4 * r.length ≤ B) → t.text.length + 4 * r.length ≤ B → ¬ t.kind = 3 → ∀ x ∈ addV o t, x.text.length + 4 * r.length ≤ B := fun o t hx ht hk x hm => by
    rw [addV_tag hk] at hm
    rcases List.mem_append.1 hm with hm | hm
    · exact hx x hm
    · rw [List.mem_singleton.1 hm]; exact ht
  have hw : ∀ t ∈ o, t.text.length + 4 * r.length ≤ B := fun t ht => by have := ho t ht; omega
  match ts, h1, h2, h3 h0 with
  | [], _, _, _ => exact hw
  | [t], _, _, h3 =>
    intro x hx
    have ht := h3 t List.mem_cons_self
    by_cases hk : t.kind = 3
    · by_cases he : t.text = []
      · rw [List.foldl_cons, List.foldl_nil, addV_skip hk he] at hx
        exact hw x hx
      · rw [List.foldl_cons, List.foldl_nil] at hx
        rcases List.eq_nil_or_concat o with rfl | ⟨P, y, rfl⟩
        · rw [addV_first he] at hx
          rw [List.mem_singleton.1 hx]; omega
        · rw [List.concat_eq_append] at hx ho hw
          by_cases hy : y.kind = 3
          · rw [addV_join hk he hy] at hx
            rcases List.mem_append.1 hx with hx | hx
            · exact hw x (List.mem_append.2 (.inl hx))
            · rw [List.mem_singleton.1 hx]
              have h5 := ho y (List.mem_append.2 (.inr List.mem_cons_self))
              show (y.text ++ t.text).length + _ ≤ _
              rw [List.length_append]; omega
          · rw [addV_behind he hy] at hx
            rcases List.mem_append.1 hx with hx | hx
            · exact hw x hx
            · rw [List.mem_singleton.1 hx]; omega
    · exact one o t hw (by omega) hk x hx
  | [t, u], _, h2, h3 =>
    intro x hx
    have k1 : ¬ t.kind = 3 := fun e => absurd (h2 t List.mem_cons_self e) (by simp)
    have k2 : ¬ u.kind = 3 := fun e => absurd (h2 u (List.mem_cons_of_mem _ List.mem_cons_self) e) (by simp)
    have t1 := h3 t List.mem_cons_self
    have t2 := h3 u (List.mem_cons_of_mem _ List.mem_cons_self)
    exact one _ u (one o t hw (by omega) k1) (by omega) k2 x hx
  | t :: u :: q :: z, h1, _, _ => simp at h1
theorem tokFV_text (B : Nat) : ∀ (n N : Nat) (l : List UInt8) (o T : List Tk) (m : Nat) (e : Int), tokFV n N l o = (T, m, e) → 4 * l.length ≤ B → (∀ t ∈ o, t.text.length + 4 * l.length ≤ B) → ∀ t ∈ T, t.text.length ≤ B
  | 0, _, _, _, _, _, _, h, _, _ => by injection h with h _; subst h; exact fun t ht => by cases ht
  | n + 1, N, l, o, T, m, e, h, hB, ho => by
    by_cases h0 : l = []
    · subst h0
      rw [tokFV_end] at h
      injection h with h _
      subst h
      exact fun t ht => by have := ho t ht; omega
    · cases hp : partV l with
      | none => rw [tokFV_bad h0 hp] at h; injection h with h _; subst h; exact fun t ht => by cases ht
      | some q =>
        obtain ⟨ts, r⟩ := q
        by_cases h8 : 8192 < (ts.foldl addV o).length
        · rw [tokFV_long h0 hp h8] at h; injection h with h _; subst h; exact fun t ht => by cases ht
        · rw [tokFV_next h0 hp h8] at h
          rw [part_eq] at hp
          have h3 := (prt_len hp h0 [] []).1
          exact tokFV_text B n N r _ T m e h (by omega) (fold_text hp h0 hB o ho)
theorem head_fold : ∀ (ts M : List Tk), HeadOk M → HeadOk (ts.foldl addV M)
  | [], _, h => h
  | t :: ts, M, h => head_fold ts _ (glue_add [] t M h).2
theorem tokFV_head : ∀ (n N : Nat) (l : List UInt8) (o T : List Tk) (m : Nat) (e : Int), tokFV n N l o = (T, m, e) → HeadOk o → HeadOk T
  | 0, _, _, _, _, _, _, h, _ => by injection h with h _; subst h; exact fun t ht => by cases ht
  | n + 1, N, l, o, T, m, e, h, ho => by
    by_cases h0 : l = []
    · subst h0
      rw [tokFV_end] at h
      injection h with h _
      subst h
      exact ho
    · cases hp : partV l with
      | none => rw [tokFV_bad h0 hp] at h; injection h with h _; subst h; exact fun t ht => by cases ht
      | some q =>
        obtain ⟨ts, r⟩ := q
        by_cases h8 : 8192 < (ts.foldl addV o).length
        · rw [tokFV_long h0 hp h8] at h; injection h with h _; subst h; exact fun t ht => by cases ht
        · rw [tokFV_next h0 hp h8] at h
          exact tokFV_head n N r _ T m e h (head_fold ts o ho)
/-- The tokens of a text are no more than twice its bytes, their texts no longer than four times; the first is no empty text. -/
theorem tokX_has {s : List UInt8} {T : List Tk} {m : Nat} {e : Int} (h : tokX s = (T, m, e)) : T.length ≤ 2 * s.length ∧ (∀ t ∈ T, t.text.length ≤ 4 * s.length) ∧ HeadOk T := by
  rw [← tok_eq] at h
  unfold tokV at h
  split at h
  · injection h with h _
    subst h
    exact ⟨Nat.zero_le _, (fun t ht => by cases ht), fun t ht => by cases ht⟩
  · have h1 := tokFV_len _ _ _ _ _ _ _ h
    rw [List.length_nil] at h1
    exact ⟨by omega, tokFV_text (4 * s.length) _ _ _ _ _ _ _ h (Nat.le_refl _) (fun t ht => by cases ht), tokFV_head _ _ _ _ _ _ _ h fun t ht => by cases ht⟩
theorem glue_more (o : List Tk) (t : Tk) : ∀ M : List Tk, M ≠ [] → glueV o (M ++ [t]) = glueV o M ++ [t]
  | [], h => absurd rfl h
  | y :: r, _ => by
    show addV o y ++ (r ++ [t]) = addV o y ++ r ++ [t]
    rw [List.append_assoc]
theorem glue_one (o : List Tk) (t : Tk) : glueV o [t] = addV o t := List.append_nil _
end Go.Proofs.YtelhdkidnhfnbaaDoor
