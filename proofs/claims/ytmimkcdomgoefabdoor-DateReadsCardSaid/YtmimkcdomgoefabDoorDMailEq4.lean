/-
  Plain words for dates of the mail: weekdays, months, years, times of day. No condition.
-/
import Derived.Test.YtmimkcdomgoefabDoorDMailEq3
namespace Go.Proofs.YtmimkcdomgoefabDoor
open Go.RowKit

theorem idxF_no {s : List UInt8} : ∀ (L : List (List UInt8)) (k : Nat), ¬ s ∈ L → idxF s L k = -1
  | [], _, _ => rfl
  | x :: r, k, h => by
    unfold idxF
    rw [if_neg (fun e => h (by rw [e]; simp)), idxF_no r (k + 1) (fun e => h (by simp [e]))]
theorem idx_mem {L : List (List UInt8)} {s : List UInt8} (h : 0 ≤ idxR L s) : s ∈ L := by
  by_cases hm : s ∈ L
  · exact hm
  · have := idxF_no L 0 hm
    unfold idxR at h
    rw [this] at h
    omega
theorem wds_all : ∀ a ∈ wdsL, a = a.take 3 ++ [44] ∧ (∀ x ∈ a.take 3, letB x.toNat = true) ∧ (a.take 3).length = 3 ∧ wdB (a.take 3) = true ∧ (∀ x ∈ a, ¬ x.toNat = 32) ∧ 0 ≤ idxR wdsL a := by decide
theorem mons_all : ∀ m ∈ monsL, (∀ x ∈ m, letB x.toNat = true) ∧ m.length = 3 ∧ monN m = 1 + idxR monsL m := by decide
theorem mon_eq (m : List UInt8) : monN m = 1 + idxR monsL m := by
  by_cases hm : m ∈ monsL
  · exact (mons_all m hm).2.2
  · have h1 : idxR monsL m = -1 := idxF_no monsL 0 hm
    rw [h1]
    unfold monsL at hm
    simp only [List.mem_cons, List.not_mem_nil, or_false, not_or] at hm
    obtain ⟨h0, h1, h2, h3, h4, h5, h6, h7, h8, h9, h10, h11⟩ := hm
    unfold monN
    simp [h0, h1, h2, h3, h4, h5, h6, h7, h8, h9, h10, h11]
theorem wd_mem {t : List UInt8} (h : wdB t = true) : (t ++ [44]) ∈ wdsL := by
  unfold wdB at h
  simp only [Bool.or_eq_true, beq_iff_eq] at h
  rcases h with ((((((rfl | rfl) | rfl) | rfl) | rfl) | rfl) | rfl) <;> decide

theorem week_yes {a r : List UInt8} {c : UInt8} (ha : a ∈ wdsL) (hc : c.toNat = 32) : weekdayS (a ++ c :: r, false) = (r, false) := by
  obtain ⟨h1, h2, h3, h4, _, _⟩ := wds_all a ha
  have hr : runS letB 0 3 ((a ++ c :: r, false) : St) = (a.take 3, (44 :: c :: r, false)) := by
    have := runS_ok (p := letB) (a := 0) (b := 3) (t := a.take 3) (r := 44 :: c :: r) false h2 (Nat.zero_le _) (by omega) (.inl h3)
    have e : a.take 3 ++ 44 :: c :: r = a ++ c :: r := by
      have e1 : (a.take 3 ++ [44]) ++ c :: r = a ++ c :: r := by rw [← h1]
      rw [← e1]
      simp
    rwa [e] at this
  unfold weekdayS
  rw [hr]
  simp only
  rw [if_neg (by intro e; rw [e] at h3; simp at h3), h4, show (false || !true) = false from rfl, must_ok (by decide)]
  exact must_ok hc
theorem week_no {l : List UInt8} (q : Bool) (h : Ends letB l) : weekdayS (l, q) = (l, q) := by
  have hr : runS letB 0 3 ((l, q) : St) = ([], (l, q)) := runS_ok (p := letB) (a := 0) (b := 3) (t := []) (r := l) q (fun x hx => by simp at hx) (Nat.zero_le _) (Nat.zero_le _) (.inr h)
  unfold weekdayS
  rw [hr]
  rfl
theorem week_inv {s : St} (h : (weekdayS s).2 = false) : s.2 = false ∧ (weekdayS s = (s.1, false) ∨ ∃ a c r, s.1 = a ++ c :: r ∧ a ∈ wdsL ∧ c.toNat = 32 ∧ weekdayS s = (r, false)) := by
  obtain ⟨l, q⟩ := s
  have hr : (runS letB 0 3 ((l, false) : St)).2.2 = false := by unfold runS runB; simp
  obtain ⟨_, t, r', e1, e2, e3, e4, e5⟩ := runS_inv hr
  have hq : runS letB 0 3 ((l, q) : St) = (t, (r', q)) := by
    have h1 : (runS letB 0 3 ((l, q) : St)).1 = (runS letB 0 3 ((l, false) : St)).1 := rfl
    have h2 : (runS letB 0 3 ((l, q) : St)).2.1 = (runS letB 0 3 ((l, false) : St)).2.1 := rfl
    have h3 : (runS letB 0 3 ((l, q) : St)).2.2 = q := by unfold runS runB; simp
    refine Prod.ext (by rw [h1, e5]) (Prod.ext (by rw [h2, e5]) h3)
  have e1' : l = t ++ r' := e1
  by_cases ht : t = []
  · have hw : weekdayS (l, q) = (r', q) := by
      unfold weekdayS
      rw [hq]
      simp only [if_pos ht]
    rw [hw] at h
    subst ht
    have e : l = r' := e1'
    have hq' : q = false := h
    refine ⟨hq', .inl ?_⟩
    rw [hw, ← e, hq']
  · have hw : weekdayS (l, q) = mustS 32 (mustS 44 (r', q || !wdB t)) := by
      unfold weekdayS
      rw [hq]
      simp only [if_neg ht]
    rw [hw] at h
    obtain ⟨m1, c, r, m2, m3, m4⟩ := must_inv h
    obtain ⟨n1, c', r2, n2, n3, n4⟩ := must_inv m1
    have n2' : r' = c' :: r2 := n2
    rw [n4] at m2
    have m2' : r2 = c :: r := m2
    have n1' : (q || !wdB t) = false := n1
    simp only [Bool.or_eq_false_iff, Bool.not_eq_false'] at n1'
    have hc' : c' = 44 := UInt8.toNat_inj.1 n3
    refine ⟨n1'.1, .inr ⟨t ++ [44], c, r, ?_, wd_mem n1'.2, m3, by rw [hw, m4]⟩⟩
    show l = _
    rw [e1', n2', m2', hc']
    simp

theorem numR_val {t : List UInt8} (h1 : 1 ≤ t.length) (h9 : t.length ≤ 9) (h : 0 ≤ numR t) : AllDig t ∧ numR t = (valN t : Int) := by
  by_cases hd : AllDig t
  · exact ⟨hd, numR_yes h1 h9 hd⟩
  · rw [numR_no hd] at h
    omega
theorem ends_32 {c : UInt8} {r : List UInt8} (hc : c.toNat = 32) : Ends digB (c :: r) ∧ Ends letB (c :: r) := by
  constructor
  · intro x t e
    injection e with e1 _
    subst e1
    exact (dig_no _).2 (by omega)
  · intro x t e
    injection e with e1 _
    subst e1
    exact (let_no _).2 (by omega)
theorem year_ok {y r : List UInt8} (hd : AllDig y) (hl : y.length = 4 ∨ y.length = 2) (he : Ends digB r) : mailYearS (y ++ r, false) = (yearR y, (r, false)) := by
  have hr : runS digB 2 4 ((y ++ r, false) : St) = (y, (r, false)) := runS_ok false (dig_all.1 hd) (by omega) (by omega) (.inr he)
  have hn := numR_yes (l := y) (by omega) (by omega) hd
  unfold mailYearS yearR
  rw [hr, hn]
  simp only
  rw [if_neg (by omega)]
  rcases hl with h | h
  · rw [if_neg (by omega), if_neg (by omega), if_neg (by omega)]
  · rw [if_pos h]
    by_cases h50 : 50 ≤ (valN y : Int)
    · rw [if_pos h50, if_pos ⟨h, h50⟩]
    · rw [if_neg h50, if_neg (fun e => h50 e.2), if_pos ⟨h, by omega⟩]
theorem year_inv {s : St} (h : (mailYearS s).2.2 = false) : s.2 = false ∧ ∃ y r, s.1 = y ++ r ∧ AllDig y ∧ (y.length = 4 ∨ y.length = 2) ∧ mailYearS s = (yearR y, (r, false)) := by
  have hb : (runS digB 2 4 s).2.2 = false := by
    unfold mailYearS at h
    simp only at h
    split at h
    · cases h
    · split at h
      · split at h <;> exact h
      · exact h
  obtain ⟨q, y, r, e1, e2, e3, e4, e5⟩ := runS_inv hb
  have hd := dig_all.2 e2
  have hn := numR_yes (l := y) (by omega) (by omega) hd
  have h3 : ¬ y.length = 3 := fun e => by
    unfold mailYearS at h
    rw [e5] at h
    simp only [if_pos e] at h
    cases h
  refine ⟨q, y, r, e1, hd, by omega, ?_⟩
  unfold mailYearS yearR
  rw [e5, hn]
  simp only
  rw [if_neg h3]
  by_cases h2 : y.length = 2
  · rw [if_pos h2]
    by_cases h50 : 50 ≤ (valN y : Int)
    · rw [if_pos h50, if_pos ⟨h2, h50⟩]
    · rw [if_neg h50, if_neg (fun e => h50 e.2), if_pos ⟨h2, by omega⟩]
  · rw [if_neg h2, if_neg (fun e => h2 e.1), if_neg (fun e => h2 e.1)]

/-- Hours, minutes, seconds of a mail's date. -/
def todS (s : St) : (Int × Int × Int) × St :=
  let h := numS 2 s
  let m := numS 2 (mustS 58 h.2)
  let e := if hasB 58 m.2 = true then numS 2 (hasS 58 m.2) else (0, hasS 58 m.2)
  (((h.1 : Int), (m.1 : Int), (e.1 : Int)), e.2)
theorem tod_ok {t r : List UInt8} {c : UInt8} {h i s : Int} (hc : c.toNat = 32) (ht : timeR (splitR 58 t) = some (h, i, s)) (h0 : 0 ≤ h) (i0 : 0 ≤ i) (s0 : 0 ≤ s) : todS (t ++ c :: r, false) = ((h, i, s), (c :: r, false)) := by
  unfold timeR at ht
  split at ht
  · rename_i a b hs
    split at ht
    · rename_i hl
      obtain ⟨x, q, rfl, hx, _, hs2⟩ := split_more hs
      obtain ⟨rfl, _⟩ := split_one hs2
      simp only [Option.some.injEq, Prod.mk.injEq] at ht
      obtain ⟨rfl, rfl, rfl⟩ := ht
      obtain ⟨d1, v1⟩ := numR_val (by omega) (by omega) h0
      obtain ⟨d2, v2⟩ := numR_val (by omega) (by omega) i0
      have hb : ¬ hasB 58 ((c :: r, false) : St) = true := fun e => by
        have := ((hasB_iff 58 _).1 e).2
        simp only [at_cons] at this
        omega
      unfold todS
      simp only [List.append_assoc, List.cons_append]
      rw [num_ok hl.1 d1]
      simp only
      rw [must_ok hx, num_ok hl.2 d2]
      simp only
      rw [if_neg hb, hasS_no hb, v1, v2]
      rfl
    · cases ht
  · rename_i a b e hs
    split at ht
    · rename_i hl
      obtain ⟨x, q, rfl, hx, _, hs2⟩ := split_more hs
      obtain ⟨x', q', rfl, hx', _, hs3⟩ := split_more hs2
      obtain ⟨rfl, _⟩ := split_one hs3
      simp only [Option.some.injEq, Prod.mk.injEq] at ht
      obtain ⟨rfl, rfl, rfl⟩ := ht
      obtain ⟨d1, v1⟩ := numR_val (by omega) (by omega) h0
      obtain ⟨d2, v2⟩ := numR_val (by omega) (by omega) i0
      obtain ⟨d3, v3⟩ := numR_val (by omega) (by omega) s0
      have hb : hasB 58 ((x' :: (q' ++ c :: r), false) : St) = true := (hasB_iff 58 _).2 ⟨by simp, hx'⟩
      unfold todS
      simp only [List.append_assoc, List.cons_append]
      rw [num_ok hl.1 d1]
      simp only
      rw [must_ok hx, num_ok hl.2.1 d2]
      simp only
      rw [if_pos hb, hasS_yes hb]
      simp only [List.drop_succ_cons, List.drop_zero]
      rw [num_ok hl.2.2 d3, v1, v2, v3]
    · cases ht
  · cases ht
theorem tod_inv {s : St} (h : (todS s).2.2 = false) : s.2 = false ∧ ∃ t r, s.1 = t ++ r ∧ NoB 32 t ∧ timeR (splitR 58 t) = some (todS s).1 ∧ todS s = ((todS s).1, (r, false)) := by
  unfold todS at h ⊢
  simp only at h ⊢
  by_cases hb : hasB 58 (numS 2 (mustS 58 (numS 2 s).2)).2 = true
  · rw [if_pos hb, hasS_yes hb] at h ⊢
    obtain ⟨a1, t3, r3, a2, a3, a4, a5⟩ := num_inv h
    have a1' : (numS 2 (mustS 58 (numS 2 s).2)).2.2 = false := a1
    obtain ⟨b1, t2, r2, b2, b3, b4, b5⟩ := num_inv a1'
    obtain ⟨c1, x, r1, c2, c3, c4⟩ := must_inv b1
    obtain ⟨d1, t1, r0, d2, d3, d4, d5⟩ := num_inv c1
    rw [d5] at c2
    have c2' : r0 = x :: r1 := c2
    rw [c4] at b2
    have b2' : r1 = t2 ++ r2 := b2
    rw [b5] at hb a2
    obtain ⟨k1, k2⟩ := (hasB_iff 58 _).1 hb
    cases hr2 : r2 with
    | nil => rw [hr2] at k1; simp at k1
    | cons y r4 =>
      rw [hr2] at a2 k2
      have a2' : r4 = t3 ++ r3 := a2
      have hy : y.toNat = 58 := k2
      have hsp : splitR 58 (t1 ++ x :: (t2 ++ y :: t3)) = [t1, t2, t3] := by
        rw [splitR_cons (dig_noB d4 (by omega)) c3, splitR_cons (dig_noB b4 (by omega)) hy, splitR_end (dig_noB a4 (by omega))]
      refine ⟨d1, t1 ++ x :: (t2 ++ y :: t3), r3, ?_, ?_, ?_, ?_⟩
      · rw [d2, c2', b2', hr2, a2']
        simp
      · intro z hz
        simp only [List.mem_append, List.mem_cons] at hz
        rcases hz with hz | rfl | hz | rfl | hz
        · exact dig_noB d4 (by omega) z hz
        · omega
        · exact dig_noB b4 (by omega) z hz
        · omega
        · exact dig_noB a4 (by omega) z hz
      · rw [hsp, a5, b5, d5]
        unfold timeR
        simp only
        rw [if_pos ⟨d3, b3, a3⟩, numR_yes (by omega) (by omega) d4, numR_yes (by omega) (by omega) b4, numR_yes (by omega) (by omega) a4]
      · rw [a5]
  · rw [if_neg hb, hasS_no hb] at h ⊢
    obtain ⟨b1, t2, r2, b2, b3, b4, b5⟩ := num_inv h
    obtain ⟨c1, x, r1, c2, c3, c4⟩ := must_inv b1
    obtain ⟨d1, t1, r0, d2, d3, d4, d5⟩ := num_inv c1
    rw [d5] at c2
    have c2' : r0 = x :: r1 := c2
    rw [c4] at b2
    have b2' : r1 = t2 ++ r2 := b2
    have hsp : splitR 58 (t1 ++ x :: t2) = [t1, t2] := by
      rw [splitR_cons (dig_noB d4 (by omega)) c3, splitR_end (dig_noB b4 (by omega))]
    refine ⟨d1, t1 ++ x :: t2, r2, ?_, ?_, ?_, ?_⟩
    · rw [d2, c2', b2']
      simp
    · intro z hz
      simp only [List.mem_append, List.mem_cons] at hz
      rcases hz with hz | rfl | hz
      · exact dig_noB d4 (by omega) z hz
      · omega
      · exact dig_noB b4 (by omega) z hz
    · rw [hsp, b5, d5]
      unfold timeR
      simp only
      rw [if_pos ⟨d3, b3⟩, numR_yes (by omega) (by omega) d4, numR_yes (by omega) (by omega) b4]
      rfl
    · rw [b5]
end Go.Proofs.YtmimkcdomgoefabDoor
