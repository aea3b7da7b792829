/-
  Plain words for dates of the mail: both readings see the same zone. No condition.
-/
import Derived.Test.YtmimkcdomgoefabDoorDMailEq2
namespace Go.Proofs.YtmimkcdomgoefabDoor
open Go.RowKit

theorem zonN_no (r : List UInt8) (h : ¬ r ∈ namesL) : zonN r = none := by
  unfold namesL at h
  simp only [List.mem_cons, List.not_mem_nil, or_false, not_or] at h
  obtain ⟨h0, h1, h2, h3, h4, h5, h6, h7, h8, h9, h10, h11⟩ := h
  unfold zonN
  simp [h0, h1, h2, h3, h4, h5, h6, h7, h8, h9, h10, h11]
theorem zonN_mem {r : List UInt8} {k : Int} (h : zonN r = some k) : r ∈ namesL := by
  by_cases hm : r ∈ namesL
  · exact hm
  · rw [zonN_no r hm] at h
    cases h
theorem name_zone : ∀ r ∈ namesL, mailZoneS (r, false) = ((zonN r).getD 0 * 3600, ([], false)) := by decide
theorem name_sign : ∀ r ∈ namesL, ¬ (at0B r 0 = 45 ∨ at0B r 0 = 43) := by decide
theorem runLet_none {r : List UInt8} (q : Bool) (h : at0B r 0 = 45 ∨ at0B r 0 = 43) : runS letB 0 3 ((r, q) : St) = ([], (r, q)) := by
  have := runS_ok (p := letB) (a := 0) (b := 3) (t := []) (r := r) q (fun x hx => by simp at hx) (Nat.zero_le _) (Nat.zero_le _) (.inr (fun x t e => by
    subst e
    rw [at_cons] at h
    exact (let_no _).2 (by omega)))
  exact this
theorem offS_false {c : Bool} {s : St} (h : (offS c s).2.2 = false) : s.2 = false := by
  unfold offS at h
  simp only at h
  obtain ⟨d1, _⟩ := numToS_inv h
  cases c with
  | true =>
    simp only [if_true] at d1
    obtain ⟨m1, _⟩ := mustS_inv d1
    obtain ⟨b1, _⟩ := numToS_inv m1
    exact (signS_inv b1).1
  | false =>
    simp only [Bool.false_eq_true, if_false] at d1
    obtain ⟨b1, _⟩ := numToS_inv d1
    exact (signS_inv b1).1
theorem zone_fwd {r : List UInt8} {n : Int} (h : namedR r = some n) : mailZoneS (r, false) = (n, ([], false)) := by
  unfold namedR at h
  cases hz : zonN r with
  | some k =>
    rw [hz] at h
    injection h with h
    rw [name_zone r (zonN_mem hz), hz, ← h]
    show (k * 3600, _) = _
    rw [Int.mul_comm]
  | none =>
    rw [hz] at h
    simp only at h
    split at h
    · rename_i h5
      unfold zoneR at h
      split at h
      · rename_i hc
        obtain ⟨g1, g2, g3, g4, g5, g6, g7⟩ := hc
        obtain ⟨p1, p2⟩ := numR_two g2 g4
        obtain ⟨q1, q2⟩ := numR_two g3 g6
        have hl : (r.drop 3).take 2 = r.drop 3 := List.take_of_length_le (by omega)
        have hs : at0B r 0 = 45 ∨ at0B r 0 = 43 := by omega
        have hd : offD r := ⟨by omega, hs, p1, by omega, by rw [hl]; exact q1, by rw [hl]; omega⟩
        obtain ⟨e2, e1⟩ := offD_ok hd
        injection h with h
        unfold mailZoneS
        rw [runLet_none false hs]
        simp only [if_true]
        refine Prod.ext ?_ ?_
        · rw [e1, ← h, hl, p2, q2]
          split <;> omega
        · rw [e2, List.drop_eq_nil_of_le (by omega)]
      · cases h
    · cases h
theorem zone_bwd {r : List UInt8} {q : Bool} (h : (mailZoneS (r, q)).2 = ([], false)) : q = false ∧ namedR r = some (mailZoneS (r, q)).1 ∧ NoB 32 r := by
  have hb : (mailZoneS (r, q)).2.2 = false := by rw [h]
  cases hq : q with
  | true =>
    exfalso
    subst hq
    unfold mailZoneS at hb
    have hr : (runS letB 0 3 ((r, true) : St)).2.2 = true := by
      unfold runS runB
      simp
    simp only at hb
    split at hb
    · have := offS_false hb
      rw [hr] at this
      cases this
    · split at hb
      · cases hb
      · rw [hr] at hb
        cases hb
  | false =>
    subst hq
    refine ⟨rfl, ?_⟩
    have hr : (runS letB 0 3 ((r, false) : St)).2.2 = false := by
      unfold runS runB
      simp
    obtain ⟨_, t, r', e1, e2, e3, e4, e5⟩ := runS_inv hr
    have e1' : r = t ++ r' := e1
    unfold mailZoneS at h ⊢
    rw [e5] at h ⊢
    simp only at h ⊢
    by_cases ht : t = []
    · rw [if_pos ht] at h ⊢
      subst ht
      have e1'' : r = r' := e1'
      subst e1''
      have hb' : (offS false (r, false)).2.2 = false := by rw [h]
      obtain ⟨hd, d2, d3⟩ := offD_inv hb'
      obtain ⟨k5, ks, k1, k2, k3, k4⟩ := hd
      have hl5 : r.length = 5 := by
        rw [d2] at h
        have := len_drop (congrArg Prod.fst h)
        omega
      have hl : (r.drop 3).take 2 = r.drop 3 := List.take_of_length_le (by simp; omega)
      rw [hl] at k3 k4 d3
      have n1 := numR_yes (l := (r.drop 1).take 2) (by simp; omega) (by simp; omega) k1
      have n2 := numR_yes (l := r.drop 3) (by simp; omega) (by simp; omega) k3
      constructor
      · unfold namedR
        rw [zonN_no r (fun hm => name_sign r hm ks)]
        simp only
        rw [if_pos hl5]
        unfold zoneR
        rw [n1, n2, if_pos ⟨by omega, by simp; omega, by simp; omega, by omega, by omega, by omega, by omega⟩, d3]
        congr 1
        split <;> omega
      · intro x hx
        obtain ⟨i, hi, rfl⟩ := List.getElem_of_mem hx
        have i0 : i = 0 ∨ (1 ≤ i ∧ i < 3) ∨ 3 ≤ i := by omega
        rcases i0 with rfl | ⟨i1, i2⟩ | i3
        · intro e
          have : at0B r 0 = 32 := by
            unfold at0B
            rw [show r.getD 0 0 = r[0] by simp [List.getD, hi]]
            exact e
          omega
        · have := k1 (i - 1) (by simp; omega)
          simp only [List.getElem_take, List.getElem_drop, show 1 + (i - 1) = i by omega] at this
          omega
        · have := k3 (i - 3) (by simp; omega)
          simp only [List.getElem_drop, show 3 + (i - 3) = i by omega] at this
          omega
    · rw [if_neg ht] at h ⊢
      cases hz : zonN t with
      | none =>
        rw [hz] at h
        simp only at h
        cases congrArg Prod.snd h
      | some k =>
        rw [hz] at h
        simp only at h ⊢
        have hr' : r' = [] := congrArg Prod.fst h
        subst hr'
        rw [List.append_nil] at e1'
        subst e1'
        refine ⟨?_, let_noB e2 (by omega)⟩
        unfold namedR
        rw [hz]
        show some (3600 * k) = some (k * 3600)
        rw [Int.mul_comm]
end Go.Proofs.YtmimkcdomgoefabDoor
