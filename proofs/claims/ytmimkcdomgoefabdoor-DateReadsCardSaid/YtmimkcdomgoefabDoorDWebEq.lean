/-
  Plain words: the program's reading of a date of the web (webS) and the document's (webR) are the same. No condition.
-/
import Derived.Test.YtmimkcdomgoefabDoorDRefWeb
import Derived.Test.YtmimkcdomgoefabDoorDWebM
namespace Go.Proofs.YtmimkcdomgoefabDoor
open Go.RowKit

theorem at_drop (l : List UInt8) (a b : Nat) : at0B (l.drop a) b = at0B l (a + b) := by
  unfold at0B
  simp [List.getD, List.getElem?_drop]
theorem at_cons (c : UInt8) (r : List UInt8) : at0B (c :: r) 0 = c.toNat := rfl

theorem lead_full (p : Nat → Bool) : ∀ (m : Nat) (l : List UInt8), m ≤ l.length → (∀ i (h : i < l.length), i < m → p l[i].toNat = true) → lead p m l = m
  | 0, _, _, _ => rfl
  | m + 1, [], h, _ => by simp at h
  | m + 1, x :: r, h, hp => by
    have h0 := hp 0 (by simp) (by omega)
    unfold lead
    rw [if_pos (by simpa using h0), lead_full p m r (by simpa using h) (fun i hi him => by
      have := hp (i + 1) (by simp; omega) (by omega)
      simpa using this)]

theorem numS_ok {n : Nat} {l : List UInt8} (b : Bool) (h : n ≤ l.length) (hd : AllDig (l.take n)) : numS n (l, b) = (valN (l.take n), (l.drop n, b)) := by
  have hl : lead digB n l = n := lead_full digB n l h (fun i hi him => by
    have := hd i (by simp; omega)
    rw [List.getElem_take] at this
    exact (dig_iff _).2 this)
  unfold numS runT runL runB
  simp only [hl, Nat.lt_irrefl, if_false]
theorem numS_inv {n : Nat} {s : St} (h : (numS n s).2.2 = false) : s.2 = false ∧ n ≤ s.1.length ∧ AllDig (s.1.take n) ∧ numS n s = (valN (s.1.take n), (s.1.drop n, false)) := by
  obtain ⟨l, b⟩ := s
  have hle := lead_le digB n l
  have hn : ¬ lead digB n l < n := fun hlt => by
    unfold numS runB at h
    simp only [if_pos hlt] at h
    cases h
  have hb : b = false := by
    unfold numS runB at h
    simp only [if_neg hn] at h
    exact h
  have hl : lead digB n l = n := by omega
  have hd : AllDig (l.take n) := fun i hi => by
    rw [List.getElem_take]
    have hi' : i < n ∧ i < l.length := by simp at hi; omega
    exact (dig_iff _).1 (lead_fits digB n l i hi'.2 (by omega))
  subst hb
  exact ⟨rfl, by show n ≤ l.length; omega, hd, numS_ok false (by omega) hd⟩

theorem hasB_iff (x : Nat) (s : St) : hasB x s = true ↔ 1 ≤ s.1.length ∧ at0B s.1 0 = x := by
  obtain ⟨l, b⟩ := s
  cases l with
  | nil => simp [hasB]
  | cons c r => simp [hasB, at_cons]
theorem hasS_yes {x : Nat} {s : St} (h : hasB x s = true) : hasS x s = (s.1.drop 1, s.2) := by
  obtain ⟨l, b⟩ := s
  cases l with
  | nil => simp [hasB] at h
  | cons c r =>
    have hc : c.toNat = x := by simpa [hasB] using h
    show (if c.toNat = x then (r, b) else (c :: r, b)) = _
    rw [if_pos hc]
    rfl
theorem hasS_no {x : Nat} {s : St} (h : ¬ hasB x s = true) : hasS x s = s := by
  obtain ⟨l, b⟩ := s
  cases l with
  | nil => rfl
  | cons c r =>
    have hc : ¬ c.toNat = x := by simpa [hasB] using h
    show (if c.toNat = x then (r, b) else (c :: r, b)) = _
    rw [if_neg hc]
theorem mustS_ok {x : Nat} {l : List UInt8} (b : Bool) (h1 : 1 ≤ l.length) (h : at0B l 0 = x) : mustS x (l, b) = (l.drop 1, b) := by
  have hb : hasB x (l, b) = true := (hasB_iff x (l, b)).2 ⟨h1, h⟩
  unfold mustS
  rw [if_pos hb, hasS_yes hb]
theorem mustS_inv {x : Nat} {s : St} (h : (mustS x s).2 = false) : s.2 = false ∧ 1 ≤ s.1.length ∧ at0B s.1 0 = x ∧ mustS x s = (s.1.drop 1, false) := by
  obtain ⟨l, b⟩ := s
  by_cases hb : hasB x (l, b) = true
  · have hm : mustS x (l, b) = (l.drop 1, b) := by
      unfold mustS
      rw [if_pos hb, hasS_yes hb]
    rw [hm] at h
    obtain ⟨h1, h2⟩ := (hasB_iff x (l, b)).1 hb
    have hb' : b = false := h
    subst hb'
    exact ⟨rfl, h1, h2, hm⟩
  · unfold mustS at h
    rw [if_neg hb] at h
    cases h
theorem numToS_inv {most : Nat} {s : St} (h : (numToS most s).2.2 = false) : s.2 = false ∧ 2 ≤ s.1.length ∧ AllDig (s.1.take 2) ∧ valN (s.1.take 2) ≤ most ∧ numToS most s = (valN (s.1.take 2), (s.1.drop 2, false)) := by
  by_cases hm : most < (numS 2 s).1
  · unfold numToS at h
    simp only [if_pos hm] at h
    cases h
  · have h' : (numS 2 s).2.2 = false := by
      unfold numToS at h
      simp only [if_neg hm] at h
      exact h
    obtain ⟨h1, h2, h3, h4⟩ := numS_inv h'
    rw [h4] at hm
    refine ⟨h1, h2, h3, by simpa using hm, ?_⟩
    unfold numToS
    rw [h4]
    simp only [if_neg hm]
theorem numToS_ok {most : Nat} {l : List UInt8} (h2 : 2 ≤ l.length) (hd : AllDig (l.take 2)) (hm : valN (l.take 2) ≤ most) : numToS most (l, false) = (valN (l.take 2), (l.drop 2, false)) := by
  unfold numToS
  rw [numS_ok false h2 hd]
  simp only [if_neg (Nat.not_lt.2 hm)]
theorem signS_inv {s : St} (h : (signS s).2.2 = false) : s.2 = false ∧ 1 ≤ s.1.length ∧ ((at0B s.1 0 = 45 ∧ signS s = (-1, (s.1.drop 1, false))) ∨ (at0B s.1 0 = 43 ∧ signS s = (1, (s.1.drop 1, false)))) := by
  by_cases hb : hasB 45 s = true
  · have hs : signS s = (-1, (s.1.drop 1, s.2)) := by unfold signS; rw [if_pos hb, hasS_yes hb]
    rw [hs] at h
    obtain ⟨h1, h2⟩ := (hasB_iff 45 s).1 hb
    have h' : s.2 = false := h
    exact ⟨h', h1, .inl ⟨h2, by rw [hs, h']⟩⟩
  · have hs : signS s = (1, mustS 43 s) := by unfold signS; rw [if_neg hb, hasS_no hb]
    rw [hs] at h
    obtain ⟨h1, h2, h3, h4⟩ := mustS_inv h
    exact ⟨h1, h2, .inr ⟨h3, by rw [hs, h4]⟩⟩
theorem signS_minus {l : List UInt8} (h1 : 1 ≤ l.length) (h : at0B l 0 = 45) : signS (l, false) = (-1, (l.drop 1, false)) := by
  have hb : hasB 45 (l, false) = true := (hasB_iff 45 (l, false)).2 ⟨h1, h⟩
  unfold signS
  rw [if_pos hb, hasS_yes hb]
theorem signS_plus {l : List UInt8} (h1 : 1 ≤ l.length) (h : at0B l 0 = 43) : signS (l, false) = (1, (l.drop 1, false)) := by
  have hb : ¬ hasB 45 (l, false) = true := fun hh => by
    have := ((hasB_iff 45 (l, false)).1 hh).2
    simp only at this
    omega
  unfold signS
  rw [if_neg hb, hasS_no hb, mustS_ok false h1 h]

/-- What a zone of sign, hours, minutes asks of the bytes. -/
def offC (r : List UInt8) : Prop := 6 ≤ r.length ∧ (at0B r 0 = 45 ∨ at0B r 0 = 43) ∧ AllDig ((r.drop 1).take 2) ∧ valN ((r.drop 1).take 2) ≤ 23 ∧ at0B r 3 = 58 ∧ AllDig ((r.drop 4).take 2) ∧ valN ((r.drop 4).take 2) ≤ 59
theorem offS_inv {r : List UInt8} (h : (offS true (r, false)).2.2 = false) : offC r ∧ (offS true (r, false)).2 = (r.drop 6, false) ∧ (offS true (r, false)).1 = (if at0B r 0 = 45 then -1 else 1) * ((valN ((r.drop 1).take 2) : Int) * 3600 + (valN ((r.drop 4).take 2) : Int) * 60) := by
  unfold offS at h ⊢
  simp only [if_true] at h ⊢
  obtain ⟨d1, d2, d3, d4, d5⟩ := numToS_inv h
  obtain ⟨m1, m2, m3, m4⟩ := mustS_inv d1
  obtain ⟨b1, b2, b3, b4, b5⟩ := numToS_inv m1
  obtain ⟨a1, a2, a3⟩ := signS_inv b1
  have hs : (signS (r, false)).2 = (r.drop 1, false) := by
    rcases a3 with ⟨_, e⟩ | ⟨_, e⟩ <;> rw [e]
  rw [hs] at b2 b3 b4 b5
  rw [hs, b5] at m2 m3 m4
  rw [hs, b5, m4] at d2 d3 d4 d5
  simp only [List.drop_drop, List.length_drop, at_drop] at b2 m2 m3 d2 d3 d4 d5
  rw [hs, b5, m4]
  simp only [List.drop_drop]
  rw [d5]
  refine ⟨⟨by omega, ?_, b3, b4, m3, d3, d4⟩, rfl, ?_⟩
  · rcases a3 with ⟨e, _⟩ | ⟨e, _⟩
    · exact .inl e
    · exact .inr e
  · rcases a3 with ⟨e1, e⟩ | ⟨e1, e⟩
    · rw [e, if_pos e1]
    · rw [e, if_neg (by simp only at e1; omega)]
theorem offS_ok {r : List UInt8} (h : offC r) : (offS true (r, false)).2 = (r.drop 6, false) ∧ (offS true (r, false)).1 = (if at0B r 0 = 45 then -1 else 1) * ((valN ((r.drop 1).take 2) : Int) * 3600 + (valN ((r.drop 4).take 2) : Int) * 60) := by
  obtain ⟨h6, hs, d1, v1, k3, d2, v2⟩ := h
  have hsg : signS (r, false) = ((if at0B r 0 = 45 then -1 else 1), (r.drop 1, false)) := by
    rcases hs with e | e
    · rw [signS_minus (by omega) e, if_pos e]
    · rw [signS_plus (by omega) e, if_neg (by omega)]
  unfold offS
  simp only [if_true]
  rw [hsg]
  simp only
  rw [numToS_ok (by simp; omega) d1 v1]
  simp only [List.drop_drop]
  rw [mustS_ok false (by simp; omega) (by rw [at_drop]; exact k3)]
  simp only [List.drop_drop]
  rw [numToS_ok (by simp; omega) d2 v2]
  simp only [List.drop_drop]
  exact ⟨trivial, trivial⟩

theorem len_drop {l : List UInt8} {n : Nat} (h : l.drop n = []) : l.length ≤ n := by
  have := congrArg List.length h
  simp at this
  omega
theorem numR_two {l : List UInt8} (h2 : l.length = 2) (h : 0 ≤ numR l) : AllDig l ∧ numR l = (valN l : Int) := by
  by_cases hd : AllDig l
  · exact ⟨hd, numR_yes (by omega) (by omega) hd⟩
  · rw [numR_no hd] at h
    omega

/-- Behind the seconds: the same moment. -/
theorem tail_eq (y m d h mi s : Int) (r : List UInt8) : momS y m d h mi s (webZoneS (r, false)).1 (webZoneS (r, false)).2 = restR y m d h mi s r := by
  by_cases h90 : hasB 90 (r, false) = true
  · have hz : webZoneS (r, false) = (0, (r.drop 1, false)) := by unfold webZoneS; rw [if_pos h90, hasS_yes h90]
    rw [hz]
    obtain ⟨k1, k2⟩ := (hasB_iff 90 (r, false)).1 h90
    by_cases hr : r.drop 1 = []
    · have hl := len_drop hr
      obtain ⟨c, rfl⟩ : ∃ c, r = [c] := by
        cases r with
        | nil => simp at k1
        | cons c t => exact ⟨c, by simp at hl; rw [hl]⟩
      have hc : c = 90 := UInt8.toNat_inj.1 k2
      subst hc
      unfold restR toldR
      rw [if_pos (.inl rfl)]
      rfl
    · have hm : momS y m d h mi s 0 (r.drop 1, false) = none := by
        unfold momS
        rw [if_neg (fun hh => hr (congrArg Prod.fst hh.2.1))]
      rw [show (((0, (r.drop 1, false)) : Int × St).2) = (r.drop 1, false) from rfl, show (((0, (r.drop 1, false)) : Int × St).1) = 0 from rfl, hm]
      unfold restR
      rw [if_neg (fun hh => by
        rcases hh with rfl | rfl
        · exact hr rfl
        · exact hr rfl)]
      split
      · have : zoneR (at0B r 0) ((r.drop 1).take 2) (r.drop 4) = none := by
          unfold zoneR
          rw [if_neg (fun hh => by
            have e : at0B r 0 = 90 := k2
            have := hh.1
            omega)]
        rw [this]
      · rfl
  by_cases h122 : hasB 122 (r, false) = true
  · have hz : webZoneS (r, false) = (0, (r.drop 1, false)) := by unfold webZoneS; rw [if_neg h90, hasS_no h90, if_pos h122, hasS_yes h122]
    rw [hz]
    obtain ⟨k1, k2⟩ := (hasB_iff 122 (r, false)).1 h122
    by_cases hr : r.drop 1 = []
    · have hl := len_drop hr
      obtain ⟨c, rfl⟩ : ∃ c, r = [c] := by
        cases r with
        | nil => simp at k1
        | cons c t => exact ⟨c, by simp at hl; rw [hl]⟩
      have hc : c = 122 := UInt8.toNat_inj.1 k2
      subst hc
      unfold restR toldR
      rw [if_pos (.inr rfl)]
      rfl
    · have hm : momS y m d h mi s 0 (r.drop 1, false) = none := by
        unfold momS
        rw [if_neg (fun hh => hr (congrArg Prod.fst hh.2.1))]
      rw [show (((0, (r.drop 1, false)) : Int × St).2) = (r.drop 1, false) from rfl, show (((0, (r.drop 1, false)) : Int × St).1) = 0 from rfl, hm]
      unfold restR
      rw [if_neg (fun hh => by
        rcases hh with rfl | rfl
        · exact hr rfl
        · exact hr rfl)]
      split
      · have : zoneR (at0B r 0) ((r.drop 1).take 2) (r.drop 4) = none := by
          unfold zoneR
          rw [if_neg (fun hh => by
            have e : at0B r 0 = 122 := k2
            have := hh.1
            omega)]
        rw [this]
      · rfl
  have hz : webZoneS (r, false) = offS true (r, false) := by unfold webZoneS; rw [if_neg h90, hasS_no h90, if_neg h122, hasS_no h122]
  rw [hz]
  have hne : ¬ (r = [90] ∨ r = [122]) := fun hh => by
    rcases hh with rfl | rfl
    · exact h90 rfl
    · exact h122 rfl
  by_cases hc : offC r ∧ r.length = 6
  · obtain ⟨hc, h6⟩ := hc
    obtain ⟨e2, e1⟩ := offS_ok hc
    obtain ⟨_, hs, d1, v1, k3, d2, v2⟩ := hc
    have hl4 : (r.drop 4).take 2 = r.drop 4 := List.take_of_length_le (by simp; omega)
    rw [hl4] at d2 v2 e1
    have n1 := numR_yes (l := (r.drop 1).take 2) (by simp; omega) (by simp; omega) d1
    have n2 := numR_yes (l := r.drop 4) (by simp; omega) (by simp; omega) d2
    have hzr : zoneR (at0B r 0) ((r.drop 1).take 2) (r.drop 4) = some ((if at0B r 0 = 45 then -1 else 1) * ((valN ((r.drop 1).take 2) : Int) * 3600 + (valN (r.drop 4) : Int) * 60)) := by
      unfold zoneR
      rw [n1, n2, if_pos ⟨by omega, by simp; omega, by simp; omega, by omega, by omega, by omega, by omega⟩]
      congr 1
      split <;> omega
    have hre : restR y m d h mi s r = toldR y m d h mi s ((if at0B r 0 = 45 then -1 else 1) * ((valN ((r.drop 1).take 2) : Int) * 3600 + (valN (r.drop 4) : Int) * 60)) := by
      unfold restR
      rw [if_neg hne, if_pos (show r.length = 6 ∧ at0B r 3 = 58 from ⟨h6, k3⟩), hzr]
    rw [hre, e2, e1, show r.drop 6 = [] from List.drop_eq_nil_of_le (by omega)]
    rfl
  · have hm : momS y m d h mi s (offS true (r, false)).1 (offS true (r, false)).2 = none := by
      unfold momS
      rw [if_neg (fun hh => by
        have hb : (offS true (r, false)).2.2 = false := by rw [hh.2.1]
        obtain ⟨c1, c2, _⟩ := offS_inv hb
        rw [c2] at hh
        have := len_drop (congrArg Prod.fst hh.2.1)
        exact hc ⟨c1, by have := c1.1; omega⟩)]
    rw [hm]
    unfold restR
    rw [if_neg hne]
    split
    · rename_i h6
      have : zoneR (at0B r 0) ((r.drop 1).take 2) (r.drop 4) = none := by
        unfold zoneR
        rw [if_neg (fun hh => by
          obtain ⟨g1, g2, g3, g4, g5, g6, g7⟩ := hh
          obtain ⟨p1, p2⟩ := numR_two g2 g4
          obtain ⟨q1, q2⟩ := numR_two g3 g6
          have hl4 : (r.drop 4).take 2 = r.drop 4 := List.take_of_length_le (by omega)
          exact hc ⟨⟨by omega, by omega, p1, by omega, h6.2, by rw [hl4]; exact q1, by rw [hl4]; omega⟩, h6.1⟩)]
      rw [this]
    · rfl

theorem webZoneS_first {s : St} (h : (webZoneS s).2.2 = false) : s.2 = false ∧ 1 ≤ s.1.length ∧ (at0B s.1 0 = 90 ∨ at0B s.1 0 = 122 ∨ at0B s.1 0 = 45 ∨ at0B s.1 0 = 43) := by
  by_cases h90 : hasB 90 s = true
  · have hz : webZoneS s = (0, (s.1.drop 1, s.2)) := by unfold webZoneS; rw [if_pos h90, hasS_yes h90]
    rw [hz] at h
    obtain ⟨k1, k2⟩ := (hasB_iff 90 s).1 h90
    exact ⟨h, k1, .inl k2⟩
  by_cases h122 : hasB 122 s = true
  · have hz : webZoneS s = (0, (s.1.drop 1, s.2)) := by unfold webZoneS; rw [if_neg h90, hasS_no h90, if_pos h122, hasS_yes h122]
    rw [hz] at h
    obtain ⟨k1, k2⟩ := (hasB_iff 122 s).1 h122
    exact ⟨h, k1, .inr (.inl k2)⟩
  have hz : webZoneS s = offS true s := by unfold webZoneS; rw [if_neg h90, hasS_no h90, if_neg h122, hasS_no h122]
  rw [hz] at h
  unfold offS at h
  simp only [if_true] at h
  obtain ⟨d1, _⟩ := numToS_inv h
  obtain ⟨m1, _⟩ := mustS_inv d1
  obtain ⟨b1, _⟩ := numToS_inv m1
  obtain ⟨a1, a2, a3⟩ := signS_inv b1
  exact ⟨a1, a2, by rcases a3 with ⟨e, _⟩ | ⟨e, _⟩ <;> omega⟩

/-- Parts of a second, if there are any. -/
def fracS (s : St) : St := if hasB 46 s = true then (runS digB 1 9 (hasS 46 s)).2 else hasS 46 s
theorem lead_min (p : Nat → Bool) : ∀ (m M : Nat) (l : List UInt8), m ≤ M → lead p m l = min m (lead p M l)
  | 0, _, _, _ => by simp [lead]
  | m + 1, 0, _, h => by omega
  | m + 1, M + 1, [], _ => by simp [lead]
  | m + 1, M + 1, x :: r, h => by
    unfold lead
    by_cases hx : p x.toNat = true
    · rw [if_pos hx, if_pos hx, lead_min p m M r (by omega)]
      omega
    · rw [if_neg hx, if_neg hx]
      omega
theorem frac_eq (y m d h mi s : Int) (r : List UInt8) :
    momS y m d h mi s (webZoneS (fracS (r, false))).1 (webZoneS (fracS (r, false))).2 =
      if at0B r 0 = 46 then (if fracR r < 2 ∨ 10 < fracR r then none else restR y m d h mi s (r.drop (fracR r))) else restR y m d h mi s r := by
  have hbad : ∀ t : St, (webZoneS t).2.2 = true → momS y m d h mi s (webZoneS t).1 (webZoneS t).2 = none := fun t ht => by
    unfold momS
    rw [if_neg (fun hh => by rw [hh.2.1] at ht; cases ht)]
  by_cases h46 : hasB 46 (r, false) = true
  · obtain ⟨k1, k2⟩ := (hasB_iff 46 (r, false)).1 h46
    have k2' : at0B r 0 = 46 := k2
    have k1' : 1 ≤ r.length := k1
    rw [if_pos k2']
    have hf : fracS (r, false) = (runS digB 1 9 (r.drop 1, false)).2 := by unfold fracS; rw [if_pos h46, hasS_yes h46]
    have hd1 : (r.drop 1).length = r.length - 1 := by simp
    have hLle := lead_le digB r.length (r.drop 1)
    obtain ⟨L, hL⟩ : ∃ L, L = lead digB r.length (r.drop 1) := ⟨_, rfl⟩
    have hfr : fracR r = 1 + L := by unfold fracR; rw [hL]
    rw [← hL] at hLle
    have h9 : lead digB 9 (r.drop 1) = min 9 L := by
      rcases Nat.lt_or_ge r.length 9 with hlt | hge
      · have := lead_min digB r.length 9 (r.drop 1) (by omega)
        have h2 := lead_le digB 9 (r.drop 1)
        omega
      · rw [lead_min digB 9 r.length (r.drop 1) hge, ← hL]
    rw [hf, hfr]
    by_cases h0 : L = 0
    · rw [if_pos (.inl (by omega))]
      refine hbad _ ?_
      have hb : (runS digB 1 9 (r.drop 1, false)).2.2 = true := by
        unfold runS runB
        simp only
        rw [if_pos (by rw [h9]; omega)]
      cases hz : (webZoneS (runS digB 1 9 (r.drop 1, false)).2).2.2 with
      | true => rfl
      | false =>
        have := (webZoneS_first hz).1
        rw [hb] at this
        cases this
    · have hrun : (runS digB 1 9 (r.drop 1, false)).2 = (r.drop (1 + min 9 L), false) := by
        unfold runS runL runB
        simp only
        rw [h9, if_neg (by omega), if_neg (by omega), List.drop_drop]
      rw [hrun]
      by_cases hL9 : L ≤ 9
      · rw [if_neg (by omega), Nat.min_eq_right hL9]
        exact tail_eq y m d h mi s _
      · rw [if_pos (.inr (by omega)), Nat.min_eq_left (by omega)]
        refine hbad _ ?_
        cases hz : (webZoneS (r.drop (1 + 9), false)).2.2 with
        | true => rfl
        | false =>
          obtain ⟨_, z1, z2⟩ := webZoneS_first hz
          have hdg := lead_fits digB r.length (r.drop 1) 9 (by omega) (by rw [← hL]; omega)
          have hat : at0B (r.drop (1 + 9)) 0 = ((r.drop 1)[9]'(by omega)).toNat := by
            unfold at0B
            simp [List.getD, List.getElem?_drop, show 10 < r.length by omega]
          have z2' : at0B (r.drop (1 + 9)) 0 = 90 ∨ at0B (r.drop (1 + 9)) 0 = 122 ∨ at0B (r.drop (1 + 9)) 0 = 45 ∨ at0B (r.drop (1 + 9)) 0 = 43 := z2
          rw [hat] at z2'
          have := (dig_iff _).1 hdg
          omega
  · have hf : fracS (r, false) = (r, false) := by unfold fracS; rw [if_neg h46, hasS_no h46]
    rw [hf]
    by_cases k : at0B r 0 = 46
    · exfalso
      cases r with
      | nil => simp [at0B] at k
      | cons c t => exact h46 ((hasB_iff 46 (c :: t, false)).2 ⟨by simp, k⟩)
    · rw [if_neg k]
      exact tail_eq y m d h mi s r
end Go.Proofs.YtmimkcdomgoefabDoor
