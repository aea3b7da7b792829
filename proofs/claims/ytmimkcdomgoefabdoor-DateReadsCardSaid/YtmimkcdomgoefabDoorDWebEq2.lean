/-
  Plain words: the program's reading of a date of the web (webS) is the document's (webR). No condition.
-/
import Derived.Test.YtmimkcdomgoefabDoorDWebEq
namespace Go.Proofs.YtmimkcdomgoefabDoor
open Go.RowKit

def tS (s : St) : St := if hasB 116 s = true then hasS 116 s else mustS 84 (hasS 116 s)
theorem tS_inv {s : St} (h : (tS s).2 = false) : s.2 = false ∧ 1 ≤ s.1.length ∧ (at0B s.1 0 = 84 ∨ at0B s.1 0 = 116) ∧ tS s = (s.1.drop 1, false) := by
  by_cases hb : hasB 116 s = true
  · have hs : tS s = (s.1.drop 1, s.2) := by unfold tS; rw [if_pos hb, hasS_yes hb]
    rw [hs] at h
    obtain ⟨h1, h2⟩ := (hasB_iff 116 s).1 hb
    have h' : s.2 = false := h
    exact ⟨h', h1, .inr h2, by rw [hs, h']⟩
  · have hs : tS s = mustS 84 s := by unfold tS; rw [if_neg hb, hasS_no hb]
    rw [hs] at h
    obtain ⟨h1, h2, h3, h4⟩ := mustS_inv h
    exact ⟨h1, h2, .inl h3, by rw [hs, h4]⟩
theorem tS_ok {l : List UInt8} (h1 : 1 ≤ l.length) (h : at0B l 0 = 84 ∨ at0B l 0 = 116) : tS (l, false) = (l.drop 1, false) := by
  by_cases hb : hasB 116 (l, false) = true
  · unfold tS; rw [if_pos hb, hasS_yes hb]
  · unfold tS
    rw [if_neg hb, hasS_no hb]
    refine mustS_ok false h1 ?_
    rcases h with h | h
    · exact h
    · exact absurd ((hasB_iff 116 (l, false)).2 ⟨h1, h⟩) hb
theorem fracS_inv {s : St} (h : (fracS s).2 = false) : s.2 = false := by
  unfold fracS at h
  by_cases hb : hasB 46 s = true
  · rw [if_pos hb, hasS_yes hb] at h
    unfold runS runB at h
    simp only at h
    split at h
    · cases h
    · exact h
  · rw [if_neg hb, hasS_no hb] at h
    exact h

def condR (l : List UInt8) : Prop :=
  headR l ∧ AllDig (l.take 4) ∧ AllDig ((l.drop 5).take 2) ∧ AllDig ((l.drop 8).take 2) ∧ AllDig ((l.drop 11).take 2) ∧ AllDig ((l.drop 14).take 2) ∧ AllDig ((l.drop 17).take 2)

theorem webS_eq (l : List UInt8) : webS l =
    (let a := numS 4 ((l, false) : St)
     let b := numS 2 (mustS 45 a.2)
     let c := numS 2 (mustS 45 b.2)
     let h := numS 2 (tS c.2)
     let m := numS 2 (mustS 58 h.2)
     let e := numS 2 (mustS 58 m.2)
     let z := webZoneS (fracS e.2)
     momS a.1 b.1 c.1 h.1 m.1 e.1 z.1 z.2) := by
  simp only [webS, clockS, tS, fracS]
  rfl

theorem webS_yes {l : List UInt8} (h : condR l) : webS l = momS (valN (l.take 4)) (valN ((l.drop 5).take 2)) (valN ((l.drop 8).take 2)) (valN ((l.drop 11).take 2)) (valN ((l.drop 14).take 2)) (valN ((l.drop 17).take 2))
    (webZoneS (fracS (l.drop 19, false))).1 (webZoneS (fracS (l.drop 19, false))).2 := by
  obtain ⟨⟨h20, k4, k7, k10, k13, k16⟩, d0, d1, d2, d3, d4, d5⟩ := h
  have s0 : numS 4 ((l, false) : St) = (valN (l.take 4), (l.drop 4, false)) := numS_ok false (by omega) d0
  have t0 : mustS 45 ((l.drop 4, false) : St) = (l.drop 5, false) := by
    have := mustS_ok (x := 45) (l := l.drop 4) false (by simp; omega) (by rw [at_drop]; exact k4)
    rw [List.drop_drop] at this
    exact this
  have s1 : numS 2 ((l.drop 5, false) : St) = (valN ((l.drop 5).take 2), (l.drop 7, false)) := by
    have := numS_ok (n := 2) (l := l.drop 5) false (by simp; omega) d1
    rw [List.drop_drop] at this
    exact this
  have t1 : mustS 45 ((l.drop 7, false) : St) = (l.drop 8, false) := by
    have := mustS_ok (x := 45) (l := l.drop 7) false (by simp; omega) (by rw [at_drop]; exact k7)
    rw [List.drop_drop] at this
    exact this
  have s2 : numS 2 ((l.drop 8, false) : St) = (valN ((l.drop 8).take 2), (l.drop 10, false)) := by
    have := numS_ok (n := 2) (l := l.drop 8) false (by simp; omega) d2
    rw [List.drop_drop] at this
    exact this
  have t2 : tS ((l.drop 10, false) : St) = (l.drop 11, false) := by
    have := tS_ok (l := l.drop 10) (by simp; omega) (by rw [at_drop]; exact k10)
    rw [List.drop_drop] at this
    exact this
  have s3 : numS 2 ((l.drop 11, false) : St) = (valN ((l.drop 11).take 2), (l.drop 13, false)) := by
    have := numS_ok (n := 2) (l := l.drop 11) false (by simp; omega) d3
    rw [List.drop_drop] at this
    exact this
  have t3 : mustS 58 ((l.drop 13, false) : St) = (l.drop 14, false) := by
    have := mustS_ok (x := 58) (l := l.drop 13) false (by simp; omega) (by rw [at_drop]; exact k13)
    rw [List.drop_drop] at this
    exact this
  have s4 : numS 2 ((l.drop 14, false) : St) = (valN ((l.drop 14).take 2), (l.drop 16, false)) := by
    have := numS_ok (n := 2) (l := l.drop 14) false (by simp; omega) d4
    rw [List.drop_drop] at this
    exact this
  have t4 : mustS 58 ((l.drop 16, false) : St) = (l.drop 17, false) := by
    have := mustS_ok (x := 58) (l := l.drop 16) false (by simp; omega) (by rw [at_drop]; exact k16)
    rw [List.drop_drop] at this
    exact this
  have s5 : numS 2 ((l.drop 17, false) : St) = (valN ((l.drop 17).take 2), (l.drop 19, false)) := by
    have := numS_ok (n := 2) (l := l.drop 17) false (by simp; omega) d5
    rw [List.drop_drop] at this
    exact this
  rw [webS_eq]
  simp only [s0, t0, s1, t1, s2, t2, s3, t3, s4, t4, s5]

theorem webS_no {l : List UInt8} (h : ¬ condR l) : webS l = none := by
  rw [webS_eq]
  simp only
  unfold momS
  refine if_neg (fun hh => h ?_)
  have hz : (webZoneS (fracS (numS 2 (mustS 58 (numS 2 (mustS 58 (numS 2 (tS (numS 2 (mustS 45 (numS 2 (mustS 45 (numS 4 ((l, false) : St)).2)).2)).2)).2)).2)).2)).2.2 = false := by rw [hh.2.1]
  obtain ⟨z1, z2, z3⟩ := webZoneS_first hz
  have f1 := fracS_inv z1
  obtain ⟨a1, a2, a3, a4⟩ := numS_inv f1
  obtain ⟨b1, b2, b3, b4⟩ := mustS_inv a1
  obtain ⟨c1, c2, c3, c4⟩ := numS_inv b1
  obtain ⟨d1, d2, d3, d4⟩ := mustS_inv c1
  obtain ⟨e1, e2, e3, e4⟩ := numS_inv d1
  obtain ⟨g1, g2, g3, g4⟩ := tS_inv e1
  obtain ⟨i1, i2, i3, i4⟩ := numS_inv g1
  obtain ⟨j1, j2, j3, j4⟩ := mustS_inv i1
  obtain ⟨k1, k2, k3, k4⟩ := numS_inv j1
  obtain ⟨m1, m2, m3, m4⟩ := mustS_inv k1
  obtain ⟨n1, n2, n3, n4⟩ := numS_inv m1
  simp only [n4] at m2 m3 m4
  simp only [n4, m4] at k2 k3 k4
  simp only [n4, m4, k4] at j2 j3 j4
  simp only [n4, m4, k4, j4] at i2 i3 i4
  simp only [n4, m4, k4, j4, i4] at g2 g3 g4
  simp only [n4, m4, k4, j4, i4, g4] at e2 e3 e4
  simp only [n4, m4, k4, j4, i4, g4, e4] at d2 d3 d4
  simp only [n4, m4, k4, j4, i4, g4, e4, d4] at c2 c3 c4
  simp only [n4, m4, k4, j4, i4, g4, e4, d4, c4] at b2 b3 b4
  simp only [n4, m4, k4, j4, i4, g4, e4, d4, c4, b4] at a2 a3 a4
  simp only [n4, m4, k4, j4, i4, g4, e4, d4, c4, b4, a4] at z2
  have zl : 1 ≤ (l.drop 19).length := by
    refine Nat.le_trans z2 ?_
    unfold fracS
    split
    · rename_i hb
      rw [hasS_yes hb]
      unfold runS runL
      simp only [List.drop_drop]
      split <;> simp <;> omega
    · rename_i hb
      rw [hasS_no hb]
      simp only [List.drop_drop]
      simp
  simp only [List.drop_drop, at_drop, List.length_drop] at m2 m3 k2 k3 j2 j3 i2 i3 g2 g3 e2 e3 d2 d3 c2 c3 b2 b3 a2 a3 zl
  exact ⟨⟨by omega, m3, j3, g3, d3, b3⟩, n3, k3, i3, e3, c3, a3⟩

theorem rest_bad {y m d h mi s : Int} (hb : y < 0 ∨ m < 0 ∨ d < 0 ∨ h < 0 ∨ mi < 0 ∨ s < 0) (r : List UInt8) : restR y m d h mi s r = none := by
  have ht : ∀ z, toldR y m d h mi s z = none := fun z => by
    unfold toldR momS
    rw [if_neg (fun hh => by
      obtain ⟨hv, hc⟩ := okD_valid hh.1
      unfold validD at hv
      unfold clockD at hc
      omega)]
  unfold restR
  rw [ht]
  split
  · rfl
  · split
    · split
      · exact ht _
      · rfl
    · rfl
theorem numR_bad {l : List UInt8} (h : ¬ AllDig l) : numR l < 0 := by rw [numR_no h]; decide

theorem web_eq (l : List UInt8) : webS l = webR l := by
  by_cases hh : headR l
  · by_cases hd : AllDig (l.take 4) ∧ AllDig ((l.drop 5).take 2) ∧ AllDig ((l.drop 8).take 2) ∧ AllDig ((l.drop 11).take 2) ∧ AllDig ((l.drop 14).take 2) ∧ AllDig ((l.drop 17).take 2)
    · rw [webS_yes ⟨hh, hd⟩, frac_eq]
      have h20 := hh.1
      obtain ⟨d0, d1, d2, d3, d4, d5⟩ := hd
      unfold webR
      rw [if_pos hh, numR_yes (by simp; omega) (by simp; omega) d0, numR_yes (by simp; omega) (by simp; omega) d1, numR_yes (by simp; omega) (by simp; omega) d2, numR_yes (by simp; omega) (by simp; omega) d3, numR_yes (by simp; omega) (by simp; omega) d4, numR_yes (by simp; omega) (by simp; omega) d5]
    · rw [webS_no (fun hc => hd hc.2)]
      have hb : numR (l.take 4) < 0 ∨ numR ((l.drop 5).take 2) < 0 ∨ numR ((l.drop 8).take 2) < 0 ∨ numR ((l.drop 11).take 2) < 0 ∨ numR ((l.drop 14).take 2) < 0 ∨ numR ((l.drop 17).take 2) < 0 := by
        by_cases d0 : AllDig (l.take 4)
        · by_cases d1 : AllDig ((l.drop 5).take 2)
          · by_cases d2 : AllDig ((l.drop 8).take 2)
            · by_cases d3 : AllDig ((l.drop 11).take 2)
              · by_cases d4 : AllDig ((l.drop 14).take 2)
                · exact .inr (.inr (.inr (.inr (.inr (numR_bad (fun d5 => hd ⟨d0, d1, d2, d3, d4, d5⟩))))))
                · exact .inr (.inr (.inr (.inr (.inl (numR_bad d4)))))
              · exact .inr (.inr (.inr (.inl (numR_bad d3))))
            · exact .inr (.inr (.inl (numR_bad d2)))
          · exact .inr (.inl (numR_bad d1))
        · exact .inl (numR_bad d0)
      unfold webR
      rw [if_pos hh]
      split
      · split
        · rfl
        · exact (rest_bad hb _).symm
      · exact (rest_bad hb _).symm
  · rw [webS_no (fun hc => hh hc.1)]
    unfold webR
    rw [if_neg hh]
end Go.Proofs.YtmimkcdomgoefabDoor
