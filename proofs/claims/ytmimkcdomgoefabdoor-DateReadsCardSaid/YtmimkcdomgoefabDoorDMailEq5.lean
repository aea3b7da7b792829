/-
  Plain words: the program's reading of a date of the mail (mailS) is the document's (mailR). No condition.
-/
import Derived.Test.YtmimkcdomgoefabDoorDMailEq4
namespace Go.Proofs.YtmimkcdomgoefabDoor
open Go.RowKit

def coreS (s : St) : Option Int :=
  let a := runS digB 1 2 s
  let b := runS letB 3 3 (mustS 32 a.2)
  let c := mailYearS (mustS 32 b.2)
  let t := todS (mustS 32 c.2)
  let z := mailZoneS (mustS 32 t.2)
  momS c.1 (monN b.1) (valN a.1) t.1.1 t.1.2.1 t.1.2.2 z.1 z.2
theorem mailS_eq (l : List UInt8) : mailS l = coreS (weekdayS (l, false)) := by
  simp only [mailS, clockS, coreS, todS]
  rfl

theorem core_ok {d m y t z : List UInt8} {c1 c2 c3 c4 : UInt8} {h i s n : Int} (k1 : c1.toNat = 32) (k2 : c2.toNat = 32) (k3 : c3.toNat = 32) (k4 : c4.toNat = 32)
    (hd : AllDig d) (hd1 : 1 ≤ d.length) (hd2 : d.length ≤ 2) (hm : m ∈ monsL) (hy : AllDig y) (hyl : y.length = 4 ∨ y.length = 2)
    (ht : timeR (splitR 58 t) = some (h, i, s)) (h0 : 0 ≤ h) (i0 : 0 ≤ i) (s0 : 0 ≤ s) (hz : namedR z = some n) :
    coreS (d ++ c1 :: (m ++ c2 :: (y ++ c3 :: (t ++ c4 :: z))), false) = toldR (yearR y) (1 + idxR monsL m) (numR d) h i s n := by
  obtain ⟨m1, m2, m3⟩ := mons_all m hm
  have r1 : runS digB 1 2 ((d ++ c1 :: (m ++ c2 :: (y ++ c3 :: (t ++ c4 :: z))), false) : St) = (d, (c1 :: (m ++ c2 :: (y ++ c3 :: (t ++ c4 :: z))), false)) :=
    runS_ok false (dig_all.1 hd) hd1 hd2 (.inr (ends_32 k1).1)
  have r2 : runS letB 3 3 ((m ++ c2 :: (y ++ c3 :: (t ++ c4 :: z)), false) : St) = (m, (c2 :: (y ++ c3 :: (t ++ c4 :: z)), false)) :=
    runS_ok false m1 (by omega) (by omega) (.inl m2)
  have r3 : mailYearS (y ++ c3 :: (t ++ c4 :: z), false) = (yearR y, (c3 :: (t ++ c4 :: z), false)) := year_ok hy hyl (ends_32 k3).1
  have r4 : todS (t ++ c4 :: z, false) = ((h, i, s), (c4 :: z, false)) := tod_ok k4 ht h0 i0 s0
  have r5 := zone_fwd hz
  unfold coreS
  simp only
  rw [r1]
  simp only
  rw [must_ok k1, r2]
  simp only
  rw [must_ok k2, r3]
  simp only
  rw [must_ok k3, r4]
  simp only
  rw [must_ok k4, r5, m3, ← numR_yes hd1 (by omega) hd]
  rfl

theorem core_inv {s0 : St} {n : Int} (hc : coreS s0 = some n) : s0.2 = false ∧ ∃ d m y t z c1 c2 c3 c4, s0.1 = d ++ c1 :: (m ++ c2 :: (y ++ c3 :: (t ++ c4 :: z))) ∧ c1.toNat = 32 ∧ c2.toNat = 32 ∧ c3.toNat = 32 ∧ c4.toNat = 32 ∧
    NoB 32 d ∧ NoB 32 m ∧ NoB 32 y ∧ NoB 32 t ∧ NoB 32 z ∧ partsR [d, m, y, t, z] = some n := by
  unfold coreS at hc
  simp only at hc
  generalize hA : runS digB 1 2 s0 = A at hc
  generalize hB : runS letB 3 3 (mustS 32 A.2) = B at hc
  generalize hC : mailYearS (mustS 32 B.2) = C at hc
  generalize hT : todS (mustS 32 C.2) = T at hc
  generalize hM : mustS 32 T.2 = M at hc
  obtain ⟨zr, zq⟩ := M
  unfold momS at hc
  split at hc
  · rename_i hk
    injection hc with hn
    obtain ⟨z1, z2, z3⟩ := zone_bwd hk.2.1
    obtain ⟨a1, c4, r4, a2, a3, a4⟩ := must_inv (x := 32) (s := T.2) (by rw [hM]; exact z1)
    rw [hM] at a4
    obtain ⟨b1, t, r3, b2, b3, b4, b5⟩ := tod_inv (s := mustS 32 C.2) (by rw [hT]; exact a1)
    rw [hT] at b4 b5
    obtain ⟨d1, c3, r2, d2, d3, d4⟩ := must_inv (x := 32) (s := C.2) b1
    obtain ⟨e1, y, r1, e2, e3, e4, e5⟩ := year_inv (s := mustS 32 B.2) (by rw [hC]; exact d1)
    rw [hC] at e5
    obtain ⟨f1, c2, r0, f2, f3, f4⟩ := must_inv (x := 32) (s := B.2) e1
    obtain ⟨g1, m, q0, g2, g3, g4, g5, g6⟩ := runS_inv (p := letB) (a := 3) (b := 3) (s := mustS 32 A.2) (by rw [hB]; exact f1)
    rw [hB] at g6
    obtain ⟨i1, c1, q1, i2, i3, i4⟩ := must_inv (x := 32) (s := A.2) g1
    obtain ⟨j1, d, q2, j2, j3, j4, j5, j6⟩ := runS_inv (p := digB) (a := 1) (b := 2) (s := s0) (by rw [hA]; exact i1)
    rw [hA] at j6
    have hd := dig_all.2 j3
    have i2' : q2 = c1 :: q1 := by rw [j6] at i2; exact i2
    have g2' : q1 = m ++ q0 := by rw [i4] at g2; exact g2
    have f2' : q0 = c2 :: r0 := by rw [g6] at f2; exact f2
    have e2' : r0 = y ++ r1 := by rw [f4] at e2; exact e2
    have d2' : r1 = c3 :: r2 := by rw [e5] at d2; exact d2
    have b2' : r2 = t ++ r3 := by rw [d4] at b2; exact b2
    have a2' : r3 = c4 :: r4 := by rw [b5] at a2; exact a2
    injection a4 with a5 a6
    subst a5 a6
    refine ⟨j1, d, m, y, t, zr, c1, c2, c3, c4, ?_, i3, f3, d3, a3, dig_noB hd (by omega), let_noB g3 (by omega), dig_noB e3 (by omega), b3, z3, ?_⟩
    · rw [j2, i2', g2', f2', e2', d2', b2', a2']
    · have hC1 : C.1 = yearR y := by rw [e5]
      have hB1 : B.1 = m := by rw [g6]
      have hA1 : A.1 = d := by rw [j6]
      rw [hC1, hB1, hA1, mon_eq, ← numR_yes j4 (by omega) hd] at hk hn
      unfold partsR
      simp only
      rw [if_pos ⟨by omega, e4⟩, b4, z2]
      simp only
      unfold toldR momS
      rw [if_pos ⟨hk.1, rfl, hk.2.2⟩, hn]
  · cases hc

theorem parts_inv {d m y t z : List UInt8} {n : Int} (h : partsR [d, m, y, t, z] = some n) : AllDig d ∧ 1 ≤ d.length ∧ d.length ≤ 2 ∧ m ∈ monsL ∧ AllDig y ∧ (y.length = 4 ∨ y.length = 2) ∧
    ∃ hh i s k, timeR (splitR 58 t) = some (hh, i, s) ∧ 0 ≤ hh ∧ 0 ≤ i ∧ 0 ≤ s ∧ namedR z = some k ∧ toldR (yearR y) (1 + idxR monsL m) (numR d) hh i s k = some n := by
  unfold partsR at h
  simp only at h
  split at h
  · rename_i hc
    split at h
    · rename_i hh i s ht
      split at h
      · rename_i k hk
        have ht' := h
        unfold toldR momS at ht'
        split at ht'
        · rename_i ho
          obtain ⟨hv, hcl⟩ := okD_valid ho.1
          unfold validD at hv
          unfold clockD at hcl
          have hy0 : 0 ≤ numR y := by
            rcases Int.lt_or_le (numR y) 0 with hneg | hge
            · have : yearR y = numR y := by
                unfold yearR
                rw [if_neg (fun e => by omega), if_neg (fun e => by omega)]
              omega
            · exact hge
          obtain ⟨y1, _⟩ := numR_val (by omega) (by omega) hy0
          have hdl : 1 ≤ d.length := by
            rcases Nat.lt_or_ge d.length 1 with hlt | hge
            · have := numR_len (l := d) (by omega)
              omega
            · exact hge
          obtain ⟨d1, _⟩ := numR_val hdl (by omega) (show 0 ≤ numR d by omega)
          exact ⟨d1, hdl, hc.1, idx_mem (by omega), y1, hc.2, hh, i, s, k, ht, by omega, by omega, by omega, hk, h⟩
        · cases ht'
      · cases h
    · cases h
  · cases h

theorem split_five {l : List UInt8} {d m y t z : List UInt8} (h : splitR 32 l = [d, m, y, t, z]) : ∃ c1 c2 c3 c4, l = d ++ c1 :: (m ++ c2 :: (y ++ c3 :: (t ++ c4 :: z))) ∧ c1.toNat = 32 ∧ c2.toNat = 32 ∧ c3.toNat = 32 ∧ c4.toNat = 32 := by
  obtain ⟨c1, r1, rfl, k1, _, h1⟩ := split_more h
  obtain ⟨c2, r2, rfl, k2, _, h2⟩ := split_more h1
  obtain ⟨c3, r3, rfl, k3, _, h3⟩ := split_more h2
  obtain ⟨c4, r4, rfl, k4, _, h4⟩ := split_more h3
  obtain ⟨rfl, _⟩ := split_one h4
  exact ⟨c1, c2, c3, c4, rfl, k1, k2, k3, k4⟩
theorem core_parts {l d m y t z : List UInt8} {n : Int} (h : splitR 32 l = [d, m, y, t, z]) (hp : partsR [d, m, y, t, z] = some n) : coreS (l, false) = some n ∧ Ends letB l := by
  obtain ⟨c1, c2, c3, c4, rfl, k1, k2, k3, k4⟩ := split_five h
  obtain ⟨p1, p2, p3, p4, p5, p6, hh, i, s, k, q1, q2, q3, q4, q5, q6⟩ := parts_inv hp
  refine ⟨by rw [core_ok k1 k2 k3 k4 p1 p2 p3 p4 p5 p6 q1 q2 q3 q4 q5]; exact q6, ?_⟩
  intro x tt e
  cases d with
  | nil => simp at p2
  | cons c d' =>
    injection e with e1 _
    subst e1
    have := p1 0 (by simp)
    simp only [List.getElem_cons_zero] at this
    exact (let_no _).2 (by omega)

theorem mail_eq (l : List UInt8) : mailS l = mailR l := by
  refine Option.ext fun n => ⟨fun h => ?_, fun h => ?_⟩
  · rw [mailS_eq] at h
    obtain ⟨h1, d, m, y, t, z, c1, c2, c3, c4, e, k1, k2, k3, k4, n1, n2, n3, n4, n5, hp⟩ := core_inv h
    have hs : splitR 32 (d ++ c1 :: (m ++ c2 :: (y ++ c3 :: (t ++ c4 :: z)))) = [d, m, y, t, z] := by
      rw [splitR_cons n1 k1, splitR_cons n2 k2, splitR_cons n3 k3, splitR_cons n4 k4, splitR_end n5]
    obtain ⟨_, w | ⟨a, c, r, w1, w2, w3, w4⟩⟩ := week_inv h1
    · rw [w] at e
      have e' : l = d ++ c1 :: (m ++ c2 :: (y ++ c3 :: (t ++ c4 :: z))) := e
      unfold mailR
      rw [e', hs]
      exact hp
    · rw [w4] at e
      have e' : r = d ++ c1 :: (m ++ c2 :: (y ++ c3 :: (t ++ c4 :: z))) := e
      have w1' : l = a ++ c :: r := w1
      obtain ⟨_, _, _, _, wn, wi⟩ := wds_all a w2
      unfold mailR
      rw [w1', splitR_cons wn w3, e', hs]
      show (if 0 ≤ idxR wdsL a then _ else _) = _
      rw [if_pos wi]
      exact hp
  · rw [mailS_eq]
    unfold mailR at h
    split at h
    · rename_i a d m y t z hs
      split at h
      · rename_i hi
        obtain ⟨c, r, rfl, k, _, hs2⟩ := split_more hs
        rw [week_yes (idx_mem hi) k]
        exact (core_parts hs2 h).1
      · cases h
    · rename_i ws hno
      have h' := h
      unfold partsR at h'
      split at h'
      · rename_i d m y t z hws
        rw [hws] at h
        obtain ⟨q1, q2⟩ := core_parts hws h
        rw [week_no false q2]
        exact q1
      · cases h'
end Go.Proofs.YtmimkcdomgoefabDoor
