/-
  date.reader: webZone, mailZone, weekday, mailYear, moment, clock: what each answers, and what is left. Conditions: the reader's text takes at most 2^47 bytes.
-/
import Derived.Test.YtmimkcdomgoefabDoorDRdr
import Derived.Test.YtmimkcdomgoefabDoorDWords
import Derived.Test.YtmimkcdomgoefabDoorDMom
import Derived.Test.YtmimkcdomgoefabDoorDBlk
namespace Go.Proofs.YtmimkcdomgoefabDoor
open Go.RowKit

theorem numS_lt (n : Nat) (s : St) : (numS n s).1 < 10 ^ n := by
  have h1 := runT_dig n n s.1
  have h2 := runT_len digB n n s.1
  have h3 := valN_lt _ h1 (runT digB n n s.1).length (Nat.le_refl _)
  rw [List.take_length] at h3
  exact Nat.lt_of_lt_of_le h3 (Nat.pow_le_pow_right (by decide) h2)
theorem numToS_lt (most : Nat) (s : St) : (numToS most s).1 < 100 := numS_lt 2 s
theorem signS_1 (s : St) : (signS s).1 = -1 ∨ (signS s).1 = 1 := by
  unfold signS
  split
  · exact .inl rfl
  · exact .inr rfl

/-- Hours and minutes of a zone behind its sign. -/
def offS (colon : Bool) (s : St) : Int × St :=
  let a := signS s
  let b := numToS 23 a.2
  let c := if colon = true then mustS 58 b.2 else b.2
  let d := numToS 59 c
  (a.1 * ((b.1 : Int) * 3600 + (d.1 : Int) * 60), d.2)
def webZoneS (s : St) : Int × St := if hasB 90 s = true then (0, hasS 90 s) else if hasB 122 (hasS 90 s) = true then (0, hasS 122 (hasS 90 s)) else offS true (hasS 122 (hasS 90 s))

theorem offS_short {c : Bool} {s : St} (h : Short s) : Short (offS c s).2 := by
  have h1 := numToS_short (n := 23) (signS_short h)
  show Short (numToS 59 (if c = true then mustS 58 (numToS 23 (signS s).2).2 else (numToS 23 (signS s).2).2)).2
  split
  · exact numToS_short (mustS_short h1)
  · exact numToS_short h1
theorem offS_bd (c : Bool) (s : St) : -1000000 ≤ (offS c s).1 ∧ (offS c s).1 ≤ 1000000 := by
  show -1000000 ≤ (signS s).1 * (((numToS 23 (signS s).2).1 : Int) * 3600 + ((numToS 59 (if c = true then mustS 58 (numToS 23 (signS s).2).2 else (numToS 23 (signS s).2).2)).1 : Int) * 60) ∧ (signS s).1 * (((numToS 23 (signS s).2).1 : Int) * 3600 + ((numToS 59 (if c = true then mustS 58 (numToS 23 (signS s).2).2 else (numToS 23 (signS s).2).2)).1 : Int) * 60) ≤ 1000000
  have h1 := numToS_lt 23 (signS s).2
  have h2 := numToS_lt 59 (if c = true then mustS 58 (numToS 23 (signS s).2).2 else (numToS 23 (signS s).2).2)
  rcases signS_1 s with h | h
  · rw [h]; omega
  · rw [h]; omega
theorem webZoneS_short {s : St} (h : Short s) : Short (webZoneS s).2 := by
  unfold webZoneS
  split
  · exact hasS_short h
  · split
    · exact hasS_short (hasS_short h)
    · exact offS_short (hasS_short (hasS_short h))
theorem webZoneS_bd (s : St) : -1000000 ≤ (webZoneS s).1 ∧ (webZoneS s).1 ≤ 1000000 := by
  unfold webZoneS
  split
  · show (-1000000 : Int) ≤ 0 ∧ (0 : Int) ≤ 1000000; decide
  · split
    · show (-1000000 : Int) ≤ 0 ∧ (0 : Int) ≤ 1000000; decide
    · exact offS_bd _ _

set_option maxHeartbeats 1600000 in
theorem webZone_any (g : Nat) (s : St) (w : World) (hr : RS w g s) (hs : Short s) :
    Calls Tryd.prog 22 #[.pointer (some ⟨g, 0, none⟩)] w (Does w g (.int .i64 (webZoneS s).1) (webZoneS s).2) := by
  have h1 := has_any g 90 s w hr hs (by decide)
  have hs1 := hasS_short (x := 90) hs
  cases hz : hasB 90 s with
  | true =>
    have hm : webZoneS s = (0, hasS 90 s) := by unfold webZoneS; rw [if_pos hz]
    rw [hz] at h1
    have H1 := Lib.hid h1
    have HM := Lib.hid hm
    clear hz hm h1 hr hs hs1
    go_enter Tryd.func22, Tryd.ntmps22
    go_wp2_with fail
    refine H1.out.mono ?_
    rintro e w1 ⟨rfl, hb1, hg1⟩
    go_wp2_with fail
    go_ret
    exact ⟨by rw [HM.out]; rfl, by rw [HM.out]; exact hb1, hg1⟩
  | false =>
    rw [hz] at h1
    have hw0 : webZoneS s = if hasB 122 (hasS 90 s) = true then (0, hasS 122 (hasS 90 s)) else offS true (hasS 122 (hasS 90 s)) := by unfold webZoneS; rw [if_neg (by rw [hz]; simp)]
    generalize hasS 90 s = s1 at h1 hs1 hw0
    have hs2 := hasS_short (x := 122) hs1
    have H1 := Lib.hid h1
    have HS1 := Lib.hid hs1
    cases hy : hasB 122 s1 with
    | true =>
      have hm : webZoneS s = (0, hasS 122 s1) := by rw [hw0, if_pos hy]
      have HM := Lib.hid hm
      have HY := Lib.hid hy
      clear hz hm h1 hr hs hs1 hw0 hs2 hy
      go_enter Tryd.func22, Tryd.ntmps22
      go_wp2_with fail
      refine H1.out.mono ?_
      rintro e w1 ⟨rfl, hb1, hg1⟩
      go_wp2_with fail
      refine (has_any g 122 s1 _ hb1 HS1.out (by decide)).mono ?_
      rw [HY.out]
      rintro e w2 ⟨rfl, hb2, hg2⟩
      go_wp2_with fail
      go_ret
      exact ⟨by rw [HM.out]; rfl, by rw [HM.out]; exact hb2, hg1.trans hg2⟩
    | false =>
      have hm : webZoneS s = offS true (hasS 122 s1) := by rw [hw0, if_neg (by rw [hy]; simp)]
      have HM := Lib.hid hm
      have HY := Lib.hid hy
      clear hz hm h1 hr hs hs1 hw0 hy
      go_enter Tryd.func22, Tryd.ntmps22
      go_wp2_with fail
      refine H1.out.mono ?_
      rintro e w1 ⟨rfl, hb1, hg1⟩
      go_wp2_with fail
      refine (has_any g 122 s1 _ hb1 HS1.out (by decide)).mono ?_
      rw [HY.out]
      rintro e w2 ⟨rfl, hbq, hg2⟩
      have hgq := hg1.trans hg2
      generalize hasS 122 s1 = q at hbq HM hs2
      have HQ := Lib.hid hs2
      clear hs2 hb1 hg1 hg2
      go_wp2_with fail
      refine (sign_any g q _ hbq HQ.out).mono ?_
      rintro e wa ⟨rfl, hba, hga⟩
      have ha1 := signS_1 q
      have HA := Lib.hid (signS_short HQ.out)
      generalize hA : signS q = a at hba ha1 HA
      obtain ⟨sg, sa⟩ := a
      have EA := Lib.hid hA
      clear hA hbq
      simp only at hba ha1 HA
      go_wp2_with fail
      refine (numberTo_any g 23 sa _ hba HA.out).mono ?_
      rintro e wb ⟨rfl, hbb, hgb⟩
      have hb1 := numToS_lt 23 sa
      have HBs := Lib.hid (numToS_short (n := 23) HA.out)
      generalize hB : numToS 23 sa = b at hbb hb1 HBs
      obtain ⟨hh, sb⟩ := b
      have EB := Lib.hid hB
      clear hB hba
      simp only at hbb hb1 HBs
      go_wp2_with fail
      refine (must_any g 58 sb _ hbb HBs.out (by decide)).mono ?_
      rintro e wc ⟨rfl, hbc, hgc⟩
      have HC := Lib.hid (mustS_short (x := 58) HBs.out)
      generalize hC : mustS 58 sb = sc at hbc HC
      have EC := Lib.hid hC
      clear hC hbb
      go_wp2_with fail
      refine (numberTo_any g 59 sc _ hbc HC.out).mono ?_
      rintro e wd ⟨rfl, hbd, hgd⟩
      have hd1 := numToS_lt 59 sc
      generalize hD : numToS 59 sc = dd at hbd hd1
      obtain ⟨mm, sd⟩ := dd
      have ED := Lib.hid hD
      have hoff : offS true q = (sg * ((hh : Int) * 3600 + (mm : Int) * 60), sd) := by
        unfold offS
        simp only [EA.out, EB.out, if_true, EC.out, ED.out]
      have OFF := Lib.hid hoff
      have hh1 : (hh : Int) < 100 := by omega
      have hm1 : (mm : Int) < 100 := by omega
      clear hD hoff hbc
      simp only at hbd
      rcases ha1 with rfl | rfl
      · go_wp2_with fail
        go_ret
        exact ⟨by rw [HM.out, OFF.out]; exact ret_val (int_val (by omega)), by rw [HM.out, OFF.out]; exact hbd, hgq.trans (hga.trans (hgb.trans (hgc.trans hgd)))⟩
      · go_wp2_with fail
        go_ret
        exact ⟨by rw [HM.out, OFF.out]; exact ret_val (int_val (by omega)), by rw [HM.out, OFF.out]; exact hbd, hgq.trans (hga.trans (hgb.trans (hgc.trans hgd)))⟩

def mailZoneS (s : St) : Int × St :=
  let a := runS letB 0 3 s
  if a.1 = [] then offS false a.2 else match zonN a.1 with
    | none => (0, (a.2.1, true))
    | some n => (n * 3600, a.2)
theorem zonN_bd (l : List UInt8) (n : Int) (h : zonN l = some n) : -8 ≤ n ∧ n ≤ 0 := by
  unfold zonN at h
  repeat' split at h
  all_goals (first | (cases h; decide) | (cases h))
theorem mailZoneS_bd (s : St) : -1000000 ≤ (mailZoneS s).1 ∧ (mailZoneS s).1 ≤ 1000000 := by
  unfold mailZoneS
  simp only
  split
  · exact offS_bd _ _
  · split
    · show (-1000000 : Int) ≤ 0 ∧ (0 : Int) ≤ 1000000; decide
    · rename_i n hn
      have := zonN_bd _ n hn
      constructor <;> simp only <;> omega

set_option maxHeartbeats 1600000 in
theorem mailZone_any (g : Nat) (s : St) (w : World) (hr : RS w g s) (hs : Short s) :
    Calls Tryd.prog 28 #[.pointer (some ⟨g, 0, none⟩)] w (Does w g (.int .i64 (mailZoneS s).1) (mailZoneS s).2) := by
  have h1 := run_let g 0 3 s.1 s.2 w hr hs (by omega)
  have hs1 := runS_short (p := letB) (a := 0) (b := 3) hs
  have hm0 : mailZoneS s = if (runS letB 0 3 s).1 = [] then offS false (runS letB 0 3 s).2 else match zonN (runS letB 0 3 s).1 with
    | none => (0, ((runS letB 0 3 s).2.1, true))
    | some n => (n * 3600, (runS letB 0 3 s).2) := rfl
  have h1' : Calls Tryd.prog 19 #[.pointer (some ⟨g, 0, none⟩), .int .i64 ((0 : Nat) : Int), .int .i64 ((3 : Nat) : Int), .func (.func 26) #[] #[]] w (Does w g (.string (str (runS letB 0 3 s).1)) (runS letB 0 3 s).2) := h1
  generalize runS letB 0 3 s = a at h1' hs1 hm0
  obtain ⟨nm, s1⟩ := a
  simp only at h1' hs1 hm0
  have H1 := Lib.hid h1'
  have HS1 := Lib.hid hs1
  clear h1 h1' hs1 hr hs
  cases nm with
  | nil =>
    rw [if_pos rfl] at hm0
    have HM := Lib.hid hm0
    clear hm0
    go_enter Tryd.func28, Tryd.ntmps28
    go_wp2_with fail
    refine H1.out.mono ?_
    rintro e w1 ⟨rfl, hbq, hgq⟩
    generalize s1 = q at hbq HM HS1
    have HQ := HS1
    go_wp2_with fail
    refine (sign_any g q _ hbq HQ.out).mono ?_
    rintro e wa ⟨rfl, hba, hga⟩
    have ha1 := signS_1 q
    have HA := Lib.hid (signS_short HQ.out)
    generalize hA : signS q = a at hba ha1 HA
    obtain ⟨sg, sa⟩ := a
    have EA := Lib.hid hA
    clear hA hbq
    simp only at hba ha1 HA
    go_wp2_with fail
    refine (numberTo_any g 23 sa _ hba HA.out).mono ?_
    rintro e wb ⟨rfl, hbb, hgb⟩
    have hb1 := numToS_lt 23 sa
    have HBs := Lib.hid (numToS_short (n := 23) HA.out)
    generalize hB : numToS 23 sa = b at hbb hb1 HBs
    obtain ⟨hh, sb⟩ := b
    have EB := Lib.hid hB
    clear hB hba
    simp only at hbb hb1 HBs
    go_wp2_with fail
    refine (numberTo_any g 59 sb _ hbb HBs.out).mono ?_
    rintro e wd ⟨rfl, hbd, hgd⟩
    have hd1 := numToS_lt 59 sb
    generalize hD : numToS 59 sb = dd at hbd hd1
    obtain ⟨mm, sd⟩ := dd
    have ED := Lib.hid hD
    have hoff : offS false q = (sg * ((hh : Int) * 3600 + (mm : Int) * 60), sd) := by
      unfold offS
      simp only [EA.out, EB.out, if_neg (show ¬ (false = true) by simp), ED.out]
    have OFF := Lib.hid hoff
    have hh1 : (hh : Int) < 100 := by omega
    have hm1 : (mm : Int) < 100 := by omega
    clear hD hoff
    simp only at hbd
    rcases ha1 with rfl | rfl
    · go_wp2_with fail
      go_ret
      exact ⟨by rw [HM.out, OFF.out]; exact ret_val (int_val (by omega)), by rw [HM.out, OFF.out]; exact hbd, hgq.trans (hga.trans (hgb.trans hgd))⟩
    · go_wp2_with fail
      go_ret
      exact ⟨by rw [HM.out, OFF.out]; exact ret_val (int_val (by omega)), by rw [HM.out, OFF.out]; exact hbd, hgq.trans (hga.trans (hgb.trans hgd))⟩
  | cons c r =>
    rw [if_neg (by simp)] at hm0
    cases hz : zonN (c :: r) with
    | none =>
      rw [hz] at hm0
      have HM := Lib.hid hm0
      have HZ := Lib.hid hz
      clear hm0 hz
      obtain ⟨l1, b1⟩ := s1
      cases b1
      all_goals
        go_enter Tryd.func28, Tryd.ntmps28
        go_wp2_with fail
        refine H1.out.mono ?_
        rintro e w1 ⟨rfl, hb1, hg1⟩
        go_wp2_with fail
        refine (zone_any _ _).mono ?_
        rw [HZ.out]
        rintro e w2 ⟨rfl, rfl⟩
        have c1 := hb1.cell 1
        simp only [List.getElem?_toArray, List.getElem?_cons_succ, List.getElem?_cons_zero] at c1
        have f1 := hb1.free 1
        simp only [zonV]
        go_wp2_with fail
        go_ret
        exact ⟨by rw [HM.out]; rfl, by rw [HM.out]; exact hb1.set 1 _, hg1.trans (grown_set _ g 1 _)⟩
    | some n =>
      rw [hz] at hm0
      have hbd := zonN_bd _ n hz
      obtain ⟨hn1, hn2⟩ := hbd
      have HM := Lib.hid hm0
      have HZ := Lib.hid hz
      clear hm0 hz
      obtain ⟨l1, b1⟩ := s1
      cases b1
      all_goals
        go_enter Tryd.func28, Tryd.ntmps28
        go_wp2_with fail
        refine H1.out.mono ?_
        rintro e w1 ⟨rfl, hb1, hg1⟩
        go_wp2_with fail
        refine (zone_any _ _).mono ?_
        rw [HZ.out]
        rintro e w2 ⟨rfl, rfl⟩
        have c1 := hb1.cell 1
        simp only [List.getElem?_toArray, List.getElem?_cons_succ, List.getElem?_cons_zero] at c1
        have f1 := hb1.free 1
        simp only [zonV]
        go_wp2_with fail
        go_ret
        exact ⟨by rw [HM.out]; rfl, by rw [HM.out]; exact hb1.set 1 _, hg1.trans (grown_set _ g 1 _)⟩

def weekdayS (s : St) : St :=
  let a := runS letB 0 3 s
  if a.1 = [] then a.2 else mustS 32 (mustS 44 (a.2.1, a.2.2 || !wdB a.1))
theorem weekdayS_short {s : St} (h : Short s) : Short (weekdayS s) := by
  have h1 := runS_short (p := letB) (a := 0) (b := 3) h
  unfold weekdayS
  simp only
  split
  · exact h1
  · exact mustS_short (mustS_short h1)

set_option maxHeartbeats 1600000 in
theorem weekdayS_any (g : Nat) (s : St) (w : World) (hr : RS w g s) (hs : Short s) :
    Calls Tryd.prog 23 #[.pointer (some ⟨g, 0, none⟩)] w (Does w g (.tuple #[]) (weekdayS s)) := by
  have h1 := run_let g 0 3 s.1 s.2 w hr hs (by omega)
  have hs1 := runS_short (p := letB) (a := 0) (b := 3) hs
  have hm0 : weekdayS s = if (runS letB 0 3 s).1 = [] then (runS letB 0 3 s).2 else mustS 32 (mustS 44 ((runS letB 0 3 s).2.1, (runS letB 0 3 s).2.2 || !wdB (runS letB 0 3 s).1)) := rfl
  have h1' : Calls Tryd.prog 19 #[.pointer (some ⟨g, 0, none⟩), .int .i64 ((0 : Nat) : Int), .int .i64 ((3 : Nat) : Int), .func (.func 26) #[] #[]] w (Does w g (.string (str (runS letB 0 3 s).1)) (runS letB 0 3 s).2) := h1
  generalize runS letB 0 3 s = a at h1' hs1 hm0
  obtain ⟨nm, s1⟩ := a
  simp only at h1' hs1 hm0
  have H1 := Lib.hid h1'
  clear h1 h1' hr hs
  cases nm with
  | nil =>
    rw [if_pos rfl] at hm0
    have HM := Lib.hid hm0
    clear hm0 hs1
    go_enter Tryd.func23, Tryd.ntmps23
    go_wp2_with fail
    refine H1.out.mono ?_
    rintro e w1 ⟨rfl, hb1, hg1⟩
    go_wp2_with fail
    go_returns
    exact ⟨rfl, by rw [HM.out]; exact hb1, hg1⟩
  | cons c r =>
    rw [if_neg (by simp)] at hm0
    obtain ⟨l1, b1⟩ := s1
    have HS2 : Hid (Short ((l1, b1 || !wdB (c :: r)) : St)) := Lib.hid hs1
    have HM := Lib.hid hm0
    clear hm0 hs1
    cases b1
    · cases hwd : wdB (c :: r)
      all_goals
        have HW := Lib.hid hwd
        have HM2 := HM.out
        have HS2o := HS2.out
        rw [hwd] at HM2 HS2o
        have HM3 := Lib.hid HM2
        have HS3 := Lib.hid HS2o
        clear hwd HM2 HS2o
        go_enter Tryd.func23, Tryd.ntmps23
        go_wp2_with fail
        refine H1.out.mono ?_
        rintro e w1 ⟨rfl, hb1, hg1⟩
        have c1 := hb1.cell 1
        simp only [List.getElem?_toArray, List.getElem?_cons_succ, List.getElem?_cons_zero] at c1
        have f1 := hb1.free 1
        go_wp2_with fail
        refine (weekday_any _ _).mono ?_
        rw [HW.out]
        rintro e w2 ⟨rfl, rfl⟩
        go_wp2_with fail
        refine (must_any g 44 _ _ (by exact hb1.set 1 _) HS3.out (by decide)).mono ?_
        rintro e w2 ⟨rfl, hb2, hg2⟩
        go_wp2_with fail
        refine (must_any g 32 _ _ hb2 (mustS_short HS3.out) (by decide)).mono ?_
        rintro e w3 ⟨rfl, hb3, hg3⟩
        go_wp2_with fail
        go_returns
        exact ⟨rfl, by rw [HM3.out]; exact hb3, hg1.trans ((grown_set _ g 1 _).trans (hg2.trans hg3))⟩
    · go_enter Tryd.func23, Tryd.ntmps23
      go_wp2_with fail
      refine H1.out.mono ?_
      rintro e w1 ⟨rfl, hb1, hg1⟩
      have c1 := hb1.cell 1
      simp only [List.getElem?_toArray, List.getElem?_cons_succ, List.getElem?_cons_zero] at c1
      have f1 := hb1.free 1
      go_wp2_with fail
      refine (must_any g 44 (l1, true) _ (by exact hb1.set 1 _) HS2.out (by decide)).mono ?_
      rintro e w2 ⟨rfl, hb2, hg2⟩
      go_wp2_with fail
      refine (must_any g 32 _ _ hb2 (mustS_short (by exact HS2.out)) (by decide)).mono ?_
      rintro e w3 ⟨rfl, hb3, hg3⟩
      go_wp2_with fail
      go_returns
      exact ⟨rfl, by rw [HM.out]; exact hb3, hg1.trans ((grown_set _ g 1 _).trans (hg2.trans hg3))⟩
end Go.Proofs.YtmimkcdomgoefabDoor
