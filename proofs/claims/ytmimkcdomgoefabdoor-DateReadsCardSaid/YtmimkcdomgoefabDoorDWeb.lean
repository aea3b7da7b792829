/-
  date.reader's mailYear, moment, clock; date.Web, Mail, Any: what they answer, as functions of the text. Conditions: the text takes at most 2^47 bytes.
-/
import Derived.Test.YtmimkcdomgoefabDoorDParts
namespace Go.Proofs.YtmimkcdomgoefabDoor
open Go.RowKit

def mailYearS (s : St) : Int × St :=
  let a := runS digB 2 4 s
  let v := (valN a.1 : Int)
  if a.1.length = 3 then (v, (a.2.1, true)) else if a.1.length = 2 then (if 50 ≤ v then (v + 1900, a.2) else (v + 2000, a.2)) else (v, a.2)
theorem mailYearS_short {s : St} (h : Short s) : Short (mailYearS s).2 := by
  have h1 := runS_short (p := digB) (a := 2) (b := 4) h
  unfold mailYearS
  simp only
  split
  · exact h1
  · split
    · split <;> exact h1
    · exact h1

set_option maxHeartbeats 1600000 in
theorem mailYear_any (g : Nat) (s : St) (w : World) (hr : RS w g s) (hs : Short s) :
    Calls Tryd.prog 27 #[.pointer (some ⟨g, 0, none⟩)] w (Does w g (.int .i64 (mailYearS s).1) (mailYearS s).2) := by
  have h1 := run_dig g 2 4 s.1 s.2 w hr hs (by omega)
  have hd := runT_dig 2 4 s.1
  have hl := runT_len digB 2 4 s.1
  have hm0 : mailYearS s = if (runS digB 2 4 s).1.length = 3 then ((valN (runS digB 2 4 s).1 : Int), ((runS digB 2 4 s).2.1, true)) else if (runS digB 2 4 s).1.length = 2 then (if 50 ≤ (valN (runS digB 2 4 s).1 : Int) then ((valN (runS digB 2 4 s).1 : Int) + 1900, (runS digB 2 4 s).2) else ((valN (runS digB 2 4 s).1 : Int) + 2000, (runS digB 2 4 s).2)) else ((valN (runS digB 2 4 s).1 : Int), (runS digB 2 4 s).2) := rfl
  have h1' : Calls Tryd.prog 19 #[.pointer (some ⟨g, 0, none⟩), .int .i64 ((2 : Nat) : Int), .int .i64 ((4 : Nat) : Int), .func (.func 20) #[] #[]] w (Does w g (.string (str (runS digB 2 4 s).1)) (runS digB 2 4 s).2) := h1
  have hd' : AllDig (runS digB 2 4 s).1 := hd
  have hl' : (runS digB 2 4 s).1.length ≤ 4 := hl
  generalize runS digB 2 4 s = a at h1' hm0 hd' hl'
  obtain ⟨l, s1⟩ := a
  simp only at h1' hm0 hd' hl'
  have hv := valN_lt l hd' l.length (Nat.le_refl _)
  rw [List.take_length] at hv
  have hv4 : (10 : Nat) ^ l.length ≤ 10 ^ 4 := Nat.pow_le_pow_right (by decide) hl'
  have hc := fun w1 => value_any l w1 hd' (by omega)
  generalize valN l = v at hm0 hv hc
  have hvI : (v : Int) ≤ 10000 := by omega
  have H1 := Lib.hid h1'
  have HC := Lib.hid hc
  clear h1 h1' hd hl hd' hv hv4 hr hs hc
  by_cases h3 : l.length = 3
  · rw [if_pos h3] at hm0
    have HM := Lib.hid hm0
    have HL3 := Lib.hid h3
    have hlI : (l.length : Int) = 3 := by omega
    clear hm0 h3 hl'
    go_enter Tryd.func27, Tryd.ntmps27
    go_wp2_with fail
    refine H1.out.mono ?_
    rintro e w1 ⟨rfl, hb1, hg1⟩
    go_wp2_with fail
    refine (HC.out w1).mono ?_
    rintro e w2 ⟨rfl, hb2⟩
    have hr2 : RS w2 g s1 := hb1.below hb2 hb1.lt
    have c1 := hr2.cell 1
    simp only [List.getElem?_toArray, List.getElem?_cons_succ, List.getElem?_cons_zero] at c1
    have f1 := hr2.free 1
    go_wp2_with fail
    go_ret
    exact ⟨by rw [HM.out]; rfl, by rw [HM.out]; exact hr2.set 1 _, (grown_made hg1 hb2).trans (grown_set _ g 1 _)⟩
  · rw [if_neg h3] at hm0
    by_cases h2 : l.length = 2
    · rw [if_pos h2] at hm0
      have hlI : (l.length : Int) = 2 := by omega
      by_cases h50 : (50 : Int) ≤ (v : Int)
      · rw [if_pos h50] at hm0
        have HM := Lib.hid hm0
        clear hm0 h3 hl' h2
        go_enter Tryd.func27, Tryd.ntmps27
        go_wp2_with fail
        refine H1.out.mono ?_
        rintro e w1 ⟨rfl, hb1, hg1⟩
        go_wp2_with fail
        refine (HC.out w1).mono ?_
        rintro e w2 ⟨rfl, hb2⟩
        have hr2 : RS w2 g s1 := hb1.below hb2 hb1.lt
        go_wp2_with fail
        go_ret
        exact ⟨by rw [HM.out]; rfl, by rw [HM.out]; exact hr2, grown_made hg1 hb2⟩
      · rw [if_neg h50] at hm0
        have d50 : decide ((50 : Int) ≤ (v : Int)) = false := decide_eq_false h50
        have HM := Lib.hid hm0
        clear hm0 h3 hl' h2
        go_enter Tryd.func27, Tryd.ntmps27
        go_wp2_with fail
        refine H1.out.mono ?_
        rintro e w1 ⟨rfl, hb1, hg1⟩
        go_wp2_with fail
        refine (HC.out w1).mono ?_
        rintro e w2 ⟨rfl, hb2⟩
        have hr2 : RS w2 g s1 := hb1.below hb2 hb1.lt
        go_wp2_with fail
        go_ret
        exact ⟨by rw [HM.out]; rfl, by rw [HM.out]; exact hr2, grown_made hg1 hb2⟩
    · rw [if_neg h2] at hm0
      have hl3I : ¬ (l.length : Int) = 3 := by omega
      have hl2I : ¬ (l.length : Int) = 2 := by omega
      have b3 : ((l.length : Int) == 3) = false := by simp [hl3I]
      have b2 : ((l.length : Int) == 2) = false := by simp [hl2I]
      have HM := Lib.hid hm0
      clear hm0 h3 hl' h2 hl3I hl2I
      go_enter Tryd.func27, Tryd.ntmps27
      go_wp2_with fail
      refine H1.out.mono ?_
      rintro e w1 ⟨rfl, hb1, hg1⟩
      go_wp2_with fail
      refine (HC.out w1).mono ?_
      rintro e w2 ⟨rfl, hb2⟩
      have hr2 : RS w2 g s1 := hb1.below hb2 hb1.lt
      go_wp2_with fail
      go_ret
      exact ⟨by rw [HM.out]; rfl, by rw [HM.out]; exact hr2, grown_made hg1 hb2⟩

/-- The moment that is told, or none. -/
def errN : Option Int → Int
  | none => 40
  | some _ => 0
def momV (o : Option Int) : Value := .tuple #[.int .i64 (o.getD 0), .int .i64 (errN o)]
instance (y m d h mi s : Int) : Decidable (okD y m d h mi s) := by unfold okD; infer_instance
def momS (y m d h mi s ahead : Int) (r : St) : Option Int :=
  if okD y m d h mi s ∧ r = ([], false) ∧ mayN (momN y m d h mi s - ahead) = true then some (momN y m d h mi s - ahead) else none

set_option maxHeartbeats 1600000 in
theorem rmom_no (g : Nat) (r : St) (w : World) (hr : RS w g r) (y m d h mi s ahead : Int) (hk : ¬ (okD y m d h mi s ∧ r = ([], false))) :
    Calls Tryd.prog 21 #[.pointer (some ⟨g, 0, none⟩), .agg #[.int .i64 y, .int .i64 m, .int .i64 d, .int .i64 h, .int .i64 mi, .int .i64 s], .int .i64 ahead] w (Made w (momV none)) := by
  have hlt := hr.lt
  by_cases hok : okD y m d h mi s
  · have hne : ¬ r = ([], false) := fun e => hk ⟨hok, e⟩
    have hmom := moment_ok y m d h mi s (w.alloc (.cells #[.int .i64 y, .int .i64 m, .int .i64 d, .int .i64 h, .int .i64 mi, .int .i64 s] 30)) hok
    generalize hM : momN y m d h mi s = M at hmom
    have HM := Lib.hid hmom
    obtain ⟨l, b⟩ := r
    have HR := Lib.hid hr
    clear hk hok hmom hM hr
    cases b with
    | true =>
      clear hne
      go_enter Tryd.func21, Tryd.ntmps21
      go_wp2_with fail
      refine HM.out.mono ?_
      rintro e w1 ⟨rfl, b1⟩
      have hr1 : RS w1 g (l, true) := (HR.out.alloc _).below b1 (by simp; omega)
      have c1 := hr1.cell 1
      simp only [List.getElem?_toArray, List.getElem?_cons_succ, List.getElem?_cons_zero] at c1
      go_wp2_with fail
      go_ret2
      exact ⟨rfl, ((Below.refl _ _).alloc (Nat.le_refl _) _).trans (b1.mono (by simp))⟩
    | false =>
      cases l with
      | nil => exact absurd rfl hne
      | cons c x =>
        clear hne
        go_enter Tryd.func21, Tryd.ntmps21
        go_wp2_with fail
        refine HM.out.mono ?_
        rintro e w1 ⟨rfl, b1⟩
        have hr1 : RS w1 g (c :: x, false) := (HR.out.alloc _).below b1 (by simp; omega)
        have c1 := hr1.cell 1
        have c0 := hr1.cell 0
        simp only [List.getElem?_toArray, List.getElem?_cons_succ, List.getElem?_cons_zero] at c1 c0
        go_wp2_with fail
        go_ret2
        exact ⟨rfl, ((Below.refl _ _).alloc (Nat.le_refl _) _).trans (b1.mono (by simp))⟩
  · have HOK := Lib.hid hok
    clear hk hok
    go_enter Tryd.func21, Tryd.ntmps21
    go_wp2_with fail
    refine (moment_no y m d h mi s _ HOK.out).mono ?_
    rintro e w1 ⟨rfl, b1⟩
    go_wp2_with fail
    go_ret2
    exact ⟨rfl, ((Below.refl _ _).alloc (Nat.le_refl _) _).trans (b1.mono (by simp))⟩

set_option maxHeartbeats 1600000 in
theorem rmom_yes (g : Nat) (w : World) (hr : RS w g ([], false)) (y m d h mi s ahead : Int) (hk : okD y m d h mi s) (ha1 : -1000000 ≤ ahead) (ha2 : ahead ≤ 1000000) :
    Calls Tryd.prog 21 #[.pointer (some ⟨g, 0, none⟩), .agg #[.int .i64 y, .int .i64 m, .int .i64 d, .int .i64 h, .int .i64 mi, .int .i64 s], .int .i64 ahead] w (Made w (momV (if mayN (momN y m d h mi s - ahead) = true then some (momN y m d h mi s - ahead) else none))) := by
  have hlt := hr.lt
  have hmom := moment_ok y m d h mi s (w.alloc (.cells #[.int .i64 y, .int .i64 m, .int .i64 d, .int .i64 h, .int .i64 mi, .int .i64 s] 30)) hk
  obtain ⟨hv, hc⟩ := okD_valid hk
  have hrg := mom_range hv hc
  generalize momN y m d h mi s = M at hmom hrg
  obtain ⟨hg1, hg2⟩ := hrg
  have HM := Lib.hid hmom
  have HR := Lib.hid hr
  have hw : IntKind.i64.wrap (M - ahead) = M - ahead := IntWalk.i64_in _ (by omega)
  obtain ⟨N, hN⟩ : ∃ N : Int, M - ahead = N := ⟨_, rfl⟩
  rw [hN] at hw ⊢
  clear hmom hr hv hc hg1 hg2 hk ha1 ha2
  by_cases h1 : N < -62135596800
  · have d1 : decide (N < -62135596800) = true := decide_eq_true h1
    have hno : mayN N = false := (may_no N).2 (by omega)
    rw [if_neg (by rw [hno]; simp)]
    clear h1 hno
    go_enter Tryd.func21, Tryd.ntmps21
    go_wp2_with fail
    refine HM.out.mono ?_
    rintro e w1 ⟨rfl, b1⟩
    have hr1 : RS w1 g ([], false) := (HR.out.alloc _).below b1 (by simp; omega)
    have c1 := hr1.cell 1
    have c0 := hr1.cell 0
    simp only [List.getElem?_toArray, List.getElem?_cons_succ, List.getElem?_cons_zero] at c1 c0
    go_wp2_with fail
    go_ret2
    exact ⟨rfl, ((Below.refl _ _).alloc (Nat.le_refl _) _).trans (b1.mono (by simp))⟩
  · have d1 : decide (N < -62135596800) = false := decide_eq_false h1
    by_cases h2 : 253402300799 < N
    · have d2 : decide (253402300799 < N) = true := decide_eq_true h2
      have hno : mayN N = false := (may_no N).2 (by omega)
      rw [if_neg (by rw [hno]; simp)]
      clear h1 hno h2
      go_enter Tryd.func21, Tryd.ntmps21
      go_wp2_with fail
      refine HM.out.mono ?_
      rintro e w1 ⟨rfl, b1⟩
      have hr1 : RS w1 g ([], false) := (HR.out.alloc _).below b1 (by simp; omega)
      have c1 := hr1.cell 1
      have c0 := hr1.cell 0
      simp only [List.getElem?_toArray, List.getElem?_cons_succ, List.getElem?_cons_zero] at c1 c0
      go_wp2_with fail
      go_ret2
      exact ⟨rfl, ((Below.refl _ _).alloc (Nat.le_refl _) _).trans (b1.mono (by simp))⟩
    · have d2 : decide (253402300799 < N) = false := decide_eq_false h2
      have hyes : mayN N = true := (may_iff N).2 (by omega)
      rw [if_pos hyes]
      clear h1 hyes h2
      go_enter Tryd.func21, Tryd.ntmps21
      go_wp2_with fail
      refine HM.out.mono ?_
      rintro e w1 ⟨rfl, b1⟩
      have hr1 : RS w1 g ([], false) := (HR.out.alloc _).below b1 (by simp; omega)
      have c1 := hr1.cell 1
      have c0 := hr1.cell 0
      simp only [List.getElem?_toArray, List.getElem?_cons_succ, List.getElem?_cons_zero] at c1 c0
      go_wp2_with fail
      go_ret2
      exact ⟨rfl, ((Below.refl _ _).alloc (Nat.le_refl _) _).trans (b1.mono (by simp))⟩

theorem rmom_any (g : Nat) (r : St) (w : World) (hr : RS w g r) (y m d h mi s ahead : Int) (ha1 : -1000000 ≤ ahead) (ha2 : ahead ≤ 1000000) :
    Calls Tryd.prog 21 #[.pointer (some ⟨g, 0, none⟩), .agg #[.int .i64 y, .int .i64 m, .int .i64 d, .int .i64 h, .int .i64 mi, .int .i64 s], .int .i64 ahead] w (Made w (momV (momS y m d h mi s ahead r))) := by
  by_cases hk : okD y m d h mi s ∧ r = ([], false)
  · obtain ⟨hk1, rfl⟩ := hk
    have := rmom_yes g w hr y m d h mi s ahead hk1 ha1 ha2
    have e : momS y m d h mi s ahead ([], false) = if mayN (momN y m d h mi s - ahead) = true then some (momN y m d h mi s - ahead) else none := by
      unfold momS
      by_cases hc : mayN (momN y m d h mi s - ahead) = true
      · rw [if_pos hc, if_pos ⟨hk1, rfl, hc⟩]
      · rw [if_neg hc, if_neg (fun hh => hc hh.2.2)]
    rw [e]
    exact this
  · have := rmom_no g r w hr y m d h mi s ahead hk
    have e : momS y m d h mi s ahead r = none := by
      unfold momS
      rw [if_neg (fun hh => hk ⟨hh.1, hh.2.1⟩)]
    rw [e]
    exact this

def clockS (s : St) : Nat × Nat × St :=
  let a := numS 2 s
  let b := numS 2 (mustS 58 a.2)
  (a.1, b.1, b.2)
theorem clockS_short {s : St} (h : Short s) : Short (clockS s).2.2 := numS_short (n := 2) (mustS_short (numS_short (n := 2) h))

set_option maxHeartbeats 1600000 in
theorem clock_any (g gd B : Nat) (r : St) (w : World) (hr : RS w g r) (hs : Short r) (hne : g ≠ gd) (hBg : B ≤ g) (hBd : B ≤ gd) (y m d h mi s : Int) (hd : Blk w gd 30 #[.int .i64 y, .int .i64 m, .int .i64 d, .int .i64 h, .int .i64 mi, .int .i64 s]) :
    Calls Tryd.prog 18 #[.pointer (some ⟨g, 0, none⟩), .pointer (some ⟨gd, 0, none⟩)] w fun e w' =>
      e = .returned (.tuple #[]) ∧ RS w' g (clockS r).2.2 ∧ Blk w' gd 30 #[.int .i64 y, .int .i64 m, .int .i64 d, .int .i64 ((clockS r).1 : Int), .int .i64 ((clockS r).2.1 : Int), .int .i64 s] ∧ Below B w w' := by
  have h1 := number_any g 2 r w hr hs (by omega)
  have hs1 := numS_short (n := 2) hs
  have hc : clockS r = ((numS 2 r).1, (numS 2 (mustS 58 (numS 2 r).2)).1, (numS 2 (mustS 58 (numS 2 r).2)).2) := rfl
  have hlt := hr.lt
  generalize numS 2 r = a at h1 hs1 hc
  obtain ⟨hh, r1⟩ := a
  simp only at h1 hs1 hc
  have hs2 := mustS_short (x := 58) hs1
  have H1 := Lib.hid h1
  have HS1 := Lib.hid hs1
  have HS2 := Lib.hid hs2
  have HC := Lib.hid hc
  have HD := Lib.hid hd
  have HNE := Lib.hid hne
  clear h1 hs1 hs2 hc hr hs hd hne
  go_enter Tryd.func18, Tryd.ntmps18
  go_wp2_with fail
  refine H1.out.mono ?_
  rintro e w1 ⟨rfl, hr1, hg1⟩
  have hd1 := HD.out.grown hg1 (fun e => by injection e with e; exact HNE.out e.symm)
  have b1 : Below B w w1 := (Below.refl B w).grown hg1 (by omega) (fun k hk => by injection hk with hk; omega)
  have c3 := hd1.cell 3
  simp only [List.getElem?_toArray, List.getElem?_cons_succ, List.getElem?_cons_zero] at c3
  have f3 := hd1.free 3
  have hd2 := hd1.set 3 (.int .i64 (hh : Int))
  have hr2 : RS (w1.setCell ⟨gd, 3, none⟩ (.int .i64 (hh : Int))) g r1 := Blk.grown hr1 (grown_set w1 gd 3 _) (fun e => by injection e with e; exact HNE.out e)
  have b2 : Below B w (w1.setCell ⟨gd, 3, none⟩ (.int .i64 (hh : Int))) := b1.grown (grown_set w1 gd 3 _) (by have := b1.size; omega) (fun k hk => by injection hk with hk; omega)
  have D2 := Lib.hid hd2
  have R2 := Lib.hid hr2
  clear hd1 hr1 hg1 hd2 hr2 b1
  go_wp2_with fail
  refine (must_any g 58 r1 _ (by exact R2.out) HS1.out (by decide)).mono ?_
  rintro e w3 ⟨rfl, hr3, hg3⟩
  have hd3 := D2.out.grown hg3 (fun e => by injection e with e; exact HNE.out e.symm)
  have b3 : Below B w w3 := b2.grown hg3 (by have := b2.size; omega) (fun k hk => by injection hk with hk; omega)
  generalize mustS 58 r1 = r3 at hr3 HS2 HC
  clear hg3 b2
  go_wp2_with fail
  refine (number_any g 2 r3 _ hr3 HS2.out (by omega)).mono ?_
  rintro e w4 ⟨rfl, hr4, hg4⟩
  have hd4 := hd3.grown hg4 (fun e => by injection e with e; exact HNE.out e.symm)
  have b4 : Below B w w4 := b3.grown hg4 (by have := b3.size; omega) (fun k hk => by injection hk with hk; omega)
  generalize numS 2 r3 = q at hr4 HC
  obtain ⟨mm, r4⟩ := q
  simp only at hr4 HC
  have c4 : w4.cell? ⟨gd, 4, none⟩ = some (.int .i64 mi) := hd4.cell 4
  have f4 := hd4.free 4
  clear hd3 hr3 hg4 b3
  have hd5 := hd4.set 4 (.int .i64 (mm : Int))
  have hr5 : RS (w4.setCell ⟨gd, 4, none⟩ (.int .i64 (mm : Int))) g r4 := Blk.grown hr4 (grown_set w4 gd 4 _) (fun e => by injection e with e; exact HNE.out e)
  have b5 : Below B w (w4.setCell ⟨gd, 4, none⟩ (.int .i64 (mm : Int))) := b4.grown (grown_set w4 gd 4 _) (by have := b4.size; omega) (fun k hk => by injection hk with hk; omega)
  have D5 := Lib.hid hd5
  have R5 := Lib.hid hr5
  clear hd4 hr4 hd5 hr5
  go_wp2_with fail
  go_returns
  rw [HC.out]
  exact ⟨rfl, R5.out, D5.out, b5⟩
end Go.Proofs.YtmimkcdomgoefabDoor
