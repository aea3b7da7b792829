/-
  Dates of moments (date.dayOf, Of; newsstandref04.Of). No condition but what each says.
-/
import Derived.Test.YtelhdkidnhfnbabGreatDoorDMom
import Derived.Test.YtelhdkidnhfnbabGreatDoorDBlk
namespace Go.Proofs.YtelhdkidnhfnbabGreatDoor
open Go.RowKit

def DayPost (w : World) (n : Int) (e : Ending) (w' : World) : Prop :=
  ∃ y m d : Int, e = .returned (.agg #[.int .i64 y, .int .i64 m, .int .i64 d, .int .i64 0, .int .i64 0, .int .i64 0]) ∧ validD y m d ∧ dayN y m d = n ∧ Below w.heap.size w w'

def YearRel (n : Int) (u : Value) : Prop := ∃ y : Int, 1 ≤ y ∧ y ≤ 9999 ∧ aheadN y ≤ n ∧ u = .int .i64 y
def MonRel (n y : Int) (u0 u4 : Value) : Prop := ∃ k : Nat, 1 ≤ k ∧ k ≤ 12 ∧ 0 ≤ n - aheadN y - cumN y (k - 1) ∧ u4 = .int .i64 (k : Int) ∧ u0 = .int .i64 (n - aheadN y - cumN y (k - 1))

theorem mon_fin {n y : Int} {k : Nat} (hy1 : 1 ≤ y) (hy2 : y ≤ 9999) (hk1 : 1 ≤ k) (hk2 : k ≤ 12) (hr : 0 ≤ n - aheadN y - cumN y (k - 1)) (hlt : n - aheadN y - cumN y (k - 1) < dimN y (k : Int)) :
    validD y (k : Int) (n - aheadN y - cumN y (k - 1) + 1) ∧ dayN y (k : Int) (n - aheadN y - cumN y (k - 1) + 1) = n := by
  refine ⟨⟨hy1, hy2, by omega, by omega, by omega, by omega⟩, ?_⟩
  unfold dayN
  rw [show ((k : Int) - 1).toNat = k - 1 by omega]
  omega
theorem mon_more {n y : Int} {k : Nat} (hn : n < aheadN (y + 1)) (hk1 : 1 ≤ k) (hk2 : k ≤ 12) (hge : dimN y (k : Int) ≤ n - aheadN y - cumN y (k - 1)) :
    k + 1 ≤ 12 ∧ 0 ≤ n - aheadN y - cumN y (k + 1 - 1) ∧ n - aheadN y - cumN y (k - 1) - dimN y (k : Int) = n - aheadN y - cumN y (k + 1 - 1) := by
  have h := cum_nat y k hk1
  have ha := ahead_step y
  refine ⟨?_, by omega, by omega⟩
  rcases Nat.lt_or_ge k 12 with hlt | hge'
  · exact hlt
  · obtain rfl : k = 12 := by omega
    rw [show (12 + 1 - 1 : Nat) = 12 from rfl] at h
    omega

set_option maxHeartbeats 1600000 in
theorem dayOf_any (n : Int) (w : World) (h0 : 0 ≤ n) (h1 : n ≤ 3652058) : Calls Tryz.prog 77 #[.int .i64 n] w (DayPost w n) := by
  have hg := ahead_guess n h0
  have HG := Lib.hid hg
  clear hg
  go_enter Tryz.func77, Tryz.ntmps77
  go_wp2_with fail
  go_loop [3] (YearRel n) (fun u => (10000 - intOf u).toNat)
  case atStart => exact ⟨_, by omega, by omega, HG.out, rfl⟩
  case round =>
    obtain ⟨y, hy1, hy2, hy3, rfl⟩ := hrel
    have hb := ahead_bd (y + 1) (by omega) (by omega)
    have hb0 := ahead_bd y (by omega) (by omega)
    by_cases hc : aheadN (y + 1) ≤ n
    · have hlast : y < 9999 := by
        rcases Int.lt_or_le y 9999 with h | h
        · exact h
        · obtain rfl : y = 9999 := by omega
          have := ahead_last
          rw [show (9999 + 1 : Int) = 10000 from rfl] at hc
          omega
      go_wp2_with fail
      refine (ahead_any _ _ (by omega) (by omega)).mono ?_
      rintro e w9 ⟨rfl, rfl⟩
      go_wp2_with fail
      go_round
      case rel => exact ⟨y + 1, by omega, by omega, hc, rfl⟩
      case measure => simp [intOf]; omega
    · have hlt : n < aheadN (y + 1) := by omega
      have HLT := Lib.hid hlt
      clear hc
      go_wp2_with fail
      refine (ahead_any _ _ (by omega) (by omega)).mono ?_
      rintro e w9 ⟨rfl, rfl⟩
      go_wp2_with fail
      refine (ahead_any _ _ (by omega) (by omega)).mono ?_
      rintro e w9 ⟨rfl, rfl⟩
      go_wp2_with fail
      go_loop [0, 4] (MonRel n y) (fun _ u => (13 - intOf u).toNat)
      case atStart => exact ⟨1, by omega, by omega, by simp [cumN]; omega, rfl, by simp [cumN]⟩
      case round =>
        obtain ⟨k, hk1, hk2, hr, rfl, rfl⟩ := hrel
        have hdb := dim_bd y (k : Int)
        have hcb := cum_le y (k - 1) (by omega)
        have hdays := days_in y (k : Int) hy1 hy2 (by omega) (by omega)
        have HDD := Lib.hid hdays
        clear hdays
        generalize hq : dimN y (k : Int) = q at hdb
        have HQ := Lib.hid hq
        clear hq
        by_cases hge : q ≤ n - aheadN y - cumN y (k - 1)
        · have hmore := mon_more HLT.out hk1 hk2 (by rw [HQ.out]; exact hge)
          have HM := Lib.hid hmore
          clear hmore
          go_wp2_with fail
          refine (days_any y (k : Int) _).mono ?_
          rw [HDD.out, HQ.out]
          rintro e w9 ⟨rfl, rfl⟩
          go_wp2_with fail
          refine (days_any y (k : Int) _).mono ?_
          rw [HDD.out, HQ.out]
          rintro e w9 ⟨rfl, rfl⟩
          go_wp2_with fail
          go_round
          case rel => exact ⟨k + 1, by omega, HM.out.1, HM.out.2.1, by go_num, by rw [← HM.out.2.2, HQ.out]⟩
          case measure => simp [intOf]; omega
        · have hfin := mon_fin hy1 hy2 hk1 hk2 hr (by rw [HQ.out]; omega)
          have HF := Lib.hid hfin
          clear hfin
          go_wp2_with fail
          refine (days_any y (k : Int) _).mono ?_
          rw [HDD.out, HQ.out]
          rintro e w9 ⟨rfl, rfl⟩
          go_wp2_with fail
          refine bodyPost_ret (v := .agg #[.int .i64 y, .int .i64 (k : Int), .int .i64 (n - aheadN y - cumN y (k - 1) + 1), .int .i64 0, .int .i64 0, .int .i64 0]) (by simp [results, Tryz.results77, go_sem]) rfl ?_
          exact ⟨y, (k : Int), _, rfl, HF.out.1, HF.out.2, (Below.refl _ _).alloc (Nat.le_refl _) _⟩

/-- The date that a moment's is. -/
def OfPost (w : World) (n : Int) (e : Ending) (w' : World) : Prop :=
  ∃ y m d h mi s : Int, e = .returned (.tuple #[.agg #[.int .i64 y, .int .i64 m, .int .i64 d, .int .i64 h, .int .i64 mi, .int .i64 s], .int .i64 0]) ∧ validD y m d ∧ clockD h mi s ∧ momN y m d h mi s = n ∧ Below w.heap.size w w'

set_option maxHeartbeats 1600000 in
theorem of_no (n : Int) (w : World) (h : mayN n = false) :
    Calls Tryz.prog 61 #[.int .i64 n] w (Made w (.tuple #[.agg #[.int .i64 0, .int .i64 0, .int .i64 0, .int .i64 0, .int .i64 0, .int .i64 0], .int .i64 40])) := by
  rw [may_no] at h
  by_cases h1 : n < -62135596800
  · have d1 : decide (n < -62135596800) = true := decide_eq_true h1
    clear h h1
    go_enter Tryz.func61, Tryz.ntmps61
    go_wp2_with fail
    refine bodyPost_ret (v := .tuple #[.agg #[.int .i64 0, .int .i64 0, .int .i64 0, .int .i64 0, .int .i64 0, .int .i64 0], .int .i64 40]) (by simp [results, Tryz.results61, go_sem]) rfl ?_
    exact ⟨rfl, (Below.refl _ _).alloc (Nat.le_refl _) _⟩
  · have d1 : decide (n < -62135596800) = false := decide_eq_false h1
    have d2 : decide (253402300799 < n) = true := decide_eq_true (by omega)
    clear h h1
    go_enter Tryz.func61, Tryz.ntmps61
    go_wp2_with fail
    refine bodyPost_ret (v := .tuple #[.agg #[.int .i64 0, .int .i64 0, .int .i64 0, .int .i64 0, .int .i64 0, .int .i64 0], .int .i64 40]) (by simp [results, Tryz.results61, go_sem]) rfl ?_
    exact ⟨rfl, (Below.refl _ _).alloc (Nat.le_refl _) _⟩

theorem of_mom (n S y m d : Int) (hS : S = n + 62135596800) (hd : dayN y m d = S / 86400) : momN y m d (S / 3600 % 24) (S / 60 % 60) (S % 60) = n := by
  unfold momN zeroN
  rw [hd]
  omega

set_option maxHeartbeats 800000 in
theorem of_yes (n : Int) (w : World) (h : mayN n = true) : Calls Tryz.prog 61 #[.int .i64 n] w (OfPost w n) := by
  rw [may_iff] at h
  obtain ⟨h1, h2⟩ := h
  have d1 : decide (n < -62135596800) = false := decide_eq_false (by omega)
  have d2 : decide (253402300799 < n) = false := decide_eq_false (by omega)
  obtain ⟨S, hS⟩ : ∃ S : Int, S = n + 62135596800 := ⟨_, rfl⟩
  have hs : n - -62135596800 = S := by omega
  have hs0 : 0 ≤ S := by omega
  have hs1 : S / 86400 ≤ 3652058 := by omega
  have hs2 : S ≤ 315537897599 := by omega
  have HS := Lib.hid hS
  have HS1 := Lib.hid hs1
  clear hS hs1 h1 h2
  go_enter Tryz.func61, Tryz.ntmps61
  go_wp2_with fail
  refine (dayOf_any _ _ (by omega) HS1.out).mono ?_
  rintro e w1 ⟨y, m, d, rfl, hv, hd, b1⟩
  have hblk : Blk w1 w.heap.size 61 #[.int .i64 0, .int .i64 0, .int .i64 0, .int .i64 0, .int .i64 0, .int .i64 0] := (Blk.fresh w 61 #[.int .i64 0, .int .i64 0, .int .i64 0, .int .i64 0, .int .i64 0, .int .i64 0]).below b1 (by simp)
  have hsz := hblk.lt
  have hb1 : Below w.heap.size w w1 := ((Below.refl _ _).alloc (Nat.le_refl _) _).trans (b1.mono (by simp))
  have HV := Lib.hid hv
  have HD := Lib.hid hd
  have HB := Lib.hid hblk
  clear hv hd b1 hblk
  go_upto_region 8 with (fail)
  go_wp2_with ((with_reducible refine wpList_store_date rfl (.tmp 2) (.tmp 29) rfl w.heap.size (.int .i64 0) (.int .i64 0) (.int .i64 0) (.int .i64 0) (.int .i64 0) (.int .i64 0) y m d (S / 3600 % 24) (S / 60 % 60) (S % 60) rfl rfl ?c1 ?_); rotate_left; intro w2 hblk2 hg2)
  case c1 => exact HB.out.alloc _
  obtain ⟨r0, r1, r2, r3, r4, r5⟩ := date_results hblk2
  refine bodyPost_ret (v := .tuple #[.agg #[.int .i64 y, .int .i64 m, .int .i64 d, .int .i64 (S / 3600 % 24), .int .i64 (S / 60 % 60), .int .i64 (S % 60)], .int .i64 0]) (by simp [results, Tryz.results61, go_sem, r0, r1, r2, r3, r4, r5]) rfl ?_
  have hw : Below w.heap.size w w2 := (hb1.alloc hb1.size _).grown hg2 (by simp; omega) (fun k hk => by injection hk with hk; subst hk; exact Nat.le_refl _)
  exact ⟨y, m, d, _, _, _, rfl, HV.out, by unfold clockD; omega, of_mom n S y m d HS.out HD.out, hw⟩
end Go.Proofs.YtelhdkidnhfnbabGreatDoor
