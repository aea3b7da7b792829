/-
  The document's own dates of moments and their texts (newsstandref04.Of, digits, Show). Condition: there is such a moment.
-/
import Derived.Test.YtjflfennmeackabDoorDShow
import Derived.Test.YtjflfennmeackabDoorDLawOrd
import Derived.Test.YtjflfennmeackabDoorDRefDig
namespace Go.Proofs.YtjflfennmeackabDoor
open Go.RowKit

def RYearRel (n : Int) (u : Value) : Prop := ∃ y : Int, 1 ≤ y ∧ y ≤ 9999 ∧ aheadN y ≤ n ∧ u = .int .i64 y

def ROfPost (w : World) (n : Int) (e : Ending) (w' : World) : Prop :=
  ∃ y m d h mi s : Int, e = .returned (.agg #[.int .i64 y, .int .i64 m, .int .i64 d, .int .i64 h, .int .i64 mi, .int .i64 s]) ∧ validD y m d ∧ clockD h mi s ∧ momN y m d h mi s = n ∧ Below w.heap.size w w'

theorem rof_mom (n S y m d : Int) (hS : S = n + 62135596800) (hd : dayN y m d = S / 86400) : momN y m d (S % 86400 / 3600) (S % 86400 / 60 % 60) (S % 60) = n := by
  unfold momN zeroN
  rw [hd]
  omega

set_option maxHeartbeats 1600000 in
theorem rof_yes (n : Int) (w : World) (hm : mayN n = true) : Calls Tryd.prog 19 #[.int .i64 n] w (ROfPost w n) := by
  rw [may_iff] at hm
  obtain ⟨hm1, hm2⟩ := hm
  obtain ⟨S, hS⟩ : ∃ S : Int, n + 62135596800 = S := ⟨_, rfl⟩
  have h0 : 0 ≤ (S / 86400) := by omega
  have h1 : (S / 86400) ≤ 3652058 := by omega
  have hs0 : 0 ≤ S := by omega
  have hg := ahead_guess (S / 86400) h0
  have HG := Lib.hid hg
  have hfm : ∀ y m d : Int, dayN y m d = (S / 86400) → momN y m d (S % 86400 / 3600) (S % 86400 / 60 % 60) (S % 60) = n := fun y m d hd => rof_mom n S y m d hS.symm hd
  have hs1 : S ≤ 315537897599 := by omega
  have HFM := Lib.hid hfm
  clear hg hfm hm1 hm2
  go_enter Tryd.func19, Tryd.ntmps19
  go_wp2_with fail
  refine (rzero_any _).mono ?_
  rintro e w9 ⟨rfl, rfl⟩
  go_wp2_with fail
  clear hS
  go_loop [5] (RYearRel (S / 86400)) (fun u => (10000 - intOf u).toNat)
  case atStart => exact ⟨_, by omega, by omega, HG.out, rfl⟩
  case round =>
    obtain ⟨y, hy1, hy2, hy3, rfl⟩ := hrel
    have hb := ahead_bd (y + 1) (by omega) (by omega)
    have hb0 := ahead_bd y (by omega) (by omega)
    by_cases hc : aheadN (y + 1) ≤ (S / 86400)
    · have hlast : y < 9999 := by
        rcases Int.lt_or_le y 9999 with h | h
        · exact h
        · obtain rfl : y = 9999 := by omega
          have := ahead_last
          rw [show (9999 + 1 : Int) = 10000 from rfl] at hc
          omega
      go_wp2_with fail
      refine (rahead_any _ _ (by omega) (by omega)).mono ?_
      rintro e w9 ⟨rfl, rfl⟩
      go_wp2_with fail
      go_round
      case rel => exact ⟨y + 1, by omega, by omega, hc, rfl⟩
      case measure => simp [intOf]; omega
    · have hlt : (S / 86400) < aheadN (y + 1) := by omega
      have HLT := Lib.hid hlt
      have dlt : decide (aheadN (y + 1) ≤ (S / 86400)) = false := decide_eq_false hc
      clear hc hlt
      by_cases h99 : y < 9999
      all_goals
        go_wp2_with (go_at_call 43; refine (rahead_any _ _ (by omega) (by omega)).mono ?_; rintro e w9 ⟨rfl, rfl⟩)
        go_loop [3, 6] (MonRel (S / 86400) y) (fun _ u => (13 - intOf u).toNat)
        case atStart => exact ⟨1, by omega, by omega, by simp [cumN]; omega, rfl, by simp [cumN]⟩
        case round =>
          obtain ⟨k, hk1, hk2, hr, rfl, rfl⟩ := hrel
          have hdb := dim_bd y (k : Int)
          have hcb := cum_le y (k - 1) (by omega)
          have hdays := days_in y (k : Int) hy1 hy2 (by omega) (by omega)
          have HDD := Lib.hid hdays
          clear hdays
          generalize hq : dimN y (k : Int) = q at hdb
          have HQ := Lib.hid hq
          clear hq
          by_cases hge : q ≤ (S / 86400) - aheadN y - cumN y (k - 1)
          · have hmore := mon_more HLT.out hk1 hk2 (by rw [HQ.out]; exact hge)
            have HM := Lib.hid hmore
            clear hmore
            go_wp2_with fail
            refine (rdays_any y (k : Int) _).mono ?_
            rw [HDD.out, HQ.out]
            rintro e w9 ⟨rfl, rfl⟩
            go_wp2_with fail
            refine (rdays_any y (k : Int) _).mono ?_
            rw [HDD.out, HQ.out]
            rintro e w9 ⟨rfl, rfl⟩
            go_wp2_with fail
            go_round
            case rel => exact ⟨k + 1, by omega, HM.out.1, HM.out.2.1, by go_num, by rw [← HM.out.2.2, HQ.out]⟩
            case measure => simp [intOf]; omega
          · have hfin := mon_fin hy1 hy2 hk1 hk2 hr (by rw [HQ.out]; omega)
            have HF := Lib.hid hfin
            clear hfin
            go_wp2_with fail
            refine (rdays_any y (k : Int) _).mono ?_
            rw [HDD.out, HQ.out]
            rintro e w9 ⟨rfl, rfl⟩
            go_wp2_with fail
            refine bodyPost_ret (v := .agg #[.int .i64 y, .int .i64 (k : Int), .int .i64 ((S / 86400) - aheadN y - cumN y (k - 1) + 1), .int .i64 (S % 86400 / 3600), .int .i64 (S % 86400 / 60 % 60), .int .i64 (S % 60)]) (by simp [results, Tryd.results19, go_sem]) rfl ?_
            exact ⟨y, (k : Int), _, _, _, _, rfl, HF.out.1, by unfold clockD; omega, HFM.out _ _ _ HF.out.2, (Below.refl _ _).alloc (Nat.le_refl _) _⟩

/-- The document's text of a moment. -/
def RShowPost (w : World) (n : Int) (e : Ending) (w' : World) : Prop :=
  ∃ y m d h mi s : Nat, e = .returned (.string (str (showL y m d h mi s))) ∧ validD y m d ∧ clockD h mi s ∧ momN y m d h mi s = n ∧ Below w.heap.size w w'

set_option maxHeartbeats 1600000 in
theorem rshow_yes (n : Int) (w : World) (hm : mayN n = true) : Calls Tryd.prog 20 #[.int .i64 n] w (RShowPost w n) := by
  have h1 := rof_yes n w hm
  have H1 := Lib.hid h1
  clear h1 hm
  go_enter Tryd.func20, Tryd.ntmps20
  go_wp2_with fail
  refine H1.out.mono ?_
  rintro e w1 ⟨y, m, d, h, mi, s, rfl, hv, hc, hmom, b1⟩
  have HV := Lib.hid hv
  have HC := Lib.hid hc
  have HM := Lib.hid hmom
  obtain ⟨hy1, hy2, hm1, hm2, hd1, hd2⟩ := hv
  obtain ⟨hh1, hh2, hi1, hi2, hs1, hs2⟩ := hc
  have hdb := dim_bd y m
  obtain ⟨y, rfl⟩ : ∃ k : Nat, y = (k : Int) := ⟨y.toNat, by omega⟩
  obtain ⟨m, rfl⟩ : ∃ k : Nat, m = (k : Int) := ⟨m.toNat, by omega⟩
  obtain ⟨d, rfl⟩ : ∃ k : Nat, d = (k : Int) := ⟨d.toNat, by omega⟩
  obtain ⟨h, rfl⟩ : ∃ k : Nat, h = (k : Int) := ⟨h.toNat, by omega⟩
  obtain ⟨mi, rfl⟩ : ∃ k : Nat, mi = (k : Int) := ⟨mi.toNat, by omega⟩
  obtain ⟨s, rfl⟩ : ∃ k : Nat, s = (k : Int) := ⟨s.toNat, by omega⟩
  have ny : y < 10 ^ (3 + 1) := by omega
  have nm : m < 10 ^ (1 + 1) := by omega
  have nd : d < 10 ^ (1 + 1) := by omega
  have nh : h < 10 ^ (1 + 1) := by omega
  have ni : mi < 10 ^ (1 + 1) := by omega
  have ns : s < 10 ^ (1 + 1) := by omega
  have NB := Lib.hid (And.intro ny (And.intro nm (And.intro nd (And.intro nh (And.intro ni ns)))))
  have hbk : Blk (w1.alloc (.cells #[.int .i64 (y : Int), .int .i64 (m : Int), .int .i64 (d : Int), .int .i64 (h : Int), .int .i64 (mi : Int), .int .i64 (s : Int)] 23)).drew w1.heap.size 23 #[.int .i64 (y : Int), .int .i64 (m : Int), .int .i64 (d : Int), .int .i64 (h : Int), .int .i64 (mi : Int), .int .i64 (s : Int)] := Blk.fresh w1 23 #[.int .i64 (y : Int), .int .i64 (m : Int), .int .i64 (d : Int), .int .i64 (h : Int), .int .i64 (mi : Int), .int .i64 (s : Int)]
  have c0 := hbk.cell 0
  have c1 := hbk.cell 1
  have c2 := hbk.cell 2
  have c3 := hbk.cell 3
  have c4 := hbk.cell 4
  have c5 := hbk.cell 5
  simp only [List.getElem?_toArray, List.getElem?_cons_succ, List.getElem?_cons_zero] at c0 c1 c2 c3 c4 c5
  have C0 := Lib.hid c0
  have C1 := Lib.hid c1
  have C2 := Lib.hid c2
  have C3 := Lib.hid c3
  have C4 := Lib.hid c4
  have C5 := Lib.hid c5
  have hfin : Below w.heap.size w (w1.alloc (.cells #[.int .i64 (y : Int), .int .i64 (m : Int), .int .i64 (d : Int), .int .i64 (h : Int), .int .i64 (mi : Int), .int .i64 (s : Int)] 23)).drew := (b1.alloc b1.size _).drew
  have p4 : (padN 4 y).length = 4 := padN_len 4 y
  have pm : (padN 2 m).length = 2 := padN_len 2 m
  have pd : (padN 2 d).length = 2 := padN_len 2 d
  have ph : (padN 2 h).length = 2 := padN_len 2 h
  have pi : (padN 2 mi).length = 2 := padN_len 2 mi
  have ps : (padN 2 s).length = 2 := padN_len 2 s
  have HFIN := Lib.hid hfin
  clear hy1 hy2 hm1 hm2 hd1 hd2 hh1 hh2 hi1 hi2 hs1 hs2 hdb ny nm nd nh ni ns hbk c0 c1 c2 c3 c4 c5 hmom b1 hfin
  go_wp2_with fail
  refine up_start Nil (by kernel_rfl) ?_
  refine up_take (by exact at0) (by kernel_rfl) (by exact fun _ _ _ h => h) (by rfl) (by intro W hW; go_simp; try with_reducible rfl) ?_
  simp only [Act.put, List.setIfInBounds_toArray, List.set_cons_zero, List.set_cons_succ]
  refine up_take (by exact (atS at0)) (by kernel_rfl) (by exact fun _ _ _ h => h) (by rfl) (by intro W hW; have q := cell_up C0.out hW id; go_simp; try with_reducible rfl) ?_
  simp only [Act.put, List.setIfInBounds_toArray, List.set_cons_zero, List.set_cons_succ]
  refine up_take (by exact (atS (atS (atS (atS at0))))) (by kernel_rfl) (by exact fun _ _ _ h => h) (by rfl) (by intro W hW; go_simp; try with_reducible rfl) ?_
  simp only [Act.put, List.setIfInBounds_toArray, List.set_cons_zero, List.set_cons_succ]
  refine up_take (by exact (atS (atS (atS (atS (atS at0)))))) (by kernel_rfl) (by exact fun _ _ _ h => h) (by rfl) (by intro W hW; have q := cell_up C1.out hW id; go_simp; try with_reducible rfl) ?_
  simp only [Act.put, List.setIfInBounds_toArray, List.set_cons_zero, List.set_cons_succ]
  refine up_take (by exact (atS (atS (atS (atS (atS (atS (atS (atS (atS at0)))))))))) (by kernel_rfl) (by exact fun _ _ _ h => h) (by rfl) (by intro W hW; go_simp; try with_reducible rfl) ?_
  simp only [Act.put, List.setIfInBounds_toArray, List.set_cons_zero, List.set_cons_succ]
  refine up_take (by exact (atS (atS (atS (atS (atS (atS (atS (atS (atS (atS at0))))))))))) (by kernel_rfl) (by exact fun _ _ _ h => h) (by rfl) (by intro W hW; have q := cell_up C2.out hW id; go_simp; try with_reducible rfl) ?_
  simp only [Act.put, List.setIfInBounds_toArray, List.set_cons_zero, List.set_cons_succ]
  refine up_take (by exact (atS (atS (atS (atS (atS (atS (atS (atS (atS (atS (atS (atS (atS (atS at0))))))))))))))) (by kernel_rfl) (by exact fun _ _ _ h => h) (by rfl) (by intro W hW; go_simp; try with_reducible rfl) ?_
  simp only [Act.put, List.setIfInBounds_toArray, List.set_cons_zero, List.set_cons_succ]
  refine up_take (by exact (atS (atS (atS (atS (atS (atS (atS (atS (atS (atS (atS (atS (atS (atS (atS at0)))))))))))))))) (by kernel_rfl) (by exact fun _ _ _ h => h) (by rfl) (by intro W hW; have q := cell_up C3.out hW id; go_simp; try with_reducible rfl) ?_
  simp only [Act.put, List.setIfInBounds_toArray, List.set_cons_zero, List.set_cons_succ]
  refine up_take (by exact (atS (atS (atS (atS (atS (atS (atS (atS (atS (atS (atS (atS (atS (atS (atS (atS (atS (atS (atS at0)))))))))))))))))))) (by kernel_rfl) (by exact fun _ _ _ h => h) (by rfl) (by intro W hW; go_simp; try with_reducible rfl) ?_
  simp only [Act.put, List.setIfInBounds_toArray, List.set_cons_zero, List.set_cons_succ]
  refine up_take (by exact (atS (atS (atS (atS (atS (atS (atS (atS (atS (atS (atS (atS (atS (atS (atS (atS (atS (atS (atS (atS at0))))))))))))))))))))) (by kernel_rfl) (by exact fun _ _ _ h => h) (by rfl) (by intro W hW; have q := cell_up C4.out hW id; go_simp; try with_reducible rfl) ?_
  simp only [Act.put, List.setIfInBounds_toArray, List.set_cons_zero, List.set_cons_succ]
  refine up_take (by exact (atS (atS (atS (atS (atS (atS (atS (atS (atS (atS (atS (atS (atS (atS (atS (atS (atS (atS (atS (atS (atS (atS (atS (atS at0))))))))))))))))))))))))) (by kernel_rfl) (by exact fun _ _ _ h => h) (by rfl) (by intro W hW; go_simp; try with_reducible rfl) ?_
  simp only [Act.put, List.setIfInBounds_toArray, List.set_cons_zero, List.set_cons_succ]
  refine up_take (by exact (atS (atS (atS (atS (atS (atS (atS (atS (atS (atS (atS (atS (atS (atS (atS (atS (atS (atS (atS (atS (atS (atS (atS (atS (atS at0)))))))))))))))))))))))))) (by kernel_rfl) (by exact fun _ _ _ h => h) (by rfl) (by intro W hW; have q := cell_up C5.out hW id; go_simp; try with_reducible rfl) ?_
  simp only [Act.put, List.setIfInBounds_toArray, List.set_cons_zero, List.set_cons_succ]
  refine up_one (by exact (atS (atS at0))) (by kernel_rfl) (fun K hK => ?_)
  go_simp
  refine (rdigits_any y 3 _ (by decide) NB.out.1).mono ?_
  rintro e wx ⟨rfl, rfl⟩
  refine hK.out _ _ (Kept.refl _ _) ?_
  clear hK K
  refine up_take (by exact (atS (atS (atS at0)))) (by kernel_rfl) (by exact fun _ _ _ h => h) (by rfl) (by intro W hW; go_simp; try with_reducible rfl) ?_
  simp only [Act.put, List.setIfInBounds_toArray, List.set_cons_zero, List.set_cons_succ]
  refine up_one (by exact (atS (atS (atS (atS (atS (atS at0))))))) (by kernel_rfl) (fun K hK => ?_)
  go_simp
  refine (rdigits_any m 1 _ (by decide) NB.out.2.1).mono ?_
  rintro e wx ⟨rfl, rfl⟩
  refine hK.out _ _ (Kept.refl _ _) ?_
  clear hK K
  refine up_take (by exact (atS (atS (atS (atS (atS (atS (atS at0)))))))) (by kernel_rfl) (by exact fun _ _ _ h => h) (by rfl) (by intro W hW; go_simp; try with_reducible rfl) ?_
  simp only [Act.put, List.setIfInBounds_toArray, List.set_cons_zero, List.set_cons_succ]
  refine up_take (by exact (atS (atS (atS (atS (atS (atS (atS (atS at0))))))))) (by kernel_rfl) (by exact fun _ _ _ h => h) (by rfl) (by intro W hW; go_simp; try with_reducible rfl) ?_
  simp only [Act.put, List.setIfInBounds_toArray, List.set_cons_zero, List.set_cons_succ]
  refine up_one (by exact (atS (atS (atS (atS (atS (atS (atS (atS (atS (atS (atS at0)))))))))))) (by kernel_rfl) (fun K hK => ?_)
  go_simp
  refine (rdigits_any d 1 _ (by decide) NB.out.2.2.1).mono ?_
  rintro e wx ⟨rfl, rfl⟩
  refine hK.out _ _ (Kept.refl _ _) ?_
  clear hK K
  refine up_take (by exact (atS (atS (atS (atS (atS (atS (atS (atS (atS (atS (atS (atS at0))))))))))))) (by kernel_rfl) (by exact fun _ _ _ h => h) (by rfl) (by intro W hW; go_simp; try with_reducible rfl) ?_
  simp only [Act.put, List.setIfInBounds_toArray, List.set_cons_zero, List.set_cons_succ]
  refine up_take (by exact (atS (atS (atS (atS (atS (atS (atS (atS (atS (atS (atS (atS (atS at0)))))))))))))) (by kernel_rfl) (by exact fun _ _ _ h => h) (by rfl) (by intro W hW; go_simp; try with_reducible rfl) ?_
  simp only [Act.put, List.setIfInBounds_toArray, List.set_cons_zero, List.set_cons_succ]
  refine up_one (by exact (atS (atS (atS (atS (atS (atS (atS (atS (atS (atS (atS (atS (atS (atS (atS (atS at0))))))))))))))))) (by kernel_rfl) (fun K hK => ?_)
  go_simp
  refine (rdigits_any h 1 _ (by decide) NB.out.2.2.2.1).mono ?_
  rintro e wx ⟨rfl, rfl⟩
  refine hK.out _ _ (Kept.refl _ _) ?_
  clear hK K
  refine up_take (by exact (atS (atS (atS (atS (atS (atS (atS (atS (atS (atS (atS (atS (atS (atS (atS (atS (atS at0)))))))))))))))))) (by kernel_rfl) (by exact fun _ _ _ h => h) (by rfl) (by intro W hW; go_simp; try with_reducible rfl) ?_
  simp only [Act.put, List.setIfInBounds_toArray, List.set_cons_zero, List.set_cons_succ]
  refine up_take (by exact (atS (atS (atS (atS (atS (atS (atS (atS (atS (atS (atS (atS (atS (atS (atS (atS (atS (atS at0))))))))))))))))))) (by kernel_rfl) (by exact fun _ _ _ h => h) (by rfl) (by intro W hW; go_simp; try with_reducible rfl) ?_
  simp only [Act.put, List.setIfInBounds_toArray, List.set_cons_zero, List.set_cons_succ]
  refine up_one (by exact (atS (atS (atS (atS (atS (atS (atS (atS (atS (atS (atS (atS (atS (atS (atS (atS (atS (atS (atS (atS (atS at0)))))))))))))))))))))) (by kernel_rfl) (fun K hK => ?_)
  go_simp
  refine (rdigits_any mi 1 _ (by decide) NB.out.2.2.2.2.1).mono ?_
  rintro e wx ⟨rfl, rfl⟩
  refine hK.out _ _ (Kept.refl _ _) ?_
  clear hK K
  refine up_take (by exact (atS (atS (atS (atS (atS (atS (atS (atS (atS (atS (atS (atS (atS (atS (atS (atS (atS (atS (atS (atS (atS (atS at0))))))))))))))))))))))) (by kernel_rfl) (by exact fun _ _ _ h => h) (by rfl) (by intro W hW; go_simp; try with_reducible rfl) ?_
  simp only [Act.put, List.setIfInBounds_toArray, List.set_cons_zero, List.set_cons_succ]
  refine up_take (by exact (atS (atS (atS (atS (atS (atS (atS (atS (atS (atS (atS (atS (atS (atS (atS (atS (atS (atS (atS (atS (atS (atS (atS at0)))))))))))))))))))))))) (by kernel_rfl) (by exact fun _ _ _ h => h) (by rfl) (by intro W hW; go_simp; try with_reducible rfl) ?_
  simp only [Act.put, List.setIfInBounds_toArray, List.set_cons_zero, List.set_cons_succ]
  refine up_one (by exact (atS (atS (atS (atS (atS (atS (atS (atS (atS (atS (atS (atS (atS (atS (atS (atS (atS (atS (atS (atS (atS (atS (atS (atS (atS (atS at0))))))))))))))))))))))))))) (by kernel_rfl) (fun K hK => ?_)
  go_simp
  refine (rdigits_any s 1 _ (by decide) NB.out.2.2.2.2.2).mono ?_
  rintro e wx ⟨rfl, rfl⟩
  refine hK.out _ _ (Kept.refl _ _) ?_
  clear hK K
  refine up_take (by exact (atS (atS (atS (atS (atS (atS (atS (atS (atS (atS (atS (atS (atS (atS (atS (atS (atS (atS (atS (atS (atS (atS (atS (atS (atS (atS (atS at0)))))))))))))))))))))))))))) (by kernel_rfl) (by exact fun _ _ _ h => h) (by rfl) (by intro W hW; go_simp; try with_reducible rfl) ?_
  simp only [Act.put, List.setIfInBounds_toArray, List.set_cons_zero, List.set_cons_succ]
  refine up_take (by exact (atS (atS (atS (atS (atS (atS (atS (atS (atS (atS (atS (atS (atS (atS (atS (atS (atS (atS (atS (atS (atS (atS (atS (atS (atS (atS (atS (atS at0))))))))))))))))))))))))))))) (by kernel_rfl) (by exact fun _ _ _ h => h) (by rfl) (by intro W hW; go_simp; try with_reducible rfl) ?_
  simp only [Act.put, List.setIfInBounds_toArray, List.set_cons_zero, List.set_cons_succ]
  refine up_take (by exact (atS (atS (atS (atS (atS (atS (atS (atS (atS (atS (atS (atS (atS (atS (atS (atS (atS (atS (atS (atS (atS (atS (atS (atS (atS (atS (atS (atS (atS at0)))))))))))))))))))))))))))))) (by kernel_rfl) (by exact fun _ _ _ h => h) (by rfl) (by intro W hW; go_simp; try with_reducible rfl) ?_
  simp only [Act.put, List.setIfInBounds_toArray, List.set_cons_zero, List.set_cons_succ]
  refine up_done (by kernel_rfl) ?_
  have hshow := showL_str y m d h mi s
  have HSH := Lib.hid hshow
  clear hshow
  go_wp2_with fail
  go_ret
  exact ⟨y, m, d, h, mi, s, by rw [← HSH.out]; rfl, HV.out, HC.out, HM.out, HFIN.out⟩
end Go.Proofs.YtjflfennmeackabDoor
