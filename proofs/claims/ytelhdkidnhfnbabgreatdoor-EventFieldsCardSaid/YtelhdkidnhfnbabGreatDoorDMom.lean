/-
  Moments of dates (date.Moment; newsstandref04.day, zero, Moment, first, last, May). No condition but what each says.
-/
import Derived.Test.YtelhdkidnhfnbabGreatDoorDCheck
namespace Go.Proofs.YtelhdkidnhfnbabGreatDoor
open Go.RowKit

def MomRel (y m d : Int) (u5 u6 : Value) : Prop :=
  ∃ k : Nat, 1 ≤ k ∧ (k : Int) ≤ m ∧ u6 = .int .i64 (k : Int) ∧ u5 = .int .i64 (aheadN y + d - 1 + cumN y (k - 1))

theorem cum_le (y : Int) (k : Nat) (h : k ≤ 12) : 0 ≤ cumN y k ∧ cumN y k ≤ 366 := by
  have h1 := cum_nonneg y k
  have h2 := cum_mono y k (12 - k)
  rw [show k + (12 - k) = 12 by omega, cum_12] at h2
  split at h2 <;> omega

theorem cum_nat (y : Int) (k : Nat) (h : 1 ≤ k) : cumN y (k + 1 - 1) = cumN y (k - 1) + dimN y (k : Int) := by
  obtain ⟨j, rfl⟩ : ∃ j, k = j + 1 := ⟨k - 1, by omega⟩
  show cumN y (j + 1) = cumN y j + dimN y ((j + 1 : Nat) : Int)
  rfl

theorem mom_sum (y m d h mi s : Int) (k : Nat) (hk : (k : Int) = m) : -62135596800 + (aheadN y + d - 1 + cumN y (k - 1)) * 86400 + h * 3600 + mi * 60 + s = momN y m d h mi s := by
  unfold momN dayN zeroN
  have : (m - 1).toNat = k - 1 := by omega
  rw [this]
  omega

def RDayRel (y m d : Int) (u7 u8 : Value) : Prop :=
  ∃ k : Nat, 1 ≤ k ∧ (k : Int) ≤ m ∧ u8 = .int .i64 (k : Int) ∧ u7 = .int .i64 (aheadN y + d - 1 + cumN y (k - 1))

set_option maxHeartbeats 1600000 in
theorem rday_any (y m d : Int) (w : World) (hv : validD y m d) :
    Calls Tryz.prog 74 #[.int .i64 y, .int .i64 m, .int .i64 d] w (Pure w (.int .i64 (dayN y m d))) := by
  obtain ⟨hy1, hy2, hm1, hm2, hd1, hd2⟩ := hv
  have hd31 : d ≤ 31 := by have := dim_bd y m; omega
  have hab := ahead_bd y hy1 (by omega)
  have hcum : ∀ k : Nat, k ≤ 12 → 0 ≤ cumN y k ∧ cumN y k ≤ 366 := cum_le y
  have hdim := dim_bd y
  have HC := Lib.hid hcum
  have HD := Lib.hid hdim
  clear hcum hdim hd2
  go_enter Tryz.func74, Tryz.ntmps74
  go_wp2_with fail
  refine (rahead_any _ _ (by omega) (by omega)).mono ?_
  rintro e w9 ⟨rfl, rfl⟩
  go_wp2_with fail
  go_loop [7, 8] (RDayRel y m d) (fun _ i => (m - intOf i).toNat)
  case atStart => exact ⟨1, by omega, by omega, rfl, by simp [cumN]⟩
  case round =>
    obtain ⟨k, hk1, hkm, rfl, rfl⟩ := hrel
    have hck := HC.out (k - 1) (by omega)
    by_cases hlt : (k : Int) < m
    · have hdk := HD.out (k : Int)
      have hdays := days_in y (k : Int) hy1 hy2 (by omega) (by omega)
      have hnat := cum_nat y k hk1
      have HN := Lib.hid hnat
      have HDD := Lib.hid hdays
      clear hnat hdays
      go_wp2_with fail
      refine (rdays_any y (k : Int) _).mono ?_
      rw [HDD.out]
      rintro e w9 ⟨rfl, rfl⟩
      go_wp2_with fail
      go_round
      case rel => exact ⟨k + 1, by omega, by omega, by go_num, by rw [HN.out]; exact int_val (by omega)⟩
      case measure => simp [intOf]; omega
    · have hfin : aheadN y + d - 1 + cumN y (k - 1) = dayN y m d := by
        unfold dayN
        rw [show (m - 1).toNat = k - 1 by omega]
        omega
      have HF := Lib.hid hfin
      clear hfin
      go_wp2_with fail
      go_ret
      exact ⟨by rw [← HF.out]; rfl, rfl⟩

set_option maxHeartbeats 400000 in
theorem rzero_any (w : World) : Calls Tryz.prog 55 #[] w (Pure w (.int .i64 62135596800)) := by
  have hd : dayN 1970 1 1 = 719162 := by decide
  have HD := Lib.hid hd
  clear hd
  go_enter Tryz.func55, Tryz.ntmps55
  go_wp2_with fail
  refine (rday_any 1970 1 1 _ (by unfold validD; decide)).mono ?_
  rw [HD.out]
  rintro e w9 ⟨rfl, rfl⟩
  go_wp2_with fail
  go_ret
  exact ⟨rfl, rfl⟩

set_option maxHeartbeats 1600000 in
theorem rmoment_any (y m d h mi s : Int) (w : World) (hv : validD y m d) (hc : clockD h mi s) :
    Calls Tryz.prog 56 #[.agg #[.int .i64 y, .int .i64 m, .int .i64 d, .int .i64 h, .int .i64 mi, .int .i64 s]] w (Made w (.int .i64 (momN y m d h mi s))) := by
  have hr := day_range hv
  have hmom : 86400 * dayN y m d + 3600 * h + 60 * mi + s - 62135596800 = momN y m d h mi s := by unfold momN zeroN; rfl
  have HV := Lib.hid hv
  obtain ⟨hh1, hh2, hi1, hi2, hs1, hs2⟩ := hc
  generalize hD : dayN y m d = D at hr hmom
  have HD := Lib.hid hD
  have HM := Lib.hid hmom
  have e1 : IntKind.i64.wrap (86400 * D) = 86400 * D := IntWalk.i64_in _ (by omega)
  have e2 : IntKind.i64.wrap (3600 * h) = 3600 * h := IntWalk.i64_in _ (by omega)
  have e3 : IntKind.i64.wrap (86400 * D + 3600 * h) = 86400 * D + 3600 * h := IntWalk.i64_in _ (by omega)
  have e4 : IntKind.i64.wrap (60 * mi) = 60 * mi := IntWalk.i64_in _ (by omega)
  have e5 : IntKind.i64.wrap (86400 * D + 3600 * h + 60 * mi) = 86400 * D + 3600 * h + 60 * mi := IntWalk.i64_in _ (by omega)
  have e6 : IntKind.i64.wrap (86400 * D + 3600 * h + 60 * mi + s) = 86400 * D + 3600 * h + 60 * mi + s := IntWalk.i64_in _ (by omega)
  have e7 : IntKind.i64.wrap (86400 * D + 3600 * h + 60 * mi + s - 62135596800) = 86400 * D + 3600 * h + 60 * mi + s - 62135596800 := IntWalk.i64_in _ (by omega)
  have hblk : Blk (w.alloc (.cells #[.int .i64 y, .int .i64 m, .int .i64 d, .int .i64 h, .int .i64 mi, .int .i64 s] 61)).drew w.heap.size 61 #[.int .i64 y, .int .i64 m, .int .i64 d, .int .i64 h, .int .i64 mi, .int .i64 s] := Blk.fresh w 61 #[.int .i64 y, .int .i64 m, .int .i64 d, .int .i64 h, .int .i64 mi, .int .i64 s]
  have c0 := Blk.cell hblk 0
  have c1 := Blk.cell hblk 1
  have c2 := Blk.cell hblk 2
  have c3 := Blk.cell hblk 3
  have c4 := Blk.cell hblk 4
  have c5 := Blk.cell hblk 5
  simp only [List.getElem?_toArray, List.getElem?_cons_succ, List.getElem?_cons_zero] at c0 c1 c2 c3 c4 c5
  have C0 := Lib.hid c0
  have C1 := Lib.hid c1
  have C2 := Lib.hid c2
  have C3 := Lib.hid c3
  have C4 := Lib.hid c4
  have C5 := Lib.hid c5
  clear hv hD hmom hblk c0 c1 c2 c3 c4 c5
  go_enter Tryz.func56, Tryz.ntmps56
  go_wp2_with fail
  refine up_start Nil (by kernel_rfl) ?_
  -- 0: t3 := Op.fieldAddr 23 (t1) 0 
  refine up_take (by exact at0) (by kernel_rfl) (by exact fun _ _ _ h => h) (by rfl) (by intro W hW; go_simp; try with_reducible rfl) ?_
  simp only [Act.put, List.setIfInBounds_toArray, List.set_cons_zero, List.set_cons_succ]
  -- 1: t4 := Op.load 3 (t3) 
  refine up_take (by exact (atS at0)) (by kernel_rfl) (by exact fun _ _ _ h => h) (by rfl) (by intro W hW; have q := cell_up C0.out hW id; go_simp; try with_reducible rfl) ?_
  simp only [Act.put, List.setIfInBounds_toArray, List.set_cons_zero, List.set_cons_succ]
  -- 2: t5 := Op.fieldAddr 23 (t1) 1 
  refine up_take (by exact (atS (atS at0))) (by kernel_rfl) (by exact fun _ _ _ h => h) (by rfl) (by intro W hW; go_simp; try with_reducible rfl) ?_
  simp only [Act.put, List.setIfInBounds_toArray, List.set_cons_zero, List.set_cons_succ]
  -- 3: t6 := Op.load 3 (t5) 
  refine up_take (by exact (atS (atS (atS at0)))) (by kernel_rfl) (by exact fun _ _ _ h => h) (by rfl) (by intro W hW; have q := cell_up C1.out hW id; go_simp; try with_reducible rfl) ?_
  simp only [Act.put, List.setIfInBounds_toArray, List.set_cons_zero, List.set_cons_succ]
  -- 4: t7 := Op.fieldAddr 23 (t1) 2 
  refine up_take (by exact (atS (atS (atS (atS at0))))) (by kernel_rfl) (by exact fun _ _ _ h => h) (by rfl) (by intro W hW; go_simp; try with_reducible rfl) ?_
  simp only [Act.put, List.setIfInBounds_toArray, List.set_cons_zero, List.set_cons_succ]
  -- 5: t8 := Op.load 3 (t7) 
  refine up_take (by exact (atS (atS (atS (atS (atS at0)))))) (by kernel_rfl) (by exact fun _ _ _ h => h) (by rfl) (by intro W hW; have q := cell_up C2.out hW id; go_simp; try with_reducible rfl) ?_
  simp only [Act.put, List.setIfInBounds_toArray, List.set_cons_zero, List.set_cons_succ]
  -- 8: t11 := Op.fieldAddr 23 (t1) 3 
  refine up_take (by exact (atS (atS (atS (atS (atS (atS (atS (atS at0))))))))) (by kernel_rfl) (by exact fun _ _ _ h => h) (by rfl) (by intro W hW; go_simp; try with_reducible rfl) ?_
  simp only [Act.put, List.setIfInBounds_toArray, List.set_cons_zero, List.set_cons_succ]
  -- 9: t12 := Op.load 3 (t11) 
  refine up_take (by exact (atS (atS (atS (atS (atS (atS (atS (atS (atS at0)))))))))) (by kernel_rfl) (by exact fun _ _ _ h => h) (by rfl) (by intro W hW; have q := cell_up C3.out hW id; go_simp; try with_reducible rfl) ?_
  simp only [Act.put, List.setIfInBounds_toArray, List.set_cons_zero, List.set_cons_succ]
  -- 10: t13 := Op.binOp mul 3 (const (i64 3600)) (t12) 3 
  refine up_take (by exact (atS (atS (atS (atS (atS (atS (atS (atS (atS (atS at0))))))))))) (by kernel_rfl) (by exact fun _ _ _ h => h) (by rfl) (by intro W hW; go_simp; try with_reducible rfl) ?_
  simp only [Act.put, List.setIfInBounds_toArray, List.set_cons_zero, List.set_cons_succ]
  -- 12: t15 := Op.fieldAddr 23 (t1) 4 
  refine up_take (by exact (atS (atS (atS (atS (atS (atS (atS (atS (atS (atS (atS (atS at0))))))))))))) (by kernel_rfl) (by exact fun _ _ _ h => h) (by rfl) (by intro W hW; go_simp; try with_reducible rfl) ?_
  simp only [Act.put, List.setIfInBounds_toArray, List.set_cons_zero, List.set_cons_succ]
  -- 13: t16 := Op.load 3 (t15) 
  refine up_take (by exact (atS (atS (atS (atS (atS (atS (atS (atS (atS (atS (atS (atS (atS at0)))))))))))))) (by kernel_rfl) (by exact fun _ _ _ h => h) (by rfl) (by intro W hW; have q := cell_up C4.out hW id; go_simp; try with_reducible rfl) ?_
  simp only [Act.put, List.setIfInBounds_toArray, List.set_cons_zero, List.set_cons_succ]
  -- 14: t17 := Op.binOp mul 3 (const (i64 60)) (t16) 3 
  refine up_take (by exact (atS (atS (atS (atS (atS (atS (atS (atS (atS (atS (atS (atS (atS (atS at0))))))))))))))) (by kernel_rfl) (by exact fun _ _ _ h => h) (by rfl) (by intro W hW; go_simp; try with_reducible rfl) ?_
  simp only [Act.put, List.setIfInBounds_toArray, List.set_cons_zero, List.set_cons_succ]
  -- 16: t19 := Op.fieldAddr 23 (t1) 5 
  refine up_take (by exact (atS (atS (atS (atS (atS (atS (atS (atS (atS (atS (atS (atS (atS (atS (atS (atS at0))))))))))))))))) (by kernel_rfl) (by exact fun _ _ _ h => h) (by rfl) (by intro W hW; go_simp; try with_reducible rfl) ?_
  simp only [Act.put, List.setIfInBounds_toArray, List.set_cons_zero, List.set_cons_succ]
  -- 17: t20 := Op.load 3 (t19) 
  refine up_take (by exact (atS (atS (atS (atS (atS (atS (atS (atS (atS (atS (atS (atS (atS (atS (atS (atS (atS at0)))))))))))))))))) (by kernel_rfl) (by exact fun _ _ _ h => h) (by rfl) (by intro W hW; have q := cell_up C5.out hW id; go_simp; try with_reducible rfl) ?_
  simp only [Act.put, List.setIfInBounds_toArray, List.set_cons_zero, List.set_cons_succ]
  -- 6: t9 := Op.call { callee := Callee.value (func 30), args := #[t4, t6, t8], argTypes := #[3, 3, 3] } 
  refine up_one (by exact (atS (atS (atS (atS (atS (atS at0))))))) (by kernel_rfl) (fun K hK => ?_)
  go_simp
  refine (rday_any _ _ _ _ HV.out).mono ?_
  rw [HD.out]
  rintro e w9 ⟨rfl, rfl⟩
  refine hK.out _ _ (Kept.refl _ _) ?_
  clear hK K
  -- 7: t10 := Op.binOp mul 3 (const (i64 86400)) (t9) 3 
  refine up_take (by exact (atS (atS (atS (atS (atS (atS (atS at0)))))))) (by kernel_rfl) (by exact fun _ _ _ h => h) (by rfl) (by intro W hW; go_simp; try with_reducible rfl) ?_
  simp only [Act.put, List.setIfInBounds_toArray, List.set_cons_zero, List.set_cons_succ]
  -- 11: t14 := Op.binOp add 3 (t10) (t13) 3 
  refine up_take (by exact (atS (atS (atS (atS (atS (atS (atS (atS (atS (atS (atS at0)))))))))))) (by kernel_rfl) (by exact fun _ _ _ h => h) (by rfl) (by intro W hW; go_simp; try with_reducible rfl) ?_
  simp only [Act.put, List.setIfInBounds_toArray, List.set_cons_zero, List.set_cons_succ]
  -- 15: t18 := Op.binOp add 3 (t14) (t17) 3 
  refine up_take (by exact (atS (atS (atS (atS (atS (atS (atS (atS (atS (atS (atS (atS (atS (atS (atS at0)))))))))))))))) (by kernel_rfl) (by exact fun _ _ _ h => h) (by rfl) (by intro W hW; go_simp; try with_reducible rfl) ?_
  simp only [Act.put, List.setIfInBounds_toArray, List.set_cons_zero, List.set_cons_succ]
  -- 18: t21 := Op.binOp add 3 (t18) (t20) 3 
  refine up_take (by exact (atS (atS (atS (atS (atS (atS (atS (atS (atS (atS (atS (atS (atS (atS (atS (atS (atS (atS at0))))))))))))))))))) (by kernel_rfl) (by exact fun _ _ _ h => h) (by rfl) (by intro W hW; go_simp; try with_reducible rfl) ?_
  simp only [Act.put, List.setIfInBounds_toArray, List.set_cons_zero, List.set_cons_succ]
  -- 19: t22 := Op.call { callee := Callee.value (func 31), args := #[], argTypes := #[] } 
  refine up_one (by exact (atS (atS (atS (atS (atS (atS (atS (atS (atS (atS (atS (atS (atS (atS (atS (atS (atS (atS (atS at0)))))))))))))))))))) (by kernel_rfl) (fun K hK => ?_)
  go_simp
  refine (rzero_any _).mono ?_
  rintro e w9 ⟨rfl, rfl⟩
  refine hK.out _ _ (Kept.refl _ _) ?_
  clear hK K
  -- 20: t23 := Op.binOp sub 3 (t21) (t22) 3 
  refine up_take (by exact (atS (atS (atS (atS (atS (atS (atS (atS (atS (atS (atS (atS (atS (atS (atS (atS (atS (atS (atS (atS at0))))))))))))))))))))) (by kernel_rfl) (by exact fun _ _ _ h => h) (by rfl) (by intro W hW; go_simp; try with_reducible rfl) ?_
  simp only [Act.put, List.setIfInBounds_toArray, List.set_cons_zero, List.set_cons_succ]
  -- 21: t2 := Op.assign (t23) 
  refine up_take (by exact (atS (atS (atS (atS (atS (atS (atS (atS (atS (atS (atS (atS (atS (atS (atS (atS (atS (atS (atS (atS (atS at0)))))))))))))))))))))) (by kernel_rfl) (by exact fun _ _ _ h => h) (by rfl) (by intro W hW; go_simp; try with_reducible rfl) ?_
  simp only [Act.put, List.setIfInBounds_toArray, List.set_cons_zero, List.set_cons_succ]
  refine up_done (by kernel_rfl) ?_
  clear e1 e2 e3 e4 e5 e6 e7
  go_wp2
  go_ret
  exact ⟨by rw [← HM.out]; rfl, ((Below.refl _ _).alloc (Nat.le_refl _) _).drew⟩

set_option maxHeartbeats 400000 in
theorem rfirst_any_D (w : World) : Calls Tryz.prog 37 #[] w (Pure w (.int .i64 (-62135596800))) := by
  go_enter Tryz.func37, Tryz.ntmps37
  go_wp2_with fail
  refine (rzero_any _).mono ?_
  rintro e w9 ⟨rfl, rfl⟩
  go_wp2_with fail
  go_ret
  exact ⟨rfl, rfl⟩
set_option maxHeartbeats 400000 in
theorem rlast_any (w : World) : Calls Tryz.prog 38 #[] w (Made w (.int .i64 253402300799)) := by
  have hm : momN 9999 12 31 23 59 59 = 253402300799 := by decide
  have HM := Lib.hid hm
  clear hm
  go_enter Tryz.func38, Tryz.ntmps38
  go_wp2_with fail
  refine (rmoment_any 9999 12 31 23 59 59 _ (by unfold validD; decide) (by unfold clockD; decide)).mono ?_
  rw [HM.out]
  rintro e w9 ⟨rfl, b⟩
  go_wp2_with fail
  go_ret
  exact ⟨rfl, b⟩

/-- Is there such a moment? -/
def mayN (n : Int) : Bool := decide (-62135596800 ≤ n ∧ n ≤ 253402300799)
theorem may_iff (n : Int) : mayN n = true ↔ -62135596800 ≤ n ∧ n ≤ 253402300799 := by unfold mayN; simp
theorem may_no (n : Int) : mayN n = false ↔ ¬ (-62135596800 ≤ n ∧ n ≤ 253402300799) := by unfold mayN; simp

set_option maxHeartbeats 800000 in
theorem rmay_any (n : Int) (w : World) : Calls Tryz.prog 24 #[.int .i64 n] w (Made w (.bool (mayN n))) := by
  by_cases h1 : -62135596800 ≤ n
  · have d1 : decide (-62135596800 ≤ n) = true := decide_eq_true h1
    by_cases h2 : n ≤ 253402300799
    · have d2 : decide (n ≤ 253402300799) = true := decide_eq_true h2
      have hm := (may_iff n).2 ⟨h1, h2⟩
      have HM := Lib.hid hm
      clear hm h1 h2
      go_enter Tryz.func24, Tryz.ntmps24
      go_wp2_with fail
      refine (rfirst_any_D _).mono ?_
      rintro e w9 ⟨rfl, rfl⟩
      go_wp2_with fail
      refine (rlast_any _).mono ?_
      rintro e w9 ⟨rfl, b⟩
      go_wp2_with fail
      go_ret
      exact ⟨by rw [HM.out]; rfl, b⟩
    · have d2 : decide (n ≤ 253402300799) = false := decide_eq_false h2
      have hm := (may_no n).2 (by omega)
      have HM := Lib.hid hm
      clear hm h1 h2
      go_enter Tryz.func24, Tryz.ntmps24
      go_wp2_with fail
      refine (rfirst_any_D _).mono ?_
      rintro e w9 ⟨rfl, rfl⟩
      go_wp2_with fail
      refine (rlast_any _).mono ?_
      rintro e w9 ⟨rfl, b⟩
      go_wp2_with fail
      go_ret
      exact ⟨by rw [HM.out]; rfl, b⟩
  · have d1 : decide (-62135596800 ≤ n) = false := decide_eq_false h1
    have hm := (may_no n).2 (by omega)
    have HM := Lib.hid hm
    clear hm h1
    go_enter Tryz.func24, Tryz.ntmps24
    go_wp2_with fail
    refine (rfirst_any_D _).mono ?_
    rintro e w9 ⟨rfl, rfl⟩
    go_wp2_with fail
    go_ret
    exact ⟨by rw [HM.out]; rfl, Below.refl _ _⟩
end Go.Proofs.YtelhdkidnhfnbabGreatDoor
