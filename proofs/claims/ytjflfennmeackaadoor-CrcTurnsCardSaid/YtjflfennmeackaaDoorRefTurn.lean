/-
  Bits turned in bytes (newsstandref02.Turn). Conditions: the slice reads as bytes, not empty, at most 2^46 of them; the bits lie within them.
-/
import Derived.Test.YtjflfennmeackaaDoorTurned
import Derived.Test.YtjflfennmeackaaDoorGuard
import Derived.Test.YtjflfennmeackaaDoorRegion
import Derived.Test.YtjflfennmeackaaDoorRdr
import Derived.Laws.BitsAllLaws
namespace Go.Proofs.YtjflfennmeackaaDoor
open Go.RowKit

def U32 (n : Nat) : Prop := n < 4294967296

def TurnPost (w : World) (l : List UInt8) (p turn : Nat) (e : Ending) (w' : World) : Prop :=
  ∃ v m, e = .returned v ∧ Rd w' w'.heap.size v m ∧ m.length = l.length ∧ numL m = numL l ^^^ 2 ^ p * turn ∧ Below w.heap.size w w'

def TurnRel (B : Nat) (w : World) (l : List UInt8) (p turn g : Nat) (i : Value) (wr : World) : Prop :=
  ∃ (k : Nat) (m : List UInt8) (arr : Array Value), k ≤ 32 ∧ i = .int .i64 (k : Int) ∧ Blk wr g 5 arr ∧ arr.toList.take l.length = bvs m ∧ m.length = l.length ∧ numL m = numL l ^^^ 2 ^ p * (turn % 2 ^ k) ∧ Below B w wr

theorem bit_and (s : Nat) (hs : s < 4294967296) : bits .and .u32 (s : Int) 1 = ((s % 2 : Nat) : Int) := by
  have := u32_and_nat s 1 hs (by decide)
  rw [nat_mask1] at this
  exact this

theorem bvs_set (l : List UInt8) (j : Nat) (y : UInt8) : (bvs l).set j (u8v y) = bvs (l.set j y) := by unfold bvs; rw [List.map_set]

theorem turn_step {wr : World} {g : Nat} {arr : Array Value} {n : Nat} {m : List UInt8} (hb : Blk wr g 5 arr) (ht : arr.toList.take n = bvs m) (hm : m.length = n) (j y : Nat) (hy : y < 256) :
    Blk (wr.setCell ⟨g, j, none⟩ (.int .u8 (y : Int))) g 5 (arr.setIfInBounds j (.int .u8 (y : Int))) ∧ (arr.setIfInBounds j (.int .u8 (y : Int))).toList.take n = bvs (m.set j (UInt8.ofNat y)) ∧ (m.set j (UInt8.ofNat y)).length = n := by
  refine ⟨hb.set j _, ?_, by rw [List.length_set]; exact hm⟩
  rw [← u8v_ofNat y hy, Array.toList_setIfInBounds, List.take_set, ht, bvs_set]

theorem turn_cell {wr : World} {g : Nat} {arr : Array Value} {n : Nat} {m : List UInt8} (hb : Blk wr g 5 arr) (ht : arr.toList.take n = bvs m) (hm : m.length = n) (j : Nat) (hj : j < n) :
    wr.cell? ⟨g, j, none⟩ = some (.int .u8 ((m[j]'(by omega)).toNat : Int)) := by
  rw [hb.cell j]
  have h1 := congrArg (fun l => l[j]?) ht
  simp only [List.getElem?_take, if_pos hj, Array.getElem?_toList] at h1
  rw [h1]
  unfold bvs
  rw [List.getElem?_map, List.getElem?_eq_getElem (by omega)]
  rfl

theorem turn_mth {l m : List UInt8} {p turn k s j r : Nat} (hml : m.length = l.length) (hnum : numL m = numL l ^^^ 2 ^ p * (turn % 2 ^ k)) (hmore : turn % 2 ^ (k + 1) = turn % 2 ^ k ^^^ (if s % 2 = 1 then 2 ^ k else 0)) (hjr : p + k = 8 * j + r) (hr : r < 8) (hj : j < l.length) (hs : s % 2 = 1) :
    numL (m.set j (UInt8.ofNat ((m[j]'(by omega)).toNat ^^^ 2 ^ r))) = numL l ^^^ 2 ^ p * (turn % 2 ^ (k + 1)) := by
  rw [numL_turn m j r (by omega) hr, hnum, hmore, if_pos hs, mul_xor, ← Nat.pow_add, hjr, Nat.xor_assoc]

set_option maxHeartbeats 1600000 in
set_option maxRecDepth 100000 in
theorem turn_any (v : Value) (l : List UInt8) (p turn : Nat) (B : Nat) (w : World) (hr : Rd w B v l) (hB : B ≤ w.heap.size) (h0 : 0 < l.length) (hl : l.length ≤ 70368744177664) (hp : p + 32 ≤ 8 * l.length) (ht : (turn : Int) < 4294967296) :
    Calls Tryd.prog 16 #[v, .int .i64 (p : Int), .int .u32 (turn : Int)] w (TurnPost w l p turn) := by
  have hlb : (bvs l).length = l.length := bvs_length l
  have e0 := Own.empty w 5 w.heap.size rfl
  have rl := hr.below (Below.alloc (Below.refl B w) hB (.cells #[] 5))
  have HL := Lib.hid hlb
  have E0 := Lib.hid e0
  have RL := Lib.hid rl
  have Hl := Lib.hid hl
  have hpI : (p : Int) + 32 ≤ 8 * (l.length : Int) := by omega
  have hlI : (l.length : Int) ≤ 70368744177664 := by omega
  clear hlb e0 rl hr hl
  go_enter Tryd.func16, Tryd.ntmps16
  go_wp2_with (at_builtin; go_must (refine wpList_append_srcg _ (by rfl) (.tmp 9) (.tmp 10) 22 (by rfl) w.heap.size 5 (.int .u8 0) 1 Tryd.underlying22 Tryd.u8info rfl _ [] (by rfl) (by exact E0.out) v (bvs l) (by rfl) (by exact RL.out.src) (bvs_one l) (by have := Hl.out; rw [HL.out]; unfold maxLen; simp; omega) (by have := Hl.out; rw [HL.out]; simp; omega) (by simp) ?_); intro v2 w2 hown2 _ hb2 _)
  have b2 : Below w.heap.size w w2 := ((Below.refl _ _).alloc (Nat.le_refl _) _).trans hb2
  rw [List.nil_append] at hown2
  rcases hown2.2 with ⟨_, hz⟩ | ⟨g, cap, arr0, rfl, hbg, hg, hnc, hcm, hcs, htake⟩
  · rw [HL.out] at hz; omega
  rw [HL.out, Nat.mul_one] at htake
  rw [HL.out] at hnc
  simp only [Nat.mul_one] at hcs
  have hstart : TurnRel w.heap.size w l p turn g (.int .i64 0) w2 := ⟨0, l, arr0, by omega, rfl, hg, htake, rfl, by rw [Nat.pow_zero, Nat.mod_one, Nat.mul_zero, Nat.xor_zero], b2⟩
  have HS := Lib.hid hstart
  simp only [HL.out]
  have hp0 : 0 ≤ (p : Int) := by omega
  have HP := Lib.hid hp
  have HCM := Lib.hid hcm
  have HNC := Lib.hid hnc
  have HTU : U32 turn := by unfold U32; omega
  clear ht
  clear hstart hg htake hown2 hb2 b2 hcm hcs hnc hp h0
  go_loopw [8] (TurnRel w.heap.size w l p turn g) (fun i _ => 32 - (intOf i).toNat)
  case atStart => exact HS.out
  case round =>
    obtain ⟨k, m, arr, hk, rfl, hblk, htk, hml, hnum, bwr⟩ := hrel
    by_cases hk32 : k < 32
    · have hts : turn / 2 ^ k < 4294967296 := Nat.lt_of_le_of_lt (Nat.div_le_self _ _) HTU
      have hshI : (turn : Int) / 2 ^ k = ((turn / 2 ^ k : Nat) : Int) := by simp
      have hmore := turn_more turn k
      generalize hsd : turn / 2 ^ k = s at hts hshI hmore
      have hand := bit_and s hts
      have HN := Lib.hid hnum
      have HM := Lib.hid hmore
      have HB := Lib.hid hblk
      have HT := Lib.hid htk
      have HML := Lib.hid hml
      have BW := Lib.hid bwr
      clear hnum hmore hblk htk hml bwr hsd
      by_cases hbit : s % 2 = 1
      · rw [hbit] at hand
        have HBIT := Lib.hid hbit
        clear hts hbit
        obtain ⟨j, r, hjr, hr8⟩ : ∃ j r : Nat, p + k = 8 * j + r ∧ r < 8 := ⟨(p + k) / 8, (p + k) % 8, by omega, by omega⟩
        have hjl : j < l.length := by have := HP.out; omega
        have hjI : (j : Int) < (l.length : Int) := by omega
        have hj0 : (0 : Int) ≤ (j : Int) := by omega
        have hcell := turn_cell HB.out HT.out HML.out j hjl
        have hfree := HB.out.free j
        have hx : (m[j]'(by have := HML.out; omega)).toNat < 256 := UInt8.toNat_lt _
        have hstepm := turn_mth HML.out HN.out HM.out hjr hr8 hjl HBIT.out
        generalize (m[j]'(by have := HML.out; omega)).toNat = x at hcell hx hstepm
        have hp2 : 2 ^ r < 256 := Nat.pow_lt_pow_right (by decide) hr8
        have hwrap : IntKind.u8.wrap (2 ^ r) = ((2 ^ r : Nat) : Int) := by
          rw [show ((2 : Int) ^ r) = ((2 ^ r : Nat) : Int) by simp, IntKind.wrap_u8']
          generalize 2 ^ r = z at hp2
          omega
        have hxor : bits .xor .u8 (x : Int) (2 ^ r) = ((x ^^^ 2 ^ r : Nat) : Int) := by
          rw [← u8_xor_nat x (2 ^ r) hx hp2]
          simp
        have HXOR := Lib.hid hxor
        clear hxor
        have hlt : p + k < 8 * l.length := by have := HP.out; omega
        have hltI : (p : Int) + (k : Int) < 8 * (l.length : Int) := by omega
        have hr8I : (r : Int) ≤ 8 := by omega
        have hr0I : (0 : Int) ≤ (r : Int) := by omega
        generalize hqd : p + k = q at hjr
        have hw1 : IntKind.i64.wrap ((p : Int) + (k : Int)) = (q : Int) := by rw [IntWalk.i64_in _ (by omega)]; omega
        have hw2 : (q : Int) / 8 = (j : Int) := by omega
        have hw3 : (q : Int) % 8 = (r : Int) := by omega
        have hw6 : (q : Int).tmod 8 = (r : Int) := by rw [Int.tmod_eq_emod_of_nonneg (by omega)]; omega
        have hw4 : IntKind.i64.wrap (r : Int) = (r : Int) := IntWalk.i64_in _ (by omega)
        have hw5 : IntKind.i64.wrap (j : Int) = (j : Int) := IntWalk.i64_in _ (by omega)
        have HJR := Lib.hid hjr
        have HQD := Lib.hid hqd
        have HR8 := Lib.hid hr8
        have HST := Lib.hid hstepm
        have HX := Lib.hid hx
        clear hjr hr8 hjl hx hlt hstepm hqd
        go_wp2_with fail
        refine up_start (fun k => k = g) (by kernel_rfl) ?_
        -- 0: t30 := Op.move (t7) 
        refine up_take (by exact at0) (by kernel_rfl) (by exact fun _ _ _ h => h) (by rfl) (by intro W hW; go_simp; try with_reducible rfl) ?_
        simp only [Act.put, List.setIfInBounds_toArray, List.set_cons_zero, List.set_cons_succ]
        -- 1: t31 := Op.move (t1) 
        refine up_take (by exact (atS at0)) (by kernel_rfl) (by exact fun _ _ _ h => h) (by rfl) (by intro W hW; go_simp; try with_reducible rfl) ?_
        simp only [Act.put, List.setIfInBounds_toArray, List.set_cons_zero, List.set_cons_succ]
        -- 2: t32 := Op.move (t8) 
        refine up_take (by exact (atS (atS at0))) (by kernel_rfl) (by exact fun _ _ _ h => h) (by rfl) (by intro W hW; go_simp; try with_reducible rfl) ?_
        simp only [Act.put, List.setIfInBounds_toArray, List.set_cons_zero, List.set_cons_succ]
        -- 3: t33 := Op.binOp add 3 (t31) (t32) 3 
        refine up_take (by exact (atS (atS (atS at0)))) (by kernel_rfl) (by exact fun _ _ _ h => h) (by rfl) (by intro W hW; go_simp; try with_reducible rfl) ?_
        simp only [Act.put, List.setIfInBounds_toArray, List.set_cons_zero, List.set_cons_succ]
        -- 4: t34 := Op.binOp quo 3 (t33) (const (i64 8)) 3 
        refine up_take (by exact (atS (atS (atS (atS at0))))) (by kernel_rfl) (by exact fun _ _ _ h => h) (by rfl) (by intro W hW; go_simp; try with_reducible rfl) ?_
        simp only [Act.put, List.setIfInBounds_toArray, List.set_cons_zero, List.set_cons_succ]
        -- 5: t35 := Op.move (t7) 
        refine up_take (by exact (atS (atS (atS (atS (atS at0)))))) (by kernel_rfl) (by exact fun _ _ _ h => h) (by rfl) (by intro W hW; go_simp; try with_reducible rfl) ?_
        simp only [Act.put, List.setIfInBounds_toArray, List.set_cons_zero, List.set_cons_succ]
        -- 6: t36 := Op.move (t1) 
        refine up_take (by exact (atS (atS (atS (atS (atS (atS at0))))))) (by kernel_rfl) (by exact fun _ _ _ h => h) (by rfl) (by intro W hW; go_simp; try with_reducible rfl) ?_
        simp only [Act.put, List.setIfInBounds_toArray, List.set_cons_zero, List.set_cons_succ]
        -- 7: t37 := Op.move (t8) 
        refine up_take (by exact (atS (atS (atS (atS (atS (atS (atS at0)))))))) (by kernel_rfl) (by exact fun _ _ _ h => h) (by rfl) (by intro W hW; go_simp; try with_reducible rfl) ?_
        simp only [Act.put, List.setIfInBounds_toArray, List.set_cons_zero, List.set_cons_succ]
        -- 8: t38 := Op.binOp add 3 (t36) (t37) 3 
        refine up_take (by exact (atS (atS (atS (atS (atS (atS (atS (atS at0))))))))) (by kernel_rfl) (by exact fun _ _ _ h => h) (by rfl) (by intro W hW; go_simp; try with_reducible rfl) ?_
        simp only [Act.put, List.setIfInBounds_toArray, List.set_cons_zero, List.set_cons_succ]
        -- 9: t39 := Op.binOp quo 3 (t38) (const (i64 8)) 3 
        refine up_take (by exact (atS (atS (atS (atS (atS (atS (atS (atS (atS at0)))))))))) (by kernel_rfl) (by exact fun _ _ _ h => h) (by rfl) (by intro W hW; go_simp; try with_reducible rfl) ?_
        simp only [Act.put, List.setIfInBounds_toArray, List.set_cons_zero, List.set_cons_succ]
        -- 10: t40 := Op.indexAddr 22 (t35) (t39) 
        refine up_take (by exact (atS (atS (atS (atS (atS (atS (atS (atS (atS (atS at0))))))))))) (by kernel_rfl) (by exact fun _ _ _ h => h) (by rfl) (by intro W hW; go_simp; try with_reducible rfl) ?_
        simp only [Act.put, List.setIfInBounds_toArray, List.set_cons_zero, List.set_cons_succ]
        -- 12: t42 := Op.move (t1) 
        refine up_take (by exact (atS (atS (atS (atS (atS (atS (atS (atS (atS (atS (atS (atS at0))))))))))))) (by kernel_rfl) (by exact fun _ _ _ h => h) (by rfl) (by intro W hW; go_simp; try with_reducible rfl) ?_
        simp only [Act.put, List.setIfInBounds_toArray, List.set_cons_zero, List.set_cons_succ]
        -- 13: t43 := Op.move (t8) 
        refine up_take (by exact (atS (atS (atS (atS (atS (atS (atS (atS (atS (atS (atS (atS (atS at0)))))))))))))) (by kernel_rfl) (by exact fun _ _ _ h => h) (by rfl) (by intro W hW; go_simp; try with_reducible rfl) ?_
        simp only [Act.put, List.setIfInBounds_toArray, List.set_cons_zero, List.set_cons_succ]
        -- 14: t44 := Op.binOp add 3 (t42) (t43) 3 
        refine up_take (by exact (atS (atS (atS (atS (atS (atS (atS (atS (atS (atS (atS (atS (atS (atS at0))))))))))))))) (by kernel_rfl) (by exact fun _ _ _ h => h) (by rfl) (by intro W hW; go_simp; try with_reducible rfl) ?_
        simp only [Act.put, List.setIfInBounds_toArray, List.set_cons_zero, List.set_cons_succ]
        -- 15: t45 := Op.binOp rem 3 (t44) (const (i64 8)) 3 
        refine up_take (by exact (atS (atS (atS (atS (atS (atS (atS (atS (atS (atS (atS (atS (atS (atS (atS at0)))))))))))))))) (by kernel_rfl) (by exact fun _ _ _ h => h) (by rfl) (by intro W hW; go_simp; try with_reducible rfl) ?_
        simp only [Act.put, List.setIfInBounds_toArray, List.set_cons_zero, List.set_cons_succ]
        -- 16: t46 := Op.binOp shl 5 (const (u8 1)) (t45) 3 
        refine up_take (by exact (atS (atS (atS (atS (atS (atS (atS (atS (atS (atS (atS (atS (atS (atS (atS (atS at0))))))))))))))))) (by kernel_rfl) (by exact fun _ _ _ h => h) (by rfl) (by intro W hW; go_simp; try with_reducible rfl) ?_
        simp only [Act.put, List.setIfInBounds_toArray, List.set_cons_zero, List.set_cons_succ]
        -- 11: t41 := Op.load 5 (t40) 
        refine up_one (by exact (atS (atS (atS (atS (atS (atS (atS (atS (atS (atS (atS at0)))))))))))) (by kernel_rfl) (fun K hK => ?_)
        go_simp
        refine hK.out _ _ (Kept.refl _ _) ?_
        clear hK K
        -- 17: t47 := Op.binOp xor 5 (t41) (t46) 5 
        refine up_take (by exact (atS (atS (atS (atS (atS (atS (atS (atS (atS (atS (atS (atS (atS (atS (atS (atS (atS at0)))))))))))))))))) (by kernel_rfl) (by exact fun _ _ _ h => h) (by rfl) (by intro W hW; go_simp; try with_reducible rfl) ?_
        simp only [Act.put, List.setIfInBounds_toArray, List.set_cons_zero, List.set_cons_succ]
        -- 18: t48 := Op.indexAddr 22 (t30) (t34) 
        refine up_take (by exact (atS (atS (atS (atS (atS (atS (atS (atS (atS (atS (atS (atS (atS (atS (atS (atS (atS (atS at0))))))))))))))))))) (by kernel_rfl) (by exact fun _ _ _ h => h) (by rfl) (by intro W hW; go_simp; try with_reducible rfl) ?_
        simp only [Act.put, List.setIfInBounds_toArray, List.set_cons_zero, List.set_cons_succ]
        -- 19: none := Op.store 5 (t48) (t47) 
        refine up_one (by exact (atS (atS (atS (atS (atS (atS (atS (atS (atS (atS (atS (atS (atS (atS (atS (atS (atS (atS (atS at0)))))))))))))))))))) (by kernel_rfl) (fun K hK => ?_)
        go_simp
        refine hK.out _ _ (Kept.grown (grown_set _ g j _) fun k hk => by injection hk with hk; exact hk.symm) ?_
        clear hK K
        refine up_done (by kernel_rfl) ?_
        have hst := turn_step HB.out HT.out HML.out j (x ^^^ 2 ^ r) (Nat.xor_lt_two_pow (n := 8) HX.out hp2)
        have HST2 := Lib.hid hst
        clear hst
        go_wp2_with fail
        go_roundw
        case rel =>
          rw [HXOR.out]
          obtain ⟨s1, s2, s3⟩ := HST2.out
          exact ⟨k + 1, m.set j (UInt8.ofNat (x ^^^ 2 ^ r)), _, by omega, by go_num, s1, s2, s3, HST.out, (BW.out.grown (grown_set wr g j _) BW.out.size (fun k hk => by injection hk with hk; subst hk; exact hbg)).drew⟩
        case measure => simp [intOf]; omega
      · have hb0 : s % 2 = 0 := by omega
        rw [hb0] at hand
        have HB0 := Lib.hid hb0
        clear hts hbit hb0 hpI hlI
        go_wp2_with fail
        go_roundw
        case rel =>
          refine ⟨k + 1, m, arr, by omega, by go_num, HB.out, HT.out, HML.out, ?_, BW.out⟩
          rw [HN.out, HM.out, HB0.out, if_neg (by decide), Nat.xor_zero]
        case measure => simp [intOf]; omega
    · have h32 : k = 32 := by omega
      subst h32
      have hfin : turn % 2 ^ 32 = turn := Nat.mod_eq_of_lt (by have := HTU; unfold U32 at this; omega)
      rw [hfin] at hnum
      have hrd : Rd wr wr.heap.size (.slice (some ⟨g, 0, none⟩) l.length cap) m := by
        have hll := hml
        rw [← hml]
        refine ⟨_, cap, rfl, by rw [hml]; exact HNC.out, HCM.out, fun _ => ⟨g, 0, rfl, hblk.lt, fun j hj => ?_⟩⟩
        rw [Nat.zero_add]
        exact turn_cell hblk htk hll j (by omega)
      have HN := Lib.hid hnum
      have HR := Lib.hid hrd
      have HML := Lib.hid hml
      have BW := Lib.hid bwr
      clear hnum htk hblk hml bwr hpI hlI hfin hrd
      go_wp2_with fail
      go_ret
      exact ⟨_, m, rfl, HR.out, HML.out, HN.out, BW.out⟩
end Go.Proofs.YtjflfennmeackaaDoor
