/-
  crc.Seal: the bytes with their sum behind. Conditions: the slice reads as bytes, at most 2^46 of them; the table is as the program's text lays it.
-/
import Derived.Test.YtjflfennmeackaaDoorCrcMore
import Derived.Test.YtjflfennmeackaaDoorRdrBase
import Derived.Test.YtjflfennmeackaaDoorWord
namespace Go.Proofs.YtjflfennmeackaaDoor
open Go.RowKit

def sealB (l : List UInt8) : List UInt8 := l ++ wordB (moreN 0 l)

theorem splice_two {α : Type} (Z X Y : List α) (k : Nat) (hX : X.length = k) (hZ : Z.length = k + Y.length) : splice (splice Z 0 X) k Y = X ++ Y := by
  subst hX
  unfold splice
  have e1 : Z.take 0 ++ (X ++ Z.drop (0 + X.length)) = X ++ Z.drop X.length := by simp
  rw [e1]
  have e2 : (X ++ Z.drop X.length).take X.length = X := by simp
  have e3 : (X ++ Z.drop X.length).drop (X.length + Y.length) = [] := List.drop_eq_nil_of_le (by simp; omega)
  rw [e2, e3, List.append_nil]

set_option maxHeartbeats 800000 in
theorem seal_any (v : Value) (l : List UInt8) (B : Nat) (w : World) (hr : Rd w B v l) (hB : B ≤ w.heap.size) (hl : l.length ≤ 70368744177664) (hH : Halves w) :
    Calls Tryd.prog 12 #[v] w (Fresh 5 w (bvs (sealB l)) fun v => v) := by
  have hr0 := Lib.hid hr
  obtain ⟨A, c, rfl, hlc, hcm, hA⟩ := hr
  obtain ⟨i0, hi, hz, hsize, hby⟩ := info_parts Tryd.u8info
  have hsz1 : (Tryd.prog.info? 5).map (·.size) = some 1 := by rw [hi]; simp [hsize]
  have hlI : (l.length : Int) ≤ 70368744177664 := by omega
  have Hl := Lib.hid hl
  have HH := Lib.hid hH
  clear hl hlc hcm hA hH
  go_enter Tryd.func12, Tryd.ntmps12
  go_upto_region 2 with (at_make; go_must (refine wpList_make_full _ rfl (.tmp 6) (.tmp 6) _ rfl w.heap.size 5 i0 (.int .u8 0) 1 Tryd.underlying22 hi hz hsize _ _ _ _ (l.length + 4) rfl rfl rfl rfl (by have := Hl.out; rw [hby]; omega) (by have := Hl.out; unfold maxLen; omega) (Nat.le_refl _) ?_); intro w1 hown hg1)
  have hrow := row_whole hown
  have hb1 : Below w.heap.size w w1 := (Below.refl _ _).grown hg1 (Nat.le_refl _) (fun k hk => by cases hk)
  have hlenM : (madeCells (Value.int .u8 0).cells ((l.length + 4) * 1)).toList.length = l.length + 4 := by simp [madeCells]
  have hpos : 0 < (bvs l).length → some (⟨w.heap.size, 0, none⟩ : Addr) = some ⟨w.heap.size, 0, none⟩ ∧ ∃ ad, A = some ad ∧ ∀ j u, (bvs l)[j]? = some u → w1.cell? (ad.add j) = some u := by
    intro h0
    obtain ⟨A', c', e', hnone, hcells⟩ := (hr0.out.below (hb1.mono hB)).src
    injection e' with e1 _ _
    subst e1
    refine ⟨rfl, ?_⟩
    cases A with
    | none => rw [hnone rfl] at h0; simp at h0
    | some ad => exact ⟨ad, rfl, hcells ad rfl⟩
  have hlt1 : w.heap.size < w1.heap.size := (hown.lt _ rfl).2
  have HlenM := Lib.hid hlenM
  have Hrow := Lib.hid hrow
  have Hpos := Lib.hid hpos
  clear hlenM hrow hpos hown
  generalize hM : (madeCells (Value.int .u8 0).cells ((l.length + 4) * 1)).toList = M at HlenM Hrow
  clear hM
  go_upto_region 3 with (with_reducible refine wpList_copy_splice rfl (.tmp 8) (.tmp 9) _ _ rfl 5 Tryd.underlying22 hsz1 _ _ _ _ _ _ rfl rfl w.heap.size 0 M 5 Hrow.out (bvs l) (by rw [bvs_length]; exact (Nat.min_eq_left (by omega)).symm) Hpos.out (by rw [bvs_length, HlenM.out]; omega) (bvs_one l) w.heap.size w hb1 (Nat.le_refl _) ?_; intro w2 hrow2 hb2)
  have hl4 : (bvs l).length = l.length := bvs_length l
  simp only [Act.put, hl4, List.setIfInBounds_toArray, List.set_cons_zero, List.set_cons_succ]
  refine up_start (fun k => w.heap.size ≤ k) (by kernel_rfl) ?_
  refine up_take (by exact at0) (by kernel_rfl) (by exact fun _ _ _ h => h) (by rfl) (by intro W hW; go_simp; try with_reducible rfl) ?_
  simp only [Act.put, List.setIfInBounds_toArray, List.set_cons_zero, List.set_cons_succ]
  refine up_take (by exact (atS at0)) (by kernel_rfl) (by exact fun _ _ _ h => h) (by rfl) (by intro W hW; go_simp; try with_reducible rfl) ?_
  simp only [Act.put, List.setIfInBounds_toArray, List.set_cons_zero, List.set_cons_succ]
  refine up_take (by exact (atS (atS at0))) (by kernel_rfl) (by exact fun _ _ _ h => h) (by rfl) (by intro W hW; go_simp; try with_reducible rfl) ?_
  simp only [Act.put, List.setIfInBounds_toArray, List.set_cons_zero, List.set_cons_succ]
  refine up_take (by exact (atS (atS (atS at0)))) (by kernel_rfl) (by exact fun _ _ _ h => h) (by rfl) (by intro W hW; go_simp; rw [if_pos (by omega)]) ?_
  simp only [Act.put, List.setIfInBounds_toArray, List.set_cons_zero, List.set_cons_succ]
  refine up_take (by exact (atS (atS (atS (atS at0))))) (by kernel_rfl) (by exact fun _ _ _ h => h) (by rfl) (by intro W hW; go_simp; try with_reducible rfl) ?_
  simp only [Act.put, List.setIfInBounds_toArray, List.set_cons_zero, List.set_cons_succ]
  have hr2 : Rd w2.drew B (.slice A l.length c) l := (hr0.out.below (hb2.mono hB)).drew
  have hH2 : Halves w2 := HH.out.next hb2
  refine up_one (by exact (atS (atS (atS (atS (atS at0)))))) (by kernel_rfl) (fun K hK => ?_)
  go_simp
  refine (sum_any _ l B _ (by exact hr2) (by exact hH2)).mono ?_
  rintro e w9 ⟨rfl, rfl⟩
  refine hK.out _ _ (Kept.refl _ _) ?_
  clear hK K
  have hm := moreN_lt 0 l
  generalize hq : moreN 0 l = q at hm
  have Hq := Lib.hid hq
  clear hq
  refine up_one (by exact (atS (atS (atS (atS (atS (atS at0))))))) (by kernel_rfl) (fun K hK => ?_)
  go_simp
  refine (word_any q _ (by omega)).mono ?_
  rintro e w3 ⟨v3, rfl, hown3, hb3⟩
  refine hK.out _ _ (Kept.below hb3) ?_
  clear hK K
  have hsz2 : w2.drew.heap.size = w2.heap.size := rfl
  have hlt2 : w.heap.size < w2.heap.size := (show Blk w2 w.heap.size 5 _ from hrow2.out).lt
  have hrow3 : w3.heap[w.heap.size]? = some (.cells (splice M 0 (bvs l)).toArray 5 (0, 0)) := (hb3.block _ hlt2).trans hrow2.out
  have hb4 : Below w.heap.size w w3 := Below.trans hb2 (show Below w.heap.size w2 w3 from ⟨hb3.os, hb3.tape, hb3.output, hb3.size, fun k hk => hb3.block k (Nat.lt_trans hk hlt2)⟩)
  obtain ⟨A3, c3, rfl, hnone3, hcells3⟩ := (hown3.rd (Nat.le_refl _)).src
  have hlw : (bvs (wordB q)).length = 4 := by rw [bvs_length]; rfl
  simp only [hlw]
  refine up_one (by exact (atS (atS (atS (atS (atS (atS (atS at0)))))))) (by kernel_rfl) (fun K hK => ?_)
  refine step_copy_splice rfl (.tmp 14) (.tmp 17) _ _ rfl 5 Tryd.underlying22 hsz1 _ _ _ _ _ _ rfl rfl w.heap.size l.length (splice M 0 (bvs l)) 5 hrow3 (bvs (wordB q)) hlw ?_ ?_ (bvs_one _) w.heap.size w3 (Below.refl _ _) (Nat.le_refl _) ?_
  · intro _
    refine ⟨rfl, ?_⟩
    cases A3 with
    | none => have := congrArg List.length (hnone3 rfl); rw [hlw] at this; simp at this
    | some ad => exact ⟨ad, rfl, hcells3 ad rfl⟩
  · rw [length_splice _ _ _ (by rw [hl4, HlenM.out]; omega), HlenM.out, hlw]
    exact Nat.le_refl _
  intro w4 hrow4 hb5
  refine hK.out _ _ (Kept.belowB hb5 fun _ h => h) ?_
  clear hK K
  refine up_done (by kernel_rfl) ?_
  have hfin : Own w4 w.heap.size 5 (.slice (some ⟨w.heap.size, 0, none⟩) (l.length + 4) (l.length + 4)) (bvs (sealB l)) := by
    have hs : splice (splice M 0 (bvs l)) l.length (bvs (wordB q)) = bvs (sealB l) := by
      rw [splice_two _ _ _ _ hl4 (by rw [HlenM.out, hlw])]
      unfold sealB
      rw [Hq.out, bvs_append]
    have hls : (bvs (sealB l)).length = l.length + 4 := by rw [← hs, splice_two _ _ _ _ hl4 (by rw [HlenM.out, hlw]), List.length_append, hl4, hlw]
    refine ⟨by omega, .inr ⟨_, l.length + 4, (bvs (sealB l)).toArray, by rw [hls], Nat.le_refl _, ?_, by omega, by have := Hl.out; unfold maxLen; omega, by rw [List.size_toArray]; omega, ?_⟩⟩
    · rw [← hs]; exact hrow4.out
    · rw [List.take_of_length_le (by rw [Nat.mul_one]; exact Nat.le_refl _)]
  have Hfin := Lib.hid hfin
  have hb6 := hb4.trans hb5
  clear hfin hrow4 hrow3 hcells3 hnone3 hown3
  simp only [Act.put, List.setIfInBounds_toArray, List.set_cons_zero, List.set_cons_succ]
  go_wp2
  go_ret
  exact ⟨_, rfl, Hfin.out, hb6⟩
end Go.Proofs.YtjflfennmeackaaDoor
