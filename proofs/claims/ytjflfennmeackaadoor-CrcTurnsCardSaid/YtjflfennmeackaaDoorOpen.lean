/-
  crc.Open: what it answers of any bytes. Conditions: the slice reads as bytes, at most 2^46 of them; the table is as the program's text lays it.
-/
import Derived.Test.YtjflfennmeackaaDoorSeal
namespace Go.Proofs.YtjflfennmeackaaDoor
open Go.RowKit

/-- What was sealed. -/
def openS (l : List UInt8) : Option (List UInt8) :=
  if l.length < 4 then none else if wordN (l.drop (l.length - 4)) = moreN 0 (l.take (l.length - 4)) then some (l.take (l.length - 4)) else none

def NoSum (w : World) (e : Ending) (w' : World) : Prop := e = .returned (.tuple #[.slice none 0 0, .int .i64 20]) ∧ Below w.heap.size w w'

def OpenPost (w : World) : Option (List UInt8) → Ending → World → Prop
  | none => NoSum w
  | some x => Fresh 5 w (bvs x) fun v => .tuple #[v, .int .i64 0]

set_option maxHeartbeats 800000 in
theorem open_short (v : Value) (l : List UInt8) (B : Nat) (w : World) (hr : Rd w B v l) (h4 : l.length < 4) :
    Calls Tryd.prog 13 #[v] w (NoSum w) := by
  obtain ⟨A, c, rfl, hlc, hcm, _⟩ := hr
  unfold maxLen at hcm
  go_enter Tryd.func13, Tryd.ntmps13
  go_wp2_with fail
  have hneg : (l.length : Int) - 4 < 0 := by omega
  refine up_start Nil (by kernel_rfl) ?_
  refine up_take (by exact at0) (by kernel_rfl) (by exact fun _ _ _ h => h) (by rfl) (by intro W hW; go_simp; try with_reducible rfl) ?_
  simp only [Act.put, List.setIfInBounds_toArray, List.set_cons_zero, List.set_cons_succ]
  refine up_take (by exact (atS at0)) (by kernel_rfl) (by exact fun _ _ _ h => h) (by rfl) (by intro W hW; go_simp; try with_reducible rfl) ?_
  simp only [Act.put, List.setIfInBounds_toArray, List.set_cons_zero, List.set_cons_succ]
  refine up_take (by exact (atS (atS at0))) (by kernel_rfl) (by exact fun _ _ _ h => h) (by rfl) (by intro W hW; go_simp; try with_reducible rfl) ?_
  simp only [Act.put, List.setIfInBounds_toArray, List.set_cons_zero, List.set_cons_succ]
  refine up_skip (by exact (atS (atS (atS at0)))) (by kernel_rfl) (by exact fun _ _ _ h => h) (by rfl) ?_
  simp only [Act.put, List.setIfInBounds_toArray, List.set_cons_zero, List.set_cons_succ]
  refine up_skip (by exact (atS (atS (atS (atS at0))))) (by kernel_rfl) (by exact fun _ _ _ h => h) (by rfl) ?_
  simp only [Act.put, List.setIfInBounds_toArray, List.set_cons_zero, List.set_cons_succ]
  refine up_skip (by exact (atS (atS (atS (atS (atS at0)))))) (by kernel_rfl) (by exact fun _ _ _ h => h) (by rfl) ?_
  simp only [Act.put, List.setIfInBounds_toArray, List.set_cons_zero, List.set_cons_succ]
  refine up_skip (by exact (atS (atS (atS (atS (atS (atS (atS (atS at0))))))))) (by kernel_rfl) (by exact fun _ _ _ h => h) (by rfl) ?_
  simp only [Act.put, List.setIfInBounds_toArray, List.set_cons_zero, List.set_cons_succ]
  refine up_skip (by exact (atS (atS (atS (atS (atS (atS (atS (atS (atS at0)))))))))) (by kernel_rfl) (by exact fun _ _ _ h => h) (by rfl) ?_
  simp only [Act.put, List.setIfInBounds_toArray, List.set_cons_zero, List.set_cons_succ]
  refine up_skip (by exact (atS (atS (atS (atS (atS (atS (atS (atS (atS (atS at0))))))))))) (by kernel_rfl) (by exact fun _ _ _ h => h) (by rfl) ?_
  simp only [Act.put, List.setIfInBounds_toArray, List.set_cons_zero, List.set_cons_succ]
  refine up_one (by exact (atS (atS (atS (atS (atS (atS at0))))))) (by kernel_rfl) (fun K hK => ?_)
  go_simp
  refine hK.out _ _ (Kept.refl _ _) ?_
  clear hK K
  refine up_one (by exact (atS (atS (atS (atS (atS (atS (atS at0)))))))) (by kernel_rfl) (fun K hK => ?_)
  go_simp
  refine hK.out _ _ (Kept.refl _ _) ?_
  clear hK K
  refine up_one (by exact (atS (atS (atS (atS (atS (atS (atS (atS (atS (atS (atS at0)))))))))))) (by kernel_rfl) (fun K hK => ?_)
  go_simp
  refine hK.out _ _ (Kept.refl _ _) ?_
  clear hK K
  refine up_skip (by exact (atS (atS (atS (atS (atS (atS (atS (atS (atS (atS (atS (atS at0))))))))))))) (by kernel_rfl) (by exact fun _ _ _ h => h) (by rfl) ?_
  simp only [Act.put, List.setIfInBounds_toArray, List.set_cons_zero, List.set_cons_succ]
  refine up_take (by exact (atS (atS (atS (atS (atS (atS (atS (atS (atS (atS (atS (atS (atS at0)))))))))))))) (by kernel_rfl) (by exact fun _ _ _ h => h) (by rfl) (by intro W hW; go_simp; try with_reducible rfl) ?_
  simp only [Act.put, List.setIfInBounds_toArray, List.set_cons_zero, List.set_cons_succ]
  refine up_done (by kernel_rfl) ?_
  go_wp2
  go_ret2
  exact ⟨rfl, (Below.refl _ _).drew⟩

set_option maxHeartbeats 1600000 in
theorem open_long (v : Value) (l : List UInt8) (B : Nat) (w : World) (hr : Rd w B v l) (hB : B ≤ w.heap.size) (h4 : 4 ≤ l.length) (hl : l.length ≤ 70368744177664) (hH : Halves w) :
    Calls Tryd.prog 13 #[v] w (OpenPost w (openS l)) := by
  have hr0 := Lib.hid hr
  obtain ⟨A, c, rfl, hlc, hcm, _⟩ := hr
  unfold maxLen at hcm
  have HH := Lib.hid hH
  obtain ⟨n, hn⟩ : ∃ n, l.length = n + 4 := ⟨l.length - 4, by omega⟩
  have Hn := Lib.hid hn
  have hcutR : Rd w B (.slice (Option.map (fun x => x.add n) A) 4 (c - n)) (l.drop n) := by
    have h := hr0.out.cut n (by omega) (Option.map (fun x => x.add n) A) (fun _ => rfl)
    rw [show l.length - n = 4 by omega] at h
    exact h
  have hupR : Rd w B (.slice A n c) (l.take n) := hr0.out.upto n (by omega)
  have hcn : ¬ c = n := by omega
  have hd : decide ((n : Int) < 0) = false := decide_eq_false (by omega)
  have hneg : ¬ (l.length : Int) - 4 < 0 := by omega
  clear hH
  go_enter Tryd.func13, Tryd.ntmps13
  go_wp2_with fail
  refine up_start (fun k => w.heap.size ≤ k) (by kernel_rfl) ?_
  refine up_take (by exact at0) (by kernel_rfl) (by exact fun _ _ _ h => h) (by rfl) (by intro W hW; go_simp; try with_reducible rfl) ?_
  simp only [Act.put, List.setIfInBounds_toArray, List.set_cons_zero, List.set_cons_succ]
  refine up_take (by exact (atS at0)) (by kernel_rfl) (by exact fun _ _ _ h => h) (by rfl) (by intro W hW; go_simp; try with_reducible rfl) ?_
  simp only [Act.put, List.setIfInBounds_toArray, List.set_cons_zero, List.set_cons_succ]
  refine up_take (by exact (atS (atS at0))) (by kernel_rfl) (by exact fun _ _ _ h => h) (by rfl) (by intro W hW; go_simp; try with_reducible rfl) ?_
  simp only [Act.put, List.setIfInBounds_toArray, List.set_cons_zero, List.set_cons_succ]
  refine up_take (by exact (atS (atS (atS at0)))) (by kernel_rfl) (by exact fun _ _ _ h => h) (by rfl) (by intro W hW; go_simp; try with_reducible rfl) ?_
  simp only [Act.put, List.setIfInBounds_toArray, List.set_cons_zero, List.set_cons_succ]
  refine up_take (by exact (atS (atS (atS (atS at0))))) (by kernel_rfl) (by exact fun _ _ _ h => h) (by rfl) (by intro W hW; go_simp; try with_reducible rfl) ?_
  simp only [Act.put, List.setIfInBounds_toArray, List.set_cons_zero, List.set_cons_succ]
  refine up_take (by exact (atS (atS (atS (atS (atS at0)))))) (by kernel_rfl) (by exact fun _ _ _ h => h) (by rfl) (by intro W hW; go_simp; rw [if_pos (by omega)]) ?_
  simp only [Act.put, List.setIfInBounds_toArray, List.set_cons_zero, List.set_cons_succ]
  refine up_take (by exact (atS (atS (atS (atS (atS (atS (atS (atS at0))))))))) (by kernel_rfl) (by exact fun _ _ _ h => h) (by rfl) (by intro W hW; go_simp; try with_reducible rfl) ?_
  simp only [Act.put, List.setIfInBounds_toArray, List.set_cons_zero, List.set_cons_succ]
  refine up_take (by exact (atS (atS (atS (atS (atS (atS (atS (atS (atS at0)))))))))) (by kernel_rfl) (by exact fun _ _ _ h => h) (by rfl) (by intro W hW; go_simp; try with_reducible rfl) ?_
  simp only [Act.put, List.setIfInBounds_toArray, List.set_cons_zero, List.set_cons_succ]
  refine up_take (by exact (atS (atS (atS (atS (atS (atS (atS (atS (atS (atS at0))))))))))) (by kernel_rfl) (by exact fun _ _ _ h => h) (by rfl) (by intro W hW; go_simp; rw [if_pos (by omega)]) ?_
  simp only [Act.put, List.setIfInBounds_toArray, List.set_cons_zero, List.set_cons_succ]
  refine up_one (by exact (atS (atS (atS (atS (atS (atS at0))))))) (by kernel_rfl) (fun K hK => ?_)
  go_simp
  refine (from_any _ (l.drop n) B _ (by exact hcutR) (by exact hB) (by rw [List.length_drop]; omega)).mono ?_
  rintro e w3 ⟨g, rfl, hge, hrdr, hb3⟩
  refine hK.out _ _ (Kept.below hb3) ?_
  clear hK K
  have hge' : w.heap.size ≤ g := hge
  refine up_one (by exact (atS (atS (atS (atS (atS (atS (atS at0)))))))) (by kernel_rfl) (fun K hK => ?_)
  go_simp
  refine (rword g (some (l.drop n)) w3 (by exact hrdr)).mono ?_
  rintro e w4 ⟨rfl, hs4, hg4⟩
  refine hK.out _ _ (Kept.grown hg4 fun k hk => by injection hk with hk; subst hk; exact hge') ?_
  clear hK K
  have hb3' : Below w.heap.size w w3 := ⟨hb3.os, hb3.tape, hb3.output, hb3.size, hb3.block⟩
  have hb4 : Below w.heap.size w w4 := hb3'.grown hg4 hb3'.size fun k hk => by injection hk with hk; subst hk; exact hge'
  have hup4 : Rd w4 B (.slice A n c) (l.take n) := hupR.below (hb4.mono hB)
  have hH4 : Halves w4 := HH.out.next hb4
  refine up_one (by exact (atS (atS (atS (atS (atS (atS (atS (atS (atS (atS (atS at0)))))))))))) (by kernel_rfl) (fun K hK => ?_)
  go_simp
  refine (sum_any _ (l.take n) B _ (by exact hup4) (by exact hH4)).mono ?_
  rintro e w9 ⟨rfl, rfl⟩
  refine hK.out _ _ (Kept.refl _ _) ?_
  clear hK K
  have hword : (wordS (some (l.drop n))).1 = wordN (l.drop n) := by
    have h4' : (l.drop n).length = 4 := by rw [List.length_drop]; omega
    simp only [wordS, takeS]
    rw [if_neg (by rw [h4']; omega)]
    show wordN ((l.drop n).take 4) = _
    rw [List.take_of_length_le (by omega)]
  rw [hword]
  generalize hx : wordN (l.drop n) = x
  generalize hy : moreN 0 (l.take n) = y
  have Hx := Lib.hid hx
  have Hy := Lib.hid hy
  clear hx hy hword hs4 hg4 hb3 hrdr hcutR
  by_cases hxy : x = y
  · have hsome : openS l = some (l.take n) := by
      unfold openS
      rw [if_neg (by omega), show l.length - 4 = n by omega, if_pos (by rw [Hx.out, Hy.out, hxy])]
    rw [hsome]
    subst hxy
    refine up_take (by exact (atS (atS (atS (atS (atS (atS (atS (atS (atS (atS (atS (atS at0))))))))))))) (by kernel_rfl) (by exact fun _ _ _ h => h) (by rfl) (by intro W hW; go_simp; try with_reducible rfl) ?_
    simp only [Act.put, List.setIfInBounds_toArray, List.set_cons_zero, List.set_cons_succ]
    refine up_take (by exact (atS (atS (atS (atS (atS (atS (atS (atS (atS (atS (atS (atS (atS at0)))))))))))))) (by kernel_rfl) (by exact fun _ _ _ h => h) (by rfl) (by intro W hW; go_simp; try with_reducible rfl) ?_
    simp only [Act.put, List.setIfInBounds_toArray, List.set_cons_zero, List.set_cons_succ]
    refine up_done (by kernel_rfl) ?_
    obtain ⟨i0, hi, hz, hsize, hby⟩ := info_parts Tryd.u8info
    have hsz1 : (Tryd.prog.info? 5).map (·.size) = some 1 := by rw [hi]; simp [hsize]
    have hlt' : (l.take n).length = n := by rw [List.length_take]; omega
    go_upto_region 5 with (at_make; go_must (refine wpList_make_full _ rfl (.tmp 23) (.tmp 23) _ rfl w4.heap.size 5 i0 (.int .u8 0) 1 Tryd.underlying22 hi hz hsize _ _ _ _ n rfl rfl rfl rfl (by rw [hby]; omega) (by unfold maxLen; omega) (Nat.le_refl _) ?_); intro w5 hown hg5)
    have hrow := row_whole hown
    have hsz4 : w.heap.size ≤ w4.heap.size := hb4.size
    have hb5 : Below w.heap.size w w5 := hb4.grown hg5 hb4.size (fun k hk => by cases hk)
    have hlenM : (madeCells (Value.int .u8 0).cells (n * 1)).toList.length = n := by simp [madeCells]
    have hlb : (bvs (l.take n)).length = n := by rw [bvs_length, hlt']
    have hpos : 0 < (bvs (l.take n)).length → some (⟨w4.heap.size, 0, none⟩ : Addr) = some ⟨w4.heap.size, 0, none⟩ ∧ ∃ ad, A = some ad ∧ ∀ j u, (bvs (l.take n))[j]? = some u → w5.cell? (ad.add j) = some u := by
      intro h0
      obtain ⟨A', c', e', hnone, hcells⟩ := (hupR.below (hb5.mono hB)).src
      injection e' with e1 _ _
      subst e1
      refine ⟨rfl, ?_⟩
      cases A with
      | none => rw [hnone rfl] at h0; simp at h0
      | some ad => exact ⟨ad, rfl, hcells ad rfl⟩
    have HlenM := Lib.hid hlenM
    have Hrow := Lib.hid hrow
    have Hpos := Lib.hid hpos
    have Hlb := Lib.hid hlb
    have Hsome := Lib.hid hsome
    clear hlenM hrow hpos hown hlb hsome hup4 hH4 hlt'
    generalize hM : (madeCells (Value.int .u8 0).cells (n * 1)).toList = M at HlenM Hrow
    clear hM
    go_wp2_with (with_reducible refine wpList_copy_splice rfl (.tmp 25) (.tmp 26) _ _ rfl 5 Tryd.underlying22 hsz1 _ _ _ _ _ _ rfl rfl w4.heap.size 0 M 5 Hrow.out (bvs (l.take n)) (by rw [Hlb.out]; exact (Nat.min_eq_right (by omega)).symm) Hpos.out (by rw [Hlb.out, HlenM.out]; omega) (bvs_one _) w.heap.size w hb5 hsz4 ?_; intro w6 hrow6 hb6)
    go_ret2
    show OpenPost w (openS l) _ _
    rw [Hsome.out]
    have hr6 := hrow6.out
    rw [splice_all _ _ (by rw [HlenM.out, Hlb.out])] at hr6
    refine ⟨_, rfl, ⟨by omega, .inr ⟨w4.heap.size, n, _, by rw [Hlb.out]; rfl, hsz4, hr6, by rw [Hlb.out]; exact Nat.le_refl _, by unfold maxLen; omega, by rw [List.size_toArray, Hlb.out]; omega, ?_⟩⟩, hb6⟩
    rw [List.take_of_length_le (by rw [Nat.mul_one]; exact Nat.le_refl _)]
  · have hnone : openS l = none := by
      unfold openS
      rw [if_neg (by omega), show l.length - 4 = n by omega, if_neg (by rw [Hx.out, Hy.out]; exact hxy)]
    have hxyI : ¬ (x : Int) = (y : Int) := by omega
    refine up_take (by exact (atS (atS (atS (atS (atS (atS (atS (atS (atS (atS (atS (atS at0))))))))))))) (by kernel_rfl) (by exact fun _ _ _ h => h) (by rfl) (by intro W hW; go_simp; try with_reducible rfl) ?_
    simp only [Act.put, List.setIfInBounds_toArray, List.set_cons_zero, List.set_cons_succ]
    refine up_take (by exact (atS (atS (atS (atS (atS (atS (atS (atS (atS (atS (atS (atS (atS at0)))))))))))))) (by kernel_rfl) (by exact fun _ _ _ h => h) (by rfl) (by intro W hW; go_simp; try with_reducible rfl) ?_
    simp only [Act.put, List.setIfInBounds_toArray, List.set_cons_zero, List.set_cons_succ]
    refine up_done (by kernel_rfl) ?_
    go_wp2
    go_ret2
    show OpenPost w (openS l) _ _
    rw [hnone]
    exact ⟨rfl, hb4⟩

theorem open_any (v : Value) (l : List UInt8) (B : Nat) (w : World) (hr : Rd w B v l) (hB : B ≤ w.heap.size) (hl : l.length ≤ 70368744177664) (hH : Halves w) :
    Calls Tryd.prog 13 #[v] w (OpenPost w (openS l)) := by
  by_cases h4 : l.length < 4
  · have : openS l = none := by unfold openS; rw [if_pos h4]
    rw [this]
    exact open_short v l B w hr h4
  · exact open_long v l B w hr hB (by omega) hl hH
end Go.Proofs.YtjflfennmeackaaDoor
