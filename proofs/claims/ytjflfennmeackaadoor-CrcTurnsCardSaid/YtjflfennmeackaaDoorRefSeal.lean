/-
  The document's own sealed bytes, and what they open to (newsstandref02). Condition: the slice reads as bytes, at most 2^46 of them.
-/
import Derived.Test.YtjflfennmeackaaDoorRefCrc
import Derived.Test.YtjflfennmeackaaDoorSealed
import Derived.Test.YtjflfennmeackaaDoorGuard
namespace Go.Proofs.YtjflfennmeackaaDoor
open Go.RowKit

set_option maxHeartbeats 800000 in
theorem rseal_any (v : Value) (l : List UInt8) (B : Nat) (w : World) (hr : Rd w B v l) (hB : B ≤ w.heap.size) (hl : l.length ≤ 70368744177664) :
    Calls Tryd.prog 15 #[v] w (Fresh 5 w (bvs (sealB l)) fun v => v) := by
  have hm := moreN_lt 0 l
  have hlb : (bvs l).length = l.length := bvs_length l
  have e0 := Own.empty w 5 w.heap.size rfl
  have rl := hr.below (Below.alloc (Below.refl B w) hB (.cells #[] 5))
  have hc := rsum_any v l B (w.alloc (.cells #[] 5)) rl
  generalize hq : moreN 0 l = q at hm
  have hqI : (q : Int) < 4294967296 := by omega
  have HL := Lib.hid hlb
  have E0 := Lib.hid e0
  have RL := Lib.hid rl
  have Hl := Lib.hid hl
  have Q := Lib.hid hq
  have QI := Lib.hid hqI
  clear hlb e0 rl hr hl hm hq hc hqI
  go_enter Tryd.func15, Tryd.ntmps15
  go_wp2_with (at_builtin; go_must (refine wpList_append_srcg _ (by rfl) (.tmp 3) (.tmp 4) 22 (by rfl) w.heap.size 5 (.int .u8 0) 1 Tryd.underlying22 Tryd.u8info rfl _ [] (by rfl) (by exact E0.out) v (bvs l) (by rfl) (by exact RL.out.src) (bvs_one l) (by have := Hl.out; rw [HL.out]; unfold maxLen; simp; omega) (by have := Hl.out; rw [HL.out]; simp; omega) (by simp) ?_); intro v2 w2 hown2 _ hb2 _)
  have r2 := RL.out.below (hb2.mono hB)
  refine (rsum_any _ l B _ (by exact r2)).mono ?_
  rw [Q.out]
  rintro e w3 ⟨rfl, rfl⟩
  have H2 := Lib.hid hown2
  clear hown2
  go_wp2_with fail
  refine (rword_any q _ (by exact QI.out)).mono ?_
  rintro e w3 ⟨v3, rfl, hown3, hb3⟩
  have h23 := H2.out.below hb3
  have r3 := (hown3.rd (Nat.le_refl _)).src
  have hlw : (bvs (wordB q)).length = 4 := rfl
  have hbs2 : w.heap.size ≤ w2.heap.size := by have := hb2.size; simp at this; omega
  have hbs : w.heap.size ≤ w3.heap.size := Nat.le_trans hbs2 hb3.size
  have hb13 : Below w.heap.size w w3 := ((Below.refl _ _).alloc (Nat.le_refl _) _).trans (hb2.trans (hb3.mono hbs2))
  have HW := Lib.hid hlw
  have H3 := Lib.hid hown3
  have H23 := Lib.hid h23
  clear hown3 hlw h23
  go_wp2_with (at_builtin; go_must (refine wpList_append_srcg _ (by rfl) (.tmp 5) (.tmp 8) 22 (by rfl) w.heap.size 5 (.int .u8 0) 1 Tryd.underlying22 Tryd.u8info rfl v2 ([] ++ bvs l) (by rfl) (by exact H23.out) v3 (bvs (wordB q)) (by rfl) (by exact r3) (bvs_one _) (by have := Hl.out; rw [List.nil_append, HL.out, HW.out]; unfold maxLen; omega) (by have := Hl.out; rw [List.nil_append, HL.out, HW.out]; omega) (by exact hbs) ?_); intro v4 w4 hown4 _ hb4 _)
  have hseal : [] ++ bvs l ++ bvs (wordB q) = bvs (sealB l) := by unfold sealB; rw [bvs_append, Q.out]; rfl
  rw [hseal] at hown4
  have H4 := Lib.hid hown4
  clear hown4 hseal
  go_ret
  exact ⟨_, rfl, H4.out, hb13.trans hb4⟩

/-- What the document's own Open answers. -/
def ROpen (w : World) : Option (List UInt8) → Ending → World → Prop
  | none => fun e w' => e = .returned (.tuple #[.slice none 0 0, .bool false]) ∧ Below w.heap.size w w'
  | some x => fun e w' => ∃ v, e = .returned (.tuple #[v, .bool true]) ∧ Rd w' w.heap.size v x ∧ Below w.heap.size w w'

set_option maxHeartbeats 800000 in
theorem ropen_short (v : Value) (l : List UInt8) (B : Nat) (w : World) (hr : Rd w B v l) (h4 : l.length < 4) :
    Calls Tryd.prog 14 #[v] w (ROpen w none) := by
  obtain ⟨A, c, rfl, hlc, hcm, _⟩ := hr
  unfold maxLen at hcm
  have hneg : (l.length : Int) - 4 < 0 := by omega
  go_enter Tryd.func14, Tryd.ntmps14
  go_wp2_with fail
  refine up_start Nil (by kernel_rfl) ?_
  refine up_take (by exact at0) (by kernel_rfl) (by exact fun _ _ _ h => h) (by rfl) (by intro W hW; go_simp; try with_reducible rfl) ?_
  simp only [Act.put, List.setIfInBounds_toArray, List.set_cons_zero, List.set_cons_succ]
  refine up_take (by exact (atS at0)) (by kernel_rfl) (by exact fun _ _ _ h => h) (by rfl) (by intro W hW; go_simp; try with_reducible rfl) ?_
  simp only [Act.put, List.setIfInBounds_toArray, List.set_cons_zero, List.set_cons_succ]
  refine up_take (by exact (atS (atS at0))) (by kernel_rfl) (by exact fun _ _ _ h => h) (by rfl) (by intro W hW; go_simp; try with_reducible rfl) ?_
  simp only [Act.put, List.setIfInBounds_toArray, List.set_cons_zero, List.set_cons_succ]
  refine up_skip (by exact (atS (atS (atS at0)))) (by kernel_rfl) (by exact fun _ _ _ h => h) (by rfl) ?_
  simp only [Act.put, List.setIfInBounds_toArray, List.set_cons_zero, List.set_cons_succ]
  refine up_skip (by exact (atS (atS (atS (atS at0))))) (by kernel_rfl) (by exact fun _ _ _ h => h) (by rfl) ?_
  simp only [Act.put, List.setIfInBounds_toArray, List.set_cons_zero, List.set_cons_succ]
  refine up_skip (by exact (atS (atS (atS (atS (atS at0)))))) (by kernel_rfl) (by exact fun _ _ _ h => h) (by rfl) ?_
  simp only [Act.put, List.setIfInBounds_toArray, List.set_cons_zero, List.set_cons_succ]
  refine up_skip (by exact (atS (atS (atS (atS (atS (atS (atS (atS at0))))))))) (by kernel_rfl) (by exact fun _ _ _ h => h) (by rfl) ?_
  simp only [Act.put, List.setIfInBounds_toArray, List.set_cons_zero, List.set_cons_succ]
  refine up_skip (by exact (atS (atS (atS (atS (atS (atS (atS (atS (atS at0)))))))))) (by kernel_rfl) (by exact fun _ _ _ h => h) (by rfl) ?_
  simp only [Act.put, List.setIfInBounds_toArray, List.set_cons_zero, List.set_cons_succ]
  refine up_one (by exact (atS (atS (atS (atS (atS (atS at0))))))) (by kernel_rfl) (fun K hK => ?_)
  go_simp
  refine hK.out _ _ (Kept.refl _ _) ?_
  clear hK K
  refine up_skip (by exact (atS (atS (atS (atS (atS (atS (atS at0)))))))) (by kernel_rfl) (by exact fun _ _ _ h => h) (by rfl) ?_
  simp only [Act.put, List.setIfInBounds_toArray, List.set_cons_zero, List.set_cons_succ]
  refine up_skip (by exact (atS (atS (atS (atS (atS (atS (atS (atS (atS (atS at0))))))))))) (by kernel_rfl) (by exact fun _ _ _ h => h) (by rfl) ?_
  simp only [Act.put, List.setIfInBounds_toArray, List.set_cons_zero, List.set_cons_succ]
  refine up_take (by exact (atS (atS (atS (atS (atS (atS (atS (atS (atS (atS (atS at0)))))))))))) (by kernel_rfl) (by exact fun _ _ _ h => h) (by rfl) (by intro W hW; go_simp; try with_reducible rfl) ?_
  simp only [Act.put, List.setIfInBounds_toArray, List.set_cons_zero, List.set_cons_succ]
  refine up_done (by kernel_rfl) ?_
  go_wp2
  go_ret2
  exact ⟨rfl, (Below.refl _ _).drew⟩

set_option maxHeartbeats 1600000 in
theorem ropen_long (v : Value) (l : List UInt8) (B : Nat) (w : World) (hr : Rd w B v l) (hB : B ≤ w.heap.size) (h4 : 4 ≤ l.length) (hl : l.length ≤ 70368744177664) :
    Calls Tryd.prog 14 #[v] w (ROpen w (openS l)) := by
  have hr0 := Lib.hid hr
  obtain ⟨A, c, rfl, hlc, hcm, _⟩ := hr
  unfold maxLen at hcm
  obtain ⟨n, hn⟩ : ∃ n, l.length = n + 4 := ⟨l.length - 4, by omega⟩
  have hsub : (l.length : Int) - 4 = (n : Int) := by omega
  have hupR : Rd w B (.slice A n c) (l.take n) := hr0.out.upto n (by omega)
  have hopen : openS l = if sealB (l.take n) = l then some (l.take n) else none := by
    rw [openS_ref, if_neg (by omega), show l.length - 4 = n by omega]
  have Hopen := Lib.hid hopen
  have hneg : ¬ (l.length : Int) - 4 < 0 := by omega
  have hnn : ¬ (n : Int) < 0 := by omega
  have hdd : decide ((n : Int) < 0) = false := decide_eq_false (by omega)
  have hln : (l.take n).length ≤ 70368744177664 := by rw [List.length_take]; omega
  have Hln := Lib.hid hln
  have hnl : n ≤ l.length := by omega
  have hnc : n ≤ c := by omega
  clear hopen hln hn
  go_enter Tryd.func14, Tryd.ntmps14
  go_wp2_with fail
  refine up_start Nil (by kernel_rfl) ?_
  refine up_take (by exact at0) (by kernel_rfl) (by exact fun _ _ _ h => h) (by rfl) (by intro W hW; go_simp; try with_reducible rfl) ?_
  simp only [Act.put, List.setIfInBounds_toArray, List.set_cons_zero, List.set_cons_succ]
  refine up_take (by exact (atS at0)) (by kernel_rfl) (by exact fun _ _ _ h => h) (by rfl) (by intro W hW; go_simp; try with_reducible rfl) ?_
  simp only [Act.put, List.setIfInBounds_toArray, List.set_cons_zero, List.set_cons_succ]
  refine up_take (by exact (atS (atS at0))) (by kernel_rfl) (by exact fun _ _ _ h => h) (by rfl) (by intro W hW; go_simp; try with_reducible rfl) ?_
  simp only [Act.put, List.setIfInBounds_toArray, List.set_cons_zero, List.set_cons_succ]
  refine up_take (by exact (atS (atS (atS at0)))) (by kernel_rfl) (by exact fun _ _ _ h => h) (by rfl) (by intro W hW; go_simp; try with_reducible rfl) ?_
  simp only [Act.put, List.setIfInBounds_toArray, List.set_cons_zero, List.set_cons_succ]
  refine up_take (by exact (atS (atS (atS (atS at0))))) (by kernel_rfl) (by exact fun _ _ _ h => h) (by rfl) (by intro W hW; go_simp; try with_reducible rfl) ?_
  simp only [Act.put, List.setIfInBounds_toArray, List.set_cons_zero, List.set_cons_succ]
  refine up_take (by exact (atS (atS (atS (atS (atS at0)))))) (by kernel_rfl) (by exact fun _ _ _ h => h) (by rfl) (by intro W hW; go_simp; first | (with_reducible rfl) | (rw [if_pos (by omega)])) ?_
  simp only [Act.put, List.setIfInBounds_toArray, List.set_cons_zero, List.set_cons_succ]
  refine up_take (by exact (atS (atS (atS (atS (atS (atS (atS (atS at0))))))))) (by kernel_rfl) (by exact fun _ _ _ h => h) (by rfl) (by intro W hW; go_simp; try with_reducible rfl) ?_
  simp only [Act.put, List.setIfInBounds_toArray, List.set_cons_zero, List.set_cons_succ]
  refine up_take (by exact (atS (atS (atS (atS (atS (atS (atS (atS (atS at0)))))))))) (by kernel_rfl) (by exact fun _ _ _ h => h) (by rfl) (by intro W hW; have q := conv_up hr0.out.rdp.drew hW not_nil; go_simp; try with_reducible rfl) ?_
  simp only [Act.put, List.setIfInBounds_toArray, List.set_cons_zero, List.set_cons_succ]
  refine up_one (by exact (atS (atS (atS (atS (atS (atS at0))))))) (by kernel_rfl) (fun K hK => ?_)
  go_simp
  refine (rseal_any _ (l.take n) B _ (by exact hupR) (by exact hB) (by exact Hln.out)).mono ?_
  rintro e w3 ⟨v3, rfl, own3, hb3⟩
  refine hK.out _ _ (Kept.below hb3) ?_
  clear hK K
  refine up_take (by exact (atS (atS (atS (atS (atS (atS (atS at0)))))))) (by kernel_rfl) (by exact fun _ _ _ h => h) (by rfl) (by intro W hW; have q := conv_up own3.rdp hW not_nil; go_simp; try with_reducible rfl) ?_
  simp only [Act.put, List.setIfInBounds_toArray, List.set_cons_zero, List.set_cons_succ]
  have hq : Own w3 w.heap.size 5 v3 (bvs (sealB (l.take n))) := own3
  have hb4 : Below w.heap.size w w3 := ⟨hb3.os, hb3.tape, hb3.output, hb3.size, hb3.block⟩
  have HQ := Lib.hid hq
  clear hb3 own3 hq
  by_cases hs : sealB (l.take n) = l
  · have hopen := Hopen.out
    rw [if_pos hs] at hopen
    have HO := Lib.hid hopen
    have hstr : str (sealB (l.take n)) = str l := by rw [hs]
    rw [hstr]
    clear hopen hs hstr
    refine up_take (by exact (atS (atS (atS (atS (atS (atS (atS (atS (atS (atS at0))))))))))) (by kernel_rfl) (by exact fun _ _ _ h => h) (by rfl) (by intro W hW; go_simp; try with_reducible rfl) ?_
    simp only [Act.put, List.setIfInBounds_toArray, List.set_cons_zero, List.set_cons_succ]
    refine up_take (by exact (atS (atS (atS (atS (atS (atS (atS (atS (atS (atS (atS at0)))))))))))) (by kernel_rfl) (by exact fun _ _ _ h => h) (by rfl) (by intro W hW; go_simp; try with_reducible rfl) ?_
    simp only [Act.put, List.setIfInBounds_toArray, List.set_cons_zero, List.set_cons_succ]
    refine up_done (by kernel_rfl) ?_
    go_wp2
    refine bodyPost_ret (v := .tuple #[.slice A n c, .bool true]) (by simp [results, Tryd.results14, go_sem]) rfl ?_
    rw [HO.out]
    exact ⟨_, rfl, (hupR.below (hb4.mono hB)).more hB, hb4⟩
  · have hopen := Hopen.out
    rw [if_neg hs] at hopen
    have HO := Lib.hid hopen
    have hne : ¬ str (sealB (l.take n)) = str l := fun h => hs (str_inj h)
    have hbq : (sealB (l.take n) == l) = false := by simpa using hs
    clear hopen hs
    refine up_take (by exact (atS (atS (atS (atS (atS (atS (atS (atS (atS (atS at0))))))))))) (by kernel_rfl) (by exact fun _ _ _ h => h) (by rfl) (by intro W hW; go_simp; try with_reducible rfl) ?_
    simp only [Act.put, List.setIfInBounds_toArray, List.set_cons_zero, List.set_cons_succ]
    refine up_take (by exact (atS (atS (atS (atS (atS (atS (atS (atS (atS (atS (atS at0)))))))))))) (by kernel_rfl) (by exact fun _ _ _ h => h) (by rfl) (by intro W hW; go_simp; try with_reducible rfl) ?_
    simp only [Act.put, List.setIfInBounds_toArray, List.set_cons_zero, List.set_cons_succ]
    refine up_done (by kernel_rfl) ?_
    go_wp2
    go_ret2
    rw [HO.out]
    exact ⟨rfl, hb4⟩

theorem ropen_any (v : Value) (l : List UInt8) (B : Nat) (w : World) (hr : Rd w B v l) (hB : B ≤ w.heap.size) (hl : l.length ≤ 70368744177664) :
    Calls Tryd.prog 14 #[v] w (ROpen w (openS l)) := by
  by_cases h4 : l.length < 4
  · have : openS l = none := by unfold openS; rw [if_pos h4]
    rw [this]
    exact ropen_short v l B w hr h4
  · exact ropen_long v l B w hr hB (by omega) hl
end Go.Proofs.YtjflfennmeackaaDoor
