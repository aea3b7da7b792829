/-
  The law NumGets: it answers true at every slice of bytes, and changes nothing that was there. No condition.
-/
import Derived.Test.YteffidhbcdkikaaLives1
import Derived.Test.YteffidhbcdkikaaRefRdr
import Derived.Test.YteffidhbcdkikaaRegion
namespace Go.Proofs.Yteffidhbcdkikaa
open Go.RowKit

theorem below_drewN {B : Nat} {a w : World} (h : Below B a w) (n : Nat) : Below B a (w.drewN n) := ⟨h.os, h.tape, h.output, h.size, h.block⟩

theorem vget_none_case (l : List UInt8) : vget l = none ∨ ∃ y n, vget l = some (y, n) := by
  cases h : vget l with
  | none => exact .inl rfl
  | some p => exact .inr ⟨p.1, p.2, rfl⟩

set_option maxHeartbeats 1600000 in
set_option maxRecDepth 100000 in
theorem numGets_any (v : Value) (l : List UInt8) (B : Nat) (w : World) (hr : Rd w B v l) (hB : B ≤ w.heap.size) :
    Calls Try.prog 4 #[v] w (Holds w) := by
  have hr0 := Lib.hid hr
  obtain ⟨A, c, rfl, hlc, hcm, hA⟩ := hr
  unfold maxLen at hcm
  have hcm' : (c : Int) ≤ 9223372036854775807 := by omega
  clear hcm hA
  by_cases hlen : 1000 < (l.length : Int)
  · go_enter Try.func4, Try.ntmps4
    go_wp2_with (go_at_call 7; go_must (refine (lives_any _).mono ?_); rintro e w1 ⟨rfl, hb1⟩)
    go_ret
    exact ⟨rfl, hb1⟩
  · rcases vget_none_case l with hv | ⟨y, n, hv⟩
    · have Hv := Lib.hid hv
      clear hv
      go_enter Try.func4, Try.ntmps4
      go_wp2_with fail
      refine (get_any _ l _ _ hr0.out).mono ?_
      rw [Hv.out]
      rintro e w1 ⟨rfl, rfl⟩
      simp only [getV]
      go_wp2_with fail
      refine (rget_any _ l _ _ hr0.out).mono ?_
      rw [Hv.out]
      rintro e w1 ⟨rfl, rfl⟩
      simp only [rgetV]
      go_wp2_with fail
      refine (lives_any _).mono ?_
      rintro e w1 ⟨rfl, hb1⟩
      go_wp2_with fail
      refine (put_any _ _ (by decide) (by decide)).mono ?_
      rintro e w2 ⟨v2, rfl, own2, hb2⟩
      have hall : Below w.heap.size w w2 := hb1.trans (hb2.mono hb1.size)
      go_wp2_with fail
      go_quiet (fail)
      go_wp2
      go_ret
      exact ⟨by simp, below_drewN hall _⟩
    · obtain ⟨hnum, hy, hn1, hn8, hnl, hlo, hhi⟩ := num_vget l y n hv
      have Hv := Lib.hid hv
      have Hnum := Lib.hid hnum
      clear hv hnum
      go_enter Try.func4, Try.ntmps4
      go_wp2_with fail
      refine (get_any _ l _ _ hr0.out).mono ?_
      rw [Hv.out]
      rintro e w1 ⟨rfl, rfl⟩
      simp only [getV]
      go_wp2_with fail
      refine (rget_any _ l _ _ hr0.out).mono ?_
      rw [Hv.out]
      rintro e w1 ⟨rfl, rfl⟩
      simp only [rgetV]
      go_wp2_with fail
      refine (lives_any _).mono ?_
      rintro e w1 ⟨rfl, hb1⟩
      go_wp2_with fail
      refine (put_any _ _ hlo hhi).mono ?_
      rintro e w2 ⟨v2, rfl, own2, hb2⟩
      have hall : Below w.heap.size w w2 := hb1.trans (hb2.mono hb1.size)
      rw [Hnum.out] at own2
      have q2 := own2.rdp.drew
      have r3 : Rdp w2.drew (· < B) (.slice A n c) (l.take n) := ((hr0.out.upto n hnl).below (hall.mono hB)).rdp.drew
      have hnc : n ≤ c := by omega
      clear own2
      go_wp2_with fail
      refine up_start Nil (by kernel_rfl) ?_
      refine up_take (by exact at0) (by kernel_rfl) (by exact fun _ _ _ h => h) (by rfl) (by intro W hW; go_simp; try with_reducible rfl) ?_
      simp only [Act.put, List.setIfInBounds_toArray, List.set_cons_zero, List.set_cons_succ]
      refine up_take (by exact (atS at0)) (by kernel_rfl) (by exact fun _ _ _ h => h) (by rfl) (by intro W hW; go_simp; try with_reducible rfl) ?_
      simp only [Act.put, List.setIfInBounds_toArray, List.set_cons_zero, List.set_cons_succ]
      refine up_take (by exact (atS (atS at0))) (by kernel_rfl) (by exact fun _ _ _ h => h) (by rfl) (by intro W hW; go_simp; try with_reducible rfl) ?_
      simp only [Act.put, List.setIfInBounds_toArray, List.set_cons_zero, List.set_cons_succ]
      refine up_take (by exact (atS (atS (atS at0)))) (by kernel_rfl) (by exact fun _ _ _ h => h) (by rfl) (by intro W hW; go_simp; try with_reducible rfl) ?_
      simp only [Act.put, List.setIfInBounds_toArray, List.set_cons_zero, List.set_cons_succ]
      refine up_take (by exact (atS (atS (atS (atS at0))))) (by kernel_rfl) (by exact fun _ _ _ h => h) (by rfl) (by intro W hW; go_simp; try with_reducible rfl) ?_
      simp only [Act.put, List.setIfInBounds_toArray, List.set_cons_zero, List.set_cons_succ]
      refine up_take (by exact (atS (atS (atS (atS (atS at0)))))) (by kernel_rfl) (by exact fun _ _ _ h => h) (by rfl) (by intro W hW; go_simp; try with_reducible rfl) ?_
      simp only [Act.put, List.setIfInBounds_toArray, List.set_cons_zero, List.set_cons_succ]
      refine up_take (by exact (atS (atS (atS (atS (atS (atS at0))))))) (by kernel_rfl) (by exact fun _ _ _ h => h) (by rfl) (by intro W hW; go_simp; try with_reducible rfl) ?_
      simp only [Act.put, List.setIfInBounds_toArray, List.set_cons_zero, List.set_cons_succ]
      refine up_take (by exact (atS (atS (atS (atS (atS (atS (atS at0)))))))) (by kernel_rfl) (by exact fun _ _ _ h => h) (by rfl) (by intro W hW; have q := conv_up q2 hW not_nil; go_simp; try with_reducible rfl) ?_
      simp only [Act.put, List.setIfInBounds_toArray, List.set_cons_zero, List.set_cons_succ]
      refine up_take (by exact (atS (atS (atS (atS (atS (atS (atS (atS at0))))))))) (by kernel_rfl) (by exact fun _ _ _ h => h) (by rfl) (by intro W hW; go_simp; try with_reducible rfl) ?_
      simp only [Act.put, List.setIfInBounds_toArray, List.set_cons_zero, List.set_cons_succ]
      refine up_take (by exact (atS (atS (atS (atS (atS (atS (atS (atS (atS at0)))))))))) (by kernel_rfl) (by exact fun _ _ _ h => h) (by rfl) (by intro W hW; go_simp; try with_reducible rfl) ?_
      simp only [Act.put, List.setIfInBounds_toArray, List.set_cons_zero, List.set_cons_succ]
      refine up_take (by exact (atS (atS (atS (atS (atS (atS (atS (atS (atS (atS at0))))))))))) (by kernel_rfl) (by exact fun _ _ _ h => h) (by rfl) (by intro W hW; go_simp; try with_reducible rfl) ?_
      simp only [Act.put, List.setIfInBounds_toArray, List.set_cons_zero, List.set_cons_succ]
      refine up_take (by exact (atS (atS (atS (atS (atS (atS (atS (atS (atS (atS (atS at0)))))))))))) (by kernel_rfl) (by exact fun _ _ _ h => h) (by rfl) (by intro W hW; have q := conv_up r3 hW not_nil; go_simp; try with_reducible rfl) ?_
      simp only [Act.put, List.setIfInBounds_toArray, List.set_cons_zero, List.set_cons_succ]
      refine up_take (by exact (atS (atS (atS (atS (atS (atS (atS (atS (atS (atS (atS (atS at0))))))))))))) (by kernel_rfl) (by exact fun _ _ _ h => h) (by rfl) (by intro W hW; go_simp; try with_reducible rfl) ?_
      simp only [Act.put, List.setIfInBounds_toArray, List.set_cons_zero, List.set_cons_succ]
      refine up_take (by exact (atS (atS (atS (atS (atS (atS (atS (atS (atS (atS (atS (atS (atS at0)))))))))))))) (by kernel_rfl) (by exact fun _ _ _ h => h) (by rfl) (by intro W hW; go_simp; try with_reducible rfl) ?_
      simp only [Act.put, List.setIfInBounds_toArray, List.set_cons_zero, List.set_cons_succ]
      refine up_take (by exact (atS (atS (atS (atS (atS (atS (atS (atS (atS (atS (atS (atS (atS (atS at0))))))))))))))) (by kernel_rfl) (by exact fun _ _ _ h => h) (by rfl) (by intro W hW; go_simp; try with_reducible rfl) ?_
      simp only [Act.put, List.setIfInBounds_toArray, List.set_cons_zero, List.set_cons_succ]
      refine up_take (by exact (atS (atS (atS (atS (atS (atS (atS (atS (atS (atS (atS (atS (atS (atS (atS at0)))))))))))))))) (by kernel_rfl) (by exact fun _ _ _ h => h) (by rfl) (by intro W hW; go_simp; try with_reducible rfl) ?_
      simp only [Act.put, List.setIfInBounds_toArray, List.set_cons_zero, List.set_cons_succ]
      refine up_done (by kernel_rfl) ?_
      go_wp2
      go_ret
      exact ⟨by simp, hall.drew⟩
end Go.Proofs.Yteffidhbcdkikaa
