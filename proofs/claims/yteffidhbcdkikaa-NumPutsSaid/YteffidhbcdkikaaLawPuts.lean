/-
  The law NumPuts: it answers true at every number and every slice of bytes, and changes nothing that was there. No condition.
-/
import Derived.Test.YteffidhbcdkikaaLives1
import Derived.Test.YteffidhbcdkikaaRefRdr
import Derived.Test.YteffidhbcdkikaaRegion
namespace Go.Proofs.Yteffidhbcdkikaa
open Go.RowKit

set_option maxHeartbeats 1600000 in
set_option maxRecDepth 100000 in
theorem numPuts_any (n : Int) (v : Value) (l : List UInt8) (B : Nat) (w : World) (hr : Rd w B v l) (hB : B ≤ w.heap.size) :
    Calls Try.prog 3 #[.int .i64 n, v] w (Holds w) := by
  have hr0 := Lib.hid hr
  obtain ⟨A, c, rfl, hlc, hcm, hA⟩ := hr
  by_cases hlen : 1000 < (l.length : Int)
  · clear hlc hcm hA
    go_enter Try.func3, Try.ntmps3
    go_wp2_with (go_at_call 7; go_must (refine (lives_any _).mono ?_); rintro e w1 ⟨rfl, hb1⟩)
    go_ret
    exact ⟨rfl, hb1⟩
  · by_cases hmay : n < -9007199254740991 ∨ 9007199254740991 < n
    · have Hmay := Lib.hid hmay
      clear hlc hcm hA hmay
      go_enter Try.func3, Try.ntmps3
      go_wp2_with fail
      refine (put_none _ _ Hmay.out).mono ?_
      rintro e w1 ⟨rfl, rfl⟩
      go_wp2_with fail
      refine (lives_any _).mono ?_
      rintro e w1 ⟨rfl, hb1⟩
      go_wp2_with fail
      refine (rmay_no _ _ Hmay.out).mono ?_
      rintro e w2 ⟨rfl, rfl⟩
      go_wp2_with fail
      go_ret
      exact ⟨rfl, hb1⟩
    · have h1 : -9007199254740991 ≤ n := by omega
      have h2 : n ≤ 9007199254740991 := by omega
      have hlI : (l.length : Int) ≤ 1000 := by omega
      have hnl := (numB_len n).2
      have Hnl := Lib.hid hnl
      have Hvg : Hid (getV (vget (numB n ++ l)) = .tuple #[.int .i64 n, .int .i64 ((numB n).length : Int), .int .i64 0]) := by
        rw [vget_num n l h1 h2]
        show getV _ = _
        simp only [getV, unfold_fold]
      clear hlc hcm hA hmay hnl
      go_enter Try.func3, Try.ntmps3
      go_wp2_with fail
      refine (put_any _ _ h1 h2).mono ?_
      rintro e w1 ⟨v1, rfl, own1, hb1⟩
      have r1 := own1.rd (Nat.le_refl _)
      go_wp2_with fail
      refine (lives_any _).mono ?_
      rintro e w2 ⟨rfl, hb2⟩
      go_wp2_with fail
      refine (rmay_yes _ _ h1 h2).mono ?_
      rintro e w3 ⟨rfl, rfl⟩
      have r2 := r1.below hb2
      have s01 := hb1.size
      have s12 := hb2.size
      have hB2 : Below B w w2 := (hb1.mono hB).trans (hb2.mono (by omega))
      have rl2 := Lib.hid (hr0.out.below hB2)
      clear own1
      have tok : True := trivial
      go_wp2_with (first
        | (at_builtin; clear tok; go_must (refine wpList_append_src _ rfl (.tmp 32) (.tmp 33) _ rfl w2.heap.size 5 _ 1 Try.underlying22 Try.u8info rfl _ [] rfl (by exact own_lit [] _ rfl (by simp)) _ (bvs (numB n)) rfl (by exact (r2.below ((Below.refl _ _).alloc (by omega) _)).src) (bvs_one _) (by rw [bvs_length]; have := Hnl.out; unfold maxLen; simp; omega) (by rw [bvs_length]; have := Hnl.out; simp; omega) (by simp) ?_); intro v4 w4 own4 hg4 hb4 _; rw [List.nil_append] at own4; have b24 : Below w2.heap.size w2 w4 := ((Below.refl _ _).alloc (Nat.le_refl _) _).trans hb4)
        | (at_builtin; go_must (refine wpList_append_src _ rfl (.tmp 34) (.tmp 35) _ rfl w2.heap.size 5 _ 1 Try.underlying22 Try.u8info rfl _ _ rfl (by exact own4) _ (bvs l) rfl (by exact (rl2.out.below (b24.mono (by omega))).src) (bvs_one _) (by rw [bvs_length, bvs_length]; have := Hnl.out; unfold maxLen; omega) (by rw [bvs_length, bvs_length]; have := Hnl.out; omega) b24.size ?_); intro v5 w5 own5 hg5 hb5 _; rw [← bvs_append] at own5))
      have b25 := b24.trans hb5
      have r5 := own5.rd (Nat.le_refl _)
      refine (get_any _ _ _ _ r5).mono ?_
      rw [Hvg.out]
      rintro e w6 ⟨rfl, rfl⟩
      have r15 := r2.below (b25.mono s12)
      clear own4 own5 hg4 hg5 hb4 hb5 r5
      have r15' := Lib.hid r15
      obtain ⟨A1, c1, rfl, _, _, _⟩ := r15
      go_wp2_with fail
      have r15d := r15'.out.drew
      have s5 : w1.heap.size ≤ w5.drew.heap.size := by have := b25.size; simp; omega
      have r15d := r15'.out.drew.rdp
      have s5 : w1.heap.size ≤ w5.drew.heap.size := by have := b25.size; simp; omega
      refine up_start Nil (by kernel_rfl) ?_
      refine up_take (by exact at0) (by kernel_rfl) (by exact fun _ _ _ h => h) (by rfl) (by intro W hW; go_simp; try with_reducible rfl) ?_
      simp only [Act.put, List.setIfInBounds_toArray, List.set_cons_zero, List.set_cons_succ]
      refine up_take (by exact (atS at0)) (by kernel_rfl) (by exact fun _ _ _ h => h) (by rfl) (by intro W hW; go_simp; try with_reducible rfl) ?_
      simp only [Act.put, List.setIfInBounds_toArray, List.set_cons_zero, List.set_cons_succ]
      refine up_take (by exact (atS (atS at0))) (by kernel_rfl) (by exact fun _ _ _ h => h) (by rfl) (by intro W hW; go_simp; try with_reducible rfl) ?_
      simp only [Act.put, List.setIfInBounds_toArray, List.set_cons_zero, List.set_cons_succ]
      refine up_take (by exact (atS (atS (atS at0)))) (by kernel_rfl) (by exact fun _ _ _ h => h) (by rfl) (by intro W hW; go_simp; try with_reducible rfl) ?_
      simp only [Act.put, List.setIfInBounds_toArray, List.set_cons_zero, List.set_cons_succ]
      refine up_take (by exact (atS (atS (atS (atS at0))))) (by kernel_rfl) (by exact fun _ _ _ h => h) (by rfl) (by intro W hW; have q := conv_up r15d hW not_nil; go_simp; try with_reducible rfl) ?_
      simp only [Act.put, List.setIfInBounds_toArray, List.set_cons_zero, List.set_cons_succ]
      refine up_take (by exact (atS (atS (atS (atS (atS at0)))))) (by kernel_rfl) (by exact fun _ _ _ h => h) (by rfl) (by intro W hW; go_simp; try with_reducible rfl) ?_
      simp only [Act.put, List.setIfInBounds_toArray, List.set_cons_zero, List.set_cons_succ]
      refine up_one (by exact (atS (atS (atS (atS (atS (atS at0))))))) (by kernel_rfl) (fun K hK => ?_)
      go_simp
      refine (rput_any n _ h1 h2).mono ?_
      rintro e w9 ⟨v9, rfl, own9, hb9⟩
      have r9 := own9.rdp
      refine hK.out _ _ (Kept.below hb9) ?_
      clear hK K
      refine up_take (by exact (atS (atS (atS (atS (atS (atS (atS at0)))))))) (by kernel_rfl) (by exact fun _ _ _ h => h) (by rfl) (by intro W hW; have q := conv_up r9 hW not_nil; go_simp; try with_reducible rfl) ?_
      simp only [Act.put, List.setIfInBounds_toArray, List.set_cons_zero, List.set_cons_succ]
      refine up_take (by exact (atS (atS (atS (atS (atS (atS (atS (atS at0))))))))) (by kernel_rfl) (by exact fun _ _ _ h => h) (by rfl) (by intro W hW; go_simp; try with_reducible rfl) ?_
      simp only [Act.put, List.setIfInBounds_toArray, List.set_cons_zero, List.set_cons_succ]
      refine up_take (by exact (atS (atS (atS (atS (atS (atS (atS (atS (atS at0)))))))))) (by kernel_rfl) (by exact fun _ _ _ h => h) (by rfl) (by intro W hW; go_simp; try with_reducible rfl) ?_
      simp only [Act.put, List.setIfInBounds_toArray, List.set_cons_zero, List.set_cons_succ]
      refine up_take (by exact (atS (atS (atS (atS (atS (atS (atS (atS (atS (atS at0))))))))))) (by kernel_rfl) (by exact fun _ _ _ h => h) (by rfl) (by intro W hW; go_simp; try with_reducible rfl) ?_
      simp only [Act.put, List.setIfInBounds_toArray, List.set_cons_zero, List.set_cons_succ]
      refine up_take (by exact (atS (atS (atS (atS (atS (atS (atS (atS (atS (atS (atS at0)))))))))))) (by kernel_rfl) (by exact fun _ _ _ h => h) (by rfl) (by intro W hW; go_simp; try with_reducible rfl) ?_
      simp only [Act.put, List.setIfInBounds_toArray, List.set_cons_zero, List.set_cons_succ]
      refine up_take (by exact (atS (atS (atS (atS (atS (atS (atS (atS (atS (atS (atS (atS at0))))))))))))) (by kernel_rfl) (by exact fun _ _ _ h => h) (by rfl) (by intro W hW; go_simp; try with_reducible rfl) ?_
      simp only [Act.put, List.setIfInBounds_toArray, List.set_cons_zero, List.set_cons_succ]
      refine up_take (by exact (atS (atS (atS (atS (atS (atS (atS (atS (atS (atS (atS (atS (atS at0)))))))))))))) (by kernel_rfl) (by exact fun _ _ _ h => h) (by rfl) (by intro W hW; go_simp; try with_reducible rfl) ?_
      simp only [Act.put, List.setIfInBounds_toArray, List.set_cons_zero, List.set_cons_succ]
      refine up_take (by exact (atS (atS (atS (atS (atS (atS (atS (atS (atS (atS (atS (atS (atS (atS at0))))))))))))))) (by kernel_rfl) (by exact fun _ _ _ h => h) (by rfl) (by intro W hW; go_simp; try with_reducible rfl) ?_
      simp only [Act.put, List.setIfInBounds_toArray, List.set_cons_zero, List.set_cons_succ]
      refine up_take (by exact (atS (atS (atS (atS (atS (atS (atS (atS (atS (atS (atS (atS (atS (atS (atS at0)))))))))))))))) (by kernel_rfl) (by exact fun _ _ _ h => h) (by rfl) (by intro W hW; go_simp; try with_reducible rfl) ?_
      simp only [Act.put, List.setIfInBounds_toArray, List.set_cons_zero, List.set_cons_succ]
      refine up_take (by exact (atS (atS (atS (atS (atS (atS (atS (atS (atS (atS (atS (atS (atS (atS (atS (atS at0))))))))))))))))) (by kernel_rfl) (by exact fun _ _ _ h => h) (by rfl) (by intro W hW; go_simp; try with_reducible rfl) ?_
      simp only [Act.put, List.setIfInBounds_toArray, List.set_cons_zero, List.set_cons_succ]
      refine up_take (by exact (atS (atS (atS (atS (atS (atS (atS (atS (atS (atS (atS (atS (atS (atS (atS (atS (atS at0)))))))))))))))))) (by kernel_rfl) (by exact fun _ _ _ h => h) (by rfl) (by intro W hW; go_simp; try with_reducible rfl) ?_
      simp only [Act.put, List.setIfInBounds_toArray, List.set_cons_zero, List.set_cons_succ]
      refine up_take (by exact (atS (atS (atS (atS (atS (atS (atS (atS (atS (atS (atS (atS (atS (atS (atS (atS (atS (atS at0))))))))))))))))))) (by kernel_rfl) (by exact fun _ _ _ h => h) (by rfl) (by intro W hW; go_simp; try with_reducible rfl) ?_
      simp only [Act.put, List.setIfInBounds_toArray, List.set_cons_zero, List.set_cons_succ]
      refine up_take (by exact (atS (atS (atS (atS (atS (atS (atS (atS (atS (atS (atS (atS (atS (atS (atS (atS (atS (atS (atS at0)))))))))))))))))))) (by kernel_rfl) (by exact fun _ _ _ h => h) (by rfl) (by intro W hW; go_simp; try with_reducible rfl) ?_
      simp only [Act.put, List.setIfInBounds_toArray, List.set_cons_zero, List.set_cons_succ]
      refine up_take (by exact (atS (atS (atS (atS (atS (atS (atS (atS (atS (atS (atS (atS (atS (atS (atS (atS (atS (atS (atS (atS at0))))))))))))))))))))) (by kernel_rfl) (by exact fun _ _ _ h => h) (by rfl) (by intro W hW; go_simp; try with_reducible rfl) ?_
      simp only [Act.put, List.setIfInBounds_toArray, List.set_cons_zero, List.set_cons_succ]
      refine up_take (by exact (atS (atS (atS (atS (atS (atS (atS (atS (atS (atS (atS (atS (atS (atS (atS (atS (atS (atS (atS (atS (atS at0)))))))))))))))))))))) (by kernel_rfl) (by exact fun _ _ _ h => h) (by rfl) (by intro W hW; go_simp; try with_reducible rfl) ?_
      simp only [Act.put, List.setIfInBounds_toArray, List.set_cons_zero, List.set_cons_succ]
      refine up_take (by exact (atS (atS (atS (atS (atS (atS (atS (atS (atS (atS (atS (atS (atS (atS (atS (atS (atS (atS (atS (atS (atS (atS at0))))))))))))))))))))))) (by kernel_rfl) (by exact fun _ _ _ h => h) (by rfl) (by intro W hW; go_simp; try with_reducible rfl) ?_
      simp only [Act.put, List.setIfInBounds_toArray, List.set_cons_zero, List.set_cons_succ]
      refine up_take (by exact (atS (atS (atS (atS (atS (atS (atS (atS (atS (atS (atS (atS (atS (atS (atS (atS (atS (atS (atS (atS (atS (atS (atS at0)))))))))))))))))))))))) (by kernel_rfl) (by exact fun _ _ _ h => h) (by rfl) (by intro W hW; go_simp; try with_reducible rfl) ?_
      simp only [Act.put, List.setIfInBounds_toArray, List.set_cons_zero, List.set_cons_succ]
      refine up_take (by exact (atS (atS (atS (atS (atS (atS (atS (atS (atS (atS (atS (atS (atS (atS (atS (atS (atS (atS (atS (atS (atS (atS (atS (atS at0))))))))))))))))))))))))) (by kernel_rfl) (by exact fun _ _ _ h => h) (by rfl) (by intro W hW; go_simp; try with_reducible rfl) ?_
      simp only [Act.put, List.setIfInBounds_toArray, List.set_cons_zero, List.set_cons_succ]
      refine up_take (by exact (atS (atS (atS (atS (atS (atS (atS (atS (atS (atS (atS (atS (atS (atS (atS (atS (atS (atS (atS (atS (atS (atS (atS (atS (atS at0)))))))))))))))))))))))))) (by kernel_rfl) (by exact fun _ _ _ h => h) (by rfl) (by intro W hW; go_simp; try with_reducible rfl) ?_
      simp only [Act.put, List.setIfInBounds_toArray, List.set_cons_zero, List.set_cons_succ]
      refine up_done (by kernel_rfl) ?_
      have hall : Below w.heap.size w w9 := (((hb1.trans (hb2.mono s01)).trans (b25.mono (by omega))).drew).trans (hb9.mono (by omega))
      go_wp2
      go_ret
      exact ⟨by simp, hall⟩
end Go.Proofs.Yteffidhbcdkikaa
