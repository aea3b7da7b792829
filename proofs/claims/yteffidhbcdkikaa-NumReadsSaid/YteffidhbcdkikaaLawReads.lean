/-
  The law NumReads: it answers true at every slice of bytes and every list of what is read, and changes nothing that was there. No condition.
-/
import Derived.Test.YteffidhbcdkikaaLives1
import Derived.Test.YteffidhbcdkikaaRefRdr
import Derived.Test.YteffidhbcdkikaaInts
namespace Go.Proofs.Yteffidhbcdkikaa
open Go.RowKit

def ReadsRel (w : World) (ls : List Int) (g g' : Nat) (u7 : Value) (wr : World) : Prop :=
  ∃ (k : Nat) (s : Option (List UInt8)), u7 = .int .i64 (k : Int) ∧ k ≤ ls.length ∧ Rdr 56 wr g s ∧ Rdr 47 wr g' s ∧ Below w.heap.size w wr

/-- What one round leaves: both readers at one state again. -/
theorem reads_step {w wr w1 : World} {g g' : Nat} {s s' : Option (List UInt8)} (hgg : g < g') (hg : w.heap.size ≤ g) (hb : Below w.heap.size w wr) (h2 : Rdr 47 wr g' s)
    (h1' : Rdr 56 w1 g s') (hg1 : wr.grownBy w1 (some g)) (h1 : Rdr 56 wr g s) : Rdr 47 w1 g' s ∧ (∀ w2, w1.grownBy w2 (some g') → Rdr 56 w2 g s' ∧ Below w.heap.size w w2) := by
  have hs1 : wr.heap.size ≤ w1.heap.size := hg1.size
  have h0 := hb.size
  refine ⟨h2.apart h1 hg1 (by omega), fun w2 hg2 => ⟨h1'.other hg2 hgg, ?_⟩⟩
  exact (hb.grown hg1 (by omega) (fun k hk => by injection hk; omega)).grown hg2 (by omega) (fun k hk => by injection hk; omega)

set_option maxHeartbeats 6400000 in
set_option maxRecDepth 100000 in
theorem numReads_any (v : Value) (l : List UInt8) (vl : Value) (ls : List Int) (w : World) (hr : Rd w w.heap.size v l) (hi : RdI w w.heap.size vl ls) :
    Calls Try.prog 6 #[v, vl] w (Holds w) := by
  have hr0 := Lib.hid hr
  have hi0 := Lib.hid hi
  obtain ⟨A, c, rfl, hlc, hcm, hA⟩ := hr
  obtain ⟨Al, cl, rfl, hllc, hlcm, hAl⟩ := hi
  unfold maxLen at hcm hlcm
  have hlm : (l.length : Int) ≤ 9223372036854775807 := by omega
  have hlsm : (ls.length : Int) ≤ 9223372036854775807 := by omega
  clear hlc hcm hA hllc hlcm hAl
  by_cases hbig : 2000 < (l.length : Int) ∨ 200 < (ls.length : Int)
  · rcases hbig with hbig | hbig
    · go_enter Try.func6, Try.ntmps6
      go_wp2_with (go_at_call 7; go_must (refine (lives_any _).mono ?_); rintro e w1 ⟨rfl, hb1⟩)
      go_ret
      exact ⟨rfl, hb1⟩
    · by_cases hb2 : 2000 < (l.length : Int)
      · go_enter Try.func6, Try.ntmps6
        go_wp2_with (go_at_call 7; go_must (refine (lives_any _).mono ?_); rintro e w1 ⟨rfl, hb1⟩)
        go_ret
        exact ⟨rfl, hb1⟩
      · go_enter Try.func6, Try.ntmps6
        go_wp2_with (go_at_call 7; go_must (refine (lives_any _).mono ?_); rintro e w1 ⟨rfl, hb1⟩)
        go_ret
        exact ⟨rfl, hb1⟩
  · have hl2 : (l.length : Int) ≤ 2000 := by omega
    have hls2 : (ls.length : Int) ≤ 200 := by omega
    clear hbig
    go_enter Try.func6, Try.ntmps6
    go_wp2_with (at_builtin; go_must (refine wpList_append_src _ rfl (.tmp 19) (.tmp 20) _ rfl w.heap.size 5 _ 1 Try.underlying22 Try.u8info rfl _ [] rfl (by exact own_lit [] _ rfl (by simp)) _ (bvs l) rfl (by exact (hr0.out.below ((Below.refl _ _).alloc (Nat.le_refl _) _)).src) (bvs_one _) (by rw [bvs_length]; unfold maxLen; simp; omega) (by rw [bvs_length]; simp; omega) (by simp) ?_); intro v1 w1 own1 hg1 hb1 _; rw [List.nil_append] at own1; have b1 : Below w.heap.size w w1 := ((Below.refl _ _).alloc (Nat.le_refl _) _).trans hb1)
    refine (from_any _ _ w1.heap.size _ (own1.rd (Nat.le_refl _)) (Nat.le_refl _) (by omega)).mono ?_
    rintro e w2 ⟨g, rfl, hg, hrd, hb2⟩
    have b2 : Below w.heap.size w w2 := b1.trans (hb2.mono b1.size)
    have s1 := b1.size
    have s2 := b2.size
    have hg2 := hrd.lt
    clear own1 hg1 hb1 hb2
    go_wp2_with (at_builtin; go_must (refine wpList_append_src _ rfl (.tmp 23) (.tmp 24) _ rfl w2.heap.size 5 _ 1 Try.underlying22 Try.u8info rfl _ [] rfl (by exact own_lit [] _ rfl (by simp)) _ (bvs l) rfl (by exact ((hr0.out.below b2).below ((Below.refl _ _).alloc s2 _)).src) (bvs_one _) (by rw [bvs_length]; unfold maxLen; simp; omega) (by rw [bvs_length]; simp; omega) (by simp) ?_); intro v3 w3 own3 hg3 hb3 _; rw [List.nil_append] at own3; have b3 : Below w2.heap.size w2 w3 := ((Below.refl _ _).alloc (Nat.le_refl _) _).trans hb3; obtain ⟨A3, c3, rfl, _, _, _⟩ := own3.rd (Nat.le_refl _))
    have s3 := b3.size
    have hx : Rdr 47 (w3.alloc (.cells #[.slice A3 l.length c3, .bool false] 47)) w3.heap.size (some l) :=
      ⟨_, false, l, Blk.fresh _ _ _, (own3.rd (Nat.le_refl _)).below ((Below.refl _ _).alloc (Nat.le_refl _) _), rfl⟩
    have b4 : Below w2.heap.size w2 (w3.alloc (.cells #[.slice A3 l.length c3, .bool false] 47)) := b3.alloc s3 _
    have hrd4 := hrd.below b4 hg2
    have hs4 : w3.heap.size < (w3.alloc (.cells #[.slice A3 l.length c3, .bool false] 47)).heap.size := by simp
    refine (lives_any _).mono ?_
    rintro e w5 ⟨rfl, hb5⟩
    have hx5 := hx.below hb5 hs4
    have hrd5 := hrd4.below hb5 (by omega)
    have hgg : g < w3.heap.size := by omega
    generalize w3.heap.size = g' at hx5 hgg
    have b5 : Below w.heap.size w w5 := (b2.trans (b4.mono s2)).trans (hb5.mono (by simp; omega))
    have hgw : w.heap.size ≤ g := by omega
    clear own3 hg3 hb3 hx hrd hrd4 b4 b3 hb5 hs4 s3 hg2 hg
    go_wp2_with fail
    go_loopw [7] (ReadsRel w ls g g') (fun i _ => ls.length - (intOf i).toNat)
    case atStart => exact ⟨0, some l, rfl, by omega, hrd5, hx5, b5⟩
    case round =>
      obtain ⟨k, s, rfl, hk, h1, h2, hb⟩ := hrel
      by_cases hlt : k < ls.length
      · have hi1 := (hi0.out.below hb)
        obtain ⟨A', c', e', _, _, hcl⟩ := hi1
        injection e' with e1 e2 e3
        subst e1 e3
        clear e2
        obtain ⟨bb, oo, rfl, _, hcells⟩ := hcl (by omega)
        have hcell := hcells k hlt
        generalize ls[k] = z at hcell
        clear hcells hcl
        by_cases hz1 : z = 1
        · have z1 : (z == (1 : Int)) = true := by rw [hz1]; rfl
          clear hz1
          go_wp2_with fail
          refine (num_any g s _ h1).mono ?_
          rintro e w1 ⟨rfl, h1', hg1⟩
          obtain ⟨h2', hst⟩ := reads_step hgg hgw hb h2 h1' hg1 h1
          go_wp2_with fail
          refine (fnum g' s _ h2').mono ?_
          rintro e w2 ⟨rfl, h3, hg2⟩
          obtain ⟨h1'', hb2⟩ := hst w2 hg2
          generalize hs2 : (numS s).2 = s2 at h1'' h3
          have Hs2 := Lib.hid hs2
          clear hs2
          obtain ⟨q1, bad1, l1, hblk1, hq1, hs1⟩ := id h1''
          obtain ⟨q2, bad2, l2, hblk2, hq2, hs22⟩ := id h3
          have hbb : bad1 = bad2 := by
            rw [hs1] at hs22
            cases bad1 <;> cases bad2 <;> simp at hs22 <;> rfl
          subst hbb
          have hcb : World.cell? w2.drew ⟨g', 1, none⟩ = some (.bool bad1) := by
            have := hblk2.cell 1
            exact this
          have h1d : Rdr 56 w2.drew g s2 := h1''
          have h2d : Rdr 47 w2.drew g' s2 := h3
          have hblk1d : Blk w2.drew g 56 #[q1, .bool bad1] := hblk1
          clear hs1 hs22
          go_wp2_with fail
          refine up_start Nil (by kernel_rfl) ?_
          refine up_take (by exact at0) (by kernel_rfl) (by exact fun _ _ _ h => h) (by rfl) (by intro W hW; go_simp; try with_reducible rfl) ?_
          simp only [Act.put, List.setIfInBounds_toArray, List.set_cons_zero, List.set_cons_succ]
          refine up_take (by exact (atS at0)) (by kernel_rfl) (by exact fun _ _ _ h => h) (by rfl) (by intro W hW; go_simp; try with_reducible rfl) ?_
          simp only [Act.put, List.setIfInBounds_toArray, List.set_cons_zero, List.set_cons_succ]
          refine up_take (by exact (atS (atS at0))) (by kernel_rfl) (by exact fun _ _ _ h => h) (by rfl) (by intro W hW; go_simp; try with_reducible rfl) ?_
          simp only [Act.put, List.setIfInBounds_toArray, List.set_cons_zero, List.set_cons_succ]
          refine up_take (by exact (atS (atS (atS at0)))) (by kernel_rfl) (by exact fun _ _ _ h => h) (by rfl) (by intro W hW; go_simp; try with_reducible rfl) ?_
          simp only [Act.put, List.setIfInBounds_toArray, List.set_cons_zero, List.set_cons_succ]
          refine up_take (by exact (atS (atS (atS (atS (atS at0)))))) (by kernel_rfl) (by exact fun _ _ _ h => h) (by rfl) (by intro W hW; go_simp; try with_reducible rfl) ?_
          simp only [Act.put, List.setIfInBounds_toArray, List.set_cons_zero, List.set_cons_succ]
          refine up_one (by exact (atS (atS (atS (atS at0))))) (by kernel_rfl) (fun K hK => ?_)
          go_simp
          refine (left_any g s2 _ h1d).mono ?_
          rintro e w9 ⟨rfl, rfl⟩
          refine hK.out _ _ (Kept.refl _ _) ?_
          clear hK K
          refine up_one (by exact (atS (atS (atS (atS (atS (atS at0))))))) (by kernel_rfl) (fun K hK => ?_)
          go_simp
          refine (fleft g' s2 _ h2d).mono ?_
          rintro e w9 ⟨rfl, rfl⟩
          refine hK.out _ _ (Kept.refl _ _) ?_
          clear hK K
          refine up_take (by exact (atS (atS (atS (atS (atS (atS (atS at0)))))))) (by kernel_rfl) (by exact fun _ _ _ h => h) (by rfl) (by intro W hW; go_simp; try with_reducible rfl) ?_
          simp only [Act.put, List.setIfInBounds_toArray, List.set_cons_zero, List.set_cons_succ]
          refine up_take (by exact (atS (atS (atS (atS (atS (atS (atS (atS at0))))))))) (by kernel_rfl) (by exact fun _ _ _ h => h) (by rfl) (by intro W hW; go_simp; try with_reducible rfl) ?_
          simp only [Act.put, List.setIfInBounds_toArray, List.set_cons_zero, List.set_cons_succ]
          refine up_take (by exact (atS (atS (atS (atS (atS (atS (atS (atS (atS at0)))))))))) (by kernel_rfl) (by exact fun _ _ _ h => h) (by rfl) (by intro W hW; go_simp; try with_reducible rfl) ?_
          simp only [Act.put, List.setIfInBounds_toArray, List.set_cons_zero, List.set_cons_succ]
          refine up_take (by exact (atS (atS (atS (atS (atS (atS (atS (atS (atS (atS at0))))))))))) (by kernel_rfl) (by exact fun _ _ _ h => h) (by rfl) (by intro W hW; go_simp; try with_reducible rfl) ?_
          simp only [Act.put, List.setIfInBounds_toArray, List.set_cons_zero, List.set_cons_succ]
          refine up_take (by exact (atS (atS (atS (atS (atS (atS (atS (atS (atS (atS (atS (atS at0))))))))))))) (by kernel_rfl) (by exact fun _ _ _ h => h) (by rfl) (by intro W hW; go_simp; try with_reducible rfl) ?_
          simp only [Act.put, List.setIfInBounds_toArray, List.set_cons_zero, List.set_cons_succ]
          refine up_take (by exact (atS (atS (atS (atS (atS (atS (atS (atS (atS (atS (atS (atS (atS at0)))))))))))))) (by kernel_rfl) (by exact fun _ _ _ h => h) (by rfl) (by intro W hW; go_simp; try with_reducible rfl) ?_
          simp only [Act.put, List.setIfInBounds_toArray, List.set_cons_zero, List.set_cons_succ]
          refine up_take (by exact (atS (atS (atS (atS (atS (atS (atS (atS (atS (atS (atS (atS (atS (atS at0))))))))))))))) (by kernel_rfl) (by exact fun _ _ _ h => h) (by rfl) (by intro W hW; go_simp; try with_reducible rfl) ?_
          simp only [Act.put, List.setIfInBounds_toArray, List.set_cons_zero, List.set_cons_succ]
          refine up_take (by exact (atS (atS (atS (atS (atS (atS (atS (atS (atS (atS (atS (atS (atS (atS (atS at0)))))))))))))))) (by kernel_rfl) (by exact fun _ _ _ h => h) (by rfl) (by intro W hW; have q := cell_up hcb hW id; go_simp; try with_reducible rfl) ?_
          simp only [Act.put, List.setIfInBounds_toArray, List.set_cons_zero, List.set_cons_succ]
          refine up_one (by exact (atS (atS (atS (atS (atS (atS (atS (atS (atS (atS (atS at0)))))))))))) (by kernel_rfl) (fun K hK => ?_)
          go_simp
          refine (bad_any g q1 bad1 _ hblk1d).mono ?_
          rintro e w9 ⟨rfl, rfl⟩
          refine hK.out _ _ (Kept.refl _ _) ?_
          clear hK K
          refine up_take (by exact (atS (atS (atS (atS (atS (atS (atS (atS (atS (atS (atS (atS (atS (atS (atS (atS at0))))))))))))))))) (by kernel_rfl) (by exact fun _ _ _ h => h) (by rfl) (by intro W hW; go_simp; try with_reducible rfl) ?_
          simp only [Act.put, List.setIfInBounds_toArray, List.set_cons_zero, List.set_cons_succ]
          refine up_take (by exact (atS (atS (atS (atS (atS (atS (atS (atS (atS (atS (atS (atS (atS (atS (atS (atS (atS at0)))))))))))))))))) (by kernel_rfl) (by exact fun _ _ _ h => h) (by rfl) (by intro W hW; go_simp; try with_reducible rfl) ?_
          simp only [Act.put, List.setIfInBounds_toArray, List.set_cons_zero, List.set_cons_succ]
          refine up_done (by kernel_rfl) ?_
          go_wp2_with fail
          all_goals go_roundw
          case rel => exact ⟨k + 1, s2, by go_num, by omega, h1d, h2d, hb2.drew⟩
          case measure => simp [intOf]; omega
        · skip
          by_cases hz2 : z = 2
          · have z1 : (z == (1 : Int)) = false := by rw [beq_eq_false_iff_ne]; exact hz1
            have z2 : (z == (2 : Int)) = true := by rw [hz2]; rfl
            clear hz2
            go_wp2_with fail
            refine (rtext g s _ h1).mono ?_
            rintro e w1 ⟨rfl, h1', hg1⟩
            obtain ⟨h2', hst⟩ := reads_step hgg hgw hb h2 h1' hg1 h1
            go_wp2_with fail
            refine (ftext g' s _ h2').mono ?_
            rintro e w2 ⟨rfl, h3, hg2⟩
            obtain ⟨h1'', hb2⟩ := hst w2 hg2
            generalize hs2 : (textS s).2 = s2 at h1'' h3
            have Hs2 := Lib.hid hs2
            clear hs2
            obtain ⟨q1, bad1, l1, hblk1, hq1, hs1⟩ := id h1''
            obtain ⟨q2, bad2, l2, hblk2, hq2, hs22⟩ := id h3
            have hbb : bad1 = bad2 := by
              rw [hs1] at hs22
              cases bad1 <;> cases bad2 <;> simp at hs22 <;> rfl
            subst hbb
            have hcb : World.cell? w2.drew ⟨g', 1, none⟩ = some (.bool bad1) := by
              have := hblk2.cell 1
              exact this
            have h1d : Rdr 56 w2.drew g s2 := h1''
            have h2d : Rdr 47 w2.drew g' s2 := h3
            have hblk1d : Blk w2.drew g 56 #[q1, .bool bad1] := hblk1
            clear hs1 hs22
            go_wp2_with fail
            refine up_start Nil (by kernel_rfl) ?_
            refine up_take (by exact at0) (by kernel_rfl) (by exact fun _ _ _ h => h) (by rfl) (by intro W hW; go_simp; try with_reducible rfl) ?_
            simp only [Act.put, List.setIfInBounds_toArray, List.set_cons_zero, List.set_cons_succ]
            refine up_take (by exact (atS at0)) (by kernel_rfl) (by exact fun _ _ _ h => h) (by rfl) (by intro W hW; go_simp; try with_reducible rfl) ?_
            simp only [Act.put, List.setIfInBounds_toArray, List.set_cons_zero, List.set_cons_succ]
            refine up_take (by exact (atS (atS at0))) (by kernel_rfl) (by exact fun _ _ _ h => h) (by rfl) (by intro W hW; go_simp; try with_reducible rfl) ?_
            simp only [Act.put, List.setIfInBounds_toArray, List.set_cons_zero, List.set_cons_succ]
            refine up_take (by exact (atS (atS (atS at0)))) (by kernel_rfl) (by exact fun _ _ _ h => h) (by rfl) (by intro W hW; go_simp; try with_reducible rfl) ?_
            simp only [Act.put, List.setIfInBounds_toArray, List.set_cons_zero, List.set_cons_succ]
            refine up_take (by exact (atS (atS (atS (atS (atS at0)))))) (by kernel_rfl) (by exact fun _ _ _ h => h) (by rfl) (by intro W hW; go_simp; try with_reducible rfl) ?_
            simp only [Act.put, List.setIfInBounds_toArray, List.set_cons_zero, List.set_cons_succ]
            refine up_one (by exact (atS (atS (atS (atS at0))))) (by kernel_rfl) (fun K hK => ?_)
            go_simp
            refine (left_any g s2 _ h1d).mono ?_
            rintro e w9 ⟨rfl, rfl⟩
            refine hK.out _ _ (Kept.refl _ _) ?_
            clear hK K
            refine up_one (by exact (atS (atS (atS (atS (atS (atS at0))))))) (by kernel_rfl) (fun K hK => ?_)
            go_simp
            refine (fleft g' s2 _ h2d).mono ?_
            rintro e w9 ⟨rfl, rfl⟩
            refine hK.out _ _ (Kept.refl _ _) ?_
            clear hK K
            refine up_take (by exact (atS (atS (atS (atS (atS (atS (atS at0)))))))) (by kernel_rfl) (by exact fun _ _ _ h => h) (by rfl) (by intro W hW; go_simp; try with_reducible rfl) ?_
            simp only [Act.put, List.setIfInBounds_toArray, List.set_cons_zero, List.set_cons_succ]
            refine up_take (by exact (atS (atS (atS (atS (atS (atS (atS (atS at0))))))))) (by kernel_rfl) (by exact fun _ _ _ h => h) (by rfl) (by intro W hW; go_simp; try with_reducible rfl) ?_
            simp only [Act.put, List.setIfInBounds_toArray, List.set_cons_zero, List.set_cons_succ]
            refine up_take (by exact (atS (atS (atS (atS (atS (atS (atS (atS (atS at0)))))))))) (by kernel_rfl) (by exact fun _ _ _ h => h) (by rfl) (by intro W hW; go_simp; try with_reducible rfl) ?_
            simp only [Act.put, List.setIfInBounds_toArray, List.set_cons_zero, List.set_cons_succ]
            refine up_take (by exact (atS (atS (atS (atS (atS (atS (atS (atS (atS (atS at0))))))))))) (by kernel_rfl) (by exact fun _ _ _ h => h) (by rfl) (by intro W hW; go_simp; try with_reducible rfl) ?_
            simp only [Act.put, List.setIfInBounds_toArray, List.set_cons_zero, List.set_cons_succ]
            refine up_take (by exact (atS (atS (atS (atS (atS (atS (atS (atS (atS (atS (atS (atS at0))))))))))))) (by kernel_rfl) (by exact fun _ _ _ h => h) (by rfl) (by intro W hW; go_simp; try with_reducible rfl) ?_
            simp only [Act.put, List.setIfInBounds_toArray, List.set_cons_zero, List.set_cons_succ]
            refine up_take (by exact (atS (atS (atS (atS (atS (atS (atS (atS (atS (atS (atS (atS (atS at0)))))))))))))) (by kernel_rfl) (by exact fun _ _ _ h => h) (by rfl) (by intro W hW; go_simp; try with_reducible rfl) ?_
            simp only [Act.put, List.setIfInBounds_toArray, List.set_cons_zero, List.set_cons_succ]
            refine up_take (by exact (atS (atS (atS (atS (atS (atS (atS (atS (atS (atS (atS (atS (atS (atS at0))))))))))))))) (by kernel_rfl) (by exact fun _ _ _ h => h) (by rfl) (by intro W hW; go_simp; try with_reducible rfl) ?_
            simp only [Act.put, List.setIfInBounds_toArray, List.set_cons_zero, List.set_cons_succ]
            refine up_take (by exact (atS (atS (atS (atS (atS (atS (atS (atS (atS (atS (atS (atS (atS (atS (atS at0)))))))))))))))) (by kernel_rfl) (by exact fun _ _ _ h => h) (by rfl) (by intro W hW; have q := cell_up hcb hW id; go_simp; try with_reducible rfl) ?_
            simp only [Act.put, List.setIfInBounds_toArray, List.set_cons_zero, List.set_cons_succ]
            refine up_one (by exact (atS (atS (atS (atS (atS (atS (atS (atS (atS (atS (atS at0)))))))))))) (by kernel_rfl) (fun K hK => ?_)
            go_simp
            refine (bad_any g q1 bad1 _ hblk1d).mono ?_
            rintro e w9 ⟨rfl, rfl⟩
            refine hK.out _ _ (Kept.refl _ _) ?_
            clear hK K
            refine up_take (by exact (atS (atS (atS (atS (atS (atS (atS (atS (atS (atS (atS (atS (atS (atS (atS (atS at0))))))))))))))))) (by kernel_rfl) (by exact fun _ _ _ h => h) (by rfl) (by intro W hW; go_simp; try with_reducible rfl) ?_
            simp only [Act.put, List.setIfInBounds_toArray, List.set_cons_zero, List.set_cons_succ]
            refine up_take (by exact (atS (atS (atS (atS (atS (atS (atS (atS (atS (atS (atS (atS (atS (atS (atS (atS (atS at0)))))))))))))))))) (by kernel_rfl) (by exact fun _ _ _ h => h) (by rfl) (by intro W hW; go_simp; try with_reducible rfl) ?_
            simp only [Act.put, List.setIfInBounds_toArray, List.set_cons_zero, List.set_cons_succ]
            refine up_done (by kernel_rfl) ?_
            go_wp2_with fail
            all_goals go_roundw
            case rel => exact ⟨k + 1, s2, by go_num, by omega, h1d, h2d, hb2.drew⟩
            case measure => simp [intOf]; omega
          · skip
            by_cases hz3 : z = 3
            · have z1 : (z == (1 : Int)) = false := by rw [beq_eq_false_iff_ne]; exact hz1
              have z2 : (z == (2 : Int)) = false := by rw [beq_eq_false_iff_ne]; exact hz2
              have z3 : (z == (3 : Int)) = true := by rw [hz3]; rfl
              clear hz3
              go_wp2_with fail
              refine (byte_any g s _ h1).mono ?_
              rintro e w1 ⟨rfl, h1', hg1⟩
              obtain ⟨h2', hst⟩ := reads_step hgg hgw hb h2 h1' hg1 h1
              go_wp2_with fail
              refine (fbyte g' s _ h2').mono ?_
              rintro e w2 ⟨rfl, h3, hg2⟩
              obtain ⟨h1'', hb2⟩ := hst w2 hg2
              generalize hs2 : (byteS s).2 = s2 at h1'' h3
              have Hs2 := Lib.hid hs2
              clear hs2
              obtain ⟨q1, bad1, l1, hblk1, hq1, hs1⟩ := id h1''
              obtain ⟨q2, bad2, l2, hblk2, hq2, hs22⟩ := id h3
              have hbb : bad1 = bad2 := by
                rw [hs1] at hs22
                cases bad1 <;> cases bad2 <;> simp at hs22 <;> rfl
              subst hbb
              have hcb : World.cell? w2.drew ⟨g', 1, none⟩ = some (.bool bad1) := by
                have := hblk2.cell 1
                exact this
              have h1d : Rdr 56 w2.drew g s2 := h1''
              have h2d : Rdr 47 w2.drew g' s2 := h3
              have hblk1d : Blk w2.drew g 56 #[q1, .bool bad1] := hblk1
              clear hs1 hs22
              go_wp2_with fail
              refine up_start Nil (by kernel_rfl) ?_
              refine up_take (by exact at0) (by kernel_rfl) (by exact fun _ _ _ h => h) (by rfl) (by intro W hW; go_simp; try with_reducible rfl) ?_
              simp only [Act.put, List.setIfInBounds_toArray, List.set_cons_zero, List.set_cons_succ]
              refine up_take (by exact (atS at0)) (by kernel_rfl) (by exact fun _ _ _ h => h) (by rfl) (by intro W hW; go_simp; try with_reducible rfl) ?_
              simp only [Act.put, List.setIfInBounds_toArray, List.set_cons_zero, List.set_cons_succ]
              refine up_take (by exact (atS (atS at0))) (by kernel_rfl) (by exact fun _ _ _ h => h) (by rfl) (by intro W hW; go_simp; try with_reducible rfl) ?_
              simp only [Act.put, List.setIfInBounds_toArray, List.set_cons_zero, List.set_cons_succ]
              refine up_take (by exact (atS (atS (atS at0)))) (by kernel_rfl) (by exact fun _ _ _ h => h) (by rfl) (by intro W hW; go_simp; try with_reducible rfl) ?_
              simp only [Act.put, List.setIfInBounds_toArray, List.set_cons_zero, List.set_cons_succ]
              refine up_take (by exact (atS (atS (atS (atS (atS at0)))))) (by kernel_rfl) (by exact fun _ _ _ h => h) (by rfl) (by intro W hW; go_simp; try with_reducible rfl) ?_
              simp only [Act.put, List.setIfInBounds_toArray, List.set_cons_zero, List.set_cons_succ]
              refine up_one (by exact (atS (atS (atS (atS at0))))) (by kernel_rfl) (fun K hK => ?_)
              go_simp
              refine (left_any g s2 _ h1d).mono ?_
              rintro e w9 ⟨rfl, rfl⟩
              refine hK.out _ _ (Kept.refl _ _) ?_
              clear hK K
              refine up_one (by exact (atS (atS (atS (atS (atS (atS at0))))))) (by kernel_rfl) (fun K hK => ?_)
              go_simp
              refine (fleft g' s2 _ h2d).mono ?_
              rintro e w9 ⟨rfl, rfl⟩
              refine hK.out _ _ (Kept.refl _ _) ?_
              clear hK K
              refine up_take (by exact (atS (atS (atS (atS (atS (atS (atS at0)))))))) (by kernel_rfl) (by exact fun _ _ _ h => h) (by rfl) (by intro W hW; go_simp; try with_reducible rfl) ?_
              simp only [Act.put, List.setIfInBounds_toArray, List.set_cons_zero, List.set_cons_succ]
              refine up_take (by exact (atS (atS (atS (atS (atS (atS (atS (atS at0))))))))) (by kernel_rfl) (by exact fun _ _ _ h => h) (by rfl) (by intro W hW; go_simp; try with_reducible rfl) ?_
              simp only [Act.put, List.setIfInBounds_toArray, List.set_cons_zero, List.set_cons_succ]
              refine up_take (by exact (atS (atS (atS (atS (atS (atS (atS (atS (atS at0)))))))))) (by kernel_rfl) (by exact fun _ _ _ h => h) (by rfl) (by intro W hW; go_simp; try with_reducible rfl) ?_
              simp only [Act.put, List.setIfInBounds_toArray, List.set_cons_zero, List.set_cons_succ]
              refine up_take (by exact (atS (atS (atS (atS (atS (atS (atS (atS (atS (atS at0))))))))))) (by kernel_rfl) (by exact fun _ _ _ h => h) (by rfl) (by intro W hW; go_simp; try with_reducible rfl) ?_
              simp only [Act.put, List.setIfInBounds_toArray, List.set_cons_zero, List.set_cons_succ]
              refine up_take (by exact (atS (atS (atS (atS (atS (atS (atS (atS (atS (atS (atS (atS at0))))))))))))) (by kernel_rfl) (by exact fun _ _ _ h => h) (by rfl) (by intro W hW; go_simp; try with_reducible rfl) ?_
              simp only [Act.put, List.setIfInBounds_toArray, List.set_cons_zero, List.set_cons_succ]
              refine up_take (by exact (atS (atS (atS (atS (atS (atS (atS (atS (atS (atS (atS (atS (atS at0)))))))))))))) (by kernel_rfl) (by exact fun _ _ _ h => h) (by rfl) (by intro W hW; go_simp; try with_reducible rfl) ?_
              simp only [Act.put, List.setIfInBounds_toArray, List.set_cons_zero, List.set_cons_succ]
              refine up_take (by exact (atS (atS (atS (atS (atS (atS (atS (atS (atS (atS (atS (atS (atS (atS at0))))))))))))))) (by kernel_rfl) (by exact fun _ _ _ h => h) (by rfl) (by intro W hW; go_simp; try with_reducible rfl) ?_
              simp only [Act.put, List.setIfInBounds_toArray, List.set_cons_zero, List.set_cons_succ]
              refine up_take (by exact (atS (atS (atS (atS (atS (atS (atS (atS (atS (atS (atS (atS (atS (atS (atS at0)))))))))))))))) (by kernel_rfl) (by exact fun _ _ _ h => h) (by rfl) (by intro W hW; have q := cell_up hcb hW id; go_simp; try with_reducible rfl) ?_
              simp only [Act.put, List.setIfInBounds_toArray, List.set_cons_zero, List.set_cons_succ]
              refine up_one (by exact (atS (atS (atS (atS (atS (atS (atS (atS (atS (atS (atS at0)))))))))))) (by kernel_rfl) (fun K hK => ?_)
              go_simp
              refine (bad_any g q1 bad1 _ hblk1d).mono ?_
              rintro e w9 ⟨rfl, rfl⟩
              refine hK.out _ _ (Kept.refl _ _) ?_
              clear hK K
              refine up_take (by exact (atS (atS (atS (atS (atS (atS (atS (atS (atS (atS (atS (atS (atS (atS (atS (atS at0))))))))))))))))) (by kernel_rfl) (by exact fun _ _ _ h => h) (by rfl) (by intro W hW; go_simp; try with_reducible rfl) ?_
              simp only [Act.put, List.setIfInBounds_toArray, List.set_cons_zero, List.set_cons_succ]
              refine up_take (by exact (atS (atS (atS (atS (atS (atS (atS (atS (atS (atS (atS (atS (atS (atS (atS (atS (atS at0)))))))))))))))))) (by kernel_rfl) (by exact fun _ _ _ h => h) (by rfl) (by intro W hW; go_simp; try with_reducible rfl) ?_
              simp only [Act.put, List.setIfInBounds_toArray, List.set_cons_zero, List.set_cons_succ]
              refine up_done (by kernel_rfl) ?_
              go_wp2_with fail
              all_goals go_roundw
              case rel => exact ⟨k + 1, s2, by go_num, by omega, h1d, h2d, hb2.drew⟩
              case measure => simp [intOf]; omega
            · skip
              by_cases hz4 : z = 4
              · have z1 : (z == (1 : Int)) = false := by rw [beq_eq_false_iff_ne]; exact hz1
                have z2 : (z == (2 : Int)) = false := by rw [beq_eq_false_iff_ne]; exact hz2
                have z3 : (z == (3 : Int)) = false := by rw [beq_eq_false_iff_ne]; exact hz3
                have z4 : (z == (4 : Int)) = true := by rw [hz4]; rfl
                clear hz4
                go_wp2_with fail
                refine (rword g s _ h1).mono ?_
                rintro e w1 ⟨rfl, h1', hg1⟩
                obtain ⟨h2', hst⟩ := reads_step hgg hgw hb h2 h1' hg1 h1
                go_wp2_with fail
                refine (fword g' s _ h2').mono ?_
                rintro e w2 ⟨rfl, h3, hg2⟩
                obtain ⟨h1'', hb2⟩ := hst w2 hg2
                generalize hs2 : (wordS s).2 = s2 at h1'' h3
                have Hs2 := Lib.hid hs2
                clear hs2
                obtain ⟨q1, bad1, l1, hblk1, hq1, hs1⟩ := id h1''
                obtain ⟨q2, bad2, l2, hblk2, hq2, hs22⟩ := id h3
                have hbb : bad1 = bad2 := by
                  rw [hs1] at hs22
                  cases bad1 <;> cases bad2 <;> simp at hs22 <;> rfl
                subst hbb
                have hcb : World.cell? w2.drew ⟨g', 1, none⟩ = some (.bool bad1) := by
                  have := hblk2.cell 1
                  exact this
                have h1d : Rdr 56 w2.drew g s2 := h1''
                have h2d : Rdr 47 w2.drew g' s2 := h3
                have hblk1d : Blk w2.drew g 56 #[q1, .bool bad1] := hblk1
                clear hs1 hs22
                go_wp2_with fail
                refine up_start Nil (by kernel_rfl) ?_
                refine up_take (by exact at0) (by kernel_rfl) (by exact fun _ _ _ h => h) (by rfl) (by intro W hW; go_simp; try with_reducible rfl) ?_
                simp only [Act.put, List.setIfInBounds_toArray, List.set_cons_zero, List.set_cons_succ]
                refine up_take (by exact (atS at0)) (by kernel_rfl) (by exact fun _ _ _ h => h) (by rfl) (by intro W hW; go_simp; try with_reducible rfl) ?_
                simp only [Act.put, List.setIfInBounds_toArray, List.set_cons_zero, List.set_cons_succ]
                refine up_take (by exact (atS (atS at0))) (by kernel_rfl) (by exact fun _ _ _ h => h) (by rfl) (by intro W hW; go_simp; try with_reducible rfl) ?_
                simp only [Act.put, List.setIfInBounds_toArray, List.set_cons_zero, List.set_cons_succ]
                refine up_take (by exact (atS (atS (atS at0)))) (by kernel_rfl) (by exact fun _ _ _ h => h) (by rfl) (by intro W hW; go_simp; try with_reducible rfl) ?_
                simp only [Act.put, List.setIfInBounds_toArray, List.set_cons_zero, List.set_cons_succ]
                refine up_take (by exact (atS (atS (atS (atS (atS at0)))))) (by kernel_rfl) (by exact fun _ _ _ h => h) (by rfl) (by intro W hW; go_simp; try with_reducible rfl) ?_
                simp only [Act.put, List.setIfInBounds_toArray, List.set_cons_zero, List.set_cons_succ]
                refine up_one (by exact (atS (atS (atS (atS at0))))) (by kernel_rfl) (fun K hK => ?_)
                go_simp
                refine (left_any g s2 _ h1d).mono ?_
                rintro e w9 ⟨rfl, rfl⟩
                refine hK.out _ _ (Kept.refl _ _) ?_
                clear hK K
                refine up_one (by exact (atS (atS (atS (atS (atS (atS at0))))))) (by kernel_rfl) (fun K hK => ?_)
                go_simp
                refine (fleft g' s2 _ h2d).mono ?_
                rintro e w9 ⟨rfl, rfl⟩
                refine hK.out _ _ (Kept.refl _ _) ?_
                clear hK K
                refine up_take (by exact (atS (atS (atS (atS (atS (atS (atS at0)))))))) (by kernel_rfl) (by exact fun _ _ _ h => h) (by rfl) (by intro W hW; go_simp; try with_reducible rfl) ?_
                simp only [Act.put, List.setIfInBounds_toArray, List.set_cons_zero, List.set_cons_succ]
                refine up_take (by exact (atS (atS (atS (atS (atS (atS (atS (atS at0))))))))) (by kernel_rfl) (by exact fun _ _ _ h => h) (by rfl) (by intro W hW; go_simp; try with_reducible rfl) ?_
                simp only [Act.put, List.setIfInBounds_toArray, List.set_cons_zero, List.set_cons_succ]
                refine up_take (by exact (atS (atS (atS (atS (atS (atS (atS (atS (atS at0)))))))))) (by kernel_rfl) (by exact fun _ _ _ h => h) (by rfl) (by intro W hW; go_simp; try with_reducible rfl) ?_
                simp only [Act.put, List.setIfInBounds_toArray, List.set_cons_zero, List.set_cons_succ]
                refine up_take (by exact (atS (atS (atS (atS (atS (atS (atS (atS (atS (atS at0))))))))))) (by kernel_rfl) (by exact fun _ _ _ h => h) (by rfl) (by intro W hW; go_simp; try with_reducible rfl) ?_
                simp only [Act.put, List.setIfInBounds_toArray, List.set_cons_zero, List.set_cons_succ]
                refine up_take (by exact (atS (atS (atS (atS (atS (atS (atS (atS (atS (atS (atS (atS at0))))))))))))) (by kernel_rfl) (by exact fun _ _ _ h => h) (by rfl) (by intro W hW; go_simp; try with_reducible rfl) ?_
                simp only [Act.put, List.setIfInBounds_toArray, List.set_cons_zero, List.set_cons_succ]
                refine up_take (by exact (atS (atS (atS (atS (atS (atS (atS (atS (atS (atS (atS (atS (atS at0)))))))))))))) (by kernel_rfl) (by exact fun _ _ _ h => h) (by rfl) (by intro W hW; go_simp; try with_reducible rfl) ?_
                simp only [Act.put, List.setIfInBounds_toArray, List.set_cons_zero, List.set_cons_succ]
                refine up_take (by exact (atS (atS (atS (atS (atS (atS (atS (atS (atS (atS (atS (atS (atS (atS at0))))))))))))))) (by kernel_rfl) (by exact fun _ _ _ h => h) (by rfl) (by intro W hW; go_simp; try with_reducible rfl) ?_
                simp only [Act.put, List.setIfInBounds_toArray, List.set_cons_zero, List.set_cons_succ]
                refine up_take (by exact (atS (atS (atS (atS (atS (atS (atS (atS (atS (atS (atS (atS (atS (atS (atS at0)))))))))))))))) (by kernel_rfl) (by exact fun _ _ _ h => h) (by rfl) (by intro W hW; have q := cell_up hcb hW id; go_simp; try with_reducible rfl) ?_
                simp only [Act.put, List.setIfInBounds_toArray, List.set_cons_zero, List.set_cons_succ]
                refine up_one (by exact (atS (atS (atS (atS (atS (atS (atS (atS (atS (atS (atS at0)))))))))))) (by kernel_rfl) (fun K hK => ?_)
                go_simp
                refine (bad_any g q1 bad1 _ hblk1d).mono ?_
                rintro e w9 ⟨rfl, rfl⟩
                refine hK.out _ _ (Kept.refl _ _) ?_
                clear hK K
                refine up_take (by exact (atS (atS (atS (atS (atS (atS (atS (atS (atS (atS (atS (atS (atS (atS (atS (atS at0))))))))))))))))) (by kernel_rfl) (by exact fun _ _ _ h => h) (by rfl) (by intro W hW; go_simp; try with_reducible rfl) ?_
                simp only [Act.put, List.setIfInBounds_toArray, List.set_cons_zero, List.set_cons_succ]
                refine up_take (by exact (atS (atS (atS (atS (atS (atS (atS (atS (atS (atS (atS (atS (atS (atS (atS (atS (atS at0)))))))))))))))))) (by kernel_rfl) (by exact fun _ _ _ h => h) (by rfl) (by intro W hW; go_simp; try with_reducible rfl) ?_
                simp only [Act.put, List.setIfInBounds_toArray, List.set_cons_zero, List.set_cons_succ]
                refine up_done (by kernel_rfl) ?_
                go_wp2_with fail
                all_goals go_roundw
                case rel => exact ⟨k + 1, s2, by go_num, by omega, h1d, h2d, hb2.drew⟩
                case measure => simp [intOf]; omega
              · skip
                have z1 : (z == (1 : Int)) = false := by rw [beq_eq_false_iff_ne]; exact hz1
                have z2 : (z == (2 : Int)) = false := by rw [beq_eq_false_iff_ne]; exact hz2
                have z3 : (z == (3 : Int)) = false := by rw [beq_eq_false_iff_ne]; exact hz3
                have z4 : (z == (4 : Int)) = false := by rw [beq_eq_false_iff_ne]; exact hz4
                obtain ⟨s2, rfl⟩ : ∃ s2, s2 = s := ⟨s, rfl⟩
                obtain ⟨q1, bad1, l1, hblk1, hq1, hs1⟩ := id h1
                obtain ⟨q2, bad2, l2, hblk2, hq2, hs22⟩ := id h2
                have hbb : bad1 = bad2 := by
                  rw [hs1] at hs22
                  cases bad1 <;> cases bad2 <;> simp at hs22 <;> rfl
                subst hbb
                have hcb : World.cell? wr.drew ⟨g', 1, none⟩ = some (.bool bad1) := by
                  have := hblk2.cell 1
                  exact this
                have h1d : Rdr 56 wr.drew g s2 := h1
                have h2d : Rdr 47 wr.drew g' s2 := h2
                have hblk1d : Blk wr.drew g 56 #[q1, .bool bad1] := hblk1
                clear hs1 hs22
                go_wp2_with fail
                refine up_start Nil (by kernel_rfl) ?_
                refine up_take (by exact at0) (by kernel_rfl) (by exact fun _ _ _ h => h) (by rfl) (by intro W hW; go_simp; try with_reducible rfl) ?_
                simp only [Act.put, List.setIfInBounds_toArray, List.set_cons_zero, List.set_cons_succ]
                refine up_take (by exact (atS at0)) (by kernel_rfl) (by exact fun _ _ _ h => h) (by rfl) (by intro W hW; go_simp; try with_reducible rfl) ?_
                simp only [Act.put, List.setIfInBounds_toArray, List.set_cons_zero, List.set_cons_succ]
                refine up_take (by exact (atS (atS at0))) (by kernel_rfl) (by exact fun _ _ _ h => h) (by rfl) (by intro W hW; go_simp; try with_reducible rfl) ?_
                simp only [Act.put, List.setIfInBounds_toArray, List.set_cons_zero, List.set_cons_succ]
                refine up_take (by exact (atS (atS (atS at0)))) (by kernel_rfl) (by exact fun _ _ _ h => h) (by rfl) (by intro W hW; go_simp; try with_reducible rfl) ?_
                simp only [Act.put, List.setIfInBounds_toArray, List.set_cons_zero, List.set_cons_succ]
                refine up_take (by exact (atS (atS (atS (atS (atS at0)))))) (by kernel_rfl) (by exact fun _ _ _ h => h) (by rfl) (by intro W hW; go_simp; try with_reducible rfl) ?_
                simp only [Act.put, List.setIfInBounds_toArray, List.set_cons_zero, List.set_cons_succ]
                refine up_one (by exact (atS (atS (atS (atS at0))))) (by kernel_rfl) (fun K hK => ?_)
                go_simp
                refine (left_any g s2 _ h1d).mono ?_
                rintro e w9 ⟨rfl, rfl⟩
                refine hK.out _ _ (Kept.refl _ _) ?_
                clear hK K
                refine up_one (by exact (atS (atS (atS (atS (atS (atS at0))))))) (by kernel_rfl) (fun K hK => ?_)
                go_simp
                refine (fleft g' s2 _ h2d).mono ?_
                rintro e w9 ⟨rfl, rfl⟩
                refine hK.out _ _ (Kept.refl _ _) ?_
                clear hK K
                refine up_take (by exact (atS (atS (atS (atS (atS (atS (atS at0)))))))) (by kernel_rfl) (by exact fun _ _ _ h => h) (by rfl) (by intro W hW; go_simp; try with_reducible rfl) ?_
                simp only [Act.put, List.setIfInBounds_toArray, List.set_cons_zero, List.set_cons_succ]
                refine up_take (by exact (atS (atS (atS (atS (atS (atS (atS (atS at0))))))))) (by kernel_rfl) (by exact fun _ _ _ h => h) (by rfl) (by intro W hW; go_simp; try with_reducible rfl) ?_
                simp only [Act.put, List.setIfInBounds_toArray, List.set_cons_zero, List.set_cons_succ]
                refine up_take (by exact (atS (atS (atS (atS (atS (atS (atS (atS (atS at0)))))))))) (by kernel_rfl) (by exact fun _ _ _ h => h) (by rfl) (by intro W hW; go_simp; try with_reducible rfl) ?_
                simp only [Act.put, List.setIfInBounds_toArray, List.set_cons_zero, List.set_cons_succ]
                refine up_take (by exact (atS (atS (atS (atS (atS (atS (atS (atS (atS (atS at0))))))))))) (by kernel_rfl) (by exact fun _ _ _ h => h) (by rfl) (by intro W hW; go_simp; try with_reducible rfl) ?_
                simp only [Act.put, List.setIfInBounds_toArray, List.set_cons_zero, List.set_cons_succ]
                refine up_take (by exact (atS (atS (atS (atS (atS (atS (atS (atS (atS (atS (atS (atS at0))))))))))))) (by kernel_rfl) (by exact fun _ _ _ h => h) (by rfl) (by intro W hW; go_simp; try with_reducible rfl) ?_
                simp only [Act.put, List.setIfInBounds_toArray, List.set_cons_zero, List.set_cons_succ]
                refine up_take (by exact (atS (atS (atS (atS (atS (atS (atS (atS (atS (atS (atS (atS (atS at0)))))))))))))) (by kernel_rfl) (by exact fun _ _ _ h => h) (by rfl) (by intro W hW; go_simp; try with_reducible rfl) ?_
                simp only [Act.put, List.setIfInBounds_toArray, List.set_cons_zero, List.set_cons_succ]
                refine up_take (by exact (atS (atS (atS (atS (atS (atS (atS (atS (atS (atS (atS (atS (atS (atS at0))))))))))))))) (by kernel_rfl) (by exact fun _ _ _ h => h) (by rfl) (by intro W hW; go_simp; try with_reducible rfl) ?_
                simp only [Act.put, List.setIfInBounds_toArray, List.set_cons_zero, List.set_cons_succ]
                refine up_take (by exact (atS (atS (atS (atS (atS (atS (atS (atS (atS (atS (atS (atS (atS (atS (atS at0)))))))))))))))) (by kernel_rfl) (by exact fun _ _ _ h => h) (by rfl) (by intro W hW; have q := cell_up hcb hW id; go_simp; try with_reducible rfl) ?_
                simp only [Act.put, List.setIfInBounds_toArray, List.set_cons_zero, List.set_cons_succ]
                refine up_one (by exact (atS (atS (atS (atS (atS (atS (atS (atS (atS (atS (atS at0)))))))))))) (by kernel_rfl) (fun K hK => ?_)
                go_simp
                refine (bad_any g q1 bad1 _ hblk1d).mono ?_
                rintro e w9 ⟨rfl, rfl⟩
                refine hK.out _ _ (Kept.refl _ _) ?_
                clear hK K
                refine up_take (by exact (atS (atS (atS (atS (atS (atS (atS (atS (atS (atS (atS (atS (atS (atS (atS (atS at0))))))))))))))))) (by kernel_rfl) (by exact fun _ _ _ h => h) (by rfl) (by intro W hW; go_simp; try with_reducible rfl) ?_
                simp only [Act.put, List.setIfInBounds_toArray, List.set_cons_zero, List.set_cons_succ]
                refine up_take (by exact (atS (atS (atS (atS (atS (atS (atS (atS (atS (atS (atS (atS (atS (atS (atS (atS (atS at0)))))))))))))))))) (by kernel_rfl) (by exact fun _ _ _ h => h) (by rfl) (by intro W hW; go_simp; try with_reducible rfl) ?_
                simp only [Act.put, List.setIfInBounds_toArray, List.set_cons_zero, List.set_cons_succ]
                refine up_done (by kernel_rfl) ?_
                go_wp2_with fail
                all_goals go_roundw
                case rel => exact ⟨k + 1, s2, by go_num, by omega, h1d, h2d, hb.drew⟩
                case measure => simp [intOf]; omega
      · have hnil : ls.length ≤ k := by omega
        clear hlt h1 h2
        go_wp2_with (first
          | (go_at_call 21; refine (num_nil _).mono ?_; rintro e w9 ⟨rfl, rfl⟩)
          | (go_at_call 18; refine (text_nil _).mono ?_; rintro e w9 ⟨rfl, rfl⟩)
          | (go_at_call 24; refine (byte_nil _).mono ?_; rintro e w9 ⟨rfl, rfl⟩)
          | (go_at_call 26; refine (word_nil _).mono ?_; rintro e w9 ⟨rfl, rfl⟩)
          | (go_at_call 19; refine (left_nil _).mono ?_; rintro e w9 ⟨rfl, rfl⟩)
          | (go_at_call 20; refine (bad_nil _).mono ?_; rintro e w9 ⟨rfl, rfl⟩))
        go_ret
        exact ⟨by simp, hb⟩
end Go.Proofs.Yteffidhbcdkikaa
