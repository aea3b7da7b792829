/-
  The law NumTexts: it answers true at every text and every word, and changes nothing that was there. No condition.
-/
import Derived.Test.YteffidhbcdkikaaLives1
import Derived.Test.YteffidhbcdkikaaRefRdr
import Derived.Test.YteffidhbcdkikaaRegion
namespace Go.Proofs.Yteffidhbcdkikaa
open Go.RowKit

theorem textS_textB (l : List UInt8) (hl : (l.length : Int) ≤ 65536) (r : List UInt8) : textS (some (textB l ++ r)) = (l, some r) := by
  have hv : vget (textB l ++ r) = some (foldN l.length, (numB l.length).length) := by
    unfold textB
    rw [List.append_assoc]
    exact vget_num _ _ (by omega) (by omega)
  have hn : numS (some (textB l ++ r)) = ((l.length : Int), some (l ++ r)) := by
    simp only [numS, hv, unfold_fold]
    unfold textB
    rw [List.append_assoc, List.drop_left']
    rfl
  simp only [textS, hn]
  rw [if_neg (by omega)]
  simp only [takeS]
  rw [if_neg (by simp; omega)]
  simp

set_option maxHeartbeats 1600000 in
set_option maxRecDepth 100000 in
theorem numTexts_long (s : ByteArray) (n : Nat) (w : World) (hn : (n : Int) < 4294967296) (h1 : 65536 < (s.size : Int)) (h2 : (s.size : Int) ≤ 70000) :
    Calls Try.prog 5 #[.string s, .int .u32 (n : Int)] w (Holds w) := by
  have h70 : decide (70000 < (s.size : Int)) = false := by simp; omega
  clear h2
  go_enter Try.func5, Try.ntmps5
  go_wp2_with fail
  refine (text_long s _ h1).mono ?_
  rintro e w1 ⟨rfl, rfl⟩
  go_wp2_with fail
  refine up_start Nil (by kernel_rfl) ?_
  refine up_one (by exact at0) (by kernel_rfl) (fun K hK => ?_)
  go_simp
  refine (lives_any _).mono ?_
  rintro e w2 ⟨rfl, hb2⟩
  refine hK.out _ _ (Kept.below (hb2.mono (Nat.le_refl _))) ?_
  clear hK K
  refine up_take (by exact (atS at0)) (by kernel_rfl) (by exact fun _ _ _ h => h) (by rfl) (by intro W hW; go_simp; try with_reducible rfl) ?_
  simp only [Act.put, List.setIfInBounds_toArray, List.set_cons_zero, List.set_cons_succ]
  refine up_take (by exact (atS (atS at0))) (by kernel_rfl) (by exact fun _ _ _ h => h) (by rfl) (by intro W hW; go_simp; try with_reducible rfl) ?_
  simp only [Act.put, List.setIfInBounds_toArray, List.set_cons_zero, List.set_cons_succ]
  refine up_take (by exact (atS (atS (atS at0)))) (by kernel_rfl) (by exact fun _ _ _ h => h) (by rfl) (by intro W hW; go_simp; try with_reducible rfl) ?_
  simp only [Act.put, List.setIfInBounds_toArray, List.set_cons_zero, List.set_cons_succ]
  refine up_take (by exact (atS (atS (atS (atS (atS (atS at0))))))) (by kernel_rfl) (by exact fun _ _ _ h => h) (by rfl) (by intro W hW; go_simp; try with_reducible rfl) ?_
  simp only [Act.put, List.setIfInBounds_toArray, List.set_cons_zero, List.set_cons_succ]
  refine up_one (by exact (atS (atS (atS (atS at0))))) (by kernel_rfl) (fun K hK => ?_)
  go_simp
  refine (word_any n _ hn).mono ?_
  rintro e w3 ⟨v3, rfl, own3, hb3⟩
  have r3 := own3.rdp
  refine hK.out _ _ (Kept.below hb3) ?_
  clear hK K
  refine up_take (by exact (atS (atS (atS (atS (atS at0)))))) (by kernel_rfl) (by exact fun _ _ _ h => h) (by rfl) (by intro W hW; have q := conv_up r3 hW not_nil; go_simp; try with_reducible rfl) ?_
  simp only [Act.put, List.setIfInBounds_toArray, List.set_cons_zero, List.set_cons_succ]
  refine up_one (by exact (atS (atS (atS (atS (atS (atS (atS at0)))))))) (by kernel_rfl) (fun K hK => ?_)
  go_simp
  refine (rword_any n _ hn).mono ?_
  rintro e w4 ⟨v4, rfl, own4, hb4⟩
  have r4 := own4.rdp
  refine hK.out _ _ (Kept.below hb4) ?_
  clear hK K
  refine up_take (by exact (atS (atS (atS (atS (atS (atS (atS (atS at0))))))))) (by kernel_rfl) (by exact fun _ _ _ h => h) (by rfl) (by intro W hW; have q := conv_up r4 hW not_nil; go_simp; try with_reducible rfl) ?_
  simp only [Act.put, List.setIfInBounds_toArray, List.set_cons_zero, List.set_cons_succ]
  refine up_take (by exact (atS (atS (atS (atS (atS (atS (atS (atS (atS at0)))))))))) (by kernel_rfl) (by exact fun _ _ _ h => h) (by rfl) (by intro W hW; go_simp; try with_reducible rfl) ?_
  simp only [Act.put, List.setIfInBounds_toArray, List.set_cons_zero, List.set_cons_succ]
  refine up_take (by exact (atS (atS (atS (atS (atS (atS (atS (atS (atS (atS at0))))))))))) (by kernel_rfl) (by exact fun _ _ _ h => h) (by rfl) (by intro W hW; go_simp; try with_reducible rfl) ?_
  simp only [Act.put, List.setIfInBounds_toArray, List.set_cons_zero, List.set_cons_succ]
  refine up_done (by kernel_rfl) ?_
  have hall : Below w.heap.size w w4 := ((Below.refl _ _).drew.trans hb2).trans ((hb3.mono hb2.size).trans (hb4.mono (Nat.le_trans hb2.size hb3.size)))
  go_wp2
  go_ret
  exact ⟨by simp, hall⟩

set_option maxHeartbeats 3200000 in
set_option maxRecDepth 100000 in
theorem numTexts_short (s : ByteArray) (n : Nat) (w : World) (hn : (n : Int) < 4294967296) (h1 : (s.size : Int) ≤ 65536) :
    Calls Try.prog 5 #[.string s, .int .u32 (n : Int)] w (Holds w) := by
  have h70 : decide (70000 < (s.size : Int)) = false := by simp; omega
  go_enter Try.func5, Try.ntmps5
  go_wp2_with fail
  refine (text_any s _ h1).mono ?_
  rintro e w1 ⟨v1, rfl, own1, hb1⟩
  go_wp2_with fail
  refine up_start Nil (by kernel_rfl) ?_
  refine up_one (by exact at0) (by kernel_rfl) (fun K hK => ?_)
  go_simp
  refine (lives_any _).mono ?_
  rintro e w2 ⟨rfl, hb2⟩
  refine hK.out _ _ (Kept.below (hb2.mono (Nat.le_refl _))) ?_
  clear hK K
  refine up_take (by exact (atS at0)) (by kernel_rfl) (by exact fun _ _ _ h => h) (by rfl) (by intro W hW; go_simp; try with_reducible rfl) ?_
  simp only [Act.put, List.setIfInBounds_toArray, List.set_cons_zero, List.set_cons_succ]
  refine up_take (by exact (atS (atS at0))) (by kernel_rfl) (by exact fun _ _ _ h => h) (by rfl) (by intro W hW; go_simp; try with_reducible rfl) ?_
  simp only [Act.put, List.setIfInBounds_toArray, List.set_cons_zero, List.set_cons_succ]
  refine up_take (by exact (atS (atS (atS at0)))) (by kernel_rfl) (by exact fun _ _ _ h => h) (by rfl) (by intro W hW; go_simp; try with_reducible rfl) ?_
  simp only [Act.put, List.setIfInBounds_toArray, List.set_cons_zero, List.set_cons_succ]
  refine up_take (by exact (atS (atS (atS (atS (atS (atS at0))))))) (by kernel_rfl) (by exact fun _ _ _ h => h) (by rfl) (by intro W hW; go_simp; try with_reducible rfl) ?_
  simp only [Act.put, List.setIfInBounds_toArray, List.set_cons_zero, List.set_cons_succ]
  refine up_one (by exact (atS (atS (atS (atS at0))))) (by kernel_rfl) (fun K hK => ?_)
  go_simp
  refine (word_any n _ hn).mono ?_
  rintro e w3 ⟨v3, rfl, own3, hb3⟩
  have r3 := own3.rdp
  refine hK.out _ _ (Kept.below hb3) ?_
  clear hK K
  refine up_take (by exact (atS (atS (atS (atS (atS at0)))))) (by kernel_rfl) (by exact fun _ _ _ h => h) (by rfl) (by intro W hW; have q := conv_up r3 hW not_nil; go_simp; try with_reducible rfl) ?_
  simp only [Act.put, List.setIfInBounds_toArray, List.set_cons_zero, List.set_cons_succ]
  refine up_one (by exact (atS (atS (atS (atS (atS (atS (atS at0)))))))) (by kernel_rfl) (fun K hK => ?_)
  go_simp
  refine (rword_any n _ hn).mono ?_
  rintro e w4 ⟨v4, rfl, own4, hb4⟩
  have r4 := own4.rdp
  refine hK.out _ _ (Kept.below hb4) ?_
  clear hK K
  refine up_take (by exact (atS (atS (atS (atS (atS (atS (atS (atS at0))))))))) (by kernel_rfl) (by exact fun _ _ _ h => h) (by rfl) (by intro W hW; have q := conv_up r4 hW not_nil; go_simp; try with_reducible rfl) ?_
  simp only [Act.put, List.setIfInBounds_toArray, List.set_cons_zero, List.set_cons_succ]
  refine up_take (by exact (atS (atS (atS (atS (atS (atS (atS (atS (atS at0)))))))))) (by kernel_rfl) (by exact fun _ _ _ h => h) (by rfl) (by intro W hW; go_simp; try with_reducible rfl) ?_
  simp only [Act.put, List.setIfInBounds_toArray, List.set_cons_zero, List.set_cons_succ]
  refine up_take (by exact (atS (atS (atS (atS (atS (atS (atS (atS (atS (atS at0))))))))))) (by kernel_rfl) (by exact fun _ _ _ h => h) (by rfl) (by intro W hW; go_simp; try with_reducible rfl) ?_
  simp only [Act.put, List.setIfInBounds_toArray, List.set_cons_zero, List.set_cons_succ]
  refine up_done (by kernel_rfl) ?_
  have b14 : Below w1.heap.size w1 w4 := ((Below.refl _ _).drew.trans hb2).trans ((hb3.mono hb2.size).trans (hb4.mono (Nat.le_trans hb2.size hb3.size)))
  have own14 := own1.below b14
  have s14 := b14.size
  have s01 := hb1.size
  have hsz : ((textB s.data.toList).length : Int) ≤ 65546 := by
    unfold textB
    have := (numB_len (s.data.toList.length : Int)).2
    have e : s.data.toList.length = s.size := by simp
    rw [List.length_append]; omega
  have Hsz := Lib.hid hsz
  have h65 : decide (65536 < (s.size : Int)) = false := by simp; omega
  have H1 := Lib.hid h1
  clear h1
  have b04 : Below w.heap.size w w4 := hb1.trans (b14.mono s01)
  clear own1 r3 r4 own3 own4 hb2 hb3 hb4 hsz
  go_wp2_with (at_builtin; go_must (refine wpList_append_src _ rfl (.tmp 38) (.tmp 39) _ rfl w.heap.size 5 _ 1 Try.underlying22 Try.u8info rfl _ _ rfl (by exact own14.alloc _) _ [.int .u8 200] rfl (by exact src_one rfl) (by intro u hu; simp at hu; subst hu; rfl) (by rw [bvs_length]; have := Hsz.out; unfold maxLen; simp; omega) (by rw [bvs_length]; have := Hsz.out; simp; omega) (by simp; omega) ?_); intro v5 w5 own5 hg5 hb5 st5)
  have own5' : Own w5 w.heap.size 5 v5 (bvs (textB s.data.toList ++ [200])) := by rw [bvs_append]; exact own5
  have r1 := Rdp.mono ((own14.alloc _).stays st5).rdp (A' := (· < w5.heap.size)) (fun _ h => Nat.lt_of_lt_of_le h hb5.size)
  have b05 : Below w.heap.size w w5 := (b04.alloc (by omega) _).trans hb5
  clear own5 own14 hg5 st5
  refine (from_any _ _ w5.heap.size _ (own5'.rd (Nat.le_refl _)) (Nat.le_refl _) (by have := Hsz.out; simp; omega)).mono ?_
  rintro e w6 ⟨g, rfl, hg, hrd, hb6⟩
  have r16 := (r1.kept (D := Nil) (Kept.below hb6) not_nil).drew
  have b06 : Below w.heap.size w w6 := b05.trans (hb6.mono b05.size)
  have s05 := b05.size
  obtain ⟨A1, c1, rfl, _, _, _⟩ := id r16
  have hrd' : Rdr 56 w6.drew g (some (textB s.data.toList ++ [200])) := hrd
  have ht := textS_textB s.data.toList (by have := H1.out; simp; omega) [200]
  have Ht := Lib.hid ht
  have htl : s.toList = s.data.toList := Go.ByteArray.toList_eq s
  clear ht own5' r1 hb5 hrd
  go_wp2_with fail
  refine up_start (fun k => k = g) (by kernel_rfl) ?_
  refine up_take (by exact at0) (by kernel_rfl) (by exact fun _ _ _ h => h) (by rfl) (by intro W hW; go_simp; try with_reducible rfl) ?_
  simp only [Act.put, List.setIfInBounds_toArray, List.set_cons_zero, List.set_cons_succ]
  refine up_take (by exact (atS at0)) (by kernel_rfl) (by exact fun _ _ _ h => h) (by rfl) (by intro W hW; go_simp; try with_reducible rfl) ?_
  simp only [Act.put, List.setIfInBounds_toArray, List.set_cons_zero, List.set_cons_succ]
  refine up_take (by exact (atS (atS at0))) (by kernel_rfl) (by exact fun _ _ _ h => h) (by rfl) (by intro W hW; go_simp; try with_reducible rfl) ?_
  simp only [Act.put, List.setIfInBounds_toArray, List.set_cons_zero, List.set_cons_succ]
  refine up_take (by exact (atS (atS (atS at0)))) (by kernel_rfl) (by exact fun _ _ _ h => h) (by rfl) (by intro W hW; go_simp; try with_reducible rfl) ?_
  simp only [Act.put, List.setIfInBounds_toArray, List.set_cons_zero, List.set_cons_succ]
  refine up_take (by exact (atS (atS (atS (atS at0))))) (by kernel_rfl) (by exact fun _ _ _ h => h) (by rfl) (by intro W hW; have q := conv_up r16 hW (fun b hb hd => by omega); go_simp; try with_reducible rfl) ?_
  simp only [Act.put, List.setIfInBounds_toArray, List.set_cons_zero, List.set_cons_succ]
  refine up_take (by exact (atS (atS (atS (atS (atS at0)))))) (by kernel_rfl) (by exact fun _ _ _ h => h) (by rfl) (by intro W hW; go_simp; try with_reducible rfl) ?_
  simp only [Act.put, List.setIfInBounds_toArray, List.set_cons_zero, List.set_cons_succ]
  refine up_one (by exact (atS (atS (atS (atS (atS (atS at0))))))) (by kernel_rfl) (fun K hK => ?_)
  go_simp
  refine (rtext_any s _ H1.out).mono ?_
  rintro e w7 ⟨v7, rfl, own7, hb7⟩
  have r7 := own7.rdp
  have s67 : g < w6.drew.heap.size := hrd'.lt
  have hrd7 := hrd'.below hb7 s67
  refine hK.out _ _ (Kept.below hb7) ?_
  clear hK K
  refine up_take (by exact (atS (atS (atS (atS (atS (atS (atS at0)))))))) (by kernel_rfl) (by exact fun _ _ _ h => h) (by rfl) (by intro W hW; have q := conv_up r7 hW (fun b hb hd => by subst hd; have := s67; omega); go_simp; try with_reducible rfl) ?_
  simp only [Act.put, List.setIfInBounds_toArray, List.set_cons_zero, List.set_cons_succ]
  refine up_take (by exact (atS (atS (atS (atS (atS (atS (atS (atS at0))))))))) (by kernel_rfl) (by exact fun _ _ _ h => h) (by rfl) (by intro W hW; go_simp; try with_reducible rfl) ?_
  simp only [Act.put, List.setIfInBounds_toArray, List.set_cons_zero, List.set_cons_succ]
  refine up_take (by exact (atS (atS (atS (atS (atS (atS (atS (atS (atS at0)))))))))) (by kernel_rfl) (by exact fun _ _ _ h => h) (by rfl) (by intro W hW; go_simp; try with_reducible rfl) ?_
  simp only [Act.put, List.setIfInBounds_toArray, List.set_cons_zero, List.set_cons_succ]
  refine up_take (by exact (atS (atS (atS (atS (atS (atS (atS (atS (atS (atS at0))))))))))) (by kernel_rfl) (by exact fun _ _ _ h => h) (by rfl) (by intro W hW; go_simp; try with_reducible rfl) ?_
  simp only [Act.put, List.setIfInBounds_toArray, List.set_cons_zero, List.set_cons_succ]
  refine up_take (by exact (atS (atS (atS (atS (atS (atS (atS (atS (atS (atS (atS at0)))))))))))) (by kernel_rfl) (by exact fun _ _ _ h => h) (by rfl) (by intro W hW; go_simp; try with_reducible rfl) ?_
  simp only [Act.put, List.setIfInBounds_toArray, List.set_cons_zero, List.set_cons_succ]
  refine up_take (by exact (atS (atS (atS (atS (atS (atS (atS (atS (atS (atS (atS (atS at0))))))))))))) (by kernel_rfl) (by exact fun _ _ _ h => h) (by rfl) (by intro W hW; go_simp; try with_reducible rfl) ?_
  simp only [Act.put, List.setIfInBounds_toArray, List.set_cons_zero, List.set_cons_succ]
  refine up_take (by exact (atS (atS (atS (atS (atS (atS (atS (atS (atS (atS (atS (atS (atS at0)))))))))))))) (by kernel_rfl) (by exact fun _ _ _ h => h) (by rfl) (by intro W hW; go_simp; try with_reducible rfl) ?_
  simp only [Act.put, List.setIfInBounds_toArray, List.set_cons_zero, List.set_cons_succ]
  refine up_take (by exact (atS (atS (atS (atS (atS (atS (atS (atS (atS (atS (atS (atS (atS (atS at0))))))))))))))) (by kernel_rfl) (by exact fun _ _ _ h => h) (by rfl) (by intro W hW; go_simp; try with_reducible rfl) ?_
  simp only [Act.put, List.setIfInBounds_toArray, List.set_cons_zero, List.set_cons_succ]
  refine up_take (by exact (atS (atS (atS (atS (atS (atS (atS (atS (atS (atS (atS (atS (atS (atS (atS at0)))))))))))))))) (by kernel_rfl) (by exact fun _ _ _ h => h) (by rfl) (by intro W hW; go_simp; try with_reducible rfl) ?_
  simp only [Act.put, List.setIfInBounds_toArray, List.set_cons_zero, List.set_cons_succ]
  refine up_take (by exact (atS (atS (atS (atS (atS (atS (atS (atS (atS (atS (atS (atS (atS (atS (atS (atS (atS at0)))))))))))))))))) (by kernel_rfl) (by exact fun _ _ _ h => h) (by rfl) (by intro W hW; go_simp; try with_reducible rfl) ?_
  simp only [Act.put, List.setIfInBounds_toArray, List.set_cons_zero, List.set_cons_succ]
  refine up_one (by exact (atS (atS (atS (atS (atS (atS (atS (atS (atS (atS (atS (atS (atS (atS (atS (atS at0))))))))))))))))) (by kernel_rfl) (fun K hK => ?_)
  go_simp
  refine (rtext g _ _ hrd7).mono ?_
  rw [Ht.out]
  rintro e w8 ⟨rfl, hrd8, hg8⟩
  refine hK.out _ _ (Kept.grown hg8 (fun k hk => by injection hk with hk; exact hk.symm)) ?_
  clear hK K
  refine up_take (by exact (atS (atS (atS (atS (atS (atS (atS (atS (atS (atS (atS (atS (atS (atS (atS (atS (atS (atS at0))))))))))))))))))) (by kernel_rfl) (by exact fun _ _ _ h => h) (by rfl) (by intro W hW; go_simp; try with_reducible rfl) ?_
  simp only [Act.put, List.setIfInBounds_toArray, List.set_cons_zero, List.set_cons_succ]
  refine up_take (by exact (atS (atS (atS (atS (atS (atS (atS (atS (atS (atS (atS (atS (atS (atS (atS (atS (atS (atS (atS at0)))))))))))))))))))) (by kernel_rfl) (by exact fun _ _ _ h => h) (by rfl) (by intro W hW; go_simp; try with_reducible rfl) ?_
  simp only [Act.put, List.setIfInBounds_toArray, List.set_cons_zero, List.set_cons_succ]
  refine up_take (by exact (atS (atS (atS (atS (atS (atS (atS (atS (atS (atS (atS (atS (atS (atS (atS (atS (atS (atS (atS (atS at0))))))))))))))))))))) (by kernel_rfl) (by exact fun _ _ _ h => h) (by rfl) (by intro W hW; go_simp; try with_reducible rfl) ?_
  simp only [Act.put, List.setIfInBounds_toArray, List.set_cons_zero, List.set_cons_succ]
  refine up_take (by exact (atS (atS (atS (atS (atS (atS (atS (atS (atS (atS (atS (atS (atS (atS (atS (atS (atS (atS (atS (atS (atS at0)))))))))))))))))))))) (by kernel_rfl) (by exact fun _ _ _ h => h) (by rfl) (by intro W hW; go_simp; try with_reducible rfl) ?_
  simp only [Act.put, List.setIfInBounds_toArray, List.set_cons_zero, List.set_cons_succ]
  refine up_one (by exact (atS (atS (atS (atS (atS (atS (atS (atS (atS (atS (atS (atS (atS (atS (atS (atS (atS (atS (atS (atS (atS (atS at0))))))))))))))))))))))) (by kernel_rfl) (fun K hK => ?_)
  go_simp
  refine (left_any g _ _ hrd8).mono ?_
  rintro e w9 ⟨rfl, rfl⟩
  refine hK.out _ _ (Kept.refl _ _) ?_
  clear hK K
  refine up_take (by exact (atS (atS (atS (atS (atS (atS (atS (atS (atS (atS (atS (atS (atS (atS (atS (atS (atS (atS (atS (atS (atS (atS (atS at0)))))))))))))))))))))))) (by kernel_rfl) (by exact fun _ _ _ h => h) (by rfl) (by intro W hW; go_simp; try with_reducible rfl) ?_
  simp only [Act.put, List.setIfInBounds_toArray, List.set_cons_zero, List.set_cons_succ]
  refine up_take (by exact (atS (atS (atS (atS (atS (atS (atS (atS (atS (atS (atS (atS (atS (atS (atS (atS (atS (atS (atS (atS (atS (atS (atS (atS at0))))))))))))))))))))))))) (by kernel_rfl) (by exact fun _ _ _ h => h) (by rfl) (by intro W hW; go_simp; try with_reducible rfl) ?_
  simp only [Act.put, List.setIfInBounds_toArray, List.set_cons_zero, List.set_cons_succ]
  refine up_take (by exact (atS (atS (atS (atS (atS (atS (atS (atS (atS (atS (atS (atS (atS (atS (atS (atS (atS (atS (atS (atS (atS (atS (atS (atS (atS at0)))))))))))))))))))))))))) (by kernel_rfl) (by exact fun _ _ _ h => h) (by rfl) (by intro W hW; go_simp; try with_reducible rfl) ?_
  simp only [Act.put, List.setIfInBounds_toArray, List.set_cons_zero, List.set_cons_succ]
  refine up_take (by exact (atS (atS (atS (atS (atS (atS (atS (atS (atS (atS (atS (atS (atS (atS (atS (atS (atS (atS (atS (atS (atS (atS (atS (atS (atS (atS at0))))))))))))))))))))))))))) (by kernel_rfl) (by exact fun _ _ _ h => h) (by rfl) (by intro W hW; go_simp; try with_reducible rfl) ?_
  simp only [Act.put, List.setIfInBounds_toArray, List.set_cons_zero, List.set_cons_succ]
  obtain ⟨vb, badb, lb, hblk, _, hbad⟩ := hrd8
  have hbf : badb = false := by
    cases badb with
    | false => rfl
    | true => cases hbad
  subst hbf
  refine up_one (by exact (atS (atS (atS (atS (atS (atS (atS (atS (atS (atS (atS (atS (atS (atS (atS (atS (atS (atS (atS (atS (atS (atS (atS (atS (atS (atS (atS at0)))))))))))))))))))))))))))) (by kernel_rfl) (fun K hK => ?_)
  go_simp
  refine (bad_any g _ false _ hblk).mono ?_
  rintro e w10 ⟨rfl, rfl⟩
  refine hK.out _ _ (Kept.refl _ _) ?_
  clear hK K
  refine up_take (by exact (atS (atS (atS (atS (atS (atS (atS (atS (atS (atS (atS (atS (atS (atS (atS (atS (atS (atS (atS (atS (atS (atS (atS (atS (atS (atS (atS (atS at0))))))))))))))))))))))))))))) (by kernel_rfl) (by exact fun _ _ _ h => h) (by rfl) (by intro W hW; go_simp; try with_reducible rfl) ?_
  simp only [Act.put, List.setIfInBounds_toArray, List.set_cons_zero, List.set_cons_succ]
  refine up_take (by exact (atS (atS (atS (atS (atS (atS (atS (atS (atS (atS (atS (atS (atS (atS (atS (atS (atS (atS (atS (atS (atS (atS (atS (atS (atS (atS (atS (atS (atS at0)))))))))))))))))))))))))))))) (by kernel_rfl) (by exact fun _ _ _ h => h) (by rfl) (by intro W hW; go_simp; try with_reducible rfl) ?_
  simp only [Act.put, List.setIfInBounds_toArray, List.set_cons_zero, List.set_cons_succ]
  refine up_take (by exact (atS (atS (atS (atS (atS (atS (atS (atS (atS (atS (atS (atS (atS (atS (atS (atS (atS (atS (atS (atS (atS (atS (atS (atS (atS (atS (atS (atS (atS (atS at0))))))))))))))))))))))))))))))) (by kernel_rfl) (by exact fun _ _ _ h => h) (by rfl) (by intro W hW; go_simp; try with_reducible rfl) ?_
  simp only [Act.put, List.setIfInBounds_toArray, List.set_cons_zero, List.set_cons_succ]
  refine up_done (by kernel_rfl) ?_
  have hall : Below w.heap.size w w8 := ((b06.drew.trans (hb7.mono b06.size))).grown hg8 (by have := b06.size; have := hb7.size; simp at this; omega) (fun k hk => by injection hk with hk; subst hk; omega)
  go_wp2
  go_ret
  exact ⟨by have h200 : lb = [200] := by simpa using hbad.symm
            subst h200; rfl, hall⟩

set_option maxHeartbeats 400000 in
theorem numTexts_any (s : ByteArray) (n : Nat) (w : World) (hn : (n : Int) < 4294967296) (hm : (s.size : Int) ≤ 9223372036854775807) :
    Calls Try.prog 5 #[.string s, .int .u32 (n : Int)] w (Holds w) := by
  by_cases h70 : 70000 < (s.size : Int)
  · go_enter Try.func5, Try.ntmps5
    go_wp2_with (go_at_call 7; go_must (refine (lives_any _).mono ?_); rintro e w1 ⟨rfl, hb1⟩)
    go_ret
    exact ⟨rfl, hb1⟩
  · by_cases h65 : 65536 < (s.size : Int)
    · exact numTexts_long s n w hn h65 (by omega)
    · exact numTexts_short s n w hn (by omega)
end Go.Proofs.Yteffidhbcdkikaa
