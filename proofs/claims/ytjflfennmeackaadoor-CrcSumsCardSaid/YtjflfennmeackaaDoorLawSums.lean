/-
  CrcSums' call: it answers true. Conditions: the slices read as bytes; the table is as the program's text lays it.
-/
import Derived.Test.YtjflfennmeackaaDoorLives2
import Derived.Test.YtjflfennmeackaaDoorGuard
namespace Go.Proofs.YtjflfennmeackaaDoor
open Go.RowKit

set_option maxHeartbeats 800000 in
set_option maxRecDepth 100000 in
theorem sums_any (v u : Value) (l k : List UInt8) (B : Nat) (w : World) (hr : Rd w B v l) (hu : Rd w B u k) (hB : B ≤ w.heap.size) (hH : Halves w) :
    Calls Tryd.prog 3 #[v, u] w (Holds w) := by
  have R := Lib.hid hr
  have U := Lib.hid hu
  obtain ⟨A, c, rfl, hlc, hcm, _⟩ := hr
  obtain ⟨A', c', rfl, hlc', hcm', _⟩ := hu
  unfold maxLen at hcm hcm'
  have HH := Lib.hid hH
  clear hH
  have hcond : ((3000 : Int) < (l.length : Int) ∨ (3000 : Int) < (k.length : Int)) ∨ (¬ (3000 : Int) < (l.length : Int) ∧ ¬ (3000 : Int) < (k.length : Int)) := by omega
  rcases hcond with h3 | ⟨h3, h4⟩
  · rcases h3 with h3 | h3
    · go_enter Tryd.func3, Tryd.ntmps3
      go_wp2_with fail
      refine (lives_any _ (by exact HH.out)).mono ?_
      rintro e w1 ⟨rfl, b1⟩
      go_wp2_with fail
      go_ret
      exact ⟨rfl, b1⟩
    · by_cases h5 : (3000 : Int) < (l.length : Int)
      · go_enter Tryd.func3, Tryd.ntmps3
        go_wp2_with fail
        refine (lives_any _ (by exact HH.out)).mono ?_
        rintro e w1 ⟨rfl, b1⟩
        go_wp2_with fail
        go_ret
        exact ⟨rfl, b1⟩
      · go_enter Tryd.func3, Tryd.ntmps3
        go_wp2_with fail
        refine (lives_any _ (by exact HH.out)).mono ?_
        rintro e w1 ⟨rfl, b1⟩
        go_wp2_with fail
        go_ret
        exact ⟨rfl, b1⟩
  · go_enter Tryd.func3, Tryd.ntmps3
    go_wp2_with fail
    refine (sum_any _ l B _ (by exact R.out) (by exact HH.out)).mono ?_
    rintro e w0 ⟨rfl, rfl⟩
    generalize hm : moreN 0 l = m
    have hml : m < 4294967296 := hm ▸ moreN_lt 0 l
    have M := Lib.hid hm
    clear hm
    go_wp2_with fail
    refine (lives_any _ (by exact HH.out)).mono ?_
    rintro e w1 ⟨rfl, b1⟩
    have r1 := R.out.below (b1.mono hB)
    have u1 := U.out.below (b1.mono hB)
    have h1 := HH.out.next b1
    go_wp2_with fail
    refine (rsum_any _ l B _ (by exact r1)).mono ?_
    rw [M.out]
    rintro e w2 ⟨rfl, rfl⟩
    go_wp2_with fail
    refine (more_any m _ k B _ (by omega) (by exact u1) (by exact h1)).mono ?_
    rintro e w2 ⟨rfl, rfl⟩
    have hsum : moreN m k = moreN 0 (l ++ k) := by rw [← M.out, moreN_append]
    have hsl := moreN_lt 0 (l ++ k)
    rw [hsum]
    have S := Lib.hid hsum
    clear hsum
    have hl3 : l.length ≤ 3000 := by omega
    have hk3 : k.length ≤ 3000 := by omega
    have e0 := Own.empty w1 5 w1.heap.size rfl
    have rl := r1.below (Below.alloc (Below.refl B w1) (Nat.le_trans hB b1.size) (.cells #[] 5))
    have ru := u1.below (Below.alloc (Below.refl B w1) (Nat.le_trans hB b1.size) (.cells #[] 5))
    have E0 := Lib.hid e0
    have RL := Lib.hid rl
    have RU := Lib.hid ru
    clear e0 rl ru r1 u1
    have hB1 := Nat.le_trans hB b1.size
    have hlb : (bvs l).length = l.length := bvs_length l
    have hkb : (bvs k).length = k.length := bvs_length k
    have HL := Lib.hid hlb
    have HK := Lib.hid hkb
    have H1 := Lib.hid h1
    clear hlb hkb h1
    go_wp2_with (first
      | (at_builtin; refine wpList_append_srcg _ (by rfl) (.tmp 28) (.tmp 29) 22 (by rfl) w1.heap.size 5 (.int .u8 0) 1 Tryd.underlying22 Tryd.u8info rfl _ [] (by rfl) (by exact E0.out) _ (bvs l) (by rfl) (by exact RL.out.src) (bvs_one l) (by rw [HL.out]; unfold maxLen; simp; omega) (by rw [HL.out]; simp; omega) (by simp) ?_; intro v2 w2 hown2 _ hb2 _)
      | (at_builtin; go_must (refine wpList_append_srcg _ (by rfl) (.tmp 30) (.tmp 31) 22 (by rfl) w1.heap.size 5 (.int .u8 0) 1 Tryd.underlying22 Tryd.u8info rfl v2 ([] ++ bvs l) (by rfl) (by exact hown2) _ (bvs k) (by rfl) (by exact (RU.out.below (hb2.mono hB1)).src) (bvs_one k) (by rw [List.nil_append, HL.out, HK.out]; unfold maxLen; omega) (by rw [List.nil_append, HL.out, HK.out]; omega) (by have := hb2.size; simp at this; omega) ?_); intro v3 w3 hown3 _ hb3 _))
    have b13 : Below w1.heap.size w1 w3 := ((Below.refl _ _).alloc (Nat.le_refl _) _).trans (hb2.trans hb3)
    have hlk : [] ++ bvs l ++ bvs k = bvs (l ++ k) := by rw [bvs_append]; rfl
    rw [hlk] at hown3
    have r3 := hown3.rd (Nat.le_refl _)
    refine (sum_any _ (l ++ k) _ _ (by exact r3) (by exact H1.out.next b13)).mono ?_
    rintro e w4 ⟨rfl, rfl⟩
    have b3 : Below w.heap.size w w3 := b1.trans (b13.mono b1.size)
    clear hlk
    go_wp2_with fail
    go_ret
    exact ⟨rfl, b3⟩
end Go.Proofs.YtjflfennmeackaaDoor
