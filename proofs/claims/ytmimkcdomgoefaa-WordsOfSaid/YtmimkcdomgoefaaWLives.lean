/-
  What must come of every program of layer 6 (newsstandlaw06.lives): it answers true, and nothing that was there is changed. No condition.
-/
import Derived.Test.YtmimkcdomgoefaaWHas
import Derived.KernelRfl
namespace Go.Proofs.Ytmimkcdomgoefaa
open Go.RowKit
open Go.Lib (decodeL encodeRune)

theorem v6_1 : wordsS [84, 104, 101, 32, 85, 46, 83, 46, 45, 98, 97, 115, 101, 100, 32, 195, 132, 114, 122, 116, 101, 32, 51] = [[116, 104, 101], [117], [115], [98, 97, 115, 101, 100], [195, 164, 114, 122, 116, 101], [51]] := by kernel_rfl
theorem v6_2 : wordsS [98, 32, 97, 32, 66] = [[98], [97], [98]] := by kernel_rfl
theorem v6_3 : setP [[98], [97], [98]] = [[97], [98]] := by
  have h1 : decide (([98] : List UInt8) ≤ [97]) = false := by decide
  have h2 : decide (([97] : List UInt8) ≤ [98]) = true := by decide
  have e : sortP [[98], [97], [98]] = [[97], [98], [98]] := by
    unfold sortP
    simp [List.mergeSort, List.MergeSort.Internal.splitInTwo, h1, h2]
  unfold setP
  rw [e]
  decide
theorem v6_4 : wordsS [79, 110, 101, 32, 116, 119, 111] = [[111, 110, 101], [116, 119, 111]] := by kernel_rfl
theorem v6_5 : wordsS [84, 87, 79] = [[116, 119, 111]] := by kernel_rfl
theorem v6_6 : wordsS [] = [] := by kernel_rfl
theorem v6_7 : isB [116, 119, 111] = true := by
  unfold isB
  rw [show wordsS [116, 119, 111] = [[116, 119, 111]] by kernel_rfl]
  decide
theorem v6_8 : isB [84, 119, 111] = false := by
  unfold isB
  rw [show wordsS [84, 119, 111] = [[116, 119, 111]] by kernel_rfl]
  decide
theorem v6_9 : wordsS [111, 110, 101, 32, 116, 119, 111] = [[111, 110, 101], [116, 119, 111]] := by kernel_rfl
theorem v6_10 : wordsS [116, 119] = [[116, 119]] := by kernel_rfl
theorem v6_11 : wordsS [97, 32, 98] = [[97], [98]] := by kernel_rfl
theorem v6_12 : wordsS [65, 44, 32, 66, 33] = [[97], [98]] := by kernel_rfl
theorem rdv_lit (w : World) (e : TypeId) (L : List (List UInt8)) (cs : Array Value) (n : Nat) (hc : cs = (strs L).toArray) (hn : n = L.length) (hm : n ≤ 1000) : RdV (w.alloc (.cells cs e)) (w.heap.size + 1) (.slice (some ⟨w.heap.size, 0, none⟩) n n) (strs L) := by
  subst hc hn
  refine ⟨_, L.length, by rw [strs_length], by rw [strs_length]; omega, by unfold maxLen; omega, fun _ => ⟨w.heap.size, 0, rfl, by omega, fun j hj => ?_⟩⟩
  have hb : (w.alloc (.cells (strs L).toArray e)).heap[w.heap.size]? = some (.cells (strs L).toArray e (0, 0)) := heap_alloc_new w _
  rw [Nat.zero_add, cell_of_row _ w.heap.size j _ e (0, 0) hb, List.getElem?_toArray]
  exact List.getElem?_eq_getElem hj

set_option maxHeartbeats 3200000 in
set_option maxRecDepth 100000 in
theorem wlives_any (w : World) : Calls Try.prog 28 #[] w (Holds w) := by
  have k1 := fun W => words_any [84, 104, 101, 32, 85, 46, 83, 46, 45, 98, 97, 115, 101, 100, 32, 195, 132, 114, 122, 116, 101, 32, 51] W (by decide)
  have k2 := fun W => set_any [98, 32, 97, 32, 66] W (by decide) (by rw [v6_2]; decide)
  have k3 := fun W => has_any [79, 110, 101, 32, 116, 119, 111] [84, 87, 79] W (by decide) (by decide)
  have k4 := fun W => has_any [79, 110, 101, 32, 116, 119, 111] [] W (by decide) (by decide)
  have k5 := fun W => is_any [116, 119, 111] W (by decide)
  have k6 := fun W => is_any [84, 119, 111] W (by decide)
  have k7 := fun W => beg_any [111, 110, 101, 32, 116, 119, 111] [116, 119] W (by decide) (by decide)
  have k8 := fun W => wsame_any [97, 32, 98] [65, 44, 32, 66, 33] W (by decide) (by decide)
  rw [v6_1] at k1
  rw [v6_2, v6_3] at k2
  rw [v6_4, v6_5, show likeB (fun x y => x == y) [[111, 110, 101], [116, 119, 111]] [[116, 119, 111]] = true by decide] at k3
  rw [v6_4, v6_6, show likeB (fun x y => x == y) [[111, 110, 101], [116, 119, 111]] [] = false by decide] at k4
  rw [v6_7] at k5
  rw [v6_8] at k6
  rw [v6_9, v6_10, show likeB Lib.hasPrefix [[111, 110, 101], [116, 119, 111]] [[116, 119]] = true by decide] at k7
  rw [v6_11, v6_12, decide_eq_true rfl] at k8
  have H1 := Lib.hid k1
  have H2 := Lib.hid k2
  have H3 := Lib.hid k3
  have H4 := Lib.hid k4
  have H5 := Lib.hid k5
  have H6 := Lib.hid k6
  have H7 := Lib.hid k7
  have H8 := Lib.hid k8
  have s1 := fun va vb B W => rsame_any [[116, 104, 101], [117], [115], [98, 97, 115, 101, 100], [195, 164, 114, 122, 116, 101], [51]] [[116, 104, 101], [117], [115], [98, 97, 115, 101, 100], [195, 164, 114, 122, 116, 101], [51]] va vb B W
  have s2 := fun va vb B W => rsame_any [[97], [98]] [[97], [98]] va vb B W
  rw [decide_eq_true rfl] at s1 s2
  have S1 := Lib.hid s1
  have S2 := Lib.hid s2
  clear k1 k2 k3 k4 k5 k6 k7 k8 s1 s2
  go_enter Try.func28, Try.ntmps28
  go_wp2_with fail
  refine (H1.out _).mono ?_
  rintro e w1 ⟨v1, rfl, hown1, b1⟩
  have hr1 := (hown1.rdv (Nat.le_refl _)).below ((Below.refl w1.heap.size w1).alloc (Nat.le_refl _) (.cells #[.string ⟨#[116, 104, 101]⟩, .string ⟨#[117]⟩, .string ⟨#[115]⟩, .string ⟨#[98, 97, 115, 101, 100]⟩, .string ⟨#[195, 164, 114, 122, 116, 101]⟩, .string ⟨#[51]⟩] 9))
  have hr2 := rdv_lit w1 9 [[116, 104, 101], [117], [115], [98, 97, 115, 101, 100], [195, 164, 114, 122, 116, 101], [51]] #[.string ⟨#[116, 104, 101]⟩, .string ⟨#[117]⟩, .string ⟨#[115]⟩, .string ⟨#[98, 97, 115, 101, 100]⟩, .string ⟨#[195, 164, 114, 122, 116, 101]⟩, .string ⟨#[51]⟩] 6 rfl rfl (by decide)
  have HR1 := Lib.hid hr1
  have HR2 := Lib.hid hr2
  clear hown1 hr1 hr2
  go_wp2_with fail
  refine (S1.out _ _ (w1.heap.size + 1) _ (by exact HR1.out.more (by omega)) (by exact HR2.out)).mono ?_
  rintro e w2 ⟨rfl, q, hw2⟩
  have b2 : Below w.heap.size w w2 := by rw [hw2]; exact below_drewN (b1.alloc b1.size _) q
  clear hw2
  go_wp2_with fail
  refine (H2.out _).mono ?_
  rintro e w3 ⟨v3, rfl, hown3, hb⟩
  have b3 : Below w.heap.size w w3 := b2.trans (hb.mono b2.size)
  have hr1 := (hown3.rdv (Nat.le_refl _)).below ((Below.refl w3.heap.size w3).alloc (Nat.le_refl _) (.cells #[.string ⟨#[97]⟩, .string ⟨#[98]⟩] 9))
  have hr2 := rdv_lit w3 9 [[97], [98]] #[.string ⟨#[97]⟩, .string ⟨#[98]⟩] 2 rfl rfl (by decide)
  have HR3 := Lib.hid hr1
  have HR4 := Lib.hid hr2
  clear hown3 hr1 hr2 hb
  go_wp2_with fail
  refine (S2.out _ _ (w3.heap.size + 1) _ (by exact HR3.out.more (by omega)) (by exact HR4.out)).mono ?_
  rintro e w4 ⟨rfl, q, hw4⟩
  have b4 : Below w.heap.size w w4 := by rw [hw4]; exact below_drewN (b3.alloc b3.size _) q
  clear hw4
  go_wp2_with fail
  refine (H3.out _).mono ?_
  rintro e w5 ⟨rfl, hb⟩
  have b5 : Below w.heap.size w w5 := b4.trans (hb.mono b4.size)
  clear hb
  go_wp2_with fail
  refine (H4.out _).mono ?_
  rintro e w6 ⟨rfl, hb⟩
  have b6 : Below w.heap.size w w6 := b5.trans (hb.mono b5.size)
  clear hb
  go_wp2_with fail
  refine (H5.out _).mono ?_
  rintro e w7 ⟨rfl, hb⟩
  have b7 : Below w.heap.size w w7 := b6.trans (hb.mono b6.size)
  clear hb
  go_wp2_with fail
  refine (H6.out _).mono ?_
  rintro e w8 ⟨rfl, hb⟩
  have b8 : Below w.heap.size w w8 := b7.trans (hb.mono b7.size)
  clear hb
  go_wp2_with fail
  refine (H7.out _).mono ?_
  rintro e w9 ⟨rfl, hb⟩
  have b9 : Below w.heap.size w w9 := b8.trans (hb.mono b8.size)
  clear hb
  go_wp2_with fail
  refine (H8.out _).mono ?_
  rintro e w10 ⟨rfl, hb⟩
  have b10 : Below w.heap.size w w10 := b9.trans (hb.mono b9.size)
  clear hb
  go_wp2_with fail
  go_ret
  exact ⟨rfl, b10⟩
end Go.Proofs.Ytmimkcdomgoefaa
