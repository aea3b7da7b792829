/-
  What must come of every program of layer 1 (newsstandlaw01.lives): it answers true, and nothing that was there is changed. No condition.
-/
import Derived.Test.YteffidhbcdkikaaNumRdr2
namespace Go.Proofs.Yteffidhbcdkikaa
open Go.RowKit

/-- A new block of bytes, as a slice. -/
theorem rd_new (w : World) (e : TypeId) (a : Nat) (ha : a = w.heap.size) (cs : Array Value) (n : Nat) (l : List UInt8) (hcs : cs = (bvs l).toArray) (hn : n = l.length) (hm : l.length ≤ 1000) :
    Rd (w.alloc (.cells cs e)) (a + 1) (.slice (some ⟨a, 0, none⟩) n n) l := by
  subst hcs hn ha
  exact rd_blk (Blk.fresh w e _) (Nat.lt_succ_self _) (by unfold maxLen; omega)

theorem below_sz {w w' : World} {B : Nat} (h : Below B w w') : w.heap.size ≤ w'.heap.size := h.size

set_option maxHeartbeats 800000 in
set_option maxRecDepth 100000 in
theorem lives_any (w : World) : Calls Try.prog 7 #[] w fun e w' => e = .returned (.bool true) ∧ Below w.heap.size w w' := by
  have n1 : numB (-1) = [1] := by decide
  have n2 : numB 64 = [128, 1] := by decide
  have t1 : textB [97, 98] = [4, 97, 98] := by decide
  have g1 : getV (vget [128, 1, 9]) = .tuple #[.int .i64 64, .int .i64 2, .int .i64 0] := by
    have : vget [128, 1, 9] = some (128, 2) := by decide
    rw [this]; rfl
  have g2 : getV (vget [128, 0]) = .tuple #[.int .i64 0, .int .i64 0, .int .i64 10] := by
    have : vget [128, 0] = none := by decide
    rw [this]; rfl
  have N1 := Lib.hid n1
  have N2 := Lib.hid n2
  have T1 := Lib.hid t1
  have G1 := Lib.hid g1
  have G2 := Lib.hid g2
  clear n1 n2 t1 g1 g2
  go_enter Try.func7, Try.ntmps7
  go_wp2_with fail
  refine (put_any _ _ (by omega) (by omega)).mono ?_
  rintro e w1 ⟨v1, rfl, own1, hb1⟩
  rw [N1.out] at own1
  have r1 := own1.rd (Nat.le_refl _)
  go_wp2_with fail
  refine (put_any _ _ (by omega) (by omega)).mono ?_
  rintro e w2 ⟨v2, rfl, own2, hb2⟩
  rw [N2.out] at own2
  have r2 := own2.rd (Nat.le_refl _)
  have s12 := hb2.size
  go_wp2_with fail
  refine (get_any _ [128, 1, 9] _ _ (rd_new w2 _ _ (by simp) _ _ [128, 1, 9] rfl rfl (by simp))).mono ?_
  rw [G1.out]
  rintro e w3 ⟨rfl, rfl⟩
  go_wp2_with fail
  refine (get_any _ [128, 0] _ _ (rd_new _ _ _ (by simp) _ _ [128, 0] rfl rfl (by simp))).mono ?_
  rw [G2.out]
  rintro e w4 ⟨rfl, rfl⟩
  go_wp2_with fail
  refine (text_any (str [97, 98]) _ (by decide)).mono ?_
  rintro e w5 ⟨v5, rfl, own5, hb5⟩
  rw [str_data, T1.out] at own5
  have r5 := own5.rd (Nat.le_refl _)
  have b25 : Below w2.heap.size w2 w5 := (((Below.refl _ _).alloc (Nat.le_refl _) _).alloc (by simp) _).trans (hb5.mono (by simp; omega))
  have s25 := b25.size
  clear own1 own2 own5 hb5
  go_wp2_with fail
  refine (from_any _ [4, 97, 98, 7, 1, 2, 3, 4] (w5.heap.size + 1) _ (rd_new w5 _ _ (by simp) _ _ _ rfl rfl (by simp)) (by simp) (by simp)).mono ?_
  rintro e w7 ⟨g, rfl, hg, hrd, hb7⟩
  have hg' : w5.heap.size < g := by simp at hg; omega
  have b57 : Below w5.heap.size w5 w7 := ((Below.refl _ _).alloc (Nat.le_refl _) _).trans (hb7.mono (by simp))
  clear hg hb7
  have s57 := b57.size
  have x1 : textS (some [4, 97, 98, 7, 1, 2, 3, 4]) = ([97, 98], some [7, 1, 2, 3, 4]) := by decide
  have x2 : byteS (some [7, 1, 2, 3, 4]) = (7, some [1, 2, 3, 4]) := by decide
  have x3 : wordS (some [1, 2, 3, 4]) = (67305985, some []) := by decide
  have x4 : numS (some []) = (0, none) := by decide
  have X1 := Lib.hid x1
  have X2 := Lib.hid x2
  have X3 := Lib.hid x3
  have X4 := Lib.hid x4
  clear x1 x2 x3 x4
  go_wp2_with fail
  refine (rtext g _ _ hrd).mono ?_
  rw [X1.out]
  rintro e w8 ⟨rfl, hrd8, hg8⟩
  go_wp2_with fail
  refine (byte_any g _ _ hrd8).mono ?_
  rw [X2.out]
  rintro e w9 ⟨rfl, hrd9, hg9⟩
  go_wp2_with fail
  refine (rword g _ _ hrd9).mono ?_
  rw [X3.out]
  rintro e w10 ⟨rfl, hrd10, hg10⟩
  go_wp2_with fail
  refine (num_any g _ _ hrd10).mono ?_
  rw [X4.out]
  rintro e w11 ⟨rfl, hrd11, hg11⟩
  have hgall : w7.grownBy w11 (some g) := ((hg8.trans hg9).trans hg10).trans hg11
  have b711 : Below w5.heap.size w7 w11 := (Below.refl _ _).grown hgall s57 (fun k hk => by injection hk; omega)
  have b511 : Below w5.heap.size w5 w11 := b57.trans b711
  have q1 := run_conv_rd (P := Try.prog) 22 5 9 Try.underlying22 Try.underlying5 Try.underlying9 ((((r1.below hb2).below (b25.mono s12)).below (b511.mono (by omega))))
  have q2 := run_conv_rd (P := Try.prog) 22 5 9 Try.underlying22 Try.underlying5 Try.underlying9 ((r2.below b25).below (b511.mono (by omega)))
  have q5 := run_conv_rd (P := Try.prog) 22 5 9 Try.underlying22 Try.underlying5 Try.underlying9 (r5.below b511)
  have hbig : Below w.heap.size w w11 := ((hb1.trans (hb2.mono hb1.size)).trans (b25.mono (by have := hb1.size; omega))).trans (b511.mono (by have := hb1.size; omega))
  obtain ⟨v11, bad11, l11, hblk, _, hbad⟩ := hrd11
  have hb11 : bad11 = true := by
    cases bad11 with
    | true => rfl
    | false => cases hbad
  subst hb11
  clear r1 r2 r5 hb1 hb2 b25 b57 b511 b711 hgall hg8 hg9 hg10 hg11 hrd hrd8 hrd9 hrd10 hbad s12 s25 s57
  go_wp2_with fail
  refine (put_none _ _ (by omega)).mono ?_
  rintro e w12 ⟨rfl, rfl⟩
  go_wp2_with fail
  refine (bad_any g v11 true _ hblk).mono ?_
  rintro e w12 ⟨rfl, rfl⟩
  go_wp2_with fail
  refine (word_any 1 _ (by decide)).mono ?_
  rintro e w13 ⟨v13, rfl, own13, hb13⟩
  have q13 := run_conv_rd (P := Try.prog) 22 5 9 Try.underlying22 Try.underlying5 Try.underlying9 (own13.rd (Nat.le_refl _))
  rw [show wordB 1 = [1, 0, 0, 0] by decide] at q13
  go_wp2_with fail
  go_ret
  exact ⟨rfl, hbig.trans (hb13.mono hbig.size)⟩
end Go.Proofs.Yteffidhbcdkikaa
