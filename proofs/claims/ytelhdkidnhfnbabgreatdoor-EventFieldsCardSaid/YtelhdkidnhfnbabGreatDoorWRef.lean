/-
  The document's own words of a text (newsstandref06.Words). Condition: at most 2^37 bytes.
-/
import Derived.Test.YtelhdkidnhfnbabGreatDoorWWords
namespace Go.Proofs.YtelhdkidnhfnbabGreatDoor
open Go.RowKit
open Go.Lib (decodeL encodeRune)

theorem foldS_len (l : List UInt8) : (foldS l).length ≤ 4 * l.length := by
  have h1 := (put_len ((runes l).map foldR)).2
  have h3 := runes_len l
  rw [List.length_map] at h1
  unfold foldS
  omega
/-- What stands at the head of a round. -/
def RWRel (R : List Int) (w : World) (u4 u5 u6 : Value) (W : World) : Prop :=
  ∃ (k : Nat) (o : List (List UInt8) × List Int), k ≤ R.length + 1 ∧ o = (if k ≤ R.length then wFold (R.take k) else wStep (wFold R) 32) ∧ o.2.length ≤ 32 ∧ o.1.length ≤ k ∧ u6 = .int .i64 (k : Int) ∧ Own W w.heap.size 9 u4 (strs o.1) ∧ Own W w.heap.size 21 u5 (rvs o.2) ∧ Below w.heap.size w W
theorem rw_next {R : List Int} {k : Nat} (h : k < R.length) : (if k + 1 ≤ R.length then wFold (R.take (k + 1)) else wStep (wFold R) 32) = wStep (wFold (R.take k)) R[k] := by
  rw [if_pos (by omega), List.take_succ_eq_append_getElem h, wFold_snoc]
theorem rw_last {R : List Int} {k : Nat} (h : k = R.length) : (if k + 1 ≤ R.length then wFold (R.take (k + 1)) else wStep (wFold R) 32) = wStep (wFold (R.take k)) 32 := by
  rw [if_neg (by omega), List.take_of_length_le (by omega)]
set_option maxHeartbeats 6400000 in
theorem rwords_any (l : List UInt8) (w : World) (hl : l.length ≤ 137438953472) :
    Calls Tryz.prog 40 #[.string (str l)] w (MadeStrs w (wordsS l)) := by
  have hfr := foldS_runes l
  have hrl := runes_len l
  have hfl := foldS_len l
  have hF := fun W => rfoldS_any l W (by omega)
  have hRn := fun W => rrunes_any (foldS l) W (by omega)
  have hws : wordsS l = wordsR (runes (foldS l)) := by rw [hfr]; rfl
  rw [hws]
  have hrn : (runes (foldS l)).length ≤ 137438953472 := by rw [hfr, List.length_map]; omega
  generalize runes (foldS l) = R at *
  generalize foldS l = f at *
  have HF := Lib.hid hF
  have HRn := Lib.hid hRn
  have HRN := Lib.hid hrn
  clear hfr hrl hfl hF hRn hws hrn hl
  go_enter Tryz.func40, Tryz.ntmps40
  go_wp2_with fail
  refine (HF.out _).mono ?_
  rintro e w0 ⟨rfl, b0⟩
  go_wp2_with fail
  refine (HRn.out _).mono ?_
  rintro e w1 ⟨v, rfl, hown, hb⟩
  have b1 : Below w.heap.size w w1 := b0.trans (hb.mono b0.size)
  have hrd := hown.rdv (Nat.le_refl _)
  clear hown hb
  obtain ⟨A, c, rfl, hc1, hc2, hcell⟩ := hrd
  rw [rvs_length R]
  have HC := Lib.hid hcell
  have HB1 := Lib.hid b1
  clear hcell hc1 hc2 b1
  go_wp2_with fail
  go_loopw [4, 5, 6] (RWRel R w1) (fun _ _ u _ => R.length + 1 - (intOf u).toNat)
  case atStart => exact ⟨0, ([], []), Nat.zero_le _, by rw [if_pos (Nat.zero_le _)]; rfl, by simp, by simp, rfl, Own.nil _ _ _, Own.nil _ _ _, Below.refl _ _⟩
  case round =>
    obtain ⟨k, o, hk, ho, ho2, ho1, rfl, hown4, hown5, hbw⟩ := hrel
    have hsz := hbw.size
    have hrn := HRN.out
    have hrd5 := hown5.rdv (Nat.le_refl _)
    obtain ⟨A5, c5, hv5, _⟩ := id hrd5
    rw [rvs_length o.2] at hv5
    subst hv5
    have hdf := own_diff hown4 hown5 (by decide)
    have HDF := Lib.hid hdf
    have HO4 := Lib.hid hown4
    have HO5 := Lib.hid hown5
    have HRD5 := Lib.hid hrd5
    clear hown4 hown5 hrd5 hdf
    by_cases hke : k ≤ R.length
    · rw [if_pos hke] at ho
      have hkI : (k : Int) ≤ (R.length : Int) := by omega
      -- what is done at a rune that is no letter
      have hword : (o.2.length = 0) ∨ ¬ (o.2.length = 0) := by omega
      by_cases hlet : ∃ h : k < R.length, letB R[k] = true
      · obtain ⟨hkl, hlb⟩ := hlet
        have hklI : decide ((k : Int) < (R.length : Int)) = true := decide_eq_true (by omega)
        have hklN : decide (k < R.length) = true := decide_eq_true hkl
        have hklJ : (k : Int) < (R.length : Int) := by omega
        have hnx := rw_next hkl
        rw [← ho] at hnx
        obtain ⟨b, off, rfl, hbl, hcc⟩ := HC.out (by rw [rvs_length]; omega)
        have hx := hcc k (by rw [rvs_length]; exact hkl)
        have ex : (rvs R)[k]'(by rw [rvs_length]; exact hkl) = .int .i32 R[k] := by simp [rvs]
        rw [ex] at hx
        have hx2 := (hbw.cell (p := ⟨b, off + k, none⟩) hbl).trans hx
        generalize R[k] = x at hx2 hnx hlb
        have HNX := Lib.hid hnx
        have HLB := Lib.hid hlb
        clear hx ex hcc hnx ho hword
        by_cases h32 : o.2.length < 32
        · have hs := step_add (o := o) hlb h32
          have HS := Lib.hid hs
          have h32I : (o.2.length : Int) < 32 := by omega
          clear hs hlb h32
          go_wp2_with (first
            | (go_at_call 59; refine (rletter_any _ _).mono ?_; rw [HLB.out]; rintro e w' ⟨rfl, rfl⟩)
            | (at_builtin; go_must (refine wpList_push wr rfl (.tmp 30) (.tmp 35) _ rfl w1.heap.size 21 _ 4 Tryz.underlying62 Tryz.i32info rfl _ _ rfl (by exact HO5.out) _ rfl rfl (by rw [rvs_length]; unfold maxLen; omega) (by rw [rvs_length]; omega) hsz ?_); intro v2 w2 hown2 hg2 hb2 _))
          go_roundw
          case rel => exact ⟨k + 1, _, by omega, HNX.out.symm, by rw [HS.out]; simp; omega, by rw [HS.out]; dsimp only; omega, by go_num, by rw [HS.out]; exact HO4.out.grown hg2 HDF.out, by rw [HS.out, rvs_snoc]; exact hown2, hbw.trans hb2⟩
          case measure => simp [intOf]; omega
        · have hs := step_full (o := o) hlb h32
          have HS := Lib.hid hs
          have h32I : ¬ (o.2.length : Int) < 32 := by omega
          clear hs hlb h32
          go_wp2_with (go_at_call 59; refine (rletter_any _ _).mono ?_; rw [HLB.out]; rintro e w' ⟨rfl, rfl⟩)
          go_roundw
          case rel => exact ⟨k + 1, _, by omega, HNX.out.symm, by rw [HS.out]; omega, by rw [HS.out]; omega, by go_num, by rw [HS.out]; exact HO4.out, by rw [HS.out]; exact HO5.out, hbw⟩
          case measure => simp [intOf]; omega
      · clear hword
        by_cases hkl : k < R.length
        · have hlb : letB R[k] = false := by
              cases h : letB R[k] with
              | true => exact absurd ⟨hkl, h⟩ hlet
              | false => rfl
          have hklI : decide ((k : Int) < (R.length : Int)) = true := decide_eq_true (by omega)
          have hklN : decide (k < R.length) = true := decide_eq_true hkl
          have hklJ : (k : Int) < (R.length : Int) := by omega
          have hnx := rw_next hkl
          rw [← ho] at hnx
          obtain ⟨b, off, rfl, hbl, hcc⟩ := HC.out (by rw [rvs_length]; omega)
          have hx := hcc k (by rw [rvs_length]; exact hkl)
          have ex : (rvs R)[k]'(by rw [rvs_length]; exact hkl) = .int .i32 R[k] := by simp [rvs]
          rw [ex] at hx
          have hx2 := (hbw.cell (p := ⟨b, off + k, none⟩) hbl).trans hx
          generalize R[k] = x at hx2 hnx hlb
          clear hx ex hcc
          have HNX := Lib.hid hnx
          have HLB := Lib.hid hlb
          clear hnx ho
          by_cases h0 : o.2.length = 0
          · have hs := step_idle (o := o) hlb h0
            have HS := Lib.hid hs
            have h0I : ¬ (0 : Int) < (o.2.length : Int) := by omega
            have h0D : decide ((0 : Int) < (o.2.length : Int)) = false := decide_eq_false h0I
            have h0E : decide (0 < o.2.length) = false := decide_eq_false (by omega)
            clear hs hlb h0
            go_wp2_with (go_at_call 59; refine (rletter_any _ _).mono ?_; rw [HLB.out]; rintro e w' ⟨rfl, rfl⟩)
            go_roundw
            case rel => exact ⟨k + 1, _, by omega, HNX.out.symm, by rw [HS.out]; omega, by rw [HS.out]; omega, by go_num, by rw [HS.out]; exact HO4.out, by rw [HS.out]; exact HO5.out, hbw⟩
            case measure => simp [intOf]; omega
          · have hs := step_tell (o := o) hlb h0
            have HS := Lib.hid hs
            have h0I : (0 : Int) < (o.2.length : Int) := by omega
            have h0D : decide ((0 : Int) < (o.2.length : Int)) = true := decide_eq_true h0I
            have h0E : decide (0 < o.2.length) = true := decide_eq_true (by omega)
            clear hs hlb h0
            go_wp2_with (first
              | (go_at_call 59; refine (rletter_any _ _).mono ?_; rw [HLB.out]; rintro e w' ⟨rfl, rfl⟩)
              | (go_at_call 60; go_must (refine (rput_any o.2 _ _ _ HRD5.out (Nat.le_refl _) (by omega)).mono ?_); rintro e w2 ⟨rfl, hb2⟩; have hsz2 : w1.heap.size ≤ w2.heap.size := Nat.le_trans hsz hb2.size; have ho4 := HO4.out.below hb2)
              | (at_builtin; go_must (refine wpList_push w2 rfl (.tmp 40) (.tmp 43) _ rfl w1.heap.size 9 _ 16 Tryz.underlying40 Tryz.strinfo rfl _ _ rfl (by exact ho4) _ rfl rfl (by rw [strs_length]; unfold maxLen; omega) (by rw [strs_length]; omega) hsz2 ?_); intro v3 w3 hown3 hg3 hb3 _))
            go_roundw
            case rel => exact ⟨k + 1, _, by omega, HNX.out.symm, by rw [HS.out]; simp, by rw [HS.out]; dsimp only; rw [List.length_append, List.length_singleton]; omega, by go_num, by rw [HS.out, strs_snoc]; exact hown3, by rw [HS.out]; exact Own.nil _ _ _, (hbw.trans (hb2.mono hsz)).trans hb3⟩
            case measure => simp [intOf]; omega
        · have hkE : k = R.length := by omega
          have hklI : decide ((k : Int) < (R.length : Int)) = false := decide_eq_false (by omega)
          have hklN : decide (k < R.length) = false := decide_eq_false hkl
          have hklJ : ¬ (k : Int) < (R.length : Int) := by omega
          have hnx := rw_last hkE
          rw [← ho] at hnx
          have hlb : letB 32 = false := by decide
          clear hkE
          have HNX := Lib.hid hnx
          have HLB := Lib.hid hlb
          clear hnx ho
          by_cases h0 : o.2.length = 0
          · have hs := step_idle (o := o) hlb h0
            have HS := Lib.hid hs
            have h0I : ¬ (0 : Int) < (o.2.length : Int) := by omega
            have h0D : decide ((0 : Int) < (o.2.length : Int)) = false := decide_eq_false h0I
            have h0E : decide (0 < o.2.length) = false := decide_eq_false (by omega)
            clear hs hlb h0
            go_wp2_with (go_at_call 59; refine (rletter_any _ _).mono ?_; rw [HLB.out]; rintro e w' ⟨rfl, rfl⟩)
            go_roundw
            case rel => exact ⟨k + 1, _, by omega, HNX.out.symm, by rw [HS.out]; omega, by rw [HS.out]; omega, by go_num, by rw [HS.out]; exact HO4.out, by rw [HS.out]; exact HO5.out, hbw⟩
            case measure => simp [intOf]; omega
          · have hs := step_tell (o := o) hlb h0
            have HS := Lib.hid hs
            have h0I : (0 : Int) < (o.2.length : Int) := by omega
            have h0D : decide ((0 : Int) < (o.2.length : Int)) = true := decide_eq_true h0I
            have h0E : decide (0 < o.2.length) = true := decide_eq_true (by omega)
            clear hs hlb h0
            go_wp2_with (first
              | (go_at_call 59; refine (rletter_any _ _).mono ?_; rw [HLB.out]; rintro e w' ⟨rfl, rfl⟩)
              | (go_at_call 60; go_must (refine (rput_any o.2 _ _ _ HRD5.out (Nat.le_refl _) (by omega)).mono ?_); rintro e w2 ⟨rfl, hb2⟩; have hsz2 : w1.heap.size ≤ w2.heap.size := Nat.le_trans hsz hb2.size; have ho4 := HO4.out.below hb2)
              | (at_builtin; go_must (refine wpList_push w2 rfl (.tmp 40) (.tmp 43) _ rfl w1.heap.size 9 _ 16 Tryz.underlying40 Tryz.strinfo rfl _ _ rfl (by exact ho4) _ rfl rfl (by rw [strs_length]; unfold maxLen; omega) (by rw [strs_length]; omega) hsz2 ?_); intro v3 w3 hown3 hg3 hb3 _))
            go_roundw
            case rel => exact ⟨k + 1, _, by omega, HNX.out.symm, by rw [HS.out]; simp, by rw [HS.out]; dsimp only; rw [List.length_append, List.length_singleton]; omega, by go_num, by rw [HS.out, strs_snoc]; exact hown3, by rw [HS.out]; exact Own.nil _ _ _, (hbw.trans (hb2.mono hsz)).trans hb3⟩
            case measure => simp [intOf]; omega
    · have hkI : ¬ (k : Int) ≤ (R.length : Int) := by omega
      rw [if_neg hke] at ho
      have HO := Lib.hid ho
      have HB2 := HB1.out
      clear ho
      go_wp2_with fail
      go_ret
      exact ⟨_, rfl, by unfold wordsR; rw [← HO.out]; exact HO4.out.more HB2.size, HB2.trans (hbw.mono HB2.size)⟩
end Go.Proofs.YtelhdkidnhfnbabGreatDoor
