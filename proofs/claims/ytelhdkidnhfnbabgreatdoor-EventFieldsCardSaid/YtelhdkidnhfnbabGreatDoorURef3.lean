/-
  The document's clean text; beginnings, the program's and the document's. Condition: a length within 2^40.
-/
import Derived.Test.YtelhdkidnhfnbabGreatDoorURef2
namespace Go.Proofs.YtelhdkidnhfnbabGreatDoor
open Go.RowKit
open Go.Lib (decodeL encodeRune runeCells)

def RCleanRel (R : List Int) (w : World) (u4 u5 u6 : Value) (W : World) : Prop :=
  ∃ (k : Nat) (o : List Int × Bool), k ≤ R.length ∧ o = (R.take k).foldl cleanStep ([], false) ∧ u6 = .int .i64 (k : Int) ∧ u5 = .bool o.2 ∧ Own W w.heap.size 21 u4 (rvs o.1) ∧ Below w.heap.size w W
theorem take_snoc_fold {R : List Int} {k : Nat} (h : k < R.length) : (R.take (k + 1)).foldl cleanStep ([], false) = cleanStep ((R.take k).foldl cleanStep ([], false)) R[k] := by
  rw [List.take_succ_eq_append_getElem h, foldl_snoc]
set_option maxHeartbeats 3200000 in
theorem rclean_any (l : List UInt8) (w : World) (hl : l.length ≤ 1099511627776) :
    Calls Tryz.prog 54 #[.string (str l)] w (Made w (.string (str (cleanS l)))) := by
  obtain ⟨R, hR⟩ : ∃ R, R = runes l := ⟨_, rfl⟩
  have hrl := runes_len l
  unfold cleanS
  have hF := rrunes_any l w hl
  rw [← hR] at hrl hF ⊢
  have HF := Lib.hid hF
  have hrl2 : R.length ≤ 1099511627776 := by omega
  have HRL := Lib.hid hrl2
  clear hR hF hrl hrl2
  go_enter Tryz.func54, Tryz.ntmps54
  go_wp2_with (go_at_call 57; refine HF.out.mono ?_; rintro e w1 ⟨v, rfl, hown, b1⟩)
  obtain ⟨A, c, rfl, hc1, hc2, hcell⟩ := hown.rdv (Nat.le_refl _)
  rw [rvs_length R]
  have HC := Lib.hid hcell
  have HB1 := Lib.hid b1
  clear hown hcell hc1 hc2 b1
  go_wp2_with fail
  go_loopw [4, 5, 6] (RCleanRel R w1) (fun _ _ u _ => R.length - (intOf u).toNat)
  case atStart => exact ⟨0, ([], false), Nat.zero_le _, rfl, rfl, rfl, Own.nil _ _ _, Below.refl _ _⟩
  case round =>
    obtain ⟨k, o, hk, ho, rfl, rfl, hown, hbw⟩ := hrel
    have hsz := hbw.size
    have hrl2 := HRL.out
    by_cases hkl : k < R.length
    · have hkI : (k : Int) < (R.length : Int) := by omega
      obtain ⟨b, off, rfl, hbl, hcc⟩ := HC.out (by rw [rvs_length]; omega)
      have hx := hcc k (by rw [rvs_length]; exact hkl)
      have ex : (rvs R)[k]'(by rw [rvs_length]; exact hkl) = .int .i32 R[k] := by simp [rvs]
      rw [ex] at hx
      have hx2 := (hbw.cell (p := ⟨b, off + k, none⟩) hbl).trans hx
      have hjn := take_snoc_fold hkl
      rw [← ho] at hjn
      have hol := cleanR_len (R.take k) ([], false)
      rw [← ho] at hol
      have htk : (R.take k).length ≤ k := List.length_take_le _ _
      simp only [List.length_nil, Nat.zero_add] at hol
      have hol2 : o.1.length + 2 ≤ 8796093022208 := by have := HRL.out; omega
      generalize R[k] = x at hx2 hjn
      have HOL := Lib.hid hol2
      have HJN := Lib.hid hjn
      clear hx ex hcc hjn hol hol2 htk ho
      cases hb : blankB x with
      | true =>
        have HS := Lib.hid (step_blank (o := o) hb)
        have HBL := Lib.hid hb
        obtain ⟨A4, c4, hv4, _⟩ := hown.rdv (Nat.le_refl _)
        subst hv4
        rw [rvs_length o.1] at hown ⊢
        have hbool : decide ((0 : Int) < (o.1.length : Int)) = decide (o.1 ≠ []) := by
          by_cases h : o.1 = []
          · rw [h]; rfl
          · have := List.length_pos_iff.2 h
            rw [decide_eq_true h, decide_eq_true (by omega)]
        have HBO := Lib.hid hbool
        clear hb hbool
        go_wp2_with (go_at_call 73; refine (rblank_any _ _).mono ?_; rw [HBL.out]; rintro e w' ⟨rfl, rfl⟩)
        go_roundw
        case rel => exact ⟨k + 1, _, by omega, HJN.out.symm, by go_num, by rw [HS.out]; dsimp only; rw [← HBO.out]; first | rfl | simp, by rw [HS.out]; exact hown, hbw⟩
        case measure => simp [intOf]; omega
      | false =>
        cases hu : unseenB x with
        | true =>
          have HS := Lib.hid (step_unseen (o := o) hb hu)
          have HBL := Lib.hid hb
          have hun := (unseen_iff x).1 hu
          have hun2 : decide (x < 32) = true ∨ (decide (x < 32) = false ∧ decide (127 ≤ x) = true ∧ decide (x ≤ 159) = true) := by
            simp only [decide_eq_true_eq, decide_eq_false_iff_not]
            omega
          clear hb hu hun
          rcases hun2 with d1 | ⟨d1, d2, d3⟩
          all_goals
            go_wp2_with (go_at_call 73; refine (rblank_any _ _).mono ?_; rw [HBL.out]; rintro e w' ⟨rfl, rfl⟩)
            go_roundw
            case rel => exact ⟨k + 1, _, by omega, HJN.out.symm, by go_num, by rw [HS.out], by rw [HS.out]; exact hown, hbw⟩
            case measure => simp [intOf]; omega
        | false =>
          have HBL := Lib.hid hb
          have hun := (unseen_no x).1 hu
          have d1 : decide (x < 32) = false := decide_eq_false (by omega)
          have hun2 : decide (127 ≤ x) = false ∨ (decide (127 ≤ x) = true ∧ decide (x ≤ 159) = false) := by
            simp only [decide_eq_true_eq, decide_eq_false_iff_not]
            omega
          cases hw : o.2 with
          | false =>
            have HS := Lib.hid (step_keep (o := o) hb hu hw)
            clear hb hu hun hw
            rcases hun2 with d2 | ⟨d2, d3⟩
            all_goals
              go_wp2_with (first
                | (go_at_call 73; refine (rblank_any _ _).mono ?_; rw [HBL.out]; rintro e w' ⟨rfl, rfl⟩)
                | (at_builtin; go_must (refine wpList_push wr rfl (.tmp 39) (.tmp 41) _ rfl w1.heap.size 21 _ 4 Tryz.underlying62 Tryz.i32info rfl _ _ rfl (by exact hown) _ rfl rfl (by rw [rvs_length]; unfold maxLen; have := HOL.out; omega) (by rw [rvs_length]; have := HOL.out; omega) hsz ?_); intro v2 w2 hown2 hg2 hb2 _))
              go_roundw
              case rel => exact ⟨k + 1, _, by omega, HJN.out.symm, by go_num, by rw [HS.out], by rw [HS.out, rvs_snoc]; exact hown2, hbw.trans hb2⟩
              case measure => simp [intOf]; omega
          | true =>
            have HS := Lib.hid (step_wait (o := o) hb hu hw)
            clear hb hu hun hw
            rcases hun2 with d2 | ⟨d2, d3⟩
            all_goals
              go_wp2_with (first
                | (go_at_call 73; refine (rblank_any _ _).mono ?_; rw [HBL.out]; rintro e w' ⟨rfl, rfl⟩)
                | (at_builtin; refine wpList_push wr rfl (.tmp 36) (.tmp 37) _ rfl w1.heap.size 21 _ 4 Tryz.underlying62 Tryz.i32info rfl _ _ rfl (by exact hown) _ rfl rfl (by rw [rvs_length]; unfold maxLen; have := HOL.out; omega) (by rw [rvs_length]; have := HOL.out; omega) hsz ?_; intro v2 w2 hown2 hg2 hb2 _; have hsz2 : w1.heap.size ≤ w2.heap.size := Nat.le_trans hsz hg2.size; rw [← rvs_snoc] at hown2)
                | (at_builtin; refine wpList_push w2 rfl (.tmp 39) (.tmp 41) _ rfl w1.heap.size 21 _ 4 Tryz.underlying62 Tryz.i32info rfl _ _ rfl (by exact hown2) _ rfl rfl (by rw [rvs_length, List.length_append]; unfold maxLen; have := HOL.out; simp only [List.length_singleton]; omega) (by rw [rvs_length, List.length_append]; have := HOL.out; simp only [List.length_singleton]; omega) hsz2 ?_; intro v3 w3 hown3 hg3 hb3 _))
              go_roundw
              case rel => exact ⟨k + 1, _, by omega, HJN.out.symm, by go_num, by rw [HS.out], by rw [HS.out, rvs_snoc]; exact hown3, (hbw.trans hb2).trans hb3⟩
              case measure => simp [intOf]; omega
    · have hkI : ¬ (k : Int) < (R.length : Int) := by omega
      rw [List.take_of_length_le (by omega)] at ho
      have hol := cleanR_len R ([], false)
      rw [← ho] at hol
      simp only [List.length_nil, Nat.zero_add] at hol
      have hol2 : o.1.length ≤ 8796093022208 := by omega
      have hrd := hown.rdv (Nat.le_refl _)
      have hfin : cleanR R = o.1 := by rw [ho]; rfl
      have HF := Lib.hid hfin
      have HB2 := HB1.out
      clear ho hfin hol
      go_wp2_with (go_at_call 60; go_must (refine (rput_any _ _ _ _ hrd (Nat.le_refl _) hol2).mono ?_); rintro e w2 ⟨rfl, b2⟩)
      go_ret
      exact ⟨by rw [HF.out]; rfl, HB2.trans ((hbw.trans (b2.mono hsz)).mono HB2.size)⟩

/-! ### beginnings -/
def RCutRel (l : List UInt8) (n : Int) (u : Value) : Prop := ∃ k : Nat, k ≤ l.length ∧ (k = 0 ∨ (k : Int) ≤ n) ∧ cutN l n = k + cutN (l.drop k) (n - k) ∧ u = .int .i64 (k : Int)
theorem cut_stop {l : List UInt8} {n : Int} {k : Nat} (h : cutN l n = k + cutN (l.drop k) (n - k)) (hk : k < l.length) (hn : n - k < ((decodeL (l.drop k)).2 : Int)) : cutN l n = k := by
  rw [h, cutN_step (drop_ne hk), if_pos hn]
  rfl
theorem cut_on {l : List UInt8} {n : Int} {k : Nat} (h : cutN l n = k + cutN (l.drop k) (n - k)) (hk : k < l.length) (hn : ¬ n - k < ((decodeL (l.drop k)).2 : Int)) :
    cutN l n = (k + (decodeL (l.drop k)).2) + cutN (l.drop (k + (decodeL (l.drop k)).2)) (n - ((k + (decodeL (l.drop k)).2 : Nat) : Int)) := by
  rw [cutN_step (drop_ne hk), if_neg hn, List.drop_drop] at h
  rw [h, show n - ((k + (decodeL (l.drop k)).2 : Nat) : Int) = n - k - ((decodeL (l.drop k)).2 : Int) by omega]
  omega
theorem cut_end {l : List UInt8} {n : Int} {k : Nat} (h : cutN l n = k + cutN (l.drop k) (n - k)) (hk : ¬ k < l.length) : cutN l n = k := by
  rw [h, List.drop_eq_nil_of_le (by omega), cutN_nil]
  rfl
def CutRel (l : List UInt8) (n : Int) (w : World) (u : Value) (W : World) : Prop :=
  ∃ k e : Nat, k ≤ l.length ∧ cutN l n = e + cutN (l.drop e) (n - e) ∧ ((k = 0 ∧ e = 0) ∨ (e < l.length ∧ (e : Int) ≤ n ∧ k = e + (decodeL (l.drop e)).2)) ∧ u = .int .i64 (e : Int) ∧ W = w.iter (str l) k
end Go.Proofs.YtelhdkidnhfnbabGreatDoor
