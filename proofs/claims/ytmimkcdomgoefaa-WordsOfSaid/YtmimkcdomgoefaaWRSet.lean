/-
  The words of a text in order, each once, as the judge's other text says (newsstandref06.Set). Condition: at most 3000 bytes.
-/
import Derived.Test.YtmimkcdomgoefaaWView
namespace Go.Proofs.Ytmimkcdomgoefaa
open Go.RowKit

def InsRel (L : List (List UInt8)) (w1 : World) (u4 u5 : Value) (W : World) : Prop := ∃ i : Nat, i ≤ L.length ∧ u5 = .int .i64 (i : Int) ∧ Own W w1.heap.size 9 u4 (strs (insAll (L.take i))) ∧ Below w1.heap.size w1 W
def InRel (x : List UInt8) (P : List (List UInt8)) (W0 : World) (u : Value) (W : World) : Prop := ∃ j q : Nat, j ≤ P.length ∧ (∀ y ∈ P.take j, y < x) ∧ u = .int .i64 (j : Int) ∧ W = W0.drewN q
set_option maxHeartbeats 6400000 in
theorem rset_any (l : List UInt8) (w : World) (hl : l.length ≤ 3000) : Calls Try.prog 33 #[.string (str l)] w (MadeStrs w (setP (wordsS l))) := by
  have hW := rwords_any l w (by omega)
  have hc := words_count l
  rw [setP_ins]
  generalize wordsS l = L at *
  have hL : L.length ≤ 3001 := by omega
  have HW := Lib.hid hW
  clear hW hc hl
  go_enter Try.func33, Try.ntmps33
  go_wp2_with fail
  refine HW.out.mono ?_
  rintro e w1 ⟨v1, rfl, hown1, b1⟩
  have hr1 := hown1.rdv (Nat.le_refl _)
  obtain ⟨A, c, rfl, _, _, hcell⟩ := id hr1
  rw [strs_length L]
  have HC := Lib.hid hcell
  have HB1 := Lib.hid b1
  clear hown1 hr1 hcell b1
  go_wp2_with fail
  go_loopw [4, 5] (InsRel L w1) (fun _ u _ => L.length - (intOf u).toNat)
  case atStart => exact ⟨0, Nat.zero_le _, rfl, Own.nil _ _ _, Below.refl _ _⟩
  case round =>
    obtain ⟨i, hi, rfl, hown, hbw⟩ := hrel
    obtain ⟨we, hwe⟩ : ∃ we, we = wr := ⟨_, rfl⟩
    subst hwe
    have hsz := hbw.size
    by_cases hil : i < L.length
    · have hiI : (i : Int) < (L.length : Int) := by omega
      obtain ⟨b, o, rfl, hbl, hcc⟩ := HC.out (by rw [strs_length]; omega)
      have hx := hcc i (by rw [strs_length]; exact hil)
      rw [strs_at i hil] at hx
      have hnx := insAll_snoc hil
      have hPl := insAll_len (L.take i)
      rw [List.length_take] at hPl
      generalize L[i] = x at hx hnx
      generalize insAll (L.take i) = P at hown hnx hPl
      have hPm : P.length ≤ 3001 := by omega
      have hX : ∀ W', Below w1.heap.size w1 W' → W'.cell? ⟨b, o + i, none⟩ = some (.string (str x)) := fun W' hb => (hb.cell (p := ⟨b, o + i, none⟩) hbl).trans hx
      have hx2 := hX we hbw
      have hrd := hown.rdv (Nat.le_refl _)
      obtain ⟨A2, c2, rfl, hpc, hpm, hpcell⟩ := id hrd
      rw [strs_length] at hpc
      rw [strs_length P] at hrd hown ⊢
      have hrda : ∀ q : Nat, RdV ((we.drewN q).alloc (.cells #[] 9)) (we.heap.size + 1) (.slice A2 P.length c2) (strs P) := fun q => (hrd.below ((below_drewN (Below.refl _ _) q).alloc (Nat.le_refl _) _)).more (by omega)
      have HX := Lib.hid hX
      have HNX := Lib.hid hnx
      have HOWN := Lib.hid hown
      have HPC := Lib.hid hpcell
      have HRDA := Lib.hid hrda
      have HBW := Lib.hid hbw
      clear hX hnx hown hpcell hrd hrda hbw hcc hPl hx
      go_wp2_with fail
      go_loopw [6] (InRel x P we) (fun u _ => (P.length - intOf u).toNat)
      case atStart => exact ⟨0, 0, Nat.zero_le _, by simp, rfl, rfl⟩
      case round =>
        obtain ⟨j, q, hj, hlt, rfl, rfl⟩ := hrel
        by_cases hjl : j < P.length
        · have hjI : (j : Int) < (P.length : Int) := by omega
          have hjD : decide ((j : Int) < (P.length : Int)) = true := decide_eq_true hjI
          have hjE : decide (j < P.length) = true := decide_eq_true hjl
          obtain ⟨bp, op, rfl, _, hpc2⟩ := HPC.out (by rw [strs_length]; omega)
          have hy := hpc2 j (by rw [strs_length]; exact hjl)
          rw [strs_at j hjl] at hy
          have hnl := fun h : P[j] < x => take_lt hlt hjl h
          have hhv := fun h : P[j] = x => ins_have hjl hlt h
          have hnw := fun (h1 : ¬ P[j] < x) (h2 : ¬ P[j] = x) => ins_new (Nat.le_of_lt hjl) hlt (fun _ => ⟨h1, h2⟩)
          generalize P[j] = y at hy hnl hhv hnw
          clear hpc2 hlt
          by_cases hyx : y < x
          · have hbl := less_yes hyx
            have hn := hnl hyx
            have HNL := Lib.hid hn
            clear hnl hhv hnw hn hyx
            go_wp2_with fail
            go_quiet (fail)
            go_wp2_with fail
            go_roundw
            case rel => exact ⟨j + 1, _, by omega, HNL.out, by go_num, rfl⟩
            case measure => simp [intOf]; omega
          · have hbl := less_no hyx
            by_cases hye : y = x
            · have hyc : (y == x) = true := by simp [hye]
              have hn := hhv hye
              have HHV := Lib.hid hn
              clear hnl hhv hnw hn hyx hye
              go_wp2_with fail
              go_quiet (fail)
              go_wp2_with fail
              go_quiet (fail)
              go_wp2_with fail
              go_roundw
              case rel => exact ⟨i + 1, by omega, by go_num, by rw [HNX.out, HHV.out]; exact HOWN.out, by first | exact below_drewN HBW.out _ | exact below_drewN (below_drewN HBW.out _) _ | exact below_drewN (below_drewN (below_drewN HBW.out _) _) _⟩
              case measure => simp [intOf]; omega
            · have hyc : (y == x) = false := by simp [hye]
              have hn := hnw hyx hye
              have HN := Lib.hid hn
              clear hnl hhv hnw hn hyx hye
              go_wp2_with fail
              go_quiet (fail)
              go_wp2_with fail
              go_quiet (fail)
              go_wp2_with (at_builtin; go_must (refine wpList_append_src _ (by rfl) (.tmp 48) (.tmp 51) 34 (by rfl) we.heap.size 9 (.string ⟨#[]⟩) 16 Try.underlying34 Try.strinfo rfl _ [] (by rfl) (by exact Own.empty _ _ _ rfl) _ (strs (P.drop j)) (by rfl) (by exact src_drop (HRDA.out _) hj rfl (fun h => by first | rfl | (simp [Addr.add_lit]; done))) (strs_one _) (by rw [strs_length, List.length_drop]; unfold maxLen; simp only [List.length_nil]; omega) (by rw [strs_length, List.length_drop]; simp only [List.length_nil]; omega) (by simp) ?_); intro v6 w6 hown6 hg6 hb6 _)
              all_goals
                have b6 : Below we.heap.size we w6 := by first | exact ((Below.refl _ _).alloc (Nat.le_refl _) _).trans hb6 | exact ((below_drewN (Below.refl _ _) _).alloc (Nat.le_refl _) _).trans hb6
                rw [List.nil_append] at hown6
                have hz6 := b6.size
                have hj2 : (j : Int) ≤ (c2 : Int) := by omega
                have hrd6 := hown6.rdv (Nat.le_refl _)
                have hx6 : ∀ W', Below w6.heap.size w6 W' → W'.cell? ⟨b, o + i, none⟩ = some (.string (str x)) := fun W' hb => HX.out W' ((HBW.out.trans (b6.mono hsz)).trans (hb.mono (by omega)))
                have hx7 := hx6 w6 (Below.refl _ _)
                have hrdo : ∀ W', Below w6.heap.size w6 W' → RdV W' we.heap.size (.slice (some ⟨bp, op, none⟩) P.length c2) (strs P) := fun W' hb => (HOWN.out.rdv (Nat.le_refl _)).below (b6.trans (hb.mono hz6))
                have HX6 := Lib.hid hx6
                have HRDO := Lib.hid hrdo
                have HRD6 := Lib.hid hrd6
                clear hx6 hrdo hrd6 hown6 hg6 hb6 hx2
                go_region_held3 (fun W' => W'.cell? ⟨b, o + i, none⟩ = some (.string (str x)))
                  (first
                    | (go_keep; done)
                    | exact HX6.out _ (((Below.refl _ _).alloc (Nat.le_refl _) _).trans (hb7.mono (by simp)))
                    | exact HX6.out _ (((below_drewN (Below.refl _ _) _).alloc (Nat.le_refl _) _).trans (hb7.mono (by simp)))
                    | exact HX6.out _ ((((Below.refl _ _).alloc (Nat.le_refl _) _).trans (hb7.mono (by simp))).trans hb8)
                    | exact HX6.out _ ((((below_drewN (Below.refl _ _) _).alloc (Nat.le_refl _) _).trans (hb7.mono (by simp))).trans hb8))
                  (first
                    | (refine step_append_view _ (by rfl) (.tmp 56) (.tmp 61) 34 (by rfl) 9 (.string ⟨#[]⟩) 16 Try.underlying34 Try.strinfo rfl _ j (strs (P.take j)) (by rfl) (by rw [strs_length, List.length_take]; omega) (by first | exact view_take (HRDO.out _ ((Below.refl _ _).alloc (Nat.le_refl _) _)) hj (fun h => by first | rfl | (simp [Addr.add_lit]; done) | (simp [h]; done) | (simp [h, Addr.add_lit]; done)) | exact view_take (HRDO.out _ ((below_drewN (Below.refl _ _) _).alloc (Nat.le_refl _) _)) hj (fun h => by first | rfl | (simp [Addr.add_lit]; done) | (simp [h]; done) | (simp [h, Addr.add_lit]; done))) _ (.string (str x)) (by rfl) (by exact src_one rfl) rfl (by unfold maxLen; omega) (by omega) ?_; intro v7 w7 hown7 hb7)
                    | (refine step_append_src _ (by rfl) (.tmp 62) (.tmp 63) 34 (by rfl) w6.heap.size 9 (.string ⟨#[]⟩) 16 Try.underlying34 Try.strinfo rfl _ (strs (P.take j) ++ [.string (str x)]) (by rfl) (by exact hown7.more (by simp)) _ (strs (P.drop j)) (by rfl) (by exact (HRD6.out.below (by first | exact ((Below.refl _ _).alloc (Nat.le_refl _) _).trans (hb7.mono (by simp)) | exact ((below_drewN (Below.refl _ _) _).alloc (Nat.le_refl _) _).trans (hb7.mono (by simp)))).src) (strs_one _) (by rw [List.length_append, strs_length, strs_length, List.length_take, List.length_drop]; unfold maxLen; simp only [List.length_singleton]; omega) (by rw [List.length_append, strs_length, strs_length, List.length_take, List.length_drop]; simp only [List.length_singleton]; omega) (by exact Nat.le_trans (by simp) hb7.size) ?_; intro v8 w8 hown8 hg8 hb8 _))
                have h68 : Below w6.heap.size w6 w8 := by first | exact ((((Below.refl _ _).alloc (Nat.le_refl _) _).trans (hb7.mono (by simp))).trans hb8) | exact ((((below_drewN (Below.refl _ _) _).alloc (Nat.le_refl _) _).trans (hb7.mono (by simp))).trans hb8)
                have h8 : Own w8 w1.heap.size 9 v8 (strs (insP x P)) := by rw [HN.out, ← strs_ins]; exact hown8.more (Nat.le_trans hsz hz6)
                have B8 : Below w1.heap.size w1 w8 := HBW.out.trans ((b6.mono hsz).trans (h68.mono (Nat.le_trans hsz hz6)))
                have H8 := Lib.hid h8
                have HB8 := Lib.hid B8
                clear h68 h8 B8 hown7 hb7 hown8 hg8 hb8 b6 HN
                go_wp2_with fail
                go_roundw
                case rel => exact ⟨i + 1, by omega, by go_num, by rw [HNX.out]; exact H8.out, by first | exact HB8.out | exact below_drewN HB8.out _⟩
                case measure => simp [intOf]; omega
        · have hjE' : j = P.length := by omega
          have hjI : ¬ (j : Int) < (P.length : Int) := by omega
          have hjD : decide ((j : Int) < (P.length : Int)) = false := decide_eq_false hjI
          have hjE : decide (j < P.length) = false := decide_eq_false hjl
          have hn := ins_new hj hlt (fun h => (hjl h).elim)
          have HN := Lib.hid hn
          clear hlt hn hjE' hjl
          go_wp2_with fail
          go_quiet (fail)
          go_wp2_with fail
          go_quiet (fail)
          go_wp2_with (at_builtin; go_must (refine wpList_append_src _ (by rfl) (.tmp 48) (.tmp 51) 34 (by rfl) we.heap.size 9 (.string ⟨#[]⟩) 16 Try.underlying34 Try.strinfo rfl _ [] (by rfl) (by exact Own.empty _ _ _ rfl) _ (strs (P.drop j)) (by rfl) (by exact src_drop (HRDA.out _) hj rfl (fun h => by first | rfl | (simp [h]; done))) (strs_one _) (by rw [strs_length, List.length_drop]; unfold maxLen; simp only [List.length_nil]; omega) (by rw [strs_length, List.length_drop]; simp only [List.length_nil]; omega) (by simp) ?_); intro v6 w6 hown6 hg6 hb6 _)
          all_goals
            have b6 : Below we.heap.size we w6 := by first | exact ((Below.refl _ _).alloc (Nat.le_refl _) _).trans hb6 | exact ((below_drewN (Below.refl _ _) _).alloc (Nat.le_refl _) _).trans hb6
            rw [List.nil_append] at hown6
            have hz6 := b6.size
            have hj2 : (j : Int) ≤ (c2 : Int) := by omega
            have hrd6 := hown6.rdv (Nat.le_refl _)
            have hx6 : ∀ W', Below w6.heap.size w6 W' → W'.cell? ⟨b, o + i, none⟩ = some (.string (str x)) := fun W' hb => HX.out W' ((HBW.out.trans (b6.mono hsz)).trans (hb.mono (by omega)))
            have hx7 := hx6 w6 (Below.refl _ _)
            have hrdo : ∀ W', Below w6.heap.size w6 W' → RdV W' we.heap.size (.slice A2 P.length c2) (strs P) := fun W' hb => (HOWN.out.rdv (Nat.le_refl _)).below (b6.trans (hb.mono hz6))
            have HX6 := Lib.hid hx6
            have HRDO := Lib.hid hrdo
            have HRD6 := Lib.hid hrd6
            clear hx6 hrdo hrd6 hown6 hg6 hb6 hx2
            go_region_held3 (fun W' => W'.cell? ⟨b, o + i, none⟩ = some (.string (str x)))
              (first
                | (go_keep; done)
                | exact HX6.out _ (((Below.refl _ _).alloc (Nat.le_refl _) _).trans (hb7.mono (by simp)))
                | exact HX6.out _ (((below_drewN (Below.refl _ _) _).alloc (Nat.le_refl _) _).trans (hb7.mono (by simp)))
                | exact HX6.out _ ((((Below.refl _ _).alloc (Nat.le_refl _) _).trans (hb7.mono (by simp))).trans hb8)
                | exact HX6.out _ ((((below_drewN (Below.refl _ _) _).alloc (Nat.le_refl _) _).trans (hb7.mono (by simp))).trans hb8))
              (first
                | (refine step_append_view _ (by rfl) (.tmp 56) (.tmp 61) 34 (by rfl) 9 (.string ⟨#[]⟩) 16 Try.underlying34 Try.strinfo rfl _ j (strs (P.take j)) (by rfl) (by rw [strs_length, List.length_take]; omega) (by first | exact view_take (HRDO.out _ ((Below.refl _ _).alloc (Nat.le_refl _) _)) hj (fun h => by first | rfl | (simp [Addr.add_lit]; done) | (simp [h]; done) | (simp [h, Addr.add_lit]; done)) | exact view_take (HRDO.out _ ((below_drewN (Below.refl _ _) _).alloc (Nat.le_refl _) _)) hj (fun h => by first | rfl | (simp [Addr.add_lit]; done) | (simp [h]; done) | (simp [h, Addr.add_lit]; done))) _ (.string (str x)) (by rfl) (by exact src_one rfl) rfl (by unfold maxLen; omega) (by omega) ?_; intro v7 w7 hown7 hb7)
                | (refine step_append_src _ (by rfl) (.tmp 62) (.tmp 63) 34 (by rfl) w6.heap.size 9 (.string ⟨#[]⟩) 16 Try.underlying34 Try.strinfo rfl _ (strs (P.take j) ++ [.string (str x)]) (by rfl) (by exact hown7.more (by simp)) _ (strs (P.drop j)) (by rfl) (by exact (HRD6.out.below (by first | exact ((Below.refl _ _).alloc (Nat.le_refl _) _).trans (hb7.mono (by simp)) | exact ((below_drewN (Below.refl _ _) _).alloc (Nat.le_refl _) _).trans (hb7.mono (by simp)))).src) (strs_one _) (by rw [List.length_append, strs_length, strs_length, List.length_take, List.length_drop]; unfold maxLen; simp only [List.length_singleton]; omega) (by rw [List.length_append, strs_length, strs_length, List.length_take, List.length_drop]; simp only [List.length_singleton]; omega) (by exact Nat.le_trans (by simp) hb7.size) ?_; intro v8 w8 hown8 hg8 hb8 _))
            have h68 : Below w6.heap.size w6 w8 := by first | exact ((((Below.refl _ _).alloc (Nat.le_refl _) _).trans (hb7.mono (by simp))).trans hb8) | exact ((((below_drewN (Below.refl _ _) _).alloc (Nat.le_refl _) _).trans (hb7.mono (by simp))).trans hb8)
            have h8 : Own w8 w1.heap.size 9 v8 (strs (insP x P)) := by rw [HN.out, ← strs_ins]; exact hown8.more (Nat.le_trans hsz hz6)
            have B8 : Below w1.heap.size w1 w8 := HBW.out.trans ((b6.mono hsz).trans (h68.mono (Nat.le_trans hsz hz6)))
            have H8 := Lib.hid h8
            have HB8 := Lib.hid B8
            clear h68 h8 B8 hown7 hb7 hown8 hg8 hb8 b6 HN
            go_wp2_with fail
            go_roundw
            case rel => exact ⟨i + 1, by omega, by go_num, by rw [HNX.out]; exact H8.out, by first | exact HB8.out | exact below_drewN HB8.out _⟩
            case measure => simp [intOf]; omega
    · have hiI : ¬ (i : Int) < (L.length : Int) := by omega
      rw [List.take_of_length_le (by omega)] at hown
      have HO := Lib.hid hown
      have HB2 := Lib.hid (HB1.out.trans (hbw.mono HB1.out.size))
      clear hown hbw
      go_wp2_with fail
      go_ret
      exact ⟨_, rfl, HO.out.more HB1.out.size, HB2.out⟩
end Go.Proofs.Ytmimkcdomgoefaa
