/-
  Whether a text has a word, or one that begins so, as the judge's other text says (newsstandref06.Has, Begins); WordsHas's calls. Condition: at most 2^37 bytes.
-/
import Derived.Test.YtmimkcdomgoefaaWBoth
namespace Go.Proofs.Ytmimkcdomgoefaa
open Go.RowKit
open Go.Lib (decodeL encodeRune)

def firstB (p : List UInt8 → List UInt8 → Bool) (M : List (List UInt8)) (x : List UInt8) : Bool := match M with | [] => false | f :: _ => p x f
theorem likeB_first (p : List UInt8 → List UInt8 → Bool) (L M : List (List UInt8)) : likeB p L M = L.any (firstB p M) := by
  cases M with
  | nil =>
    show false = L.any fun _ => false
    induction L with
    | nil => rfl
    | cons x L ih => rw [List.any_cons, Bool.false_or]; exact ih
  | cons f M => rfl
theorem first_none (p : List UInt8 → List UInt8 → Bool) (M : List (List UInt8)) (x : List UInt8) (h : M.length = 0) : firstB p M x = false := by
  rw [List.length_eq_zero_iff.1 h]; rfl
theorem first_some (p : List UInt8 → List UInt8 → Bool) (M : List (List UInt8)) (x : List UInt8) (h : 0 < M.length) : firstB p M x = p x (M[0]'h) := by
  cases M with
  | nil => cases h
  | cons f M => rfl
def FitRel (P : List UInt8 → Bool) (L : List (List UInt8)) (w : World) (u : Value) (W : World) : Prop := ∃ k q : Nat, k ≤ L.length ∧ L.any P = (L.drop k).any P ∧ u = .int .i64 (k : Int) ∧ W = w.drewN q
theorem pre_no {x f : List UInt8} (h : ¬ f.length ≤ x.length) : Lib.hasPrefix x f = false := by
  rw [← Lib.hasPrefix_of_take, decide_eq_false h, Bool.false_and]
theorem pre_at {x f : List UInt8} (h : f.length ≤ x.length) : Lib.hasPrefix x f = (x.take f.length == f) := by
  rw [← Lib.hasPrefix_of_take, decide_eq_true h, Bool.true_and]

set_option maxHeartbeats 6400000 in
theorem rhas_any (a b : List UInt8) (w : World) (ha : a.length ≤ 137438953472) (hb : b.length ≤ 137438953472) : Calls Try.prog 36 #[.string (str a), .string (str b)] w (Made w (.bool (likeB (fun x y => x == y) (wordsS a) (wordsS b)))) := by
  have k1 := fun W => rwords_any a W ha
  have k2 := fun W => rwords_any b W hb
  rw [likeB_first]
  generalize wordsS a = L at *
  generalize wordsS b = M at *
  obtain ⟨P, hPe⟩ : ∃ P, P = firstB (fun x y => x == y) M := ⟨_, rfl⟩
  rw [← hPe]
  obtain ⟨F, hF⟩ : ∃ F, F = L.any P := ⟨_, rfl⟩
  rw [← hF]
  have H1 := Lib.hid k1
  have H2 := Lib.hid k2
  have HF := Lib.hid hF
  have HP := Lib.hid hPe
  clear k1 k2 hF hPe ha hb
  go_enter Try.func36, Try.ntmps36
  go_wp2_with fail
  refine (H1.out _).mono ?_
  rintro e w1 ⟨v1, rfl, hown1, b1⟩
  have hr1 := hown1.rdv (Nat.le_refl _)
  have HR1 := Lib.hid hr1
  clear hown1 hr1
  go_wp2_with fail
  refine (H2.out _).mono ?_
  rintro e w2 ⟨v2, rfl, hown2, hb2⟩
  have b2 : Below w.heap.size w w2 := b1.trans (hb2.mono b1.size)
  have hr2 := hown2.rdv (Nat.le_refl _)
  have hr1 := HR1.out.below hb2
  obtain ⟨A1, c1, rfl, ha1, ha2, hac⟩ := hr1
  obtain ⟨A2, c2, rfl, hb1, hb2', hbc⟩ := hr2
  rw [strs_length] at ha1 hb1
  rw [strs_length L, strs_length M]
  have hlenL : (L.length : Int) ≤ (maxLen : Int) := by omega
  have hlenM : (M.length : Int) ≤ (maxLen : Int) := by omega
  unfold maxLen at hlenL hlenM
  have HB2 := Lib.hid b2
  have HAC := Lib.hid hac
  have HBC := Lib.hid hbc
  clear b1 b2 hb2 hown2 hac hbc ha1 ha2 hb1 hb2' HR1 H1 H2
  go_wp2_with fail
  go_loopw [7] (FitRel P L w2) (fun u _ => (L.length - intOf u).toNat)
  case atStart => exact ⟨0, 0, Nat.zero_le _, rfl, rfl, rfl⟩
  case round =>
    obtain ⟨k, q, hk, hfd, rfl, rfl⟩ := hrel
    rw [← HF.out] at hfd
    by_cases hkl : k < L.length
    · obtain ⟨bb, oo, rfl, _, hc⟩ := HAC.out (by rw [strs_length]; omega)
      have hx := hc k (by rw [strs_length]; exact hkl)
      rw [strs_at k hkl] at hx
      rw [List.drop_eq_getElem_cons hkl, List.any_cons] at hfd
      have hkI : (k : Int) < (L.length : Int) := by omega
      generalize L[k] = x at hx hfd
      clear hc
      by_cases h0 : M.length = 0
      · have hP := first_none (fun x y => x == y) M x h0
        rw [← HP.out] at hP
        have h0I : ¬ (0 : Int) < (M.length : Int) := by omega
        have h0D : decide ((0 : Int) < (M.length : Int)) = false := decide_eq_false h0I
        have h0E : decide (0 < M.length) = false := decide_eq_false (by omega)
        clear h0
        rw [hP, Bool.false_or] at hfd
        have HFD := Lib.hid hfd
        clear hfd hP
        go_wp2_with fail
        go_quiet (fail)
        go_wp2_with fail
        go_roundw
        case rel => exact ⟨k + 1, _, by omega, by rw [← HF.out]; exact HFD.out, by go_num, rfl⟩
        case measure => simp [intOf]; omega
      · obtain ⟨b2, o2, rfl, _, hc2⟩ := HBC.out (by rw [strs_length]; omega)
        have hy := hc2 0 (by rw [strs_length]; omega)
        rw [strs_at 0 (by omega), Nat.add_zero] at hy
        have hP := first_some (fun x y => x == y) M x (by omega)
        rw [← HP.out] at hP
        have h0I : (0 : Int) < (M.length : Int) := by omega
        have h0D : decide ((0 : Int) < (M.length : Int)) = true := decide_eq_true h0I
        have h0E : decide (0 < M.length) = true := decide_eq_true (by omega)
        generalize M[0] = f at hy hP
        clear hc2 h0
        by_cases hxy : x = f
        · have hxc : (x == f) = true := by simp [hxy]
          rw [hxc] at hP
          clear hxy
          rw [hP, Bool.true_or] at hfd
          have HFD := Lib.hid hfd
          clear hfd hP
          go_wp2_with fail
          go_quiet (fail)
          go_wp2_with fail
          go_ret
          exact ⟨by rw [HFD.out]; rfl, by first | exact below_drewN HB2.out _ | exact below_drewN (below_drewN HB2.out _) _⟩
        · have hxc : (x == f) = false := by simp [hxy]
          rw [hxc] at hP
          clear hxy
          rw [hP, Bool.false_or] at hfd
          have HFD := Lib.hid hfd
          clear hfd hP
          go_wp2_with fail
          go_quiet (fail)
          go_wp2_with fail
          go_roundw
          case rel => exact ⟨k + 1, _, by omega, by rw [← HF.out]; exact HFD.out, by go_num, rfl⟩
          case measure => simp [intOf]; omega
    · have hkI : ¬ (k : Int) < (L.length : Int) := by omega
      rw [List.drop_eq_nil_of_le (by omega)] at hfd
      have HFD := Lib.hid hfd
      clear hfd
      go_wp2_with fail
      go_ret
      exact ⟨by rw [HFD.out]; rfl, below_drewN HB2.out _⟩

set_option maxHeartbeats 6400000 in
theorem rbeg_any (a b : List UInt8) (w : World) (ha : a.length ≤ 137438953472) (hb : b.length ≤ 137438953472) : Calls Try.prog 38 #[.string (str a), .string (str b)] w (Made w (.bool (likeB Lib.hasPrefix (wordsS a) (wordsS b)))) := by
  have k1 := fun W => rwords_any a W ha
  have k2 := fun W => rwords_any b W hb
  rw [likeB_first]
  generalize wordsS a = L at *
  generalize wordsS b = M at *
  obtain ⟨P, hPe⟩ : ∃ P, P = firstB Lib.hasPrefix M := ⟨_, rfl⟩
  rw [← hPe]
  obtain ⟨F, hF⟩ : ∃ F, F = L.any P := ⟨_, rfl⟩
  rw [← hF]
  have H1 := Lib.hid k1
  have H2 := Lib.hid k2
  have HF := Lib.hid hF
  have HP := Lib.hid hPe
  clear k1 k2 hF hPe ha hb
  go_enter Try.func38, Try.ntmps38
  go_wp2_with fail
  refine (H1.out _).mono ?_
  rintro e w1 ⟨v1, rfl, hown1, b1⟩
  have hr1 := hown1.rdv (Nat.le_refl _)
  have HR1 := Lib.hid hr1
  clear hown1 hr1
  go_wp2_with fail
  refine (H2.out _).mono ?_
  rintro e w2 ⟨v2, rfl, hown2, hb2⟩
  have b2 : Below w.heap.size w w2 := b1.trans (hb2.mono b1.size)
  have hr2 := hown2.rdv (Nat.le_refl _)
  have hr1 := HR1.out.below hb2
  obtain ⟨A1, c1, rfl, ha1, ha2, hac⟩ := hr1
  obtain ⟨A2, c2, rfl, hb1, hb2', hbc⟩ := hr2
  rw [strs_length] at ha1 hb1
  rw [strs_length L, strs_length M]
  have hlenL : (L.length : Int) ≤ (maxLen : Int) := by omega
  have hlenM : (M.length : Int) ≤ (maxLen : Int) := by omega
  unfold maxLen at hlenL hlenM
  have HB2 := Lib.hid b2
  have HAC := Lib.hid hac
  have HBC := Lib.hid hbc
  clear b1 b2 hb2 hown2 hac hbc ha1 ha2 hb1 hb2' HR1 H1 H2
  go_wp2_with fail
  go_loopw [7] (FitRel P L w2) (fun u _ => (L.length - intOf u).toNat)
  case atStart => exact ⟨0, 0, Nat.zero_le _, rfl, rfl, rfl⟩
  case round =>
    obtain ⟨k, q, hk, hfd, rfl, rfl⟩ := hrel
    rw [← HF.out] at hfd
    by_cases hkl : k < L.length
    · obtain ⟨bb, oo, rfl, _, hc⟩ := HAC.out (by rw [strs_length]; omega)
      have hx := hc k (by rw [strs_length]; exact hkl)
      rw [strs_at k hkl] at hx
      rw [List.drop_eq_getElem_cons hkl, List.any_cons] at hfd
      have hkI : (k : Int) < (L.length : Int) := by omega
      generalize L[k] = x at hx hfd
      clear hc
      by_cases h0 : M.length = 0
      · have hP := first_none Lib.hasPrefix M x h0
        rw [← HP.out] at hP
        have h0I : ¬ (0 : Int) < (M.length : Int) := by omega
        have h0D : decide ((0 : Int) < (M.length : Int)) = false := decide_eq_false h0I
        have h0E : decide (0 < M.length) = false := decide_eq_false (by omega)
        clear h0
        rw [hP, Bool.false_or] at hfd
        have HFD := Lib.hid hfd
        clear hfd hP
        go_wp2_with fail
        go_quiet (fail)
        go_wp2_with fail
        go_roundw
        case rel => exact ⟨k + 1, _, by omega, by rw [← HF.out]; exact HFD.out, by go_num, rfl⟩
        case measure => simp [intOf]; omega
      · obtain ⟨b2, o2, rfl, _, hc2⟩ := HBC.out (by rw [strs_length]; omega)
        have hy := hc2 0 (by rw [strs_length]; omega)
        rw [strs_at 0 (by omega), Nat.add_zero] at hy
        have hP := first_some Lib.hasPrefix M x (by omega)
        rw [← HP.out] at hP
        have h0I : (0 : Int) < (M.length : Int) := by omega
        have h0D : decide ((0 : Int) < (M.length : Int)) = true := decide_eq_true h0I
        have h0E : decide (0 < M.length) = true := decide_eq_true (by omega)
        generalize M[0] = f at hy hP
        clear hc2 h0
        by_cases hfx : f.length ≤ x.length
        · rw [pre_at hfx] at hP
          have hst := str_take x f.length
          have hfI : (f.length : Int) ≤ (x.length : Int) := by omega
          have hfD : decide ((f.length : Int) ≤ (x.length : Int)) = true := decide_eq_true hfI
          have hfE : decide (f.length ≤ x.length) = true := decide_eq_true hfx
          by_cases hxy : x.take f.length = f
          · have hxc : (x.take f.length == f) = true := by simp [hxy]
            rw [hxc] at hP
            clear hxy
            rw [hP, Bool.true_or] at hfd
            have HFD := Lib.hid hfd
            clear hfd hP
            go_wp2_with fail
            go_quiet (fail)
            go_wp2_with fail
            go_ret
            exact ⟨by rw [HFD.out]; rfl, by first | exact below_drewN HB2.out _ | exact below_drewN (below_drewN HB2.out _) _⟩
          · have hxc : (x.take f.length == f) = false := by simp [hxy]
            rw [hxc] at hP
            clear hxy
            rw [hP, Bool.false_or] at hfd
            have HFD := Lib.hid hfd
            clear hfd hP
            go_wp2_with fail
            go_quiet (fail)
            go_wp2_with fail
            go_roundw
            case rel => exact ⟨k + 1, _, by omega, by rw [← HF.out]; exact HFD.out, by go_num, rfl⟩
            case measure => simp [intOf]; omega
        · rw [pre_no hfx] at hP
          have hfI : ¬ (f.length : Int) ≤ (x.length : Int) := by omega
          have hfD : decide ((f.length : Int) ≤ (x.length : Int)) = false := decide_eq_false hfI
          have hfE : decide (f.length ≤ x.length) = false := decide_eq_false hfx
          rw [hP, Bool.false_or] at hfd
          have HFD := Lib.hid hfd
          clear hfd hP
          go_wp2_with fail
          go_quiet (fail)
          go_wp2_with fail
          go_roundw
          case rel => exact ⟨k + 1, _, by omega, by rw [← HF.out]; exact HFD.out, by go_num, rfl⟩
          case measure => simp [intOf]; omega
    · have hkI : ¬ (k : Int) < (L.length : Int) := by omega
      rw [List.drop_eq_nil_of_le (by omega)] at hfd
      have HFD := Lib.hid hfd
      clear hfd
      go_wp2_with fail
      go_ret
      exact ⟨by rw [HFD.out]; rfl, below_drewN HB2.out _⟩

set_option maxHeartbeats 3200000 in
set_option maxRecDepth 100000 in
theorem lhas_any (a b : List UInt8) (w : World) : Calls Try.prog 8 #[.string (str a), .string (str b)] w (Holds w) := by
  by_cases h3 : (2000 : Int) < (a.length : Int)
  · go_enter Try.func8, Try.ntmps8
    go_wp2_with fail
    refine (wlives_any _).mono ?_
    rintro e w1 ⟨rfl, b1⟩
    go_wp2_with fail
    go_ret
    exact ⟨rfl, b1⟩
  by_cases h4 : (2000 : Int) < (b.length : Int)
  · have h3' : decide ((2000 : Int) < (a.length : Int)) = false := decide_eq_false h3
    go_enter Try.func8, Try.ntmps8
    go_wp2_with fail
    refine (wlives_any _).mono ?_
    rintro e w1 ⟨rfl, b1⟩
    go_wp2_with fail
    go_ret
    exact ⟨rfl, b1⟩
  have h3' : decide ((2000 : Int) < (a.length : Int)) = false := decide_eq_false h3
  have h4' : decide ((2000 : Int) < (b.length : Int)) = false := decide_eq_false h4
  have k1 := fun W => has_any a b W (by omega) (by omega)
  have k2 := fun W => rhas_any a b W (by omega) (by omega)
  have k3 := fun W => beg_any a b W (by omega) (by omega)
  have k4 := fun W => rbeg_any a b W (by omega) (by omega)
  have k5 := fun W => wsame_any a b W (by omega) (by omega)
  have k6 := fun W => rwords_any a W (by omega)
  have k7 := fun W => rwords_any b W (by omega)
  have k8 := fun va vb B W => rsame_any (wordsS a) (wordsS b) va vb B W
  generalize likeB (fun x y => x == y) (wordsS a) (wordsS b) = X at *
  generalize likeB Lib.hasPrefix (wordsS a) (wordsS b) = Y at *
  generalize decide (wordsS a = wordsS b) = Z at *
  generalize wordsS a = La at *
  generalize wordsS b = Lb at *
  have H1 := Lib.hid k1
  have H2 := Lib.hid k2
  have H3 := Lib.hid k3
  have H4 := Lib.hid k4
  have H5 := Lib.hid k5
  have H6 := Lib.hid k6
  have H7 := Lib.hid k7
  have H8 := Lib.hid k8
  clear k1 k2 k3 k4 k5 k6 k7 k8
  go_enter Try.func8, Try.ntmps8
  go_wp2_with fail
  refine (wlives_any _).mono ?_
  rintro e w1 ⟨rfl, b1⟩
  go_wp2_with fail
  refine (H1.out _).mono ?_
  rintro e w2 ⟨rfl, hb⟩
  have b2 : Below w.heap.size w w2 := b1.trans (hb.mono b1.size)
  clear hb
  go_wp2_with fail
  refine (H2.out _).mono ?_
  rintro e w3 ⟨rfl, hb⟩
  have b3 : Below w.heap.size w w3 := b2.trans (hb.mono b2.size)
  clear hb
  go_wp2_with fail
  refine (H3.out _).mono ?_
  rintro e w4 ⟨rfl, hb⟩
  have b4 : Below w.heap.size w w4 := b3.trans (hb.mono b3.size)
  clear hb
  go_wp2_with fail
  refine (H4.out _).mono ?_
  rintro e w5 ⟨rfl, hb⟩
  have b5 : Below w.heap.size w w5 := b4.trans (hb.mono b4.size)
  clear hb
  go_wp2_with fail
  refine (H5.out _).mono ?_
  rintro e w6 ⟨rfl, hb⟩
  have b6 : Below w.heap.size w w6 := b5.trans (hb.mono b5.size)
  clear hb
  go_wp2_with fail
  refine (H6.out _).mono ?_
  rintro e w7 ⟨v7, rfl, hown7, hb⟩
  have b7 : Below w.heap.size w w7 := b6.trans (hb.mono b6.size)
  have hr7 := hown7.rdv (Nat.le_refl _)
  have HR7 := Lib.hid hr7
  clear hb hown7 hr7
  go_wp2_with fail
  refine (H7.out _).mono ?_
  rintro e w8 ⟨v8, rfl, hown8, hb⟩
  have b8 : Below w.heap.size w w8 := b7.trans (hb.mono b7.size)
  have hr8 := hown8.rdv (Nat.le_refl _)
  have hr7 := (HR7.out.below hb).more hb.size
  have HR8 := Lib.hid hr8
  have HR9 := Lib.hid hr7
  clear hb hown8 hr8 hr7
  go_wp2_with fail
  refine (H8.out _ _ w8.heap.size _ (by exact HR9.out) (by exact HR8.out)).mono ?_
  rintro e w9 ⟨rfl, q, hw9⟩
  have b9 : Below w.heap.size w w9 := by rw [hw9]; exact below_drewN b8 q
  clear hw9
  go_wp2_with fail
  go_ret
  exact ⟨by first | rfl | simp, b9⟩
end Go.Proofs.Ytmimkcdomgoefaa
