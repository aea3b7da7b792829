/-
  Whether a text has a word, or one that begins so (words.Has, words.Begins). Condition: at most 2^37 bytes.
-/
import Derived.Test.YtmimkcdomgoefaaWSet
namespace Go.Proofs.Ytmimkcdomgoefaa
open Go.RowKit
open Go.Lib (decodeL encodeRune)

/-- The place of the first that fits; below 0: none. -/
def findP (p : List UInt8 → Bool) : List (List UInt8) → Nat → Int
  | [], _ => -1
  | x :: L, k => if p x = true then (k : Int) else findP p L (k + 1)
theorem findP_any (p : List UInt8 → Bool) : ∀ (L : List (List UInt8)) (k : Nat), decide (0 ≤ findP p L k) = L.any p
  | [], _ => rfl
  | x :: L, k => by
    unfold findP
    rw [List.any_cons]
    cases h : p x with
    | true => rw [if_pos rfl, Bool.true_or]; exact decide_eq_true (by omega)
    | false => rw [if_neg (by simp), Bool.false_or]; exact findP_any p L (k + 1)
def FindRel (p : List UInt8 → Bool) (L : List (List UInt8)) (w : World) (u : Value) (W : World) : Prop := ∃ k q : Nat, k ≤ L.length ∧ findP p L 0 = findP p (L.drop k) k ∧ u = .int .i64 (k : Int) ∧ W = w.drewN q
theorem drew_is (w : World) (q r : Nat) : (w.drewN q).drewN r = w.drewN (q + r) := by rw [World.drewN_drewN]
set_option maxHeartbeats 1600000 in
theorem indexf_any (p : List UInt8 → Bool) (L : List (List UInt8)) (va c1 c2 : Value) (B : Nat) (w : World) (ha : RdV w B va (strs L))
    (hf : ∀ (x : List UInt8) (q : Nat), Calls Try.prog 67 #[.string (str x), c1, c2] (w.drewN q) (Drew (w.drewN q) (.bool (p x)))) :
    Calls Try.prog 81 #[va, .func (.func 67) #[] #[c1, c2]] w (Drew w (.int .i64 (findP p L 0))) := by
  obtain ⟨A, c, rfl, ha1, ha2, hac⟩ := ha
  rw [strs_length] at ha1
  rw [strs_length L]
  have hlen : (L.length : Int) ≤ (maxLen : Int) := by omega
  unfold maxLen at hlen
  obtain ⟨F, hF⟩ : ∃ F, F = findP p L 0 := ⟨_, rfl⟩
  rw [← hF]
  have HF := Lib.hid hF
  have HAC := Lib.hid hac
  have HFN := Lib.hid hf
  clear hac hf ha1 ha2 hF
  go_enter Try.func81, Try.ntmps81
  go_wp2_with fail
  go_loopw [8] (FindRel p L w) (fun u _ => (L.length - intOf u).toNat)
  case atStart => exact ⟨0, 0, Nat.zero_le _, rfl, rfl, rfl⟩
  case round =>
    obtain ⟨k, q, hk, hfd, rfl, rfl⟩ := hrel
    rw [← HF.out] at hfd
    by_cases hkl : k < L.length
    · obtain ⟨b, o, rfl, _, hc⟩ := HAC.out (by rw [strs_length]; omega)
      have hx := hc k (by rw [strs_length]; exact hkl)
      rw [strs_at k hkl] at hx
      rw [List.drop_eq_getElem_cons hkl] at hfd
      have hkI : (k : Int) < (L.length : Int) := by omega
      generalize L[k] = x at hx hfd
      unfold findP at hfd
      have hcall := HFN.out x q
      have HCALL := Lib.hid hcall
      clear hc hcall
      cases hp : p x with
      | true =>
        rw [hp, if_pos rfl] at hfd
        have HFD := Lib.hid hfd
        have HP := Lib.hid hp
        clear hfd hp
        go_wp2_with (go_at_call 67; refine HCALL.out.mono ?_; rw [HP.out]; rintro e w' ⟨rfl, r, rfl⟩)
        go_ret
        exact ⟨by rw [HFD.out]; rfl, q + r, by first | rfl | rw [drew_is]⟩
      | false =>
        rw [hp, if_neg (by simp)] at hfd
        have HFD := Lib.hid hfd
        have HP := Lib.hid hp
        clear hfd hp
        go_wp2_with (go_at_call 67; refine HCALL.out.mono ?_; rw [HP.out]; rintro e w' ⟨rfl, r, rfl⟩)
        go_roundw
        case rel => exact ⟨k + 1, q + r, by omega, by rw [← HF.out]; exact HFD.out, by go_num, by first | rfl | rw [drew_is]⟩
        case measure => simp [intOf]; omega
    · have hkI : ¬ (k : Int) < (L.length : Int) := by omega
      rw [List.drop_eq_nil_of_le (by omega)] at hfd
      have HFD := Lib.hid hfd
      clear hfd
      go_wp2_with fail
      go_ret
      exact ⟨by rw [HFD.out]; rfl, q, rfl⟩
set_option maxHeartbeats 800000 in
theorem contains_any (p : List UInt8 → Bool) (L : List (List UInt8)) (va c1 c2 : Value) (B : Nat) (w : World) (ha : RdV w B va (strs L))
    (hf : ∀ (x : List UInt8) (q : Nat), Calls Try.prog 67 #[.string (str x), c1, c2] (w.drewN q) (Drew (w.drewN q) (.bool (p x)))) :
    Calls Try.prog 66 #[va, .func (.func 67) #[] #[c1, c2]] w (Drew w (.bool (L.any p))) := by
  have hI := indexf_any p L va c1 c2 B w ha hf
  have hfa := findP_any p L 0
  generalize findP p L 0 = F at hI hfa
  have HI := Lib.hid hI
  have HFA := Lib.hid hfa
  clear hI hfa ha hf
  go_enter Try.func66, Try.ntmps66
  go_wp2_with fail
  refine HI.out.mono ?_
  rintro e w' ⟨rfl, r, rfl⟩
  by_cases h0 : 0 ≤ F
  · have hd : decide (0 ≤ F) = true := decide_eq_true h0
    have h1 := HFA.out
    rw [hd] at h1
    have H1 := Lib.hid h1
    clear h1 hd
    go_wp2_with fail
    go_ret
    exact ⟨by rw [← H1.out]; first | rfl | simp [h0], r, rfl⟩
  · have hd : decide (0 ≤ F) = false := decide_eq_false h0
    have h1 := HFA.out
    rw [hd] at h1
    have H1 := Lib.hid h1
    clear h1
    go_wp2_with fail
    go_ret
    exact ⟨by rw [← H1.out]; first | rfl | simp [h0], r, rfl⟩

theorem same_fn (x y : List UInt8) (w : World) : Calls Try.prog 56 #[.string (str x), .string (str y)] w fun e w' => e = .returned (.bool (x == y)) ∧ w' = w := by
  by_cases h : x = y
  · have hb : (x == y) = true := by simp [h]
    have HB := Lib.hid hb
    rw [hb]
    clear h
    go_enter Try.func56, Try.ntmps56
    go_wp2_with fail
    go_ret
    exact ⟨rfl, rfl⟩
  · have hb : (x == y) = false := by simp [h]
    have HB := Lib.hid hb
    rw [hb]
    clear h
    go_enter Try.func56, Try.ntmps56
    go_wp2_with fail
    go_ret
    exact ⟨rfl, rfl⟩
theorem pre_fn (x y : List UInt8) (w : World) : Calls Try.prog 41 #[.string (str x), .string (str y)] w fun e w' => e = .returned (.bool (Lib.hasPrefix x y)) ∧ w' = w :=
  Try.strings_HasPrefix (str x) (str y) w

/-- Whether one of the words fits the first word of word. -/
def likeB (p : List UInt8 → List UInt8 → Bool) (L M : List (List UInt8)) : Bool := match M with | [] => false | f :: _ => L.any fun x => p x f

set_option maxHeartbeats 800000 in
theorem has_one (x f : List UInt8) (b0 bl b o n c : Nat) (w : World) (h0 : w.cell? ⟨b0, 0, none⟩ = some (.func (.func 56) #[] #[])) (hl : w.cell? ⟨bl, 0, none⟩ = some (.slice (some ⟨b, o, none⟩) n c)) (hn : 0 < n) (hc : w.cell? ⟨b, o, none⟩ = some (.string (str f))) :
    Calls Try.prog 67 #[.string (str x), .pointer (some ⟨b0, 0, none⟩), .pointer (some ⟨bl, 0, none⟩)] w (Drew w (.bool ((fun x y => x == y) x f))) := by
  have hnI : (0 : Int) < (n : Int) := by omega
  go_enter Try.func67, Try.ntmps67
  go_wp2_with fail
  go_quiet ((go_at_call 56; exact Calls.quiet_of_same (same_fn _ _ _)))
  go_wp2_with fail
  go_ret
  exact ⟨rfl, _, rfl⟩
set_option maxHeartbeats 3200000 in
theorem has_like (a b : List UInt8) (w : World) (ha : a.length ≤ 137438953472) (hb : b.length ≤ 137438953472) : Calls Try.prog 55 #[.string (str a), .string (str b), .func (.func 56) #[] #[]] w (Made w (.bool (likeB (fun x y => x == y) (wordsS a) (wordsS b)))) := by
  have k1 := fun W => words_any a W ha
  have k2 := fun W => words_any b W hb
  obtain ⟨A, hA⟩ : ∃ A, A = likeB (fun x y => x == y) (wordsS a) (wordsS b) := ⟨_, rfl⟩
  rw [← hA]
  generalize wordsS a = L at *
  generalize wordsS b = M at *
  have H1 := Lib.hid k1
  have H2 := Lib.hid k2
  have HA := Lib.hid hA
  clear k1 k2 hA ha hb
  have hf0 : Blk (w.alloc (.cells #[.func (.func 56) #[] #[]] 37)) w.heap.size 37 #[.func (.func 56) #[] #[]] := Blk.fresh w _ _
  have HF0 := Lib.hid hf0
  have hs0 : (w.alloc (.cells #[.func (.func 56) #[] #[]] 37)).heap.size = w.heap.size + 1 := by simp
  have HS0 := Lib.hid hs0
  clear hf0 hs0
  go_enter Try.func55, Try.ntmps55
  go_wp2_with fail
  refine (H2.out _).mono ?_
  rintro e w1 ⟨v1, rfl, hown1, hb1⟩
  have hz1 := hb1.size
  rw [HS0.out] at hz1
  have hf1 := HF0.out.below hb1 (by rw [HS0.out]; omega)
  have b1 : Below w.heap.size w w1 := ((Below.refl _ _).alloc (Nat.le_refl _) _).trans (hb1.mono (by rw [HS0.out]; omega))
  have hr1 := hown1.rdv (Nat.le_refl _)
  obtain ⟨A1, c1, rfl, _, _, hcell⟩ := id hr1
  rw [strs_length M]
  have HC1 := Lib.hid hcell
  have HF1 := Lib.hid hf1
  clear hown1 hb1 hf1 hr1 hcell
  have hfl : Blk (w1.alloc (.cells #[.slice A1 M.length c1] 34)) w1.heap.size 34 #[.slice A1 M.length c1] := Blk.fresh w1 _ _
  have HFL := Lib.hid hfl
  have b2 : Below w1.heap.size w1 (w1.alloc (.cells #[.slice A1 M.length c1] 34)) := (Below.refl _ _).alloc (Nat.le_refl _) _
  have HB2 := Lib.hid b2
  have hsl : (w1.alloc (.cells #[.slice A1 M.length c1] 34)).heap.size = w1.heap.size + 1 := by simp
  have HSL := Lib.hid hsl
  clear hfl b2 hsl
  cases M with
  | nil =>
    have hA := HA.out
    have HA2 : Hid (A = false) := Lib.hid hA
    clear hA HA H1 H2
    go_wp2_with fail
    go_ret
    exact ⟨by rw [HA2.out]; rfl, b1.trans (HB2.out.mono b1.size)⟩
  | cons f M =>
    obtain ⟨bb, oo, rfl, hbb, hcc⟩ := HC1.out (by rw [strs_length]; simp)
    have hx := hcc 0 (by rw [strs_length]; simp)
    rw [strs_at 0 (by simp), Nat.add_zero] at hx
    have hx' : w1.cell? ⟨bb, oo, none⟩ = some (.string (str f)) := hx
    have hn0 : (((f :: M).length : Int) == 0) = false := by simp; omega
    have hn1 : 0 < (f :: M).length := by simp
    generalize (f :: M).length = n at *
    have HX := Lib.hid hx'
    clear hx hx' hcc
    go_wp2_with fail
    refine (H1.out _).mono ?_
    rintro e w3 ⟨v3, rfl, hown3, hb3⟩
    have g0 := ((HF1.out.alloc (.cells #[.slice (some ⟨bb, oo, none⟩) n c1] 34)).below hb3 (by rw [HSL.out]; omega)).cell 0
    have gl := (HFL.out.below hb3 (by rw [HSL.out]; omega)).cell 0
    have gx : w3.cell? ⟨bb, oo, none⟩ = some (.string (str f)) := (hb3.cell (p := ⟨bb, oo, none⟩) (by rw [HSL.out]; show bb < _; omega)).trans ((HB2.out.cell (p := ⟨bb, oo, none⟩) hbb).trans HX.out)
    simp only [List.getElem?_toArray, List.getElem?_cons_zero] at g0 gl
    have hr3 := hown3.rdv (Nat.le_refl _)
    have b4 : Below w.heap.size w w3 := (b1.trans (HB2.out.mono b1.size)).trans (hb3.mono (by rw [HSL.out]; omega))
    have hCF := contains_any (fun x => (fun x y => x == y) x f) L v3 (.pointer (some ⟨w.heap.size, 0, none⟩)) (.pointer (some ⟨w1.heap.size, 0, none⟩)) w3.heap.size w3 hr3 (fun x q => has_one x f w.heap.size w1.heap.size bb oo n c1 (w3.drewN q) (by exact g0) (by exact gl) hn1 (by exact gx))
    have HCF := Lib.hid hCF
    clear hCF g0 gl gx hr3 hown3 hb3 HX HFL HB2 HF1
    go_wp2_with fail
    refine HCF.out.mono ?_
    rintro e w5 ⟨rfl, r, hw5⟩
    have b6 : Below w.heap.size w w5 := by rw [hw5]; exact below_drewN b4 r
    clear hw5
    go_wp2_with fail
    go_ret
    exact ⟨by rw [HA.out]; rfl, b6⟩
theorem has_any (a b : List UInt8) (w : World) (ha : a.length ≤ 137438953472) (hb : b.length ≤ 137438953472) : Calls Try.prog 35 #[.string (str a), .string (str b)] w (Made w (.bool (likeB (fun x y => x == y) (wordsS a) (wordsS b)))) := by
  have k := has_like a b w ha hb
  generalize likeB (fun x y => x == y) (wordsS a) (wordsS b) = A at *
  have K := Lib.hid k
  clear k ha hb
  go_enter Try.func35, Try.ntmps35
  go_wp2_with fail
  refine K.out.mono ?_
  rintro e w1 ⟨rfl, b1⟩
  go_wp2_with fail
  go_ret
  exact ⟨rfl, b1⟩

set_option maxHeartbeats 800000 in
theorem beg_one (x f : List UInt8) (b0 bl b o n c : Nat) (w : World) (h0 : w.cell? ⟨b0, 0, none⟩ = some (.func (.func 41) #[] #[])) (hl : w.cell? ⟨bl, 0, none⟩ = some (.slice (some ⟨b, o, none⟩) n c)) (hn : 0 < n) (hc : w.cell? ⟨b, o, none⟩ = some (.string (str f))) :
    Calls Try.prog 67 #[.string (str x), .pointer (some ⟨b0, 0, none⟩), .pointer (some ⟨bl, 0, none⟩)] w (Drew w (.bool ((Lib.hasPrefix) x f))) := by
  have hnI : (0 : Int) < (n : Int) := by omega
  go_enter Try.func67, Try.ntmps67
  go_wp2_with fail
  go_quiet ((go_at_call 41; exact Calls.quiet_of_same (pre_fn _ _ _)))
  go_wp2_with fail
  go_ret
  exact ⟨rfl, _, rfl⟩
set_option maxHeartbeats 3200000 in
theorem beg_like (a b : List UInt8) (w : World) (ha : a.length ≤ 137438953472) (hb : b.length ≤ 137438953472) : Calls Try.prog 55 #[.string (str a), .string (str b), .func (.func 41) #[] #[]] w (Made w (.bool (likeB (Lib.hasPrefix) (wordsS a) (wordsS b)))) := by
  have k1 := fun W => words_any a W ha
  have k2 := fun W => words_any b W hb
  obtain ⟨A, hA⟩ : ∃ A, A = likeB (Lib.hasPrefix) (wordsS a) (wordsS b) := ⟨_, rfl⟩
  rw [← hA]
  generalize wordsS a = L at *
  generalize wordsS b = M at *
  have H1 := Lib.hid k1
  have H2 := Lib.hid k2
  have HA := Lib.hid hA
  clear k1 k2 hA ha hb
  have hf0 : Blk (w.alloc (.cells #[.func (.func 41) #[] #[]] 37)) w.heap.size 37 #[.func (.func 41) #[] #[]] := Blk.fresh w _ _
  have HF0 := Lib.hid hf0
  have hs0 : (w.alloc (.cells #[.func (.func 41) #[] #[]] 37)).heap.size = w.heap.size + 1 := by simp
  have HS0 := Lib.hid hs0
  clear hf0 hs0
  go_enter Try.func55, Try.ntmps55
  go_wp2_with fail
  refine (H2.out _).mono ?_
  rintro e w1 ⟨v1, rfl, hown1, hb1⟩
  have hz1 := hb1.size
  rw [HS0.out] at hz1
  have hf1 := HF0.out.below hb1 (by rw [HS0.out]; omega)
  have b1 : Below w.heap.size w w1 := ((Below.refl _ _).alloc (Nat.le_refl _) _).trans (hb1.mono (by rw [HS0.out]; omega))
  have hr1 := hown1.rdv (Nat.le_refl _)
  obtain ⟨A1, c1, rfl, _, _, hcell⟩ := id hr1
  rw [strs_length M]
  have HC1 := Lib.hid hcell
  have HF1 := Lib.hid hf1
  clear hown1 hb1 hf1 hr1 hcell
  have hfl : Blk (w1.alloc (.cells #[.slice A1 M.length c1] 34)) w1.heap.size 34 #[.slice A1 M.length c1] := Blk.fresh w1 _ _
  have HFL := Lib.hid hfl
  have b2 : Below w1.heap.size w1 (w1.alloc (.cells #[.slice A1 M.length c1] 34)) := (Below.refl _ _).alloc (Nat.le_refl _) _
  have HB2 := Lib.hid b2
  have hsl : (w1.alloc (.cells #[.slice A1 M.length c1] 34)).heap.size = w1.heap.size + 1 := by simp
  have HSL := Lib.hid hsl
  clear hfl b2 hsl
  cases M with
  | nil =>
    have hA := HA.out
    have HA2 : Hid (A = false) := Lib.hid hA
    clear hA HA H1 H2
    go_wp2_with fail
    go_ret
    exact ⟨by rw [HA2.out]; rfl, b1.trans (HB2.out.mono b1.size)⟩
  | cons f M =>
    obtain ⟨bb, oo, rfl, hbb, hcc⟩ := HC1.out (by rw [strs_length]; simp)
    have hx := hcc 0 (by rw [strs_length]; simp)
    rw [strs_at 0 (by simp), Nat.add_zero] at hx
    have hx' : w1.cell? ⟨bb, oo, none⟩ = some (.string (str f)) := hx
    have hn0 : (((f :: M).length : Int) == 0) = false := by simp; omega
    have hn1 : 0 < (f :: M).length := by simp
    generalize (f :: M).length = n at *
    have HX := Lib.hid hx'
    clear hx hx' hcc
    go_wp2_with fail
    refine (H1.out _).mono ?_
    rintro e w3 ⟨v3, rfl, hown3, hb3⟩
    have g0 := ((HF1.out.alloc (.cells #[.slice (some ⟨bb, oo, none⟩) n c1] 34)).below hb3 (by rw [HSL.out]; omega)).cell 0
    have gl := (HFL.out.below hb3 (by rw [HSL.out]; omega)).cell 0
    have gx : w3.cell? ⟨bb, oo, none⟩ = some (.string (str f)) := (hb3.cell (p := ⟨bb, oo, none⟩) (by rw [HSL.out]; show bb < _; omega)).trans ((HB2.out.cell (p := ⟨bb, oo, none⟩) hbb).trans HX.out)
    simp only [List.getElem?_toArray, List.getElem?_cons_zero] at g0 gl
    have hr3 := hown3.rdv (Nat.le_refl _)
    have b4 : Below w.heap.size w w3 := (b1.trans (HB2.out.mono b1.size)).trans (hb3.mono (by rw [HSL.out]; omega))
    have hCF := contains_any (fun x => (Lib.hasPrefix) x f) L v3 (.pointer (some ⟨w.heap.size, 0, none⟩)) (.pointer (some ⟨w1.heap.size, 0, none⟩)) w3.heap.size w3 hr3 (fun x q => beg_one x f w.heap.size w1.heap.size bb oo n c1 (w3.drewN q) (by exact g0) (by exact gl) hn1 (by exact gx))
    have HCF := Lib.hid hCF
    clear hCF g0 gl gx hr3 hown3 hb3 HX HFL HB2 HF1
    go_wp2_with fail
    refine HCF.out.mono ?_
    rintro e w5 ⟨rfl, r, hw5⟩
    have b6 : Below w.heap.size w w5 := by rw [hw5]; exact below_drewN b4 r
    clear hw5
    go_wp2_with fail
    go_ret
    exact ⟨by rw [HA.out]; rfl, b6⟩
theorem beg_any (a b : List UInt8) (w : World) (ha : a.length ≤ 137438953472) (hb : b.length ≤ 137438953472) : Calls Try.prog 37 #[.string (str a), .string (str b)] w (Made w (.bool (likeB (Lib.hasPrefix) (wordsS a) (wordsS b)))) := by
  have k := beg_like a b w ha hb
  generalize likeB (Lib.hasPrefix) (wordsS a) (wordsS b) = A at *
  have K := Lib.hid k
  clear k ha hb
  go_enter Try.func37, Try.ntmps37
  go_wp2_with fail
  refine K.out.mono ?_
  rintro e w1 ⟨rfl, b1⟩
  go_wp2_with fail
  go_ret
  exact ⟨rfl, b1⟩
end Go.Proofs.Ytmimkcdomgoefaa
