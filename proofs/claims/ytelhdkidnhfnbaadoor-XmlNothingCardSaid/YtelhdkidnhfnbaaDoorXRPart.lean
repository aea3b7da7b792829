/-
  The document's part: the first part of a text, its tokens in memory. Conditions: the text is not empty, and has at most a million bytes.
-/
import Derived.Test.YtelhdkidnhfnbaaDoorXROpen
namespace Go.Proofs.YtelhdkidnhfnbaaDoor
open Go.RowKit

def RPartAns (w : World) (l : List UInt8) (e : Ending) (w' : World) : Prop :=
  ∃ v rest, e = .returned (.tuple #[v, .string (str rest), .bool (partV l).isSome]) ∧ Below w.heap.size w w' ∧
    ∀ ts r, partV l = some (ts, r) → rest = r ∧ ∃ G : List TokE, G.map TokE.tk = ts ∧ TokRow w' w.heap.size v G
theorem head_60 {l : List UInt8} (h : hasB l [60] = true) (W : World) : (Instr.index 9 (.string (str l)) (.int .i64 0)).run Tryd.prog W = .ok (.int .u8 60) W := by
  cases l with
  | nil => cases h
  | cons b t =>
    have hb : b = 60 := by unfold hasB at h; simpa using h
    subst hb
    exact idx_at ((60 : UInt8) :: t) 0 (by simp) W
theorem head_not {l : List UInt8} (h0 : l ≠ []) (h : hasB l [60] = false) : ∃ x : Int, ¬ x = 60 ∧ ∀ W, (Instr.index 9 (.string (str l)) (.int .i64 0)).run Tryd.prog W = .ok (.int .u8 x) W := by
  cases l with
  | nil => exact absurd rfl h0
  | cons b t =>
    refine ⟨(b.toNat : Int), fun e => ?_, fun W => idx_at (b :: t) 0 (by simp) W⟩
    have : b = 60 := UInt8.toNat_inj.1 (by show b.toNat = 60; omega)
    subst this
    unfold hasB at h
    simp at h
theorem tok_row1 {w : World} {base b : Nat} {k : Int} {nm tx : List UInt8} (h : Blk w b 36 #[.int .i64 k, .string (str nm), .slice none 0 0, .string (str tx)]) (hb : base ≤ b) : TokRow w base (.slice (some ⟨b, 0, none⟩) 1 1) [⟨k, nm, [], .slice none 0 0, tx⟩] :=
  ⟨row_of_blk h rfl hb (by unfold maxLen; omega), fun e he => by rw [List.mem_singleton.1 he]; exact World.ownsRow_nil _ _ _ _⟩
theorem str_nil : str [] = ⟨#[]⟩ := rfl
set_option maxHeartbeats 6400000 in
set_option maxRecDepth 100000 in
theorem rpart_1 (l : List UInt8) (w : World) (hl : l.length ≤ 1000000) (h0 : hasB l [60] = true) (h1 : hasB l mk1 = true) : Calls Tryd.prog 21 #[.string (str l)] w (RPartAns w l) := by
  have ix := head_60 h0
  have HL := Lib.hid hl
  have HF0 := Lib.hid h0
  have HH1 : Hid (hasB l [60, 33, 45, 45] = true) := Lib.hid h1
  have hp : partV l = if (uptoV l mk1 [45, 45, 62]).2.2 = true then some ([], (uptoV l mk1 [45, 45, 62]).2.1) else none := by unfold partV; rw [if_neg (by rw [h0]; decide), if_pos h1]
  have HLE : Hid (mk1.length ≤ l.length) := Lib.hid (hasB_len h1)
  have HUL : Hid ((uptoV l mk1 [45, 45, 62]).1.length ≤ l.length) := Lib.hid (by unfold uptoV; split <;> simp [List.length_take, List.length_drop] <;> omega)
  obtain ⟨⟨a, b, B⟩, hu⟩ : ∃ x, x = uptoV l mk1 [45, 45, 62] := ⟨_, rfl⟩
  rw [← hu] at hp
  have HU := Lib.hid hu
  have HAL : Hid (a.length ≤ l.length) := Lib.hid (by have h := HUL.out; rw [← hu] at h; exact h)
  have HP := Lib.hid hp
  clear hu hp
  clear hl h0 h1
  go_enter Tryd.func21, Tryd.ntmps21
  go_wp2_with (first | (go_at_call 48; have ku := rupto_any l [60, 33, 45, 45] [45, 45, 62] w (by have := HL.out; omega) HLE.out (by simp) (by simp); rw [show uptoV l [60, 33, 45, 45] [45, 45, 62] = (a, b, B) from HU.out.symm] at ku; refine ku.mono ?_; rintro e w1 ⟨rfl, hb1⟩; have HB1 := Lib.hid hb1; clear ku hb1) | (go_at_call 47; have kh := rhas_any l [60, 33, 45, 45] w; rw [HH1.out] at kh; refine kh.mono ?_; rintro e wh ⟨rfl, rfl⟩; clear kh; have HM1 : Hid True := Lib.hid trivial))
  go_ret3
  cases B with
  | false =>
    have HX : Hid (partV l = none) := Lib.hid HP.out
    exact ⟨.slice none 0 0, b, by rw [HX.out]; rfl, HB1.out, fun ts r h => by rw [HX.out] at h; cases h⟩
  | true =>
    have HX : Hid (partV l = some ([], b)) := Lib.hid HP.out
    exact ⟨.slice none 0 0, b, by rw [HX.out]; rfl, HB1.out, fun ts r h => by rw [HX.out] at h; injection h with h; injection h with h1 h2; subst h1 h2; exact ⟨rfl, [], rfl, row_nil _ _⟩⟩
set_option maxHeartbeats 6400000 in
set_option maxRecDepth 100000 in
theorem rpart_2 (l : List UInt8) (w : World) (hl : l.length ≤ 1000000) (h0 : hasB l [60] = true) (h1 : hasB l mk1 = false) (h2 : hasB l mk2 = true) : Calls Tryd.prog 21 #[.string (str l)] w (RPartAns w l) := by
  have ix := head_60 h0
  have HL := Lib.hid hl
  have HF0 := Lib.hid h0
  have HH1 : Hid (hasB l [60, 33, 45, 45] = false) := Lib.hid h1
  have HH2 : Hid (hasB l [60, 63] = true) := Lib.hid h2
  have hp : partV l = if (uptoV l mk2 [63, 62]).2.2 = true then some ([], (uptoV l mk2 [63, 62]).2.1) else none := by unfold partV; rw [if_neg (by rw [h0]; decide), h1, if_neg Bool.false_ne_true, if_pos h2]
  have HLE : Hid (mk2.length ≤ l.length) := Lib.hid (hasB_len h2)
  have HUL : Hid ((uptoV l mk2 [63, 62]).1.length ≤ l.length) := Lib.hid (by unfold uptoV; split <;> simp [List.length_take, List.length_drop] <;> omega)
  obtain ⟨⟨a, b, B⟩, hu⟩ : ∃ x, x = uptoV l mk2 [63, 62] := ⟨_, rfl⟩
  rw [← hu] at hp
  have HU := Lib.hid hu
  have HAL : Hid (a.length ≤ l.length) := Lib.hid (by have h := HUL.out; rw [← hu] at h; exact h)
  have HP := Lib.hid hp
  clear hu hp
  clear hl h0 h1 h2
  go_enter Tryd.func21, Tryd.ntmps21
  go_wp2_with (first | (go_at_call 48; have ku := rupto_any l [60, 63] [63, 62] w (by have := HL.out; omega) HLE.out (by simp) (by simp); rw [show uptoV l [60, 63] [63, 62] = (a, b, B) from HU.out.symm] at ku; refine ku.mono ?_; rintro e w1 ⟨rfl, hb1⟩; have HB1 := Lib.hid hb1; clear ku hb1) | (go_at_call 47; have hm := HM1.out; clear hm; have kh := rhas_any l [60, 63] w; rw [HH2.out] at kh; refine kh.mono ?_; rintro e wh ⟨rfl, rfl⟩; clear kh; have HM2 : Hid True := Lib.hid trivial) | (go_at_call 47; have kh := rhas_any l [60, 33, 45, 45] w; rw [HH1.out] at kh; refine kh.mono ?_; rintro e wh ⟨rfl, rfl⟩; clear kh; have HM1 : Hid True := Lib.hid trivial))
  go_ret3
  cases B with
  | false =>
    have HX : Hid (partV l = none) := Lib.hid HP.out
    exact ⟨.slice none 0 0, b, by rw [HX.out]; rfl, HB1.out, fun ts r h => by rw [HX.out] at h; cases h⟩
  | true =>
    have HX : Hid (partV l = some ([], b)) := Lib.hid HP.out
    exact ⟨.slice none 0 0, b, by rw [HX.out]; rfl, HB1.out, fun ts r h => by rw [HX.out] at h; injection h with h; injection h with h1 h2; subst h1 h2; exact ⟨rfl, [], rfl, row_nil _ _⟩⟩
set_option maxHeartbeats 6400000 in
set_option maxRecDepth 100000 in
theorem rpart_3 (l : List UInt8) (w : World) (hl : l.length ≤ 1000000) (h0 : hasB l [60] = true) (h1 : hasB l mk1 = false) (h2 : hasB l mk2 = false) (h3 : hasB l mk3 = true) : Calls Tryd.prog 21 #[.string (str l)] w (RPartAns w l) := by
  have ix := head_60 h0
  have HL := Lib.hid hl
  have HF0 := Lib.hid h0
  have HH1 : Hid (hasB l [60, 33, 45, 45] = false) := Lib.hid h1
  have HH2 : Hid (hasB l [60, 63] = false) := Lib.hid h2
  have HH3 : Hid (hasB l [60, 33, 68, 79, 67, 84, 89, 80, 69] = true) := Lib.hid h3
  have hp : partV l = if (uptoV l mk3 [62]).2.2 = true ∧ (findI [91] (uptoV l mk3 [62]).1).isSome = false then some ([], (uptoV l mk3 [62]).2.1) else none := by unfold partV; rw [if_neg (by rw [h0]; decide), h1, if_neg Bool.false_ne_true, h2, if_neg Bool.false_ne_true, if_pos h3]
  have HLE : Hid (mk3.length ≤ l.length) := Lib.hid (hasB_len h3)
  have HUL : Hid ((uptoV l mk3 [62]).1.length ≤ l.length) := Lib.hid (by unfold uptoV; split <;> simp [List.length_take, List.length_drop] <;> omega)
  obtain ⟨⟨a, b, B⟩, hu⟩ : ∃ x, x = uptoV l mk3 [62] := ⟨_, rfl⟩
  rw [← hu] at hp
  have HU := Lib.hid hu
  have HAL : Hid (a.length ≤ l.length) := Lib.hid (by have h := HUL.out; rw [← hu] at h; exact h)
  have HP := Lib.hid hp
  clear hu hp
  clear hl h0 h1 h2 h3
  cases B with
  | false =>
    have HX : Hid (partV l = none) := Lib.hid (by rw [HP.out]; exact if_neg (fun h => by cases h.1))
    go_enter Tryd.func21, Tryd.ntmps21
    go_wp2_with (first | (go_at_call 48; have ku := rupto_any l [60, 33, 68, 79, 67, 84, 89, 80, 69] [62] w (by have := HL.out; omega) HLE.out (by simp) (by simp); rw [show uptoV l [60, 33, 68, 79, 67, 84, 89, 80, 69] [62] = (a, b, false) from HU.out.symm] at ku; refine ku.mono ?_; rintro e w1 ⟨rfl, hb1⟩; have HB1 := Lib.hid hb1; clear ku hb1) | (go_at_call 47; have hm := HM2.out; clear hm; have kh := rhas_any l [60, 33, 68, 79, 67, 84, 89, 80, 69] w; rw [HH3.out] at kh; refine kh.mono ?_; rintro e wh ⟨rfl, rfl⟩; clear kh; have HM3 : Hid True := Lib.hid trivial) | (go_at_call 47; have hm := HM1.out; clear hm; have kh := rhas_any l [60, 63] w; rw [HH2.out] at kh; refine kh.mono ?_; rintro e wh ⟨rfl, rfl⟩; clear kh; have HM2 : Hid True := Lib.hid trivial) | (go_at_call 47; have kh := rhas_any l [60, 33, 45, 45] w; rw [HH1.out] at kh; refine kh.mono ?_; rintro e wh ⟨rfl, rfl⟩; clear kh; have HM1 : Hid True := Lib.hid trivial))
    go_ret3
    exact ⟨.slice none 0 0, b, by rw [HX.out]; rfl, HB1.out, fun ts r h => by rw [HX.out] at h; cases h⟩
  | true =>
    have hkf := fun W => rfind_any a [91] W (by have := HAL.out; have := HL.out; omega) (by simp) (by simp)
    cases hf : findI [91] a with
    | none =>
      have HX : Hid (partV l = some ([], b)) := Lib.hid (by rw [HP.out]; exact if_pos ⟨rfl, by show (findI [91] a).isSome = false; rw [hf]; rfl⟩)
      have KF : Hid (∀ W, Calls Tryd.prog 45 #[.string (str a), .string (str [91])] W (Pure W (.int .i64 (-1)))) := Lib.hid fun W => by have h := hkf W; rw [hf] at h; exact h
      clear hkf hf
      go_enter Tryd.func21, Tryd.ntmps21
      go_wp2_with (first | (go_at_call 45; refine (KF.out _).mono ?_; rintro e wf ⟨rfl, rfl⟩) | (go_at_call 48; have ku := rupto_any l [60, 33, 68, 79, 67, 84, 89, 80, 69] [62] w (by have := HL.out; omega) HLE.out (by simp) (by simp); rw [show uptoV l [60, 33, 68, 79, 67, 84, 89, 80, 69] [62] = (a, b, true) from HU.out.symm] at ku; refine ku.mono ?_; rintro e w1 ⟨rfl, hb1⟩; have HB1 := Lib.hid hb1; clear ku hb1) | (go_at_call 47; have hm := HM2.out; clear hm; have kh := rhas_any l [60, 33, 68, 79, 67, 84, 89, 80, 69] w; rw [HH3.out] at kh; refine kh.mono ?_; rintro e wh ⟨rfl, rfl⟩; clear kh; have HM3 : Hid True := Lib.hid trivial) | (go_at_call 47; have hm := HM1.out; clear hm; have kh := rhas_any l [60, 63] w; rw [HH2.out] at kh; refine kh.mono ?_; rintro e wh ⟨rfl, rfl⟩; clear kh; have HM2 : Hid True := Lib.hid trivial) | (go_at_call 47; have kh := rhas_any l [60, 33, 45, 45] w; rw [HH1.out] at kh; refine kh.mono ?_; rintro e wh ⟨rfl, rfl⟩; clear kh; have HM1 : Hid True := Lib.hid trivial))
      go_ret3
      exact ⟨.slice none 0 0, b, by rw [HX.out]; rfl, HB1.out, fun ts r h => by rw [HX.out] at h; injection h with h; injection h with h1 h2; subst h1 h2; exact ⟨rfl, [], rfl, row_nil _ _⟩⟩
    | some k =>
      have HX : Hid (partV l = none) := Lib.hid (by rw [HP.out]; exact if_neg (fun h => by have h2 : (findI [91] a).isSome = false := h.2; rw [hf] at h2; cases h2))
      have KF : Hid (∀ W, Calls Tryd.prog 45 #[.string (str a), .string (str [91])] W (Pure W (.int .i64 (k : Int)))) := Lib.hid fun W => by have h := hkf W; rw [hf] at h; exact h
      have hk0 : ¬ (k : Int) < 0 := by omega
      clear hkf hf
      go_enter Tryd.func21, Tryd.ntmps21
      go_wp2_with (first | (go_at_call 45; refine (KF.out _).mono ?_; rintro e wf ⟨rfl, rfl⟩) | (go_at_call 48; have ku := rupto_any l [60, 33, 68, 79, 67, 84, 89, 80, 69] [62] w (by have := HL.out; omega) HLE.out (by simp) (by simp); rw [show uptoV l [60, 33, 68, 79, 67, 84, 89, 80, 69] [62] = (a, b, true) from HU.out.symm] at ku; refine ku.mono ?_; rintro e w1 ⟨rfl, hb1⟩; have HB1 := Lib.hid hb1; clear ku hb1) | (go_at_call 47; have hm := HM2.out; clear hm; have kh := rhas_any l [60, 33, 68, 79, 67, 84, 89, 80, 69] w; rw [HH3.out] at kh; refine kh.mono ?_; rintro e wh ⟨rfl, rfl⟩; clear kh; have HM3 : Hid True := Lib.hid trivial) | (go_at_call 47; have hm := HM1.out; clear hm; have kh := rhas_any l [60, 63] w; rw [HH2.out] at kh; refine kh.mono ?_; rintro e wh ⟨rfl, rfl⟩; clear kh; have HM2 : Hid True := Lib.hid trivial) | (go_at_call 47; have kh := rhas_any l [60, 33, 45, 45] w; rw [HH1.out] at kh; refine kh.mono ?_; rintro e wh ⟨rfl, rfl⟩; clear kh; have HM1 : Hid True := Lib.hid trivial))
      go_ret3
      exact ⟨.slice none 0 0, b, by rw [HX.out]; rfl, HB1.out, fun ts r h => by rw [HX.out] at h; cases h⟩
set_option maxHeartbeats 6400000 in
set_option maxRecDepth 100000 in
theorem rpart_4 (l : List UInt8) (w : World) (hl : l.length ≤ 1000000) (h0 : hasB l [60] = true) (h1 : hasB l mk1 = false) (h2 : hasB l mk2 = false) (h3 : hasB l mk3 = false) (h4 : hasB l mk4 = true) : Calls Tryd.prog 21 #[.string (str l)] w (RPartAns w l) := by
  have ix := head_60 h0
  have HL := Lib.hid hl
  have HF0 := Lib.hid h0
  have HH1 : Hid (hasB l [60, 33, 45, 45] = false) := Lib.hid h1
  have HH2 : Hid (hasB l [60, 63] = false) := Lib.hid h2
  have HH3 : Hid (hasB l [60, 33, 68, 79, 67, 84, 89, 80, 69] = false) := Lib.hid h3
  have HH4 : Hid (hasB l [60, 33, 91, 67, 68, 65, 84, 65, 91] = true) := Lib.hid h4
  have hp : partV l = if (uptoV l mk4 [93, 93, 62]).2.2 = true then some ([⟨3, [], [], (uptoV l mk4 [93, 93, 62]).1⟩], (uptoV l mk4 [93, 93, 62]).2.1) else none := by unfold partV; rw [if_neg (by rw [h0]; decide), h1, if_neg Bool.false_ne_true, h2, if_neg Bool.false_ne_true, h3, if_neg Bool.false_ne_true, if_pos h4]
  have HLE : Hid (mk4.length ≤ l.length) := Lib.hid (hasB_len h4)
  have HUL : Hid ((uptoV l mk4 [93, 93, 62]).1.length ≤ l.length) := Lib.hid (by unfold uptoV; split <;> simp [List.length_take, List.length_drop] <;> omega)
  obtain ⟨⟨a, b, B⟩, hu⟩ : ∃ x, x = uptoV l mk4 [93, 93, 62] := ⟨_, rfl⟩
  rw [← hu] at hp
  have HU := Lib.hid hu
  have HAL : Hid (a.length ≤ l.length) := Lib.hid (by have h := HUL.out; rw [← hu] at h; exact h)
  have HP := Lib.hid hp
  clear hu hp
  clear hl h0 h1 h2 h3 h4
  go_enter Tryd.func21, Tryd.ntmps21
  go_wp2_with (first | (go_at_call 48; have ku := rupto_any l [60, 33, 91, 67, 68, 65, 84, 65, 91] [93, 93, 62] w (by have := HL.out; omega) HLE.out (by simp) (by simp); rw [show uptoV l [60, 33, 91, 67, 68, 65, 84, 65, 91] [93, 93, 62] = (a, b, B) from HU.out.symm] at ku; refine ku.mono ?_; rintro e w1 ⟨rfl, hb1⟩; have HB1 := Lib.hid hb1; clear ku hb1) | (go_at_call 47; have hm := HM3.out; clear hm; have kh := rhas_any l [60, 33, 91, 67, 68, 65, 84, 65, 91] w; rw [HH4.out] at kh; refine kh.mono ?_; rintro e wh ⟨rfl, rfl⟩; clear kh; have HM4 : Hid True := Lib.hid trivial) | (go_at_call 47; have hm := HM2.out; clear hm; have kh := rhas_any l [60, 33, 68, 79, 67, 84, 89, 80, 69] w; rw [HH3.out] at kh; refine kh.mono ?_; rintro e wh ⟨rfl, rfl⟩; clear kh; have HM3 : Hid True := Lib.hid trivial) | (go_at_call 47; have hm := HM1.out; clear hm; have kh := rhas_any l [60, 63] w; rw [HH2.out] at kh; refine kh.mono ?_; rintro e wh ⟨rfl, rfl⟩; clear kh; have HM2 : Hid True := Lib.hid trivial) | (go_at_call 47; have kh := rhas_any l [60, 33, 45, 45] w; rw [HH1.out] at kh; refine kh.mono ?_; rintro e wh ⟨rfl, rfl⟩; clear kh; have HM1 : Hid True := Lib.hid trivial))
  go_ret3
  have HBX : Hid (Below w.heap.size w (w1.alloc (.cells #[.int .i64 3, .string ⟨#[]⟩, .slice none 0 0, .string (str a)] 36))) := Lib.hid (HB1.out.alloc HB1.out.size _)
  cases B with
  | false =>
    have HX : Hid (partV l = none) := Lib.hid HP.out
    exact ⟨.slice (some ⟨w1.heap.size, 0, none⟩) 1 1, b, by rw [HX.out]; rfl, HBX.out, fun ts r h => by rw [HX.out] at h; cases h⟩
  | true =>
    have HX : Hid (partV l = some ([⟨3, [], [], a⟩], b)) := Lib.hid HP.out
    exact ⟨.slice (some ⟨w1.heap.size, 0, none⟩) 1 1, b, by rw [HX.out]; rfl, HBX.out, fun ts r h => by rw [HX.out] at h; injection h with h; injection h with h1 h2; subst h1 h2; exact ⟨rfl, [⟨3, [], [], .slice none 0 0, a⟩], rfl, tok_row1 (nm := []) (Blk.fresh _ _ _) HB1.out.size⟩⟩
set_option maxHeartbeats 6400000 in
set_option maxRecDepth 100000 in
theorem rpart_5 (l : List UInt8) (w : World) (hl : l.length ≤ 1000000) (h0 : hasB l [60] = true) (h1 : hasB l mk1 = false) (h2 : hasB l mk2 = false) (h3 : hasB l mk3 = false) (h4 : hasB l mk4 = false) (h5 : hasB l mk5 = true) : Calls Tryd.prog 21 #[.string (str l)] w (RPartAns w l) := by
  have ix := head_60 h0
  have HL := Lib.hid hl
  have HF0 := Lib.hid h0
  have HH1 : Hid (hasB l [60, 33, 45, 45] = false) := Lib.hid h1
  have HH2 : Hid (hasB l [60, 63] = false) := Lib.hid h2
  have HH3 : Hid (hasB l [60, 33, 68, 79, 67, 84, 89, 80, 69] = false) := Lib.hid h3
  have HH4 : Hid (hasB l [60, 33, 91, 67, 68, 65, 84, 65, 91] = false) := Lib.hid h4
  have HH5 : Hid (hasB l [60, 47] = true) := Lib.hid h5
  have hp : partV l = (if (nameV (l.drop 2)).1 = [] ∨ hasB (dropB (nameV (l.drop 2)).2) [62] = false then none else some ([⟨2, (nameV (l.drop 2)).1, [], []⟩], (dropB (nameV (l.drop 2)).2).drop 1)) := by unfold partV; rw [if_neg (by rw [h0]; decide), h1, if_neg Bool.false_ne_true, h2, if_neg Bool.false_ne_true, h3, if_neg Bool.false_ne_true, h4, if_neg Bool.false_ne_true, if_pos h5]
  have hle : 2 ≤ l.length := hasB_len h5
  have s2 : ∀ W, (Instr.slice 9 (.string (str l)) (some (.int .i64 2)) none none).run Tryd.prog W = .ok (.string (str (l.drop 2))) W := fun W => slt l 2 hle W
  obtain ⟨l2, hl2⟩ : ∃ l2, l2 = l.drop 2 := ⟨_, rfl⟩
  rw [← hl2] at hp s2
  have HL2 : Hid (l2.length ≤ 1000000) := Lib.hid (by rw [hl2, List.length_drop]; omega)
  have hnl := (nameV_len l2).2
  obtain ⟨⟨nm, r0⟩, hn⟩ : ∃ x, x = nameV l2 := ⟨_, rfl⟩
  rw [← hn] at hp hnl
  have HN := Lib.hid hn
  have HR0 := Lib.hid hnl
  obtain ⟨r1, hr1⟩ : ∃ r1, r1 = dropB r0 := ⟨_, rfl⟩
  have HR1 := Lib.hid hr1
  simp only [← hr1] at hp
  have HP := Lib.hid hp
  clear hp hl2 hn hr1 hnl hle
  clear hl h0 h1 h2 h3 h4 h5
  by_cases hn0 : nm = []
  · subst hn0
    have HX : Hid (partV l = none) := Lib.hid (by rw [HP.out]; exact if_pos (.inl rfl))
    go_enter Tryd.func21, Tryd.ntmps21
    go_wp2_with (first | (go_at_call 30; have kn := rname_any l2 w (by have := HL2.out; unfold maxLen; omega); rw [← HN.out] at kn; refine kn.mono ?_; rintro e w1 ⟨rfl, hb1⟩; have HB1 := Lib.hid hb1; clear kn hb1) | (go_at_call 49; have kb := rblanks_any r0 w1 (by have := HL2.out; have := HR0.out; omega); rw [← HR1.out] at kb; refine kb.mono ?_; rintro e wb ⟨rfl, rfl⟩; clear kb; have HMB : Hid True := Lib.hid trivial) | (go_at_call 47; have hm := HM4.out; clear hm; have kh := rhas_any l [60, 47] w; rw [HH5.out] at kh; refine kh.mono ?_; rintro e wh ⟨rfl, rfl⟩; clear kh; have HM5 : Hid True := Lib.hid trivial) | (go_at_call 47; have hm := HM3.out; clear hm; have kh := rhas_any l [60, 33, 91, 67, 68, 65, 84, 65, 91] w; rw [HH4.out] at kh; refine kh.mono ?_; rintro e wh ⟨rfl, rfl⟩; clear kh; have HM4 : Hid True := Lib.hid trivial) | (go_at_call 47; have hm := HM2.out; clear hm; have kh := rhas_any l [60, 33, 68, 79, 67, 84, 89, 80, 69] w; rw [HH3.out] at kh; refine kh.mono ?_; rintro e wh ⟨rfl, rfl⟩; clear kh; have HM3 : Hid True := Lib.hid trivial) | (go_at_call 47; have hm := HM1.out; clear hm; have kh := rhas_any l [60, 63] w; rw [HH2.out] at kh; refine kh.mono ?_; rintro e wh ⟨rfl, rfl⟩; clear kh; have HM2 : Hid True := Lib.hid trivial) | (go_at_call 47; have kh := rhas_any l [60, 33, 45, 45] w; rw [HH1.out] at kh; refine kh.mono ?_; rintro e wh ⟨rfl, rfl⟩; clear kh; have HM1 : Hid True := Lib.hid trivial))
    go_ret3
    exact ⟨.slice none 0 0, [], by rw [HX.out]; rfl, HB1.out, fun ts r h => by rw [HX.out] at h; cases h⟩
  · have e1 : (nm == ([] : List UInt8)) = false := by simpa using hn0
    have HN0 := Lib.hid hn0
    clear hn0
    cases hg : hasB r1 [62] with
    | false =>
      have HG := Lib.hid hg
      have HX : Hid (partV l = none) := Lib.hid (by rw [HP.out]; exact if_pos (.inr hg))
      clear hg
      go_enter Tryd.func21, Tryd.ntmps21
      go_wp2_with (first | (go_at_call 30; have kn := rname_any l2 w (by have := HL2.out; unfold maxLen; omega); rw [← HN.out] at kn; refine kn.mono ?_; rintro e w1 ⟨rfl, hb1⟩; have HB1 := Lib.hid hb1; clear kn hb1) | (go_at_call 49; have kb := rblanks_any r0 w1 (by have := HL2.out; have := HR0.out; omega); rw [← HR1.out] at kb; refine kb.mono ?_; rintro e wb ⟨rfl, rfl⟩; clear kb; have HMB : Hid True := Lib.hid trivial) | (go_at_call 47; have hm := HMB.out; clear hm; have kh := rhas_any r1 [62] w1; rw [HG.out] at kh; refine kh.mono ?_; rintro e wh ⟨rfl, rfl⟩; clear kh) | (go_at_call 47; have hm := HM4.out; clear hm; have kh := rhas_any l [60, 47] w; rw [HH5.out] at kh; refine kh.mono ?_; rintro e wh ⟨rfl, rfl⟩; clear kh; have HM5 : Hid True := Lib.hid trivial) | (go_at_call 47; have hm := HM3.out; clear hm; have kh := rhas_any l [60, 33, 91, 67, 68, 65, 84, 65, 91] w; rw [HH4.out] at kh; refine kh.mono ?_; rintro e wh ⟨rfl, rfl⟩; clear kh; have HM4 : Hid True := Lib.hid trivial) | (go_at_call 47; have hm := HM2.out; clear hm; have kh := rhas_any l [60, 33, 68, 79, 67, 84, 89, 80, 69] w; rw [HH3.out] at kh; refine kh.mono ?_; rintro e wh ⟨rfl, rfl⟩; clear kh; have HM3 : Hid True := Lib.hid trivial) | (go_at_call 47; have hm := HM1.out; clear hm; have kh := rhas_any l [60, 63] w; rw [HH2.out] at kh; refine kh.mono ?_; rintro e wh ⟨rfl, rfl⟩; clear kh; have HM2 : Hid True := Lib.hid trivial) | (go_at_call 47; have kh := rhas_any l [60, 33, 45, 45] w; rw [HH1.out] at kh; refine kh.mono ?_; rintro e wh ⟨rfl, rfl⟩; clear kh; have HM1 : Hid True := Lib.hid trivial))
      go_ret3
      exact ⟨.slice none 0 0, [], by rw [HX.out]; rfl, HB1.out, fun ts r h => by rw [HX.out] at h; cases h⟩
    | true =>
      have HG := Lib.hid hg
      have HX : Hid (partV l = some ([⟨2, nm, [], []⟩], r1.drop 1)) := Lib.hid (by rw [HP.out]; exact if_neg (by rintro (h | h); exact HN0.out h; rw [hg] at h; cases h))
      have hle1 : 1 ≤ r1.length := hasB_len hg
      have s3 : ∀ W, (Instr.slice 9 (.string (str r1)) (some (.int .i64 1)) none none).run Tryd.prog W = .ok (.string (str (r1.drop 1))) W := fun W => slt r1 1 hle1 W
      obtain ⟨r2, hr2⟩ : ∃ r2, r2 = r1.drop 1 := ⟨_, rfl⟩
      rw [← hr2] at s3
      have HR2 := Lib.hid hr2
      clear hg hle1 hr2
      go_enter Tryd.func21, Tryd.ntmps21
      go_wp2_with (first | (go_at_call 30; have kn := rname_any l2 w (by have := HL2.out; unfold maxLen; omega); rw [← HN.out] at kn; refine kn.mono ?_; rintro e w1 ⟨rfl, hb1⟩; have HB1 := Lib.hid hb1; clear kn hb1) | (go_at_call 49; have kb := rblanks_any r0 w1 (by have := HL2.out; have := HR0.out; omega); rw [← HR1.out] at kb; refine kb.mono ?_; rintro e wb ⟨rfl, rfl⟩; clear kb; have HMB : Hid True := Lib.hid trivial) | (go_at_call 47; have hm := HMB.out; clear hm; have kh := rhas_any r1 [62] w1; rw [HG.out] at kh; refine kh.mono ?_; rintro e wh ⟨rfl, rfl⟩; clear kh) | (go_at_call 47; have hm := HM4.out; clear hm; have kh := rhas_any l [60, 47] w; rw [HH5.out] at kh; refine kh.mono ?_; rintro e wh ⟨rfl, rfl⟩; clear kh; have HM5 : Hid True := Lib.hid trivial) | (go_at_call 47; have hm := HM3.out; clear hm; have kh := rhas_any l [60, 33, 91, 67, 68, 65, 84, 65, 91] w; rw [HH4.out] at kh; refine kh.mono ?_; rintro e wh ⟨rfl, rfl⟩; clear kh; have HM4 : Hid True := Lib.hid trivial) | (go_at_call 47; have hm := HM2.out; clear hm; have kh := rhas_any l [60, 33, 68, 79, 67, 84, 89, 80, 69] w; rw [HH3.out] at kh; refine kh.mono ?_; rintro e wh ⟨rfl, rfl⟩; clear kh; have HM3 : Hid True := Lib.hid trivial) | (go_at_call 47; have hm := HM1.out; clear hm; have kh := rhas_any l [60, 63] w; rw [HH2.out] at kh; refine kh.mono ?_; rintro e wh ⟨rfl, rfl⟩; clear kh; have HM2 : Hid True := Lib.hid trivial) | (go_at_call 47; have kh := rhas_any l [60, 33, 45, 45] w; rw [HH1.out] at kh; refine kh.mono ?_; rintro e wh ⟨rfl, rfl⟩; clear kh; have HM1 : Hid True := Lib.hid trivial))
      refine up_start (fun k => k = 0 ∨ 0 ≤ k) (by kernel_rfl) ?_
      refine up_take (by exact at0) (by kernel_rfl) (by exact fun _ _ _ h => h) (by rfl) (by intro W hW; go_simp; try with_reducible rfl) ?_
      simp only [Act.put, List.setIfInBounds_toArray, List.set_cons_zero, List.set_cons_succ]
      refine up_take (by exact (atS at0)) (by kernel_rfl) (by exact fun _ _ _ h => h) (by rfl) (by intro W hW; go_simp; try with_reducible rfl) ?_
      simp only [Act.put, List.setIfInBounds_toArray, List.set_cons_zero, List.set_cons_succ]
      refine up_take (by exact (atS (atS (atS at0)))) (by kernel_rfl) (by exact fun _ _ _ h => h) (by rfl) (by intro W hW; go_simp; try with_reducible rfl) ?_
      simp only [Act.put, List.setIfInBounds_toArray, List.set_cons_zero, List.set_cons_succ]
      refine up_take (by exact (atS (atS (atS (atS at0))))) (by kernel_rfl) (by exact fun _ _ _ h => h) (by rfl) (by intro W hW; go_simp; try with_reducible rfl) ?_
      simp only [Act.put, List.setIfInBounds_toArray, List.set_cons_zero, List.set_cons_succ]
      refine up_one (by exact (atS (atS at0))) (by kernel_rfl) (fun K hK => ?_)
      go_simp
      refine hK.out _ _ (Kept.belowB ((Below.refl _ _).alloc (Nat.le_refl _) _) (fun k _ => .inr (Nat.zero_le k))) ?_
      clear hK K
      refine up_take (by exact (atS (atS (atS (atS (atS at0)))))) (by kernel_rfl) (by exact fun _ _ _ h => h) (by rfl) (by intro W hW; go_simp; try with_reducible rfl) ?_
      simp only [Act.put, List.setIfInBounds_toArray, List.set_cons_zero, List.set_cons_succ]
      refine up_take (by exact (atS (atS (atS (atS (atS (atS at0))))))) (by kernel_rfl) (by exact fun _ _ _ h => h) (by rfl) (by intro W hW; go_simp; try with_reducible rfl) ?_
      simp only [Act.put, List.setIfInBounds_toArray, List.set_cons_zero, List.set_cons_succ]
      refine up_take (by exact (atS (atS (atS (atS (atS (atS (atS at0)))))))) (by kernel_rfl) (by exact fun _ _ _ h => h) (by rfl) (by intro W hW; go_simp; try with_reducible rfl) ?_
      simp only [Act.put, List.setIfInBounds_toArray, List.set_cons_zero, List.set_cons_succ]
      refine up_done (by kernel_rfl) ?_
      go_wp2_with fail
      go_ret3
      have hbf : Below w1.heap.size w1 (w1.alloc (.cells #[.int .i64 2, .string (str nm), .slice none 0 0, .string ⟨#[]⟩] 36)) := (Below.refl _ _).alloc (Nat.le_refl _) _
      have hbx : Blk (w1.alloc (.cells #[.int .i64 2, .string (str nm), .slice none 0 0, .string ⟨#[]⟩] 36)) w1.heap.size 36 #[.int .i64 2, .string (str nm), .slice none 0 0, .string ⟨#[]⟩] := Blk.fresh _ _ _
      exact ⟨.slice (some ⟨w1.heap.size, 0, none⟩) 1 1, r2, by rw [HX.out]; rfl, drewb2 (below_then HB1.out hbf), fun ts r h => by rw [HX.out] at h; injection h with h; injection h with h1 h2; subst h1 h2; exact ⟨HR2.out, [⟨2, nm, [], .slice none 0 0, []⟩], rfl, tok_row1 (tx := []) (Blk.drew hbx) HB1.out.size⟩⟩
set_option maxHeartbeats 6400000 in
set_option maxRecDepth 100000 in
theorem rpart_6 (l : List UInt8) (w : World) (hl : l.length ≤ 1000000) (h0 : hasB l [60] = true) (h1 : hasB l mk1 = false) (h2 : hasB l mk2 = false) (h3 : hasB l mk3 = false) (h4 : hasB l mk4 = false) (h5 : hasB l mk5 = false) : Calls Tryd.prog 21 #[.string (str l)] w (RPartAns w l) := by
  have ix := head_60 h0
  have HL := Lib.hid hl
  have HF0 := Lib.hid h0
  have HH1 : Hid (hasB l [60, 33, 45, 45] = false) := Lib.hid h1
  have HH2 : Hid (hasB l [60, 63] = false) := Lib.hid h2
  have HH3 : Hid (hasB l [60, 33, 68, 79, 67, 84, 89, 80, 69] = false) := Lib.hid h3
  have HH4 : Hid (hasB l [60, 33, 91, 67, 68, 65, 84, 65, 91] = false) := Lib.hid h4
  have HH5 : Hid (hasB l [60, 47] = false) := Lib.hid h5
  have hp : partV l = (openV (l.drop 1)).map fun r => (⟨1, (nameV (l.drop 1)).1, r.1, []⟩ :: (if r.2.1 = true then [⟨2, (nameV (l.drop 1)).1, [], []⟩] else []), r.2.2) := by unfold partV; rw [if_neg (by rw [h0]; decide), h1, if_neg Bool.false_ne_true, h2, if_neg Bool.false_ne_true, h3, if_neg Bool.false_ne_true, h4, if_neg Bool.false_ne_true, h5, if_neg Bool.false_ne_true]
  have hle : 1 ≤ l.length := hasB_len h0
  have s2 : ∀ W, (Instr.slice 9 (.string (str l)) (some (.int .i64 1)) none none).run Tryd.prog W = .ok (.string (str (l.drop 1))) W := fun W => slt l 1 hle W
  obtain ⟨l2, hl2⟩ : ∃ l2, l2 = l.drop 1 := ⟨_, rfl⟩
  rw [← hl2] at hp s2
  have HL2 : Hid (l2.length ≤ 1000000) := Lib.hid (by rw [hl2, List.length_drop]; omega)
  have HP := Lib.hid hp
  clear hp hl2 hle
  clear hl h0 h1 h2 h3 h4 h5
  go_enter Tryd.func21, Tryd.ntmps21
  go_wp2_with (first | (go_at_call 50; refine (ropen_any l2 w HL2.out).mono ?_; rintro e w1 ⟨v, rest, rfl, hb1, hy⟩; have HB1 := Lib.hid hb1; have HY := Lib.hid hy; clear hb1 hy) | (go_at_call 47; have hm := HM4.out; clear hm; have kh := rhas_any l [60, 47] w; rw [HH5.out] at kh; refine kh.mono ?_; rintro e wh ⟨rfl, rfl⟩; clear kh; have HM5 : Hid True := Lib.hid trivial) | (go_at_call 47; have hm := HM3.out; clear hm; have kh := rhas_any l [60, 33, 91, 67, 68, 65, 84, 65, 91] w; rw [HH4.out] at kh; refine kh.mono ?_; rintro e wh ⟨rfl, rfl⟩; clear kh; have HM4 : Hid True := Lib.hid trivial) | (go_at_call 47; have hm := HM2.out; clear hm; have kh := rhas_any l [60, 33, 68, 79, 67, 84, 89, 80, 69] w; rw [HH3.out] at kh; refine kh.mono ?_; rintro e wh ⟨rfl, rfl⟩; clear kh; have HM3 : Hid True := Lib.hid trivial) | (go_at_call 47; have hm := HM1.out; clear hm; have kh := rhas_any l [60, 63] w; rw [HH2.out] at kh; refine kh.mono ?_; rintro e wh ⟨rfl, rfl⟩; clear kh; have HM2 : Hid True := Lib.hid trivial) | (go_at_call 47; have kh := rhas_any l [60, 33, 45, 45] w; rw [HH1.out] at kh; refine kh.mono ?_; rintro e wh ⟨rfl, rfl⟩; clear kh; have HM1 : Hid True := Lib.hid trivial))
  go_ret3
  refine ⟨v, rest, by rw [HP.out, Option.isSome_map]; rfl, HB1.out, fun ts r h => ?_⟩
  rw [HP.out] at h
  cases ho : openV l2 with
  | none => rw [ho] at h; cases h
  | some q =>
    obtain ⟨L, c, rr⟩ := q
    rw [ho] at h; injection h with h; injection h with h1 h2; subst h1 h2
    obtain ⟨h3, av, h4⟩ := HY.out L c rr ho
    refine ⟨h3, _, ?_, h4⟩
    cases c <;> rfl
set_option maxHeartbeats 6400000 in
set_option maxRecDepth 100000 in
theorem rpart_tnone (l : List UInt8) (w : World) (hl : l.length ≤ 1000000) (hne : l ≠ []) (h0 : hasB l [60] = false) (hf : findI [60] l = none) : Calls Tryd.prog 21 #[.string (str l)] w (RPartAns w l) := by
  obtain ⟨x, hx, ix⟩ := head_not hne h0
  have hxe : (x == 60) = false := by simpa using hx
  have hxd : decide (x = 60) = false := decide_eq_false hx
  have HL := Lib.hid hl
  have HP : Hid (partV l = some ([⟨3, [], [], readR (l)⟩], ([] : List UInt8))) := Lib.hid (by unfold partV; rw [if_pos h0, hf])
  have s2 : ∀ W, (Instr.slice 9 (.string (str l)) none (some (.int .i64 (l.length : Int))) none).run Tryd.prog W = .ok (.string (str l)) W := fun W => by have h := slf l l.length (Nat.le_refl _) W; rw [List.take_length] at h; exact h
  have s3 : ∀ W, (Instr.slice 9 (.string (str l)) (some (.int .i64 (l.length : Int))) none none).run Tryd.prog W = .ok (.string (str [])) W := fun W => by have h := slt l l.length (Nat.le_refl _) W; rw [List.drop_length] at h; exact h
  have HTL : Hid (l.length ≤ 1000000) := Lib.hid hl
  obtain ⟨tt, htt⟩ : ∃ tt, tt = l := ⟨_, rfl⟩
  obtain ⟨rr, hrr⟩ : ∃ rr : List UInt8, rr = [] := ⟨_, rfl⟩
  have KF : Hid (∀ W, Calls Tryd.prog 45 #[.string (str l), .string (str [60])] W (Pure W (.int .i64 (-1)))) := Lib.hid fun W => by have h := rfind_any l [60] W (by omega) (by simp) (by simp); rw [hf] at h; exact h
  clear hl hne h0 hf hx htt hrr
  go_enter Tryd.func21, Tryd.ntmps21
  go_wp2_with ((go_at_call 45; refine (KF.out _).mono ?_; rintro e wf ⟨rfl, rfl⟩))
  refine up_start (fun k => k = 0 ∨ 0 ≤ k) (by kernel_rfl) ?_
  refine up_take (by exact at0) (by kernel_rfl) (by exact fun _ _ _ h => h) (by rfl) (by intro W hW; go_simp; try with_reducible rfl) ?_
  simp only [Act.put, List.setIfInBounds_toArray, List.set_cons_zero, List.set_cons_succ]
  refine up_take (by exact (atS at0)) (by kernel_rfl) (by exact fun _ _ _ h => h) (by rfl) (by intro W hW; go_simp; try with_reducible rfl) ?_
  simp only [Act.put, List.setIfInBounds_toArray, List.set_cons_zero, List.set_cons_succ]
  refine up_take (by exact (atS (atS at0))) (by kernel_rfl) (by exact fun _ _ _ h => h) (by rfl) (by intro W hW; go_simp; try with_reducible rfl) ?_
  simp only [Act.put, List.setIfInBounds_toArray, List.set_cons_zero, List.set_cons_succ]
  refine up_take (by exact (atS (atS (atS (atS (atS (atS at0))))))) (by kernel_rfl) (by exact fun _ _ _ h => h) (by rfl) (by intro W hW; go_simp; try with_reducible rfl) ?_
  simp only [Act.put, List.setIfInBounds_toArray, List.set_cons_zero, List.set_cons_succ]
  refine up_take (by exact (atS (atS (atS (atS (atS (atS (atS at0)))))))) (by kernel_rfl) (by exact fun _ _ _ h => h) (by rfl) (by intro W hW; go_simp; try with_reducible rfl) ?_
  simp only [Act.put, List.setIfInBounds_toArray, List.set_cons_zero, List.set_cons_succ]
  refine up_take (by exact (atS (atS (atS (atS (atS (atS (atS (atS at0))))))))) (by kernel_rfl) (by exact fun _ _ _ h => h) (by rfl) (by intro W hW; go_simp; try with_reducible rfl) ?_
  simp only [Act.put, List.setIfInBounds_toArray, List.set_cons_zero, List.set_cons_succ]
  refine up_one (by exact (atS (atS (atS at0)))) (by kernel_rfl) (fun K hK => ?_)
  go_simp
  refine (rread_any l _ (by have := HTL.out; omega)).mono ?_
  rintro eD wD ⟨rfl, hbD⟩
  have hbD1 : Below w.heap.size w wD := ⟨hbD.os, hbD.tape, hbD.output, hbD.size, hbD.block⟩
  refine hK.out _ _ (Kept.belowB hbD (fun k _ => .inr (Nat.zero_le k))) ?_
  clear hK K
  have HBD := Lib.hid hbD1
  clear hbD hbD1
  refine up_take (by exact (atS (atS (atS (atS at0))))) (by kernel_rfl) (by exact fun _ _ _ h => h) (by rfl) (by intro W hW; go_simp; try with_reducible rfl) ?_
  simp only [Act.put, List.setIfInBounds_toArray, List.set_cons_zero, List.set_cons_succ]
  refine up_one (by exact (atS (atS (atS (atS (atS at0)))))) (by kernel_rfl) (fun K hK => ?_)
  go_simp
  refine hK.out _ _ (Kept.belowB ((Below.refl _ _).alloc (Nat.le_refl _) _) (fun k _ => .inr (Nat.zero_le k))) ?_
  clear hK K
  refine up_take (by exact (atS (atS (atS (atS (atS (atS (atS (atS (atS at0)))))))))) (by kernel_rfl) (by exact fun _ _ _ h => h) (by rfl) (by intro W hW; go_simp; try with_reducible rfl) ?_
  simp only [Act.put, List.setIfInBounds_toArray, List.set_cons_zero, List.set_cons_succ]
  refine up_take (by exact (atS (atS (atS (atS (atS (atS (atS (atS (atS (atS at0))))))))))) (by kernel_rfl) (by exact fun _ _ _ h => h) (by rfl) (by intro W hW; go_simp; try with_reducible rfl) ?_
  simp only [Act.put, List.setIfInBounds_toArray, List.set_cons_zero, List.set_cons_succ]
  refine up_take (by exact (atS (atS (atS (atS (atS (atS (atS (atS (atS (atS (atS at0)))))))))))) (by kernel_rfl) (by exact fun _ _ _ h => h) (by rfl) (by intro W hW; go_simp; try with_reducible rfl) ?_
  simp only [Act.put, List.setIfInBounds_toArray, List.set_cons_zero, List.set_cons_succ]
  refine up_done (by kernel_rfl) ?_
  go_wp2_with fail
  go_ret3
  have hbf : Below wD.heap.size wD (wD.alloc (.cells #[.int .i64 3, .string ⟨#[]⟩, .slice none 0 0, .string (str (readR l))] 36)) := (Below.refl _ _).alloc (Nat.le_refl _) _
  have hbx : Blk (wD.alloc (.cells #[.int .i64 3, .string ⟨#[]⟩, .slice none 0 0, .string (str (readR l))] 36)) wD.heap.size 36 #[.int .i64 3, .string ⟨#[]⟩, .slice none 0 0, .string (str (readR l))] := Blk.fresh _ _ _
  exact ⟨.slice (some ⟨wD.heap.size, 0, none⟩) 1 1, [], by rw [HP.out]; rfl, below_then HBD.out hbf, fun ts r h => by rw [HP.out] at h; injection h with h; injection h with h1 h2; subst h1 h2; exact ⟨rfl, [⟨3, [], [], .slice none 0 0, readR l⟩], rfl, tok_row1 (nm := []) hbx HBD.out.size⟩⟩
set_option maxHeartbeats 6400000 in
set_option maxRecDepth 100000 in
theorem rpart_tsome (l : List UInt8) (w : World) (hl : l.length ≤ 1000000) (hne : l ≠ []) (h0 : hasB l [60] = false) (n : Nat) (hf : findI [60] l = some n) : Calls Tryd.prog 21 #[.string (str l)] w (RPartAns w l) := by
  obtain ⟨x, hx, ix⟩ := head_not hne h0
  have hxe : (x == 60) = false := by simpa using hx
  have hxd : decide (x = 60) = false := decide_eq_false hx
  have HL := Lib.hid hl
  have HP : Hid (partV l = some ([⟨3, [], [], readR (l.take n)⟩], l.drop n)) := Lib.hid (by unfold partV; rw [if_pos h0, hf])
  have hnl : n + 1 ≤ l.length := by have h := findI_le l n hf; simpa using h
  have s2 : ∀ W, (Instr.slice 9 (.string (str l)) none (some (.int .i64 (n : Int))) none).run Tryd.prog W = .ok (.string (str (l.take n))) W := fun W => slf l n (by omega) W
  have s3 : ∀ W, (Instr.slice 9 (.string (str l)) (some (.int .i64 (n : Int))) none none).run Tryd.prog W = .ok (.string (str (l.drop n))) W := fun W => slt l n (by omega) W
  have HTL : Hid ((l.take n).length ≤ 1000000) := Lib.hid (by rw [List.length_take]; omega)
  have hn0 : ¬ (n : Int) < 0 := by omega
  obtain ⟨tt, htt⟩ : ∃ tt, tt = l.take n := ⟨_, rfl⟩
  obtain ⟨rr, hrr⟩ : ∃ rr, rr = l.drop n := ⟨_, rfl⟩
  rw [← htt] at s2 HTL HP
  rw [← hrr] at s3 HP
  have KF : Hid (∀ W, Calls Tryd.prog 45 #[.string (str l), .string (str [60])] W (Pure W (.int .i64 (n : Int)))) := Lib.hid fun W => by have h := rfind_any l [60] W (by omega) (by simp) (by simp); rw [hf] at h; exact h
  clear hl hne h0 hf hx hnl htt hrr
  go_enter Tryd.func21, Tryd.ntmps21
  go_wp2_with ((go_at_call 45; refine (KF.out _).mono ?_; rintro e wf ⟨rfl, rfl⟩))
  refine up_start (fun k => k = 0 ∨ 0 ≤ k) (by kernel_rfl) ?_
  refine up_take (by exact at0) (by kernel_rfl) (by exact fun _ _ _ h => h) (by rfl) (by intro W hW; go_simp; try with_reducible rfl) ?_
  simp only [Act.put, List.setIfInBounds_toArray, List.set_cons_zero, List.set_cons_succ]
  refine up_take (by exact (atS at0)) (by kernel_rfl) (by exact fun _ _ _ h => h) (by rfl) (by intro W hW; go_simp; try with_reducible rfl) ?_
  simp only [Act.put, List.setIfInBounds_toArray, List.set_cons_zero, List.set_cons_succ]
  refine up_take (by exact (atS (atS at0))) (by kernel_rfl) (by exact fun _ _ _ h => h) (by rfl) (by intro W hW; go_simp; try with_reducible rfl) ?_
  simp only [Act.put, List.setIfInBounds_toArray, List.set_cons_zero, List.set_cons_succ]
  refine up_take (by exact (atS (atS (atS (atS (atS (atS at0))))))) (by kernel_rfl) (by exact fun _ _ _ h => h) (by rfl) (by intro W hW; go_simp; try with_reducible rfl) ?_
  simp only [Act.put, List.setIfInBounds_toArray, List.set_cons_zero, List.set_cons_succ]
  refine up_take (by exact (atS (atS (atS (atS (atS (atS (atS at0)))))))) (by kernel_rfl) (by exact fun _ _ _ h => h) (by rfl) (by intro W hW; go_simp; try with_reducible rfl) ?_
  simp only [Act.put, List.setIfInBounds_toArray, List.set_cons_zero, List.set_cons_succ]
  refine up_take (by exact (atS (atS (atS (atS (atS (atS (atS (atS at0))))))))) (by kernel_rfl) (by exact fun _ _ _ h => h) (by rfl) (by intro W hW; go_simp; try with_reducible rfl) ?_
  simp only [Act.put, List.setIfInBounds_toArray, List.set_cons_zero, List.set_cons_succ]
  refine up_one (by exact (atS (atS (atS at0)))) (by kernel_rfl) (fun K hK => ?_)
  go_simp
  refine (rread_any tt _ (by have := HTL.out; omega)).mono ?_
  rintro eD wD ⟨rfl, hbD⟩
  have hbD1 : Below w.heap.size w wD := ⟨hbD.os, hbD.tape, hbD.output, hbD.size, hbD.block⟩
  refine hK.out _ _ (Kept.belowB hbD (fun k _ => .inr (Nat.zero_le k))) ?_
  clear hK K
  have HBD := Lib.hid hbD1
  clear hbD hbD1
  refine up_take (by exact (atS (atS (atS (atS at0))))) (by kernel_rfl) (by exact fun _ _ _ h => h) (by rfl) (by intro W hW; go_simp; try with_reducible rfl) ?_
  simp only [Act.put, List.setIfInBounds_toArray, List.set_cons_zero, List.set_cons_succ]
  refine up_one (by exact (atS (atS (atS (atS (atS at0)))))) (by kernel_rfl) (fun K hK => ?_)
  go_simp
  refine hK.out _ _ (Kept.belowB ((Below.refl _ _).alloc (Nat.le_refl _) _) (fun k _ => .inr (Nat.zero_le k))) ?_
  clear hK K
  refine up_take (by exact (atS (atS (atS (atS (atS (atS (atS (atS (atS at0)))))))))) (by kernel_rfl) (by exact fun _ _ _ h => h) (by rfl) (by intro W hW; go_simp; try with_reducible rfl) ?_
  simp only [Act.put, List.setIfInBounds_toArray, List.set_cons_zero, List.set_cons_succ]
  refine up_take (by exact (atS (atS (atS (atS (atS (atS (atS (atS (atS (atS at0))))))))))) (by kernel_rfl) (by exact fun _ _ _ h => h) (by rfl) (by intro W hW; go_simp; try with_reducible rfl) ?_
  simp only [Act.put, List.setIfInBounds_toArray, List.set_cons_zero, List.set_cons_succ]
  refine up_take (by exact (atS (atS (atS (atS (atS (atS (atS (atS (atS (atS (atS at0)))))))))))) (by kernel_rfl) (by exact fun _ _ _ h => h) (by rfl) (by intro W hW; go_simp; try with_reducible rfl) ?_
  simp only [Act.put, List.setIfInBounds_toArray, List.set_cons_zero, List.set_cons_succ]
  refine up_done (by kernel_rfl) ?_
  go_wp2_with fail
  go_ret3
  have hbf : Below wD.heap.size wD (wD.alloc (.cells #[.int .i64 3, .string ⟨#[]⟩, .slice none 0 0, .string (str (readR tt))] 36)) := (Below.refl _ _).alloc (Nat.le_refl _) _
  have hbx : Blk (wD.alloc (.cells #[.int .i64 3, .string ⟨#[]⟩, .slice none 0 0, .string (str (readR tt))] 36)) wD.heap.size 36 #[.int .i64 3, .string ⟨#[]⟩, .slice none 0 0, .string (str (readR tt))] := Blk.fresh _ _ _
  exact ⟨.slice (some ⟨wD.heap.size, 0, none⟩) 1 1, rr, by rw [HP.out]; rfl, below_then HBD.out hbf, fun ts r h => by rw [HP.out] at h; injection h with h; injection h with h1 h2; subst h1 h2; exact ⟨rfl, [⟨3, [], [], .slice none 0 0, readR tt⟩], rfl, tok_row1 (nm := []) hbx HBD.out.size⟩⟩
theorem rpart_any (l : List UInt8) (w : World) (hl : l.length ≤ 1000000) (hne : l ≠ []) : Calls Tryd.prog 21 #[.string (str l)] w (RPartAns w l) := by
  cases h0 : hasB l [60] with
  | false =>
    cases hf : findI [60] l with
    | none => exact rpart_tnone l w hl hne h0 hf
    | some n => exact rpart_tsome l w hl hne h0 n hf
  | true =>
  cases h1 : hasB l mk1 with
  | true => exact rpart_1 l w hl h0 h1
  | false =>
  cases h2 : hasB l mk2 with
  | true => exact rpart_2 l w hl h0 h1 h2
  | false =>
  cases h3 : hasB l mk3 with
  | true => exact rpart_3 l w hl h0 h1 h2 h3
  | false =>
  cases h4 : hasB l mk4 with
  | true => exact rpart_4 l w hl h0 h1 h2 h3 h4
  | false =>
  cases h5 : hasB l mk5 with
  | true => exact rpart_5 l w hl h0 h1 h2 h3 h4 h5
  | false => exact rpart_6 l w hl h0 h1 h2 h3 h4 h5
end Go.Proofs.YtelhdkidnhfnbaaDoor
