/-
  The next part of a document is read. Conditions: at most a million bytes and tokens; the rows lie above the reader; the table of signs and the library's MaxLen lie below it.
-/
import Derived.Test.YtelhdkidnhfnbaaDoorXOpen
import Derived.Test.YtelhdkidnhfnbaaDoorXPartM
namespace Go.Proofs.YtelhdkidnhfnbaaDoor
open Go.RowKit

def PartAns (w : World) (base g : Nat) (l : List UInt8) (E : List TokE) (text : List UInt8) (e : Ending) (w' : World) : Prop :=
  e = .returned (.bool (partX l).isSome) ∧ Off (fun k => k = g ∨ base ≤ k) w w' ∧
    (∀ ts r, partX l = some (ts, r) → ∃ tk' p' bf' E' text', RdrS w' base g r tk' p' bf' E' text' ∧ (E'.map TokE.tk, text') = ts.foldl addK (E.map TokE.tk, text))
theorem contains_any (l : List UInt8) (w : World) (hl : l.length ≤ 1000000) (hm : MaxAt w) : Calls Tryd.prog 36 #[.string (str l), .string (str [91])] w (Made w (.bool (l.contains 91))) := by
  obtain ⟨x, hx⟩ := hm
  refine (Tryd.strings_Contains (str l) (str [91]) x w (by rw [str_size]; omega) hx).mono ?_
  rw [str_data, str_data]
  rintro e w' ⟨rfl, n, rfl⟩
  refine ⟨?_, Below.refl _ _⟩
  congr 2
  rw [← findI_some1]
  unfold Lib.contains
  rw [index_find]
  cases findI [91] l with
  | none => rfl
  | some n => simp [findZ]
theorem MaxAt.keepsR {g : Nat} {w w' : World} (h : MaxAt w) (hk : KeepsR g w w') (hg : 1 < g) : MaxAt w' := by
  obtain ⟨m, hm⟩ := h
  refine ⟨m, (World.cell?_of_block (w := w) (a := ⟨1, 0, none⟩) (hk.block _ (World.block_lt_of_cell? w _ hm) (by intro e; injection e with e; have e2 : 1 = g := e; omega))).trans hm⟩
theorem skip_no {l m : List UInt8} (h : hasB l m = false) : skipD l m = l := by unfold skipD; rw [h]; rfl
theorem skip_yes {l m : List UInt8} (h : hasB l m = true) : skipD l m = l.drop m.length := by unfold skipD; rw [h]; rfl
theorem off_keeps {g base : Nat} {w w' : World} (h : KeepsR g w w') : Off (fun k => k = g ∨ base ≤ k) w w' := (Off.step h).wide fun _ h => .inl h
theorem textTok_tk (E : List TokE) (text : List UInt8) : (E ++ textTok text).map TokE.tk = E.map TokE.tk ++ textK text := by rw [List.map_append, textK_tok]
theorem betwX_some {l a b x y : List UInt8} (h : cutW (l.drop a.length) b = (x, y, true)) : betwX l a b = some (x, y) := by unfold betwX; rw [h]; rfl
theorem betwX_none {l a b x y : List UInt8} (h : cutW (l.drop a.length) b = (x, y, false)) : betwX l a b = none := by unfold betwX; rw [h]; rfl
theorem part_1 {l : List UInt8} (h : hasB l mk1 = true) : partX l = (betwX l mk1 [45, 45, 62]).map fun r => ([], r.2) := by unfold partX; rw [if_pos h]
theorem part_2 {l : List UInt8} (h1 : hasB l mk1 = false) (h : hasB l mk2 = true) : partX l = (betwX l mk2 [63, 62]).map fun r => ([], r.2) := by unfold partX; rw [h1, if_neg Bool.false_ne_true, if_pos h]
theorem part_3 {l : List UInt8} (h1 : hasB l mk1 = false) (h2 : hasB l mk2 = false) (h : hasB l mk3 = true) : partX l = (match betwX l mk3 [62] with
    | none => none
    | some r => if r.1.contains 91 = true then none else some ([], r.2)) := by unfold partX; rw [h1, h2, if_neg Bool.false_ne_true, if_neg Bool.false_ne_true, if_pos h]; rfl
theorem part_4 {l : List UInt8} (h1 : hasB l mk1 = false) (h2 : hasB l mk2 = false) (h3 : hasB l mk3 = false) (h : hasB l mk4 = true) : partX l = (betwX l mk4 [93, 93, 62]).map fun r => ([⟨3, [], [], r.1⟩], r.2) := by
  unfold partX; rw [h1, h2, h3, if_neg Bool.false_ne_true, if_neg Bool.false_ne_true, if_neg Bool.false_ne_true, if_pos h]
theorem part_5 {l : List UInt8} (h1 : hasB l mk1 = false) (h2 : hasB l mk2 = false) (h3 : hasB l mk3 = false) (h4 : hasB l mk4 = false) (h : hasB l mk5 = true) : partX l = (if closX (l.drop 2) = true then some ([⟨2, nameIn (l.drop 2), [], []⟩], (restIn (l.drop 2)).drop 1) else none) := by
  unfold partX; rw [h1, h2, h3, h4, if_neg Bool.false_ne_true, if_neg Bool.false_ne_true, if_neg Bool.false_ne_true, if_neg Bool.false_ne_true, if_pos h]
theorem part_6 {l : List UInt8} (h1 : hasB l mk1 = false) (h2 : hasB l mk2 = false) (h3 : hasB l mk3 = false) (h4 : hasB l mk4 = false) (h5 : hasB l mk5 = false) (h : hasB l [60] = true) : partX l = (opnX (l.drop 1)).map fun r => (openT (l.drop 1) r.1 r.2.1, r.2.2) := by
  unfold partX; rw [h1, h2, h3, h4, h5, if_neg Bool.false_ne_true, if_neg Bool.false_ne_true, if_neg Bool.false_ne_true, if_neg Bool.false_ne_true, if_neg Bool.false_ne_true, if_pos h]
theorem part_7 {l : List UInt8} (h1 : hasB l mk1 = false) (h2 : hasB l mk2 = false) (h3 : hasB l mk3 = false) (h4 : hasB l mk4 = false) (h5 : hasB l mk5 = false) (h6 : hasB l [60] = false) : partX l = some ([⟨3, [], [], readR (l.takeWhile fun b => b.toNat != 60)⟩], l.dropWhile fun b => b.toNat != 60) := by
  unfold partX; rw [h1, h2, h3, h4, h5, h6, if_neg Bool.false_ne_true, if_neg Bool.false_ne_true, if_neg Bool.false_ne_true, if_neg Bool.false_ne_true, if_neg Bool.false_ne_true, if_neg Bool.false_ne_true]
theorem cut_len_le {l m a b : List UInt8} {B : Bool} (h : (a, b, B) = cutW l m) : a.length ≤ l.length := by
  have h2 := cutW_find l m
  rw [← h] at h2
  cases hf : findI m l with
  | none => rw [hf] at h2; injection h2 with h2 _; rw [h2]; exact Nat.le_refl _
  | some n => rw [hf] at h2; injection h2 with h2 _; rw [h2, List.length_take]; omega
theorem fold_open (E : List Tk) (text l : List UInt8) (L : AttrL) (c : Bool) : (openT l L c).foldl addK (E, text) = (E ++ textK text ++ openT l L c, []) := by
  unfold openT
  cases c with
  | false => rfl
  | true =>
    show ((E ++ textK text ++ [_]) ++ textK [] ++ [_], []) = _
    rw [show textK [] = [] from rfl, List.append_nil, List.append_assoc (E ++ textK text)]
    rfl
def PartHyp (w : World) (base g : Nat) (l : List UInt8) (tk p bf : Value) (E : List TokE) (text : List UInt8) : Prop :=
  RdrS w base g l tk p bf E text ∧ E.length + 4 ≤ 1000000 ∧ l.length ≤ 1000000 ∧ text.length + 4 * l.length ≤ 100000000 ∧ Sig w ∧ MaxAt w ∧ 0 < g ∧ 1 < g
set_option maxHeartbeats 6400000 in
set_option maxRecDepth 100000 in
theorem prt1_any {w : World} {base g : Nat} {l : List UInt8} {tk p bf : Value} {E : List TokE} {text : List UInt8} (h : PartHyp w base g l tk p bf E text) (h1 : hasB l mk1 = true) :
    Calls Tryd.prog 18 #[.pointer (some ⟨g, 0, none⟩)] w (PartAns w base g l E text) := by
  obtain ⟨hrs, hE, hl, ht, hS, hm, hg, hgm⟩ := h
  have HRS := Lib.hid hrs
  have HE := Lib.hid hE
  have HL := Lib.hid hl
  have HT := Lib.hid ht
  have HS := Lib.hid hS
  have HM := Lib.hid hm
  have HG := Lib.hid hg
  have HGM := Lib.hid hgm
  have HFy : Hid (hasB l [60, 33, 45, 45] = true) := Lib.hid h1
  have HNy : Hid (skipD l [60, 33, 45, 45] = l.drop 4) := Lib.hid (skip_yes h1)
  clear hrs hE hl ht hS hm hg hgm h1
  have HP : Hid (partX l = _) := Lib.hid (part_1 HFy.out)
  obtain ⟨⟨a, b, B⟩, hcw⟩ : ∃ x, x = cutW (l.drop 4) [45, 45, 62] := ⟨_, rfl⟩
  have HCW := Lib.hid hcw
  have HAL : Hid (a.length ≤ l.length) := Lib.hid (by have h := cut_len_le hcw; rw [List.length_drop] at h; omega)
  have HDL : Hid ((l.drop 4).length ≤ 1000000) := Lib.hid (by have := HL.out; rw [List.length_drop]; omega)
  clear hcw
  cases B with
  | false =>
    have HX : Hid (partX l = none) := Lib.hid (by rw [HP.out, betwX_none (a := mk1) HCW.out.symm]; rfl)
    go_enter Tryd.func18, Tryd.ntmps18
    go_wp2_with (first | (go_at_call 35; have ku := upTo_any HRy.out [45, 45, 62] HDL.out (HM.out.keepsR HKy.out HGM.out); rw [← HCW.out] at ku; refine ku.mono ?_; rintro e wu ⟨rfl, hr, hk⟩; have HRu : Hid (RdrAt wu g b tk p bf) := Lib.hid hr; have HKu := Lib.hid (HKy.out.trans hk); clear ku hr hk) | (go_at_call 34; have ks := skip_any HRS.out.1 [60, 33, 45, 45]; rw [HFy.out, HNy.out] at ks; refine ks.mono ?_; rintro e wy ⟨rfl, hr, hk⟩; have HRy := Lib.hid hr; have HKy := Lib.hid hk; clear ks hr hk))
    go_ret
    exact ⟨by rw [HX.out]; rfl, off_keeps HKu.out, fun ts r h => by rw [HX.out] at h; cases h⟩
  | true =>
    have HX : Hid (partX l = some ([], b)) := Lib.hid (by rw [HP.out, betwX_some (a := mk1) HCW.out.symm]; rfl)
    go_enter Tryd.func18, Tryd.ntmps18
    go_wp2_with (first | (go_at_call 35; have ku := upTo_any HRy.out [45, 45, 62] HDL.out (HM.out.keepsR HKy.out HGM.out); rw [← HCW.out] at ku; refine ku.mono ?_; rintro e wu ⟨rfl, hr, hk⟩; have HRu : Hid (RdrAt wu g b tk p bf) := Lib.hid hr; have HKu := Lib.hid (HKy.out.trans hk); clear ku hr hk) | (go_at_call 34; have ks := skip_any HRS.out.1 [60, 33, 45, 45]; rw [HFy.out, HNy.out] at ks; refine ks.mono ?_; rintro e wy ⟨rfl, hr, hk⟩; have HRy := Lib.hid hr; have HKy := Lib.hid hk; clear ks hr hk))
    go_ret
    exact ⟨by rw [HX.out]; rfl, off_keeps HKu.out, fun ts r h => by rw [HX.out] at h; injection h with h; injection h with h1 h2; subst h1 h2; exact ⟨tk, p, bf, E, text, HRS.out.step HRu.out HKu.out, rfl⟩⟩
set_option maxHeartbeats 6400000 in
set_option maxRecDepth 100000 in
theorem prt2_any {w : World} {base g : Nat} {l : List UInt8} {tk p bf : Value} {E : List TokE} {text : List UInt8} (h : PartHyp w base g l tk p bf E text) (h1 : hasB l mk1 = false) (h2 : hasB l mk2 = true) :
    Calls Tryd.prog 18 #[.pointer (some ⟨g, 0, none⟩)] w (PartAns w base g l E text) := by
  obtain ⟨hrs, hE, hl, ht, hS, hm, hg, hgm⟩ := h
  have HRS := Lib.hid hrs
  have HE := Lib.hid hE
  have HL := Lib.hid hl
  have HT := Lib.hid ht
  have HS := Lib.hid hS
  have HM := Lib.hid hm
  have HG := Lib.hid hg
  have HGM := Lib.hid hgm
  have HF1 : Hid (hasB l [60, 33, 45, 45] = false) := Lib.hid h1
  have HN1 : Hid (skipD l [60, 33, 45, 45] = l) := Lib.hid (skip_no h1)
  have HFy : Hid (hasB l [60, 63] = true) := Lib.hid h2
  have HNy : Hid (skipD l [60, 63] = l.drop 2) := Lib.hid (skip_yes h2)
  clear hrs hE hl ht hS hm hg hgm h1 h2
  have HP : Hid (partX l = _) := Lib.hid (part_2 HF1.out HFy.out)
  obtain ⟨⟨a, b, B⟩, hcw⟩ : ∃ x, x = cutW (l.drop 2) [63, 62] := ⟨_, rfl⟩
  have HCW := Lib.hid hcw
  have HAL : Hid (a.length ≤ l.length) := Lib.hid (by have h := cut_len_le hcw; rw [List.length_drop] at h; omega)
  have HDL : Hid ((l.drop 2).length ≤ 1000000) := Lib.hid (by have := HL.out; rw [List.length_drop]; omega)
  clear hcw
  cases B with
  | false =>
    have HX : Hid (partX l = none) := Lib.hid (by rw [HP.out, betwX_none (a := mk2) HCW.out.symm]; rfl)
    go_enter Tryd.func18, Tryd.ntmps18
    go_wp2_with (first | (go_at_call 35; have ku := upTo_any HRy.out [63, 62] HDL.out (HM.out.keepsR HKy.out HGM.out); rw [← HCW.out] at ku; refine ku.mono ?_; rintro e wu ⟨rfl, hr, hk⟩; have HRu : Hid (RdrAt wu g b tk p bf) := Lib.hid hr; have HKu := Lib.hid (HKy.out.trans hk); clear ku hr hk) | (go_at_call 34; have ks := skip_any HR1.out [60, 63]; rw [HFy.out, HNy.out] at ks; refine ks.mono ?_; rintro e wy ⟨rfl, hr, hk⟩; have HRy := Lib.hid hr; have HKy := Lib.hid (HK1.out.trans hk); clear ks hr hk) | (go_at_call 34; have ks := skip_any HRS.out.1 [60, 33, 45, 45]; rw [HF1.out, HN1.out] at ks; refine ks.mono ?_; rintro e w1 ⟨rfl, hr, hk⟩; have HR1 := Lib.hid hr; have HK1 := Lib.hid hk; clear ks hr hk))
    go_ret
    exact ⟨by rw [HX.out]; rfl, off_keeps HKu.out, fun ts r h => by rw [HX.out] at h; cases h⟩
  | true =>
    have HX : Hid (partX l = some ([], b)) := Lib.hid (by rw [HP.out, betwX_some (a := mk2) HCW.out.symm]; rfl)
    go_enter Tryd.func18, Tryd.ntmps18
    go_wp2_with (first | (go_at_call 35; have ku := upTo_any HRy.out [63, 62] HDL.out (HM.out.keepsR HKy.out HGM.out); rw [← HCW.out] at ku; refine ku.mono ?_; rintro e wu ⟨rfl, hr, hk⟩; have HRu : Hid (RdrAt wu g b tk p bf) := Lib.hid hr; have HKu := Lib.hid (HKy.out.trans hk); clear ku hr hk) | (go_at_call 34; have ks := skip_any HR1.out [60, 63]; rw [HFy.out, HNy.out] at ks; refine ks.mono ?_; rintro e wy ⟨rfl, hr, hk⟩; have HRy := Lib.hid hr; have HKy := Lib.hid (HK1.out.trans hk); clear ks hr hk) | (go_at_call 34; have ks := skip_any HRS.out.1 [60, 33, 45, 45]; rw [HF1.out, HN1.out] at ks; refine ks.mono ?_; rintro e w1 ⟨rfl, hr, hk⟩; have HR1 := Lib.hid hr; have HK1 := Lib.hid hk; clear ks hr hk))
    go_ret
    exact ⟨by rw [HX.out]; rfl, off_keeps HKu.out, fun ts r h => by rw [HX.out] at h; injection h with h; injection h with h1 h2; subst h1 h2; exact ⟨tk, p, bf, E, text, HRS.out.step HRu.out HKu.out, rfl⟩⟩
set_option maxHeartbeats 6400000 in
set_option maxRecDepth 100000 in
theorem prt3_any {w : World} {base g : Nat} {l : List UInt8} {tk p bf : Value} {E : List TokE} {text : List UInt8} (h : PartHyp w base g l tk p bf E text) (h1 : hasB l mk1 = false) (h2 : hasB l mk2 = false) (h3 : hasB l mk3 = true) :
    Calls Tryd.prog 18 #[.pointer (some ⟨g, 0, none⟩)] w (PartAns w base g l E text) := by
  obtain ⟨hrs, hE, hl, ht, hS, hm, hg, hgm⟩ := h
  have HRS := Lib.hid hrs
  have HE := Lib.hid hE
  have HL := Lib.hid hl
  have HT := Lib.hid ht
  have HS := Lib.hid hS
  have HM := Lib.hid hm
  have HG := Lib.hid hg
  have HGM := Lib.hid hgm
  have HF1 : Hid (hasB l [60, 33, 45, 45] = false) := Lib.hid h1
  have HN1 : Hid (skipD l [60, 33, 45, 45] = l) := Lib.hid (skip_no h1)
  have HF2 : Hid (hasB l [60, 63] = false) := Lib.hid h2
  have HN2 : Hid (skipD l [60, 63] = l) := Lib.hid (skip_no h2)
  have HFy : Hid (hasB l [60, 33, 68, 79, 67, 84, 89, 80, 69] = true) := Lib.hid h3
  have HNy : Hid (skipD l [60, 33, 68, 79, 67, 84, 89, 80, 69] = l.drop 9) := Lib.hid (skip_yes h3)
  clear hrs hE hl ht hS hm hg hgm h1 h2 h3
  have HP : Hid (partX l = _) := Lib.hid (part_3 HF1.out HF2.out HFy.out)
  obtain ⟨⟨a, b, B⟩, hcw⟩ : ∃ x, x = cutW (l.drop 9) [62] := ⟨_, rfl⟩
  have HCW := Lib.hid hcw
  have HAL : Hid (a.length ≤ l.length) := Lib.hid (by have h := cut_len_le hcw; rw [List.length_drop] at h; omega)
  have HDL : Hid ((l.drop 9).length ≤ 1000000) := Lib.hid (by have := HL.out; rw [List.length_drop]; omega)
  clear hcw
  cases B with
  | false =>
    have HX : Hid (partX l = none) := Lib.hid (by rw [HP.out, betwX_none (a := mk3) HCW.out.symm])
    go_enter Tryd.func18, Tryd.ntmps18
    go_wp2_with (first | (go_at_call 35; have ku := upTo_any HRy.out [62] HDL.out (HM.out.keepsR HKy.out HGM.out); rw [← HCW.out] at ku; refine ku.mono ?_; rintro e wu ⟨rfl, hr, hk⟩; have HRu : Hid (RdrAt wu g b tk p bf) := Lib.hid hr; have HKu := Lib.hid (HKy.out.trans hk); clear ku hr hk) | (go_at_call 34; have ks := skip_any HR2.out [60, 33, 68, 79, 67, 84, 89, 80, 69]; rw [HFy.out, HNy.out] at ks; refine ks.mono ?_; rintro e wy ⟨rfl, hr, hk⟩; have HRy := Lib.hid hr; have HKy := Lib.hid (HK2.out.trans hk); clear ks hr hk) | (go_at_call 34; have ks := skip_any HR1.out [60, 63]; rw [HF2.out, HN2.out] at ks; refine ks.mono ?_; rintro e w2 ⟨rfl, hr, hk⟩; have HR2 := Lib.hid hr; have HK2 := Lib.hid (HK1.out.trans hk); clear ks hr hk) | (go_at_call 34; have ks := skip_any HRS.out.1 [60, 33, 45, 45]; rw [HF1.out, HN1.out] at ks; refine ks.mono ?_; rintro e w1 ⟨rfl, hr, hk⟩; have HR1 := Lib.hid hr; have HK1 := Lib.hid hk; clear ks hr hk))
    go_ret
    exact ⟨by rw [HX.out]; rfl, off_keeps HKu.out, fun ts r h => by rw [HX.out] at h; cases h⟩
  | true =>
    obtain ⟨C, hC⟩ : ∃ C, C = a.contains 91 := ⟨_, rfl⟩
    have HC := Lib.hid hC
    have HPX : Hid (partX l = if C = true then none else some ([], b)) := Lib.hid (by rw [HP.out, betwX_some (a := mk3) HCW.out.symm, HC.out])
    clear hC
    go_enter Tryd.func18, Tryd.ntmps18
    go_wp2_with (first | (go_at_call 36; have kc := contains_any a wu (by have := HAL.out; have := HL.out; omega) (HM.out.keepsR HKu.out HGM.out); rw [← HC.out] at kc; refine kc.mono ?_; rintro e wc ⟨rfl, hb⟩; have HRc := Lib.hid (HRu.out.below hb HRu.out.lt6); have HKc := Lib.hid (HKu.out.trans (KeepsR.of hb)); clear kc hb) | (go_at_call 35; have ku := upTo_any HRy.out [62] HDL.out (HM.out.keepsR HKy.out HGM.out); rw [← HCW.out] at ku; refine ku.mono ?_; rintro e wu ⟨rfl, hr, hk⟩; have HRu : Hid (RdrAt wu g b tk p bf) := Lib.hid hr; have HKu := Lib.hid (HKy.out.trans hk); clear ku hr hk) | (go_at_call 34; have ks := skip_any HR2.out [60, 33, 68, 79, 67, 84, 89, 80, 69]; rw [HFy.out, HNy.out] at ks; refine ks.mono ?_; rintro e wy ⟨rfl, hr, hk⟩; have HRy := Lib.hid hr; have HKy := Lib.hid (HK2.out.trans hk); clear ks hr hk) | (go_at_call 34; have ks := skip_any HR1.out [60, 63]; rw [HF2.out, HN2.out] at ks; refine ks.mono ?_; rintro e w2 ⟨rfl, hr, hk⟩; have HR2 := Lib.hid hr; have HK2 := Lib.hid (HK1.out.trans hk); clear ks hr hk) | (go_at_call 34; have ks := skip_any HRS.out.1 [60, 33, 45, 45]; rw [HF1.out, HN1.out] at ks; refine ks.mono ?_; rintro e w1 ⟨rfl, hr, hk⟩; have HR1 := Lib.hid hr; have HK1 := Lib.hid hk; clear ks hr hk))
    go_ret
    cases C with
    | false =>
      have HX : Hid (partX l = some ([], b)) := Lib.hid HPX.out
      exact ⟨by rw [HX.out]; rfl, off_keeps HKc.out, fun ts r h => by rw [HX.out] at h; injection h with h; injection h with h1 h2; subst h1 h2; exact ⟨tk, p, bf, E, text, HRS.out.step HRc.out HKc.out, rfl⟩⟩
    | true =>
      have HX : Hid (partX l = none) := Lib.hid HPX.out
      exact ⟨by rw [HX.out]; rfl, off_keeps HKc.out, fun ts r h => by rw [HX.out] at h; cases h⟩
set_option maxHeartbeats 6400000 in
set_option maxRecDepth 100000 in
theorem prt4_any {w : World} {base g : Nat} {l : List UInt8} {tk p bf : Value} {E : List TokE} {text : List UInt8} (h : PartHyp w base g l tk p bf E text) (h1 : hasB l mk1 = false) (h2 : hasB l mk2 = false) (h3 : hasB l mk3 = false) (h4 : hasB l mk4 = true) :
    Calls Tryd.prog 18 #[.pointer (some ⟨g, 0, none⟩)] w (PartAns w base g l E text) := by
  obtain ⟨hrs, hE, hl, ht, hS, hm, hg, hgm⟩ := h
  have HRS := Lib.hid hrs
  have HE := Lib.hid hE
  have HL := Lib.hid hl
  have HT := Lib.hid ht
  have HS := Lib.hid hS
  have HM := Lib.hid hm
  have HG := Lib.hid hg
  have HGM := Lib.hid hgm
  have HF1 : Hid (hasB l [60, 33, 45, 45] = false) := Lib.hid h1
  have HN1 : Hid (skipD l [60, 33, 45, 45] = l) := Lib.hid (skip_no h1)
  have HF2 : Hid (hasB l [60, 63] = false) := Lib.hid h2
  have HN2 : Hid (skipD l [60, 63] = l) := Lib.hid (skip_no h2)
  have HF3 : Hid (hasB l [60, 33, 68, 79, 67, 84, 89, 80, 69] = false) := Lib.hid h3
  have HN3 : Hid (skipD l [60, 33, 68, 79, 67, 84, 89, 80, 69] = l) := Lib.hid (skip_no h3)
  have HFy : Hid (hasB l [60, 33, 91, 67, 68, 65, 84, 65, 91] = true) := Lib.hid h4
  have HNy : Hid (skipD l [60, 33, 91, 67, 68, 65, 84, 65, 91] = l.drop 9) := Lib.hid (skip_yes h4)
  clear hrs hE hl ht hS hm hg hgm h1 h2 h3 h4
  have HP : Hid (partX l = _) := Lib.hid (part_4 HF1.out HF2.out HF3.out HFy.out)
  obtain ⟨⟨a, b, B⟩, hcw⟩ : ∃ x, x = cutW (l.drop 9) [93, 93, 62] := ⟨_, rfl⟩
  have HCW := Lib.hid hcw
  have HAL : Hid (a.length ≤ l.length) := Lib.hid (by have h := cut_len_le hcw; rw [List.length_drop] at h; omega)
  have HDL : Hid ((l.drop 9).length ≤ 1000000) := Lib.hid (by have := HL.out; rw [List.length_drop]; omega)
  clear hcw
  have HSB : Hid (selfP g = .pointer (some ⟨g, 2, none⟩)) := Lib.hid rfl
  cases B with
  | false =>
    have HX : Hid (partX l = none) := Lib.hid (by rw [HP.out, betwX_none (a := mk4) HCW.out.symm]; rfl)
    go_enter Tryd.func18, Tryd.ntmps18
    go_wp2_with (first | (go_at_call 37; have kp := putText_any (HRS.out.step HRu.out HKu.out) a (by have := HT.out; have := HAL.out; omega); refine kp.mono ?_; rintro e wp ⟨rfl, p', bf', hr, ho⟩; have HRp := Lib.hid hr; have HOp := Lib.hid ((off_keeps (base := base) HKu.out).trans (ho.wide (G := fun k => k = g ∨ base ≤ k) fun k hk => wide_blk HRS.out (hk.imp (fun h => h) fun h => .inl h)) fun _ h => .inl h); clear kp hr ho) | (go_at_call 35; have ku := upTo_any HRy.out [93, 93, 62] HDL.out (HM.out.keepsR HKy.out HGM.out); rw [← HCW.out] at ku; refine ku.mono ?_; rintro e wu ⟨rfl, hr, hk⟩; have HRu : Hid (RdrAt wu g b tk p bf) := Lib.hid hr; have HKu := Lib.hid (HKy.out.trans hk); clear ku hr hk) | (go_at_call 34; have ks := skip_any HR3.out [60, 33, 91, 67, 68, 65, 84, 65, 91]; rw [HFy.out, HNy.out] at ks; refine ks.mono ?_; rintro e wy ⟨rfl, hr, hk⟩; have HRy := Lib.hid hr; have HKy := Lib.hid (HK3.out.trans hk); clear ks hr hk) | (go_at_call 34; have ks := skip_any HR2.out [60, 33, 68, 79, 67, 84, 89, 80, 69]; rw [HF3.out, HN3.out] at ks; refine ks.mono ?_; rintro e w3 ⟨rfl, hr, hk⟩; have HR3 := Lib.hid hr; have HK3 := Lib.hid (HK2.out.trans hk); clear ks hr hk) | (go_at_call 34; have ks := skip_any HR1.out [60, 63]; rw [HF2.out, HN2.out] at ks; refine ks.mono ?_; rintro e w2 ⟨rfl, hr, hk⟩; have HR2 := Lib.hid hr; have HK2 := Lib.hid (HK1.out.trans hk); clear ks hr hk) | (go_at_call 34; have ks := skip_any HRS.out.1 [60, 33, 45, 45]; rw [HF1.out, HN1.out] at ks; refine ks.mono ?_; rintro e w1 ⟨rfl, hr, hk⟩; have HR1 := Lib.hid hr; have HK1 := Lib.hid hk; clear ks hr hk))
    go_ret
    exact ⟨by rw [HX.out]; rfl, HOp.out, fun ts r h => by rw [HX.out] at h; cases h⟩
  | true =>
    have HX : Hid (partX l = some ([⟨3, [], [], a⟩], b)) := Lib.hid (by rw [HP.out, betwX_some (a := mk4) HCW.out.symm]; rfl)
    go_enter Tryd.func18, Tryd.ntmps18
    go_wp2_with (first | (go_at_call 37; have kp := putText_any (HRS.out.step HRu.out HKu.out) a (by have := HT.out; have := HAL.out; omega); refine kp.mono ?_; rintro e wp ⟨rfl, p', bf', hr, ho⟩; have HRp := Lib.hid hr; have HOp := Lib.hid ((off_keeps (base := base) HKu.out).trans (ho.wide (G := fun k => k = g ∨ base ≤ k) fun k hk => wide_blk HRS.out (hk.imp (fun h => h) fun h => .inl h)) fun _ h => .inl h); clear kp hr ho) | (go_at_call 35; have ku := upTo_any HRy.out [93, 93, 62] HDL.out (HM.out.keepsR HKy.out HGM.out); rw [← HCW.out] at ku; refine ku.mono ?_; rintro e wu ⟨rfl, hr, hk⟩; have HRu : Hid (RdrAt wu g b tk p bf) := Lib.hid hr; have HKu := Lib.hid (HKy.out.trans hk); clear ku hr hk) | (go_at_call 34; have ks := skip_any HR3.out [60, 33, 91, 67, 68, 65, 84, 65, 91]; rw [HFy.out, HNy.out] at ks; refine ks.mono ?_; rintro e wy ⟨rfl, hr, hk⟩; have HRy := Lib.hid hr; have HKy := Lib.hid (HK3.out.trans hk); clear ks hr hk) | (go_at_call 34; have ks := skip_any HR2.out [60, 33, 68, 79, 67, 84, 89, 80, 69]; rw [HF3.out, HN3.out] at ks; refine ks.mono ?_; rintro e w3 ⟨rfl, hr, hk⟩; have HR3 := Lib.hid hr; have HK3 := Lib.hid (HK2.out.trans hk); clear ks hr hk) | (go_at_call 34; have ks := skip_any HR1.out [60, 63]; rw [HF2.out, HN2.out] at ks; refine ks.mono ?_; rintro e w2 ⟨rfl, hr, hk⟩; have HR2 := Lib.hid hr; have HK2 := Lib.hid (HK1.out.trans hk); clear ks hr hk) | (go_at_call 34; have ks := skip_any HRS.out.1 [60, 33, 45, 45]; rw [HF1.out, HN1.out] at ks; refine ks.mono ?_; rintro e w1 ⟨rfl, hr, hk⟩; have HR1 := Lib.hid hr; have HK1 := Lib.hid hk; clear ks hr hk))
    go_ret
    exact ⟨by rw [HX.out]; rfl, HOp.out, fun ts r h => by rw [HX.out] at h; injection h with h; injection h with h1 h2; subst h1 h2; exact ⟨tk, p', bf', E, text ++ a, HRp.out, rfl⟩⟩
set_option maxHeartbeats 6400000 in
set_option maxRecDepth 100000 in
theorem prt5_any {w : World} {base g : Nat} {l : List UInt8} {tk p bf : Value} {E : List TokE} {text : List UInt8} (h : PartHyp w base g l tk p bf E text) (h1 : hasB l mk1 = false) (h2 : hasB l mk2 = false) (h3 : hasB l mk3 = false) (h4 : hasB l mk4 = false) (h5 : hasB l mk5 = true) :
    Calls Tryd.prog 18 #[.pointer (some ⟨g, 0, none⟩)] w (PartAns w base g l E text) := by
  obtain ⟨hrs, hE, hl, ht, hS, hm, hg, hgm⟩ := h
  have HRS := Lib.hid hrs
  have HE := Lib.hid hE
  have HL := Lib.hid hl
  have HT := Lib.hid ht
  have HS := Lib.hid hS
  have HM := Lib.hid hm
  have HG := Lib.hid hg
  have HGM := Lib.hid hgm
  have HF1 : Hid (hasB l [60, 33, 45, 45] = false) := Lib.hid h1
  have HN1 : Hid (skipD l [60, 33, 45, 45] = l) := Lib.hid (skip_no h1)
  have HF2 : Hid (hasB l [60, 63] = false) := Lib.hid h2
  have HN2 : Hid (skipD l [60, 63] = l) := Lib.hid (skip_no h2)
  have HF3 : Hid (hasB l [60, 33, 68, 79, 67, 84, 89, 80, 69] = false) := Lib.hid h3
  have HN3 : Hid (skipD l [60, 33, 68, 79, 67, 84, 89, 80, 69] = l) := Lib.hid (skip_no h3)
  have HF4 : Hid (hasB l [60, 33, 91, 67, 68, 65, 84, 65, 91] = false) := Lib.hid h4
  have HN4 : Hid (skipD l [60, 33, 91, 67, 68, 65, 84, 65, 91] = l) := Lib.hid (skip_no h4)
  have HFy : Hid (hasB l [60, 47] = true) := Lib.hid h5
  have HNy : Hid (skipD l [60, 47] = l.drop 2) := Lib.hid (skip_yes h5)
  clear hrs hE hl ht hS hm hg hgm h1 h2 h3 h4 h5
  have HP : Hid (partX l = _) := Lib.hid (part_5 HF1.out HF2.out HF3.out HF4.out HFy.out)
  obtain ⟨B, hB⟩ : ∃ B, B = closX (l.drop 2) := ⟨_, rfl⟩
  have HB := Lib.hid hB
  clear hB
  go_enter Tryd.func18, Tryd.ntmps18
  go_wp2_with (first | (go_at_call 38; have kc := closing_any (HRS.out.step HRy.out HKy.out) (by have := HE.out; omega); unfold ClosAns at kc; rw [← HB.out] at kc; refine kc.mono ?_; rintro e wc ⟨rfl, ho, hy⟩; have HOc := Lib.hid ((off_keeps (base := base) HKy.out).trans (ho.wide (G := fun k => k = g ∨ base ≤ k) fun k hk => wide_blk HRS.out hk) fun _ h => .inl h); have HYc := Lib.hid hy; clear kc ho hy) | (go_at_call 34; have ks := skip_any HR4.out [60, 47]; rw [HFy.out, HNy.out] at ks; refine ks.mono ?_; rintro e wy ⟨rfl, hr, hk⟩; have HRy := Lib.hid hr; have HKy := Lib.hid (HK4.out.trans hk); clear ks hr hk) | (go_at_call 34; have ks := skip_any HR3.out [60, 33, 91, 67, 68, 65, 84, 65, 91]; rw [HF4.out, HN4.out] at ks; refine ks.mono ?_; rintro e w4 ⟨rfl, hr, hk⟩; have HR4 := Lib.hid hr; have HK4 := Lib.hid (HK3.out.trans hk); clear ks hr hk) | (go_at_call 34; have ks := skip_any HR2.out [60, 33, 68, 79, 67, 84, 89, 80, 69]; rw [HF3.out, HN3.out] at ks; refine ks.mono ?_; rintro e w3 ⟨rfl, hr, hk⟩; have HR3 := Lib.hid hr; have HK3 := Lib.hid (HK2.out.trans hk); clear ks hr hk) | (go_at_call 34; have ks := skip_any HR1.out [60, 63]; rw [HF2.out, HN2.out] at ks; refine ks.mono ?_; rintro e w2 ⟨rfl, hr, hk⟩; have HR2 := Lib.hid hr; have HK2 := Lib.hid (HK1.out.trans hk); clear ks hr hk) | (go_at_call 34; have ks := skip_any HRS.out.1 [60, 33, 45, 45]; rw [HF1.out, HN1.out] at ks; refine ks.mono ?_; rintro e w1 ⟨rfl, hr, hk⟩; have HR1 := Lib.hid hr; have HK1 := Lib.hid hk; clear ks hr hk))
  go_ret
  cases B with
  | false =>
    have HX : Hid (partX l = none) := Lib.hid (by rw [HP.out, ← HB.out]; rfl)
    exact ⟨by rw [HX.out]; rfl, HOc.out, fun ts r h => by rw [HX.out] at h; cases h⟩
  | true =>
    have HX : Hid (partX l = some ([⟨2, nameIn (l.drop 2), [], []⟩], (restIn (l.drop 2)).drop 1)) := Lib.hid (by rw [HP.out, ← HB.out]; rfl)
    refine ⟨by rw [HX.out]; rfl, HOc.out, fun ts r h => ?_⟩
    rw [HX.out] at h; injection h with h; injection h with h1 h2; subst h1 h2
    obtain ⟨tk', p', bf', hr⟩ := HYc.out rfl
    exact ⟨tk', p', bf', _, _, hr, by rw [List.map_append, textTok_tk]; rfl⟩
set_option maxHeartbeats 6400000 in
set_option maxRecDepth 100000 in
theorem prt6_any {w : World} {base g : Nat} {l : List UInt8} {tk p bf : Value} {E : List TokE} {text : List UInt8} (h : PartHyp w base g l tk p bf E text) (h1 : hasB l mk1 = false) (h2 : hasB l mk2 = false) (h3 : hasB l mk3 = false) (h4 : hasB l mk4 = false) (h5 : hasB l mk5 = false) (h6 : hasB l [60] = true) :
    Calls Tryd.prog 18 #[.pointer (some ⟨g, 0, none⟩)] w (PartAns w base g l E text) := by
  obtain ⟨hrs, hE, hl, ht, hS, hm, hg, hgm⟩ := h
  have HRS := Lib.hid hrs
  have HE := Lib.hid hE
  have HL := Lib.hid hl
  have HT := Lib.hid ht
  have HS := Lib.hid hS
  have HM := Lib.hid hm
  have HG := Lib.hid hg
  have HGM := Lib.hid hgm
  have HF1 : Hid (hasB l [60, 33, 45, 45] = false) := Lib.hid h1
  have HN1 : Hid (skipD l [60, 33, 45, 45] = l) := Lib.hid (skip_no h1)
  have HF2 : Hid (hasB l [60, 63] = false) := Lib.hid h2
  have HN2 : Hid (skipD l [60, 63] = l) := Lib.hid (skip_no h2)
  have HF3 : Hid (hasB l [60, 33, 68, 79, 67, 84, 89, 80, 69] = false) := Lib.hid h3
  have HN3 : Hid (skipD l [60, 33, 68, 79, 67, 84, 89, 80, 69] = l) := Lib.hid (skip_no h3)
  have HF4 : Hid (hasB l [60, 33, 91, 67, 68, 65, 84, 65, 91] = false) := Lib.hid h4
  have HN4 : Hid (skipD l [60, 33, 91, 67, 68, 65, 84, 65, 91] = l) := Lib.hid (skip_no h4)
  have HF5 : Hid (hasB l [60, 47] = false) := Lib.hid h5
  have HN5 : Hid (skipD l [60, 47] = l) := Lib.hid (skip_no h5)
  obtain ⟨D1, hd1⟩ : ∃ D1, D1 = l.drop 1 := ⟨_, rfl⟩
  have HD1 := Lib.hid hd1
  have HFy : Hid (hasB l [60] = true) := Lib.hid h6
  have HNy : Hid (skipD l [60] = D1) := Lib.hid (by rw [hd1]; exact skip_yes h6)
  clear hd1 hrs hE hl ht hS hm hg hgm h1 h2 h3 h4 h5 h6
  have HP : Hid (partX l = (opnX D1).map fun r => (openT D1 r.1 r.2.1, r.2.2)) := Lib.hid (by have h := part_6 HF1.out HF2.out HF3.out HF4.out HF5.out HFy.out; rw [← HD1.out] at h; exact h)
  have HDL : Hid (D1.length ≤ 1000000) := Lib.hid (by have := HL.out; rw [HD1.out, List.length_drop]; omega)
  go_enter Tryd.func18, Tryd.ntmps18
  go_wp2_with (first | (go_at_call 39; have kc := opening_any (HRS.out.step HRy.out HKy.out) HE.out HDL.out (HS.out.keepsR HKy.out HG.out) HG.out; refine kc.mono ?_; rintro e wc ⟨rfl, ho, hy⟩; have HOc := Lib.hid ((off_keeps (base := base) HKy.out).trans ho fun _ h => .inl h); have HYc := Lib.hid hy; clear kc ho hy) | (go_at_call 34; have ks := skip_any HR5.out [60]; rw [HFy.out, HNy.out] at ks; refine ks.mono ?_; rintro e wy ⟨rfl, hr, hk⟩; have HRy := Lib.hid hr; have HKy := Lib.hid (HK5.out.trans hk); clear ks hr hk) | (go_at_call 34; have ks := skip_any HR4.out [60, 47]; rw [HF5.out, HN5.out] at ks; refine ks.mono ?_; rintro e w5 ⟨rfl, hr, hk⟩; have HR5 := Lib.hid hr; have HK5 := Lib.hid (HK4.out.trans hk); clear ks hr hk) | (go_at_call 34; have ks := skip_any HR3.out [60, 33, 91, 67, 68, 65, 84, 65, 91]; rw [HF4.out, HN4.out] at ks; refine ks.mono ?_; rintro e w4 ⟨rfl, hr, hk⟩; have HR4 := Lib.hid hr; have HK4 := Lib.hid (HK3.out.trans hk); clear ks hr hk) | (go_at_call 34; have ks := skip_any HR2.out [60, 33, 68, 79, 67, 84, 89, 80, 69]; rw [HF3.out, HN3.out] at ks; refine ks.mono ?_; rintro e w3 ⟨rfl, hr, hk⟩; have HR3 := Lib.hid hr; have HK3 := Lib.hid (HK2.out.trans hk); clear ks hr hk) | (go_at_call 34; have ks := skip_any HR1.out [60, 63]; rw [HF2.out, HN2.out] at ks; refine ks.mono ?_; rintro e w2 ⟨rfl, hr, hk⟩; have HR2 := Lib.hid hr; have HK2 := Lib.hid (HK1.out.trans hk); clear ks hr hk) | (go_at_call 34; have ks := skip_any HRS.out.1 [60, 33, 45, 45]; rw [HF1.out, HN1.out] at ks; refine ks.mono ?_; rintro e w1 ⟨rfl, hr, hk⟩; have HR1 := Lib.hid hr; have HK1 := Lib.hid hk; clear ks hr hk))
  go_ret
  refine ⟨by rw [HP.out, Option.isSome_map]; rfl, HOc.out, fun ts r h => ?_⟩
  rw [HP.out] at h
  cases ho : opnX D1 with
  | none => rw [ho] at h; cases h
  | some q =>
    obtain ⟨L, c, rest⟩ := q
    rw [ho] at h; injection h with h; injection h with h1 h2; subst h1 h2
    obtain ⟨tk', p', bf', v, hr⟩ := HYc.out L c rest ho
    refine ⟨tk', p', bf', _, _, hr, ?_⟩
    rw [List.map_append, textTok_tk, fold_open]
    cases c <;> rfl
set_option maxHeartbeats 6400000 in
set_option maxRecDepth 100000 in
theorem prt7_any {w : World} {base g : Nat} {l : List UInt8} {tk p bf : Value} {E : List TokE} {text : List UInt8} (h : PartHyp w base g l tk p bf E text) (h1 : hasB l mk1 = false) (h2 : hasB l mk2 = false) (h3 : hasB l mk3 = false) (h4 : hasB l mk4 = false) (h5 : hasB l mk5 = false) (h6 : hasB l [60] = false) :
    Calls Tryd.prog 18 #[.pointer (some ⟨g, 0, none⟩)] w (PartAns w base g l E text) := by
  obtain ⟨hrs, hE, hl, ht, hS, hm, hg, hgm⟩ := h
  have HRS := Lib.hid hrs
  have HE := Lib.hid hE
  have HL := Lib.hid hl
  have HT := Lib.hid ht
  have HS := Lib.hid hS
  have HM := Lib.hid hm
  have HG := Lib.hid hg
  have HGM := Lib.hid hgm
  have HF1 : Hid (hasB l [60, 33, 45, 45] = false) := Lib.hid h1
  have HN1 : Hid (skipD l [60, 33, 45, 45] = l) := Lib.hid (skip_no h1)
  have HF2 : Hid (hasB l [60, 63] = false) := Lib.hid h2
  have HN2 : Hid (skipD l [60, 63] = l) := Lib.hid (skip_no h2)
  have HF3 : Hid (hasB l [60, 33, 68, 79, 67, 84, 89, 80, 69] = false) := Lib.hid h3
  have HN3 : Hid (skipD l [60, 33, 68, 79, 67, 84, 89, 80, 69] = l) := Lib.hid (skip_no h3)
  have HF4 : Hid (hasB l [60, 33, 91, 67, 68, 65, 84, 65, 91] = false) := Lib.hid h4
  have HN4 : Hid (skipD l [60, 33, 91, 67, 68, 65, 84, 65, 91] = l) := Lib.hid (skip_no h4)
  have HF5 : Hid (hasB l [60, 47] = false) := Lib.hid h5
  have HN5 : Hid (skipD l [60, 47] = l) := Lib.hid (skip_no h5)
  have HF6 : Hid (hasB l [60] = false) := Lib.hid h6
  have HN6 : Hid (skipD l [60] = l) := Lib.hid (skip_no h6)
  clear hrs hE hl ht hS hm hg hgm h1 h2 h3 h4 h5 h6
  have HP : Hid (partX l = _) := Lib.hid (part_7 HF1.out HF2.out HF3.out HF4.out HF5.out HF6.out)
  obtain ⟨tx, htx⟩ : ∃ tx, tx = l.takeWhile fun b => b.toNat != 60 := ⟨_, rfl⟩
  obtain ⟨rs, hrs⟩ : ∃ rs, rs = l.dropWhile fun b => b.toNat != 60 := ⟨_, rfl⟩
  have HTX := Lib.hid htx
  have HRE := Lib.hid hrs
  have HTL : Hid (tx.length ≤ l.length) := Lib.hid (by rw [htx]; exact (List.takeWhile_sublist _).length_le)
  have HGL : Hid (g < w.heap.size) := Lib.hid (Blk.lt HRS.out.1)
  clear htx hrs
  go_enter Tryd.func18, Tryd.ntmps18
  go_wp2_with (first | (go_at_call 34; have ks := skip_any HR5.out [60]; rw [HF6.out, HN6.out] at ks; refine ks.mono ?_; rintro e w6 ⟨rfl, hr, hk⟩; have HR6 := Lib.hid hr; have HK6 := Lib.hid (HK5.out.trans hk); clear ks hr hk) | (go_at_call 34; have ks := skip_any HR4.out [60, 47]; rw [HF5.out, HN5.out] at ks; refine ks.mono ?_; rintro e w5 ⟨rfl, hr, hk⟩; have HR5 := Lib.hid hr; have HK5 := Lib.hid (HK4.out.trans hk); clear ks hr hk) | (go_at_call 34; have ks := skip_any HR3.out [60, 33, 91, 67, 68, 65, 84, 65, 91]; rw [HF4.out, HN4.out] at ks; refine ks.mono ?_; rintro e w4 ⟨rfl, hr, hk⟩; have HR4 := Lib.hid hr; have HK4 := Lib.hid (HK3.out.trans hk); clear ks hr hk) | (go_at_call 34; have ks := skip_any HR2.out [60, 33, 68, 79, 67, 84, 89, 80, 69]; rw [HF3.out, HN3.out] at ks; refine ks.mono ?_; rintro e w3 ⟨rfl, hr, hk⟩; have HR3 := Lib.hid hr; have HK3 := Lib.hid (HK2.out.trans hk); clear ks hr hk) | (go_at_call 34; have ks := skip_any HR1.out [60, 63]; rw [HF2.out, HN2.out] at ks; refine ks.mono ?_; rintro e w2 ⟨rfl, hr, hk⟩; have HR2 := Lib.hid hr; have HK2 := Lib.hid (HK1.out.trans hk); clear ks hr hk) | (go_at_call 34; have ks := skip_any HRS.out.1 [60, 33, 45, 45]; rw [HF1.out, HN1.out] at ks; refine ks.mono ?_; rintro e w1 ⟨rfl, hr, hk⟩; have HR1 := Lib.hid hr; have HK1 := Lib.hid hk; clear ks hr hk))
  refine up_start (fun k => k = g ∨ 0 ≤ k) (by kernel_rfl) ?_
  refine up_take (by exact at0) (by kernel_rfl) (by exact fun _ _ _ h => h) (by rfl) (by intro W hW; go_simp; try with_reducible rfl) ?_
  simp only [Act.put, List.setIfInBounds_toArray, List.set_cons_zero, List.set_cons_succ]
  refine up_take (by exact (atS at0)) (by kernel_rfl) (by exact fun _ _ _ h => h) (by rfl) (by intro W hW; go_simp; try with_reducible rfl) ?_
  simp only [Act.put, List.setIfInBounds_toArray, List.set_cons_zero, List.set_cons_succ]
  refine up_take (by exact (atS (atS at0))) (by kernel_rfl) (by exact fun _ _ _ h => h) (by rfl) (by intro W hW; go_simp; try with_reducible rfl) ?_
  simp only [Act.put, List.setIfInBounds_toArray, List.set_cons_zero, List.set_cons_succ]
  refine up_take (by exact (atS (atS (atS at0)))) (by kernel_rfl) (by exact fun _ _ _ h => h) (by rfl) (by intro W hW; go_simp; try with_reducible rfl) ?_
  simp only [Act.put, List.setIfInBounds_toArray, List.set_cons_zero, List.set_cons_succ]
  refine up_one (by exact (atS (atS (atS (atS at0))))) (by kernel_rfl) (fun K hK => ?_)
  go_simp
  refine (take_text (Blk.drew HR6.out : RdrAt w6.drew g l tk p bf)).mono ?_
  rintro eT wT ⟨rfl, hrT, hkT⟩
  have hrT2 : RdrAt wT g rs tk p bf := by rw [HRE.out]; exact hrT
  have hkT2 : KeepsR g w6 wT := ⟨hkT.os, hkT.tape, hkT.output, hkT.size, hkT.block⟩
  refine hK.out _ _ (Kept.grown hkT (fun k _ => .inr (Nat.zero_le k))) ?_
  clear hK K
  have HRT := Lib.hid hrT2
  have HKT := Lib.hid (HK6.out.trans hkT2)
  clear hrT hkT hrT2 hkT2
  refine up_one (by exact (atS (atS (atS (atS (atS at0)))))) (by kernel_rfl) (fun K hK => ?_)
  go_simp
  rw [← HTX.out]
  refine (read_any tx wT (HS.out.keepsR HKT.out HG.out) (by have := HTL.out; have := HL.out; omega)).mono ?_
  rintro eD wD ⟨rfl, hbD⟩
  refine hK.out _ _ (Kept.belowB hbD (fun k _ => .inr (Nat.zero_le k))) ?_
  clear hK K
  have HRD := Lib.hid (HRT.out.below hbD HRT.out.lt6)
  have HKD := Lib.hid (HKT.out.trans (KeepsR.of hbD))
  clear hbD
  refine up_one (by exact (atS (atS (atS (atS (atS (atS at0))))))) (by kernel_rfl) (fun K hK => ?_)
  go_simp
  refine (putText_any (HRS.out.step HRD.out HKD.out) (readR tx) (by have := HT.out; have := HTL.out; have := readF_len tx.length tx (Nat.le_refl _); omega)).mono ?_
  rintro eP wP ⟨rfl, p', bf', hrP, hoP⟩
  refine hK.out _ _ (Off.kept (hoP.wide (G := fun k => k = g ∨ base ≤ k) fun k hk => wide_blk HRS.out (hk.imp (fun h => h) fun h => .inl h)) fun k _ => .inr (Nat.zero_le k)) ?_
  clear hK K
  have HRP := Lib.hid hrP
  have HOP := Lib.hid ((off_keeps (base := base) HKD.out).trans (hoP.wide (G := fun k => k = g ∨ base ≤ k) fun k hk => wide_blk HRS.out (hk.imp (fun h => h) fun h => .inl h)) fun _ h => .inl h)
  clear hrP hoP
  refine up_done (by kernel_rfl) ?_
  go_wp2_with fail
  go_ret
  have HX : Hid (partX l = some ([⟨3, [], [], readR tx⟩], rs)) := Lib.hid (by rw [HP.out, ← HTX.out, ← HRE.out])
  exact ⟨by rw [HX.out]; rfl, HOP.out, fun ts r h => by rw [HX.out] at h; injection h with h; injection h with h1 h2; subst h1 h2; exact ⟨tk, p', bf', E, text ++ readR tx, HRP.out, rfl⟩⟩
theorem part_any {w : World} {base g : Nat} {l : List UInt8} {tk p bf : Value} {E : List TokE} {text : List UInt8} (h : PartHyp w base g l tk p bf E text) :
    Calls Tryd.prog 18 #[.pointer (some ⟨g, 0, none⟩)] w (PartAns w base g l E text) := by
  cases h1 : hasB l mk1 with
  | true => exact prt1_any h h1
  | false =>
  cases h2 : hasB l mk2 with
  | true => exact prt2_any h h1 h2
  | false =>
  cases h3 : hasB l mk3 with
  | true => exact prt3_any h h1 h2 h3
  | false =>
  cases h4 : hasB l mk4 with
  | true => exact prt4_any h h1 h2 h3 h4
  | false =>
  cases h5 : hasB l mk5 with
  | true => exact prt5_any h h1 h2 h3 h4 h5
  | false =>
  cases h6 : hasB l [60] with
  | true => exact prt6_any h h1 h2 h3 h4 h5 h6
  | false => exact prt7_any h h1 h2 h3 h4 h5 h6
end Go.Proofs.YtelhdkidnhfnbaaDoor
