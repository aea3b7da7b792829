/-
  lives of newsstandlaw14: it answers true. Conditions: the tables of names and of powers of ten lie as the program's text lays them; the library's MaxLen is a number.
-/
import Derived.Test.YtelhdkidnhfnbabGreatDoorVSmall
import Derived.Test.YtelhdkidnhfnbabGreatDoorVShowE
namespace Go.Proofs.YtelhdkidnhfnbabGreatDoor
open Go.RowKit

theorem dec_small (n : Nat) (h : n < 10) : Lib.decDigits n = [UInt8.ofNat (48 + n)] := by rw [Lib.decDigits, dif_pos h]
theorem itoa_small (n : Nat) (h : n < 10) : Lib.itoa (n : Int) = [UInt8.ofNat (48 + n)] := by
  unfold Lib.itoa
  rw [if_neg (by omega)]
  exact dec_small n h
theorem it0 : Lib.itoa 0 = [48] := itoa_small 0 (by decide)
theorem it1 : Lib.itoa 1 = [49] := itoa_small 1 (by decide)
theorem it5 : Lib.itoa 5 = [53] := itoa_small 5 (by decide)
theorem sh1 : (nameOf 9 ++ numsS [5, 0, 1]) ++ textsS [[], [], []] = [115, 116, 97, 114, 32, 53, 32, 48, 32, 49, 32, 34, 34, 32, 34, 34, 32, 34, 34] := by
  unfold numsS
  simp only [List.flatMap_cons, List.flatMap_nil, it0, it1, it5]
  rfl
theorem sh2 : (nameOf 1 ++ numsS [1, 0, 0]) ++ textsS [[34, 92], [], []] = [102, 111, 108, 100, 101, 114, 32, 49, 32, 48, 32, 48, 32, 34, 92, 34, 92, 92, 34, 32, 34, 34, 32, 34, 34] := by
  unfold numsS
  simp only [List.flatMap_cons, List.flatMap_nil, it0, it1]
  rfl
theorem lab1 : labelB [65, 32, 98] = true := by kernel_rfl
theorem tag1 : tagB [103, 111] = true := by kernel_rfl
theorem tag2 : tagB [71, 111] = false := by kernel_rfl
theorem tit1 : textB [] 256 = true := by kernel_rfl
theorem lnk1 : textB [108] 512 = true := by kernel_rfl
theorem qry1 : queryB [120] = true := by kernel_rfl
theorem qry2 : queryB [] = false := by kernel_rfl
theorem smI (n : Int) (h0 : 0 ≤ n) (h1 : n ≤ 100) : SmI n := ⟨by omega, by omega⟩
set_option maxHeartbeats 12800000 in
set_option maxRecDepth 100000 in
theorem check_star (W : World) : Calls Tryz.prog 10 #[.agg #[.int .i64 9, .int .i64 5, .int .i64 0, .int .i64 1, .string ⟨#[]⟩, .string ⟨#[]⟩, .string ⟨#[]⟩]] W (Made W (.int .i64 0)) :=
  check_gen (s := []) (t := []) (u := []) (b0 := true) (b1 := true) (b2 := true) (b3 := true) (b4 := true) (b5 := true) fields_9 ent_isID ent_noNumber ent_isFlag ent_noText ent_noText ent_noText
    (fun V _ => pureMade (isID_any 5 V)) (fun V _ => pureMade (noNumber_any 0 V)) (fun V _ => pureMade (isFlag_any 1 V)) (fun V _ => pureMade (noText_any [] V)) (fun V _ => pureMade (noText_any [] V)) (fun V _ => pureMade (noText_any [] V))
theorem check_zero (W : World) : Calls Tryz.prog 10 #[.agg #[.int .i64 0, .int .i64 0, .int .i64 0, .int .i64 0, .string ⟨#[]⟩, .string ⟨#[]⟩, .string ⟨#[]⟩]] W (Made W (.int .i64 140)) :=
  check_no (k := 0) (s := []) (t := []) (u := []) W fun V => fields_no V rfl rfl rfl rfl rfl rfl rfl rfl rfl rfl rfl rfl rfl
set_option maxHeartbeats 25600000 in
set_option maxRecDepth 100000 in
theorem lives_any (w : World) (hW : EvW w) : Calls Tryz.prog 6 #[] w (Made w (.bool true)) := by
  have HW := Lib.hid hW
  have KI1 : Hid (∀ W, EvW W → Calls Tryz.prog 8 #[.agg #[.int .i64 9, .int .i64 5, .int .i64 0, .int .i64 1, .string ⟨#[]⟩, .string ⟨#[]⟩, .string ⟨#[]⟩]] W (Made W (.tuple #[.int .i64 5, .bool true]))) := Lib.hid fun W hW => by
    exact item_any (k := 9) (a := 5) (b := 0) (n := 1) (s := []) (t := []) (u := []) W
  have KI2 : Hid (∀ W, EvW W → Calls Tryz.prog 8 #[.agg #[.int .i64 13, .int .i64 0, .int .i64 0, .int .i64 0, .string ⟨#[]⟩, .string ⟨#[]⟩, .string ⟨#[]⟩]] W (Made W (.tuple #[.int .i64 0, .bool false]))) := Lib.hid fun W hW => by
    exact item_any (k := 13) (a := 0) (b := 0) (n := 0) (s := []) (t := []) (u := []) W
  have KC1 : Hid (∀ W, EvW W → Calls Tryz.prog 10 #[.agg #[.int .i64 9, .int .i64 5, .int .i64 0, .int .i64 1, .string ⟨#[]⟩, .string ⟨#[]⟩, .string ⟨#[]⟩]] W (Made W (.int .i64 0))) := Lib.hid fun W hW => by
    exact check_star W
  have KC2 : Hid (∀ W, EvW W → Calls Tryz.prog 10 #[.agg #[.int .i64 0, .int .i64 0, .int .i64 0, .int .i64 0, .string ⟨#[]⟩, .string ⟨#[]⟩, .string ⟨#[]⟩]] W (Made W (.int .i64 140))) := Lib.hid fun W hW => by
    exact check_zero W
  have KS1 : Hid (∀ W, EvW W → Calls Tryz.prog 13 #[.agg #[.int .i64 9, .int .i64 5, .int .i64 0, .int .i64 1, .string ⟨#[]⟩, .string ⟨#[]⟩, .string ⟨#[]⟩]] W (Made W (.string ⟨#[115, 116, 97, 114, 32, 53, 32, 48, 32, 49, 32, 34, 34, 32, 34, 34, 32, 34, 34]⟩))) := Lib.hid fun W hW => by
    have h := show_yes (k := 9) (a := 5) (b := 0) (n := 1) (s := []) (t := []) (u := []) W hW (by decide) (smI _ (by decide) (by decide)) (smI _ (by decide) (by decide)) (smI _ (by decide) (by decide)) (by simp) (by simp) (by simp); rw [sh1] at h; exact h
  have KS2 : Hid (∀ W, EvW W → Calls Tryz.prog 13 #[.agg #[.int .i64 1, .int .i64 1, .int .i64 0, .int .i64 0, .string ⟨#[34, 92]⟩, .string ⟨#[]⟩, .string ⟨#[]⟩]] W (Made W (.string ⟨#[102, 111, 108, 100, 101, 114, 32, 49, 32, 48, 32, 48, 32, 34, 92, 34, 92, 92, 34, 32, 34, 34, 32, 34, 34]⟩))) := Lib.hid fun W hW => by
    have h := show_yes (k := 1) (a := 1) (b := 0) (n := 0) (s := [34, 92]) (t := []) (u := []) W hW (by decide) (smI _ (by decide) (by decide)) (smI _ (by decide) (by decide)) (smI _ (by decide) (by decide)) (by simp) (by simp) (by simp); rw [sh2] at h; exact h
  have KN : Hid (∀ W, EvW W → Calls Tryz.prog 11 #[.int .i64 13] W (Made W (.string ⟨#[99, 108, 111, 99, 107]⟩))) := Lib.hid fun W hW => by
    exact pureMade (name_any 13 W hW.1)
  have KL : Hid (∀ W, EvW W → Calls Tryz.prog 15 #[.string ⟨#[65, 32, 98]⟩] W (Made W (.bool true))) := Lib.hid fun W hW => by
    have h := label_any [65, 32, 98] W (by simp); rw [lab1] at h; exact h
  have KT1 : Hid (∀ W, EvW W → Calls Tryz.prog 16 #[.string ⟨#[103, 111]⟩] W (Made W (.bool true))) := Lib.hid fun W hW => by
    have h := tag_any [103, 111] W (by simp) (by simp); rw [tag1] at h; exact h
  have KT2 : Hid (∀ W, EvW W → Calls Tryz.prog 16 #[.string ⟨#[71, 111]⟩] W (Made W (.bool false))) := Lib.hid fun W hW => by
    have h := tag_any [71, 111] W (by simp) (by simp); rw [tag2] at h; exact h
  have KTI : Hid (∀ W, EvW W → Calls Tryz.prog 17 #[.string ⟨#[]⟩] W (Made W (.bool true))) := Lib.hid fun W hW => by
    have h := title_any [] W (by simp); rw [tit1] at h; exact h
  have KLI : Hid (∀ W, EvW W → Calls Tryz.prog 18 #[.string ⟨#[108]⟩] W (Made W (.bool true))) := Lib.hid fun W hW => by
    have h := link_any [108] W (by simp); rw [lnk1] at h; exact h
  have KQ1 : Hid (∀ W, EvW W → Calls Tryz.prog 19 #[.string ⟨#[120]⟩] W (Made W (.bool true))) := Lib.hid fun W hW => by
    have h := query_any [120] W (by simp); rw [qry1] at h; exact h
  have KQ2 : Hid (∀ W, EvW W → Calls Tryz.prog 19 #[.string ⟨#[]⟩] W (Made W (.bool false))) := Lib.hid fun W hW => by
    have h := query_any [] W (by simp); rw [qry2] at h; exact h
  have BX : Hid (Blk (w.alloc (.cells #[.int .i64 9, .int .i64 5, .int .i64 0, .int .i64 1, .string ⟨#[]⟩, .string ⟨#[]⟩, .string ⟨#[]⟩] 23)) w.heap.size 23 #[.int .i64 9, .int .i64 5, .int .i64 0, .int .i64 1, .string ⟨#[]⟩, .string ⟨#[]⟩, .string ⟨#[]⟩]) := Lib.hid (Blk.fresh _ _ _)
  have HB0 : Hid (Below w.heap.size w (w.alloc (.cells #[.int .i64 9, .int .i64 5, .int .i64 0, .int .i64 1, .string ⟨#[]⟩, .string ⟨#[]⟩, .string ⟨#[]⟩] 23))) := Lib.hid ((Below.refl _ _).alloc (Nat.le_refl _) _)
  clear hW
  go_enter Tryz.func6, Tryz.ntmps6
  have XW : Hid (∀ W, Below (w.alloc (.cells #[.int .i64 9, .int .i64 5, .int .i64 0, .int .i64 1, .string ⟨#[]⟩, .string ⟨#[]⟩, .string ⟨#[]⟩] 23)).heap.size (w.alloc (.cells #[.int .i64 9, .int .i64 5, .int .i64 0, .int .i64 1, .string ⟨#[]⟩, .string ⟨#[]⟩, .string ⟨#[]⟩] 23)) W → W.cell? ⟨w.heap.size, 0, none⟩ = some (.int .i64 9) ∧ W.cell? ⟨w.heap.size, 1, none⟩ = some (.int .i64 5) ∧ W.cell? ⟨w.heap.size, 2, none⟩ = some (.int .i64 0) ∧ W.cell? ⟨w.heap.size, 3, none⟩ = some (.int .i64 1) ∧ W.cell? ⟨w.heap.size, 4, none⟩ = some (.string ⟨#[]⟩) ∧ W.cell? ⟨w.heap.size, 5, none⟩ = some (.string ⟨#[]⟩) ∧ W.cell? ⟨w.heap.size, 6, none⟩ = some (.string ⟨#[]⟩)) := Lib.hid fun W hW => ⟨(hW.cell (p := ⟨w.heap.size, 0, none⟩) BX.out.lt).trans (BX.out.cell 0), (hW.cell (p := ⟨w.heap.size, 1, none⟩) BX.out.lt).trans (BX.out.cell 1), (hW.cell (p := ⟨w.heap.size, 2, none⟩) BX.out.lt).trans (BX.out.cell 2), (hW.cell (p := ⟨w.heap.size, 3, none⟩) BX.out.lt).trans (BX.out.cell 3), (hW.cell (p := ⟨w.heap.size, 4, none⟩) BX.out.lt).trans (BX.out.cell 4), (hW.cell (p := ⟨w.heap.size, 5, none⟩) BX.out.lt).trans (BX.out.cell 5), (hW.cell (p := ⟨w.heap.size, 6, none⟩) BX.out.lt).trans (BX.out.cell 6)⟩
  have HC0 : Hid (Below (w.alloc (.cells #[.int .i64 9, .int .i64 5, .int .i64 0, .int .i64 1, .string ⟨#[]⟩, .string ⟨#[]⟩, .string ⟨#[]⟩] 23)).heap.size (w.alloc (.cells #[.int .i64 9, .int .i64 5, .int .i64 0, .int .i64 1, .string ⟨#[]⟩, .string ⟨#[]⟩, .string ⟨#[]⟩] 23)) (w.alloc (.cells #[.int .i64 9, .int .i64 5, .int .i64 0, .int .i64 1, .string ⟨#[]⟩, .string ⟨#[]⟩, .string ⟨#[]⟩] 23))) := Lib.hid (Below.refl _ _)
  have MK0 : Hid True := Lib.hid trivial
  go_wp2_with (first
    | (go_at_call 13; have mm := MK13.out; clear mm; refine (KS2.out _ (HW.out.below (below_thC HB0.out HC13.out))).mono ?_; rintro e v14 ⟨rfl, hb⟩; have HC14 := Lib.hid (below_thC HC13.out hb); have MK14 : Hid True := Lib.hid trivial; clear MK13 hb)
    | (go_at_call 19; have mm := MK12.out; clear mm; refine (KQ2.out _ (HW.out.below (below_thC HB0.out HC12.out))).mono ?_; rintro e v13 ⟨rfl, hb⟩; have HC13 := Lib.hid (below_thC HC12.out hb); have MK13 : Hid True := Lib.hid trivial; clear MK12 hb)
    | (go_at_call 19; have mm := MK11.out; clear mm; refine (KQ1.out _ (HW.out.below (below_thC HB0.out HC11.out))).mono ?_; rintro e v12 ⟨rfl, hb⟩; have HC12 := Lib.hid (below_thC HC11.out hb); have MK12 : Hid True := Lib.hid trivial; clear MK11 hb)
    | (go_at_call 18; have mm := MK10.out; clear mm; refine (KLI.out _ (HW.out.below (below_thC HB0.out HC10.out))).mono ?_; rintro e v11 ⟨rfl, hb⟩; have HC11 := Lib.hid (below_thC HC10.out hb); have MK11 : Hid True := Lib.hid trivial; clear MK10 hb)
    | (go_at_call 17; have mm := MK9.out; clear mm; refine (KTI.out _ (HW.out.below (below_thC HB0.out HC9.out))).mono ?_; rintro e v10 ⟨rfl, hb⟩; have HC10 := Lib.hid (below_thC HC9.out hb); have MK10 : Hid True := Lib.hid trivial; clear MK9 hb)
    | (go_at_call 16; have mm := MK8.out; clear mm; refine (KT2.out _ (HW.out.below (below_thC HB0.out HC8.out))).mono ?_; rintro e v9 ⟨rfl, hb⟩; have HC9 := Lib.hid (below_thC HC8.out hb); have MK9 : Hid True := Lib.hid trivial; clear MK8 hb)
    | (go_at_call 16; have mm := MK7.out; clear mm; refine (KT1.out _ (HW.out.below (below_thC HB0.out HC7.out))).mono ?_; rintro e v8 ⟨rfl, hb⟩; have HC8 := Lib.hid (below_thC HC7.out hb); have MK8 : Hid True := Lib.hid trivial; clear MK7 hb)
    | (go_at_call 15; have mm := MK6.out; clear mm; refine (KL.out _ (HW.out.below (below_thC HB0.out HC6.out))).mono ?_; rintro e v7 ⟨rfl, hb⟩; have HC7 := Lib.hid (below_thC HC6.out hb); have MK7 : Hid True := Lib.hid trivial; clear MK6 hb)
    | (go_at_call 11; have mm := MK5.out; clear mm; refine (KN.out _ (HW.out.below (below_thC HB0.out HC5.out))).mono ?_; rintro e v6 ⟨rfl, hb⟩; have HC6 := Lib.hid (below_thC HC5.out hb); have MK6 : Hid True := Lib.hid trivial; clear MK5 hb)
    | (go_at_call 13; have mm := MK4.out; clear mm; refine (KS1.out _ (HW.out.below (below_thC HB0.out HC4.out))).mono ?_; rintro e v5 ⟨rfl, hb⟩; have HC5 := Lib.hid (below_thC HC4.out hb); have MK5 : Hid True := Lib.hid trivial; clear MK4 hb x0 x1 x2 x3 x4 x5 x6)
    | (go_at_call 10; have mm := MK3.out; clear mm; refine (KC2.out _ (HW.out.below (below_thC HB0.out HC3.out))).mono ?_; rintro e v4 ⟨rfl, hb⟩; have HC4 := Lib.hid (below_thC HC3.out hb); have MK4 : Hid True := Lib.hid trivial; clear MK3 hb x0 x1 x2 x3 x4 x5 x6; obtain ⟨x0, x1, x2, x3, x4, x5, x6⟩ := XW.out _ HC4.out)
    | (go_at_call 10; have mm := MK2.out; clear mm; refine (KC1.out _ (HW.out.below (below_thC HB0.out HC2.out))).mono ?_; rintro e v3 ⟨rfl, hb⟩; have HC3 := Lib.hid (below_thC HC2.out hb); have MK3 : Hid True := Lib.hid trivial; clear MK2 hb x0 x1 x2 x3 x4 x5 x6; obtain ⟨x0, x1, x2, x3, x4, x5, x6⟩ := XW.out _ HC3.out)
    | (go_at_call 8; have mm := MK1.out; clear mm; refine (KI2.out _ (HW.out.below (below_thC HB0.out HC1.out))).mono ?_; rintro e v2 ⟨rfl, hb⟩; have HC2 := Lib.hid (below_thC HC1.out hb); have MK2 : Hid True := Lib.hid trivial; clear MK1 hb x0 x1 x2 x3 x4 x5 x6; obtain ⟨x0, x1, x2, x3, x4, x5, x6⟩ := XW.out _ HC2.out)
    | (go_at_call 8; have mm := MK0.out; clear mm; refine (KI1.out _ (HW.out.below (below_thC HB0.out HC0.out))).mono ?_; rintro e v1 ⟨rfl, hb⟩; have HC1 := Lib.hid (below_thC HC0.out hb); have MK1 : Hid True := Lib.hid trivial; clear MK0 hb; obtain ⟨x0, x1, x2, x3, x4, x5, x6⟩ := XW.out _ HC1.out))
  go_ret
  exact ⟨rfl, below_thC HB0.out HC14.out⟩
end Go.Proofs.YtelhdkidnhfnbabGreatDoor
