/-
  The rune of a sign's name (entity.Sign). Conditions: the table is as the program's text lays it; the name's length is a length.
-/
import Derived.Test.YtelhdkidnhfnbaaDoorENum
import Derived.Test.YtelhdkidnhfnbaaDoorShelf
import Derived.Test.YtelhdkidnhfnbaaDoorMgL
namespace Go.Proofs.YtelhdkidnhfnbaaDoor
open Go.RowKit
open Go.Lib (decodeL encodeRune)

/-- None of the first k names is l. -/
def NFN (k : Nat) (l : List UInt8) : Prop := (0 < k → l ≠ [97, 109, 112]) ∧ (1 < k → l ≠ [108, 116]) ∧ (2 < k → l ≠ [103, 116]) ∧ (3 < k → l ≠ [113, 117, 111, 116]) ∧ (4 < k → l ≠ [97, 112, 111, 115])
theorem NFN.all {l : List UInt8} (h : NFN 5 l) : namedR l = none := by
  obtain ⟨h1, h2, h3, h4, h5⟩ := h
  unfold namedR
  rw [if_neg (h1 (by decide)), if_neg (h2 (by decide)), if_neg (h3 (by decide)), if_neg (h4 (by decide)), if_neg (h5 (by decide))]
theorem pre_yes {l p : List UInt8} (h : l.take p.length = p) : Lib.hasPrefix l p = true := by
  unfold Lib.hasPrefix
  rw [List.isPrefixOf_iff_prefix]
  exact ⟨l.drop p.length, by conv => rhs; rw [← List.take_append_drop p.length l, h]⟩
theorem pre_no {l p : List UInt8} (h : ¬ l.take p.length = p) : Lib.hasPrefix l p = false := by
  cases hp : Lib.hasPrefix l p with
  | false => rfl
  | true =>
    unfold Lib.hasPrefix at hp
    rw [List.isPrefixOf_iff_prefix] at hp
    obtain ⟨t, rfl⟩ := hp
    exact (h (List.take_left)).elim
theorem cutP_yes (l p : List UInt8) (h : l.take p.length = p) (w : World) : Calls Tryd.prog 57 #[.string (str l), .string (str p)] w (Pure w (.tuple #[.string (str (l.drop p.length)), .bool true])) := by
  refine (Tryd.strings_CutPrefix (str l) (str p) w).mono ?_
  rw [str_data, str_data, pre_yes h]
  unfold Lib.trimPrefix
  rw [pre_yes h, if_pos rfl]
  rintro e w' ⟨rfl, rfl⟩
  exact ⟨rfl, rfl⟩
theorem cutP_no (l p : List UInt8) (h : ¬ l.take p.length = p) (w : World) : Calls Tryd.prog 57 #[.string (str l), .string (str p)] w (Pure w (.tuple #[.string (str l), .bool false])) := by
  refine (Tryd.strings_CutPrefix (str l) (str p) w).mono ?_
  rw [str_data, str_data, pre_no h]
  unfold Lib.trimPrefix
  rw [pre_no h, if_neg Bool.false_ne_true]
  rintro e w' ⟨rfl, rfl⟩
  exact ⟨rfl, rfl⟩
theorem sg_none : sgV none = .tuple #[.int .i32 0, .bool false] := rfl
theorem sgV_shape (o : Option Int) : ∃ c b, sgV o = .tuple #[.int .i32 c, .bool b] := by cases o <;> exact ⟨_, _, rfl⟩
def SignRel (l : List UInt8) (w : World) (u : Value) (W : World) : Prop := ∃ k : Nat, k ≤ 5 ∧ u = .int .i64 (k : Int) ∧ NFN k l ∧ Below w.heap.size w W
set_option maxHeartbeats 3200000 in
theorem sign_any (l : List UInt8) (w : World) (hS : Sig w) (hl : l.length ≤ maxLen) : Calls Tryd.prog 78 #[.string (str l)] w (Made w (sgV (signR l))) := by
  have HS := Lib.hid hS
  have HLM := Lib.hid hl
  have i0 := sig_0
  have i1 := sig_1
  have i2 := sig_2
  have i3 := sig_3
  have i4 := sig_4
  clear hS hl
  go_enter Tryd.func78, Tryd.ntmps78
  go_wp2_with (refine wpList_load_mid (by rfl) _ _ (by rfl) 0 0 (by rfl) sigCells _ HS.out.2 Tryd.underlying98 (by rfl) (by kernel_rfl) ?_)
  generalize sigCells.toArray = SC at *
  go_loopw [11] (SignRel l w) (fun u _ => 5 - (intOf u).toNat)
  case atStart => exact ⟨0, by decide, rfl, by unfold NFN; refine ⟨?_, ?_, ?_, ?_, ?_⟩ <;> omega, Below.refl _ _⟩
  case round =>
    obtain ⟨k, hk, rfl, hnf, hbw⟩ := hrel
    have HN := Lib.hid hnf
    have HB := Lib.hid hbw
    clear hnf hbw
    have hk6 : k = 0 ∨ k = 1 ∨ k = 2 ∨ k = 3 ∨ k = 4 ∨ k = 5 := by omega
    rcases hk6 with rfl | rfl | rfl | rfl | rfl | rfl
    · by_cases hc : l = [97, 109, 112]
      · subst hc
        go_wp2_with fail
        go_ret2
        exact ⟨rfl, HB.out.alloc HB.out.size _⟩
      · have hc1 : (([97, 109, 112] : List UInt8) == l) = false := by simpa using fun e => hc e.symm
        have HNE := Lib.hid hc
        clear hc
        go_wp2_with fail
        go_roundw
        case rel =>
          refine ⟨1, by decide, rfl, ?_, HB.out.alloc HB.out.size _⟩
          obtain ⟨h1, h2, h3, h4, h5⟩ := HN.out
          have h6 := HNE.out
          unfold NFN
          refine ⟨?_, ?_, ?_, ?_, ?_⟩ <;> intro hq <;> first | exact h6 | exact h1 (by omega) | exact h2 (by omega) | exact h3 (by omega) | exact h4 (by omega) | exact h5 (by omega) | omega
        case measure => simp [intOf]
    · by_cases hc : l = [108, 116]
      · subst hc
        go_wp2_with fail
        go_ret2
        exact ⟨rfl, HB.out.alloc HB.out.size _⟩
      · have hc1 : (([108, 116] : List UInt8) == l) = false := by simpa using fun e => hc e.symm
        have HNE := Lib.hid hc
        clear hc
        go_wp2_with fail
        go_roundw
        case rel =>
          refine ⟨2, by decide, rfl, ?_, HB.out.alloc HB.out.size _⟩
          obtain ⟨h1, h2, h3, h4, h5⟩ := HN.out
          have h6 := HNE.out
          unfold NFN
          refine ⟨?_, ?_, ?_, ?_, ?_⟩ <;> intro hq <;> first | exact h6 | exact h1 (by omega) | exact h2 (by omega) | exact h3 (by omega) | exact h4 (by omega) | exact h5 (by omega) | omega
        case measure => simp [intOf]
    · by_cases hc : l = [103, 116]
      · subst hc
        go_wp2_with fail
        go_ret2
        exact ⟨rfl, HB.out.alloc HB.out.size _⟩
      · have hc1 : (([103, 116] : List UInt8) == l) = false := by simpa using fun e => hc e.symm
        have HNE := Lib.hid hc
        clear hc
        go_wp2_with fail
        go_roundw
        case rel =>
          refine ⟨3, by decide, rfl, ?_, HB.out.alloc HB.out.size _⟩
          obtain ⟨h1, h2, h3, h4, h5⟩ := HN.out
          have h6 := HNE.out
          unfold NFN
          refine ⟨?_, ?_, ?_, ?_, ?_⟩ <;> intro hq <;> first | exact h6 | exact h1 (by omega) | exact h2 (by omega) | exact h3 (by omega) | exact h4 (by omega) | exact h5 (by omega) | omega
        case measure => simp [intOf]
    · by_cases hc : l = [113, 117, 111, 116]
      · subst hc
        go_wp2_with fail
        go_ret2
        exact ⟨rfl, HB.out.alloc HB.out.size _⟩
      · have hc1 : (([113, 117, 111, 116] : List UInt8) == l) = false := by simpa using fun e => hc e.symm
        have HNE := Lib.hid hc
        clear hc
        go_wp2_with fail
        go_roundw
        case rel =>
          refine ⟨4, by decide, rfl, ?_, HB.out.alloc HB.out.size _⟩
          obtain ⟨h1, h2, h3, h4, h5⟩ := HN.out
          have h6 := HNE.out
          unfold NFN
          refine ⟨?_, ?_, ?_, ?_, ?_⟩ <;> intro hq <;> first | exact h6 | exact h1 (by omega) | exact h2 (by omega) | exact h3 (by omega) | exact h4 (by omega) | exact h5 (by omega) | omega
        case measure => simp [intOf]
    · by_cases hc : l = [97, 112, 111, 115]
      · subst hc
        go_wp2_with fail
        go_ret2
        exact ⟨rfl, HB.out.alloc HB.out.size _⟩
      · have hc1 : (([97, 112, 111, 115] : List UInt8) == l) = false := by simpa using fun e => hc e.symm
        have HNE := Lib.hid hc
        clear hc
        go_wp2_with fail
        go_roundw
        case rel =>
          refine ⟨5, by decide, rfl, ?_, HB.out.alloc HB.out.size _⟩
          obtain ⟨h1, h2, h3, h4, h5⟩ := HN.out
          have h6 := HNE.out
          unfold NFN
          refine ⟨?_, ?_, ?_, ?_, ?_⟩ <;> intro hq <;> first | exact h6 | exact h1 (by omega) | exact h2 (by omega) | exact h3 (by omega) | exact h4 (by omega) | exact h5 (by omega) | omega
        case measure => simp [intOf]
    · have hna := NFN.all HN.out
      have hsg : signR l = if l.take 2 = [35, 120] then (numB 16 6 (l.drop 2)).map shownR else if l.take 1 = [35] then (numB 10 7 (l.drop 1)).map shownR else none := by unfold signR; rw [hna]
      have HSG := Lib.hid hsg
      clear hna hsg
      by_cases h1 : l.take 2 = [35, 120]
      · have HV : Hid (signR l = (numB 16 6 (l.drop 2)).map shownR) := Lib.hid (by rw [HSG.out, if_pos h1])
        have k1 := cutP_yes l [35, 120] h1
        have K1 := Lib.hid k1
        have k2 := fun W => number_16 (l.drop 2) W (by have := HLM.out; rw [List.length_drop]; omega)
        obtain ⟨rc, rb, hsh⟩ := sgV_shape ((numB 16 6 (l.drop 2)).map shownR)
        have hv : sgV (signR l) = .tuple #[.int .i32 rc, .bool rb] := by rw [HV.out]; exact hsh
        rw [hsh] at k2
        have K2 := Lib.hid k2
        have HV2 := Lib.hid hv
        clear k1 k2 h1 hsh hv
        go_wp2_with fail
        refine (K1.out _).mono ?_
        rintro e w1 ⟨rfl, rfl⟩
        go_wp2_with fail
        refine (K2.out _).mono ?_
        rintro e w2 ⟨rfl, b2⟩
        have HB2 := Lib.hid (HB.out.trans (b2.mono HB.out.size))
        clear b2
        go_wp2_with fail
        go_ret2
        exact ⟨by rw [HV2.out]; rfl, HB2.out⟩
      · have k1 := cutP_no l [35, 120] h1
        have K1 := Lib.hid k1
        by_cases h2 : l.take 1 = [35]
        · have HV : Hid (signR l = (numB 10 7 (l.drop 1)).map shownR) := Lib.hid (by rw [HSG.out, if_neg h1, if_pos h2])
          have k3 := cutP_yes l [35] h2
          have K3 := Lib.hid k3
          have k2 := fun W => number_10 (l.drop 1) W (by have := HLM.out; rw [List.length_drop]; omega)
          obtain ⟨rc, rb, hsh⟩ := sgV_shape ((numB 10 7 (l.drop 1)).map shownR)
          have hv : sgV (signR l) = .tuple #[.int .i32 rc, .bool rb] := by rw [HV.out]; exact hsh
          rw [hsh, List.drop_one] at k2
          have K2 := Lib.hid k2
          have HV2 := Lib.hid hv
          clear k1 k2 k3 h1 h2 hsh hv
          go_wp2_with fail
          refine (K1.out _).mono ?_
          rintro e w1 ⟨rfl, rfl⟩
          go_wp2_with fail
          refine (K3.out _).mono ?_
          rintro e w3 ⟨rfl, rfl⟩
          go_wp2_with fail
          refine (K2.out _).mono ?_
          rintro e w2 ⟨rfl, b2⟩
          have HB2 := Lib.hid (HB.out.trans (b2.mono HB.out.size))
          clear b2
          go_wp2_with fail
          go_ret2
          exact ⟨by rw [HV2.out]; rfl, HB2.out⟩
        · have HV : Hid (signR l = none) := Lib.hid (by rw [HSG.out, if_neg h1, if_neg h2])
          have k3 := cutP_no l [35] h2
          have K3 := Lib.hid k3
          clear k1 k3 h1 h2
          go_wp2_with fail
          refine (K1.out _).mono ?_
          rintro e w1 ⟨rfl, rfl⟩
          go_wp2_with fail
          refine (K3.out _).mono ?_
          rintro e w3 ⟨rfl, rfl⟩
          go_wp2_with fail
          go_ret2
          exact ⟨by rw [HV.out]; rfl, HB.out⟩
end Go.Proofs.YtelhdkidnhfnbaaDoor

/-
  The reader's skip, blanks, atEnd (xml). Condition: the reader lies in memory, four cells.
-/
namespace Go.Proofs.YtelhdkidnhfnbaaDoor
open Go.RowKit

def skipD (l m : List UInt8) : List UInt8 := if hasB l m = true then l.drop m.length else l
/-- It answers v; the reader has l' left; nothing else turns. -/
def RStep (w : World) (g : Nat) (l' : List UInt8) (tk p bf : Value) (v : Value) (e : Ending) (w' : World) : Prop := e = .returned v ∧ RdrAt w' g l' tk p bf ∧ KeepsR g w w'
theorem skip_any {w : World} {g : Nat} {l : List UInt8} {tk p bf : Value} (hr : RdrAt w g l tk p bf) (m : List UInt8) : Calls Tryd.prog 34 #[.pointer (some ⟨g, 0, none⟩), .string (str m)] w (RStep w g (skipD l m) tk p bf (.bool (hasB l m))) := by
  have HR := Lib.hid hr
  have c0 : w.cell? ⟨g, 0, none⟩ = some (.string (str l)) := hr.cell 0
  have f0 : w.frozen? ⟨g, 0, none⟩ = false := hr.free 0
  unfold skipD
  cases hh : hasB l m with
  | true =>
    rw [if_pos rfl]
    have k1 := fun W => cutP_yes l m (by unfold hasB at hh; simpa using hh) W
    have K1 := Lib.hid k1
    clear hr k1 hh
    go_enter Tryd.func34, Tryd.ntmps34
    go_wp2_with fail
    refine (K1.out _).mono ?_
    rintro e w' ⟨rfl, rfl⟩
    go_wp2_with fail
    go_ret
    exact ⟨rfl, HR.out.set 0 _, grown_set _ g 0 _⟩
  | false =>
    rw [if_neg Bool.false_ne_true]
    have k1 := fun W => cutP_no l m (by unfold hasB at hh; simpa using hh) W
    have K1 := Lib.hid k1
    clear hr k1 hh
    go_enter Tryd.func34, Tryd.ntmps34
    go_wp2_with fail
    refine (K1.out _).mono ?_
    rintro e w' ⟨rfl, rfl⟩
    go_wp2_with fail
    go_ret
    exact ⟨rfl, HR.out.set 0 _, grown_set _ g 0 _⟩
/-- Whether a blank stands first. -/
def blk1 (l : List UInt8) : Bool := !(l.takeWhile fun b => blkB (b.toNat : Int)).isEmpty
theorem blanks_any {w : World} {g : Nat} {l : List UInt8} {tk p bf : Value} (hr : RdrAt w g l tk p bf) : Calls Tryd.prog 61 #[.pointer (some ⟨g, 0, none⟩)] w (RStep w g (dropB l) tk p bf (.bool (blk1 l))) := by
  have k1 := take_blank hr
  unfold TakeV at k1
  cases hX : l.takeWhile fun b => blkB (b.toNat : Int) with
  | nil =>
    have hv : blk1 l = false := by unfold blk1; rw [hX]; rfl
    rw [hX] at k1
    rw [hv]
    have K1 := Lib.hid k1
    clear hr k1 hX hv
    go_enter Tryd.func61, Tryd.ntmps61
    go_wp2_with fail
    refine K1.out.mono ?_
    rintro e w' ⟨rfl, h1, h2⟩
    have H1 := Lib.hid h1
    have H2 := Lib.hid h2
    clear h1 h2
    go_wp2_with fail
    go_ret
    exact ⟨rfl, H1.out, H2.out⟩
  | cons x y =>
    have hv : blk1 l = true := by unfold blk1; rw [hX]; rfl
    rw [hX] at k1
    rw [hv]
    have K1 := Lib.hid k1
    clear hr k1 hX hv
    go_enter Tryd.func61, Tryd.ntmps61
    go_wp2_with fail
    refine K1.out.mono ?_
    rintro e w' ⟨rfl, h1, h2⟩
    have H1 := Lib.hid h1
    have H2 := Lib.hid h2
    clear h1 h2
    go_wp2_with fail
    go_ret
    exact ⟨rfl, H1.out, H2.out⟩
def atEndB (l : List UInt8) : Bool := match l with
  | [] => true
  | b :: _ => (b.toNat == 62) || (b.toNat == 47)
theorem atEnd_any {w : World} {g : Nat} {l : List UInt8} {tk p bf : Value} (hr : RdrAt w g l tk p bf) : Calls Tryd.prog 63 #[.pointer (some ⟨g, 0, none⟩)] w (Pure w (.bool (atEndB l))) := by
  have c0 : w.cell? ⟨g, 0, none⟩ = some (.string (str l)) := hr.cell 0
  clear hr
  cases l with
  | nil =>
    go_enter Tryd.func63, Tryd.ntmps63
    go_wp2_with fail
    go_ret
    exact ⟨rfl, rfl⟩
  | cons b t =>
    have hix := idx_at (b :: t) 0 (by simp)
    have hxx : at0B (b :: t) 0 = b.toNat := rfl
    rw [hxx, show ((0 : Nat) : Int) = 0 from rfl] at hix
    have e1 : ((b :: t) == ([] : List UInt8)) = false := rfl
    have e2 : (([] : List UInt8) == (b :: t)) = false := rfl
    have hv : atEndB (b :: t) = ((b.toNat == 62) || (b.toNat == 47)) := rfl
    rw [hv]
    generalize b :: t = l at *
    by_cases h1 : b.toNat = 62
    · rw [h1] at hix ⊢
      rw [show ((62 : Nat) : Int) = 62 from rfl] at hix
      clear hv hxx h1
      go_enter Tryd.func63, Tryd.ntmps63
      go_wp2_with fail
      go_ret
      exact ⟨rfl, rfl⟩
    · by_cases h2 : b.toNat = 47
      · rw [h2] at hix ⊢
        rw [show ((47 : Nat) : Int) = 47 from rfl] at hix
        clear hv hxx h1 h2
        go_enter Tryd.func63, Tryd.ntmps63
        go_wp2_with fail
        go_ret
        exact ⟨rfl, rfl⟩
      · have hw : ((b.toNat == 62) || (b.toNat == 47)) = false := by
          have g1 : (b.toNat == 62) = false := by simpa using h1
          have g2 : (b.toNat == 47) = false := by simpa using h2
          rw [g1, g2]
          rfl
        rw [hw]
        have x1 : ¬ (b.toNat : Int) = 62 := by omega
        have x2 : ¬ (b.toNat : Int) = 47 := by omega
        generalize ((b.toNat : Nat) : Int) = x at *
        have y1 : (x == 62) = false := by simpa using x1
        have y2 : (x == 47) = false := by simpa using x2
        clear hv hxx h1 h2 hw x1 x2
        go_enter Tryd.func63, Tryd.ntmps63
        go_wp2_with fail
        go_ret
        exact ⟨rfl, rfl⟩
end Go.Proofs.YtelhdkidnhfnbaaDoor

/-
  The reader's Builder, which lies within the reader: Len, Reset, count. Condition: the reader lies in memory, four cells; its bytes are the call's own.
-/
namespace Go.Proofs.YtelhdkidnhfnbaaDoor
open Go.RowKit

/-- A row of bytes of the call's own, as a value. -/
theorem ownB_shape {w : World} {base e : Nat} {v : Value} {out : List UInt8} (h : Own w base e v (bvs out)) : ∃ A c, v = .slice A out.length c := by
  obtain ⟨A, c, rfl, _⟩ := h.rdv (Nat.le_refl _)
  exact ⟨A, c, by rw [bvs_length]⟩
theorem inLen_any {w : World} {g base : Nat} {l out : List UInt8} {tk p bf : Value} (hr : RdrAt w g l tk p bf) (ho : Own w base 5 bf (bvs out)) : Calls Tryd.prog 43 #[.pointer (some ⟨g, 2, none⟩)] w (Pure w (.int .i64 (out.length : Int))) := by
  obtain ⟨A, c, rfl⟩ := ownB_shape ho
  have c3 : w.cell? ⟨g, 3, none⟩ = some (.slice A out.length c) := hr.cell 3
  clear hr ho
  go_enter Tryd.func43, Tryd.ntmps43
  go_wp2_with fail
  go_ret
  exact ⟨rfl, rfl⟩
theorem inReset_any {w : World} {g : Nat} {l : List UInt8} {tk p bf : Value} (hr : RdrAt w g l tk p bf) : Calls Tryd.prog 44 #[.pointer (some ⟨g, 2, none⟩)] w (fun e w' => e = .returned (.tuple #[]) ∧ RdrAt w' g l tk (.pointer none) (.slice none 0 0) ∧ KeepsR g w w') := by
  have c2 : w.cell? ⟨g, 2, none⟩ = some p := hr.cell 2
  have f2 : w.frozen? ⟨g, 2, none⟩ = false := hr.free 2
  have c3 : (w.setCell ⟨g, 2, none⟩ (.pointer none)).cell? ⟨g, 3, none⟩ = some bf := (hr.set 2 _).cell 3
  have f3 : (w.setCell ⟨g, 2, none⟩ (.pointer none)).frozen? ⟨g, 3, none⟩ = false := (hr.set 2 _).free 3
  have HR := Lib.hid hr
  clear hr
  go_enter Tryd.func44, Tryd.ntmps44
  go_wp2_with fail
  first | refine bodyPost_end (results_none rfl _ _ _) rfl ?_ | refine bodyPost_ret (results_none rfl _ _ _) rfl ?_
  exact ⟨rfl, (HR.out.set 2 _).set 3 _, KeepsR.trans (grown_set _ g 2 _) (grown_set _ g 3 _)⟩
/-- How many tokens there are, with the text that has not ended. -/
theorem rdrCount_any {w : World} {g base n : Nat} {l out : List UInt8} {A : Option Addr} {c : Nat} {p bf : Value} (hr : RdrAt w g l (.slice A n c) p bf) (ho : Own w base 5 bf (bvs out)) (hn : n ≤ 1000000) :
    Calls Tryd.prog 19 #[.pointer (some ⟨g, 0, none⟩)] w (Pure w (.int .i64 (if out = [] then (n : Int) else (n : Int) + 1))) := by
  have c1 : w.cell? ⟨g, 1, none⟩ = some (.slice A n c) := hr.cell 1
  have k1 := inLen_any hr ho
  cases out with
  | nil =>
    rw [if_pos rfl]
    have K1 := Lib.hid k1
    clear hr ho k1
    go_enter Tryd.func19, Tryd.ntmps19
    go_wp2_with (go_at_call 43; refine K1.out.mono ?_; rintro e w' ⟨rfl, rfl⟩)
    go_ret
    exact ⟨rfl, rfl⟩
  | cons x y =>
    rw [if_neg (by simp)]
    have hp : (0 : Int) < ((x :: y).length : Int) := by rw [List.length_cons]; omega
    have K1 := Lib.hid k1
    generalize (x :: y).length = m at *
    clear hr ho k1
    go_enter Tryd.func19, Tryd.ntmps19
    go_wp2_with (go_at_call 43; refine K1.out.mono ?_; rintro e w' ⟨rfl, rfl⟩)
    go_ret
    exact ⟨rfl, rfl⟩
end Go.Proofs.YtelhdkidnhfnbaaDoor

/-
  The Builder within the reader: copyCheck. Condition: the reader lies in memory, four cells; the Builder's own address is nil or its own.
-/
namespace Go.Proofs.YtelhdkidnhfnbaaDoor
open Go.RowKit

theorem RdrAt.shape {w : World} {g : Nat} {l : List UInt8} {tk p bf : Value} (hr : RdrAt w g l tk p bf) : w.shape? g = some (45, 4) := by
  unfold RdrAt Blk at hr
  simp [World.shape?, hr]
/-- The address of the reader's Builder. -/
def selfP (g : Nat) : Value := .pointer (some ⟨g, 2, none⟩)
set_option maxHeartbeats 1000000 in
set_option maxRecDepth 100000 in
theorem copy_used {w : World} {g : Nat} {l : List UInt8} {tk bf : Value} (hr : RdrAt w g l tk (selfP g) bf) : Calls Tryd.prog 60 #[selfP g] w (Pure w (.tuple #[])) := by
  obtain ⟨j, hj, _⟩ := Option.map_eq_some_iff.1 (show (Tryd.prog.info? 43).map (·.size) = some 2 by kernel_rfl)
  unfold selfP at *
  have c2 : w.cell? ⟨g, 2, none⟩ = some (.pointer (some ⟨g, 2, none⟩)) := hr.cell 2
  clear hr
  go_enter Tryd.func60, Tryd.ntmps60
  go_wp2
  rw [Lib.run_neq_ptr_same w _ Tryd.underlying40 hj]
  go_wp2
  go_end0
  exact ⟨rfl, rfl⟩
set_option maxHeartbeats 1000000 in
set_option maxRecDepth 100000 in
theorem copy_fresh {w : World} {g : Nat} {l : List UInt8} {tk bf : Value} (hr : RdrAt w g l tk (.pointer none) bf) : Calls Tryd.prog 60 #[selfP g] w (fun e w' => e = .returned (.tuple #[]) ∧ w' = w.setCell ⟨g, 2, none⟩ (selfP g)) := by
  obtain ⟨j, hj, hjs⟩ := Option.map_eq_some_iff.1 (show (Tryd.prog.info? 43).map (·.size) = some 2 by kernel_rfl)
  unfold selfP at *
  have c2 : w.cell? ⟨g, 2, none⟩ = some (.pointer none) := hr.cell 2
  have f2 : w.frozen? ⟨g, 2, none⟩ = false := hr.free 2
  have hsh := hr.shape
  clear hr
  go_enter Tryd.func60, Tryd.ntmps60
  go_wp2
  rw [Lib.run_to_unsafe w ⟨g, 2, none⟩ Tryd.underlying40 Tryd.underlying91 hj (by rw [hjs]; decide) hsh (show 2 < 4 by decide)]
  simp only [Result.andThen]
  rw [Oper.upon_value]
  go_wp2
  rw [run_callFunc_extern Tryd.func74 (by kernel_rfl) (by kernel_rfl) (by kernel_rfl) (e := Extern.AbiNoEscape.same) (by kernel_rfl)]
  rw [Lib.run_noEscape]
  simp only [Result.andThen]
  rw [Oper.upon_value]
  go_wp2
  rw [Lib.run_from_unsafe w ⟨g, 2, none⟩ Tryd.underlying91 Tryd.underlying40 hj hsh (by kernel_rfl)]
  simp only [Result.andThen]
  rw [Oper.upon_value]
  go_wp2
  go_end0
  exact ⟨rfl, rfl⟩
end Go.Proofs.YtelhdkidnhfnbaaDoor

/-
  The Builder within the reader: WriteString. Conditions: the reader lies in memory, four cells; the bytes are the call's own; lengths are lengths.
-/
namespace Go.Proofs.YtelhdkidnhfnbaaDoor
open Go.RowKit

theorem Own.setB {w : World} {base e : Nat} {v : Value} {xs : List Value} (h : Own w base e v xs) {g : Nat} (hg : g < base) (k : Nat) (u : Value) : Own (w.setCell ⟨g, k, none⟩ u) base e v xs := ownsRow_setCell_below h (a := ⟨g, k, none⟩) hg u
/-- Below base nothing turns but block g. -/
def KeepsB (base g : Nat) (w w' : World) : Prop := w'.os = w.os ∧ w'.tape = w.tape ∧ w'.output = w.output ∧ w.heap.size ≤ w'.heap.size ∧ ∀ k, k < base → k < w.heap.size → k ≠ g → w'.heap[k]? = w.heap[k]?
theorem KeepsB.refl (base g : Nat) (w : World) : KeepsB base g w w := ⟨rfl, rfl, rfl, Nat.le_refl _, fun _ _ _ _ => rfl⟩
theorem KeepsB.trans {base g : Nat} {a b c : World} (h : KeepsB base g a b) (k : KeepsB base g b c) : KeepsB base g a c :=
  ⟨k.1.trans h.1, k.2.1.trans h.2.1, k.2.2.1.trans h.2.2.1, Nat.le_trans h.2.2.2.1 k.2.2.2.1, fun x hx hs hne => (k.2.2.2.2 x hx (Nat.lt_of_lt_of_le hs h.2.2.2.1) hne).trans (h.2.2.2.2 x hx hs hne)⟩
theorem KeepsB.of {base g : Nat} {a b : World} (h : Below base a b) : KeepsB base g a b := ⟨h.os, h.tape, h.output, h.size, fun x hx _ _ => h.block x hx⟩
theorem KeepsB.set (base : Nat) (w : World) (g i : Nat) (u : Value) : KeepsB base g w (w.setCell ⟨g, i, none⟩ u) :=
  ⟨rfl, rfl, rfl, by simp [World.setCell], fun x _ _ hne => Below.heap_setCell w _ u x hne⟩
theorem copy_any {w : World} {g base : Nat} {l out : List UInt8} {tk p bf : Value} (hr : RdrAt w g l tk p bf) (hp : p = .pointer none ∨ p = selfP g) (ho : Own w base 5 bf (bvs out)) (hg : g < base) :
    Calls Tryd.prog 60 #[selfP g] w (fun e w' => e = .returned (.tuple #[]) ∧ RdrAt w' g l tk (selfP g) bf ∧ Own w' base 5 bf (bvs out) ∧ KeepsB base g w w' ∧ w'.heap.size = w.heap.size) := by
  rcases hp with rfl | rfl
  · refine (copy_fresh hr).mono ?_
    rintro e w' ⟨rfl, rfl⟩
    exact ⟨rfl, hr.set 2 _, ho.setB hg 2 _, KeepsB.set base w g 2 _, by simp [World.setCell]⟩
  · refine (copy_used hr).mono ?_
    rintro e w' ⟨rfl, rfl⟩
    exact ⟨rfl, hr, ho, KeepsB.refl _ _ _, rfl⟩
set_option maxHeartbeats 1000000 in
theorem inWrite_any {w : World} {g base : Nat} {l out : List UInt8} {tk p bf : Value} (hr : RdrAt w g l tk p bf) (hp : p = .pointer none ∨ p = selfP g) (ho : Own w base 5 bf (bvs out)) (hg : g < base) (hb : base ≤ w.heap.size) (s : List UInt8) (hl : out.length + s.length ≤ 140737488355328) :
    Calls Tryd.prog 37 #[selfP g, .string (str s)] w (fun e w' => e = .returned (.tuple #[.int .i64 (s.length : Int), .nilIface]) ∧ ∃ bf', RdrAt w' g l tk (selfP g) bf' ∧ Own w' base 5 bf' (bvs (out ++ s)) ∧ KeepsB base g w w') := by
  have k1 := copy_any hr hp ho hg
  unfold selfP at *
  have K1 := Lib.hid k1
  have HG := Lib.hid hg
  have HB := Lib.hid hb
  have HL := Lib.hid hl
  clear hr hp ho k1 hg hb hl
  go_enter Tryd.func37, Tryd.ntmps37
  go_wp2_with (first
    | (go_at_call 60; refine K1.out.mono ?_; rintro e w1 ⟨rfl, h1, o1, s1, z1⟩; obtain ⟨A, c, hbf⟩ := ownB_shape o1; subst hbf; have c3 : w1.cell? ⟨g, 3, none⟩ = some (.slice A out.length c) := h1.cell 3; have H1 := Lib.hid h1; have O1 := Lib.hid o1; have S1 := Lib.hid s1; have Z1 := Lib.hid z1; clear h1 o1 s1 z1)
    | (at_builtin; go_must (refine wpList_append_str _ rfl (.tmp 12) (.tmp 13) _ _ rfl base 5 Tryd.underlying41 Tryd.underlying9 Tryd.u8info _ _ rfl (by exact O1.out) (str s) rfl (by rw [str_size]; have := HL.out; omega) (by have := HB.out; have := Z1.out; omega) ?_); intro v2 w2 hown2 hg2 hb2; have h2 : RdrAt w2 g l tk (.pointer (some ⟨g, 2, none⟩)) (.slice A out.length c) := H1.out.below hb2 HG.out; have c4 : w2.cell? ⟨g, 3, none⟩ = some (.slice A out.length c) := h2.cell 3; have f4 : w2.frozen? ⟨g, 3, none⟩ = false := h2.free 3; obtain ⟨A2, c2, hbf2⟩ := ownB_shape (by rw [str_data] at hown2; exact hown2); subst hbf2; have H2 := Lib.hid h2; have O2 := Lib.hid hown2; have B2 := Lib.hid hb2; clear h2 hown2 hb2 hg2))
  go_ret2
  exact ⟨rfl, _, H2.out.set 3 _, by have h := O2.out; rw [str_data, List.length_append] at h; exact h.setB HG.out 3 _, (S1.out.trans (KeepsB.of B2.out)).trans (KeepsB.set base w2 g 3 _)⟩
end Go.Proofs.YtelhdkidnhfnbaaDoor
