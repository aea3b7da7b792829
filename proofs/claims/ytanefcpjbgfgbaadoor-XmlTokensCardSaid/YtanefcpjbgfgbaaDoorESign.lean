/-
  The rune of a sign's name (entity.Sign). Conditions: the table is as the program's text lays it; the name's length is a length.
-/
import Derived.Test.YtanefcpjbgfgbaaDoorENum
import Derived.Test.YtanefcpjbgfgbaaDoorShelf
namespace Go.Proofs.YtanefcpjbgfgbaaDoor
open Go.RowKit
open Go.Lib (decodeL encodeRune)

/-- None of the first k names is l. -/
def NFN (k : Nat) (l : List UInt8) : Prop := (0 < k → l ≠ [97, 109, 112]) ∧ (1 < k → l ≠ [108, 116]) ∧ (2 < k → l ≠ [103, 116]) ∧ (3 < k → l ≠ [113, 117, 111, 116]) ∧ (4 < k → l ≠ [97, 112, 111, 115])
theorem NFN.all {l : List UInt8} (h : NFN 5 l) : namedR l = none := by
  obtain ⟨h1, h2, h3, h4, h5⟩ := h
  unfold namedR
  rw [if_neg (h1 (by decide)), if_neg (h2 (by decide)), if_neg (h3 (by decide)), if_neg (h4 (by decide)), if_neg (h5 (by decide))]
theorem pre_yes {l p : List UInt8} (h : l.take p.length = p) : Lib.hasPrefix l p = true := by
  unfold Lib.hasPrefix
  rw [List.isPrefixOf_iff_prefix]
  exact ⟨l.drop p.length, by conv => rhs; rw [← List.take_append_drop p.length l, h]⟩
theorem pre_no {l p : List UInt8} (h : ¬ l.take p.length = p) : Lib.hasPrefix l p = false := by
  cases hp : Lib.hasPrefix l p with
  | false => rfl
  | true =>
    unfold Lib.hasPrefix at hp
    rw [List.isPrefixOf_iff_prefix] at hp
    obtain ⟨t, rfl⟩ := hp
    exact (h (List.take_left)).elim
theorem cutP_yes (l p : List UInt8) (h : l.take p.length = p) (w : World) : Calls Tryd.prog 57 #[.string (str l), .string (str p)] w (Pure w (.tuple #[.string (str (l.drop p.length)), .bool true])) := by
  refine (Tryd.strings_CutPrefix (str l) (str p) w).mono ?_
  rw [str_data, str_data, pre_yes h]
  unfold Lib.trimPrefix
  rw [pre_yes h, if_pos rfl]
  rintro e w' ⟨rfl, rfl⟩
  exact ⟨rfl, rfl⟩
theorem cutP_no (l p : List UInt8) (h : ¬ l.take p.length = p) (w : World) : Calls Tryd.prog 57 #[.string (str l), .string (str p)] w (Pure w (.tuple #[.string (str l), .bool false])) := by
  refine (Tryd.strings_CutPrefix (str l) (str p) w).mono ?_
  rw [str_data, str_data, pre_no h]
  unfold Lib.trimPrefix
  rw [pre_no h, if_neg Bool.false_ne_true]
  rintro e w' ⟨rfl, rfl⟩
  exact ⟨rfl, rfl⟩
theorem sg_none : sgV none = .tuple #[.int .i32 0, .bool false] := rfl
theorem sgV_shape (o : Option Int) : ∃ c b, sgV o = .tuple #[.int .i32 c, .bool b] := by cases o <;> exact ⟨_, _, rfl⟩
def SignRel (l : List UInt8) (w : World) (u : Value) (W : World) : Prop := ∃ k : Nat, k ≤ 5 ∧ u = .int .i64 (k : Int) ∧ NFN k l ∧ Below w.heap.size w W
set_option maxHeartbeats 3200000 in
theorem sign_any (l : List UInt8) (w : World) (hS : Sig w) (hl : l.length ≤ maxLen) : Calls Tryd.prog 78 #[.string (str l)] w (Made w (sgV (signR l))) := by
  have HS := Lib.hid hS
  have HLM := Lib.hid hl
  have i0 := sig_0
  have i1 := sig_1
  have i2 := sig_2
  have i3 := sig_3
  have i4 := sig_4
  clear hS hl
  go_enter Tryd.func78, Tryd.ntmps78
  go_wp2_with (refine wpList_load_mid (by rfl) _ _ (by rfl) 0 0 (by rfl) sigCells _ HS.out.2 Tryd.underlying98 (by rfl) (by kernel_rfl) ?_)
  generalize sigCells.toArray = SC at *
  go_loopw [11] (SignRel l w) (fun u _ => 5 - (intOf u).toNat)
  case atStart => exact ⟨0, by decide, rfl, by unfold NFN; refine ⟨?_, ?_, ?_, ?_, ?_⟩ <;> omega, Below.refl _ _⟩
  case round =>
    obtain ⟨k, hk, rfl, hnf, hbw⟩ := hrel
    have HN := Lib.hid hnf
    have HB := Lib.hid hbw
    clear hnf hbw
    have hk6 : k = 0 ∨ k = 1 ∨ k = 2 ∨ k = 3 ∨ k = 4 ∨ k = 5 := by omega
    rcases hk6 with rfl | rfl | rfl | rfl | rfl | rfl
    · by_cases hc : l = [97, 109, 112]
      · subst hc
        go_wp2_with fail
        go_ret2
        exact ⟨rfl, HB.out.alloc HB.out.size _⟩
      · have hc1 : (([97, 109, 112] : List UInt8) == l) = false := by simpa using fun e => hc e.symm
        have HNE := Lib.hid hc
        clear hc
        go_wp2_with fail
        go_roundw
        case rel =>
          refine ⟨1, by decide, rfl, ?_, HB.out.alloc HB.out.size _⟩
          obtain ⟨h1, h2, h3, h4, h5⟩ := HN.out
          have h6 := HNE.out
          unfold NFN
          refine ⟨?_, ?_, ?_, ?_, ?_⟩ <;> intro hq <;> first | exact h6 | exact h1 (by omega) | exact h2 (by omega) | exact h3 (by omega) | exact h4 (by omega) | exact h5 (by omega) | omega
        case measure => simp [intOf]
    · by_cases hc : l = [108, 116]
      · subst hc
        go_wp2_with fail
        go_ret2
        exact ⟨rfl, HB.out.alloc HB.out.size _⟩
      · have hc1 : (([108, 116] : List UInt8) == l) = false := by simpa using fun e => hc e.symm
        have HNE := Lib.hid hc
        clear hc
        go_wp2_with fail
        go_roundw
        case rel =>
          refine ⟨2, by decide, rfl, ?_, HB.out.alloc HB.out.size _⟩
          obtain ⟨h1, h2, h3, h4, h5⟩ := HN.out
          have h6 := HNE.out
          unfold NFN
          refine ⟨?_, ?_, ?_, ?_, ?_⟩ <;> intro hq <;> first | exact h6 | exact h1 (by omega) | exact h2 (by omega) | exact h3 (by omega) | exact h4 (by omega) | exact h5 (by omega) | omega
        case measure => simp [intOf]
    · by_cases hc : l = [103, 116]
      · subst hc
        go_wp2_with fail
        go_ret2
        exact ⟨rfl, HB.out.alloc HB.out.size _⟩
      · have hc1 : (([103, 116] : List UInt8) == l) = false := by simpa using fun e => hc e.symm
        have HNE := Lib.hid hc
        clear hc
        go_wp2_with fail
        go_roundw
        case rel =>
          refine ⟨3, by decide, rfl, ?_, HB.out.alloc HB.out.size _⟩
          obtain ⟨h1, h2, h3, h4, h5⟩ := HN.out
          have h6 := HNE.out
          unfold NFN
          refine ⟨?_, ?_, ?_, ?_, ?_⟩ <;> intro hq <;> first | exact h6 | exact h1 (by omega) | exact h2 (by omega) | exact h3 (by omega) | exact h4 (by omega) | exact h5 (by omega) | omega
        case measure => simp [intOf]
    · by_cases hc : l = [113, 117, 111, 116]
      · subst hc
        go_wp2_with fail
        go_ret2
        exact ⟨rfl, HB.out.alloc HB.out.size _⟩
      · have hc1 : (([113, 117, 111, 116] : List UInt8) == l) = false := by simpa using fun e => hc e.symm
        have HNE := Lib.hid hc
        clear hc
        go_wp2_with fail
        go_roundw
        case rel =>
          refine ⟨4, by decide, rfl, ?_, HB.out.alloc HB.out.size _⟩
          obtain ⟨h1, h2, h3, h4, h5⟩ := HN.out
          have h6 := HNE.out
          unfold NFN
          refine ⟨?_, ?_, ?_, ?_, ?_⟩ <;> intro hq <;> first | exact h6 | exact h1 (by omega) | exact h2 (by omega) | exact h3 (by omega) | exact h4 (by omega) | exact h5 (by omega) | omega
        case measure => simp [intOf]
    · by_cases hc : l = [97, 112, 111, 115]
      · subst hc
        go_wp2_with fail
        go_ret2
        exact ⟨rfl, HB.out.alloc HB.out.size _⟩
      · have hc1 : (([97, 112, 111, 115] : List UInt8) == l) = false := by simpa using fun e => hc e.symm
        have HNE := Lib.hid hc
        clear hc
        go_wp2_with fail
        go_roundw
        case rel =>
          refine ⟨5, by decide, rfl, ?_, HB.out.alloc HB.out.size _⟩
          obtain ⟨h1, h2, h3, h4, h5⟩ := HN.out
          have h6 := HNE.out
          unfold NFN
          refine ⟨?_, ?_, ?_, ?_, ?_⟩ <;> intro hq <;> first | exact h6 | exact h1 (by omega) | exact h2 (by omega) | exact h3 (by omega) | exact h4 (by omega) | exact h5 (by omega) | omega
        case measure => simp [intOf]
    · have hna := NFN.all HN.out
      have hsg : signR l = if l.take 2 = [35, 120] then (numB 16 6 (l.drop 2)).map shownR else if l.take 1 = [35] then (numB 10 7 (l.drop 1)).map shownR else none := by unfold signR; rw [hna]
      have HSG := Lib.hid hsg
      clear hna hsg
      by_cases h1 : l.take 2 = [35, 120]
      · have HV : Hid (signR l = (numB 16 6 (l.drop 2)).map shownR) := Lib.hid (by rw [HSG.out, if_pos h1])
        have k1 := cutP_yes l [35, 120] h1
        have K1 := Lib.hid k1
        have k2 := fun W => number_16 (l.drop 2) W (by have := HLM.out; rw [List.length_drop]; omega)
        obtain ⟨rc, rb, hsh⟩ := sgV_shape ((numB 16 6 (l.drop 2)).map shownR)
        have hv : sgV (signR l) = .tuple #[.int .i32 rc, .bool rb] := by rw [HV.out]; exact hsh
        rw [hsh] at k2
        have K2 := Lib.hid k2
        have HV2 := Lib.hid hv
        clear k1 k2 h1 hsh hv
        go_wp2_with fail
        refine (K1.out _).mono ?_
        rintro e w1 ⟨rfl, rfl⟩
        go_wp2_with fail
        refine (K2.out _).mono ?_
        rintro e w2 ⟨rfl, b2⟩
        have HB2 := Lib.hid (HB.out.trans (b2.mono HB.out.size))
        clear b2
        go_wp2_with fail
        go_ret2
        exact ⟨by rw [HV2.out]; rfl, HB2.out⟩
      · have k1 := cutP_no l [35, 120] h1
        have K1 := Lib.hid k1
        by_cases h2 : l.take 1 = [35]
        · have HV : Hid (signR l = (numB 10 7 (l.drop 1)).map shownR) := Lib.hid (by rw [HSG.out, if_neg h1, if_pos h2])
          have k3 := cutP_yes l [35] h2
          have K3 := Lib.hid k3
          have k2 := fun W => number_10 (l.drop 1) W (by have := HLM.out; rw [List.length_drop]; omega)
          obtain ⟨rc, rb, hsh⟩ := sgV_shape ((numB 10 7 (l.drop 1)).map shownR)
          have hv : sgV (signR l) = .tuple #[.int .i32 rc, .bool rb] := by rw [HV.out]; exact hsh
          rw [hsh, List.drop_one] at k2
          have K2 := Lib.hid k2
          have HV2 := Lib.hid hv
          clear k1 k2 k3 h1 h2 hsh hv
          go_wp2_with fail
          refine (K1.out _).mono ?_
          rintro e w1 ⟨rfl, rfl⟩
          go_wp2_with fail
          refine (K3.out _).mono ?_
          rintro e w3 ⟨rfl, rfl⟩
          go_wp2_with fail
          refine (K2.out _).mono ?_
          rintro e w2 ⟨rfl, b2⟩
          have HB2 := Lib.hid (HB.out.trans (b2.mono HB.out.size))
          clear b2
          go_wp2_with fail
          go_ret2
          exact ⟨by rw [HV2.out]; rfl, HB2.out⟩
        · have HV : Hid (signR l = none) := Lib.hid (by rw [HSG.out, if_neg h1, if_neg h2])
          have k3 := cutP_no l [35] h2
          have K3 := Lib.hid k3
          clear k1 k3 h1 h2
          go_wp2_with fail
          refine (K1.out _).mono ?_
          rintro e w1 ⟨rfl, rfl⟩
          go_wp2_with fail
          refine (K3.out _).mono ?_
          rintro e w3 ⟨rfl, rfl⟩
          go_wp2_with fail
          go_ret2
          exact ⟨by rw [HV.out]; rfl, HB.out⟩
end Go.Proofs.YtanefcpjbgfgbaaDoor
