/-
  Write and Read (entity): what they answer. Conditions: at most 2^40 bytes; the table is as the program's text lays it.
-/
import Derived.Test.YthnepbdkbiieiaaDoorECut
import Derived.Test.YthnepbdkbiieiaaDoorESign
import Derived.Shelf.Strings.MapGrows
namespace Go.Proofs.YthnepbdkbiieiaaDoor
open Go.RowKit
open Go.Lib (decodeL encodeRune)

theorem Bld.below {g : Nat} {l : List UInt8} {w w' : World} (h : Bld g l w) (hb : Below w.heap.size w w') : Bld g l w' := Lib.IsBuilderF.below h hb
theorem nameE_len (c : Int) : (nameE c).length ≤ 4 := by
  unfold nameE
  repeat' split
  all_goals decide
theorem esc_str (n : List UInt8) : ((⟨#[38]⟩ : ByteArray) ++ str n) ++ (⟨#[59]⟩ : ByteArray) = str (38 :: n ++ [59]) := by
  apply ByteArray.ext
  simp [str]
def WriteRel (l : List UInt8) (w : World) (u4 : Value) (W : World) : Prop :=
  ∃ k f : Nat, f ≤ k ∧ k ≤ l.length ∧ u4 = .int .i64 (f : Int) ∧ plainR ((l.drop f).take (k - f)) = true ∧ W.heap[w.heap.size + 1]? = some (.stringIter (str l) k) ∧ Bld w.heap.size (writeR (l.take f)) W ∧ Below w.heap.size w W
set_option maxHeartbeats 3200000 in
theorem write_any (l : List UInt8) (w : World) (hS : Sig w) (hl : l.length ≤ 1099511627776) : Calls Tryd.prog 16 #[.string (str l)] w (Made w (.string (str (writeR l)))) := by
  have hit0 := World.iter_heap (w.alloc (.cells #[.pointer none, .slice none 0 0] 51)) (str l) 0
  rw [show (w.alloc (.cells #[.pointer none, .slice none 0 0] 51)).heap.size = w.heap.size + 1 by simp] at hit0
  have HIT0 := Lib.hid hit0
  have HB0 := Lib.hid (bld_alloc (bld_new w) (.stringIter (str l) 0))
  have HW0 := Lib.hid (((Below.refl w.heap.size w).alloc (Nat.le_refl _) (.cells #[.pointer none, .slice none 0 0] 51)).alloc (by simp) (.stringIter (str l) 0))
  have HS := Lib.hid hS
  clear hit0 hS
  go_enter Tryd.func16, Tryd.ntmps16
  go_wp2_with fail
  go_loopw [4] (WriteRel l w) (fun _ wr => l.length - wr.iterPos (w.heap.size + 1))
  case atStart => exact ⟨0, 0, Nat.le_refl _, Nat.zero_le _, rfl, by simp [plainR], HIT0.out, HB0.out, HW0.out⟩
  case round =>
    obtain ⟨k, f, hfk, hk, rfl, hp, hit, hbd, hbw⟩ := hrel
    have hsz : w.heap.size + 1 < wr.heap.size := (Array.getElem?_eq_some_iff.1 hit).1
    have hwl := writeR_len (l.take f)
    have hwl2 : (writeR (l.take f)).length ≤ 6 * l.length := by rw [List.length_take] at hwl; omega
    by_cases hkl : k < l.length
    · have hnx := fun ty => nxt_at wr (w.heap.size + 1) l k ty hit hkl
      have hd := dec_on hkl
      have hns := dec_nosign hkl
      have hlow := dec_low_at hkl
      have hit2 := Lib.iterAt_heap wr (w.heap.size + 1) (str l) k (k + (decodeL (l.drop k)).2) hit
      have hbw2 := Lib.below_iterAt hbw (k := w.heap.size + 1) (by omega) (str l) (k + (decodeL (l.drop k)).2)
      have hbd2 := bld_iter hbd hit (k + (decodeL (l.drop k)).2)
      generalize hdd : decodeL (l.drop k) = dd at *
      generalize wr.iterAt (w.heap.size + 1) (str l) (k + dd.2) = W1 at *
      have kn := nameOf_any (dd.1 : Int) W1 (HS.out.below hbw2)
      have hnl := nameE_len (dd.1 : Int)
      have HD := Lib.hid hd
      have HIT := Lib.hid hit
      have HIT2 := Lib.hid hit2
      have HB2 := Lib.hid hbw2
      have HBD := Lib.hid hbd2
      have HP := Lib.hid hp
      have HWL := Lib.hid hwl2
      cases hs : signE (dd.1 : Int) with
      | false =>
        have hnil : nameE (dd.1 : Int) = [] := by
          unfold signE at hs
          simpa using hs
        have HNX := Lib.hid (plain_next hfk hp (hns hs))
        rw [hnil] at kn
        have KN := Lib.hid kn
        clear hd hns hlow hit hit2 hbw hbw2 hbd hbd2 hdd hp hwl hwl2 kn hnl hs hnil
        go_wp2_with fail
        refine KN.out.mono ?_
        rintro e w3 ⟨rfl, b3⟩
        have HBK := Lib.hid ((b3.block (w.heap.size + 1) (Array.getElem?_eq_some_iff.1 HIT2.out).1).trans HIT2.out)
        have HBD3 := Lib.hid (HBD.out.below b3)
        have HB3 := Lib.hid (HB2.out.trans (b3.mono HB2.out.size))
        clear b3
        go_wp2_with fail
        go_roundw
        case rel => exact ⟨k + dd.2, f, by omega, HD.out.2, rfl, HNX.out, HBK.out, HBD3.out, HB3.out⟩
        case measure =>
          have e1 := iterPos_of HBK.out
          have e2 := iterPos_of HIT.out
          rw [e1, e2]
          have := HD.out
          omega
      | true =>
        obtain ⟨hw1, hlk⟩ := hlow (by have := signE_low _ hs; omega)
        have hsg := write_sign hfk hkl hp (by rw [hlk]; exact hs)
        rw [hlk] at hsg
        have HSG := Lib.hid hsg
        have hne : (nameE (dd.1 : Int)).isEmpty = false := by
          unfold signE at hs
          simpa using hs
        have HW1 := Lib.hid hw1
        have e1 := slc l f k hfk (by omega)
        have hmid : ((l.drop f).take (k - f)).length ≤ l.length := by rw [List.length_take, List.length_drop]; omega
        have HMID := Lib.hid hmid
        generalize nameE (dd.1 : Int) = nm at *
        have hne2 : (!nm.isEmpty) = true := by rw [hne]; rfl
        have HES := Lib.hid (esc_str nm)
        have KN := Lib.hid kn
        have HNL := Lib.hid hnl
        have hcat : ¬ (9223372036854775807 < 1 + nm.length) := by omega
        clear hd hns hlow hit hit2 hbw hbw2 hbd hbd2 hdd hp hwl hwl2 kn hs hw1 hlk hsg hmid
        go_wp2_with fail
        refine KN.out.mono ?_
        rintro e w3 ⟨rfl, b3⟩
        have HBK := Lib.hid ((b3.block (w.heap.size + 1) (Array.getElem?_eq_some_iff.1 HIT2.out).1).trans HIT2.out)
        have HBD3 := Lib.hid (HBD.out.below b3)
        have HB3 := Lib.hid (HB2.out.trans (b3.mono HB2.out.size))
        clear b3
        go_wp2_with fail
        refine (bld_string w.heap.size _ _ _ HBD3.out (by have := HWL.out; have := HMID.out; omega) HB3.out.size).mono ?_
        rintro e w4 ⟨rfl, h4, b4, k4⟩
        have HBD4 := Lib.hid h4
        have HB4 := Lib.hid (HB3.out.trans b4)
        have HK4 := Lib.hid (k4.iter HBK.out (by omega))
        clear h4 b4 k4
        go_wp2_with fail
        rw [HES.out]
        refine (bld_string w.heap.size _ _ _ HBD4.out (by have := HWL.out; have := HMID.out; have := HNL.out; simp only [List.length_append, List.length_cons, List.length_nil, List.cons_append] at *; omega) HB4.out.size).mono ?_
        rintro e w5 ⟨rfl, h5, b5, k5⟩
        have HBD5 := Lib.hid h5
        have HB5 := Lib.hid (HB4.out.trans b5)
        have HK5 := Lib.hid (k5.iter HK4.out (by omega))
        clear h5 b5 k5
        go_wp2_with fail
        go_roundw
        case rel =>
          refine ⟨k + dd.2, k + 1, by have := HW1.out; omega, HD.out.2, by go_num, ?_, HK5.out, by rw [HSG.out]; exact HBD5.out, HB5.out⟩
          rw [HW1.out, Nat.sub_self]
          rfl
        case measure =>
          have e1 := iterPos_of HK5.out
          have e2 := iterPos_of HIT.out
          rw [e1, e2]
          have := HD.out
          omega
    · have hke : k = l.length := by omega
      have hnx := fun ty => nxt_no wr (w.heap.size + 1) l k ty hit hkl
      have e1 := slt l f (by omega)
      have hf1 : (l.drop f).take (k - f) = l.drop f := List.take_of_length_le (by rw [List.length_drop]; omega)
      have hf2 : l.take k = l := List.take_of_length_le (by omega)
      have hfin := write_upto hfk hp
      rw [hf1, hf2] at hfin
      clear hf1 hf2
      have HF := Lib.hid hfin
      have HBD := Lib.hid hbd
      have HB := Lib.hid hbw
      have HWL := Lib.hid hwl2
      have hdl : (l.drop f).length ≤ l.length := by rw [List.length_drop]; omega
      have HDL := Lib.hid hdl
      have hfl : f ≤ l.length := by omega
      clear hfin hbd hbw hwl hwl2 hit hp hke hdl
      go_wp2_with fail
      refine (bld_string w.heap.size _ _ _ HBD.out (by have := HWL.out; have := HDL.out; omega) HB.out.size).mono ?_
      rintro e w4 ⟨rfl, h4, b4, k4⟩
      have HBD4 := Lib.hid h4
      have HB4 := Lib.hid (HB.out.trans b4)
      clear h4 b4 k4
      go_wp2_with fail
      refine (bld_end w.heap.size _ _ HBD4.out HB4.out.size).mono ?_
      rintro e w5 ⟨rfl, b5⟩
      go_wp2_with fail
      go_ret
      exact ⟨by rw [HF.out]; rfl, HB4.out.trans b5⟩
end Go.Proofs.YthnepbdkbiieiaaDoor
