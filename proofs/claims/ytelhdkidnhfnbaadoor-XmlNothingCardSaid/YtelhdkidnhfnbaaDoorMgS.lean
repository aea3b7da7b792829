/-
  Write and Read (entity): what they answer. Conditions: at most 2^40 bytes; the table is as the program's text lays it.
-/
import Derived.Test.YtelhdkidnhfnbaaDoorMgR
import Derived.Test.YtelhdkidnhfnbaaDoorMgM
import Derived.Shelf.Strings.MapGrows
namespace Go.Proofs.YtelhdkidnhfnbaaDoor
open Go.RowKit
open Go.Lib (decodeL encodeRune)

theorem Bld.below {g : Nat} {l : List UInt8} {w w' : World} (h : Bld g l w) (hb : Below w.heap.size w w') : Bld g l w' := Lib.IsBuilderF.below h hb
theorem nameE_len (c : Int) : (nameE c).length ≤ 4 := by
  unfold nameE
  repeat' split
  all_goals decide
theorem esc_str (n : List UInt8) : ((⟨#[38]⟩ : ByteArray) ++ str n) ++ (⟨#[59]⟩ : ByteArray) = str (38 :: n ++ [59]) := by
  apply ByteArray.ext
  simp [str]
def WriteRel (l : List UInt8) (w : World) (u4 : Value) (W : World) : Prop :=
  ∃ k f : Nat, f ≤ k ∧ k ≤ l.length ∧ u4 = .int .i64 (f : Int) ∧ plainR ((l.drop f).take (k - f)) = true ∧ W.heap[w.heap.size + 1]? = some (.stringIter (str l) k) ∧ Bld w.heap.size (writeR (l.take f)) W ∧ Below w.heap.size w W
set_option maxHeartbeats 3200000 in
theorem write_any (l : List UInt8) (w : World) (hS : Sig w) (hl : l.length ≤ 1099511627776) : Calls Tryd.prog 52 #[.string (str l)] w (Made w (.string (str (writeR l)))) := by
  have hit0 := World.iter_heap (w.alloc (.cells #[.pointer none, .slice none 0 0] 43)) (str l) 0
  rw [show (w.alloc (.cells #[.pointer none, .slice none 0 0] 43)).heap.size = w.heap.size + 1 by simp] at hit0
  have HIT0 := Lib.hid hit0
  have HB0 := Lib.hid (bld_alloc (bld_new w) (.stringIter (str l) 0))
  have HW0 := Lib.hid (((Below.refl w.heap.size w).alloc (Nat.le_refl _) (.cells #[.pointer none, .slice none 0 0] 43)).alloc (by simp) (.stringIter (str l) 0))
  have HS := Lib.hid hS
  clear hit0 hS
  go_enter Tryd.func52, Tryd.ntmps52
  go_wp2_with fail
  go_loopw [4] (WriteRel l w) (fun _ wr => l.length - wr.iterPos (w.heap.size + 1))
  case atStart => exact ⟨0, 0, Nat.le_refl _, Nat.zero_le _, rfl, by simp [plainR], HIT0.out, HB0.out, HW0.out⟩
  case round =>
    obtain ⟨k, f, hfk, hk, rfl, hp, hit, hbd, hbw⟩ := hrel
    have hsz : w.heap.size + 1 < wr.heap.size := (Array.getElem?_eq_some_iff.1 hit).1
    have hwl := writeR_len (l.take f)
    have hwl2 : (writeR (l.take f)).length ≤ 6 * l.length := by rw [List.length_take] at hwl; omega
    by_cases hkl : k < l.length
    · have hnx := fun ty => nxt_at wr (w.heap.size + 1) l k ty hit hkl
      have hd := dec_on hkl
      have hns := dec_nosign hkl
      have hlow := dec_low_at hkl
      have hit2 := Lib.iterAt_heap wr (w.heap.size + 1) (str l) k (k + (decodeL (l.drop k)).2) hit
      have hbw2 := Lib.below_iterAt hbw (k := w.heap.size + 1) (by omega) (str l) (k + (decodeL (l.drop k)).2)
      have hbd2 := bld_iter hbd hit (k + (decodeL (l.drop k)).2)
      generalize hdd : decodeL (l.drop k) = dd at *
      generalize wr.iterAt (w.heap.size + 1) (str l) (k + dd.2) = W1 at *
      have kn := nameOf_any (dd.1 : Int) W1 (HS.out.below hbw2)
      have hnl := nameE_len (dd.1 : Int)
      have HD := Lib.hid hd
      have HIT := Lib.hid hit
      have HIT2 := Lib.hid hit2
      have HB2 := Lib.hid hbw2
      have HBD := Lib.hid hbd2
      have HP := Lib.hid hp
      have HWL := Lib.hid hwl2
      cases hs : signE (dd.1 : Int) with
      | false =>
        have hnil : nameE (dd.1 : Int) = [] := by
          unfold signE at hs
          simpa using hs
        have HNX := Lib.hid (plain_next hfk hp (hns hs))
        rw [hnil] at kn
        have KN := Lib.hid kn
        clear hd hns hlow hit hit2 hbw hbw2 hbd hbd2 hdd hp hwl hwl2 kn hnl hs hnil
        go_wp2_with fail
        refine KN.out.mono ?_
        rintro e w3 ⟨rfl, b3⟩
        have HBK := Lib.hid ((b3.block (w.heap.size + 1) (Array.getElem?_eq_some_iff.1 HIT2.out).1).trans HIT2.out)
        have HBD3 := Lib.hid (HBD.out.below b3)
        have HB3 := Lib.hid (HB2.out.trans (b3.mono HB2.out.size))
        clear b3
        go_wp2_with fail
        go_roundw
        case rel => exact ⟨k + dd.2, f, by omega, HD.out.2, rfl, HNX.out, HBK.out, HBD3.out, HB3.out⟩
        case measure =>
          have e1 := iterPos_of HBK.out
          have e2 := iterPos_of HIT.out
          rw [e1, e2]
          have := HD.out
          omega
      | true =>
        obtain ⟨hw1, hlk⟩ := hlow (by have := signE_low _ hs; omega)
        have hsg := write_sign hfk hkl hp (by rw [hlk]; exact hs)
        rw [hlk] at hsg
        have HSG := Lib.hid hsg
        have hne : (nameE (dd.1 : Int)).isEmpty = false := by
          unfold signE at hs
          simpa using hs
        have HW1 := Lib.hid hw1
        have e1 := slc l f k hfk (by omega)
        have hmid : ((l.drop f).take (k - f)).length ≤ l.length := by rw [List.length_take, List.length_drop]; omega
        have HMID := Lib.hid hmid
        generalize nameE (dd.1 : Int) = nm at *
        have hne2 : (!nm.isEmpty) = true := by rw [hne]; rfl
        have HES := Lib.hid (esc_str nm)
        have KN := Lib.hid kn
        have HNL := Lib.hid hnl
        have hcat : ¬ (9223372036854775807 < 1 + nm.length) := by omega
        clear hd hns hlow hit hit2 hbw hbw2 hbd hbd2 hdd hp hwl hwl2 kn hs hw1 hlk hsg hmid
        go_wp2_with fail
        refine KN.out.mono ?_
        rintro e w3 ⟨rfl, b3⟩
        have HBK := Lib.hid ((b3.block (w.heap.size + 1) (Array.getElem?_eq_some_iff.1 HIT2.out).1).trans HIT2.out)
        have HBD3 := Lib.hid (HBD.out.below b3)
        have HB3 := Lib.hid (HB2.out.trans (b3.mono HB2.out.size))
        clear b3
        go_wp2_with fail
        refine (bld_string w.heap.size _ _ _ HBD3.out (by have := HWL.out; have := HMID.out; omega) HB3.out.size).mono ?_
        rintro e w4 ⟨rfl, h4, b4, k4⟩
        have HBD4 := Lib.hid h4
        have HB4 := Lib.hid (HB3.out.trans b4)
        have HK4 := Lib.hid (k4.iter HBK.out (by omega))
        clear h4 b4 k4
        go_wp2_with fail
        rw [HES.out]
        refine (bld_string w.heap.size _ _ _ HBD4.out (by have := HWL.out; have := HMID.out; have := HNL.out; simp only [List.length_append, List.length_cons, List.length_nil, List.cons_append] at *; omega) HB4.out.size).mono ?_
        rintro e w5 ⟨rfl, h5, b5, k5⟩
        have HBD5 := Lib.hid h5
        have HB5 := Lib.hid (HB4.out.trans b5)
        have HK5 := Lib.hid (k5.iter HK4.out (by omega))
        clear h5 b5 k5
        go_wp2_with fail
        go_roundw
        case rel =>
          refine ⟨k + dd.2, k + 1, by have := HW1.out; omega, HD.out.2, by go_num, ?_, HK5.out, by rw [HSG.out]; exact HBD5.out, HB5.out⟩
          rw [HW1.out, Nat.sub_self]
          rfl
        case measure =>
          have e1 := iterPos_of HK5.out
          have e2 := iterPos_of HIT.out
          rw [e1, e2]
          have := HD.out
          omega
    · have hke : k = l.length := by omega
      have hnx := fun ty => nxt_no wr (w.heap.size + 1) l k ty hit hkl
      have e1 := slt l f (by omega)
      have hf1 : (l.drop f).take (k - f) = l.drop f := List.take_of_length_le (by rw [List.length_drop]; omega)
      have hf2 : l.take k = l := List.take_of_length_le (by omega)
      have hfin := write_upto hfk hp
      rw [hf1, hf2] at hfin
      clear hf1 hf2
      have HF := Lib.hid hfin
      have HBD := Lib.hid hbd
      have HB := Lib.hid hbw
      have HWL := Lib.hid hwl2
      have hdl : (l.drop f).length ≤ l.length := by rw [List.length_drop]; omega
      have HDL := Lib.hid hdl
      have hfl : f ≤ l.length := by omega
      clear hfin hbd hbw hwl hwl2 hit hp hke hdl
      go_wp2_with fail
      refine (bld_string w.heap.size _ _ _ HBD.out (by have := HWL.out; have := HDL.out; omega) HB.out.size).mono ?_
      rintro e w4 ⟨rfl, h4, b4, k4⟩
      have HBD4 := Lib.hid h4
      have HB4 := Lib.hid (HB.out.trans b4)
      clear h4 b4 k4
      go_wp2_with fail
      refine (bld_end w.heap.size _ _ HBD4.out HB4.out.size).mono ?_
      rintro e w5 ⟨rfl, b5⟩
      go_wp2_with fail
      go_ret
      exact ⟨by rw [HF.out]; rfl, HB4.out.trans b5⟩
end Go.Proofs.YtelhdkidnhfnbaaDoor

/-
  first and Read (entity): what they answer. Conditions: at most 2^40 bytes; the table is as the program's text lays it.
-/
namespace Go.Proofs.YtelhdkidnhfnbaaDoor
open Go.RowKit
open Go.Lib (decodeL encodeRune)

theorem sgV_some (c : Int) : sgV (some c) = .tuple #[.int .i32 c, .bool true] := rfl
set_option maxHeartbeats 1600000 in
theorem first_any (l : List UInt8) (w : World) (hS : Sig w) (hl : l.length ≤ 1099511627776) : Calls Tryd.prog 65 #[.string (str l)] w (Made w (.tuple #[.int .i32 (firstV l).1, .int .i64 ((firstV l).2 : Int)])) := by
  have k1 := cut_any l 9 w
  have htl : (l.take (cutN l 9)).length ≤ 1099511627776 := by rw [List.length_take]; omega
  have k2 := fun W => cut1_any (l.take (cutN l 9)) 59 W htl
  have hnl := cut_len 59 (l.take (cutN l 9))
  have k3 := fun W (hW : Sig W) => sign_any (cutC 59 (l.take (cutN l 9))).1 W hW (by unfold maxLen; omega)
  have hfe := first_eq l
  have hfv : firstV l = match firstP l with | some o => o | none => (38, 0) := by unfold firstV; rw [hfe]; cases firstR l <;> rfl
  unfold firstP at hfv
  generalize l.take (cutN l 9) = t at *
  generalize cutC 59 t = o at *
  obtain ⟨nm, o2, ends⟩ := o
  dsimp only at *
  have HS := Lib.hid hS
  have K1 := Lib.hid k1
  have K2 := Lib.hid k2
  have hnb : nm.length ≤ 1099511627776 := by omega
  cases hsg : signR nm with
  | none =>
    have hv : firstV l = (38, 0) := by
      rw [hfv, hsg]
      cases ends <;> rfl
    rw [hsg, sg_none] at k3
    have K3 := Lib.hid k3
    have HV := Lib.hid hv
    clear k1 k2 k3 hfe hfv hsg hv hS hnl htl
    go_enter Tryd.func65, Tryd.ntmps65
    go_wp2_with fail
    refine K1.out.mono ?_
    rintro e w1 ⟨rfl, b1⟩
    have HB1 := Lib.hid b1
    clear b1
    go_wp2_with fail
    refine (K2.out _).mono ?_
    rintro e w2 ⟨rfl, b2⟩
    have HB2 := Lib.hid (HB1.out.trans (b2.mono HB1.out.size))
    clear b2
    go_wp2_with fail
    refine (K3.out _ (HS.out.below HB2.out)).mono ?_
    rintro e w3 ⟨rfl, b3⟩
    have HB3 := Lib.hid (HB2.out.trans (b3.mono HB2.out.size))
    clear b3
    go_wp2_with fail
    go_ret2
    exact ⟨by rw [HV.out]; rfl, HB3.out⟩
  | some c =>
    rw [hsg, sgV_some] at k3
    cases ends with
    | false =>
      have hv : firstV l = (38, 0) := by rw [hfv]; rfl
      have K3 := Lib.hid k3
      have HV := Lib.hid hv
      clear k1 k2 k3 hfe hfv hsg hv hS hnl htl
      go_enter Tryd.func65, Tryd.ntmps65
      go_wp2_with fail
      refine K1.out.mono ?_
      rintro e w1 ⟨rfl, b1⟩
      have HB1 := Lib.hid b1
      clear b1
      go_wp2_with fail
      refine (K2.out _).mono ?_
      rintro e w2 ⟨rfl, b2⟩
      have HB2 := Lib.hid (HB1.out.trans (b2.mono HB1.out.size))
      clear b2
      go_wp2_with fail
      refine (K3.out _ (HS.out.below HB2.out)).mono ?_
      rintro e w3 ⟨rfl, b3⟩
      have HB3 := Lib.hid (HB2.out.trans (b3.mono HB2.out.size))
      clear b3
      go_wp2_with fail
      go_ret2
      exact ⟨by rw [HV.out]; rfl, HB3.out⟩
    | true =>
      have hv : firstV l = (c, nm.length + 1) := by rw [hfv, hsg]; rfl
      have K3 := Lib.hid k3
      have HV := Lib.hid hv
      clear k1 k2 k3 hfe hfv hsg hv hS hnl htl
      go_enter Tryd.func65, Tryd.ntmps65
      go_wp2_with fail
      refine K1.out.mono ?_
      rintro e w1 ⟨rfl, b1⟩
      have HB1 := Lib.hid b1
      clear b1
      go_wp2_with fail
      refine (K2.out _).mono ?_
      rintro e w2 ⟨rfl, b2⟩
      have HB2 := Lib.hid (HB1.out.trans (b2.mono HB1.out.size))
      clear b2
      go_wp2_with fail
      refine (K3.out _ (HS.out.below HB2.out)).mono ?_
      rintro e w3 ⟨rfl, b3⟩
      have HB3 := Lib.hid (HB2.out.trans (b3.mono HB2.out.size))
      clear b3
      go_wp2_with fail
      go_ret2
      exact ⟨by rw [HV.out]; rfl, HB3.out⟩

def leftR (l : List UInt8) (m : Bool) : List UInt8 := if m = true then readR (38 :: l) else []
def ReadRel (l : List UInt8) (w : World) (u5 u6 : Value) (W : World) : Prop :=
  ∃ (r out : List UInt8) (m : Bool), u5 = .string (str r) ∧ u6 = .bool m ∧ r.length ≤ l.length ∧ out.length + (leftR r m).length = (readR l).length ∧ readR l = out ++ leftR r m ∧ Bld w.heap.size out W ∧ Below w.heap.size w W
def moreN (u5 u6 : Value) : Nat := match u6 with
  | .bool true => strLen u5 + 1
  | _ => 0
set_option maxHeartbeats 3200000 in
theorem read_any (l : List UInt8) (w : World) (hS : Sig w) (hl : l.length ≤ 1099511627776) : Calls Tryd.prog 40 #[.string (str l)] w (Made w (.string (str (readR l)))) := by
  have HS := Lib.hid hS
  have hbn := bld_new w
  have HBN := Lib.hid hbn
  have HW0 := Lib.hid ((Below.refl w.heap.size w).alloc (Nat.le_refl _) (.cells #[.pointer none, .slice none 0 0] 43))
  have hrl := readF_len _ l (Nat.le_refl _)
  have hcr := cut_read l
  have k1 := fun W => cut1_any l 38 W hl
  have hcl := cut_len 38 l
  generalize cutC 38 l = o at *
  obtain ⟨t, r, m⟩ := o
  dsimp only at *
  have htl : t.length ≤ l.length := hcl.1
  have hrl2 : r.length ≤ l.length := hcl.2
  have HCR : Hid (readR l = t ++ leftR r m) := Lib.hid hcr
  have HRL := Lib.hid hrl
  have K1 := Lib.hid k1
  clear hS hbn hrl hcr k1 hcl
  go_enter Tryd.func40, Tryd.ntmps40
  go_wp2_with fail
  refine (K1.out _).mono ?_
  rintro e w1 ⟨rfl, b1⟩
  have HBN1 := Lib.hid (HBN.out.below b1)
  have HB1 := Lib.hid (HW0.out.trans (b1.mono (by simp)))
  clear b1
  go_wp2_with fail
  refine (bld_string w.heap.size _ _ _ HBN1.out (by simp only [List.length_nil]; omega) HB1.out.size).mono ?_
  rintro e w2 ⟨rfl, h2, b2, k2⟩
  rw [List.nil_append] at h2
  have HBD2 := Lib.hid h2
  have HB2 := Lib.hid (HB1.out.trans b2)
  clear h2 b2 k2
  go_wp2_with fail
  go_loopw [5, 6] (ReadRel l w) (fun u5 u6 _ => moreN u5 u6)
  case atStart => exact ⟨r, t, m, rfl, rfl, hrl2, by rw [HCR.out, List.length_append], HCR.out, HBD2.out, HB2.out⟩
  case round =>
    obtain ⟨r, out, m, rfl, rfl, hr, hlen, hro, hbd, hbw⟩ := hrel
    have HRO := Lib.hid hro
    have HBD := Lib.hid hbd
    have HB := Lib.hid hbw
    have HLN := Lib.hid hlen
    clear hro hbd hbw hlen
    cases m with
    | false =>
      go_wp2_with fail
      refine (bld_end w.heap.size _ _ HBD.out HB.out.size).mono ?_
      rintro e w5 ⟨rfl, b5⟩
      go_wp2_with fail
      go_ret
      refine ⟨?_, HB.out.trans b5⟩
      rw [HRO.out]
      unfold leftR
      rw [if_neg Bool.false_ne_true, List.append_nil]
      rfl
    | true =>
      have kf := fun W (hW : Sig W) => first_any r W hW (by omega)
      have hfr := first_read r
      have hfl := first_len r
      have he := encode_str (firstV r).1
      have hel := enc_len (firstV r).1
      generalize hfv : firstV r = fv at *
      obtain ⟨c, n⟩ := fv
      dsimp only at *
      have esl := slt r n hfl
      have hdl : (r.drop n).length ≤ r.length := by rw [List.length_drop]; omega
      have hcr := cut_read (r.drop n)
      have kc := fun W => cut1_any (r.drop n) 38 W (by omega)
      have hcl := cut_len 38 (r.drop n)
      have hcs := cut_less (r.drop n)
      generalize r.drop n = r2 at *
      generalize cutC 38 r2 = o at *
      obtain ⟨t3, r3, m3⟩ := o
      dsimp only at *
      have hroA : readR l = (out ++ encodeRune c) ++ (t3 ++ leftR r3 m3) := by
        rw [HRO.out]
        unfold leftR
        rw [if_pos rfl, hfr, hcr, List.append_assoc]
      have HRA := Lib.hid hroA
      have hlA : out.length + (encodeRune c).length + t3.length + (leftR r3 m3).length = (readR l).length := by
        rw [hroA]
        simp only [List.length_append]
        omega
      have HLA := Lib.hid hlA
      have KF := Lib.hid kf
      have KC := Lib.hid kc
      have HCL := Lib.hid hcl
      have HCS := Lib.hid hcs
      have HDL := Lib.hid hdl
      have hn0 : (n : Int) ≤ (r.length : Int) := by omega
      have hup : (encodeRune c).length ≤ 4 := hel.2
      have HUP := Lib.hid hup
      clear kf kc hfr hel hfv hcr hcl hcs hroA hlA hdl hup hfl
      go_wp2_with fail
      refine (KF.out _ (HS.out.below HB.out)).mono ?_
      rintro e w3 ⟨rfl, b3⟩
      have HBD3 := Lib.hid (HBD.out.below b3)
      have HB3 := Lib.hid (HB.out.trans (b3.mono HB.out.size))
      clear b3
      go_wp2_with fail
      refine (bld_string w.heap.size _ _ _ HBD3.out (by have := HLA.out; have := HRL.out; omega) HB3.out.size).mono ?_
      rintro e w4 ⟨rfl, h4, b4, k4⟩
      have HBD4 := Lib.hid h4
      have HB4 := Lib.hid (HB3.out.trans b4)
      clear h4 b4 k4
      go_wp2_with fail
      refine (KC.out _).mono ?_
      rintro e w5 ⟨rfl, b5⟩
      have HBD5 := Lib.hid (HBD4.out.below b5)
      have HB5 := Lib.hid (HB4.out.trans (b5.mono HB4.out.size))
      clear b5
      go_wp2_with fail
      refine (bld_string w.heap.size _ _ _ HBD5.out (by have := HLA.out; have := HRL.out; simp only [List.length_append]; omega) HB5.out.size).mono ?_
      rintro e w6 ⟨rfl, h6, b6, k6⟩
      have HBD6 := Lib.hid h6
      have HB6 := Lib.hid (HB5.out.trans b6)
      clear h6 b6 k6
      go_wp2_with fail
      go_roundw
      case rel =>
        refine ⟨r3, (out ++ encodeRune c) ++ t3, m3, rfl, rfl, by have := HCL.out.2; have := HDL.out; omega, ?_, by rw [HRA.out, List.append_assoc (out ++ encodeRune c)], HBD6.out, HB6.out⟩
        have := HLA.out
        simp only [List.length_append]
        omega
      case measure =>
        unfold moreN
        rw [strLen_str, strLen_str]
        cases m3 with
        | false => simp
        | true =>
          have h1 := HCS.out rfl
          have h2 := HDL.out
          simp only
          omega
end Go.Proofs.YtelhdkidnhfnbaaDoor
