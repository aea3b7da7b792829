/-
  EntityBoth's call: it answers true. Conditions: lengths are lengths; the table is as the program's text lays it.
-/
import Derived.Test.YthnepbdkbiieiaaDoorELives
namespace Go.Proofs.YthnepbdkbiieiaaDoor
open Go.RowKit

theorem str_cat (a b : List UInt8) : str a ++ str b = str (a ++ b) := by
  apply ByteArray.ext
  simp [str]
set_option maxHeartbeats 3200000 in
set_option maxRecDepth 100000 in
theorem eboth_any (a b : List UInt8) (w : World) (hS : Sig w) : Calls Tryd.prog 6 #[.string (str a), .string (str b)] w (Holds w) := by
  have HS := Lib.hid hS
  clear hS
  by_cases h1 : (1000 : Int) < (a.length : Int)
  · go_enter Tryd.func6, Tryd.ntmps6
    go_wp2_with fail
    refine (elives_any _ HS.out).mono ?_
    rintro e w1 ⟨rfl, b1⟩
    go_wp2_with fail
    go_ret
    exact ⟨rfl, b1⟩
  · by_cases h2 : (1000 : Int) < (b.length : Int)
    · go_enter Tryd.func6, Tryd.ntmps6
      go_wp2_with fail
      refine (elives_any _ HS.out).mono ?_
      rintro e w1 ⟨rfl, b1⟩
      go_wp2_with fail
      go_ret
      exact ⟨rfl, b1⟩
    · have h1' : decide ((1000 : Int) < (a.length : Int)) = false := decide_eq_false h1
      have h2' : decide ((1000 : Int) < (b.length : Int)) = false := decide_eq_false h2
      have hcat := Lib.hid (str_cat a b)
      have hwa := writeR_len a
      have hwb := writeR_len b
      have hcw := Lib.hid (str_cat (writeR a) (writeR b))
      have hwab := writeR_append a b
      have HWAB := Lib.hid hwab
      have hrw : readR (writeR a ++ writeR b) = a ++ b := by rw [← hwab, read_write]
      have HRW := Lib.hid hrw
      have hpl := plain_append a b
      have HPL := Lib.hid hpl
      have la : a.length ≤ 1000 := by omega
      have lb : b.length ≤ 1000 := by omega
      have lwa : (writeR a).length ≤ 6000 := by omega
      have lwb : (writeR b).length ≤ 6000 := by omega
      have hq1 : (str a ++ str b).toList = a ++ b := by rw [str_cat, str_toList]
      have hq2 : (str (writeR a) ++ str (writeR b)).toList = writeR a ++ writeR b := by rw [str_cat, str_toList]
      clear hwa hwb hwab hrw hpl h1 h2
      go_enter Tryd.func6, Tryd.ntmps6
      go_wp2_with fail
      refine (elives_any _ HS.out).mono ?_
      rintro e w1 ⟨rfl, b1⟩
      have S1 := Lib.hid (HS.out.below b1)
      have B1 := Lib.hid b1
      clear b1
      go_wp2_with fail
      rw [hcat.out]
      refine (write_any (a ++ b) _ S1.out (by rw [List.length_append]; omega)).mono ?_
      rw [HWAB.out]
      rintro e w2 ⟨rfl, hb⟩
      have S2 := Lib.hid (S1.out.below hb)
      have B2 := Lib.hid (B1.out.trans (hb.mono B1.out.size))
      clear hb
      go_wp2_with fail
      refine (write_any a _ S2.out (by omega)).mono ?_
      rintro e w3 ⟨rfl, hb⟩
      have S3 := Lib.hid (S2.out.below hb)
      have B3 := Lib.hid (B2.out.trans (hb.mono B2.out.size))
      clear hb
      go_wp2_with fail
      refine (write_any b _ S3.out (by omega)).mono ?_
      rintro e w4 ⟨rfl, hb⟩
      have S4 := Lib.hid (S3.out.below hb)
      have B4 := Lib.hid (B3.out.trans (hb.mono B3.out.size))
      clear hb
      go_wp2_with fail
      refine (write_any a _ S4.out (by omega)).mono ?_
      rintro e w5 ⟨rfl, hb⟩
      have S5 := Lib.hid (S4.out.below hb)
      have B5 := Lib.hid (B4.out.trans (hb.mono B4.out.size))
      clear hb
      go_wp2_with fail
      refine (write_any b _ S5.out (by omega)).mono ?_
      rintro e w6 ⟨rfl, hb⟩
      have S6 := Lib.hid (S5.out.below hb)
      have B6 := Lib.hid (B5.out.trans (hb.mono B5.out.size))
      clear hb
      go_wp2_with fail
      rw [hcw.out]
      refine (read_any (writeR a ++ writeR b) _ S6.out (by rw [List.length_append]; omega)).mono ?_
      rw [HRW.out]
      rintro e w7 ⟨rfl, hb⟩
      have S7 := Lib.hid (S6.out.below hb)
      have B7 := Lib.hid (B6.out.trans (hb.mono B6.out.size))
      clear hb
      go_wp2_with fail
      rw [hcat.out]
      refine (plain_any (a ++ b) _ S7.out).mono ?_
      rw [HPL.out]
      rintro e w8 ⟨rfl, hb⟩
      have S8 := Lib.hid (S7.out.below hb)
      have B8 := Lib.hid (B7.out.trans (hb.mono B7.out.size))
      clear hb
      go_wp2_with fail
      refine (plain_any a _ S8.out).mono ?_
      cases hpa : plainR a with
      | true =>
        rintro e w9 ⟨rfl, hb⟩
        have S9 := Lib.hid (S8.out.below hb)
        have B9 := Lib.hid (B8.out.trans (hb.mono B8.out.size))
        clear hb hpa
        go_wp2_with fail
        refine (plain_any b _ S9.out).mono ?_
        cases hpb : plainR b with
        | true =>
          rintro e w10 ⟨rfl, hb⟩
          have B10 := Lib.hid (B9.out.trans (hb.mono B9.out.size))
          clear hb hpb
          go_wp2_with fail
          go_ret
          exact ⟨rfl, B10.out⟩
        | false =>
          rintro e w10 ⟨rfl, hb⟩
          have B10 := Lib.hid (B9.out.trans (hb.mono B9.out.size))
          clear hb hpb
          go_wp2_with fail
          go_ret
          exact ⟨rfl, B10.out⟩
      | false =>
        rintro e w9 ⟨rfl, hb⟩
        have B9 := Lib.hid (B8.out.trans (hb.mono B8.out.size))
        clear hb hpa
        go_wp2_with fail
        go_ret
        exact ⟨rfl, B9.out⟩
end Go.Proofs.YthnepbdkbiieiaaDoor
