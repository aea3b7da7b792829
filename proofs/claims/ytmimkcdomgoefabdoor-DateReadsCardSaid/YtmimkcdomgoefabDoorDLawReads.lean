/-
  DateReads' call: it answers true. Conditions: the text's length is a length; the table of powers of ten is as the library's text lays it.
-/
import Derived.Test.YtmimkcdomgoefabDoorDRefMail
import Derived.Test.YtmimkcdomgoefabDoorDMailEq5
import Derived.Test.YtmimkcdomgoefabDoorDWebEq2
import Derived.Test.YtmimkcdomgoefabDoorDLives
namespace Go.Proofs.YtmimkcdomgoefabDoor
open Go.RowKit

set_option maxHeartbeats 800000 in
theorem rany_any (l : List UInt8) (w : World) (hl : l.length ≤ 1000000) : Calls Tryd.prog 10 #[.string (str l)] w (Made w (isV (anyS l))) := by
  have h1 := rweb_any l w (by omega)
  have h2 := fun w1 => rmail_any l w1 hl
  rw [← web_eq] at h1
  rw [← mail_eq] at h2
  unfold anyS
  cases hw : webS l with
  | some n =>
    rw [hw] at h1
    have H1 := Lib.hid h1
    clear h1 h2 hw
    go_enter Tryd.func10, Tryd.ntmps10
    go_wp2_with fail
    refine H1.out.mono ?_
    simp only [isV, Option.getD_some, Option.isSome_some]
    rintro e w1 ⟨rfl, b1⟩
    go_wp2_with fail
    go_ret2
    exact ⟨rfl, b1⟩
  | none =>
    rw [hw] at h1
    have H1 := Lib.hid h1
    have H2 := Lib.hid h2
    clear h1 h2 hw
    go_enter Tryd.func10, Tryd.ntmps10
    go_wp2_with fail
    refine H1.out.mono ?_
    simp only [isV, Option.getD_none, Option.isSome_none]
    rintro e w1 ⟨rfl, b1⟩
    go_wp2_with fail
    refine (H2.out w1).mono ?_
    unfold isV
    rintro e w2 ⟨rfl, b2⟩
    go_wp2_with fail
    go_ret2
    exact ⟨rfl, b1.trans (b2.mono b1.size)⟩

set_option maxHeartbeats 3200000 in
set_option maxRecDepth 100000 in
theorem dreads_any (l : List UInt8) (w : World) (hT : Tab w) : Calls Tryd.prog 3 #[.string (str l)] w (Holds w) := by
  have HT := Lib.hid hT
  clear hT
  by_cases h3 : (1000 : Int) < (l.length : Int)
  · go_enter Tryd.func3, Tryd.ntmps3
    go_wp2_with fail
    refine (lives_any _ (by exact HT.out)).mono ?_
    rintro e w1 ⟨rfl, b1⟩
    go_wp2_with fail
    go_ret
    exact ⟨rfl, b1⟩
  · have hl : l.length ≤ 1000 := by omega
    have k1 := fun W => web_any l W (by omega)
    have k2 := fun W => mail_any l W (by omega)
    have k3 := fun W => any_any l W (by omega)
    have k4 := fun W => rweb_any l W (by omega)
    have k5 := fun W => rmail_any l W (by omega)
    have k6 := fun W => rany_any l W (by omega)
    rw [← web_eq] at k4
    rw [← mail_eq] at k5
    have H1 := Lib.hid k1
    have H2 := Lib.hid k2
    have H3 := Lib.hid k3
    have H4 := Lib.hid k4
    have H5 := Lib.hid k5
    have H6 := Lib.hid k6
    clear k1 k2 k3 k4 k5 k6 hl
    generalize webS l = o1 at *
    generalize mailS l = o2 at *
    generalize anyS l = o3 at *
    cases o1 <;> cases o2 <;> cases o3
    all_goals
      go_enter Tryd.func3, Tryd.ntmps3
      go_wp2_with fail
      refine (H1.out _).mono ?_
      simp only [momV, errN, Option.getD_some, Option.getD_none]
      rintro e w1 ⟨rfl, b1⟩
      go_wp2_with fail
      refine (H2.out _).mono ?_
      simp only [momV, errN, Option.getD_some, Option.getD_none]
      rintro e w2 ⟨rfl, hb⟩
      have b2 : Below w.heap.size w w2 := b1.trans (hb.mono b1.size)
      clear hb
      go_wp2_with fail
      refine (H3.out _).mono ?_
      simp only [momV, errN, Option.getD_some, Option.getD_none]
      rintro e w3 ⟨rfl, hb⟩
      have b3 : Below w.heap.size w w3 := b2.trans (hb.mono b2.size)
      clear hb
      go_wp2_with fail
      refine (H4.out _).mono ?_
      simp only [isV, Option.getD_some, Option.getD_none, Option.isSome_some, Option.isSome_none]
      rintro e w4 ⟨rfl, hb⟩
      have b4 : Below w.heap.size w w4 := b3.trans (hb.mono b3.size)
      clear hb
      go_wp2_with fail
      refine (H5.out _).mono ?_
      simp only [isV, Option.getD_some, Option.getD_none, Option.isSome_some, Option.isSome_none]
      rintro e w5 ⟨rfl, hb⟩
      have b5 : Below w.heap.size w w5 := b4.trans (hb.mono b4.size)
      clear hb
      go_wp2_with fail
      refine (H6.out _).mono ?_
      simp only [isV, Option.getD_some, Option.getD_none, Option.isSome_some, Option.isSome_none]
      rintro e w6 ⟨rfl, hb⟩
      have b6 : Below w.heap.size w w6 := b5.trans (hb.mono b5.size)
      clear hb
      go_wp2_with fail
      refine (lives_any _ (by exact HT.out.next b6)).mono ?_
      rintro e w7 ⟨rfl, hb⟩
      have b7 : Below w.heap.size w w7 := b6.trans (hb.mono b6.size)
      clear hb
      go_wp2_with fail
      go_ret
      exact ⟨rfl, b7⟩
end Go.Proofs.YtmimkcdomgoefabDoor
