/-
  Texts of events: labels, tags, titles, links, queries, the program's and the document's. Condition: the text's length is a length.
-/
import Derived.Test.YtelhdkidnhfnbabGreatDoorWSame
import Derived.Test.YtelhdkidnhfnbabGreatDoorWRef
import Derived.Test.YtelhdkidnhfnbabGreatDoorURef3
import Derived.Test.YtelhdkidnhfnbabGreatDoorBlk
namespace Go.Proofs.YtelhdkidnhfnbabGreatDoor
open Go.RowKit
open Go.Lib (validD)

def textB (l : List UInt8) (m : Nat) : Bool := decide (l.length ≤ m) && decide (cleanS l = l)
def labelB (l : List UInt8) : Bool := !(l == []) && textB l 64
def tagB (l : List UInt8) : Bool := labelB l && isB l
def queryB (l : List UInt8) : Bool := !(l == []) && textB l 512
theorem valid_of_clean {l : List UInt8} (h : cleanS l = l) : validD l = true := by rw [← h]; exact valid_put _
theorem beq_nilV {l : List UInt8} (h : ¬ l = []) : (l == ([] : List UInt8)) = false ∧ (([] : List UInt8) == l) = false := by
  cases l with
  | nil => exact absurd rfl h
  | cons a b => exact ⟨rfl, rfl⟩
set_option maxHeartbeats 1600000 in
theorem fits_any (l : List UInt8) (m : Nat) (w : World) (hl : l.length ≤ 1099511627776) : Calls Tryz.prog 34 #[.string (str l), .int .i64 (m : Int)] w (Made w (.bool (textB l m))) := by
  have kc := fun W => clean_any l W hl
  unfold textB
  by_cases h1 : l.length ≤ m
  · have h1I : ((l.length : Int) ≤ (m : Int)) := by omega
    have h1d : decide ((l.length : Int) ≤ (m : Int)) = true := decide_eq_true h1I
    have HD : Hid (decide (l.length ≤ m) = true) := Lib.hid (decide_eq_true h1)
    rw [HD.out, Bool.true_and]
    generalize cleanS l = c at *
    have KC := Lib.hid kc
    clear kc h1 hl
    by_cases he : c = l
    · subst he
      have HX : Hid (decide (c = c) = true) := Lib.hid (decide_eq_true rfl)
      go_enter Tryz.func34, Tryz.ntmps34
      go_wp2_with (go_at_call 51; refine (KC.out _).mono ?_; rintro e w1 ⟨rfl, b1⟩; have B1 := Lib.hid b1; clear b1)
      go_ret
      exact ⟨by rw [HX.out]; rfl, B1.out⟩
    · have HX : Hid (decide (c = l) = false) := Lib.hid (decide_eq_false he)
      have e1 : (c == l) = false := by simpa using he
      clear he
      go_enter Tryz.func34, Tryz.ntmps34
      go_wp2_with (go_at_call 51; refine (KC.out _).mono ?_; rintro e w1 ⟨rfl, b1⟩; have B1 := Lib.hid b1; clear b1)
      go_ret
      exact ⟨by rw [HX.out]; rfl, B1.out⟩
  · have h1I : ¬ ((l.length : Int) ≤ (m : Int)) := by omega
    have h1d : decide ((l.length : Int) ≤ (m : Int)) = false := decide_eq_false h1I
    have HD : Hid (decide (l.length ≤ m) = false) := Lib.hid (decide_eq_false h1)
    rw [HD.out, Bool.false_and]
    clear kc h1 hl
    go_enter Tryz.func34, Tryz.ntmps34
    go_wp2_with fail
    go_ret
    exact ⟨rfl, Below.refl _ _⟩
set_option maxHeartbeats 1600000 in
theorem rtext_any (l : List UInt8) (m : Nat) (w : World) (hl : l.length ≤ 1099511627776) : Calls Tryz.prog 36 #[.string (str l), .int .i64 (m : Int)] w (Made w (.bool (textB l m))) := by
  have kc := fun W => rclean_any l W hl
  have kr := fun W => rright_any l W hl
  unfold textB
  by_cases h1 : l.length ≤ m
  · have h1I : ((l.length : Int) ≤ (m : Int)) := by omega
    have h1d : decide ((l.length : Int) ≤ (m : Int)) = true := decide_eq_true h1I
    have HD : Hid (decide (l.length ≤ m) = true) := Lib.hid (decide_eq_true h1)
    rw [HD.out, Bool.true_and]
    cases hv : validD l with
    | false =>
      have HX : Hid (decide (cleanS l = l) = false) := Lib.hid (decide_eq_false fun e => by rw [valid_of_clean e] at hv; cases hv)
      rw [hv] at kr
      have KR := Lib.hid kr
      clear kc kr h1 hl hv
      go_enter Tryz.func36, Tryz.ntmps36
      go_wp2_with (go_at_call 53; refine (KR.out _).mono ?_; rintro e w1 ⟨rfl, rfl⟩)
      go_ret
      exact ⟨by rw [HX.out]; rfl, Below.refl _ _⟩
    | true =>
      rw [hv] at kr
      generalize cleanS l = c at *
      have KC := Lib.hid kc
      have KR := Lib.hid kr
      clear kc kr h1 hl hv
      by_cases he : c = l
      · subst he
        have HX : Hid (decide (c = c) = true) := Lib.hid (decide_eq_true rfl)
        go_enter Tryz.func36, Tryz.ntmps36
        go_wp2_with (first
          | (go_at_call 53; refine (KR.out _).mono ?_; rintro e w1 ⟨rfl, rfl⟩)
          | (go_at_call 54; refine (KC.out _).mono ?_; rintro e w1 ⟨rfl, b1⟩; have B1 := Lib.hid b1; clear b1))
        go_ret
        exact ⟨by rw [HX.out]; rfl, B1.out⟩
      · have HX : Hid (decide (c = l) = false) := Lib.hid (decide_eq_false he)
        have e1 : (c == l) = false := by simpa using he
        clear he
        go_enter Tryz.func36, Tryz.ntmps36
        go_wp2_with (first
          | (go_at_call 53; refine (KR.out _).mono ?_; rintro e w1 ⟨rfl, rfl⟩)
          | (go_at_call 54; refine (KC.out _).mono ?_; rintro e w1 ⟨rfl, b1⟩; have B1 := Lib.hid b1; clear b1))
        go_ret
        exact ⟨by rw [HX.out]; rfl, B1.out⟩
  · have h1I : ¬ ((l.length : Int) ≤ (m : Int)) := by omega
    have h1d : decide ((l.length : Int) ≤ (m : Int)) = false := decide_eq_false h1I
    have HD : Hid (decide (l.length ≤ m) = false) := Lib.hid (decide_eq_false h1)
    rw [HD.out, Bool.false_and]
    clear kc kr h1 hl
    go_enter Tryz.func36, Tryz.ntmps36
    go_wp2_with fail
    go_ret
    exact ⟨rfl, Below.refl _ _⟩
theorem one_str (w : World) (l : List UInt8) : RdV (w.alloc (.cells #[.string (str l)] 9)) (w.heap.size + 1) (.slice (some ⟨w.heap.size, 0, none⟩) 1 1) (strs [l]) := by
  refine ⟨_, 1, rfl, Nat.le_refl _, by unfold maxLen; omega, fun _ => ⟨w.heap.size, 0, rfl, Nat.lt_succ_self _, fun j hj => ?_⟩⟩
  have hj0 : j = 0 := by have : (strs [l]).length = 1 := rfl
                         omega
  subst hj0
  exact (Blk.fresh w 9 #[.string (str l)]).cell 0
theorem below_drewV {n : Nat} {w W : World} (h : Below n w W) (m : Nat) : Below n w (W.drewN m) := ⟨h.os, h.tape, h.output, h.size, h.block⟩
theorem below_thenV {w a b : World} (h : Below w.heap.size w a) (g : Below a.heap.size a b) : Below w.heap.size w b :=
  ⟨g.os.trans h.os, g.tape.trans h.tape, g.output.trans h.output, Nat.le_trans h.size g.size, fun k hk => (g.block k (Nat.lt_of_lt_of_le hk h.size)).trans (h.block k hk)⟩
set_option maxHeartbeats 1600000 in
theorem label_any (l : List UInt8) (w : World) (hl : l.length ≤ 1099511627776) : Calls Tryz.prog 15 #[.string (str l)] w (Made w (.bool (labelB l))) := by
  have kf := fun W => fits_any l 64 W hl
  unfold labelB
  by_cases h0 : l = []
  · subst h0
    clear kf hl
    go_enter Tryz.func15, Tryz.ntmps15
    go_wp2_with fail
    go_ret
    exact ⟨rfl, Below.refl _ _⟩
  · obtain ⟨e1, e2⟩ := beq_nilV h0
    rw [e1, Bool.not_false, Bool.true_and]
    generalize textB l 64 = t at *
    have KF := Lib.hid kf
    clear kf hl h0
    go_enter Tryz.func15, Tryz.ntmps15
    go_wp2_with (go_at_call 34; refine (KF.out _).mono ?_; rintro e w1 ⟨rfl, b1⟩; have B1 := Lib.hid b1; clear b1)
    go_ret
    exact ⟨rfl, B1.out⟩
set_option maxHeartbeats 1600000 in
theorem title_any (l : List UInt8) (w : World) (hl : l.length ≤ 1099511627776) : Calls Tryz.prog 17 #[.string (str l)] w (Made w (.bool (textB l 256))) := by
  have kf := fun W => fits_any l 256 W hl
  generalize textB l 256 = t at *
  have KF := Lib.hid kf
  clear kf hl
  go_enter Tryz.func17, Tryz.ntmps17
  go_wp2_with (go_at_call 34; refine (KF.out _).mono ?_; rintro e w1 ⟨rfl, b1⟩; have B1 := Lib.hid b1; clear b1)
  go_ret
  exact ⟨rfl, B1.out⟩
set_option maxHeartbeats 1600000 in
theorem link_any (l : List UInt8) (w : World) (hl : l.length ≤ 1099511627776) : Calls Tryz.prog 18 #[.string (str l)] w (Made w (.bool (textB l 512))) := by
  have kf := fun W => fits_any l 512 W hl
  generalize textB l 512 = t at *
  have KF := Lib.hid kf
  clear kf hl
  go_enter Tryz.func18, Tryz.ntmps18
  go_wp2_with (go_at_call 34; refine (KF.out _).mono ?_; rintro e w1 ⟨rfl, b1⟩; have B1 := Lib.hid b1; clear b1)
  go_ret
  exact ⟨rfl, B1.out⟩
set_option maxHeartbeats 1600000 in
theorem query_any (l : List UInt8) (w : World) (hl : l.length ≤ 1099511627776) : Calls Tryz.prog 19 #[.string (str l)] w (Made w (.bool (queryB l))) := by
  have kf := fun W => fits_any l 512 W hl
  unfold queryB
  by_cases h0 : l = []
  · subst h0
    clear kf hl
    go_enter Tryz.func19, Tryz.ntmps19
    go_wp2_with fail
    go_ret
    exact ⟨rfl, Below.refl _ _⟩
  · obtain ⟨e1, e2⟩ := beq_nilV h0
    rw [e1, Bool.not_false, Bool.true_and]
    generalize textB l 512 = t at *
    have KF := Lib.hid kf
    clear kf hl h0
    go_enter Tryz.func19, Tryz.ntmps19
    go_wp2_with (go_at_call 34; refine (KF.out _).mono ?_; rintro e w1 ⟨rfl, b1⟩; have B1 := Lib.hid b1; clear b1)
    go_ret
    exact ⟨rfl, B1.out⟩
set_option maxHeartbeats 1600000 in
theorem rlabel_any (l : List UInt8) (w : World) (hl : l.length ≤ 1099511627776) : Calls Tryz.prog 21 #[.string (str l)] w (Made w (.bool (labelB l))) := by
  have kf := fun W => rtext_any l 64 W hl
  unfold labelB
  by_cases h0 : l = []
  · subst h0
    clear kf hl
    go_enter Tryz.func21, Tryz.ntmps21
    go_wp2_with fail
    go_ret
    exact ⟨rfl, Below.refl _ _⟩
  · obtain ⟨e1, e2⟩ := beq_nilV h0
    rw [e1, Bool.not_false, Bool.true_and]
    generalize textB l 64 = t at *
    have KF := Lib.hid kf
    clear kf hl h0
    go_enter Tryz.func21, Tryz.ntmps21
    go_wp2_with (go_at_call 36; refine (KF.out _).mono ?_; rintro e w1 ⟨rfl, b1⟩; have B1 := Lib.hid b1; clear b1)
    go_ret
    exact ⟨rfl, B1.out⟩
set_option maxHeartbeats 1600000 in
theorem rtitle_any (l : List UInt8) (w : World) (hl : l.length ≤ 1099511627776) : Calls Tryz.prog 23 #[.string (str l)] w (Made w (.bool (textB l 256))) := by
  have kf := fun W => rtext_any l 256 W hl
  generalize textB l 256 = t at *
  have KF := Lib.hid kf
  clear kf hl
  go_enter Tryz.func23, Tryz.ntmps23
  go_wp2_with (go_at_call 36; refine (KF.out _).mono ?_; rintro e w1 ⟨rfl, b1⟩; have B1 := Lib.hid b1; clear b1)
  go_ret
  exact ⟨rfl, B1.out⟩
set_option maxHeartbeats 1600000 in
theorem rlink_any (l : List UInt8) (w : World) (hl : l.length ≤ 1099511627776) : Calls Tryz.prog 22 #[.string (str l)] w (Made w (.bool (textB l 512))) := by
  have kf := fun W => rtext_any l 512 W hl
  generalize textB l 512 = t at *
  have KF := Lib.hid kf
  clear kf hl
  go_enter Tryz.func22, Tryz.ntmps22
  go_wp2_with (go_at_call 36; refine (KF.out _).mono ?_; rintro e w1 ⟨rfl, b1⟩; have B1 := Lib.hid b1; clear b1)
  go_ret
  exact ⟨rfl, B1.out⟩
set_option maxHeartbeats 1600000 in
theorem rquery_any (l : List UInt8) (w : World) (hl : l.length ≤ 1099511627776) : Calls Tryz.prog 26 #[.string (str l)] w (Made w (.bool (queryB l))) := by
  have kf := fun W => rtext_any l 512 W hl
  unfold queryB
  by_cases h0 : l = []
  · subst h0
    clear kf hl
    go_enter Tryz.func26, Tryz.ntmps26
    go_wp2_with fail
    go_ret
    exact ⟨rfl, Below.refl _ _⟩
  · obtain ⟨e1, e2⟩ := beq_nilV h0
    rw [e1, Bool.not_false, Bool.true_and]
    generalize textB l 512 = t at *
    have KF := Lib.hid kf
    clear kf hl h0
    go_enter Tryz.func26, Tryz.ntmps26
    go_wp2_with (go_at_call 36; refine (KF.out _).mono ?_; rintro e w1 ⟨rfl, b1⟩; have B1 := Lib.hid b1; clear b1)
    go_ret
    exact ⟨rfl, B1.out⟩
set_option maxHeartbeats 1600000 in
theorem tag_any (l : List UInt8) (w : World) (hl : l.length ≤ 1099511627776) (hw : l.length ≤ 137438953472) : Calls Tryz.prog 16 #[.string (str l)] w (Made w (.bool (tagB l))) := by
  have kl := fun W => label_any l W hl
  have ki := fun W => is_any l W hw
  unfold tagB
  cases hx : labelB l with
  | false =>
    rw [hx] at kl
    rw [Bool.false_and]
    have KL := Lib.hid kl
    clear kl ki hx hl hw
    go_enter Tryz.func16, Tryz.ntmps16
    go_wp2_with (go_at_call 15; refine (KL.out _).mono ?_; rintro e w1 ⟨rfl, b1⟩; have B1 := Lib.hid b1; clear b1)
    go_ret
    exact ⟨rfl, B1.out⟩
  | true =>
    rw [hx] at kl
    rw [Bool.true_and]
    have KL := Lib.hid kl
    have KI := Lib.hid ki
    generalize isB l = i at *
    clear kl ki hx hl hw
    go_enter Tryz.func16, Tryz.ntmps16
    go_wp2_with (first
      | (go_at_call 35; refine (KI.out _).mono ?_; rintro e w2 ⟨rfl, b2⟩; have B2 := Lib.hid (below_thenV B1.out b2); clear b2)
      | (go_at_call 15; refine (KL.out _).mono ?_; rintro e w1 ⟨rfl, b1⟩; have B1 := Lib.hid b1; clear b1))
    go_ret
    exact ⟨rfl, B2.out⟩
set_option maxHeartbeats 1600000 in
theorem rtag_any (l : List UInt8) (w : World) (hl : l.length ≤ 1099511627776) (hw : l.length ≤ 137438953472) : Calls Tryz.prog 25 #[.string (str l)] w (Made w (.bool (tagB l))) := by
  have kl := fun W => rlabel_any l W hl
  have ki := fun W => rwords_any l W hw
  unfold tagB
  cases hx : labelB l with
  | false =>
    rw [hx] at kl
    rw [Bool.false_and]
    have KL := Lib.hid kl
    clear kl ki hx hl hw
    go_enter Tryz.func25, Tryz.ntmps25
    go_wp2_with (go_at_call 21; refine (KL.out _).mono ?_; rintro e w1 ⟨rfl, b1⟩; have B1 := Lib.hid b1; clear b1)
    go_ret
    exact ⟨rfl, B1.out⟩
  | true =>
    rw [hx] at kl
    rw [Bool.true_and]
    have KL := Lib.hid kl
    unfold isB
    generalize wordsS l = L at *
    have KI := Lib.hid ki
    clear kl ki hx hl hw
    go_enter Tryz.func25, Tryz.ntmps25
    go_wp2_with (first
      | (go_at_call 39; have k := rsame_any L [l] v2 (.slice (some ⟨w2.heap.size, 0, none⟩) 1 1) (w2.heap.size + 1) (w2.alloc (.cells #[.string (str l)] 9)) (((O2.out.rdv (Nat.le_refl _)).below ((Below.refl _ _).alloc (Nat.le_refl _) _)).more (Nat.le_succ _)) (one_str w2 l); refine k.mono ?_; rintro e w3 ⟨rfl, q, rfl⟩; clear k)
      | (go_at_call 40; refine (KI.out _).mono ?_; rintro e w2 ⟨v2, rfl, o2, b2⟩; have O2 := Lib.hid o2; have B2 := Lib.hid (below_thenV B1.out b2); clear o2 b2)
      | (go_at_call 21; refine (KL.out _).mono ?_; rintro e w1 ⟨rfl, b1⟩; have B1 := Lib.hid b1; clear b1))
    go_ret
    exact ⟨rfl, below_drewV (B2.out.alloc (Nat.le_trans B2.out.size (Nat.le_refl _)) _) _⟩
end Go.Proofs.YtelhdkidnhfnbabGreatDoor
