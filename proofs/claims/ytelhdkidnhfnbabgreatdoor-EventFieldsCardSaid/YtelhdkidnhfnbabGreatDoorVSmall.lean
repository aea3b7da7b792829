/-
  What looks at a field of an event: numbers and texts. No condition.
-/
import Derived.Test.YtelhdkidnhfnbabGreatDoorVText
import Derived.Test.YtelhdkidnhfnbabGreatDoorVCheck
namespace Go.Proofs.YtelhdkidnhfnbabGreatDoor
open Go.RowKit

def idB (n : Int) : Bool := decide (1 ≤ n) && decide (n ≤ 1048576)
def idNB (n : Int) : Bool := (n == 0) || idB n
def flagB (n : Int) : Bool := (n == 0) || (n == 1)
def placeB (l : List UInt8) : Bool := !(l == []) && textB l 512
theorem isID_any (n : Int) (w : World) : Calls Tryz.prog 41 #[.int .i64 n] w (Pure w (.bool (idB n))) := by
  unfold idB
  by_cases h1 : 1 ≤ n
  · have d1 : decide (1 ≤ n) = true := decide_eq_true h1
    rw [d1, Bool.true_and]
    go_enter Tryz.func41, Tryz.ntmps41
    go_wp2_with fail
    go_ret
    exact ⟨rfl, rfl⟩
  · have d1 : decide (1 ≤ n) = false := decide_eq_false h1
    rw [d1, Bool.false_and]
    go_enter Tryz.func41, Tryz.ntmps41
    go_wp2_with fail
    go_ret
    exact ⟨rfl, rfl⟩
theorem noNumber_any (n : Int) (w : World) : Calls Tryz.prog 43 #[.int .i64 n] w (Pure w (.bool (n == 0))) := by
    go_enter Tryz.func43, Tryz.ntmps43
    go_wp2_with fail
    go_ret
    exact ⟨rfl, rfl⟩
theorem isFlag_any (n : Int) (w : World) : Calls Tryz.prog 47 #[.int .i64 n] w (Pure w (.bool (flagB n))) := by
  unfold flagB
  by_cases h : n = 0
  · subst h
    go_enter Tryz.func47, Tryz.ntmps47
    go_wp2_with fail
    go_ret
    exact ⟨rfl, rfl⟩
  · have e1 : (n == 0) = false := by simpa using h
    have e2 : decide (n = 0) = false := decide_eq_false h
    rw [e1, Bool.false_or]
    clear h
    go_enter Tryz.func47, Tryz.ntmps47
    go_wp2_with fail
    go_ret
    exact ⟨rfl, rfl⟩
theorem isIDOrNone_any (n : Int) (w : World) : Calls Tryz.prog 42 #[.int .i64 n] w (Pure w (.bool (idNB n))) := by
  have ki := fun W => isID_any n W
  unfold idNB
  generalize idB n = i at *
  have KI := Lib.hid ki
  clear ki
  by_cases h : n = 0
  · subst h
    go_enter Tryz.func42, Tryz.ntmps42
    go_wp2_with fail
    go_ret
    exact ⟨rfl, rfl⟩
  · have e1 : (n == 0) = false := by simpa using h
    have e2 : decide (n = 0) = false := decide_eq_false h
    rw [e1, Bool.false_or]
    clear h
    go_enter Tryz.func42, Tryz.ntmps42
    go_wp2_with (go_at_call 41; refine (KI.out _).mono ?_; rintro e w1 ⟨rfl, rfl⟩)
    go_ret
    exact ⟨rfl, rfl⟩
theorem noText_any (l : List UInt8) (w : World) : Calls Tryz.prog 44 #[.string (str l)] w (Pure w (.bool (l == []))) := by
  by_cases h : l = []
  · subst h
    go_enter Tryz.func44, Tryz.ntmps44
    go_wp2_with fail
    go_ret
    exact ⟨rfl, rfl⟩
  · obtain ⟨e1, e2⟩ := beq_nilV h
    rw [e1]
    clear h
    go_enter Tryz.func44, Tryz.ntmps44
    go_wp2_with fail
    go_ret
    exact ⟨rfl, rfl⟩
theorem isPlace_any (l : List UInt8) (w : World) (hl : l.length ≤ 1099511627776) : Calls Tryz.prog 45 #[.string (str l)] w (Made w (.bool (placeB l))) := by
  have kf := fun W => link_any l W hl
  unfold placeB
  by_cases h0 : l = []
  · subst h0
    clear kf hl
    go_enter Tryz.func45, Tryz.ntmps45
    go_wp2_with fail
    go_ret
    exact ⟨rfl, Below.refl _ _⟩
  · obtain ⟨e1, e2⟩ := beq_nilV h0
    rw [e1, Bool.not_false, Bool.true_and]
    generalize textB l 512 = t at *
    have KF := Lib.hid kf
    clear kf hl h0
    go_enter Tryz.func45, Tryz.ntmps45
    go_wp2_with (go_at_call 18; refine (KF.out _).mono ?_; rintro e w1 ⟨rfl, b1⟩; have B1 := Lib.hid b1; clear b1)
    go_ret
    exact ⟨rfl, B1.out⟩
theorem pureMade {w : World} {v : Value} {n : FuncId} {args : Array Value} (h : Calls Tryz.prog n args w (Pure w v)) : Calls Tryz.prog n args w (Made w v) := by
  refine h.mono ?_
  rintro e w' ⟨rfl, rfl⟩
  exact ⟨rfl, Below.refl _ _⟩
theorem ent_isID : ∀ args w, (callFunc 41 args).run Tryz.prog w = .ok (.enter 41 args) w := Go.Proofs.enters_of Tryz.func41 (by kernel_rfl) rfl
theorem ent_noNumber : ∀ args w, (callFunc 43 args).run Tryz.prog w = .ok (.enter 43 args) w := Go.Proofs.enters_of Tryz.func43 (by kernel_rfl) rfl
theorem ent_isFlag : ∀ args w, (callFunc 47 args).run Tryz.prog w = .ok (.enter 47 args) w := Go.Proofs.enters_of Tryz.func47 (by kernel_rfl) rfl
theorem ent_isIDOrNone : ∀ args w, (callFunc 42 args).run Tryz.prog w = .ok (.enter 42 args) w := Go.Proofs.enters_of Tryz.func42 (by kernel_rfl) rfl
theorem ent_noText : ∀ args w, (callFunc 44 args).run Tryz.prog w = .ok (.enter 44 args) w := Go.Proofs.enters_of Tryz.func44 (by kernel_rfl) rfl
theorem ent_isPlace : ∀ args w, (callFunc 45 args).run Tryz.prog w = .ok (.enter 45 args) w := Go.Proofs.enters_of Tryz.func45 (by kernel_rfl) rfl
theorem ent_Label : ∀ args w, (callFunc 15 args).run Tryz.prog w = .ok (.enter 15 args) w := Go.Proofs.enters_of Tryz.func15 (by kernel_rfl) rfl
theorem ent_Tag : ∀ args w, (callFunc 16 args).run Tryz.prog w = .ok (.enter 16 args) w := Go.Proofs.enters_of Tryz.func16 (by kernel_rfl) rfl
theorem ent_Title : ∀ args w, (callFunc 17 args).run Tryz.prog w = .ok (.enter 17 args) w := Go.Proofs.enters_of Tryz.func17 (by kernel_rfl) rfl
theorem ent_Link : ∀ args w, (callFunc 18 args).run Tryz.prog w = .ok (.enter 18 args) w := Go.Proofs.enters_of Tryz.func18 (by kernel_rfl) rfl
theorem ent_Query : ∀ args w, (callFunc 19 args).run Tryz.prog w = .ok (.enter 19 args) w := Go.Proofs.enters_of Tryz.func19 (by kernel_rfl) rfl
theorem ent_isMoment : ∀ args w, (callFunc 46 args).run Tryz.prog w = .ok (.enter 46 args) w := Go.Proofs.enters_of Tryz.func46 (by kernel_rfl) rfl
set_option maxHeartbeats 1600000 in
set_option maxRecDepth 100000 in
theorem fields_no {k : Int} (w : World) (c1 : (k == 1) = false) (c2 : (k == 2) = false) (c3 : (k == 3) = false) (c4 : (k == 4) = false) (c5 : (k == 5) = false) (c6 : (k == 6) = false) (c7 : (k == 7) = false) (c8 : (k == 8) = false) (c9 : (k == 9) = false) (c10 : (k == 10) = false) (c11 : (k == 11) = false) (c12 : (k == 12) = false) (c13 : (k == 13) = false) : Calls Tryz.prog 27 #[.int .i64 k] w (Made w (.tuple #[.agg #[.nilFunc, .nilFunc, .nilFunc, .nilFunc, .nilFunc, .nilFunc], .bool false])) := by
  have BX : Hid (Blk (w.alloc (.cells #[.nilFunc, .nilFunc, .nilFunc, .nilFunc, .nilFunc, .nilFunc] 36)) w.heap.size 36 #[.nilFunc, .nilFunc, .nilFunc, .nilFunc, .nilFunc, .nilFunc]) := Lib.hid (Blk.fresh _ _ _)
  have HB : Hid (Below w.heap.size w (w.alloc (.cells #[.nilFunc, .nilFunc, .nilFunc, .nilFunc, .nilFunc, .nilFunc] 36))) := Lib.hid ((Below.refl _ _).alloc (Nat.le_refl _) _)
  go_enter Tryz.func27, Tryz.ntmps27
  go_wp2_with ((with_reducible refine wpList_store_flds rfl (.tmp 2) (.tmp 38) rfl w.heap.size _ _ _ _ _ _ .nilFunc .nilFunc .nilFunc .nilFunc .nilFunc .nilFunc rfl rfl ⟨rfl, rfl, rfl, rfl, rfl, rfl⟩ BX.out ?_); intro w9 hb9 hg9; have HB9 : Hid (Below w.heap.size w w9) := Lib.hid (below_mv HB.out hg9 (Nat.le_refl _)); have y0 : w9.cell? ⟨w.heap.size, 0, none⟩ = some .nilFunc := hb9.cell 0; have y1 : w9.cell? ⟨w.heap.size, 1, none⟩ = some .nilFunc := hb9.cell 1; have y2 : w9.cell? ⟨w.heap.size, 2, none⟩ = some .nilFunc := hb9.cell 2; have y3 : w9.cell? ⟨w.heap.size, 3, none⟩ = some .nilFunc := hb9.cell 3; have y4 : w9.cell? ⟨w.heap.size, 4, none⟩ = some .nilFunc := hb9.cell 4; have y5 : w9.cell? ⟨w.heap.size, 5, none⟩ = some .nilFunc := hb9.cell 5; clear hb9 hg9)
  refine bodyPost_ret (v := .tuple #[.agg #[.nilFunc, .nilFunc, .nilFunc, .nilFunc, .nilFunc, .nilFunc], .bool false]) (by simp [results, Tryz.results27, go_sem, y0, y1, y2, y3, y4, y5]) rfl ?_
  exact ⟨rfl, HB9.out⟩
set_option maxHeartbeats 1600000 in
set_option maxRecDepth 100000 in
theorem check_no {k a b n : Int} {s t u : List UInt8} (w : World) (hf : ∀ W, Calls Tryz.prog 27 #[.int .i64 k] W (Made W (.tuple #[.agg #[.nilFunc, .nilFunc, .nilFunc, .nilFunc, .nilFunc, .nilFunc], .bool false]))) : Calls Tryz.prog 10 #[.agg #[.int .i64 k, .int .i64 a, .int .i64 b, .int .i64 n, .string (str s), .string (str t), .string (str u)]] w (Made w (.int .i64 140)) := by
  have HF := Lib.hid hf
  have HB : Hid (Below w.heap.size w (w.alloc (.cells #[.int .i64 k, .int .i64 a, .int .i64 b, .int .i64 n, .string (str s), .string (str t), .string (str u)] 23))) := Lib.hid ((Below.refl _ _).alloc (Nat.le_refl _) _)
  clear hf
  go_enter Tryz.func10, Tryz.ntmps10
  go_wp2_with (first
    | (go_at_call 27; refine (HF.out _).mono ?_; rintro e w1 ⟨rfl, hb⟩; have HB1 := Lib.hid (below_thC HB.out hb); have HBX2 : Hid (Below w1.heap.size w1 (w1.alloc (.cells #[.nilFunc, .nilFunc, .nilFunc, .nilFunc, .nilFunc, .nilFunc] 36))) := Lib.hid ((Below.refl _ _).alloc (Nat.le_refl _) _); have BX2 : Hid (Blk (w1.alloc (.cells #[.nilFunc, .nilFunc, .nilFunc, .nilFunc, .nilFunc, .nilFunc] 36)) w1.heap.size 36 #[.nilFunc, .nilFunc, .nilFunc, .nilFunc, .nilFunc, .nilFunc]) := Lib.hid (Blk.fresh _ _ _); clear hb)
    | ((with_reducible refine wpList_store_flds rfl (.tmp 3) (.tmp 9) rfl w1.heap.size _ _ _ _ _ _ .nilFunc .nilFunc .nilFunc .nilFunc .nilFunc .nilFunc rfl rfl ⟨rfl, rfl, rfl, rfl, rfl, rfl⟩ BX2.out ?_); intro w2 hb9 hg9; have HW2 : Hid (Below w.heap.size w w2) := Lib.hid (below_mv (below_thC HB1.out HBX2.out) hg9 HB1.out.size); clear hb9 hg9))
  go_ret
  exact ⟨rfl, HW2.out⟩
end Go.Proofs.YtelhdkidnhfnbabGreatDoor
