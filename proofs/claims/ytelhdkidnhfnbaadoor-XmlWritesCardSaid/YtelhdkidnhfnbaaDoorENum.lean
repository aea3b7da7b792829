/-
  Digits, the rune that a number stands for, numbers of signs (entity.digit, shown, number). No condition.
-/
import Derived.Test.YtelhdkidnhfnbaaDoorMgG
namespace Go.Proofs.YtelhdkidnhfnbaaDoor
open Go.RowKit
open Go.Lib (decodeL encodeRune)

theorem ebet_any (c a b : Int) (w : World) : Calls Tryd.prog 93 #[.int .i32 c, .int .i32 a, .int .i32 b] w (Pure w (.bool (decide (a ≤ c) && decide (c ≤ b)))) := by
  by_cases h1 : a ≤ c
  · by_cases h2 : c ≤ b
    · rw [decide_eq_true h1, decide_eq_true h2]
      go_enter Tryd.func93, Tryd.ntmps93
      go_wp2_with fail
      go_ret
      exact ⟨rfl, rfl⟩
    · rw [decide_eq_false h2, Bool.and_false]
      go_enter Tryd.func93, Tryd.ntmps93
      go_wp2_with fail
      go_ret
      exact ⟨rfl, rfl⟩
  · rw [decide_eq_false h1, Bool.false_and]
    go_enter Tryd.func93, Tryd.ntmps93
    go_wp2_with fail
    go_ret
    exact ⟨rfl, rfl⟩
theorem ebtw_yes (c a b : Int) (h : a ≤ c ∧ c ≤ b) (w : World) : Calls Tryd.prog 93 #[.int .i32 c, .int .i32 a, .int .i32 b] w (Pure w (.bool true)) := by
  have := ebet_any c a b w
  rw [decide_eq_true h.1, decide_eq_true h.2] at this
  exact this
theorem ebtw_no (c a b : Int) (h : ¬ (a ≤ c ∧ c ≤ b)) (w : World) : Calls Tryd.prog 93 #[.int .i32 c, .int .i32 a, .int .i32 b] w (Pure w (.bool false)) := by
  have h1 := ebet_any c a b w
  have h2 : (decide (a ≤ c) && decide (c ≤ b)) = false := by rw [Bool.and_eq_false_iff, decide_eq_false_iff_not, decide_eq_false_iff_not]; omega
  rw [h2] at h1
  exact h1
theorem digit_any (c : Int) (w : World) : Calls Tryd.prog 91 #[.int .i32 c] w (Pure w (.int .i32 (digN c))) := by
  unfold digN
  by_cases h1 : 48 ≤ c ∧ c ≤ 57
  · rw [if_pos h1]
    have k1 := ebtw_yes c 48 57 h1
    have K1 := Lib.hid k1
    clear k1
    obtain ⟨a1, a2⟩ := h1
    go_enter Tryd.func91, Tryd.ntmps91
    go_wp2_with fail
    refine (K1.out _).mono ?_
    rintro e w' ⟨rfl, rfl⟩
    go_wp2_with fail
    go_ret
    exact ⟨rfl, rfl⟩
  · rw [if_neg h1]
    have k1 := ebtw_no c 48 57 h1
    have K1 := Lib.hid k1
    clear k1
    by_cases h2 : 97 ≤ c ∧ c ≤ 102
    · rw [if_pos h2]
      have k2 := ebtw_yes c 97 102 h2
      have K2 := Lib.hid k2
      clear k2 h1
      obtain ⟨a1, a2⟩ := h2
      go_enter Tryd.func91, Tryd.ntmps91
      go_wp2_with fail
      refine (K1.out _).mono ?_
      rintro e w' ⟨rfl, rfl⟩
      go_wp2_with fail
      refine (K2.out _).mono ?_
      rintro e w' ⟨rfl, rfl⟩
      go_wp2_with fail
      go_ret
      exact ⟨rfl, rfl⟩
    · rw [if_neg h2]
      have k2 := ebtw_no c 97 102 h2
      have K2 := Lib.hid k2
      clear k2
      by_cases h3 : 65 ≤ c ∧ c ≤ 70
      · rw [if_pos h3]
        have k3 := ebtw_yes c 65 70 h3
        have K3 := Lib.hid k3
        clear k3 h1 h2
        obtain ⟨a1, a2⟩ := h3
        go_enter Tryd.func91, Tryd.ntmps91
        go_wp2_with fail
        refine (K1.out _).mono ?_
        rintro e w' ⟨rfl, rfl⟩
        go_wp2_with fail
        refine (K2.out _).mono ?_
        rintro e w' ⟨rfl, rfl⟩
        go_wp2_with fail
        refine (K3.out _).mono ?_
        rintro e w' ⟨rfl, rfl⟩
        go_wp2_with fail
        go_ret
        exact ⟨rfl, rfl⟩
      · rw [if_neg h3]
        have k3 := ebtw_no c 65 70 h3
        have K3 := Lib.hid k3
        clear k3 h1 h2 h3
        go_enter Tryd.func91, Tryd.ntmps91
        go_wp2_with fail
        refine (K1.out _).mono ?_
        rintro e w' ⟨rfl, rfl⟩
        go_wp2_with fail
        refine (K2.out _).mono ?_
        rintro e w' ⟨rfl, rfl⟩
        go_wp2_with fail
        refine (K3.out _).mono ?_
        rintro e w' ⟨rfl, rfl⟩
        go_wp2_with fail
        go_ret
        exact ⟨rfl, rfl⟩
theorem rdv_one (w : World) (e : TypeId) (a : Int) : RdV (w.alloc (.cells #[.int .i32 a] e)) (w.heap.size + 1) (.slice (some ⟨w.heap.size, 0, none⟩) 1 1) (rvs [a]) := by
  refine ⟨_, 1, rfl, Nat.le_refl _, by unfold maxLen; omega, fun _ => ⟨w.heap.size, 0, rfl, by omega, fun j hj => ?_⟩⟩
  have hb : (w.alloc (.cells #[.int .i32 a] e)).heap[w.heap.size]? = some (.cells #[.int .i32 a] e (0, 0)) := heap_alloc_new w _
  have hj2 : j < 1 := hj
  have hj3 : j = 0 := by omega
  subst hj3
  rw [cell_of_row _ w.heap.size 0 _ e (0, 0) hb]
  rfl
/-- A row of the call's own of one rune. -/
theorem own_one {w : World} {base e : Nat} {v : Value} {c : Int} (h : Own w base e v (rvs [c])) : ∃ g cap, v = .slice (some ⟨g, 0, none⟩) 1 cap ∧ w.cell? ⟨g, 0, none⟩ = some (.int .i32 c) := by
  have h' := h
  rcases h.2 with ⟨_, h0⟩ | ⟨g, cap, cur, rfl, _⟩
  · cases h0
  · exact ⟨g, cap, rfl, World.ownsRow.cellAt h' 0 (by simp [rvs])⟩
set_option maxHeartbeats 1600000 in
theorem shown_any (n : Int) (w : World) : Calls Tryd.prog 92 #[.int .i32 n] w (Made w (.int .i32 (shownR n))) := by
  unfold shownR
  by_cases h : n < 32 ∧ n ≠ 9 ∧ n ≠ 10 ∧ n ≠ 13
  · rw [if_pos h]
    obtain ⟨h1, h2, h3, h4⟩ := h
    have b2 : (n != 9) = true := by simpa using h2
    have b3 : (n != 10) = true := by simpa using h3
    have b4 : (n != 13) = true := by simpa using h4
    clear h2 h3 h4
    go_enter Tryd.func92, Tryd.ntmps92
    go_wp2_with fail
    go_ret
    exact ⟨rfl, Below.refl _ _⟩
  · rw [if_neg h]
    have hr := rdv_one w 21 n
    have HR : Hid (RdV (w.alloc (.cells #[.int .i32 n] 21)) (w.alloc (.cells #[.int .i32 n] 21)).heap.size (.slice (some ⟨w.heap.size, 0, none⟩) 1 1) (rvs [n])) := Lib.hid (hr.more (by simp))
    have hb0 : Below w.heap.size w (w.alloc (.cells #[.int .i32 n] 21)) := (Below.refl _ _).alloc (Nat.le_refl _) _
    have HB0 := Lib.hid hb0
    have hrp : runes (put [n]) = [fixR n] := by rw [runes_put]; rfl
    have HRP := Lib.hid hrp
    have hpl : (put [n]).length ≤ 1099511627776 := by have := (put_len [n]).2; simp only [List.length_cons, List.length_nil] at this; omega
    have HPL := Lib.hid hpl
    clear hr hb0 hrp hpl
    have way : n < 32 → n ≠ 9 → n ≠ 10 → n ≠ 13 → False := fun h1 h2 h3 h4 => h ⟨h1, h2, h3, h4⟩
    have HW := Lib.hid way
    clear way h
    by_cases c1 : n < 32
    · by_cases c2 : n = 9
      · subst c2
        go_enter Tryd.func92, Tryd.ntmps92
        go_wp2_with fail
        refine (put_any _ _ _ (by exact HR.out) (by simp)).mono ?_
        rintro e w1 ⟨rfl, b1⟩
        have HB1 := Lib.hid (HB0.out.trans (b1.mono HB0.out.size))
        clear b1
        go_wp2_with fail
        refine (runes_any _ _ (by exact HPL.out)).mono ?_
        rw [HRP.out]
        rintro e w2 ⟨v2, rfl, own2, b2'⟩
        have HB2 := Lib.hid (HB1.out.trans (b2'.mono HB1.out.size))
        obtain ⟨g2, c2', hg2, x2⟩ := own_one own2
        subst hg2
        clear own2 b2'
        go_wp2_with fail
        go_ret
        exact ⟨rfl, HB2.out⟩
      · have b2 : (n != 9) = true := by simpa using c2
        by_cases c3 : n = 10
        · subst c3
          clear b2 c2
          go_enter Tryd.func92, Tryd.ntmps92
          go_wp2_with fail
          refine (put_any _ _ _ (by exact HR.out) (by simp)).mono ?_
          rintro e w1 ⟨rfl, b1⟩
          have HB1 := Lib.hid (HB0.out.trans (b1.mono HB0.out.size))
          clear b1
          go_wp2_with fail
          refine (runes_any _ _ (by exact HPL.out)).mono ?_
          rw [HRP.out]
          rintro e w2 ⟨v2, rfl, own2, b2'⟩
          have HB2 := Lib.hid (HB1.out.trans (b2'.mono HB1.out.size))
          obtain ⟨g2, c2', hg2, x2⟩ := own_one own2
          subst hg2
          clear own2 b2'
          go_wp2_with fail
          go_ret
          exact ⟨rfl, HB2.out⟩
        · have b3 : (n != 10) = true := by simpa using c3
          by_cases c4 : n = 13
          · subst c4
            clear b2 b3 c2 c3
            go_enter Tryd.func92, Tryd.ntmps92
            go_wp2_with fail
            refine (put_any _ _ _ (by exact HR.out) (by simp)).mono ?_
            rintro e w1 ⟨rfl, b1⟩
            have HB1 := Lib.hid (HB0.out.trans (b1.mono HB0.out.size))
            clear b1
            go_wp2_with fail
            refine (runes_any _ _ (by exact HPL.out)).mono ?_
            rw [HRP.out]
            rintro e w2 ⟨v2, rfl, own2, b2'⟩
            have HB2 := Lib.hid (HB1.out.trans (b2'.mono HB1.out.size))
            obtain ⟨g2, c2', hg2, x2⟩ := own_one own2
            subst hg2
            clear own2 b2'
            go_wp2_with fail
            go_ret
            exact ⟨rfl, HB2.out⟩
          · exact (HW.out c1 c2 c3 c4).elim
    · have c1' : decide (n < 32) = false := decide_eq_false c1
      go_enter Tryd.func92, Tryd.ntmps92
      go_wp2_with fail
      refine (put_any _ _ _ (by exact HR.out) (by simp)).mono ?_
      rintro e w1 ⟨rfl, b1⟩
      have HB1 := Lib.hid (HB0.out.trans (b1.mono HB0.out.size))
      clear b1
      go_wp2_with fail
      refine (runes_any _ _ (by exact HPL.out)).mono ?_
      rw [HRP.out]
      rintro e w2 ⟨v2, rfl, own2, b2'⟩
      have HB2 := Lib.hid (HB1.out.trans (b2'.mono HB1.out.size))
      obtain ⟨g2, c2', hg2, x2⟩ := own_one own2
      subst hg2
      clear own2 b2'
      go_wp2_with fail
      go_ret
      exact ⟨rfl, HB2.out⟩
/-- What Sign answers. -/
def sgV : Option Int → Value
  | some c => .tuple #[.int .i32 c, .bool true]
  | none => .tuple #[.int .i32 0, .bool false]

theorem pow_16 (j : Nat) (h : j ≤ 5) : ((16 : Int) ^ j) ≤ 1048576 := by
  have : j = 0 ∨ j = 1 ∨ j = 2 ∨ j = 3 ∨ j = 4 ∨ j = 5 := by omega
  rcases this with rfl | rfl | rfl | rfl | rfl | rfl <;> decide
def NumRel16 (l : List UInt8) (w : World) (u : Value) (W : World) : Prop :=
  ∃ (k j : Nat) (m : Int), j ≤ k ∧ k ≤ l.length ∧ u = .int .i32 m ∧ 0 ≤ m ∧ m < 16 ^ j ∧ (runes l).foldl (numStep 16) (some 0) = (runes (l.drop k)).foldl (numStep 16) (some m) ∧ W.heap[w.heap.size]? = some (.stringIter (str l) k) ∧ Below w.heap.size w W
set_option maxHeartbeats 1600000 in
theorem number_16 (l : List UInt8) (w : World) (hl : l.length ≤ maxLen) : Calls Tryd.prog 87 #[.string (str l), .int .i64 6, .int .i32 16] w (Made w (sgV ((numB 16 6 l).map shownR))) := by
  unfold maxLen at hl
  by_cases h0 : l = []
  · subst h0
    go_enter Tryd.func87, Tryd.ntmps87
    go_wp2_with fail
    go_ret2
    exact ⟨rfl, Below.refl _ _⟩
  · have hne : !l.isEmpty := by simpa using h0
    have hne2 : l.isEmpty = false := by simpa using h0
    have hlp : 0 < l.length := List.length_pos_iff.2 h0
    by_cases hm : (6 : Int) < (l.length : Int)
    · have HV : Hid (numB 16 6 l = none) := Lib.hid (by unfold numB; rw [if_pos (by omega)])
      go_enter Tryd.func87, Tryd.ntmps87
      go_wp2_with fail
      go_ret2
      exact ⟨by rw [HV.out]; rfl, Below.refl _ _⟩
    · have hmd : decide ((6 : Int) < (l.length : Int)) = false := decide_eq_false hm
      have HV : Hid (numB 16 6 l = (runes l).foldl (numStep 16) (some 0)) := Lib.hid (by unfold numB numS; rw [if_neg (by omega), numS_runes 16 _ l _ (Nat.le_refl _)])
      have hl6 : l.length ≤ 6 := by omega
      have hit0 : (w.iter (str l) 0).heap[w.heap.size]? = some (.stringIter (str l) 0) := World.iter_heap w (str l) 0
      have HIT0 := Lib.hid hit0
      clear hit0 h0
      go_enter Tryd.func87, Tryd.ntmps87
      go_wp2_with fail
      go_loopw [8] (NumRel16 l w) (fun _ wr => l.length - wr.iterPos w.heap.size)
      case atStart => exact ⟨0, 0, 0, Nat.le_refl _, Nat.zero_le _, rfl, Int.le_refl _, by decide, rfl, HIT0.out, (Below.refl _ _).alloc (Nat.le_refl _) _⟩
      case round =>
        obtain ⟨k, j, m, hjk, hkl0, rfl, hm0, hm1, hj, hit, hbw⟩ := hrel
        have hsz : w.heap.size < wr.heap.size := (Array.getElem?_eq_some_iff.1 hit).1
        by_cases hkl : k < l.length
        · have hnx := fun ty => nxt_at wr w.heap.size l k ty hit hkl
          have hd := dec_on hkl
          rw [runes_on hkl, List.foldl_cons, numStep_some] at hj
          have hit2 := Lib.iterAt_heap wr w.heap.size (str l) k (k + (decodeL (l.drop k)).2) hit
          have hbw2 := Lib.below_iterAt hbw (Nat.le_refl _) (str l) (k + (decodeL (l.drop k)).2)
          have hp := pow_16 j (by omega)
          have hms : m ≤ 1048575 := by omega
          generalize hdd : decodeL (l.drop k) = dd at *
          generalize wr.iterAt w.heap.size (str l) (k + dd.2) = W1 at *
          have hdb := digN_bd (dd.1 : Int)
          have HD := Lib.hid hd
          have HIT := Lib.hid hit
          have HIT2 := Lib.hid hit2
          have HB2 := Lib.hid hbw2
          have kd := digit_any (dd.1 : Int)
          have HM1 := Lib.hid hm1
          have HP := Lib.hid hp
          generalize hq : digN (dd.1 : Int) = q at *
          have hdb2 : -1 ≤ q ∧ q ≤ 15 := ⟨hdb.1, hdb.2.1⟩
          obtain ⟨q1, q2⟩ := hdb2
          clear hd hdd hit hit2 hbw hbw2 hdb hm1 hp hq
          by_cases hbad : q < 0 ∨ 16 ≤ q
          · rw [if_pos hbad, numS_none] at hj
            have HJ := Lib.hid hj
            have KD := Lib.hid kd
            clear hj kd
            by_cases hq0 : q < 0
            · go_wp2_with (go_at_call 91; refine (KD.out _).mono ?_; rintro e w' ⟨rfl, rfl⟩)
              go_ret2
              exact ⟨by rw [HV.out, HJ.out]; rfl, HB2.out⟩
            · exfalso
              omega
          · rw [if_neg hbad] at hj
            have HJ := Lib.hid hj
            have KD := Lib.hid kd
            have hq0 : 0 ≤ q := by omega
            have hq1 : q ≤ 15 := by omega
            clear hj kd hbad
            go_wp2_with (go_at_call 91; refine (KD.out _).mono ?_; rintro e w' ⟨rfl, rfl⟩)
            go_roundw
            case rel =>
              refine ⟨k + dd.2, j + 1, m * 16 + q, by have := HD.out; omega, HD.out.2, by go_num, by omega, ?_, HJ.out, HIT2.out, HB2.out⟩
              rw [Int.pow_succ]
              have := HM1.out
              omega
            case measure =>
              have e1 := iterPos_of HIT2.out
              have e2 := iterPos_of HIT.out
              rw [e1, e2]
              have := HD.out
              omega
        · have hnx := fun ty => nxt_no wr w.heap.size l k ty hit hkl
          rw [runes_end hkl] at hj
          have hj2 : (runes l).foldl (numStep 16) (some 0) = some m := hj
          have HJ := Lib.hid hj2
          have HB := Lib.hid hbw
          clear hj hj2 hit hm1 hbw
          go_wp2_with fail
          refine (shown_any m _).mono ?_
          rintro e w3 ⟨rfl, b3⟩
          go_wp2_with fail
          go_ret2
          exact ⟨by rw [HV.out, HJ.out]; rfl, HB.out.trans (b3.mono HB.out.size)⟩

theorem pow_10 (j : Nat) (h : j ≤ 6) : ((10 : Int) ^ j) ≤ 1000000 := by
  have : j = 0 ∨ j = 1 ∨ j = 2 ∨ j = 3 ∨ j = 4 ∨ j = 5 ∨ j = 6 := by omega
  rcases this with rfl | rfl | rfl | rfl | rfl | rfl | rfl <;> decide
def NumRel10 (l : List UInt8) (w : World) (u : Value) (W : World) : Prop :=
  ∃ (k j : Nat) (m : Int), j ≤ k ∧ k ≤ l.length ∧ u = .int .i32 m ∧ 0 ≤ m ∧ m < 10 ^ j ∧ (runes l).foldl (numStep 10) (some 0) = (runes (l.drop k)).foldl (numStep 10) (some m) ∧ W.heap[w.heap.size]? = some (.stringIter (str l) k) ∧ Below w.heap.size w W
set_option maxHeartbeats 1600000 in
theorem number_10 (l : List UInt8) (w : World) (hl : l.length ≤ maxLen) : Calls Tryd.prog 87 #[.string (str l), .int .i64 7, .int .i32 10] w (Made w (sgV ((numB 10 7 l).map shownR))) := by
  unfold maxLen at hl
  by_cases h0 : l = []
  · subst h0
    go_enter Tryd.func87, Tryd.ntmps87
    go_wp2_with fail
    go_ret2
    exact ⟨rfl, Below.refl _ _⟩
  · have hne : !l.isEmpty := by simpa using h0
    have hne2 : l.isEmpty = false := by simpa using h0
    have hlp : 0 < l.length := List.length_pos_iff.2 h0
    by_cases hm : (7 : Int) < (l.length : Int)
    · have HV : Hid (numB 10 7 l = none) := Lib.hid (by unfold numB; rw [if_pos (by omega)])
      go_enter Tryd.func87, Tryd.ntmps87
      go_wp2_with fail
      go_ret2
      exact ⟨by rw [HV.out]; rfl, Below.refl _ _⟩
    · have hmd : decide ((7 : Int) < (l.length : Int)) = false := decide_eq_false hm
      have HV : Hid (numB 10 7 l = (runes l).foldl (numStep 10) (some 0)) := Lib.hid (by unfold numB numS; rw [if_neg (by omega), numS_runes 10 _ l _ (Nat.le_refl _)])
      have hl6 : l.length ≤ 7 := by omega
      have hit0 : (w.iter (str l) 0).heap[w.heap.size]? = some (.stringIter (str l) 0) := World.iter_heap w (str l) 0
      have HIT0 := Lib.hid hit0
      clear hit0 h0
      go_enter Tryd.func87, Tryd.ntmps87
      go_wp2_with fail
      go_loopw [8] (NumRel10 l w) (fun _ wr => l.length - wr.iterPos w.heap.size)
      case atStart => exact ⟨0, 0, 0, Nat.le_refl _, Nat.zero_le _, rfl, Int.le_refl _, by decide, rfl, HIT0.out, (Below.refl _ _).alloc (Nat.le_refl _) _⟩
      case round =>
        obtain ⟨k, j, m, hjk, hkl0, rfl, hm0, hm1, hj, hit, hbw⟩ := hrel
        have hsz : w.heap.size < wr.heap.size := (Array.getElem?_eq_some_iff.1 hit).1
        by_cases hkl : k < l.length
        · have hnx := fun ty => nxt_at wr w.heap.size l k ty hit hkl
          have hd := dec_on hkl
          rw [runes_on hkl, List.foldl_cons, numStep_some] at hj
          have hit2 := Lib.iterAt_heap wr w.heap.size (str l) k (k + (decodeL (l.drop k)).2) hit
          have hbw2 := Lib.below_iterAt hbw (Nat.le_refl _) (str l) (k + (decodeL (l.drop k)).2)
          have hp := pow_10 j (by omega)
          have hms : m ≤ 999999 := by omega
          generalize hdd : decodeL (l.drop k) = dd at *
          generalize wr.iterAt w.heap.size (str l) (k + dd.2) = W1 at *
          have hdb := digN_bd (dd.1 : Int)
          have HD := Lib.hid hd
          have HIT := Lib.hid hit
          have HIT2 := Lib.hid hit2
          have HB2 := Lib.hid hbw2
          have kd := digit_any (dd.1 : Int)
          have HM1 := Lib.hid hm1
          have HP := Lib.hid hp
          generalize hq : digN (dd.1 : Int) = q at *
          have hdb2 : -1 ≤ q ∧ q ≤ 15 := ⟨hdb.1, hdb.2.1⟩
          obtain ⟨q1, q2⟩ := hdb2
          clear hd hdd hit hit2 hbw hbw2 hdb hm1 hp hq
          by_cases hbad : q < 0 ∨ 10 ≤ q
          · rw [if_pos hbad, numS_none] at hj
            have HJ := Lib.hid hj
            have KD := Lib.hid kd
            clear hj kd
            by_cases hq0 : q < 0
            · go_wp2_with (go_at_call 91; refine (KD.out _).mono ?_; rintro e w' ⟨rfl, rfl⟩)
              go_ret2
              exact ⟨by rw [HV.out, HJ.out]; rfl, HB2.out⟩
            · have hq1 : 10 ≤ q := by omega
              go_wp2_with (go_at_call 91; refine (KD.out _).mono ?_; rintro e w' ⟨rfl, rfl⟩)
              go_ret2
              exact ⟨by rw [HV.out, HJ.out]; rfl, HB2.out⟩
          · rw [if_neg hbad] at hj
            have HJ := Lib.hid hj
            have KD := Lib.hid kd
            have hq0 : 0 ≤ q := by omega
            have hq1 : q ≤ 9 := by omega
            have hqd : decide (10 ≤ q) = false := decide_eq_false (by omega)
            have hqe : decide (q < 0) = false := decide_eq_false (by omega)
            clear hj kd hbad
            go_wp2_with (go_at_call 91; refine (KD.out _).mono ?_; rintro e w' ⟨rfl, rfl⟩)
            go_roundw
            case rel =>
              refine ⟨k + dd.2, j + 1, m * 10 + q, by have := HD.out; omega, HD.out.2, by go_num, by omega, ?_, HJ.out, HIT2.out, HB2.out⟩
              rw [Int.pow_succ]
              have := HM1.out
              omega
            case measure =>
              have e1 := iterPos_of HIT2.out
              have e2 := iterPos_of HIT.out
              rw [e1, e2]
              have := HD.out
              omega
        · have hnx := fun ty => nxt_no wr w.heap.size l k ty hit hkl
          rw [runes_end hkl] at hj
          have hj2 : (runes l).foldl (numStep 10) (some 0) = some m := hj
          have HJ := Lib.hid hj2
          have HB := Lib.hid hbw
          clear hj hj2 hit hm1 hbw
          go_wp2_with fail
          refine (shown_any m _).mono ?_
          rintro e w3 ⟨rfl, b3⟩
          go_wp2_with fail
          go_ret2
          exact ⟨by rw [HV.out, HJ.out]; rfl, HB.out.trans (b3.mono HB.out.size)⟩
end Go.Proofs.YtelhdkidnhfnbaaDoor
