/-
  Rows of texts compared; whether a text is a word; whether two texts have the same words. Condition: at most 2^37 bytes.
-/
import Derived.Test.YtelhdkidnhfnbabGreatDoorWRef
namespace Go.Proofs.YtelhdkidnhfnbabGreatDoor
open Go.RowKit
open Go.Lib (decodeL encodeRune)

theorem strs_at {L : List (List UInt8)} (k : Nat) (h : k < L.length) : (strs L)[k]'(by rw [strs_length]; exact h) = .string (str L[k]) := by simp [strs]
def SSameRel (xs ys : List (List UInt8)) (w : World) (u : Value) (W : World) : Prop := ∃ k q : Nat, k ≤ xs.length ∧ xs.take k = ys.take k ∧ u = .int .i64 (k : Int) ∧ W = w.drewN q
theorem stake_next {a b : List (List UInt8)} {k : Nat} (h : a.take k = b.take k) (ha : k < a.length) (hb : k < b.length) (he : a[k] = b[k]) : a.take (k + 1) = b.take (k + 1) := by
  rw [List.take_succ_eq_append_getElem ha, List.take_succ_eq_append_getElem hb, h, he]
set_option maxHeartbeats 1600000 in
theorem rsame_any (xs ys : List (List UInt8)) (va vb : Value) (B : Nat) (w : World) (ha : RdV w B va (strs xs)) (hb : RdV w B vb (strs ys)) :
    Calls Tryz.prog 39 #[va, vb] w (Drew w (.bool (decide (xs = ys)))) := by
  obtain ⟨A, c, rfl, ha1, ha2, hac⟩ := ha
  obtain ⟨A', c', rfl, hb1, hb2, hbc⟩ := hb
  rw [strs_length] at ha1 hb1
  rw [strs_length xs, strs_length ys]
  have hlen : (xs.length : Int) ≤ (maxLen : Int) := by omega
  unfold maxLen at hlen
  by_cases hll : xs.length = ys.length
  case neg =>
    have hI : ((xs.length : Int) == (ys.length : Int)) = false := by simp; omega
    have hI2 : ((xs.length : Int) != (ys.length : Int)) = true := by simp; omega
    have hI3 : (xs.length == ys.length) = false := by simp; omega
    have hI4 : (xs.length != ys.length) = true := by simp; omega
    have hd : decide (xs = ys) = false := decide_eq_false fun e => hll (by rw [e])
    have HD := Lib.hid hd
    clear hll hac hbc hd ha1 ha2 hb1 hb2
    go_enter Tryz.func39, Tryz.ntmps39
    go_wp2_with fail
    go_ret
    exact ⟨by rw [HD.out]; rfl, 0, rfl⟩
  case pos =>
    have hI2 : ((xs.length : Int) != (ys.length : Int)) = false := by simp; omega
    have hI3 : (xs.length == ys.length) = true := by simp; omega
    have hI4 : (xs.length != ys.length) = false := by simp; omega
    have HAC := Lib.hid hac
    have HBC := Lib.hid hbc
    have HLL := Lib.hid hll
    clear hac hbc hll ha1 ha2 hb1 hb2
    go_enter Tryz.func39, Tryz.ntmps39
    go_wp2_with fail
    go_loopw [5] (SSameRel xs ys w) (fun u _ => (xs.length - intOf u).toNat)
    case atStart => exact ⟨0, 0, Nat.zero_le _, rfl, rfl, rfl⟩
    case round =>
      obtain ⟨k, q, hk, htk, rfl, rfl⟩ := hrel
      by_cases hkl : k < xs.length
      · have hkb : k < ys.length := by rw [← HLL.out]; exact hkl
        obtain ⟨b, o, rfl, _, hc⟩ := HAC.out (by rw [strs_length]; omega)
        obtain ⟨b', o', rfl, _, hc'⟩ := HBC.out (by rw [strs_length]; omega)
        have hx := hc k (by rw [strs_length]; exact hkl)
        have hy := hc' k (by rw [strs_length]; exact hkb)
        rw [strs_at k hkl] at hx
        rw [strs_at k hkb] at hy
        have hnx := fun he => stake_next htk hkl hkb he
        have hno : ¬ xs[k] = ys[k] → decide (xs = ys) = false := fun hne => decide_eq_false fun e => hne (by subst e; rfl)
        have hkI : (k : Int) < (xs.length : Int) := by omega
        have hkI2 : (k : Int) < (ys.length : Int) := by omega
        generalize xs[k] = x at hx hnx hno
        generalize ys[k] = y at hy hnx hno
        clear hc hc' htk
        by_cases hxy : x = y
        · have hn2 := hnx hxy
          have HN2 := Lib.hid hn2
          have hxb : (x != y) = false := by simp [hxy]
          have hxc : (x == y) = true := by simp [hxy]
          clear hnx hno hxy hn2
          go_wp2_with fail
          go_quiet (fail)
          go_wp2_with fail
          go_roundw
          case rel => exact ⟨k + 1, _, by omega, HN2.out, by go_num, rfl⟩
          case measure => simp [intOf]; omega
        · have hn2 := hno hxy
          have HN2 := Lib.hid hn2
          have hxb : (x != y) = true := by simp [hxy]
          have hxc : (x == y) = false := by simp [hxy]
          clear hnx hno hxy hn2
          go_wp2_with fail
          go_quiet (fail)
          go_wp2_with fail
          go_ret
          exact ⟨by rw [HN2.out]; rfl, q + nq, by rw [World.drewN_drewN]⟩
      · have hkI : ¬ (k : Int) < (xs.length : Int) := by omega
        have hd : decide (xs = ys) = true := by
          rw [List.take_of_length_le (by omega), List.take_of_length_le (by rw [← HLL.out]; omega)] at htk
          exact decide_eq_true htk
        have HD := Lib.hid hd
        clear hd htk
        go_wp2_with fail
        go_ret
        exact ⟨by rw [HD.out]; rfl, _, rfl⟩

/-! ### slices.Equal -/
theorem map_str_inj {a b : List (List UInt8)} : a.map str = b.map str ↔ a = b := by
  constructor
  · intro h
    induction a generalizing b with
    | nil => cases b with
      | nil => rfl
      | cons y b => cases h
    | cons x a ih => cases b with
      | nil => cases h
      | cons y b =>
        rw [List.map_cons, List.map_cons] at h
        injection h with h1 h2
        rw [str_inj h1, ih h2]
  · intro h; rw [h]
theorem cells_str {w : World} {b o : Nat} {L : List (List UInt8)} (h : ∀ j (h : j < (strs L).length), w.cell? ⟨b, o + j, none⟩ = some (strs L)[j]) : ∀ j, j < (L.map str).length → w.cell? ⟨b, o + j, none⟩ = some (.string ((L.map str).getD j ByteArray.empty)) := by
  intro j hj
  rw [List.length_map] at hj
  rw [h j (by rw [strs_length]; exact hj), strs_at j hj, List.getD_eq_getElem?_getD, List.getElem?_map, List.getElem?_eq_getElem hj]
  rfl
/-! ### words.Is, words.Same -/
def isB (l : List UInt8) : Bool := decide (wordsS l = [l])
theorem is_one {l x : List UInt8} {L : List (List UInt8)} (h : L.length = 1) (hx : L[0]? = some x) : (decide (L = [l])) = (x == l) := by
  match L, h with
  | [y], _ =>
    injection hx with hx
    subst hx
    by_cases e : y = l
    · subst e; simp
    · simp [e]
set_option maxHeartbeats 1600000 in
theorem is_any (l : List UInt8) (w : World) (hl : l.length ≤ 137438953472) : Calls Tryz.prog 35 #[.string (str l)] w (Made w (.bool (isB l))) := by
  have hW := words_any l w hl
  unfold isB
  generalize wordsS l = L at hW ⊢
  have HW := Lib.hid hW
  clear hW hl
  go_enter Tryz.func35, Tryz.ntmps35
  go_wp2_with fail
  refine HW.out.mono ?_
  rintro e w1 ⟨v, rfl, hown, b1⟩
  obtain ⟨A, c, rfl, _, _, hcell⟩ := hown.rdv (Nat.le_refl _)
  rw [strs_length L]
  clear hown
  by_cases h1 : L.length = 1
  · have h1I : ((L.length : Int) == 1) = true := by simp; omega
    have h1J : (L.length : Int) = 1 := by omega
    obtain ⟨b, o, rfl, _, hc⟩ := hcell (by rw [strs_length]; omega)
    have hx := hc 0 (by rw [strs_length]; omega)
    rw [strs_at 0 (by omega), Nat.add_zero] at hx
    have hone := is_one (l := l) h1 (List.getElem?_eq_getElem (by omega))
    generalize L[0] = x at hx hone
    have HONE := Lib.hid hone
    clear hone hc hcell h1
    go_wp2_with fail
    go_ret
    exact ⟨by rw [HONE.out]; rfl, b1⟩
  · have h1I : ((L.length : Int) == 1) = false := by simp; omega
    have hd : decide (L = [l]) = false := decide_eq_false fun e => h1 (by rw [e]; rfl)
    have HD := Lib.hid hd
    clear hd h1 hcell
    go_wp2_with fail
    go_ret
    exact ⟨by rw [HD.out]; rfl, b1⟩
end Go.Proofs.YtelhdkidnhfnbabGreatDoor
