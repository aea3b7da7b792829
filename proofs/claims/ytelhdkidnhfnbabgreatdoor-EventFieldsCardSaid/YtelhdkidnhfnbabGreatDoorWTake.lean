/-
  One rune is taken (words.parter$1). Condition: few words, a word of at most 32 runes.
-/
import Derived.Test.YtelhdkidnhfnbabGreatDoorWClos
namespace Go.Proofs.YtelhdkidnhfnbabGreatDoor
open Go.RowKit
open Go.Lib (decodeL encodeRune)

theorem WInv.setW {g base : Nat} {out : List (List UInt8)} {word word' : List Int} {W : World} (h : WInv g base out word W) {v : Value} (hv : Own W base 21 v (rvs word')) : WInv g base out word' (W.setCell ⟨g + 2, 0, none⟩ v) := by
  have hb := h.b
  obtain ⟨vl, hl1, hl2⟩ := h.l
  obtain ⟨vw, hw1, hw2⟩ := h.w
  refine ⟨⟨vl, hl1.grown (grown_set W (g + 2) 0 v) (by simp), hl2.setB hb 0 v⟩, h.t.grown (grown_set W (g + 2) 0 v) (by simp), ⟨v, hw1.set 0 v, hv.setB hb 0 v⟩, hb, ?_⟩
  have := h.s
  simp [World.setCell]
  omega
theorem WInv.push {g base : Nat} {out : List (List UInt8)} {word : List Int} {w w1 : World} {vw v1 : Value} {c : Int} (h : WInv g base out word w) (hw1 : Blk w (g + 2) 62 #[vw]) (hw2 : Own w base 21 vw (rvs word))
    (hown : Own w1 base 21 v1 (rvs word ++ [.int .i32 c])) (hg : w.grownBy w1 vw.ownBlock) (hb : Below base w w1) : WInv g base out (word ++ [c]) (w1.setCell ⟨g + 2, 0, none⟩ v1) := by
  have hgb := h.b
  obtain ⟨vl, hl1, hl2⟩ := h.l
  have hd := own_diff hl2 hw2 (by decide)
  refine ⟨⟨vl, (hl1.below hb (by omega)).grown (grown_set w1 (g + 2) 0 v1) (by simp), (hl2.grown hg hd).setB hgb 0 v1⟩, (h.t.below hb (by omega)).grown (grown_set w1 (g + 2) 0 v1) (by simp), ⟨v1, (hw1.below hb hgb).set 0 v1, ?_⟩, hgb, ?_⟩
  · rw [rvs_snoc]; exact hown.setB hgb 0 v1
  · have := h.s; have := hb.size; simp [World.setCell]; omega

theorem RdV.drew {w : World} {B : Nat} {v : Value} {xs : List Value} (h : RdV w B v xs) : RdV w.drew B v xs := h
set_option maxHeartbeats 3200000 in
theorem take_any (g base : Nat) (out : List (List UInt8)) (word : List Int) (c : Int) (w : World) (hi : WInv g base out word w) (hlen : out.length ≤ 1099511627776) (hwl : word.length ≤ 32) :
    Calls Tryz.prog 87 #[.int .i32 c, .pointer (some ⟨g + 2, 0, none⟩), .pointer (some ⟨g + 1, 0, none⟩)] w (Goes g base (wStep (out, word) c).1 (wStep (out, word) c).2 w) := by
  obtain ⟨vw, hw1, hw2⟩ := hi.w
  have hrd := hw2.rdv (Nat.le_refl _)
  obtain ⟨Aw, cw, rfl, _⟩ := id hrd
  rw [rvs_length word] at hrd hw1 hw2
  have cw0 : w.cell? ⟨g + 2, 0, none⟩ = some (.slice Aw word.length cw) := hw1.cell 0
  have ct0 : w.cell? ⟨g + 1, 0, none⟩ = some (tellV g) := hi.t.cell 0
  have hsz := hi.s
  have hgb := hi.b
  have hwlI : (word.length : Int) ≤ 32 := by omega
  have HW1 := Lib.hid hw1
  have HW2 := Lib.hid hw2
  have HI := Lib.hid hi
  have HRD := Lib.hid hrd
  clear hw1 hw2 hi hrd
  cases hb : letB c with
  | true =>
    by_cases h32 : word.length < 32
    · have h32I : (word.length : Int) < 32 := by omega
      have h32D : decide ((word.length : Int) < 32) = true := decide_eq_true h32I
      rw [step_add (o := (out, word)) hb h32]
      have HB := Lib.hid hb
      clear hb h32
      go_enter Tryz.func87, Tryz.ntmps87
      go_wp2_with (first
        | (go_at_call 88; refine (letter_any _ _).mono ?_; rw [HB.out]; rintro e w' ⟨rfl, rfl⟩)
        | (at_builtin; go_must (refine wpList_push w rfl (.tmp 12) (.tmp 14) _ rfl base 21 _ 4 Tryz.underlying62 Tryz.i32info rfl _ _ rfl (by exact HW2.out) _ rfl rfl (by rw [rvs_length]; unfold maxLen; omega) (by rw [rvs_length]; omega) hsz ?_); intro v1 w1 hown1 hg1 hb1 _; obtain ⟨A1, n1, k1, rfl⟩ := own_shape hown1; have g0 := (HW1.out.below hb1 (by omega)).cell 0; have f0 : w1.frozen? ⟨g + 2, 0, none⟩ = false := (HW1.out.below hb1 (by omega)).free 0; simp only [List.getElem?_toArray, List.getElem?_cons_zero] at g0))
      go_end0
      exact ⟨rfl, HI.out.push HW1.out HW2.out hown1 hg1 hb1, (Kp.below hb1).trans (Kp.set2 g base w1 _)⟩
    · have h32D : decide ((word.length : Int) < 32) = false := decide_eq_false (by omega)
      rw [step_full (o := (out, word)) hb h32]
      have HB := Lib.hid hb
      clear hb h32
      go_enter Tryz.func87, Tryz.ntmps87
      go_wp2_with (go_at_call 88; refine (letter_any _ _).mono ?_; rw [HB.out]; rintro e w' ⟨rfl, rfl⟩)
      go_end0
      exact ⟨rfl, HI.out, Kp.refl _ _ _⟩
  | false =>
    by_cases h0 : word.length = 0
    · have h0D : decide ((0 : Int) < (word.length : Int)) = false := decide_eq_false (by omega)
      have h0E : decide (0 < word.length) = false := decide_eq_false (by omega)
      have h0I : (word.length : Int) ≤ 0 := by omega
      rw [step_idle (o := (out, word)) hb h0]
      have HB := Lib.hid hb
      clear hb h0
      go_enter Tryz.func87, Tryz.ntmps87
      go_wp2_with (go_at_call 88; refine (letter_any _ _).mono ?_; rw [HB.out]; rintro e w' ⟨rfl, rfl⟩)
      go_end0
      exact ⟨rfl, HI.out, Kp.refl _ _ _⟩
    · have h0D : decide ((0 : Int) < (word.length : Int)) = true := decide_eq_true (by omega)
      have h0E : decide (0 < word.length) = true := decide_eq_true (by omega)
      have h0I : (0 : Int) < (word.length : Int) := by omega
      rw [step_tell (o := (out, word)) hb h0]
      have HB := Lib.hid hb
      have lt1 : g + 1 < w.heap.size := by omega
      have lt2 : g + 2 < w.heap.size := by omega
      unfold tellV at ct0
      clear hb h0
      go_enter Tryz.func87, Tryz.ntmps87
      go_wp2_with (go_at_call 88; refine (letter_any _ _).mono ?_; rw [HB.out]; rintro e w' ⟨rfl, rfl⟩)
      go_region_held3 (fun W' => W'.cell? ⟨g + 1, 0, none⟩ = some (.func (.func 70) #[] #[.pointer (some ⟨g, 0, none⟩)]) ∧ W'.cell? ⟨g + 2, 0, none⟩ = some (.slice Aw word.length cw))
        (first
          | (go_keep; done)
          | exact ⟨(b1.cell (p := ⟨g + 1, 0, none⟩) lt1).trans ct0, (b1.cell (p := ⟨g + 2, 0, none⟩) lt2).trans cw0⟩
          | exact ⟨i2.t.cell 0, (World.cell?_of_block (w := w1) q2).trans ((b1.cell (p := ⟨g + 2, 0, none⟩) lt2).trans cw0)⟩)
        (first
          | (go_at_call 89; refine (put_any word _ _ (by exact HRD.out.drew) (by omega)).mono ?_; rintro e w1 ⟨rfl, b1⟩)
          | (go_at_call 70; refine (tell_any g base out word (put word) _ (by exact HI.out.drew.below b1) hlen).mono ?_; rintro e w2 ⟨⟨rfl, i2, p2⟩, q2⟩))
      have HI2 := Lib.hid i2
      have f2 : w2.frozen? ⟨g + 2, 0, none⟩ = false := by
        obtain ⟨v, h1, _⟩ := i2.w
        exact h1.free 0
      obtain ⟨v9, h9, _⟩ := i2.w
      have g2 : w2.cell? ⟨g + 2, 0, none⟩ = some v9 := h9.cell 0
      have P2 := Lib.hid ((Kp.below ((drewB b1).mono hsz) : Kp g base w w1).trans p2)
      clear h9 i2
      go_wp2_with fail
      go_end0
      exact ⟨rfl, HI2.out.setW (Own.nil _ _ _), P2.out.trans (Kp.set2 g base w2 _)⟩
end Go.Proofs.YtelhdkidnhfnbabGreatDoor
