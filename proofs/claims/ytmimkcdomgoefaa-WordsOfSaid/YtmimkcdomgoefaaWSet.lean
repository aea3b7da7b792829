/-
  The words of a text in order, each once (words.Set). Condition: at most 2^37 bytes.
-/
import Derived.Test.YtmimkcdomgoefaaWSame
import Derived.Lib.OwnBridge
import Derived.Sort.OwnSorted
namespace Go.Proofs.Ytmimkcdomgoefaa
open Go.RowKit
open Go.Lib (decodeL encodeRune)

theorem strs_enc (L : List (List UInt8)) : strs L = L.map encStr := by
  unfold strs
  apply List.map_congr_left
  intro x _
  rfl
def sortP (L : List (List UInt8)) : List (List UInt8) := L.mergeSort fun x y => decide (x ≤ y)
def setP (L : List (List UInt8)) : List (List UInt8) := Lib.compact (sortP L)
theorem sortP_len (L : List (List UInt8)) : (sortP L).length = L.length := List.length_mergeSort L

theorem sort_any (base : Nat) (L : List (List UInt8)) (v : Value) (w : World) (h : Own w base 9 v (strs L)) (hl : L.length ≤ 1099511627776) :
    Calls Try.prog 53 #[v] w fun e w' => e = .returned (.tuple #[]) ∧ Own w' base 9 v (strs (sortP L)) ∧ Below base w w' := by
  have h' := h
  unfold Own at h'
  rw [strs_length, strs_enc] at h'
  rcases h.2 with ⟨rfl, h0⟩ | ⟨g, cap, cur, rfl, hg, hh, hn, hc, hs, ht⟩
  · rw [strs_length] at h0
    have e0 : L = [] := List.length_eq_zero_iff.1 h0
    subst e0
    refine (Try.slices_Sort_string_none none 0 w).mono ?_
    rintro e w' ⟨rfl, rfl⟩
    have e1 : sortP [] = [] := by simp [sortP]
    rw [e1]
    exact ⟨rfl, h, Below.refl _ _⟩
  · rw [strs_length] at hn ⊢
    obtain ⟨g2, cap2, e2, hb2, hlt, _, _, _, hH⟩ := Lib.holds_of_ownsRow h' (by simp)
    injection e2 with e3 e4 e5
    injection e3 with e3
    injection e3 with e3
    subst e3
    refine (Try.slices_Sort_string g 0 cap L w hH hlt (by omega)).mono ?_
    rintro e w' ⟨rfl, q, os, rfl⟩
    refine ⟨rfl, ?_, (Below.refl _ _).grown (grownBy_sorted _) (by omega) (fun k hk => by cases hk; exact hg)⟩
    have hrow := ownsRow_sorted (n := q) (os := os) (ss := L) (ts := sortP L) (sortP_len L) hg hh hn hc hs
    unfold Own
    rw [strs_length, sortP_len, strs_enc]
    exact hrow
theorem compact_any (base : Nat) (L : List (List UInt8)) (v : Value) (w : World) (h : Own w base 9 v (strs L)) (hl : L.length ≤ 1099511627776) :
    Calls Try.prog 54 #[v] w fun e w' => (∃ v', e = .returned v' ∧ Own w' base 9 v' (strs (Lib.compact L))) ∧ Below base w w' := by
  have h' := h
  unfold Own at h'
  rw [strs_length, strs_enc] at h'
  rcases h.2 with ⟨rfl, h0⟩ | ⟨g, cap, cur, rfl, hg, hh, hn, hc, hs, ht⟩
  · rw [strs_length] at h0
    have e0 : L = [] := List.length_eq_zero_iff.1 h0
    subst e0
    refine (Try.slices_Compact_string_empty none 0 w).mono ?_
    rintro e w' ⟨rfl, rfl⟩
    exact ⟨⟨_, rfl, Own.nil _ _ _⟩, Below.refl _ _⟩
  · rw [strs_length] at hn ⊢
    obtain ⟨g2, cap2, e2, hb2, hlt, _, _, _, hH⟩ := Lib.holds_of_ownsRow h' (by simp)
    injection e2 with e3 e4 e5
    injection e3 with e3
    injection e3 with e3
    subst e3
    refine (Try.slices_Compact_string g 0 cap L w hH (by omega) hn).mono ?_
    rintro e w' ⟨rfl, q, rfl⟩
    have hcl := Lib.compact_length_le L
    have hy : (Lib.compact L ++ List.replicate (L.length - (Lib.compact L).length) []).length = L.length := by simp; omega
    rw [strs_length] at h'
    have hrow := Lib.ownsRow_putRow (q := q) (k := (Lib.compact L).length) h' hy hcl
    rw [List.take_left] at hrow
    refine ⟨⟨_, rfl, ?_⟩, Lib.below_putRow (Below.refl _ _) hg⟩
    unfold Own
    rw [strs_length, strs_enc]
    exact hrow

set_option maxHeartbeats 1600000 in
theorem set_any (l : List UInt8) (w : World) (hl : l.length ≤ 137438953472) (hwl : (wordsS l).length ≤ 1099511627776) : Calls Try.prog 32 #[.string (str l)] w (MadeStrs w (setP (wordsS l))) := by
  have hW := words_any l w hl
  have hsl := sortP_len (wordsS l)
  unfold setP
  generalize wordsS l = L at *
  have HW := Lib.hid hW
  have hS := fun base v W => sort_any base L v W
  have hC := fun base v W => compact_any base (sortP L) v W
  rw [hsl] at hC
  have HS := Lib.hid hS
  have HC := Lib.hid hC
  have HWL := Lib.hid hwl
  clear hW hl hwl hS hC hsl
  go_enter Try.func32, Try.ntmps32
  go_wp2_with fail
  refine HW.out.mono ?_
  rintro e w1 ⟨v, rfl, hown, b1⟩
  have HO := Lib.hid hown
  clear hown
  go_wp2_with fail
  refine (HS.out w.heap.size v _ (by exact HO.out) HWL.out).mono ?_
  rintro e w2 ⟨rfl, hown2, b2⟩
  have HO2 := Lib.hid hown2
  have b3 := b1.trans b2
  clear hown2 b2
  go_wp2_with fail
  refine (HC.out w.heap.size v _ (by exact HO2.out) HWL.out).mono ?_
  rintro e w3 ⟨⟨v3, rfl, hown3⟩, b4⟩
  have b5 := b3.trans b4
  clear b4
  go_wp2_with fail
  go_ret
  exact ⟨_, rfl, hown3, b5⟩
end Go.Proofs.Ytmimkcdomgoefaa
