/-
  The document's text of runes, folded and clean ones, and beginnings; the program's beginnings. Condition: a length within 2^40.
-/
import Derived.Test.YtelhdkidnhfnbabGreatDoorUClean
namespace Go.Proofs.YtelhdkidnhfnbabGreatDoor
open Go.RowKit
open Go.Lib (decodeL encodeRune encodeRuneZ runeCells)

/-- A call that makes these bytes, in a slice. -/
def MadeSrc (w : World) (xs : List Value) (e : Ending) (w' : World) : Prop := ∃ v, e = .returned v ∧ Src w' v xs ∧ Below w.heap.size w w'
theorem bvs_enc (c : Int) : bvs (encodeRune c) = runeCells c := Lib.byteCells_encodeRune c
theorem src_new {w : World} {e : TypeId} {xs : List Value} {n : Nat} (hn : n = xs.length) : Src (w.alloc (.cells xs.toArray e)) (.slice (some ⟨w.heap.size, 0, none⟩) n n) xs := by
  subst hn
  refine ⟨_, xs.length, rfl, fun h => (Option.some_ne_none _ h).elim, ?_⟩
  intro ad had j x hx
  injection had with had
  subst had
  have hb : (w.alloc (.cells xs.toArray e)).heap[w.heap.size]? = some (.cells xs.toArray e (0, 0)) := heap_alloc_new w _
  have hz : (⟨w.heap.size, 0, none⟩ : Addr).add j = ⟨w.heap.size, j, none⟩ := by
    simp only [Addr.add, Nat.zero_add]
    by_cases h0 : j = 0 <;> simp [h0]
  rw [hz, cell_of_row _ w.heap.size j _ e (0, 0) hb, List.getElem?_toArray]
  exact hx
theorem madeSrc_mk {w : World} {e : TypeId} {c : Int} {xs : List Value} {n : Nat} (h : runeCells c = xs) (hn : n = xs.length) :
    MadeSrc w (runeCells c) (.returned (.slice (some ⟨w.heap.size, 0, none⟩) n n)) (w.alloc (.cells xs.toArray e)) := by
  rw [h]
  exact ⟨_, rfl, src_new hn, (Below.refl _ _).alloc (Nat.le_refl _) _⟩

set_option maxRecDepth 100000 in
set_option maxHeartbeats 1600000 in
theorem one_any (c : Int) (w : World) : Calls Tryz.prog 76 #[.int .i32 c] w (MadeSrc w (runeCells c)) := by
  have a0 : c < 0 → decide (c < 0) = true := fun h => decide_eq_true h
  by_cases h0 : c < 0
  · have hd : runeCells c = [.int .u8 239, .int .u8 191, .int .u8 189] := by unfold runeCells; rw [Lib.encodeRuneZ_bad (.inl h0)]; rfl
    have d0 : decide (c < 0) = true := decide_eq_true h0
    have HD := Lib.hid hd
    clear hd a0 h0
    go_enter Tryz.func76, Tryz.ntmps76
    go_wp2_with fail
    go_ret
    exact madeSrc_mk HD.out rfl
  have d0 : decide (c < 0) = false := decide_eq_false h0
  by_cases h1 : 1114111 < c
  · have hd : runeCells c = [.int .u8 239, .int .u8 191, .int .u8 189] := by unfold runeCells; rw [Lib.encodeRuneZ_bad (.inr (.inr h1))]; rfl
    have d1 : decide (1114111 < c) = true := decide_eq_true h1
    have HD := Lib.hid hd
    clear hd a0 h0 h1
    go_enter Tryz.func76, Tryz.ntmps76
    go_wp2_with fail
    go_ret
    exact madeSrc_mk HD.out rfl
  have d1 : decide (1114111 < c) = false := decide_eq_false h1
  by_cases h2 : 55296 ≤ c ∧ c ≤ 57343
  · have hd : runeCells c = [.int .u8 239, .int .u8 191, .int .u8 189] := by unfold runeCells; rw [Lib.encodeRuneZ_bad (.inr (.inl h2))]; rfl
    have d2 : decide (55296 ≤ c) = true := decide_eq_true h2.1
    have d3 : decide (c ≤ 57343) = true := decide_eq_true h2.2
    have HD := Lib.hid hd
    clear hd a0 h0 h1 h2
    go_enter Tryz.func76, Tryz.ntmps76
    go_wp2_with fail
    go_ret
    exact madeSrc_mk HD.out rfl
  by_cases h3 : c < 128
  · have hd : runeCells c = [.int .u8 c] := by unfold runeCells; rw [Lib.encodeRuneZ_one (by omega) (by omega)]; rfl
    have d2 : decide (55296 ≤ c) = false := decide_eq_false (by omega)
    have d4 : decide (c < 128) = true := decide_eq_true h3
    have hc0 : 0 ≤ c := by omega
    have hc1 : c ≤ 127 := by omega
    have HD := Lib.hid hd
    clear hd a0 h0 h1 h2 h3
    go_enter Tryz.func76, Tryz.ntmps76
    go_wp2_with fail
    go_ret
    exact madeSrc_mk HD.out rfl
  have d4 : decide (c < 128) = false := decide_eq_false h3
  by_cases h4 : c < 2048
  · have hd : runeCells c = [.int .u8 (192 + c / 64), .int .u8 (128 + c % 64)] := by unfold runeCells; rw [Lib.encodeRuneZ_two (by omega) (by omega)]; rfl
    have d2 : decide (55296 ≤ c) = false := decide_eq_false (by omega)
    have d5 : decide (c < 2048) = true := decide_eq_true h4
    have hc0 : 0 ≤ c := by omega
    have hc1 : c ≤ 2047 := by omega
    have HD := Lib.hid hd
    clear hd a0 h0 h1 h2 h3 h4
    go_enter Tryz.func76, Tryz.ntmps76
    go_wp2_with fail
    go_ret
    exact madeSrc_mk HD.out rfl
  have d5 : decide (c < 2048) = false := decide_eq_false h4
  by_cases h5 : c < 65536
  · have hd : runeCells c = [.int .u8 (224 + c / 4096), .int .u8 (128 + c / 64 % 64), .int .u8 (128 + c % 64)] := by unfold runeCells; rw [Lib.encodeRuneZ_three (by omega)]; rfl
    have d6 : decide (c < 65536) = true := decide_eq_true h5
    have hc0 : 0 ≤ c := by omega
    have hc1 : c ≤ 65535 := by omega
    have HD := Lib.hid hd
    have hc3 : decide (55296 ≤ c) = false ∨ (decide (55296 ≤ c) = true ∧ decide (c ≤ 57343) = false) := by
      by_cases h : 55296 ≤ c
      · exact .inr ⟨decide_eq_true h, decide_eq_false (by omega)⟩
      · exact .inl (decide_eq_false h)
    clear hd a0 h0 h1 h2 h3 h4 h5
    rcases hc3 with d2 | ⟨d2, d3⟩
    all_goals
      go_enter Tryz.func76, Tryz.ntmps76
      go_wp2_with fail
      go_ret
      exact madeSrc_mk HD.out rfl
  · have hd : runeCells c = [.int .u8 (240 + c / 262144), .int .u8 (128 + c / 4096 % 64), .int .u8 (128 + c / 64 % 64), .int .u8 (128 + c % 64)] := by unfold runeCells; rw [Lib.encodeRuneZ_four (by omega) (by omega)]; rfl
    have d6 : decide (c < 65536) = false := decide_eq_false h5
    have d2 : decide (55296 ≤ c) = true := decide_eq_true (by omega)
    have d3 : decide (c ≤ 57343) = false := decide_eq_false (by omega)
    have hc0 : 0 ≤ c := by omega
    have hc1 : c ≤ 1114111 := by omega
    have HD := Lib.hid hd
    clear hd a0 h0 h1 h2 h3 h4 h5
    go_enter Tryz.func76, Tryz.ntmps76
    go_wp2_with fail
    go_ret
    exact madeSrc_mk HD.out rfl
end Go.Proofs.YtelhdkidnhfnbabGreatDoor
