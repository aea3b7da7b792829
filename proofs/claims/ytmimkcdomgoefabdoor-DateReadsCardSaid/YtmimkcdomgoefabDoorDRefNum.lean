/-
  The document's own numbers, zones, moments of dates that are read (newsstandref04.num, zone, told). No condition but that a text's length is a length.
-/
import Derived.Test.YtmimkcdomgoefabDoorDRdr
import Derived.Test.YtmimkcdomgoefabDoorDMom
namespace Go.Proofs.YtmimkcdomgoefabDoor
open Go.RowKit

theorem idx_str (l : List UInt8) (k : Nat) (hk : k < l.length) (w : World) :
    (Instr.index 9 (.string (str l)) (.int .i64 (k : Int))).run Tryd.prog w = .ok (.int .u8 (l[k].toNat : Int)) w := by
  rw [run_index_string w 9 (str l) .i64 (k : Int) Tryd.underlying9]
  have hs : (0 : Int) ≤ (k : Int) ∧ (k : Int) < ((str l).size : Int) := by rw [str_size]; omega
  rw [dif_pos hs]
  rfl

def allD (l : List UInt8) : Bool := l.all fun c => digB c.toNat
theorem allD_iff (l : List UInt8) : allD l = true ↔ AllDig l := by
  unfold allD AllDig
  rw [List.all_eq_true]
  constructor
  · intro h i hi
    exact (dig_iff _).1 (h l[i] (List.getElem_mem hi))
  · intro h c hc
    obtain ⟨i, hi, rfl⟩ := List.getElem_of_mem hc
    exact (dig_iff _).2 (h i hi)
def numR (l : List UInt8) : Int := if decide (1 ≤ l.length ∧ l.length ≤ 9) && allD l then (valN l : Int) else -1
theorem numR_yes {l : List UInt8} (h1 : 1 ≤ l.length) (h9 : l.length ≤ 9) (hd : AllDig l) : numR l = (valN l : Int) := by
  unfold numR
  rw [(allD_iff l).2 hd, decide_eq_true (show 1 ≤ l.length ∧ l.length ≤ 9 from ⟨h1, h9⟩)]
  rfl
theorem numR_len {l : List UInt8} (h : ¬ (1 ≤ l.length ∧ l.length ≤ 9)) : numR l = -1 := by
  unfold numR
  rw [decide_eq_false h]
  rfl
theorem numR_no {l : List UInt8} (h : ¬ AllDig l) : numR l = -1 := by
  unfold numR
  rw [show allD l = false from Bool.eq_false_iff.2 fun e => h ((allD_iff l).1 e), Bool.and_false]
  rfl

def NumRel (l : List UInt8) (u3 u4 : Value) : Prop :=
  ∃ k : Nat, k ≤ l.length ∧ (∀ i (h : i < l.length), i < k → 48 ≤ l[i].toNat ∧ l[i].toNat ≤ 57) ∧ u4 = .int .i64 (k : Int) ∧ u3 = .int .i64 (valN (l.take k) : Int)

theorem valN_lt' (l : List UInt8) (k : Nat) (hk : k ≤ l.length) (h : ∀ i (h : i < l.length), i < k → 48 ≤ l[i].toNat ∧ l[i].toNat ≤ 57) : valN (l.take k) < 10 ^ k := by
  have := valN_lt (l.take k) (fun i hi => by
    rw [List.getElem_take]
    have hi' : i < k ∧ i < l.length := by simp at hi; omega
    exact h i hi'.2 hi'.1) k (by simp; omega)
  rwa [List.take_take, Nat.min_self] at this

set_option maxHeartbeats 1600000 in
theorem rnum_any (l : List UInt8) (w : World) (hl : l.length ≤ 140737488351232) :
    Calls Tryd.prog 29 #[.string (str l)] w (Pure w (.int .i64 (numR l))) := by
  by_cases h1 : l.length < 1
  · have hn := numR_len (l := l) (by omega)
    have hI : (l.length : Int) < 1 := by omega
    have HN := Lib.hid hn
    clear hn h1 hl
    go_enter Tryd.func29, Tryd.ntmps29
    go_wp2_with fail
    go_ret
    exact ⟨by rw [HN.out]; rfl, rfl⟩
  · by_cases h9 : 9 < l.length
    · have hn := numR_len (l := l) (by omega)
      have hI : ¬ (l.length : Int) < 1 := by omega
      have hJ : (9 : Int) < (l.length : Int) := by omega
      have HN := Lib.hid hn
      clear hn h1 h9 hl
      go_enter Tryd.func29, Tryd.ntmps29
      go_wp2_with fail
      go_ret
      exact ⟨by rw [HN.out]; rfl, rfl⟩
    · have hI : ¬ (l.length : Int) < 1 := by omega
      have hJ : ¬ (9 : Int) < (l.length : Int) := by omega
      have H1 := Lib.hid h1
      have H9 := Lib.hid h9
      clear h1 h9 hl
      go_enter Tryd.func29, Tryd.ntmps29
      go_wp2_with fail
      go_loop [3, 4] (NumRel l) (fun _ u => (20 - intOf u).toNat)
      case atStart => exact ⟨0, Nat.zero_le _, fun _ _ h => absurd h (Nat.not_lt_zero _), rfl, rfl⟩
      case round =>
        obtain ⟨k, hk, hdig, rfl, rfl⟩ := hrel
        have hlt := valN_lt' l k hk hdig
        have hp : (10 : Nat) ^ k ≤ 10 ^ 9 := Nat.pow_le_pow_right (by decide) (by have := H9.out; omega)
        have hvI : (valN (l.take k) : Int) ≤ 1000000000 := by omega
        have hk9 : k ≤ 9 := by have := H9.out; omega
        have HD := Lib.hid hdig
        clear hdig hlt hp
        by_cases hkl : k < l.length
        · have hkI : (k : Int) < (l.length : Int) := by omega
          have hix := idx_str l k hkl
          have hsn := valN_take l k hkl
          by_cases hc : 48 ≤ l[k].toNat ∧ l[k].toNat ≤ 57
          · have hall : ∀ i (h : i < l.length), i < k + 1 → 48 ≤ l[i].toNat ∧ l[i].toNat ≤ 57 := fun i h hi => by
              by_cases hik : i < k
              · exact HD.out i h hik
              · obtain rfl : i = k := by omega
                exact hc
            generalize hcc : l[k].toNat = c at hc hsn hix
            generalize hv : valN (l.take k) = v at hvI hsn
            have hd1 : (48 : Int) ≤ (c : Int) := by omega
            have hd2 : (c : Int) ≤ 57 := by omega
            have HSN := Lib.hid hsn
            have HV := Lib.hid hv
            have HA := Lib.hid hall
            have HC := Lib.hid hcc
            clear hsn hv hall hcc hc
            go_wp2_with fail
            go_round
            case rel => exact ⟨k + 1, by omega, HA.out, rfl, by rw [HSN.out]; exact int_val (by omega)⟩
            case measure => simp [intOf]; omega
          · have hn := numR_no (l := l) fun h => hc (h k hkl)
            have HN := Lib.hid hn
            have hcI : (l[k].toNat : Int) < 48 ∨ ¬ (l[k].toNat : Int) < 48 ∧ (57 : Int) < (l[k].toNat : Int) := by omega
            generalize l[k].toNat = c at hcI hix
            clear hn hc hsn hvI
            rcases hcI with hcI | ⟨hcI, hcJ⟩
            all_goals
              go_wp2_with fail
              go_ret
              exact ⟨by rw [HN.out]; rfl, rfl⟩
        · have hkI : ¬ (k : Int) < (l.length : Int) := by omega
          have hke : k = l.length := by omega
          have hn := numR_yes (l := l) (by have := H1.out; omega) (by have := H9.out; omega) (fun i h => HD.out i h (by omega))
          have ht : valN (l.take k) = valN l := by rw [List.take_of_length_le (by omega)]
          rw [ht] at hvI ⊢
          generalize valN l = v at hn hvI
          have HN := Lib.hid hn
          clear hn ht hke
          go_wp2_with fail
          go_ret
          exact ⟨by rw [HN.out]; rfl, rfl⟩



end Go.Proofs.YtmimkcdomgoefabDoor
