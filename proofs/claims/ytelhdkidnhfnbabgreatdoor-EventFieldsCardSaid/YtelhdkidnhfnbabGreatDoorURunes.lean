/-
  The runes of a text, how many, whether it is right: the program's and the document's. Condition: a length within 2^40.
-/
import Derived.Test.YtelhdkidnhfnbabGreatDoorUFirst
import Derived.Test.YtelhdkidnhfnbabGreatDoorShelf
namespace Go.Proofs.YtelhdkidnhfnbabGreatDoor
open Go.RowKit
open Go.Lib (decodeL encodeRune validD)

theorem nxt_it (w : World) (l : List UInt8) (k : Nat) (ty : TypeId) (h : k < l.length) :
    (Instr.next (.pointer (some ⟨w.heap.size, 0, none⟩)) true ty).run Tryz.prog (w.iter (str l) k) = .ok (.tuple #[.bool true, .int .i64 (k : Int), .int .i32 ((decodeL (l.drop k)).1 : Int)]) (w.iter (str l) (k + (decodeL (l.drop k)).2)) := by
  rw [run_next_any w (str l) k ty (by rw [str_size]; exact h), dec_at]
theorem nxt_itno (w : World) (l : List UInt8) (k : Nat) (ty : TypeId) (h : ¬ k < l.length) :
    (Instr.next (.pointer (some ⟨w.heap.size, 0, none⟩)) true ty).run Tryz.prog (w.iter (str l) k) = .ok (.tuple #[.bool false]) (w.iter (str l) k) :=
  run_next_end w (str l) k ty (by rw [str_size]; exact h)

def strLen : Value → Nat
  | .string s => s.size
  | _ => 0
theorem strLen_str (l : List UInt8) : strLen (.string (str l)) = l.length := str_size l

/-! ### how many -/
def CountRel (l : List UInt8) (w : World) (u : Value) (w' : World) : Prop :=
  ∃ k j : Nat, k ≤ l.length ∧ j + (runes (l.drop k)).length = (runes l).length ∧ w' = w.iter (str l) k ∧ u = .int .i64 (j : Int)
/-! ### right -/
theorem pre_bad {l : List UInt8} (h : l ≠ []) (h1 : (decodeL l).1 = 65533) : Lib.hasPrefix l [239, 191, 189] = decide ((decodeL l).2 ≠ 1) := by
  unfold Lib.hasPrefix
  by_cases h2 : (decodeL l).2 = 1
  · rw [decide_eq_false (by simp [h2])]
    refine Bool.eq_false_iff.2 fun hp => ?_
    obtain ⟨t, ht⟩ := List.isPrefixOf_iff_prefix.1 hp
    have he : encodeRune 65533 = [239, 191, 189] := rfl
    have := dec_enc 65533 t (by unfold okR; omega)
    rw [he, ht] at this
    rw [this] at h2
    cases h2
  · rw [decide_eq_true (by simp [h2])]
    have he := Lib.encode_decode l h (fun hh => h2 hh.2)
    rw [h1] at he
    have he2 : encodeRune ((65533 : Nat) : Int) = [239, 191, 189] := rfl
    rw [he2] at he
    refine List.isPrefixOf_iff_prefix.2 ⟨l.drop (decodeL l).2, ?_⟩
    rw [he]
    exact List.take_append_drop _ _
theorem valid_on {l : List UInt8} {k : Nat} (h : k < l.length) : validD (l.drop k) = if (decodeL (l.drop k)).1 = 65533 ∧ (decodeL (l.drop k)).2 = 1 then false else validD (l.drop (k + (decodeL (l.drop k)).2)) := by
  rw [Lib.validD_step _ (drop_ne h), List.drop_drop]
theorem valid_end {l : List UInt8} {k : Nat} (h : ¬ k < l.length) : validD (l.drop k) = true := by
  rw [List.drop_eq_nil_of_le (by omega)]
  rfl
def RightRel (l : List UInt8) (w : World) (w' : World) : Prop := ∃ k : Nat, k ≤ l.length ∧ validD (l.drop k) = validD l ∧ w' = w.iter (str l) k
def RRightRel (l : List UInt8) (u : Value) : Prop := ∃ k : Nat, k ≤ l.length ∧ validD (l.drop k) = validD l ∧ u = .string (str (l.drop k))
set_option maxHeartbeats 1600000 in
theorem rright_any (l : List UInt8) (w : World) (hl : l.length ≤ 1099511627776) :
    Calls Tryz.prog 53 #[.string (str l)] w (Pure w (.bool (validD l))) := by
  obtain ⟨V, hV⟩ : ∃ V, V = validD l := ⟨_, rfl⟩
  rw [← hV]
  have HV := Lib.hid hV
  clear hV
  go_enter Tryz.func53, Tryz.ntmps53
  go_wp2_with fail
  go_loop [0] (RRightRel l) (fun u => strLen u)
  case atStart => exact ⟨0, Nat.zero_le _, by simp, by simp⟩
  case round =>
    obtain ⟨k, hk, hj, rfl⟩ := hrel
    have hdl : (l.drop k).length = l.length - k := List.length_drop
    by_cases hkl : k < l.length
    · have hF := fun W => rfirst_any (l.drop k) W (by omega) (by omega)
      have hd := dec_on hkl
      have hon := valid_on hkl
      have hsl := fun W => slt (l.drop k) (decodeL (l.drop k)).2 (by omega) W
      rw [← HV.out] at hj
      rw [hj] at hon
      rw [List.drop_drop] at hsl
      have hpos : (0 : Int) < ((l.drop k).length : Int) := by omega
      unfold FirstV at hF
      generalize hdd : decodeL (l.drop k) = d at *
      have HF := Lib.hid hF
      have HJ := Lib.hid hj
      have HD := Lib.hid hd
      have HDD := Lib.hid hdd
      have HDL := Lib.hid hdl
      clear hF hj hd hdd hdl
      by_cases hc : d.1 = 65533
      · have hcI : ((d.1 : Int) == 65533) = true := by simp; omega
        by_cases h1 : d.2 = 1
        · have h1I : ((d.2 : Int) == 1) = true := by simp; omega
          rw [if_pos ⟨hc, h1⟩] at hon
          have HON := Lib.hid hon
          clear hc h1 hon
          go_wp2_with (go_at_call 72; refine (HF.out _).mono ?_; rintro e w' ⟨rfl, rfl⟩)
          go_ret
          exact ⟨by rw [HON.out]; rfl, rfl⟩
        · have h1I : ((d.2 : Int) == 1) = false := by simp; omega
          rw [if_neg (fun hh => h1 hh.2)] at hon
          have HON := Lib.hid hon
          clear hc h1 hon
          go_wp2_with (go_at_call 72; refine (HF.out _).mono ?_; rintro e w' ⟨rfl, rfl⟩)
          go_round
          case rel => exact ⟨k + d.2, HD.out.2, by rw [← HON.out, HV.out], rfl⟩
          case measure =>
            simp only [strLen_str, List.length_drop]
            have := HD.out
            omega
      · have hcI : ((d.1 : Int) == 65533) = false := by simp; omega
        rw [if_neg (fun hh => hc hh.1)] at hon
        have HON := Lib.hid hon
        clear hc hon
        go_wp2_with (go_at_call 72; refine (HF.out _).mono ?_; rintro e w' ⟨rfl, rfl⟩)
        go_round
        case rel => exact ⟨k + d.2, HD.out.2, by rw [← HON.out, HV.out], rfl⟩
        case measure =>
          simp only [strLen_str, List.length_drop]
          have := HD.out
          omega
    · rw [valid_end hkl, ← HV.out] at hj
      have hpos : ((l.drop k).length : Int) ≤ 0 := by omega
      have hnil : l.drop k = [] := List.drop_eq_nil_of_le (by omega)
      have HJ := Lib.hid hj
      rw [hnil]
      clear hj hpos hnil hdl
      go_wp2_with fail
      go_ret
      exact ⟨by rw [← HJ.out]; rfl, rfl⟩
end Go.Proofs.YtelhdkidnhfnbabGreatDoor
