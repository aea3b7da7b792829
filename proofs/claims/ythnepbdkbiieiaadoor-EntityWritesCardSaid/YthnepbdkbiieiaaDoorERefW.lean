/-
  The document's own Write (newsstandref07): what it answers. Condition: at most 2^40 bytes.
-/
import Derived.Test.YthnepbdkbiieiaaDoorEWMath
import Derived.Test.YthnepbdkbiieiaaDoorURef3
namespace Go.Proofs.YthnepbdkbiieiaaDoor
open Go.RowKit

theorem wr_cat (a b : List UInt8) : str a ++ str b = str (a ++ b) := by
  apply ByteArray.ext
  simp [str]
theorem wr_next {l : List UInt8} {k : Nat} (h : k < l.length) : writeR (l.take (k + 1)) = writeR (l.take k) ++ escB l[k] := by
  rw [List.take_succ_eq_append_getElem h, writeR_append]
  congr 1
  unfold writeR
  rw [List.flatMap_cons, List.flatMap_nil, List.append_nil]
def RWrRel (l : List UInt8) (u3 u4 : Value) : Prop := ∃ k : Nat, k ≤ l.length ∧ u4 = .int .i64 (k : Int) ∧ u3 = .string (str (writeR (l.take k)))
set_option maxHeartbeats 3200000 in
theorem rwrite_any (l : List UInt8) (w : World) (hl : l.length ≤ 1099511627776) : Calls Tryd.prog 17 #[.string (str l)] w (Pure w (.string (str (writeR l)))) := by
  go_enter Tryd.func17, Tryd.ntmps17
  go_wp2_with fail
  go_loop [3, 4] (RWrRel l) (fun _ u4 => l.length - (intOf u4).toNat)
  case atStart => exact ⟨0, Nat.zero_le _, rfl, rfl⟩
  case round =>
    obtain ⟨k, hk, rfl, rfl⟩ := hrel
    have hwl := (writeR_len (l.take k)).2
    have hwl2 : (writeR (l.take k)).length ≤ 6 * l.length := by rw [List.length_take] at hwl; omega
    by_cases hlt : k < l.length
    · have hix := idx_at l k hlt
      have hsl := slc l k (k + 1) (by omega) (by omega)
      rw [show ((k + 1 : Nat) : Int) = (k : Int) + 1 from rfl] at hsl
      have hone : (l.drop k).take (k + 1 - k) = [l[k]] := by
        rw [show k + 1 - k = 1 by omega, drop_cons hlt, List.take_succ_cons, List.take_zero]
      rw [hone] at hsl
      have hnx := wr_next hlt
      have hx : at0B l k = l[k].toNat := by unfold at0B; rw [show l.getD k 0 = l[k] by simp [List.getD, hlt]]
      rw [hx] at hix
      have hx0 : (0 : Int) ≤ (l[k].toNat : Int) := by omega
      have hx1 : (l[k].toNat : Int) < 256 := by have := l[k].toNat_lt; omega
      have hi : (k : Int) < (l.length : Int) := by omega
      generalize writeR (l.take k) = W0 at *
      have hc : ∀ x : List UInt8, str W0 ++ str x = str (W0 ++ x) := fun x => wr_cat W0 x
      have HC := Lib.hid hc
      generalize hb : l[k] = b at *
      unfold escB at hnx
      have hsg := signE_iff (b.toNat : Int)
      clear hwl hone hx hb hc
      by_cases c1 : b.toNat = 38
      · have hv : writeR (l.take (k + 1)) = W0 ++ [38, 97, 109, 112, 59] := by rw [hnx, if_pos (hsg.2 (by omega)), c1]; rfl
        have HV := Lib.hid hv
        rw [c1] at hix
        clear hnx hsg hv hx0 hx1
        go_wp2_with fail
        go_round
        case rel => exact ⟨k + 1, by omega, by go_num, by rw [HV.out, ← HC.out]; rfl⟩
        case measure => simp [intOf]; omega
      · have d1 : (((b.toNat : Nat) : Int) == 38) = false := by simpa using fun h => c1 (by omega)
        by_cases c2 : b.toNat = 60
        · have hv : writeR (l.take (k + 1)) = W0 ++ [38, 108, 116, 59] := by rw [hnx, if_pos (hsg.2 (by omega)), c2]; rfl
          have HV := Lib.hid hv
          rw [c2] at hix
          clear hnx hsg hv hx0 hx1 d1 c1
          go_wp2_with fail
          go_round
          case rel => exact ⟨k + 1, by omega, by go_num, by rw [HV.out, ← HC.out]; rfl⟩
          case measure => simp [intOf]; omega
        · have d2 : (((b.toNat : Nat) : Int) == 60) = false := by simpa using fun h => c2 (by omega)
          by_cases c3 : b.toNat = 62
          · have hv : writeR (l.take (k + 1)) = W0 ++ [38, 103, 116, 59] := by rw [hnx, if_pos (hsg.2 (by omega)), c3]; rfl
            have HV := Lib.hid hv
            rw [c3] at hix
            clear hnx hsg hv hx0 hx1 d1 c1 d2 c2
            go_wp2_with fail
            go_round
            case rel => exact ⟨k + 1, by omega, by go_num, by rw [HV.out, ← HC.out]; rfl⟩
            case measure => simp [intOf]; omega
          · have d3 : (((b.toNat : Nat) : Int) == 62) = false := by simpa using fun h => c3 (by omega)
            by_cases c4 : b.toNat = 34
            · have hv : writeR (l.take (k + 1)) = W0 ++ [38, 113, 117, 111, 116, 59] := by rw [hnx, if_pos (hsg.2 (by omega)), c4]; rfl
              have HV := Lib.hid hv
              rw [c4] at hix
              clear hnx hsg hv hx0 hx1 d1 c1 d2 c2 d3 c3
              go_wp2_with fail
              go_round
              case rel => exact ⟨k + 1, by omega, by go_num, by rw [HV.out, ← HC.out]; rfl⟩
              case measure => simp [intOf]; omega
            · have d4 : (((b.toNat : Nat) : Int) == 34) = false := by simpa using fun h => c4 (by omega)
              by_cases c5 : b.toNat = 39
              · have hv : writeR (l.take (k + 1)) = W0 ++ [38, 97, 112, 111, 115, 59] := by rw [hnx, if_pos (hsg.2 (by omega)), c5]; rfl
                have HV := Lib.hid hv
                rw [c5] at hix
                clear hnx hsg hv hx0 hx1 d1 c1 d2 c2 d3 c3 d4 c4
                go_wp2_with fail
                go_round
                case rel => exact ⟨k + 1, by omega, by go_num, by rw [HV.out, ← HC.out]; rfl⟩
                case measure => simp [intOf]; omega
              · have d5 : (((b.toNat : Nat) : Int) == 39) = false := by simpa using fun h => c5 (by omega)
                have hv : writeR (l.take (k + 1)) = W0 ++ [b] := by rw [hnx, if_neg (fun h => by have := hsg.1 h; omega)]
                have HV := Lib.hid hv
                clear hnx hsg hv c1 c2 c3 c4 c5
                generalize hxx : ((b.toNat : Nat) : Int) = x at *
                clear hxx
                have hs1 : (str [b]).size = 1 := by rw [str_size]; rfl
                generalize hsb : str [b] = sb at *
                have HSB := Lib.hid hsb
                clear hsb hx0 hx1
                have e1 : ¬ x = 38 := by simpa using d1
                have e2 : ¬ x = 60 := by simpa using d2
                have e3 : ¬ x = 62 := by simpa using d3
                have e4 : ¬ x = 34 := by simpa using d4
                have e5 : ¬ x = 39 := by simpa using d5
                clear d1 d2 d3 d4 d5
                go_wp2_with fail
                go_round
                case rel => exact ⟨k + 1, by omega, by go_num, by rw [HV.out, ← HC.out, HSB.out]⟩
                case measure => simp [intOf]; omega
    · have hke : l.take k = l := List.take_of_length_le (by omega)
      have HK := Lib.hid hke
      clear hke
      go_wp2_with fail
      go_ret
      exact ⟨by rw [HK.out]; rfl, rfl⟩
end Go.Proofs.YthnepbdkbiieiaaDoor
