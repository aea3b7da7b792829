/-
  The document's own word on names (newsstandref03.Name): it is the program's. Condition: the text's length is a length.
-/
import Derived.Test.YtincdegoiknfhabKName
import Derived.Lib.TrimAscii
namespace Go.Proofs.Ytincdegoiknfhab
open Go.RowKit
open Go.Lib (decodeL encodeRune)

theorem enc_low (c : Int) (h0 : 0 ≤ c) (h : c < 128) : encodeRune c = [c.toNat.toUInt8] := by
  unfold Go.Lib.encodeRune Go.Lib.encodeRuneZ
  rw [if_pos (by omega)]
  rfl
theorem sign_low {c : Int} (h : signB c = true) : 0 ≤ c ∧ c < 128 := by
  unfold signB at h
  simp only [Bool.or_eq_true, Bool.and_eq_true, decide_eq_true_eq, beq_iff_eq] at h
  omega
/-- What a text begins with that begins with no letter of ASCII is none. -/
theorem dec_high (b : UInt8) (t : List UInt8) (h : ¬ b.toNat < 128) : ¬ (decodeL (b :: t)).1 < 128 := by
  intro hc
  have hne : b :: t ≠ [] := by simp
  have hv : ¬ ((decodeL (b :: t)).1 = 65533 ∧ (decodeL (b :: t)).2 = 1) := by omega
  have h1 := Lib.encode_decode (b :: t) hne hv
  have h2 := Lib.decodeL_width (b :: t)
  rw [enc_low _ (by omega) (by omega)] at h1
  obtain ⟨n, hn⟩ : ∃ n, (decodeL (b :: t)).2 = n + 1 := ⟨(decodeL (b :: t)).2 - 1, by omega⟩
  rw [hn, List.take_succ_cons] at h1
  injection h1 with h1 _
  rw [← h1] at h
  apply h
  simp only [Int.toNat_natCast, Nat.toUInt8, UInt8.toNat_ofNat']
  omega
def signU (c : UInt8) : Bool := signB (c.toNat : Int)
theorem signs_all : ∀ (n : Nat) (l : List UInt8), l.length ≤ n → (runes l).all signB = l.all signU
  | 0, l, h => by
    have : l = [] := List.length_eq_zero_iff.1 (by omega)
    subst this
    rfl
  | n + 1, [], _ => rfl
  | n + 1, b :: t, h => by
    rw [runes_step (by simp), List.all_cons, List.all_cons]
    by_cases hb : b.toNat < 128
    · rw [Lib.decodeL_ascii b t hb]
      show (signB ((b.toNat : Nat) : Int) && (runes ((b :: t).drop 1)).all signB) = _
      rw [List.drop_one, List.tail_cons, signs_all n t (by simpa using h)]
      rfl
    · have h1 : signB ((decodeL (b :: t)).1 : Int) = false := by
        cases hs : signB ((decodeL (b :: t)).1 : Int) with
        | false => rfl
        | true => exact (dec_high b t hb (by have := sign_low hs; omega)).elim
      have h2 : signU b = false := by
        cases hs : signU b with
        | false => rfl
        | true => exact (hb (by have := sign_low hs; omega)).elim
      rw [h1, h2]
      rfl
theorem nameB_u (l : List UInt8) : nameB l = (decide (1 ≤ l.length) && decide (l.length ≤ 24) && l.all signU) := by
  unfold nameB
  rw [signs_all _ l (Nat.le_refl _)]
theorem at0_sign (l : List UInt8) (k : Nat) (h : k < l.length) : signU l[k] = signB (at0B l k : Int) := by
  unfold signU at0B
  rw [show l.getD k 0 = l[k] by simp [List.getD, h]]
theorem all_next (l : List UInt8) (k : Nat) (h : k < l.length) (ha : (l.take k).all signU = true) (hs : signB (at0B l k : Int) = true) : (l.take (k + 1)).all signU = true := by
  rw [List.take_succ_eq_append_getElem h, List.all_append, ha, List.all_cons, at0_sign l k h, hs]
  rfl
theorem all_not (l : List UInt8) (k : Nat) (h : k < l.length) (hs : signB (at0B l k : Int) = false) : nameB l = false := by
  rw [nameB_u]
  have : l.all signU = false := by
    rw [List.all_eq_false]
    exact ⟨l[k], List.getElem_mem h, by rw [at0_sign l k h, hs]; decide⟩
  rw [this, Bool.and_false]
def RNameRel (l : List UInt8) (u : Value) : Prop := ∃ k : Nat, k ≤ l.length ∧ (l.take k).all signU = true ∧ u = .int .i64 (k : Int)
set_option maxHeartbeats 3200000 in
theorem rname (l : List UInt8) (w : World) (hl : l.length ≤ maxLen) : Calls Try.prog 62 #[.string (str l)] w (Ans w (.bool (nameB l))) := by
  unfold maxLen at hl
  go_enter Try.func62, Try.ntmps62
  go_wp2_with fail
  go_loop [3] (RNameRel l) (fun u => l.length - (intOf u).toNat)
  case atStart => exact ⟨0, Nat.zero_le _, by simp, rfl⟩
  case round =>
    obtain ⟨k, hk, ha, rfl⟩ := hrel
    by_cases hlt : k < l.length
    · have hix := idx_at l k hlt
      have hx0 : (0 : Int) ≤ (at0B l k : Int) := by omega
      have hx1 : (at0B l k : Int) < 256 := by have := at0B_lt l k; omega
      have HN : Hid (signB (at0B l k : Int) = true → (l.take (k + 1)).all signU = true) := Lib.hid (all_next l k hlt ha)
      have HF : Hid (signB (at0B l k : Int) = false → nameB l = false) := Lib.hid (all_not l k hlt)
      have hi : (k : Int) < (l.length : Int) := by omega
      clear ha
      generalize hx : (at0B l k : Int) = x at *
      clear hx
      by_cases h1 : 97 ≤ x ∧ x ≤ 122
      · have HS : Hid (signB x = true) := Lib.hid (by unfold signB; rw [decide_eq_true h1.1, decide_eq_true h1.2]; rfl)
        obtain ⟨a1, a2⟩ := h1
        go_wp2_with fail
        go_round
        case rel => exact ⟨k + 1, by omega, HN.out HS.out, by go_num⟩
        case measure => simp [intOf]; omega
      · have e1 : (decide (97 ≤ x) && decide (x ≤ 122)) = false := by
          rw [Bool.and_eq_false_iff, decide_eq_false_iff_not, decide_eq_false_iff_not]; omega
        by_cases h2 : 48 ≤ x ∧ x ≤ 57
        · have HS : Hid (signB x = true) := Lib.hid (by unfold signB; rw [e1, decide_eq_true h2.1, decide_eq_true h2.2]; rfl)
          obtain ⟨a1, a2⟩ := h2
          have b1 : ¬ 97 ≤ x := by omega
          clear h1 e1
          go_wp2_with fail
          go_round
          case rel => exact ⟨k + 1, by omega, HN.out HS.out, by go_num⟩
          case measure => simp [intOf]; omega
        · have e2 : (decide (48 ≤ x) && decide (x ≤ 57)) = false := by
            rw [Bool.and_eq_false_iff, decide_eq_false_iff_not, decide_eq_false_iff_not]; omega
          by_cases h3 : x = 46
          · subst h3
            have HS : Hid (signB 46 = true) := Lib.hid rfl
            clear h1 h2 e1 e2
            go_wp2_with fail
            go_round
            case rel => exact ⟨k + 1, by omega, HN.out HS.out, by go_num⟩
            case measure => simp [intOf]; omega
          · have c3 : (x == 46) = false := by simp [h3]
            by_cases h4 : x = 45
            · subst h4
              have HS : Hid (signB 45 = true) := Lib.hid rfl
              clear h1 h2 e1 e2 c3 h3
              go_wp2_with fail
              go_round
              case rel => exact ⟨k + 1, by omega, HN.out HS.out, by go_num⟩
              case measure => simp [intOf]; omega
            · have c4 : (x == 45) = false := by simp [h4]
              have HS : Hid (signB x = false) := Lib.hid (by unfold signB; rw [e1, e2, c3, c4]; rfl)
              clear e1 e2 h3 h4
              by_cases b1 : 97 ≤ x
              · have b2 : ¬ x ≤ 122 := fun z => h1 ⟨b1, z⟩
                have b3 : 48 ≤ x := by omega
                have b4 : ¬ x ≤ 57 := by omega
                clear h1 h2
                go_wp2_with fail
                go_ret
                exact ⟨by rw [HF.out HS.out]; rfl, rfl⟩
              · by_cases b3 : 48 ≤ x
                · have b4 : ¬ x ≤ 57 := fun z => h2 ⟨b3, z⟩
                  clear h1 h2
                  go_wp2_with fail
                  go_ret
                  exact ⟨by rw [HF.out HS.out]; rfl, rfl⟩
                · clear h1 h2
                  go_wp2_with fail
                  go_ret
                  exact ⟨by rw [HF.out HS.out]; rfl, rfl⟩
    · have hke : k = l.length := by omega
      subst hke
      rw [List.take_length] at ha
      have hv : nameB l = (decide (1 ≤ l.length) && decide (l.length ≤ 24)) := by rw [nameB_u, ha, Bool.and_true]
      have HV := Lib.hid hv
      clear hv ha
      by_cases b1 : (1 : Int) ≤ (l.length : Int)
      · by_cases b2 : (l.length : Int) ≤ 24
        · go_wp2_with fail
          go_ret
          exact ⟨by rw [HV.out, decide_eq_true (by omega), decide_eq_true (by omega)]; rfl, rfl⟩
        · go_wp2_with fail
          go_ret
          exact ⟨by rw [HV.out, decide_eq_true (by omega), decide_eq_false (by omega)]; rfl, rfl⟩
      · go_wp2_with fail
        go_ret
        exact ⟨by rw [HV.out, decide_eq_false (by omega)]; rfl, rfl⟩
end Go.Proofs.Ytincdegoiknfhab
