/-
  The text of runes: the program's and the document's. Condition: at most 2^40 runes.
-/
import Derived.Test.YtelhdkidnhfnbabGreatDoorURows
import Derived.Test.YtelhdkidnhfnbabGreatDoorURune
import Derived.Test.YtelhdkidnhfnbabGreatDoorShelfB
namespace Go.Proofs.YtelhdkidnhfnbabGreatDoor
open Go.RowKit
open Go.Lib (decodeL encodeRune)

theorem encode_str (c : Int) : Utf8.encode c = str (encodeRune c) := by
  have e : (fixR c).toNat = if Utf8.valid c then c.toNat else Utf8.runeError := by
    rw [validRune_eq]
    unfold validRune
    by_cases h : okR c
    · rw [fixR_of h]
      unfold okR at h
      rw [decide_eq_true (by omega), if_pos rfl]
    · have e : fixR c = 65533 := if_neg h
      rw [e]
      unfold okR at h
      rw [decide_eq_false (by omega), if_neg (by simp)]
      rfl
  have h := fixR_ok c
  rw [enc_fix]
  unfold Utf8.encode
  simp only [← e]
  generalize fixR c = d at h
  unfold okR at h
  unfold encodeRune str
  by_cases h1 : d.toNat < 128
  · rw [if_pos h1, Lib.encodeRuneZ_one (by omega) (by omega)]
    rfl
  · rw [if_neg h1]
    by_cases h2 : d.toNat < 2048
    · rw [if_pos h2, Lib.encodeRuneZ_two (by omega) (by omega)]
      simp only [List.map_cons, List.map_nil]
      rw [show (192 + d / 64).toNat = 192 + d.toNat / 64 by omega, show (128 + d % 64).toNat = 128 + d.toNat % 64 by omega]
    · rw [if_neg h2]
      by_cases h3 : d.toNat < 65536
      · rw [if_pos h3, Lib.encodeRuneZ_three (by omega)]
        simp only [List.map_cons, List.map_nil]
        rw [show (224 + d / 4096).toNat = 224 + d.toNat / 4096 by omega, show (128 + d / 64 % 64).toNat = 128 + d.toNat / 64 % 64 by omega, show (128 + d % 64).toNat = 128 + d.toNat % 64 by omega]
      · rw [if_neg h3, Lib.encodeRuneZ_four (by omega) (by omega)]
        simp only [List.map_cons, List.map_nil]
        rw [show (240 + d / 262144).toNat = 240 + d.toNat / 262144 by omega, show (128 + d / 4096 % 64).toNat = 128 + d.toNat / 4096 % 64 by omega, show (128 + d / 64 % 64).toNat = 128 + d.toNat / 64 % 64 by omega, show (128 + d % 64).toNat = 128 + d.toNat % 64 by omega]

/-- A builder of the call's own that holds these bytes. -/
def Bld (g : Nat) (l : List UInt8) (w : World) : Prop := Lib.IsBuilderF 44 5 g g (Lib.byteCells l) w
theorem bld_new (w : World) : Bld w.heap.size [] (w.alloc (.cells #[.pointer none, .slice none 0 0] 44)) := Lib.IsBuilderF.of (Lib.fresh_isBuilder 44 5 w)
theorem bld_string (g : Nat) (l : List UInt8) (s : List UInt8) (w : World) (h : Bld g l w) (hlen : l.length + s.length ≤ 140737488355328) (hg : g ≤ w.heap.size) :
    Calls Tryz.prog 28 #[.pointer (some ⟨g, 0, none⟩), .string (str s)] w fun e w' => e = .returned (.tuple #[.int .i64 s.length, .nilIface]) ∧ Bld g (l ++ s) w' ∧ Below g w w' ∧ Lib.OthersKept 5 (some g) w w' := by
  refine (Tryz.xWriteString g g (Lib.byteCells l) (str s) w h (by rw [Lib.byteCells_length, str_size]; exact hlen) hg).mono ?_
  rintro e w' ⟨rfl, h1, h2, h3⟩
  refine ⟨by rw [str_size], ?_, h2, h3⟩
  unfold Bld
  rw [Lib.byteCells_append]
  exact Or.inr h1
theorem bld_byte (g : Nat) (l : List UInt8) (c : UInt8) (w : World) (h : Bld g l w) (hlen : l.length + 1 ≤ 140737488355328) (hg : g ≤ w.heap.size) :
    Calls Tryz.prog 68 #[.pointer (some ⟨g, 0, none⟩), .int .u8 (c.toNat : Int)] w fun e w' => e = .returned .nilIface ∧ Bld g (l ++ [c]) w' ∧ Below g w w' ∧ Lib.OthersKept 5 (some g) w w' := by
  refine (Tryz.xWriteByte g g (Lib.byteCells l) (c.toNat : Int) w h (by rw [Lib.byteCells_length]; exact hlen) hg).mono ?_
  rintro e w' ⟨rfl, h1, h2, h3⟩
  refine ⟨rfl, ?_, h2, h3⟩
  unfold Bld
  rw [Lib.byteCells_append]
  exact Or.inr h1
theorem bld_len (g : Nat) (l : List UInt8) (w : World) (h : Bld g l w) :
    Calls Tryz.prog 67 #[.pointer (some ⟨g, 0, none⟩)] w (Pure w (.int .i64 (l.length : Int))) := by
  refine (Tryz.Builder_Len_f g g (Lib.byteCells l) w h).mono ?_
  rintro e w' ⟨rfl, rfl⟩
  exact ⟨by rw [Lib.byteCells_length], rfl⟩
theorem bld_end (g : Nat) (l : List UInt8) (w : World) (h : Bld g l w) (hg : g ≤ w.heap.size) :
    Calls Tryz.prog 31 #[.pointer (some ⟨g, 0, none⟩)] w fun e w' => e = .returned (.string (str l)) ∧ Below g w w' := by
  refine (Tryz.Builder_String_any_k g g l w h hg).mono ?_
  rintro e w' ⟨rfl, _, h2, _⟩
  exact ⟨rfl, h2⟩

def PutRel (rs : List Int) (w : World) (u : Value) (W : World) : Prop :=
  ∃ k : Nat, k ≤ rs.length ∧ u = .int .i64 (k : Int) ∧ Bld w.heap.size (put (rs.take k)) W ∧ Below w.heap.size w W
theorem put_take {rs : List Int} {k : Nat} (h : k < rs.length) : put (rs.take (k + 1)) = put (rs.take k) ++ encodeRune rs[k] := by
  rw [List.take_succ_eq_append_getElem h, put_snoc]
theorem put_take_len (rs : List Int) (k : Nat) : (put (rs.take k)).length ≤ 4 * rs.length := by
  have h1 := (put_len (rs.take k)).2
  have h2 := List.length_take_le k rs
  have h3 : (rs.take k).length ≤ rs.length := by rw [List.length_take]; omega
  omega
set_option maxHeartbeats 1600000 in
theorem put_any (rs : List Int) (v : Value) (w : World) (hr : RdV w w.heap.size v (rvs rs)) (hl : rs.length ≤ 1099511627776) :
    Calls Tryz.prog 89 #[v] w (Made w (.string (str (put rs)))) := by
  obtain ⟨A, c, rfl, h1, h2, hc⟩ := hr
  rw [rvs_length] at h1
  rw [rvs_length rs]
  have hb0 := bld_new w
  have hw0 : Below w.heap.size w (w.alloc (.cells #[.pointer none, .slice none 0 0] 44)) := (Below.refl _ _).alloc (Nat.le_refl _) _
  have HB0 := Lib.hid hb0
  have HC := Lib.hid hc
  clear hb0 hc h1 h2
  go_enter Tryz.func89, Tryz.ntmps89
  go_wp2_with fail
  go_loopw [8] (PutRel rs w) (fun u _ => rs.length - (intOf u).toNat)
  case atStart => exact ⟨0, Nat.zero_le _, rfl, HB0.out, hw0⟩
  case round =>
    obtain ⟨k, hk, rfl, hbd, hbw⟩ := hrel
    have hsz := hbw.size
    by_cases hkl : k < rs.length
    · have hkI : (k : Int) < (rs.length : Int) := by omega
      obtain ⟨b, o, rfl, hbl, hcc⟩ := HC.out (by rw [rvs_length]; omega)
      have hx := hcc k (by rw [rvs_length]; exact hkl)
      have ex : (rvs rs)[k]'(by rw [rvs_length]; exact hkl) = .int .i32 rs[k] := by simp [rvs]
      rw [ex] at hx
      have hx2 := (hbw.cell (p := ⟨b, o + k, none⟩) hbl).trans hx
      have hpt := put_take hkl
      have hpl := put_take_len rs k
      have henc := encode_str rs[k]
      have hel := enc_len rs[k]
      generalize rs[k] = x at hx2 hpt henc hel
      have HPT := Lib.hid hpt
      have HPL := Lib.hid hpl
      have HEL := Lib.hid hel
      clear hpt hpl hx ex hcc hel
      go_wp2_with (go_at_call 28; go_must (refine (bld_string w.heap.size _ _ _ hbd (by have := HPL.out; have := HEL.out; omega) hsz).mono ?_); rintro e w1 ⟨rfl, h1, b1, _⟩)
      go_roundw
      case rel => exact ⟨k + 1, by omega, by go_num, by rw [HPT.out]; exact h1, hbw.trans b1⟩
      case measure => simp [intOf]; omega
    · have hkI : ¬ (k : Int) < (rs.length : Int) := by omega
      rw [List.take_of_length_le (by omega)] at hbd
      go_wp2_with (go_at_call 31; go_must (refine (bld_end w.heap.size _ _ hbd hsz).mono ?_); rintro e w1 ⟨rfl, b1⟩)
      go_ret
      exact ⟨rfl, hbw.trans b1⟩
end Go.Proofs.YtelhdkidnhfnbabGreatDoor
