/-
  crc.More, crc.Sum and the document's own: the sums that they answer. Conditions: the slice reads as bytes; the table halves is as the program's text lays it.
-/
import Derived.Test.YtjflfennmeackaaDoorCrc
import Derived.Test.YtjflfennmeackaaDoorRegion
import Derived.Laws.BitsAllLaws
namespace Go.Proofs.YtjflfennmeackaaDoor
open Go.RowKit

/-- The table stands in its variable. -/
def Halves (w : World) : Prop := 0 < w.heap.size ∧ ∀ i, i < 16 → w.cell? ⟨0, i, none⟩ = some (.int .u32 (halfT i : Int))

theorem Halves.below {w w' : World} {B : Nat} (h : Halves w) (hb : Below B w w') (hB : 0 < B) : Halves w' :=
  ⟨Nat.lt_of_lt_of_le h.1 hb.size, fun i hi => (hb.cell (p := ⟨0, i, none⟩) hB).trans (h.2 i hi)⟩
theorem Halves.next {w w' : World} (h : Halves w) (hb : Below w.heap.size w w') : Halves w' := h.below hb h.1

theorem halfT_lt (i : Nat) (h : i < 16) : halfT i < 4294967296 := steps_lt 4 i (by omega)

def MoreRel (s : Nat) (l : List UInt8) (u5 u12 : Value) : Prop :=
  ∃ k : Nat, k ≤ l.length ∧ u12 = .int .i64 (k : Int) ∧ u5 = .int .u32 (regB (4294967295 - s) (l.take k) : Int)

theorem not_u32 (s : Nat) (hs : s < 4294967296) : bits .xor .u32 (if IntKind.u32.signed = true then -1 else IntKind.u32.max) (s : Int) = ((4294967295 - s : Nat) : Int) := by
  have e : (if IntKind.u32.signed = true then (-1 : Int) else IntKind.u32.max) = ((4294967295 : Nat) : Int) := rfl
  rw [e, u32_xor_nat 4294967295 s (by decide) hs]
  congr 1
  apply Nat.eq_of_testBit_eq
  intro i
  rw [Nat.testBit_xor, show (4294967295 : Nat) = 2 ^ 32 - 1 from rfl, Nat.testBit_two_pow_sub_one, show (2 ^ 32 - 1 - s : Nat) = 2 ^ 32 - (s + 1) by omega, Nat.testBit_two_pow_sub_succ (show s < 2 ^ 32 by omega)]
  by_cases hi : i < 32
  · simp [hi]
  · simp only [hi, decide_false, Bool.false_bne, Bool.false_and]
    exact Nat.testBit_lt_two_pow (Nat.lt_of_lt_of_le (show s < 2 ^ 32 by omega) (Nat.pow_le_pow_right (show 0 < 2 by decide) (Nat.le_of_not_lt hi)))

/-- One byte's round, in the walk's own words. -/
theorem more_round {w : World} {r y : Nat} (hr : r < 4294967296) (hy : y < 256) (hH : Halves w) : ∃ a t1 b t2 d : Nat,
    bits .xor .u32 (r : Int) (y : Int) = (a : Int) ∧ bits .and .u32 (a : Int) 15 = ((a : Int) % 16) ∧ w.cell? ⟨0, a % 16, none⟩ = some (.int .u32 (t1 : Int)) ∧ bits .xor .u32 ((a : Int) / 16) (t1 : Int) = (b : Int) ∧
    bits .and .u32 (b : Int) 15 = ((b : Int) % 16) ∧ w.cell? ⟨0, b % 16, none⟩ = some (.int .u32 (t2 : Int)) ∧ bits .xor .u32 ((b : Int) / 16) (t2 : Int) = (d : Int) ∧ d = stepB r y := by
  have ha : r ^^^ y < 2 ^ 32 := Nat.xor_lt_two_pow (by omega) (by omega)
  have mask : ∀ n : Nat, n < 4294967296 → bits .and .u32 (n : Int) 15 = ((n : Int) % 16) := fun n hn => by
    have := u32_and_nat n 15 hn (by decide)
    rw [nat_mask4] at this
    rw [show (15 : Int) = ((15 : Nat) : Int) from rfl, this]; simp
  generalize hA : r ^^^ y = a at ha
  have hb := steps_lt 4 a (by omega)
  have e1 : bits .xor .u32 ((a : Int) / 16) (halfT (a % 16) : Int) = (steps 4 a : Int) := by
    have := u32_xor_nat (a / 16) (halfT (a % 16)) (by omega) (halfT_lt _ (by omega))
    rw [nib_eq] at this
    rw [← this]; simp
  have e2 : bits .xor .u32 ((steps 4 a : Int) / 16) (halfT (steps 4 a % 16) : Int) = (steps 4 (steps 4 a) : Int) := by
    have := u32_xor_nat (steps 4 a / 16) (halfT (steps 4 a % 16)) (by omega) (halfT_lt _ (by omega))
    rw [nib_eq] at this
    rw [← this]; simp
  refine ⟨a, _, _, _, _, ?_, mask a (by omega), hH.2 _ (by omega), e1, mask _ (by omega), hH.2 _ (by omega), e2, ?_⟩
  · rw [u32_xor_nat _ _ hr (by omega), hA]
  · rw [stepB_eq, hA]

set_option maxHeartbeats 800000 in
theorem more_any (s : Nat) (v : Value) (l : List UInt8) (B : Nat) (w : World) (hs : (s : Int) < 4294967296) (hr : Rd w B v l) (hH : Halves w) :
    Calls Tryd.prog 10 #[.int .u32 (s : Int), v] w fun e w' => e = .returned (.int .u32 (moreN s l : Int)) ∧ w = w' := by
  obtain ⟨A, c, rfl, hlc, hcm, hA⟩ := hr
  unfold maxLen at hcm
  have hlm : (l.length : Int) ≤ 9223372036854775807 := by omega
  have hnot := not_u32 s (by omega)
  generalize hr0 : 4294967295 - s = r0 at hnot
  have Hr0 := Lib.hid hr0
  have hH0 := Lib.hid hH
  clear hH hcm hs hr0
  go_enter Tryd.func10, Tryd.ntmps10
  go_wp2_with fail
  clear hnot
  go_loop [5, 12] (MoreRel s l) (fun _ i => l.length - (intOf i).toNat)
  case atStart => exact ⟨0, by omega, rfl, by rw [← Hr0.out]; rfl⟩
  case round =>
    obtain ⟨k, hk, rfl, rfl⟩ := hrel
    have hrl := regB_lt (l.take k) (4294967295 - s) (by omega)
    generalize hr : regB (4294967295 - s) (l.take k) = r at hrl
    have Hr := Lib.hid hr
    clear hr
    by_cases hlt : k < l.length
    · obtain ⟨b, o, rfl, _, hc⟩ := hA (by omega)
      have hcell := hc k hlt
      unfold u8v at hcell
      have hby : l[k].toNat < 256 := l[k].toNat_lt
      generalize hy : l[k].toNat = y at hcell hby
      have Hy := Lib.hid hy
      obtain ⟨a, t1, b1, t2, d, hall⟩ := more_round (w := w) hrl hby hH0.out
      obtain ⟨e1, e2, e3, e4, e5, e6, e7, hd⟩ := hall
      have Hd := Lib.hid hd
      have Hrl := Lib.hid hrl
      clear hc hA hy hrl hd
      go_wp2
      go_round
      case rel => exact ⟨k + 1, by omega, by go_num, by rw [regB_snoc _ _ _ hlt, Hr.out, Hy.out, ← Hd.out]⟩
      case measure => simp [intOf]; omega
    · have hfin : moreN s l = 4294967295 - r := by
        unfold moreN
        rw [← Hr.out, List.take_of_length_le (by omega)]
      have Hfin := Lib.hid hfin
      have hnot := not_u32 r hrl
      generalize hq : 4294967295 - r = q at hnot
      have Hq := Lib.hid hq
      clear hfin hrl hq
      go_wp2
      go_ret
      exact ⟨by rw [Hfin.out, Hq.out]; rfl, rfl⟩

set_option maxHeartbeats 400000 in
theorem sum_any (v : Value) (l : List UInt8) (B : Nat) (w : World) (hr : Rd w B v l) (hH : Halves w) :
    Calls Tryd.prog 8 #[v] w fun e w' => e = .returned (.int .u32 (moreN 0 l : Int)) ∧ w = w' := by
  have hc := more_any 0 v l B w (by decide) hr hH
  have Hc := Lib.hid hc
  clear hc
  go_enter Tryd.func8, Tryd.ntmps8
  go_wp2_with fail
  refine Hc.out.mono ?_
  rintro e w' ⟨rfl, rfl⟩
  go_wp2_with fail
  go_ret
  exact ⟨rfl, rfl⟩
end Go.Proofs.YtjflfennmeackaaDoor
