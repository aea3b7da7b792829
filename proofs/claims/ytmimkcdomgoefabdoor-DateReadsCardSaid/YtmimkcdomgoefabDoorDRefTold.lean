/-
  The document's own moment of a date that was read, and its zones of signs and digits (newsstandref04.told, zone). Condition: the zone is within a day or so.
-/
import Derived.Test.YtmimkcdomgoefabDoorDRefNum
import Derived.Test.YtmimkcdomgoefabDoorDWeb
namespace Go.Proofs.YtmimkcdomgoefabDoor
open Go.RowKit

/-- A moment, and whether there is one. -/
def isV (o : Option Int) : Value := .tuple #[.int .i64 (o.getD 0), .bool o.isSome]
def toldR (y m d h mi s z : Int) : Option Int := momS y m d h mi s z ([], false)

set_option maxHeartbeats 1600000 in
theorem rtold_no (y m d h mi s z : Int) (w : World) (hk : ¬ okD y m d h mi s) :
    Calls Tryd.prog 30 #[.agg #[.int .i64 y, .int .i64 m, .int .i64 d, .int .i64 h, .int .i64 mi, .int .i64 s], .int .i64 z] w (Made w (isV none)) := by
  have HK := Lib.hid hk
  clear hk
  go_enter Tryd.func30, Tryd.ntmps30
  go_wp2_with fail
  refine (rcheck_no y m d h mi s _ HK.out).mono ?_
  rintro e w1 ⟨rfl, b1⟩
  go_wp2_with fail
  go_ret2
  exact ⟨rfl, ((Below.refl _ _).alloc (Nat.le_refl _) _).trans (b1.mono (by simp))⟩

set_option maxHeartbeats 3200000 in
theorem rtold_yes (y m d h mi s z : Int) (w : World) (hk : okD y m d h mi s) (hz1 : -1000000 ≤ z) (hz2 : z ≤ 1000000) :
    Calls Tryd.prog 30 #[.agg #[.int .i64 y, .int .i64 m, .int .i64 d, .int .i64 h, .int .i64 mi, .int .i64 s], .int .i64 z] w (Made w (isV (if mayN (momN y m d h mi s - z) = true then some (momN y m d h mi s - z) else none))) := by
  have hblk := Blk.fresh w 30 #[.int .i64 y, .int .i64 m, .int .i64 d, .int .i64 h, .int .i64 mi, .int .i64 s]
  have HB0 := Lib.hid hblk
  obtain ⟨hv, hc⟩ := okD_valid hk
  have hrg := mom_range hv hc
  have hmom := fun w1 => rmoment_any y m d h mi s w1 hv hc
  generalize momN y m d h mi s = M at hmom hrg
  obtain ⟨hg1, hg2⟩ := hrg
  have HM := Lib.hid hmom
  have HK := Lib.hid hk
  have hw : IntKind.i64.wrap (M - z) = M - z := IntWalk.i64_in _ (by omega)
  obtain ⟨N, hN⟩ : ∃ N : Int, M - z = N := ⟨_, rfl⟩
  rw [hN] at hw ⊢
  cases hm : mayN N
  case' false => rw [if_neg (by simp)]
  case' true => rw [if_pos rfl]
  all_goals
    have HMY := Lib.hid hm
    clear hblk hmom hv hc hg1 hg2 hk hz1 hz2 hm
    go_enter Tryd.func30, Tryd.ntmps30
    go_wp2_with fail
    refine (rcheck_ok y m d h mi s _ HK.out).mono ?_
    rintro e w1 ⟨rfl, b1⟩
    have hb1 : Below w.heap.size w w1 := ((Below.refl _ _).alloc (Nat.le_refl _) _).trans (b1.mono (by simp))
    have hd1 : Blk w1 w.heap.size 30 #[.int .i64 y, .int .i64 m, .int .i64 d, .int .i64 h, .int .i64 mi, .int .i64 s] := HB0.out.below b1 (by simp)
    have B1 := Lib.hid hb1
    have D1 := Lib.hid hd1
    have c0 : (w1).cell? ⟨w.heap.size, 0, none⟩ = some (.int .i64 y) := Blk.cell hd1 0
    have c1 : (w1).cell? ⟨w.heap.size, 1, none⟩ = some (.int .i64 m) := Blk.cell hd1 1
    have c2 : (w1).cell? ⟨w.heap.size, 2, none⟩ = some (.int .i64 d) := Blk.cell hd1 2
    have c3 : (w1).cell? ⟨w.heap.size, 3, none⟩ = some (.int .i64 h) := Blk.cell hd1 3
    have c4 : (w1).cell? ⟨w.heap.size, 4, none⟩ = some (.int .i64 mi) := Blk.cell hd1 4
    have c5 : (w1).cell? ⟨w.heap.size, 5, none⟩ = some (.int .i64 s) := Blk.cell hd1 5
    clear b1 hb1 hd1
    go_wp2_with fail
    refine (HM.out _).mono ?_
    rintro e w2 ⟨rfl, b2⟩
    have hb2 : Below w.heap.size w w2 := B1.out.trans (b2.mono B1.out.size)
    have hd2 : Blk w2 w.heap.size 30 #[.int .i64 y, .int .i64 m, .int .i64 d, .int .i64 h, .int .i64 mi, .int .i64 s] := D1.out.below b2 D1.out.lt
    have B2 := Lib.hid hb2
    have D2 := Lib.hid hd2
    clear b2 hb2 hd2
    clear c0 c1 c2 c3 c4 c5
    go_wp2_with fail
    refine (rmay_any _ _).mono ?_
    rw [HMY.out]
    rintro e w3 ⟨rfl, b3⟩
    have hb3 : Below w.heap.size w w3 := B2.out.trans (b3.mono B2.out.size)
    have hd3 : Blk w3 w.heap.size 30 #[.int .i64 y, .int .i64 m, .int .i64 d, .int .i64 h, .int .i64 mi, .int .i64 s] := D2.out.below b3 D2.out.lt
    have B3 := Lib.hid hb3
    have c0 : (w3).cell? ⟨w.heap.size, 0, none⟩ = some (.int .i64 y) := Blk.cell hd3 0
    have c1 : (w3).cell? ⟨w.heap.size, 1, none⟩ = some (.int .i64 m) := Blk.cell hd3 1
    have c2 : (w3).cell? ⟨w.heap.size, 2, none⟩ = some (.int .i64 d) := Blk.cell hd3 2
    have c3 : (w3).cell? ⟨w.heap.size, 3, none⟩ = some (.int .i64 h) := Blk.cell hd3 3
    have c4 : (w3).cell? ⟨w.heap.size, 4, none⟩ = some (.int .i64 mi) := Blk.cell hd3 4
    have c5 : (w3).cell? ⟨w.heap.size, 5, none⟩ = some (.int .i64 s) := Blk.cell hd3 5
    clear b3 hb3 hd3
    go_wp2_with fail
  rotate_left
  · go_ret2
    exact ⟨rfl, B3.out⟩
  · refine (HM.out _).mono ?_
    rintro e w4 ⟨rfl, b4⟩
    have hb4 : Below w.heap.size w w4 := B3.out.trans (b4.mono B3.out.size)
    have B4 := Lib.hid hb4
    clear b4 hb4
    clear c0 c1 c2 c3 c4 c5
    go_wp2_with fail
    go_ret2
    exact ⟨rfl, B4.out⟩

theorem rtold_any (y m d h mi s z : Int) (w : World) (hz1 : -1000000 ≤ z) (hz2 : z ≤ 1000000) :
    Calls Tryd.prog 30 #[.agg #[.int .i64 y, .int .i64 m, .int .i64 d, .int .i64 h, .int .i64 mi, .int .i64 s], .int .i64 z] w (Made w (isV (toldR y m d h mi s z))) := by
  by_cases hk : okD y m d h mi s
  · have := rtold_yes y m d h mi s z w hk hz1 hz2
    have e : toldR y m d h mi s z = if mayN (momN y m d h mi s - z) = true then some (momN y m d h mi s - z) else none := by
      unfold toldR momS
      by_cases hc : mayN (momN y m d h mi s - z) = true
      · rw [if_pos hc, if_pos ⟨hk, rfl, hc⟩]
      · rw [if_neg hc, if_neg (fun hh => hc hh.2.2)]
    rw [e]
    exact this
  · have := rtold_no y m d h mi s z w hk
    have e : toldR y m d h mi s z = none := by
      unfold toldR momS
      rw [if_neg (fun hh => hk hh.1)]
    rw [e]
    exact this

/-- Hours and minutes that a place is ahead. -/
def zoneR (c : Nat) (a b : List UInt8) : Option Int :=
  if (c = 43 ∨ c = 45) ∧ a.length = 2 ∧ b.length = 2 ∧ 0 ≤ numR a ∧ numR a ≤ 23 ∧ 0 ≤ numR b ∧ numR b ≤ 59 then
    some (if c = 45 then -(3600 * numR a + 60 * numR b) else 3600 * numR a + 60 * numR b)
  else none
theorem zoneR_bd {c : Nat} {a b : List UInt8} {n : Int} (h : zoneR c a b = some n) : -1000000 ≤ n ∧ n ≤ 1000000 := by
  unfold zoneR at h
  split at h
  · rename_i hc
    injection h with h
    split at h <;> omega
  · cases h

set_option maxHeartbeats 3200000 in
theorem rzone_any (c : Nat) (a b : List UInt8) (w : World) (ha : a.length ≤ 140737488351232) (hb : b.length ≤ 140737488351232) :
    Calls Tryd.prog 31 #[.int .u8 (c : Int), .string (str a), .string (str b)] w (Pure w (isV (zoneR c a b))) := by
  have na := fun w1 => rnum_any a w1 ha
  have nb := fun w1 => rnum_any b w1 hb
  unfold zoneR
  generalize numR a = x at na ⊢
  generalize numR b = y at nb ⊢
  have NA := Lib.hid na
  have NB := Lib.hid nb
  clear na nb ha hb
  by_cases hc : c = 43 ∨ c = 45
  case neg =>
    rw [if_neg (fun hh => hc hh.1)]
    have h1 : ((c : Int) != 43) = true := by simp; omega
    have h2 : ((c : Int) != 45) = true := by simp; omega
    clear hc
    go_enter Tryd.func31, Tryd.ntmps31
    go_wp2_with fail
    refine (NA.out _).mono ?_
    rintro e w9 ⟨rfl, rfl⟩
    go_wp2_with fail
    refine (NB.out _).mono ?_
    rintro e w9 ⟨rfl, rfl⟩
    go_wp2_with fail
    go_ret2
    exact ⟨rfl, rfl⟩
  case pos =>
    by_cases hla : a.length = 2
    case neg =>
      rw [if_neg (fun hh => hla hh.2.1)]
      have h3 : ((a.length : Int) != 2) = true := by simp; omega
      clear hla
      rcases hc with rfl | rfl
      all_goals
        go_enter Tryd.func31, Tryd.ntmps31
        go_wp2_with fail
        refine (NA.out _).mono ?_
        rintro e w9 ⟨rfl, rfl⟩
        go_wp2_with fail
        refine (NB.out _).mono ?_
        rintro e w9 ⟨rfl, rfl⟩
        go_wp2_with fail
        go_ret2
        exact ⟨rfl, rfl⟩
    case pos =>
      have hlaI : (a.length : Int) = 2 := by omega
      by_cases hlb : b.length = 2
      case neg =>
        rw [if_neg (fun hh => hlb hh.2.2.1)]
        have h3 : ((b.length : Int) != 2) = true := by simp; omega
        clear hlb hla
        rcases hc with rfl | rfl
        all_goals
          go_enter Tryd.func31, Tryd.ntmps31
          go_wp2_with fail
          refine (NA.out _).mono ?_
          rintro e w9 ⟨rfl, rfl⟩
          go_wp2_with fail
          refine (NB.out _).mono ?_
          rintro e w9 ⟨rfl, rfl⟩
          go_wp2_with fail
          go_ret2
          exact ⟨rfl, rfl⟩
      case pos =>
        have hlbI : (b.length : Int) = 2 := by omega
        by_cases hr : 0 ≤ x ∧ x ≤ 23 ∧ 0 ≤ y ∧ y ≤ 59
        case neg =>
          rw [if_neg (fun hh => hr hh.2.2.2)]
          have hr' : decide (x < 0) = true ∨ (decide (x < 0) = false ∧ decide (23 < x) = true) ∨ (decide (x < 0) = false ∧ decide (23 < x) = false ∧ decide (y < 0) = true) ∨ (decide (x < 0) = false ∧ decide (23 < x) = false ∧ decide (y < 0) = false ∧ decide (59 < y) = true) := by
            simp only [decide_eq_true_eq, decide_eq_false_iff_not]
            omega
          clear hr hla hlb
          rcases hc with rfl | rfl <;> rcases hr' with h1 | ⟨h1, h2⟩ | ⟨h1, h2, h3⟩ | ⟨h1, h2, h3, h4⟩
          all_goals
            go_enter Tryd.func31, Tryd.ntmps31
            go_wp2_with fail
            refine (NA.out _).mono ?_
            rintro e w9 ⟨rfl, rfl⟩
            go_wp2_with fail
            refine (NB.out _).mono ?_
            rintro e w9 ⟨rfl, rfl⟩
            go_wp2_with fail
            go_ret2
            exact ⟨rfl, rfl⟩
        case pos =>
          rw [if_pos ⟨hc, hla, hlb, hr⟩]
          obtain ⟨h1, h2, h3, h4⟩ := hr
          have k1 : decide (x < 0) = false := decide_eq_false (by omega)
          have k2 : decide (23 < x) = false := decide_eq_false (by omega)
          have k3 : decide (y < 0) = false := decide_eq_false (by omega)
          have k4 : decide (59 < y) = false := decide_eq_false (by omega)
          have w1 : IntKind.i64.wrap (3600 * x) = 3600 * x := IntWalk.i64_in _ (by omega)
          have w2 : IntKind.i64.wrap (60 * y) = 60 * y := IntWalk.i64_in _ (by omega)
          have w3 : IntKind.i64.wrap (3600 * x + 60 * y) = 3600 * x + 60 * y := IntWalk.i64_in _ (by omega)
          have w4 : IntKind.i64.wrap (-(3600 * x + 60 * y)) = -(3600 * x + 60 * y) := IntWalk.i64_in _ (by omega)
          clear hla hlb h1 h2 h3 h4
          rcases hc with rfl | rfl
          all_goals
            go_enter Tryd.func31, Tryd.ntmps31
            go_wp2_with fail
            refine (NA.out _).mono ?_
            rintro e w9 ⟨rfl, rfl⟩
            go_wp2_with fail
            refine (NB.out _).mono ?_
            rintro e w9 ⟨rfl, rfl⟩
            go_wp2_with fail
            go_ret2
            exact ⟨rfl, rfl⟩
end Go.Proofs.YtmimkcdomgoefabDoor
