/-
  DateOrders' call: it answers true. Condition: the table of powers of ten is as the library's text lays it.
-/
import Derived.Test.YtjflfennmeackabDoorDLives
namespace Go.Proofs.YtjflfennmeackabDoor
open Go.RowKit

theorem later_year {y m d y' m' d' : Int} (h : validD y m d) (h' : validD y' m' d') (hd : dayN y m d ≤ dayN y' m' d') : y ≤ y' := by
  have b := day_bd h
  have b' := day_bd h'
  rcases Int.lt_or_le y' y with hlt | hge
  · have := ahead_mono (y' + 1) y (by omega)
    omega
  · exact hge
theorem later_clock {D D' h mi s h' mi' s' n k : Int} (hc : clockD h mi s) (hc' : clockD h' mi' s') (h1 : 86400 * D + 3600 * h + 60 * mi + s - zeroN = n) (h2 : 86400 * D' + 3600 * h' + 60 * mi' + s' - zeroN = n + 86400 * k) : h = h' ∧ mi = mi' ∧ s = s' ∧ D' = D + k := by
  unfold clockD at hc hc'
  refine ⟨by omega, by omega, by omega, by omega⟩

theorem mon_ex (n y : Int) (h1 : 1 ≤ y) (h2 : y ≤ 9999) (hn : n < aheadN (y + 1)) : ∀ (f k : Nat), 13 - k ≤ f → 1 ≤ k → k ≤ 12 → 0 ≤ n - aheadN y - cumN y (k - 1) → ∃ m d : Int, validD y m d ∧ dayN y m d = n
  | 0, k, hf, _, hk2, _ => absurd hf (by omega)
  | f + 1, k, hf, hk1, hk2, hr => by
    by_cases hlt : n - aheadN y - cumN y (k - 1) < dimN y (k : Int)
    · obtain ⟨hv, hd⟩ := mon_fin h1 h2 hk1 hk2 hr hlt
      exact ⟨(k : Int), _, hv, hd⟩
    · obtain ⟨ha, hb, _⟩ := mon_more hn hk1 hk2 (by omega)
      exact mon_ex n y h1 h2 hn f (k + 1) (by omega) (by omega) ha hb
theorem year_ex (n : Int) (h1 : n ≤ 3652058) : ∀ (f : Nat) (y : Int), 10000 - y ≤ f → 1 ≤ y → y ≤ 9999 → aheadN y ≤ n → ∃ z : Int, 1 ≤ z ∧ z ≤ 9999 ∧ aheadN z ≤ n ∧ n < aheadN (z + 1)
  | 0, y, hf, _, hy2, _ => absurd hf (by omega)
  | f + 1, y, hf, hy1, hy2, ha => by
    by_cases hlt : n < aheadN (y + 1)
    · exact ⟨y, hy1, hy2, ha, hlt⟩
    · have hl := ahead_last
      have : y ≠ 9999 := fun e => by subst e; rw [show (9999 + 1 : Int) = 10000 from rfl] at hlt; omega
      exact year_ex n h1 f (y + 1) (by omega) (by omega) (by omega) (by omega)
theorem day_ex (n : Int) (h0 : 0 ≤ n) (h1 : n ≤ 3652058) : ∃ y m d : Int, validD y m d ∧ dayN y m d = n := by
  have e1 : aheadN 1 = 0 := rfl
  obtain ⟨y, hy1, hy2, ha, hb⟩ := year_ex n h1 10000 1 (by omega) (by omega) (by omega) (by omega)
  obtain ⟨m, d, hv, hd⟩ := mon_ex n y hy1 hy2 hb 13 1 (by omega) (by omega) (by omega) (by show 0 ≤ n - aheadN y - 0; omega)
  exact ⟨y, m, d, hv, hd⟩

/-- Each moment is a date's. -/
theorem date_of (n : Int) (hm : mayN n = true) : ∃ y m d h mi s : Int, validD y m d ∧ clockD h mi s ∧ momN y m d h mi s = n := by
  rw [may_iff] at hm
  obtain ⟨y, m, d, hv, hd⟩ := day_ex ((n + 62135596800) / 86400) (by omega) (by omega)
  exact ⟨y, m, d, _, _, _, hv, by unfold clockD; omega, of_mom n (n + 62135596800) y m d rfl hd⟩

set_option maxHeartbeats 1600000 in
set_option maxRecDepth 100000 in
theorem dord_main (n k : Int) (w : World) (hT : Tab w) (hk1 : 0 ≤ k) (hk2 : k ≤ 4000000) (hm : mayN n = true) (hm2 : mayN (n + 86400 * k) = true) :
    Calls Tryd.prog 6 #[.int .i64 n, .int .i64 k] w (Holds w) := by
  obtain ⟨y, m, d, h, mi, s, hv, hc, hmom⟩ : ∃ y m d h mi s : Int, validD y m d ∧ clockD h mi s ∧ momN y m d h mi s = n := date_of n hm
  obtain ⟨y2, m2, d2, h2, mi2, s2, hv2, hc2, hmom2⟩ : ∃ y m d h mi s : Int, validD y m d ∧ clockD h mi s ∧ momN y m d h mi s = n + 86400 * k := date_of (n + 86400 * k) hm2
  have hof : ∀ w0, Calls Tryd.prog 13 #[.int .i64 n] w0 (Made w0 (.tuple #[.agg #[.int .i64 y, .int .i64 m, .int .i64 d, .int .i64 h, .int .i64 mi, .int .i64 s], .int .i64 0])) := fun w0 => (of_yes n w0 hm).mono (by
    rintro e w5 ⟨y', m', d', h', mi', s', rfl, hv', hc', hm', hb'⟩
    obtain ⟨rfl, rfl, rfl, rfl, rfl, rfl⟩ := mom_inj hv' hc' hv hc (hm'.trans hmom.symm)
    exact ⟨rfl, hb'⟩)
  have hof2 : ∀ w0, Calls Tryd.prog 13 #[.int .i64 (n + 86400 * k)] w0 (Made w0 (.tuple #[.agg #[.int .i64 y2, .int .i64 m2, .int .i64 d2, .int .i64 h2, .int .i64 mi2, .int .i64 s2], .int .i64 0])) := fun w0 => (of_yes (n + 86400 * k) w0 hm2).mono (by
    rintro e w5 ⟨y', m', d', h', mi', s', rfl, hv', hc', hm', hb'⟩
    obtain ⟨rfl, rfl, rfl, rfl, rfl, rfl⟩ := mom_inj hv' hc' hv2 hc2 (hm'.trans hmom2.symm)
    exact ⟨rfl, hb'⟩)
  obtain ⟨rfl, rfl, rfl, hD⟩ := later_clock hc hc2 (by unfold momN at hmom; exact hmom) (by unfold momN at hmom2; exact hmom2)
  have hyy := later_year hv hv2 (by omega)
  have hrg := (may_iff n).1 hm
  obtain ⟨hn1, hn2⟩ := hrg
  have hinj : y = y2 → m = m2 → d = d2 → k = 0 := fun e1 e2 e3 => by subst e1 e2 e3; omega
  have hsame : k = 0 → y = y2 ∧ m = m2 ∧ d = d2 := fun e => by
    subst e
    have := day_inj hv hv2 (by omega)
    exact this
  have MAY := Lib.hid hm
  have MAY2 := Lib.hid hm2
  have OF1 := Lib.hid hof
  have OF2 := Lib.hid hof2
  have HT := Lib.hid hT
  have hlim : ¬ (4000000 : Int) < k := by omega
  have dlim : decide ((4000000 : Int) < k) = false := decide_eq_false hlim
  have hk3 : ¬ k < 0 := by omega
  have hsum : -9223372036854775808 ≤ n + 86400 * k ∧ n + 86400 * k ≤ 9223372036854775807 := by omega
  obtain ⟨hsum1, hsum2⟩ := hsum
  have dyy : decide (y ≤ y2) = true := decide_eq_true hyy
  clear hm hm2 hof hof2 hT hv hv2 hc hc2 hmom hmom2 hD hyy hn1 hn2
  by_cases e0 : k = 0
  · obtain ⟨rfl, rfl, rfl⟩ := hsame e0
    subst e0
    clear hinj hsame
    go_enter Tryd.func6, Tryd.ntmps6
    go_wp2_with fail
    refine (rmay_any n _).mono ?_
    rw [MAY.out]
    rintro e w1 ⟨rfl, b1⟩
    go_wp2_with fail
    refine (rmay_any n _).mono ?_
    rw [MAY.out]
    rintro e w2 ⟨rfl, b2⟩
    have hb2 : Below w.heap.size w w2 := b1.trans (b2.mono b1.size)
    clear b1 b2
    go_wp2_with fail
    refine (OF1.out _).mono ?_
    rintro e w3 ⟨rfl, b3⟩
    have hb3 : Below w.heap.size w w3 := hb2.trans (b3.mono hb2.size)
    clear b3
    go_wp2_with fail
    refine (OF1.out _).mono ?_
    rintro e w4 ⟨rfl, b4⟩
    have b3a : Below w.heap.size w (w3.alloc (.cells #[.int .i64 y, .int .i64 m, .int .i64 d, .int .i64 h, .int .i64 mi, .int .i64 s] 23)) := hb3.alloc hb3.size _
    have hx4 : Blk w4 w3.heap.size 23 #[.int .i64 y, .int .i64 m, .int .i64 d, .int .i64 h, .int .i64 mi, .int .i64 s] := (Blk.fresh w3 23 #[.int .i64 y, .int .i64 m, .int .i64 d, .int .i64 h, .int .i64 mi, .int .i64 s]).below b4 (by simp)
    have hb4 : Below w.heap.size w w4 := b3a.trans (b4.mono b3a.size)
    have hy4 := Blk.fresh w4 23 #[.int .i64 y, .int .i64 m, .int .i64 d, .int .i64 h, .int .i64 mi, .int .i64 s]
    have hx4a := hx4.alloc (.cells #[.int .i64 y, .int .i64 m, .int .i64 d, .int .i64 h, .int .i64 mi, .int .i64 s] 23)
    have hb4a : Below w.heap.size w (w4.alloc (.cells #[.int .i64 y, .int .i64 m, .int .i64 d, .int .i64 h, .int .i64 mi, .int .i64 s] 23)) := hb4.alloc hb4.size _
    have X4 := Lib.hid hx4a
    have Y4 := Lib.hid hy4
    have B4 := Lib.hid hb4a
    clear b4 b3a hx4 hb4 hy4 hx4a hb4a
    go_wp2_with fail
    refine (lives_any _ (by exact HT.out.next B4.out)).mono ?_
    rintro e w5 ⟨rfl, b5⟩
    have hx5 : Blk w5 w3.heap.size 23 #[.int .i64 y, .int .i64 m, .int .i64 d, .int .i64 h, .int .i64 mi, .int .i64 s] := X4.out.below b5 X4.out.lt
    have hy5 : Blk w5 w4.heap.size 23 #[.int .i64 y, .int .i64 m, .int .i64 d, .int .i64 h, .int .i64 mi, .int .i64 s] := Y4.out.below b5 Y4.out.lt
    have hb5 : Below w.heap.size w w5 := B4.out.trans (b5.mono B4.out.size)
    have c0 : (w5).cell? ⟨w3.heap.size, 0, none⟩ = some (.int .i64 y) := Blk.cell hx5 0
    have c1 : (w5).cell? ⟨w3.heap.size, 1, none⟩ = some (.int .i64 m) := Blk.cell hx5 1
    have c2 : (w5).cell? ⟨w3.heap.size, 2, none⟩ = some (.int .i64 d) := Blk.cell hx5 2
    have c3 : (w5).cell? ⟨w3.heap.size, 3, none⟩ = some (.int .i64 h) := Blk.cell hx5 3
    have c4 : (w5).cell? ⟨w3.heap.size, 4, none⟩ = some (.int .i64 mi) := Blk.cell hx5 4
    have c5 : (w5).cell? ⟨w3.heap.size, 5, none⟩ = some (.int .i64 s) := Blk.cell hx5 5
    have x0 : (w5).cell? ⟨w4.heap.size, 0, none⟩ = some (.int .i64 y) := Blk.cell hy5 0
    have x1 : (w5).cell? ⟨w4.heap.size, 1, none⟩ = some (.int .i64 m) := Blk.cell hy5 1
    have x2 : (w5).cell? ⟨w4.heap.size, 2, none⟩ = some (.int .i64 d) := Blk.cell hy5 2
    have x3 : (w5).cell? ⟨w4.heap.size, 3, none⟩ = some (.int .i64 h) := Blk.cell hy5 3
    have x4 : (w5).cell? ⟨w4.heap.size, 4, none⟩ = some (.int .i64 mi) := Blk.cell hy5 4
    have x5 : (w5).cell? ⟨w4.heap.size, 5, none⟩ = some (.int .i64 s) := Blk.cell hy5 5
    clear b5 hx5 hy5
    go_wp2_with fail
    go_ret
    exact ⟨rfl, hb5⟩
  · have hk0 : (k == 0) = false := by simp [e0]
    clear hsame
    by_cases e1 : y = y2
    · subst e1
      by_cases e2 : m = m2
      · subst e2
        have e3 : ¬ d = d2 := fun e => e0 (hinj rfl rfl e)
        have b3 : (d == d2) = false := by simp [e3]
        clear hinj
        go_enter Tryd.func6, Tryd.ntmps6
        go_wp2_with fail
        refine (rmay_any n _).mono ?_
        rw [MAY.out]
        rintro e w1 ⟨rfl, b1⟩
        go_wp2_with fail
        refine (rmay_any (n + 86400 * k) _).mono ?_
        rw [MAY2.out]
        rintro e w2 ⟨rfl, b2⟩
        have hb2 : Below w.heap.size w w2 := b1.trans (b2.mono b1.size)
        clear b1 b2
        go_wp2_with fail
        refine (OF1.out _).mono ?_
        rintro e w3 ⟨rfl, b3⟩
        have hb3 : Below w.heap.size w w3 := hb2.trans (b3.mono hb2.size)
        clear b3
        go_wp2_with fail
        refine (OF2.out _).mono ?_
        rintro e w4 ⟨rfl, b4⟩
        have b3a : Below w.heap.size w (w3.alloc (.cells #[.int .i64 y, .int .i64 m, .int .i64 d, .int .i64 h, .int .i64 mi, .int .i64 s] 23)) := hb3.alloc hb3.size _
        have hx4 : Blk w4 w3.heap.size 23 #[.int .i64 y, .int .i64 m, .int .i64 d, .int .i64 h, .int .i64 mi, .int .i64 s] := (Blk.fresh w3 23 #[.int .i64 y, .int .i64 m, .int .i64 d, .int .i64 h, .int .i64 mi, .int .i64 s]).below b4 (by simp)
        have hb4 : Below w.heap.size w w4 := b3a.trans (b4.mono b3a.size)
        have hy4 := Blk.fresh w4 23 #[.int .i64 y, .int .i64 m, .int .i64 d2, .int .i64 h, .int .i64 mi, .int .i64 s]
        have hx4a := hx4.alloc (.cells #[.int .i64 y, .int .i64 m, .int .i64 d2, .int .i64 h, .int .i64 mi, .int .i64 s] 23)
        have hb4a : Below w.heap.size w (w4.alloc (.cells #[.int .i64 y, .int .i64 m, .int .i64 d2, .int .i64 h, .int .i64 mi, .int .i64 s] 23)) := hb4.alloc hb4.size _
        have X4 := Lib.hid hx4a
        have Y4 := Lib.hid hy4
        have B4 := Lib.hid hb4a
        clear b4 b3a hx4 hb4 hy4 hx4a hb4a
        go_wp2_with fail
        refine (lives_any _ (by exact HT.out.next B4.out)).mono ?_
        rintro e w5 ⟨rfl, b5⟩
        have hx5 : Blk w5 w3.heap.size 23 #[.int .i64 y, .int .i64 m, .int .i64 d, .int .i64 h, .int .i64 mi, .int .i64 s] := X4.out.below b5 X4.out.lt
        have hy5 : Blk w5 w4.heap.size 23 #[.int .i64 y, .int .i64 m, .int .i64 d2, .int .i64 h, .int .i64 mi, .int .i64 s] := Y4.out.below b5 Y4.out.lt
        have hb5 : Below w.heap.size w w5 := B4.out.trans (b5.mono B4.out.size)
        have c0 : (w5).cell? ⟨w3.heap.size, 0, none⟩ = some (.int .i64 y) := Blk.cell hx5 0
        have c1 : (w5).cell? ⟨w3.heap.size, 1, none⟩ = some (.int .i64 m) := Blk.cell hx5 1
        have c2 : (w5).cell? ⟨w3.heap.size, 2, none⟩ = some (.int .i64 d) := Blk.cell hx5 2
        have c3 : (w5).cell? ⟨w3.heap.size, 3, none⟩ = some (.int .i64 h) := Blk.cell hx5 3
        have c4 : (w5).cell? ⟨w3.heap.size, 4, none⟩ = some (.int .i64 mi) := Blk.cell hx5 4
        have c5 : (w5).cell? ⟨w3.heap.size, 5, none⟩ = some (.int .i64 s) := Blk.cell hx5 5
        have x0 : (w5).cell? ⟨w4.heap.size, 0, none⟩ = some (.int .i64 y) := Blk.cell hy5 0
        have x1 : (w5).cell? ⟨w4.heap.size, 1, none⟩ = some (.int .i64 m) := Blk.cell hy5 1
        have x2 : (w5).cell? ⟨w4.heap.size, 2, none⟩ = some (.int .i64 d2) := Blk.cell hy5 2
        have x3 : (w5).cell? ⟨w4.heap.size, 3, none⟩ = some (.int .i64 h) := Blk.cell hy5 3
        have x4 : (w5).cell? ⟨w4.heap.size, 4, none⟩ = some (.int .i64 mi) := Blk.cell hy5 4
        have x5 : (w5).cell? ⟨w4.heap.size, 5, none⟩ = some (.int .i64 s) := Blk.cell hy5 5
        clear b5 hx5 hy5
        go_wp2_with fail
        go_ret
        exact ⟨rfl, hb5⟩
      · have b2 : (m == m2) = false := by simp [e2]
        clear hinj
        go_enter Tryd.func6, Tryd.ntmps6
        go_wp2_with fail
        refine (rmay_any n _).mono ?_
        rw [MAY.out]
        rintro e w1 ⟨rfl, b1⟩
        go_wp2_with fail
        refine (rmay_any (n + 86400 * k) _).mono ?_
        rw [MAY2.out]
        rintro e w2 ⟨rfl, b2⟩
        have hb2 : Below w.heap.size w w2 := b1.trans (b2.mono b1.size)
        clear b1 b2
        go_wp2_with fail
        refine (OF1.out _).mono ?_
        rintro e w3 ⟨rfl, b3⟩
        have hb3 : Below w.heap.size w w3 := hb2.trans (b3.mono hb2.size)
        clear b3
        go_wp2_with fail
        refine (OF2.out _).mono ?_
        rintro e w4 ⟨rfl, b4⟩
        have b3a : Below w.heap.size w (w3.alloc (.cells #[.int .i64 y, .int .i64 m, .int .i64 d, .int .i64 h, .int .i64 mi, .int .i64 s] 23)) := hb3.alloc hb3.size _
        have hx4 : Blk w4 w3.heap.size 23 #[.int .i64 y, .int .i64 m, .int .i64 d, .int .i64 h, .int .i64 mi, .int .i64 s] := (Blk.fresh w3 23 #[.int .i64 y, .int .i64 m, .int .i64 d, .int .i64 h, .int .i64 mi, .int .i64 s]).below b4 (by simp)
        have hb4 : Below w.heap.size w w4 := b3a.trans (b4.mono b3a.size)
        have hy4 := Blk.fresh w4 23 #[.int .i64 y, .int .i64 m2, .int .i64 d2, .int .i64 h, .int .i64 mi, .int .i64 s]
        have hx4a := hx4.alloc (.cells #[.int .i64 y, .int .i64 m2, .int .i64 d2, .int .i64 h, .int .i64 mi, .int .i64 s] 23)
        have hb4a : Below w.heap.size w (w4.alloc (.cells #[.int .i64 y, .int .i64 m2, .int .i64 d2, .int .i64 h, .int .i64 mi, .int .i64 s] 23)) := hb4.alloc hb4.size _
        have X4 := Lib.hid hx4a
        have Y4 := Lib.hid hy4
        have B4 := Lib.hid hb4a
        clear b4 b3a hx4 hb4 hy4 hx4a hb4a
        go_wp2_with fail
        refine (lives_any _ (by exact HT.out.next B4.out)).mono ?_
        rintro e w5 ⟨rfl, b5⟩
        have hx5 : Blk w5 w3.heap.size 23 #[.int .i64 y, .int .i64 m, .int .i64 d, .int .i64 h, .int .i64 mi, .int .i64 s] := X4.out.below b5 X4.out.lt
        have hy5 : Blk w5 w4.heap.size 23 #[.int .i64 y, .int .i64 m2, .int .i64 d2, .int .i64 h, .int .i64 mi, .int .i64 s] := Y4.out.below b5 Y4.out.lt
        have hb5 : Below w.heap.size w w5 := B4.out.trans (b5.mono B4.out.size)
        have c0 : (w5).cell? ⟨w3.heap.size, 0, none⟩ = some (.int .i64 y) := Blk.cell hx5 0
        have c1 : (w5).cell? ⟨w3.heap.size, 1, none⟩ = some (.int .i64 m) := Blk.cell hx5 1
        have c2 : (w5).cell? ⟨w3.heap.size, 2, none⟩ = some (.int .i64 d) := Blk.cell hx5 2
        have c3 : (w5).cell? ⟨w3.heap.size, 3, none⟩ = some (.int .i64 h) := Blk.cell hx5 3
        have c4 : (w5).cell? ⟨w3.heap.size, 4, none⟩ = some (.int .i64 mi) := Blk.cell hx5 4
        have c5 : (w5).cell? ⟨w3.heap.size, 5, none⟩ = some (.int .i64 s) := Blk.cell hx5 5
        have x0 : (w5).cell? ⟨w4.heap.size, 0, none⟩ = some (.int .i64 y) := Blk.cell hy5 0
        have x1 : (w5).cell? ⟨w4.heap.size, 1, none⟩ = some (.int .i64 m2) := Blk.cell hy5 1
        have x2 : (w5).cell? ⟨w4.heap.size, 2, none⟩ = some (.int .i64 d2) := Blk.cell hy5 2
        have x3 : (w5).cell? ⟨w4.heap.size, 3, none⟩ = some (.int .i64 h) := Blk.cell hy5 3
        have x4 : (w5).cell? ⟨w4.heap.size, 4, none⟩ = some (.int .i64 mi) := Blk.cell hy5 4
        have x5 : (w5).cell? ⟨w4.heap.size, 5, none⟩ = some (.int .i64 s) := Blk.cell hy5 5
        clear b5 hx5 hy5
        go_wp2_with fail
        go_ret
        exact ⟨rfl, hb5⟩
    · have b1 : (y == y2) = false := by simp [e1]
      clear hinj
      go_enter Tryd.func6, Tryd.ntmps6
      go_wp2_with fail
      refine (rmay_any n _).mono ?_
      rw [MAY.out]
      rintro e w1 ⟨rfl, b1⟩
      go_wp2_with fail
      refine (rmay_any (n + 86400 * k) _).mono ?_
      rw [MAY2.out]
      rintro e w2 ⟨rfl, b2⟩
      have hb2 : Below w.heap.size w w2 := b1.trans (b2.mono b1.size)
      clear b1 b2
      go_wp2_with fail
      refine (OF1.out _).mono ?_
      rintro e w3 ⟨rfl, b3⟩
      have hb3 : Below w.heap.size w w3 := hb2.trans (b3.mono hb2.size)
      clear b3
      go_wp2_with fail
      refine (OF2.out _).mono ?_
      rintro e w4 ⟨rfl, b4⟩
      have b3a : Below w.heap.size w (w3.alloc (.cells #[.int .i64 y, .int .i64 m, .int .i64 d, .int .i64 h, .int .i64 mi, .int .i64 s] 23)) := hb3.alloc hb3.size _
      have hx4 : Blk w4 w3.heap.size 23 #[.int .i64 y, .int .i64 m, .int .i64 d, .int .i64 h, .int .i64 mi, .int .i64 s] := (Blk.fresh w3 23 #[.int .i64 y, .int .i64 m, .int .i64 d, .int .i64 h, .int .i64 mi, .int .i64 s]).below b4 (by simp)
      have hb4 : Below w.heap.size w w4 := b3a.trans (b4.mono b3a.size)
      have hy4 := Blk.fresh w4 23 #[.int .i64 y2, .int .i64 m2, .int .i64 d2, .int .i64 h, .int .i64 mi, .int .i64 s]
      have hx4a := hx4.alloc (.cells #[.int .i64 y2, .int .i64 m2, .int .i64 d2, .int .i64 h, .int .i64 mi, .int .i64 s] 23)
      have hb4a : Below w.heap.size w (w4.alloc (.cells #[.int .i64 y2, .int .i64 m2, .int .i64 d2, .int .i64 h, .int .i64 mi, .int .i64 s] 23)) := hb4.alloc hb4.size _
      have X4 := Lib.hid hx4a
      have Y4 := Lib.hid hy4
      have B4 := Lib.hid hb4a
      clear b4 b3a hx4 hb4 hy4 hx4a hb4a
      go_wp2_with fail
      refine (lives_any _ (by exact HT.out.next B4.out)).mono ?_
      rintro e w5 ⟨rfl, b5⟩
      have hx5 : Blk w5 w3.heap.size 23 #[.int .i64 y, .int .i64 m, .int .i64 d, .int .i64 h, .int .i64 mi, .int .i64 s] := X4.out.below b5 X4.out.lt
      have hy5 : Blk w5 w4.heap.size 23 #[.int .i64 y2, .int .i64 m2, .int .i64 d2, .int .i64 h, .int .i64 mi, .int .i64 s] := Y4.out.below b5 Y4.out.lt
      have hb5 : Below w.heap.size w w5 := B4.out.trans (b5.mono B4.out.size)
      have c0 : (w5).cell? ⟨w3.heap.size, 0, none⟩ = some (.int .i64 y) := Blk.cell hx5 0
      have c1 : (w5).cell? ⟨w3.heap.size, 1, none⟩ = some (.int .i64 m) := Blk.cell hx5 1
      have c2 : (w5).cell? ⟨w3.heap.size, 2, none⟩ = some (.int .i64 d) := Blk.cell hx5 2
      have c3 : (w5).cell? ⟨w3.heap.size, 3, none⟩ = some (.int .i64 h) := Blk.cell hx5 3
      have c4 : (w5).cell? ⟨w3.heap.size, 4, none⟩ = some (.int .i64 mi) := Blk.cell hx5 4
      have c5 : (w5).cell? ⟨w3.heap.size, 5, none⟩ = some (.int .i64 s) := Blk.cell hx5 5
      have x0 : (w5).cell? ⟨w4.heap.size, 0, none⟩ = some (.int .i64 y2) := Blk.cell hy5 0
      have x1 : (w5).cell? ⟨w4.heap.size, 1, none⟩ = some (.int .i64 m2) := Blk.cell hy5 1
      have x2 : (w5).cell? ⟨w4.heap.size, 2, none⟩ = some (.int .i64 d2) := Blk.cell hy5 2
      have x3 : (w5).cell? ⟨w4.heap.size, 3, none⟩ = some (.int .i64 h) := Blk.cell hy5 3
      have x4 : (w5).cell? ⟨w4.heap.size, 4, none⟩ = some (.int .i64 mi) := Blk.cell hy5 4
      have x5 : (w5).cell? ⟨w4.heap.size, 5, none⟩ = some (.int .i64 s) := Blk.cell hy5 5
      clear b5 hx5 hy5
      go_wp2_with fail
      go_ret
      exact ⟨rfl, hb5⟩

set_option maxHeartbeats 1600000 in
set_option maxRecDepth 100000 in
theorem dord_any (n k : Int) (w : World) (hT : Tab w) (hn : -9223372036854775808 ≤ n ∧ n ≤ 9223372036854775807) :
    Calls Tryd.prog 6 #[.int .i64 n, .int .i64 k] w (Holds w) := by
  have HT := Lib.hid hT
  by_cases h1 : k < 0
  · clear hT hn
    go_enter Tryd.func6, Tryd.ntmps6
    go_wp2_with fail
    refine (lives_any _ (by exact HT.out)).mono ?_
    rintro e w9 ⟨rfl, b9⟩
    go_wp2_with fail
    go_ret
    exact ⟨rfl, b9⟩
  by_cases h2 : 4000000 < k
  · have d2 : decide ((4000000 : Int) < k) = true := decide_eq_true h2
    clear hT hn h2
    go_enter Tryd.func6, Tryd.ntmps6
    go_wp2_with fail
    refine (lives_any _ (by exact HT.out)).mono ?_
    rintro e w9 ⟨rfl, b9⟩
    go_wp2_with fail
    go_ret
    exact ⟨rfl, b9⟩
  have d2 : decide ((4000000 : Int) < k) = false := decide_eq_false h2
  cases hm : mayN n with
  | false =>
    have MAY := Lib.hid hm
    clear hT hn h2 hm
    go_enter Tryd.func6, Tryd.ntmps6
    go_wp2_with fail
    refine (rmay_any n _).mono ?_
    rw [MAY.out]
    rintro e w1 ⟨rfl, b1⟩
    go_wp2_with fail
    refine (lives_any _ (by exact HT.out.next b1)).mono ?_
    rintro e w9 ⟨rfl, b9⟩
    go_wp2_with fail
    go_ret
    exact ⟨rfl, b1.trans (b9.mono b1.size)⟩
  | true =>
    have hrg := (may_iff n).1 hm
    cases hm2 : mayN (n + 86400 * k) with
    | true => exact dord_main n k w hT (by omega) (by omega) hm hm2
    | false =>
      have MAY := Lib.hid hm
      have MAY2 := Lib.hid hm2
      obtain ⟨hn1, hn2⟩ := hrg
      have hk1 : 0 ≤ k := by omega
      have hk2 : k ≤ 4000000 := by omega
      have hsum1 : -9223372036854775808 ≤ n + 86400 * k := by omega
      have hsum2 : n + 86400 * k ≤ 9223372036854775807 := by omega
      clear hT hn h2 hm hm2 hn1 hn2
      go_enter Tryd.func6, Tryd.ntmps6
      go_wp2_with fail
      refine (rmay_any n _).mono ?_
      rw [MAY.out]
      rintro e w1 ⟨rfl, b1⟩
      go_wp2_with fail
      refine (rmay_any (n + 86400 * k) _).mono ?_
      rw [MAY2.out]
      rintro e w2 ⟨rfl, b2⟩
      have hb2 : Below w.heap.size w w2 := b1.trans (b2.mono b1.size)
      go_wp2_with fail
      refine (lives_any _ (by exact HT.out.next hb2)).mono ?_
      rintro e w9 ⟨rfl, b9⟩
      go_wp2_with fail
      go_ret
      exact ⟨rfl, hb2.trans (b9.mono hb2.size)⟩
end Go.Proofs.YtjflfennmeackabDoor
