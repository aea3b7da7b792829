/-
  The calls of UtfRunes, UtfCleans, UtfCuts: each answers true. Condition: the text's length is a length.
-/
import Derived.Test.YtmimkcdomgoefaaULives
namespace Go.Proofs.Ytmimkcdomgoefaa
open Go.RowKit
open Go.Lib (decodeL encodeRune validD)

theorem same_yes (R : List Int) (va vb : Value) (B : Nat) (w : World) (ha : RdV w B va (rvs R)) (hb : RdV w B vb (rvs R)) :
    Calls Try.prog 13 #[va, vb] w (Drew w (.bool true)) := by
  have h := same_any R R va vb B w ha hb
  rw [decide_eq_true rfl] at h
  exact h
set_option maxHeartbeats 1600000 in
set_option maxRecDepth 100000 in
theorem lrunes_any (l : List UInt8) (w : World) : Calls Try.prog 3 #[.string (str l)] w (Holds w) := by
  by_cases h3 : (3000 : Int) < (l.length : Int)
  · go_enter Try.func3, Try.ntmps3
    go_wp2_with fail
    refine (ulives_any _).mono ?_
    rintro e w1 ⟨rfl, b1⟩
    go_wp2_with fail
    go_ret
    exact ⟨rfl, b1⟩
  · have hl : l.length ≤ 1099511627776 := by omega
    have H1 := Lib.hid (fun W => rrunes_any l W hl)
    have H2 := Lib.hid (fun W => runes_any l W hl)
    have H3 := Lib.hid (fun W => count_any l W hl)
    have H4 := Lib.hid (fun W => right_any l W)
    have H5 := Lib.hid (fun W => rright_any l W hl)
    have hs := fun (va vb : Value) (B : Nat) (W : World) (ha : RdV W B va (rvs (runes l))) (hb : RdV W B vb (rvs (runes l))) => same_yes (runes l) va vb B W ha hb
    have HS := Lib.hid hs
    clear hs
    have hrl := runes_len l
    obtain ⟨R, hR⟩ : ∃ R, R = runes l := ⟨_, rfl⟩
    obtain ⟨V, hV⟩ : ∃ V, V = validD l := ⟨_, rfl⟩
    rw [← hR] at H1 H2 H3 HS hrl
    rw [← hV] at H4 H5
    clear hR hV hl
    go_enter Try.func3, Try.ntmps3
    go_wp2_with fail
    refine (H1.out _).mono ?_
    rintro e w1 ⟨v1, rfl, hown1, b1⟩
    have hr1 := hown1.rdv (Nat.le_refl _)
    clear hown1
    obtain ⟨A1, c1, rfl, _⟩ := id hr1
    rw [rvs_length R] at hr1 ⊢
    have HR1 := Lib.hid hr1
    clear hr1
    go_wp2_with fail
    refine (ulives_any _).mono ?_
    rintro e w2 ⟨rfl, hb⟩
    have b2 : Below w.heap.size w w2 := b1.trans (hb.mono b1.size)
    have hr2 := HR1.out.below hb
    have s2 := hb.size
    have HR2 := Lib.hid hr2
    clear hb hr2 HR1
    go_wp2_with fail
    refine (H2.out _).mono ?_
    rintro e w3 ⟨v3, rfl, hown3, hb⟩
    have b3 : Below w.heap.size w w3 := b2.trans (hb.mono b2.size)
    have hr3 := (HR2.out.below (hb.mono s2)).more (Nat.le_trans s2 hb.size)
    have hr4 := hown3.rdv (Nat.le_refl _)
    have HR3 := Lib.hid hr3
    have HR4 := Lib.hid hr4
    clear hb hr3 hr4 HR2 hown3
    go_wp2_with fail
    refine (HS.out _ _ w3.heap.size _ (by exact HR4.out) (by exact HR3.out)).mono ?_
    rintro e w4 ⟨rfl, q, hw4⟩
    have b4 : Below w.heap.size w w4 := by rw [hw4]; exact below_drewN b3 q
    clear hw4
    go_wp2_with fail
    refine (H3.out _).mono ?_
    rintro e w5 ⟨rfl, hb⟩
    have b5 : Below w.heap.size w w5 := b4.trans (hb.mono b4.size)
    clear hb
    go_wp2_with fail
    refine (H4.out _).mono ?_
    rintro e w6 ⟨rfl, hb⟩
    have b6 : Below w.heap.size w w6 := b5.trans (hb.mono b5.size)
    clear hb
    go_wp2_with fail
    refine (H5.out _).mono ?_
    rintro e w7 ⟨rfl, rfl⟩
    go_wp2_with fail
    go_ret
    exact ⟨rfl, b6⟩

set_option maxHeartbeats 3200000 in
set_option maxRecDepth 100000 in
theorem lcleans_any (l : List UInt8) (w : World) : Calls Try.prog 5 #[.string (str l)] w (Holds w) := by
  by_cases h3 : (3000 : Int) < (l.length : Int)
  · go_enter Try.func5, Try.ntmps5
    go_wp2_with fail
    refine (ulives_any _).mono ?_
    rintro e w1 ⟨rfl, b1⟩
    go_wp2_with fail
    go_ret
    exact ⟨rfl, b1⟩
  · have hl : l.length ≤ 3000 := by omega
    have hl' : l.length ≤ 1099511627776 := by omega
    have hcl : (cleanS l).length ≤ 1099511627776 := by
      have h1 := (put_len (cleanR (runes l))).2
      have h2 := cleanR_len (runes l) ([], false)
      have h3 := runes_len l
      simp only [List.length_nil, Nat.zero_add] at h2
      unfold cleanS cleanR at *
      omega
    have hfl : (foldS l).length ≤ 1099511627776 := by
      have h1 := (put_len ((runes l).map foldR)).2
      have h3 := runes_len l
      rw [List.length_map] at h1
      unfold foldS
      omega
    have k1 := fun W => clean_any l W hl'
    have k2 := fun W => fold_any l W hl'
    have k3 := fun W => rclean_any l W hl'
    have k4 := fun W => rfoldS_any l W hl'
    have k5 := fun W => clean_any (cleanS l) W hcl
    have k6 := fun W => fold_any (foldS l) W hfl
    have k7 := fun W => right_any (cleanS l) W
    have k8 := fun W => right_any (foldS l) W
    have k9 := fun W => count_any (foldS l) W hfl
    have k10 := fun W => count_any l W hl'
    rw [cleanS_twice l] at k5
    rw [foldS_twice l] at k6
    rw [show validD (cleanS l) = true from valid_put _] at k7
    rw [show validD (foldS l) = true from valid_put _] at k8
    rw [foldS_runes l, List.length_map] at k9
    have H1 := Lib.hid k1
    have H2 := Lib.hid k2
    have H3 := Lib.hid k3
    have H4 := Lib.hid k4
    have H5 := Lib.hid k5
    have H6 := Lib.hid k6
    have H7 := Lib.hid k7
    have H8 := Lib.hid k8
    have H9 := Lib.hid k9
    have H10 := Lib.hid k10
    clear k1 k2 k3 k4 k5 k6 k7 k8 k9 k10 hcl hfl hl hl'
    generalize cleanS l = c at *
    generalize foldS l = f at *
    generalize (runes l).length = n at *
    go_enter Try.func5, Try.ntmps5
    go_wp2_with fail
    refine (H1.out _).mono ?_
    rintro e w1 ⟨rfl, b1⟩
    go_wp2_with fail
    refine (H2.out _).mono ?_
    rintro e w2 ⟨rfl, hb⟩
    have b2 : Below w.heap.size w w2 := b1.trans (hb.mono b1.size)
    clear hb
    go_wp2_with fail
    refine (ulives_any _).mono ?_
    rintro e w3 ⟨rfl, hb⟩
    have b3 : Below w.heap.size w w3 := b2.trans (hb.mono b2.size)
    clear hb
    go_wp2_with fail
    refine (H3.out _).mono ?_
    rintro e w4 ⟨rfl, hb⟩
    have b4 : Below w.heap.size w w4 := b3.trans (hb.mono b3.size)
    clear hb
    go_wp2_with fail
    refine (H4.out _).mono ?_
    rintro e w5 ⟨rfl, hb⟩
    have b5 : Below w.heap.size w w5 := b4.trans (hb.mono b4.size)
    clear hb
    go_wp2_with fail
    refine (H5.out _).mono ?_
    rintro e w6 ⟨rfl, hb⟩
    have b6 : Below w.heap.size w w6 := b5.trans (hb.mono b5.size)
    clear hb
    go_wp2_with fail
    refine (H6.out _).mono ?_
    rintro e w7 ⟨rfl, hb⟩
    have b7 : Below w.heap.size w w7 := b6.trans (hb.mono b6.size)
    clear hb
    go_wp2_with fail
    refine (H7.out _).mono ?_
    rintro e w8 ⟨rfl, hb⟩
    have b8 : Below w.heap.size w w8 := b7.trans (hb.mono b7.size)
    clear hb
    go_wp2_with fail
    refine (H8.out _).mono ?_
    rintro e w9 ⟨rfl, hb⟩
    have b9 : Below w.heap.size w w9 := b8.trans (hb.mono b8.size)
    clear hb
    go_wp2_with fail
    refine (H9.out _).mono ?_
    rintro e w10 ⟨rfl, hb⟩
    have b10 : Below w.heap.size w w10 := b9.trans (hb.mono b9.size)
    clear hb
    go_wp2_with fail
    refine (H10.out _).mono ?_
    rintro e w11 ⟨rfl, hb⟩
    have b11 : Below w.heap.size w w11 := b10.trans (hb.mono b10.size)
    clear hb
    go_wp2_with fail
    go_ret
    exact ⟨rfl, b11⟩

set_option maxHeartbeats 3200000 in
set_option maxRecDepth 100000 in
theorem lcuts_any (l : List UInt8) (n : Int) (w : World) (hn1 : -9223372036854775808 ≤ n) (hn2 : n ≤ 9223372036854775807) : Calls Try.prog 6 #[.string (str l), .int .i64 n] w (Holds w) := by
  by_cases h3 : (3000 : Int) < (l.length : Int)
  · go_enter Try.func6, Try.ntmps6
    go_wp2_with fail
    refine (ulives_any _).mono ?_
    rintro e w1 ⟨rfl, b1⟩
    go_wp2_with fail
    go_ret
    exact ⟨rfl, b1⟩
  · have hl' : l.length ≤ 1099511627776 := by omega
    have k1 := fun W => cut_any l n W
    have k2 := fun W => rcut_any l n W hl' hn1 hn2
    have hkl := cutN_le l n
    have hkn := cutN_most l n
    have hka := cutN_all l n
    have k3 := fun W => slf l (cutN l n) hkl W
    generalize cutN l n = k at *
    have hlt : (l.take k).length = k := by rw [List.length_take]; omega
    have hltI : ((l.take k).length : Int) ≤ (l.length : Int) := by omega
    have hsl : ∀ W, (Instr.slice 9 (.string (str l)) none (some (.int .i64 ((l.take k).length : Int))) none).run Try.prog W = .ok (.string (str (l.take k))) W := by rw [hlt]; exact k3
    have hmost : 0 ≤ n → ((l.take k).length : Int) ≤ n := fun h => by rw [hlt]; exact hkn h
    have hall : ¬ n < (l.length : Int) → l.take k = l := fun h => by rw [hka (by omega), List.take_length]
    have H1 := Lib.hid k1
    have H2 := Lib.hid k2
    have HM := Lib.hid hmost
    have HA := Lib.hid hall
    clear k1 k2 k3 hkl hkn hka hlt hmost hall hl'
    by_cases hneg : n < 0
    · have d1 : decide (n < 0) = true := decide_eq_true hneg
      have d2 : decide (n < (l.length : Int)) = true := decide_eq_true (by omega)
      generalize l.take k = c at *
      have d3 : decide (c.length ≤ l.length) = true := decide_eq_true (by omega)
      go_enter Try.func6, Try.ntmps6
      go_wp2_with fail
      refine (H1.out _).mono ?_
      rintro e w1 ⟨rfl, b1⟩
      go_wp2_with fail
      refine (ulives_any _).mono ?_
      rintro e w2 ⟨rfl, hb⟩
      have b2 : Below w.heap.size w w2 := b1.trans (hb.mono b1.size)
      clear hb
      go_wp2_with fail
      refine (H2.out _).mono ?_
      rintro e w3 ⟨rfl, rfl⟩
      go_wp2_with fail
      go_ret
      exact ⟨rfl, b2⟩
    · have d1 : decide (n < 0) = false := decide_eq_false hneg
      have hm := HM.out (by omega)
      by_cases hc : n < (l.length : Int)
      · have d2 : decide (n < (l.length : Int)) = true := decide_eq_true hc
        generalize l.take k = c at *
        have d3 : decide (c.length ≤ l.length) = true := decide_eq_true (by omega)
        have d4 : decide ((c.length : Int) ≤ n) = true := decide_eq_true hm
        go_enter Try.func6, Try.ntmps6
        go_wp2_with fail
        refine (H1.out _).mono ?_
        rintro e w1 ⟨rfl, b1⟩
        go_wp2_with fail
        refine (ulives_any _).mono ?_
        rintro e w2 ⟨rfl, hb⟩
        have b2 : Below w.heap.size w w2 := b1.trans (hb.mono b1.size)
        clear hb
        go_wp2_with fail
        refine (H2.out _).mono ?_
        rintro e w3 ⟨rfl, rfl⟩
        go_wp2_with fail
        go_ret
        exact ⟨rfl, b2⟩
      · have d2 : decide (n < (l.length : Int)) = false := decide_eq_false hc
        have ha := HA.out hc
        rw [ha] at H1 H2 hsl hm hltI
        have d4 : decide ((l.length : Int) ≤ n) = true := decide_eq_true hm
        clear ha HM HA
        go_enter Try.func6, Try.ntmps6
        go_wp2_with fail
        refine (H1.out _).mono ?_
        rintro e w1 ⟨rfl, b1⟩
        go_wp2_with fail
        refine (ulives_any _).mono ?_
        rintro e w2 ⟨rfl, hb⟩
        have b2 : Below w.heap.size w w2 := b1.trans (hb.mono b1.size)
        clear hb
        go_wp2_with fail
        refine (H2.out _).mono ?_
        rintro e w3 ⟨rfl, rfl⟩
        go_wp2_with fail
        go_ret
        exact ⟨rfl, b2⟩
end Go.Proofs.Ytmimkcdomgoefaa
