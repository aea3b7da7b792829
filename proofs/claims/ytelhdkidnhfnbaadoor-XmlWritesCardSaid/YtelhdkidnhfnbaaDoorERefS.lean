/-
  The document's own sign (newsstandref07.Sign): what it answers. Condition: lengths are lengths.
-/
import Derived.Test.YtelhdkidnhfnbaaDoorERefN
namespace Go.Proofs.YtelhdkidnhfnbaaDoor
open Go.RowKit

theorem numF_nn (base : Int) (hb : 0 ≤ base) : ∀ (cs : List Int) (m n : Int), 0 ≤ m → cs.foldl (numStep base) (some m) = some n → 0 ≤ n
  | [], m, n, hm, e => by
    have e2 : some m = some n := e
    injection e2 with e3
    omega
  | c :: r, m, n, hm, e => by
    rw [List.foldl_cons, numStep_some] at e
    by_cases h : digN c < 0 ∨ base ≤ digN c
    · rw [if_pos h, numS_none] at e
      cases e
    · rw [if_neg h] at e
      have h2 : 0 ≤ m * base := Int.mul_nonneg hm hb
      exact numF_nn base hb r _ n (by omega) e
theorem numB_nn (base : Int) (hb : 0 ≤ base) (most : Nat) (l : List UInt8) (n : Int) (h : numB base most l = some n) : 0 ≤ n := by
  unfold numB at h
  by_cases h0 : l.length = 0 ∨ most < l.length
  · rw [if_pos h0] at h
    cases h
  · rw [if_neg h0] at h
    exact numF_nn base hb _ 0 n (Int.le_refl _) h
theorem shownR_low {n : Int} (h : n < 32) (h9 : ¬ n = 9) (h10 : ¬ n = 10) (h13 : ¬ n = 13) : shownR n = 65533 := by
  unfold shownR
  rw [if_pos ⟨h, h9, h10, h13⟩]
theorem shownR_hi {n : Int} (h : ¬ n < 32) : shownR n = fixR n := by
  unfold shownR
  rw [if_neg (fun hh => h hh.1)]
theorem shownR_bad {n : Int} (h : ¬ n < 32) (hb : 1114111 < n ∨ (55296 ≤ n ∧ n ≤ 57343)) : shownR n = 65533 := by
  rw [shownR_hi h]
  unfold fixR
  rw [if_neg (by unfold okR; omega)]
theorem shownR_ok {n : Int} (h : ¬ n < 32) (h1 : n ≤ 1114111) (h2 : ¬ (55296 ≤ n ∧ n ≤ 57343)) : shownR n = n := by
  rw [shownR_hi h]
  unfold fixR
  rw [if_pos (by unfold okR; omega)]
theorem at0_take {l : List UInt8} (h : 1 < l.length) : l.take 1 = [35] ↔ at0B l 0 = 35 := by
  match l, h with
  | b :: t, _ =>
    show [b] = [35] ↔ b.toNat = 35
    constructor
    · intro e
      injection e with e1
      rw [e1]
      rfl
    · intro e
      rw [show b = 35 from UInt8.toNat_inj.1 e]
set_option maxHeartbeats 6400000 in
theorem rsign_any (l : List UInt8) (w : World) (hl : l.length ≤ maxLen) : Calls Tryd.prog 66 #[.string (str l)] w (Pure w (sgV (signR l))) := by
  by_cases t38 : l = [97, 109, 112]
  · subst t38
    have HV : Hid (sgV (signR [97, 109, 112]) = .tuple #[.int .i32 38, .bool true]) := Lib.hid (by kernel_rfl)
    clear hl
    go_enter Tryd.func66, Tryd.ntmps66
    go_wp2_with fail
    go_ret2
    exact ⟨by rw [HV.out]; rfl, rfl⟩
  · have e38 : (([97, 109, 112] : List UInt8) == l) = false := by simpa using fun e => t38 e.symm
    have f38 : (l == ([97, 109, 112] : List UInt8)) = false := by simpa using t38
    by_cases t60 : l = [108, 116]
    · subst t60
      have HV : Hid (sgV (signR [108, 116]) = .tuple #[.int .i32 60, .bool true]) := Lib.hid (by kernel_rfl)
      clear hl
      go_enter Tryd.func66, Tryd.ntmps66
      go_wp2_with fail
      go_ret2
      exact ⟨by rw [HV.out]; rfl, rfl⟩
    · have e60 : (([108, 116] : List UInt8) == l) = false := by simpa using fun e => t60 e.symm
      have f60 : (l == ([108, 116] : List UInt8)) = false := by simpa using t60
      by_cases t62 : l = [103, 116]
      · subst t62
        have HV : Hid (sgV (signR [103, 116]) = .tuple #[.int .i32 62, .bool true]) := Lib.hid (by kernel_rfl)
        clear hl
        go_enter Tryd.func66, Tryd.ntmps66
        go_wp2_with fail
        go_ret2
        exact ⟨by rw [HV.out]; rfl, rfl⟩
      · have e62 : (([103, 116] : List UInt8) == l) = false := by simpa using fun e => t62 e.symm
        have f62 : (l == ([103, 116] : List UInt8)) = false := by simpa using t62
        by_cases t34 : l = [113, 117, 111, 116]
        · subst t34
          have HV : Hid (sgV (signR [113, 117, 111, 116]) = .tuple #[.int .i32 34, .bool true]) := Lib.hid (by kernel_rfl)
          clear hl
          go_enter Tryd.func66, Tryd.ntmps66
          go_wp2_with fail
          go_ret2
          exact ⟨by rw [HV.out]; rfl, rfl⟩
        · have e34 : (([113, 117, 111, 116] : List UInt8) == l) = false := by simpa using fun e => t34 e.symm
          have f34 : (l == ([113, 117, 111, 116] : List UInt8)) = false := by simpa using t34
          by_cases t39 : l = [97, 112, 111, 115]
          · subst t39
            have HV : Hid (sgV (signR [97, 112, 111, 115]) = .tuple #[.int .i32 39, .bool true]) := Lib.hid (by kernel_rfl)
            clear hl
            go_enter Tryd.func66, Tryd.ntmps66
            go_wp2_with fail
            go_ret2
            exact ⟨by rw [HV.out]; rfl, rfl⟩
          · have e39 : (([97, 112, 111, 115] : List UInt8) == l) = false := by simpa using fun e => t39 e.symm
            have f39 : (l == ([97, 112, 111, 115] : List UInt8)) = false := by simpa using t39
            have hsg : signR l = if l.take 2 = [35, 120] then (numB 16 6 (l.drop 2)).map shownR else if l.take 1 = [35] then (numB 10 7 (l.drop 1)).map shownR else none := by
              unfold signR namedR
              rw [if_neg t38, if_neg t60, if_neg t62, if_neg t34, if_neg t39]
            have HSG := Lib.hid hsg
            have HL := Lib.hid hl
            clear hsg t38 t60 t62 t34 t39 hl
            have hlm : l.length ≤ 9223372036854775807 := HL.out
            by_cases g2 : (2 : Int) < (l.length : Int)
            · have g2d : decide ((2 : Int) < (l.length : Int)) = true := decide_eq_true g2
              have s2 := slf l 2 (by omega)
              rw [show ((2 : Nat) : Int) = 2 from rfl] at s2
              by_cases p2 : l.take 2 = [35, 120]
              · have HS : Hid (signR l = (numB 16 6 (l.drop 2)).map shownR) := Lib.hid (by rw [HSG.out, if_pos p2])
                have s3 := slt l 2 (by omega)
                rw [show ((2 : Nat) : Int) = 2 from rfl] at s3
                have HDL : Hid ((l.drop 2).length ≤ maxLen) := Lib.hid (by have := HL.out; rw [List.length_drop]; omega)
                rw [p2] at s2
                generalize l.drop 2 = D at *
                clear p2
                cases ho : numB 16 6 D with
                | none =>
                  have kn : ∀ W, Calls Tryd.prog 79 #[.string (str D), .int .i64 16, .int .i64 6] W (Pure W (.int .i64 (-1))) := fun W => by have := rnumber_16 D W HDL.out; rw [ho] at this; exact this
                  have KN := Lib.hid kn
                  have HV : Hid (sgV (signR l) = .tuple #[.int .i32 0, .bool false]) := Lib.hid (by rw [HS.out, ho]; rfl)
                  clear kn ho
                  go_enter Tryd.func66, Tryd.ntmps66
                  go_wp2_with fail
                  refine (KN.out _).mono ?_
                  rintro e w' ⟨rfl, rfl⟩
                  go_wp2_with fail
                  go_ret2
                  exact ⟨by rw [HV.out]; rfl, rfl⟩
                | some n =>
                  have n0 := numB_nn 16 (by decide) 6 D n ho
                  have kn : ∀ W, Calls Tryd.prog 79 #[.string (str D), .int .i64 16, .int .i64 6] W (Pure W (.int .i64 n)) := fun W => by have := rnumber_16 D W HDL.out; rw [ho] at this; exact this
                  have KN := Lib.hid kn
                  have HV : Hid (sgV (signR l) = .tuple #[.int .i32 (shownR n), .bool true]) := Lib.hid (by rw [HS.out, ho]; rfl)
                  clear kn ho
                  by_cases n1 : n < 32
                  · have n1d : decide (n < 32) = true := decide_eq_true n1
                    by_cases c9 : n = 9
                    · subst c9
                      go_enter Tryd.func66, Tryd.ntmps66
                      go_wp2_with fail
                      refine (KN.out _).mono ?_
                      rintro e w' ⟨rfl, rfl⟩
                      go_wp2_with fail
                      go_ret2
                      exact ⟨by rw [HV.out]; rfl, rfl⟩
                    · have d9 : (n == 9) = false := by simpa using c9
                      by_cases c10 : n = 10
                      · subst c10
                        go_enter Tryd.func66, Tryd.ntmps66
                        go_wp2_with fail
                        refine (KN.out _).mono ?_
                        rintro e w' ⟨rfl, rfl⟩
                        go_wp2_with fail
                        go_ret2
                        exact ⟨by rw [HV.out]; rfl, rfl⟩
                      · have d10 : (n == 10) = false := by simpa using c10
                        by_cases c13 : n = 13
                        · subst c13
                          go_enter Tryd.func66, Tryd.ntmps66
                          go_wp2_with fail
                          refine (KN.out _).mono ?_
                          rintro e w' ⟨rfl, rfl⟩
                          go_wp2_with fail
                          go_ret2
                          exact ⟨by rw [HV.out]; rfl, rfl⟩
                        · have d13 : (n == 13) = false := by simpa using c13
                          have HE := Lib.hid (shownR_low n1 c9 c10 c13)
                          go_enter Tryd.func66, Tryd.ntmps66
                          go_wp2_with fail
                          refine (KN.out _).mono ?_
                          rintro e w' ⟨rfl, rfl⟩
                          go_wp2_with fail
                          go_ret2
                          exact ⟨by rw [HV.out, HE.out]; rfl, rfl⟩
                  · have n1d : decide (n < 32) = false := decide_eq_false n1
                    by_cases n2 : 1114111 < n
                    · have HE := Lib.hid (shownR_bad n1 (.inl n2))
                      have n2d : decide (1114111 < n) = true := decide_eq_true n2
                      go_enter Tryd.func66, Tryd.ntmps66
                      go_wp2_with fail
                      refine (KN.out _).mono ?_
                      rintro e w' ⟨rfl, rfl⟩
                      go_wp2_with fail
                      go_ret2
                      exact ⟨by rw [HV.out, HE.out]; rfl, rfl⟩
                    · have n2d : decide (1114111 < n) = false := decide_eq_false n2
                      by_cases n3 : 55296 ≤ n
                      · have n3d : decide (55296 ≤ n) = true := decide_eq_true n3
                        by_cases n4 : n ≤ 57343
                        · have HE := Lib.hid (shownR_bad n1 (.inr ⟨n3, n4⟩))
                          have n4d : decide (n ≤ 57343) = true := decide_eq_true n4
                          go_enter Tryd.func66, Tryd.ntmps66
                          go_wp2_with fail
                          refine (KN.out _).mono ?_
                          rintro e w' ⟨rfl, rfl⟩
                          go_wp2_with fail
                          go_ret2
                          exact ⟨by rw [HV.out, HE.out]; rfl, rfl⟩
                        · have HE := Lib.hid (shownR_ok n1 (by omega) (fun h => n4 h.2))
                          have n4d : decide (n ≤ 57343) = false := decide_eq_false n4
                          go_enter Tryd.func66, Tryd.ntmps66
                          go_wp2_with fail
                          refine (KN.out _).mono ?_
                          rintro e w' ⟨rfl, rfl⟩
                          go_wp2_with fail
                          go_ret2
                          exact ⟨by rw [HV.out, HE.out]; rfl, rfl⟩
                      · have HE := Lib.hid (shownR_ok n1 (by omega) (fun h => n3 h.1))
                        have n3d : decide (55296 ≤ n) = false := decide_eq_false n3
                        go_enter Tryd.func66, Tryd.ntmps66
                        go_wp2_with fail
                        refine (KN.out _).mono ?_
                        rintro e w' ⟨rfl, rfl⟩
                        go_wp2_with fail
                        go_ret2
                        exact ⟨by rw [HV.out, HE.out]; rfl, rfl⟩
              · have q1 : (([35, 120] : List UInt8) == l.take 2) = false := by simpa using fun e => p2 e.symm
                have q2 : (l.take 2 == ([35, 120] : List UInt8)) = false := by simpa using p2
                have HS0 : Hid (signR l = if l.take 1 = [35] then (numB 10 7 (l.drop 1)).map shownR else none) := Lib.hid (by rw [HSG.out, if_neg p2])
                generalize l.take 2 = T at *
                clear p2
                have g1d : decide ((1 : Int) < (l.length : Int)) = true := decide_eq_true (by omega)
                have ix := idx_at l 0 (by omega)
                rw [show ((0 : Nat) : Int) = 0 from rfl] at ix
                by_cases p1 : at0B l 0 = 35
                · have HS : Hid (signR l = (numB 10 7 (l.drop 1)).map shownR) := Lib.hid (by rw [HS0.out, if_pos ((at0_take (by omega)).2 p1)])
                  have s3 := slt l 1 (by omega)
                  rw [show ((1 : Nat) : Int) = 1 from rfl] at s3
                  have HDL : Hid ((l.drop 1).length ≤ maxLen) := Lib.hid (by have := HL.out; rw [List.length_drop]; omega)
                  rw [p1, show ((35 : Nat) : Int) = 35 from rfl] at ix
                  generalize l.drop 1 = D at *
                  clear p1
                  cases ho : numB 10 7 D with
                  | none =>
                    have kn : ∀ W, Calls Tryd.prog 79 #[.string (str D), .int .i64 10, .int .i64 7] W (Pure W (.int .i64 (-1))) := fun W => by have := rnumber_10 D W HDL.out; rw [ho] at this; exact this
                    have KN := Lib.hid kn
                    have HV : Hid (sgV (signR l) = .tuple #[.int .i32 0, .bool false]) := Lib.hid (by rw [HS.out, ho]; rfl)
                    clear kn ho
                    go_enter Tryd.func66, Tryd.ntmps66
                    go_wp2_with fail
                    refine (KN.out _).mono ?_
                    rintro e w' ⟨rfl, rfl⟩
                    go_wp2_with fail
                    go_ret2
                    exact ⟨by rw [HV.out]; rfl, rfl⟩
                  | some n =>
                    have n0 := numB_nn 10 (by decide) 7 D n ho
                    have kn : ∀ W, Calls Tryd.prog 79 #[.string (str D), .int .i64 10, .int .i64 7] W (Pure W (.int .i64 n)) := fun W => by have := rnumber_10 D W HDL.out; rw [ho] at this; exact this
                    have KN := Lib.hid kn
                    have HV : Hid (sgV (signR l) = .tuple #[.int .i32 (shownR n), .bool true]) := Lib.hid (by rw [HS.out, ho]; rfl)
                    clear kn ho
                    by_cases n1 : n < 32
                    · have n1d : decide (n < 32) = true := decide_eq_true n1
                      by_cases c9 : n = 9
                      · subst c9
                        go_enter Tryd.func66, Tryd.ntmps66
                        go_wp2_with fail
                        refine (KN.out _).mono ?_
                        rintro e w' ⟨rfl, rfl⟩
                        go_wp2_with fail
                        go_ret2
                        exact ⟨by rw [HV.out]; rfl, rfl⟩
                      · have d9 : (n == 9) = false := by simpa using c9
                        by_cases c10 : n = 10
                        · subst c10
                          go_enter Tryd.func66, Tryd.ntmps66
                          go_wp2_with fail
                          refine (KN.out _).mono ?_
                          rintro e w' ⟨rfl, rfl⟩
                          go_wp2_with fail
                          go_ret2
                          exact ⟨by rw [HV.out]; rfl, rfl⟩
                        · have d10 : (n == 10) = false := by simpa using c10
                          by_cases c13 : n = 13
                          · subst c13
                            go_enter Tryd.func66, Tryd.ntmps66
                            go_wp2_with fail
                            refine (KN.out _).mono ?_
                            rintro e w' ⟨rfl, rfl⟩
                            go_wp2_with fail
                            go_ret2
                            exact ⟨by rw [HV.out]; rfl, rfl⟩
                          · have d13 : (n == 13) = false := by simpa using c13
                            have HE := Lib.hid (shownR_low n1 c9 c10 c13)
                            go_enter Tryd.func66, Tryd.ntmps66
                            go_wp2_with fail
                            refine (KN.out _).mono ?_
                            rintro e w' ⟨rfl, rfl⟩
                            go_wp2_with fail
                            go_ret2
                            exact ⟨by rw [HV.out, HE.out]; rfl, rfl⟩
                    · have n1d : decide (n < 32) = false := decide_eq_false n1
                      by_cases n2 : 1114111 < n
                      · have HE := Lib.hid (shownR_bad n1 (.inl n2))
                        have n2d : decide (1114111 < n) = true := decide_eq_true n2
                        go_enter Tryd.func66, Tryd.ntmps66
                        go_wp2_with fail
                        refine (KN.out _).mono ?_
                        rintro e w' ⟨rfl, rfl⟩
                        go_wp2_with fail
                        go_ret2
                        exact ⟨by rw [HV.out, HE.out]; rfl, rfl⟩
                      · have n2d : decide (1114111 < n) = false := decide_eq_false n2
                        by_cases n3 : 55296 ≤ n
                        · have n3d : decide (55296 ≤ n) = true := decide_eq_true n3
                          by_cases n4 : n ≤ 57343
                          · have HE := Lib.hid (shownR_bad n1 (.inr ⟨n3, n4⟩))
                            have n4d : decide (n ≤ 57343) = true := decide_eq_true n4
                            go_enter Tryd.func66, Tryd.ntmps66
                            go_wp2_with fail
                            refine (KN.out _).mono ?_
                            rintro e w' ⟨rfl, rfl⟩
                            go_wp2_with fail
                            go_ret2
                            exact ⟨by rw [HV.out, HE.out]; rfl, rfl⟩
                          · have HE := Lib.hid (shownR_ok n1 (by omega) (fun h => n4 h.2))
                            have n4d : decide (n ≤ 57343) = false := decide_eq_false n4
                            go_enter Tryd.func66, Tryd.ntmps66
                            go_wp2_with fail
                            refine (KN.out _).mono ?_
                            rintro e w' ⟨rfl, rfl⟩
                            go_wp2_with fail
                            go_ret2
                            exact ⟨by rw [HV.out, HE.out]; rfl, rfl⟩
                        · have HE := Lib.hid (shownR_ok n1 (by omega) (fun h => n3 h.1))
                          have n3d : decide (55296 ≤ n) = false := decide_eq_false n3
                          go_enter Tryd.func66, Tryd.ntmps66
                          go_wp2_with fail
                          refine (KN.out _).mono ?_
                          rintro e w' ⟨rfl, rfl⟩
                          go_wp2_with fail
                          go_ret2
                          exact ⟨by rw [HV.out, HE.out]; rfl, rfl⟩
                · have HV : Hid (sgV (signR l) = .tuple #[.int .i32 0, .bool false]) := Lib.hid (by rw [HS0.out, if_neg (fun h => p1 ((at0_take (by omega)).1 h))]; rfl)
                  have x1 : ¬ (at0B l 0 : Int) = 35 := by omega
                  have x2 := at0B_lt l 0
                  generalize ((at0B l 0 : Nat) : Int) = x at *
                  have x3 : (x == 35) = false := by simpa using x1
                  clear p1 x2
                  go_enter Tryd.func66, Tryd.ntmps66
                  go_wp2_with fail
                  go_ret2
                  exact ⟨by rw [HV.out]; rfl, rfl⟩
            · have g2d : decide ((2 : Int) < (l.length : Int)) = false := decide_eq_false g2
              by_cases p2 : l.take 2 = [35, 120]
              · have hl2 : l = [35, 120] := by
                  rw [List.take_of_length_le (by omega)] at p2
                  exact p2
                subst hl2
                have HV : Hid (sgV (signR [35, 120]) = .tuple #[.int .i32 0, .bool false]) := Lib.hid (by kernel_rfl)
                have ix := idx_at [35, 120] 0 (by decide)
                have s3 := slt [35, 120] 1 (by decide)
                rw [show ((1 : Nat) : Int) = 1 from rfl, show ([35, 120] : List UInt8).drop 1 = [120] from rfl] at s3
                rw [show ((0 : Nat) : Int) = 0 from rfl, show ((at0B [35, 120] 0 : Nat) : Int) = 35 from rfl] at ix
                have kn : ∀ W, Calls Tryd.prog 79 #[.string (str [120]), .int .i64 10, .int .i64 7] W (Pure W (.int .i64 (-1))) := fun W => rnumber_10 [120] W (by decide)
                have KN := Lib.hid kn
                clear kn p2 e38 e60 e62 e34 e39 f38 f60 f62 f34 f39 g2 g2d hlm
                go_enter Tryd.func66, Tryd.ntmps66
                go_wp2_with fail
                refine (KN.out _).mono ?_
                rintro e w' ⟨rfl, rfl⟩
                go_wp2_with fail
                go_ret2
                exact ⟨by rw [HV.out]; rfl, rfl⟩
              · have HS0 : Hid (signR l = if l.take 1 = [35] then (numB 10 7 (l.drop 1)).map shownR else none) := Lib.hid (by rw [HSG.out, if_neg p2])
                clear p2
                by_cases g1 : (1 : Int) < (l.length : Int)
                · have g1c := g1
                  have g1d : decide ((1 : Int) < (l.length : Int)) = true := decide_eq_true (by omega)
                  have ix := idx_at l 0 (by omega)
                  rw [show ((0 : Nat) : Int) = 0 from rfl] at ix
                  by_cases p1 : at0B l 0 = 35
                  · have HS : Hid (signR l = (numB 10 7 (l.drop 1)).map shownR) := Lib.hid (by rw [HS0.out, if_pos ((at0_take (by omega)).2 p1)])
                    have s3 := slt l 1 (by omega)
                    rw [show ((1 : Nat) : Int) = 1 from rfl] at s3
                    have HDL : Hid ((l.drop 1).length ≤ maxLen) := Lib.hid (by have := HL.out; rw [List.length_drop]; omega)
                    rw [p1, show ((35 : Nat) : Int) = 35 from rfl] at ix
                    generalize l.drop 1 = D at *
                    clear p1
                    cases ho : numB 10 7 D with
                    | none =>
                      have kn : ∀ W, Calls Tryd.prog 79 #[.string (str D), .int .i64 10, .int .i64 7] W (Pure W (.int .i64 (-1))) := fun W => by have := rnumber_10 D W HDL.out; rw [ho] at this; exact this
                      have KN := Lib.hid kn
                      have HV : Hid (sgV (signR l) = .tuple #[.int .i32 0, .bool false]) := Lib.hid (by rw [HS.out, ho]; rfl)
                      clear kn ho
                      go_enter Tryd.func66, Tryd.ntmps66
                      go_wp2_with fail
                      refine (KN.out _).mono ?_
                      rintro e w' ⟨rfl, rfl⟩
                      go_wp2_with fail
                      go_ret2
                      exact ⟨by rw [HV.out]; rfl, rfl⟩
                    | some n =>
                      have n0 := numB_nn 10 (by decide) 7 D n ho
                      have kn : ∀ W, Calls Tryd.prog 79 #[.string (str D), .int .i64 10, .int .i64 7] W (Pure W (.int .i64 n)) := fun W => by have := rnumber_10 D W HDL.out; rw [ho] at this; exact this
                      have KN := Lib.hid kn
                      have HV : Hid (sgV (signR l) = .tuple #[.int .i32 (shownR n), .bool true]) := Lib.hid (by rw [HS.out, ho]; rfl)
                      clear kn ho
                      by_cases n1 : n < 32
                      · have n1d : decide (n < 32) = true := decide_eq_true n1
                        by_cases c9 : n = 9
                        · subst c9
                          go_enter Tryd.func66, Tryd.ntmps66
                          go_wp2_with fail
                          refine (KN.out _).mono ?_
                          rintro e w' ⟨rfl, rfl⟩
                          go_wp2_with fail
                          go_ret2
                          exact ⟨by rw [HV.out]; rfl, rfl⟩
                        · have d9 : (n == 9) = false := by simpa using c9
                          by_cases c10 : n = 10
                          · subst c10
                            go_enter Tryd.func66, Tryd.ntmps66
                            go_wp2_with fail
                            refine (KN.out _).mono ?_
                            rintro e w' ⟨rfl, rfl⟩
                            go_wp2_with fail
                            go_ret2
                            exact ⟨by rw [HV.out]; rfl, rfl⟩
                          · have d10 : (n == 10) = false := by simpa using c10
                            by_cases c13 : n = 13
                            · subst c13
                              go_enter Tryd.func66, Tryd.ntmps66
                              go_wp2_with fail
                              refine (KN.out _).mono ?_
                              rintro e w' ⟨rfl, rfl⟩
                              go_wp2_with fail
                              go_ret2
                              exact ⟨by rw [HV.out]; rfl, rfl⟩
                            · have d13 : (n == 13) = false := by simpa using c13
                              have HE := Lib.hid (shownR_low n1 c9 c10 c13)
                              go_enter Tryd.func66, Tryd.ntmps66
                              go_wp2_with fail
                              refine (KN.out _).mono ?_
                              rintro e w' ⟨rfl, rfl⟩
                              go_wp2_with fail
                              go_ret2
                              exact ⟨by rw [HV.out, HE.out]; rfl, rfl⟩
                      · have n1d : decide (n < 32) = false := decide_eq_false n1
                        by_cases n2 : 1114111 < n
                        · have HE := Lib.hid (shownR_bad n1 (.inl n2))
                          have n2d : decide (1114111 < n) = true := decide_eq_true n2
                          go_enter Tryd.func66, Tryd.ntmps66
                          go_wp2_with fail
                          refine (KN.out _).mono ?_
                          rintro e w' ⟨rfl, rfl⟩
                          go_wp2_with fail
                          go_ret2
                          exact ⟨by rw [HV.out, HE.out]; rfl, rfl⟩
                        · have n2d : decide (1114111 < n) = false := decide_eq_false n2
                          by_cases n3 : 55296 ≤ n
                          · have n3d : decide (55296 ≤ n) = true := decide_eq_true n3
                            by_cases n4 : n ≤ 57343
                            · have HE := Lib.hid (shownR_bad n1 (.inr ⟨n3, n4⟩))
                              have n4d : decide (n ≤ 57343) = true := decide_eq_true n4
                              go_enter Tryd.func66, Tryd.ntmps66
                              go_wp2_with fail
                              refine (KN.out _).mono ?_
                              rintro e w' ⟨rfl, rfl⟩
                              go_wp2_with fail
                              go_ret2
                              exact ⟨by rw [HV.out, HE.out]; rfl, rfl⟩
                            · have HE := Lib.hid (shownR_ok n1 (by omega) (fun h => n4 h.2))
                              have n4d : decide (n ≤ 57343) = false := decide_eq_false n4
                              go_enter Tryd.func66, Tryd.ntmps66
                              go_wp2_with fail
                              refine (KN.out _).mono ?_
                              rintro e w' ⟨rfl, rfl⟩
                              go_wp2_with fail
                              go_ret2
                              exact ⟨by rw [HV.out, HE.out]; rfl, rfl⟩
                          · have HE := Lib.hid (shownR_ok n1 (by omega) (fun h => n3 h.1))
                            have n3d : decide (55296 ≤ n) = false := decide_eq_false n3
                            go_enter Tryd.func66, Tryd.ntmps66
                            go_wp2_with fail
                            refine (KN.out _).mono ?_
                            rintro e w' ⟨rfl, rfl⟩
                            go_wp2_with fail
                            go_ret2
                            exact ⟨by rw [HV.out, HE.out]; rfl, rfl⟩
                  · have HV : Hid (sgV (signR l) = .tuple #[.int .i32 0, .bool false]) := Lib.hid (by rw [HS0.out, if_neg (fun h => p1 ((at0_take (by omega)).1 h))]; rfl)
                    have x1 : ¬ (at0B l 0 : Int) = 35 := by omega
                    have x2 := at0B_lt l 0
                    generalize ((at0B l 0 : Nat) : Int) = x at *
                    have x3 : (x == 35) = false := by simpa using x1
                    clear p1 x2
                    go_enter Tryd.func66, Tryd.ntmps66
                    go_wp2_with fail
                    go_ret2
                    exact ⟨by rw [HV.out]; rfl, rfl⟩
                · have g1d : decide ((1 : Int) < (l.length : Int)) = false := decide_eq_false g1
                  have HV : Hid (sgV (signR l) = .tuple #[.int .i32 0, .bool false]) := Lib.hid (by
                    rw [HS0.out, List.drop_of_length_le (by omega)]
                    split <;> rfl)
                  go_enter Tryd.func66, Tryd.ntmps66
                  go_wp2_with fail
                  go_ret2
                  exact ⟨by rw [HV.out]; rfl, rfl⟩
end Go.Proofs.YtelhdkidnhfnbaaDoor
