/-
  newsstandref08.Large: tokens that it does not call large are few and short. Condition: the tokens' cells lie in memory.
-/
import Derived.Test.YtelhdkidnhfnbaaDoorMgl
namespace Go.Proofs.YtelhdkidnhfnbaaDoor
open Go.RowKit

def SmE (e : TokE) : Prop := e.attrs.length ≤ 60 ∧ e.text.length ≤ 3000 ∧ e.name.length ≤ 300 ∧ ∀ a ∈ e.attrs, a.2.length ≤ 1000 ∧ a.1.length ≤ 300
def SmT (G : List TokE) : Prop := G.length ≤ 300 ∧ ∀ e ∈ G, SmE e
def LargeAns (w : World) (G : List TokE) (e : Ending) (w' : World) : Prop := ∃ b, e = .returned (.bool b) ∧ (b = false → SmT G) ∧ ∃ m, w' = w.drewN m
def LgRel (w : World) (G : List TokE) (u3 u4 : Value) (W : World) : Prop := ∃ (k : Nat) (z : Int), k ≤ G.length ∧ u3 = .int .i64 z ∧ u4 = .int .i64 (k : Int) ∧ (∀ e ∈ G.take k, SmE e) ∧ ∃ m, W = w.drewN m
def LgIn (w : World) (L : AttrL) (u3 u5 : Value) (W : World) : Prop := ∃ (j : Nat) (z : Int), j ≤ L.length ∧ u3 = .int .i64 z ∧ u5 = .int .i64 (j : Int) ∧ (∀ a ∈ L.take j, a.2.length ≤ 1000 ∧ a.1.length ≤ 300) ∧ ∃ m, W = w.drewN m
theorem all_next {α : Type} {P : α → Prop} {L : List α} {k : Nat} (hk : k < L.length) (h : ∀ a ∈ L.take k, P a) (hx : P L[k]) : ∀ a ∈ L.take (k + 1), P a := fun a ha => by
  rw [List.take_succ_eq_append_getElem hk] at ha
  rcases List.mem_append.1 ha with ha | ha
  · exact h a ha
  · rw [List.mem_singleton.1 ha]; exact hx
set_option maxHeartbeats 12800000 in
set_option maxRecDepth 100000 in
theorem large_any {w : World} {v : Value} {G : List TokE} (h : SrcT w v G) : Calls Tryd.prog 11 #[v] w (LargeAns w G) := by
  obtain ⟨⟨A, c, rfl, hA⟩, hs⟩ := h
  by_cases h300 : (300 : Int) < (G.length : Int)
  · clear hA hs
    go_enter Tryd.func11, Tryd.ntmps11
    go_wp2_with fail
    go_ret
    exact ⟨true, rfl, (fun h => by cases h), 0, rfl⟩
  · have HA := Lib.hid hA
    have HS := Lib.hid hs
    have HG : Hid (G.length ≤ 300) := Lib.hid (by omega)
    obtain ⟨n, hn⟩ : ∃ n, n = G.length := ⟨_, rfl⟩
    rw [← hn]
    have hni : (n : Int) ≤ 300 := by omega
    have h300' : decide ((300 : Int) < (n : Int)) = false := decide_eq_false (by omega)
    have HN := Lib.hid hn
    clear hA hs h300 hn
    go_enter Tryd.func11, Tryd.ntmps11
    go_wp2_with fail
    go_loopw [3, 4] (LgRel w G) (fun _ u _ => G.length - (intOf u).toNat)
    case atStart => exact ⟨0, 0, Nat.zero_le _, rfl, rfl, (fun e he => by cases he), 0, rfl⟩
    case round =>
      obtain ⟨k, z, hk, rfl, rfl, hall, m, rfl⟩ := hrel
      have HALL := Lib.hid hall
      clear hall
      by_cases hkn : k < n
      · have hkI : (k : Int) < (n : Int) := by omega
        have hk1 : k < G.length := by have := HN.out; omega
        obtain ⟨b1, o1, rfl, hb1, hc1⟩ := HA.out (by omega)
        obtain ⟨z1, z2, z3, z4⟩ := tcells_src hc1 hk1
        have SA1 := HS.out _ (List.getElem_mem hk1)
        have HNX : Hid (SmE G[k] → ∀ e ∈ G.take (k + 1), SmE e) := Lib.hid fun h => all_next hk1 HALL.out h
        have HK1 : Hid (k + 1 ≤ G.length) := Lib.hid hk1
        generalize G[k] = x at *
        obtain ⟨xk, xn, xa, xv, xt⟩ := x
        simp only at z1 z2 z3 z4 SA1
        obtain ⟨A2, c2, rfl, hA2⟩ := SA1
        have HA2 := Lib.hid hA2
        clear hc1 hb1 hk1 hA2 z1
        by_cases h60 : (60 : Int) < (xa.length : Int)
        · go_wp2_with fail
          go_ret
          exact ⟨true, rfl, (fun h => by cases h), m, rfl⟩
        · have h60' : decide ((60 : Int) < (xa.length : Int)) = false := decide_eq_false h60
          by_cases h3k : (3000 : Int) < (xt.length : Int)
          · clear h60
            go_wp2_with fail
            go_ret
            exact ⟨true, rfl, (fun h => by cases h), m, rfl⟩
          · have h3k' : decide ((3000 : Int) < (xt.length : Int)) = false := decide_eq_false h3k
            by_cases h3h : (300 : Int) < (xn.length : Int)
            · clear h60 h3k
              go_wp2_with fail
              go_ret
              exact ⟨true, rfl, (fun h => by cases h), m, rfl⟩
            · have h3h' : decide ((300 : Int) < (xn.length : Int)) = false := decide_eq_false h3h
              have HSM : Hid ((∀ a ∈ xa, a.2.length ≤ 1000 ∧ a.1.length ≤ 300) → SmE ⟨xk, xn, xa, .slice A2 xa.length c2, xt⟩) := Lib.hid fun h => ⟨by show xa.length ≤ 60; omega, by show xt.length ≤ 3000; omega, by show xn.length ≤ 300; omega, h⟩
              have HXA : Hid (xa.length ≤ 60) := Lib.hid (by omega)
              have hxi : (xa.length : Int) ≤ 60 := by omega
              clear h60 h3k h3h
              go_wp2_with fail
              go_loopw [3, 5] (LgIn w xa) (fun _ u _ => xa.length - (intOf u).toNat)
              case atStart => exact ⟨0, _, Nat.zero_le _, rfl, rfl, (fun e he => by cases he), m, rfl⟩
              case round =>
                obtain ⟨j, zj, hj, rfl, rfl, hin, mj, rfl⟩ := hrel
                have HIN := Lib.hid hin
                clear hin
                by_cases hjn : j < xa.length
                · have hjI : (j : Int) < (xa.length : Int) := by omega
                  obtain ⟨b2, o2, rfl, hb2, hc2⟩ := HA2.out (by omega)
                  have y1 := (cells_drewN hc2 hjn).1
                  have y2 := (cells_drewN hc2 hjn).2
                  have HNY : Hid (xa[j].2.length ≤ 1000 ∧ xa[j].1.length ≤ 300 → ∀ a ∈ xa.take (j + 1), a.2.length ≤ 1000 ∧ a.1.length ≤ 300) := Lib.hid fun h => all_next hjn HIN.out h
                  have HJ1 : Hid (j + 1 ≤ xa.length) := Lib.hid hjn
                  generalize xa[j] = a at *
                  obtain ⟨a1, a2⟩ := a
                  simp only at y1 y2
                  clear hc2 hb2
                  by_cases h1k : (1000 : Int) < (a2.length : Int)
                  · go_wp2_with fail
                    go_ret
                    exact ⟨true, rfl, (fun h => by cases h), mj, rfl⟩
                  · have h1k' : decide ((1000 : Int) < (a2.length : Int)) = false := decide_eq_false h1k
                    by_cases h3h : (300 : Int) < (a1.length : Int)
                    · clear h1k
                      go_wp2_with fail
                      go_ret
                      exact ⟨true, rfl, (fun h => by cases h), mj, rfl⟩
                    · have h3h' : decide ((300 : Int) < (a1.length : Int)) = false := decide_eq_false h3h
                      have HOK := Lib.hid (HNY.out ⟨by show a2.length ≤ 1000; omega, by show a1.length ≤ 300; omega⟩)
                      clear h1k h3h
                      go_wp2_with fail
                      go_roundw
                      case rel => exact ⟨j + 1, _, HJ1.out, rfl, by go_num, HOK.out, mj, rfl⟩
                      case measure => have := HJ1.out; simp [intOf]; omega
                · have hjI : ¬ (j : Int) < (xa.length : Int) := by omega
                  have HX := Lib.hid (HNX.out (HSM.out (by
                    have h := HIN.out
                    rw [List.take_of_length_le (by omega)] at h
                    exact h)))
                  go_wp2_with fail
                  go_roundw
                  case rel => exact ⟨k + 1, _, HK1.out, rfl, by go_num, HX.out, mj, rfl⟩
                  case measure => have := HK1.out; simp [intOf]; omega
      · have hkI : ¬ (k : Int) < (n : Int) := by omega
        have HX : Hid (∀ e ∈ G, SmE e) := Lib.hid (by
          have h := HALL.out
          rw [List.take_of_length_le (by have := HN.out; omega)] at h
          exact h)
        go_wp2_with fail
        go_ret
        exact ⟨_, rfl, (fun _ => ⟨HG.out, HX.out⟩), m, rfl⟩
end Go.Proofs.YtelhdkidnhfnbaaDoor

/-
  XmlNames's call: it answers true. Conditions: the table of signs is as the program's text lays it; the library's MaxLen is a number; the tokens' cells lie in memory.
-/
namespace Go.Proofs.YtelhdkidnhfnbaaDoor
open Go.RowKit

theorem sm_small {G : List TokE} (h : SmT G) : G.length ≤ 1000000 ∧ ∀ e ∈ G, e.attrs.length ≤ 1000000 :=
  ⟨Nat.le_trans h.1 (by decide), fun e he => Nat.le_trans (h.2 e he).1 (by decide)⟩
set_option maxHeartbeats 6400000 in
set_option maxRecDepth 100000 in
theorem lnam_any (l : List UInt8) (v1 v2 : Value) (w : World) (hl : l.length ≤ maxLen) (h1 : RdT w v1) (h2 : RdT w v2) (hS : Sig w) (hm : MaxAt w) : Calls Tryd.prog 5 #[.string (str l), v1, v2] w (Made w (.bool true)) := by
  have HS := Lib.hid hS
  have HM := Lib.hid hm
  obtain ⟨G1, s1, _, _⟩ := h1
  obtain ⟨G2, s2, _, _⟩ := h2
  have HS1 := Lib.hid s1
  have HS2 := Lib.hid s2
  have HL := Lib.hid hl
  clear hS hm s1 s2 hl
  by_cases h1 : (1000 : Int) < (l.length : Int)
  · go_enter Tryd.func5, Tryd.ntmps5
    go_wp2_with (go_at_call 7; refine (lives_any _ HS.out HM.out).mono ?_; rintro e w1 ⟨rfl, b1⟩; have B1 := Lib.hid b1; clear b1)
    go_ret
    exact ⟨rfl, B1.out⟩
  · have h1' : decide ((1000 : Int) < (l.length : Int)) = false := decide_eq_false h1
    clear h1
    go_enter Tryd.func5, Tryd.ntmps5
    go_wp2_with (first
      | (go_at_call 11; have q1 := M1.out; clear q1; refine (large_any (HS2.out.below (below_drewN (Below.refl _ _) m1))).mono ?_; rintro e w2 ⟨b2, rfl, sm2, m2, rfl⟩; have SM2 := Lib.hid sm2; clear sm2; cases b2)
      | (go_at_call 11; refine (large_any HS1.out).mono ?_; rintro e w1 ⟨b1, rfl, sm1, m1, rfl⟩; have SM1 := Lib.hid sm1; have M1 : Hid True := Lib.hid trivial; clear sm1; cases b1))
    · go_wp2_with (first
        | (go_at_call 10; refine (rsame_any (HS1.out.below B6.out) (HS2.out.below B6.out) (sm_small (SM1.out trivial)).1 (sm_small (SM1.out trivial)).2).mono ?_; rintro e w7 ⟨rfl, q7, rfl⟩; have B7 := Lib.hid (below_drewN B6.out q7))
        | (go_at_call 17; refine (xsame_any (HS1.out.below B5.out) (HS2.out.below B5.out) (sm_small (SM1.out trivial)).1 (sm_small (SM1.out trivial)).2).mono ?_; rintro e w6 ⟨rfl, b6⟩; have B6 := Lib.hid (below_then B5.out b6); clear b6)
        | (go_at_call 16; refine (rnamex_any l _ HL.out).mono ?_; rintro e w5 ⟨rfl, b5⟩; have B5 := Lib.hid (below_then B4.out b5); clear b5)
        | (go_at_call 15; refine (xname_any l _).mono ?_; rintro e w4 ⟨rfl, b4⟩; have B4 := Lib.hid (below_then B3.out b4); clear b4)
        | (go_at_call 7; refine (lives_any _ (HS.out.below (below_drewN (Below.refl _ _) _)) (HM.out.below (below_drewN (Below.refl _ _) _))).mono ?_; rintro e w3 ⟨rfl, b3⟩; have B3 := Lib.hid (below_then (below_drewN (Below.refl _ _) _) b3); clear b3))
      go_ret
      exact ⟨rfl, B7.out⟩
    · go_wp2_with (go_at_call 7; refine (lives_any _ (HS.out.below (below_drewN (Below.refl _ _) _)) (HM.out.below (below_drewN (Below.refl _ _) _))).mono ?_; rintro e w3 ⟨rfl, b3⟩; have B3 := Lib.hid (below_then (below_drewN (Below.refl _ _) _) b3); clear b3)
      go_ret
      exact ⟨rfl, B3.out⟩
    · go_wp2_with (go_at_call 7; refine (lives_any _ (HS.out.below (below_drewN (Below.refl _ _) _)) (HM.out.below (below_drewN (Below.refl _ _) _))).mono ?_; rintro e w3 ⟨rfl, b3⟩; have B3 := Lib.hid (below_then (below_drewN (Below.refl _ _) _) b3); clear b3)
      go_ret
      exact ⟨rfl, B3.out⟩
end Go.Proofs.YtelhdkidnhfnbaaDoor

/-
  XmlTokens's call: it answers true. Conditions: the table of signs is as the program's text lays it; the library's MaxLen is a number.
-/
namespace Go.Proofs.YtelhdkidnhfnbaaDoor
open Go.RowKit

def SmallT (T : List Tk) : Prop := T.length ≤ 1000000 ∧ ∀ t ∈ T, t.attrs.length ≤ 1000000
theorem opnF_small : ∀ (n : Nat) (l : List UInt8) (L : AttrL) (R : AttrL × List UInt8), opnF n l L = some R → R.1.length ≤ L.length + l.length
  | 0, l, L, R, h => by cases h
  | n + 1, l, L, R, h => by
    rw [opnF] at h
    split at h
    · split at h
      · rename_i h3
        have h1 := opnF_small n _ _ _ h
        have h2 := (attrX_yes h3).1
        have h4 := dropB_len l
        rw [List.length_append, List.length_singleton] at h1
        omega
      · cases h
    · injection h with h
      rw [← h]
      exact Nat.le_add_right _ _
theorem part_small {l r : List UInt8} {ts : List Tk} (h : partX l = some (ts, r)) : ∀ t ∈ ts, t.attrs.length ≤ l.length := by
  have nn : ∀ (k : Int) (nm tx : List UInt8) (t : Tk), t = ⟨k, nm, [], tx⟩ → t.attrs.length ≤ l.length := fun k nm tx t e => by rw [e]; exact Nat.zero_le _
  unfold partX at h
  intro t ht
  by_cases a1 : hasB l mk1 = true
  · rw [if_pos a1] at h
    cases hb : betwX l mk1 [45, 45, 62] with
    | none => rw [hb] at h; cases h
    | some q => rw [hb] at h; injection h with h; injection h with h _; rw [← h] at ht; cases ht
  rw [if_neg a1] at h
  by_cases a2 : hasB l mk2 = true
  · rw [if_pos a2] at h
    cases hb : betwX l mk2 [63, 62] with
    | none => rw [hb] at h; cases h
    | some q => rw [hb] at h; injection h with h; injection h with h _; rw [← h] at ht; cases ht
  rw [if_neg a2] at h
  by_cases a3 : hasB l mk3 = true
  · rw [if_pos a3] at h
    cases hb : betwX l mk3 [62] with
    | none => rw [hb] at h; cases h
    | some q =>
      rw [hb] at h
      simp only at h
      split at h
      · cases h
      · injection h with h; injection h with h _; rw [← h] at ht; cases ht
  rw [if_neg a3] at h
  by_cases a4 : hasB l mk4 = true
  · rw [if_pos a4] at h
    cases hb : betwX l mk4 [93, 93, 62] with
    | none => rw [hb] at h; cases h
    | some q => rw [hb] at h; injection h with h; injection h with h _; rw [← h] at ht; exact nn _ _ _ t (List.mem_singleton.1 ht)
  rw [if_neg a4] at h
  by_cases a5 : hasB l mk5 = true
  · rw [if_pos a5] at h
    split at h
    · injection h with h; injection h with h _; rw [← h] at ht; exact nn _ _ _ t (List.mem_singleton.1 ht)
    · cases h
  rw [if_neg a5] at h
  by_cases a6 : hasB l [60] = true
  · rw [if_pos a6] at h
    cases hb : opnX (l.drop 1) with
    | none => rw [hb] at h; cases h
    | some q =>
      obtain ⟨L, c, rest⟩ := q
      have hL : L.length ≤ l.length := by
        unfold opnX at hb
        cases ho : opnF ((tailX (l.drop 1)).length + 1) (tailX (l.drop 1)) [] with
        | none => rw [ho] at hb; cases hb
        | some R =>
          obtain ⟨M, d⟩ := R
          have h1 := opnF_small _ _ _ _ ho
          have h2 := tailX_len (l.drop 1)
          rw [List.length_drop] at h2
          rw [ho] at hb
          simp only at hb h1
          split at hb
          · injection hb with hb
            injection hb with hb _
            rw [← hb]
            simp only [List.length_nil] at h1
            omega
          · cases hb
      rw [hb] at h; injection h with h; injection h with h _; rw [← h] at ht
      unfold openT at ht
      rcases List.mem_cons.1 ht with e | ht
      · rw [e]; exact hL
      · split at ht
        · exact nn _ _ _ t (List.mem_singleton.1 ht)
        · cases ht
  · rw [if_neg a6] at h
    injection h with h; injection h with h _; rw [← h] at ht; exact nn _ _ _ t (List.mem_singleton.1 ht)
theorem allK_small {S : List Tk × List UInt8} {M : Nat} (h : ∀ t ∈ S.1, t.attrs.length ≤ M) : ∀ t ∈ allK S, t.attrs.length ≤ M := by
  intro t ht
  rcases List.mem_append.1 ht with ht | ht
  · exact h t ht
  · unfold textK at ht
    split at ht
    · cases ht
    · rw [List.mem_singleton.1 ht]; exact Nat.zero_le _
theorem addK_small {M : Nat} : ∀ (ts : List Tk) (S : List Tk × List UInt8), (∀ t ∈ S.1, t.attrs.length ≤ M) → (∀ t ∈ ts, t.attrs.length ≤ M) → ∀ t ∈ (ts.foldl addK S).1, t.attrs.length ≤ M
  | [], S, h, _ => h
  | x :: r, S, h, hx => by
    rw [List.foldl_cons]
    refine addK_small r _ (fun t ht => ?_) fun t ht => hx t (List.mem_cons_of_mem _ ht)
    unfold addK at ht
    split at ht
    · exact h t ht
    · rcases List.mem_append.1 ht with ht | ht
      · exact allK_small (S := S) h t ht
      · rw [List.mem_singleton.1 ht]; exact hx x List.mem_cons_self
theorem tokF_small : ∀ (n N : Nat) (l : List UInt8) (S : List Tk × List UInt8), l.length ≤ 1000000 → (∀ t ∈ S.1, t.attrs.length ≤ 1000000) → (allK S).length ≤ 8192 → SmallT (tokF n N l S).1
  | 0, _, _, _, _, _, _ => ⟨Nat.zero_le _, fun t ht => by cases ht⟩
  | n + 1, N, l, S, hl, hS, h8 => by
    rw [tokF]
    by_cases h0 : l = []
    · rw [if_pos h0]
      exact ⟨Nat.le_trans h8 (by decide), allK_small hS⟩
    · rw [if_neg h0]
      cases hp : partX l with
      | none => exact ⟨Nat.zero_le _, fun t ht => by cases ht⟩
      | some q =>
        obtain ⟨ts, r⟩ := q
        simp only
        split
        · exact ⟨Nat.zero_le _, fun t ht => by cases ht⟩
        · rename_i h9
          refine tokF_small n N r _ ?_ (addK_small ts S hS fun t ht => Nat.le_trans (part_small hp t ht) hl) (by omega)
          have := (prt_len hp h0 [] []).1
          omega
theorem toks_small (l : List UInt8) (hl : l.length ≤ 3000) : SmallT (tokX l).1 := by
  unfold tokX
  rw [if_neg (by omega)]
  exact tokF_small _ _ _ _ (by omega) (fun t ht => by cases ht) (by decide)
theorem small_of {G : List TokE} {T : List Tk} (h : SmallT T) (hg : G.map TokE.tk = T) : G.length ≤ 1000000 ∧ ∀ e ∈ G, e.attrs.length ≤ 1000000 := by
  subst hg
  refine ⟨by have := h.1; rw [List.length_map] at this; exact this, fun e he => h.2 e.tk (List.mem_map_of_mem he)⟩
set_option maxHeartbeats 6400000 in
set_option maxRecDepth 100000 in
theorem ltok_any (l : List UInt8) (w : World) (hS : Sig w) (hm : MaxAt w) : Calls Tryd.prog 3 #[.string (str l)] w (Made w (.bool true)) := by
  have HS := Lib.hid hS
  have HM := Lib.hid hm
  clear hS hm
  by_cases h1 : (3000 : Int) < (l.length : Int)
  · go_enter Tryd.func3, Tryd.ntmps3
    go_wp2_with (go_at_call 7; refine (lives_any _ HS.out HM.out).mono ?_; rintro e w1 ⟨rfl, b1⟩; have B1 := Lib.hid b1; clear b1)
    go_ret
    exact ⟨rfl, B1.out⟩
  · have h1' : decide ((3000 : Int) < (l.length : Int)) = false := decide_eq_false h1
    have HL : Hid (l.length ≤ 1000000000) := Lib.hid (by omega)
    have HT := Lib.hid (toks_small l (by omega))
    obtain ⟨⟨T, n, er⟩, hx⟩ : ∃ x, x = tokX l := ⟨_, rfl⟩
    have HX := Lib.hid hx
    clear h1 hx
    go_enter Tryd.func3, Tryd.ntmps3
    go_wp2_with (first
      | (go_at_call 8; have k := tokens_any l w HL.out HS.out HM.out; unfold ToksAns at k; rw [← HX.out] at k; refine k.mono ?_; rintro e w1 ⟨v1, G1, rfl, b1, g1, r1⟩; have B1 := Lib.hid b1; have R1 := Lib.hid r1; have HG1 := Lib.hid g1; clear k b1 r1 g1)
      | (go_at_call 9; have k := rtokens_any l w1 HL.out; unfold ToksAns at k; rw [← HX.out] at k; refine k.mono ?_; rintro e w2 ⟨v2, G2, rfl, b2, g2, r2⟩; have B2 := Lib.hid (below_then B1.out b2); have R12 := Lib.hid (R1.out.below b2); have R2 := Lib.hid r2; have HG2 := Lib.hid g2; clear k b2 r2 g2)
      | (go_at_call 7; refine (lives_any _ (HS.out.below B2.out) (HM.out.below B2.out)).mono ?_; rintro e w3 ⟨rfl, b3⟩; have B3 := Lib.hid (below_then B2.out b3); have R13 := Lib.hid (R12.out.below b3); have R23 := Lib.hid (R2.out.below b3); clear b3)
      | (go_at_call 10; have ks := rsame_any (srcT_row R13.out) (srcT_row R23.out) (small_of HT.out (HG1.out.trans (by rw [← HX.out]))).1 (small_of HT.out (HG1.out.trans (by rw [← HX.out]))).2; rw [HG1.out, HG2.out, decide_eq_true rfl] at ks; refine ks.mono ?_; rintro e w4 ⟨rfl, q4, rfl⟩; have B4 := Lib.hid (below_drewN B3.out q4); clear ks))
    go_ret
    exact ⟨rfl, B4.out⟩
end Go.Proofs.YtelhdkidnhfnbaaDoor
