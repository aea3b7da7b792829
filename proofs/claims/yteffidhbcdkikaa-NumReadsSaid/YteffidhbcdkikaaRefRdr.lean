/-
  The calls of the document's own reader (newsstandref01.Reader): what each answers, and what is left of it. Conditions: the reader lies in a block of its own, behind its bytes.
-/
import Derived.Test.YteffidhbcdkikaaRdr
import Derived.Test.YteffidhbcdkikaaRefGet
import Derived.Test.YteffidhbcdkikaaNumRdr
namespace Go.Proofs.Yteffidhbcdkikaa
open Go.RowKit

/-- Marked as bad: nothing is left. -/
theorem rdr_bad {T : TypeId} {w : World} {g : Nat} {v : Value} {bad : Bool} {l : List UInt8} (hb : Blk w g T #[v, .bool bad]) (hr : Rd w g v l) :
    Rdr T (w.setCell ⟨g, 1, none⟩ (.bool true)) g none ∧ w.grownBy (w.setCell ⟨g, 1, none⟩ (.bool true)) (some g) := by
  have hg := grown_set w g 1 (.bool true)
  exact ⟨⟨v, true, l, hb.set 1 _, hr.grown hg (Nat.le_refl _) (Nat.le_of_lt hb.lt), rfl⟩, hg⟩

set_option maxHeartbeats 400000 in
theorem fleft (g : Nat) (s : Option (List UInt8)) (w : World) (h : Rdr 47 w g s) :
    Calls Try.prog 28 #[.pointer (some ⟨g, 0, none⟩)] w fun e w' => e = .returned (.int .i64 (leftS s : Int)) ∧ w = w' := by
  rcases h.open with ⟨rfl, v, l, hb, hr⟩ | ⟨v, l, rfl, hb, hr⟩
  · have h1 : w.cell? ⟨g, 1, none⟩ = some (.bool true) := by rw [hb.cell]; rfl
    go_enter Try.func28, Try.ntmps28
    go_wp2
    go_ret
    exact ⟨rfl, rfl⟩
  · obtain ⟨A, c, rfl, hlc, hcm, hA⟩ := hr
    have h0 : w.cell? ⟨g, 0, none⟩ = some (.slice A l.length c) := by rw [hb.cell]; rfl
    have h1 : w.cell? ⟨g, 1, none⟩ = some (.bool false) := by rw [hb.cell]; rfl
    go_enter Try.func28, Try.ntmps28
    go_wp2
    go_ret
    exact ⟨rfl, rfl⟩

set_option maxHeartbeats 800000 in
theorem fnum (g : Nat) (s : Option (List UInt8)) (w : World) (h : Rdr 47 w g s) :
    Calls Try.prog 22 #[.pointer (some ⟨g, 0, none⟩)] w (RdrPost 47 w g (numS s).2 (.int .i64 (numS s).1)) := by
  rcases h.open with ⟨rfl, v, l, hb, hr⟩ | ⟨v, l, rfl, hb, hr⟩
  · have h0 : w.cell? ⟨g, 0, none⟩ = some v := by rw [hb.cell]; rfl
    have h1 : w.cell? ⟨g, 1, none⟩ = some (.bool true) := by rw [hb.cell]; rfl
    have f1 := hb.free 1
    obtain ⟨hs, hg⟩ := rdr_bad hb hr
    have hget := rget_any v l g w hr
    have Hget := Lib.hid hget
    have Hs := Lib.hid hs
    have Hg := Lib.hid hg
    clear hget hs hg
    cases hv : vget l with
    | none =>
      have Hv := Lib.hid hv
      clear hv
      go_enter Try.func22, Try.ntmps22
      go_wp2_with fail
      refine Hget.out.mono ?_
      rw [Hv.out]
      rintro e w' ⟨rfl, rfl⟩
      unfold rgetV
      go_wp2_with fail
      go_ret
      exact ⟨rfl, Hs.out, Hg.out⟩
    | some yn =>
      obtain ⟨y, n⟩ := yn
      have Hv := Lib.hid hv
      clear hv
      go_enter Try.func22, Try.ntmps22
      go_wp2_with fail
      refine Hget.out.mono ?_
      rw [Hv.out]
      rintro e w' ⟨rfl, rfl⟩
      unfold rgetV
      go_wp2_with fail
      go_ret
      exact ⟨rfl, Hs.out, Hg.out⟩
  · have h0 : w.cell? ⟨g, 0, none⟩ = some v := by rw [hb.cell]; rfl
    have h1 : w.cell? ⟨g, 1, none⟩ = some (.bool false) := by rw [hb.cell]; rfl
    have f0 := hb.free 0
    have f1 := hb.free 1
    obtain ⟨hs, hg⟩ := rdr_bad hb hr
    have hget := rget_any v l g w hr
    have Hget := Lib.hid hget
    have Hs := Lib.hid hs
    have Hg := Lib.hid hg
    clear hget hs hg
    cases hv : vget l with
    | none =>
      have Hv := Lib.hid hv
      clear hv
      go_enter Try.func22, Try.ntmps22
      go_wp2_with fail
      refine Hget.out.mono ?_
      rw [Hv.out]
      rintro e w' ⟨rfl, rfl⟩
      unfold rgetV
      go_wp2_with fail
      go_ret
      exact ⟨by simp [numS, Hv.out], by simp only [numS, Hv.out]; exact Hs.out, Hg.out⟩
    | some yn =>
      obtain ⟨y, n⟩ := yn
      obtain ⟨_, _, hn1, _, hnl, _, _⟩ := num_vget l y n hv
      have Hv := Lib.hid hv
      clear hv
      have hr' := hr
      obtain ⟨A, c, rfl, hlc, hcm, hA⟩ := hr
      unfold maxLen at hcm
      have hcm' : (c : Int) ≤ 9223372036854775807 := by omega
      clear hcm hA
      have hfin : ∀ (A' : Option Addr) (c' : Nat), c' = c - n → (c ≠ n → A' = A.map (·.add n)) → RdrPost 47 w g (numS (some l)).2 (.int .i64 (numS (some l)).1) (.returned (.int .i64 (unfoldN y))) (w.setCell ⟨g, 0, none⟩ (.slice A' (l.length - n) c')) := by
        intro A' c' h1 h2
        obtain ⟨h3, h4⟩ := rdr_cut hb hr' n hnl A' c' h1 h2
        exact ⟨by simp only [numS, Hv.out], by simp only [numS, Hv.out]; exact h3, h4⟩
      have Hfin := Lib.hid hfin
      clear hfin
      go_enter Try.func22, Try.ntmps22
      go_wp2_with fail
      refine Hget.out.mono ?_
      rw [Hv.out]
      rintro e w' ⟨rfl, rfl⟩
      unfold rgetV
      go_wp2_with fail
      all_goals (go_ret; exact Hfin.out _ _ (by first | rfl | omega) (fun hne => by first | rfl | omega))

set_option maxHeartbeats 800000 in
theorem fbytes (g : Nat) (n : Int) (s : Option (List UInt8)) (w : World) (h : Rdr 47 w g s) :
    Calls Try.prog 34 #[.pointer (some ⟨g, 0, none⟩), .int .i64 n] w (TakePost 47 w g (takeS n s).1 (takeS n s).2) := by
  rcases h.open with ⟨rfl, v, l, hb, hr⟩ | ⟨v, l, rfl, hb, hr⟩
  · have h1 : w.cell? ⟨g, 1, none⟩ = some (.bool true) := by rw [hb.cell]; rfl
    have f1 := hb.free 1
    obtain ⟨hs, hg⟩ := rdr_bad hb hr
    have Hs := Lib.hid hs
    have Hg := Lib.hid hg
    clear hs hg
    go_enter Try.func34, Try.ntmps34
    go_wp2_with fail
    go_ret
    exact ⟨_, rfl, Rd.nil _ _, Hs.out, Hg.out⟩
  · have hr' := hr
    obtain ⟨A, c, rfl, hlc, hcm, hA⟩ := hr
    unfold maxLen at hcm
    have hcm' : (c : Int) ≤ 9223372036854775807 := by omega
    have h0 : w.cell? ⟨g, 0, none⟩ = some (.slice A l.length c) := by rw [hb.cell]; rfl
    have h1 : w.cell? ⟨g, 1, none⟩ = some (.bool false) := by rw [hb.cell]; rfl
    have f0 := hb.free 0
    have f1 := hb.free 1
    clear hcm hA
    obtain ⟨hs, hg⟩ := rdr_bad hb hr'
    have Hs := Lib.hid hs
    have Hg := Lib.hid hg
    clear hs hg
    by_cases hn : n < 0 ∨ (l.length : Int) < n
    · have hfin : takeS n (some l) = ([], none) := by simp only [takeS]; rw [if_pos hn]
      have Hfin := Lib.hid hfin
      clear hfin
      rcases hn with hn | hn
      · go_enter Try.func34, Try.ntmps34
        go_wp2_with fail
        go_ret
        exact ⟨_, rfl, by rw [Hfin.out]; exact Rd.nil _ _, by rw [Hfin.out]; exact Hs.out, Hg.out⟩
      · have hn0 : 0 ≤ n := by omega
        go_enter Try.func34, Try.ntmps34
        go_wp2_with fail
        go_ret
        exact ⟨_, rfl, by rw [Hfin.out]; exact Rd.nil _ _, by rw [Hfin.out]; exact Hs.out, Hg.out⟩
    · obtain ⟨k, rfl⟩ := Int.eq_ofNat_of_zero_le (show 0 ≤ n by omega)
      have hkl : k ≤ l.length := by omega
      have hfin : takeS (k : Int) (some l) = (l.take k, some (l.drop k)) := by simp only [takeS]; rw [if_neg hn]; simp
      have hend : ∀ (A' : Option Addr) (c' c2 : Nat), c2 = c → c' = c - k → (c ≠ k → A' = A.map (·.add k)) → TakePost 47 w g (takeS (k : Int) (some l)).1 (takeS (k : Int) (some l)).2 (.returned (.slice A k c2)) (w.setCell ⟨g, 0, none⟩ (.slice A' (l.length - k) c')) := by
        intro A' c' c2 h0 h1 h2
        subst h0
        obtain ⟨h3, h4⟩ := rdr_cut hb hr' k hkl A' c' h1 h2
        exact ⟨_, rfl, by rw [hfin]; exact (hr'.upto k hkl).grown h4 (Nat.le_refl _) (Nat.le_of_lt hb.lt), by rw [hfin]; exact h3, h4⟩
      have Hend := Lib.hid hend
      clear hend hfin hn
      go_enter Try.func34, Try.ntmps34
      go_wp2_with fail
      all_goals (go_ret; exact Hend.out _ _ _ (by first | rfl | omega) (by first | rfl | omega) (fun hne => by first | rfl | omega))

set_option maxHeartbeats 800000 in
theorem fbyte (g : Nat) (s : Option (List UInt8)) (w : World) (h : Rdr 47 w g s) :
    Calls Try.prog 25 #[.pointer (some ⟨g, 0, none⟩)] w (RdrPost 47 w g (byteS s).2 (.int .i64 ((byteS s).1 : Int))) := by
  go_enter Try.func25, Try.ntmps25
  go_wp2_with fail
  refine (fbytes g 1 s _ h).mono ?_
  rintro e w1 ⟨v, rfl, hr, hs, hg⟩
  rcases hl : (takeS 1 s).1 with _ | ⟨x, r⟩
  · rw [hl] at hr
    obtain ⟨A, c, rfl, _, _, _⟩ := hr
    have Hl := Lib.hid hl
    clear hl
    go_wp2_with fail
    go_ret
    exact ⟨by simp only [byteS, Hl.out]; rfl, hs, hg⟩
  · rw [hl] at hr
    obtain ⟨A, c, rfl, _, _, hA⟩ := hr
    obtain ⟨b, o, rfl, _, hc⟩ := hA (by simp)
    have hc0 := hc 0 (by simp)
    simp only [u8v, List.getElem_cons_zero, Nat.add_zero] at hc0
    have hx : (x.toNat : Int) < 256 := by have := x.toNat_lt; omega
    have hlen : ((x :: r).length : Int) = 1 := by
      rcases takeS_lt 1 s with h | h
      · rw [hl] at h; cases h
      · rw [hl] at h; exact h
    have Hl := Lib.hid hl
    clear hl hA hc
    rw [show (x :: r).length = 1 by omega]
    clear hlen
    go_wp2_with fail
    go_ret
    exact ⟨by simp only [byteS, Hl.out]; rfl, hs, hg⟩

set_option maxHeartbeats 800000 in
theorem ftext (g : Nat) (s : Option (List UInt8)) (w : World) (h : Rdr 47 w g s) :
    Calls Try.prog 23 #[.pointer (some ⟨g, 0, none⟩)] w (RdrPost 47 w g (textS s).2 (.string (str (textS s).1))) := by
  obtain ⟨hn1, hn2⟩ := numS_bd s
  go_enter Try.func23, Try.ntmps23
  go_wp2_with fail
  refine (fnum g s _ h).mono ?_
  rintro e w1 ⟨rfl, hs1, hg1⟩
  by_cases hbig : 65536 < (numS s).1
  · have Hts : Hid (textS s = takeS (numS s).1 none) := by unfold textS; rw [if_pos hbig]; rfl
    obtain ⟨v1, bad1, l1, hb1, hr1, _⟩ := hs1
    obtain ⟨hs2, hg2⟩ := rdr_bad hb1 hr1
    have c1 : w1.cell? ⟨g, 1, none⟩ = some (.bool bad1) := by rw [hb1.cell]; rfl
    have f1 := hb1.free 1
    have Hs2 := Lib.hid hs2
    have Hg2 := Lib.hid hg2
    clear hs2 hg2
    generalize hq : (numS s).1 = q at hn1 hn2 hbig Hts
    have Hq := Lib.hid hq
    clear hq
    go_wp2_with fail
    refine (fbytes g q none _ Hs2.out).mono ?_
    rintro e w3 ⟨v, rfl, hr3, hs3, hg3⟩
    have hconv := run_conv_rd (P := Try.prog) 22 5 9 Try.underlying22 Try.underlying5 Try.underlying9 hr3
    go_wp2_with fail
    go_ret
    exact ⟨by rw [Hts.out]; rfl, by rw [Hts.out]; exact hs3, (hg1.trans Hg2.out).trans hg3⟩
  · have Hts : Hid (textS s = takeS (numS s).1 (numS s).2) := by unfold textS; rw [if_neg hbig]; rfl
    generalize hq : (numS s).1 = q at hn1 hn2 hbig Hts
    have Hq := Lib.hid hq
    clear hq
    go_wp2_with fail
    refine (fbytes g q _ _ hs1).mono ?_
    rintro e w3 ⟨v, rfl, hr3, hs3, hg3⟩
    have hconv := run_conv_rd (P := Try.prog) 22 5 9 Try.underlying22 Try.underlying5 Try.underlying9 hr3
    go_wp2_with fail
    go_ret
    exact ⟨by rw [Hts.out]; rfl, by rw [Hts.out]; exact hs3, hg1.trans hg3⟩

set_option maxHeartbeats 800000 in
theorem fword (g : Nat) (s : Option (List UInt8)) (w : World) (h : Rdr 47 w g s) :
    Calls Try.prog 27 #[.pointer (some ⟨g, 0, none⟩)] w (RdrPost 47 w g (wordS s).2 (.int .u32 ((wordS s).1 : Int))) := by
  go_enter Try.func27, Try.ntmps27
  go_wp2_with fail
  refine (fbytes g 4 s _ h).mono ?_
  rintro e w1 ⟨v, rfl, hr, hs, hg⟩
  rcases takeS_lt 4 s with hl | hl
  · rw [hl] at hr
    obtain ⟨A, c, rfl, _, _, _⟩ := hr
    have Hl := Lib.hid hl
    clear hl
    go_wp2_with fail
    go_ret
    exact ⟨by simp only [wordS, Hl.out]; rfl, hs, hg⟩
  · obtain ⟨a, b, c, d, hl4⟩ : ∃ a b c d, (takeS 4 s).1 = [a, b, c, d] := by
      match h4 : (takeS 4 s).1, hl with
      | [a, b, c, d], _ => exact ⟨a, b, c, d, rfl⟩
      | [], h => simp at h
      | [_], h => simp at h
      | [_, _], h => simp at h
      | [_, _, _], h => simp at h
      | _ :: _ :: _ :: _ :: _ :: _, h => simp at h; omega
    rw [hl4] at hr
    obtain ⟨A, cp, rfl, _, _, hA⟩ := hr
    obtain ⟨bl, o, rfl, _, hc⟩ := hA (by simp)
    have c0 := hc 0 (by simp)
    have c1 := hc 1 (by simp)
    have c2 := hc 2 (by simp)
    have c3 := hc 3 (by simp)
    simp only [u8v, List.getElem_cons_zero, List.getElem_cons_succ, Nat.add_zero] at c0 c1 c2 c3
    have x0 : (a.toNat : Int) < 256 := by have := a.toNat_lt; omega
    have x1 : (b.toNat : Int) < 256 := by have := b.toNat_lt; omega
    have x2 : (c.toNat : Int) < 256 := by have := c.toNat_lt; omega
    have x3 : (d.toNat : Int) < 256 := by have := d.toNat_lt; omega
    have Hl := Lib.hid hl4
    clear hl hl4 hA hc
    go_wp2_with fail
    go_quiet (fail)
    go_wp2
    go_ret
    have hw : (wordS s).1 = a.toNat + 256 * b.toNat + 65536 * c.toNat + 16777216 * d.toNat := by simp only [wordS, Hl.out]; rfl
    refine ⟨?_, hs, ⟨hg.os, hg.tape, hg.output, hg.size, hg.block⟩⟩
    rw [hw]
    exact ret_val (int_val (by omega))
end Go.Proofs.Yteffidhbcdkikaa
