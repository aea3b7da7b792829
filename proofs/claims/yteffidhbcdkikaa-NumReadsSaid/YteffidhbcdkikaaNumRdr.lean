/-
  The calls of num.Reader: what each answers, and what is left of the reader. Conditions: the reader lies as num.From lays it.
-/
import Derived.Test.YteffidhbcdkikaaRdr
import Derived.Test.YteffidhbcdkikaaGet
namespace Go.Proofs.Yteffidhbcdkikaa
open Go.RowKit

set_option maxHeartbeats 400000 in
theorem bad_nil (w : World) : Calls Try.prog 20 #[.pointer none] w fun e w' => e = .returned (.bool true) ∧ w = w' := by
  go_enter Try.func20, Try.ntmps20
  go_wp2
  go_ret
  exact ⟨rfl, rfl⟩

set_option maxHeartbeats 400000 in
theorem bad_any (g : Nat) (v : Value) (bad : Bool) (w : World) (h : Blk w g 56 #[v, .bool bad]) :
    Calls Try.prog 20 #[.pointer (some ⟨g, 0, none⟩)] w fun e w' => e = .returned (.bool bad) ∧ w = w' := by
  have h1 : w.cell? ⟨g, 1, none⟩ = some (.bool bad) := by rw [h.cell]; rfl
  go_enter Try.func20, Try.ntmps20
  go_wp2
  go_ret
  exact ⟨rfl, rfl⟩

set_option maxHeartbeats 400000 in
theorem spoil_any (g : Nat) (v : Value) (bad : Bool) (w : World) (h : Blk w g 56 #[v, .bool bad]) :
    Calls Try.prog 32 #[.pointer (some ⟨g, 0, none⟩)] w fun e w' => e = .returned (.tuple #[]) ∧ Rdr 56 w' g none ∧ w.grownBy w' (some g) := by
  have h0 : w.cell? ⟨g, 0, none⟩ = some v := by rw [h.cell]; rfl
  have h1 : w.cell? ⟨g, 1, none⟩ = some (.bool bad) := by rw [h.cell]; rfl
  have f0 := h.free 0
  have f1 := h.free 1
  go_enter Try.func32, Try.ntmps32
  go_wp2
  go_returns
  exact ⟨rfl, ⟨_, true, [], (h.set 0 _).set 1 _, Rd.nil _ _, rfl⟩, (grown_set w g 0 _).trans (grown_set _ g 1 _)⟩

set_option maxHeartbeats 400000 in
theorem left_nil (w : World) : Calls Try.prog 19 #[.pointer none] w fun e w' => e = .returned (.int .i64 0) ∧ w = w' := by
  go_enter Try.func19, Try.ntmps19
  go_wp2_with (go_at_call 20; go_must (refine (bad_nil _).mono ?_); rintro e w' ⟨rfl, rfl⟩)
  go_ret
  exact ⟨rfl, rfl⟩

set_option maxHeartbeats 400000 in
theorem left_any (g : Nat) (s : Option (List UInt8)) (w : World) (h : Rdr 56 w g s) :
    Calls Try.prog 19 #[.pointer (some ⟨g, 0, none⟩)] w fun e w' => e = .returned (.int .i64 (leftS s : Int)) ∧ w = w' := by
  rcases h.open with ⟨rfl, v, l, hb, hr⟩ | ⟨v, l, rfl, hb, hr⟩
  · go_enter Try.func19, Try.ntmps19
    go_wp2_with (go_at_call 20; go_must (refine (bad_any g v true _ hb).mono ?_); rintro e w' ⟨rfl, rfl⟩)
    go_ret
    exact ⟨rfl, rfl⟩
  · obtain ⟨A, c, rfl, hlc, hcm, hA⟩ := hr
    have h0 : w.cell? ⟨g, 0, none⟩ = some (.slice A l.length c) := by rw [hb.cell]; rfl
    go_enter Try.func19, Try.ntmps19
    go_wp2_with (go_at_call 20; go_must (refine (bad_any g _ false _ hb).mono ?_); rintro e w' ⟨rfl, rfl⟩)
    go_ret
    exact ⟨rfl, rfl⟩

set_option maxHeartbeats 400000 in
theorem num_nil (w : World) : Calls Try.prog 21 #[.pointer none] w fun e w' => e = .returned (.int .i64 0) ∧ w = w' := by
  go_enter Try.func21, Try.ntmps21
  go_wp2_with (go_at_call 20; go_must (refine (bad_nil _).mono ?_); rintro e w' ⟨rfl, rfl⟩)
  go_ret
  exact ⟨rfl, rfl⟩

set_option maxHeartbeats 800000 in
theorem num_any (g : Nat) (s : Option (List UInt8)) (w : World) (h : Rdr 56 w g s) :
    Calls Try.prog 21 #[.pointer (some ⟨g, 0, none⟩)] w (RdrPost 56 w g (numS s).2 (.int .i64 (numS s).1)) := by
  rcases h.open with ⟨rfl, v, l, hb, hr⟩ | ⟨v, l, rfl, hb, hr⟩
  · go_enter Try.func21, Try.ntmps21
    go_wp2_with (go_at_call 20; go_must (refine (bad_any g v true _ hb).mono ?_); rintro e w' ⟨rfl, rfl⟩)
    go_ret
    exact ⟨rfl, h, World.grownBy.refl w _⟩
  · have h0 : w.cell? ⟨g, 0, none⟩ = some v := by rw [hb.cell]; rfl
    have f0 := hb.free 0
    cases hv : vget l with
    | none =>
      have Hv := Lib.hid hv
      clear hv
      go_enter Try.func21, Try.ntmps21
      go_wp2_with fail
      refine (bad_any g v false _ hb).mono ?_
      rintro e w' ⟨rfl, rfl⟩
      go_wp2_with fail
      refine (get_any v l g _ hr).mono ?_
      rw [Hv.out]
      rintro e w' ⟨rfl, rfl⟩
      unfold getV
      go_wp2_with fail
      refine (spoil_any g v false _ hb).mono ?_
      rintro e w' ⟨rfl, hs, hg⟩
      go_wp2_with fail
      go_ret
      exact ⟨by simp [numS, Hv.out], by simp only [numS, Hv.out]; exact hs, hg⟩
    | some yn =>
      obtain ⟨y, n⟩ := yn
      obtain ⟨_, _, hn1, _, hnl, _, _⟩ := num_vget l y n hv
      have Hv := Lib.hid hv
      clear hv
      have hr' := hr
      obtain ⟨A, c, rfl, hlc, hcm, hA⟩ := hr
      unfold maxLen at hcm
      have hcm' : (c : Int) ≤ 9223372036854775807 := by omega
      clear hcm hA
      go_enter Try.func21, Try.ntmps21
      go_wp2_with fail
      refine (bad_any g _ false _ hb).mono ?_
      rintro e w' ⟨rfl, rfl⟩
      go_wp2_with fail
      refine (get_any _ l g _ hr').mono ?_
      rw [Hv.out]
      rintro e w' ⟨rfl, rfl⟩
      unfold getV
      have hfin : ∀ (A' : Option Addr) (c' : Nat), c' = c - n → (c ≠ n → A' = A.map (·.add n)) → RdrPost 56 w g (numS (some l)).2 (.int .i64 (numS (some l)).1) (.returned (.int .i64 (unfoldN y))) (w.setCell ⟨g, 0, none⟩ (.slice A' (l.length - n) c')) := by
        intro A' c' h1 h2
        obtain ⟨h3, h4⟩ := rdr_cut hb hr' n hnl A' c' h1 h2
        exact ⟨by simp only [numS, Hv.out], by simp only [numS, Hv.out]; exact h3, h4⟩
      have Hfin := Lib.hid hfin
      clear hfin
      go_wp2_with fail
      all_goals (go_ret; exact Hfin.out _ _ (by omega) (fun hne => by first | rfl | omega))

set_option maxHeartbeats 400000 in
theorem take_nil (n : Int) (w : World) : Calls Try.prog 33 #[.pointer none, .int .i64 n] w fun e w' => e = .returned (.slice none 0 0) ∧ w = w' := by
  go_enter Try.func33, Try.ntmps33
  go_wp2_with (go_at_call 20; go_must (refine (bad_nil _).mono ?_); rintro e w' ⟨rfl, rfl⟩)
  go_ret
  exact ⟨rfl, rfl⟩

/-- What 'take' leaves: a slice of the reader's own bytes. -/
def TakePost (T : TypeId) (w : World) (g : Nat) (l : List UInt8) (s : Option (List UInt8)) (e : Ending) (w' : World) : Prop :=
  ∃ v, e = .returned v ∧ Rd w' g v l ∧ Rdr T w' g s ∧ w.grownBy w' (some g)

set_option maxHeartbeats 800000 in
theorem take_any (g : Nat) (n : Int) (s : Option (List UInt8)) (w : World) (h : Rdr 56 w g s) :
    Calls Try.prog 33 #[.pointer (some ⟨g, 0, none⟩), .int .i64 n] w (TakePost 56 w g (takeS n s).1 (takeS n s).2) := by
  rcases h.open with ⟨rfl, v, l, hb, hr⟩ | ⟨v, l, rfl, hb, hr⟩
  · go_enter Try.func33, Try.ntmps33
    go_wp2_with (go_at_call 20; go_must (refine (bad_any g v true _ hb).mono ?_); rintro e w' ⟨rfl, rfl⟩)
    go_ret
    exact ⟨_, rfl, Rd.nil _ _, h, World.grownBy.refl w _⟩
  · have hr' := hr
    obtain ⟨A, c, rfl, hlc, hcm, hA⟩ := hr
    unfold maxLen at hcm
    have hcm' : (c : Int) ≤ 9223372036854775807 := by omega
    have h0 : w.cell? ⟨g, 0, none⟩ = some (.slice A l.length c) := by rw [hb.cell]; rfl
    have f0 := hb.free 0
    clear hcm hA
    by_cases hn : n < 0 ∨ (l.length : Int) < n
    · have hfin : takeS n (some l) = ([], none) := by simp only [takeS]; rw [if_pos hn]
      have Hfin := Lib.hid hfin
      clear hfin
      rcases hn with hn | hn
      · go_enter Try.func33, Try.ntmps33
        go_wp2_with fail
        refine (bad_any g _ false _ hb).mono ?_
        rintro e w' ⟨rfl, rfl⟩
        go_wp2_with fail
        refine (spoil_any g _ false _ hb).mono ?_
        rintro e w' ⟨rfl, hs, hg⟩
        go_wp2_with fail
        go_ret
        exact ⟨_, rfl, by rw [Hfin.out]; exact Rd.nil _ _, by rw [Hfin.out]; exact hs, hg⟩
      · have hn0 : 0 ≤ n := by omega
        go_enter Try.func33, Try.ntmps33
        go_wp2_with fail
        refine (bad_any g _ false _ hb).mono ?_
        rintro e w' ⟨rfl, rfl⟩
        go_wp2_with fail
        refine (spoil_any g _ false _ hb).mono ?_
        rintro e w' ⟨rfl, hs, hg⟩
        go_wp2_with fail
        go_ret
        exact ⟨_, rfl, by rw [Hfin.out]; exact Rd.nil _ _, by rw [Hfin.out]; exact hs, hg⟩
    · obtain ⟨k, rfl⟩ := Int.eq_ofNat_of_zero_le (show 0 ≤ n by omega)
      have hkl : k ≤ l.length := by omega
      have hfin : takeS (k : Int) (some l) = (l.take k, some (l.drop k)) := by simp only [takeS]; rw [if_neg hn]; simp
      have hend : ∀ (A' : Option Addr) (c' c2 : Nat), c2 = c → c' = c - k → (c ≠ k → A' = A.map (·.add k)) → TakePost 56 w g (takeS (k : Int) (some l)).1 (takeS (k : Int) (some l)).2 (.returned (.slice A k c2)) (w.setCell ⟨g, 0, none⟩ (.slice A' (l.length - k) c')) := by
        intro A' c' c2 h0 h1 h2
        subst h0
        obtain ⟨h3, h4⟩ := rdr_cut hb hr' k hkl A' c' h1 h2
        exact ⟨_, rfl, by rw [hfin]; exact (hr'.upto k hkl).grown h4 (Nat.le_refl _) (Nat.le_of_lt hb.lt), by rw [hfin]; exact h3, h4⟩
      have Hend := Lib.hid hend
      clear hend hfin hn
      go_enter Try.func33, Try.ntmps33
      go_wp2_with fail
      refine (bad_any g _ false _ hb).mono ?_
      rintro e w' ⟨rfl, rfl⟩
      go_wp2_with fail
      all_goals (go_ret; exact Hend.out _ _ _ (by first | rfl | omega) (by first | rfl | omega) (fun hne => by first | rfl | omega))

theorem takeS_lt (n : Int) (s : Option (List UInt8)) : (takeS n s).1 = [] ∨ ((takeS n s).1.length : Int) = n := by
  cases s with
  | none => exact .inl rfl
  | some l =>
    simp only [takeS]
    split
    · exact .inl rfl
    · right; simp; omega

set_option maxHeartbeats 400000 in
theorem byte_nil (w : World) : Calls Try.prog 24 #[.pointer none] w fun e w' => e = .returned (.int .i64 0) ∧ w = w' := by
  go_enter Try.func24, Try.ntmps24
  go_wp2_with (go_at_call 33; go_must (refine (take_nil _ _).mono ?_); rintro e w' ⟨rfl, rfl⟩)
  go_ret
  exact ⟨rfl, rfl⟩

set_option maxHeartbeats 800000 in
theorem byte_any (g : Nat) (s : Option (List UInt8)) (w : World) (h : Rdr 56 w g s) :
    Calls Try.prog 24 #[.pointer (some ⟨g, 0, none⟩)] w (RdrPost 56 w g (byteS s).2 (.int .i64 ((byteS s).1 : Int))) := by
  go_enter Try.func24, Try.ntmps24
  go_wp2_with fail
  refine (take_any g 1 s _ h).mono ?_
  rintro e w1 ⟨v, rfl, hr, hs, hg⟩
  rcases hl : (takeS 1 s).1 with _ | ⟨x, r⟩
  · rw [hl] at hr
    obtain ⟨A, c, rfl, _, _, _⟩ := hr
    have Hl := Lib.hid hl
    clear hl
    go_wp2_with fail
    go_ret
    exact ⟨by simp only [byteS, Hl.out]; rfl, hs, hg⟩
  · rw [hl] at hr
    obtain ⟨A, c, rfl, _, _, hA⟩ := hr
    obtain ⟨b, o, rfl, _, hc⟩ := hA (by simp)
    have hc0 := hc 0 (by simp)
    simp only [u8v, List.getElem_cons_zero, Nat.add_zero] at hc0
    have hx : (x.toNat : Int) < 256 := by have := x.toNat_lt; omega
    have hlen : ((x :: r).length : Int) = 1 := by
      rcases takeS_lt 1 s with h | h
      · rw [hl] at h; cases h
      · rw [hl] at h; exact h
    have Hl := Lib.hid hl
    clear hl hA hc
    rw [show (x :: r).length = 1 by omega]
    clear hlen
    go_wp2_with fail
    go_ret
    exact ⟨by simp only [byteS, Hl.out]; rfl, hs, hg⟩

set_option maxHeartbeats 400000 in
theorem text_nil (w : World) : Calls Try.prog 18 #[.pointer none] w fun e w' => e = .returned (.string (str [])) ∧ w = w' := by
  go_enter Try.func18, Try.ntmps18
  go_wp2_with fail
  refine (num_nil _).mono ?_
  rintro e w' ⟨rfl, rfl⟩
  have hconv := run_conv_rd (P := Try.prog) 22 5 9 Try.underlying22 Try.underlying5 Try.underlying9 (Rd.nil w 0)
  go_wp2_with (go_at_call 33; go_must (refine (take_nil _ _).mono ?_); rintro e w' ⟨rfl, rfl⟩)
  go_ret
  exact ⟨rfl, rfl⟩

theorem numS_bd (s : Option (List UInt8)) : -9007199254740991 ≤ (numS s).1 ∧ (numS s).1 ≤ 9007199254740991 := by
  cases s with
  | none => simp [numS]
  | some l =>
    simp only [numS]
    cases h : vget l with
    | none => simp
    | some yn => exact (num_vget l yn.1 yn.2 h).2.2.2.2.2

set_option maxHeartbeats 800000 in
theorem rtext (g : Nat) (s : Option (List UInt8)) (w : World) (h : Rdr 56 w g s) :
    Calls Try.prog 18 #[.pointer (some ⟨g, 0, none⟩)] w (RdrPost 56 w g (textS s).2 (.string (str (textS s).1))) := by
  obtain ⟨hn1, hn2⟩ := numS_bd s
  go_enter Try.func18, Try.ntmps18
  go_wp2_with fail
  refine (num_any g s _ h).mono ?_
  rintro e w1 ⟨rfl, hs1, hg1⟩
  by_cases hbig : 65536 < (numS s).1
  · have Hts : Hid (textS s = takeS (numS s).1 none) := by unfold textS; rw [if_pos hbig]; rfl
    obtain ⟨v1, bad1, l1, hb1, _, _⟩ := hs1
    generalize hq : (numS s).1 = q at hn1 hn2 hbig Hts
    have Hq := Lib.hid hq
    clear hq
    go_wp2_with fail
    refine (spoil_any g v1 bad1 _ hb1).mono ?_
    rintro e w2 ⟨rfl, hs2, hg2⟩
    go_wp2_with fail
    refine (take_any g q none _ hs2).mono ?_
    rintro e w3 ⟨v, rfl, hr3, hs3, hg3⟩
    have hconv := run_conv_rd (P := Try.prog) 22 5 9 Try.underlying22 Try.underlying5 Try.underlying9 hr3
    go_wp2_with fail
    go_ret
    exact ⟨by rw [Hts.out]; rfl, by rw [Hts.out]; exact hs3, (hg1.trans hg2).trans hg3⟩
  · have Hts : Hid (textS s = takeS (numS s).1 (numS s).2) := by unfold textS; rw [if_neg hbig]; rfl
    generalize hq : (numS s).1 = q at hn1 hn2 hbig Hts
    have Hq := Lib.hid hq
    clear hq
    go_wp2_with fail
    refine (take_any g q _ _ hs1).mono ?_
    rintro e w3 ⟨v, rfl, hr3, hs3, hg3⟩
    have hconv := run_conv_rd (P := Try.prog) 22 5 9 Try.underlying22 Try.underlying5 Try.underlying9 hr3
    go_wp2_with fail
    go_ret
    exact ⟨by rw [Hts.out]; rfl, by rw [Hts.out]; exact hs3, hg1.trans hg3⟩
end Go.Proofs.Yteffidhbcdkikaa
