/-
  The document's own reading of a date of the mail (newsstandref04.Mail). Condition: at most a million bytes.
-/
import Derived.Test.YtmimkcdomgoefabDoorDRefRow
import Derived.Test.YtmimkcdomgoefabDoorDMailEq2
import Derived.Deep.RegionHeld3
namespace Go.Proofs.YtmimkcdomgoefabDoor
open Go.RowKit

theorem wds_rd (w : World) (A : Addr) (hA : A = ⟨w.heap.size, 0, none⟩) (t : TypeId) : RdS (w.alloc (.cells #[.string ⟨#[77, 111, 110, 44]⟩, .string ⟨#[84, 117, 101, 44]⟩, .string ⟨#[87, 101, 100, 44]⟩, .string ⟨#[84, 104, 117, 44]⟩, .string ⟨#[70, 114, 105, 44]⟩, .string ⟨#[83, 97, 116, 44]⟩, .string ⟨#[83, 117, 110, 44]⟩] t)) (w.heap.size + 1) (.slice (some A) 7 7) wdsL := by
  subst hA
  refine ⟨_, 7, rfl, by decide, by decide, fun _ => ⟨_, 0, rfl, by omega, fun j hj => ?_⟩⟩
  have hj' : j < 7 := hj
  match j, hj' with
  | 0, _ => exact Blk.cell (Blk.fresh w t _) 0
  | 1, _ => exact Blk.cell (Blk.fresh w t _) 1
  | 2, _ => exact Blk.cell (Blk.fresh w t _) 2
  | 3, _ => exact Blk.cell (Blk.fresh w t _) 3
  | 4, _ => exact Blk.cell (Blk.fresh w t _) 4
  | 5, _ => exact Blk.cell (Blk.fresh w t _) 5
  | 6, _ => exact Blk.cell (Blk.fresh w t _) 6
theorem mons_rd (w : World) (A : Addr) (hA : A = ⟨w.heap.size, 0, none⟩) (t : TypeId) : RdS (w.alloc (.cells #[.string ⟨#[74, 97, 110]⟩, .string ⟨#[70, 101, 98]⟩, .string ⟨#[77, 97, 114]⟩, .string ⟨#[65, 112, 114]⟩, .string ⟨#[77, 97, 121]⟩, .string ⟨#[74, 117, 110]⟩, .string ⟨#[74, 117, 108]⟩, .string ⟨#[65, 117, 103]⟩, .string ⟨#[83, 101, 112]⟩, .string ⟨#[79, 99, 116]⟩, .string ⟨#[78, 111, 118]⟩, .string ⟨#[68, 101, 99]⟩] t)) (w.heap.size + 1) (.slice (some A) 12 12) monsL := by
  subst hA
  refine ⟨_, 12, rfl, by decide, by decide, fun _ => ⟨_, 0, rfl, by omega, fun j hj => ?_⟩⟩
  have hj' : j < 12 := hj
  match j, hj' with
  | 0, _ => exact Blk.cell (Blk.fresh w t _) 0
  | 1, _ => exact Blk.cell (Blk.fresh w t _) 1
  | 2, _ => exact Blk.cell (Blk.fresh w t _) 2
  | 3, _ => exact Blk.cell (Blk.fresh w t _) 3
  | 4, _ => exact Blk.cell (Blk.fresh w t _) 4
  | 5, _ => exact Blk.cell (Blk.fresh w t _) 5
  | 6, _ => exact Blk.cell (Blk.fresh w t _) 6
  | 7, _ => exact Blk.cell (Blk.fresh w t _) 7
  | 8, _ => exact Blk.cell (Blk.fresh w t _) 8
  | 9, _ => exact Blk.cell (Blk.fresh w t _) 9
  | 10, _ => exact Blk.cell (Blk.fresh w t _) 10
  | 11, _ => exact Blk.cell (Blk.fresh w t _) 11

/-- Behind the weekday: the words that are left. -/
def Left (w : World) (ans : Option Int) (v : Value) (W : World) : Prop :=
  ∃ ws : List (List UInt8), RdS W W.heap.size v ws ∧ ans = partsR ws ∧ (∀ x ∈ ws, x.length ≤ 1000000) ∧ Below w.heap.size w W
theorem mail_six {l : List UInt8} {ws : List (List UInt8)} (h : splitR 32 l = ws) (h6 : ws.length = 6) : mailR l = if 0 ≤ idxR wdsL (ws.getD 0 []) then partsR (ws.drop 1) else none := by
  unfold mailR
  rw [h]
  match ws, h6 with
  | [a, d, m, y, t, z], _ => rfl
theorem mail_not {l : List UInt8} {ws : List (List UInt8)} (h : splitR 32 l = ws) (h6 : ws.length ≠ 6) : mailR l = partsR ws := by
  unfold mailR
  rw [h]
  split
  · exact absurd rfl h6
  · rfl
theorem RdS.rest {w : World} {B n c : Nat} {b o : Nat} {L : List (List UInt8)} (h : RdS w B (.slice (some ⟨b, o, none⟩) n c) L) (hn : 1 < L.length) (c' : Nat) (hc' : c' = c - 1) : RdS w B (.slice (some ⟨b, o + 1, none⟩) (L.length - 1) c') (L.drop 1) := by
  obtain ⟨A, c2, e, h1, h2, h3⟩ := h
  injection e with e1 e2 e3
  subst e3 hc'
  obtain ⟨b2, o2, e4, hb, hc⟩ := h3 (by omega)
  rw [e4] at e1
  injection e1 with e1
  injection e1 with e5 e6
  subst e5 e6
  refine ⟨_, _, by rw [List.length_drop], by rw [List.length_drop]; omega, by omega, fun _ => ⟨b, o + 1, rfl, hb, fun j hj => ?_⟩⟩
  rw [List.length_drop] at hj
  have := hc (j + 1) (by omega)
  rw [List.getElem_drop]
  rw [show o + 1 + j = o + (j + 1) by omega]
  rw [this]
  congr 4
  omega

theorem RdS.more {w : World} {B B' : Nat} {v : Value} {L : List (List UInt8)} (h : RdS w B v L) (hB : B ≤ B') : RdS w B' v L := by
  obtain ⟨A, c, rfl, h1, h2, h3⟩ := h
  refine ⟨A, c, rfl, h1, h2, fun hn => ?_⟩
  obtain ⟨b, o, rfl, hb, hc⟩ := h3 hn
  exact ⟨b, o, rfl, by omega, hc⟩
theorem RdS.drew {w : World} {B : Nat} {v : Value} {L : List (List UInt8)} (h : RdS w B v L) : RdS w.drew B v L := h
def DatedAt (w : World) (g : Nat) (vs : Value) (ws : List (List UInt8)) (y m d h i s : Int) (W : World) : Prop :=
  w.heap.size ≤ g ∧ Blk W g 30 #[.int .i64 y, .int .i64 m, .int .i64 d, .int .i64 h, .int .i64 i, .int .i64 s] ∧ RdS W g vs ws ∧ Below w.heap.size w W
theorem DatedAt.below {w : World} {g : Nat} {vs : Value} {ws : List (List UInt8)} {y m d h i s : Int} {W W' : World} (hd : DatedAt w g vs ws y m d h i s W) (hb : Below W.heap.size W W') : DatedAt w g vs ws y m d h i s W' := by
  obtain ⟨h1, h2, h3, h4⟩ := hd
  exact ⟨h1, h2.below hb h2.lt, h3.below (hb.mono (Nat.le_of_lt h2.lt)), h4.trans (hb.mono h4.size)⟩
theorem RdS.set {w : World} {g : Nat} {vs : Value} {ws : List (List UInt8)} (h : RdS w g vs ws) (k : Nat) (u : Value) : RdS (w.setCell ⟨g, k, none⟩ u) g vs ws :=
  h.keep fun p hp => by
    rw [World.cell?_setCell_other]
    intro e
    rw [← e] at hp
    exact absurd hp (Nat.lt_irrefl _)
theorem DatedAt.setY {w : World} {g : Nat} {vs : Value} {ws : List (List UInt8)} {y m d h i s : Int} {W : World} (hd : DatedAt w g vs ws y m d h i s W) (y' : Int) : DatedAt w g vs ws y' m d h i s (W.setCell ⟨g, 0, none⟩ (.int .i64 y')) :=
  ⟨hd.1, hd.2.1.set 0 _, hd.2.2.1.set 0 _, hd.2.2.2.setCell (p := ⟨g, 0, none⟩) hd.1 _⟩
theorem DatedAt.setH {w : World} {g : Nat} {vs : Value} {ws : List (List UInt8)} {y m d h i s : Int} {W : World} (hd : DatedAt w g vs ws y m d h i s W) (h' : Int) : DatedAt w g vs ws y m d h' i s (W.setCell ⟨g, 3, none⟩ (.int .i64 h')) :=
  ⟨hd.1, hd.2.1.set 3 _, hd.2.2.1.set 3 _, hd.2.2.2.setCell (p := ⟨g, 3, none⟩) hd.1 _⟩
theorem DatedAt.setI {w : World} {g : Nat} {vs : Value} {ws : List (List UInt8)} {y m d h i s : Int} {W : World} (hd : DatedAt w g vs ws y m d h i s W) (i' : Int) : DatedAt w g vs ws y m d h i' s (W.setCell ⟨g, 4, none⟩ (.int .i64 i')) :=
  ⟨hd.1, hd.2.1.set 4 _, hd.2.2.1.set 4 _, hd.2.2.2.setCell (p := ⟨g, 4, none⟩) hd.1 _⟩
theorem DatedAt.setS {w : World} {g : Nat} {vs : Value} {ws : List (List UInt8)} {y m d h i s : Int} {W : World} (hd : DatedAt w g vs ws y m d h i s W) (s' : Int) : DatedAt w g vs ws y m d h i s' (W.setCell ⟨g, 5, none⟩ (.int .i64 s')) :=
  ⟨hd.1, hd.2.1.set 5 _, hd.2.2.1.set 5 _, hd.2.2.2.setCell (p := ⟨g, 5, none⟩) hd.1 _⟩
theorem DatedAt.drew {w : World} {g : Nat} {vs : Value} {ws : List (List UInt8)} {y m d h i s : Int} {W : World} (hd : DatedAt w g vs ws y m d h i s W) : DatedAt w g vs ws y m d h i s W.drew :=
  ⟨hd.1, hd.2.1.drew, hd.2.2.1.drew, hd.2.2.2.drew⟩
theorem RdS.at {w : World} {B b o n c : Nat} {L : List (List UInt8)} (h : RdS w B (.slice (some ⟨b, o, none⟩) n c) L) (j : Nat) (x : List UInt8) (hj : L[j]? = some x) : w.cell? ⟨b, o + j, none⟩ = some (.string (str x)) ∧ b < B := by
  obtain ⟨A, c2, e, h1, h2, h3⟩ := h
  obtain ⟨hjl, rfl⟩ := List.getElem?_eq_some_iff.1 hj
  obtain ⟨b2, o2, e4, hb, hc⟩ := h3 (by omega)
  injection e with e1 e2 e3
  rw [e4] at e1
  injection e1 with e1
  injection e1 with e5 e6
  subst e5 e6
  exact ⟨hc j hjl, hb⟩
theorem stay_set {b g : Nat} (h : b ≠ g) (W : World) (k j : Nat) (u : Value) : (W.setCell ⟨g, k, none⟩ u).drew.cell? ⟨b, j, none⟩ = W.cell? ⟨b, j, none⟩ :=
  World.cell?_of_block (w := W) (Below.heap_setCell _ _ _ _ (fun e => h (by first | exact e | exact e.symm)))
theorem own_strs {w : World} {base e : Nat} {v : Value} {L : List (List UInt8)} (h : Own w base e v (strs L)) : ∃ A c, v = .slice A L.length c ∧ c ≤ maxLen ∧
    (0 < L.length → ∃ b, A = some ⟨b, 0, none⟩ ∧ base ≤ b ∧ ∀ j x, L[j]? = some x → w.cell? ⟨b, j, none⟩ = some (.string (str x))) := by
  unfold Own at h
  rw [strs_length] at h
  have h' := h
  obtain ⟨h1, h2⟩ := h
  rcases h2 with ⟨rfl, h0⟩ | ⟨g, cap, cur, rfl, hg, hh, hn, hc, hs, ht⟩
  · exact ⟨none, 0, by rw [h0], Nat.zero_le _, fun h => by omega⟩
  · refine ⟨_, cap, rfl, hc, fun _ => ⟨g, rfl, hg, fun j x hj => ?_⟩⟩
    obtain ⟨hjl, rfl⟩ := List.getElem?_eq_some_iff.1 hj
    rw [h'.cellAt j (by omega)]
    simp [strs, hjl]
theorem time_len {ts : List (List UInt8)} (h2 : ts.length ≠ 2) (h3 : ts.length ≠ 3) : timeR ts = none := by
  unfold timeR
  split
  · exact absurd rfl h2
  · exact absurd rfl h3
  · rfl
theorem time_none {ts : List (List UInt8)} {k : Nat} {x : List UInt8} (hk : ts[k]? = some x) (hx : ¬ x.length = 2) : timeR ts = none := by
  unfold timeR
  split
  · rw [if_neg]
    intro h
    match k, hk with
    | 0, hk => injection hk with hk; subst hk; exact hx h.1
    | 1, hk => injection hk with hk; subst hk; exact hx h.2
    | k + 2, hk => simp at hk
  · rw [if_neg]
    intro h
    match k, hk with
    | 0, hk => injection hk with hk; subst hk; exact hx h.1
    | 1, hk => injection hk with hk; subst hk; exact hx h.2.1
    | 2, hk => injection hk with hk; subst hk; exact hx h.2.2
    | k + 3, hk => simp at hk
  · rfl
def TwoRel (ts : List (List UInt8)) (u : Value) : Prop := ∃ k : Nat, k ≤ ts.length ∧ u = .int .i64 (k : Int) ∧ ∀ j x, j < k → ts[j]? = some x → x.length = 2
theorem numR_bd (l : List UInt8) : -1 ≤ numR l ∧ numR l ≤ 1000000000 := by
  by_cases h : (1 ≤ l.length ∧ l.length ≤ 9) ∧ AllDig l
  · rw [numR_yes h.1.1 h.1.2 h.2]
    have h1 := valN_lt l h.2 l.length (Nat.le_refl _)
    rw [List.take_length] at h1
    have h2 : (10 : Nat) ^ l.length ≤ 10 ^ 9 := Nat.pow_le_pow_right (by decide) h.1.2
    omega
  · have e : numR l = -1 := by
      by_cases h1 : 1 ≤ l.length ∧ l.length ≤ 9
      · exact numR_no fun hd => h ⟨h1, hd⟩
      · exact numR_len h1
    omega
theorem namedR_bd {s : List UInt8} {n : Int} (h : namedR s = some n) : -1000000 ≤ n ∧ n ≤ 1000000 := by
  unfold namedR at h
  cases hz : zonN s with
  | some k =>
    rw [hz] at h
    have := zonN_bd s k hz
    injection h with h
    omega
  | none =>
    rw [hz] at h
    dsimp only at h
    split at h
    · exact zoneR_bd h
    · cases h
/-- A date of the call's own, and the words that are still read. -/
def Dated (w : World) (vs : Value) (ws : List (List UInt8)) (y m d h i s : Int) (p : Value) (W : World) : Prop :=
  ∃ g : Nat, p = .pointer (some ⟨g, 0, none⟩) ∧ DatedAt w g vs ws y m d h i s W
theorem dated_1 {w W : World} {vs : Value} {ws : List (List UInt8)} {y m d h i s : Int} (hr : RdS W W.heap.size vs ws) (hb : Below w.heap.size w W) (o : Obj) :
    Dated w vs ws y m d h i s (.pointer (some ⟨W.heap.size + 1, 0, none⟩)) ((W.alloc o).alloc (.cells #[.int .i64 y, .int .i64 m, .int .i64 d, .int .i64 h, .int .i64 i, .int .i64 s] 30)).drew := by
  have hB := Blk.fresh (W.alloc o) 30 #[.int .i64 y, .int .i64 m, .int .i64 d, .int .i64 h, .int .i64 i, .int .i64 s]
  have hs : (W.alloc o).heap.size = W.heap.size + 1 := by simp
  rw [hs] at hB
  have b1 : Below W.heap.size W ((W.alloc o).alloc (.cells #[.int .i64 y, .int .i64 m, .int .i64 d, .int .i64 h, .int .i64 i, .int .i64 s] 30)) := ((Below.refl _ _).alloc (Nat.le_refl _) _).alloc (by simp) _
  exact ⟨_, rfl, by have := hb.size; omega, hB, ((hr.below b1).more (Nat.le_succ _)).drew, (hb.trans (b1.mono hb.size)).drew⟩
theorem dated_2 {w W : World} {vs : Value} {ws : List (List UInt8)} {y m d h i s : Int} (hr : RdS W W.heap.size vs ws) (hb : Below w.heap.size w W) (o : Obj) :
    Dated w vs ws y m d h i s (.pointer (some ⟨W.heap.size, 0, none⟩)) ((W.alloc (.cells #[.int .i64 y, .int .i64 m, .int .i64 d, .int .i64 h, .int .i64 i, .int .i64 s] 30)).alloc o).drew := by
  have hB := (Blk.fresh W 30 #[.int .i64 y, .int .i64 m, .int .i64 d, .int .i64 h, .int .i64 i, .int .i64 s]).alloc o
  have b1 : Below W.heap.size W ((W.alloc (.cells #[.int .i64 y, .int .i64 m, .int .i64 d, .int .i64 h, .int .i64 i, .int .i64 s] 30)).alloc o) := ((Below.refl _ _).alloc (Nat.le_refl _) _).alloc (by simp) _
  exact ⟨_, rfl, hb.size, hB, (hr.below b1).drew, (hb.trans (b1.mono hb.size)).drew⟩
theorem parts_no {ws : List (List UInt8)} (h : ws.length ≠ 5) : partsR ws = none := by
  unfold partsR
  split
  · exact absurd rfl h
  · rfl
theorem parts_yes {d m y t z : List UInt8} : partsR [d, m, y, t, z] = if d.length ≤ 2 ∧ (y.length = 4 ∨ y.length = 2) then
      match timeR (splitR 58 t) with
      | some (h, i, s) => (match namedR z with | some n => toldR (yearR y) (1 + idxR monsL m) (numR d) h i s n | none => none)
      | none => none
    else none := rfl
theorem splitGo_len (b n : Nat) : ∀ (l cur : List UInt8), cur.length + l.length ≤ n → ∀ x ∈ splitGo b l cur, x.length ≤ n
  | [], cur, h, x, hx => by
    simp only [splitGo, List.mem_singleton] at hx
    subst hx
    simpa using h
  | c :: r, cur, h, x, hx => by
    rw [List.length_cons] at h
    unfold splitGo at hx
    split at hx
    · rcases List.mem_cons.1 hx with rfl | hx
      · omega
      · exact splitGo_len b n r [] (by simp; omega) x hx
    · exact splitGo_len b n r (cur ++ [c]) (by rw [List.length_append, List.length_singleton]; omega) x hx
theorem splitR_len (b n : Nat) (l : List UInt8) (h : l.length ≤ n) : ∀ x ∈ splitR b l, x.length ≤ n := splitGo_len b n l [] (by simpa using h)

set_option maxHeartbeats 8000000 in
set_option maxRecDepth 100000 in
theorem rmail_any (l : List UInt8) (w : World) (hl : l.length ≤ 1000000) : Calls Tryd.prog 9 #[.string (str l)] w (Made w (isV (mailR l))) := by
  obtain ⟨ans, hans⟩ : ∃ ans, ans = mailR l := ⟨_, rfl⟩
  rw [← hans]
  have hsp := rsplit_any 32 l w hl
  unfold SplitPost at hsp
  obtain ⟨ws, hws⟩ : ∃ ws, splitR 32 l = ws := ⟨_, rfl⟩
  rw [hws] at hsp
  have hwl := splitR_len 32 1000000 l hl
  rw [hws] at hwl
  have HWL := Lib.hid hwl
  have HSP := Lib.hid hsp
  have HANS := Lib.hid hans
  have HWS := Lib.hid hws
  clear hsp hans hws hwl
  go_enter Tryd.func9, Tryd.ntmps9
  go_wp2_with fail
  refine HSP.out.mono ?_
  rintro e w1 ⟨v, rfl, hown, b1⟩
  have hrd := RdS.own hown (Nat.le_refl _)
  clear hown HSP
  obtain ⟨A, c, rfl, _⟩ := id hrd
  go_upto_if 14 with fail
  go_cut [4] (Left w ans)
  case first =>
    by_cases h6 : ws.length = 6
    · have hm := mail_six HWS.out h6
      rw [← HANS.out] at hm
      obtain ⟨A2, c2, hv2, hc2, hcm, hcell⟩ := id hrd
      obtain ⟨b, o, hA, _, hcc⟩ := hcell (by omega)
      injection hv2 with e1 e2 e3
      subst e1 e3 hA
      have hx := hcc 0 (by omega)
      have hx0 : ws.getD 0 [] = ws[0] := by rw [List.getD_eq_getElem?_getD, List.getElem?_eq_getElem (by omega)]; rfl
      rw [hx0] at hm
      rw [Nat.add_zero] at hx
      have h6I : (ws.length : Int) = 6 := by omega
      have h6J : ((ws.length : Int) == 6) = true := by simp; omega
      have hrest := RdS.rest hrd (by omega) (c - 1) rfl
      have hc1 : 1 ≤ c := by omega
      generalize ws[0] = x at hx hm
      generalize hix : idxR wdsL x = ix at hm
      have HIX := Lib.hid hix
      have HM := Lib.hid hm
      have HREST := Lib.hid hrest
      have hcI : (6 : Int) ≤ (c : Int) := by omega
      have HH6 := Lib.hid h6
      have HRD := Lib.hid hrd
      clear hm hix hrest hcc hcell hc2 hcm h6 hrd e2 hx0
      by_cases h0 : 0 ≤ ix
      · have h0I : ¬ ix < 0 := by omega
        go_wp2_with fail
        refine (rindex_any wdsL x _ _ _ (wds_rd _ _ rfl _)).mono ?_
        rw [HIX.out]
        rintro e w2 ⟨rfl, hw⟩
        have b2 : Below w1.heap.size w1 w2 := by rw [← hw]; exact (Below.refl _ _).alloc (Nat.le_refl _) _
        clear hw
        go_wp2_with fail
        go_meet
        refine ⟨ws.drop 1, ?_, by rw [HM.out, if_pos h0], fun y hy => HWL.out y (List.mem_of_mem_drop hy), b1.trans (b2.mono b1.size)⟩
        exact (HREST.out.below b2).more b2.size
      · have h0I : ix < 0 := by omega
        have hno := HM.out
        rw [if_neg h0] at hno
        have HNO := Lib.hid hno
        clear hno HM
        go_wp2_with fail
        refine (rindex_any wdsL x _ _ _ (wds_rd _ _ rfl _)).mono ?_
        rw [HIX.out]
        rintro e w2 ⟨rfl, hw⟩
        have b2 : Below w1.heap.size w1 w2 := by rw [← hw]; exact (Below.refl _ _).alloc (Nat.le_refl _) _
        clear hw
        go_wp2_with fail
        go_ret2
        exact ⟨by rw [HNO.out]; rfl, b1.trans (b2.mono b1.size)⟩
    · have hm := mail_not HWS.out h6
      rw [← HANS.out] at hm
      have HM := Lib.hid hm
      have HRD := Lib.hid hrd
      have h6J : ((ws.length : Int) == 6) = false := by simp; omega
      clear hm hrd h6
      go_wp2_with fail
      go_meet
      exact ⟨ws, HRD.out, HM.out, HWL.out, b1⟩
  case rest =>
    obtain ⟨ws2, hrd2, hp, hlen, hbw⟩ := hcut
    obtain ⟨wd, hwd⟩ : ∃ wd, wd = wc := ⟨_, rfl⟩
    subst hwd
    clear HANS HWS HWL hrd b1
    obtain ⟨A2, c2, rfl, hc21, hc22, hcell⟩ := id hrd2
    by_cases h5 : ws2.length = 5
    case neg =>
      have hno := parts_no h5
      rw [← hp] at hno
      have HNO := Lib.hid hno
      have h5J : ((ws2.length : Int) != 5) = true := by simp; omega
      clear hno hp h5 hcell hrd2
      go_wp2_with fail
      go_ret2
      exact ⟨by rw [HNO.out]; rfl, hbw⟩
    case pos =>
      obtain ⟨d, m, y, t, z, rfl⟩ : ∃ d m y t z, ws2 = [d, m, y, t, z] := by
        match ws2, h5 with
        | [d, m, y, t, z], _ => exact ⟨d, m, y, t, z, rfl⟩
      rw [parts_yes] at hp
      have hl5 : ([d, m, y, t, z] : List (List UInt8)).length = 5 := rfl
      rw [hl5] at hrd2 ⊢
      obtain ⟨b, o, rfl, hbl, hcc⟩ := hcell (by simp)
      have x0 : wd.cell? ⟨b, o, none⟩ = some (.string (str d)) := hcc 0 (by simp)
      have x1 : wd.cell? ⟨b, o + 1, none⟩ = some (.string (str m)) := hcc 1 (by simp)
      have x2 : wd.cell? ⟨b, o + 2, none⟩ = some (.string (str y)) := hcc 2 (by simp)
      have HRD2 := Lib.hid hrd2
      have hld := hlen d (by simp)
      have hly := hlen y (by simp)
      have hlt := hlen t (by simp)
      clear hcc hcell hrd2 hc21 hl5 h5 hlen
      by_cases hdl : d.length ≤ 2 ∧ (y.length = 4 ∨ y.length = 2)
      case neg =>
        rw [if_neg hdl] at hp
        have HNO := Lib.hid hp
        have hw3 : decide (2 < (d.length : Int)) = true ∨ (decide (2 < (d.length : Int)) = false ∧ ((y.length : Int) != 4) = true ∧ ((y.length : Int) != 2) = true) := by
          simp only [decide_eq_true_eq, decide_eq_false_iff_not]
          by_cases a : 2 < (d.length : Int)
          · exact .inl a
          · refine .inr ⟨a, ?_, ?_⟩ <;> (simp; omega)
        clear hp hdl
        rcases hw3 with q1 | ⟨q1, q2, q3⟩
        all_goals
          go_wp2_with fail
          go_ret2
          exact ⟨by rw [HNO.out]; rfl, hbw⟩
      case pos =>
        rw [if_pos hdl] at hp
        have HP := Lib.hid hp
        have q1 : decide (2 < (d.length : Int)) = false := decide_eq_false (by omega)
        have hy2 : (((y.length : Int) != 4) = false) ∨ (((y.length : Int) != 4) = true ∧ ((y.length : Int) != 2) = false) := by
          rcases hdl.2 with h | h
          · exact .inl (by simp; omega)
          · exact .inr ⟨by simp; omega, by simp; omega⟩
        have HDL := Lib.hid hdl
        clear hp hdl
        go_upto_region 6 with fail
        go_cut [46] (fun v wx => v = .bool false ∧ wx = wd)
        case first =>
          rcases hy2 with q2 | ⟨q2, q3⟩
          all_goals
            go_wp2_with fail
            go_meet
            exact ⟨rfl, rfl⟩
        case rest =>
          obtain ⟨rfl, hcw⟩ := hcut
          subst hcw
          clear hy2 q1
          go_upto_region 8 with fail
          go_cut [5] (Dated w (.slice (some ⟨b, o, none⟩) 5 c2) [d, m, y, t, z] (numR y) (1 + idxR monsL m) (numR d) 0 0 0)
          case first =>
            have hb0 := hbl
            have hrd3 := HRD2.out
            have D1 := Lib.hid (fun o => dated_1 (y := numR y) (m := 1 + idxR monsL m) (d := numR d) (h := 0) (i := 0) (s := 0) hrd3 hbw o)
            have D2 := Lib.hid (fun o => dated_2 (y := numR y) (m := 1 + idxR monsL m) (d := numR d) (h := 0) (i := 0) (s := 0) hrd3 hbw o)
            have hib := idxF_bd m monsL 0
            have hwr : IntKind.i64.wrap (1 + idxR monsL m) = 1 + idxR monsL m := IntWalk.i64_in _ (by unfold idxR; have e : monsL.length = 12 := rfl; rw [e] at hib; omega)
            clear HRD2 HP HDL hbw hrd3 hib
            go_region_held3 (fun W' => W'.cell? ⟨b, o, none⟩ = some (.string (str d)) ∧ W'.cell? ⟨b, o + 1, none⟩ = some (.string (str m)) ∧ W'.cell? ⟨b, o + 2, none⟩ = some (.string (str y)))
              (first
                | go_keep
                | (go_split_ands; refine ⟨?_, ?_, ?_⟩ <;> (refine (Below.cell (Below.alloc (Below.refl _ _) (Nat.le_refl _) _) ?_).trans ?_ <;> first | assumption | (simp; omega))))
              (first
                | (go_at_call 29; refine (rnum_any _ _ (by omega)).mono ?_; rintro e w' ⟨rfl, rfl⟩)
                | (go_at_call 33; refine (rindex_any monsL _ _ _ _ (by first | exact (mons_rd wc _ rfl _).drew | exact ((mons_rd wc _ rfl _).below ((Below.refl _ _).alloc (by simp) _)).drew | exact (mons_rd (wc.alloc _) _ (by simp) _).drew)).mono ?_; rintro e w' ⟨rfl, rfl⟩))
            all_goals (go_wp2_with fail; go_meet; first | exact D1.out _ | exact D2.out _)
          case rest =>
            clear x0 x1 x2 hbl hld HRD2 hbw
            obtain ⟨g, rfl, hda⟩ := hcut
            obtain ⟨we, hwe⟩ : ∃ we, we = wc := ⟨_, rfl⟩
            subst hwe
            have HDA := Lib.hid hda
            obtain ⟨y2, _⟩ := hda.2.2.1.at 2 y rfl
            have g0 : we.cell? ⟨g, 0, none⟩ = some (.int .i64 (numR y)) := hda.2.1.cell 0
            have f0 : we.frozen? ⟨g, 0, none⟩ = false := hda.2.1.free 0
            have hnb := numR_bd y
            clear hda
            go_upto_region 9 with fail
            go_cut [71] (fun u W => u = .bool (decide (y.length = 2 ∧ 50 ≤ numR y)) ∧ W = we)
            case first =>
              by_cases hy2 : y.length = 2
              · have hyI : ((y.length : Int) == 2) = true := by simp; omega
                have e : decide (y.length = 2 ∧ 50 ≤ numR y) = decide (50 ≤ numR y) := by simp [hy2]
                have E := Lib.hid e
                clear hy2 e
                go_wp2_with fail
                go_meet
                exact ⟨by rw [E.out], rfl⟩
              · have hyI : ((y.length : Int) == 2) = false := by simp; omega
                have e : decide (y.length = 2 ∧ 50 ≤ numR y) = false := by simp [hy2]
                have E := Lib.hid e
                clear hy2 e
                go_wp2_with fail
                go_meet
                exact ⟨by rw [E.out], rfl⟩
            obtain ⟨rfl, hcw⟩ := hcut
            subst hcw
            go_upto_if 71 with fail
            go_cut [5] (fun u W => u = .pointer (some ⟨g, 0, none⟩) ∧ DatedAt w g (.slice (some ⟨b, o, none⟩) 5 c2) [d, m, y, t, z] (yearR y) (1 + idxR monsL m) (numR d) 0 0 0 W)
            case first =>
              have hyr : yearR y = if y.length = 2 ∧ 50 ≤ numR y then numR y + 1900 else if y.length = 2 ∧ 0 ≤ numR y then numR y + 2000 else numR y := rfl
              have HYR := Lib.hid hyr
              clear hyr
              by_cases hy2 : y.length = 2
              · have hyI : ((y.length : Int) == 2) = true := by simp; omega
                by_cases h50 : 50 ≤ numR y
                · have h1 := HYR.out
                  rw [if_pos ⟨hy2, h50⟩] at h1
                  have H1 := Lib.hid h1
                  have HY2 := Lib.hid hy2
                  clear h1 hy2
                  have k1 : decide (y.length = 2 ∧ 50 ≤ numR y) = true := decide_eq_true ⟨HY2.out, h50⟩
                  rw [k1]
                  clear k1
                  generalize numR y = n at *
                  go_wp2_with fail
                  go_meet
                  exact ⟨rfl, by rw [H1.out]; exact HDA.out.setY _⟩
                · by_cases h0 : 0 ≤ numR y
                  · have h1 := HYR.out
                    rw [if_neg (fun h => h50 h.2), if_pos ⟨hy2, h0⟩] at h1
                    have H1 := Lib.hid h1
                    have HY2 := Lib.hid hy2
                    have k1 : decide (y.length = 2 ∧ 50 ≤ numR y) = false := decide_eq_false fun h => h50 h.2
                    rw [k1]
                    clear h1 hy2 k1
                    generalize numR y = n at *
                    have k2 : decide (0 ≤ n) = true := decide_eq_true h0
                    go_wp2_with fail
                    go_meet
                    exact ⟨rfl, by rw [H1.out]; exact HDA.out.setY _⟩
                  · have h1 := HYR.out
                    rw [if_neg (fun h => h50 h.2), if_neg (fun h => h0 h.2)] at h1
                    have H1 := Lib.hid h1
                    have HY2 := Lib.hid hy2
                    have k1 : decide (y.length = 2 ∧ 50 ≤ numR y) = false := decide_eq_false fun h => h50 h.2
                    rw [k1]
                    clear h1 hy2 k1
                    generalize numR y = n at *
                    have k2 : decide (0 ≤ n) = false := decide_eq_false h0
                    go_wp2_with fail
                    go_meet
                    exact ⟨rfl, by rw [H1.out]; exact HDA.out⟩
              · have hyI : ((y.length : Int) == 2) = false := by simp; omega
                have h1 := HYR.out
                rw [if_neg (fun h => hy2 h.1), if_neg (fun h => hy2 h.1)] at h1
                have H1 := Lib.hid h1
                have k1 : decide (y.length = 2 ∧ 50 ≤ numR y) = false := decide_eq_false fun h => hy2 h.1
                rw [k1]
                clear h1 hy2 k1
                go_wp2_with fail
                go_meet
                exact ⟨rfl, by rw [H1.out]; exact HDA.out⟩
            case rest =>
              clear y2 g0 f0 hnb
              obtain ⟨rfl, hda2⟩ := hcut
              obtain ⟨wf, hwf⟩ : ∃ wf, wf = wc := ⟨_, rfl⟩
              subst hwf
              obtain ⟨t3, _⟩ := hda2.2.2.1.at 3 t rfl
              have HST := Lib.hid (rsplit_any 58 t wf hlt)
              have hgw := hda2.2.1.lt
              have HDA2 := Lib.hid hda2
              clear hda2
              obtain ⟨ts, hts⟩ : ∃ ts, splitR 58 t = ts := ⟨_, rfl⟩
              unfold SplitPost at HST
              rw [hts] at HST HP
              clear hts
              go_wp2_with fail
              refine HST.out.mono ?_
              rintro e w2 ⟨v6, rfl, hown6, b2⟩
              have hdf := HDA2.out.below b2
              obtain ⟨A6, c6, rfl, hcm6, hcell6⟩ := own_strs hown6
              have HDF := Lib.hid hdf
              clear hown6 b2 HST HDA HDA2 t3
              by_cases hn : ts.length = 2 ∨ ts.length = 3
              case neg =>
                have hno := HP.out
                rw [time_len (fun h => hn (.inl h)) (fun h => hn (.inr h))] at hno
                have HNO := Lib.hid hno
                have e2 : ((ts.length : Int) != 2) = true := by simp; omega
                have e3 : ((ts.length : Int) != 3) = true := by simp; omega
                clear hno hn hcell6 hdf
                go_wp2_with fail
                go_ret2
                exact ⟨by rw [HNO.out]; rfl, HDF.out.2.2.2⟩
              case pos =>
                rcases hn with hn | hn
                · have hts2 : ∃ th ti, ts = [th, ti] := by
                    match ts, hn with
                    | [th, ti], _ => exact ⟨th, ti, rfl⟩
                  obtain ⟨th, ti, rfl⟩ := hts2
                  have hl3 : ([th, ti] : List (List UInt8)).length = 2 := rfl
                  rw [hl3]
                  obtain ⟨b6, rfl, hb6, hc6⟩ := hcell6 (by rw [hl3]; omega)
                  have z0 : w2.cell? ⟨b6, 0, none⟩ = some (.string (str th)) := hc6 0 th rfl
                  have z1 : w2.cell? ⟨b6, 1, none⟩ = some (.string (str ti)) := hc6 1 ti rfl
                  have hne : b6 ≠ g := by omega
                  have HC6 := Lib.hid hc6
                  have HCE := Lib.hid hcell6
                  clear hc6 hcell6 hl3 hn
                  go_wp2_with fail
                  go_loop [7] (TwoRel [th, ti]) (fun u => 2 - (intOf u).toNat)
                  case atStart => exact ⟨0, Nat.zero_le _, rfl, fun j x h => absurd h (Nat.not_lt_zero _)⟩
                  case round =>
                    obtain ⟨k, hk, rfl, hall⟩ := hrel
                    have hkn : k ≤ 2 := hk
                    have HALL := Lib.hid hall
                    clear hall hk
                    by_cases hkl : k < 2
                    · have hkI : (k : Int) < 2 := by omega
                      obtain ⟨x, hx⟩ : ∃ x, ([th, ti] : List (List UInt8))[k]? = some x := ⟨_, List.getElem?_eq_getElem (show k < 2 from hkl)⟩
                      have hcx := HC6.out k x hx
                      have HX := Lib.hid hx
                      clear hx z0 z1
                      by_cases hx2 : x.length = 2
                      · have hxb : ((x.length : Int) != 2) = false := by simp; omega
                        have HX2 := Lib.hid hx2
                        clear hx2
                        go_wp2_with fail
                        go_round
                        case rel =>
                          refine ⟨k + 1, by show k + 1 ≤ 2; omega, by go_num, fun j q hj hq => ?_⟩
                          by_cases hjk : j = k
                          · subst hjk
                            have e := hq.symm.trans HX.out
                            injection e with e
                            rw [e]
                            exact HX2.out
                          · exact HALL.out j q (by omega) hq
                        case measure => simp [intOf]; omega
                      · have hxb : ((x.length : Int) != 2) = true := by simp; omega
                        have hno := HP.out
                        rw [time_none HX.out hx2] at hno
                        have HNO := Lib.hid hno
                        clear hx2 hno
                        go_wp2_with fail
                        go_ret2
                        exact ⟨by rw [HNO.out]; rfl, HDF.out.2.2.2⟩
                    · have hkI : ¬ (k : Int) < 2 := by omega
                      obtain rfl : k = 2 := by omega
                      have l0 : th.length = 2 := HALL.out 0 th (by omega) rfl
                      have l1 : ti.length = 2 := HALL.out 1 ti (by omega) rfl
                      have hans := HP.out
                      rw [show timeR [th, ti] = some (numR th, numR ti, 0) from if_pos ⟨l0, l1⟩] at hans
                      have HANS := Lib.hid hans
                      have l0' : th.length ≤ 140737488351232 := by omega
                      have l1' : ti.length ≤ 140737488351232 := by omega
                      have l2' : True := trivial
                      have g3 : w2.cell? ⟨g, 3, none⟩ = some (.int .i64 0) := hdf.2.1.cell 3
                      have g4 : w2.cell? ⟨g, 4, none⟩ = some (.int .i64 0) := hdf.2.1.cell 4
                      have f3 : w2.frozen? ⟨g, 3, none⟩ = false := hdf.2.1.free 3
                      have f4 : w2.frozen? ⟨g, 4, none⟩ = false := hdf.2.1.free 4
                      clear l0 l1 hans HALL hkn hkl HP hdf
                      go_wp2_with fail
                      go_region_held3 (fun W' => W'.cell? ⟨b6, 0, none⟩ = some (.string (str th)) ∧ W'.cell? ⟨b6, 1, none⟩ = some (.string (str ti)))
                        (first
                          | (go_keep; done)
                          | exact ⟨(stay_set hne _ _ _ _).trans z0, (stay_set hne _ _ _ _).trans z1⟩
                          | exact ⟨((stay_set hne _ _ _ _).trans (stay_set hne _ _ _ _)).trans z0, ((stay_set hne _ _ _ _).trans (stay_set hne _ _ _ _)).trans z1⟩)
                        (first
                          | (go_at_call 29; refine (rnum_any _ _ (by assumption)).mono ?_; rintro e w' ⟨rfl, rfl⟩))
                      have hdg := ((HDF.out.setH (numR th)).setI (numR ti)).drew
                      have z2b : True := trivial
                      generalize ((w2.setCell ⟨g, 3, none⟩ (.int .i64 (numR th))).setCell ⟨g, 4, none⟩ (.int .i64 (numR ti))).drew = wg at *
                      clear g3 g4 f3 f4 z0 z1 HC6 HCE HDF
                      have hdh := hdg
                      obtain ⟨t4, _⟩ := hdh.2.2.1.at 4 z rfl
                      clear hdg
                      have HDH := Lib.hid hdh
                      have hbd := fun n => @namedR_bd z n
                      cases hz : namedR z with
                      | none =>
                        have hno : ans = none := by
                          have e := HANS.out
                          rw [hz] at e
                          exact e
                        have HNO := Lib.hid hno
                        have HZ := Lib.hid hz
                        clear hno hz hbd HANS hdh
                        go_wp2_with fail
                        refine (rnamed_any z _).mono ?_
                        rw [HZ.out]
                        rintro e w4 ⟨rfl, b4⟩
                        simp only [isV, Option.getD_none, Option.isSome_none]
                        go_wp2_with fail
                        go_ret2
                        exact ⟨by rw [HNO.out]; rfl, (HDH.out.below b4).2.2.2⟩
                      | some n =>
                        have hyes : ans = toldR (yearR y) (1 + idxR monsL m) (numR d) (numR th) (numR ti) 0 n := by
                          have e := HANS.out
                          rw [hz] at e
                          exact e
                        have hb1 := (hbd n hz).1
                        have hb2 := (hbd n hz).2
                        have HYES := Lib.hid hyes
                        have HZ := Lib.hid hz
                        clear hyes hz hbd HANS hdh
                        go_wp2_with fail
                        refine (rnamed_any z _).mono ?_
                        rw [HZ.out]
                        rintro e w4 ⟨rfl, b4⟩
                        simp only [isV, Option.getD_some, Option.isSome_some]
                        have hd4 := HDH.out.below b4
                        have c0 := hd4.2.1.cell 0
                        have c1 := hd4.2.1.cell 1
                        have c2' := hd4.2.1.cell 2
                        have c3 := hd4.2.1.cell 3
                        have c4 := hd4.2.1.cell 4
                        have c5 := hd4.2.1.cell 5
                        simp only [List.getElem?_toArray, List.getElem?_cons_zero, List.getElem?_cons_succ] at c0 c1 c2' c3 c4 c5
                        have HD4 := Lib.hid hd4
                        clear hd4 b4
                        go_wp2_with fail
                        refine (rtold_any (yearR y) (1 + idxR monsL m) (numR d) (numR th) (numR ti) 0 n _ hb1 hb2).mono ?_
                        rintro e w5 ⟨rfl, b5⟩
                        unfold isV
                        go_wp2_with fail
                        go_ret2
                        exact ⟨by rw [HYES.out]; rfl, (HD4.out.below b5).2.2.2⟩
                · have hts2 : ∃ th ti tz, ts = [th, ti, tz] := by
                    match ts, hn with
                    | [th, ti, tz], _ => exact ⟨th, ti, tz, rfl⟩
                  obtain ⟨th, ti, tz, rfl⟩ := hts2
                  have hl3 : ([th, ti, tz] : List (List UInt8)).length = 3 := rfl
                  rw [hl3]
                  obtain ⟨b6, rfl, hb6, hc6⟩ := hcell6 (by rw [hl3]; omega)
                  have z0 : w2.cell? ⟨b6, 0, none⟩ = some (.string (str th)) := hc6 0 th rfl
                  have z1 : w2.cell? ⟨b6, 1, none⟩ = some (.string (str ti)) := hc6 1 ti rfl
                  have z2 : w2.cell? ⟨b6, 2, none⟩ = some (.string (str tz)) := hc6 2 tz rfl
                  have hne : b6 ≠ g := by omega
                  have HC6 := Lib.hid hc6
                  have HCE := Lib.hid hcell6
                  clear hc6 hcell6 hl3 hn
                  go_wp2_with fail
                  go_loop [7] (TwoRel [th, ti, tz]) (fun u => 3 - (intOf u).toNat)
                  case atStart => exact ⟨0, Nat.zero_le _, rfl, fun j x h => absurd h (Nat.not_lt_zero _)⟩
                  case round =>
                    obtain ⟨k, hk, rfl, hall⟩ := hrel
                    have hkn : k ≤ 3 := hk
                    have HALL := Lib.hid hall
                    clear hall hk
                    by_cases hkl : k < 3
                    · have hkI : (k : Int) < 3 := by omega
                      obtain ⟨x, hx⟩ : ∃ x, ([th, ti, tz] : List (List UInt8))[k]? = some x := ⟨_, List.getElem?_eq_getElem (show k < 3 from hkl)⟩
                      have hcx := HC6.out k x hx
                      have HX := Lib.hid hx
                      clear hx z0 z1 z2
                      by_cases hx2 : x.length = 2
                      · have hxb : ((x.length : Int) != 2) = false := by simp; omega
                        have HX2 := Lib.hid hx2
                        clear hx2
                        go_wp2_with fail
                        go_round
                        case rel =>
                          refine ⟨k + 1, by show k + 1 ≤ 3; omega, by go_num, fun j q hj hq => ?_⟩
                          by_cases hjk : j = k
                          · subst hjk
                            have e := hq.symm.trans HX.out
                            injection e with e
                            rw [e]
                            exact HX2.out
                          · exact HALL.out j q (by omega) hq
                        case measure => simp [intOf]; omega
                      · have hxb : ((x.length : Int) != 2) = true := by simp; omega
                        have hno := HP.out
                        rw [time_none HX.out hx2] at hno
                        have HNO := Lib.hid hno
                        clear hx2 hno
                        go_wp2_with fail
                        go_ret2
                        exact ⟨by rw [HNO.out]; rfl, HDF.out.2.2.2⟩
                    · have hkI : ¬ (k : Int) < 3 := by omega
                      obtain rfl : k = 3 := by omega
                      have l0 : th.length = 2 := HALL.out 0 th (by omega) rfl
                      have l1 : ti.length = 2 := HALL.out 1 ti (by omega) rfl
                      have l2 : tz.length = 2 := HALL.out 2 tz (by omega) rfl
                      have hans := HP.out
                      rw [show timeR [th, ti, tz] = some (numR th, numR ti, numR tz) from if_pos ⟨l0, l1, l2⟩] at hans
                      have HANS := Lib.hid hans
                      have l0' : th.length ≤ 140737488351232 := by omega
                      have l1' : ti.length ≤ 140737488351232 := by omega
                      have l2' : tz.length ≤ 140737488351232 := by omega
                      have g3 : w2.cell? ⟨g, 3, none⟩ = some (.int .i64 0) := hdf.2.1.cell 3
                      have g4 : w2.cell? ⟨g, 4, none⟩ = some (.int .i64 0) := hdf.2.1.cell 4
                      have f3 : w2.frozen? ⟨g, 3, none⟩ = false := hdf.2.1.free 3
                      have f4 : w2.frozen? ⟨g, 4, none⟩ = false := hdf.2.1.free 4
                      clear l0 l1 l2 hans HALL hkn hkl HP hdf
                      go_wp2_with fail
                      go_region_held3 (fun W' => W'.cell? ⟨b6, 0, none⟩ = some (.string (str th)) ∧ W'.cell? ⟨b6, 1, none⟩ = some (.string (str ti)))
                        (first
                          | (go_keep; done)
                          | exact ⟨(stay_set hne _ _ _ _).trans z0, (stay_set hne _ _ _ _).trans z1⟩
                          | exact ⟨((stay_set hne _ _ _ _).trans (stay_set hne _ _ _ _)).trans z0, ((stay_set hne _ _ _ _).trans (stay_set hne _ _ _ _)).trans z1⟩)
                        (first
                          | (go_at_call 29; refine (rnum_any _ _ (by assumption)).mono ?_; rintro e w' ⟨rfl, rfl⟩))
                      have hdg := ((HDF.out.setH (numR th)).setI (numR ti)).drew
                      have z2b := (((stay_set hne (w2.setCell ⟨g, 3, none⟩ (.int .i64 (numR th))) 4 2 (.int .i64 (numR ti))).trans (stay_set hne w2 3 2 (.int .i64 (numR th)))).trans z2)
                      clear z2
                      generalize ((w2.setCell ⟨g, 3, none⟩ (.int .i64 (numR th))).setCell ⟨g, 4, none⟩ (.int .i64 (numR ti))).drew = wg at *
                      clear g3 g4 f3 f4 z0 z1 HC6 HCE HDF
                      have hdh := hdg.setS (numR tz)
                      obtain ⟨t4, hbg⟩ := hdh.2.2.1.at 4 z rfl
                      have g5 := hdg.2.1.cell 5
                      simp only [List.getElem?_toArray, List.getElem?_cons_zero, List.getElem?_cons_succ] at g5
                      have f5 := hdg.2.1.free 5
                      clear hdg
                      have HDH := Lib.hid hdh
                      have hbd := fun n => @namedR_bd z n
                      cases hz : namedR z with
                      | none =>
                        have hno : ans = none := by
                          have e := HANS.out
                          rw [hz] at e
                          exact e
                        have HNO := Lib.hid hno
                        have HZ := Lib.hid hz
                        clear hno hz hbd HANS hdh
                        go_wp2_with (go_at_call 29; refine (rnum_any _ _ l2').mono ?_; rintro e w' ⟨rfl, rfl⟩)
                        refine (rnamed_any z _).mono ?_
                        rw [HZ.out]
                        rintro e w4 ⟨rfl, b4⟩
                        simp only [isV, Option.getD_none, Option.isSome_none]
                        go_wp2_with fail
                        go_ret2
                        exact ⟨by rw [HNO.out]; rfl, (HDH.out.below b4).2.2.2⟩
                      | some n =>
                        have hyes : ans = toldR (yearR y) (1 + idxR monsL m) (numR d) (numR th) (numR ti) (numR tz) n := by
                          have e := HANS.out
                          rw [hz] at e
                          exact e
                        have hb1 := (hbd n hz).1
                        have hb2 := (hbd n hz).2
                        have HYES := Lib.hid hyes
                        have HZ := Lib.hid hz
                        clear hyes hz hbd HANS hdh
                        go_wp2_with (go_at_call 29; refine (rnum_any _ _ l2').mono ?_; rintro e w' ⟨rfl, rfl⟩)
                        refine (rnamed_any z _).mono ?_
                        rw [HZ.out]
                        rintro e w4 ⟨rfl, b4⟩
                        simp only [isV, Option.getD_some, Option.isSome_some]
                        have hd4 := HDH.out.below b4
                        have c0 := hd4.2.1.cell 0
                        have c1 := hd4.2.1.cell 1
                        have c2' := hd4.2.1.cell 2
                        have c3 := hd4.2.1.cell 3
                        have c4 := hd4.2.1.cell 4
                        have c5 := hd4.2.1.cell 5
                        simp only [List.getElem?_toArray, List.getElem?_cons_zero, List.getElem?_cons_succ] at c0 c1 c2' c3 c4 c5
                        have HD4 := Lib.hid hd4
                        clear hd4 b4
                        go_wp2_with fail
                        refine (rtold_any (yearR y) (1 + idxR monsL m) (numR d) (numR th) (numR ti) (numR tz) n _ hb1 hb2).mono ?_
                        rintro e w5 ⟨rfl, b5⟩
                        unfold isV
                        go_wp2_with fail
                        go_ret2
                        exact ⟨by rw [HYES.out]; rfl, (HD4.out.below b5).2.2.2⟩
end Go.Proofs.YtmimkcdomgoefabDoor
