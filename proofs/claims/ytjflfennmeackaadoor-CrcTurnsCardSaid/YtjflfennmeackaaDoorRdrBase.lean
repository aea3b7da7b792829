/-
  num.Reader's Bad, spoil, take and Word, and num.From: what each answers, and what is left of the reader. Conditions: the reader lies as num.From lays it; of From, that the slice reads as bytes.
-/
import Derived.Test.YtjflfennmeackaaDoorRdr
namespace Go.Proofs.YtjflfennmeackaaDoor
open Go.RowKit

set_option maxHeartbeats 400000 in
theorem bad_nil (w : World) : Calls Tryd.prog 22 #[.pointer none] w fun e w' => e = .returned (.bool true) ∧ w = w' := by
  go_enter Tryd.func22, Tryd.ntmps22
  go_wp2
  go_ret
  exact ⟨rfl, rfl⟩

set_option maxHeartbeats 400000 in
theorem bad_any (g : Nat) (v : Value) (bad : Bool) (w : World) (h : Blk w g 44 #[v, .bool bad]) :
    Calls Tryd.prog 22 #[.pointer (some ⟨g, 0, none⟩)] w fun e w' => e = .returned (.bool bad) ∧ w = w' := by
  have h1 : w.cell? ⟨g, 1, none⟩ = some (.bool bad) := by rw [h.cell]; rfl
  go_enter Tryd.func22, Tryd.ntmps22
  go_wp2
  go_ret
  exact ⟨rfl, rfl⟩

set_option maxHeartbeats 400000 in
theorem spoil_any (g : Nat) (v : Value) (bad : Bool) (w : World) (h : Blk w g 44 #[v, .bool bad]) :
    Calls Tryd.prog 23 #[.pointer (some ⟨g, 0, none⟩)] w fun e w' => e = .returned (.tuple #[]) ∧ Rdr 44 w' g none ∧ w.grownBy w' (some g) := by
  have h0 : w.cell? ⟨g, 0, none⟩ = some v := by rw [h.cell]; rfl
  have h1 : w.cell? ⟨g, 1, none⟩ = some (.bool bad) := by rw [h.cell]; rfl
  have f0 := h.free 0
  have f1 := h.free 1
  go_enter Tryd.func23, Tryd.ntmps23
  go_wp2
  go_returns
  exact ⟨rfl, ⟨_, true, [], (h.set 0 _).set 1 _, Rd.nil _ _, rfl⟩, (grown_set w g 0 _).trans (grown_set _ g 1 _)⟩

set_option maxHeartbeats 400000 in
theorem take_nil (n : Int) (w : World) : Calls Tryd.prog 21 #[.pointer none, .int .i64 n] w fun e w' => e = .returned (.slice none 0 0) ∧ w = w' := by
  go_enter Tryd.func21, Tryd.ntmps21
  go_wp2_with (go_at_call 22; go_must (refine (bad_nil _).mono ?_); rintro e w' ⟨rfl, rfl⟩)
  go_ret
  exact ⟨rfl, rfl⟩

/-- What 'take' leaves: a slice of the reader's own bytes. -/
def TakePost (T : TypeId) (w : World) (g : Nat) (l : List UInt8) (s : Option (List UInt8)) (e : Ending) (w' : World) : Prop :=
  ∃ v, e = .returned v ∧ Rd w' g v l ∧ Rdr T w' g s ∧ w.grownBy w' (some g)

set_option maxHeartbeats 800000 in
theorem take_any (g : Nat) (n : Int) (s : Option (List UInt8)) (w : World) (h : Rdr 44 w g s) :
    Calls Tryd.prog 21 #[.pointer (some ⟨g, 0, none⟩), .int .i64 n] w (TakePost 44 w g (takeS n s).1 (takeS n s).2) := by
  rcases h.open with ⟨rfl, v, l, hb, hr⟩ | ⟨v, l, rfl, hb, hr⟩
  · go_enter Tryd.func21, Tryd.ntmps21
    go_wp2_with (go_at_call 22; go_must (refine (bad_any g v true _ hb).mono ?_); rintro e w' ⟨rfl, rfl⟩)
    go_ret
    exact ⟨_, rfl, Rd.nil _ _, h, World.grownBy.refl w _⟩
  · have hr' := hr
    obtain ⟨A, c, rfl, hlc, hcm, hA⟩ := hr
    unfold maxLen at hcm
    have hcm' : (c : Int) ≤ 9223372036854775807 := by omega
    have h0 : w.cell? ⟨g, 0, none⟩ = some (.slice A l.length c) := by rw [hb.cell]; rfl
    have f0 := hb.free 0
    clear hcm hA
    by_cases hn : n < 0 ∨ (l.length : Int) < n
    · have hfin : takeS n (some l) = ([], none) := by simp only [takeS]; rw [if_pos hn]
      have Hfin := Lib.hid hfin
      clear hfin
      rcases hn with hn | hn
      · go_enter Tryd.func21, Tryd.ntmps21
        go_wp2_with fail
        refine (bad_any g _ false _ hb).mono ?_
        rintro e w' ⟨rfl, rfl⟩
        go_wp2_with fail
        refine (spoil_any g _ false _ hb).mono ?_
        rintro e w' ⟨rfl, hs, hg⟩
        go_wp2_with fail
        go_ret
        exact ⟨_, rfl, by rw [Hfin.out]; exact Rd.nil _ _, by rw [Hfin.out]; exact hs, hg⟩
      · have hn0 : 0 ≤ n := by omega
        go_enter Tryd.func21, Tryd.ntmps21
        go_wp2_with fail
        refine (bad_any g _ false _ hb).mono ?_
        rintro e w' ⟨rfl, rfl⟩
        go_wp2_with fail
        refine (spoil_any g _ false _ hb).mono ?_
        rintro e w' ⟨rfl, hs, hg⟩
        go_wp2_with fail
        go_ret
        exact ⟨_, rfl, by rw [Hfin.out]; exact Rd.nil _ _, by rw [Hfin.out]; exact hs, hg⟩
    · obtain ⟨k, rfl⟩ := Int.eq_ofNat_of_zero_le (show 0 ≤ n by omega)
      have hkl : k ≤ l.length := by omega
      have hfin : takeS (k : Int) (some l) = (l.take k, some (l.drop k)) := by simp only [takeS]; rw [if_neg hn]; simp
      have hend : ∀ (A' : Option Addr) (c' c2 : Nat), c2 = c → c' = c - k → (c ≠ k → A' = A.map (·.add k)) → TakePost 44 w g (takeS (k : Int) (some l)).1 (takeS (k : Int) (some l)).2 (.returned (.slice A k c2)) (w.setCell ⟨g, 0, none⟩ (.slice A' (l.length - k) c')) := by
        intro A' c' c2 h0 h1 h2
        subst h0
        obtain ⟨h3, h4⟩ := rdr_cut hb hr' k hkl A' c' h1 h2
        exact ⟨_, rfl, by rw [hfin]; exact (hr'.upto k hkl).grown h4 (Nat.le_refl _) (Nat.le_of_lt hb.lt), by rw [hfin]; exact h3, h4⟩
      have Hend := Lib.hid hend
      clear hend hfin hn
      go_enter Tryd.func21, Tryd.ntmps21
      go_wp2_with fail
      refine (bad_any g _ false _ hb).mono ?_
      rintro e w' ⟨rfl, rfl⟩
      go_wp2_with fail
      all_goals (go_ret; exact Hend.out _ _ _ (by first | rfl | omega) (by first | rfl | omega) (fun hne => by first | rfl | omega))

theorem takeS_lt (n : Int) (s : Option (List UInt8)) : (takeS n s).1 = [] ∨ ((takeS n s).1.length : Int) = n := by
  cases s with
  | none => exact .inl rfl
  | some l =>
    simp only [takeS]
    split
    · exact .inl rfl
    · right; simp; omega

/-- 'or' of a low part and a part behind it. -/
theorem or_low (i x y z : Nat) (hx : x < 2 ^ i) (hz : y * 2 ^ i = z) (hx1 : x < 4294967296) (hz1 : z < 4294967296) : bits .or .u32 (x : Int) (z : Int) = ((x + z : Nat) : Int) := by
  rw [(bits_nat .u32 32 (by decide) (fun n h0 h1 => by rw [IntKind.wrap_u32]; omega) x z hx1 hz1).2]
  congr 1
  rw [← hz, Nat.or_comm, Nat.mul_comm, ← Nat.two_pow_add_eq_or_of_lt hx]
  omega

theorem word_or (a b c d : Nat) (ha : a < 256) (hb : b < 256) (hc : c < 256) (hd : d < 256) :
    bits .or .u32 (bits .or .u32 (bits .or .u32 (bits .or .u32 0 (a : Int)) ((b : Int) * 256)) ((c : Int) * 65536)) ((d : Int) * 16777216) = ((a + 256 * b + 65536 * c + 16777216 * d : Nat) : Int) := by
  have e0 : bits .or .u32 0 (a : Int) = (a : Int) := by
    have := or_low 0 0 a a (by decide) (by simp) (by decide) (by omega)
    simpa using this
  have e1 : bits .or .u32 (a : Int) ((b : Int) * 256) = ((a + b * 256 : Nat) : Int) := by
    have := or_low 8 a b (b * 256) (by omega) (by simp) (by omega) (by omega)
    rw [← this]; simp
  have e2 : bits .or .u32 ((a + b * 256 : Nat) : Int) ((c : Int) * 65536) = ((a + b * 256 + c * 65536 : Nat) : Int) := by
    have := or_low 16 (a + b * 256) c (c * 65536) (by omega) (by simp) (by omega) (by omega)
    rw [← this]; simp
  have e3 : bits .or .u32 ((a + b * 256 + c * 65536 : Nat) : Int) ((d : Int) * 16777216) = ((a + b * 256 + c * 65536 + d * 16777216 : Nat) : Int) := by
    have := or_low 24 (a + b * 256 + c * 65536) d (d * 16777216) (by omega) (by simp) (by omega) (by omega)
    rw [← this]; simp
  rw [e0, e1, e2, e3]
  congr 1
  omega

/-- A row that was just made, whole. -/
theorem row_whole {w : World} {base e g n : Nat} {xs : List Value} (h : w.ownsRow base e 1 (.slice (some ⟨g, 0, none⟩) n n) n xs) : w.heap[g]? = some (.cells xs.toArray e (0, 0)) := by
  obtain ⟨h1, h2⟩ := h
  rcases h2 with ⟨h2, _⟩ | ⟨g', cap, cur, hv, _, hh, _, _, hs, ht⟩
  · cases h2
  · injection hv with hv1 _ hv2
    injection hv1 with hv1
    injection hv1 with hv1
    subst hv1 hv2
    rw [hh, ← ht, List.take_of_length_le (by rw [Array.length_toList]; omega)]

theorem splice_all {α : Type} (a b : List α) (h : a.length = b.length) : splice a 0 b = b := by
  unfold splice
  rw [Nat.zero_add, ← h]
  simp

/-- A block that is just bytes, as a slice. -/
theorem rd_blk {w : World} {g B : Nat} {e : TypeId} {l : List UInt8} (h : Blk w g e (bvs l).toArray) (hB : g < B) (hm : l.length ≤ maxLen) : Rd w B (.slice (some ⟨g, 0, none⟩) l.length l.length) l := by
  refine ⟨_, _, rfl, Nat.le_refl _, hm, fun _ => ⟨g, 0, rfl, hB, fun j hj => ?_⟩⟩
  rw [Nat.zero_add, h.cell]
  simp [bvs, hj]

set_option maxHeartbeats 400000 in
theorem word_nil (w : World) : Calls Tryd.prog 19 #[.pointer none] w fun e w' => e = .returned (.int .u32 0) ∧ w = w' := by
  go_enter Tryd.func19, Tryd.ntmps19
  go_wp2_with (go_at_call 21; go_must (refine (take_nil _ _).mono ?_); rintro e w' ⟨rfl, rfl⟩)
  go_rounds 2
  go_ret
  exact ⟨rfl, rfl⟩

set_option maxHeartbeats 800000 in
theorem rword (g : Nat) (s : Option (List UInt8)) (w : World) (h : Rdr 44 w g s) :
    Calls Tryd.prog 19 #[.pointer (some ⟨g, 0, none⟩)] w (RdrPost 44 w g (wordS s).2 (.int .u32 ((wordS s).1 : Int))) := by
  go_enter Tryd.func19, Tryd.ntmps19
  go_wp2_with fail
  refine (take_any g 4 s _ h).mono ?_
  rintro e w1 ⟨v, rfl, hr, hs, hg⟩
  rcases takeS_lt 4 s with hl | hl
  · rw [hl] at hr
    obtain ⟨A, c, rfl, _, _, _⟩ := hr
    have Hl := Lib.hid hl
    clear hl
    go_wp2_with fail
    go_rounds 1
    go_ret
    exact ⟨by simp only [wordS, Hl.out]; rfl, hs, hg⟩
  · obtain ⟨a, b, c, d, hl4⟩ : ∃ a b c d, (takeS 4 s).1 = [a, b, c, d] := by
      match h4 : (takeS 4 s).1, hl with
      | [a, b, c, d], _ => exact ⟨a, b, c, d, rfl⟩
      | [], h => simp at h
      | [_], h => simp at h
      | [_, _], h => simp at h
      | [_, _, _], h => simp at h
      | _ :: _ :: _ :: _ :: _ :: _, h => simp at h; omega
    rw [hl4] at hr
    obtain ⟨A, cp, rfl, _, _, hA⟩ := hr
    obtain ⟨bl, o, rfl, _, hc⟩ := hA (by simp)
    have c0 := hc 0 (by simp)
    have c1 := hc 1 (by simp)
    have c2 := hc 2 (by simp)
    have c3 := hc 3 (by simp)
    simp only [u8v, List.getElem_cons_zero, List.getElem_cons_succ, Nat.add_zero] at c0 c1 c2 c3
    have x0 : (a.toNat : Int) < 256 := by have := a.toNat_lt; omega
    have x1 : (b.toNat : Int) < 256 := by have := b.toNat_lt; omega
    have x2 : (c.toNat : Int) < 256 := by have := c.toNat_lt; omega
    have x3 : (d.toNat : Int) < 256 := by have := d.toNat_lt; omega
    have Hl := Lib.hid hl4
    clear hl hl4 hA hc
    go_wp2_with fail
    go_rounds 5
    go_ret
    have hw : (wordS s).1 = a.toNat + 256 * b.toNat + 65536 * c.toNat + 16777216 * d.toNat := by simp only [wordS, Hl.out]; rfl
    refine ⟨?_, hs, hg⟩
    rw [hw, ← word_or a.toNat b.toNat c.toNat d.toNat (by omega) (by omega) (by omega) (by omega)]
    rfl

set_option maxHeartbeats 800000 in
theorem from_any (v : Value) (l : List UInt8) (B : Nat) (w : World) (hr : Rd w B v l) (hB : B ≤ w.heap.size) (hl : l.length ≤ 140737488355328) :
    Calls Tryd.prog 18 #[v] w (MadeRdr 44 w l) := by
  have hr0 := Lib.hid hr
  obtain ⟨A, c, rfl, hlc, hcm, hA⟩ := hr
  obtain ⟨i0, hi, hz, hsize, hby⟩ := info_parts Tryd.u8info
  have hsz1 : (Tryd.prog.info? 5).map (·.size) = some 1 := by rw [hi]; simp [hsize]
  have hlI : (l.length : Int) ≤ 140737488355328 := by omega
  have Hl := Lib.hid hl
  clear hl hlc hcm hA
  go_enter Tryd.func18, Tryd.ntmps18
  go_upto_region 2 with (at_make; go_must (refine wpList_make_full _ rfl (.tmp 5) (.tmp 5) _ rfl w.heap.size 5 i0 (.int .u8 0) 1 Tryd.underlying22 hi hz hsize _ _ _ _ l.length rfl rfl rfl rfl (by have := Hl.out; rw [hby]; omega) (by have := Hl.out; unfold maxLen; omega) (Nat.le_refl _) ?_); intro w1 hown hg1)
  have hrow := row_whole hown
  have hb1 : Below w.heap.size w w1 := (Below.refl _ _).grown hg1 (Nat.le_refl _) (fun k hk => by cases hk)
  have hlenM : (madeCells (Value.int .u8 0).cells (l.length * 1)).toList.length = l.length := by simp [madeCells]
  have hpos : 0 < (bvs l).length → some (⟨w.heap.size, 0, none⟩ : Addr) = some ⟨w.heap.size, 0, none⟩ ∧ ∃ ad, A = some ad ∧ ∀ j u, (bvs l)[j]? = some u → w1.cell? (ad.add j) = some u := by
    intro h0
    obtain ⟨A', c', e', hnone, hcells⟩ := (hr0.out.below (hb1.mono hB)).src
    injection e' with e1 _ _
    subst e1
    refine ⟨rfl, ?_⟩
    cases A with
    | none => rw [hnone rfl] at h0; simp at h0
    | some ad => exact ⟨ad, rfl, hcells ad rfl⟩
  have hlt1 : w.heap.size < w1.heap.size := (hown.lt _ rfl).2
  have HlenM := Lib.hid hlenM
  have Hrow := Lib.hid hrow
  have Hpos := Lib.hid hpos
  clear hlenM hrow hpos hown
  generalize hM : (madeCells (Value.int .u8 0).cells (l.length * 1)).toList = M at HlenM Hrow
  clear hM
  go_wp2_with (with_reducible refine wpList_copy_splice rfl (.tmp 7) (.tmp 8) _ _ rfl 5 Tryd.underlying22 hsz1 _ _ _ _ _ _ rfl rfl w.heap.size 0 M 5 Hrow.out (bvs l) (by rw [bvs_length]; exact (Nat.min_self _).symm) Hpos.out (by rw [bvs_length, HlenM.out]; omega) (bvs_one l) w.heap.size w hb1 (Nat.le_refl _) ?_)
  intro w2 hrow2 hb2
  have hblk : Blk w2 w.heap.size 5 (bvs l).toArray := by
    have := hrow2.out
    rw [splice_all _ _ (by rw [HlenM.out, bvs_length])] at this
    exact this
  have Hblk := Lib.hid hblk
  clear hblk hrow2 Hrow Hpos HlenM
  go_wp2
  go_ret
  have hlt2 := Hblk.out.lt
  refine ⟨w2.heap.size, rfl, by omega, ⟨_, false, l, Blk.fresh _ _ _, ?_, rfl⟩, hb2.alloc (by omega) _⟩
  exact rd_blk (e := 5) ((Below.heap_alloc w2 _ _ hlt2).trans Hblk.out) hlt2 (by have := Hl.out; unfold maxLen; omega)
end Go.Proofs.YtjflfennmeackaaDoor
