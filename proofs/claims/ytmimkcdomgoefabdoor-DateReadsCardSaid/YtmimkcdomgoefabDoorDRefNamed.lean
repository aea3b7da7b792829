/-
  The document's own zones by name (newsstandref04.named). Condition: a text's length is a length.
-/
import Derived.Test.YtmimkcdomgoefabDoorDRefIdx
import Derived.Test.YtmimkcdomgoefabDoorDRefWeb
import Derived.Test.YtmimkcdomgoefabDoorDWords
namespace Go.Proofs.YtmimkcdomgoefabDoor
open Go.RowKit

def namesL : List (List UInt8) := [[71, 77, 84], [85, 84], [85, 84, 67], [90], [69, 83, 84], [69, 68, 84], [67, 83, 84], [67, 68, 84], [77, 83, 84], [77, 68, 84], [80, 83, 84], [80, 68, 84]]
def namedR (s : List UInt8) : Option Int :=
  match zonN s with
  | some h => some (3600 * h)
  | none => if s.length = 5 then zoneR (at0B s 0) ((s.drop 1).take 2) (s.drop 3) else none

theorem names_rd (w : World) (A : Addr) (hA : A = ⟨w.heap.size, 0, none⟩) (t : TypeId) : RdS (w.alloc (.cells #[.string ⟨#[71, 77, 84]⟩, .string ⟨#[85, 84]⟩, .string ⟨#[85, 84, 67]⟩, .string ⟨#[90]⟩, .string ⟨#[69, 83, 84]⟩, .string ⟨#[69, 68, 84]⟩, .string ⟨#[67, 83, 84]⟩, .string ⟨#[67, 68, 84]⟩, .string ⟨#[77, 83, 84]⟩, .string ⟨#[77, 68, 84]⟩, .string ⟨#[80, 83, 84]⟩, .string ⟨#[80, 68, 84]⟩] t)) (w.heap.size + 1) (.slice (some A) 12 12) namesL := by
  subst hA
  refine ⟨_, 12, rfl, by decide, by decide, fun _ => ⟨_, 0, rfl, by omega, fun j hj => ?_⟩⟩
  have hj' : j < 12 := hj
  match j, hj' with
  | 0, _ => exact Blk.cell (Blk.fresh w t _) 0
  | 1, _ => exact Blk.cell (Blk.fresh w t _) 1
  | 2, _ => exact Blk.cell (Blk.fresh w t _) 2
  | 3, _ => exact Blk.cell (Blk.fresh w t _) 3
  | 4, _ => exact Blk.cell (Blk.fresh w t _) 4
  | 5, _ => exact Blk.cell (Blk.fresh w t _) 5
  | 6, _ => exact Blk.cell (Blk.fresh w t _) 6
  | 7, _ => exact Blk.cell (Blk.fresh w t _) 7
  | 8, _ => exact Blk.cell (Blk.fresh w t _) 8
  | 9, _ => exact Blk.cell (Blk.fresh w t _) 9
  | 10, _ => exact Blk.cell (Blk.fresh w t _) 10
  | 11, _ => exact Blk.cell (Blk.fresh w t _) 11

/-- Which place a name has. -/
def hoursL : List Int := [0, 0, 0, 0, -5, -4, -6, -5, -7, -6, -8, -7]
theorem named_cases (s : List UInt8) : (∃ i : Nat, i < 12 ∧ idxR namesL s = (i : Int) ∧ zonN s = some (hoursL.getD i 0)) ∨ (idxR namesL s = -1 ∧ zonN s = none) := by
  by_cases h0 : s = [71, 77, 84]
  · subst h0; exact .inl ⟨0, by decide, by decide, by decide⟩
  by_cases h1 : s = [85, 84]
  · subst h1; exact .inl ⟨1, by decide, by decide, by decide⟩
  by_cases h2 : s = [85, 84, 67]
  · subst h2; exact .inl ⟨2, by decide, by decide, by decide⟩
  by_cases h3 : s = [90]
  · subst h3; exact .inl ⟨3, by decide, by decide, by decide⟩
  by_cases h4 : s = [69, 83, 84]
  · subst h4; exact .inl ⟨4, by decide, by decide, by decide⟩
  by_cases h5 : s = [69, 68, 84]
  · subst h5; exact .inl ⟨5, by decide, by decide, by decide⟩
  by_cases h6 : s = [67, 83, 84]
  · subst h6; exact .inl ⟨6, by decide, by decide, by decide⟩
  by_cases h7 : s = [67, 68, 84]
  · subst h7; exact .inl ⟨7, by decide, by decide, by decide⟩
  by_cases h8 : s = [77, 83, 84]
  · subst h8; exact .inl ⟨8, by decide, by decide, by decide⟩
  by_cases h9 : s = [77, 68, 84]
  · subst h9; exact .inl ⟨9, by decide, by decide, by decide⟩
  by_cases h10 : s = [80, 83, 84]
  · subst h10; exact .inl ⟨10, by decide, by decide, by decide⟩
  by_cases h11 : s = [80, 68, 84]
  · subst h11; exact .inl ⟨11, by decide, by decide, by decide⟩
  refine .inr ⟨?_, ?_⟩
  · unfold idxR namesL
    simp only [idxF]
    rw [if_neg (fun e => h0 e.symm), if_neg (fun e => h1 e.symm), if_neg (fun e => h2 e.symm), if_neg (fun e => h3 e.symm), if_neg (fun e => h4 e.symm), if_neg (fun e => h5 e.symm), if_neg (fun e => h6 e.symm), if_neg (fun e => h7 e.symm), if_neg (fun e => h8 e.symm), if_neg (fun e => h9 e.symm), if_neg (fun e => h10 e.symm), if_neg (fun e => h11 e.symm)]
  · unfold zonN
    simp [h0, h1, h2, h3, h4, h5, h6, h7, h8, h9, h10, h11]

set_option maxHeartbeats 3200000 in
theorem rnamed_any (s : List UInt8) (w : World) : Calls Tryd.prog 34 #[.string (str s)] w (Made w (isV (namedR s))) := by
  obtain ⟨ans, hans⟩ : ∃ ans, ans = namedR s := ⟨_, rfl⟩
  rw [← hans]
  unfold namedR at hans
  rcases named_cases s with ⟨i, hi, hidx, hz⟩ | ⟨hidx, hz⟩
  · rw [hz] at hans
    have HA : Hid (ans = some (3600 * hoursL.getD i 0)) := Lib.hid hans
    have HI := Lib.hid hidx
    clear hans hidx hz
    go_enter Tryd.func34, Tryd.ntmps34
    go_wp2_with fail
    refine (rindex_any namesL s _ _ _ (names_rd _ _ (by simp) _)).mono ?_
    rw [HI.out]
    rintro e w1 ⟨rfl, hw⟩
    have hb : Below w.heap.size w w1 := by
      rw [← hw]
      exact ((Below.refl _ _).alloc (Nat.le_refl _) _).alloc (by simp) _
    have hcell : w1.cell? ⟨w.heap.size, i, none⟩ = some (.int .i64 (hoursL.getD i 0)) := by
      rw [← hw]
      have hk : Blk (w.alloc (.cells #[.int .i64 0, .int .i64 0, .int .i64 0, .int .i64 0, .int .i64 (-5), .int .i64 (-4), .int .i64 (-6), .int .i64 (-5), .int .i64 (-7), .int .i64 (-6), .int .i64 (-8), .int .i64 (-7)] 3)) w.heap.size 3 #[.int .i64 0, .int .i64 0, .int .i64 0, .int .i64 0, .int .i64 (-5), .int .i64 (-4), .int .i64 (-6), .int .i64 (-5), .int .i64 (-7), .int .i64 (-6), .int .i64 (-8), .int .i64 (-7)] := Blk.fresh w 3 _
      rw [(hk.alloc _).cell i]
      match i, hi with
      | 0, _ => rfl
      | 1, _ => rfl
      | 2, _ => rfl
      | 3, _ => rfl
      | 4, _ => rfl
      | 5, _ => rfl
      | 6, _ => rfl
      | 7, _ => rfl
      | 8, _ => rfl
      | 9, _ => rfl
      | 10, _ => rfl
      | 11, _ => rfl
    have hbd : -8 ≤ hoursL.getD i 0 ∧ hoursL.getD i 0 ≤ 0 := by
      match i, hi with
      | 0, _ => exact by decide
      | 1, _ => exact by decide
      | 2, _ => exact by decide
      | 3, _ => exact by decide
      | 4, _ => exact by decide
      | 5, _ => exact by decide
      | 6, _ => exact by decide
      | 7, _ => exact by decide
      | 8, _ => exact by decide
      | 9, _ => exact by decide
      | 10, _ => exact by decide
      | 11, _ => exact by decide
    generalize hoursL.getD i 0 = h at hcell hbd HA
    have HB := Lib.hid hb
    have hiI : (i : Int) < 12 := by omega
    have hi0 : ¬ (i : Int) < 0 := by omega
    obtain ⟨hb1, hb2⟩ := hbd
    clear hw hb
    go_wp2_with fail
    go_ret2
    exact ⟨by rw [HA.out]; rfl, HB.out⟩
  · rw [hz] at hans
    have HI := Lib.hid hidx
    clear hidx hz
    by_cases h5 : s.length = 5
    · have hans' : ans = zoneR (at0B s 0) ((s.drop 1).take 2) (s.drop 3) := by rw [hans]; exact if_pos h5
      have hI5 : (s.length : Int) = 5 := by omega
      have z0 : ∀ W, (Instr.index 9 (.string (str s)) (.int .i64 0)).run Tryd.prog W = .ok (.int .u8 (at0B s 0 : Int)) W := fun W => idx_at s 0 (by omega) W
      have v1 : ∀ W, (Instr.slice 9 (.string (str s)) (some (.int .i64 1)) (some (.int .i64 3)) none).run Tryd.prog W = .ok (.string (str ((s.drop 1).take 2))) W := fun W => slc s 1 3 (by omega) (by omega) W
      have v2 : ∀ W, (Instr.slice 9 (.string (str s)) (some (.int .i64 3)) none none).run Tryd.prog W = .ok (.string (str (s.drop 3))) W := fun W => slt s 3 (by omega) W
      have hzo := fun W => rzone_any (at0B s 0) ((s.drop 1).take 2) (s.drop 3) W (by simp; omega) (by simp; omega)
      generalize zoneR (at0B s 0) ((s.drop 1).take 2) (s.drop 3) = o at hzo hans'
      generalize at0B s 0 = dz at z0 hzo
      generalize (s.drop 1).take 2 = l1 at v1 hzo
      generalize s.drop 3 = l2 at v2 hzo
      have HZ := Lib.hid hzo
      have HA := Lib.hid hans'
      clear hans hans' hzo h5
      go_enter Tryd.func34, Tryd.ntmps34
      go_wp2_with fail
      refine (rindex_any namesL s _ _ _ (names_rd _ _ (by simp) _)).mono ?_
      rw [HI.out]
      rintro e w1 ⟨rfl, hw⟩
      have hb : Below w.heap.size w w1 := by
        rw [← hw]
        exact ((Below.refl _ _).alloc (Nat.le_refl _) _).alloc (by simp) _
      have HB := Lib.hid hb
      clear hw hb
      go_wp2_with fail
      refine up_start Nil (by kernel_rfl) ?_
      refine up_take (by exact at0) (by kernel_rfl) (by exact fun _ _ _ h => h) (by rfl) (by intro W hW; go_simp; try with_reducible rfl) ?_
      simp only [Act.put, List.setIfInBounds_toArray, List.set_cons_zero, List.set_cons_succ]
      refine up_take (by exact (atS at0)) (by kernel_rfl) (by exact fun _ _ _ h => h) (by rfl) (by intro W hW; go_simp; try with_reducible rfl) ?_
      simp only [Act.put, List.setIfInBounds_toArray, List.set_cons_zero, List.set_cons_succ]
      refine up_take (by exact (atS (atS at0))) (by kernel_rfl) (by exact fun _ _ _ h => h) (by rfl) (by intro W hW; go_simp; try with_reducible rfl) ?_
      simp only [Act.put, List.setIfInBounds_toArray, List.set_cons_zero, List.set_cons_succ]
      refine up_take (by exact (atS (atS (atS at0)))) (by kernel_rfl) (by exact fun _ _ _ h => h) (by rfl) (by intro W hW; go_simp; try with_reducible rfl) ?_
      simp only [Act.put, List.setIfInBounds_toArray, List.set_cons_zero, List.set_cons_succ]
      refine up_take (by exact (atS (atS (atS (atS at0))))) (by kernel_rfl) (by exact fun _ _ _ h => h) (by rfl) (by intro W hW; go_simp; try with_reducible rfl) ?_
      simp only [Act.put, List.setIfInBounds_toArray, List.set_cons_zero, List.set_cons_succ]
      refine up_take (by exact (atS (atS (atS (atS (atS at0)))))) (by kernel_rfl) (by exact fun _ _ _ h => h) (by rfl) (by intro W hW; go_simp; try with_reducible rfl) ?_
      simp only [Act.put, List.setIfInBounds_toArray, List.set_cons_zero, List.set_cons_succ]
      refine up_one (by exact (atS (atS (atS (atS (atS (atS at0))))))) (by kernel_rfl) (fun K hK => ?_)
      go_simp
      refine (HZ.out _).mono ?_
      rintro e w9 ⟨rfl, rfl⟩
      unfold isV
      refine hK.out _ _ (Kept.refl _ _) ?_
      clear hK K
      refine up_take (by exact (atS (atS (atS (atS (atS (atS (atS at0)))))))) (by kernel_rfl) (by exact fun _ _ _ h => h) (by rfl) (by intro W hW; go_simp; try with_reducible rfl) ?_
      simp only [Act.put, List.setIfInBounds_toArray, List.set_cons_zero, List.set_cons_succ]
      refine up_take (by exact (atS (atS (atS (atS (atS (atS (atS (atS at0))))))))) (by kernel_rfl) (by exact fun _ _ _ h => h) (by rfl) (by intro W hW; go_simp; try with_reducible rfl) ?_
      simp only [Act.put, List.setIfInBounds_toArray, List.set_cons_zero, List.set_cons_succ]
      refine up_take (by exact (atS (atS (atS (atS (atS (atS (atS (atS (atS at0)))))))))) (by kernel_rfl) (by exact fun _ _ _ h => h) (by rfl) (by intro W hW; go_simp; try with_reducible rfl) ?_
      simp only [Act.put, List.setIfInBounds_toArray, List.set_cons_zero, List.set_cons_succ]
      refine up_take (by exact (atS (atS (atS (atS (atS (atS (atS (atS (atS (atS at0))))))))))) (by kernel_rfl) (by exact fun _ _ _ h => h) (by rfl) (by intro W hW; go_simp; try with_reducible rfl) ?_
      simp only [Act.put, List.setIfInBounds_toArray, List.set_cons_zero, List.set_cons_succ]
      refine up_done (by kernel_rfl) ?_
      go_wp2_with fail
      go_ret2
      exact ⟨by rw [HA.out]; rfl, HB.out.drew⟩
    · have hans' : ans = none := by rw [hans]; exact if_neg h5
      have hI5 : ((s.length : Int) != 5) = true := by simp; omega
      have HA := Lib.hid hans'
      clear hans hans' h5
      go_enter Tryd.func34, Tryd.ntmps34
      go_wp2_with fail
      refine (rindex_any namesL s _ _ _ (names_rd _ _ (by simp) _)).mono ?_
      rw [HI.out]
      rintro e w1 ⟨rfl, hw⟩
      have hb : Below w.heap.size w w1 := by
        rw [← hw]
        exact ((Below.refl _ _).alloc (Nat.le_refl _) _).alloc (by simp) _
      have HB := Lib.hid hb
      clear hw hb
      go_wp2_with fail
      go_ret2
      exact ⟨by rw [HA.out]; rfl, HB.out⟩
end Go.Proofs.YtmimkcdomgoefabDoor
