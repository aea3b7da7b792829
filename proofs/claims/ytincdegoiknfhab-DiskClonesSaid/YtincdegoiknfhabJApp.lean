/-
  The document's disk: Append. Conditions: sizes within what an int holds; the files lie in order of their names; names' lengths are lengths; at most 2^40 bytes in all.
-/
import Derived.Test.YtincdegoiknfhabJSync
namespace Go.Proofs.Ytincdegoiknfhab
open Go.RowKit

theorem put_at {α : Type} {E : List α} {p : Nat} (hp : p ≤ E.length) (x : α) : (E.take p ++ x :: E.drop p)[p]? = some x := by
  rw [List.getElem?_append_right (by rw [List.length_take]; omega), List.length_take, Nat.min_eq_left hp, Nat.sub_self]
  rfl
theorem put_set {α : Type} {E : List α} {p : Nat} (hp : p ≤ E.length) (x y : α) : (E.take p ++ x :: E.drop p).set p y = E.take p ++ y :: E.drop p := by
  rw [List.set_append_right _ _ (by rw [List.length_take]; omega), List.length_take, Nat.min_eq_left hp, Nat.sub_self]
  rfl
theorem spendA_L (A : ADisk) (X : List AFile) : spendA { A with L := X } = { spendA A with L := X } := by
  unfold spendA
  show (if A.lasts = 0 then _ else _) = _
  by_cases h : A.lasts = 0
  · rw [if_pos h, if_pos h]
  · rw [if_neg h, if_neg h]
/-- What a row of files tells of one of them. -/
theorem RDiskAt.fileAt {w : World} {lo g : Nat} {d : RDisk} (h : RDiskAt w lo g d) {p : Nat} {f : RF} (hf : d.E[p]? = some f) :
    ∃ r c, d.v = .slice (some ⟨r, 0, none⟩) d.E.length c ∧ w.cell? ⟨g, 0, none⟩ = some (.slice (some ⟨r, 0, none⟩) d.E.length c) ∧ (d.E.length : Int) ≤ (c : Int) ∧ w.cell? ⟨r, p * 3 + 1, none⟩ = some f.v ∧ (∀ j, w.frozen? ⟨r, j, none⟩ = false) ∧ r < w.heap.size ∧ r ≠ g ∧ RFile w lo f := by
  obtain ⟨hl, he⟩ := List.getElem?_eq_some_iff.1 hf
  obtain ⟨r, c, hv, _, hrs, y0, y1, y2, y3⟩ := h.cells hl
  rw [he] at y1
  obtain ⟨A', c', h1, h2, _⟩ := h.vshape
  have h3 := h1
  rw [hv] at h3
  injection h3 with _ _ h3
  refine ⟨r, c, hv, by rw [← hv]; exact h.2.1.cell 0, by omega, y1, y3, hrs, h.rowNe r (by rw [hv]; rfl), ?_⟩
  rw [← he]
  exact h.2.2.2 _ (List.getElem_mem hl)
section
variable {w : World} {lo g : Nat} {d : RDisk}
theorem rapp_off (h : RDiskAt w lo g d) (hw : WfA (absR d)) (ho : d.off = true) (n : List UInt8) (vb : Value) : Calls Try.prog 35 #[.pointer (some ⟨g, 0, none⟩), .string (str n), vb] w (RStep w lo g d (absR d) (.int .i64 30)) := by
  have hE := wf_len hw
  have kf := rfind h n hE
  unfold findRV at kf
  have K := Lib.hid kf
  have H := Lib.hid h
  have HW := Lib.hid hw
  have HE := Lib.hid hE
  have HO := Lib.hid ho
  clear kf h hw ho
  generalize posA n (absR d).L = p at *
  generalize isA n (absR d).L = q at *
  go_enter Try.func35, Try.ntmps35
  go_wp2_with (go_at_call 61; refine K.out.mono ?_; rintro e w1 ⟨rfl, hb⟩; have HD1 := Lib.hid (H.out.below hb); have x3 : w1.cell? ⟨g, 3, none⟩ = some (.bool d.off) := HD1.out.2.1.cell 3; rw [HO.out] at x3; have HB := Lib.hid hb; clear hb)
  go_ret
  exact rstep_mk rfl HD1.out rfl (Below.off HB.out) (.inl rfl) (fun x hx => .inl ⟨x, hx, rfl⟩)
theorem rapp_name (h : RDiskAt w lo g d) (hw : WfA (absR d)) (ho : d.off = false) (n : List UInt8) (hn : n.length ≤ maxLen) (hnm : nameB n = false) (vb : Value) : Calls Try.prog 35 #[.pointer (some ⟨g, 0, none⟩), .string (str n), vb] w (RStep w lo g d (absR d) (.int .i64 31)) := by
  have hE := wf_len hw
  have kf := rfind h n hE
  unfold findRV at kf
  have K := Lib.hid kf
  have H := Lib.hid h
  have HW := Lib.hid hw
  have HE := Lib.hid hE
  have kn := fun W => rname n W hn
  rw [hnm] at kn
  have KN := Lib.hid kn
  have HO := Lib.hid ho
  clear kf kn h hw ho hnm
  generalize posA n (absR d).L = p at *
  generalize isA n (absR d).L = q at *
  go_enter Try.func35, Try.ntmps35
  go_wp2_with (first | (go_at_call 61; refine K.out.mono ?_; rintro e w1 ⟨rfl, hb⟩; have HD1 := Lib.hid (H.out.below hb); have x3 : w1.cell? ⟨g, 3, none⟩ = some (.bool d.off) := HD1.out.2.1.cell 3; rw [HO.out] at x3; have HB := Lib.hid hb; clear hb) | (go_at_call 62; refine (KN.out _).mono ?_; rintro e w1 ⟨rfl, rfl⟩))
  go_ret
  exact rstep_mk rfl HD1.out rfl (Below.off HB.out) (.inl rfl) (fun x hx => .inl ⟨x, hx, rfl⟩)
set_option maxHeartbeats 3200000 in
set_option maxRecDepth 100000 in
theorem rapp_full1 (h : RDiskAt w lo g d) (hw : WfA (absR d)) (ho : d.off = false) (n : List UInt8) (hn : n.length ≤ maxLen) (hnm : nameB n = true) (A : Option Addr) (m c : Nat) (hE64 : 64 ≤ d.E.length) (hi : isA n (absR d).L = false) :
    Calls Try.prog 35 #[.pointer (some ⟨g, 0, none⟩), .string (str n), .slice A m c] w (RStep w lo g d (absR d) (.int .i64 2)) := by
  have hE := wf_len hw
  have kf := rfind h n hE
  unfold findRV at kf
  have K := Lib.hid kf
  have H := Lib.hid h
  have HW := Lib.hid hw
  have HE := Lib.hid hE
  have kn := fun W => rname n W hn
  rw [hnm] at kn
  have KN := Lib.hid kn
  have HO := Lib.hid ho
  have HU : Hid (usedA (absR d).L ≤ 1099511627776) := Lib.hid hw.2.2.2.2.2
  rw [hi] at K
  have hge : decide ((64 : Int) ≤ (d.E.length : Int)) = true := decide_eq_true (by omega)
  clear kf kn h hw ho hnm hi
  generalize posA n (absR d).L = p at *
  go_enter Try.func35, Try.ntmps35
  go_wp2_with (first | (go_at_call 61; refine K.out.mono ?_; rintro e w1 ⟨rfl, hb⟩; have HD1 := Lib.hid (H.out.below hb); have x3 : w1.cell? ⟨g, 3, none⟩ = some (.bool d.off) := HD1.out.2.1.cell 3; rw [HO.out] at x3; have HB := Lib.hid hb; clear hb) | (go_at_call 62; refine (KN.out _).mono ?_; rintro e w1 ⟨rfl, rfl⟩))
  obtain ⟨Ad, cd, hvd, hcd1, hcd2⟩ := HD1.out.vshape
  have C0 : Hid (w1.drew.cell? ⟨g, 0, none⟩ = some (.slice Ad d.E.length cd)) := Lib.hid (by rw [← hvd]; exact HD1.out.2.1.cell 0)
  have C1 : Hid (w1.drew.cell? ⟨g, 1, none⟩ = some (.int .i64 d.q)) := Lib.hid (HD1.out.2.1.cell 1)
  have HDd := Lib.hid (drew_at HD1.out)
  clear hvd hcd1 hcd2
  refine up_start Nil (by kernel_rfl) ?_
  refine up_take (by exact at0) (by kernel_rfl) (by exact fun _ _ _ h => h) (by rfl) (by intro W hW; go_simp; try with_reducible rfl) ?_
  simp only [Act.put, List.setIfInBounds_toArray, List.set_cons_zero, List.set_cons_succ]
  refine up_take (by exact (atS at0)) (by kernel_rfl) (by exact fun _ _ _ h => h) (by rfl) (by intro W hW; go_simp; try with_reducible rfl) ?_
  simp only [Act.put, List.setIfInBounds_toArray, List.set_cons_zero, List.set_cons_succ]
  refine up_take (by exact (atS (atS at0))) (by kernel_rfl) (by exact fun _ _ _ h => h) (by rfl) (by intro W hW; go_simp; try with_reducible rfl) ?_
  simp only [Act.put, List.setIfInBounds_toArray, List.set_cons_zero, List.set_cons_succ]
  refine up_take (by exact (atS (atS (atS at0)))) (by kernel_rfl) (by exact fun _ _ _ h => h) (by rfl) (by intro W hW; go_simp; try with_reducible rfl) ?_
  simp only [Act.put, List.setIfInBounds_toArray, List.set_cons_zero, List.set_cons_succ]
  refine up_take (by exact (atS (atS (atS (atS at0))))) (by kernel_rfl) (by exact fun _ _ _ h => h) (by rfl) (by intro W hW; go_simp; try with_reducible rfl) ?_
  simp only [Act.put, List.setIfInBounds_toArray, List.set_cons_zero, List.set_cons_succ]
  refine up_take (by exact (atS (atS (atS (atS (atS at0)))))) (by kernel_rfl) (by exact fun _ _ _ h => h) (by rfl) (by intro W hW; go_simp; try with_reducible rfl) ?_
  simp only [Act.put, List.setIfInBounds_toArray, List.set_cons_zero, List.set_cons_succ]
  refine up_take (by exact (atS (atS (atS (atS (atS (atS at0))))))) (by kernel_rfl) (by exact fun _ _ _ h => h) (by rfl) (by intro W hW; have q := cell_up C0.out hW (show ¬ Nil _ from id); go_simp; try with_reducible rfl) ?_
  simp only [Act.put, List.setIfInBounds_toArray, List.set_cons_zero, List.set_cons_succ]
  refine up_take (by exact (atS (atS (atS (atS (atS (atS (atS at0)))))))) (by kernel_rfl) (by exact fun _ _ _ h => h) (by rfl) (by intro W hW; go_simp; try with_reducible rfl) ?_
  simp only [Act.put, List.setIfInBounds_toArray, List.set_cons_zero, List.set_cons_succ]
  refine up_take (by exact (atS (atS (atS (atS (atS (atS (atS (atS at0))))))))) (by kernel_rfl) (by exact fun _ _ _ h => h) (by rfl) (by intro W hW; go_simp; try with_reducible rfl) ?_
  simp only [Act.put, List.setIfInBounds_toArray, List.set_cons_zero, List.set_cons_succ]
  refine up_take (by exact (atS (atS (atS (atS (atS (atS (atS (atS (atS at0)))))))))) (by kernel_rfl) (by exact fun _ _ _ h => h) (by rfl) (by intro W hW; go_simp; try with_reducible rfl) ?_
  simp only [Act.put, List.setIfInBounds_toArray, List.set_cons_zero, List.set_cons_succ]
  refine up_take (by exact (atS (atS (atS (atS (atS (atS (atS (atS (atS (atS at0))))))))))) (by kernel_rfl) (by exact fun _ _ _ h => h) (by rfl) (by intro W hW; go_simp; try with_reducible rfl) ?_
  simp only [Act.put, List.setIfInBounds_toArray, List.set_cons_zero, List.set_cons_succ]
  refine up_skip (by exact (atS (atS (atS (atS (atS (atS (atS (atS (atS (atS (atS at0)))))))))))) (by kernel_rfl) (by exact fun _ _ _ h => h) (by rfl) ?_
  simp only [Act.put, List.setIfInBounds_toArray, List.set_cons_zero, List.set_cons_succ]
  refine up_skip (by exact (atS (atS (atS (atS (atS (atS (atS (atS (atS (atS (atS (atS (atS at0)))))))))))))) (by kernel_rfl) (by exact fun _ _ _ h => h) (by rfl) ?_
  simp only [Act.put, List.setIfInBounds_toArray, List.set_cons_zero, List.set_cons_succ]
  refine up_skip (by exact (atS (atS (atS (atS (atS (atS (atS (atS (atS (atS (atS (atS (atS (atS at0))))))))))))))) (by kernel_rfl) (by exact fun _ _ _ h => h) (by rfl) ?_
  simp only [Act.put, List.setIfInBounds_toArray, List.set_cons_zero, List.set_cons_succ]
  refine up_skip (by exact (atS (atS (atS (atS (atS (atS (atS (atS (atS (atS (atS (atS (atS (atS (atS (atS at0))))))))))))))))) (by kernel_rfl) (by exact fun _ _ _ h => h) (by rfl) ?_
  simp only [Act.put, List.setIfInBounds_toArray, List.set_cons_zero, List.set_cons_succ]
  refine up_skip (by exact (atS (atS (atS (atS (atS (atS (atS (atS (atS (atS (atS (atS (atS (atS (atS (atS (atS at0)))))))))))))))))) (by kernel_rfl) (by exact fun _ _ _ h => h) (by rfl) ?_
  simp only [Act.put, List.setIfInBounds_toArray, List.set_cons_zero, List.set_cons_succ]
  refine up_skip (by exact (atS (atS (atS (atS (atS (atS (atS (atS (atS (atS (atS (atS (atS (atS (atS (atS (atS (atS at0))))))))))))))))))) (by kernel_rfl) (by exact fun _ _ _ h => h) (by rfl) ?_
  simp only [Act.put, List.setIfInBounds_toArray, List.set_cons_zero, List.set_cons_succ]
  refine up_skip (by exact (atS (atS (atS (atS (atS (atS (atS (atS (atS (atS (atS (atS (atS (atS (atS (atS (atS (atS (atS at0)))))))))))))))))))) (by kernel_rfl) (by exact fun _ _ _ h => h) (by rfl) ?_
  simp only [Act.put, List.setIfInBounds_toArray, List.set_cons_zero, List.set_cons_succ]
  refine up_one (by exact (atS (atS (atS (atS (atS (atS (atS (atS (atS (atS (atS (atS at0))))))))))))) (by kernel_rfl) (fun K hK => ?_)
  go_simp
  refine hK.out _ _ (Kept.refl _ _) ?_
  clear hK K
  refine up_skip (by exact (atS (atS (atS (atS (atS (atS (atS (atS (atS (atS (atS (atS (atS (atS (atS at0)))))))))))))))) (by kernel_rfl) (by exact fun _ _ _ h => h) (by rfl) ?_
  simp only [Act.put, List.setIfInBounds_toArray, List.set_cons_zero, List.set_cons_succ]
  refine up_skip (by exact (atS (atS (atS (atS (atS (atS (atS (atS (atS (atS (atS (atS (atS (atS (atS (atS (atS (atS (atS (atS at0))))))))))))))))))))) (by kernel_rfl) (by exact fun _ _ _ h => h) (by rfl) ?_
  simp only [Act.put, List.setIfInBounds_toArray, List.set_cons_zero, List.set_cons_succ]
  refine up_take (by exact (atS (atS (atS (atS (atS (atS (atS (atS (atS (atS (atS (atS (atS (atS (atS (atS (atS (atS (atS (atS (atS at0)))))))))))))))))))))) (by kernel_rfl) (by exact fun _ _ _ h => h) (by rfl) (by intro W hW; go_simp; try with_reducible rfl) ?_
  simp only [Act.put, List.setIfInBounds_toArray, List.set_cons_zero, List.set_cons_succ]
  refine up_take (by exact (atS (atS (atS (atS (atS (atS (atS (atS (atS (atS (atS (atS (atS (atS (atS (atS (atS (atS (atS (atS (atS (atS at0))))))))))))))))))))))) (by kernel_rfl) (by exact fun _ _ _ h => h) (by rfl) (by intro W hW; go_simp; try with_reducible rfl) ?_
  simp only [Act.put, List.setIfInBounds_toArray, List.set_cons_zero, List.set_cons_succ]
  refine up_done (by kernel_rfl) ?_
  go_wp2_with fail
  go_ret
  exact rstep_mk rfl HDd.out rfl (Below.off (drew_b HB.out)) (.inl rfl) (fun x hx => .inl ⟨x, hx, rfl⟩)
set_option maxHeartbeats 3200000 in
set_option maxRecDepth 100000 in
theorem rapp_full2 (h : RDiskAt w lo g d) (hw : WfA (absR d)) (ho : d.off = false) (n : List UInt8) (hn : n.length ≤ maxLen) (hnm : nameB n = true) (A : Option Addr) (m c : Nat) (hm : m ≤ 1099511627776) (hE64 : ¬ 64 ≤ d.E.length) (hq : d.q < (usedA (absR d).L : Int) + (m : Int)) (hi : isA n (absR d).L = false) :
    Calls Try.prog 35 #[.pointer (some ⟨g, 0, none⟩), .string (str n), .slice A m c] w (RStep w lo g d (absR d) (.int .i64 2)) := by
  have hE := wf_len hw
  have kf := rfind h n hE
  unfold findRV at kf
  have K := Lib.hid kf
  have H := Lib.hid h
  have HW := Lib.hid hw
  have HE := Lib.hid hE
  have kn := fun W => rname n W hn
  rw [hnm] at kn
  have KN := Lib.hid kn
  have HO := Lib.hid ho
  have HU : Hid (usedA (absR d).L ≤ 1099511627776) := Lib.hid hw.2.2.2.2.2
  rw [hi] at K
  have hge : decide ((64 : Int) ≤ (d.E.length : Int)) = false := decide_eq_false (by omega)
  have hwr : IntKind.i64.wrap ((usedA (absR d).L : Int) + (m : Int)) = (usedA (absR d).L : Int) + (m : Int) := IntWalk.i64_in _ (by have := HU.out; omega)
  have hfu : decide (d.q < (usedA (absR d).L : Int) + (m : Int)) = true := decide_eq_true hq
  clear kf kn h hw ho hnm hi
  generalize posA n (absR d).L = p at *
  go_enter Try.func35, Try.ntmps35
  go_wp2_with (first | (go_at_call 61; refine K.out.mono ?_; rintro e w1 ⟨rfl, hb⟩; have HD1 := Lib.hid (H.out.below hb); have x3 : w1.cell? ⟨g, 3, none⟩ = some (.bool d.off) := HD1.out.2.1.cell 3; rw [HO.out] at x3; have HB := Lib.hid hb; clear hb) | (go_at_call 62; refine (KN.out _).mono ?_; rintro e w1 ⟨rfl, rfl⟩))
  obtain ⟨Ad, cd, hvd, hcd1, hcd2⟩ := HD1.out.vshape
  have C0 : Hid (w1.drew.cell? ⟨g, 0, none⟩ = some (.slice Ad d.E.length cd)) := Lib.hid (by rw [← hvd]; exact HD1.out.2.1.cell 0)
  have C1 : Hid (w1.drew.cell? ⟨g, 1, none⟩ = some (.int .i64 d.q)) := Lib.hid (HD1.out.2.1.cell 1)
  have HDd := Lib.hid (drew_at HD1.out)
  clear hvd hcd1 hcd2
  refine up_start Nil (by kernel_rfl) ?_
  refine up_take (by exact at0) (by kernel_rfl) (by exact fun _ _ _ h => h) (by rfl) (by intro W hW; go_simp; try with_reducible rfl) ?_
  simp only [Act.put, List.setIfInBounds_toArray, List.set_cons_zero, List.set_cons_succ]
  refine up_take (by exact (atS at0)) (by kernel_rfl) (by exact fun _ _ _ h => h) (by rfl) (by intro W hW; go_simp; try with_reducible rfl) ?_
  simp only [Act.put, List.setIfInBounds_toArray, List.set_cons_zero, List.set_cons_succ]
  refine up_take (by exact (atS (atS at0))) (by kernel_rfl) (by exact fun _ _ _ h => h) (by rfl) (by intro W hW; go_simp; try with_reducible rfl) ?_
  simp only [Act.put, List.setIfInBounds_toArray, List.set_cons_zero, List.set_cons_succ]
  refine up_take (by exact (atS (atS (atS at0)))) (by kernel_rfl) (by exact fun _ _ _ h => h) (by rfl) (by intro W hW; go_simp; try with_reducible rfl) ?_
  simp only [Act.put, List.setIfInBounds_toArray, List.set_cons_zero, List.set_cons_succ]
  refine up_take (by exact (atS (atS (atS (atS at0))))) (by kernel_rfl) (by exact fun _ _ _ h => h) (by rfl) (by intro W hW; go_simp; try with_reducible rfl) ?_
  simp only [Act.put, List.setIfInBounds_toArray, List.set_cons_zero, List.set_cons_succ]
  refine up_take (by exact (atS (atS (atS (atS (atS at0)))))) (by kernel_rfl) (by exact fun _ _ _ h => h) (by rfl) (by intro W hW; go_simp; try with_reducible rfl) ?_
  simp only [Act.put, List.setIfInBounds_toArray, List.set_cons_zero, List.set_cons_succ]
  refine up_take (by exact (atS (atS (atS (atS (atS (atS at0))))))) (by kernel_rfl) (by exact fun _ _ _ h => h) (by rfl) (by intro W hW; have q := cell_up C0.out hW (show ¬ Nil _ from id); go_simp; try with_reducible rfl) ?_
  simp only [Act.put, List.setIfInBounds_toArray, List.set_cons_zero, List.set_cons_succ]
  refine up_take (by exact (atS (atS (atS (atS (atS (atS (atS at0)))))))) (by kernel_rfl) (by exact fun _ _ _ h => h) (by rfl) (by intro W hW; go_simp; try with_reducible rfl) ?_
  simp only [Act.put, List.setIfInBounds_toArray, List.set_cons_zero, List.set_cons_succ]
  refine up_take (by exact (atS (atS (atS (atS (atS (atS (atS (atS at0))))))))) (by kernel_rfl) (by exact fun _ _ _ h => h) (by rfl) (by intro W hW; go_simp; try with_reducible rfl) ?_
  simp only [Act.put, List.setIfInBounds_toArray, List.set_cons_zero, List.set_cons_succ]
  refine up_take (by exact (atS (atS (atS (atS (atS (atS (atS (atS (atS at0)))))))))) (by kernel_rfl) (by exact fun _ _ _ h => h) (by rfl) (by intro W hW; go_simp; try with_reducible rfl) ?_
  simp only [Act.put, List.setIfInBounds_toArray, List.set_cons_zero, List.set_cons_succ]
  refine up_take (by exact (atS (atS (atS (atS (atS (atS (atS (atS (atS (atS at0))))))))))) (by kernel_rfl) (by exact fun _ _ _ h => h) (by rfl) (by intro W hW; go_simp; try with_reducible rfl) ?_
  simp only [Act.put, List.setIfInBounds_toArray, List.set_cons_zero, List.set_cons_succ]
  refine up_take (by exact (atS (atS (atS (atS (atS (atS (atS (atS (atS (atS (atS at0)))))))))))) (by kernel_rfl) (by exact fun _ _ _ h => h) (by rfl) (by intro W hW; go_simp; try with_reducible rfl) ?_
  simp only [Act.put, List.setIfInBounds_toArray, List.set_cons_zero, List.set_cons_succ]
  refine up_take (by exact (atS (atS (atS (atS (atS (atS (atS (atS (atS (atS (atS (atS (atS at0)))))))))))))) (by kernel_rfl) (by exact fun _ _ _ h => h) (by rfl) (by intro W hW; go_simp; try with_reducible rfl) ?_
  simp only [Act.put, List.setIfInBounds_toArray, List.set_cons_zero, List.set_cons_succ]
  refine up_take (by exact (atS (atS (atS (atS (atS (atS (atS (atS (atS (atS (atS (atS (atS (atS at0))))))))))))))) (by kernel_rfl) (by exact fun _ _ _ h => h) (by rfl) (by intro W hW; go_simp; try with_reducible rfl) ?_
  simp only [Act.put, List.setIfInBounds_toArray, List.set_cons_zero, List.set_cons_succ]
  refine up_take (by exact (atS (atS (atS (atS (atS (atS (atS (atS (atS (atS (atS (atS (atS (atS (atS (atS at0))))))))))))))))) (by kernel_rfl) (by exact fun _ _ _ h => h) (by rfl) (by intro W hW; go_simp; try with_reducible rfl) ?_
  simp only [Act.put, List.setIfInBounds_toArray, List.set_cons_zero, List.set_cons_succ]
  refine up_take (by exact (atS (atS (atS (atS (atS (atS (atS (atS (atS (atS (atS (atS (atS (atS (atS (atS (atS at0)))))))))))))))))) (by kernel_rfl) (by exact fun _ _ _ h => h) (by rfl) (by intro W hW; go_simp; try with_reducible rfl) ?_
  simp only [Act.put, List.setIfInBounds_toArray, List.set_cons_zero, List.set_cons_succ]
  refine up_take (by exact (atS (atS (atS (atS (atS (atS (atS (atS (atS (atS (atS (atS (atS (atS (atS (atS (atS (atS at0))))))))))))))))))) (by kernel_rfl) (by exact fun _ _ _ h => h) (by rfl) (by intro W hW; go_simp; try with_reducible rfl) ?_
  simp only [Act.put, List.setIfInBounds_toArray, List.set_cons_zero, List.set_cons_succ]
  refine up_take (by exact (atS (atS (atS (atS (atS (atS (atS (atS (atS (atS (atS (atS (atS (atS (atS (atS (atS (atS (atS at0)))))))))))))))))))) (by kernel_rfl) (by exact fun _ _ _ h => h) (by rfl) (by intro W hW; have q := cell_up C1.out hW (show ¬ Nil _ from id); go_simp; try with_reducible rfl) ?_
  simp only [Act.put, List.setIfInBounds_toArray, List.set_cons_zero, List.set_cons_succ]
  refine up_one (by exact (atS (atS (atS (atS (atS (atS (atS (atS (atS (atS (atS (atS at0))))))))))))) (by kernel_rfl) (fun K hK => ?_)
  go_simp
  refine (rused HDd.out HE.out HU.out).mono ?_
  rintro e w5 ⟨rfl, rfl⟩
  refine hK.out _ _ (Kept.refl _ _) ?_
  clear hK K
  refine up_take (by exact (atS (atS (atS (atS (atS (atS (atS (atS (atS (atS (atS (atS (atS (atS (atS at0)))))))))))))))) (by kernel_rfl) (by exact fun _ _ _ h => h) (by rfl) (by intro W hW; go_simp; try with_reducible rfl) ?_
  simp only [Act.put, List.setIfInBounds_toArray, List.set_cons_zero, List.set_cons_succ]
  refine up_take (by exact (atS (atS (atS (atS (atS (atS (atS (atS (atS (atS (atS (atS (atS (atS (atS (atS (atS (atS (atS (atS at0))))))))))))))))))))) (by kernel_rfl) (by exact fun _ _ _ h => h) (by rfl) (by intro W hW; go_simp; try with_reducible rfl) ?_
  simp only [Act.put, List.setIfInBounds_toArray, List.set_cons_zero, List.set_cons_succ]
  refine up_take (by exact (atS (atS (atS (atS (atS (atS (atS (atS (atS (atS (atS (atS (atS (atS (atS (atS (atS (atS (atS (atS (atS at0)))))))))))))))))))))) (by kernel_rfl) (by exact fun _ _ _ h => h) (by rfl) (by intro W hW; go_simp; try with_reducible rfl) ?_
  simp only [Act.put, List.setIfInBounds_toArray, List.set_cons_zero, List.set_cons_succ]
  refine up_take (by exact (atS (atS (atS (atS (atS (atS (atS (atS (atS (atS (atS (atS (atS (atS (atS (atS (atS (atS (atS (atS (atS (atS at0))))))))))))))))))))))) (by kernel_rfl) (by exact fun _ _ _ h => h) (by rfl) (by intro W hW; go_simp; try with_reducible rfl) ?_
  simp only [Act.put, List.setIfInBounds_toArray, List.set_cons_zero, List.set_cons_succ]
  refine up_done (by kernel_rfl) ?_
  go_wp2_with fail
  go_ret
  exact rstep_mk rfl HDd.out rfl (Below.off (drew_b HB.out)) (.inl rfl) (fun x hx => .inl ⟨x, hx, rfl⟩)
set_option maxHeartbeats 3200000 in
set_option maxRecDepth 100000 in
theorem rapp_full3 (h : RDiskAt w lo g d) (hw : WfA (absR d)) (ho : d.off = false) (n : List UInt8) (hn : n.length ≤ maxLen) (hnm : nameB n = true) (A : Option Addr) (m c : Nat) (hm : m ≤ 1099511627776) (hq : d.q < (usedA (absR d).L : Int) + (m : Int)) (hi : isA n (absR d).L = true) :
    Calls Try.prog 35 #[.pointer (some ⟨g, 0, none⟩), .string (str n), .slice A m c] w (RStep w lo g d (absR d) (.int .i64 2)) := by
  have hE := wf_len hw
  have kf := rfind h n hE
  unfold findRV at kf
  have K := Lib.hid kf
  have H := Lib.hid h
  have HW := Lib.hid hw
  have HE := Lib.hid hE
  have kn := fun W => rname n W hn
  rw [hnm] at kn
  have KN := Lib.hid kn
  have HO := Lib.hid ho
  have HU : Hid (usedA (absR d).L ≤ 1099511627776) := Lib.hid hw.2.2.2.2.2
  rw [hi] at K
  have hwr : IntKind.i64.wrap ((usedA (absR d).L : Int) + (m : Int)) = (usedA (absR d).L : Int) + (m : Int) := IntWalk.i64_in _ (by have := HU.out; omega)
  have hfu : decide (d.q < (usedA (absR d).L : Int) + (m : Int)) = true := decide_eq_true hq
  clear kf kn h hw ho hnm hi
  generalize posA n (absR d).L = p at *
  go_enter Try.func35, Try.ntmps35
  go_wp2_with (first | (go_at_call 61; refine K.out.mono ?_; rintro e w1 ⟨rfl, hb⟩; have HD1 := Lib.hid (H.out.below hb); have x3 : w1.cell? ⟨g, 3, none⟩ = some (.bool d.off) := HD1.out.2.1.cell 3; rw [HO.out] at x3; have HB := Lib.hid hb; clear hb) | (go_at_call 62; refine (KN.out _).mono ?_; rintro e w1 ⟨rfl, rfl⟩))
  obtain ⟨Ad, cd, hvd, hcd1, hcd2⟩ := HD1.out.vshape
  have C0 : Hid (w1.drew.cell? ⟨g, 0, none⟩ = some (.slice Ad d.E.length cd)) := Lib.hid (by rw [← hvd]; exact HD1.out.2.1.cell 0)
  have C1 : Hid (w1.drew.cell? ⟨g, 1, none⟩ = some (.int .i64 d.q)) := Lib.hid (HD1.out.2.1.cell 1)
  have HDd := Lib.hid (drew_at HD1.out)
  clear hvd hcd1 hcd2
  refine up_start Nil (by kernel_rfl) ?_
  refine up_take (by exact at0) (by kernel_rfl) (by exact fun _ _ _ h => h) (by rfl) (by intro W hW; go_simp; try with_reducible rfl) ?_
  simp only [Act.put, List.setIfInBounds_toArray, List.set_cons_zero, List.set_cons_succ]
  refine up_take (by exact (atS at0)) (by kernel_rfl) (by exact fun _ _ _ h => h) (by rfl) (by intro W hW; go_simp; try with_reducible rfl) ?_
  simp only [Act.put, List.setIfInBounds_toArray, List.set_cons_zero, List.set_cons_succ]
  refine up_take (by exact (atS (atS at0))) (by kernel_rfl) (by exact fun _ _ _ h => h) (by rfl) (by intro W hW; go_simp; try with_reducible rfl) ?_
  simp only [Act.put, List.setIfInBounds_toArray, List.set_cons_zero, List.set_cons_succ]
  refine up_skip (by exact (atS (atS (atS at0)))) (by kernel_rfl) (by exact fun _ _ _ h => h) (by rfl) ?_
  simp only [Act.put, List.setIfInBounds_toArray, List.set_cons_zero, List.set_cons_succ]
  refine up_skip (by exact (atS (atS (atS (atS at0))))) (by kernel_rfl) (by exact fun _ _ _ h => h) (by rfl) ?_
  simp only [Act.put, List.setIfInBounds_toArray, List.set_cons_zero, List.set_cons_succ]
  refine up_skip (by exact (atS (atS (atS (atS (atS at0)))))) (by kernel_rfl) (by exact fun _ _ _ h => h) (by rfl) ?_
  simp only [Act.put, List.setIfInBounds_toArray, List.set_cons_zero, List.set_cons_succ]
  refine up_skip (by exact (atS (atS (atS (atS (atS (atS at0))))))) (by kernel_rfl) (by exact fun _ _ _ h => h) (by rfl) ?_
  simp only [Act.put, List.setIfInBounds_toArray, List.set_cons_zero, List.set_cons_succ]
  refine up_skip (by exact (atS (atS (atS (atS (atS (atS (atS at0)))))))) (by kernel_rfl) (by exact fun _ _ _ h => h) (by rfl) ?_
  simp only [Act.put, List.setIfInBounds_toArray, List.set_cons_zero, List.set_cons_succ]
  refine up_skip (by exact (atS (atS (atS (atS (atS (atS (atS (atS at0))))))))) (by kernel_rfl) (by exact fun _ _ _ h => h) (by rfl) ?_
  simp only [Act.put, List.setIfInBounds_toArray, List.set_cons_zero, List.set_cons_succ]
  refine up_take (by exact (atS (atS (atS (atS (atS (atS (atS (atS (atS at0)))))))))) (by kernel_rfl) (by exact fun _ _ _ h => h) (by rfl) (by intro W hW; go_simp; try with_reducible rfl) ?_
  simp only [Act.put, List.setIfInBounds_toArray, List.set_cons_zero, List.set_cons_succ]
  refine up_take (by exact (atS (atS (atS (atS (atS (atS (atS (atS (atS (atS at0))))))))))) (by kernel_rfl) (by exact fun _ _ _ h => h) (by rfl) (by intro W hW; go_simp; try with_reducible rfl) ?_
  simp only [Act.put, List.setIfInBounds_toArray, List.set_cons_zero, List.set_cons_succ]
  refine up_take (by exact (atS (atS (atS (atS (atS (atS (atS (atS (atS (atS (atS at0)))))))))))) (by kernel_rfl) (by exact fun _ _ _ h => h) (by rfl) (by intro W hW; go_simp; try with_reducible rfl) ?_
  simp only [Act.put, List.setIfInBounds_toArray, List.set_cons_zero, List.set_cons_succ]
  refine up_take (by exact (atS (atS (atS (atS (atS (atS (atS (atS (atS (atS (atS (atS (atS at0)))))))))))))) (by kernel_rfl) (by exact fun _ _ _ h => h) (by rfl) (by intro W hW; go_simp; try with_reducible rfl) ?_
  simp only [Act.put, List.setIfInBounds_toArray, List.set_cons_zero, List.set_cons_succ]
  refine up_take (by exact (atS (atS (atS (atS (atS (atS (atS (atS (atS (atS (atS (atS (atS (atS at0))))))))))))))) (by kernel_rfl) (by exact fun _ _ _ h => h) (by rfl) (by intro W hW; go_simp; try with_reducible rfl) ?_
  simp only [Act.put, List.setIfInBounds_toArray, List.set_cons_zero, List.set_cons_succ]
  refine up_take (by exact (atS (atS (atS (atS (atS (atS (atS (atS (atS (atS (atS (atS (atS (atS (atS (atS at0))))))))))))))))) (by kernel_rfl) (by exact fun _ _ _ h => h) (by rfl) (by intro W hW; go_simp; try with_reducible rfl) ?_
  simp only [Act.put, List.setIfInBounds_toArray, List.set_cons_zero, List.set_cons_succ]
  refine up_take (by exact (atS (atS (atS (atS (atS (atS (atS (atS (atS (atS (atS (atS (atS (atS (atS (atS (atS at0)))))))))))))))))) (by kernel_rfl) (by exact fun _ _ _ h => h) (by rfl) (by intro W hW; go_simp; try with_reducible rfl) ?_
  simp only [Act.put, List.setIfInBounds_toArray, List.set_cons_zero, List.set_cons_succ]
  refine up_take (by exact (atS (atS (atS (atS (atS (atS (atS (atS (atS (atS (atS (atS (atS (atS (atS (atS (atS (atS at0))))))))))))))))))) (by kernel_rfl) (by exact fun _ _ _ h => h) (by rfl) (by intro W hW; go_simp; try with_reducible rfl) ?_
  simp only [Act.put, List.setIfInBounds_toArray, List.set_cons_zero, List.set_cons_succ]
  refine up_take (by exact (atS (atS (atS (atS (atS (atS (atS (atS (atS (atS (atS (atS (atS (atS (atS (atS (atS (atS (atS at0)))))))))))))))))))) (by kernel_rfl) (by exact fun _ _ _ h => h) (by rfl) (by intro W hW; have q := cell_up C1.out hW (show ¬ Nil _ from id); go_simp; try with_reducible rfl) ?_
  simp only [Act.put, List.setIfInBounds_toArray, List.set_cons_zero, List.set_cons_succ]
  refine up_one (by exact (atS (atS (atS (atS (atS (atS (atS (atS (atS (atS (atS (atS at0))))))))))))) (by kernel_rfl) (fun K hK => ?_)
  go_simp
  refine (rused HDd.out HE.out HU.out).mono ?_
  rintro e w5 ⟨rfl, rfl⟩
  refine hK.out _ _ (Kept.refl _ _) ?_
  clear hK K
  refine up_take (by exact (atS (atS (atS (atS (atS (atS (atS (atS (atS (atS (atS (atS (atS (atS (atS at0)))))))))))))))) (by kernel_rfl) (by exact fun _ _ _ h => h) (by rfl) (by intro W hW; go_simp; try with_reducible rfl) ?_
  simp only [Act.put, List.setIfInBounds_toArray, List.set_cons_zero, List.set_cons_succ]
  refine up_take (by exact (atS (atS (atS (atS (atS (atS (atS (atS (atS (atS (atS (atS (atS (atS (atS (atS (atS (atS (atS (atS at0))))))))))))))))))))) (by kernel_rfl) (by exact fun _ _ _ h => h) (by rfl) (by intro W hW; go_simp; try with_reducible rfl) ?_
  simp only [Act.put, List.setIfInBounds_toArray, List.set_cons_zero, List.set_cons_succ]
  refine up_take (by exact (atS (atS (atS (atS (atS (atS (atS (atS (atS (atS (atS (atS (atS (atS (atS (atS (atS (atS (atS (atS (atS at0)))))))))))))))))))))) (by kernel_rfl) (by exact fun _ _ _ h => h) (by rfl) (by intro W hW; go_simp; try with_reducible rfl) ?_
  simp only [Act.put, List.setIfInBounds_toArray, List.set_cons_zero, List.set_cons_succ]
  refine up_take (by exact (atS (atS (atS (atS (atS (atS (atS (atS (atS (atS (atS (atS (atS (atS (atS (atS (atS (atS (atS (atS (atS (atS at0))))))))))))))))))))))) (by kernel_rfl) (by exact fun _ _ _ h => h) (by rfl) (by intro W hW; go_simp; try with_reducible rfl) ?_
  simp only [Act.put, List.setIfInBounds_toArray, List.set_cons_zero, List.set_cons_succ]
  refine up_done (by kernel_rfl) ?_
  go_wp2_with fail
  go_ret
  exact rstep_mk rfl HDd.out rfl (Below.off (drew_b HB.out)) (.inl rfl) (fun x hx => .inl ⟨x, hx, rfl⟩)
set_option maxHeartbeats 6400000 in
set_option maxRecDepth 100000 in
theorem rapp_old_ok (h : RDiskAt w lo g d) (hw : WfA (absR d)) (hr : RiseA (absR d).L) (ho : d.off = false) (n : List UInt8) (hn : n.length ≤ maxLen) (hnm : nameB n = true) (A : Option Addr) (c : Nat) (bl : List UInt8) (hm : bl.length ≤ 1099511627776)
    (hS : Rdp w (fun k => ¬ RW g d k) (.slice A bl.length c) bl) (hq : ¬ d.q < (usedA (absR d).L : Int) + (bl.length : Int)) (hi : isA n (absR d).L = true) (h0 : ¬ d.lasts = 0) :
    Calls Try.prog 35 #[.pointer (some ⟨g, 0, none⟩), .string (str n), .slice A bl.length c] w (RStep w lo g d (spendA { absR d with L := grownL (absR d).L n bl }) (.int .i64 (spendAV (absR d)))) := by
  have hE := wf_len hw
  have kf := rfind h n hE
  unfold findRV at kf
  have K := Lib.hid kf
  have H := Lib.hid h
  have HW := Lib.hid hw
  have HE := Lib.hid hE
  have kn := fun W => rname n W hn
  rw [hnm] at kn
  have KN := Lib.hid kn
  have HO := Lib.hid ho
  have HS := Lib.hid hS
  have HM := Lib.hid hm
  have HU : Hid (usedA (absR d).L ≤ 1099511627776) := Lib.hid hw.2.2.2.2.2
  have HDC := Lib.hid (deed_dec h0)
  have HSV : Hid (spendAV (absR d) = 0) := Lib.hid (by show (if d.lasts = 0 then (30 : Int) else 0) = _; rw [if_neg h0])
  rw [hi] at K
  have hpl := pos_lt d n hi
  obtain ⟨f, hf⟩ : ∃ f, f = d.E[posA n (absR d).L]'hpl := ⟨_, rfl⟩
  have hnm2 := at_name d n hi
  rw [← hf] at hnm2
  have HGT : Hid (d.E[posA n (absR d).L]? = some f) := Lib.hid (by rw [List.getElem?_eq_getElem hpl, hf])
  have hfm : f ∈ d.E := by rw [hf]; exact List.getElem_mem hpl
  have HBL : Hid (f.bytes.length ≤ 1099511627776 ∧ bl.length ≤ 1099511627776) := Lib.hid ⟨wf_mem hw hfm, hm⟩
  have HGL : Hid (∀ v, (((spendR d).E.set (posA n (absR d).L) { f with v := v, bytes := f.bytes ++ bl }).map absRF) = grownL (absR d).L n bl) := Lib.hid fun v => by
    rw [(spendR_E d).1]
    have h1 := set_abs (E := d.E) (L := (absR d).L) (e := { f with v := v, bytes := f.bytes ++ bl }) rfl hr (by show isA f.name _ = true; rw [hnm2]; exact hi) (by show posA f.name _ = _; rw [hnm2])
    rw [h1]
    unfold grownL
    rw [at_R d n hr hi, ← hf]
    rfl
  clear hf hpl hnm2 hfm
  have hwr : IntKind.i64.wrap ((usedA (absR d).L : Int) + (bl.length : Int)) = (usedA (absR d).L : Int) + (bl.length : Int) := IntWalk.i64_in _ (by have := HU.out; omega)
  have hfu : decide (d.q < (usedA (absR d).L : Int) + (bl.length : Int)) = false := decide_eq_false hq
  clear kf kn h hw ho hnm hi hS h0 hr
  generalize posA n (absR d).L = p at *
  go_enter Try.func35, Try.ntmps35
  go_wp2_with (first | (go_at_call 61; refine K.out.mono ?_; rintro e w1 ⟨rfl, hb⟩; have HD1 := Lib.hid (H.out.below hb); have x3 : w1.cell? ⟨g, 3, none⟩ = some (.bool d.off) := HD1.out.2.1.cell 3; rw [HO.out] at x3; have HB := Lib.hid hb; clear hb) | (go_at_call 62; refine (KN.out _).mono ?_; rintro e w1 ⟨rfl, rfl⟩))
  obtain ⟨Ad, cd, hvd, hcd1, hcd2⟩ := HD1.out.vshape
  have C0 : Hid (w1.drew.cell? ⟨g, 0, none⟩ = some (.slice Ad d.E.length cd)) := Lib.hid (by rw [← hvd]; exact HD1.out.2.1.cell 0)
  have C1 : Hid (w1.drew.cell? ⟨g, 1, none⟩ = some (.int .i64 d.q)) := Lib.hid (HD1.out.2.1.cell 1)
  have HDd := Lib.hid (drew_at HD1.out)
  clear hvd hcd1 hcd2
  refine up_start Nil (by kernel_rfl) ?_
  refine up_take (by exact at0) (by kernel_rfl) (by exact fun _ _ _ h => h) (by rfl) (by intro W hW; go_simp; try with_reducible rfl) ?_
  simp only [Act.put, List.setIfInBounds_toArray, List.set_cons_zero, List.set_cons_succ]
  refine up_take (by exact (atS at0)) (by kernel_rfl) (by exact fun _ _ _ h => h) (by rfl) (by intro W hW; go_simp; try with_reducible rfl) ?_
  simp only [Act.put, List.setIfInBounds_toArray, List.set_cons_zero, List.set_cons_succ]
  refine up_take (by exact (atS (atS at0))) (by kernel_rfl) (by exact fun _ _ _ h => h) (by rfl) (by intro W hW; go_simp; try with_reducible rfl) ?_
  simp only [Act.put, List.setIfInBounds_toArray, List.set_cons_zero, List.set_cons_succ]
  refine up_skip (by exact (atS (atS (atS at0)))) (by kernel_rfl) (by exact fun _ _ _ h => h) (by rfl) ?_
  simp only [Act.put, List.setIfInBounds_toArray, List.set_cons_zero, List.set_cons_succ]
  refine up_skip (by exact (atS (atS (atS (atS at0))))) (by kernel_rfl) (by exact fun _ _ _ h => h) (by rfl) ?_
  simp only [Act.put, List.setIfInBounds_toArray, List.set_cons_zero, List.set_cons_succ]
  refine up_skip (by exact (atS (atS (atS (atS (atS at0)))))) (by kernel_rfl) (by exact fun _ _ _ h => h) (by rfl) ?_
  simp only [Act.put, List.setIfInBounds_toArray, List.set_cons_zero, List.set_cons_succ]
  refine up_skip (by exact (atS (atS (atS (atS (atS (atS at0))))))) (by kernel_rfl) (by exact fun _ _ _ h => h) (by rfl) ?_
  simp only [Act.put, List.setIfInBounds_toArray, List.set_cons_zero, List.set_cons_succ]
  refine up_skip (by exact (atS (atS (atS (atS (atS (atS (atS at0)))))))) (by kernel_rfl) (by exact fun _ _ _ h => h) (by rfl) ?_
  simp only [Act.put, List.setIfInBounds_toArray, List.set_cons_zero, List.set_cons_succ]
  refine up_skip (by exact (atS (atS (atS (atS (atS (atS (atS (atS at0))))))))) (by kernel_rfl) (by exact fun _ _ _ h => h) (by rfl) ?_
  simp only [Act.put, List.setIfInBounds_toArray, List.set_cons_zero, List.set_cons_succ]
  refine up_take (by exact (atS (atS (atS (atS (atS (atS (atS (atS (atS at0)))))))))) (by kernel_rfl) (by exact fun _ _ _ h => h) (by rfl) (by intro W hW; go_simp; try with_reducible rfl) ?_
  simp only [Act.put, List.setIfInBounds_toArray, List.set_cons_zero, List.set_cons_succ]
  refine up_take (by exact (atS (atS (atS (atS (atS (atS (atS (atS (atS (atS at0))))))))))) (by kernel_rfl) (by exact fun _ _ _ h => h) (by rfl) (by intro W hW; go_simp; try with_reducible rfl) ?_
  simp only [Act.put, List.setIfInBounds_toArray, List.set_cons_zero, List.set_cons_succ]
  refine up_take (by exact (atS (atS (atS (atS (atS (atS (atS (atS (atS (atS (atS at0)))))))))))) (by kernel_rfl) (by exact fun _ _ _ h => h) (by rfl) (by intro W hW; go_simp; try with_reducible rfl) ?_
  simp only [Act.put, List.setIfInBounds_toArray, List.set_cons_zero, List.set_cons_succ]
  refine up_take (by exact (atS (atS (atS (atS (atS (atS (atS (atS (atS (atS (atS (atS (atS at0)))))))))))))) (by kernel_rfl) (by exact fun _ _ _ h => h) (by rfl) (by intro W hW; go_simp; try with_reducible rfl) ?_
  simp only [Act.put, List.setIfInBounds_toArray, List.set_cons_zero, List.set_cons_succ]
  refine up_take (by exact (atS (atS (atS (atS (atS (atS (atS (atS (atS (atS (atS (atS (atS (atS at0))))))))))))))) (by kernel_rfl) (by exact fun _ _ _ h => h) (by rfl) (by intro W hW; go_simp; try with_reducible rfl) ?_
  simp only [Act.put, List.setIfInBounds_toArray, List.set_cons_zero, List.set_cons_succ]
  refine up_take (by exact (atS (atS (atS (atS (atS (atS (atS (atS (atS (atS (atS (atS (atS (atS (atS (atS at0))))))))))))))))) (by kernel_rfl) (by exact fun _ _ _ h => h) (by rfl) (by intro W hW; go_simp; try with_reducible rfl) ?_
  simp only [Act.put, List.setIfInBounds_toArray, List.set_cons_zero, List.set_cons_succ]
  refine up_take (by exact (atS (atS (atS (atS (atS (atS (atS (atS (atS (atS (atS (atS (atS (atS (atS (atS (atS at0)))))))))))))))))) (by kernel_rfl) (by exact fun _ _ _ h => h) (by rfl) (by intro W hW; go_simp; try with_reducible rfl) ?_
  simp only [Act.put, List.setIfInBounds_toArray, List.set_cons_zero, List.set_cons_succ]
  refine up_take (by exact (atS (atS (atS (atS (atS (atS (atS (atS (atS (atS (atS (atS (atS (atS (atS (atS (atS (atS at0))))))))))))))))))) (by kernel_rfl) (by exact fun _ _ _ h => h) (by rfl) (by intro W hW; go_simp; try with_reducible rfl) ?_
  simp only [Act.put, List.setIfInBounds_toArray, List.set_cons_zero, List.set_cons_succ]
  refine up_take (by exact (atS (atS (atS (atS (atS (atS (atS (atS (atS (atS (atS (atS (atS (atS (atS (atS (atS (atS (atS at0)))))))))))))))))))) (by kernel_rfl) (by exact fun _ _ _ h => h) (by rfl) (by intro W hW; have q := cell_up C1.out hW (show ¬ Nil _ from id); go_simp; try with_reducible rfl) ?_
  simp only [Act.put, List.setIfInBounds_toArray, List.set_cons_zero, List.set_cons_succ]
  refine up_one (by exact (atS (atS (atS (atS (atS (atS (atS (atS (atS (atS (atS (atS at0))))))))))))) (by kernel_rfl) (fun K hK => ?_)
  go_simp
  refine (rused HDd.out HE.out HU.out).mono ?_
  rintro e w5 ⟨rfl, rfl⟩
  refine hK.out _ _ (Kept.refl _ _) ?_
  clear hK K
  refine up_take (by exact (atS (atS (atS (atS (atS (atS (atS (atS (atS (atS (atS (atS (atS (atS (atS at0)))))))))))))))) (by kernel_rfl) (by exact fun _ _ _ h => h) (by rfl) (by intro W hW; go_simp; try with_reducible rfl) ?_
  simp only [Act.put, List.setIfInBounds_toArray, List.set_cons_zero, List.set_cons_succ]
  refine up_take (by exact (atS (atS (atS (atS (atS (atS (atS (atS (atS (atS (atS (atS (atS (atS (atS (atS (atS (atS (atS (atS at0))))))))))))))))))))) (by kernel_rfl) (by exact fun _ _ _ h => h) (by rfl) (by intro W hW; go_simp; try with_reducible rfl) ?_
  simp only [Act.put, List.setIfInBounds_toArray, List.set_cons_zero, List.set_cons_succ]
  refine up_take (by exact (atS (atS (atS (atS (atS (atS (atS (atS (atS (atS (atS (atS (atS (atS (atS (atS (atS (atS (atS (atS (atS at0)))))))))))))))))))))) (by kernel_rfl) (by exact fun _ _ _ h => h) (by rfl) (by intro W hW; go_simp; try with_reducible rfl) ?_
  simp only [Act.put, List.setIfInBounds_toArray, List.set_cons_zero, List.set_cons_succ]
  refine up_take (by exact (atS (atS (atS (atS (atS (atS (atS (atS (atS (atS (atS (atS (atS (atS (atS (atS (atS (atS (atS (atS (atS (atS at0))))))))))))))))))))))) (by kernel_rfl) (by exact fun _ _ _ h => h) (by rfl) (by intro W hW; go_simp; try with_reducible rfl) ?_
  simp only [Act.put, List.setIfInBounds_toArray, List.set_cons_zero, List.set_cons_succ]
  refine up_done (by kernel_rfl) ?_
  go_wp2_with (first | (go_at_call 63; refine (rdeed HDd.out HW.out).mono ?_; rintro e w2 ⟨rfl, hd2, hk2⟩; have HD2 := Lib.hid hd2; have HK2 := Lib.hid hk2; rw [HDC.out]; clear hd2 hk2))
  have HDZ : Hid (RDiskAt w2 lo g (spendR d)) := HD2
  have HKZ : Hid (KeptOff (fun k => k = g ∨ d.v.ownBlock = some k) w w2) := Lib.hid (rkept (drew_b HB.out) HK2.out)
  have HVZ : Hid ((spendR d).v = d.v ∨ ∀ k, (spendR d).v.ownBlock = some k → w.heap.size ≤ k) := Lib.hid (.inl (spendR_E d).2)
  have HGZ : Hid ((spendR d).E[p]? = some f) := Lib.hid (by rw [(spendR_E d).1]; exact HGT.out)
  obtain ⟨r, cz, hv, y0, yc, y1, y4, yr, yn, yf⟩ := HDZ.out.fileAt HGZ.out
  obtain ⟨A3, c3, hA3⟩ := row_shape yf.1
  have HFS := Lib.hid yf.2
  have HV := Lib.hid hv
  have HLO : Hid (lo ≤ w2.heap.size) := Lib.hid (by have := HDZ.out.ltg; omega)
  have hi0 : (p : Int) < ((spendR d).E.length : Int) := by have h1 : p < (spendR d).E.length := (List.getElem?_eq_some_iff.1 HGZ.out).1; omega
  obtain ⟨N, hN⟩ : ∃ N, N = (spendR d).E.length := ⟨_, rfl⟩
  rw [← hN] at y0 yc hi0
  clear hN
  obtain ⟨FV, hFV⟩ : ∃ FV, FV = f.v := ⟨_, rfl⟩
  rw [← hFV] at y1 hA3
  have hfo := yf.1
  rw [← hFV] at hfo
  have HFO := Lib.hid hfo
  have Y1 := Lib.hid y1
  clear hfo hFV hA3
  have Y4 := Lib.hid y4
  have HRS := Lib.hid yr
  have NG : Hid (¬ (fun k => k = r ∨ w2.heap.size ≤ k) g) := Lib.hid (by have := (HDZ.out.lt g (.inl rfl)).2; rintro (h | h); exact yn h.symm; omega)
  have X0 : Hid (w2.drew.cell? ⟨g, 0, none⟩ = some (.slice (some ⟨r, 0, none⟩) N cz)) := Lib.hid y0
  have HSR : Hid (Rd w2 w2.heap.size (.slice A bl.length c) bl) := Lib.hid (HS.out.kept (D := fun k => k = g ∨ d.v.ownBlock = some k) ⟨HKZ.out.1, HKZ.out.2.1, HKZ.out.2.2.1, HKZ.out.2.2.2.1, HKZ.out.2.2.2.2⟩ (fun b hb hD => hb hD)).rd
  clear hv y4 yr yn yf
  refine up_start (fun k => k = r ∨ w2.heap.size ≤ k) (by kernel_rfl) ?_
  refine up_take (by exact at0) (by kernel_rfl) (by exact fun _ _ _ h => h) (by rfl) (by intro W hW; go_simp; try with_reducible rfl) ?_
  simp only [Act.put, List.setIfInBounds_toArray, List.set_cons_zero, List.set_cons_succ]
  refine up_take (by exact (atS at0)) (by kernel_rfl) (by exact fun _ _ _ h => h) (by rfl) (by intro W hW; go_simp; try with_reducible rfl) ?_
  simp only [Act.put, List.setIfInBounds_toArray, List.set_cons_zero, List.set_cons_succ]
  refine up_take (by exact (atS (atS at0))) (by kernel_rfl) (by exact fun _ _ _ h => h) (by rfl) (by intro W hW; go_simp; try with_reducible rfl) ?_
  simp only [Act.put, List.setIfInBounds_toArray, List.set_cons_zero, List.set_cons_succ]
  refine up_take (by exact (atS (atS (atS at0)))) (by kernel_rfl) (by exact fun _ _ _ h => h) (by rfl) (by intro W hW; have q := cell_up X0.out hW (by exact NG.out); go_simp; try with_reducible rfl) ?_
  simp only [Act.put, List.setIfInBounds_toArray, List.set_cons_zero, List.set_cons_succ]
  refine up_take (by exact (atS (atS (atS (atS at0))))) (by kernel_rfl) (by exact fun _ _ _ h => h) (by rfl) (by intro W hW; go_simp; try with_reducible rfl) ?_
  simp only [Act.put, List.setIfInBounds_toArray, List.set_cons_zero, List.set_cons_succ]
  refine up_take (by exact (atS (atS (atS (atS (atS (atS at0))))))) (by kernel_rfl) (by exact fun _ _ _ h => h) (by rfl) (by intro W hW; go_simp; try with_reducible rfl) ?_
  simp only [Act.put, List.setIfInBounds_toArray, List.set_cons_zero, List.set_cons_succ]
  refine up_take (by exact (atS (atS (atS (atS (atS (atS (atS at0)))))))) (by kernel_rfl) (by exact fun _ _ _ h => h) (by rfl) (by intro W hW; go_simp; try with_reducible rfl) ?_
  simp only [Act.put, List.setIfInBounds_toArray, List.set_cons_zero, List.set_cons_succ]
  refine up_take (by exact (atS (atS (atS (atS (atS (atS (atS (atS at0))))))))) (by kernel_rfl) (by exact fun _ _ _ h => h) (by rfl) (by intro W hW; go_simp; try with_reducible rfl) ?_
  simp only [Act.put, List.setIfInBounds_toArray, List.set_cons_zero, List.set_cons_succ]
  refine up_take (by exact (atS (atS (atS (atS (atS (atS (atS (atS (atS at0)))))))))) (by kernel_rfl) (by exact fun _ _ _ h => h) (by rfl) (by intro W hW; have q := cell_up X0.out hW (by exact NG.out); go_simp; try with_reducible rfl) ?_
  simp only [Act.put, List.setIfInBounds_toArray, List.set_cons_zero, List.set_cons_succ]
  refine up_take (by exact (atS (atS (atS (atS (atS (atS (atS (atS (atS (atS at0))))))))))) (by kernel_rfl) (by exact fun _ _ _ h => h) (by rfl) (by intro W hW; go_simp; try with_reducible rfl) ?_
  simp only [Act.put, List.setIfInBounds_toArray, List.set_cons_zero, List.set_cons_succ]
  refine up_take (by exact (atS (atS (atS (atS (atS (atS (atS (atS (atS (atS (atS at0)))))))))))) (by kernel_rfl) (by exact fun _ _ _ h => h) (by rfl) (by intro W hW; go_simp; try with_reducible rfl) ?_
  simp only [Act.put, List.setIfInBounds_toArray, List.set_cons_zero, List.set_cons_succ]
  refine up_take (by exact (atS (atS (atS (atS (atS (atS (atS (atS (atS (atS (atS (atS at0))))))))))))) (by kernel_rfl) (by exact fun _ _ _ h => h) (by rfl) (by intro W hW; go_simp; try with_reducible rfl) ?_
  simp only [Act.put, List.setIfInBounds_toArray, List.set_cons_zero, List.set_cons_succ]
  refine up_take (by exact (atS (atS (atS (atS (atS (atS (atS (atS (atS (atS (atS (atS (atS (atS (atS at0)))))))))))))))) (by kernel_rfl) (by exact fun _ _ _ h => h) (by rfl) (by intro W hW; go_simp; try with_reducible rfl) ?_
  simp only [Act.put, List.setIfInBounds_toArray, List.set_cons_zero, List.set_cons_succ]
  refine up_two (by exact (atS (atS (atS (atS (atS at0)))))) (by exact (atS (atS (atS (atS (atS (atS (atS (atS (atS (atS (atS (atS (atS at0)))))))))))))) (by kernel_rfl) (fun K hK => ?_) (fun K hK => ?_)
  · go_simp
    refine hK.out _ _ (Kept.below ((Below.refl _ _).alloc (Nat.le_refl _) _)) ?_
    clear hK K
    have hbz : Below w2.heap.size w2 (w2.alloc (.cells #[] 5)) := (Below.refl _ _).alloc (Nat.le_refl _) _
    have yz : (w2.alloc (.cells #[] 5)).cell? ⟨r, p * 3 + 1, none⟩ = some FV := (hbz.cell (p := ⟨r, p * 3 + 1, none⟩) HRS.out).trans Y1.out
    clear y1
    refine up_one (by exact (atS (atS (atS (atS (atS (atS (atS (atS (atS (atS (atS (atS (atS at0)))))))))))))) (by kernel_rfl) (fun K hK => ?_)
    go_simp
    refine hK.out _ _ (Kept.refl _ _) ?_
    clear hK K
    refine up_one (by exact (atS (atS (atS (atS (atS (atS (atS (atS (atS (atS (atS (atS (atS (atS at0))))))))))))))) (by kernel_rfl) (fun K hK => ?_)
    refine step_append_src _ (by rfl) (.tmp 62) (.tmp 70) 36 (by rfl) w2.heap.size 5 (.int .u8 0) 1 Try.underlying36 Try.u8info rfl _ [] (by rfl) (by exact Own.empty _ _ _ rfl) _ (bvs f.bytes) (by rfl) (by exact Rd.src ((HFO.out.below (drew_b hbz)).rd (Nat.le_refl _))) (bvs_one _) (by rw [bvs_length]; have := HBL.out; unfold maxLen; simp only [List.length_nil]; omega) (by rw [bvs_length]; have := HBL.out; simp only [List.length_nil]; omega) (by exact hbz.size) ?_
    intro v14 w14 o14 g14 b14 s14
    have O14 := Lib.hid o14
    have B14 := Lib.hid b14
    clear o14 g14 s14
    refine hK.out _ _ (Kept.belowB b14 (fun k hk => .inr hk)) ?_
    clear hK K
    have HB14 : Hid (Below w2.heap.size w2 w14) := Lib.hid ((drew_b hbz).trans B14.out)
    clear b14 yz hbz
    refine up_one (by exact (atS (atS (atS (atS (atS (atS (atS (atS (atS (atS (atS (atS (atS (atS (atS (atS at0))))))))))))))))) (by kernel_rfl) (fun K hK => ?_)
    refine step_append_src _ (by rfl) (.tmp 71) (.tmp 72) 36 (by rfl) w2.heap.size 5 (.int .u8 0) 1 Try.underlying36 Try.u8info rfl _ _ (by rfl) (by exact O14.out) _ (bvs bl) (by rfl) (by exact Rd.src ((HSR.out.below HB14.out).more HB14.out.size)) (bvs_one _) (by rw [List.nil_append, bvs_length, bvs_length]; have := HBL.out; unfold maxLen; omega) (by rw [List.nil_append, bvs_length, bvs_length]; have := HBL.out; omega) (by exact HB14.out.size) ?_
    intro v16 w16 o16 g16 b16 s16
    rw [List.nil_append, ← bvs_append] at o16
    have O16 := Lib.hid o16
    have B16 := Lib.hid b16
    clear o16 g16 s16
    refine hK.out _ _ (Kept.belowB b16 (fun k hk => .inr hk)) ?_
    clear hK K
    have HB16 : Hid (Below w2.heap.size w2 w16) := Lib.hid (HB14.out.trans B16.out)
    obtain ⟨A16, c16, hv16⟩ := row_shape O16.out
    obtain ⟨L16, hL16⟩ : ∃ L16, L16 = (f.bytes ++ bl).length := ⟨_, rfl⟩
    rw [← hL16] at hv16
    clear hL16
    subst hv16
    have y16 : w16.cell? ⟨r, p * 3 + 1, none⟩ = some FV := (HB16.out.cell (p := ⟨r, p * 3 + 1, none⟩) HRS.out).trans Y1.out
    have z16 : w16.frozen? ⟨r, p * 3 + 1, none⟩ = false := (World.frozen?_of_block (w := w2) (HB16.out.block _ HRS.out)).trans (Y4.out _)
    clear b16
    refine up_take (by exact (atS (atS (atS (atS (atS (atS (atS (atS (atS (atS (atS (atS (atS (atS (atS (atS (atS at0)))))))))))))))))) (by kernel_rfl) (by exact fun _ _ _ h => h) (by rfl) (by intro W hW; go_simp; try with_reducible rfl) ?_
    simp only [Act.put, List.setIfInBounds_toArray, List.set_cons_zero, List.set_cons_succ]
    refine up_take (by exact (atS (atS (atS (atS (atS (atS (atS (atS (atS (atS (atS (atS (atS (atS (atS (atS (atS (atS at0))))))))))))))))))) (by kernel_rfl) (by exact fun _ _ _ h => h) (by rfl) (by intro W hW; go_simp; try with_reducible rfl) ?_
    simp only [Act.put, List.setIfInBounds_toArray, List.set_cons_zero, List.set_cons_succ]
    refine up_one (by exact (atS (atS (atS (atS (atS (atS (atS (atS (atS (atS (atS (atS (atS (atS (atS (atS (atS (atS (atS at0)))))))))))))))))))) (by kernel_rfl) (fun K hK => ?_)
    go_simp
    refine hK.out _ _ (Kept.grown (grown_set _ r _ _) (fun k hk => by injection hk with hk; exact .inl hk.symm)) ?_
    clear hK K
    refine up_done (by kernel_rfl) ?_
    go_wp2_with fail
    go_ret
    have hd9 := (HDZ.out.below HB16.out).setAt (i := p) (r := r) (c := cz) HV.out (p * 3 + 1) (.slice A16 L16 c16) { f with v := .slice A16 L16 c16, bytes := f.bytes ++ bl } (rcells_setv' HGZ.out _ _) ⟨O16.out.more (Nat.zero_le _), by have := HFS.out; show f.safe ≤ (f.bytes ++ bl).length; rw [List.length_append]; omega⟩
    refine rstep_mk (by rw [HSV.out]; rfl) hd9 ?_ (turn_kept (dd := (spendR d)) HKZ.out HB16.out (by rw [HV.out]; rfl) HVZ.out) HVZ.out (fun x hx => ?_)
    · rw [spendA_L, ← spendR_abs, ← HGL.out (.slice A16 L16 c16)]
      rfl
    · refine mem_set_v (P := fun x => (∃ f ∈ d.E, x.v = f.v) ∨ ∀ k, x.v.ownBlock = some k → w.heap.size ≤ k) hx (.inr fun k hk => Nat.le_trans HKZ.out.2.2.2.1 (O16.out.ownLt k hk).1) (fun y hy => ?_)
      exact .inl ⟨y, by rwa [(spendR_E d).1] at hy, rfl⟩
  · go_simp
    refine hK.out _ _ (Kept.refl _ _) ?_
    clear hK K
    refine up_one (by exact (atS (atS (atS (atS (atS at0)))))) (by kernel_rfl) (fun K hK => ?_)
    go_simp
    refine hK.out _ _ (Kept.below ((Below.refl _ _).alloc (Nat.le_refl _) _)) ?_
    clear hK K
    have hbz : Below w2.heap.size w2 (w2.alloc (.cells #[] 5)) := (Below.refl _ _).alloc (Nat.le_refl _) _
    have yz : (w2.alloc (.cells #[] 5)).cell? ⟨r, p * 3 + 1, none⟩ = some FV := (hbz.cell (p := ⟨r, p * 3 + 1, none⟩) HRS.out).trans Y1.out
    clear y1
    refine up_one (by exact (atS (atS (atS (atS (atS (atS (atS (atS (atS (atS (atS (atS (atS (atS at0))))))))))))))) (by kernel_rfl) (fun K hK => ?_)
    refine step_append_src _ (by rfl) (.tmp 62) (.tmp 70) 36 (by rfl) w2.heap.size 5 (.int .u8 0) 1 Try.underlying36 Try.u8info rfl _ [] (by rfl) (by exact Own.empty _ _ _ rfl) _ (bvs f.bytes) (by rfl) (by exact Rd.src ((HFO.out.below (drew_b hbz)).rd (Nat.le_refl _))) (bvs_one _) (by rw [bvs_length]; have := HBL.out; unfold maxLen; simp only [List.length_nil]; omega) (by rw [bvs_length]; have := HBL.out; simp only [List.length_nil]; omega) (by exact hbz.size) ?_
    intro v14 w14 o14 g14 b14 s14
    have O14 := Lib.hid o14
    have B14 := Lib.hid b14
    clear o14 g14 s14
    refine hK.out _ _ (Kept.belowB b14 (fun k hk => .inr hk)) ?_
    clear hK K
    have HB14 : Hid (Below w2.heap.size w2 w14) := Lib.hid ((drew_b hbz).trans B14.out)
    clear b14 yz hbz
    refine up_one (by exact (atS (atS (atS (atS (atS (atS (atS (atS (atS (atS (atS (atS (atS (atS (atS (atS at0))))))))))))))))) (by kernel_rfl) (fun K hK => ?_)
    refine step_append_src _ (by rfl) (.tmp 71) (.tmp 72) 36 (by rfl) w2.heap.size 5 (.int .u8 0) 1 Try.underlying36 Try.u8info rfl _ _ (by rfl) (by exact O14.out) _ (bvs bl) (by rfl) (by exact Rd.src ((HSR.out.below HB14.out).more HB14.out.size)) (bvs_one _) (by rw [List.nil_append, bvs_length, bvs_length]; have := HBL.out; unfold maxLen; omega) (by rw [List.nil_append, bvs_length, bvs_length]; have := HBL.out; omega) (by exact HB14.out.size) ?_
    intro v16 w16 o16 g16 b16 s16
    rw [List.nil_append, ← bvs_append] at o16
    have O16 := Lib.hid o16
    have B16 := Lib.hid b16
    clear o16 g16 s16
    refine hK.out _ _ (Kept.belowB b16 (fun k hk => .inr hk)) ?_
    clear hK K
    have HB16 : Hid (Below w2.heap.size w2 w16) := Lib.hid (HB14.out.trans B16.out)
    obtain ⟨A16, c16, hv16⟩ := row_shape O16.out
    obtain ⟨L16, hL16⟩ : ∃ L16, L16 = (f.bytes ++ bl).length := ⟨_, rfl⟩
    rw [← hL16] at hv16
    clear hL16
    subst hv16
    have y16 : w16.cell? ⟨r, p * 3 + 1, none⟩ = some FV := (HB16.out.cell (p := ⟨r, p * 3 + 1, none⟩) HRS.out).trans Y1.out
    have z16 : w16.frozen? ⟨r, p * 3 + 1, none⟩ = false := (World.frozen?_of_block (w := w2) (HB16.out.block _ HRS.out)).trans (Y4.out _)
    clear b16
    refine up_take (by exact (atS (atS (atS (atS (atS (atS (atS (atS (atS (atS (atS (atS (atS (atS (atS (atS (atS at0)))))))))))))))))) (by kernel_rfl) (by exact fun _ _ _ h => h) (by rfl) (by intro W hW; go_simp; try with_reducible rfl) ?_
    simp only [Act.put, List.setIfInBounds_toArray, List.set_cons_zero, List.set_cons_succ]
    refine up_take (by exact (atS (atS (atS (atS (atS (atS (atS (atS (atS (atS (atS (atS (atS (atS (atS (atS (atS (atS at0))))))))))))))))))) (by kernel_rfl) (by exact fun _ _ _ h => h) (by rfl) (by intro W hW; go_simp; try with_reducible rfl) ?_
    simp only [Act.put, List.setIfInBounds_toArray, List.set_cons_zero, List.set_cons_succ]
    refine up_one (by exact (atS (atS (atS (atS (atS (atS (atS (atS (atS (atS (atS (atS (atS (atS (atS (atS (atS (atS (atS at0)))))))))))))))))))) (by kernel_rfl) (fun K hK => ?_)
    go_simp
    refine hK.out _ _ (Kept.grown (grown_set _ r _ _) (fun k hk => by injection hk with hk; exact .inl hk.symm)) ?_
    clear hK K
    refine up_done (by kernel_rfl) ?_
    go_wp2_with fail
    go_ret
    have hd9 := (HDZ.out.below HB16.out).setAt (i := p) (r := r) (c := cz) HV.out (p * 3 + 1) (.slice A16 L16 c16) { f with v := .slice A16 L16 c16, bytes := f.bytes ++ bl } (rcells_setv' HGZ.out _ _) ⟨O16.out.more (Nat.zero_le _), by have := HFS.out; show f.safe ≤ (f.bytes ++ bl).length; rw [List.length_append]; omega⟩
    refine rstep_mk (by rw [HSV.out]; rfl) hd9 ?_ (turn_kept (dd := (spendR d)) HKZ.out HB16.out (by rw [HV.out]; rfl) HVZ.out) HVZ.out (fun x hx => ?_)
    · rw [spendA_L, ← spendR_abs, ← HGL.out (.slice A16 L16 c16)]
      rfl
    · refine mem_set_v (P := fun x => (∃ f ∈ d.E, x.v = f.v) ∨ ∀ k, x.v.ownBlock = some k → w.heap.size ≤ k) hx (.inr fun k hk => Nat.le_trans HKZ.out.2.2.2.1 (O16.out.ownLt k hk).1) (fun y hy => ?_)
      exact .inl ⟨y, by rwa [(spendR_E d).1] at hy, rfl⟩
set_option maxHeartbeats 6400000 in
set_option maxRecDepth 100000 in
theorem rapp_old_off (h : RDiskAt w lo g d) (hw : WfA (absR d)) (hr : RiseA (absR d).L) (ho : d.off = false) (n : List UInt8) (hn : n.length ≤ maxLen) (hnm : nameB n = true) (A : Option Addr) (c : Nat) (bl : List UInt8) (hm : bl.length ≤ 1099511627776)
    (hS : Rdp w (fun k => ¬ RW g d k) (.slice A bl.length c) bl) (hq : ¬ d.q < (usedA (absR d).L : Int) + (bl.length : Int)) (hi : isA n (absR d).L = true) (h0 : d.lasts = 0) :
    Calls Try.prog 35 #[.pointer (some ⟨g, 0, none⟩), .string (str n), .slice A bl.length c] w (RStep w lo g d (spendA { absR d with L := grownL (absR d).L n bl }) (.int .i64 (spendAV (absR d)))) := by
  have hE := wf_len hw
  have kf := rfind h n hE
  unfold findRV at kf
  have K := Lib.hid kf
  have H := Lib.hid h
  have HW := Lib.hid hw
  have HE := Lib.hid hE
  have kn := fun W => rname n W hn
  rw [hnm] at kn
  have KN := Lib.hid kn
  have HO := Lib.hid ho
  have HS := Lib.hid hS
  have HM := Lib.hid hm
  have HU : Hid (usedA (absR d).L ≤ 1099511627776) := Lib.hid hw.2.2.2.2.2
  have HDC := Lib.hid (deed_dec0 h0)
  have HSV : Hid (spendAV (absR d) = 30) := Lib.hid (by show (if d.lasts = 0 then (30 : Int) else 0) = _; rw [if_pos h0])
  rw [hi] at K
  have hpl := pos_lt d n hi
  obtain ⟨f, hf⟩ : ∃ f, f = d.E[posA n (absR d).L]'hpl := ⟨_, rfl⟩
  have hnm2 := at_name d n hi
  rw [← hf] at hnm2
  have HGT : Hid (d.E[posA n (absR d).L]? = some f) := Lib.hid (by rw [List.getElem?_eq_getElem hpl, hf])
  have hfm : f ∈ d.E := by rw [hf]; exact List.getElem_mem hpl
  have HBL : Hid (f.bytes.length ≤ 1099511627776 ∧ bl.length ≤ 1099511627776) := Lib.hid ⟨wf_mem hw hfm, hm⟩
  have HGL : Hid (∀ v, (((spendR d).E.set (posA n (absR d).L) { f with v := v, bytes := f.bytes ++ bl }).map absRF) = grownL (absR d).L n bl) := Lib.hid fun v => by
    rw [(spendR_E d).1]
    have h1 := set_abs (E := d.E) (L := (absR d).L) (e := { f with v := v, bytes := f.bytes ++ bl }) rfl hr (by show isA f.name _ = true; rw [hnm2]; exact hi) (by show posA f.name _ = _; rw [hnm2])
    rw [h1]
    unfold grownL
    rw [at_R d n hr hi, ← hf]
    rfl
  clear hf hpl hnm2 hfm
  have hwr : IntKind.i64.wrap ((usedA (absR d).L : Int) + (bl.length : Int)) = (usedA (absR d).L : Int) + (bl.length : Int) := IntWalk.i64_in _ (by have := HU.out; omega)
  have hfu : decide (d.q < (usedA (absR d).L : Int) + (bl.length : Int)) = false := decide_eq_false hq
  clear kf kn h hw ho hnm hi hS h0 hr
  generalize posA n (absR d).L = p at *
  go_enter Try.func35, Try.ntmps35
  go_wp2_with (first | (go_at_call 61; refine K.out.mono ?_; rintro e w1 ⟨rfl, hb⟩; have HD1 := Lib.hid (H.out.below hb); have x3 : w1.cell? ⟨g, 3, none⟩ = some (.bool d.off) := HD1.out.2.1.cell 3; rw [HO.out] at x3; have HB := Lib.hid hb; clear hb) | (go_at_call 62; refine (KN.out _).mono ?_; rintro e w1 ⟨rfl, rfl⟩))
  obtain ⟨Ad, cd, hvd, hcd1, hcd2⟩ := HD1.out.vshape
  have C0 : Hid (w1.drew.cell? ⟨g, 0, none⟩ = some (.slice Ad d.E.length cd)) := Lib.hid (by rw [← hvd]; exact HD1.out.2.1.cell 0)
  have C1 : Hid (w1.drew.cell? ⟨g, 1, none⟩ = some (.int .i64 d.q)) := Lib.hid (HD1.out.2.1.cell 1)
  have HDd := Lib.hid (drew_at HD1.out)
  clear hvd hcd1 hcd2
  refine up_start Nil (by kernel_rfl) ?_
  refine up_take (by exact at0) (by kernel_rfl) (by exact fun _ _ _ h => h) (by rfl) (by intro W hW; go_simp; try with_reducible rfl) ?_
  simp only [Act.put, List.setIfInBounds_toArray, List.set_cons_zero, List.set_cons_succ]
  refine up_take (by exact (atS at0)) (by kernel_rfl) (by exact fun _ _ _ h => h) (by rfl) (by intro W hW; go_simp; try with_reducible rfl) ?_
  simp only [Act.put, List.setIfInBounds_toArray, List.set_cons_zero, List.set_cons_succ]
  refine up_take (by exact (atS (atS at0))) (by kernel_rfl) (by exact fun _ _ _ h => h) (by rfl) (by intro W hW; go_simp; try with_reducible rfl) ?_
  simp only [Act.put, List.setIfInBounds_toArray, List.set_cons_zero, List.set_cons_succ]
  refine up_skip (by exact (atS (atS (atS at0)))) (by kernel_rfl) (by exact fun _ _ _ h => h) (by rfl) ?_
  simp only [Act.put, List.setIfInBounds_toArray, List.set_cons_zero, List.set_cons_succ]
  refine up_skip (by exact (atS (atS (atS (atS at0))))) (by kernel_rfl) (by exact fun _ _ _ h => h) (by rfl) ?_
  simp only [Act.put, List.setIfInBounds_toArray, List.set_cons_zero, List.set_cons_succ]
  refine up_skip (by exact (atS (atS (atS (atS (atS at0)))))) (by kernel_rfl) (by exact fun _ _ _ h => h) (by rfl) ?_
  simp only [Act.put, List.setIfInBounds_toArray, List.set_cons_zero, List.set_cons_succ]
  refine up_skip (by exact (atS (atS (atS (atS (atS (atS at0))))))) (by kernel_rfl) (by exact fun _ _ _ h => h) (by rfl) ?_
  simp only [Act.put, List.setIfInBounds_toArray, List.set_cons_zero, List.set_cons_succ]
  refine up_skip (by exact (atS (atS (atS (atS (atS (atS (atS at0)))))))) (by kernel_rfl) (by exact fun _ _ _ h => h) (by rfl) ?_
  simp only [Act.put, List.setIfInBounds_toArray, List.set_cons_zero, List.set_cons_succ]
  refine up_skip (by exact (atS (atS (atS (atS (atS (atS (atS (atS at0))))))))) (by kernel_rfl) (by exact fun _ _ _ h => h) (by rfl) ?_
  simp only [Act.put, List.setIfInBounds_toArray, List.set_cons_zero, List.set_cons_succ]
  refine up_take (by exact (atS (atS (atS (atS (atS (atS (atS (atS (atS at0)))))))))) (by kernel_rfl) (by exact fun _ _ _ h => h) (by rfl) (by intro W hW; go_simp; try with_reducible rfl) ?_
  simp only [Act.put, List.setIfInBounds_toArray, List.set_cons_zero, List.set_cons_succ]
  refine up_take (by exact (atS (atS (atS (atS (atS (atS (atS (atS (atS (atS at0))))))))))) (by kernel_rfl) (by exact fun _ _ _ h => h) (by rfl) (by intro W hW; go_simp; try with_reducible rfl) ?_
  simp only [Act.put, List.setIfInBounds_toArray, List.set_cons_zero, List.set_cons_succ]
  refine up_take (by exact (atS (atS (atS (atS (atS (atS (atS (atS (atS (atS (atS at0)))))))))))) (by kernel_rfl) (by exact fun _ _ _ h => h) (by rfl) (by intro W hW; go_simp; try with_reducible rfl) ?_
  simp only [Act.put, List.setIfInBounds_toArray, List.set_cons_zero, List.set_cons_succ]
  refine up_take (by exact (atS (atS (atS (atS (atS (atS (atS (atS (atS (atS (atS (atS (atS at0)))))))))))))) (by kernel_rfl) (by exact fun _ _ _ h => h) (by rfl) (by intro W hW; go_simp; try with_reducible rfl) ?_
  simp only [Act.put, List.setIfInBounds_toArray, List.set_cons_zero, List.set_cons_succ]
  refine up_take (by exact (atS (atS (atS (atS (atS (atS (atS (atS (atS (atS (atS (atS (atS (atS at0))))))))))))))) (by kernel_rfl) (by exact fun _ _ _ h => h) (by rfl) (by intro W hW; go_simp; try with_reducible rfl) ?_
  simp only [Act.put, List.setIfInBounds_toArray, List.set_cons_zero, List.set_cons_succ]
  refine up_take (by exact (atS (atS (atS (atS (atS (atS (atS (atS (atS (atS (atS (atS (atS (atS (atS (atS at0))))))))))))))))) (by kernel_rfl) (by exact fun _ _ _ h => h) (by rfl) (by intro W hW; go_simp; try with_reducible rfl) ?_
  simp only [Act.put, List.setIfInBounds_toArray, List.set_cons_zero, List.set_cons_succ]
  refine up_take (by exact (atS (atS (atS (atS (atS (atS (atS (atS (atS (atS (atS (atS (atS (atS (atS (atS (atS at0)))))))))))))))))) (by kernel_rfl) (by exact fun _ _ _ h => h) (by rfl) (by intro W hW; go_simp; try with_reducible rfl) ?_
  simp only [Act.put, List.setIfInBounds_toArray, List.set_cons_zero, List.set_cons_succ]
  refine up_take (by exact (atS (atS (atS (atS (atS (atS (atS (atS (atS (atS (atS (atS (atS (atS (atS (atS (atS (atS at0))))))))))))))))))) (by kernel_rfl) (by exact fun _ _ _ h => h) (by rfl) (by intro W hW; go_simp; try with_reducible rfl) ?_
  simp only [Act.put, List.setIfInBounds_toArray, List.set_cons_zero, List.set_cons_succ]
  refine up_take (by exact (atS (atS (atS (atS (atS (atS (atS (atS (atS (atS (atS (atS (atS (atS (atS (atS (atS (atS (atS at0)))))))))))))))))))) (by kernel_rfl) (by exact fun _ _ _ h => h) (by rfl) (by intro W hW; have q := cell_up C1.out hW (show ¬ Nil _ from id); go_simp; try with_reducible rfl) ?_
  simp only [Act.put, List.setIfInBounds_toArray, List.set_cons_zero, List.set_cons_succ]
  refine up_one (by exact (atS (atS (atS (atS (atS (atS (atS (atS (atS (atS (atS (atS at0))))))))))))) (by kernel_rfl) (fun K hK => ?_)
  go_simp
  refine (rused HDd.out HE.out HU.out).mono ?_
  rintro e w5 ⟨rfl, rfl⟩
  refine hK.out _ _ (Kept.refl _ _) ?_
  clear hK K
  refine up_take (by exact (atS (atS (atS (atS (atS (atS (atS (atS (atS (atS (atS (atS (atS (atS (atS at0)))))))))))))))) (by kernel_rfl) (by exact fun _ _ _ h => h) (by rfl) (by intro W hW; go_simp; try with_reducible rfl) ?_
  simp only [Act.put, List.setIfInBounds_toArray, List.set_cons_zero, List.set_cons_succ]
  refine up_take (by exact (atS (atS (atS (atS (atS (atS (atS (atS (atS (atS (atS (atS (atS (atS (atS (atS (atS (atS (atS (atS at0))))))))))))))))))))) (by kernel_rfl) (by exact fun _ _ _ h => h) (by rfl) (by intro W hW; go_simp; try with_reducible rfl) ?_
  simp only [Act.put, List.setIfInBounds_toArray, List.set_cons_zero, List.set_cons_succ]
  refine up_take (by exact (atS (atS (atS (atS (atS (atS (atS (atS (atS (atS (atS (atS (atS (atS (atS (atS (atS (atS (atS (atS (atS at0)))))))))))))))))))))) (by kernel_rfl) (by exact fun _ _ _ h => h) (by rfl) (by intro W hW; go_simp; try with_reducible rfl) ?_
  simp only [Act.put, List.setIfInBounds_toArray, List.set_cons_zero, List.set_cons_succ]
  refine up_take (by exact (atS (atS (atS (atS (atS (atS (atS (atS (atS (atS (atS (atS (atS (atS (atS (atS (atS (atS (atS (atS (atS (atS at0))))))))))))))))))))))) (by kernel_rfl) (by exact fun _ _ _ h => h) (by rfl) (by intro W hW; go_simp; try with_reducible rfl) ?_
  simp only [Act.put, List.setIfInBounds_toArray, List.set_cons_zero, List.set_cons_succ]
  refine up_done (by kernel_rfl) ?_
  go_wp2_with (first | (go_at_call 63; refine (rdeed HDd.out HW.out).mono ?_; rintro e w2 ⟨rfl, hd2, hk2⟩; have HD2 := Lib.hid hd2; have HK2 := Lib.hid hk2; rw [HDC.out]; clear hd2 hk2))
  have HDZ : Hid (RDiskAt w2 lo g (spendR d)) := HD2
  have HKZ : Hid (KeptOff (fun k => k = g ∨ d.v.ownBlock = some k) w w2) := Lib.hid (rkept (drew_b HB.out) HK2.out)
  have HVZ : Hid ((spendR d).v = d.v ∨ ∀ k, (spendR d).v.ownBlock = some k → w.heap.size ≤ k) := Lib.hid (.inl (spendR_E d).2)
  have HGZ : Hid ((spendR d).E[p]? = some f) := Lib.hid (by rw [(spendR_E d).1]; exact HGT.out)
  obtain ⟨r, cz, hv, y0, yc, y1, y4, yr, yn, yf⟩ := HDZ.out.fileAt HGZ.out
  obtain ⟨A3, c3, hA3⟩ := row_shape yf.1
  have HFS := Lib.hid yf.2
  have HV := Lib.hid hv
  have HLO : Hid (lo ≤ w2.heap.size) := Lib.hid (by have := HDZ.out.ltg; omega)
  have hi0 : (p : Int) < ((spendR d).E.length : Int) := by have h1 : p < (spendR d).E.length := (List.getElem?_eq_some_iff.1 HGZ.out).1; omega
  obtain ⟨N, hN⟩ : ∃ N, N = (spendR d).E.length := ⟨_, rfl⟩
  rw [← hN] at y0 yc hi0
  clear hN
  obtain ⟨FV, hFV⟩ : ∃ FV, FV = f.v := ⟨_, rfl⟩
  rw [← hFV] at y1 hA3
  have hfo := yf.1
  rw [← hFV] at hfo
  have HFO := Lib.hid hfo
  have Y1 := Lib.hid y1
  clear hfo hFV hA3
  have Y4 := Lib.hid y4
  have HRS := Lib.hid yr
  have NG : Hid (¬ (fun k => k = r ∨ w2.heap.size ≤ k) g) := Lib.hid (by have := (HDZ.out.lt g (.inl rfl)).2; rintro (h | h); exact yn h.symm; omega)
  have X0 : Hid (w2.drew.cell? ⟨g, 0, none⟩ = some (.slice (some ⟨r, 0, none⟩) N cz)) := Lib.hid y0
  have HSR : Hid (Rd w2 w2.heap.size (.slice A bl.length c) bl) := Lib.hid (HS.out.kept (D := fun k => k = g ∨ d.v.ownBlock = some k) ⟨HKZ.out.1, HKZ.out.2.1, HKZ.out.2.2.1, HKZ.out.2.2.2.1, HKZ.out.2.2.2.2⟩ (fun b hb hD => hb hD)).rd
  clear hv y4 yr yn yf
  refine up_start (fun k => k = r ∨ w2.heap.size ≤ k) (by kernel_rfl) ?_
  refine up_take (by exact at0) (by kernel_rfl) (by exact fun _ _ _ h => h) (by rfl) (by intro W hW; go_simp; try with_reducible rfl) ?_
  simp only [Act.put, List.setIfInBounds_toArray, List.set_cons_zero, List.set_cons_succ]
  refine up_take (by exact (atS at0)) (by kernel_rfl) (by exact fun _ _ _ h => h) (by rfl) (by intro W hW; go_simp; try with_reducible rfl) ?_
  simp only [Act.put, List.setIfInBounds_toArray, List.set_cons_zero, List.set_cons_succ]
  refine up_take (by exact (atS (atS at0))) (by kernel_rfl) (by exact fun _ _ _ h => h) (by rfl) (by intro W hW; go_simp; try with_reducible rfl) ?_
  simp only [Act.put, List.setIfInBounds_toArray, List.set_cons_zero, List.set_cons_succ]
  refine up_take (by exact (atS (atS (atS at0)))) (by kernel_rfl) (by exact fun _ _ _ h => h) (by rfl) (by intro W hW; have q := cell_up X0.out hW (by exact NG.out); go_simp; try with_reducible rfl) ?_
  simp only [Act.put, List.setIfInBounds_toArray, List.set_cons_zero, List.set_cons_succ]
  refine up_take (by exact (atS (atS (atS (atS at0))))) (by kernel_rfl) (by exact fun _ _ _ h => h) (by rfl) (by intro W hW; go_simp; try with_reducible rfl) ?_
  simp only [Act.put, List.setIfInBounds_toArray, List.set_cons_zero, List.set_cons_succ]
  refine up_take (by exact (atS (atS (atS (atS (atS (atS at0))))))) (by kernel_rfl) (by exact fun _ _ _ h => h) (by rfl) (by intro W hW; go_simp; try with_reducible rfl) ?_
  simp only [Act.put, List.setIfInBounds_toArray, List.set_cons_zero, List.set_cons_succ]
  refine up_take (by exact (atS (atS (atS (atS (atS (atS (atS at0)))))))) (by kernel_rfl) (by exact fun _ _ _ h => h) (by rfl) (by intro W hW; go_simp; try with_reducible rfl) ?_
  simp only [Act.put, List.setIfInBounds_toArray, List.set_cons_zero, List.set_cons_succ]
  refine up_take (by exact (atS (atS (atS (atS (atS (atS (atS (atS at0))))))))) (by kernel_rfl) (by exact fun _ _ _ h => h) (by rfl) (by intro W hW; go_simp; try with_reducible rfl) ?_
  simp only [Act.put, List.setIfInBounds_toArray, List.set_cons_zero, List.set_cons_succ]
  refine up_take (by exact (atS (atS (atS (atS (atS (atS (atS (atS (atS at0)))))))))) (by kernel_rfl) (by exact fun _ _ _ h => h) (by rfl) (by intro W hW; have q := cell_up X0.out hW (by exact NG.out); go_simp; try with_reducible rfl) ?_
  simp only [Act.put, List.setIfInBounds_toArray, List.set_cons_zero, List.set_cons_succ]
  refine up_take (by exact (atS (atS (atS (atS (atS (atS (atS (atS (atS (atS at0))))))))))) (by kernel_rfl) (by exact fun _ _ _ h => h) (by rfl) (by intro W hW; go_simp; try with_reducible rfl) ?_
  simp only [Act.put, List.setIfInBounds_toArray, List.set_cons_zero, List.set_cons_succ]
  refine up_take (by exact (atS (atS (atS (atS (atS (atS (atS (atS (atS (atS (atS at0)))))))))))) (by kernel_rfl) (by exact fun _ _ _ h => h) (by rfl) (by intro W hW; go_simp; try with_reducible rfl) ?_
  simp only [Act.put, List.setIfInBounds_toArray, List.set_cons_zero, List.set_cons_succ]
  refine up_take (by exact (atS (atS (atS (atS (atS (atS (atS (atS (atS (atS (atS (atS at0))))))))))))) (by kernel_rfl) (by exact fun _ _ _ h => h) (by rfl) (by intro W hW; go_simp; try with_reducible rfl) ?_
  simp only [Act.put, List.setIfInBounds_toArray, List.set_cons_zero, List.set_cons_succ]
  refine up_take (by exact (atS (atS (atS (atS (atS (atS (atS (atS (atS (atS (atS (atS (atS (atS (atS at0)))))))))))))))) (by kernel_rfl) (by exact fun _ _ _ h => h) (by rfl) (by intro W hW; go_simp; try with_reducible rfl) ?_
  simp only [Act.put, List.setIfInBounds_toArray, List.set_cons_zero, List.set_cons_succ]
  refine up_two (by exact (atS (atS (atS (atS (atS at0)))))) (by exact (atS (atS (atS (atS (atS (atS (atS (atS (atS (atS (atS (atS (atS at0)))))))))))))) (by kernel_rfl) (fun K hK => ?_) (fun K hK => ?_)
  · go_simp
    refine hK.out _ _ (Kept.below ((Below.refl _ _).alloc (Nat.le_refl _) _)) ?_
    clear hK K
    have hbz : Below w2.heap.size w2 (w2.alloc (.cells #[] 5)) := (Below.refl _ _).alloc (Nat.le_refl _) _
    have yz : (w2.alloc (.cells #[] 5)).cell? ⟨r, p * 3 + 1, none⟩ = some FV := (hbz.cell (p := ⟨r, p * 3 + 1, none⟩) HRS.out).trans Y1.out
    clear y1
    refine up_one (by exact (atS (atS (atS (atS (atS (atS (atS (atS (atS (atS (atS (atS (atS at0)))))))))))))) (by kernel_rfl) (fun K hK => ?_)
    go_simp
    refine hK.out _ _ (Kept.refl _ _) ?_
    clear hK K
    refine up_one (by exact (atS (atS (atS (atS (atS (atS (atS (atS (atS (atS (atS (atS (atS (atS at0))))))))))))))) (by kernel_rfl) (fun K hK => ?_)
    refine step_append_src _ (by rfl) (.tmp 62) (.tmp 70) 36 (by rfl) w2.heap.size 5 (.int .u8 0) 1 Try.underlying36 Try.u8info rfl _ [] (by rfl) (by exact Own.empty _ _ _ rfl) _ (bvs f.bytes) (by rfl) (by exact Rd.src ((HFO.out.below (drew_b hbz)).rd (Nat.le_refl _))) (bvs_one _) (by rw [bvs_length]; have := HBL.out; unfold maxLen; simp only [List.length_nil]; omega) (by rw [bvs_length]; have := HBL.out; simp only [List.length_nil]; omega) (by exact hbz.size) ?_
    intro v14 w14 o14 g14 b14 s14
    have O14 := Lib.hid o14
    have B14 := Lib.hid b14
    clear o14 g14 s14
    refine hK.out _ _ (Kept.belowB b14 (fun k hk => .inr hk)) ?_
    clear hK K
    have HB14 : Hid (Below w2.heap.size w2 w14) := Lib.hid ((drew_b hbz).trans B14.out)
    clear b14 yz hbz
    refine up_one (by exact (atS (atS (atS (atS (atS (atS (atS (atS (atS (atS (atS (atS (atS (atS (atS (atS at0))))))))))))))))) (by kernel_rfl) (fun K hK => ?_)
    refine step_append_src _ (by rfl) (.tmp 71) (.tmp 72) 36 (by rfl) w2.heap.size 5 (.int .u8 0) 1 Try.underlying36 Try.u8info rfl _ _ (by rfl) (by exact O14.out) _ (bvs bl) (by rfl) (by exact Rd.src ((HSR.out.below HB14.out).more HB14.out.size)) (bvs_one _) (by rw [List.nil_append, bvs_length, bvs_length]; have := HBL.out; unfold maxLen; omega) (by rw [List.nil_append, bvs_length, bvs_length]; have := HBL.out; omega) (by exact HB14.out.size) ?_
    intro v16 w16 o16 g16 b16 s16
    rw [List.nil_append, ← bvs_append] at o16
    have O16 := Lib.hid o16
    have B16 := Lib.hid b16
    clear o16 g16 s16
    refine hK.out _ _ (Kept.belowB b16 (fun k hk => .inr hk)) ?_
    clear hK K
    have HB16 : Hid (Below w2.heap.size w2 w16) := Lib.hid (HB14.out.trans B16.out)
    obtain ⟨A16, c16, hv16⟩ := row_shape O16.out
    obtain ⟨L16, hL16⟩ : ∃ L16, L16 = (f.bytes ++ bl).length := ⟨_, rfl⟩
    rw [← hL16] at hv16
    clear hL16
    subst hv16
    have y16 : w16.cell? ⟨r, p * 3 + 1, none⟩ = some FV := (HB16.out.cell (p := ⟨r, p * 3 + 1, none⟩) HRS.out).trans Y1.out
    have z16 : w16.frozen? ⟨r, p * 3 + 1, none⟩ = false := (World.frozen?_of_block (w := w2) (HB16.out.block _ HRS.out)).trans (Y4.out _)
    clear b16
    refine up_take (by exact (atS (atS (atS (atS (atS (atS (atS (atS (atS (atS (atS (atS (atS (atS (atS (atS (atS at0)))))))))))))))))) (by kernel_rfl) (by exact fun _ _ _ h => h) (by rfl) (by intro W hW; go_simp; try with_reducible rfl) ?_
    simp only [Act.put, List.setIfInBounds_toArray, List.set_cons_zero, List.set_cons_succ]
    refine up_take (by exact (atS (atS (atS (atS (atS (atS (atS (atS (atS (atS (atS (atS (atS (atS (atS (atS (atS (atS at0))))))))))))))))))) (by kernel_rfl) (by exact fun _ _ _ h => h) (by rfl) (by intro W hW; go_simp; try with_reducible rfl) ?_
    simp only [Act.put, List.setIfInBounds_toArray, List.set_cons_zero, List.set_cons_succ]
    refine up_one (by exact (atS (atS (atS (atS (atS (atS (atS (atS (atS (atS (atS (atS (atS (atS (atS (atS (atS (atS (atS at0)))))))))))))))))))) (by kernel_rfl) (fun K hK => ?_)
    go_simp
    refine hK.out _ _ (Kept.grown (grown_set _ r _ _) (fun k hk => by injection hk with hk; exact .inl hk.symm)) ?_
    clear hK K
    refine up_done (by kernel_rfl) ?_
    go_wp2_with fail
    go_ret
    have hd9 := (HDZ.out.below HB16.out).setAt (i := p) (r := r) (c := cz) HV.out (p * 3 + 1) (.slice A16 L16 c16) { f with v := .slice A16 L16 c16, bytes := f.bytes ++ bl } (rcells_setv' HGZ.out _ _) ⟨O16.out.more (Nat.zero_le _), by have := HFS.out; show f.safe ≤ (f.bytes ++ bl).length; rw [List.length_append]; omega⟩
    refine rstep_mk (by rw [HSV.out]; rfl) hd9 ?_ (turn_kept (dd := (spendR d)) HKZ.out HB16.out (by rw [HV.out]; rfl) HVZ.out) HVZ.out (fun x hx => ?_)
    · rw [spendA_L, ← spendR_abs, ← HGL.out (.slice A16 L16 c16)]
      rfl
    · refine mem_set_v (P := fun x => (∃ f ∈ d.E, x.v = f.v) ∨ ∀ k, x.v.ownBlock = some k → w.heap.size ≤ k) hx (.inr fun k hk => Nat.le_trans HKZ.out.2.2.2.1 (O16.out.ownLt k hk).1) (fun y hy => ?_)
      exact .inl ⟨y, by rwa [(spendR_E d).1] at hy, rfl⟩
  · go_simp
    refine hK.out _ _ (Kept.refl _ _) ?_
    clear hK K
    refine up_one (by exact (atS (atS (atS (atS (atS at0)))))) (by kernel_rfl) (fun K hK => ?_)
    go_simp
    refine hK.out _ _ (Kept.below ((Below.refl _ _).alloc (Nat.le_refl _) _)) ?_
    clear hK K
    have hbz : Below w2.heap.size w2 (w2.alloc (.cells #[] 5)) := (Below.refl _ _).alloc (Nat.le_refl _) _
    have yz : (w2.alloc (.cells #[] 5)).cell? ⟨r, p * 3 + 1, none⟩ = some FV := (hbz.cell (p := ⟨r, p * 3 + 1, none⟩) HRS.out).trans Y1.out
    clear y1
    refine up_one (by exact (atS (atS (atS (atS (atS (atS (atS (atS (atS (atS (atS (atS (atS (atS at0))))))))))))))) (by kernel_rfl) (fun K hK => ?_)
    refine step_append_src _ (by rfl) (.tmp 62) (.tmp 70) 36 (by rfl) w2.heap.size 5 (.int .u8 0) 1 Try.underlying36 Try.u8info rfl _ [] (by rfl) (by exact Own.empty _ _ _ rfl) _ (bvs f.bytes) (by rfl) (by exact Rd.src ((HFO.out.below (drew_b hbz)).rd (Nat.le_refl _))) (bvs_one _) (by rw [bvs_length]; have := HBL.out; unfold maxLen; simp only [List.length_nil]; omega) (by rw [bvs_length]; have := HBL.out; simp only [List.length_nil]; omega) (by exact hbz.size) ?_
    intro v14 w14 o14 g14 b14 s14
    have O14 := Lib.hid o14
    have B14 := Lib.hid b14
    clear o14 g14 s14
    refine hK.out _ _ (Kept.belowB b14 (fun k hk => .inr hk)) ?_
    clear hK K
    have HB14 : Hid (Below w2.heap.size w2 w14) := Lib.hid ((drew_b hbz).trans B14.out)
    clear b14 yz hbz
    refine up_one (by exact (atS (atS (atS (atS (atS (atS (atS (atS (atS (atS (atS (atS (atS (atS (atS (atS at0))))))))))))))))) (by kernel_rfl) (fun K hK => ?_)
    refine step_append_src _ (by rfl) (.tmp 71) (.tmp 72) 36 (by rfl) w2.heap.size 5 (.int .u8 0) 1 Try.underlying36 Try.u8info rfl _ _ (by rfl) (by exact O14.out) _ (bvs bl) (by rfl) (by exact Rd.src ((HSR.out.below HB14.out).more HB14.out.size)) (bvs_one _) (by rw [List.nil_append, bvs_length, bvs_length]; have := HBL.out; unfold maxLen; omega) (by rw [List.nil_append, bvs_length, bvs_length]; have := HBL.out; omega) (by exact HB14.out.size) ?_
    intro v16 w16 o16 g16 b16 s16
    rw [List.nil_append, ← bvs_append] at o16
    have O16 := Lib.hid o16
    have B16 := Lib.hid b16
    clear o16 g16 s16
    refine hK.out _ _ (Kept.belowB b16 (fun k hk => .inr hk)) ?_
    clear hK K
    have HB16 : Hid (Below w2.heap.size w2 w16) := Lib.hid (HB14.out.trans B16.out)
    obtain ⟨A16, c16, hv16⟩ := row_shape O16.out
    obtain ⟨L16, hL16⟩ : ∃ L16, L16 = (f.bytes ++ bl).length := ⟨_, rfl⟩
    rw [← hL16] at hv16
    clear hL16
    subst hv16
    have y16 : w16.cell? ⟨r, p * 3 + 1, none⟩ = some FV := (HB16.out.cell (p := ⟨r, p * 3 + 1, none⟩) HRS.out).trans Y1.out
    have z16 : w16.frozen? ⟨r, p * 3 + 1, none⟩ = false := (World.frozen?_of_block (w := w2) (HB16.out.block _ HRS.out)).trans (Y4.out _)
    clear b16
    refine up_take (by exact (atS (atS (atS (atS (atS (atS (atS (atS (atS (atS (atS (atS (atS (atS (atS (atS (atS at0)))))))))))))))))) (by kernel_rfl) (by exact fun _ _ _ h => h) (by rfl) (by intro W hW; go_simp; try with_reducible rfl) ?_
    simp only [Act.put, List.setIfInBounds_toArray, List.set_cons_zero, List.set_cons_succ]
    refine up_take (by exact (atS (atS (atS (atS (atS (atS (atS (atS (atS (atS (atS (atS (atS (atS (atS (atS (atS (atS at0))))))))))))))))))) (by kernel_rfl) (by exact fun _ _ _ h => h) (by rfl) (by intro W hW; go_simp; try with_reducible rfl) ?_
    simp only [Act.put, List.setIfInBounds_toArray, List.set_cons_zero, List.set_cons_succ]
    refine up_one (by exact (atS (atS (atS (atS (atS (atS (atS (atS (atS (atS (atS (atS (atS (atS (atS (atS (atS (atS (atS at0)))))))))))))))))))) (by kernel_rfl) (fun K hK => ?_)
    go_simp
    refine hK.out _ _ (Kept.grown (grown_set _ r _ _) (fun k hk => by injection hk with hk; exact .inl hk.symm)) ?_
    clear hK K
    refine up_done (by kernel_rfl) ?_
    go_wp2_with fail
    go_ret
    have hd9 := (HDZ.out.below HB16.out).setAt (i := p) (r := r) (c := cz) HV.out (p * 3 + 1) (.slice A16 L16 c16) { f with v := .slice A16 L16 c16, bytes := f.bytes ++ bl } (rcells_setv' HGZ.out _ _) ⟨O16.out.more (Nat.zero_le _), by have := HFS.out; show f.safe ≤ (f.bytes ++ bl).length; rw [List.length_append]; omega⟩
    refine rstep_mk (by rw [HSV.out]; rfl) hd9 ?_ (turn_kept (dd := (spendR d)) HKZ.out HB16.out (by rw [HV.out]; rfl) HVZ.out) HVZ.out (fun x hx => ?_)
    · rw [spendA_L, ← spendR_abs, ← HGL.out (.slice A16 L16 c16)]
      rfl
    · refine mem_set_v (P := fun x => (∃ f ∈ d.E, x.v = f.v) ∨ ∀ k, x.v.ownBlock = some k → w.heap.size ≤ k) hx (.inr fun k hk => Nat.le_trans HKZ.out.2.2.2.1 (O16.out.ownLt k hk).1) (fun y hy => ?_)
      exact .inl ⟨y, by rwa [(spendR_E d).1] at hy, rfl⟩
set_option maxHeartbeats 6400000 in
set_option maxRecDepth 100000 in
theorem rapp_new_ok (h : RDiskAt w lo g d) (hw : WfA (absR d)) (hr : RiseA (absR d).L) (ho : d.off = false) (n : List UInt8) (hn : n.length ≤ maxLen) (hnm : nameB n = true) (A : Option Addr) (c : Nat) (bl : List UInt8) (hm : bl.length ≤ 1099511627776)
    (hS : Rdp w (fun k => ¬ RW g d k) (.slice A bl.length c) bl) (hE64 : ¬ 64 ≤ d.E.length) (hq : ¬ d.q < (usedA (absR d).L : Int) + (bl.length : Int)) (hi : isA n (absR d).L = false) (h0 : ¬ d.lasts = 0) :
    Calls Try.prog 35 #[.pointer (some ⟨g, 0, none⟩), .string (str n), .slice A bl.length c] w (RStep w lo g d (spendA { absR d with L := grownL (absR d).L n bl }) (.int .i64 (spendAV (absR d)))) := by
  have hE := wf_len hw
  have kf := rfind h n hE
  unfold findRV at kf
  have K := Lib.hid kf
  have H := Lib.hid h
  have HW := Lib.hid hw
  have HE := Lib.hid hE
  have kn := fun W => rname n W hn
  rw [hnm] at kn
  have KN := Lib.hid kn
  have HO := Lib.hid ho
  have HS := Lib.hid hS
  have HM := Lib.hid hm
  have HU : Hid (usedA (absR d).L ≤ 1099511627776) := Lib.hid hw.2.2.2.2.2
  have HDC := Lib.hid (deed_dec h0)
  have HSV : Hid (spendAV (absR d) = 0) := Lib.hid (by show (if d.lasts = 0 then (30 : Int) else 0) = _; rw [if_neg h0])
  rw [hi] at K
  have HPLE : Hid (posA n (absR d).L ≤ d.E.length) := Lib.hid (by have := pos_le n (absR d).L; rwa [absR_len] at this)
  have HGN : Hid (∀ v, (((d.E.take (posA n (absR d).L) ++ (RF.mk n (.slice none 0 0) [] 0) :: d.E.drop (posA n (absR d).L)).set (posA n (absR d).L) ⟨n, v, [] ++ bl, 0⟩).map absRF) = grownL (absR d).L n bl) := Lib.hid fun v => by
    rw [put_set HPLE.out]
    have h1 := put_abs (E := d.E) (L := (absR d).L) (e := ⟨n, v, [] ++ bl, 0⟩) rfl hr hi
    rw [h1]
    unfold grownL
    rw [at_no hr hi]
    rfl
  have hge : decide ((64 : Int) ≤ (d.E.length : Int)) = false := decide_eq_false (by omega)
  have hwr : IntKind.i64.wrap ((usedA (absR d).L : Int) + (bl.length : Int)) = (usedA (absR d).L : Int) + (bl.length : Int) := IntWalk.i64_in _ (by have := HU.out; omega)
  have hfu : decide (d.q < (usedA (absR d).L : Int) + (bl.length : Int)) = false := decide_eq_false hq
  clear kf kn h hw ho hnm hi hS h0 hr
  generalize posA n (absR d).L = p at *
  go_enter Try.func35, Try.ntmps35
  go_wp2_with (first | (go_at_call 61; refine K.out.mono ?_; rintro e w1 ⟨rfl, hb⟩; have HD1 := Lib.hid (H.out.below hb); have x3 : w1.cell? ⟨g, 3, none⟩ = some (.bool d.off) := HD1.out.2.1.cell 3; rw [HO.out] at x3; have HB := Lib.hid hb; clear hb) | (go_at_call 62; refine (KN.out _).mono ?_; rintro e w1 ⟨rfl, rfl⟩))
  obtain ⟨Ad, cd, hvd, hcd1, hcd2⟩ := HD1.out.vshape
  have C0 : Hid (w1.drew.cell? ⟨g, 0, none⟩ = some (.slice Ad d.E.length cd)) := Lib.hid (by rw [← hvd]; exact HD1.out.2.1.cell 0)
  have C1 : Hid (w1.drew.cell? ⟨g, 1, none⟩ = some (.int .i64 d.q)) := Lib.hid (HD1.out.2.1.cell 1)
  have HDd := Lib.hid (drew_at HD1.out)
  clear hvd hcd1 hcd2
  refine up_start Nil (by kernel_rfl) ?_
  refine up_take (by exact at0) (by kernel_rfl) (by exact fun _ _ _ h => h) (by rfl) (by intro W hW; go_simp; try with_reducible rfl) ?_
  simp only [Act.put, List.setIfInBounds_toArray, List.set_cons_zero, List.set_cons_succ]
  refine up_take (by exact (atS at0)) (by kernel_rfl) (by exact fun _ _ _ h => h) (by rfl) (by intro W hW; go_simp; try with_reducible rfl) ?_
  simp only [Act.put, List.setIfInBounds_toArray, List.set_cons_zero, List.set_cons_succ]
  refine up_take (by exact (atS (atS at0))) (by kernel_rfl) (by exact fun _ _ _ h => h) (by rfl) (by intro W hW; go_simp; try with_reducible rfl) ?_
  simp only [Act.put, List.setIfInBounds_toArray, List.set_cons_zero, List.set_cons_succ]
  refine up_take (by exact (atS (atS (atS at0)))) (by kernel_rfl) (by exact fun _ _ _ h => h) (by rfl) (by intro W hW; go_simp; try with_reducible rfl) ?_
  simp only [Act.put, List.setIfInBounds_toArray, List.set_cons_zero, List.set_cons_succ]
  refine up_take (by exact (atS (atS (atS (atS at0))))) (by kernel_rfl) (by exact fun _ _ _ h => h) (by rfl) (by intro W hW; go_simp; try with_reducible rfl) ?_
  simp only [Act.put, List.setIfInBounds_toArray, List.set_cons_zero, List.set_cons_succ]
  refine up_take (by exact (atS (atS (atS (atS (atS at0)))))) (by kernel_rfl) (by exact fun _ _ _ h => h) (by rfl) (by intro W hW; go_simp; try with_reducible rfl) ?_
  simp only [Act.put, List.setIfInBounds_toArray, List.set_cons_zero, List.set_cons_succ]
  refine up_take (by exact (atS (atS (atS (atS (atS (atS at0))))))) (by kernel_rfl) (by exact fun _ _ _ h => h) (by rfl) (by intro W hW; have q := cell_up C0.out hW (show ¬ Nil _ from id); go_simp; try with_reducible rfl) ?_
  simp only [Act.put, List.setIfInBounds_toArray, List.set_cons_zero, List.set_cons_succ]
  refine up_take (by exact (atS (atS (atS (atS (atS (atS (atS at0)))))))) (by kernel_rfl) (by exact fun _ _ _ h => h) (by rfl) (by intro W hW; go_simp; try with_reducible rfl) ?_
  simp only [Act.put, List.setIfInBounds_toArray, List.set_cons_zero, List.set_cons_succ]
  refine up_take (by exact (atS (atS (atS (atS (atS (atS (atS (atS at0))))))))) (by kernel_rfl) (by exact fun _ _ _ h => h) (by rfl) (by intro W hW; go_simp; try with_reducible rfl) ?_
  simp only [Act.put, List.setIfInBounds_toArray, List.set_cons_zero, List.set_cons_succ]
  refine up_take (by exact (atS (atS (atS (atS (atS (atS (atS (atS (atS at0)))))))))) (by kernel_rfl) (by exact fun _ _ _ h => h) (by rfl) (by intro W hW; go_simp; try with_reducible rfl) ?_
  simp only [Act.put, List.setIfInBounds_toArray, List.set_cons_zero, List.set_cons_succ]
  refine up_take (by exact (atS (atS (atS (atS (atS (atS (atS (atS (atS (atS at0))))))))))) (by kernel_rfl) (by exact fun _ _ _ h => h) (by rfl) (by intro W hW; go_simp; try with_reducible rfl) ?_
  simp only [Act.put, List.setIfInBounds_toArray, List.set_cons_zero, List.set_cons_succ]
  refine up_take (by exact (atS (atS (atS (atS (atS (atS (atS (atS (atS (atS (atS at0)))))))))))) (by kernel_rfl) (by exact fun _ _ _ h => h) (by rfl) (by intro W hW; go_simp; try with_reducible rfl) ?_
  simp only [Act.put, List.setIfInBounds_toArray, List.set_cons_zero, List.set_cons_succ]
  refine up_take (by exact (atS (atS (atS (atS (atS (atS (atS (atS (atS (atS (atS (atS (atS at0)))))))))))))) (by kernel_rfl) (by exact fun _ _ _ h => h) (by rfl) (by intro W hW; go_simp; try with_reducible rfl) ?_
  simp only [Act.put, List.setIfInBounds_toArray, List.set_cons_zero, List.set_cons_succ]
  refine up_take (by exact (atS (atS (atS (atS (atS (atS (atS (atS (atS (atS (atS (atS (atS (atS at0))))))))))))))) (by kernel_rfl) (by exact fun _ _ _ h => h) (by rfl) (by intro W hW; go_simp; try with_reducible rfl) ?_
  simp only [Act.put, List.setIfInBounds_toArray, List.set_cons_zero, List.set_cons_succ]
  refine up_take (by exact (atS (atS (atS (atS (atS (atS (atS (atS (atS (atS (atS (atS (atS (atS (atS (atS at0))))))))))))))))) (by kernel_rfl) (by exact fun _ _ _ h => h) (by rfl) (by intro W hW; go_simp; try with_reducible rfl) ?_
  simp only [Act.put, List.setIfInBounds_toArray, List.set_cons_zero, List.set_cons_succ]
  refine up_take (by exact (atS (atS (atS (atS (atS (atS (atS (atS (atS (atS (atS (atS (atS (atS (atS (atS (atS at0)))))))))))))))))) (by kernel_rfl) (by exact fun _ _ _ h => h) (by rfl) (by intro W hW; go_simp; try with_reducible rfl) ?_
  simp only [Act.put, List.setIfInBounds_toArray, List.set_cons_zero, List.set_cons_succ]
  refine up_take (by exact (atS (atS (atS (atS (atS (atS (atS (atS (atS (atS (atS (atS (atS (atS (atS (atS (atS (atS at0))))))))))))))))))) (by kernel_rfl) (by exact fun _ _ _ h => h) (by rfl) (by intro W hW; go_simp; try with_reducible rfl) ?_
  simp only [Act.put, List.setIfInBounds_toArray, List.set_cons_zero, List.set_cons_succ]
  refine up_take (by exact (atS (atS (atS (atS (atS (atS (atS (atS (atS (atS (atS (atS (atS (atS (atS (atS (atS (atS (atS at0)))))))))))))))))))) (by kernel_rfl) (by exact fun _ _ _ h => h) (by rfl) (by intro W hW; have q := cell_up C1.out hW (show ¬ Nil _ from id); go_simp; try with_reducible rfl) ?_
  simp only [Act.put, List.setIfInBounds_toArray, List.set_cons_zero, List.set_cons_succ]
  refine up_one (by exact (atS (atS (atS (atS (atS (atS (atS (atS (atS (atS (atS (atS at0))))))))))))) (by kernel_rfl) (fun K hK => ?_)
  go_simp
  refine (rused HDd.out HE.out HU.out).mono ?_
  rintro e w5 ⟨rfl, rfl⟩
  refine hK.out _ _ (Kept.refl _ _) ?_
  clear hK K
  refine up_take (by exact (atS (atS (atS (atS (atS (atS (atS (atS (atS (atS (atS (atS (atS (atS (atS at0)))))))))))))))) (by kernel_rfl) (by exact fun _ _ _ h => h) (by rfl) (by intro W hW; go_simp; try with_reducible rfl) ?_
  simp only [Act.put, List.setIfInBounds_toArray, List.set_cons_zero, List.set_cons_succ]
  refine up_take (by exact (atS (atS (atS (atS (atS (atS (atS (atS (atS (atS (atS (atS (atS (atS (atS (atS (atS (atS (atS (atS at0))))))))))))))))))))) (by kernel_rfl) (by exact fun _ _ _ h => h) (by rfl) (by intro W hW; go_simp; try with_reducible rfl) ?_
  simp only [Act.put, List.setIfInBounds_toArray, List.set_cons_zero, List.set_cons_succ]
  refine up_take (by exact (atS (atS (atS (atS (atS (atS (atS (atS (atS (atS (atS (atS (atS (atS (atS (atS (atS (atS (atS (atS (atS at0)))))))))))))))))))))) (by kernel_rfl) (by exact fun _ _ _ h => h) (by rfl) (by intro W hW; go_simp; try with_reducible rfl) ?_
  simp only [Act.put, List.setIfInBounds_toArray, List.set_cons_zero, List.set_cons_succ]
  refine up_take (by exact (atS (atS (atS (atS (atS (atS (atS (atS (atS (atS (atS (atS (atS (atS (atS (atS (atS (atS (atS (atS (atS (atS at0))))))))))))))))))))))) (by kernel_rfl) (by exact fun _ _ _ h => h) (by rfl) (by intro W hW; go_simp; try with_reducible rfl) ?_
  simp only [Act.put, List.setIfInBounds_toArray, List.set_cons_zero, List.set_cons_succ]
  refine up_done (by kernel_rfl) ?_
  go_wp2_with (first | (go_at_call 63; refine (rdeed HDd.out HW.out).mono ?_; rintro e w2 ⟨rfl, hd2, hk2⟩; have HD2 := Lib.hid hd2; have HK2 := Lib.hid hk2; rw [HDC.out]; clear hd2 hk2) | (go_at_call 64; go_must (refine (rput HD2.out (by rw [(spendR_E d).1]; exact HE.out) p (by rw [(spendR_E d).1]; exact HPLE.out) ⟨n, .slice none 0 0, [], 0⟩ ⟨Own.nil _ _ _, Nat.le_refl _⟩).mono ?_); rintro e w3 ⟨rfl, v3, hd3, hk3, hn3⟩; rw [(spendR_E d).1] at hd3; have HD3 := Lib.hid hd3; have HK3 := Lib.hid hk3; have HN3 := Lib.hid hn3; clear hd3 hk3 hn3))
  have HDZ : Hid (RDiskAt w3 lo g ({ spendR d with v := v3, E := d.E.take p ++ (RF.mk n (.slice none 0 0) [] 0) :: d.E.drop p } : RDisk)) := HD3
  have HKZ : Hid (KeptOff (fun k => k = g ∨ d.v.ownBlock = some k) w w3) := Lib.hid (rkept2 (rkept (drew_b HB.out) HK2.out) HK3.out)
  have HVZ : Hid (v3 = d.v ∨ ∀ k, v3.ownBlock = some k → w.heap.size ≤ k) := Lib.hid (.inr fun k hk => Nat.le_trans (rkept (drew_b HB.out) HK2.out (d := d)).2.2.2.1 (HN3.out k hk))
  obtain ⟨f, hf⟩ : ∃ f : RF, f = ⟨n, .slice none 0 0, [], 0⟩ := ⟨_, rfl⟩
  have HGZ : Hid ((d.E.take p ++ (RF.mk n (.slice none 0 0) [] 0) :: d.E.drop p)[p]? = some f) := Lib.hid (by rw [hf]; exact put_at HPLE.out _)
  have HBL : Hid (f.bytes.length ≤ 1099511627776 ∧ bl.length ≤ 1099511627776) := Lib.hid ⟨by rw [hf]; exact Nat.zero_le _, HM.out⟩
  have HGL : Hid (∀ v, (((d.E.take p ++ (RF.mk n (.slice none 0 0) [] 0) :: d.E.drop p).set p { f with v := v, bytes := f.bytes ++ bl }).map absRF) = grownL (absR d).L n bl) := Lib.hid fun v => by rw [hf]; exact HGN.out v
  clear hf
  obtain ⟨r, cz, hv, y0, yc, y1, y4, yr, yn, yf⟩ := HDZ.out.fileAt HGZ.out
  obtain ⟨A3, c3, hA3⟩ := row_shape yf.1
  have HFS := Lib.hid yf.2
  have HV := Lib.hid hv
  have HLO : Hid (lo ≤ w3.heap.size) := Lib.hid (by have := HDZ.out.ltg; omega)
  have hi0 : (p : Int) < (({ spendR d with v := v3, E := d.E.take p ++ (RF.mk n (.slice none 0 0) [] 0) :: d.E.drop p } : RDisk).E.length : Int) := by have h1 : p < ({ spendR d with v := v3, E := d.E.take p ++ (RF.mk n (.slice none 0 0) [] 0) :: d.E.drop p } : RDisk).E.length := (List.getElem?_eq_some_iff.1 HGZ.out).1; omega
  obtain ⟨N, hN⟩ : ∃ N, N = ({ spendR d with v := v3, E := d.E.take p ++ (RF.mk n (.slice none 0 0) [] 0) :: d.E.drop p } : RDisk).E.length := ⟨_, rfl⟩
  rw [← hN] at y0 yc hi0
  clear hN
  obtain ⟨FV, hFV⟩ : ∃ FV, FV = f.v := ⟨_, rfl⟩
  rw [← hFV] at y1 hA3
  have hfo := yf.1
  rw [← hFV] at hfo
  have HFO := Lib.hid hfo
  have Y1 := Lib.hid y1
  clear hfo hFV hA3
  have Y4 := Lib.hid y4
  have HRS := Lib.hid yr
  have NG : Hid (¬ (fun k => k = r ∨ w3.heap.size ≤ k) g) := Lib.hid (by have := (HDZ.out.lt g (.inl rfl)).2; rintro (h | h); exact yn h.symm; omega)
  have X0 : Hid (w3.drew.cell? ⟨g, 0, none⟩ = some (.slice (some ⟨r, 0, none⟩) N cz)) := Lib.hid y0
  have HSR : Hid (Rd w3 w3.heap.size (.slice A bl.length c) bl) := Lib.hid (HS.out.kept (D := fun k => k = g ∨ d.v.ownBlock = some k) ⟨HKZ.out.1, HKZ.out.2.1, HKZ.out.2.2.1, HKZ.out.2.2.2.1, HKZ.out.2.2.2.2⟩ (fun b hb hD => hb hD)).rd
  clear hv y4 yr yn yf
  refine up_start (fun k => k = r ∨ w3.heap.size ≤ k) (by kernel_rfl) ?_
  refine up_take (by exact at0) (by kernel_rfl) (by exact fun _ _ _ h => h) (by rfl) (by intro W hW; go_simp; try with_reducible rfl) ?_
  simp only [Act.put, List.setIfInBounds_toArray, List.set_cons_zero, List.set_cons_succ]
  refine up_take (by exact (atS at0)) (by kernel_rfl) (by exact fun _ _ _ h => h) (by rfl) (by intro W hW; go_simp; try with_reducible rfl) ?_
  simp only [Act.put, List.setIfInBounds_toArray, List.set_cons_zero, List.set_cons_succ]
  refine up_take (by exact (atS (atS at0))) (by kernel_rfl) (by exact fun _ _ _ h => h) (by rfl) (by intro W hW; go_simp; try with_reducible rfl) ?_
  simp only [Act.put, List.setIfInBounds_toArray, List.set_cons_zero, List.set_cons_succ]
  refine up_take (by exact (atS (atS (atS at0)))) (by kernel_rfl) (by exact fun _ _ _ h => h) (by rfl) (by intro W hW; have q := cell_up X0.out hW (by exact NG.out); go_simp; try with_reducible rfl) ?_
  simp only [Act.put, List.setIfInBounds_toArray, List.set_cons_zero, List.set_cons_succ]
  refine up_take (by exact (atS (atS (atS (atS at0))))) (by kernel_rfl) (by exact fun _ _ _ h => h) (by rfl) (by intro W hW; go_simp; try with_reducible rfl) ?_
  simp only [Act.put, List.setIfInBounds_toArray, List.set_cons_zero, List.set_cons_succ]
  refine up_take (by exact (atS (atS (atS (atS (atS (atS at0))))))) (by kernel_rfl) (by exact fun _ _ _ h => h) (by rfl) (by intro W hW; go_simp; try with_reducible rfl) ?_
  simp only [Act.put, List.setIfInBounds_toArray, List.set_cons_zero, List.set_cons_succ]
  refine up_take (by exact (atS (atS (atS (atS (atS (atS (atS at0)))))))) (by kernel_rfl) (by exact fun _ _ _ h => h) (by rfl) (by intro W hW; go_simp; try with_reducible rfl) ?_
  simp only [Act.put, List.setIfInBounds_toArray, List.set_cons_zero, List.set_cons_succ]
  refine up_take (by exact (atS (atS (atS (atS (atS (atS (atS (atS at0))))))))) (by kernel_rfl) (by exact fun _ _ _ h => h) (by rfl) (by intro W hW; go_simp; try with_reducible rfl) ?_
  simp only [Act.put, List.setIfInBounds_toArray, List.set_cons_zero, List.set_cons_succ]
  refine up_take (by exact (atS (atS (atS (atS (atS (atS (atS (atS (atS at0)))))))))) (by kernel_rfl) (by exact fun _ _ _ h => h) (by rfl) (by intro W hW; have q := cell_up X0.out hW (by exact NG.out); go_simp; try with_reducible rfl) ?_
  simp only [Act.put, List.setIfInBounds_toArray, List.set_cons_zero, List.set_cons_succ]
  refine up_take (by exact (atS (atS (atS (atS (atS (atS (atS (atS (atS (atS at0))))))))))) (by kernel_rfl) (by exact fun _ _ _ h => h) (by rfl) (by intro W hW; go_simp; try with_reducible rfl) ?_
  simp only [Act.put, List.setIfInBounds_toArray, List.set_cons_zero, List.set_cons_succ]
  refine up_take (by exact (atS (atS (atS (atS (atS (atS (atS (atS (atS (atS (atS at0)))))))))))) (by kernel_rfl) (by exact fun _ _ _ h => h) (by rfl) (by intro W hW; go_simp; try with_reducible rfl) ?_
  simp only [Act.put, List.setIfInBounds_toArray, List.set_cons_zero, List.set_cons_succ]
  refine up_take (by exact (atS (atS (atS (atS (atS (atS (atS (atS (atS (atS (atS (atS at0))))))))))))) (by kernel_rfl) (by exact fun _ _ _ h => h) (by rfl) (by intro W hW; go_simp; try with_reducible rfl) ?_
  simp only [Act.put, List.setIfInBounds_toArray, List.set_cons_zero, List.set_cons_succ]
  refine up_take (by exact (atS (atS (atS (atS (atS (atS (atS (atS (atS (atS (atS (atS (atS (atS (atS at0)))))))))))))))) (by kernel_rfl) (by exact fun _ _ _ h => h) (by rfl) (by intro W hW; go_simp; try with_reducible rfl) ?_
  simp only [Act.put, List.setIfInBounds_toArray, List.set_cons_zero, List.set_cons_succ]
  refine up_two (by exact (atS (atS (atS (atS (atS at0)))))) (by exact (atS (atS (atS (atS (atS (atS (atS (atS (atS (atS (atS (atS (atS at0)))))))))))))) (by kernel_rfl) (fun K hK => ?_) (fun K hK => ?_)
  · go_simp
    refine hK.out _ _ (Kept.below ((Below.refl _ _).alloc (Nat.le_refl _) _)) ?_
    clear hK K
    have hbz : Below w3.heap.size w3 (w3.alloc (.cells #[] 5)) := (Below.refl _ _).alloc (Nat.le_refl _) _
    have yz : (w3.alloc (.cells #[] 5)).cell? ⟨r, p * 3 + 1, none⟩ = some FV := (hbz.cell (p := ⟨r, p * 3 + 1, none⟩) HRS.out).trans Y1.out
    clear y1
    refine up_one (by exact (atS (atS (atS (atS (atS (atS (atS (atS (atS (atS (atS (atS (atS at0)))))))))))))) (by kernel_rfl) (fun K hK => ?_)
    go_simp
    refine hK.out _ _ (Kept.refl _ _) ?_
    clear hK K
    refine up_one (by exact (atS (atS (atS (atS (atS (atS (atS (atS (atS (atS (atS (atS (atS (atS at0))))))))))))))) (by kernel_rfl) (fun K hK => ?_)
    refine step_append_src _ (by rfl) (.tmp 62) (.tmp 70) 36 (by rfl) w3.heap.size 5 (.int .u8 0) 1 Try.underlying36 Try.u8info rfl _ [] (by rfl) (by exact Own.empty _ _ _ rfl) _ (bvs f.bytes) (by rfl) (by exact Rd.src ((HFO.out.below (drew_b hbz)).rd (Nat.le_refl _))) (bvs_one _) (by rw [bvs_length]; have := HBL.out; unfold maxLen; simp only [List.length_nil]; omega) (by rw [bvs_length]; have := HBL.out; simp only [List.length_nil]; omega) (by exact hbz.size) ?_
    intro v14 w14 o14 g14 b14 s14
    have O14 := Lib.hid o14
    have B14 := Lib.hid b14
    clear o14 g14 s14
    refine hK.out _ _ (Kept.belowB b14 (fun k hk => .inr hk)) ?_
    clear hK K
    have HB14 : Hid (Below w3.heap.size w3 w14) := Lib.hid ((drew_b hbz).trans B14.out)
    clear b14 yz hbz
    refine up_one (by exact (atS (atS (atS (atS (atS (atS (atS (atS (atS (atS (atS (atS (atS (atS (atS (atS at0))))))))))))))))) (by kernel_rfl) (fun K hK => ?_)
    refine step_append_src _ (by rfl) (.tmp 71) (.tmp 72) 36 (by rfl) w3.heap.size 5 (.int .u8 0) 1 Try.underlying36 Try.u8info rfl _ _ (by rfl) (by exact O14.out) _ (bvs bl) (by rfl) (by exact Rd.src ((HSR.out.below HB14.out).more HB14.out.size)) (bvs_one _) (by rw [List.nil_append, bvs_length, bvs_length]; have := HBL.out; unfold maxLen; omega) (by rw [List.nil_append, bvs_length, bvs_length]; have := HBL.out; omega) (by exact HB14.out.size) ?_
    intro v16 w16 o16 g16 b16 s16
    rw [List.nil_append, ← bvs_append] at o16
    have O16 := Lib.hid o16
    have B16 := Lib.hid b16
    clear o16 g16 s16
    refine hK.out _ _ (Kept.belowB b16 (fun k hk => .inr hk)) ?_
    clear hK K
    have HB16 : Hid (Below w3.heap.size w3 w16) := Lib.hid (HB14.out.trans B16.out)
    obtain ⟨A16, c16, hv16⟩ := row_shape O16.out
    obtain ⟨L16, hL16⟩ : ∃ L16, L16 = (f.bytes ++ bl).length := ⟨_, rfl⟩
    rw [← hL16] at hv16
    clear hL16
    subst hv16
    have y16 : w16.cell? ⟨r, p * 3 + 1, none⟩ = some FV := (HB16.out.cell (p := ⟨r, p * 3 + 1, none⟩) HRS.out).trans Y1.out
    have z16 : w16.frozen? ⟨r, p * 3 + 1, none⟩ = false := (World.frozen?_of_block (w := w3) (HB16.out.block _ HRS.out)).trans (Y4.out _)
    clear b16
    refine up_take (by exact (atS (atS (atS (atS (atS (atS (atS (atS (atS (atS (atS (atS (atS (atS (atS (atS (atS at0)))))))))))))))))) (by kernel_rfl) (by exact fun _ _ _ h => h) (by rfl) (by intro W hW; go_simp; try with_reducible rfl) ?_
    simp only [Act.put, List.setIfInBounds_toArray, List.set_cons_zero, List.set_cons_succ]
    refine up_take (by exact (atS (atS (atS (atS (atS (atS (atS (atS (atS (atS (atS (atS (atS (atS (atS (atS (atS (atS at0))))))))))))))))))) (by kernel_rfl) (by exact fun _ _ _ h => h) (by rfl) (by intro W hW; go_simp; try with_reducible rfl) ?_
    simp only [Act.put, List.setIfInBounds_toArray, List.set_cons_zero, List.set_cons_succ]
    refine up_one (by exact (atS (atS (atS (atS (atS (atS (atS (atS (atS (atS (atS (atS (atS (atS (atS (atS (atS (atS (atS at0)))))))))))))))))))) (by kernel_rfl) (fun K hK => ?_)
    go_simp
    refine hK.out _ _ (Kept.grown (grown_set _ r _ _) (fun k hk => by injection hk with hk; exact .inl hk.symm)) ?_
    clear hK K
    refine up_done (by kernel_rfl) ?_
    go_wp2_with fail
    go_ret
    have hd9 := (HDZ.out.below HB16.out).setAt (i := p) (r := r) (c := cz) HV.out (p * 3 + 1) (.slice A16 L16 c16) { f with v := .slice A16 L16 c16, bytes := f.bytes ++ bl } (rcells_setv' HGZ.out _ _) ⟨O16.out.more (Nat.zero_le _), by have := HFS.out; show f.safe ≤ (f.bytes ++ bl).length; rw [List.length_append]; omega⟩
    refine rstep_mk (by rw [HSV.out]; rfl) hd9 ?_ (turn_kept (dd := ({ spendR d with v := v3, E := d.E.take p ++ (RF.mk n (.slice none 0 0) [] 0) :: d.E.drop p } : RDisk)) HKZ.out HB16.out (by rw [HV.out]; rfl) HVZ.out) HVZ.out (fun x hx => ?_)
    · rw [spendA_L, ← spendR_abs, ← HGL.out (.slice A16 L16 c16)]
      rfl
    · refine mem_set_v (P := fun x => (∃ f ∈ d.E, x.v = f.v) ∨ ∀ k, x.v.ownBlock = some k → w.heap.size ≤ k) hx (.inr fun k hk => Nat.le_trans HKZ.out.2.2.2.1 (O16.out.ownLt k hk).1) (fun y hy => ?_)
      rcases mem_put hy with rfl | hy
      · exact .inr fun k hk => (by cases hk)
      · exact .inl ⟨y, hy, rfl⟩
  · go_simp
    refine hK.out _ _ (Kept.refl _ _) ?_
    clear hK K
    refine up_one (by exact (atS (atS (atS (atS (atS at0)))))) (by kernel_rfl) (fun K hK => ?_)
    go_simp
    refine hK.out _ _ (Kept.below ((Below.refl _ _).alloc (Nat.le_refl _) _)) ?_
    clear hK K
    have hbz : Below w3.heap.size w3 (w3.alloc (.cells #[] 5)) := (Below.refl _ _).alloc (Nat.le_refl _) _
    have yz : (w3.alloc (.cells #[] 5)).cell? ⟨r, p * 3 + 1, none⟩ = some FV := (hbz.cell (p := ⟨r, p * 3 + 1, none⟩) HRS.out).trans Y1.out
    clear y1
    refine up_one (by exact (atS (atS (atS (atS (atS (atS (atS (atS (atS (atS (atS (atS (atS (atS at0))))))))))))))) (by kernel_rfl) (fun K hK => ?_)
    refine step_append_src _ (by rfl) (.tmp 62) (.tmp 70) 36 (by rfl) w3.heap.size 5 (.int .u8 0) 1 Try.underlying36 Try.u8info rfl _ [] (by rfl) (by exact Own.empty _ _ _ rfl) _ (bvs f.bytes) (by rfl) (by exact Rd.src ((HFO.out.below (drew_b hbz)).rd (Nat.le_refl _))) (bvs_one _) (by rw [bvs_length]; have := HBL.out; unfold maxLen; simp only [List.length_nil]; omega) (by rw [bvs_length]; have := HBL.out; simp only [List.length_nil]; omega) (by exact hbz.size) ?_
    intro v14 w14 o14 g14 b14 s14
    have O14 := Lib.hid o14
    have B14 := Lib.hid b14
    clear o14 g14 s14
    refine hK.out _ _ (Kept.belowB b14 (fun k hk => .inr hk)) ?_
    clear hK K
    have HB14 : Hid (Below w3.heap.size w3 w14) := Lib.hid ((drew_b hbz).trans B14.out)
    clear b14 yz hbz
    refine up_one (by exact (atS (atS (atS (atS (atS (atS (atS (atS (atS (atS (atS (atS (atS (atS (atS (atS at0))))))))))))))))) (by kernel_rfl) (fun K hK => ?_)
    refine step_append_src _ (by rfl) (.tmp 71) (.tmp 72) 36 (by rfl) w3.heap.size 5 (.int .u8 0) 1 Try.underlying36 Try.u8info rfl _ _ (by rfl) (by exact O14.out) _ (bvs bl) (by rfl) (by exact Rd.src ((HSR.out.below HB14.out).more HB14.out.size)) (bvs_one _) (by rw [List.nil_append, bvs_length, bvs_length]; have := HBL.out; unfold maxLen; omega) (by rw [List.nil_append, bvs_length, bvs_length]; have := HBL.out; omega) (by exact HB14.out.size) ?_
    intro v16 w16 o16 g16 b16 s16
    rw [List.nil_append, ← bvs_append] at o16
    have O16 := Lib.hid o16
    have B16 := Lib.hid b16
    clear o16 g16 s16
    refine hK.out _ _ (Kept.belowB b16 (fun k hk => .inr hk)) ?_
    clear hK K
    have HB16 : Hid (Below w3.heap.size w3 w16) := Lib.hid (HB14.out.trans B16.out)
    obtain ⟨A16, c16, hv16⟩ := row_shape O16.out
    obtain ⟨L16, hL16⟩ : ∃ L16, L16 = (f.bytes ++ bl).length := ⟨_, rfl⟩
    rw [← hL16] at hv16
    clear hL16
    subst hv16
    have y16 : w16.cell? ⟨r, p * 3 + 1, none⟩ = some FV := (HB16.out.cell (p := ⟨r, p * 3 + 1, none⟩) HRS.out).trans Y1.out
    have z16 : w16.frozen? ⟨r, p * 3 + 1, none⟩ = false := (World.frozen?_of_block (w := w3) (HB16.out.block _ HRS.out)).trans (Y4.out _)
    clear b16
    refine up_take (by exact (atS (atS (atS (atS (atS (atS (atS (atS (atS (atS (atS (atS (atS (atS (atS (atS (atS at0)))))))))))))))))) (by kernel_rfl) (by exact fun _ _ _ h => h) (by rfl) (by intro W hW; go_simp; try with_reducible rfl) ?_
    simp only [Act.put, List.setIfInBounds_toArray, List.set_cons_zero, List.set_cons_succ]
    refine up_take (by exact (atS (atS (atS (atS (atS (atS (atS (atS (atS (atS (atS (atS (atS (atS (atS (atS (atS (atS at0))))))))))))))))))) (by kernel_rfl) (by exact fun _ _ _ h => h) (by rfl) (by intro W hW; go_simp; try with_reducible rfl) ?_
    simp only [Act.put, List.setIfInBounds_toArray, List.set_cons_zero, List.set_cons_succ]
    refine up_one (by exact (atS (atS (atS (atS (atS (atS (atS (atS (atS (atS (atS (atS (atS (atS (atS (atS (atS (atS (atS at0)))))))))))))))))))) (by kernel_rfl) (fun K hK => ?_)
    go_simp
    refine hK.out _ _ (Kept.grown (grown_set _ r _ _) (fun k hk => by injection hk with hk; exact .inl hk.symm)) ?_
    clear hK K
    refine up_done (by kernel_rfl) ?_
    go_wp2_with fail
    go_ret
    have hd9 := (HDZ.out.below HB16.out).setAt (i := p) (r := r) (c := cz) HV.out (p * 3 + 1) (.slice A16 L16 c16) { f with v := .slice A16 L16 c16, bytes := f.bytes ++ bl } (rcells_setv' HGZ.out _ _) ⟨O16.out.more (Nat.zero_le _), by have := HFS.out; show f.safe ≤ (f.bytes ++ bl).length; rw [List.length_append]; omega⟩
    refine rstep_mk (by rw [HSV.out]; rfl) hd9 ?_ (turn_kept (dd := ({ spendR d with v := v3, E := d.E.take p ++ (RF.mk n (.slice none 0 0) [] 0) :: d.E.drop p } : RDisk)) HKZ.out HB16.out (by rw [HV.out]; rfl) HVZ.out) HVZ.out (fun x hx => ?_)
    · rw [spendA_L, ← spendR_abs, ← HGL.out (.slice A16 L16 c16)]
      rfl
    · refine mem_set_v (P := fun x => (∃ f ∈ d.E, x.v = f.v) ∨ ∀ k, x.v.ownBlock = some k → w.heap.size ≤ k) hx (.inr fun k hk => Nat.le_trans HKZ.out.2.2.2.1 (O16.out.ownLt k hk).1) (fun y hy => ?_)
      rcases mem_put hy with rfl | hy
      · exact .inr fun k hk => (by cases hk)
      · exact .inl ⟨y, hy, rfl⟩
set_option maxHeartbeats 6400000 in
set_option maxRecDepth 100000 in
theorem rapp_new_off (h : RDiskAt w lo g d) (hw : WfA (absR d)) (hr : RiseA (absR d).L) (ho : d.off = false) (n : List UInt8) (hn : n.length ≤ maxLen) (hnm : nameB n = true) (A : Option Addr) (c : Nat) (bl : List UInt8) (hm : bl.length ≤ 1099511627776)
    (hS : Rdp w (fun k => ¬ RW g d k) (.slice A bl.length c) bl) (hE64 : ¬ 64 ≤ d.E.length) (hq : ¬ d.q < (usedA (absR d).L : Int) + (bl.length : Int)) (hi : isA n (absR d).L = false) (h0 : d.lasts = 0) :
    Calls Try.prog 35 #[.pointer (some ⟨g, 0, none⟩), .string (str n), .slice A bl.length c] w (RStep w lo g d (spendA { absR d with L := grownL (absR d).L n bl }) (.int .i64 (spendAV (absR d)))) := by
  have hE := wf_len hw
  have kf := rfind h n hE
  unfold findRV at kf
  have K := Lib.hid kf
  have H := Lib.hid h
  have HW := Lib.hid hw
  have HE := Lib.hid hE
  have kn := fun W => rname n W hn
  rw [hnm] at kn
  have KN := Lib.hid kn
  have HO := Lib.hid ho
  have HS := Lib.hid hS
  have HM := Lib.hid hm
  have HU : Hid (usedA (absR d).L ≤ 1099511627776) := Lib.hid hw.2.2.2.2.2
  have HDC := Lib.hid (deed_dec0 h0)
  have HSV : Hid (spendAV (absR d) = 30) := Lib.hid (by show (if d.lasts = 0 then (30 : Int) else 0) = _; rw [if_pos h0])
  rw [hi] at K
  have HPLE : Hid (posA n (absR d).L ≤ d.E.length) := Lib.hid (by have := pos_le n (absR d).L; rwa [absR_len] at this)
  have HGN : Hid (∀ v, (((d.E.take (posA n (absR d).L) ++ (RF.mk n (.slice none 0 0) [] 0) :: d.E.drop (posA n (absR d).L)).set (posA n (absR d).L) ⟨n, v, [] ++ bl, 0⟩).map absRF) = grownL (absR d).L n bl) := Lib.hid fun v => by
    rw [put_set HPLE.out]
    have h1 := put_abs (E := d.E) (L := (absR d).L) (e := ⟨n, v, [] ++ bl, 0⟩) rfl hr hi
    rw [h1]
    unfold grownL
    rw [at_no hr hi]
    rfl
  have hge : decide ((64 : Int) ≤ (d.E.length : Int)) = false := decide_eq_false (by omega)
  have hwr : IntKind.i64.wrap ((usedA (absR d).L : Int) + (bl.length : Int)) = (usedA (absR d).L : Int) + (bl.length : Int) := IntWalk.i64_in _ (by have := HU.out; omega)
  have hfu : decide (d.q < (usedA (absR d).L : Int) + (bl.length : Int)) = false := decide_eq_false hq
  clear kf kn h hw ho hnm hi hS h0 hr
  generalize posA n (absR d).L = p at *
  go_enter Try.func35, Try.ntmps35
  go_wp2_with (first | (go_at_call 61; refine K.out.mono ?_; rintro e w1 ⟨rfl, hb⟩; have HD1 := Lib.hid (H.out.below hb); have x3 : w1.cell? ⟨g, 3, none⟩ = some (.bool d.off) := HD1.out.2.1.cell 3; rw [HO.out] at x3; have HB := Lib.hid hb; clear hb) | (go_at_call 62; refine (KN.out _).mono ?_; rintro e w1 ⟨rfl, rfl⟩))
  obtain ⟨Ad, cd, hvd, hcd1, hcd2⟩ := HD1.out.vshape
  have C0 : Hid (w1.drew.cell? ⟨g, 0, none⟩ = some (.slice Ad d.E.length cd)) := Lib.hid (by rw [← hvd]; exact HD1.out.2.1.cell 0)
  have C1 : Hid (w1.drew.cell? ⟨g, 1, none⟩ = some (.int .i64 d.q)) := Lib.hid (HD1.out.2.1.cell 1)
  have HDd := Lib.hid (drew_at HD1.out)
  clear hvd hcd1 hcd2
  refine up_start Nil (by kernel_rfl) ?_
  refine up_take (by exact at0) (by kernel_rfl) (by exact fun _ _ _ h => h) (by rfl) (by intro W hW; go_simp; try with_reducible rfl) ?_
  simp only [Act.put, List.setIfInBounds_toArray, List.set_cons_zero, List.set_cons_succ]
  refine up_take (by exact (atS at0)) (by kernel_rfl) (by exact fun _ _ _ h => h) (by rfl) (by intro W hW; go_simp; try with_reducible rfl) ?_
  simp only [Act.put, List.setIfInBounds_toArray, List.set_cons_zero, List.set_cons_succ]
  refine up_take (by exact (atS (atS at0))) (by kernel_rfl) (by exact fun _ _ _ h => h) (by rfl) (by intro W hW; go_simp; try with_reducible rfl) ?_
  simp only [Act.put, List.setIfInBounds_toArray, List.set_cons_zero, List.set_cons_succ]
  refine up_take (by exact (atS (atS (atS at0)))) (by kernel_rfl) (by exact fun _ _ _ h => h) (by rfl) (by intro W hW; go_simp; try with_reducible rfl) ?_
  simp only [Act.put, List.setIfInBounds_toArray, List.set_cons_zero, List.set_cons_succ]
  refine up_take (by exact (atS (atS (atS (atS at0))))) (by kernel_rfl) (by exact fun _ _ _ h => h) (by rfl) (by intro W hW; go_simp; try with_reducible rfl) ?_
  simp only [Act.put, List.setIfInBounds_toArray, List.set_cons_zero, List.set_cons_succ]
  refine up_take (by exact (atS (atS (atS (atS (atS at0)))))) (by kernel_rfl) (by exact fun _ _ _ h => h) (by rfl) (by intro W hW; go_simp; try with_reducible rfl) ?_
  simp only [Act.put, List.setIfInBounds_toArray, List.set_cons_zero, List.set_cons_succ]
  refine up_take (by exact (atS (atS (atS (atS (atS (atS at0))))))) (by kernel_rfl) (by exact fun _ _ _ h => h) (by rfl) (by intro W hW; have q := cell_up C0.out hW (show ¬ Nil _ from id); go_simp; try with_reducible rfl) ?_
  simp only [Act.put, List.setIfInBounds_toArray, List.set_cons_zero, List.set_cons_succ]
  refine up_take (by exact (atS (atS (atS (atS (atS (atS (atS at0)))))))) (by kernel_rfl) (by exact fun _ _ _ h => h) (by rfl) (by intro W hW; go_simp; try with_reducible rfl) ?_
  simp only [Act.put, List.setIfInBounds_toArray, List.set_cons_zero, List.set_cons_succ]
  refine up_take (by exact (atS (atS (atS (atS (atS (atS (atS (atS at0))))))))) (by kernel_rfl) (by exact fun _ _ _ h => h) (by rfl) (by intro W hW; go_simp; try with_reducible rfl) ?_
  simp only [Act.put, List.setIfInBounds_toArray, List.set_cons_zero, List.set_cons_succ]
  refine up_take (by exact (atS (atS (atS (atS (atS (atS (atS (atS (atS at0)))))))))) (by kernel_rfl) (by exact fun _ _ _ h => h) (by rfl) (by intro W hW; go_simp; try with_reducible rfl) ?_
  simp only [Act.put, List.setIfInBounds_toArray, List.set_cons_zero, List.set_cons_succ]
  refine up_take (by exact (atS (atS (atS (atS (atS (atS (atS (atS (atS (atS at0))))))))))) (by kernel_rfl) (by exact fun _ _ _ h => h) (by rfl) (by intro W hW; go_simp; try with_reducible rfl) ?_
  simp only [Act.put, List.setIfInBounds_toArray, List.set_cons_zero, List.set_cons_succ]
  refine up_take (by exact (atS (atS (atS (atS (atS (atS (atS (atS (atS (atS (atS at0)))))))))))) (by kernel_rfl) (by exact fun _ _ _ h => h) (by rfl) (by intro W hW; go_simp; try with_reducible rfl) ?_
  simp only [Act.put, List.setIfInBounds_toArray, List.set_cons_zero, List.set_cons_succ]
  refine up_take (by exact (atS (atS (atS (atS (atS (atS (atS (atS (atS (atS (atS (atS (atS at0)))))))))))))) (by kernel_rfl) (by exact fun _ _ _ h => h) (by rfl) (by intro W hW; go_simp; try with_reducible rfl) ?_
  simp only [Act.put, List.setIfInBounds_toArray, List.set_cons_zero, List.set_cons_succ]
  refine up_take (by exact (atS (atS (atS (atS (atS (atS (atS (atS (atS (atS (atS (atS (atS (atS at0))))))))))))))) (by kernel_rfl) (by exact fun _ _ _ h => h) (by rfl) (by intro W hW; go_simp; try with_reducible rfl) ?_
  simp only [Act.put, List.setIfInBounds_toArray, List.set_cons_zero, List.set_cons_succ]
  refine up_take (by exact (atS (atS (atS (atS (atS (atS (atS (atS (atS (atS (atS (atS (atS (atS (atS (atS at0))))))))))))))))) (by kernel_rfl) (by exact fun _ _ _ h => h) (by rfl) (by intro W hW; go_simp; try with_reducible rfl) ?_
  simp only [Act.put, List.setIfInBounds_toArray, List.set_cons_zero, List.set_cons_succ]
  refine up_take (by exact (atS (atS (atS (atS (atS (atS (atS (atS (atS (atS (atS (atS (atS (atS (atS (atS (atS at0)))))))))))))))))) (by kernel_rfl) (by exact fun _ _ _ h => h) (by rfl) (by intro W hW; go_simp; try with_reducible rfl) ?_
  simp only [Act.put, List.setIfInBounds_toArray, List.set_cons_zero, List.set_cons_succ]
  refine up_take (by exact (atS (atS (atS (atS (atS (atS (atS (atS (atS (atS (atS (atS (atS (atS (atS (atS (atS (atS at0))))))))))))))))))) (by kernel_rfl) (by exact fun _ _ _ h => h) (by rfl) (by intro W hW; go_simp; try with_reducible rfl) ?_
  simp only [Act.put, List.setIfInBounds_toArray, List.set_cons_zero, List.set_cons_succ]
  refine up_take (by exact (atS (atS (atS (atS (atS (atS (atS (atS (atS (atS (atS (atS (atS (atS (atS (atS (atS (atS (atS at0)))))))))))))))))))) (by kernel_rfl) (by exact fun _ _ _ h => h) (by rfl) (by intro W hW; have q := cell_up C1.out hW (show ¬ Nil _ from id); go_simp; try with_reducible rfl) ?_
  simp only [Act.put, List.setIfInBounds_toArray, List.set_cons_zero, List.set_cons_succ]
  refine up_one (by exact (atS (atS (atS (atS (atS (atS (atS (atS (atS (atS (atS (atS at0))))))))))))) (by kernel_rfl) (fun K hK => ?_)
  go_simp
  refine (rused HDd.out HE.out HU.out).mono ?_
  rintro e w5 ⟨rfl, rfl⟩
  refine hK.out _ _ (Kept.refl _ _) ?_
  clear hK K
  refine up_take (by exact (atS (atS (atS (atS (atS (atS (atS (atS (atS (atS (atS (atS (atS (atS (atS at0)))))))))))))))) (by kernel_rfl) (by exact fun _ _ _ h => h) (by rfl) (by intro W hW; go_simp; try with_reducible rfl) ?_
  simp only [Act.put, List.setIfInBounds_toArray, List.set_cons_zero, List.set_cons_succ]
  refine up_take (by exact (atS (atS (atS (atS (atS (atS (atS (atS (atS (atS (atS (atS (atS (atS (atS (atS (atS (atS (atS (atS at0))))))))))))))))))))) (by kernel_rfl) (by exact fun _ _ _ h => h) (by rfl) (by intro W hW; go_simp; try with_reducible rfl) ?_
  simp only [Act.put, List.setIfInBounds_toArray, List.set_cons_zero, List.set_cons_succ]
  refine up_take (by exact (atS (atS (atS (atS (atS (atS (atS (atS (atS (atS (atS (atS (atS (atS (atS (atS (atS (atS (atS (atS (atS at0)))))))))))))))))))))) (by kernel_rfl) (by exact fun _ _ _ h => h) (by rfl) (by intro W hW; go_simp; try with_reducible rfl) ?_
  simp only [Act.put, List.setIfInBounds_toArray, List.set_cons_zero, List.set_cons_succ]
  refine up_take (by exact (atS (atS (atS (atS (atS (atS (atS (atS (atS (atS (atS (atS (atS (atS (atS (atS (atS (atS (atS (atS (atS (atS at0))))))))))))))))))))))) (by kernel_rfl) (by exact fun _ _ _ h => h) (by rfl) (by intro W hW; go_simp; try with_reducible rfl) ?_
  simp only [Act.put, List.setIfInBounds_toArray, List.set_cons_zero, List.set_cons_succ]
  refine up_done (by kernel_rfl) ?_
  go_wp2_with (first | (go_at_call 63; refine (rdeed HDd.out HW.out).mono ?_; rintro e w2 ⟨rfl, hd2, hk2⟩; have HD2 := Lib.hid hd2; have HK2 := Lib.hid hk2; rw [HDC.out]; clear hd2 hk2) | (go_at_call 64; go_must (refine (rput HD2.out (by rw [(spendR_E d).1]; exact HE.out) p (by rw [(spendR_E d).1]; exact HPLE.out) ⟨n, .slice none 0 0, [], 0⟩ ⟨Own.nil _ _ _, Nat.le_refl _⟩).mono ?_); rintro e w3 ⟨rfl, v3, hd3, hk3, hn3⟩; rw [(spendR_E d).1] at hd3; have HD3 := Lib.hid hd3; have HK3 := Lib.hid hk3; have HN3 := Lib.hid hn3; clear hd3 hk3 hn3))
  have HDZ : Hid (RDiskAt w3 lo g ({ spendR d with v := v3, E := d.E.take p ++ (RF.mk n (.slice none 0 0) [] 0) :: d.E.drop p } : RDisk)) := HD3
  have HKZ : Hid (KeptOff (fun k => k = g ∨ d.v.ownBlock = some k) w w3) := Lib.hid (rkept2 (rkept (drew_b HB.out) HK2.out) HK3.out)
  have HVZ : Hid (v3 = d.v ∨ ∀ k, v3.ownBlock = some k → w.heap.size ≤ k) := Lib.hid (.inr fun k hk => Nat.le_trans (rkept (drew_b HB.out) HK2.out (d := d)).2.2.2.1 (HN3.out k hk))
  obtain ⟨f, hf⟩ : ∃ f : RF, f = ⟨n, .slice none 0 0, [], 0⟩ := ⟨_, rfl⟩
  have HGZ : Hid ((d.E.take p ++ (RF.mk n (.slice none 0 0) [] 0) :: d.E.drop p)[p]? = some f) := Lib.hid (by rw [hf]; exact put_at HPLE.out _)
  have HBL : Hid (f.bytes.length ≤ 1099511627776 ∧ bl.length ≤ 1099511627776) := Lib.hid ⟨by rw [hf]; exact Nat.zero_le _, HM.out⟩
  have HGL : Hid (∀ v, (((d.E.take p ++ (RF.mk n (.slice none 0 0) [] 0) :: d.E.drop p).set p { f with v := v, bytes := f.bytes ++ bl }).map absRF) = grownL (absR d).L n bl) := Lib.hid fun v => by rw [hf]; exact HGN.out v
  clear hf
  obtain ⟨r, cz, hv, y0, yc, y1, y4, yr, yn, yf⟩ := HDZ.out.fileAt HGZ.out
  obtain ⟨A3, c3, hA3⟩ := row_shape yf.1
  have HFS := Lib.hid yf.2
  have HV := Lib.hid hv
  have HLO : Hid (lo ≤ w3.heap.size) := Lib.hid (by have := HDZ.out.ltg; omega)
  have hi0 : (p : Int) < (({ spendR d with v := v3, E := d.E.take p ++ (RF.mk n (.slice none 0 0) [] 0) :: d.E.drop p } : RDisk).E.length : Int) := by have h1 : p < ({ spendR d with v := v3, E := d.E.take p ++ (RF.mk n (.slice none 0 0) [] 0) :: d.E.drop p } : RDisk).E.length := (List.getElem?_eq_some_iff.1 HGZ.out).1; omega
  obtain ⟨N, hN⟩ : ∃ N, N = ({ spendR d with v := v3, E := d.E.take p ++ (RF.mk n (.slice none 0 0) [] 0) :: d.E.drop p } : RDisk).E.length := ⟨_, rfl⟩
  rw [← hN] at y0 yc hi0
  clear hN
  obtain ⟨FV, hFV⟩ : ∃ FV, FV = f.v := ⟨_, rfl⟩
  rw [← hFV] at y1 hA3
  have hfo := yf.1
  rw [← hFV] at hfo
  have HFO := Lib.hid hfo
  have Y1 := Lib.hid y1
  clear hfo hFV hA3
  have Y4 := Lib.hid y4
  have HRS := Lib.hid yr
  have NG : Hid (¬ (fun k => k = r ∨ w3.heap.size ≤ k) g) := Lib.hid (by have := (HDZ.out.lt g (.inl rfl)).2; rintro (h | h); exact yn h.symm; omega)
  have X0 : Hid (w3.drew.cell? ⟨g, 0, none⟩ = some (.slice (some ⟨r, 0, none⟩) N cz)) := Lib.hid y0
  have HSR : Hid (Rd w3 w3.heap.size (.slice A bl.length c) bl) := Lib.hid (HS.out.kept (D := fun k => k = g ∨ d.v.ownBlock = some k) ⟨HKZ.out.1, HKZ.out.2.1, HKZ.out.2.2.1, HKZ.out.2.2.2.1, HKZ.out.2.2.2.2⟩ (fun b hb hD => hb hD)).rd
  clear hv y4 yr yn yf
  refine up_start (fun k => k = r ∨ w3.heap.size ≤ k) (by kernel_rfl) ?_
  refine up_take (by exact at0) (by kernel_rfl) (by exact fun _ _ _ h => h) (by rfl) (by intro W hW; go_simp; try with_reducible rfl) ?_
  simp only [Act.put, List.setIfInBounds_toArray, List.set_cons_zero, List.set_cons_succ]
  refine up_take (by exact (atS at0)) (by kernel_rfl) (by exact fun _ _ _ h => h) (by rfl) (by intro W hW; go_simp; try with_reducible rfl) ?_
  simp only [Act.put, List.setIfInBounds_toArray, List.set_cons_zero, List.set_cons_succ]
  refine up_take (by exact (atS (atS at0))) (by kernel_rfl) (by exact fun _ _ _ h => h) (by rfl) (by intro W hW; go_simp; try with_reducible rfl) ?_
  simp only [Act.put, List.setIfInBounds_toArray, List.set_cons_zero, List.set_cons_succ]
  refine up_take (by exact (atS (atS (atS at0)))) (by kernel_rfl) (by exact fun _ _ _ h => h) (by rfl) (by intro W hW; have q := cell_up X0.out hW (by exact NG.out); go_simp; try with_reducible rfl) ?_
  simp only [Act.put, List.setIfInBounds_toArray, List.set_cons_zero, List.set_cons_succ]
  refine up_take (by exact (atS (atS (atS (atS at0))))) (by kernel_rfl) (by exact fun _ _ _ h => h) (by rfl) (by intro W hW; go_simp; try with_reducible rfl) ?_
  simp only [Act.put, List.setIfInBounds_toArray, List.set_cons_zero, List.set_cons_succ]
  refine up_take (by exact (atS (atS (atS (atS (atS (atS at0))))))) (by kernel_rfl) (by exact fun _ _ _ h => h) (by rfl) (by intro W hW; go_simp; try with_reducible rfl) ?_
  simp only [Act.put, List.setIfInBounds_toArray, List.set_cons_zero, List.set_cons_succ]
  refine up_take (by exact (atS (atS (atS (atS (atS (atS (atS at0)))))))) (by kernel_rfl) (by exact fun _ _ _ h => h) (by rfl) (by intro W hW; go_simp; try with_reducible rfl) ?_
  simp only [Act.put, List.setIfInBounds_toArray, List.set_cons_zero, List.set_cons_succ]
  refine up_take (by exact (atS (atS (atS (atS (atS (atS (atS (atS at0))))))))) (by kernel_rfl) (by exact fun _ _ _ h => h) (by rfl) (by intro W hW; go_simp; try with_reducible rfl) ?_
  simp only [Act.put, List.setIfInBounds_toArray, List.set_cons_zero, List.set_cons_succ]
  refine up_take (by exact (atS (atS (atS (atS (atS (atS (atS (atS (atS at0)))))))))) (by kernel_rfl) (by exact fun _ _ _ h => h) (by rfl) (by intro W hW; have q := cell_up X0.out hW (by exact NG.out); go_simp; try with_reducible rfl) ?_
  simp only [Act.put, List.setIfInBounds_toArray, List.set_cons_zero, List.set_cons_succ]
  refine up_take (by exact (atS (atS (atS (atS (atS (atS (atS (atS (atS (atS at0))))))))))) (by kernel_rfl) (by exact fun _ _ _ h => h) (by rfl) (by intro W hW; go_simp; try with_reducible rfl) ?_
  simp only [Act.put, List.setIfInBounds_toArray, List.set_cons_zero, List.set_cons_succ]
  refine up_take (by exact (atS (atS (atS (atS (atS (atS (atS (atS (atS (atS (atS at0)))))))))))) (by kernel_rfl) (by exact fun _ _ _ h => h) (by rfl) (by intro W hW; go_simp; try with_reducible rfl) ?_
  simp only [Act.put, List.setIfInBounds_toArray, List.set_cons_zero, List.set_cons_succ]
  refine up_take (by exact (atS (atS (atS (atS (atS (atS (atS (atS (atS (atS (atS (atS at0))))))))))))) (by kernel_rfl) (by exact fun _ _ _ h => h) (by rfl) (by intro W hW; go_simp; try with_reducible rfl) ?_
  simp only [Act.put, List.setIfInBounds_toArray, List.set_cons_zero, List.set_cons_succ]
  refine up_take (by exact (atS (atS (atS (atS (atS (atS (atS (atS (atS (atS (atS (atS (atS (atS (atS at0)))))))))))))))) (by kernel_rfl) (by exact fun _ _ _ h => h) (by rfl) (by intro W hW; go_simp; try with_reducible rfl) ?_
  simp only [Act.put, List.setIfInBounds_toArray, List.set_cons_zero, List.set_cons_succ]
  refine up_two (by exact (atS (atS (atS (atS (atS at0)))))) (by exact (atS (atS (atS (atS (atS (atS (atS (atS (atS (atS (atS (atS (atS at0)))))))))))))) (by kernel_rfl) (fun K hK => ?_) (fun K hK => ?_)
  · go_simp
    refine hK.out _ _ (Kept.below ((Below.refl _ _).alloc (Nat.le_refl _) _)) ?_
    clear hK K
    have hbz : Below w3.heap.size w3 (w3.alloc (.cells #[] 5)) := (Below.refl _ _).alloc (Nat.le_refl _) _
    have yz : (w3.alloc (.cells #[] 5)).cell? ⟨r, p * 3 + 1, none⟩ = some FV := (hbz.cell (p := ⟨r, p * 3 + 1, none⟩) HRS.out).trans Y1.out
    clear y1
    refine up_one (by exact (atS (atS (atS (atS (atS (atS (atS (atS (atS (atS (atS (atS (atS at0)))))))))))))) (by kernel_rfl) (fun K hK => ?_)
    go_simp
    refine hK.out _ _ (Kept.refl _ _) ?_
    clear hK K
    refine up_one (by exact (atS (atS (atS (atS (atS (atS (atS (atS (atS (atS (atS (atS (atS (atS at0))))))))))))))) (by kernel_rfl) (fun K hK => ?_)
    refine step_append_src _ (by rfl) (.tmp 62) (.tmp 70) 36 (by rfl) w3.heap.size 5 (.int .u8 0) 1 Try.underlying36 Try.u8info rfl _ [] (by rfl) (by exact Own.empty _ _ _ rfl) _ (bvs f.bytes) (by rfl) (by exact Rd.src ((HFO.out.below (drew_b hbz)).rd (Nat.le_refl _))) (bvs_one _) (by rw [bvs_length]; have := HBL.out; unfold maxLen; simp only [List.length_nil]; omega) (by rw [bvs_length]; have := HBL.out; simp only [List.length_nil]; omega) (by exact hbz.size) ?_
    intro v14 w14 o14 g14 b14 s14
    have O14 := Lib.hid o14
    have B14 := Lib.hid b14
    clear o14 g14 s14
    refine hK.out _ _ (Kept.belowB b14 (fun k hk => .inr hk)) ?_
    clear hK K
    have HB14 : Hid (Below w3.heap.size w3 w14) := Lib.hid ((drew_b hbz).trans B14.out)
    clear b14 yz hbz
    refine up_one (by exact (atS (atS (atS (atS (atS (atS (atS (atS (atS (atS (atS (atS (atS (atS (atS (atS at0))))))))))))))))) (by kernel_rfl) (fun K hK => ?_)
    refine step_append_src _ (by rfl) (.tmp 71) (.tmp 72) 36 (by rfl) w3.heap.size 5 (.int .u8 0) 1 Try.underlying36 Try.u8info rfl _ _ (by rfl) (by exact O14.out) _ (bvs bl) (by rfl) (by exact Rd.src ((HSR.out.below HB14.out).more HB14.out.size)) (bvs_one _) (by rw [List.nil_append, bvs_length, bvs_length]; have := HBL.out; unfold maxLen; omega) (by rw [List.nil_append, bvs_length, bvs_length]; have := HBL.out; omega) (by exact HB14.out.size) ?_
    intro v16 w16 o16 g16 b16 s16
    rw [List.nil_append, ← bvs_append] at o16
    have O16 := Lib.hid o16
    have B16 := Lib.hid b16
    clear o16 g16 s16
    refine hK.out _ _ (Kept.belowB b16 (fun k hk => .inr hk)) ?_
    clear hK K
    have HB16 : Hid (Below w3.heap.size w3 w16) := Lib.hid (HB14.out.trans B16.out)
    obtain ⟨A16, c16, hv16⟩ := row_shape O16.out
    obtain ⟨L16, hL16⟩ : ∃ L16, L16 = (f.bytes ++ bl).length := ⟨_, rfl⟩
    rw [← hL16] at hv16
    clear hL16
    subst hv16
    have y16 : w16.cell? ⟨r, p * 3 + 1, none⟩ = some FV := (HB16.out.cell (p := ⟨r, p * 3 + 1, none⟩) HRS.out).trans Y1.out
    have z16 : w16.frozen? ⟨r, p * 3 + 1, none⟩ = false := (World.frozen?_of_block (w := w3) (HB16.out.block _ HRS.out)).trans (Y4.out _)
    clear b16
    refine up_take (by exact (atS (atS (atS (atS (atS (atS (atS (atS (atS (atS (atS (atS (atS (atS (atS (atS (atS at0)))))))))))))))))) (by kernel_rfl) (by exact fun _ _ _ h => h) (by rfl) (by intro W hW; go_simp; try with_reducible rfl) ?_
    simp only [Act.put, List.setIfInBounds_toArray, List.set_cons_zero, List.set_cons_succ]
    refine up_take (by exact (atS (atS (atS (atS (atS (atS (atS (atS (atS (atS (atS (atS (atS (atS (atS (atS (atS (atS at0))))))))))))))))))) (by kernel_rfl) (by exact fun _ _ _ h => h) (by rfl) (by intro W hW; go_simp; try with_reducible rfl) ?_
    simp only [Act.put, List.setIfInBounds_toArray, List.set_cons_zero, List.set_cons_succ]
    refine up_one (by exact (atS (atS (atS (atS (atS (atS (atS (atS (atS (atS (atS (atS (atS (atS (atS (atS (atS (atS (atS at0)))))))))))))))))))) (by kernel_rfl) (fun K hK => ?_)
    go_simp
    refine hK.out _ _ (Kept.grown (grown_set _ r _ _) (fun k hk => by injection hk with hk; exact .inl hk.symm)) ?_
    clear hK K
    refine up_done (by kernel_rfl) ?_
    go_wp2_with fail
    go_ret
    have hd9 := (HDZ.out.below HB16.out).setAt (i := p) (r := r) (c := cz) HV.out (p * 3 + 1) (.slice A16 L16 c16) { f with v := .slice A16 L16 c16, bytes := f.bytes ++ bl } (rcells_setv' HGZ.out _ _) ⟨O16.out.more (Nat.zero_le _), by have := HFS.out; show f.safe ≤ (f.bytes ++ bl).length; rw [List.length_append]; omega⟩
    refine rstep_mk (by rw [HSV.out]; rfl) hd9 ?_ (turn_kept (dd := ({ spendR d with v := v3, E := d.E.take p ++ (RF.mk n (.slice none 0 0) [] 0) :: d.E.drop p } : RDisk)) HKZ.out HB16.out (by rw [HV.out]; rfl) HVZ.out) HVZ.out (fun x hx => ?_)
    · rw [spendA_L, ← spendR_abs, ← HGL.out (.slice A16 L16 c16)]
      rfl
    · refine mem_set_v (P := fun x => (∃ f ∈ d.E, x.v = f.v) ∨ ∀ k, x.v.ownBlock = some k → w.heap.size ≤ k) hx (.inr fun k hk => Nat.le_trans HKZ.out.2.2.2.1 (O16.out.ownLt k hk).1) (fun y hy => ?_)
      rcases mem_put hy with rfl | hy
      · exact .inr fun k hk => (by cases hk)
      · exact .inl ⟨y, hy, rfl⟩
  · go_simp
    refine hK.out _ _ (Kept.refl _ _) ?_
    clear hK K
    refine up_one (by exact (atS (atS (atS (atS (atS at0)))))) (by kernel_rfl) (fun K hK => ?_)
    go_simp
    refine hK.out _ _ (Kept.below ((Below.refl _ _).alloc (Nat.le_refl _) _)) ?_
    clear hK K
    have hbz : Below w3.heap.size w3 (w3.alloc (.cells #[] 5)) := (Below.refl _ _).alloc (Nat.le_refl _) _
    have yz : (w3.alloc (.cells #[] 5)).cell? ⟨r, p * 3 + 1, none⟩ = some FV := (hbz.cell (p := ⟨r, p * 3 + 1, none⟩) HRS.out).trans Y1.out
    clear y1
    refine up_one (by exact (atS (atS (atS (atS (atS (atS (atS (atS (atS (atS (atS (atS (atS (atS at0))))))))))))))) (by kernel_rfl) (fun K hK => ?_)
    refine step_append_src _ (by rfl) (.tmp 62) (.tmp 70) 36 (by rfl) w3.heap.size 5 (.int .u8 0) 1 Try.underlying36 Try.u8info rfl _ [] (by rfl) (by exact Own.empty _ _ _ rfl) _ (bvs f.bytes) (by rfl) (by exact Rd.src ((HFO.out.below (drew_b hbz)).rd (Nat.le_refl _))) (bvs_one _) (by rw [bvs_length]; have := HBL.out; unfold maxLen; simp only [List.length_nil]; omega) (by rw [bvs_length]; have := HBL.out; simp only [List.length_nil]; omega) (by exact hbz.size) ?_
    intro v14 w14 o14 g14 b14 s14
    have O14 := Lib.hid o14
    have B14 := Lib.hid b14
    clear o14 g14 s14
    refine hK.out _ _ (Kept.belowB b14 (fun k hk => .inr hk)) ?_
    clear hK K
    have HB14 : Hid (Below w3.heap.size w3 w14) := Lib.hid ((drew_b hbz).trans B14.out)
    clear b14 yz hbz
    refine up_one (by exact (atS (atS (atS (atS (atS (atS (atS (atS (atS (atS (atS (atS (atS (atS (atS (atS at0))))))))))))))))) (by kernel_rfl) (fun K hK => ?_)
    refine step_append_src _ (by rfl) (.tmp 71) (.tmp 72) 36 (by rfl) w3.heap.size 5 (.int .u8 0) 1 Try.underlying36 Try.u8info rfl _ _ (by rfl) (by exact O14.out) _ (bvs bl) (by rfl) (by exact Rd.src ((HSR.out.below HB14.out).more HB14.out.size)) (bvs_one _) (by rw [List.nil_append, bvs_length, bvs_length]; have := HBL.out; unfold maxLen; omega) (by rw [List.nil_append, bvs_length, bvs_length]; have := HBL.out; omega) (by exact HB14.out.size) ?_
    intro v16 w16 o16 g16 b16 s16
    rw [List.nil_append, ← bvs_append] at o16
    have O16 := Lib.hid o16
    have B16 := Lib.hid b16
    clear o16 g16 s16
    refine hK.out _ _ (Kept.belowB b16 (fun k hk => .inr hk)) ?_
    clear hK K
    have HB16 : Hid (Below w3.heap.size w3 w16) := Lib.hid (HB14.out.trans B16.out)
    obtain ⟨A16, c16, hv16⟩ := row_shape O16.out
    obtain ⟨L16, hL16⟩ : ∃ L16, L16 = (f.bytes ++ bl).length := ⟨_, rfl⟩
    rw [← hL16] at hv16
    clear hL16
    subst hv16
    have y16 : w16.cell? ⟨r, p * 3 + 1, none⟩ = some FV := (HB16.out.cell (p := ⟨r, p * 3 + 1, none⟩) HRS.out).trans Y1.out
    have z16 : w16.frozen? ⟨r, p * 3 + 1, none⟩ = false := (World.frozen?_of_block (w := w3) (HB16.out.block _ HRS.out)).trans (Y4.out _)
    clear b16
    refine up_take (by exact (atS (atS (atS (atS (atS (atS (atS (atS (atS (atS (atS (atS (atS (atS (atS (atS (atS at0)))))))))))))))))) (by kernel_rfl) (by exact fun _ _ _ h => h) (by rfl) (by intro W hW; go_simp; try with_reducible rfl) ?_
    simp only [Act.put, List.setIfInBounds_toArray, List.set_cons_zero, List.set_cons_succ]
    refine up_take (by exact (atS (atS (atS (atS (atS (atS (atS (atS (atS (atS (atS (atS (atS (atS (atS (atS (atS (atS at0))))))))))))))))))) (by kernel_rfl) (by exact fun _ _ _ h => h) (by rfl) (by intro W hW; go_simp; try with_reducible rfl) ?_
    simp only [Act.put, List.setIfInBounds_toArray, List.set_cons_zero, List.set_cons_succ]
    refine up_one (by exact (atS (atS (atS (atS (atS (atS (atS (atS (atS (atS (atS (atS (atS (atS (atS (atS (atS (atS (atS at0)))))))))))))))))))) (by kernel_rfl) (fun K hK => ?_)
    go_simp
    refine hK.out _ _ (Kept.grown (grown_set _ r _ _) (fun k hk => by injection hk with hk; exact .inl hk.symm)) ?_
    clear hK K
    refine up_done (by kernel_rfl) ?_
    go_wp2_with fail
    go_ret
    have hd9 := (HDZ.out.below HB16.out).setAt (i := p) (r := r) (c := cz) HV.out (p * 3 + 1) (.slice A16 L16 c16) { f with v := .slice A16 L16 c16, bytes := f.bytes ++ bl } (rcells_setv' HGZ.out _ _) ⟨O16.out.more (Nat.zero_le _), by have := HFS.out; show f.safe ≤ (f.bytes ++ bl).length; rw [List.length_append]; omega⟩
    refine rstep_mk (by rw [HSV.out]; rfl) hd9 ?_ (turn_kept (dd := ({ spendR d with v := v3, E := d.E.take p ++ (RF.mk n (.slice none 0 0) [] 0) :: d.E.drop p } : RDisk)) HKZ.out HB16.out (by rw [HV.out]; rfl) HVZ.out) HVZ.out (fun x hx => ?_)
    · rw [spendA_L, ← spendR_abs, ← HGL.out (.slice A16 L16 c16)]
      rfl
    · refine mem_set_v (P := fun x => (∃ f ∈ d.E, x.v = f.v) ∨ ∀ k, x.v.ownBlock = some k → w.heap.size ≤ k) hx (.inr fun k hk => Nat.le_trans HKZ.out.2.2.2.1 (O16.out.ownLt k hk).1) (fun y hy => ?_)
      rcases mem_put hy with rfl | hy
      · exact .inr fun k hk => (by cases hk)
      · exact .inl ⟨y, hy, rfl⟩
end
/-- Append, whatever is asked. -/
theorem rappend {w : World} {lo g : Nat} {d : RDisk} (h : RDiskAt w lo g d) (hw : WfA (absR d)) (hr : RiseA (absR d).L) (n : List UInt8) (hn : n.length ≤ maxLen) (A : Option Addr) (c : Nat) (bl : List UInt8) (hm : bl.length ≤ 1099511627776) (hS : Rdp w (fun k => ¬ RW g d k) (.slice A bl.length c) bl) :
    Calls Try.prog 35 #[.pointer (some ⟨g, 0, none⟩), .string (str n), .slice A bl.length c] w (RStep w lo g d (appendA (absR d) n bl) (.int .i64 (appendAV (absR d) n bl))) := by
  unfold appendA appendAV
  show Calls _ _ _ _ (RStep w lo g d (if d.off = true then _ else _) (.int .i64 (if d.off = true then _ else _)))
  cases ho : d.off with
  | true =>
    rw [if_pos rfl, if_pos rfl]
    exact rapp_off h hw ho n _
  | false =>
    rw [if_neg Bool.false_ne_true, if_neg Bool.false_ne_true]
    cases hnm : nameB n with
    | false =>
      rw [if_pos rfl, if_pos rfl]
      exact rapp_name h hw ho n hn hnm _
    | true =>
      have hne : ¬ (true = false) := by decide
      rw [if_neg hne, if_neg hne]
      have hfull : fullA (absR d) n bl = ((!isA n (absR d).L && decide (64 ≤ d.E.length)) || decide (d.q < (usedA (absR d).L : Int) + (bl.length : Int))) := by
        unfold fullA
        rw [absR_len]
        have e1 : (atA (absR d).L n).isNone = !isA n (absR d).L := by
          cases hi : isA n (absR d).L with
          | false => rw [at_no hr hi]; rfl
          | true => rw [at_R d n hr hi]; rfl
        rw [e1]
        show (_ || decide (d.q < ((usedA (absR d).L + bl.length : Nat) : Int))) = _
        rw [Int.natCast_add]
      rw [hfull]
      cases hi : isA n (absR d).L with
      | false =>
        by_cases h64 : 64 ≤ d.E.length
        · rw [decide_eq_true h64]
          rw [if_pos (by rfl), if_pos (by rfl)]
          exact rapp_full1 h hw ho n hn hnm A _ c h64 hi
        · rw [decide_eq_false h64]
          by_cases hq : d.q < (usedA (absR d).L : Int) + (bl.length : Int)
          · rw [decide_eq_true hq, if_pos (by rfl), if_pos (by rfl)]
            exact rapp_full2 h hw ho n hn hnm A _ c hm h64 hq hi
          · rw [decide_eq_false hq, if_neg (by decide), if_neg (by decide)]
            by_cases h0 : d.lasts = 0
            · exact rapp_new_off h hw hr ho n hn hnm A c bl hm hS h64 hq hi h0
            · exact rapp_new_ok h hw hr ho n hn hnm A c bl hm hS h64 hq hi h0
      | true =>
        by_cases hq : d.q < (usedA (absR d).L : Int) + (bl.length : Int)
        · rw [decide_eq_true hq, Bool.or_true, if_pos rfl, if_pos rfl]
          exact rapp_full3 h hw ho n hn hnm A _ c hm hq hi
        · rw [decide_eq_false hq]
          rw [if_neg (by simp), if_neg (by simp)]
          by_cases h0 : d.lasts = 0
          · exact rapp_old_off h hw hr ho n hn hnm A c bl hm hS hq hi h0
          · exact rapp_old_ok h hw hr ho n hn hnm A c bl hm hS hq hi h0
end Go.Proofs.Ytincdegoiknfhab
