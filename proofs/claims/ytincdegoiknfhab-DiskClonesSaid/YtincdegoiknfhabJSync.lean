/-
  The document's disk: Sync, Append. Conditions: sizes within what an int holds; the files lie in order of their names; names' lengths are lengths; at most 2^40 bytes in all.
-/
import Derived.Test.YtincdegoiknfhabJRen
namespace Go.Proofs.Ytincdegoiknfhab
open Go.RowKit

theorem set_abs {E : List RF} {L : List AFile} {e : RF} {k : Nat} (hL : E.map absRF = L) (hr : RiseA L) (hi : isA e.name L = true) (hp : posA e.name L = k) : (E.set k e).map absRF = updA (absRF e) L := by
  subst hp
  rw [upd_pos (e := absRF e) hr hi, List.map_set, hL]
  rfl
theorem rcells_sets' {E : List RF} {i : Nat} {f : RF} (h : E[i]? = some f) (s : Nat) : (rcells E).set (i * 3 + 2) (.int .i64 (s : Int)) = rcells (E.set i { f with safe := s }) := by
  obtain ⟨hl, he⟩ := List.getElem?_eq_some_iff.1 h
  rw [rcells_sets E i hl s, he]
theorem rcells_setv' {E : List RF} {i : Nat} {f : RF} (h : E[i]? = some f) (u : Value) (b : List UInt8) : (rcells E).set (i * 3 + 1) u = rcells (E.set i { f with v := u, bytes := b }) := by
  obtain ⟨hl, he⟩ := List.getElem?_eq_some_iff.1 h
  rw [rcells_setv E i hl u b, he]
theorem mem_set_v {E : List RF} {k : Nat} {e' x : RF} {P : RF → Prop} (hx : x ∈ E.set k e') (h1 : P e') (h2 : ∀ y ∈ E, P y) : P x := by
  rcases List.mem_or_eq_of_mem_set hx with hx | rfl
  · exact h2 x hx
  · exact h1
theorem drew_at {w : World} {lo g : Nat} {d : RDisk} (h : RDiskAt w lo g d) : RDiskAt w.drew lo g d := h.keep fun _ _ => rfl
theorem wf_len {d : RDisk} (hw : WfA (absR d)) : d.E.length ≤ 1000000 := by have := hw.2.2.2.2.1; rwa [absR_len] at this
theorem wf_mem {d : RDisk} (hw : WfA (absR d)) {f : RF} (hf : f ∈ d.E) : f.bytes.length ≤ 1099511627776 := by
  have h1 := hw.2.2.2.2.2
  have h2 : (absRF f).bytes.length ≤ usedA (absR d).L := usedA_mem (List.mem_map_of_mem (f := absRF) hf)
  have h3 : (absRF f).bytes.length = f.bytes.length := rfl
  omega
/-- A file turned in its row: what a step comes to. -/
theorem turn_kept {w wz W : World} {g r : Nat} {d dd : RDisk} {u : Value} {j : Nat} (hk : KeptOff (fun k => k = g ∨ d.v.ownBlock = some k) w wz) (hb : Below wz.heap.size wz W) (hv : dd.v.ownBlock = some r) (hd : dd.v = d.v ∨ ∀ k, dd.v.ownBlock = some k → w.heap.size ≤ k) :
    KeptOff (fun k => k = g ∨ d.v.ownBlock = some k) w (W.setCell ⟨r, j, none⟩ u) := by
  have h1 : KeptOff (fun k => k = g ∨ d.v.ownBlock = some k) w W := hk.trans (Below.off (F := fun _ => False) hb) (fun _ h => h.elim)
  refine h1.trans (KeptOff.set (F := fun k => k = r) W r j u rfl) ?_
  rintro k rfl
  rcases hd with hd | hd
  · exact .inl (.inr (by rw [← hd]; exact hv))
  · exact .inr (hd _ hv)
set_option maxHeartbeats 3200000 in
set_option maxRecDepth 100000 in
theorem rsync {w : World} {lo g : Nat} {d : RDisk} (h : RDiskAt w lo g d) (hw : WfA (absR d)) (hr : RiseA (absR d).L) (n : List UInt8) :
    Calls Try.prog 36 #[.pointer (some ⟨g, 0, none⟩), .string (str n)] w (RStep w lo g d (syncA (absR d) n) (.int .i64 (syncAV (absR d) n))) := by
  have hE := wf_len hw
  have kf := rfind h n hE
  unfold findRV at kf
  have K := Lib.hid kf
  have H := Lib.hid h
  have HW := Lib.hid hw
  have HE := Lib.hid hE
  unfold syncA syncAV
  show Calls _ _ _ _ (RStep w lo g d (if d.off = true then _ else _) (.int .i64 (if d.off = true then _ else _)))
  by_cases ho : d.off = true
  · rw [if_pos ho, if_pos ho]
    have HO := Lib.hid ho
    clear kf h hw hr ho
    generalize posA n (absR d).L = p at *
    generalize isA n (absR d).L = q at *
    go_enter Try.func36, Try.ntmps36
    go_wp2_with (go_at_call 61; refine K.out.mono ?_; rintro e w1 ⟨rfl, hb⟩; have HD1 := Lib.hid (H.out.below hb); have x3 : w1.cell? ⟨g, 3, none⟩ = some (.bool d.off) := HD1.out.2.1.cell 3; rw [HO.out] at x3; have HB := Lib.hid hb; clear hb)
    go_ret
    exact rstep_mk rfl HD1.out rfl (Below.off HB.out) (.inl rfl) (fun x hx => .inl ⟨x, hx, rfl⟩)
  · rw [if_neg ho, if_neg ho]
    have ho' : d.off = false := by cases hq : d.off with | false => rfl | true => exact (ho hq).elim
    have HO := Lib.hid ho'
    cases hi : isA n (absR d).L with
    | false =>
      rw [at_no hr hi]
      rw [hi] at K
      clear kf h hw hr ho ho' hi
      generalize posA n (absR d).L = p at *
      go_enter Try.func36, Try.ntmps36
      go_wp2_with (go_at_call 61; refine K.out.mono ?_; rintro e w1 ⟨rfl, hb⟩; have HD1 := Lib.hid (H.out.below hb); have x3 : w1.cell? ⟨g, 3, none⟩ = some (.bool d.off) := HD1.out.2.1.cell 3; rw [HO.out] at x3; have HB := Lib.hid hb; clear hb)
      go_ret
      exact rstep_mk rfl HD1.out rfl (Below.off HB.out) (.inl rfl) (fun x hx => .inl ⟨x, hx, rfl⟩)
    | true =>
      rw [at_R d n hr hi]
      rw [hi] at K
      have hpl := pos_lt d n hi
      have hnm := at_name d n hi
      have hsv : spendAV (absR d) = if d.lasts = 0 then 30 else 0 := rfl
      show Calls _ _ _ _ (RStep w lo g d (if d.lasts = 0 then _ else _) (.int .i64 (spendAV (absR d))))
      rw [hsv]
      by_cases h0 : d.lasts = 0
      · rw [if_pos h0, if_pos h0]
        have HDC := Lib.hid (deed_dec0 h0)
        clear kf h hw hr ho ho' hi h0 hpl hnm hsv
        generalize posA n (absR d).L = p at *
        go_enter Try.func36, Try.ntmps36
        go_wp2_with (first | (go_at_call 61; refine K.out.mono ?_; rintro e w1 ⟨rfl, hb⟩; have HD1 := Lib.hid (H.out.below hb); have x3 : w1.cell? ⟨g, 3, none⟩ = some (.bool d.off) := HD1.out.2.1.cell 3; rw [HO.out] at x3; have HB := Lib.hid hb; clear hb) | (go_at_call 63; refine (rdeed HD1.out HW.out).mono ?_; rintro e w2 ⟨rfl, hd2, hk2⟩; have HD2 := Lib.hid hd2; have HK2 := Lib.hid hk2; rw [HDC.out]; clear hd2 hk2))
        go_ret
        exact rstep_mk rfl HD2.out (spendR_abs d) (rkept HB.out HK2.out) (.inl (spendR_E d).2) (fun x hx => .inl ⟨x, by rwa [(spendR_E d).1] at hx, rfl⟩)
      · rw [if_neg h0, if_neg h0]
        have HDC := Lib.hid (deed_dec h0)
        have HPL := Lib.hid hpl
        obtain ⟨f, hf⟩ : ∃ f, f = d.E[posA n (absR d).L]'hpl := ⟨_, rfl⟩
        rw [← hf] at hnm ⊢
        have HFM : Hid (f ∈ d.E) := Lib.hid (by rw [hf]; exact List.getElem_mem hpl)
        obtain ⟨A3, c3, hA3⟩ := row_shape (h.2.2.2 f HFM.out).1
        have HA3 := Lib.hid hA3
        have hup : ∀ v' b', (d.E.set (posA n (absR d).L) ⟨n, v', b', f.bytes.length⟩).map absRF = updA ⟨n, b', f.bytes.length⟩ (absR d).L := fun v' b' => set_abs (e := ⟨n, v', b', f.bytes.length⟩) rfl hr hi rfl
        have HUP := Lib.hid hup
        have HNM := Lib.hid hnm
        have hat : ∀ {W : World}, RDiskAt W lo g (spendR d) → ∃ r c, d.v = .slice (some ⟨r, 0, none⟩) d.E.length c ∧ W.cell? ⟨g, 0, none⟩ = some (.slice (some ⟨r, 0, none⟩) d.E.length c) ∧ (d.E.length : Int) ≤ (c : Int) ∧ W.cell? ⟨r, posA n (absR d).L * 3 + 1, none⟩ = some f.v ∧ W.cell? ⟨r, posA n (absR d).L * 3 + 2, none⟩ = some (.int .i64 (f.safe : Int)) ∧ (∀ j, W.frozen? ⟨r, j, none⟩ = false) := by
          intro W hd
          have he := (spendR_E d).1
          obtain ⟨r, c, hv, _, _, y0, y1, y2, y3⟩ := hd.cells (i := posA n (absR d).L) (by rw [he]; exact hpl)
          have e1 : (spendR d).E[posA n (absR d).L]'(by rw [he]; exact hpl) = f := by rw [hf]; simp only [he]
          rw [e1] at y1 y2
          obtain ⟨A', c', h1, h2, _⟩ := hd.vshape
          have h3 := h1
          rw [hv] at h3
          injection h3 with _ _ h3
          rw [he] at hv h2
          refine ⟨r, c, by rw [← (spendR_E d).2]; exact hv, ?_, ?_, y1, y2, y3⟩
          · rw [← hv]; exact hd.2.1.cell 0
          · omega
        have HAT : Hid (∀ {W : World}, RDiskAt W lo g (spendR d) → ∃ r c, d.v = .slice (some ⟨r, 0, none⟩) d.E.length c ∧ W.cell? ⟨g, 0, none⟩ = some (.slice (some ⟨r, 0, none⟩) d.E.length c) ∧ (d.E.length : Int) ≤ (c : Int) ∧ W.cell? ⟨r, posA n (absR d).L * 3 + 1, none⟩ = some f.v ∧ W.cell? ⟨r, posA n (absR d).L * 3 + 2, none⟩ = some (.int .i64 (f.safe : Int)) ∧ (∀ j, W.frozen? ⟨r, j, none⟩ = false)) := Lib.hid hat
        have HGT : Hid (d.E[posA n (absR d).L]? = some f) := Lib.hid (by rw [List.getElem?_eq_getElem hpl, hf])
        have hi0 : ((posA n (absR d).L : Nat) : Int) < (d.E.length : Int) := by omega
        clear kf h hw hr ho ho' hi h0 hsv hnm hA3 hup hat hf
        generalize posA n (absR d).L = p at *
        go_enter Try.func36, Try.ntmps36
        go_wp2_with (first | (go_at_call 61; refine K.out.mono ?_; rintro e w1 ⟨rfl, hb⟩; have HD1 := Lib.hid (H.out.below hb); have x3 : w1.cell? ⟨g, 3, none⟩ = some (.bool d.off) := HD1.out.2.1.cell 3; rw [HO.out] at x3; have HB := Lib.hid hb; clear hb) | (go_at_call 63; refine (rdeed HD1.out HW.out).mono ?_; rintro e w2 ⟨rfl, hd2, hk2⟩; have HD2 := Lib.hid hd2; have HK2 := Lib.hid hk2; rw [HDC.out]; clear hd2 hk2))
        obtain ⟨r, c, hv, y0, y1, y2, y3, y4⟩ := HAT.out HD2.out
        have hrne : r ≠ g := HD2.out.rowNe r (by rw [(spendR_E d).2, hv]; rfl)
        have NG : Hid (¬ (fun k => k = r) g) := Lib.hid (fun e => hrne e.symm)
        have X0 : Hid (w2.drew.cell? ⟨g, 0, none⟩ = some (.slice (some ⟨r, 0, none⟩) d.E.length c)) := Lib.hid y0
        rw [HA3.out] at y2
        have z2 : w2.frozen? ⟨r, p * 3 + 2, none⟩ = false := y4 _
        have HV := Lib.hid hv
        clear hv hrne y4 hpl
        refine up_start (fun k => k = r) (by kernel_rfl) ?_
        refine up_take (by exact at0) (by kernel_rfl) (by exact fun _ _ _ h => h) (by rfl) (by intro W hW; go_simp; try with_reducible rfl) ?_
        simp only [Act.put, List.setIfInBounds_toArray, List.set_cons_zero, List.set_cons_succ]
        refine up_take (by exact (atS at0)) (by kernel_rfl) (by exact fun _ _ _ h => h) (by rfl) (by intro W hW; go_simp; try with_reducible rfl) ?_
        simp only [Act.put, List.setIfInBounds_toArray, List.set_cons_zero, List.set_cons_succ]
        refine up_take (by exact (atS (atS at0))) (by kernel_rfl) (by exact fun _ _ _ h => h) (by rfl) (by intro W hW; go_simp; try with_reducible rfl) ?_
        simp only [Act.put, List.setIfInBounds_toArray, List.set_cons_zero, List.set_cons_succ]
        refine up_take (by exact (atS (atS (atS at0)))) (by kernel_rfl) (by exact fun _ _ _ h => h) (by rfl) (by intro W hW; have q := cell_up X0.out hW (by exact NG.out); go_simp; try with_reducible rfl) ?_
        simp only [Act.put, List.setIfInBounds_toArray, List.set_cons_zero, List.set_cons_succ]
        refine up_take (by exact (atS (atS (atS (atS at0))))) (by kernel_rfl) (by exact fun _ _ _ h => h) (by rfl) (by intro W hW; go_simp; try with_reducible rfl) ?_
        simp only [Act.put, List.setIfInBounds_toArray, List.set_cons_zero, List.set_cons_succ]
        refine up_take (by exact (atS (atS (atS (atS (atS at0)))))) (by kernel_rfl) (by exact fun _ _ _ h => h) (by rfl) (by intro W hW; go_simp; try with_reducible rfl) ?_
        simp only [Act.put, List.setIfInBounds_toArray, List.set_cons_zero, List.set_cons_succ]
        refine up_take (by exact (atS (atS (atS (atS (atS (atS at0))))))) (by kernel_rfl) (by exact fun _ _ _ h => h) (by rfl) (by intro W hW; go_simp; try with_reducible rfl) ?_
        simp only [Act.put, List.setIfInBounds_toArray, List.set_cons_zero, List.set_cons_succ]
        refine up_take (by exact (atS (atS (atS (atS (atS (atS (atS at0)))))))) (by kernel_rfl) (by exact fun _ _ _ h => h) (by rfl) (by intro W hW; go_simp; try with_reducible rfl) ?_
        simp only [Act.put, List.setIfInBounds_toArray, List.set_cons_zero, List.set_cons_succ]
        refine up_take (by exact (atS (atS (atS (atS (atS (atS (atS (atS at0))))))))) (by kernel_rfl) (by exact fun _ _ _ h => h) (by rfl) (by intro W hW; have q := cell_up X0.out hW (by exact NG.out); go_simp; try with_reducible rfl) ?_
        simp only [Act.put, List.setIfInBounds_toArray, List.set_cons_zero, List.set_cons_succ]
        refine up_take (by exact (atS (atS (atS (atS (atS (atS (atS (atS (atS at0)))))))))) (by kernel_rfl) (by exact fun _ _ _ h => h) (by rfl) (by intro W hW; go_simp; try with_reducible rfl) ?_
        simp only [Act.put, List.setIfInBounds_toArray, List.set_cons_zero, List.set_cons_succ]
        refine up_take (by exact (atS (atS (atS (atS (atS (atS (atS (atS (atS (atS at0))))))))))) (by kernel_rfl) (by exact fun _ _ _ h => h) (by rfl) (by intro W hW; go_simp; try with_reducible rfl) ?_
        simp only [Act.put, List.setIfInBounds_toArray, List.set_cons_zero, List.set_cons_succ]
        refine up_take (by exact (atS (atS (atS (atS (atS (atS (atS (atS (atS (atS (atS at0)))))))))))) (by kernel_rfl) (by exact fun _ _ _ h => h) (by rfl) (by intro W hW; go_simp; try with_reducible rfl) ?_
        simp only [Act.put, List.setIfInBounds_toArray, List.set_cons_zero, List.set_cons_succ]
        refine up_one (by exact (atS (atS (atS (atS (atS (atS (atS (atS (atS (atS (atS (atS at0))))))))))))) (by kernel_rfl) (fun K hK => ?_)
        go_simp
        refine hK.out _ _ (Kept.refl _ _) ?_
        clear hK K
        refine up_take (by exact (atS (atS (atS (atS (atS (atS (atS (atS (atS (atS (atS (atS (atS at0)))))))))))))) (by kernel_rfl) (by exact fun _ _ _ h => h) (by rfl) (by intro W hW; go_simp; try with_reducible rfl) ?_
        simp only [Act.put, List.setIfInBounds_toArray, List.set_cons_zero, List.set_cons_succ]
        refine up_take (by exact (atS (atS (atS (atS (atS (atS (atS (atS (atS (atS (atS (atS (atS (atS at0))))))))))))))) (by kernel_rfl) (by exact fun _ _ _ h => h) (by rfl) (by intro W hW; go_simp; try with_reducible rfl) ?_
        simp only [Act.put, List.setIfInBounds_toArray, List.set_cons_zero, List.set_cons_succ]
        refine up_take (by exact (atS (atS (atS (atS (atS (atS (atS (atS (atS (atS (atS (atS (atS (atS (atS at0)))))))))))))))) (by kernel_rfl) (by exact fun _ _ _ h => h) (by rfl) (by intro W hW; go_simp; try with_reducible rfl) ?_
        simp only [Act.put, List.setIfInBounds_toArray, List.set_cons_zero, List.set_cons_succ]
        refine up_one (by exact (atS (atS (atS (atS (atS (atS (atS (atS (atS (atS (atS (atS (atS (atS (atS (atS at0))))))))))))))))) (by kernel_rfl) (fun K hK => ?_)
        go_simp
        refine hK.out _ _ (Kept.grown (grown_set _ r _ _) (fun k hk => by injection hk with hk; exact hk.symm)) ?_
        clear hK K
        refine up_done (by kernel_rfl) ?_
        go_wp2_with fail
        go_ret
        have hd3 := (drew_at HD2.out).setAt (i := p) (r := r) (c := c) (by rw [(spendR_E d).2, (spendR_E d).1]; exact HV.out) (p * 3 + 2) (.int .i64 (f.bytes.length : Int)) { f with safe := f.bytes.length } (by rw [(spendR_E d).1, rcells_sets' HGT.out f.bytes.length]) ⟨((drew_at HD2.out).2.2.2 f (by rw [(spendR_E d).1]; exact HFM.out)).1, Nat.le_refl _⟩
        refine rstep_mk rfl hd3 ?_ (turn_kept (dd := spendR d) (rkept HB.out HK2.out) (drew_b (Below.refl _ _)) (by rw [(spendR_E d).2, HV.out]; rfl) (.inl (spendR_E d).2)) (.inl (spendR_E d).2) (fun x hx => ?_)
        · have hu := HUP.out f.v f.bytes
          rw [← spendR_abs]
          show ADisk.mk _ _ _ _ (((spendR d).E.set p { f with safe := f.bytes.length }).map absRF) = _
          rw [(spendR_E d).1]
          have e1 : (⟨n, f.v, f.bytes, f.bytes.length⟩ : RF) = { f with safe := f.bytes.length } := by rw [← HNM.out]
          rw [e1] at hu
          rw [hu, ← HNM.out]
          rfl
        · have hx' : x ∈ d.E.set p { f with safe := f.bytes.length } := by rw [← (spendR_E d).1]; exact hx
          exact mem_set_v (P := fun x => (∃ f ∈ d.E, x.v = f.v) ∨ ∀ k, x.v.ownBlock = some k → w.heap.size ≤ k) hx' (.inl ⟨f, HFM.out, rfl⟩) (fun y hy => .inl ⟨y, hy, rfl⟩)
end Go.Proofs.Ytincdegoiknfhab
