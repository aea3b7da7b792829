/-
  The document's disk: Crash. Conditions: there are at most a million files, of at most 2^40 bytes.
-/
import Derived.Test.YtincdegoiknfhabJSync
import Derived.Deep.DeepCutAuto
namespace Go.Proofs.Ytincdegoiknfhab
open Go.RowKit

theorem bytes_to (W : World) (A : Option Addr) (m c n : Nat) (hn : n ≤ c) :
    (Instr.slice 36 (.slice A m c) none (some (.int .i64 (n : Int))) none).run Try.prog W = .ok (.slice A n c) W := by
  have ht := Try.underlying36
  have ht' : Try.prog.underlying 36 = some (.slice (Try.prog.elem 36)) := by simp [Program.elem, ht]
  have he : Try.prog.elem 36 = 5 := by simp [Program.elem, ht]
  rw [run_slice_h W 36 _ _ _ ht' .i64 (n : Int) (by omega) (by omega), he, Try.sizeOf5]
  cases A <;> simp [Result.andThen, sliced, Addr.add]
/-- How many bytes more are left. -/
def moreN (f : RF) (kept : Int) : Nat := (max 0 (min kept ((f.bytes.length : Int) - (f.safe : Int)))).toNat
def cutR (f : RF) (kept : Int) (v : Value) : RF := ⟨f.name, v, f.bytes.take (f.safe + moreN f kept), f.safe + moreN f kept⟩
theorem cutR_abs (f : RF) (kept : Int) (v : Value) : absRF (cutR f kept v) = cutA (absRF f) kept := rfl
theorem crash2_drop : ∀ (L : List AFile) (ks : List Int), ∃ j, j ≤ L.length ∧ (crash2 L ks).2 = ks.drop j
  | [], ks => ⟨0, Nat.le_refl _, rfl⟩
  | f :: r, ks => by
    rw [crash2]
    split
    · obtain ⟨j, h1, h2⟩ := crash2_drop r ks
      exact ⟨j, by rw [List.length_cons]; omega, h2⟩
    · obtain ⟨j, h1, h2⟩ := crash2_drop r ks.tail
      refine ⟨j + 1, by rw [List.length_cons]; omega, ?_⟩
      rw [h2, ← List.drop_one, List.drop_drop, Nat.add_comm]
theorem head_drop (ks : List Int) (j : Nat) : (ks.drop j).headD 0 = ks.getD j 0 := by
  rw [List.getD_eq_getElem?_getD, ← List.head?_drop]
  cases ks.drop j <;> rfl
theorem tail_drop (ks : List Int) (j : Nat) : (ks.drop j).tail = ks.drop (j + 1) := by rw [← List.drop_one, List.drop_drop]
/-- What a round of the crash makes of the rows, in plain words. -/
theorem crash_rows {E' : List RF} {L : List AFile} {ks : List Int} {k : Nat} (hk : k < L.length) (hE : E'.map absRF = (crash2 (L.take k) ks).1 ++ L.drop k) : k < E'.length ∧ ∀ f, E'[k]? = some f → absRF f = L[k] := by
  have hl : E'.length = L.length := by
    have := congrArg List.length hE
    rw [List.length_map, List.length_append, crash2_len, List.length_take, List.length_drop] at this
    omega
  refine ⟨by omega, fun f hf => ?_⟩
  have h1 : (E'.map absRF)[k]? = some (absRF f) := by rw [List.getElem?_map, hf]; rfl
  rw [hE, List.getElem?_append_right (by rw [crash2_len, List.length_take]; omega), crash2_len, List.length_take, Nat.min_eq_left (by omega), Nat.sub_self, List.getElem?_drop, Nat.add_zero, List.getElem?_eq_getElem hk] at h1
  injection h1 with h1
  exact h1.symm
theorem crash_next {E' : List RF} {L : List AFile} {ks : List Int} {k j : Nat} (hk : k < L.length) (hE : E'.map absRF = (crash2 (L.take k) ks).1 ++ L.drop k) (hj : (crash2 (L.take k) ks).2 = ks.drop j) {f e' : RF} (hf : E'[k]? = some f)
    (h : (f.safe = f.bytes.length ∧ absRF e' = absRF f ∧ ∃ j', j' = j) ∨ (¬ f.safe = f.bytes.length ∧ absRF e' = cutA (absRF f) (ks.getD j 0) ∧ ∃ j', j' = j + 1)) :
    (E'.set k e').map absRF = (crash2 (L.take (k + 1)) ks).1 ++ L.drop (k + 1) ∧ (crash2 (L.take (k + 1)) ks).2 = ks.drop (if f.safe = f.bytes.length then j else j + 1) := by
  obtain ⟨h1, h2⟩ := crash_rows hk hE
  have hLk := h2 f hf
  have e0 : L.take (k + 1) = L.take k ++ [L[k]] := List.take_succ_eq_append_getElem hk
  have hlen : (crash2 (L.take k) ks).1.length = k := by rw [crash2_len, List.length_take]; omega
  have hset : (E'.set k e').map absRF = (crash2 (L.take k) ks).1 ++ absRF e' :: L.drop (k + 1) := by
    rw [List.map_set, hE, List.drop_eq_getElem_cons hk, List.set_append_right _ _ (by omega), hlen, Nat.sub_self]
    rfl
  have hs : (L[k].safe = L[k].bytes.length) ↔ (f.safe = f.bytes.length) := by rw [← hLk]; exact Iff.rfl
  rw [e0, crash2_snoc]
  rcases h with ⟨a1, a2, _⟩ | ⟨a1, a2, _⟩
  · rw [if_pos (hs.2 a1), if_pos a1, hset]
    refine ⟨?_, hj⟩
    rw [a2, hLk]
    simp
  · rw [if_neg (fun e => a1 (hs.1 e)), if_neg a1, hset]
    refine ⟨?_, ?_⟩
    · rw [a2, hLk]
      show _ = (crash2 (L.take k) ks).1 ++ [cutA L[k] ((crash2 (L.take k) ks).2.headD 0)] ++ L.drop (k + 1)
      rw [hj, head_drop]
      simp
    · show (crash2 (L.take k) ks).2.tail = _
      rw [hj, tail_drop]
def RCrashRel (d : RDisk) (lo g : Nat) (ks : List Int) (w : World) (u4 u5 : Value) (W : World) : Prop :=
  ∃ k j E', k ≤ d.E.length ∧ j ≤ k ∧ u5 = .int .i64 (k : Int) ∧ u4 = .int .i64 (j : Int) ∧ RDiskAt W lo g { d with E := E' } ∧ E'.map absRF = (crash2 ((absR d).L.take k) ks).1 ++ (absR d).L.drop k ∧ (crash2 ((absR d).L.take k) ks).2 = ks.drop j ∧
    KeptOff (fun k => k = g ∨ d.v.ownBlock = some k) w W ∧ (∀ x ∈ E', (∃ f ∈ d.E, x.v = f.v) ∨ ∀ k, x.v.ownBlock = some k → w.heap.size ≤ k)
/-- The file at k, as memory has it in a world where a block of the call's own was laid. -/
theorem crash_at {W : World} {lo g : Nat} {d : RDisk} {E' : List RF} {k r c : Nat} (hd : RDiskAt W lo g { d with E := E' }) (hv : d.v = .slice (some ⟨r, 0, none⟩) d.E.length c) {f : RF} (hf : E'[k]? = some f) : W.cell? ⟨g, 0, none⟩ = some (.slice (some ⟨r, 0, none⟩) d.E.length c) ∧ W.cell? ⟨r, k * 3, none⟩ = some (.string (str f.name)) ∧ W.cell? ⟨r, k * 3 + 1, none⟩ = some f.v ∧ W.cell? ⟨r, k * 3 + 2, none⟩ = some (.int .i64 (f.safe : Int)) ∧ (∀ j, W.frozen? ⟨r, j, none⟩ = false) ∧ r < W.heap.size ∧ r ≠ g ∧ RFile W lo f := by
  obtain ⟨hl, he⟩ := List.getElem?_eq_some_iff.1 hf
  obtain ⟨r', c', hv', _, hrs, y0, y1, y2, y3⟩ := hd.cells (i := k) hl
  have hvv : d.v = .slice (some ⟨r', 0, none⟩) E'.length c' := hv'
  rw [hv] at hvv
  injection hvv with e1 e2 e3
  injection e1 with e1
  injection e1 with e1
  subst e1
  have hee : ({ d with E := E' } : RDisk).E[k] = f := he
  rw [hee] at y0 y1 y2
  refine ⟨by rw [← hv]; exact hd.2.1.cell 0, y0, y1, y2, y3, hrs, hd.rowNe r (by show d.v.ownBlock = _; rw [hv]; rfl), ?_⟩
  rw [← he]
  exact hd.2.2.2 _ (List.getElem_mem hl)
set_option maxHeartbeats 12800000 in
set_option maxRecDepth 100000 in
theorem rcrash {w : World} {lo g : Nat} {d : RDisk} (h : RDiskAt w lo g d) (hw : WfA (absR d)) (v : Value) (ks : List Int) (hk : RdK w (fun x => ¬ RW g d x) v ks) :
    Calls Try.prog 41 #[.pointer (some ⟨g, 0, none⟩), v] w (RStep w lo g d (crashA (absR d) ks) (.tuple #[])) := by
  have HE := Lib.hid (wf_len hw)
  have HWM : Hid (∀ f ∈ (absR d).L, f.bytes.length ≤ 1099511627776) := Lib.hid fun f hf => Nat.le_trans (usedA_mem hf) hw.2.2.2.2.2
  have H := Lib.hid h
  obtain ⟨Ak, ck, rfl, hk1, hk2, hk3⟩ := hk
  have HK3 := Lib.hid hk3
  have HKL : Hid ((ks.length : Int) ≤ 9223372036854775807) := Lib.hid (by unfold maxLen at hk2; omega)
  clear h hw hk1 hk2 hk3
  go_enter Try.func41, Try.ntmps41
  go_wp2_with fail
  go_loopw [4, 5] (RCrashRel d lo g ks w) (fun _ i _ => d.E.length - (intOf i).toNat)
  case atStart => exact ⟨0, 0, d.E, Nat.zero_le _, Nat.le_refl _, rfl, rfl, H.out, rfl, rfl, KeptOff.refl _ _, fun x hx => .inl ⟨x, hx, rfl⟩⟩
  case round =>
    obtain ⟨k, j, E', hkl, hjk, rfl, rfl, hd, hL, hj, hoff, hfs⟩ := hrel
    have HD := Lib.hid hd
    have HL := Lib.hid hL
    have HJ := Lib.hid hj
    have HJK := Lib.hid hjk
    have HOF := Lib.hid hoff
    have HFS := Lib.hid hfs
    have HEL : Hid (E'.length = d.E.length) := Lib.hid (by
      have := congrArg List.length hL
      rw [List.length_map, List.length_append, crash2_len, List.length_take, List.length_drop, absR_len] at this
      omega)
    clear hd hL hj hoff hfs hjk
    by_cases hlt : k < d.E.length
    · have hltE : k < E'.length := by rw [HEL.out]; exact hlt
      obtain ⟨r, c, hv, u1, hrs, u2, u3, u4, u5⟩ := HD.out.cells (i := k) hltE
      clear u1 u2 u3 u4 u5
      have hv' : d.v = .slice (some ⟨r, 0, none⟩) d.E.length c := by rw [← HEL.out]; exact hv
      have HV := Lib.hid hv'
      have HV3 : Hid (d.v = .slice (some ⟨r, 0, none⟩) E'.length c) := Lib.hid hv
      obtain ⟨f, hf⟩ : ∃ f, E'[k]? = some f := ⟨_, List.getElem?_eq_getElem hltE⟩
      have HGT := Lib.hid hf
      have HLT := Lib.hid hlt
      have HRW := Lib.hid hrs
      have hfa := (crash_rows (L := (absR d).L) (by rw [absR_len]; exact hlt) HL.out).2 f hf
      have HBL : Hid (f.bytes.length ≤ 1099511627776) := Lib.hid (by
        have h1 := HWM.out _ (List.getElem_mem (l := (absR d).L) (n := k) (by rw [absR_len]; exact hlt))
        rw [← hfa] at h1
        exact h1)
      obtain ⟨y0, y1a, y1, y2, u1, u2, u3, yf⟩ := crash_at HD.out hv' hf
      clear u1 u2 u3
      obtain ⟨A3, c3, hA3⟩ := row_shape yf.1
      have HA3 := Lib.hid hA3
      rw [hA3] at y1
      have hcap : f.bytes.length ≤ c3 := by
        obtain ⟨A', c', e', h1, _⟩ := yf.1.rd (Nat.le_refl _)
        rw [hA3] at e'
        injection e' with _ _ e3
        omega
      have hsb := yf.2
      have hlc : d.E.length ≤ c := by
        obtain ⟨A', c', e', h1, _⟩ := HD.out.vshape
        have e'' : d.v = .slice A' E'.length c' := e'
        rw [hv] at e''
        injection e'' with _ _ e3
        have h1' : E'.length ≤ c' := h1
        rw [← HEL.out]
        omega
      have HLO3 : Hid (lo ≤ wr.heap.size) := Lib.hid (by have := HD.out.ltg; omega)
      have HCAP := Lib.hid hcap
      have hE6 := HE.out
      have hj6 := HJK.out
      have hi0 : (k : Int) < (d.E.length : Int) := by omega
      have hi1 : (d.E.length : Int) ≤ (c : Int) := by omega
      clear hv hv' hltE hf hfa hA3 yf hrs hlc
      by_cases hsafe : f.safe = f.bytes.length
      · have HSF := Lib.hid hsafe
        have t1 : decide ((f.safe : Int) < (f.bytes.length : Int)) = false := decide_eq_false (by omega)
        have t1i : ¬ (f.safe : Int) < (f.bytes.length : Int) := by omega
        have t1n : ¬ f.safe < f.bytes.length := by omega
        clear hsafe hsb hcap
        go_wp2_with ((with_reducible refine wpList_store_file rfl (.tmp 6) (.tmp 23) rfl wr.heap.size _ _ _ (str f.name) A3 f.bytes.length c3 (f.safe : Int) rfl rfl (Blk.fresh _ _ _) ?_); intro w3 hb3 hg3; have hb24 : Below wr.heap.size wr w3 := ((Below.refl wr.heap.size wr).alloc (Nat.le_refl _) _).grown hg3 (by simp) (fun k hk => by injection hk with hk; omega); have HB24 := Lib.hid hb24; have B3 := Lib.hid hb3; have HD3 := Lib.hid (HD.out.below hb24); have z1 : w3.cell? ⟨wr.heap.size, 1, none⟩ = some (.slice A3 f.bytes.length c3) := hb3.cell 1; have z2 : w3.cell? ⟨wr.heap.size, 2, none⟩ = some (.int .i64 (f.safe : Int)) := hb3.cell 2; clear hb3 hg3 hb24 y0 y1a y1 y2)
        obtain ⟨x0, _, x1, x2, x4, xr, xn, xf⟩ := crash_at HD3.out HV.out HGT.out
        have X0 : Hid (w3.drew.cell? ⟨g, 0, none⟩ = some (.slice (some ⟨r, 0, none⟩) d.E.length c)) := Lib.hid x0
        rw [HA3.out] at x1
        have NG : Hid (¬ (fun k => k = r) g) := Lib.hid (fun e => xn e.symm)
        have z3 := x4 (k * 3 + 2)
        clear x0 x4 xr xn xf
        refine up_start (fun k => k = r) (by kernel_rfl) ?_
        refine up_take (by exact at0) (by kernel_rfl) (by exact fun _ _ _ h => h) (by rfl) (by intro W hW; go_simp; try with_reducible rfl) ?_
        simp only [Act.put, List.setIfInBounds_toArray, List.set_cons_zero, List.set_cons_succ]
        refine up_take (by exact (atS at0)) (by kernel_rfl) (by exact fun _ _ _ h => h) (by rfl) (by intro W hW; go_simp; try with_reducible rfl) ?_
        simp only [Act.put, List.setIfInBounds_toArray, List.set_cons_zero, List.set_cons_succ]
        refine up_take (by exact (atS (atS at0))) (by kernel_rfl) (by exact fun _ _ _ h => h) (by rfl) (by intro W hW; go_simp; try with_reducible rfl) ?_
        simp only [Act.put, List.setIfInBounds_toArray, List.set_cons_zero, List.set_cons_succ]
        refine up_take (by exact (atS (atS (atS at0)))) (by kernel_rfl) (by exact fun _ _ _ h => h) (by rfl) (by intro W hW; have q := cell_up X0.out hW (by exact NG.out); go_simp; try with_reducible rfl) ?_
        simp only [Act.put, List.setIfInBounds_toArray, List.set_cons_zero, List.set_cons_succ]
        refine up_take (by exact (atS (atS (atS (atS at0))))) (by kernel_rfl) (by exact fun _ _ _ h => h) (by rfl) (by intro W hW; go_simp; try with_reducible rfl) ?_
        simp only [Act.put, List.setIfInBounds_toArray, List.set_cons_zero, List.set_cons_succ]
        refine up_take (by exact (atS (atS (atS (atS (atS at0)))))) (by kernel_rfl) (by exact fun _ _ _ h => h) (by rfl) (by intro W hW; go_simp; try with_reducible rfl) ?_
        simp only [Act.put, List.setIfInBounds_toArray, List.set_cons_zero, List.set_cons_succ]
        refine up_take (by exact (atS (atS (atS (atS (atS (atS at0))))))) (by kernel_rfl) (by exact fun _ _ _ h => h) (by rfl) (by intro W hW; go_simp; try with_reducible rfl) ?_
        simp only [Act.put, List.setIfInBounds_toArray, List.set_cons_zero, List.set_cons_succ]
        refine up_take (by exact (atS (atS (atS (atS (atS (atS (atS at0)))))))) (by kernel_rfl) (by exact fun _ _ _ h => h) (by rfl) (by intro W hW; go_simp; try with_reducible rfl) ?_
        simp only [Act.put, List.setIfInBounds_toArray, List.set_cons_zero, List.set_cons_succ]
        refine up_take (by exact (atS (atS (atS (atS (atS (atS (atS (atS at0))))))))) (by kernel_rfl) (by exact fun _ _ _ h => h) (by rfl) (by intro W hW; have q := cell_up X0.out hW (by exact NG.out); go_simp; try with_reducible rfl) ?_
        simp only [Act.put, List.setIfInBounds_toArray, List.set_cons_zero, List.set_cons_succ]
        refine up_take (by exact (atS (atS (atS (atS (atS (atS (atS (atS (atS at0)))))))))) (by kernel_rfl) (by exact fun _ _ _ h => h) (by rfl) (by intro W hW; go_simp; try with_reducible rfl) ?_
        simp only [Act.put, List.setIfInBounds_toArray, List.set_cons_zero, List.set_cons_succ]
        refine up_take (by exact (atS (atS (atS (atS (atS (atS (atS (atS (atS (atS at0))))))))))) (by kernel_rfl) (by exact fun _ _ _ h => h) (by rfl) (by intro W hW; go_simp; try with_reducible rfl) ?_
        simp only [Act.put, List.setIfInBounds_toArray, List.set_cons_zero, List.set_cons_succ]
        refine up_take (by exact (atS (atS (atS (atS (atS (atS (atS (atS (atS (atS (atS at0)))))))))))) (by kernel_rfl) (by exact fun _ _ _ h => h) (by rfl) (by intro W hW; go_simp; try with_reducible rfl) ?_
        simp only [Act.put, List.setIfInBounds_toArray, List.set_cons_zero, List.set_cons_succ]
        refine up_one (by exact (atS (atS (atS (atS (atS (atS (atS (atS (atS (atS (atS (atS at0))))))))))))) (by kernel_rfl) (fun K hK => ?_)
        go_simp
        refine hK.out _ _ (Kept.refl _ _) ?_
        clear hK K
        refine up_take (by exact (atS (atS (atS (atS (atS (atS (atS (atS (atS (atS (atS (atS (atS at0)))))))))))))) (by kernel_rfl) (by exact fun _ _ _ h => h) (by rfl) (by intro W hW; go_simp; try with_reducible rfl) ?_
        simp only [Act.put, List.setIfInBounds_toArray, List.set_cons_zero, List.set_cons_succ]
        refine up_take (by exact (atS (atS (atS (atS (atS (atS (atS (atS (atS (atS (atS (atS (atS (atS at0))))))))))))))) (by kernel_rfl) (by exact fun _ _ _ h => h) (by rfl) (by intro W hW; go_simp; try with_reducible rfl) ?_
        simp only [Act.put, List.setIfInBounds_toArray, List.set_cons_zero, List.set_cons_succ]
        refine up_take (by exact (atS (atS (atS (atS (atS (atS (atS (atS (atS (atS (atS (atS (atS (atS (atS at0)))))))))))))))) (by kernel_rfl) (by exact fun _ _ _ h => h) (by rfl) (by intro W hW; go_simp; try with_reducible rfl) ?_
        simp only [Act.put, List.setIfInBounds_toArray, List.set_cons_zero, List.set_cons_succ]
        refine up_one (by exact (atS (atS (atS (atS (atS (atS (atS (atS (atS (atS (atS (atS (atS (atS (atS (atS at0))))))))))))))))) (by kernel_rfl) (fun K hK => ?_)
        go_simp
        refine hK.out _ _ (Kept.grown (grown_set _ r _ _) (fun k hk => by injection hk with hk; exact hk.symm)) ?_
        clear hK K
        refine up_done (by kernel_rfl) ?_
        go_wp2_with fail
        have hd5 := (drew_at HD3.out).setAt (i := k) (r := r) (c := c) HV3.out (k * 3 + 2) (.int .i64 (f.bytes.length : Int)) { f with safe := f.bytes.length } (rcells_sets' HGT.out f.bytes.length) ⟨((drew_at HD3.out).2.2.2 f (List.mem_of_getElem? HGT.out)).1, Nat.le_refl _⟩
        have HD5 := Lib.hid hd5
        clear hd5
        go_roundw
        case rel =>
          obtain ⟨r1, r2⟩ := crash_next (by rw [absR_len]; exact HLT.out) HL.out HJ.out HGT.out (e' := { f with safe := f.bytes.length }) (.inl ⟨HSF.out, by show AFile.mk _ _ _ = _; rw [← HSF.out]; rfl, j, rfl⟩)
          rw [if_pos HSF.out] at r2
          exact ⟨k + 1, j, _, by have := HLT.out; omega, by have := HJK.out; omega, by go_num, rfl, by exact HD5.out, r1, r2, turn_kept (dd := d) HOF.out (drew_b HB24.out) (by rw [HV.out]; rfl) (.inl rfl), fun x hx => mem_set_v (P := fun x => (∃ f ∈ d.E, x.v = f.v) ∨ ∀ k, x.v.ownBlock = some k → w.heap.size ≤ k) hx (HFS.out f (List.mem_of_getElem? HGT.out)) HFS.out⟩
        case measure => simp [intOf]; omega
      · have HSF := Lib.hid hsafe
        have hsl : f.safe < f.bytes.length := by omega
        obtain ⟨T, hT⟩ : ∃ T, T = f.safe + moreN f (ks.getD j 0) := ⟨_, rfl⟩
        have HTN := Lib.hid hT
        have hTb : T ≤ f.bytes.length := by rw [hT]; unfold moreN; omega
        have HMB := Lib.hid hTb
        have HMC : Hid (T ≤ c3) := Lib.hid (by omega)
        have HST : Hid (f.safe ≤ T) := Lib.hid (by rw [hT]; omega)
        have hmv : (T : Int) = (f.safe : Int) + max 0 (min (ks.getD j 0) ((f.bytes.length : Int) - (f.safe : Int))) := by rw [hT]; unfold moreN; omega
        have hbl2 := HBL.out
        have t0 : decide ((f.safe : Int) < (f.bytes.length : Int)) = true := decide_eq_true (by omega)
        obtain ⟨D, hD⟩ : ∃ D : Int, (f.bytes.length : Int) - (f.safe : Int) = D := ⟨_, rfl⟩
        have hD0 : 0 < D := by omega
        have hD1 : D ≤ 1099511627776 := by omega
        have HDD := Lib.hid hD
        rw [hD] at hmv
        obtain ⟨Z, hZ⟩ : ∃ Z : Int, Z = max 0 (ks.getD j 0) := ⟨_, rfl⟩
        obtain ⟨Y, hY⟩ : ∃ Y : Int, Y = min Z D := ⟨_, rfl⟩
        have HWR : Hid (IntKind.i64.wrap ((f.safe : Int) + Y) = (T : Int)) := Lib.hid (by rw [IntWalk.i64_in _ (by omega)]; omega)
        have HZ := Lib.hid hZ
        have HY := Lib.hid hY
        have HD0 := Lib.hid (And.intro hD0 hD1)
        clear hT hsafe hcap hmv hbl2 hsb hZ hY hD0 hD1 hD
        go_upto_region 7 with ((with_reducible refine wpList_store_file rfl (.tmp 6) (.tmp 23) rfl wr.heap.size _ _ _ (str f.name) A3 f.bytes.length c3 (f.safe : Int) rfl rfl (Blk.fresh _ _ _) ?_); intro w3 hb3 hg3; have hb24 : Below wr.heap.size wr w3 := ((Below.refl wr.heap.size wr).alloc (Nat.le_refl _) _).grown hg3 (by simp) (fun k hk => by injection hk with hk; omega); have HB24 := Lib.hid hb24; have B3 := Lib.hid hb3; have HD3 := Lib.hid (HD.out.below hb24); have z1 : w3.cell? ⟨wr.heap.size, 1, none⟩ = some (.slice A3 f.bytes.length c3) := hb3.cell 1; have z2 : w3.cell? ⟨wr.heap.size, 2, none⟩ = some (.int .i64 (f.safe : Int)) := hb3.cell 2; clear hb3 hg3 hb24 y0 y1a y1 y2)
        obtain ⟨B, hB⟩ : ∃ B, B = decide (0 < ks.getD j 0) := ⟨_, rfl⟩
        have HBB := Lib.hid hB
        clear hB
        have z1h := Lib.hid z1
        have z2h := Lib.hid z2
        clear t0
        go_cut [40] (fun b W => b = .bool B ∧ w3 = W)
        case first =>
          by_cases hjl : j < ks.length
          · obtain ⟨bk, ok, rfl, hAk, hbk, hck⟩ := HK3.out (by omega)
            have hck2 := hck j hjl
            have xk3 : w3.cell? ⟨bk, ok + j, none⟩ = some (.int .i64 ks[j]) := (HB24.out.cell (p := ⟨bk, ok + j, none⟩) (by have := HOF.out.2.2.2.1; show bk < _; omega)).trans ((World.cell?_of_block (w := w) (HOF.out.2.2.2.2 bk hbk (fun h => hAk h))).trans hck2)
            have hgd : ks.getD j 0 = ks[j] := by simp [List.getD, hjl]
            have HGD := Lib.hid hgd
            have hji : (j : Int) < (ks.length : Int) := by omega
            clear hck hAk hbk hgd hck2
            by_cases hq0 : 0 < ks[j]
            · have HB2 : Hid (B = true) := Lib.hid (by rw [HBB.out, HGD.out]; exact decide_eq_true hq0)
              clear HGD
              generalize ks[j] = q at *
              have t2 : decide (0 < q) = true := decide_eq_true hq0
              go_wp2_with fail
              go_meet
              exact ⟨by rw [HB2.out], rfl⟩
            · have HB2 : Hid (B = false) := Lib.hid (by rw [HBB.out, HGD.out]; exact decide_eq_false hq0)
              clear HGD
              generalize ks[j] = q at *
              have t2 : decide (0 < q) = false := decide_eq_false hq0
              go_wp2_with fail
              go_meet
              exact ⟨by rw [HB2.out], rfl⟩
          · have HB2 : Hid (B = false) := Lib.hid (by have hgd : ks.getD j 0 = 0 := (by simp [List.getD, hjl]); rw [HBB.out, hgd]; rfl)
            go_wp2_with fail
            go_meet
            exact ⟨by rw [HB2.out], rfl⟩
        obtain ⟨rfl, hcw⟩ := hcut
        subst hcw
        go_upto_if 40 with fail
        go_cut [7] (fun n W => n = .int .i64 Z ∧ w3 = W)
        case first =>
          by_cases hq0 : 0 < ks.getD j 0
          · have hB : B = true := by rw [HBB.out]; exact decide_eq_true hq0
            have hjl : j < ks.length := by
              apply Classical.byContradiction
              intro hn
              have hgd : ks.getD j 0 = 0 := by simp [List.getD, hn]
              omega
            obtain ⟨bk, ok, rfl, hAk, hbk, hck⟩ := HK3.out (by omega)
            have hck2 := hck j hjl
            have xk3 : w3.cell? ⟨bk, ok + j, none⟩ = some (.int .i64 ks[j]) := (HB24.out.cell (p := ⟨bk, ok + j, none⟩) (by have := HOF.out.2.2.2.1; show bk < _; omega)).trans ((World.cell?_of_block (w := w) (HOF.out.2.2.2.2 bk hbk (fun h => hAk h))).trans hck2)
            have hgd : ks.getD j 0 = ks[j] := by simp [List.getD, hjl]
            have hzq : ks[j] = Z := by have h1 := HZ.out; rw [hgd] at h1 hq0; omega
            rw [hzq] at xk3
            have hji : (j : Int) < (ks.length : Int) := by omega
            subst hB
            clear hck hAk hbk hgd hck2 hzq hq0
            go_wp2_with fail
            go_meet
            exact ⟨rfl, rfl⟩
          · have hB : B = false := by rw [HBB.out]; exact decide_eq_false hq0
            have HZ0 : Hid (Z = 0) := Lib.hid (by have h1 := HZ.out; omega)
            subst hB
            clear hq0
            go_wp2_with fail
            go_meet
            exact ⟨by rw [HZ0.out], rfl⟩
        obtain ⟨rfl, hcw⟩ := hcut
        subst hcw
        have z1 := z1h.out
        have z2 := z2h.out
        have hD' : (f.bytes.length : Int) - (f.safe : Int) = D := HDD.out
        have hD0' : 0 < D := HD0.out.1
        have hD1' : D ≤ 1099511627776 := HD0.out.2
        go_upto_if 52 with fail
        go_cut [7] (fun n W => n = .int .i64 Y ∧ w3 = W)
        case first =>
          by_cases hqD : D < Z
          · have HYD : Hid (Y = D) := Lib.hid (by have h1 := HY.out; omega)
            have t3 : decide (D < Z) = true := decide_eq_true hqD
            go_wp2_with fail
            go_meet
            exact ⟨by rw [HYD.out], rfl⟩
          · have HYD : Hid (Y = Z) := Lib.hid (by have h1 := HY.out; omega)
            have t3 : decide (D < Z) = false := decide_eq_false hqD
            go_wp2_with fail
            go_meet
            exact ⟨by rw [HYD.out], rfl⟩
        obtain ⟨rfl, hcw⟩ := hcut
        subst hcw
        clear hD'
        go_wp2_with fail
        obtain ⟨x0, _, x1, x2, x4, xr, xn, xf⟩ := crash_at HD3.out HV.out HGT.out
        have X0 : Hid (w3.drew.cell? ⟨g, 0, none⟩ = some (.slice (some ⟨r, 0, none⟩) d.E.length c)) := Lib.hid x0
        rw [HA3.out] at x1
        have Y1 := Lib.hid x1
        have Y4 := Lib.hid x4
        have HRS3 := Lib.hid xr
        have HFO : Hid (Own w3 0 5 (.slice A3 f.bytes.length c3) (bvs f.bytes)) := Lib.hid (by rw [← HA3.out]; exact xf.1)
        have hg3 := (HD3.out.lt g (.inl rfl)).2
        have NG : Hid (¬ (fun k => k = r ∨ w3.heap.size ≤ k) g) := Lib.hid (by rintro (h | h); exact xn h.symm; omega)
        have NB : Hid (¬ (fun k => k = r ∨ w3.heap.size ≤ k) wr.heap.size) := Lib.hid (by have h2 := B3.out.lt; have h3 := HRW.out; rintro (h | h) <;> omega)
        have Z1 : Hid (w3.drew.cell? ⟨wr.heap.size, 1, none⟩ = some (.slice A3 f.bytes.length c3)) := Lib.hid z1
        have Z2 : Hid (w3.drew.cell? ⟨wr.heap.size, 2, none⟩ = some (.int .i64 (f.safe : Int))) := Lib.hid z2
        clear x0 x1 x2 x4 xr xn xf z1 z2 hg3
        refine up_start (fun k => k = r ∨ w3.heap.size ≤ k) (by kernel_rfl) ?_
        refine up_take (by exact at0) (by kernel_rfl) (by exact fun _ _ _ h => h) (by rfl) (by intro W hW; go_simp; try with_reducible rfl) ?_
        simp only [Act.put, List.setIfInBounds_toArray, List.set_cons_zero, List.set_cons_succ]
        refine up_take (by exact (atS at0)) (by kernel_rfl) (by exact fun _ _ _ h => h) (by rfl) (by intro W hW; go_simp; try with_reducible rfl) ?_
        simp only [Act.put, List.setIfInBounds_toArray, List.set_cons_zero, List.set_cons_succ]
        refine up_take (by exact (atS (atS at0))) (by kernel_rfl) (by exact fun _ _ _ h => h) (by rfl) (by intro W hW; go_simp; try with_reducible rfl) ?_
        simp only [Act.put, List.setIfInBounds_toArray, List.set_cons_zero, List.set_cons_succ]
        refine up_take (by exact (atS (atS (atS at0)))) (by kernel_rfl) (by exact fun _ _ _ h => h) (by rfl) (by intro W hW; have q := cell_up X0.out hW (by exact NG.out); go_simp; try with_reducible rfl) ?_
        simp only [Act.put, List.setIfInBounds_toArray, List.set_cons_zero, List.set_cons_succ]
        refine up_take (by exact (atS (atS (atS (atS at0))))) (by kernel_rfl) (by exact fun _ _ _ h => h) (by rfl) (by intro W hW; go_simp; try with_reducible rfl) ?_
        simp only [Act.put, List.setIfInBounds_toArray, List.set_cons_zero, List.set_cons_succ]
        refine up_take (by exact (atS (atS (atS (atS (atS (atS at0))))))) (by kernel_rfl) (by exact fun _ _ _ h => h) (by rfl) (by intro W hW; go_simp; try with_reducible rfl) ?_
        simp only [Act.put, List.setIfInBounds_toArray, List.set_cons_zero, List.set_cons_succ]
        refine up_take (by exact (atS (atS (atS (atS (atS (atS (atS at0)))))))) (by kernel_rfl) (by exact fun _ _ _ h => h) (by rfl) (by intro W hW; have q := cell_up Z1.out hW (by exact NB.out); go_simp; try with_reducible rfl) ?_
        simp only [Act.put, List.setIfInBounds_toArray, List.set_cons_zero, List.set_cons_succ]
        refine up_take (by exact (atS (atS (atS (atS (atS (atS (atS (atS at0))))))))) (by kernel_rfl) (by exact fun _ _ _ h => h) (by rfl) (by intro W hW; go_simp; try with_reducible rfl) ?_
        simp only [Act.put, List.setIfInBounds_toArray, List.set_cons_zero, List.set_cons_succ]
        refine up_take (by exact (atS (atS (atS (atS (atS (atS (atS (atS (atS at0)))))))))) (by kernel_rfl) (by exact fun _ _ _ h => h) (by rfl) (by intro W hW; have q := cell_up Z2.out hW (by exact NB.out); go_simp; try with_reducible rfl) ?_
        simp only [Act.put, List.setIfInBounds_toArray, List.set_cons_zero, List.set_cons_succ]
        refine up_take (by exact (atS (atS (atS (atS (atS (atS (atS (atS (atS (atS at0))))))))))) (by kernel_rfl) (by exact fun _ _ _ h => h) (by rfl) (by intro W hW; go_simp; try with_reducible rfl) ?_
        simp only [Act.put, List.setIfInBounds_toArray, List.set_cons_zero, List.set_cons_succ]
        refine up_take (by exact (atS (atS (atS (atS (atS (atS (atS (atS (atS (atS (atS at0)))))))))))) (by kernel_rfl) (by exact fun _ _ _ h => h) (by rfl) (by intro W hW; have q := HWR.out; go_simp; try with_reducible rfl) ?_
        simp only [Act.put, List.setIfInBounds_toArray, List.set_cons_zero, List.set_cons_succ]
        refine up_take (by exact (atS (atS (atS (atS (atS (atS (atS (atS (atS (atS (atS (atS at0))))))))))))) (by kernel_rfl) (by exact fun _ _ _ h => h) (by rfl) (by intro W hW; have q := bytes_to W A3 f.bytes.length c3 T HMC.out; go_simp; try with_reducible rfl) ?_
        simp only [Act.put, List.setIfInBounds_toArray, List.set_cons_zero, List.set_cons_succ]
        refine up_one (by exact (atS (atS (atS (atS (atS at0)))))) (by kernel_rfl) (fun K hK => ?_)
        go_simp
        refine hK.out _ _ (Kept.below ((Below.refl _ _).alloc (Nat.le_refl _) _)) ?_
        clear hK K
        have hbz : Below w3.heap.size w3 (w3.alloc (.cells #[] 5)) := (Below.refl _ _).alloc (Nat.le_refl _) _
        refine up_one (by exact (atS (atS (atS (atS (atS (atS (atS (atS (atS (atS (atS (atS (atS at0)))))))))))))) (by kernel_rfl) (fun K hK => ?_)
        refine step_append_src _ (by rfl) (.tmp 64) (.tmp 71) 36 (by rfl) w3.heap.size 5 (.int .u8 0) 1 Try.underlying36 Try.u8info rfl _ [] (by rfl) (by exact Own.empty _ _ _ rfl) _ (bvs (f.bytes.take (T))) (by rfl) (by exact Rd.src (((own_take HFO.out (T) HMB.out).below (drew_b hbz)).rd (Nat.le_refl _))) (bvs_one _) (by rw [bvs_length, List.length_take]; have := HBL.out; unfold maxLen; simp only [List.length_nil]; omega) (by rw [bvs_length, List.length_take]; have := HBL.out; simp only [List.length_nil]; omega) (by exact hbz.size) ?_
        intro v16 w16 o16 g16 b16 s16
        rw [List.nil_append] at o16
        have O16 := Lib.hid o16
        have B16 := Lib.hid b16
        clear o16 g16 s16
        refine hK.out _ _ (Kept.belowB b16 (fun k hk => .inr hk)) ?_
        clear hK K
        have HB16 : Hid (Below w3.heap.size w3 w16) := Lib.hid ((drew_b hbz).trans B16.out)
        obtain ⟨A16, c16, hv16⟩ := row_shape O16.out
        obtain ⟨L16, hL16⟩ : ∃ L16, L16 = (f.bytes.take (T)).length := ⟨_, rfl⟩
        rw [← hL16] at hv16
        have HL16 := Lib.hid hL16
        clear hL16
        subst hv16
        have y16 : w16.cell? ⟨r, k * 3 + 1, none⟩ = some (.slice A3 f.bytes.length c3) := (HB16.out.cell (p := ⟨r, k * 3 + 1, none⟩) HRS3.out).trans Y1.out
        have z16 : w16.frozen? ⟨r, k * 3 + 1, none⟩ = false := (World.frozen?_of_block (w := w3) (HB16.out.block _ HRS3.out)).trans (Y4.out _)
        clear b16 hbz
        refine up_take (by exact (atS (atS (atS (atS (atS (atS (atS (atS (atS (atS (atS (atS (atS (atS at0))))))))))))))) (by kernel_rfl) (by exact fun _ _ _ h => h) (by rfl) (by intro W hW; go_simp; try with_reducible rfl) ?_
        simp only [Act.put, List.setIfInBounds_toArray, List.set_cons_zero, List.set_cons_succ]
        refine up_take (by exact (atS (atS (atS (atS (atS (atS (atS (atS (atS (atS (atS (atS (atS (atS (atS at0)))))))))))))))) (by kernel_rfl) (by exact fun _ _ _ h => h) (by rfl) (by intro W hW; go_simp; try with_reducible rfl) ?_
        simp only [Act.put, List.setIfInBounds_toArray, List.set_cons_zero, List.set_cons_succ]
        refine up_one (by exact (atS (atS (atS (atS (atS (atS (atS (atS (atS (atS (atS (atS (atS (atS (atS (atS at0))))))))))))))))) (by kernel_rfl) (fun K hK => ?_)
        go_simp
        refine hK.out _ _ (Kept.grown (grown_set _ r _ _) (fun k hk => by injection hk with hk; exact .inl hk.symm)) ?_
        clear hK K
        refine up_done (by kernel_rfl) ?_
        go_wp2_with fail
        have hdm := (HD3.out.below HB16.out).setAt (i := k) (r := r) (c := c) HV3.out (k * 3 + 1) (.slice A16 L16 c16) { f with v := .slice A16 L16 c16, bytes := f.bytes.take (T) } (rcells_setv' HGT.out _ _) ⟨O16.out.more (Nat.zero_le _), by show f.safe ≤ (f.bytes.take (T)).length; rw [List.length_take]; have := HMB.out; have := HST.out; omega⟩
        obtain ⟨e9, he9⟩ : ∃ e9 : RF, e9 = { f with v := .slice A16 L16 c16, bytes := f.bytes.take (T) } := ⟨_, rfl⟩
        rw [← he9] at hdm
        have HE9 := Lib.hid he9
        have HGT9 : Hid ((E'.set k e9)[k]? = some e9) := Lib.hid (by rw [List.getElem?_set_self (List.getElem?_eq_some_iff.1 HGT.out).1])
        have HV9 : Hid (d.v = .slice (some ⟨r, 0, none⟩) (E'.set k e9).length c) := Lib.hid (by rw [List.length_set]; exact HV3.out)
        have hv16 : e9.v = .slice A16 L16 c16 := by rw [he9]
        have HDm := Lib.hid hdm
        obtain ⟨x0, _, x1, x2, x4, xr, xn, xf⟩ := crash_at (d := d) (E' := E'.set k e9) HDm.out HV.out HGT9.out
        have X0 : Hid ((w16.setCell ⟨r, k * 3 + 1, none⟩ (.slice A16 L16 c16)).drew.cell? ⟨g, 0, none⟩ = some (.slice (some ⟨r, 0, none⟩) d.E.length c)) := Lib.hid x0
        rw [hv16] at x1
        have NG2 := NG
        clear NG
        have NG : Hid (¬ (fun k => k = r) g) := Lib.hid (fun e => xn e.symm)
        have z2 := x4 (k * 3 + 2)
        clear x0 x4 xr xn xf hdm he9 hv16
        refine up_start (fun k => k = r) (by kernel_rfl) ?_
        refine up_take (by exact at0) (by kernel_rfl) (by exact fun _ _ _ h => h) (by rfl) (by intro W hW; go_simp; try with_reducible rfl) ?_
        simp only [Act.put, List.setIfInBounds_toArray, List.set_cons_zero, List.set_cons_succ]
        refine up_take (by exact (atS at0)) (by kernel_rfl) (by exact fun _ _ _ h => h) (by rfl) (by intro W hW; go_simp; try with_reducible rfl) ?_
        simp only [Act.put, List.setIfInBounds_toArray, List.set_cons_zero, List.set_cons_succ]
        refine up_take (by exact (atS (atS at0))) (by kernel_rfl) (by exact fun _ _ _ h => h) (by rfl) (by intro W hW; go_simp; try with_reducible rfl) ?_
        simp only [Act.put, List.setIfInBounds_toArray, List.set_cons_zero, List.set_cons_succ]
        refine up_take (by exact (atS (atS (atS at0)))) (by kernel_rfl) (by exact fun _ _ _ h => h) (by rfl) (by intro W hW; have q := cell_up X0.out hW (by exact NG.out); go_simp; try with_reducible rfl) ?_
        simp only [Act.put, List.setIfInBounds_toArray, List.set_cons_zero, List.set_cons_succ]
        refine up_take (by exact (atS (atS (atS (atS at0))))) (by kernel_rfl) (by exact fun _ _ _ h => h) (by rfl) (by intro W hW; go_simp; try with_reducible rfl) ?_
        simp only [Act.put, List.setIfInBounds_toArray, List.set_cons_zero, List.set_cons_succ]
        refine up_take (by exact (atS (atS (atS (atS (atS at0)))))) (by kernel_rfl) (by exact fun _ _ _ h => h) (by rfl) (by intro W hW; go_simp; try with_reducible rfl) ?_
        simp only [Act.put, List.setIfInBounds_toArray, List.set_cons_zero, List.set_cons_succ]
        refine up_take (by exact (atS (atS (atS (atS (atS (atS at0))))))) (by kernel_rfl) (by exact fun _ _ _ h => h) (by rfl) (by intro W hW; go_simp; try with_reducible rfl) ?_
        simp only [Act.put, List.setIfInBounds_toArray, List.set_cons_zero, List.set_cons_succ]
        refine up_take (by exact (atS (atS (atS (atS (atS (atS (atS at0)))))))) (by kernel_rfl) (by exact fun _ _ _ h => h) (by rfl) (by intro W hW; go_simp; try with_reducible rfl) ?_
        simp only [Act.put, List.setIfInBounds_toArray, List.set_cons_zero, List.set_cons_succ]
        refine up_take (by exact (atS (atS (atS (atS (atS (atS (atS (atS at0))))))))) (by kernel_rfl) (by exact fun _ _ _ h => h) (by rfl) (by intro W hW; have q := cell_up X0.out hW (by exact NG.out); go_simp; try with_reducible rfl) ?_
        simp only [Act.put, List.setIfInBounds_toArray, List.set_cons_zero, List.set_cons_succ]
        refine up_take (by exact (atS (atS (atS (atS (atS (atS (atS (atS (atS at0)))))))))) (by kernel_rfl) (by exact fun _ _ _ h => h) (by rfl) (by intro W hW; go_simp; try with_reducible rfl) ?_
        simp only [Act.put, List.setIfInBounds_toArray, List.set_cons_zero, List.set_cons_succ]
        refine up_take (by exact (atS (atS (atS (atS (atS (atS (atS (atS (atS (atS at0))))))))))) (by kernel_rfl) (by exact fun _ _ _ h => h) (by rfl) (by intro W hW; go_simp; try with_reducible rfl) ?_
        simp only [Act.put, List.setIfInBounds_toArray, List.set_cons_zero, List.set_cons_succ]
        refine up_take (by exact (atS (atS (atS (atS (atS (atS (atS (atS (atS (atS (atS at0)))))))))))) (by kernel_rfl) (by exact fun _ _ _ h => h) (by rfl) (by intro W hW; go_simp; try with_reducible rfl) ?_
        simp only [Act.put, List.setIfInBounds_toArray, List.set_cons_zero, List.set_cons_succ]
        refine up_one (by exact (atS (atS (atS (atS (atS (atS (atS (atS (atS (atS (atS (atS at0))))))))))))) (by kernel_rfl) (fun K hK => ?_)
        go_simp
        refine hK.out _ _ (Kept.refl _ _) ?_
        clear hK K
        refine up_take (by exact (atS (atS (atS (atS (atS (atS (atS (atS (atS (atS (atS (atS (atS at0)))))))))))))) (by kernel_rfl) (by exact fun _ _ _ h => h) (by rfl) (by intro W hW; go_simp; try with_reducible rfl) ?_
        simp only [Act.put, List.setIfInBounds_toArray, List.set_cons_zero, List.set_cons_succ]
        refine up_take (by exact (atS (atS (atS (atS (atS (atS (atS (atS (atS (atS (atS (atS (atS (atS at0))))))))))))))) (by kernel_rfl) (by exact fun _ _ _ h => h) (by rfl) (by intro W hW; go_simp; try with_reducible rfl) ?_
        simp only [Act.put, List.setIfInBounds_toArray, List.set_cons_zero, List.set_cons_succ]
        refine up_take (by exact (atS (atS (atS (atS (atS (atS (atS (atS (atS (atS (atS (atS (atS (atS (atS at0)))))))))))))))) (by kernel_rfl) (by exact fun _ _ _ h => h) (by rfl) (by intro W hW; go_simp; try with_reducible rfl) ?_
        simp only [Act.put, List.setIfInBounds_toArray, List.set_cons_zero, List.set_cons_succ]
        refine up_one (by exact (atS (atS (atS (atS (atS (atS (atS (atS (atS (atS (atS (atS (atS (atS (atS (atS at0))))))))))))))))) (by kernel_rfl) (fun K hK => ?_)
        go_simp
        refine hK.out _ _ (Kept.grown (grown_set _ r _ _) (fun k hk => by injection hk with hk; exact hk.symm)) ?_
        clear hK K
        refine up_done (by kernel_rfl) ?_
        go_wp2_with fail
        have hd9 := HDm.out.setAt (i := k) (r := r) (c := c) HV9.out (k * 3 + 2) (.int .i64 (L16 : Int)) { e9 with safe := L16 } (rcells_sets' HGT9.out L16) ⟨(HDm.out.2.2.2 e9 (List.mem_of_getElem? HGT9.out)).1, by rw [HE9.out, HL16.out]; exact Nat.le_refl _⟩
        have HD9 := Lib.hid hd9
        clear hd9
        go_roundw
        case rel =>
          have he9 : { e9 with safe := L16 } = cutR f (ks.getD j 0) (.slice A16 L16 c16) := by
            rw [HE9.out]
            unfold cutR
            rw [← HTN.out, HL16.out, List.length_take, Nat.min_eq_left HMB.out]
          obtain ⟨r1, r2⟩ := crash_next (by rw [absR_len]; exact HLT.out) HL.out HJ.out HGT.out (e' := { e9 with safe := L16 }) (.inr ⟨HSF.out, by rw [he9]; exact cutR_abs _ _ _, j + 1, rfl⟩)
          rw [if_neg HSF.out] at r2
          have hk16 := turn_kept (dd := d) (j := k * 3 + 1) (u := .slice A16 L16 c16) (r := r) HOF.out ((HB24.out).trans (HB16.out.mono HB24.out.size)) (by rw [HV.out]; rfl) (.inl rfl)
          refine ⟨k + 1, j + 1, (E'.set k e9).set k { e9 with safe := L16 }, by omega, by omega, by go_num, by go_num, by exact HD9.out, by rw [List.set_set]; exact r1, r2, ?_, fun x hx => ?_⟩
          · have h9 : KeptOff (fun x => x = g ∨ d.v.ownBlock = some x) w ((w16.setCell ⟨r, k * 3 + 1, none⟩ (.slice A16 L16 c16)).setCell ⟨r, k * 3 + 2, none⟩ (.int .i64 (L16 : Int))) := hk16.trans (KeptOff.set (F := fun x => x = r) _ r _ _ rfl) (fun x (hx : x = r) => .inl (.inr (by rw [HV.out]; show some r = some x; rw [hx])))
            exact h9
          · rw [List.set_set] at hx
            refine mem_set_v (P := fun x => (∃ f ∈ d.E, x.v = f.v) ∨ ∀ k, x.v.ownBlock = some k → w.heap.size ≤ k) hx (.inr fun x hx => ?_) HFS.out
            rw [HE9.out] at hx
            have h1 := (O16.out.ownLt x hx).1
            have h2 := HOF.out.2.2.2.1
            have h3 := HB24.out.size
            omega
        case measure => simp [intOf]; omega
    · have hke : k = d.E.length := by omega
      have x2 : wr.cell? ⟨g, 2, none⟩ = some (.int .i64 d.lasts) := HD.out.2.1.cell 2
      have x3 : wr.cell? ⟨g, 3, none⟩ = some (.bool d.off) := HD.out.2.1.cell 3
      have z2 : wr.frozen? ⟨g, 2, none⟩ = false := HD.out.2.1.free 2
      have z3 : wr.frozen? ⟨g, 3, none⟩ = false := HD.out.2.1.free 3
      obtain ⟨Av, cv, hv, _, _⟩ := HD.out.vshape
      have hv' : d.v = .slice Av E'.length cv := hv
      rw [HEL.out] at hv'
      have x0 : wr.cell? ⟨g, 0, none⟩ = some (.slice Av d.E.length cv) := by rw [← hv']; exact HD.out.2.1.cell 0
      subst hke
      have hL2 := HL.out
      rw [List.take_of_length_le (by rw [absR_len]; exact Nat.le_refl _), List.drop_of_length_le (by rw [absR_len]; exact Nat.le_refl _), List.append_nil] at hL2
      have HL2 := Lib.hid hL2
      have hd1 : RDiskAt (wr.setCell ⟨g, 3, none⟩ (.bool false)) lo g { d with E := E', off := false } := HD.out.set 3 _ rfl rfl rfl
      have hd2 : RDiskAt ((wr.setCell ⟨g, 3, none⟩ (.bool false)).setCell ⟨g, 2, none⟩ (.int .i64 (-1))) lo g { d with E := E', off := false, lasts := -1 } := hd1.set 2 _ rfl rfl rfl
      have HD2 := Lib.hid hd2
      clear hd1 hd2 hv hv' hL2
      go_wp2_with fail
      go_end0
      refine rstep_mk rfl HD2.out ?_ ((HOF.out.trans (KeptOff.set (F := fun k => k = g) wr g 3 _ rfl) fun x hx => .inl (.inl hx)).trans (KeptOff.set (F := fun k => k = g) _ g 2 _ rfl) fun x hx => .inl (.inl hx)) (.inl rfl) HFS.out
      unfold crashA
      rw [← HL2.out]
      rfl
end Go.Proofs.Ytincdegoiknfhab
