/-
  Clone: a disk of its own that is the same. Conditions as in Names.
-/
import Derived.Test.YtincdegoiknfhabKNames
namespace Go.Proofs.Ytincdegoiknfhab
open Go.RowKit
open Go.Maps (Keyed)

/-! ### what is done so far -/
def restE (left : Lit → Bool) (E : List KEnt) : List KEnt := E.filter fun e => !left (.string e.name)
theorem restE_start (E : List KEnt) : restE (Maps.has (mapD E)) E = [] := by
  unfold restE
  rw [List.filter_eq_nil_iff]
  intro e he
  have h : Maps.has (mapD E) (.string e.name) = true := by
    rw [mapD_has, List.any_eq_true]
    exact ⟨e, he, by simp⟩
  rw [h]
  decide
theorem restE_end (left : Lit → Bool) (E : List KEnt) (h : ∀ kl, left kl = false) : restE left E = E := by
  unfold restE
  exact List.filter_eq_self.2 fun e _ => by rw [h]; rfl
theorem restE_step {E : List KEnt} (h : E.Pairwise fun e f => e.name ≠ f.name) {left : Lit → Bool} {e : KEnt} (he : e ∈ E) (hl : left (.string e.name) = true) :
    (e :: restE left E).Perm (restE (fun z => left z && !z.sameKey (.string e.name)) E) := by
  unfold restE
  induction E with
  | nil => cases he
  | cons x r ih =>
    rw [List.pairwise_cons] at h
    rcases List.mem_cons.1 he with e1 | he2
    · subst e1
      have h1 : (r.filter fun f => !(left (.string f.name) && !(Lit.string f.name).sameKey (.string e.name))) = r.filter fun f => !left (.string f.name) :=
        List.filter_congr fun f hf => by
          have hne : (f.name == e.name) = false := by simpa using fun x => h.1 f hf x.symm
          rw [same_str, hne, Bool.not_false, Bool.and_true]
      have h2 : (!(left (.string e.name) && !(Lit.string e.name).sameKey (.string e.name))) = true := by rw [same_str, beq_self_eq_true, hl]; rfl
      have h3 : (!left (.string e.name)) = false := by rw [hl]; rfl
      rw [List.filter_cons_of_neg (by show ¬ (!left (.string e.name)) = true; rw [h3]; exact Bool.false_ne_true), List.filter_cons_of_pos (by exact h2), h1]
    · have hne : (x.name == e.name) = false := by simpa using h.1 e he2
      have h2 : (!(left (.string x.name) && !(Lit.string x.name).sameKey (.string e.name))) = !left (.string x.name) := by rw [same_str, hne, Bool.not_false, Bool.and_true]
      have hih := ih h.2 he2
      cases hx : (!left (.string x.name)) with
      | true =>
        rw [hx] at h2
        rw [List.filter_cons_of_pos (by exact hx), List.filter_cons_of_pos (by exact h2)]
        exact (List.Perm.swap _ _ _).trans (hih.cons _)
      | false =>
        rw [hx] at h2
        rw [List.filter_cons_of_neg (by rw [hx]; exact Bool.false_ne_true), List.filter_cons_of_neg (by rw [h2]; exact Bool.false_ne_true)]
        exact hih
theorem insE_perm (e : KEnt) : ∀ E, (insE e E).Perm (e :: E)
  | [] => List.Perm.refl _
  | f :: r => by
    unfold insE
    split
    · exact List.Perm.refl _
    · exact ((insE_perm e r).cons f).trans (List.Perm.swap _ _ _)
theorem delE_none {n : List UInt8} {E : List KEnt} (h : ∀ f ∈ E, f.name ≠ n) : delE n E = E := by
  unfold delE
  exact List.filter_eq_self.2 fun f hf => by have := h f hf; simp [this]
/-- A file more: the copy so far. -/
theorem clone_perm {E C : List KEnt} (h : E.Pairwise fun e f => e.name ≠ f.name) {left : Lit → Bool} {e e' : KEnt} (he : e ∈ E) (hl : left (.string e.name) = true) (hp : (C.map absF).Perm ((restE left E).map absF)) (ha : absF e' = absF e) :
    ((putE e' C).map absF).Perm ((restE (fun z => left z && !z.sameKey (.string e.name)) E).map absF) ∧ delE e'.name C = C := by
  have hn : e'.name = e.name := congrArg AFile.name ha
  have hd : delE e'.name C = C := delE_none fun f hf hfn => by
    have h1 : absF f ∈ (restE left E).map absF := hp.subset (List.mem_map_of_mem hf)
    obtain ⟨f', hf', hff⟩ := List.mem_map.1 h1
    unfold restE at hf'
    rw [List.mem_filter] at hf'
    have h2 : f'.name = f.name := congrArg AFile.name hff
    have h3 := hf'.2
    rw [h2, hfn, hn, hl] at h3
    cases h3
  refine ⟨?_, hd⟩
  unfold putE
  rw [hd]
  refine ((insE_perm e' C).map absF).trans ?_
  rw [List.map_cons, ha]
  exact (hp.cons _).trans ((restE_step h he hl).map absF)
theorem rise_ext {L M : List AFile} (hp : L.Perm M) (hL : (L.map AFile.name).Pairwise fun a b => bytesBefore a b = true) (hM : (M.map AFile.name).Pairwise fun a b => bytesBefore a b = true) : L = M := by
  rw [List.pairwise_map] at hL hM
  refine List.Perm.eq_of_pairwise (le := fun x y => bytesBefore x.name y.name = true) (fun a b _ _ h1 h2 => ?_) hL hM hp
  exact (List.lt_asymm ((bb_iff _ _).1 h1) ((bb_iff _ _).1 h2)).elim
theorem clone_end {w : World} {b : Nat} {E C : List KEnt} {w2 : World} {b2 : Nat} (h : MapAt w b E) (h2 : MapAt w2 b2 C) (hp : (C.map absF).Perm (E.map absF)) : C.map absF = E.map absF := by
  refine rise_ext hp ?_ ?_
  · rw [List.map_map]; exact h2.sorted
  · rw [List.map_map]; exact h.sorted

/-! ### the walk -/
theorem made_map (N : Int) (W : World) : (Instr.makeMap 62 (some (.int .i64 N))).run Try.prog W = .ok (.map (some W.heap.size)) (W.alloc (.map #[] 0)) := by
  simp [Instr.makeMap, asInt, asIntOf]
theorem step_mapUpdate_in {H : Type} {P : Program} (w : World) {ops : Array Oper} {o : Oper} {a : Act} {K' : Act → World → Prop} {Q : Exit → Act → World → Prop} {E : Prop} (hg : o.guard = none) (m x v : Operand) (t : TypeId) (hop : o.op = Op.mapUpdate t m x v)
    (k e : TypeId) (K : Keyed P k) (ht : P.underlying t = some (.map k e)) (R : Value → Option (DataW H × List MemPlace)) (b n : Nat) (D : DataW H)
    (hm : a.eval m = .map (some b)) (hown : w.ownsMap P k R b n D) (hn : n < maxLen) (key val : Value) (kl : Lit) (hx : a.eval x = key) (hv : a.eval v = val) (hkey : keyOf P k key = some kl)
    (d : DataW H) (ps : List MemPlace) (hval : R val = some (d, ps))
    (hK : ∀ w', w'.ownsMap P k R b (n + 1) (D.put kl d) → w.mapTurned w' b → K' (a.put o.dst undef) w') :
    if Region.wanted o (yielded ops a.tmps) = true then Oper.wp P o a w K' Q else E := by
  have hw : Region.wanted o (yielded ops a.tmps) = true := by simp [Region.wanted, hg]
  rw [if_pos hw]
  obtain ⟨w', hrun, r1, r2⟩ := hown.store K ht hn hkey hval
  unfold Oper.wp
  simp [execOp, hop, hm, hx, hv, hrun, Result.andThen]
  exact hK w' r1 r2
/-- A file more, in a new block: the disk then. -/
theorem put_new {w1 w5 w7 : World} {lo g b : Nat} {d : KDisk} (hd1 : DiskAt w1 lo g b d) (hb : Below w1.heap.size w1 w5) (e' : KEnt) (hg : e'.g = w5.heap.size) (hown : Own w5 lo 5 e'.v (bvs e'.bytes)) (hfr : ∀ k, e'.v.ownBlock = some k → w1.heap.size ≤ k) (hs : e'.safe ≤ e'.bytes.length)
    (hown7 : w7.ownsMap Try.prog 9 ptrR b (d.E.length + 1) ((mapD d.E).put (.string e'.name) (.lit (.int .i64 (e'.g : Int))))) (ht : (w5.alloc (.cells #[e'.v, .int .i64 (e'.safe : Int)] 82)).mapTurned w7 b) :
    DiskAt w7 lo g b { d with E := putE e' d.E } := by
  rw [mapD_put] at hown7
  have hgr : w5.grownBy (w5.alloc (.cells #[e'.v, .int .i64 (e'.safe : Int)] 82)) none := World.grownBy_alloc _ _ _
  have hd5 := hd1.below hb
  have hd6 : DiskAt (w5.alloc (.cells #[e'.v, .int .i64 (e'.safe : Int)] 82)) lo g b d := hd5.keep fun k hk => hgr.block k (hd5.lt k hk).2 (by simp)
  have hlo : lo ≤ w5.heap.size := by have h1 := hd5.1; have h2 := hd5.2.2.1.lt; omega
  have hsz := hb.size
  have hfe : FileAt (w5.alloc (.cells #[e'.v, .int .i64 (e'.safe : Int)] 82)) lo e' := ⟨by rw [hg]; exact hlo, by rw [hg]; exact Blk.fresh _ _ _, hown.alloc _, hs⟩
  refine hd6.remap (turned_off ht) (MapAt.resize hown7) (fun f hf => ?_) (insE_pair (fun f hf => ?_) (hd6.2.2.2.2.2.sublist List.filter_sublist))
  · rcases put_sub hf with rfl | hf
    · exact hfe
    · exact hd6.2.2.2.2.1 f hf
  · have h1 := (delE_mem hf).1
    have h2 := (hd1.lt f.g (.inr (.inr ⟨f, h1, .inl rfl⟩))).2
    refine ⟨by rw [hg]; omega, ?_⟩
    cases hv : e'.v.ownBlock with
    | none => exact .inl rfl
    | some k =>
      right
      intro hx
      have h3 := hfr k hv
      have h4 := (hd1.lt k (.inr (.inr ⟨f, h1, .inr hx.symm⟩))).2
      omega
theorem foot_iter {w : World} {lo g b : Nat} {d : KDisk} (h : DiskAt w lo g b d) {P : Program} {k0 : TypeId} {R0 : Value → Option (DataW Unit × List MemPlace)} {b0 r n cnt : Nat} {D : DataW Unit} {left : Lit → Bool} (hr : w.ranges P k0 R0 b0 r n D left cnt) : ∀ k, Foot g b d.E k → k ≠ r := by
  obtain ⟨es, clock, since, seen, c0, _, _, _, _, hr, _⟩ := hr
  obtain ⟨h1, h2, h3, h4, h5, h6⟩ := h
  rintro k (rfl | rfl | ⟨e, he, rfl | hk⟩) rfl
  · unfold Blk at h3; rw [h3] at hr; cases hr
  · obtain ⟨es2, clock2, hm, _⟩ := h4
    rw [hm] at hr; cases hr
  · have := (h5 e he).2.1
    unfold Blk at this; rw [this] at hr; cases hr
  · obtain ⟨cur, hc⟩ := (h5 e he).2.2.1.rowAt k hk
    rw [hc] at hr; cases hr
/-- What holds at the head of a round. -/
def CloneRel (d : KDisk) (b R H : Nat) (w : World) (_u : Value) (W : World) : Prop :=
  ∃ left cnt C, W.ranges Try.prog 9 ptrR b R d.E.length (mapD d.E) left cnt ∧ Below H w W ∧ DiskAt W H H (H + 1) { d with E := C } ∧ (C.map absF).Perm ((restE left d.E).map absF)
/-- It answers a disk of its own that is the same. -/
def MadeClone (w : World) (d : KDisk) (e : Ending) (w' : World) : Prop := ∃ g2 b2 d2, e = .returned (.pointer (some ⟨g2, 0, none⟩)) ∧ DiskAt w' w.heap.size g2 b2 d2 ∧ absD d2 = absD d ∧ Below w.heap.size w w'
set_option maxHeartbeats 3200000 in
set_option maxRecDepth 100000 in
theorem kclone {w : World} {lo g b : Nat} {d : KDisk} (h : DiskAt w lo g b d) (hE : d.E.length ≤ 1000000) (hu : usedE d.E ≤ 1099511627776) (hnm : ∀ e ∈ d.E, e.name.length ≤ maxLen) : Calls Try.prog 15 #[.pointer (some ⟨g, 0, none⟩)] w (MadeClone w d) := by
  have k1 := kclosed h
  have c0 : w.cell? ⟨g, 0, none⟩ = some (.int .i64 d.q) := h.2.2.1.cell 0
  have c1 : w.cell? ⟨g, 1, none⟩ = some (.map (some b)) := h.2.2.1.cell 1
  have c2 : w.cell? ⟨g, 2, none⟩ = some (.int .i64 d.deeds) := h.2.2.1.cell 2
  have c3 : w.cell? ⟨g, 3, none⟩ = some (.int .i64 d.lasts) := h.2.2.1.cell 3
  have c4 : w.cell? ⟨g, 4, none⟩ = some (.bool d.off) := h.2.2.1.cell 4
  have x1 : ∀ o, (w.alloc o).cell? ⟨g, 1, none⟩ = some (.map (some b)) := fun o => (h.2.2.1.alloc o).cell 1
  have x2 : ∀ o o', ((w.alloc o).alloc o').cell? ⟨g, 1, none⟩ = some (.map (some b)) := fun o o' => ((h.2.2.1.alloc o).alloc o').cell 1
  have xl : ∀ o, (Builtin.len_ #[62] 3 #[.map (some b)]).run Try.prog (w.alloc o) = .ok (.int .i64 (d.E.length : Int)) (w.alloc o) := fun o => mlen (h.2.2.2.1.grown (World.grownBy_alloc _ _ none) (by simp))
  have hmk := made_map (d.E.length : Int)
  have K := Lib.hid k1
  have H := Lib.hid h
  clear k1 h
  go_enter Try.func15, Try.ntmps15
  go_wp2_with (first
    | (go_at_call 43; refine K.out.mono ?_; rintro e w' ⟨rfl, rfl⟩)
    | (at_range; refine wpList_range_own _ rfl _ 62 rfl 9 _ Try.keyed Try.underlying62 ptrR b d.E.length (mapD d.E) rfl ((H.out.2.2.2.1.grown (World.grownBy_alloc _ _ none) (by simp)).grown (World.grownBy_alloc _ _ none) (by simp)) ?_; intro w0 hrg0 hg0 hs0))
  go_frame
  obtain ⟨R, hR⟩ : ∃ R, ((w'.alloc (.cells #[.int .i64 d.q, .map (some (w'.heap.size + 1)), .int .i64 d.deeds, .int .i64 d.lasts, .bool d.off] 64)).alloc (.map #[] 0)).heap.size = R := ⟨_, rfl⟩
  rw [hR] at hrg0 hs0
  rw [hR]
  have hRs : R = w'.heap.size + 2 := by rw [← hR]; simp
  have HRS := Lib.hid hRs
  have hbel0 : Below w'.heap.size w' ((w'.alloc (.cells #[.int .i64 d.q, .map (some (w'.heap.size + 1)), .int .i64 d.deeds, .int .i64 d.lasts, .bool d.off] 64)).alloc (.map #[] 0)) := ((Below.refl _ _).alloc (Nat.le_refl _) _).alloc (by simp) _
  have hbel : Below w'.heap.size w' w0 := hbel0.grown hg0 (by simp; omega) fun k hk => by cases hk
  have hd0 : DiskAt ((w'.alloc (.cells #[.int .i64 d.q, .map (some (w'.heap.size + 1)), .int .i64 d.deeds, .int .i64 d.lasts, .bool d.off] 64)).alloc (.map #[] 0)) w'.heap.size w'.heap.size (w'.heap.size + 1) { d with E := [] } := by
    refine ⟨Nat.le_refl _, Nat.le_succ _, (Blk.fresh _ _ _).alloc _, ?_, fun e he => (by cases he), List.Pairwise.nil⟩
    have hm := MapAt.made (w'.alloc (.cells #[.int .i64 d.q, .map (some (w'.heap.size + 1)), .int .i64 d.deeds, .int .i64 d.lasts, .bool d.off] 64))
    have e : (w'.alloc (.cells #[.int .i64 d.q, .map (some (w'.heap.size + 1)), .int .i64 d.deeds, .int .i64 d.lasts, .bool d.off] 64)).heap.size = w'.heap.size + 1 := by simp
    rw [e] at hm
    exact hm
  have hd00 := hd0.keep (w' := w0) fun k hk => hg0.block k (hd0.lt k hk).2 (by simp)
  clear hR hRs hbel0 hd0
  go_loopw [4] (CloneRel d b R w'.heap.size w') (fun _ W => W.rangeLeft b R)
  case atStart => exact ⟨_, _, [], hrg0, hbel, hd00, by rw [restE_start]⟩
  case round =>
    obtain ⟨left, cnt, C, hrg, hbw, hdk, hperm⟩ := hrel
    have HRG := Lib.hid hrg
    have HB := Lib.hid hbw
    have HD := Lib.hid hdk
    have HP := Lib.hid hperm
    clear hrg hbw hdk hperm hrg0 hg0 hs0 hbel hd00
    go_wp2_with (at_next; refine wpList_next_ranges _ rfl _ rfl 9 Try.keyed ptrR (fun x : List UInt8 => Value.string (str x)) mkV key_shape ptrR_shape b _ _ _ left cnt rfl HRG.out ?_ ?_)
    · intro hc0 hl0
      have hpe := HP.out
      rw [restE_end left d.E hl0] at hpe
      have hce := clone_end H.out.2.2.2.1 HD.out.2.2.2.1 hpe
      have HCE := Lib.hid hce
      clear hc0 hl0 hpe hce
      go_wp2_with fail
      go_ret
      exact ⟨_, _, _, rfl, HD.out, by unfold absD; simp only [HCE.out], HB.out⟩
    · intro x c kl y y2 w1 cnt1 hkey hlk hR hat hrg1 hlt hg1 hs1 hen
      have hkl := key_lit x kl hkey
      subst hkl
      obtain ⟨e, he, hn, hc⟩ := came_is hR hat
      subst hn hc
      have hfo := foot_iter HD.out HRG.out
      have hd1 := HD.out.keep (w' := w1) fun k hk => hg1.block k (HD.out.lt k hk).2 (fun hx => hfo k hk (by injection hx))
      have hb1 : Below w'.heap.size w' w1 := HB.out.trans ((Below.refl _ _).grown hg1 (by have := HB.out.size; omega) fun k hk => by injection hk with hk; have := HRS.out; omega)
      have hds := H.out.below hb1
      obtain ⟨f1, f2, f3, f4⟩ := hds.2.2.2.2.1 e he
      have x1' : w1.cell? ⟨w'.heap.size, 1, none⟩ = some (.map (some (w'.heap.size + 1))) := hd1.2.2.1.cell 1
      obtain ⟨A0, c0', hA0⟩ := row_shape f3
      have x6 : w1.cell? ⟨e.g, 0, none⟩ = some (.slice A0 e.bytes.length c0') := by rw [← hA0]; exact f2.cell 0
      have x11 : w1.cell? ⟨e.g, 1, none⟩ = some (.int .i64 (e.safe : Int)) := f2.cell 1
      rw [hA0] at f3
      have hcl : C.length < maxLen := by
        have h1 := HP.out.length_eq
        rw [List.length_map, List.length_map] at h1
        have h2 : (restE left d.E).length ≤ d.E.length := List.length_filter_le _ _
        unfold maxLen; omega
      have X1 : Hid (w1.drew.cell? ⟨w'.heap.size, 1, none⟩ = some (.map (some (w'.heap.size + 1)))) := Lib.hid x1'
      have X6 : Hid (w1.drew.cell? ⟨e.g, 0, none⟩ = some (.slice A0 e.bytes.length c0')) := Lib.hid x6
      have X11 : Hid (w1.drew.cell? ⟨e.g, 1, none⟩ = some (.int .i64 (e.safe : Int))) := Lib.hid x11
      have F3 : Hid (Own w1.drew lo 5 (.slice A0 e.bytes.length c0') (bvs e.bytes)) := Lib.hid f3
      have HEG : Hid (e.g < w'.heap.size) := Lib.hid (H.out.lt e.g (.inr (.inr ⟨e, he, .inl rfl⟩))).2
      have HBL : Hid (e.bytes.length ≤ 1099511627776) := Lib.hid (by have := used_mem he; omega)
      have HD1 := Lib.hid hd1
      have HB1 := Lib.hid hb1
      have HS1 : Hid (w'.heap.size + 1 < w1.heap.size) := Lib.hid (hd1.lt (w'.heap.size + 1) (.inr (.inl rfl))).2
      have HCL := Lib.hid hcl
      have HNL : Hid (e.name.length ≤ maxLen) := Lib.hid (hnm e he)
      have F4 := Lib.hid f4
      have HE := Lib.hid he
      have HLK := Lib.hid hlk
      have HRG1 := Lib.hid hrg1
      have HLT := Lib.hid hlt
      have hen2 : (Instr.entry (.pointer (some ⟨R, 0, none⟩))).run Try.prog w1 = .ok (.tuple #[.string (str e.name), .pointer (some ⟨e.g, 0, none⟩)]) w1 := hen
      clear hkey hlk hR hat hrg1 hlt hg1 hs1 hen he hfo hd1 hb1 hds f1 f2 f3 f4 x1' x6 x11 hA0 hcl c0 c1 c2 c3 c4 x1 x2 xl hmk
      go_wp2_with fail
      refine up_start (fun k => k = w'.heap.size + 1) (by kernel_rfl) ?_
      refine up_take (by exact at0) (by kernel_rfl) (by exact fun _ _ _ h => h) (by rfl) (by intro W hW; go_simp; try with_reducible rfl) ?_
      simp only [Act.put, List.setIfInBounds_toArray, List.set_cons_zero, List.set_cons_succ]
      refine up_take (by exact (atS at0)) (by kernel_rfl) (by exact fun _ _ _ h => h) (by rfl) (by intro W hW; have q := cell_up X1.out hW (by show ¬ (w'.heap.size = w'.heap.size + 1); omega); go_simp; try with_reducible rfl) ?_
      simp only [Act.put, List.setIfInBounds_toArray, List.set_cons_zero, List.set_cons_succ]
      refine up_take (by exact (atS (atS at0))) (by kernel_rfl) (by exact fun _ _ _ h => h) (by rfl) (by intro W hW; go_simp; try with_reducible rfl) ?_
      simp only [Act.put, List.setIfInBounds_toArray, List.set_cons_zero, List.set_cons_succ]
      refine up_take (by exact (atS (atS (atS at0)))) (by kernel_rfl) (by exact fun _ _ _ h => h) (by rfl) (by intro W hW; go_simp; try with_reducible rfl) ?_
      simp only [Act.put, List.setIfInBounds_toArray, List.set_cons_zero, List.set_cons_succ]
      refine up_take (by exact (atS (atS (atS (atS at0))))) (by kernel_rfl) (by exact fun _ _ _ h => h) (by rfl) (by intro W hW; go_simp; try with_reducible rfl) ?_
      simp only [Act.put, List.setIfInBounds_toArray, List.set_cons_zero, List.set_cons_succ]
      refine up_take (by exact (atS (atS (atS (atS (atS at0)))))) (by kernel_rfl) (by exact fun _ _ _ h => h) (by rfl) (by intro W hW; go_simp; try with_reducible rfl) ?_
      simp only [Act.put, List.setIfInBounds_toArray, List.set_cons_zero, List.set_cons_succ]
      refine up_take (by exact (atS (atS (atS (atS (atS (atS at0))))))) (by kernel_rfl) (by exact fun _ _ _ h => h) (by rfl) (by intro W hW; have q := cell_up X6.out hW (by show ¬ (e.g = w'.heap.size + 1); have := HEG.out; omega); go_simp; try with_reducible rfl) ?_
      simp only [Act.put, List.setIfInBounds_toArray, List.set_cons_zero, List.set_cons_succ]
      refine up_take (by exact (atS (atS (atS (atS (atS (atS (atS (atS at0))))))))) (by kernel_rfl) (by exact fun _ _ _ h => h) (by rfl) (by intro W hW; go_simp; try with_reducible rfl) ?_
      simp only [Act.put, List.setIfInBounds_toArray, List.set_cons_zero, List.set_cons_succ]
      refine up_take (by exact (atS (atS (atS (atS (atS (atS (atS (atS (atS at0)))))))))) (by kernel_rfl) (by exact fun _ _ _ h => h) (by rfl) (by intro W hW; go_simp; try with_reducible rfl) ?_
      simp only [Act.put, List.setIfInBounds_toArray, List.set_cons_zero, List.set_cons_succ]
      refine up_take (by exact (atS (atS (atS (atS (atS (atS (atS (atS (atS (atS at0))))))))))) (by kernel_rfl) (by exact fun _ _ _ h => h) (by rfl) (by intro W hW; go_simp; try with_reducible rfl) ?_
      simp only [Act.put, List.setIfInBounds_toArray, List.set_cons_zero, List.set_cons_succ]
      refine up_take (by exact (atS (atS (atS (atS (atS (atS (atS (atS (atS (atS (atS at0)))))))))))) (by kernel_rfl) (by exact fun _ _ _ h => h) (by rfl) (by intro W hW; have q := cell_up X11.out hW (by show ¬ (e.g = w'.heap.size + 1); have := HEG.out; omega); go_simp; try with_reducible rfl) ?_
      simp only [Act.put, List.setIfInBounds_toArray, List.set_cons_zero, List.set_cons_succ]
      refine up_one (by exact (atS (atS (atS (atS (atS (atS (atS at0)))))))) (by kernel_rfl) (fun K hK => ?_)
      go_simp
      refine (kclone_any e.bytes _ lo _ (by exact F3.out) (by exact HBL.out)).mono ?_
      rintro e5 w5 ⟨v5, rfl, hown5, hb5⟩
      obtain ⟨A5, c5, hA5⟩ := row_shape hown5
      subst hA5
      refine hK.out _ _ (Kept.below hb5) ?_
      clear hK K
      have HO5 := Lib.hid hown5
      have HB5 : Hid (Below w1.heap.size w1 w5) := Lib.hid (drewB hb5)
      clear hown5 hb5
      refine up_take (by exact (atS (atS (atS (atS (atS (atS (atS (atS (atS (atS (atS (atS at0))))))))))))) (by kernel_rfl) (by exact fun _ _ _ h => h) (by rfl) (by intro W hW; go_simp; try with_reducible rfl) ?_
      simp only [Act.put, List.setIfInBounds_toArray, List.set_cons_zero, List.set_cons_succ]
      refine up_one (by exact (atS (atS (atS (atS (atS (atS (atS (atS (atS (atS (atS (atS (atS at0)))))))))))))) (by kernel_rfl) (fun K hK => ?_)
      go_simp
      refine hK.out _ _ (Kept.below ((Below.refl _ _).alloc (Nat.le_refl _) _)) ?_
      clear hK K
      refine up_one (by exact (atS (atS (atS (atS (atS (atS (atS (atS (atS (atS (atS (atS (atS (atS at0))))))))))))))) (by kernel_rfl) (fun K hK => ?_)
      refine step_mapUpdate_in _ (by rfl) (.tmp 29) (.tmp 30) (.tmp 41) 62 (by rfl) 9 79 Try.keyed Try.underlying62 ptrR (w'.heap.size + 1) C.length (mapD C) (by rfl) (by exact (HD1.out.2.2.2.1.blk (HB5.out.block _ HS1.out)).grown (World.grownBy_alloc _ _ none) (by simp)) (by exact HCL.out) (.string (str e.name)) (.pointer (some ⟨w5.heap.size, 0, none⟩)) (.string e.name) (by rfl) (by rfl) (keyName e.name (by exact HNL.out)) _ _ (ptrR_some w5.heap.size) ?_
      intro w7 hown7 ht7
      have HO7 := Lib.hid hown7
      have HT7 := Lib.hid ht7
      clear hown7 ht7
      refine hK.out _ _ (Kept.grown HT7.out.grown (fun k hk => by injection hk with hk; exact hk.symm)) ?_
      clear hK K
      refine up_done (by kernel_rfl) ?_
      go_wp2_with fail
      have hfr : ∀ k, (Value.slice A5 e.bytes.length c5).ownBlock = some k → w1.heap.size ≤ k := fun k hk => (HO5.out.ownLt k hk).1
      have hnew := put_new HD1.out HB5.out ⟨e.name, w5.heap.size, .slice A5 e.bytes.length c5, e.bytes, e.safe⟩ rfl (HO5.out.more (by have := HB1.out.size; simpa using this)) hfr F4.out HO7.out HT7.out
      have hbz : Below w'.heap.size w' w7 := ((HB1.out.trans (HB5.out.mono HB1.out.size)).alloc (by have := HB1.out.size; have := HB5.out.size; omega) _).grown HT7.out.grown (by have := HB1.out.size; have := HB5.out.size; simp; omega) fun k hk => by injection hk with hk; omega
      have hrz : w7.ranges Try.prog 9 ptrR b R d.E.length (mapD d.E) _ cnt1 := (((HRG1.out.kept (row := none) ⟨HB5.out.os, HB5.out.tape, HB5.out.output, HB5.out.size, fun k hk _ => HB5.out.block k hk⟩ (by simp) (by simp)).alloc _).kept HT7.out.grown (by have := H.out.2.2.2.1.lt; simp; omega) (by have := HRS.out; simp; omega))
      have hpz := clone_perm (e' := ⟨e.name, w5.heap.size, .slice A5 e.bytes.length c5, e.bytes, e.safe⟩) H.out.2.2.2.1.apart HE.out HLK.out HP.out rfl
      have HZ := Lib.hid (And.intro hnew (And.intro hbz (And.intro hrz hpz.1)))
      clear hfr hnew hbz hrz hpz
      go_frame
      go_roundw
      case rel => exact ⟨_, _, _, HZ.out.2.2.1, HZ.out.2.1, HZ.out.1, HZ.out.2.2.2⟩
      case measure => rw [HZ.out.2.2.1.left_eq, HRG.out.left_eq]; exact HLT.out
end Go.Proofs.Ytincdegoiknfhab
