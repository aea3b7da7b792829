/-
  The document's disk: a file put at a place, a file dropped. Conditions: there are at most a million files.
-/
import Derived.Test.YtincdegoiknfhabJReg
namespace Go.Proofs.Ytincdegoiknfhab
open Go.RowKit

/-- The row is a new one. -/
def RMade (w : World) (lo g : Nat) (d : RDisk) (E' : List RF) (e : Ending) (w' : World) : Prop :=
  e = .returned (.tuple #[]) ∧ ∃ v', RDiskAt w' lo g { d with v := v', E := E' } ∧ KeptOff (fun k => k = g) w w' ∧ ∀ k, v'.ownBlock = some k → w.heap.size ≤ k
theorem row_done6 {w w6 wh : World} {lo g : Nat} {d : RDisk} {v8 : Value} {n : Nat} {xs : List Value} {E' : List RF} (h : RDiskAt w lo g d) (hb6 : Below w.heap.size w w6) (hb : Below w6.heap.size w6 wh) (ho : wh.ownsRow w6.heap.size 78 3 v8 n xs)
    (hn : n = E'.length) (hx : xs = rcells E') (hf : ∀ e ∈ E', RFile w lo e) :
    RDiskAt (wh.setCell ⟨g, 0, none⟩ v8) lo g { d with v := v8, E := E' } ∧ KeptOff (fun k => k = g) w (wh.setCell ⟨g, 0, none⟩ v8) ∧ ∀ k, v8.ownBlock = some k → w.heap.size ≤ k := by
  subst hn hx
  have hs6 := hb6.size
  have hbw : Below w.heap.size w wh := hb6.trans (hb.mono hs6)
  have hd := h.below hbw
  have hgl := (h.lt g (.inl rfl)).2
  have hlo := h.ltg.1
  have hne : ∀ k, k ≠ g → (wh.setCell ⟨g, 0, none⟩ v8).heap[k]? = wh.heap[k]? := fun k hk => Below.heap_setCell _ _ _ _ hk
  refine ⟨⟨h.1, hd.2.1.set 0 v8, ownsRow_more (ownsRow_blk ho fun k hk => hne k ?_) (by omega), fun e he => ((hf e he).blk fun k hk => hbw.block k ((hf e he).1.ownLt k hk).2).blk fun k hk => hne k ?_⟩, ?_, fun k hk => ?_⟩
  · have := (World.ownsRow.lt ho k hk).1; omega
  · obtain ⟨cur, hc⟩ := (hf e he).1.rowAt k hk
    exact cells_ne hc h.2.1 (by decide)
  · exact ((Below.off hbw).trans (KeptOff.set (F := fun k => k = g) _ g 0 _ rfl) fun x hx => .inl hx)
  · have := (World.ownsRow.lt ho k hk).1; omega
set_option maxHeartbeats 3200000 in
set_option maxRecDepth 100000 in
theorem rput {w : World} {lo g : Nat} {d : RDisk} (h : RDiskAt w lo g d) (hE : d.E.length ≤ 1000000) (i : Nat) (hi : i ≤ d.E.length) (e : RF) (he : RFile w lo e) :
    Calls Try.prog 64 #[.pointer (some ⟨g, 0, none⟩), .int .i64 (i : Int), .agg #[.string (str e.name), e.v, .int .i64 (e.safe : Int)]] w (RMade w lo g d (d.E.take i ++ e :: d.E.drop i)) := by
  obtain ⟨vf, hvf, hsf⟩ := h.from_ i hi
  obtain ⟨vt, hvt, hst⟩ := h.to_ i hi
  have hfs : ∀ x ∈ d.E.take i ++ e :: d.E.drop i, RFile w lo x := fun x hx => by
    rcases List.mem_append.1 hx with hx | hx
    · exact h.2.2.2 x (List.mem_of_mem_take hx)
    · rcases List.mem_cons.1 hx with rfl | hx
      · exact he
      · exact h.2.2.2 x (List.mem_of_mem_drop hx)
  have c0 : w.cell? ⟨g, 0, none⟩ = some d.v := h.2.1.cell 0
  have H := Lib.hid h
  have HTO : Hid ((∀ W, (Instr.slice 65 d.v none (some (.int .i64 (i : Int))) none).run Try.prog W = .ok vt W) ∧ ∀ W, Below w.heap.size w W → SrcW W 3 vt (d.E.take i).length (rcells (d.E.take i))) := Lib.hid ⟨hvt, hst⟩
  have HSF := Lib.hid hsf
  have HTC : Hid (∀ u ∈ rcells (d.E.take i), u.oneCell' = true) := Lib.hid (rcells_one fun x hx => h.2.2.2 x (List.mem_of_mem_take hx))
  have HRC : Hid (∀ u ∈ [] ++ rcells (d.E.drop i), u.oneCell' = true) := Lib.hid (rcells_one fun x hx => h.2.2.2 x (List.mem_of_mem_drop hx))
  have HEC : Hid (∀ u ∈ rcells [e], u.oneCell' = true) := Lib.hid (rcells_one fun x hx => by rw [List.mem_singleton.1 hx]; exact he)
  have HFS := Lib.hid hfs
  have HLE : Hid (0 + (d.E.take i).length + 1 + (0 + (d.E.drop i).length) = (d.E.take i ++ e :: d.E.drop i).length) := Lib.hid (by simp only [List.length_append, List.length_cons, List.length_take, List.length_drop]; omega)
  have HCE : Hid ([] ++ rcells (d.E.take i) ++ rcells [e] ++ ([] ++ rcells (d.E.drop i)) = rcells (d.E.take i ++ e :: d.E.drop i)) := Lib.hid (by rw [rcells_app, List.nil_append, List.nil_append, List.append_assoc]; rfl)
  have HLN : Hid (d.E.length ≤ 1000000 ∧ i ≤ d.E.length) := Lib.hid ⟨hE, hi⟩
  obtain ⟨N, HN⟩ : ∃ N, Hid (N = (d.E.take i ++ e :: d.E.drop i).length) := ⟨_, Lib.hid rfl⟩
  have hvf1 := hvf
  have hgl : g < w.heap.size := (h.lt g (.inl rfl)).2
  have HGL := Lib.hid hgl
  have x1 : (w.alloc (.cells #[.string (str e.name), e.v, .int .i64 (e.safe : Int)] 78)).cell? ⟨g, 0, none⟩ = some d.v := (World.cell?_of_block (heap_alloc_old w _ hgl)).trans c0
  have x2 : ((w.alloc (.cells #[.string (str e.name), e.v, .int .i64 (e.safe : Int)] 78)).alloc (.cells #[] 78)).cell? ⟨g, 0, none⟩ = some d.v := (World.cell?_of_block (heap_alloc_old _ _ (by simp; omega))).trans x1
  clear h hE hi he hvt hst hsf hfs c0 hvf hgl
  go_enter Try.func64, Try.ntmps64
  have HBA : Hid (Below w.heap.size w ((w.alloc (.cells #[.string (str e.name), e.v, .int .i64 (e.safe : Int)] 78)).alloc (.cells #[] 78))) := Lib.hid (((Below.refl _ _).alloc (Nat.le_refl _) _).alloc (by simp) _)
  have HOE : Hid (World.ownsRow ((w.alloc (.cells #[.string (str e.name), e.v, .int .i64 (e.safe : Int)] 78)).alloc (.cells #[] 78)) w.heap.size 78 3 (.slice (some ⟨w.heap.size + 1, 0, none⟩) 0 0) 0 []) := Lib.hid (ownsRow_more (ownsRow_empty _ _ 3 _ (by simp)) (by omega))
  have HBX : Hid (Blk ((w.alloc (.cells #[.string (str e.name), e.v, .int .i64 (e.safe : Int)] 78)).alloc (.cells #[] 78)) w.heap.size 78 #[.string (str e.name), e.v, .int .i64 (e.safe : Int)]) := Lib.hid ((Blk.fresh _ _ _).alloc _)
  go_wp2_with (at_builtin; go_must (refine wpList_append_w _ (by rfl) (.tmp 7) (.tmp 13) 65 (by rfl) w.heap.size 78 (.agg #[.string ⟨#[]⟩, .slice none 0 0, .int .i64 0]) 3 48 Try.underlying65 Try.fileinfo (by rfl) (by decide) _ _ _ (by rfl) (by exact HOE.out) _ _ _ (by rfl) (by exact HSF.out _ HBA.out) (by exact HRC.out) (by have := HLN.out; unfold maxLen; simp only [List.length_drop]; omega) (by have := HLN.out; simp only [List.length_drop]; omega) (by exact HBA.out.size) ?_); intro v6 w6 hown6 hg6 hat6; have OW6 := Lib.hid hown6; have HG6 := Lib.hid hg6; have HB6 : Hid (Below w.heap.size w w6) := Lib.hid (HBA.out.grown hg6 HBA.out.size (fun k hk => (World.ownsRow.lt HOE.out k hk).1)); have HBX6 : Hid (Blk w6 w.heap.size 78 #[.string (str e.name), e.v, .int .i64 (e.safe : Int)]) := Lib.hid (HBX.out.grown hg6 (show some w.heap.size ≠ (Value.slice (some ⟨w.heap.size + 1, 0, none⟩) 0 0).ownBlock from by simp [Value.ownBlock])); clear hown6 hg6 hat6 x1 x2)
  have HD6 := Lib.hid (H.out.below HB6.out)
  have HG : Hid (g < w6.heap.size) := Lib.hid (Nat.lt_of_lt_of_le HGL.out HB6.out.size)
  have X0 : Hid (w6.cell? ⟨g, 0, none⟩ = some d.v) := Lib.hid (HD6.out.2.1.cell 0)
  have x0 : w6.cell? ⟨g, 0, none⟩ = some d.v := X0.out
  have HB0 : Below w6.heap.size w6 w6 := Below.refl _ _
  have B0 : Hid (w6.drew.cell? ⟨w.heap.size, 0, none⟩ = some (.string (str e.name))) := Lib.hid (HBX6.out.cell 0)
  have B1 : Hid (w6.drew.cell? ⟨w.heap.size, 1, none⟩ = some e.v) := Lib.hid (HBX6.out.cell 1)
  have B2 : Hid (w6.drew.cell? ⟨w.heap.size, 2, none⟩ = some (.int .i64 (e.safe : Int))) := Lib.hid (HBX6.out.cell 2)
  have NB : Hid (¬ (fun k => k = g ∨ w6.heap.size ≤ k) w.heap.size) := Lib.hid (by have h1 := HGL.out; have h2 := HBX6.out.lt; rintro (h | h) <;> omega)
  refine up_start (fun k => k = g ∨ w6.heap.size ≤ k) (by kernel_rfl) ?_
  refine up_take (by exact at0) (by kernel_rfl) (by exact fun _ _ _ h => h) (by rfl) (by intro W hW; go_simp; try with_reducible rfl) ?_
  simp only [Act.put, List.setIfInBounds_toArray, List.set_cons_zero, List.set_cons_succ]
  refine up_take (by exact (atS (atS at0))) (by kernel_rfl) (by exact fun _ _ _ h => h) (by rfl) (by intro W hW; go_simp; try with_reducible rfl) ?_
  simp only [Act.put, List.setIfInBounds_toArray, List.set_cons_zero, List.set_cons_succ]
  refine up_take (by exact (atS (atS (atS at0)))) (by kernel_rfl) (by exact fun _ _ _ h => h) (by rfl) (by intro W hW; go_simp; try with_reducible rfl) ?_
  simp only [Act.put, List.setIfInBounds_toArray, List.set_cons_zero, List.set_cons_succ]
  refine up_take (by exact (atS (atS (atS (atS at0))))) (by kernel_rfl) (by exact fun _ _ _ h => h) (by rfl) (by intro W hW; go_simp; try with_reducible rfl) ?_
  simp only [Act.put, List.setIfInBounds_toArray, List.set_cons_zero, List.set_cons_succ]
  refine up_take (by exact (atS (atS (atS (atS (atS (atS at0))))))) (by kernel_rfl) (by exact fun _ _ _ h => h) (by rfl) (by intro W hW; go_simp; try with_reducible rfl) ?_
  simp only [Act.put, List.setIfInBounds_toArray, List.set_cons_zero, List.set_cons_succ]
  refine up_take (by exact (atS (atS (atS (atS (atS (atS (atS (atS (atS at0)))))))))) (by kernel_rfl) (by exact fun _ _ _ h => h) (by rfl) (by intro W hW; have q0 := cell_up B0.out hW (by exact NB.out); have q1 := cell_up B1.out hW (by exact NB.out); have q2 := cell_up B2.out hW (by exact NB.out); go_simp; try with_reducible rfl) ?_
  simp only [Act.put, List.setIfInBounds_toArray, List.set_cons_zero, List.set_cons_succ]
  refine up_take (by exact (atS (atS (atS (atS (atS (atS (atS (atS (atS (atS (atS (atS at0))))))))))))) (by kernel_rfl) (by exact fun _ _ _ h => h) (by rfl) (by intro W hW; go_simp; try with_reducible rfl) ?_
  simp only [Act.put, List.setIfInBounds_toArray, List.set_cons_zero, List.set_cons_succ]
  refine up_three (by exact (atS at0)) (by exact (atS (atS (atS (atS (atS at0)))))) (by exact (atS (atS (atS (atS (atS (atS (atS (atS (atS (atS at0))))))))))) (by kernel_rfl) (fun K hK => ?_) (fun K hK => ?_) (fun K hK => ?_)
  · go_simp
    refine hK.out _ _ (Kept.below ((Below.refl _ _).alloc (Nat.le_refl _) _)) ?_
    clear hK K
    have HB1 : Below w6.heap.size w6 (w6.alloc (.cells #[] 78)) := HB0.alloc HB0.size _
    have x2 : (w6.alloc (.cells #[] 78)).cell? ⟨g, 0, none⟩ = some d.v := (HB1.cell (p := ⟨g, 0, none⟩) HG.out).trans X0.out
    clear x0
    have OW3 : Hid (World.ownsRow (w6.alloc (.cells #[] 78)) w6.heap.size 78 3 (.slice (some ⟨w6.heap.size, 0, none⟩) 0 0) 0 []) := Lib.hid (ownsRow_more (ownsRow_empty _ _ 3 _ (by simp)) (by have := HB0.size; simp at this; omega))
    refine up_two (by exact (atS (atS (atS (atS (atS at0)))))) (by exact (atS (atS (atS (atS (atS (atS (atS (atS (atS (atS at0))))))))))) (by kernel_rfl) (fun K hK => ?_) (fun K hK => ?_)
    · go_simp
      refine hK.out _ _ (Kept.refl _ _) ?_
      clear hK K
      refine up_take (by exact (atS (atS (atS (atS (atS (atS (atS at0)))))))) (by kernel_rfl) (by exact fun _ _ _ h => h) (by rfl) (by intro W hW; have q := HTO.out.1 W; go_simp; try with_reducible rfl) ?_
      simp only [Act.put, List.setIfInBounds_toArray, List.set_cons_zero, List.set_cons_succ]
      refine up_two (by exact (atS (atS (atS (atS (atS (atS (atS (atS at0))))))))) (by exact (atS (atS (atS (atS (atS (atS (atS (atS (atS (atS at0))))))))))) (by kernel_rfl) (fun K hK => ?_) (fun K hK => ?_)
      · refine step_append_w _ (by rfl) (.tmp 16) (.tmp 22) 65 (by rfl) w6.heap.size 78 (.agg #[.string ⟨#[]⟩, .slice none 0 0, .int .i64 0]) 3 48 Try.underlying65 Try.fileinfo (by rfl) (by decide) _ _ _ (by rfl) (by exact OW3.out) _ _ _ (by rfl) (by exact HTO.out.2 _ (drew_b (HB6.out.trans (HB1.mono HB6.out.size)))) (by exact HTC.out) (by have := HLN.out; unfold maxLen; simp only [List.length_take]; omega) (by have := HLN.out; simp only [List.length_take]; omega) (by exact HB1.size) ?_
        intro v4 w5 o6 g7 a8
        have O6 := Lib.hid o6
        have G7 := Lib.hid g7
        clear o6 g7 a8
        refine hK.out _ _ (Kept.grown G7.out (fun k hk => .inr (World.ownsRow.lt OW3.out k hk).1)) ?_
        clear hK K
        have HB9 : Below w6.heap.size w6 w5 := (drew_b HB1).grown G7.out (drew_b HB1).size (fun k hk => (World.ownsRow.lt OW3.out k hk).1)
        have x10 : w5.cell? ⟨g, 0, none⟩ = some d.v := (HB9.cell (p := ⟨g, 0, none⟩) HG.out).trans X0.out
        clear x2
        refine up_one (by exact (atS (atS (atS (atS (atS (atS (atS (atS (atS (atS at0))))))))))) (by kernel_rfl) (fun K hK => ?_)
        go_simp
        refine hK.out _ _ (Kept.below ((Below.refl _ _).alloc (Nat.le_refl _) _)) ?_
        clear hK K
        have HB11 : Below w6.heap.size w6 (w5.alloc (.cells #[.string (str e.name), e.v, .int .i64 (e.safe : Int)] 78)) := HB9.alloc HB9.size _
        have x12 : (w5.alloc (.cells #[.string (str e.name), e.v, .int .i64 (e.safe : Int)] 78)).cell? ⟨g, 0, none⟩ = some d.v := (HB11.cell (p := ⟨g, 0, none⟩) HG.out).trans X0.out
        clear x10
        have ON13 : Hid (Blk (w5.alloc (.cells #[.string (str e.name), e.v, .int .i64 (e.safe : Int)] 78)) (w5.heap.size) 78 #[.string (str e.name), e.v, .int .i64 (e.safe : Int)]) := Lib.hid (by have := Blk.fresh w5 78 #[.string (str e.name), e.v, .int .i64 (e.safe : Int)]; simpa using this)
        have OW14 := Lib.hid (World.ownsRow.alloc O6.out (.cells #[.string (str e.name), e.v, .int .i64 (e.safe : Int)] 78))
        refine up_one (by exact (atS (atS (atS (atS (atS (atS (atS (atS (atS (atS (atS at0)))))))))))) (by kernel_rfl) (fun K hK => ?_)
        refine step_append_w _ (by rfl) (.tmp 23) (.tmp 25) 65 (by rfl) w6.heap.size 78 (.agg #[.string ⟨#[]⟩, .slice none 0 0, .int .i64 0]) 3 48 Try.underlying65 Try.fileinfo (by rfl) (by decide) _ _ _ (by rfl) (by exact OW14.out) _ _ _ (by rfl) (by exact (srcw_one ON13.out)) (by exact HEC.out) (by have := HLN.out; unfold maxLen; simp only [List.length_take]; omega) (by have := HLN.out; simp only [List.length_take]; omega) (by exact HB11.size) ?_
        intro v15 w16 o17 g18 a19
        have O17 := Lib.hid o17
        have G18 := Lib.hid g18
        clear o17 g18 a19
        refine hK.out _ _ (Kept.grown G18.out (fun k hk => .inr (World.ownsRow.lt OW14.out k hk).1)) ?_
        clear hK K
        have HB20 : Below w6.heap.size w6 w16 := HB11.grown G18.out HB11.size (fun k hk => (World.ownsRow.lt OW14.out k hk).1)
        have x21 : w16.cell? ⟨g, 0, none⟩ = some d.v := (HB20.cell (p := ⟨g, 0, none⟩) HG.out).trans X0.out
        clear x12
        refine up_one (by exact (atS (atS (atS (atS (atS (atS (atS (atS (atS (atS (atS (atS (atS at0)))))))))))))) (by kernel_rfl) (fun K hK => ?_)
        refine step_append_w _ (by rfl) (.tmp 26) (.tmp 27) 65 (by rfl) w6.heap.size 78 (.agg #[.string ⟨#[]⟩, .slice none 0 0, .int .i64 0]) 3 48 Try.underlying65 Try.fileinfo (by rfl) (by decide) _ _ _ (by rfl) (by exact O17.out) _ _ _ (by rfl) (by exact (srcw_own (ownsRow_blk OW6.out (fun k hk => HB20.block k (World.ownsRow.lt OW6.out k hk).2)))) (by exact HRC.out) (by have := HLN.out; unfold maxLen; simp only [List.length_take, List.length_drop]; omega) (by have := HLN.out; simp only [List.length_take, List.length_drop]; omega) (by exact HB20.size) ?_
        intro v22 w23 o24 g25 a26
        have O24 := Lib.hid o24
        have G25 := Lib.hid g25
        clear o24 g25 a26
        refine hK.out _ _ (Kept.grown G25.out (fun k hk => .inr (World.ownsRow.lt O17.out k hk).1)) ?_
        clear hK K
        have HB27 : Below w6.heap.size w6 w23 := HB20.grown G25.out HB20.size (fun k hk => (World.ownsRow.lt O17.out k hk).1)
        have x28 : w23.cell? ⟨g, 0, none⟩ = some d.v := (HB27.cell (p := ⟨g, 0, none⟩) HG.out).trans X0.out
        clear x21
        obtain ⟨A29, cA29, hA29, zA29⟩ := ownsRow_shape O24.out
        clear zA29
        rw [HLE.out, ← HN.out] at hA29
        subst hA29
        refine up_take (by exact (atS (atS (atS (atS (atS (atS (atS (atS (atS (atS (atS (atS (atS (atS at0))))))))))))))) (by kernel_rfl) (by exact fun _ _ _ h => h) (by rfl) (by intro W hW; go_simp; try with_reducible rfl) ?_
        simp only [Act.put, List.setIfInBounds_toArray, List.set_cons_zero, List.set_cons_succ]
        refine up_take (by exact (atS (atS (atS (atS (atS (atS (atS (atS (atS (atS (atS (atS (atS (atS (atS at0)))))))))))))))) (by kernel_rfl) (by exact fun _ _ _ h => h) (by rfl) (by intro W hW; go_simp; try with_reducible rfl) ?_
        simp only [Act.put, List.setIfInBounds_toArray, List.set_cons_zero, List.set_cons_succ]
        refine up_one (by exact (atS (atS (atS (atS (atS (atS (atS (atS (atS (atS (atS (atS (atS (atS (atS (atS at0))))))))))))))))) (by kernel_rfl) (fun K hK => ?_)
        have z0 : w23.frozen? ⟨g, 0, none⟩ = false := (HD6.out.below HB27).2.1.free 0
        go_simp
        refine hK.out _ _ (Kept.grown (grown_set _ g 0 _) (fun k hk => by injection hk with hk; exact .inl hk.symm)) ?_
        clear hK K
        clear z0
        refine up_done (by kernel_rfl) ?_
        go_wp2_with fail
        go_end0
        exact ⟨rfl, _, by exact (row_done6 H.out HB6.out HB27 O24.out (by exact HLE.out) (by exact HCE.out) (by exact HFS.out))⟩
      · go_simp
        refine hK.out _ _ (Kept.below ((Below.refl _ _).alloc (Nat.le_refl _) _)) ?_
        clear hK K
        have HB30 : Below w6.heap.size w6 ((w6.alloc (.cells #[] 78)).alloc (.cells #[.string (str e.name), e.v, .int .i64 (e.safe : Int)] 78)) := HB1.alloc HB1.size _
        have x31 : ((w6.alloc (.cells #[] 78)).alloc (.cells #[.string (str e.name), e.v, .int .i64 (e.safe : Int)] 78)).cell? ⟨g, 0, none⟩ = some d.v := (HB30.cell (p := ⟨g, 0, none⟩) HG.out).trans X0.out
        clear x2
        have ON32 : Hid (Blk ((w6.alloc (.cells #[] 78)).alloc (.cells #[.string (str e.name), e.v, .int .i64 (e.safe : Int)] 78)) (w6.heap.size + 1) 78 #[.string (str e.name), e.v, .int .i64 (e.safe : Int)]) := Lib.hid (by have := Blk.fresh (w6.alloc (.cells #[] 78)) 78 #[.string (str e.name), e.v, .int .i64 (e.safe : Int)]; simpa using this)
        have OW33 := Lib.hid (World.ownsRow.alloc OW3.out (.cells #[.string (str e.name), e.v, .int .i64 (e.safe : Int)] 78))
        have NE34 : Hid (some (w6.heap.size + 1) ≠ (Value.slice (some ⟨w6.heap.size, 0, none⟩) 0 0).ownBlock) := Lib.hid (by simp [Value.ownBlock])
        refine up_one (by exact (atS (atS (atS (atS (atS (atS (atS (atS at0))))))))) (by kernel_rfl) (fun K hK => ?_)
        refine step_append_w _ (by rfl) (.tmp 16) (.tmp 22) 65 (by rfl) w6.heap.size 78 (.agg #[.string ⟨#[]⟩, .slice none 0 0, .int .i64 0]) 3 48 Try.underlying65 Try.fileinfo (by rfl) (by decide) _ _ _ (by rfl) (by exact OW33.out) _ _ _ (by rfl) (by exact HTO.out.2 _ (drew_b (HB6.out.trans (HB30.mono HB6.out.size)))) (by exact HTC.out) (by have := HLN.out; unfold maxLen; simp only [List.length_take]; omega) (by have := HLN.out; simp only [List.length_take]; omega) (by exact HB30.size) ?_
        intro v35 w36 o37 g38 a39
        have O37 := Lib.hid o37
        have G38 := Lib.hid g38
        clear o37 g38 a39
        refine hK.out _ _ (Kept.grown G38.out (fun k hk => .inr (World.ownsRow.lt OW33.out k hk).1)) ?_
        clear hK K
        have HB40 : Below w6.heap.size w6 w36 := (drew_b HB30).grown G38.out (drew_b HB30).size (fun k hk => (World.ownsRow.lt OW33.out k hk).1)
        have x41 : w36.cell? ⟨g, 0, none⟩ = some d.v := (HB40.cell (p := ⟨g, 0, none⟩) HG.out).trans X0.out
        clear x31
        have ON42 : Hid (Blk w36 (w6.heap.size + 1) 78 #[.string (str e.name), e.v, .int .i64 (e.safe : Int)]) := Lib.hid ((Blk.drew ON32.out).grown G38.out NE34.out)
        refine up_one (by exact (atS (atS (atS (atS (atS (atS (atS (atS (atS (atS (atS at0)))))))))))) (by kernel_rfl) (fun K hK => ?_)
        refine step_append_w _ (by rfl) (.tmp 23) (.tmp 25) 65 (by rfl) w6.heap.size 78 (.agg #[.string ⟨#[]⟩, .slice none 0 0, .int .i64 0]) 3 48 Try.underlying65 Try.fileinfo (by rfl) (by decide) _ _ _ (by rfl) (by exact O37.out) _ _ _ (by rfl) (by exact (srcw_one ON42.out)) (by exact HEC.out) (by have := HLN.out; unfold maxLen; simp only [List.length_take]; omega) (by have := HLN.out; simp only [List.length_take]; omega) (by exact HB40.size) ?_
        intro v43 w44 o45 g46 a47
        have O45 := Lib.hid o45
        have G46 := Lib.hid g46
        clear o45 g46 a47
        refine hK.out _ _ (Kept.grown G46.out (fun k hk => .inr (World.ownsRow.lt O37.out k hk).1)) ?_
        clear hK K
        have HB48 : Below w6.heap.size w6 w44 := HB40.grown G46.out HB40.size (fun k hk => (World.ownsRow.lt O37.out k hk).1)
        have x49 : w44.cell? ⟨g, 0, none⟩ = some d.v := (HB48.cell (p := ⟨g, 0, none⟩) HG.out).trans X0.out
        clear x41
        refine up_one (by exact (atS (atS (atS (atS (atS (atS (atS (atS (atS (atS (atS (atS (atS at0)))))))))))))) (by kernel_rfl) (fun K hK => ?_)
        refine step_append_w _ (by rfl) (.tmp 26) (.tmp 27) 65 (by rfl) w6.heap.size 78 (.agg #[.string ⟨#[]⟩, .slice none 0 0, .int .i64 0]) 3 48 Try.underlying65 Try.fileinfo (by rfl) (by decide) _ _ _ (by rfl) (by exact O45.out) _ _ _ (by rfl) (by exact (srcw_own (ownsRow_blk OW6.out (fun k hk => HB48.block k (World.ownsRow.lt OW6.out k hk).2)))) (by exact HRC.out) (by have := HLN.out; unfold maxLen; simp only [List.length_take, List.length_drop]; omega) (by have := HLN.out; simp only [List.length_take, List.length_drop]; omega) (by exact HB48.size) ?_
        intro v50 w51 o52 g53 a54
        have O52 := Lib.hid o52
        have G53 := Lib.hid g53
        clear o52 g53 a54
        refine hK.out _ _ (Kept.grown G53.out (fun k hk => .inr (World.ownsRow.lt O45.out k hk).1)) ?_
        clear hK K
        have HB55 : Below w6.heap.size w6 w51 := HB48.grown G53.out HB48.size (fun k hk => (World.ownsRow.lt O45.out k hk).1)
        have x56 : w51.cell? ⟨g, 0, none⟩ = some d.v := (HB55.cell (p := ⟨g, 0, none⟩) HG.out).trans X0.out
        clear x49
        obtain ⟨A57, cA57, hA57, zA57⟩ := ownsRow_shape O52.out
        clear zA57
        rw [HLE.out, ← HN.out] at hA57
        subst hA57
        refine up_take (by exact (atS (atS (atS (atS (atS (atS (atS (atS (atS (atS (atS (atS (atS (atS at0))))))))))))))) (by kernel_rfl) (by exact fun _ _ _ h => h) (by rfl) (by intro W hW; go_simp; try with_reducible rfl) ?_
        simp only [Act.put, List.setIfInBounds_toArray, List.set_cons_zero, List.set_cons_succ]
        refine up_take (by exact (atS (atS (atS (atS (atS (atS (atS (atS (atS (atS (atS (atS (atS (atS (atS at0)))))))))))))))) (by kernel_rfl) (by exact fun _ _ _ h => h) (by rfl) (by intro W hW; go_simp; try with_reducible rfl) ?_
        simp only [Act.put, List.setIfInBounds_toArray, List.set_cons_zero, List.set_cons_succ]
        refine up_one (by exact (atS (atS (atS (atS (atS (atS (atS (atS (atS (atS (atS (atS (atS (atS (atS (atS at0))))))))))))))))) (by kernel_rfl) (fun K hK => ?_)
        have z0 : w51.frozen? ⟨g, 0, none⟩ = false := (HD6.out.below HB55).2.1.free 0
        go_simp
        refine hK.out _ _ (Kept.grown (grown_set _ g 0 _) (fun k hk => by injection hk with hk; exact .inl hk.symm)) ?_
        clear hK K
        clear z0
        refine up_done (by kernel_rfl) ?_
        go_wp2_with fail
        go_end0
        exact ⟨rfl, _, by exact (row_done6 H.out HB6.out HB55 O52.out (by exact HLE.out) (by exact HCE.out) (by exact HFS.out))⟩
    · go_simp
      refine hK.out _ _ (Kept.below ((Below.refl _ _).alloc (Nat.le_refl _) _)) ?_
      clear hK K
      have HB58 : Below w6.heap.size w6 ((w6.alloc (.cells #[] 78)).alloc (.cells #[.string (str e.name), e.v, .int .i64 (e.safe : Int)] 78)) := HB1.alloc HB1.size _
      have x59 : ((w6.alloc (.cells #[] 78)).alloc (.cells #[.string (str e.name), e.v, .int .i64 (e.safe : Int)] 78)).cell? ⟨g, 0, none⟩ = some d.v := (HB58.cell (p := ⟨g, 0, none⟩) HG.out).trans X0.out
      clear x2
      have ON60 : Hid (Blk ((w6.alloc (.cells #[] 78)).alloc (.cells #[.string (str e.name), e.v, .int .i64 (e.safe : Int)] 78)) (w6.heap.size + 1) 78 #[.string (str e.name), e.v, .int .i64 (e.safe : Int)]) := Lib.hid (by have := Blk.fresh (w6.alloc (.cells #[] 78)) 78 #[.string (str e.name), e.v, .int .i64 (e.safe : Int)]; simpa using this)
      have OW61 := Lib.hid (World.ownsRow.alloc OW3.out (.cells #[.string (str e.name), e.v, .int .i64 (e.safe : Int)] 78))
      have NE62 : Hid (some (w6.heap.size + 1) ≠ (Value.slice (some ⟨w6.heap.size, 0, none⟩) 0 0).ownBlock) := Lib.hid (by simp [Value.ownBlock])
      refine up_one (by exact (atS (atS (atS (atS (atS at0)))))) (by kernel_rfl) (fun K hK => ?_)
      go_simp
      refine hK.out _ _ (Kept.refl _ _) ?_
      clear hK K
      refine up_take (by exact (atS (atS (atS (atS (atS (atS (atS at0)))))))) (by kernel_rfl) (by exact fun _ _ _ h => h) (by rfl) (by intro W hW; have q := HTO.out.1 W; go_simp; try with_reducible rfl) ?_
      simp only [Act.put, List.setIfInBounds_toArray, List.set_cons_zero, List.set_cons_succ]
      refine up_one (by exact (atS (atS (atS (atS (atS (atS (atS (atS at0))))))))) (by kernel_rfl) (fun K hK => ?_)
      refine step_append_w _ (by rfl) (.tmp 16) (.tmp 22) 65 (by rfl) w6.heap.size 78 (.agg #[.string ⟨#[]⟩, .slice none 0 0, .int .i64 0]) 3 48 Try.underlying65 Try.fileinfo (by rfl) (by decide) _ _ _ (by rfl) (by exact OW61.out) _ _ _ (by rfl) (by exact HTO.out.2 _ (drew_b (HB6.out.trans (HB58.mono HB6.out.size)))) (by exact HTC.out) (by have := HLN.out; unfold maxLen; simp only [List.length_take]; omega) (by have := HLN.out; simp only [List.length_take]; omega) (by exact HB58.size) ?_
      intro v63 w64 o65 g66 a67
      have O65 := Lib.hid o65
      have G66 := Lib.hid g66
      clear o65 g66 a67
      refine hK.out _ _ (Kept.grown G66.out (fun k hk => .inr (World.ownsRow.lt OW61.out k hk).1)) ?_
      clear hK K
      have HB68 : Below w6.heap.size w6 w64 := (drew_b HB58).grown G66.out (drew_b HB58).size (fun k hk => (World.ownsRow.lt OW61.out k hk).1)
      have x69 : w64.cell? ⟨g, 0, none⟩ = some d.v := (HB68.cell (p := ⟨g, 0, none⟩) HG.out).trans X0.out
      clear x59
      have ON70 : Hid (Blk w64 (w6.heap.size + 1) 78 #[.string (str e.name), e.v, .int .i64 (e.safe : Int)]) := Lib.hid ((Blk.drew ON60.out).grown G66.out NE62.out)
      refine up_one (by exact (atS (atS (atS (atS (atS (atS (atS (atS (atS (atS (atS at0)))))))))))) (by kernel_rfl) (fun K hK => ?_)
      refine step_append_w _ (by rfl) (.tmp 23) (.tmp 25) 65 (by rfl) w6.heap.size 78 (.agg #[.string ⟨#[]⟩, .slice none 0 0, .int .i64 0]) 3 48 Try.underlying65 Try.fileinfo (by rfl) (by decide) _ _ _ (by rfl) (by exact O65.out) _ _ _ (by rfl) (by exact (srcw_one ON70.out)) (by exact HEC.out) (by have := HLN.out; unfold maxLen; simp only [List.length_take]; omega) (by have := HLN.out; simp only [List.length_take]; omega) (by exact HB68.size) ?_
      intro v71 w72 o73 g74 a75
      have O73 := Lib.hid o73
      have G74 := Lib.hid g74
      clear o73 g74 a75
      refine hK.out _ _ (Kept.grown G74.out (fun k hk => .inr (World.ownsRow.lt O65.out k hk).1)) ?_
      clear hK K
      have HB76 : Below w6.heap.size w6 w72 := HB68.grown G74.out HB68.size (fun k hk => (World.ownsRow.lt O65.out k hk).1)
      have x77 : w72.cell? ⟨g, 0, none⟩ = some d.v := (HB76.cell (p := ⟨g, 0, none⟩) HG.out).trans X0.out
      clear x69
      refine up_one (by exact (atS (atS (atS (atS (atS (atS (atS (atS (atS (atS (atS (atS (atS at0)))))))))))))) (by kernel_rfl) (fun K hK => ?_)
      refine step_append_w _ (by rfl) (.tmp 26) (.tmp 27) 65 (by rfl) w6.heap.size 78 (.agg #[.string ⟨#[]⟩, .slice none 0 0, .int .i64 0]) 3 48 Try.underlying65 Try.fileinfo (by rfl) (by decide) _ _ _ (by rfl) (by exact O73.out) _ _ _ (by rfl) (by exact (srcw_own (ownsRow_blk OW6.out (fun k hk => HB76.block k (World.ownsRow.lt OW6.out k hk).2)))) (by exact HRC.out) (by have := HLN.out; unfold maxLen; simp only [List.length_take, List.length_drop]; omega) (by have := HLN.out; simp only [List.length_take, List.length_drop]; omega) (by exact HB76.size) ?_
      intro v78 w79 o80 g81 a82
      have O80 := Lib.hid o80
      have G81 := Lib.hid g81
      clear o80 g81 a82
      refine hK.out _ _ (Kept.grown G81.out (fun k hk => .inr (World.ownsRow.lt O73.out k hk).1)) ?_
      clear hK K
      have HB83 : Below w6.heap.size w6 w79 := HB76.grown G81.out HB76.size (fun k hk => (World.ownsRow.lt O73.out k hk).1)
      have x84 : w79.cell? ⟨g, 0, none⟩ = some d.v := (HB83.cell (p := ⟨g, 0, none⟩) HG.out).trans X0.out
      clear x77
      obtain ⟨A85, cA85, hA85, zA85⟩ := ownsRow_shape O80.out
      clear zA85
      rw [HLE.out, ← HN.out] at hA85
      subst hA85
      refine up_take (by exact (atS (atS (atS (atS (atS (atS (atS (atS (atS (atS (atS (atS (atS (atS at0))))))))))))))) (by kernel_rfl) (by exact fun _ _ _ h => h) (by rfl) (by intro W hW; go_simp; try with_reducible rfl) ?_
      simp only [Act.put, List.setIfInBounds_toArray, List.set_cons_zero, List.set_cons_succ]
      refine up_take (by exact (atS (atS (atS (atS (atS (atS (atS (atS (atS (atS (atS (atS (atS (atS (atS at0)))))))))))))))) (by kernel_rfl) (by exact fun _ _ _ h => h) (by rfl) (by intro W hW; go_simp; try with_reducible rfl) ?_
      simp only [Act.put, List.setIfInBounds_toArray, List.set_cons_zero, List.set_cons_succ]
      refine up_one (by exact (atS (atS (atS (atS (atS (atS (atS (atS (atS (atS (atS (atS (atS (atS (atS (atS at0))))))))))))))))) (by kernel_rfl) (fun K hK => ?_)
      have z0 : w79.frozen? ⟨g, 0, none⟩ = false := (HD6.out.below HB83).2.1.free 0
      go_simp
      refine hK.out _ _ (Kept.grown (grown_set _ g 0 _) (fun k hk => by injection hk with hk; exact .inl hk.symm)) ?_
      clear hK K
      clear z0
      refine up_done (by kernel_rfl) ?_
      go_wp2_with fail
      go_end0
      exact ⟨rfl, _, by exact (row_done6 H.out HB6.out HB83 O80.out (by exact HLE.out) (by exact HCE.out) (by exact HFS.out))⟩
  · go_simp
    refine hK.out _ _ (Kept.refl _ _) ?_
    clear hK K
    refine up_take (by exact (atS (atS (atS (atS (atS (atS (atS at0)))))))) (by kernel_rfl) (by exact fun _ _ _ h => h) (by rfl) (by intro W hW; have q := HTO.out.1 W; go_simp; try with_reducible rfl) ?_
    simp only [Act.put, List.setIfInBounds_toArray, List.set_cons_zero, List.set_cons_succ]
    refine up_two (by exact (atS at0)) (by exact (atS (atS (atS (atS (atS (atS (atS (atS (atS (atS at0))))))))))) (by kernel_rfl) (fun K hK => ?_) (fun K hK => ?_)
    · go_simp
      refine hK.out _ _ (Kept.below ((Below.refl _ _).alloc (Nat.le_refl _) _)) ?_
      clear hK K
      have HB86 : Below w6.heap.size w6 (w6.alloc (.cells #[] 78)) := HB0.alloc HB0.size _
      have x87 : (w6.alloc (.cells #[] 78)).cell? ⟨g, 0, none⟩ = some d.v := (HB86.cell (p := ⟨g, 0, none⟩) HG.out).trans X0.out
      clear x0
      have OW88 : Hid (World.ownsRow (w6.alloc (.cells #[] 78)) w6.heap.size 78 3 (.slice (some ⟨w6.heap.size, 0, none⟩) 0 0) 0 []) := Lib.hid (ownsRow_more (ownsRow_empty _ _ 3 _ (by simp)) (by have := HB0.size; simp at this; omega))
      refine up_two (by exact (atS (atS (atS (atS (atS (atS (atS (atS at0))))))))) (by exact (atS (atS (atS (atS (atS (atS (atS (atS (atS (atS at0))))))))))) (by kernel_rfl) (fun K hK => ?_) (fun K hK => ?_)
      · refine step_append_w _ (by rfl) (.tmp 16) (.tmp 22) 65 (by rfl) w6.heap.size 78 (.agg #[.string ⟨#[]⟩, .slice none 0 0, .int .i64 0]) 3 48 Try.underlying65 Try.fileinfo (by rfl) (by decide) _ _ _ (by rfl) (by exact OW88.out) _ _ _ (by rfl) (by exact HTO.out.2 _ (drew_b (HB6.out.trans (HB86.mono HB6.out.size)))) (by exact HTC.out) (by have := HLN.out; unfold maxLen; simp only [List.length_take]; omega) (by have := HLN.out; simp only [List.length_take]; omega) (by exact HB86.size) ?_
        intro v89 w90 o91 g92 a93
        have O91 := Lib.hid o91
        have G92 := Lib.hid g92
        clear o91 g92 a93
        refine hK.out _ _ (Kept.grown G92.out (fun k hk => .inr (World.ownsRow.lt OW88.out k hk).1)) ?_
        clear hK K
        have HB94 : Below w6.heap.size w6 w90 := (drew_b HB86).grown G92.out (drew_b HB86).size (fun k hk => (World.ownsRow.lt OW88.out k hk).1)
        have x95 : w90.cell? ⟨g, 0, none⟩ = some d.v := (HB94.cell (p := ⟨g, 0, none⟩) HG.out).trans X0.out
        clear x87
        refine up_one (by exact (atS (atS (atS (atS (atS (atS (atS (atS (atS (atS at0))))))))))) (by kernel_rfl) (fun K hK => ?_)
        go_simp
        refine hK.out _ _ (Kept.below ((Below.refl _ _).alloc (Nat.le_refl _) _)) ?_
        clear hK K
        have HB96 : Below w6.heap.size w6 (w90.alloc (.cells #[.string (str e.name), e.v, .int .i64 (e.safe : Int)] 78)) := HB94.alloc HB94.size _
        have x97 : (w90.alloc (.cells #[.string (str e.name), e.v, .int .i64 (e.safe : Int)] 78)).cell? ⟨g, 0, none⟩ = some d.v := (HB96.cell (p := ⟨g, 0, none⟩) HG.out).trans X0.out
        clear x95
        have ON98 : Hid (Blk (w90.alloc (.cells #[.string (str e.name), e.v, .int .i64 (e.safe : Int)] 78)) (w90.heap.size) 78 #[.string (str e.name), e.v, .int .i64 (e.safe : Int)]) := Lib.hid (by have := Blk.fresh w90 78 #[.string (str e.name), e.v, .int .i64 (e.safe : Int)]; simpa using this)
        have OW99 := Lib.hid (World.ownsRow.alloc O91.out (.cells #[.string (str e.name), e.v, .int .i64 (e.safe : Int)] 78))
        refine up_one (by exact (atS (atS (atS (atS (atS (atS (atS (atS (atS (atS (atS at0)))))))))))) (by kernel_rfl) (fun K hK => ?_)
        refine step_append_w _ (by rfl) (.tmp 23) (.tmp 25) 65 (by rfl) w6.heap.size 78 (.agg #[.string ⟨#[]⟩, .slice none 0 0, .int .i64 0]) 3 48 Try.underlying65 Try.fileinfo (by rfl) (by decide) _ _ _ (by rfl) (by exact OW99.out) _ _ _ (by rfl) (by exact (srcw_one ON98.out)) (by exact HEC.out) (by have := HLN.out; unfold maxLen; simp only [List.length_take]; omega) (by have := HLN.out; simp only [List.length_take]; omega) (by exact HB96.size) ?_
        intro v100 w101 o102 g103 a104
        have O102 := Lib.hid o102
        have G103 := Lib.hid g103
        clear o102 g103 a104
        refine hK.out _ _ (Kept.grown G103.out (fun k hk => .inr (World.ownsRow.lt OW99.out k hk).1)) ?_
        clear hK K
        have HB105 : Below w6.heap.size w6 w101 := HB96.grown G103.out HB96.size (fun k hk => (World.ownsRow.lt OW99.out k hk).1)
        have x106 : w101.cell? ⟨g, 0, none⟩ = some d.v := (HB105.cell (p := ⟨g, 0, none⟩) HG.out).trans X0.out
        clear x97
        refine up_one (by exact (atS (atS (atS (atS (atS (atS (atS (atS (atS (atS (atS (atS (atS at0)))))))))))))) (by kernel_rfl) (fun K hK => ?_)
        refine step_append_w _ (by rfl) (.tmp 26) (.tmp 27) 65 (by rfl) w6.heap.size 78 (.agg #[.string ⟨#[]⟩, .slice none 0 0, .int .i64 0]) 3 48 Try.underlying65 Try.fileinfo (by rfl) (by decide) _ _ _ (by rfl) (by exact O102.out) _ _ _ (by rfl) (by exact (srcw_own (ownsRow_blk OW6.out (fun k hk => HB105.block k (World.ownsRow.lt OW6.out k hk).2)))) (by exact HRC.out) (by have := HLN.out; unfold maxLen; simp only [List.length_take, List.length_drop]; omega) (by have := HLN.out; simp only [List.length_take, List.length_drop]; omega) (by exact HB105.size) ?_
        intro v107 w108 o109 g110 a111
        have O109 := Lib.hid o109
        have G110 := Lib.hid g110
        clear o109 g110 a111
        refine hK.out _ _ (Kept.grown G110.out (fun k hk => .inr (World.ownsRow.lt O102.out k hk).1)) ?_
        clear hK K
        have HB112 : Below w6.heap.size w6 w108 := HB105.grown G110.out HB105.size (fun k hk => (World.ownsRow.lt O102.out k hk).1)
        have x113 : w108.cell? ⟨g, 0, none⟩ = some d.v := (HB112.cell (p := ⟨g, 0, none⟩) HG.out).trans X0.out
        clear x106
        obtain ⟨A114, cA114, hA114, zA114⟩ := ownsRow_shape O109.out
        clear zA114
        rw [HLE.out, ← HN.out] at hA114
        subst hA114
        refine up_take (by exact (atS (atS (atS (atS (atS (atS (atS (atS (atS (atS (atS (atS (atS (atS at0))))))))))))))) (by kernel_rfl) (by exact fun _ _ _ h => h) (by rfl) (by intro W hW; go_simp; try with_reducible rfl) ?_
        simp only [Act.put, List.setIfInBounds_toArray, List.set_cons_zero, List.set_cons_succ]
        refine up_take (by exact (atS (atS (atS (atS (atS (atS (atS (atS (atS (atS (atS (atS (atS (atS (atS at0)))))))))))))))) (by kernel_rfl) (by exact fun _ _ _ h => h) (by rfl) (by intro W hW; go_simp; try with_reducible rfl) ?_
        simp only [Act.put, List.setIfInBounds_toArray, List.set_cons_zero, List.set_cons_succ]
        refine up_one (by exact (atS (atS (atS (atS (atS (atS (atS (atS (atS (atS (atS (atS (atS (atS (atS (atS at0))))))))))))))))) (by kernel_rfl) (fun K hK => ?_)
        have z0 : w108.frozen? ⟨g, 0, none⟩ = false := (HD6.out.below HB112).2.1.free 0
        go_simp
        refine hK.out _ _ (Kept.grown (grown_set _ g 0 _) (fun k hk => by injection hk with hk; exact .inl hk.symm)) ?_
        clear hK K
        clear z0
        refine up_done (by kernel_rfl) ?_
        go_wp2_with fail
        go_end0
        exact ⟨rfl, _, by exact (row_done6 H.out HB6.out HB112 O109.out (by exact HLE.out) (by exact HCE.out) (by exact HFS.out))⟩
      · go_simp
        refine hK.out _ _ (Kept.below ((Below.refl _ _).alloc (Nat.le_refl _) _)) ?_
        clear hK K
        have HB115 : Below w6.heap.size w6 ((w6.alloc (.cells #[] 78)).alloc (.cells #[.string (str e.name), e.v, .int .i64 (e.safe : Int)] 78)) := HB86.alloc HB86.size _
        have x116 : ((w6.alloc (.cells #[] 78)).alloc (.cells #[.string (str e.name), e.v, .int .i64 (e.safe : Int)] 78)).cell? ⟨g, 0, none⟩ = some d.v := (HB115.cell (p := ⟨g, 0, none⟩) HG.out).trans X0.out
        clear x87
        have ON117 : Hid (Blk ((w6.alloc (.cells #[] 78)).alloc (.cells #[.string (str e.name), e.v, .int .i64 (e.safe : Int)] 78)) (w6.heap.size + 1) 78 #[.string (str e.name), e.v, .int .i64 (e.safe : Int)]) := Lib.hid (by have := Blk.fresh (w6.alloc (.cells #[] 78)) 78 #[.string (str e.name), e.v, .int .i64 (e.safe : Int)]; simpa using this)
        have OW118 := Lib.hid (World.ownsRow.alloc OW88.out (.cells #[.string (str e.name), e.v, .int .i64 (e.safe : Int)] 78))
        have NE119 : Hid (some (w6.heap.size + 1) ≠ (Value.slice (some ⟨w6.heap.size, 0, none⟩) 0 0).ownBlock) := Lib.hid (by simp [Value.ownBlock])
        refine up_one (by exact (atS (atS (atS (atS (atS (atS (atS (atS at0))))))))) (by kernel_rfl) (fun K hK => ?_)
        refine step_append_w _ (by rfl) (.tmp 16) (.tmp 22) 65 (by rfl) w6.heap.size 78 (.agg #[.string ⟨#[]⟩, .slice none 0 0, .int .i64 0]) 3 48 Try.underlying65 Try.fileinfo (by rfl) (by decide) _ _ _ (by rfl) (by exact OW118.out) _ _ _ (by rfl) (by exact HTO.out.2 _ (drew_b (HB6.out.trans (HB115.mono HB6.out.size)))) (by exact HTC.out) (by have := HLN.out; unfold maxLen; simp only [List.length_take]; omega) (by have := HLN.out; simp only [List.length_take]; omega) (by exact HB115.size) ?_
        intro v120 w121 o122 g123 a124
        have O122 := Lib.hid o122
        have G123 := Lib.hid g123
        clear o122 g123 a124
        refine hK.out _ _ (Kept.grown G123.out (fun k hk => .inr (World.ownsRow.lt OW118.out k hk).1)) ?_
        clear hK K
        have HB125 : Below w6.heap.size w6 w121 := (drew_b HB115).grown G123.out (drew_b HB115).size (fun k hk => (World.ownsRow.lt OW118.out k hk).1)
        have x126 : w121.cell? ⟨g, 0, none⟩ = some d.v := (HB125.cell (p := ⟨g, 0, none⟩) HG.out).trans X0.out
        clear x116
        have ON127 : Hid (Blk w121 (w6.heap.size + 1) 78 #[.string (str e.name), e.v, .int .i64 (e.safe : Int)]) := Lib.hid ((Blk.drew ON117.out).grown G123.out NE119.out)
        refine up_one (by exact (atS (atS (atS (atS (atS (atS (atS (atS (atS (atS (atS at0)))))))))))) (by kernel_rfl) (fun K hK => ?_)
        refine step_append_w _ (by rfl) (.tmp 23) (.tmp 25) 65 (by rfl) w6.heap.size 78 (.agg #[.string ⟨#[]⟩, .slice none 0 0, .int .i64 0]) 3 48 Try.underlying65 Try.fileinfo (by rfl) (by decide) _ _ _ (by rfl) (by exact O122.out) _ _ _ (by rfl) (by exact (srcw_one ON127.out)) (by exact HEC.out) (by have := HLN.out; unfold maxLen; simp only [List.length_take]; omega) (by have := HLN.out; simp only [List.length_take]; omega) (by exact HB125.size) ?_
        intro v128 w129 o130 g131 a132
        have O130 := Lib.hid o130
        have G131 := Lib.hid g131
        clear o130 g131 a132
        refine hK.out _ _ (Kept.grown G131.out (fun k hk => .inr (World.ownsRow.lt O122.out k hk).1)) ?_
        clear hK K
        have HB133 : Below w6.heap.size w6 w129 := HB125.grown G131.out HB125.size (fun k hk => (World.ownsRow.lt O122.out k hk).1)
        have x134 : w129.cell? ⟨g, 0, none⟩ = some d.v := (HB133.cell (p := ⟨g, 0, none⟩) HG.out).trans X0.out
        clear x126
        refine up_one (by exact (atS (atS (atS (atS (atS (atS (atS (atS (atS (atS (atS (atS (atS at0)))))))))))))) (by kernel_rfl) (fun K hK => ?_)
        refine step_append_w _ (by rfl) (.tmp 26) (.tmp 27) 65 (by rfl) w6.heap.size 78 (.agg #[.string ⟨#[]⟩, .slice none 0 0, .int .i64 0]) 3 48 Try.underlying65 Try.fileinfo (by rfl) (by decide) _ _ _ (by rfl) (by exact O130.out) _ _ _ (by rfl) (by exact (srcw_own (ownsRow_blk OW6.out (fun k hk => HB133.block k (World.ownsRow.lt OW6.out k hk).2)))) (by exact HRC.out) (by have := HLN.out; unfold maxLen; simp only [List.length_take, List.length_drop]; omega) (by have := HLN.out; simp only [List.length_take, List.length_drop]; omega) (by exact HB133.size) ?_
        intro v135 w136 o137 g138 a139
        have O137 := Lib.hid o137
        have G138 := Lib.hid g138
        clear o137 g138 a139
        refine hK.out _ _ (Kept.grown G138.out (fun k hk => .inr (World.ownsRow.lt O130.out k hk).1)) ?_
        clear hK K
        have HB140 : Below w6.heap.size w6 w136 := HB133.grown G138.out HB133.size (fun k hk => (World.ownsRow.lt O130.out k hk).1)
        have x141 : w136.cell? ⟨g, 0, none⟩ = some d.v := (HB140.cell (p := ⟨g, 0, none⟩) HG.out).trans X0.out
        clear x134
        obtain ⟨A142, cA142, hA142, zA142⟩ := ownsRow_shape O137.out
        clear zA142
        rw [HLE.out, ← HN.out] at hA142
        subst hA142
        refine up_take (by exact (atS (atS (atS (atS (atS (atS (atS (atS (atS (atS (atS (atS (atS (atS at0))))))))))))))) (by kernel_rfl) (by exact fun _ _ _ h => h) (by rfl) (by intro W hW; go_simp; try with_reducible rfl) ?_
        simp only [Act.put, List.setIfInBounds_toArray, List.set_cons_zero, List.set_cons_succ]
        refine up_take (by exact (atS (atS (atS (atS (atS (atS (atS (atS (atS (atS (atS (atS (atS (atS (atS at0)))))))))))))))) (by kernel_rfl) (by exact fun _ _ _ h => h) (by rfl) (by intro W hW; go_simp; try with_reducible rfl) ?_
        simp only [Act.put, List.setIfInBounds_toArray, List.set_cons_zero, List.set_cons_succ]
        refine up_one (by exact (atS (atS (atS (atS (atS (atS (atS (atS (atS (atS (atS (atS (atS (atS (atS (atS at0))))))))))))))))) (by kernel_rfl) (fun K hK => ?_)
        have z0 : w136.frozen? ⟨g, 0, none⟩ = false := (HD6.out.below HB140).2.1.free 0
        go_simp
        refine hK.out _ _ (Kept.grown (grown_set _ g 0 _) (fun k hk => by injection hk with hk; exact .inl hk.symm)) ?_
        clear hK K
        clear z0
        refine up_done (by kernel_rfl) ?_
        go_wp2_with fail
        go_end0
        exact ⟨rfl, _, by exact (row_done6 H.out HB6.out HB140 O137.out (by exact HLE.out) (by exact HCE.out) (by exact HFS.out))⟩
    · go_simp
      refine hK.out _ _ (Kept.below ((Below.refl _ _).alloc (Nat.le_refl _) _)) ?_
      clear hK K
      have HB143 : Below w6.heap.size w6 (w6.alloc (.cells #[.string (str e.name), e.v, .int .i64 (e.safe : Int)] 78)) := HB0.alloc HB0.size _
      have x144 : (w6.alloc (.cells #[.string (str e.name), e.v, .int .i64 (e.safe : Int)] 78)).cell? ⟨g, 0, none⟩ = some d.v := (HB143.cell (p := ⟨g, 0, none⟩) HG.out).trans X0.out
      clear x0
      have ON145 : Hid (Blk (w6.alloc (.cells #[.string (str e.name), e.v, .int .i64 (e.safe : Int)] 78)) (w6.heap.size) 78 #[.string (str e.name), e.v, .int .i64 (e.safe : Int)]) := Lib.hid (by have := Blk.fresh w6 78 #[.string (str e.name), e.v, .int .i64 (e.safe : Int)]; simpa using this)
      refine up_one (by exact (atS at0)) (by kernel_rfl) (fun K hK => ?_)
      go_simp
      refine hK.out _ _ (Kept.below ((Below.refl _ _).alloc (Nat.le_refl _) _)) ?_
      clear hK K
      have HB146 : Below w6.heap.size w6 ((w6.alloc (.cells #[.string (str e.name), e.v, .int .i64 (e.safe : Int)] 78)).alloc (.cells #[] 78)) := HB143.alloc HB143.size _
      have x147 : ((w6.alloc (.cells #[.string (str e.name), e.v, .int .i64 (e.safe : Int)] 78)).alloc (.cells #[] 78)).cell? ⟨g, 0, none⟩ = some d.v := (HB146.cell (p := ⟨g, 0, none⟩) HG.out).trans X0.out
      clear x144
      have OW148 : Hid (World.ownsRow ((w6.alloc (.cells #[.string (str e.name), e.v, .int .i64 (e.safe : Int)] 78)).alloc (.cells #[] 78)) w6.heap.size 78 3 (.slice (some ⟨w6.heap.size + 1, 0, none⟩) 0 0) 0 []) := Lib.hid (ownsRow_more (ownsRow_empty _ _ 3 _ (by simp)) (by have := HB143.size; simp at this; omega))
      have ON149 : Hid (Blk ((w6.alloc (.cells #[.string (str e.name), e.v, .int .i64 (e.safe : Int)] 78)).alloc (.cells #[] 78)) (w6.heap.size) 78 #[.string (str e.name), e.v, .int .i64 (e.safe : Int)]) := Lib.hid (ON145.out.alloc _)
      have NE150 : Hid (some (w6.heap.size) ≠ (Value.slice (some ⟨w6.heap.size + 1, 0, none⟩) 0 0).ownBlock) := Lib.hid (by simp [Value.ownBlock])
      refine up_one (by exact (atS (atS (atS (atS (atS (atS (atS (atS at0))))))))) (by kernel_rfl) (fun K hK => ?_)
      refine step_append_w _ (by rfl) (.tmp 16) (.tmp 22) 65 (by rfl) w6.heap.size 78 (.agg #[.string ⟨#[]⟩, .slice none 0 0, .int .i64 0]) 3 48 Try.underlying65 Try.fileinfo (by rfl) (by decide) _ _ _ (by rfl) (by exact OW148.out) _ _ _ (by rfl) (by exact HTO.out.2 _ (drew_b (HB6.out.trans (HB146.mono HB6.out.size)))) (by exact HTC.out) (by have := HLN.out; unfold maxLen; simp only [List.length_take]; omega) (by have := HLN.out; simp only [List.length_take]; omega) (by exact HB146.size) ?_
      intro v151 w152 o153 g154 a155
      have O153 := Lib.hid o153
      have G154 := Lib.hid g154
      clear o153 g154 a155
      refine hK.out _ _ (Kept.grown G154.out (fun k hk => .inr (World.ownsRow.lt OW148.out k hk).1)) ?_
      clear hK K
      have HB156 : Below w6.heap.size w6 w152 := (drew_b HB146).grown G154.out (drew_b HB146).size (fun k hk => (World.ownsRow.lt OW148.out k hk).1)
      have x157 : w152.cell? ⟨g, 0, none⟩ = some d.v := (HB156.cell (p := ⟨g, 0, none⟩) HG.out).trans X0.out
      clear x147
      have ON158 : Hid (Blk w152 (w6.heap.size) 78 #[.string (str e.name), e.v, .int .i64 (e.safe : Int)]) := Lib.hid ((Blk.drew ON149.out).grown G154.out NE150.out)
      refine up_one (by exact (atS (atS (atS (atS (atS (atS (atS (atS (atS (atS (atS at0)))))))))))) (by kernel_rfl) (fun K hK => ?_)
      refine step_append_w _ (by rfl) (.tmp 23) (.tmp 25) 65 (by rfl) w6.heap.size 78 (.agg #[.string ⟨#[]⟩, .slice none 0 0, .int .i64 0]) 3 48 Try.underlying65 Try.fileinfo (by rfl) (by decide) _ _ _ (by rfl) (by exact O153.out) _ _ _ (by rfl) (by exact (srcw_one ON158.out)) (by exact HEC.out) (by have := HLN.out; unfold maxLen; simp only [List.length_take]; omega) (by have := HLN.out; simp only [List.length_take]; omega) (by exact HB156.size) ?_
      intro v159 w160 o161 g162 a163
      have O161 := Lib.hid o161
      have G162 := Lib.hid g162
      clear o161 g162 a163
      refine hK.out _ _ (Kept.grown G162.out (fun k hk => .inr (World.ownsRow.lt O153.out k hk).1)) ?_
      clear hK K
      have HB164 : Below w6.heap.size w6 w160 := HB156.grown G162.out HB156.size (fun k hk => (World.ownsRow.lt O153.out k hk).1)
      have x165 : w160.cell? ⟨g, 0, none⟩ = some d.v := (HB164.cell (p := ⟨g, 0, none⟩) HG.out).trans X0.out
      clear x157
      refine up_one (by exact (atS (atS (atS (atS (atS (atS (atS (atS (atS (atS (atS (atS (atS at0)))))))))))))) (by kernel_rfl) (fun K hK => ?_)
      refine step_append_w _ (by rfl) (.tmp 26) (.tmp 27) 65 (by rfl) w6.heap.size 78 (.agg #[.string ⟨#[]⟩, .slice none 0 0, .int .i64 0]) 3 48 Try.underlying65 Try.fileinfo (by rfl) (by decide) _ _ _ (by rfl) (by exact O161.out) _ _ _ (by rfl) (by exact (srcw_own (ownsRow_blk OW6.out (fun k hk => HB164.block k (World.ownsRow.lt OW6.out k hk).2)))) (by exact HRC.out) (by have := HLN.out; unfold maxLen; simp only [List.length_take, List.length_drop]; omega) (by have := HLN.out; simp only [List.length_take, List.length_drop]; omega) (by exact HB164.size) ?_
      intro v166 w167 o168 g169 a170
      have O168 := Lib.hid o168
      have G169 := Lib.hid g169
      clear o168 g169 a170
      refine hK.out _ _ (Kept.grown G169.out (fun k hk => .inr (World.ownsRow.lt O161.out k hk).1)) ?_
      clear hK K
      have HB171 : Below w6.heap.size w6 w167 := HB164.grown G169.out HB164.size (fun k hk => (World.ownsRow.lt O161.out k hk).1)
      have x172 : w167.cell? ⟨g, 0, none⟩ = some d.v := (HB171.cell (p := ⟨g, 0, none⟩) HG.out).trans X0.out
      clear x165
      obtain ⟨A173, cA173, hA173, zA173⟩ := ownsRow_shape O168.out
      clear zA173
      rw [HLE.out, ← HN.out] at hA173
      subst hA173
      refine up_take (by exact (atS (atS (atS (atS (atS (atS (atS (atS (atS (atS (atS (atS (atS (atS at0))))))))))))))) (by kernel_rfl) (by exact fun _ _ _ h => h) (by rfl) (by intro W hW; go_simp; try with_reducible rfl) ?_
      simp only [Act.put, List.setIfInBounds_toArray, List.set_cons_zero, List.set_cons_succ]
      refine up_take (by exact (atS (atS (atS (atS (atS (atS (atS (atS (atS (atS (atS (atS (atS (atS (atS at0)))))))))))))))) (by kernel_rfl) (by exact fun _ _ _ h => h) (by rfl) (by intro W hW; go_simp; try with_reducible rfl) ?_
      simp only [Act.put, List.setIfInBounds_toArray, List.set_cons_zero, List.set_cons_succ]
      refine up_one (by exact (atS (atS (atS (atS (atS (atS (atS (atS (atS (atS (atS (atS (atS (atS (atS (atS at0))))))))))))))))) (by kernel_rfl) (fun K hK => ?_)
      have z0 : w167.frozen? ⟨g, 0, none⟩ = false := (HD6.out.below HB171).2.1.free 0
      go_simp
      refine hK.out _ _ (Kept.grown (grown_set _ g 0 _) (fun k hk => by injection hk with hk; exact .inl hk.symm)) ?_
      clear hK K
      clear z0
      refine up_done (by kernel_rfl) ?_
      go_wp2_with fail
      go_end0
      exact ⟨rfl, _, by exact (row_done6 H.out HB6.out HB171 O168.out (by exact HLE.out) (by exact HCE.out) (by exact HFS.out))⟩
  · go_simp
    refine hK.out _ _ (Kept.below ((Below.refl _ _).alloc (Nat.le_refl _) _)) ?_
    clear hK K
    have HB174 : Below w6.heap.size w6 (w6.alloc (.cells #[.string (str e.name), e.v, .int .i64 (e.safe : Int)] 78)) := HB0.alloc HB0.size _
    have x175 : (w6.alloc (.cells #[.string (str e.name), e.v, .int .i64 (e.safe : Int)] 78)).cell? ⟨g, 0, none⟩ = some d.v := (HB174.cell (p := ⟨g, 0, none⟩) HG.out).trans X0.out
    clear x0
    have ON176 : Hid (Blk (w6.alloc (.cells #[.string (str e.name), e.v, .int .i64 (e.safe : Int)] 78)) (w6.heap.size) 78 #[.string (str e.name), e.v, .int .i64 (e.safe : Int)]) := Lib.hid (by have := Blk.fresh w6 78 #[.string (str e.name), e.v, .int .i64 (e.safe : Int)]; simpa using this)
    refine up_two (by exact (atS at0)) (by exact (atS (atS (atS (atS (atS at0)))))) (by kernel_rfl) (fun K hK => ?_) (fun K hK => ?_)
    · go_simp
      refine hK.out _ _ (Kept.below ((Below.refl _ _).alloc (Nat.le_refl _) _)) ?_
      clear hK K
      have HB177 : Below w6.heap.size w6 ((w6.alloc (.cells #[.string (str e.name), e.v, .int .i64 (e.safe : Int)] 78)).alloc (.cells #[] 78)) := HB174.alloc HB174.size _
      have x178 : ((w6.alloc (.cells #[.string (str e.name), e.v, .int .i64 (e.safe : Int)] 78)).alloc (.cells #[] 78)).cell? ⟨g, 0, none⟩ = some d.v := (HB177.cell (p := ⟨g, 0, none⟩) HG.out).trans X0.out
      clear x175
      have OW179 : Hid (World.ownsRow ((w6.alloc (.cells #[.string (str e.name), e.v, .int .i64 (e.safe : Int)] 78)).alloc (.cells #[] 78)) w6.heap.size 78 3 (.slice (some ⟨w6.heap.size + 1, 0, none⟩) 0 0) 0 []) := Lib.hid (ownsRow_more (ownsRow_empty _ _ 3 _ (by simp)) (by have := HB174.size; simp at this; omega))
      have ON180 : Hid (Blk ((w6.alloc (.cells #[.string (str e.name), e.v, .int .i64 (e.safe : Int)] 78)).alloc (.cells #[] 78)) (w6.heap.size) 78 #[.string (str e.name), e.v, .int .i64 (e.safe : Int)]) := Lib.hid (ON176.out.alloc _)
      have NE181 : Hid (some (w6.heap.size) ≠ (Value.slice (some ⟨w6.heap.size + 1, 0, none⟩) 0 0).ownBlock) := Lib.hid (by simp [Value.ownBlock])
      refine up_one (by exact (atS (atS (atS (atS (atS at0)))))) (by kernel_rfl) (fun K hK => ?_)
      go_simp
      refine hK.out _ _ (Kept.refl _ _) ?_
      clear hK K
      refine up_take (by exact (atS (atS (atS (atS (atS (atS (atS at0)))))))) (by kernel_rfl) (by exact fun _ _ _ h => h) (by rfl) (by intro W hW; have q := HTO.out.1 W; go_simp; try with_reducible rfl) ?_
      simp only [Act.put, List.setIfInBounds_toArray, List.set_cons_zero, List.set_cons_succ]
      refine up_one (by exact (atS (atS (atS (atS (atS (atS (atS (atS at0))))))))) (by kernel_rfl) (fun K hK => ?_)
      refine step_append_w _ (by rfl) (.tmp 16) (.tmp 22) 65 (by rfl) w6.heap.size 78 (.agg #[.string ⟨#[]⟩, .slice none 0 0, .int .i64 0]) 3 48 Try.underlying65 Try.fileinfo (by rfl) (by decide) _ _ _ (by rfl) (by exact OW179.out) _ _ _ (by rfl) (by exact HTO.out.2 _ (drew_b (HB6.out.trans (HB177.mono HB6.out.size)))) (by exact HTC.out) (by have := HLN.out; unfold maxLen; simp only [List.length_take]; omega) (by have := HLN.out; simp only [List.length_take]; omega) (by exact HB177.size) ?_
      intro v182 w183 o184 g185 a186
      have O184 := Lib.hid o184
      have G185 := Lib.hid g185
      clear o184 g185 a186
      refine hK.out _ _ (Kept.grown G185.out (fun k hk => .inr (World.ownsRow.lt OW179.out k hk).1)) ?_
      clear hK K
      have HB187 : Below w6.heap.size w6 w183 := (drew_b HB177).grown G185.out (drew_b HB177).size (fun k hk => (World.ownsRow.lt OW179.out k hk).1)
      have x188 : w183.cell? ⟨g, 0, none⟩ = some d.v := (HB187.cell (p := ⟨g, 0, none⟩) HG.out).trans X0.out
      clear x178
      have ON189 : Hid (Blk w183 (w6.heap.size) 78 #[.string (str e.name), e.v, .int .i64 (e.safe : Int)]) := Lib.hid ((Blk.drew ON180.out).grown G185.out NE181.out)
      refine up_one (by exact (atS (atS (atS (atS (atS (atS (atS (atS (atS (atS (atS at0)))))))))))) (by kernel_rfl) (fun K hK => ?_)
      refine step_append_w _ (by rfl) (.tmp 23) (.tmp 25) 65 (by rfl) w6.heap.size 78 (.agg #[.string ⟨#[]⟩, .slice none 0 0, .int .i64 0]) 3 48 Try.underlying65 Try.fileinfo (by rfl) (by decide) _ _ _ (by rfl) (by exact O184.out) _ _ _ (by rfl) (by exact (srcw_one ON189.out)) (by exact HEC.out) (by have := HLN.out; unfold maxLen; simp only [List.length_take]; omega) (by have := HLN.out; simp only [List.length_take]; omega) (by exact HB187.size) ?_
      intro v190 w191 o192 g193 a194
      have O192 := Lib.hid o192
      have G193 := Lib.hid g193
      clear o192 g193 a194
      refine hK.out _ _ (Kept.grown G193.out (fun k hk => .inr (World.ownsRow.lt O184.out k hk).1)) ?_
      clear hK K
      have HB195 : Below w6.heap.size w6 w191 := HB187.grown G193.out HB187.size (fun k hk => (World.ownsRow.lt O184.out k hk).1)
      have x196 : w191.cell? ⟨g, 0, none⟩ = some d.v := (HB195.cell (p := ⟨g, 0, none⟩) HG.out).trans X0.out
      clear x188
      refine up_one (by exact (atS (atS (atS (atS (atS (atS (atS (atS (atS (atS (atS (atS (atS at0)))))))))))))) (by kernel_rfl) (fun K hK => ?_)
      refine step_append_w _ (by rfl) (.tmp 26) (.tmp 27) 65 (by rfl) w6.heap.size 78 (.agg #[.string ⟨#[]⟩, .slice none 0 0, .int .i64 0]) 3 48 Try.underlying65 Try.fileinfo (by rfl) (by decide) _ _ _ (by rfl) (by exact O192.out) _ _ _ (by rfl) (by exact (srcw_own (ownsRow_blk OW6.out (fun k hk => HB195.block k (World.ownsRow.lt OW6.out k hk).2)))) (by exact HRC.out) (by have := HLN.out; unfold maxLen; simp only [List.length_take, List.length_drop]; omega) (by have := HLN.out; simp only [List.length_take, List.length_drop]; omega) (by exact HB195.size) ?_
      intro v197 w198 o199 g200 a201
      have O199 := Lib.hid o199
      have G200 := Lib.hid g200
      clear o199 g200 a201
      refine hK.out _ _ (Kept.grown G200.out (fun k hk => .inr (World.ownsRow.lt O192.out k hk).1)) ?_
      clear hK K
      have HB202 : Below w6.heap.size w6 w198 := HB195.grown G200.out HB195.size (fun k hk => (World.ownsRow.lt O192.out k hk).1)
      have x203 : w198.cell? ⟨g, 0, none⟩ = some d.v := (HB202.cell (p := ⟨g, 0, none⟩) HG.out).trans X0.out
      clear x196
      obtain ⟨A204, cA204, hA204, zA204⟩ := ownsRow_shape O199.out
      clear zA204
      rw [HLE.out, ← HN.out] at hA204
      subst hA204
      refine up_take (by exact (atS (atS (atS (atS (atS (atS (atS (atS (atS (atS (atS (atS (atS (atS at0))))))))))))))) (by kernel_rfl) (by exact fun _ _ _ h => h) (by rfl) (by intro W hW; go_simp; try with_reducible rfl) ?_
      simp only [Act.put, List.setIfInBounds_toArray, List.set_cons_zero, List.set_cons_succ]
      refine up_take (by exact (atS (atS (atS (atS (atS (atS (atS (atS (atS (atS (atS (atS (atS (atS (atS at0)))))))))))))))) (by kernel_rfl) (by exact fun _ _ _ h => h) (by rfl) (by intro W hW; go_simp; try with_reducible rfl) ?_
      simp only [Act.put, List.setIfInBounds_toArray, List.set_cons_zero, List.set_cons_succ]
      refine up_one (by exact (atS (atS (atS (atS (atS (atS (atS (atS (atS (atS (atS (atS (atS (atS (atS (atS at0))))))))))))))))) (by kernel_rfl) (fun K hK => ?_)
      have z0 : w198.frozen? ⟨g, 0, none⟩ = false := (HD6.out.below HB202).2.1.free 0
      go_simp
      refine hK.out _ _ (Kept.grown (grown_set _ g 0 _) (fun k hk => by injection hk with hk; exact .inl hk.symm)) ?_
      clear hK K
      clear z0
      refine up_done (by kernel_rfl) ?_
      go_wp2_with fail
      go_end0
      exact ⟨rfl, _, by exact (row_done6 H.out HB6.out HB202 O199.out (by exact HLE.out) (by exact HCE.out) (by exact HFS.out))⟩
    · go_simp
      refine hK.out _ _ (Kept.refl _ _) ?_
      clear hK K
      refine up_take (by exact (atS (atS (atS (atS (atS (atS (atS at0)))))))) (by kernel_rfl) (by exact fun _ _ _ h => h) (by rfl) (by intro W hW; have q := HTO.out.1 W; go_simp; try with_reducible rfl) ?_
      simp only [Act.put, List.setIfInBounds_toArray, List.set_cons_zero, List.set_cons_succ]
      refine up_one (by exact (atS at0)) (by kernel_rfl) (fun K hK => ?_)
      go_simp
      refine hK.out _ _ (Kept.below ((Below.refl _ _).alloc (Nat.le_refl _) _)) ?_
      clear hK K
      have HB205 : Below w6.heap.size w6 ((w6.alloc (.cells #[.string (str e.name), e.v, .int .i64 (e.safe : Int)] 78)).alloc (.cells #[] 78)) := HB174.alloc HB174.size _
      have x206 : ((w6.alloc (.cells #[.string (str e.name), e.v, .int .i64 (e.safe : Int)] 78)).alloc (.cells #[] 78)).cell? ⟨g, 0, none⟩ = some d.v := (HB205.cell (p := ⟨g, 0, none⟩) HG.out).trans X0.out
      clear x175
      have OW207 : Hid (World.ownsRow ((w6.alloc (.cells #[.string (str e.name), e.v, .int .i64 (e.safe : Int)] 78)).alloc (.cells #[] 78)) w6.heap.size 78 3 (.slice (some ⟨w6.heap.size + 1, 0, none⟩) 0 0) 0 []) := Lib.hid (ownsRow_more (ownsRow_empty _ _ 3 _ (by simp)) (by have := HB174.size; simp at this; omega))
      have ON208 : Hid (Blk ((w6.alloc (.cells #[.string (str e.name), e.v, .int .i64 (e.safe : Int)] 78)).alloc (.cells #[] 78)) (w6.heap.size) 78 #[.string (str e.name), e.v, .int .i64 (e.safe : Int)]) := Lib.hid (ON176.out.alloc _)
      have NE209 : Hid (some (w6.heap.size) ≠ (Value.slice (some ⟨w6.heap.size + 1, 0, none⟩) 0 0).ownBlock) := Lib.hid (by simp [Value.ownBlock])
      refine up_one (by exact (atS (atS (atS (atS (atS (atS (atS (atS at0))))))))) (by kernel_rfl) (fun K hK => ?_)
      refine step_append_w _ (by rfl) (.tmp 16) (.tmp 22) 65 (by rfl) w6.heap.size 78 (.agg #[.string ⟨#[]⟩, .slice none 0 0, .int .i64 0]) 3 48 Try.underlying65 Try.fileinfo (by rfl) (by decide) _ _ _ (by rfl) (by exact OW207.out) _ _ _ (by rfl) (by exact HTO.out.2 _ (drew_b (HB6.out.trans (HB205.mono HB6.out.size)))) (by exact HTC.out) (by have := HLN.out; unfold maxLen; simp only [List.length_take]; omega) (by have := HLN.out; simp only [List.length_take]; omega) (by exact HB205.size) ?_
      intro v210 w211 o212 g213 a214
      have O212 := Lib.hid o212
      have G213 := Lib.hid g213
      clear o212 g213 a214
      refine hK.out _ _ (Kept.grown G213.out (fun k hk => .inr (World.ownsRow.lt OW207.out k hk).1)) ?_
      clear hK K
      have HB215 : Below w6.heap.size w6 w211 := (drew_b HB205).grown G213.out (drew_b HB205).size (fun k hk => (World.ownsRow.lt OW207.out k hk).1)
      have x216 : w211.cell? ⟨g, 0, none⟩ = some d.v := (HB215.cell (p := ⟨g, 0, none⟩) HG.out).trans X0.out
      clear x206
      have ON217 : Hid (Blk w211 (w6.heap.size) 78 #[.string (str e.name), e.v, .int .i64 (e.safe : Int)]) := Lib.hid ((Blk.drew ON208.out).grown G213.out NE209.out)
      refine up_one (by exact (atS (atS (atS (atS (atS (atS (atS (atS (atS (atS (atS at0)))))))))))) (by kernel_rfl) (fun K hK => ?_)
      refine step_append_w _ (by rfl) (.tmp 23) (.tmp 25) 65 (by rfl) w6.heap.size 78 (.agg #[.string ⟨#[]⟩, .slice none 0 0, .int .i64 0]) 3 48 Try.underlying65 Try.fileinfo (by rfl) (by decide) _ _ _ (by rfl) (by exact O212.out) _ _ _ (by rfl) (by exact (srcw_one ON217.out)) (by exact HEC.out) (by have := HLN.out; unfold maxLen; simp only [List.length_take]; omega) (by have := HLN.out; simp only [List.length_take]; omega) (by exact HB215.size) ?_
      intro v218 w219 o220 g221 a222
      have O220 := Lib.hid o220
      have G221 := Lib.hid g221
      clear o220 g221 a222
      refine hK.out _ _ (Kept.grown G221.out (fun k hk => .inr (World.ownsRow.lt O212.out k hk).1)) ?_
      clear hK K
      have HB223 : Below w6.heap.size w6 w219 := HB215.grown G221.out HB215.size (fun k hk => (World.ownsRow.lt O212.out k hk).1)
      have x224 : w219.cell? ⟨g, 0, none⟩ = some d.v := (HB223.cell (p := ⟨g, 0, none⟩) HG.out).trans X0.out
      clear x216
      refine up_one (by exact (atS (atS (atS (atS (atS (atS (atS (atS (atS (atS (atS (atS (atS at0)))))))))))))) (by kernel_rfl) (fun K hK => ?_)
      refine step_append_w _ (by rfl) (.tmp 26) (.tmp 27) 65 (by rfl) w6.heap.size 78 (.agg #[.string ⟨#[]⟩, .slice none 0 0, .int .i64 0]) 3 48 Try.underlying65 Try.fileinfo (by rfl) (by decide) _ _ _ (by rfl) (by exact O220.out) _ _ _ (by rfl) (by exact (srcw_own (ownsRow_blk OW6.out (fun k hk => HB223.block k (World.ownsRow.lt OW6.out k hk).2)))) (by exact HRC.out) (by have := HLN.out; unfold maxLen; simp only [List.length_take, List.length_drop]; omega) (by have := HLN.out; simp only [List.length_take, List.length_drop]; omega) (by exact HB223.size) ?_
      intro v225 w226 o227 g228 a229
      have O227 := Lib.hid o227
      have G228 := Lib.hid g228
      clear o227 g228 a229
      refine hK.out _ _ (Kept.grown G228.out (fun k hk => .inr (World.ownsRow.lt O220.out k hk).1)) ?_
      clear hK K
      have HB230 : Below w6.heap.size w6 w226 := HB223.grown G228.out HB223.size (fun k hk => (World.ownsRow.lt O220.out k hk).1)
      have x231 : w226.cell? ⟨g, 0, none⟩ = some d.v := (HB230.cell (p := ⟨g, 0, none⟩) HG.out).trans X0.out
      clear x224
      obtain ⟨A232, cA232, hA232, zA232⟩ := ownsRow_shape O227.out
      clear zA232
      rw [HLE.out, ← HN.out] at hA232
      subst hA232
      refine up_take (by exact (atS (atS (atS (atS (atS (atS (atS (atS (atS (atS (atS (atS (atS (atS at0))))))))))))))) (by kernel_rfl) (by exact fun _ _ _ h => h) (by rfl) (by intro W hW; go_simp; try with_reducible rfl) ?_
      simp only [Act.put, List.setIfInBounds_toArray, List.set_cons_zero, List.set_cons_succ]
      refine up_take (by exact (atS (atS (atS (atS (atS (atS (atS (atS (atS (atS (atS (atS (atS (atS (atS at0)))))))))))))))) (by kernel_rfl) (by exact fun _ _ _ h => h) (by rfl) (by intro W hW; go_simp; try with_reducible rfl) ?_
      simp only [Act.put, List.setIfInBounds_toArray, List.set_cons_zero, List.set_cons_succ]
      refine up_one (by exact (atS (atS (atS (atS (atS (atS (atS (atS (atS (atS (atS (atS (atS (atS (atS (atS at0))))))))))))))))) (by kernel_rfl) (fun K hK => ?_)
      have z0 : w226.frozen? ⟨g, 0, none⟩ = false := (HD6.out.below HB230).2.1.free 0
      go_simp
      refine hK.out _ _ (Kept.grown (grown_set _ g 0 _) (fun k hk => by injection hk with hk; exact .inl hk.symm)) ?_
      clear hK K
      clear z0
      refine up_done (by kernel_rfl) ?_
      go_wp2_with fail
      go_end0
      exact ⟨rfl, _, by exact (row_done6 H.out HB6.out HB230 O227.out (by exact HLE.out) (by exact HCE.out) (by exact HFS.out))⟩
set_option maxHeartbeats 3200000 in
set_option maxRecDepth 100000 in
theorem rdrop {w : World} {lo g : Nat} {d : RDisk} (h : RDiskAt w lo g d) (hE : d.E.length ≤ 1000000) (i : Nat) (hi : i < d.E.length) :
    Calls Try.prog 65 #[.pointer (some ⟨g, 0, none⟩), .int .i64 (i : Int)] w (RMade w lo g d (d.E.take i ++ d.E.drop (i + 1))) := by
  obtain ⟨vf, hvf, hsf⟩ := h.from_ (i + 1) (by omega)
  obtain ⟨vt, hvt, hst⟩ := h.to_ i (by omega)
  rw [show ((i + 1 : Nat) : Int) = (i : Int) + 1 from rfl] at hvf
  have hfs : ∀ x ∈ d.E.take i ++ d.E.drop (i + 1), RFile w lo x := fun x hx => by
    rcases List.mem_append.1 hx with hx | hx
    · exact h.2.2.2 x (List.mem_of_mem_take hx)
    · exact h.2.2.2 x (List.mem_of_mem_drop hx)
  have H := Lib.hid h
  have HTO : Hid ((∀ W, (Instr.slice 65 d.v none (some (.int .i64 (i : Int))) none).run Try.prog W = .ok vt W) ∧ ∀ W, Below w.heap.size w W → SrcW W 3 vt (d.E.take i).length (rcells (d.E.take i))) := Lib.hid ⟨hvt, hst⟩
  have HFR : Hid ((∀ W, (Instr.slice 65 d.v (some (.int .i64 ((i : Int) + 1))) none none).run Try.prog W = .ok vf W) ∧ ∀ W, Below w.heap.size w W → SrcW W 3 vf (d.E.drop (i + 1)).length (rcells (d.E.drop (i + 1)))) := Lib.hid ⟨hvf, hsf⟩
  have HWR : Hid (IntKind.i64.wrap ((i : Int) + 1) = (i : Int) + 1) := Lib.hid (IntWalk.i64_in _ (by omega))
  have HTC : Hid (∀ u ∈ rcells (d.E.take i), u.oneCell' = true) := Lib.hid (rcells_one fun x hx => h.2.2.2 x (List.mem_of_mem_take hx))
  have HRC : Hid (∀ u ∈ rcells (d.E.drop (i + 1)), u.oneCell' = true) := Lib.hid (rcells_one fun x hx => h.2.2.2 x (List.mem_of_mem_drop hx))
  have HFS := Lib.hid hfs
  have HLE : Hid (0 + (d.E.take i).length + (d.E.drop (i + 1)).length = (d.E.take i ++ d.E.drop (i + 1)).length) := Lib.hid (by simp only [List.length_append, List.length_take, List.length_drop]; omega)
  have HCE : Hid ([] ++ rcells (d.E.take i) ++ rcells (d.E.drop (i + 1)) = rcells (d.E.take i ++ d.E.drop (i + 1))) := Lib.hid (by rw [rcells_app, List.nil_append])
  have HLN : Hid (d.E.length ≤ 1000000 ∧ i < d.E.length) := Lib.hid ⟨hE, hi⟩
  obtain ⟨N, HN⟩ : ∃ N, Hid (N = (d.E.take i ++ d.E.drop (i + 1)).length) := ⟨_, Lib.hid rfl⟩
  have HG : Hid (g < w.heap.size) := Lib.hid (h.lt g (.inl rfl)).2
  have HB6 : Hid (Below w.heap.size w w) := Lib.hid (Below.refl _ _)
  have HD6 := H
  have X0 : Hid (w.cell? ⟨g, 0, none⟩ = some d.v) := Lib.hid (h.2.1.cell 0)
  have x0 : w.cell? ⟨g, 0, none⟩ = some d.v := X0.out
  have HB0 : Below w.heap.size w w := Below.refl _ _
  clear h hE hi hvt hst hsf hfs hvf
  go_enter Try.func65, Try.ntmps65
  go_wp2_with fail
  refine up_start (fun k => k = g ∨ w.heap.size ≤ k) (by kernel_rfl) ?_
  refine up_take (by exact at0) (by kernel_rfl) (by exact fun _ _ _ h => h) (by rfl) (by intro W hW; go_simp; try with_reducible rfl) ?_
  simp only [Act.put, List.setIfInBounds_toArray, List.set_cons_zero, List.set_cons_succ]
  refine up_take (by exact (atS (atS at0))) (by kernel_rfl) (by exact fun _ _ _ h => h) (by rfl) (by intro W hW; go_simp; try with_reducible rfl) ?_
  simp only [Act.put, List.setIfInBounds_toArray, List.set_cons_zero, List.set_cons_succ]
  refine up_take (by exact (atS (atS (atS at0)))) (by kernel_rfl) (by exact fun _ _ _ h => h) (by rfl) (by intro W hW; go_simp; try with_reducible rfl) ?_
  simp only [Act.put, List.setIfInBounds_toArray, List.set_cons_zero, List.set_cons_succ]
  refine up_take (by exact (atS (atS (atS (atS at0))))) (by kernel_rfl) (by exact fun _ _ _ h => h) (by rfl) (by intro W hW; go_simp; try with_reducible rfl) ?_
  simp only [Act.put, List.setIfInBounds_toArray, List.set_cons_zero, List.set_cons_succ]
  refine up_take (by exact (atS (atS (atS (atS (atS (atS at0))))))) (by kernel_rfl) (by exact fun _ _ _ h => h) (by rfl) (by intro W hW; go_simp; try with_reducible rfl) ?_
  simp only [Act.put, List.setIfInBounds_toArray, List.set_cons_zero, List.set_cons_succ]
  refine up_take (by exact (atS (atS (atS (atS (atS (atS (atS (atS (atS at0)))))))))) (by kernel_rfl) (by exact fun _ _ _ h => h) (by rfl) (by intro W hW; go_simp; try with_reducible rfl) ?_
  simp only [Act.put, List.setIfInBounds_toArray, List.set_cons_zero, List.set_cons_succ]
  refine up_take (by exact (atS (atS (atS (atS (atS (atS (atS (atS (atS (atS at0))))))))))) (by kernel_rfl) (by exact fun _ _ _ h => h) (by rfl) (by intro W hW; go_simp; try with_reducible rfl) ?_
  simp only [Act.put, List.setIfInBounds_toArray, List.set_cons_zero, List.set_cons_succ]
  refine up_take (by exact (atS (atS (atS (atS (atS (atS (atS (atS (atS (atS (atS at0)))))))))))) (by kernel_rfl) (by exact fun _ _ _ h => h) (by rfl) (by intro W hW; go_simp; try with_reducible rfl) ?_
  simp only [Act.put, List.setIfInBounds_toArray, List.set_cons_zero, List.set_cons_succ]
  refine up_take (by exact (atS (atS (atS (atS (atS (atS (atS (atS (atS (atS (atS (atS (atS at0)))))))))))))) (by kernel_rfl) (by exact fun _ _ _ h => h) (by rfl) (by intro W hW; go_simp; try with_reducible rfl) ?_
  simp only [Act.put, List.setIfInBounds_toArray, List.set_cons_zero, List.set_cons_succ]
  refine up_take (by exact (atS (atS (atS (atS (atS (atS (atS (atS (atS (atS (atS (atS (atS (atS at0))))))))))))))) (by kernel_rfl) (by exact fun _ _ _ h => h) (by rfl) (by intro W hW; have q := HWR.out; go_simp; try with_reducible rfl) ?_
  simp only [Act.put, List.setIfInBounds_toArray, List.set_cons_zero, List.set_cons_succ]
  refine up_three (by exact (atS at0)) (by exact (atS (atS (atS (atS (atS at0)))))) (by exact (atS (atS (atS (atS (atS (atS (atS (atS (atS (atS (atS (atS at0))))))))))))) (by kernel_rfl) (fun K hK => ?_) (fun K hK => ?_) (fun K hK => ?_)
  · go_simp
    refine hK.out _ _ (Kept.below ((Below.refl _ _).alloc (Nat.le_refl _) _)) ?_
    clear hK K
    have HB233 : Below w.heap.size w (w.alloc (.cells #[] 78)) := HB0.alloc HB0.size _
    have x234 : (w.alloc (.cells #[] 78)).cell? ⟨g, 0, none⟩ = some d.v := (HB233.cell (p := ⟨g, 0, none⟩) HG.out).trans X0.out
    clear x0
    have OW235 : Hid (World.ownsRow (w.alloc (.cells #[] 78)) w.heap.size 78 3 (.slice (some ⟨w.heap.size, 0, none⟩) 0 0) 0 []) := Lib.hid (ownsRow_more (ownsRow_empty _ _ 3 _ (by simp)) (by have := HB0.size; simp at this; omega))
    refine up_two (by exact (atS (atS (atS (atS (atS at0)))))) (by exact (atS (atS (atS (atS (atS (atS (atS (atS (atS (atS (atS (atS at0))))))))))))) (by kernel_rfl) (fun K hK => ?_) (fun K hK => ?_)
    · go_simp
      refine hK.out _ _ (Kept.refl _ _) ?_
      clear hK K
      refine up_take (by exact (atS (atS (atS (atS (atS (atS (atS at0)))))))) (by kernel_rfl) (by exact fun _ _ _ h => h) (by rfl) (by intro W hW; have q := HTO.out.1 W; go_simp; try with_reducible rfl) ?_
      simp only [Act.put, List.setIfInBounds_toArray, List.set_cons_zero, List.set_cons_succ]
      refine up_two (by exact (atS (atS (atS (atS (atS (atS (atS (atS at0))))))))) (by exact (atS (atS (atS (atS (atS (atS (atS (atS (atS (atS (atS (atS at0))))))))))))) (by kernel_rfl) (fun K hK => ?_) (fun K hK => ?_)
      · refine step_append_w _ (by rfl) (.tmp 5) (.tmp 11) 65 (by rfl) w.heap.size 78 (.agg #[.string ⟨#[]⟩, .slice none 0 0, .int .i64 0]) 3 48 Try.underlying65 Try.fileinfo (by rfl) (by decide) _ _ _ (by rfl) (by exact OW235.out) _ _ _ (by rfl) (by exact HTO.out.2 _ (drew_b HB233)) (by exact HTC.out) (by have := HLN.out; unfold maxLen; simp only [List.length_take]; omega) (by have := HLN.out; simp only [List.length_take]; omega) (by exact HB233.size) ?_
        intro v236 w237 o238 g239 a240
        have O238 := Lib.hid o238
        have G239 := Lib.hid g239
        clear o238 g239 a240
        refine hK.out _ _ (Kept.grown G239.out (fun k hk => .inr (World.ownsRow.lt OW235.out k hk).1)) ?_
        clear hK K
        have HB241 : Below w.heap.size w w237 := (drew_b HB233).grown G239.out (drew_b HB233).size (fun k hk => (World.ownsRow.lt OW235.out k hk).1)
        have x242 : w237.cell? ⟨g, 0, none⟩ = some d.v := (HB241.cell (p := ⟨g, 0, none⟩) HG.out).trans X0.out
        clear x234
        refine up_one (by exact (atS (atS (atS (atS (atS (atS (atS (atS (atS (atS (atS (atS at0))))))))))))) (by kernel_rfl) (fun K hK => ?_)
        go_simp
        refine hK.out _ _ (Kept.refl _ _) ?_
        clear hK K
        refine up_take (by exact (atS (atS (atS (atS (atS (atS (atS (atS (atS (atS (atS (atS (atS (atS (atS at0)))))))))))))))) (by kernel_rfl) (by exact fun _ _ _ h => h) (by rfl) (by intro W hW; have q := HFR.out.1 W; go_simp; try with_reducible rfl) ?_
        simp only [Act.put, List.setIfInBounds_toArray, List.set_cons_zero, List.set_cons_succ]
        refine up_one (by exact (atS (atS (atS (atS (atS (atS (atS (atS (atS (atS (atS (atS (atS (atS (atS (atS at0))))))))))))))))) (by kernel_rfl) (fun K hK => ?_)
        refine step_append_w _ (by rfl) (.tmp 12) (.tmp 19) 65 (by rfl) w.heap.size 78 (.agg #[.string ⟨#[]⟩, .slice none 0 0, .int .i64 0]) 3 48 Try.underlying65 Try.fileinfo (by rfl) (by decide) _ _ _ (by rfl) (by exact O238.out) _ _ _ (by rfl) (by exact (HFR.out.2 _ HB241)) (by exact HRC.out) (by have := HLN.out; unfold maxLen; simp only [List.length_take, List.length_drop]; omega) (by have := HLN.out; simp only [List.length_take, List.length_drop]; omega) (by exact HB241.size) ?_
        intro v243 w244 o245 g246 a247
        have O245 := Lib.hid o245
        have G246 := Lib.hid g246
        clear o245 g246 a247
        refine hK.out _ _ (Kept.grown G246.out (fun k hk => .inr (World.ownsRow.lt O238.out k hk).1)) ?_
        clear hK K
        have HB248 : Below w.heap.size w w244 := HB241.grown G246.out HB241.size (fun k hk => (World.ownsRow.lt O238.out k hk).1)
        have x249 : w244.cell? ⟨g, 0, none⟩ = some d.v := (HB248.cell (p := ⟨g, 0, none⟩) HG.out).trans X0.out
        clear x242
        obtain ⟨A250, cA250, hA250, zA250⟩ := ownsRow_shape O245.out
        clear zA250
        rw [HLE.out, ← HN.out] at hA250
        subst hA250
        refine up_take (by exact (atS (atS (atS (atS (atS (atS (atS (atS (atS (atS (atS (atS (atS (atS (atS (atS (atS at0)))))))))))))))))) (by kernel_rfl) (by exact fun _ _ _ h => h) (by rfl) (by intro W hW; go_simp; try with_reducible rfl) ?_
        simp only [Act.put, List.setIfInBounds_toArray, List.set_cons_zero, List.set_cons_succ]
        refine up_take (by exact (atS (atS (atS (atS (atS (atS (atS (atS (atS (atS (atS (atS (atS (atS (atS (atS (atS (atS at0))))))))))))))))))) (by kernel_rfl) (by exact fun _ _ _ h => h) (by rfl) (by intro W hW; go_simp; try with_reducible rfl) ?_
        simp only [Act.put, List.setIfInBounds_toArray, List.set_cons_zero, List.set_cons_succ]
        refine up_one (by exact (atS (atS (atS (atS (atS (atS (atS (atS (atS (atS (atS (atS (atS (atS (atS (atS (atS (atS (atS at0)))))))))))))))))))) (by kernel_rfl) (fun K hK => ?_)
        have z0 : w244.frozen? ⟨g, 0, none⟩ = false := (HD6.out.below HB248).2.1.free 0
        go_simp
        refine hK.out _ _ (Kept.grown (grown_set _ g 0 _) (fun k hk => by injection hk with hk; exact .inl hk.symm)) ?_
        clear hK K
        clear z0
        refine up_done (by kernel_rfl) ?_
        go_wp2_with fail
        go_end0
        exact ⟨rfl, _, by exact (row_done6 H.out HB6.out HB248 O245.out (by exact HLE.out) (by exact HCE.out) (by exact HFS.out))⟩
      · go_simp
        refine hK.out _ _ (Kept.refl _ _) ?_
        clear hK K
        refine up_take (by exact (atS (atS (atS (atS (atS (atS (atS (atS (atS (atS (atS (atS (atS (atS (atS at0)))))))))))))))) (by kernel_rfl) (by exact fun _ _ _ h => h) (by rfl) (by intro W hW; have q := HFR.out.1 W; go_simp; try with_reducible rfl) ?_
        simp only [Act.put, List.setIfInBounds_toArray, List.set_cons_zero, List.set_cons_succ]
        refine up_one (by exact (atS (atS (atS (atS (atS (atS (atS (atS at0))))))))) (by kernel_rfl) (fun K hK => ?_)
        refine step_append_w _ (by rfl) (.tmp 5) (.tmp 11) 65 (by rfl) w.heap.size 78 (.agg #[.string ⟨#[]⟩, .slice none 0 0, .int .i64 0]) 3 48 Try.underlying65 Try.fileinfo (by rfl) (by decide) _ _ _ (by rfl) (by exact OW235.out) _ _ _ (by rfl) (by exact HTO.out.2 _ (drew_b HB233)) (by exact HTC.out) (by have := HLN.out; unfold maxLen; simp only [List.length_take]; omega) (by have := HLN.out; simp only [List.length_take]; omega) (by exact HB233.size) ?_
        intro v251 w252 o253 g254 a255
        have O253 := Lib.hid o253
        have G254 := Lib.hid g254
        clear o253 g254 a255
        refine hK.out _ _ (Kept.grown G254.out (fun k hk => .inr (World.ownsRow.lt OW235.out k hk).1)) ?_
        clear hK K
        have HB256 : Below w.heap.size w w252 := (drew_b HB233).grown G254.out (drew_b HB233).size (fun k hk => (World.ownsRow.lt OW235.out k hk).1)
        have x257 : w252.cell? ⟨g, 0, none⟩ = some d.v := (HB256.cell (p := ⟨g, 0, none⟩) HG.out).trans X0.out
        clear x234
        refine up_one (by exact (atS (atS (atS (atS (atS (atS (atS (atS (atS (atS (atS (atS (atS (atS (atS (atS at0))))))))))))))))) (by kernel_rfl) (fun K hK => ?_)
        refine step_append_w _ (by rfl) (.tmp 12) (.tmp 19) 65 (by rfl) w.heap.size 78 (.agg #[.string ⟨#[]⟩, .slice none 0 0, .int .i64 0]) 3 48 Try.underlying65 Try.fileinfo (by rfl) (by decide) _ _ _ (by rfl) (by exact O253.out) _ _ _ (by rfl) (by exact (HFR.out.2 _ HB256)) (by exact HRC.out) (by have := HLN.out; unfold maxLen; simp only [List.length_take, List.length_drop]; omega) (by have := HLN.out; simp only [List.length_take, List.length_drop]; omega) (by exact HB256.size) ?_
        intro v258 w259 o260 g261 a262
        have O260 := Lib.hid o260
        have G261 := Lib.hid g261
        clear o260 g261 a262
        refine hK.out _ _ (Kept.grown G261.out (fun k hk => .inr (World.ownsRow.lt O253.out k hk).1)) ?_
        clear hK K
        have HB263 : Below w.heap.size w w259 := HB256.grown G261.out HB256.size (fun k hk => (World.ownsRow.lt O253.out k hk).1)
        have x264 : w259.cell? ⟨g, 0, none⟩ = some d.v := (HB263.cell (p := ⟨g, 0, none⟩) HG.out).trans X0.out
        clear x257
        obtain ⟨A265, cA265, hA265, zA265⟩ := ownsRow_shape O260.out
        clear zA265
        rw [HLE.out, ← HN.out] at hA265
        subst hA265
        refine up_take (by exact (atS (atS (atS (atS (atS (atS (atS (atS (atS (atS (atS (atS (atS (atS (atS (atS (atS at0)))))))))))))))))) (by kernel_rfl) (by exact fun _ _ _ h => h) (by rfl) (by intro W hW; go_simp; try with_reducible rfl) ?_
        simp only [Act.put, List.setIfInBounds_toArray, List.set_cons_zero, List.set_cons_succ]
        refine up_take (by exact (atS (atS (atS (atS (atS (atS (atS (atS (atS (atS (atS (atS (atS (atS (atS (atS (atS (atS at0))))))))))))))))))) (by kernel_rfl) (by exact fun _ _ _ h => h) (by rfl) (by intro W hW; go_simp; try with_reducible rfl) ?_
        simp only [Act.put, List.setIfInBounds_toArray, List.set_cons_zero, List.set_cons_succ]
        refine up_one (by exact (atS (atS (atS (atS (atS (atS (atS (atS (atS (atS (atS (atS (atS (atS (atS (atS (atS (atS (atS at0)))))))))))))))))))) (by kernel_rfl) (fun K hK => ?_)
        have z0 : w259.frozen? ⟨g, 0, none⟩ = false := (HD6.out.below HB263).2.1.free 0
        go_simp
        refine hK.out _ _ (Kept.grown (grown_set _ g 0 _) (fun k hk => by injection hk with hk; exact .inl hk.symm)) ?_
        clear hK K
        clear z0
        refine up_done (by kernel_rfl) ?_
        go_wp2_with fail
        go_end0
        exact ⟨rfl, _, by exact (row_done6 H.out HB6.out HB263 O260.out (by exact HLE.out) (by exact HCE.out) (by exact HFS.out))⟩
    · go_simp
      refine hK.out _ _ (Kept.refl _ _) ?_
      clear hK K
      refine up_take (by exact (atS (atS (atS (atS (atS (atS (atS (atS (atS (atS (atS (atS (atS (atS (atS at0)))))))))))))))) (by kernel_rfl) (by exact fun _ _ _ h => h) (by rfl) (by intro W hW; have q := HFR.out.1 W; go_simp; try with_reducible rfl) ?_
      simp only [Act.put, List.setIfInBounds_toArray, List.set_cons_zero, List.set_cons_succ]
      refine up_one (by exact (atS (atS (atS (atS (atS at0)))))) (by kernel_rfl) (fun K hK => ?_)
      go_simp
      refine hK.out _ _ (Kept.refl _ _) ?_
      clear hK K
      refine up_take (by exact (atS (atS (atS (atS (atS (atS (atS at0)))))))) (by kernel_rfl) (by exact fun _ _ _ h => h) (by rfl) (by intro W hW; have q := HTO.out.1 W; go_simp; try with_reducible rfl) ?_
      simp only [Act.put, List.setIfInBounds_toArray, List.set_cons_zero, List.set_cons_succ]
      refine up_one (by exact (atS (atS (atS (atS (atS (atS (atS (atS at0))))))))) (by kernel_rfl) (fun K hK => ?_)
      refine step_append_w _ (by rfl) (.tmp 5) (.tmp 11) 65 (by rfl) w.heap.size 78 (.agg #[.string ⟨#[]⟩, .slice none 0 0, .int .i64 0]) 3 48 Try.underlying65 Try.fileinfo (by rfl) (by decide) _ _ _ (by rfl) (by exact OW235.out) _ _ _ (by rfl) (by exact HTO.out.2 _ (drew_b HB233)) (by exact HTC.out) (by have := HLN.out; unfold maxLen; simp only [List.length_take]; omega) (by have := HLN.out; simp only [List.length_take]; omega) (by exact HB233.size) ?_
      intro v266 w267 o268 g269 a270
      have O268 := Lib.hid o268
      have G269 := Lib.hid g269
      clear o268 g269 a270
      refine hK.out _ _ (Kept.grown G269.out (fun k hk => .inr (World.ownsRow.lt OW235.out k hk).1)) ?_
      clear hK K
      have HB271 : Below w.heap.size w w267 := (drew_b HB233).grown G269.out (drew_b HB233).size (fun k hk => (World.ownsRow.lt OW235.out k hk).1)
      have x272 : w267.cell? ⟨g, 0, none⟩ = some d.v := (HB271.cell (p := ⟨g, 0, none⟩) HG.out).trans X0.out
      clear x234
      refine up_one (by exact (atS (atS (atS (atS (atS (atS (atS (atS (atS (atS (atS (atS (atS (atS (atS (atS at0))))))))))))))))) (by kernel_rfl) (fun K hK => ?_)
      refine step_append_w _ (by rfl) (.tmp 12) (.tmp 19) 65 (by rfl) w.heap.size 78 (.agg #[.string ⟨#[]⟩, .slice none 0 0, .int .i64 0]) 3 48 Try.underlying65 Try.fileinfo (by rfl) (by decide) _ _ _ (by rfl) (by exact O268.out) _ _ _ (by rfl) (by exact (HFR.out.2 _ HB271)) (by exact HRC.out) (by have := HLN.out; unfold maxLen; simp only [List.length_take, List.length_drop]; omega) (by have := HLN.out; simp only [List.length_take, List.length_drop]; omega) (by exact HB271.size) ?_
      intro v273 w274 o275 g276 a277
      have O275 := Lib.hid o275
      have G276 := Lib.hid g276
      clear o275 g276 a277
      refine hK.out _ _ (Kept.grown G276.out (fun k hk => .inr (World.ownsRow.lt O268.out k hk).1)) ?_
      clear hK K
      have HB278 : Below w.heap.size w w274 := HB271.grown G276.out HB271.size (fun k hk => (World.ownsRow.lt O268.out k hk).1)
      have x279 : w274.cell? ⟨g, 0, none⟩ = some d.v := (HB278.cell (p := ⟨g, 0, none⟩) HG.out).trans X0.out
      clear x272
      obtain ⟨A280, cA280, hA280, zA280⟩ := ownsRow_shape O275.out
      clear zA280
      rw [HLE.out, ← HN.out] at hA280
      subst hA280
      refine up_take (by exact (atS (atS (atS (atS (atS (atS (atS (atS (atS (atS (atS (atS (atS (atS (atS (atS (atS at0)))))))))))))))))) (by kernel_rfl) (by exact fun _ _ _ h => h) (by rfl) (by intro W hW; go_simp; try with_reducible rfl) ?_
      simp only [Act.put, List.setIfInBounds_toArray, List.set_cons_zero, List.set_cons_succ]
      refine up_take (by exact (atS (atS (atS (atS (atS (atS (atS (atS (atS (atS (atS (atS (atS (atS (atS (atS (atS (atS at0))))))))))))))))))) (by kernel_rfl) (by exact fun _ _ _ h => h) (by rfl) (by intro W hW; go_simp; try with_reducible rfl) ?_
      simp only [Act.put, List.setIfInBounds_toArray, List.set_cons_zero, List.set_cons_succ]
      refine up_one (by exact (atS (atS (atS (atS (atS (atS (atS (atS (atS (atS (atS (atS (atS (atS (atS (atS (atS (atS (atS at0)))))))))))))))))))) (by kernel_rfl) (fun K hK => ?_)
      have z0 : w274.frozen? ⟨g, 0, none⟩ = false := (HD6.out.below HB278).2.1.free 0
      go_simp
      refine hK.out _ _ (Kept.grown (grown_set _ g 0 _) (fun k hk => by injection hk with hk; exact .inl hk.symm)) ?_
      clear hK K
      clear z0
      refine up_done (by kernel_rfl) ?_
      go_wp2_with fail
      go_end0
      exact ⟨rfl, _, by exact (row_done6 H.out HB6.out HB278 O275.out (by exact HLE.out) (by exact HCE.out) (by exact HFS.out))⟩
  · go_simp
    refine hK.out _ _ (Kept.refl _ _) ?_
    clear hK K
    refine up_take (by exact (atS (atS (atS (atS (atS (atS (atS at0)))))))) (by kernel_rfl) (by exact fun _ _ _ h => h) (by rfl) (by intro W hW; have q := HTO.out.1 W; go_simp; try with_reducible rfl) ?_
    simp only [Act.put, List.setIfInBounds_toArray, List.set_cons_zero, List.set_cons_succ]
    refine up_two (by exact (atS at0)) (by exact (atS (atS (atS (atS (atS (atS (atS (atS (atS (atS (atS (atS at0))))))))))))) (by kernel_rfl) (fun K hK => ?_) (fun K hK => ?_)
    · go_simp
      refine hK.out _ _ (Kept.below ((Below.refl _ _).alloc (Nat.le_refl _) _)) ?_
      clear hK K
      have HB281 : Below w.heap.size w (w.alloc (.cells #[] 78)) := HB0.alloc HB0.size _
      have x282 : (w.alloc (.cells #[] 78)).cell? ⟨g, 0, none⟩ = some d.v := (HB281.cell (p := ⟨g, 0, none⟩) HG.out).trans X0.out
      clear x0
      have OW283 : Hid (World.ownsRow (w.alloc (.cells #[] 78)) w.heap.size 78 3 (.slice (some ⟨w.heap.size, 0, none⟩) 0 0) 0 []) := Lib.hid (ownsRow_more (ownsRow_empty _ _ 3 _ (by simp)) (by have := HB0.size; simp at this; omega))
      refine up_two (by exact (atS (atS (atS (atS (atS (atS (atS (atS at0))))))))) (by exact (atS (atS (atS (atS (atS (atS (atS (atS (atS (atS (atS (atS at0))))))))))))) (by kernel_rfl) (fun K hK => ?_) (fun K hK => ?_)
      · refine step_append_w _ (by rfl) (.tmp 5) (.tmp 11) 65 (by rfl) w.heap.size 78 (.agg #[.string ⟨#[]⟩, .slice none 0 0, .int .i64 0]) 3 48 Try.underlying65 Try.fileinfo (by rfl) (by decide) _ _ _ (by rfl) (by exact OW283.out) _ _ _ (by rfl) (by exact HTO.out.2 _ (drew_b HB281)) (by exact HTC.out) (by have := HLN.out; unfold maxLen; simp only [List.length_take]; omega) (by have := HLN.out; simp only [List.length_take]; omega) (by exact HB281.size) ?_
        intro v284 w285 o286 g287 a288
        have O286 := Lib.hid o286
        have G287 := Lib.hid g287
        clear o286 g287 a288
        refine hK.out _ _ (Kept.grown G287.out (fun k hk => .inr (World.ownsRow.lt OW283.out k hk).1)) ?_
        clear hK K
        have HB289 : Below w.heap.size w w285 := (drew_b HB281).grown G287.out (drew_b HB281).size (fun k hk => (World.ownsRow.lt OW283.out k hk).1)
        have x290 : w285.cell? ⟨g, 0, none⟩ = some d.v := (HB289.cell (p := ⟨g, 0, none⟩) HG.out).trans X0.out
        clear x282
        refine up_one (by exact (atS (atS (atS (atS (atS (atS (atS (atS (atS (atS (atS (atS at0))))))))))))) (by kernel_rfl) (fun K hK => ?_)
        go_simp
        refine hK.out _ _ (Kept.refl _ _) ?_
        clear hK K
        refine up_take (by exact (atS (atS (atS (atS (atS (atS (atS (atS (atS (atS (atS (atS (atS (atS (atS at0)))))))))))))))) (by kernel_rfl) (by exact fun _ _ _ h => h) (by rfl) (by intro W hW; have q := HFR.out.1 W; go_simp; try with_reducible rfl) ?_
        simp only [Act.put, List.setIfInBounds_toArray, List.set_cons_zero, List.set_cons_succ]
        refine up_one (by exact (atS (atS (atS (atS (atS (atS (atS (atS (atS (atS (atS (atS (atS (atS (atS (atS at0))))))))))))))))) (by kernel_rfl) (fun K hK => ?_)
        refine step_append_w _ (by rfl) (.tmp 12) (.tmp 19) 65 (by rfl) w.heap.size 78 (.agg #[.string ⟨#[]⟩, .slice none 0 0, .int .i64 0]) 3 48 Try.underlying65 Try.fileinfo (by rfl) (by decide) _ _ _ (by rfl) (by exact O286.out) _ _ _ (by rfl) (by exact (HFR.out.2 _ HB289)) (by exact HRC.out) (by have := HLN.out; unfold maxLen; simp only [List.length_take, List.length_drop]; omega) (by have := HLN.out; simp only [List.length_take, List.length_drop]; omega) (by exact HB289.size) ?_
        intro v291 w292 o293 g294 a295
        have O293 := Lib.hid o293
        have G294 := Lib.hid g294
        clear o293 g294 a295
        refine hK.out _ _ (Kept.grown G294.out (fun k hk => .inr (World.ownsRow.lt O286.out k hk).1)) ?_
        clear hK K
        have HB296 : Below w.heap.size w w292 := HB289.grown G294.out HB289.size (fun k hk => (World.ownsRow.lt O286.out k hk).1)
        have x297 : w292.cell? ⟨g, 0, none⟩ = some d.v := (HB296.cell (p := ⟨g, 0, none⟩) HG.out).trans X0.out
        clear x290
        obtain ⟨A298, cA298, hA298, zA298⟩ := ownsRow_shape O293.out
        clear zA298
        rw [HLE.out, ← HN.out] at hA298
        subst hA298
        refine up_take (by exact (atS (atS (atS (atS (atS (atS (atS (atS (atS (atS (atS (atS (atS (atS (atS (atS (atS at0)))))))))))))))))) (by kernel_rfl) (by exact fun _ _ _ h => h) (by rfl) (by intro W hW; go_simp; try with_reducible rfl) ?_
        simp only [Act.put, List.setIfInBounds_toArray, List.set_cons_zero, List.set_cons_succ]
        refine up_take (by exact (atS (atS (atS (atS (atS (atS (atS (atS (atS (atS (atS (atS (atS (atS (atS (atS (atS (atS at0))))))))))))))))))) (by kernel_rfl) (by exact fun _ _ _ h => h) (by rfl) (by intro W hW; go_simp; try with_reducible rfl) ?_
        simp only [Act.put, List.setIfInBounds_toArray, List.set_cons_zero, List.set_cons_succ]
        refine up_one (by exact (atS (atS (atS (atS (atS (atS (atS (atS (atS (atS (atS (atS (atS (atS (atS (atS (atS (atS (atS at0)))))))))))))))))))) (by kernel_rfl) (fun K hK => ?_)
        have z0 : w292.frozen? ⟨g, 0, none⟩ = false := (HD6.out.below HB296).2.1.free 0
        go_simp
        refine hK.out _ _ (Kept.grown (grown_set _ g 0 _) (fun k hk => by injection hk with hk; exact .inl hk.symm)) ?_
        clear hK K
        clear z0
        refine up_done (by kernel_rfl) ?_
        go_wp2_with fail
        go_end0
        exact ⟨rfl, _, by exact (row_done6 H.out HB6.out HB296 O293.out (by exact HLE.out) (by exact HCE.out) (by exact HFS.out))⟩
      · go_simp
        refine hK.out _ _ (Kept.refl _ _) ?_
        clear hK K
        refine up_take (by exact (atS (atS (atS (atS (atS (atS (atS (atS (atS (atS (atS (atS (atS (atS (atS at0)))))))))))))))) (by kernel_rfl) (by exact fun _ _ _ h => h) (by rfl) (by intro W hW; have q := HFR.out.1 W; go_simp; try with_reducible rfl) ?_
        simp only [Act.put, List.setIfInBounds_toArray, List.set_cons_zero, List.set_cons_succ]
        refine up_one (by exact (atS (atS (atS (atS (atS (atS (atS (atS at0))))))))) (by kernel_rfl) (fun K hK => ?_)
        refine step_append_w _ (by rfl) (.tmp 5) (.tmp 11) 65 (by rfl) w.heap.size 78 (.agg #[.string ⟨#[]⟩, .slice none 0 0, .int .i64 0]) 3 48 Try.underlying65 Try.fileinfo (by rfl) (by decide) _ _ _ (by rfl) (by exact OW283.out) _ _ _ (by rfl) (by exact HTO.out.2 _ (drew_b HB281)) (by exact HTC.out) (by have := HLN.out; unfold maxLen; simp only [List.length_take]; omega) (by have := HLN.out; simp only [List.length_take]; omega) (by exact HB281.size) ?_
        intro v299 w300 o301 g302 a303
        have O301 := Lib.hid o301
        have G302 := Lib.hid g302
        clear o301 g302 a303
        refine hK.out _ _ (Kept.grown G302.out (fun k hk => .inr (World.ownsRow.lt OW283.out k hk).1)) ?_
        clear hK K
        have HB304 : Below w.heap.size w w300 := (drew_b HB281).grown G302.out (drew_b HB281).size (fun k hk => (World.ownsRow.lt OW283.out k hk).1)
        have x305 : w300.cell? ⟨g, 0, none⟩ = some d.v := (HB304.cell (p := ⟨g, 0, none⟩) HG.out).trans X0.out
        clear x282
        refine up_one (by exact (atS (atS (atS (atS (atS (atS (atS (atS (atS (atS (atS (atS (atS (atS (atS (atS at0))))))))))))))))) (by kernel_rfl) (fun K hK => ?_)
        refine step_append_w _ (by rfl) (.tmp 12) (.tmp 19) 65 (by rfl) w.heap.size 78 (.agg #[.string ⟨#[]⟩, .slice none 0 0, .int .i64 0]) 3 48 Try.underlying65 Try.fileinfo (by rfl) (by decide) _ _ _ (by rfl) (by exact O301.out) _ _ _ (by rfl) (by exact (HFR.out.2 _ HB304)) (by exact HRC.out) (by have := HLN.out; unfold maxLen; simp only [List.length_take, List.length_drop]; omega) (by have := HLN.out; simp only [List.length_take, List.length_drop]; omega) (by exact HB304.size) ?_
        intro v306 w307 o308 g309 a310
        have O308 := Lib.hid o308
        have G309 := Lib.hid g309
        clear o308 g309 a310
        refine hK.out _ _ (Kept.grown G309.out (fun k hk => .inr (World.ownsRow.lt O301.out k hk).1)) ?_
        clear hK K
        have HB311 : Below w.heap.size w w307 := HB304.grown G309.out HB304.size (fun k hk => (World.ownsRow.lt O301.out k hk).1)
        have x312 : w307.cell? ⟨g, 0, none⟩ = some d.v := (HB311.cell (p := ⟨g, 0, none⟩) HG.out).trans X0.out
        clear x305
        obtain ⟨A313, cA313, hA313, zA313⟩ := ownsRow_shape O308.out
        clear zA313
        rw [HLE.out, ← HN.out] at hA313
        subst hA313
        refine up_take (by exact (atS (atS (atS (atS (atS (atS (atS (atS (atS (atS (atS (atS (atS (atS (atS (atS (atS at0)))))))))))))))))) (by kernel_rfl) (by exact fun _ _ _ h => h) (by rfl) (by intro W hW; go_simp; try with_reducible rfl) ?_
        simp only [Act.put, List.setIfInBounds_toArray, List.set_cons_zero, List.set_cons_succ]
        refine up_take (by exact (atS (atS (atS (atS (atS (atS (atS (atS (atS (atS (atS (atS (atS (atS (atS (atS (atS (atS at0))))))))))))))))))) (by kernel_rfl) (by exact fun _ _ _ h => h) (by rfl) (by intro W hW; go_simp; try with_reducible rfl) ?_
        simp only [Act.put, List.setIfInBounds_toArray, List.set_cons_zero, List.set_cons_succ]
        refine up_one (by exact (atS (atS (atS (atS (atS (atS (atS (atS (atS (atS (atS (atS (atS (atS (atS (atS (atS (atS (atS at0)))))))))))))))))))) (by kernel_rfl) (fun K hK => ?_)
        have z0 : w307.frozen? ⟨g, 0, none⟩ = false := (HD6.out.below HB311).2.1.free 0
        go_simp
        refine hK.out _ _ (Kept.grown (grown_set _ g 0 _) (fun k hk => by injection hk with hk; exact .inl hk.symm)) ?_
        clear hK K
        clear z0
        refine up_done (by kernel_rfl) ?_
        go_wp2_with fail
        go_end0
        exact ⟨rfl, _, by exact (row_done6 H.out HB6.out HB311 O308.out (by exact HLE.out) (by exact HCE.out) (by exact HFS.out))⟩
    · go_simp
      refine hK.out _ _ (Kept.refl _ _) ?_
      clear hK K
      refine up_take (by exact (atS (atS (atS (atS (atS (atS (atS (atS (atS (atS (atS (atS (atS (atS (atS at0)))))))))))))))) (by kernel_rfl) (by exact fun _ _ _ h => h) (by rfl) (by intro W hW; have q := HFR.out.1 W; go_simp; try with_reducible rfl) ?_
      simp only [Act.put, List.setIfInBounds_toArray, List.set_cons_zero, List.set_cons_succ]
      refine up_one (by exact (atS at0)) (by kernel_rfl) (fun K hK => ?_)
      go_simp
      refine hK.out _ _ (Kept.below ((Below.refl _ _).alloc (Nat.le_refl _) _)) ?_
      clear hK K
      have HB314 : Below w.heap.size w (w.alloc (.cells #[] 78)) := HB0.alloc HB0.size _
      have x315 : (w.alloc (.cells #[] 78)).cell? ⟨g, 0, none⟩ = some d.v := (HB314.cell (p := ⟨g, 0, none⟩) HG.out).trans X0.out
      clear x0
      have OW316 : Hid (World.ownsRow (w.alloc (.cells #[] 78)) w.heap.size 78 3 (.slice (some ⟨w.heap.size, 0, none⟩) 0 0) 0 []) := Lib.hid (ownsRow_more (ownsRow_empty _ _ 3 _ (by simp)) (by have := HB0.size; simp at this; omega))
      refine up_one (by exact (atS (atS (atS (atS (atS (atS (atS (atS at0))))))))) (by kernel_rfl) (fun K hK => ?_)
      refine step_append_w _ (by rfl) (.tmp 5) (.tmp 11) 65 (by rfl) w.heap.size 78 (.agg #[.string ⟨#[]⟩, .slice none 0 0, .int .i64 0]) 3 48 Try.underlying65 Try.fileinfo (by rfl) (by decide) _ _ _ (by rfl) (by exact OW316.out) _ _ _ (by rfl) (by exact HTO.out.2 _ (drew_b HB314)) (by exact HTC.out) (by have := HLN.out; unfold maxLen; simp only [List.length_take]; omega) (by have := HLN.out; simp only [List.length_take]; omega) (by exact HB314.size) ?_
      intro v317 w318 o319 g320 a321
      have O319 := Lib.hid o319
      have G320 := Lib.hid g320
      clear o319 g320 a321
      refine hK.out _ _ (Kept.grown G320.out (fun k hk => .inr (World.ownsRow.lt OW316.out k hk).1)) ?_
      clear hK K
      have HB322 : Below w.heap.size w w318 := (drew_b HB314).grown G320.out (drew_b HB314).size (fun k hk => (World.ownsRow.lt OW316.out k hk).1)
      have x323 : w318.cell? ⟨g, 0, none⟩ = some d.v := (HB322.cell (p := ⟨g, 0, none⟩) HG.out).trans X0.out
      clear x315
      refine up_one (by exact (atS (atS (atS (atS (atS (atS (atS (atS (atS (atS (atS (atS (atS (atS (atS (atS at0))))))))))))))))) (by kernel_rfl) (fun K hK => ?_)
      refine step_append_w _ (by rfl) (.tmp 12) (.tmp 19) 65 (by rfl) w.heap.size 78 (.agg #[.string ⟨#[]⟩, .slice none 0 0, .int .i64 0]) 3 48 Try.underlying65 Try.fileinfo (by rfl) (by decide) _ _ _ (by rfl) (by exact O319.out) _ _ _ (by rfl) (by exact (HFR.out.2 _ HB322)) (by exact HRC.out) (by have := HLN.out; unfold maxLen; simp only [List.length_take, List.length_drop]; omega) (by have := HLN.out; simp only [List.length_take, List.length_drop]; omega) (by exact HB322.size) ?_
      intro v324 w325 o326 g327 a328
      have O326 := Lib.hid o326
      have G327 := Lib.hid g327
      clear o326 g327 a328
      refine hK.out _ _ (Kept.grown G327.out (fun k hk => .inr (World.ownsRow.lt O319.out k hk).1)) ?_
      clear hK K
      have HB329 : Below w.heap.size w w325 := HB322.grown G327.out HB322.size (fun k hk => (World.ownsRow.lt O319.out k hk).1)
      have x330 : w325.cell? ⟨g, 0, none⟩ = some d.v := (HB329.cell (p := ⟨g, 0, none⟩) HG.out).trans X0.out
      clear x323
      obtain ⟨A331, cA331, hA331, zA331⟩ := ownsRow_shape O326.out
      clear zA331
      rw [HLE.out, ← HN.out] at hA331
      subst hA331
      refine up_take (by exact (atS (atS (atS (atS (atS (atS (atS (atS (atS (atS (atS (atS (atS (atS (atS (atS (atS at0)))))))))))))))))) (by kernel_rfl) (by exact fun _ _ _ h => h) (by rfl) (by intro W hW; go_simp; try with_reducible rfl) ?_
      simp only [Act.put, List.setIfInBounds_toArray, List.set_cons_zero, List.set_cons_succ]
      refine up_take (by exact (atS (atS (atS (atS (atS (atS (atS (atS (atS (atS (atS (atS (atS (atS (atS (atS (atS (atS at0))))))))))))))))))) (by kernel_rfl) (by exact fun _ _ _ h => h) (by rfl) (by intro W hW; go_simp; try with_reducible rfl) ?_
      simp only [Act.put, List.setIfInBounds_toArray, List.set_cons_zero, List.set_cons_succ]
      refine up_one (by exact (atS (atS (atS (atS (atS (atS (atS (atS (atS (atS (atS (atS (atS (atS (atS (atS (atS (atS (atS at0)))))))))))))))))))) (by kernel_rfl) (fun K hK => ?_)
      have z0 : w325.frozen? ⟨g, 0, none⟩ = false := (HD6.out.below HB329).2.1.free 0
      go_simp
      refine hK.out _ _ (Kept.grown (grown_set _ g 0 _) (fun k hk => by injection hk with hk; exact .inl hk.symm)) ?_
      clear hK K
      clear z0
      refine up_done (by kernel_rfl) ?_
      go_wp2_with fail
      go_end0
      exact ⟨rfl, _, by exact (row_done6 H.out HB6.out HB329 O326.out (by exact HLE.out) (by exact HCE.out) (by exact HFS.out))⟩
  · go_simp
    refine hK.out _ _ (Kept.refl _ _) ?_
    clear hK K
    refine up_take (by exact (atS (atS (atS (atS (atS (atS (atS (atS (atS (atS (atS (atS (atS (atS (atS at0)))))))))))))))) (by kernel_rfl) (by exact fun _ _ _ h => h) (by rfl) (by intro W hW; have q := HFR.out.1 W; go_simp; try with_reducible rfl) ?_
    simp only [Act.put, List.setIfInBounds_toArray, List.set_cons_zero, List.set_cons_succ]
    refine up_two (by exact (atS at0)) (by exact (atS (atS (atS (atS (atS at0)))))) (by kernel_rfl) (fun K hK => ?_) (fun K hK => ?_)
    · go_simp
      refine hK.out _ _ (Kept.below ((Below.refl _ _).alloc (Nat.le_refl _) _)) ?_
      clear hK K
      have HB332 : Below w.heap.size w (w.alloc (.cells #[] 78)) := HB0.alloc HB0.size _
      have x333 : (w.alloc (.cells #[] 78)).cell? ⟨g, 0, none⟩ = some d.v := (HB332.cell (p := ⟨g, 0, none⟩) HG.out).trans X0.out
      clear x0
      have OW334 : Hid (World.ownsRow (w.alloc (.cells #[] 78)) w.heap.size 78 3 (.slice (some ⟨w.heap.size, 0, none⟩) 0 0) 0 []) := Lib.hid (ownsRow_more (ownsRow_empty _ _ 3 _ (by simp)) (by have := HB0.size; simp at this; omega))
      refine up_one (by exact (atS (atS (atS (atS (atS at0)))))) (by kernel_rfl) (fun K hK => ?_)
      go_simp
      refine hK.out _ _ (Kept.refl _ _) ?_
      clear hK K
      refine up_take (by exact (atS (atS (atS (atS (atS (atS (atS at0)))))))) (by kernel_rfl) (by exact fun _ _ _ h => h) (by rfl) (by intro W hW; have q := HTO.out.1 W; go_simp; try with_reducible rfl) ?_
      simp only [Act.put, List.setIfInBounds_toArray, List.set_cons_zero, List.set_cons_succ]
      refine up_one (by exact (atS (atS (atS (atS (atS (atS (atS (atS at0))))))))) (by kernel_rfl) (fun K hK => ?_)
      refine step_append_w _ (by rfl) (.tmp 5) (.tmp 11) 65 (by rfl) w.heap.size 78 (.agg #[.string ⟨#[]⟩, .slice none 0 0, .int .i64 0]) 3 48 Try.underlying65 Try.fileinfo (by rfl) (by decide) _ _ _ (by rfl) (by exact OW334.out) _ _ _ (by rfl) (by exact HTO.out.2 _ (drew_b HB332)) (by exact HTC.out) (by have := HLN.out; unfold maxLen; simp only [List.length_take]; omega) (by have := HLN.out; simp only [List.length_take]; omega) (by exact HB332.size) ?_
      intro v335 w336 o337 g338 a339
      have O337 := Lib.hid o337
      have G338 := Lib.hid g338
      clear o337 g338 a339
      refine hK.out _ _ (Kept.grown G338.out (fun k hk => .inr (World.ownsRow.lt OW334.out k hk).1)) ?_
      clear hK K
      have HB340 : Below w.heap.size w w336 := (drew_b HB332).grown G338.out (drew_b HB332).size (fun k hk => (World.ownsRow.lt OW334.out k hk).1)
      have x341 : w336.cell? ⟨g, 0, none⟩ = some d.v := (HB340.cell (p := ⟨g, 0, none⟩) HG.out).trans X0.out
      clear x333
      refine up_one (by exact (atS (atS (atS (atS (atS (atS (atS (atS (atS (atS (atS (atS (atS (atS (atS (atS at0))))))))))))))))) (by kernel_rfl) (fun K hK => ?_)
      refine step_append_w _ (by rfl) (.tmp 12) (.tmp 19) 65 (by rfl) w.heap.size 78 (.agg #[.string ⟨#[]⟩, .slice none 0 0, .int .i64 0]) 3 48 Try.underlying65 Try.fileinfo (by rfl) (by decide) _ _ _ (by rfl) (by exact O337.out) _ _ _ (by rfl) (by exact (HFR.out.2 _ HB340)) (by exact HRC.out) (by have := HLN.out; unfold maxLen; simp only [List.length_take, List.length_drop]; omega) (by have := HLN.out; simp only [List.length_take, List.length_drop]; omega) (by exact HB340.size) ?_
      intro v342 w343 o344 g345 a346
      have O344 := Lib.hid o344
      have G345 := Lib.hid g345
      clear o344 g345 a346
      refine hK.out _ _ (Kept.grown G345.out (fun k hk => .inr (World.ownsRow.lt O337.out k hk).1)) ?_
      clear hK K
      have HB347 : Below w.heap.size w w343 := HB340.grown G345.out HB340.size (fun k hk => (World.ownsRow.lt O337.out k hk).1)
      have x348 : w343.cell? ⟨g, 0, none⟩ = some d.v := (HB347.cell (p := ⟨g, 0, none⟩) HG.out).trans X0.out
      clear x341
      obtain ⟨A349, cA349, hA349, zA349⟩ := ownsRow_shape O344.out
      clear zA349
      rw [HLE.out, ← HN.out] at hA349
      subst hA349
      refine up_take (by exact (atS (atS (atS (atS (atS (atS (atS (atS (atS (atS (atS (atS (atS (atS (atS (atS (atS at0)))))))))))))))))) (by kernel_rfl) (by exact fun _ _ _ h => h) (by rfl) (by intro W hW; go_simp; try with_reducible rfl) ?_
      simp only [Act.put, List.setIfInBounds_toArray, List.set_cons_zero, List.set_cons_succ]
      refine up_take (by exact (atS (atS (atS (atS (atS (atS (atS (atS (atS (atS (atS (atS (atS (atS (atS (atS (atS (atS at0))))))))))))))))))) (by kernel_rfl) (by exact fun _ _ _ h => h) (by rfl) (by intro W hW; go_simp; try with_reducible rfl) ?_
      simp only [Act.put, List.setIfInBounds_toArray, List.set_cons_zero, List.set_cons_succ]
      refine up_one (by exact (atS (atS (atS (atS (atS (atS (atS (atS (atS (atS (atS (atS (atS (atS (atS (atS (atS (atS (atS at0)))))))))))))))))))) (by kernel_rfl) (fun K hK => ?_)
      have z0 : w343.frozen? ⟨g, 0, none⟩ = false := (HD6.out.below HB347).2.1.free 0
      go_simp
      refine hK.out _ _ (Kept.grown (grown_set _ g 0 _) (fun k hk => by injection hk with hk; exact .inl hk.symm)) ?_
      clear hK K
      clear z0
      refine up_done (by kernel_rfl) ?_
      go_wp2_with fail
      go_end0
      exact ⟨rfl, _, by exact (row_done6 H.out HB6.out HB347 O344.out (by exact HLE.out) (by exact HCE.out) (by exact HFS.out))⟩
    · go_simp
      refine hK.out _ _ (Kept.refl _ _) ?_
      clear hK K
      refine up_take (by exact (atS (atS (atS (atS (atS (atS (atS at0)))))))) (by kernel_rfl) (by exact fun _ _ _ h => h) (by rfl) (by intro W hW; have q := HTO.out.1 W; go_simp; try with_reducible rfl) ?_
      simp only [Act.put, List.setIfInBounds_toArray, List.set_cons_zero, List.set_cons_succ]
      refine up_one (by exact (atS at0)) (by kernel_rfl) (fun K hK => ?_)
      go_simp
      refine hK.out _ _ (Kept.below ((Below.refl _ _).alloc (Nat.le_refl _) _)) ?_
      clear hK K
      have HB350 : Below w.heap.size w (w.alloc (.cells #[] 78)) := HB0.alloc HB0.size _
      have x351 : (w.alloc (.cells #[] 78)).cell? ⟨g, 0, none⟩ = some d.v := (HB350.cell (p := ⟨g, 0, none⟩) HG.out).trans X0.out
      clear x0
      have OW352 : Hid (World.ownsRow (w.alloc (.cells #[] 78)) w.heap.size 78 3 (.slice (some ⟨w.heap.size, 0, none⟩) 0 0) 0 []) := Lib.hid (ownsRow_more (ownsRow_empty _ _ 3 _ (by simp)) (by have := HB0.size; simp at this; omega))
      refine up_one (by exact (atS (atS (atS (atS (atS (atS (atS (atS at0))))))))) (by kernel_rfl) (fun K hK => ?_)
      refine step_append_w _ (by rfl) (.tmp 5) (.tmp 11) 65 (by rfl) w.heap.size 78 (.agg #[.string ⟨#[]⟩, .slice none 0 0, .int .i64 0]) 3 48 Try.underlying65 Try.fileinfo (by rfl) (by decide) _ _ _ (by rfl) (by exact OW352.out) _ _ _ (by rfl) (by exact HTO.out.2 _ (drew_b HB350)) (by exact HTC.out) (by have := HLN.out; unfold maxLen; simp only [List.length_take]; omega) (by have := HLN.out; simp only [List.length_take]; omega) (by exact HB350.size) ?_
      intro v353 w354 o355 g356 a357
      have O355 := Lib.hid o355
      have G356 := Lib.hid g356
      clear o355 g356 a357
      refine hK.out _ _ (Kept.grown G356.out (fun k hk => .inr (World.ownsRow.lt OW352.out k hk).1)) ?_
      clear hK K
      have HB358 : Below w.heap.size w w354 := (drew_b HB350).grown G356.out (drew_b HB350).size (fun k hk => (World.ownsRow.lt OW352.out k hk).1)
      have x359 : w354.cell? ⟨g, 0, none⟩ = some d.v := (HB358.cell (p := ⟨g, 0, none⟩) HG.out).trans X0.out
      clear x351
      refine up_one (by exact (atS (atS (atS (atS (atS (atS (atS (atS (atS (atS (atS (atS (atS (atS (atS (atS at0))))))))))))))))) (by kernel_rfl) (fun K hK => ?_)
      refine step_append_w _ (by rfl) (.tmp 12) (.tmp 19) 65 (by rfl) w.heap.size 78 (.agg #[.string ⟨#[]⟩, .slice none 0 0, .int .i64 0]) 3 48 Try.underlying65 Try.fileinfo (by rfl) (by decide) _ _ _ (by rfl) (by exact O355.out) _ _ _ (by rfl) (by exact (HFR.out.2 _ HB358)) (by exact HRC.out) (by have := HLN.out; unfold maxLen; simp only [List.length_take, List.length_drop]; omega) (by have := HLN.out; simp only [List.length_take, List.length_drop]; omega) (by exact HB358.size) ?_
      intro v360 w361 o362 g363 a364
      have O362 := Lib.hid o362
      have G363 := Lib.hid g363
      clear o362 g363 a364
      refine hK.out _ _ (Kept.grown G363.out (fun k hk => .inr (World.ownsRow.lt O355.out k hk).1)) ?_
      clear hK K
      have HB365 : Below w.heap.size w w361 := HB358.grown G363.out HB358.size (fun k hk => (World.ownsRow.lt O355.out k hk).1)
      have x366 : w361.cell? ⟨g, 0, none⟩ = some d.v := (HB365.cell (p := ⟨g, 0, none⟩) HG.out).trans X0.out
      clear x359
      obtain ⟨A367, cA367, hA367, zA367⟩ := ownsRow_shape O362.out
      clear zA367
      rw [HLE.out, ← HN.out] at hA367
      subst hA367
      refine up_take (by exact (atS (atS (atS (atS (atS (atS (atS (atS (atS (atS (atS (atS (atS (atS (atS (atS (atS at0)))))))))))))))))) (by kernel_rfl) (by exact fun _ _ _ h => h) (by rfl) (by intro W hW; go_simp; try with_reducible rfl) ?_
      simp only [Act.put, List.setIfInBounds_toArray, List.set_cons_zero, List.set_cons_succ]
      refine up_take (by exact (atS (atS (atS (atS (atS (atS (atS (atS (atS (atS (atS (atS (atS (atS (atS (atS (atS (atS at0))))))))))))))))))) (by kernel_rfl) (by exact fun _ _ _ h => h) (by rfl) (by intro W hW; go_simp; try with_reducible rfl) ?_
      simp only [Act.put, List.setIfInBounds_toArray, List.set_cons_zero, List.set_cons_succ]
      refine up_one (by exact (atS (atS (atS (atS (atS (atS (atS (atS (atS (atS (atS (atS (atS (atS (atS (atS (atS (atS (atS at0)))))))))))))))))))) (by kernel_rfl) (fun K hK => ?_)
      have z0 : w361.frozen? ⟨g, 0, none⟩ = false := (HD6.out.below HB365).2.1.free 0
      go_simp
      refine hK.out _ _ (Kept.grown (grown_set _ g 0 _) (fun k hk => by injection hk with hk; exact .inl hk.symm)) ?_
      clear hK K
      clear z0
      refine up_done (by kernel_rfl) ?_
      go_wp2_with fail
      go_end0
      exact ⟨rfl, _, by exact (row_done6 H.out HB6.out HB365 O362.out (by exact HLE.out) (by exact HCE.out) (by exact HFS.out))⟩
end Go.Proofs.Ytincdegoiknfhab
