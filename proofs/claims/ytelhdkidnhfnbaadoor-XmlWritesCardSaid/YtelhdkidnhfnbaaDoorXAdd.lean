/-
  A token is added to the reader's. Condition: at most a million tokens; the rows lie above the reader.
-/
import Derived.Test.YtelhdkidnhfnbaaDoorXTok
namespace Go.Proofs.YtelhdkidnhfnbaaDoor
open Go.RowKit

/-- One token more, in memory. -/
theorem push_done {w w9 : World} {base g : Nat} {l : List UInt8} {tk p bf v9 : Value} {E : List TokE} {text : List UInt8} (h : RdrS w base g l tk p bf E text) (e : TokE) (ha : AttrRow w base e)
    (ho : Off (fun k => tk.ownBlock = some k) w w9) (o9 : w9.ownsRow base 36 4 v9 (E.length + 1) (tcells E ++ [.int .i64 e.kind, .string (str e.name), e.v, .string (str e.text)])) :
    RdrS (w9.setCell ⟨g, 1, none⟩ v9) base g l v9 p bf (E ++ [e]) text ∧ Off (fun k => k = g ∨ tk.ownBlock = some k) w (w9.setCell ⟨g, 1, none⟩ v9) := by
  obtain ⟨h1, h2, h3, h4, h5, h6, h7⟩ := h
  have hset : w9.grownBy (w9.setCell ⟨g, 1, none⟩ v9) (some g) := grown_set _ g 1 _
  have hoff : Off (fun k => k = g ∨ tk.ownBlock = some k) w (w9.setCell ⟨g, 1, none⟩ v9) := (ho.wide fun k hk => .inr hk).trans (Off.grown (F := fun k => k = g) hset fun k hk => by injection hk with hk; exact hk.symm) fun k hk => .inl (.inl hk)
  have r9 : RdrAt w9 g l tk p bf := (ho.2.2.2.2 g (Blk.lt h1) fun hk => row_neB h4 h1 (by decide) g hk rfl).trans h1
  have hattr : ∀ x : TokE, AttrRow w base x → AttrRow (w9.setCell ⟨g, 1, none⟩ v9) base x := fun x hx => by
    refine ownsRow_blk hx fun k hk => hoff.2.2.2.2 k (World.ownsRow.lt hx k hk).2 ?_
    rintro (e1 | e1)
    · exact row_neB hx h1 (by decide) k hk e1
    · exact row_ne hx h4 (by decide) k hk e1
  refine ⟨⟨r9.set 1 _, h2, ?_, ?_, fun x hx => ?_, h6, Nat.le_trans h7 hoff.2.2.2.1⟩, hoff⟩
  · refine ownsRow_blk h3 fun k hk => hoff.2.2.2.2 k (World.ownsRow.lt h3 k hk).2 ?_
    rintro (e1 | e1)
    · exact row_neB h3 h1 (by decide) k hk e1
    · exact row_ne h3 h4 (by decide) k hk e1
  · rw [List.length_append, tcells_app]
    refine ownsRow_blk o9 fun k hk => hset.block k (World.ownsRow.lt o9 k hk).2 ?_
    intro e1
    injection e1 with e1
    have := (World.ownsRow.lt o9 k hk).1
    omega
  · rcases List.mem_append.1 hx with hx | hx
    · exact hattr x (h5 x hx)
    · rw [List.mem_singleton.1 hx]
      exact hattr e ha
def AddAns (w : World) (base g : Nat) (l : List UInt8) (tk bf : Value) (E : List TokE) (e : Ending) (w' : World) : Prop :=
  e = .returned (.tuple #[]) ∧ ∃ tk' p' bf', RdrS w' base g l tk' p' bf' E [] ∧ Off (fun k => k = g ∨ bf.ownBlock = some k ∨ tk.ownBlock = some k) w w' ∧ (∀ k, tk'.ownBlock = some k → tk.ownBlock = some k ∨ w.heap.size ≤ k)
theorem RdrS.below {w w' : World} {base g : Nat} {l : List UInt8} {tk p bf : Value} {E : List TokE} {text : List UInt8} (h : RdrS w base g l tk p bf E text) (hb : Below w.heap.size w w') : RdrS w' base g l tk p bf E text := by
  obtain ⟨h1, h2, h3, h4, h5, h6, h7⟩ := h
  exact ⟨(hb.block g (Blk.lt h1)).trans h1, h2, ownsRow_blk h3 fun k hk => hb.block k (World.ownsRow.lt h3 k hk).2, ownsRow_blk h4 fun k hk => hb.block k (World.ownsRow.lt h4 k hk).2, fun e he => ownsRow_blk (h5 e he) fun k hk => hb.block k (World.ownsRow.lt (h5 e he) k hk).2, h6, Nat.le_trans h7 hb.size⟩
set_option maxHeartbeats 3200000 in
set_option maxRecDepth 100000 in
theorem add_any {w : World} {base g : Nat} {l : List UInt8} {tk p bf : Value} {E : List TokE} {text : List UInt8} (h : RdrS w base g l tk p bf E text) (hE : E.length + 2 ≤ 1000000) (e : TokE) (ha : AttrRow w base e) :
    Calls Tryd.prog 62 #[.pointer (some ⟨g, 0, none⟩), .agg #[.int .i64 e.kind, .string (str e.name), e.v, .string (str e.text)]] w (AddAns w base g l tk bf (E ++ textTok text ++ [e])) := by
  have hb0 : Below w.heap.size w (w.alloc (.cells #[.int .i64 e.kind, .string (str e.name), e.v, .string (str e.text)] 36)) := (Below.refl _ _).alloc (Nat.le_refl _) _
  have hr0 : RdrS (w.alloc (.cells #[.int .i64 e.kind, .string (str e.name), e.v, .string (str e.text)] 36)) base g l tk p bf E text := h.below hb0
  have ke := endText_any hr0 (by omega)
  have KE := Lib.hid ke
  have HRS := Lib.hid h
  have HAT := Lib.hid ha
  have HEL : Hid (E.length + 2 ≤ 1000000) := Lib.hid hE
  have HEV : Hid (e.v.oneCell' = true) := Lib.hid (by obtain ⟨A, c, hv, _⟩ := ownsRow_shape ha; rw [hv]; rfl)
  have HB0 := Lib.hid hb0
  have BX : Hid (Blk (w.alloc (.cells #[.int .i64 e.kind, .string (str e.name), e.v, .string (str e.text)] 36)) w.heap.size 36 #[.int .i64 e.kind, .string (str e.name), e.v, .string (str e.text)]) := Lib.hid (Blk.fresh _ _ _)
  clear h hE ha ke hr0 hb0
  go_enter Tryd.func62, Tryd.ntmps62
  go_wp2_with (go_at_call 20; refine KE.out.mono ?_; rintro eE wR ⟨rfl, tk', p', bf', r', o', k'⟩; have RR := Lib.hid r'; have OO := Lib.hid o'; have KK := Lib.hid k'; clear r' o' k')
  obtain ⟨A, c, htk, _⟩ := ownsRow_shape RR.out.2.2.2.1
  obtain ⟨N, hN⟩ : ∃ N, N = (E ++ textTok text).length := ⟨_, rfl⟩
  rw [← hN] at htk
  have HTK := Lib.hid htk
  have HN : Hid (N ≤ E.length + 1) := Lib.hid (by rw [hN, List.length_append]; unfold textTok; split <;> simp)
  have HBS := Lib.hid RR.out.2.2.2.2.2.2
  have BB : Hid (Blk wR w.heap.size 36 #[.int .i64 e.kind, .string (str e.name), e.v, .string (str e.text)]) := Lib.hid <| by
    have h1 := HRS.out
    refine (OO.out.2.2.2.2 w.heap.size (by simp) ?_).trans BX.out
    rintro (e1 | e1 | e1)
    · have := Blk.lt h1.1; omega
    · have := (World.ownsRow.lt h1.2.2.1 _ e1).2; omega
    · have := (World.ownsRow.lt h1.2.2.2.1 _ e1).2; omega
  have XO : Hid (∀ W, Off (fun k => tk'.ownBlock = some k) wR W → W.cell? ⟨g, 1, none⟩ = some (.slice A N c)) := Lib.hid fun W ho => by
    have hb : Blk W g 45 #[.string (str l), tk', p', bf'] := (ho.2.2.2.2 g (Blk.lt RR.out.1) fun hk => row_neB RR.out.2.2.2.1 RR.out.1 (by decide) g hk rfl).trans RR.out.1
    rw [← htk]
    exact hb.cell 1
  have ZO : Hid (∀ W, Off (fun k => tk'.ownBlock = some k) wR W → W.frozen? ⟨g, 1, none⟩ = false) := Lib.hid fun W ho =>
    Blk.free ((ho.2.2.2.2 g (Blk.lt RR.out.1) fun hk => row_neB RR.out.2.2.2.1 RR.out.1 (by decide) g hk rfl).trans RR.out.1) 1
  have HT : Hid (∀ W, Off (fun _ => False) wR W → W.ownsRow base 36 4 (.slice A N c) N (tcells (E ++ textTok text))) := Lib.hid fun W ho => by
    rw [← htk, hN]
    exact ownsRow_blk RR.out.2.2.2.1 fun k hk => ho.2.2.2.2 k (World.ownsRow.lt RR.out.2.2.2.1 k hk).2 (fun h => h)
  have AF : Hid (∀ v9 w9, Off (fun k => tk'.ownBlock = some k) wR w9 → w9.ownsRow base 36 4 v9 (N + 1) (tcells (E ++ textTok text) ++ [.int .i64 e.kind, .string (str e.name), e.v, .string (str e.text)]) → (∀ k, v9.ownBlock = some k → tk'.ownBlock = some k ∨ wR.heap.size ≤ k) →
      AddAns w base g l tk bf (E ++ textTok text ++ [e]) (.returned (.tuple #[])) (w9.setCell ⟨g, 1, none⟩ v9)) := Lib.hid fun v9 w9 ho o9 a9 => by
    have h1 := HRS.out
    have hat : AttrRow wR base e := by
      have ha := HAT.out
      refine ownsRow_blk (ownsRow_blk ha fun k hk => HB0.out.block k (World.ownsRow.lt ha k hk).2) fun k hk => OO.out.2.2.2.2 k (Nat.lt_of_lt_of_le (World.ownsRow.lt ha k hk).2 HB0.out.size) ?_
      rintro (e1 | e1 | e1)
      · exact row_neB ha h1.1 (by decide) k hk e1
      · exact row_ne ha h1.2.2.1 (by decide) k hk e1
      · exact row_ne ha h1.2.2.2.1 (by decide) k hk e1
    rw [hN] at o9
    obtain ⟨q1, q2⟩ := push_done RR.out e hat ho o9
    have hoff0 : Off (fun k => k = g ∨ bf.ownBlock = some k ∨ tk.ownBlock = some k) w wR := (Off.below (F := fun k => k = g ∨ bf.ownBlock = some k ∨ tk.ownBlock = some k) HB0.out).trans OO.out fun k hk => .inl hk
    have hs0 : w.heap.size ≤ (w.alloc (.cells #[.int .i64 e.kind, .string (str e.name), e.v, .string (str e.text)] 36)).heap.size := HB0.out.size
    refine ⟨rfl, v9, p', bf', q1, hoff0.trans q2 fun k hk => ?_, fun k hk => ?_⟩
    · rcases hk with hk | hk
      · exact .inl (.inl hk)
      · exact (KK.out k hk).imp (fun h => .inr (.inr h)) fun h => Nat.le_trans hs0 h
    · rcases a9 k hk with hk | hk
      · exact (KK.out k hk).imp (fun h => h) fun h => Nat.le_trans hs0 h
      · exact .inr (Nat.le_trans hoff0.2.2.2.1 hk)
  have x0 : wR.cell? ⟨g, 1, none⟩ = some (.slice A N c) := XO.out wR (Off.refl _ _)
  have y0 : wR.cell? ⟨w.heap.size, 0, none⟩ = some (.int .i64 e.kind) := BB.out.cell 0
  have y1 : wR.cell? ⟨w.heap.size, 1, none⟩ = some (.string (str e.name)) := BB.out.cell 1
  have y2 : wR.cell? ⟨w.heap.size, 2, none⟩ = some e.v := BB.out.cell 2
  have y3 : wR.cell? ⟨w.heap.size, 3, none⟩ = some (.string (str e.text)) := BB.out.cell 3
  clear htk hN
  refine up_start (fun k => k = g ∨ bf'.ownBlock = some k ∨ tk'.ownBlock = some k ∨ wR.heap.size ≤ k) (by kernel_rfl) ?_
  refine up_take (by exact at0) (by kernel_rfl) (by exact fun _ _ _ h => h) (by rfl) (by intro W hW; go_simp; try with_reducible rfl) ?_
  simp only [Act.put, List.setIfInBounds_toArray, List.set_cons_zero, List.set_cons_succ]
  refine up_take (by exact (atS at0)) (by kernel_rfl) (by exact fun _ _ _ h => h) (by rfl) (by intro W hW; go_simp; try with_reducible rfl) ?_
  simp only [Act.put, List.setIfInBounds_toArray, List.set_cons_zero, List.set_cons_succ]
  refine up_take (by exact (atS (atS at0))) (by kernel_rfl) (by exact fun _ _ _ h => h) (by rfl) (by intro W hW; go_simp; try with_reducible rfl) ?_
  simp only [Act.put, List.setIfInBounds_toArray, List.set_cons_zero, List.set_cons_succ]
  refine up_take (by exact (atS (atS (atS at0)))) (by kernel_rfl) (by exact fun _ _ _ h => h) (by rfl) (by intro W hW; go_simp; try with_reducible rfl) ?_
  simp only [Act.put, List.setIfInBounds_toArray, List.set_cons_zero, List.set_cons_succ]
  refine up_two (by exact (atS (atS (atS (atS at0))))) (by exact (atS (atS (atS (atS (atS at0)))))) (by kernel_rfl) (fun K hK => ?_) (fun K hK => ?_)
  · go_simp
    refine hK.out _ _ (Kept.refl _ _) ?_
    clear hK K
    refine up_one (by exact (atS (atS (atS (atS (atS at0)))))) (by kernel_rfl) (fun K hK => ?_)
    go_simp
    refine hK.out _ _ (Kept.refl _ _) ?_
    clear hK K
    refine up_one (by exact (atS (atS (atS (atS (atS (atS at0))))))) (by kernel_rfl) (fun K hK => ?_)
    go_simp
    refine hK.out _ _ (Kept.belowB ((Below.refl _ _).alloc (Nat.le_refl _) _) (fun k hk => .inr (.inr (.inr hk)))) ?_
    clear hK K
    have HQ2 : Hid (Off (fun _ => False) wR (wR.alloc (.cells #[.int .i64 e.kind, .string (str e.name), e.v, .string (str e.text)] 36))) := Lib.hid (Off.below (F := fun _ => False) ((Below.refl _ _).alloc (Nat.le_refl _) _))
    have ON3 : Hid (Blk (wR.alloc (.cells #[.int .i64 e.kind, .string (str e.name), e.v, .string (str e.text)] 36)) wR.heap.size 36 #[.int .i64 e.kind, .string (str e.name), e.v, .string (str e.text)]) := Lib.hid (Blk.fresh _ _ _)
    have x1 : (wR.alloc (.cells #[.int .i64 e.kind, .string (str e.name), e.v, .string (str e.text)] 36)).cell? ⟨g, 1, none⟩ = some (.slice A N c) := XO.out (wR.alloc (.cells #[.int .i64 e.kind, .string (str e.name), e.v, .string (str e.text)] 36)) (HQ2.out.wide fun _ h => h.elim)
    clear x0
    refine up_one (by exact (atS (atS (atS (atS (atS (atS (atS at0)))))))) (by kernel_rfl) (fun K hK => ?_)
    refine step_append_w _ (by rfl) (.tmp 10) (.tmp 12) 23 (by rfl) base 36 (.agg #[.int .i64 0, .string ⟨#[]⟩, .slice none 0 0, .string ⟨#[]⟩]) 4 64 Tryd.underlying23 Tryd.tokinfo (by rfl) (by decide) _ _ _ (by rfl) (by exact HT.out _ (HQ2.out.wide fun _ h => h.elim)) _ _ _ (by rfl) (by exact tok_one ON3.out) (by simp [Value.oneCell'] <;> exact HEV.out) (by have := HEL.out; have := HN.out; unfold maxLen; omega) (by have := HEL.out; have := HN.out; omega) (by have := HQ2.out.2.2.2.1; have := HBS.out; simp at *; omega) ?_
    intro v9 w9 o9 g9 a9
    have O9 := Lib.hid o9
    have G9 := Lib.hid g9
    have A9 : Hid (∀ k, v9.ownBlock = some k → tk'.ownBlock = some k ∨ wR.heap.size ≤ k) := Lib.hid fun k hk => (a9 k hk).imp (fun h => by rw [HTK.out]; exact h) fun h => Nat.le_trans (by simp) h
    clear o9 g9 a9
    rw [← HTK.out] at G9
    refine hK.out _ _ (Kept.grown G9.out (fun k hk => .inr (.inr (.inl hk)))) ?_
    clear hK K
    have q8 : Off (fun k => tk'.ownBlock = some k) (wR.alloc (.cells #[.int .i64 e.kind, .string (str e.name), e.v, .string (str e.text)] 36)).drew w9 := Off.grown (F := fun k => tk'.ownBlock = some k) G9.out fun k hk => hk
    have q9 : Off (fun k => tk'.ownBlock = some k) (wR.alloc (.cells #[.int .i64 e.kind, .string (str e.name), e.v, .string (str e.text)] 36)) w9 := q8
    clear q8
    have HOz : Hid (Off (fun k => tk'.ownBlock = some k) wR w9) := Lib.hid (((HQ2.out.wide fun _ h => h.elim) : Off (fun k => tk'.ownBlock = some k) wR (wR.alloc (.cells #[.int .i64 e.kind, .string (str e.name), e.v, .string (str e.text)] 36))).trans q9 fun k hk => .inl hk)
    have x9 : w9.cell? ⟨g, 1, none⟩ = some (.slice A N c) := XO.out w9 HOz.out
    have z9 : w9.frozen? ⟨g, 1, none⟩ = false := ZO.out w9 HOz.out
    clear x1 q9
    obtain ⟨A5, c5, hv9, z5⟩ := ownsRow_shape O9.out
    clear z5
    obtain ⟨N5, hN5⟩ : ∃ N5, N5 = N + 1 := ⟨_, rfl⟩
    rw [← hN5] at hv9
    have HN5 := Lib.hid hN5
    clear hN5
    subst hv9
    refine up_take (by exact (atS (atS (atS (atS (atS (atS (atS (atS at0))))))))) (by kernel_rfl) (by exact fun _ _ _ h => h) (by rfl) (by intro W hW; go_simp; try with_reducible rfl) ?_
    simp only [Act.put, List.setIfInBounds_toArray, List.set_cons_zero, List.set_cons_succ]
    refine up_take (by exact (atS (atS (atS (atS (atS (atS (atS (atS (atS at0)))))))))) (by kernel_rfl) (by exact fun _ _ _ h => h) (by rfl) (by intro W hW; go_simp; try with_reducible rfl) ?_
    simp only [Act.put, List.setIfInBounds_toArray, List.set_cons_zero, List.set_cons_succ]
    refine up_one (by exact (atS (atS (atS (atS (atS (atS (atS (atS (atS (atS at0))))))))))) (by kernel_rfl) (fun K hK => ?_)
    go_simp
    refine hK.out _ _ (Kept.grown (grown_set _ g _ _) (fun k hk => by injection hk with hk; exact .inl hk.symm)) ?_
    clear hK K
    refine up_done (by kernel_rfl) ?_
    clear x9 z9
    go_end0
    exact AF.out (.slice A5 N5 c5) w9 HOz.out O9.out A9.out
  · go_simp
    refine hK.out _ _ (Kept.refl _ _) ?_
    clear hK K
    refine up_two (by exact (atS (atS (atS (atS at0))))) (by exact (atS (atS (atS (atS (atS (atS at0))))))) (by kernel_rfl) (fun K hK => ?_) (fun K hK => ?_)
    · go_simp
      refine hK.out _ _ (Kept.refl _ _) ?_
      clear hK K
      refine up_one (by exact (atS (atS (atS (atS (atS (atS at0))))))) (by kernel_rfl) (fun K hK => ?_)
      go_simp
      refine hK.out _ _ (Kept.belowB ((Below.refl _ _).alloc (Nat.le_refl _) _) (fun k hk => .inr (.inr (.inr hk)))) ?_
      clear hK K
      have HQ5 : Hid (Off (fun _ => False) wR (wR.alloc (.cells #[.int .i64 e.kind, .string (str e.name), e.v, .string (str e.text)] 36))) := Lib.hid (Off.below (F := fun _ => False) ((Below.refl _ _).alloc (Nat.le_refl _) _))
      have ON6 : Hid (Blk (wR.alloc (.cells #[.int .i64 e.kind, .string (str e.name), e.v, .string (str e.text)] 36)) wR.heap.size 36 #[.int .i64 e.kind, .string (str e.name), e.v, .string (str e.text)]) := Lib.hid (Blk.fresh _ _ _)
      have x4 : (wR.alloc (.cells #[.int .i64 e.kind, .string (str e.name), e.v, .string (str e.text)] 36)).cell? ⟨g, 1, none⟩ = some (.slice A N c) := XO.out (wR.alloc (.cells #[.int .i64 e.kind, .string (str e.name), e.v, .string (str e.text)] 36)) (HQ5.out.wide fun _ h => h.elim)
      clear x0
      refine up_one (by exact (atS (atS (atS (atS (atS (atS (atS at0)))))))) (by kernel_rfl) (fun K hK => ?_)
      refine step_append_w _ (by rfl) (.tmp 10) (.tmp 12) 23 (by rfl) base 36 (.agg #[.int .i64 0, .string ⟨#[]⟩, .slice none 0 0, .string ⟨#[]⟩]) 4 64 Tryd.underlying23 Tryd.tokinfo (by rfl) (by decide) _ _ _ (by rfl) (by exact HT.out _ (HQ5.out.wide fun _ h => h.elim)) _ _ _ (by rfl) (by exact tok_one ON6.out) (by simp [Value.oneCell'] <;> exact HEV.out) (by have := HEL.out; have := HN.out; unfold maxLen; omega) (by have := HEL.out; have := HN.out; omega) (by have := HQ5.out.2.2.2.1; have := HBS.out; simp at *; omega) ?_
      intro v9 w9 o9 g9 a9
      have O9 := Lib.hid o9
      have G9 := Lib.hid g9
      have A9 : Hid (∀ k, v9.ownBlock = some k → tk'.ownBlock = some k ∨ wR.heap.size ≤ k) := Lib.hid fun k hk => (a9 k hk).imp (fun h => by rw [HTK.out]; exact h) fun h => Nat.le_trans (by simp) h
      clear o9 g9 a9
      rw [← HTK.out] at G9
      refine hK.out _ _ (Kept.grown G9.out (fun k hk => .inr (.inr (.inl hk)))) ?_
      clear hK K
      have q8 : Off (fun k => tk'.ownBlock = some k) (wR.alloc (.cells #[.int .i64 e.kind, .string (str e.name), e.v, .string (str e.text)] 36)).drew w9 := Off.grown (F := fun k => tk'.ownBlock = some k) G9.out fun k hk => hk
      have q9 : Off (fun k => tk'.ownBlock = some k) (wR.alloc (.cells #[.int .i64 e.kind, .string (str e.name), e.v, .string (str e.text)] 36)) w9 := q8
      clear q8
      have HOz : Hid (Off (fun k => tk'.ownBlock = some k) wR w9) := Lib.hid (((HQ5.out.wide fun _ h => h.elim) : Off (fun k => tk'.ownBlock = some k) wR (wR.alloc (.cells #[.int .i64 e.kind, .string (str e.name), e.v, .string (str e.text)] 36))).trans q9 fun k hk => .inl hk)
      have x9 : w9.cell? ⟨g, 1, none⟩ = some (.slice A N c) := XO.out w9 HOz.out
      have z9 : w9.frozen? ⟨g, 1, none⟩ = false := ZO.out w9 HOz.out
      clear x4 q9
      obtain ⟨A5, c5, hv9, z5⟩ := ownsRow_shape O9.out
      clear z5
      obtain ⟨N5, hN5⟩ : ∃ N5, N5 = N + 1 := ⟨_, rfl⟩
      rw [← hN5] at hv9
      have HN5 := Lib.hid hN5
      clear hN5
      subst hv9
      refine up_take (by exact (atS (atS (atS (atS (atS (atS (atS (atS at0))))))))) (by kernel_rfl) (by exact fun _ _ _ h => h) (by rfl) (by intro W hW; go_simp; try with_reducible rfl) ?_
      simp only [Act.put, List.setIfInBounds_toArray, List.set_cons_zero, List.set_cons_succ]
      refine up_take (by exact (atS (atS (atS (atS (atS (atS (atS (atS (atS at0)))))))))) (by kernel_rfl) (by exact fun _ _ _ h => h) (by rfl) (by intro W hW; go_simp; try with_reducible rfl) ?_
      simp only [Act.put, List.setIfInBounds_toArray, List.set_cons_zero, List.set_cons_succ]
      refine up_one (by exact (atS (atS (atS (atS (atS (atS (atS (atS (atS (atS at0))))))))))) (by kernel_rfl) (fun K hK => ?_)
      go_simp
      refine hK.out _ _ (Kept.grown (grown_set _ g _ _) (fun k hk => by injection hk with hk; exact .inl hk.symm)) ?_
      clear hK K
      refine up_done (by kernel_rfl) ?_
      clear x9 z9
      go_end0
      exact AF.out (.slice A5 N5 c5) w9 HOz.out O9.out A9.out
    · go_simp
      refine hK.out _ _ (Kept.belowB ((Below.refl _ _).alloc (Nat.le_refl _) _) (fun k hk => .inr (.inr (.inr hk)))) ?_
      clear hK K
      have HQ8 : Hid (Off (fun _ => False) wR (wR.alloc (.cells #[.int .i64 e.kind, .string (str e.name), e.v, .string (str e.text)] 36))) := Lib.hid (Off.below (F := fun _ => False) ((Below.refl _ _).alloc (Nat.le_refl _) _))
      have ON9 : Hid (Blk (wR.alloc (.cells #[.int .i64 e.kind, .string (str e.name), e.v, .string (str e.text)] 36)) wR.heap.size 36 #[.int .i64 e.kind, .string (str e.name), e.v, .string (str e.text)]) := Lib.hid (Blk.fresh _ _ _)
      have x7 : (wR.alloc (.cells #[.int .i64 e.kind, .string (str e.name), e.v, .string (str e.text)] 36)).cell? ⟨g, 1, none⟩ = some (.slice A N c) := XO.out (wR.alloc (.cells #[.int .i64 e.kind, .string (str e.name), e.v, .string (str e.text)] 36)) (HQ8.out.wide fun _ h => h.elim)
      clear x0
      refine up_one (by exact (atS (atS (atS (atS at0))))) (by kernel_rfl) (fun K hK => ?_)
      go_simp
      refine hK.out _ _ (Kept.refl _ _) ?_
      clear hK K
      refine up_one (by exact (atS (atS (atS (atS (atS (atS (atS at0)))))))) (by kernel_rfl) (fun K hK => ?_)
      refine step_append_w _ (by rfl) (.tmp 10) (.tmp 12) 23 (by rfl) base 36 (.agg #[.int .i64 0, .string ⟨#[]⟩, .slice none 0 0, .string ⟨#[]⟩]) 4 64 Tryd.underlying23 Tryd.tokinfo (by rfl) (by decide) _ _ _ (by rfl) (by exact HT.out _ (HQ8.out.wide fun _ h => h.elim)) _ _ _ (by rfl) (by exact tok_one ON9.out) (by simp [Value.oneCell'] <;> exact HEV.out) (by have := HEL.out; have := HN.out; unfold maxLen; omega) (by have := HEL.out; have := HN.out; omega) (by have := HQ8.out.2.2.2.1; have := HBS.out; simp at *; omega) ?_
      intro v9 w9 o9 g9 a9
      have O9 := Lib.hid o9
      have G9 := Lib.hid g9
      have A9 : Hid (∀ k, v9.ownBlock = some k → tk'.ownBlock = some k ∨ wR.heap.size ≤ k) := Lib.hid fun k hk => (a9 k hk).imp (fun h => by rw [HTK.out]; exact h) fun h => Nat.le_trans (by simp) h
      clear o9 g9 a9
      rw [← HTK.out] at G9
      refine hK.out _ _ (Kept.grown G9.out (fun k hk => .inr (.inr (.inl hk)))) ?_
      clear hK K
      have q8 : Off (fun k => tk'.ownBlock = some k) (wR.alloc (.cells #[.int .i64 e.kind, .string (str e.name), e.v, .string (str e.text)] 36)).drew w9 := Off.grown (F := fun k => tk'.ownBlock = some k) G9.out fun k hk => hk
      have q9 : Off (fun k => tk'.ownBlock = some k) (wR.alloc (.cells #[.int .i64 e.kind, .string (str e.name), e.v, .string (str e.text)] 36)) w9 := q8
      clear q8
      have HOz : Hid (Off (fun k => tk'.ownBlock = some k) wR w9) := Lib.hid (((HQ8.out.wide fun _ h => h.elim) : Off (fun k => tk'.ownBlock = some k) wR (wR.alloc (.cells #[.int .i64 e.kind, .string (str e.name), e.v, .string (str e.text)] 36))).trans q9 fun k hk => .inl hk)
      have x9 : w9.cell? ⟨g, 1, none⟩ = some (.slice A N c) := XO.out w9 HOz.out
      have z9 : w9.frozen? ⟨g, 1, none⟩ = false := ZO.out w9 HOz.out
      clear x7 q9
      obtain ⟨A5, c5, hv9, z5⟩ := ownsRow_shape O9.out
      clear z5
      obtain ⟨N5, hN5⟩ : ∃ N5, N5 = N + 1 := ⟨_, rfl⟩
      rw [← hN5] at hv9
      have HN5 := Lib.hid hN5
      clear hN5
      subst hv9
      refine up_take (by exact (atS (atS (atS (atS (atS (atS (atS (atS at0))))))))) (by kernel_rfl) (by exact fun _ _ _ h => h) (by rfl) (by intro W hW; go_simp; try with_reducible rfl) ?_
      simp only [Act.put, List.setIfInBounds_toArray, List.set_cons_zero, List.set_cons_succ]
      refine up_take (by exact (atS (atS (atS (atS (atS (atS (atS (atS (atS at0)))))))))) (by kernel_rfl) (by exact fun _ _ _ h => h) (by rfl) (by intro W hW; go_simp; try with_reducible rfl) ?_
      simp only [Act.put, List.setIfInBounds_toArray, List.set_cons_zero, List.set_cons_succ]
      refine up_one (by exact (atS (atS (atS (atS (atS (atS (atS (atS (atS (atS at0))))))))))) (by kernel_rfl) (fun K hK => ?_)
      go_simp
      refine hK.out _ _ (Kept.grown (grown_set _ g _ _) (fun k hk => by injection hk with hk; exact .inl hk.symm)) ?_
      clear hK K
      refine up_done (by kernel_rfl) ?_
      clear x9 z9
      go_end0
      exact AF.out (.slice A5 N5 c5) w9 HOz.out O9.out A9.out
end Go.Proofs.YtelhdkidnhfnbaaDoor
