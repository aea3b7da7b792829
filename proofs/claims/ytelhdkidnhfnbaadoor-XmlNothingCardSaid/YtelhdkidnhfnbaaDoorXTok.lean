/-
  The reader's tokens in memory: a row of four cells each, their attributes' rows; the text that has not ended, made a token. Condition: at most a million tokens; the rows lie above the reader.
-/
import Derived.Test.YtelhdkidnhfnbaaDoorMgN
namespace Go.Proofs.YtelhdkidnhfnbaaDoor
open Go.RowKit

/-- Nothing turns but in the blocks of F, and new ones. -/
def Off (F : Nat → Prop) (w w' : World) : Prop := w'.os = w.os ∧ w'.tape = w.tape ∧ w'.output = w.output ∧ w.heap.size ≤ w'.heap.size ∧ ∀ k, k < w.heap.size → ¬ F k → w'.heap[k]? = w.heap[k]?
theorem Off.refl (F : Nat → Prop) (w : World) : Off F w w := ⟨rfl, rfl, rfl, Nat.le_refl _, fun _ _ _ => rfl⟩
theorem Off.trans {F G : Nat → Prop} {a b c : World} (h : Off F a b) (k : Off G b c) (hG : ∀ x, G x → F x ∨ a.heap.size ≤ x) : Off F a c :=
  ⟨k.1.trans h.1, k.2.1.trans h.2.1, k.2.2.1.trans h.2.2.1, Nat.le_trans h.2.2.2.1 k.2.2.2.1, fun x hx hf =>
    (k.2.2.2.2 x (Nat.lt_of_lt_of_le hx h.2.2.2.1) fun hg => (hG x hg).elim hf (fun h => by omega)).trans (h.2.2.2.2 x hx hf)⟩
theorem Off.grown {F : Nat → Prop} {a b : World} {row : Option Nat} (h : a.grownBy b row) (hF : ∀ k, row = some k → F k) : Off F a b := ⟨h.os, h.tape, h.output, h.size, fun k hk hf => h.block k hk fun e => hf (hF k e.symm)⟩
theorem Off.below {F : Nat → Prop} {a b : World} (h : Below a.heap.size a b) : Off F a b := ⟨h.os, h.tape, h.output, h.size, fun x hx _ => h.block x hx⟩
theorem Off.wide {F G : Nat → Prop} {a b : World} (h : Off F a b) (hF : ∀ k, F k → G k) : Off G a b := ⟨h.1, h.2.1, h.2.2.1, h.2.2.2.1, fun k hk hg => h.2.2.2.2 k hk fun hf => hg (hF k hf)⟩
theorem Off.kept {F D : Nat → Prop} {w w' : World} (h : Off F w w') (hF : ∀ k, F k → D k) : Kept D w w' := ⟨h.1, h.2.1, h.2.2.1, h.2.2.2.1, fun k hk hd => h.2.2.2.2 k hk fun hf => hd (hF k hf)⟩
theorem Off.drew {F : Nat → Prop} {a b : World} (h : Off F a b) : Off F a b.drew := h

/-! ### tokens -/
structure TokE where
  kind : Int
  name : List UInt8
  attrs : List (List UInt8 × List UInt8)
  v : Value
  text : List UInt8
def tcells : List TokE → List Value
  | [] => []
  | e :: r => .int .i64 e.kind :: .string (str e.name) :: e.v :: .string (str e.text) :: tcells r
def acells : List (List UInt8 × List UInt8) → List Value
  | [] => []
  | a :: r => .string (str a.1) :: .string (str a.2) :: acells r
theorem tcells_app : ∀ E G : List TokE, tcells (E ++ G) = tcells E ++ tcells G
  | [], _ => rfl
  | e :: r, G => by
    show _ :: _ :: _ :: _ :: tcells (r ++ G) = _
    rw [tcells_app r G]; rfl
def AttrRow (w : World) (base : Nat) (e : TokE) : Prop := w.ownsRow base 39 2 e.v e.attrs.length (acells e.attrs)
/-- The reader, with what is left, the tokens that there are, and the text that has not ended. -/
def RdrS (w : World) (base g : Nat) (l : List UInt8) (tk p bf : Value) (E : List TokE) (text : List UInt8) : Prop :=
  RdrAt w g l tk p bf ∧ (p = .pointer none ∨ p = selfP g) ∧ Own w base 5 bf (bvs text) ∧ w.ownsRow base 36 4 tk E.length (tcells E) ∧ (∀ e ∈ E, AttrRow w base e) ∧ g < base ∧ base ≤ w.heap.size
theorem Tryd.tokinfo : (Tryd.prog.info? 36).map (fun i => (i.zero, i.size, i.bytes)) = some (some (.agg #[.int .i64 0, .string ⟨#[]⟩, .slice none 0 0, .string ⟨#[]⟩]), 4, 64) := by kernel_rfl
theorem row_ne {w : World} {base b2 e e2 s s2 n n2 : Nat} {v v2 : Value} {xs ys : List Value} (h : w.ownsRow base e s v n xs) (h2 : w.ownsRow b2 e2 s2 v2 n2 ys) (hne : e ≠ e2) (k : Nat) (hk : v.ownBlock = some k) : v2.ownBlock ≠ some k := fun hk2 => by
  obtain ⟨c1, h1⟩ := ownsRow_rowAt h k hk
  obtain ⟨c2, h3⟩ := ownsRow_rowAt h2 k hk2
  rw [h1] at h3
  injection h3 with h3
  injection h3 with _ h3 _
  exact hne h3
theorem row_neB {w : World} {base e s n g : Nat} {t : TypeId} {cs : Array Value} {v : Value} {xs : List Value} (h : w.ownsRow base e s v n xs) (hb : Blk w g t cs) (hne : e ≠ t) (k : Nat) (hk : v.ownBlock = some k) : k ≠ g := fun hkg => by
  obtain ⟨c1, h1⟩ := ownsRow_rowAt h k hk
  subst hkg
  unfold Blk at hb
  rw [h1] at hb
  injection hb with hb
  injection hb with _ hb _
  exact hne hb
theorem tok_one {w : World} {k : Nat} {a b c d : Value} (h : Blk w k 36 #[a, b, c, d]) : SrcW w 4 (.slice (some ⟨k, 0, none⟩) 1 1) 1 [a, b, c, d] := by
  refine ⟨_, 1, rfl, rfl, fun hn => (by cases hn), fun ad had j u hu => ?_⟩
  injection had with had
  subst had
  have hadd : (⟨k, 0, none⟩ : Addr).add j = ⟨k, j, none⟩ := by unfold Addr.add; split <;> simp_all
  rw [hadd, h.cell j]
  simpa using hu
/-- The text that has not ended, as a token. -/
def textTok (text : List UInt8) : List TokE := if text = [] then [] else [⟨3, [], [], .slice none 0 0, text⟩]
def EndAns (w : World) (base g : Nat) (l : List UInt8) (tk bf : Value) (E : List TokE) (text : List UInt8) (e : Ending) (w' : World) : Prop :=
  e = .returned (.tuple #[]) ∧ ∃ tk' p' bf', RdrS w' base g l tk' p' bf' (E ++ textTok text) [] ∧ Off (fun k => k = g ∨ bf.ownBlock = some k ∨ tk.ownBlock = some k) w w' ∧ (∀ k, tk'.ownBlock = some k → tk.ownBlock = some k ∨ w.heap.size ≤ k)
/-- What the end of a text comes to. -/
theorem end_done {w w9 wR : World} {base g : Nat} {l : List UInt8} {tk p bf : Value} {E : List TokE} {text : List UInt8} {A A5 : Option Addr} {c N5 c5 : Nat} (h : RdrS w base g l tk p bf E text) (hne : text ≠ []) (_htk : tk = .slice A E.length c)
    (ho : Off (fun k => k = g ∨ bf.ownBlock = some k ∨ tk.ownBlock = some k) w w9) (o9 : w9.ownsRow base 36 4 (.slice A5 N5 c5) (E.length + 1) (tcells E ++ [.int .i64 3, .string ⟨#[]⟩, .slice none 0 0, .string (str text)])) (_hn5 : N5 = E.length + 1)
    (a9 : ∀ k, (Value.slice A5 N5 c5).ownBlock = some k → tk.ownBlock = some k ∨ w.heap.size ≤ k) (rR : RdrAt wR g l (.slice A5 N5 c5) (.pointer none) (.slice none 0 0)) (kR : KeepsR g (w9.setCell ⟨g, 1, none⟩ (.slice A5 N5 c5)) wR) :
    EndAns w base g l tk bf E text (.returned (.tuple #[])) wR := by
  obtain ⟨h1, h2, h3, h4, h5, h6, h7⟩ := h
  have hset : w9.grownBy (w9.setCell ⟨g, 1, none⟩ (.slice A5 N5 c5)) (some g) := grown_set _ g 1 _
  have hall : w9.grownBy wR (some g) := hset.trans kR
  have hoff : Off (fun k => k = g ∨ bf.ownBlock = some k ∨ tk.ownBlock = some k) w wR := ho.trans (Off.grown (F := fun k => k = g) hall fun k hk => by injection hk with hk; exact hk.symm) fun k hk => .inl (.inl hk)
  have ht : textTok text = [⟨3, [], [], .slice none 0 0, text⟩] := by unfold textTok; rw [if_neg hne]
  refine ⟨rfl, .slice A5 N5 c5, .pointer none, .slice none 0 0, ⟨rR, .inl rfl, Own.nil _ _ _, ?_, fun e he => ?_, h6, Nat.le_trans h7 hoff.2.2.2.1⟩, hoff, a9⟩
  · rw [ht, List.length_append, tcells_app]
    refine ownsRow_blk o9 fun k hk => hall.block k (World.ownsRow.lt o9 k hk).2 ?_
    intro e
    injection e with e
    have := (World.ownsRow.lt o9 k hk).1
    omega
  · rw [ht] at he
    rcases List.mem_append.1 he with he | he
    · have ha := h5 e he
      refine ownsRow_blk ha fun k hk => hoff.2.2.2.2 k (World.ownsRow.lt ha k hk).2 ?_
      rintro (e1 | e1 | e1)
      · exact row_neB ha h1 (by decide) k hk e1
      · exact row_ne ha h3 (by decide) k hk e1
      · exact row_ne ha h4 (by decide) k hk e1
    · rw [List.mem_singleton.1 he]
      exact World.ownsRow_nil _ _ _ _
set_option maxHeartbeats 3200000 in
set_option maxRecDepth 100000 in
theorem endText_any {w : World} {base g : Nat} {l : List UInt8} {tk p bf : Value} {E : List TokE} {text : List UInt8} (h : RdrS w base g l tk p bf E text) (hE : E.length ≤ 1000000) : Calls Tryd.prog 20 #[.pointer (some ⟨g, 0, none⟩)] w (EndAns w base g l tk bf E text) := by
  have k1 := inLen_any h.1 h.2.2.1
  have K1 := Lib.hid k1
  have HRS := Lib.hid h
  have HEL := Lib.hid hE
  by_cases h0 : text = []
  · have hz : ¬ (0 : Int) < (text.length : Int) := by rw [h0]; simp
    have hz2 : ¬ 0 < text.length := by rw [h0]; simp
    have HT0 := Lib.hid h0
    clear h k1 h0 hE
    go_enter Tryd.func20, Tryd.ntmps20
    go_wp2_with (go_at_call 43; refine K1.out.mono ?_; rintro e w' ⟨rfl, rfl⟩)
    go_end0
    refine ⟨rfl, tk, p, bf, ?_, Off.refl _ _, fun k hk => .inl hk⟩
    have ht : textTok text = [] := by unfold textTok; rw [if_pos HT0.out]
    rw [ht, List.append_nil]
    have h9 := HRS.out
    rw [HT0.out] at h9
    exact h9
  · have hz : (0 : Int) < (text.length : Int) := by
      have : text.length ≠ 0 := by simpa using h0
      omega
    have hz2 : 0 < text.length := by omega
    obtain ⟨A, c, htk, _⟩ := ownsRow_shape h.2.2.2.1
    have HTK := Lib.hid htk
    have HN0 : Hid (text ≠ []) := Lib.hid h0
    have HBS := Lib.hid h.2.2.2.2.2.2
    have hrd := h.1
    have XO : Hid (∀ W, Off (fun k => bf.ownBlock = some k) w W → W.cell? ⟨g, 1, none⟩ = some (.slice A E.length c)) := Lib.hid fun W ho => by
      have hb : Blk W g 45 #[.string (str l), tk, p, bf] := (ho.2.2.2.2 g (Blk.lt hrd) fun hk => row_neB h.2.2.1 hrd (by decide) g hk rfl).trans hrd
      rw [← htk]
      exact hb.cell 1
    have RQ : Hid (∀ W, Off (fun k => bf.ownBlock = some k ∨ tk.ownBlock = some k) w W → RdrAt W g l tk p bf) := Lib.hid fun W ho =>
      (ho.2.2.2.2 g (Blk.lt hrd) fun hk => hk.elim (fun hk => row_neB h.2.2.1 hrd (by decide) g hk rfl) (fun hk => row_neB h.2.2.2.1 hrd (by decide) g hk rfl)).trans hrd
    have XQ : Hid (∀ W, Off (fun k => bf.ownBlock = some k ∨ tk.ownBlock = some k) w W → W.cell? ⟨g, 1, none⟩ = some (.slice A E.length c)) := Lib.hid fun W ho => by
      rw [← htk]
      exact Blk.cell (RQ.out W ho) 1
    have ZQ : Hid (∀ W, Off (fun k => bf.ownBlock = some k ∨ tk.ownBlock = some k) w W → W.frozen? ⟨g, 1, none⟩ = false) := Lib.hid fun W ho => Blk.free (RQ.out W ho) 1
    have HT : Hid (∀ W, Off (fun k => bf.ownBlock = some k) w W → W.ownsRow base 36 4 (.slice A E.length c) E.length (tcells E)) := Lib.hid fun W ho => by
      rw [← htk]
      exact ownsRow_blk h.2.2.2.1 fun k hk => ho.2.2.2.2 k (World.ownsRow.lt h.2.2.2.1 k hk).2 (row_ne h.2.2.2.1 h.2.2.1 (by decide) k hk)
    have ks := inString_any (w := w.drew) (Blk.drew hrd) (Own.drew h.2.2.1) h.2.2.2.2.2.1 h0
    have KSt := Lib.hid ks
    have x0 : w.cell? ⟨g, 1, none⟩ = some (.slice A E.length c) := XO.out w (Off.refl _ _)
    clear h k1 h0 hE hrd ks htk
    go_enter Tryd.func20, Tryd.ntmps20
    go_wp2_with (go_at_call 43; refine K1.out.mono ?_; rintro e w' ⟨rfl, rfl⟩)
    refine up_start (fun k => k = g ∨ bf.ownBlock = some k ∨ tk.ownBlock = some k ∨ w.heap.size ≤ k) (by kernel_rfl) ?_
    refine up_take (by exact at0) (by kernel_rfl) (by exact fun _ _ _ h => h) (by rfl) (by intro W hW; go_simp; try with_reducible rfl) ?_
    simp only [Act.put, List.setIfInBounds_toArray, List.set_cons_zero, List.set_cons_succ]
    refine up_take (by exact (atS at0)) (by kernel_rfl) (by exact fun _ _ _ h => h) (by rfl) (by intro W hW; go_simp; try with_reducible rfl) ?_
    simp only [Act.put, List.setIfInBounds_toArray, List.set_cons_zero, List.set_cons_succ]
    refine up_take (by exact (atS (atS at0))) (by kernel_rfl) (by exact fun _ _ _ h => h) (by rfl) (by intro W hW; go_simp; try with_reducible rfl) ?_
    simp only [Act.put, List.setIfInBounds_toArray, List.set_cons_zero, List.set_cons_succ]
    refine up_take (by exact (atS (atS (atS at0)))) (by kernel_rfl) (by exact fun _ _ _ h => h) (by rfl) (by intro W hW; go_simp; try with_reducible rfl) ?_
    simp only [Act.put, List.setIfInBounds_toArray, List.set_cons_zero, List.set_cons_succ]
    refine up_take (by exact (atS (atS (atS (atS (atS at0)))))) (by kernel_rfl) (by exact fun _ _ _ h => h) (by rfl) (by intro W hW; go_simp; try with_reducible rfl) ?_
    simp only [Act.put, List.setIfInBounds_toArray, List.set_cons_zero, List.set_cons_succ]
    refine up_take (by exact (atS (atS (atS (atS (atS (atS at0))))))) (by kernel_rfl) (by exact fun _ _ _ h => h) (by rfl) (by intro W hW; go_simp; try with_reducible rfl) ?_
    simp only [Act.put, List.setIfInBounds_toArray, List.set_cons_zero, List.set_cons_succ]
    refine up_take (by exact (atS (atS (atS (atS (atS (atS (atS at0)))))))) (by kernel_rfl) (by exact fun _ _ _ h => h) (by rfl) (by intro W hW; go_simp; try with_reducible rfl) ?_
    simp only [Act.put, List.setIfInBounds_toArray, List.set_cons_zero, List.set_cons_succ]
    refine up_two (by exact (atS (atS (atS (atS at0))))) (by exact (atS (atS (atS (atS (atS (atS (atS (atS at0))))))))) (by kernel_rfl) (fun K hK => ?_) (fun K hK => ?_)
    · go_simp
      refine hK.out _ _ (Kept.refl _ _) ?_
      clear hK K
      refine up_one (by exact (atS (atS (atS (atS (atS (atS (atS (atS at0))))))))) (by kernel_rfl) (fun K hK => ?_)
      go_simp
      refine (KSt.out).mono ?_
      rintro eS wS ⟨rfl, gS⟩
      have oS0 : Off (fun k => bf.ownBlock = some k) w.drew wS := Off.grown (F := fun k => bf.ownBlock = some k) gS fun k hk => hk
      have oS : Off (fun k => bf.ownBlock = some k) w wS := oS0
      refine hK.out _ _ (Off.kept (w := w.drew) oS0 fun k hk => .inr (.inl hk)) ?_
      clear oS0
      clear hK K
      have HQ1 : Hid (Off (fun k => bf.ownBlock = some k) w wS) := Lib.hid oS
      have x2 : wS.cell? ⟨g, 1, none⟩ = some (.slice A E.length c) := XO.out wS oS
      clear x0
      clear oS gS
      refine up_take (by exact (atS (atS (atS (atS (atS (atS (atS (atS (atS at0)))))))))) (by kernel_rfl) (by exact fun _ _ _ h => h) (by rfl) (by intro W hW; go_simp; try with_reducible rfl) ?_
      simp only [Act.put, List.setIfInBounds_toArray, List.set_cons_zero, List.set_cons_succ]
      refine up_one (by exact (atS (atS (atS (atS (atS (atS (atS (atS (atS (atS at0))))))))))) (by kernel_rfl) (fun K hK => ?_)
      go_simp
      refine hK.out _ _ (Kept.belowB ((Below.refl _ _).alloc (Nat.le_refl _) _) (fun k hk => .inr (.inr (.inr (Nat.le_trans HQ1.out.2.2.2.1 hk))))) ?_
      clear hK K
      have HQ4 : Hid (Off (fun k => bf.ownBlock = some k) w (wS.alloc (.cells #[.int .i64 3, .string ⟨#[]⟩, .slice none 0 0, .string (str text)] 36))) := Lib.hid ((HQ1.out).trans (Off.below (F := fun _ => False) ((Below.refl _ _).alloc (Nat.le_refl _) _)) fun _ h => h.elim)
      have ON5 : Hid (Blk (wS.alloc (.cells #[.int .i64 3, .string ⟨#[]⟩, .slice none 0 0, .string (str text)] 36)) wS.heap.size 36 #[.int .i64 3, .string ⟨#[]⟩, .slice none 0 0, .string (str text)]) := Lib.hid (Blk.fresh _ _ _)
      have x3 : (wS.alloc (.cells #[.int .i64 3, .string ⟨#[]⟩, .slice none 0 0, .string (str text)] 36)).cell? ⟨g, 1, none⟩ = some (.slice A E.length c) := XO.out (wS.alloc (.cells #[.int .i64 3, .string ⟨#[]⟩, .slice none 0 0, .string (str text)] 36)) HQ4.out
      clear x2
      refine up_one (by exact (atS (atS (atS (atS (atS (atS (atS (atS (atS (atS (atS at0)))))))))))) (by kernel_rfl) (fun K hK => ?_)
      refine step_append_w _ (by rfl) (.tmp 11) (.tmp 17) 23 (by rfl) base 36 (.agg #[.int .i64 0, .string ⟨#[]⟩, .slice none 0 0, .string ⟨#[]⟩]) 4 64 Tryd.underlying23 Tryd.tokinfo (by rfl) (by decide) _ _ _ (by rfl) (by exact HT.out _ HQ4.out) _ _ _ (by rfl) (by exact tok_one ON5.out) (by simp [Value.oneCell']) (by have := HEL.out; unfold maxLen; omega) (by have := HEL.out; omega) (by have := HQ4.out.2.2.2.1; have := HBS.out; omega) ?_
      intro v9 w9 o9 g9 a9
      have O9 := Lib.hid o9
      have G9 := Lib.hid g9
      have A9 : Hid (∀ k, v9.ownBlock = some k → tk.ownBlock = some k ∨ wS.heap.size ≤ k) := Lib.hid fun k hk => (a9 k hk).imp (fun h => by rw [HTK.out]; exact h) fun h => Nat.le_trans (by simp) h
      clear o9 g9 a9
      rw [← HTK.out] at G9
      refine hK.out _ _ (Kept.grown G9.out (fun k hk => .inr (.inr (.inl hk)))) ?_
      clear hK K
      have HOz : Hid (Off (fun k => bf.ownBlock = some k ∨ tk.ownBlock = some k) w w9) := Lib.hid ((HQ4.out.wide fun k hk => .inl hk).trans (Off.grown (F := fun k => tk.ownBlock = some k) G9.out fun k hk => hk) fun k hk => .inl (.inr hk))
      have x9 : w9.cell? ⟨g, 1, none⟩ = some (.slice A E.length c) := XQ.out w9 HOz.out
      have z9 : w9.frozen? ⟨g, 1, none⟩ = false := ZQ.out w9 HOz.out
      clear x3
      obtain ⟨A5, c5, hv9, z5⟩ := ownsRow_shape O9.out
      clear z5
      obtain ⟨N5, hN5⟩ : ∃ N5, N5 = E.length + 1 := ⟨_, rfl⟩
      rw [← hN5] at hv9
      have HN5 := Lib.hid hN5
      clear hN5
      subst hv9
      refine up_take (by exact (atS (atS (atS (atS (atS (atS (atS (atS (atS (atS (atS (atS at0))))))))))))) (by kernel_rfl) (by exact fun _ _ _ h => h) (by rfl) (by intro W hW; go_simp; try with_reducible rfl) ?_
      simp only [Act.put, List.setIfInBounds_toArray, List.set_cons_zero, List.set_cons_succ]
      refine up_take (by exact (atS (atS (atS (atS (atS (atS (atS (atS (atS (atS (atS (atS (atS at0)))))))))))))) (by kernel_rfl) (by exact fun _ _ _ h => h) (by rfl) (by intro W hW; go_simp; try with_reducible rfl) ?_
      simp only [Act.put, List.setIfInBounds_toArray, List.set_cons_zero, List.set_cons_succ]
      refine up_one (by exact (atS (atS (atS (atS (atS (atS (atS (atS (atS (atS (atS (atS (atS (atS at0))))))))))))))) (by kernel_rfl) (fun K hK => ?_)
      go_simp
      refine hK.out _ _ (Kept.grown (grown_set _ g _ _) (fun k hk => by injection hk with hk; exact .inl hk.symm)) ?_
      clear hK K
      refine up_done (by kernel_rfl) ?_
      have hr9 : RdrAt (w9.setCell ⟨g, 1, none⟩ (.slice A5 N5 c5)) g l (.slice A5 N5 c5) p bf := (RQ.out w9 HOz.out).set 1 _
      have HR9 := Lib.hid hr9
      clear hr9 x9 z9
      go_wp2_with (go_at_call 44; refine (inReset_any HR9.out).mono ?_; rintro eR wR ⟨rfl, rR, kR⟩; have RR := Lib.hid rR; have KR := Lib.hid kR; clear rR kR)
      go_end0
      exact end_done HRS.out HN0.out HTK.out (HOz.out.wide fun k hk => .inr hk) O9.out HN5.out (fun k hk => (A9.out k hk).imp (fun h => h) fun h => Nat.le_trans HQ1.out.2.2.2.1 h) RR.out KR.out
    · go_simp
      refine (KSt.out).mono ?_
      rintro eS wS ⟨rfl, gS⟩
      have oS0 : Off (fun k => bf.ownBlock = some k) w.drew wS := Off.grown (F := fun k => bf.ownBlock = some k) gS fun k hk => hk
      have oS : Off (fun k => bf.ownBlock = some k) w wS := oS0
      refine hK.out _ _ (Off.kept (w := w.drew) oS0 fun k hk => .inr (.inl hk)) ?_
      clear oS0
      clear hK K
      have HQ6 : Hid (Off (fun k => bf.ownBlock = some k) w wS) := Lib.hid oS
      have x7 : wS.cell? ⟨g, 1, none⟩ = some (.slice A E.length c) := XO.out wS oS
      clear x0
      clear oS gS
      refine up_take (by exact (atS (atS (atS (atS (atS (atS (atS (atS (atS at0)))))))))) (by kernel_rfl) (by exact fun _ _ _ h => h) (by rfl) (by intro W hW; go_simp; try with_reducible rfl) ?_
      simp only [Act.put, List.setIfInBounds_toArray, List.set_cons_zero, List.set_cons_succ]
      refine up_two (by exact (atS (atS (atS (atS at0))))) (by exact (atS (atS (atS (atS (atS (atS (atS (atS (atS (atS at0))))))))))) (by kernel_rfl) (fun K hK => ?_) (fun K hK => ?_)
      · go_simp
        refine hK.out _ _ (Kept.refl _ _) ?_
        clear hK K
        refine up_one (by exact (atS (atS (atS (atS (atS (atS (atS (atS (atS (atS at0))))))))))) (by kernel_rfl) (fun K hK => ?_)
        go_simp
        refine hK.out _ _ (Kept.belowB ((Below.refl _ _).alloc (Nat.le_refl _) _) (fun k hk => .inr (.inr (.inr (Nat.le_trans HQ6.out.2.2.2.1 hk))))) ?_
        clear hK K
        have HQ9 : Hid (Off (fun k => bf.ownBlock = some k) w (wS.alloc (.cells #[.int .i64 3, .string ⟨#[]⟩, .slice none 0 0, .string (str text)] 36))) := Lib.hid ((HQ6.out).trans (Off.below (F := fun _ => False) ((Below.refl _ _).alloc (Nat.le_refl _) _)) fun _ h => h.elim)
        have ON10 : Hid (Blk (wS.alloc (.cells #[.int .i64 3, .string ⟨#[]⟩, .slice none 0 0, .string (str text)] 36)) wS.heap.size 36 #[.int .i64 3, .string ⟨#[]⟩, .slice none 0 0, .string (str text)]) := Lib.hid (Blk.fresh _ _ _)
        have x8 : (wS.alloc (.cells #[.int .i64 3, .string ⟨#[]⟩, .slice none 0 0, .string (str text)] 36)).cell? ⟨g, 1, none⟩ = some (.slice A E.length c) := XO.out (wS.alloc (.cells #[.int .i64 3, .string ⟨#[]⟩, .slice none 0 0, .string (str text)] 36)) HQ9.out
        clear x7
        refine up_one (by exact (atS (atS (atS (atS (atS (atS (atS (atS (atS (atS (atS at0)))))))))))) (by kernel_rfl) (fun K hK => ?_)
        refine step_append_w _ (by rfl) (.tmp 11) (.tmp 17) 23 (by rfl) base 36 (.agg #[.int .i64 0, .string ⟨#[]⟩, .slice none 0 0, .string ⟨#[]⟩]) 4 64 Tryd.underlying23 Tryd.tokinfo (by rfl) (by decide) _ _ _ (by rfl) (by exact HT.out _ HQ9.out) _ _ _ (by rfl) (by exact tok_one ON10.out) (by simp [Value.oneCell']) (by have := HEL.out; unfold maxLen; omega) (by have := HEL.out; omega) (by have := HQ9.out.2.2.2.1; have := HBS.out; omega) ?_
        intro v9 w9 o9 g9 a9
        have O9 := Lib.hid o9
        have G9 := Lib.hid g9
        have A9 : Hid (∀ k, v9.ownBlock = some k → tk.ownBlock = some k ∨ wS.heap.size ≤ k) := Lib.hid fun k hk => (a9 k hk).imp (fun h => by rw [HTK.out]; exact h) fun h => Nat.le_trans (by simp) h
        clear o9 g9 a9
        rw [← HTK.out] at G9
        refine hK.out _ _ (Kept.grown G9.out (fun k hk => .inr (.inr (.inl hk)))) ?_
        clear hK K
        have HOz : Hid (Off (fun k => bf.ownBlock = some k ∨ tk.ownBlock = some k) w w9) := Lib.hid ((HQ9.out.wide fun k hk => .inl hk).trans (Off.grown (F := fun k => tk.ownBlock = some k) G9.out fun k hk => hk) fun k hk => .inl (.inr hk))
        have x9 : w9.cell? ⟨g, 1, none⟩ = some (.slice A E.length c) := XQ.out w9 HOz.out
        have z9 : w9.frozen? ⟨g, 1, none⟩ = false := ZQ.out w9 HOz.out
        clear x8
        obtain ⟨A5, c5, hv9, z5⟩ := ownsRow_shape O9.out
        clear z5
        obtain ⟨N5, hN5⟩ : ∃ N5, N5 = E.length + 1 := ⟨_, rfl⟩
        rw [← hN5] at hv9
        have HN5 := Lib.hid hN5
        clear hN5
        subst hv9
        refine up_take (by exact (atS (atS (atS (atS (atS (atS (atS (atS (atS (atS (atS (atS at0))))))))))))) (by kernel_rfl) (by exact fun _ _ _ h => h) (by rfl) (by intro W hW; go_simp; try with_reducible rfl) ?_
        simp only [Act.put, List.setIfInBounds_toArray, List.set_cons_zero, List.set_cons_succ]
        refine up_take (by exact (atS (atS (atS (atS (atS (atS (atS (atS (atS (atS (atS (atS (atS at0)))))))))))))) (by kernel_rfl) (by exact fun _ _ _ h => h) (by rfl) (by intro W hW; go_simp; try with_reducible rfl) ?_
        simp only [Act.put, List.setIfInBounds_toArray, List.set_cons_zero, List.set_cons_succ]
        refine up_one (by exact (atS (atS (atS (atS (atS (atS (atS (atS (atS (atS (atS (atS (atS (atS at0))))))))))))))) (by kernel_rfl) (fun K hK => ?_)
        go_simp
        refine hK.out _ _ (Kept.grown (grown_set _ g _ _) (fun k hk => by injection hk with hk; exact .inl hk.symm)) ?_
        clear hK K
        refine up_done (by kernel_rfl) ?_
        have hr9 : RdrAt (w9.setCell ⟨g, 1, none⟩ (.slice A5 N5 c5)) g l (.slice A5 N5 c5) p bf := (RQ.out w9 HOz.out).set 1 _
        have HR9 := Lib.hid hr9
        clear hr9 x9 z9
        go_wp2_with (go_at_call 44; refine (inReset_any HR9.out).mono ?_; rintro eR wR ⟨rfl, rR, kR⟩; have RR := Lib.hid rR; have KR := Lib.hid kR; clear rR kR)
        go_end0
        exact end_done HRS.out HN0.out HTK.out (HOz.out.wide fun k hk => .inr hk) O9.out HN5.out (fun k hk => (A9.out k hk).imp (fun h => h) fun h => Nat.le_trans HQ6.out.2.2.2.1 h) RR.out KR.out
      · go_simp
        refine hK.out _ _ (Kept.belowB ((Below.refl _ _).alloc (Nat.le_refl _) _) (fun k hk => .inr (.inr (.inr (Nat.le_trans HQ6.out.2.2.2.1 hk))))) ?_
        clear hK K
        have HQ12 : Hid (Off (fun k => bf.ownBlock = some k) w (wS.alloc (.cells #[.int .i64 3, .string ⟨#[]⟩, .slice none 0 0, .string (str text)] 36))) := Lib.hid ((HQ6.out).trans (Off.below (F := fun _ => False) ((Below.refl _ _).alloc (Nat.le_refl _) _)) fun _ h => h.elim)
        have ON13 : Hid (Blk (wS.alloc (.cells #[.int .i64 3, .string ⟨#[]⟩, .slice none 0 0, .string (str text)] 36)) wS.heap.size 36 #[.int .i64 3, .string ⟨#[]⟩, .slice none 0 0, .string (str text)]) := Lib.hid (Blk.fresh _ _ _)
        have x11 : (wS.alloc (.cells #[.int .i64 3, .string ⟨#[]⟩, .slice none 0 0, .string (str text)] 36)).cell? ⟨g, 1, none⟩ = some (.slice A E.length c) := XO.out (wS.alloc (.cells #[.int .i64 3, .string ⟨#[]⟩, .slice none 0 0, .string (str text)] 36)) HQ12.out
        clear x7
        refine up_one (by exact (atS (atS (atS (atS at0))))) (by kernel_rfl) (fun K hK => ?_)
        go_simp
        refine hK.out _ _ (Kept.refl _ _) ?_
        clear hK K
        refine up_one (by exact (atS (atS (atS (atS (atS (atS (atS (atS (atS (atS (atS at0)))))))))))) (by kernel_rfl) (fun K hK => ?_)
        refine step_append_w _ (by rfl) (.tmp 11) (.tmp 17) 23 (by rfl) base 36 (.agg #[.int .i64 0, .string ⟨#[]⟩, .slice none 0 0, .string ⟨#[]⟩]) 4 64 Tryd.underlying23 Tryd.tokinfo (by rfl) (by decide) _ _ _ (by rfl) (by exact HT.out _ HQ12.out) _ _ _ (by rfl) (by exact tok_one ON13.out) (by simp [Value.oneCell']) (by have := HEL.out; unfold maxLen; omega) (by have := HEL.out; omega) (by have := HQ12.out.2.2.2.1; have := HBS.out; omega) ?_
        intro v9 w9 o9 g9 a9
        have O9 := Lib.hid o9
        have G9 := Lib.hid g9
        have A9 : Hid (∀ k, v9.ownBlock = some k → tk.ownBlock = some k ∨ wS.heap.size ≤ k) := Lib.hid fun k hk => (a9 k hk).imp (fun h => by rw [HTK.out]; exact h) fun h => Nat.le_trans (by simp) h
        clear o9 g9 a9
        rw [← HTK.out] at G9
        refine hK.out _ _ (Kept.grown G9.out (fun k hk => .inr (.inr (.inl hk)))) ?_
        clear hK K
        have HOz : Hid (Off (fun k => bf.ownBlock = some k ∨ tk.ownBlock = some k) w w9) := Lib.hid ((HQ12.out.wide fun k hk => .inl hk).trans (Off.grown (F := fun k => tk.ownBlock = some k) G9.out fun k hk => hk) fun k hk => .inl (.inr hk))
        have x9 : w9.cell? ⟨g, 1, none⟩ = some (.slice A E.length c) := XQ.out w9 HOz.out
        have z9 : w9.frozen? ⟨g, 1, none⟩ = false := ZQ.out w9 HOz.out
        clear x11
        obtain ⟨A5, c5, hv9, z5⟩ := ownsRow_shape O9.out
        clear z5
        obtain ⟨N5, hN5⟩ : ∃ N5, N5 = E.length + 1 := ⟨_, rfl⟩
        rw [← hN5] at hv9
        have HN5 := Lib.hid hN5
        clear hN5
        subst hv9
        refine up_take (by exact (atS (atS (atS (atS (atS (atS (atS (atS (atS (atS (atS (atS at0))))))))))))) (by kernel_rfl) (by exact fun _ _ _ h => h) (by rfl) (by intro W hW; go_simp; try with_reducible rfl) ?_
        simp only [Act.put, List.setIfInBounds_toArray, List.set_cons_zero, List.set_cons_succ]
        refine up_take (by exact (atS (atS (atS (atS (atS (atS (atS (atS (atS (atS (atS (atS (atS at0)))))))))))))) (by kernel_rfl) (by exact fun _ _ _ h => h) (by rfl) (by intro W hW; go_simp; try with_reducible rfl) ?_
        simp only [Act.put, List.setIfInBounds_toArray, List.set_cons_zero, List.set_cons_succ]
        refine up_one (by exact (atS (atS (atS (atS (atS (atS (atS (atS (atS (atS (atS (atS (atS (atS at0))))))))))))))) (by kernel_rfl) (fun K hK => ?_)
        go_simp
        refine hK.out _ _ (Kept.grown (grown_set _ g _ _) (fun k hk => by injection hk with hk; exact .inl hk.symm)) ?_
        clear hK K
        refine up_done (by kernel_rfl) ?_
        have hr9 : RdrAt (w9.setCell ⟨g, 1, none⟩ (.slice A5 N5 c5)) g l (.slice A5 N5 c5) p bf := (RQ.out w9 HOz.out).set 1 _
        have HR9 := Lib.hid hr9
        clear hr9 x9 z9
        go_wp2_with (go_at_call 44; refine (inReset_any HR9.out).mono ?_; rintro eR wR ⟨rfl, rR, kR⟩; have RR := Lib.hid rR; have KR := Lib.hid kR; clear rR kR)
        go_end0
        exact end_done HRS.out HN0.out HTK.out (HOz.out.wide fun k hk => .inr hk) O9.out HN5.out (fun k hk => (A9.out k hk).imp (fun h => h) fun h => Nat.le_trans HQ6.out.2.2.2.1 h) RR.out KR.out
end Go.Proofs.YtelhdkidnhfnbaaDoor
