/-
  The document's Tokens: the tokens of a text, in memory. Condition: the text's length is a length.
-/
import Derived.Test.YtelhdkidnhfnbaaDoorXRPart
namespace Go.Proofs.YtelhdkidnhfnbaaDoor
open Go.RowKit

theorem part_shape {l r : List UInt8} {ts : List Tk} (h : partX l = some (ts, r)) : ts.length ≤ 2 ∧ (∀ t ∈ ts, t.kind = 3 → ts.length = 1) ∧ (l ≠ [] → ∀ t ∈ ts, t.text.length + 4 * r.length ≤ 4 * l.length) := by
  unfold partX at h
  by_cases a1 : hasB l mk1 = true
  · rw [if_pos a1] at h
    cases hb : betwX l mk1 [45, 45, 62] with
    | none => rw [hb] at h; cases h
    | some q => rw [hb] at h; injection h with h; injection h with h1 h2; subst h1 h2; exact ⟨by simp, (fun t ht => (by cases ht)), (fun _ t ht => (by cases ht))⟩
  rw [if_neg a1] at h
  by_cases a2 : hasB l mk2 = true
  · rw [if_pos a2] at h
    cases hb : betwX l mk2 [63, 62] with
    | none => rw [hb] at h; cases h
    | some q => rw [hb] at h; injection h with h; injection h with h1 h2; subst h1 h2; exact ⟨by simp, (fun t ht => (by cases ht)), (fun _ t ht => (by cases ht))⟩
  rw [if_neg a2] at h
  by_cases a3 : hasB l mk3 = true
  · rw [if_pos a3] at h
    cases hb : betwX l mk3 [62] with
    | none => rw [hb] at h; cases h
    | some q =>
      rw [hb] at h
      simp only at h
      split at h
      · cases h
      · injection h with h; injection h with h1 h2; subst h1 h2; exact ⟨by simp, (fun t ht => (by cases ht)), (fun _ t ht => (by cases ht))⟩
  rw [if_neg a3] at h
  by_cases a4 : hasB l mk4 = true
  · rw [if_pos a4] at h
    cases hb : betwX l mk4 [93, 93, 62] with
    | none => rw [hb] at h; cases h
    | some q =>
      rw [hb] at h; injection h with h; injection h with h1 h2; subst h1 h2
      have := betwX_len a4 hb
      refine ⟨by simp, fun t _ _ => rfl, fun _ t ht => ?_⟩
      rw [List.mem_singleton.1 ht]
      show q.1.length + _ ≤ _
      omega
  rw [if_neg a4] at h
  by_cases a5 : hasB l mk5 = true
  · rw [if_pos a5] at h
    split at h
    · injection h with h; injection h with h1 h2; subst h1 h2
      refine ⟨by simp, fun t _ _ => rfl, fun _ t ht => ?_⟩
      rw [List.mem_singleton.1 ht]
      have h3 := restIn_len (l.drop 2)
      rw [List.length_drop] at h3
      show ([] : List UInt8).length + _ ≤ _
      rw [List.length_drop, List.length_nil]
      omega
    · cases h
  rw [if_neg a5] at h
  by_cases a6 : hasB l [60] = true
  · rw [if_pos a6] at h
    cases hb : opnX (l.drop 1) with
    | none => rw [hb] at h; cases h
    | some q =>
      obtain ⟨L, c, rest⟩ := q
      rw [hb] at h; injection h with h; injection h with h1 h2; subst h1 h2
      have h3 := opnX_len hb
      rw [List.length_drop] at h3
      have hk : ∀ t ∈ openT (l.drop 1) L c, t.kind ≠ 3 ∧ t.text = [] := fun t ht => by
        unfold openT at ht
        rcases List.mem_cons.1 ht with e | ht
        · rw [e]; exact ⟨by show (1 : Int) ≠ 3; decide, rfl⟩
        · split at ht
          · rw [List.mem_singleton.1 ht]; exact ⟨by show (2 : Int) ≠ 3; decide, rfl⟩
          · cases ht
      refine ⟨by unfold openT; cases c <;> simp, fun t ht h3 => absurd h3 (hk t ht).1, fun _ t ht => ?_⟩
      rw [(hk t ht).2, List.length_nil]
      show 0 + 4 * rest.length ≤ _
      omega
  · rw [if_neg a6] at h
    injection h with h; injection h with h1 h2; subst h1 h2
    have h9 : (l.takeWhile fun b => b.toNat != 60).length + (l.dropWhile fun b => b.toNat != 60).length = l.length := by rw [← List.length_append, List.takeWhile_append_dropWhile]
    have h8 := readF_len (l.takeWhile fun b => b.toNat != 60).length (l.takeWhile fun b => b.toNat != 60) (Nat.le_refl _)
    refine ⟨by simp, fun t _ _ => rfl, fun _ t ht => ?_⟩
    rw [List.mem_singleton.1 ht]
    show (readR _).length + _ ≤ _
    omega
theorem tcells_at : ∀ (G : List TokE) (k : Nat) (hk : k < G.length), (tcells G)[4 * k]? = some (.int .i64 G[k].kind) ∧ (tcells G)[4 * k + 1]? = some (.string (str G[k].name)) ∧ (tcells G)[4 * k + 2]? = some G[k].v ∧ (tcells G)[4 * k + 3]? = some (.string (str G[k].text))
  | e :: r, 0, _ => ⟨rfl, rfl, rfl, rfl⟩
  | e :: r, k + 1, hk => by
    have h := tcells_at r k (by simpa using hk)
    have e1 : 4 * (k + 1) = 4 * k + 1 + 1 + 1 + 1 := by omega
    rw [e1]
    exact h
theorem tcells_len : ∀ G : List TokE, (tcells G).length = 4 * G.length
  | [] => rfl
  | e :: r => by
    show (tcells r).length + 1 + 1 + 1 + 1 = _
    rw [tcells_len r, List.length_cons]; omega
theorem tcells_set (P : List TokE) (x : TokE) (tx : List UInt8) : (tcells (P ++ [x])).set (P.length * 4 + 3) (.string (str tx)) = tcells (P ++ [{ x with text := tx }]) := by
  rw [tcells_app, tcells_app, List.set_append_right _ _ (by rw [tcells_len]; omega), tcells_len, show P.length * 4 + 3 - 4 * P.length = 3 by omega]
  rfl
theorem TokRow.below {w W : World} {b : Nat} {v : Value} {G : List TokE} (h : TokRow w b v G) (hb : Below w.heap.size w W) : TokRow W b v G :=
  ⟨ownsRow_blk h.1 fun k hk => hb.block k (World.ownsRow.lt h.1 k hk).2, fun e he => ownsRow_blk (h.2 e he) fun k hk => hb.block k (World.ownsRow.lt (h.2 e he) k hk).2⟩
theorem TokRow.drew {w : World} {b : Nat} {v : Value} {G : List TokE} (h : TokRow w b v G) : TokRow w.drew b v G := h
theorem TokRow.more {w : World} {b b' : Nat} {v : Value} {G : List TokE} (h : TokRow w b v G) (hb : b' ≤ b) : TokRow w b' v G := ⟨ownsRow_more h.1 hb, fun e he => ownsRow_more (h.2 e he) hb⟩
/-- A row of tokens stays where another block is written. -/
theorem TokRow.grown {w W : World} {b q : Nat} {v : Value} {G : List TokE} {row : Option Nat} (h : TokRow w b v G) (hg : w.grownBy W row) (hv : ∀ k, v.ownBlock = some k → row ≠ some k) (ha : ∀ e ∈ G, ∀ k, e.v.ownBlock = some k → row ≠ some k) (_hq : q = q) : TokRow W b v G :=
  ⟨ownsRow_blk h.1 fun k hk => hg.block k (World.ownsRow.lt h.1 k hk).2 fun e => hv k hk e.symm, fun e he => ownsRow_blk (h.2 e he) fun k hk => hg.block k (World.ownsRow.lt (h.2 e he) k hk).2 fun e1 => ha e he k hk e1.symm⟩
def RToksAns (w : World) (s : List UInt8) (e : Ending) (w' : World) : Prop :=
  ∃ v G, e = .returned (.tuple #[v, .int .i64 ((tokV s).2.1 : Int), .int .i64 (tokV s).2.2]) ∧ Below w.heap.size w w' ∧ G.map TokE.tk = (tokV s).1 ∧ TokRow w' w.heap.size v G
def RAddRel (w : World) (vG : Value) (G E0 : List TokE) (N rl : Nat) (u5 u11 : Value) (W : World) : Prop :=
  ∃ (k : Nat) (E : List TokE) (v : Value), k ≤ G.length ∧ u5 = v ∧ u11 = .int .i64 (k : Int) ∧ E.map TokE.tk = ((G.take k).map TokE.tk).foldl addV (E0.map TokE.tk) ∧ TokRow W w.heap.size v E ∧ TokRow W w.heap.size vG G ∧
    (∀ b, vG.ownBlock = some b → v.ownBlock ≠ some b) ∧ Below w.heap.size w W ∧ (∀ e ∈ E, e.text.length + 4 * rl ≤ 4 * N) ∧ (k = 0 → E = E0) ∧ E.length ≤ E0.length + k
def RToksRel (w : World) (s : List UInt8) (u5 u6 : Value) (W : World) : Prop :=
  ∃ (n : Nat) (l : List UInt8) (E : List TokE) (v : Value), tokFV n s.length l (E.map TokE.tk) = tokV s ∧ l.length < n ∧ l.length ≤ s.length ∧ u5 = v ∧ u6 = .string (str l) ∧ TokRow W w.heap.size v E ∧ E.length ≤ 8192 ∧ (∀ e ∈ E, e.text.length + 4 * l.length ≤ 4 * s.length) ∧ Below w.heap.size w W
theorem addV_skip {o : List Tk} {t : Tk} (h3 : t.kind = 3) (h0 : t.text = []) : addV o t = o := by unfold addV; rw [if_pos ⟨h3, h0⟩]
theorem addV_tag {o : List Tk} {t : Tk} (h3 : t.kind ≠ 3) : addV o t = o ++ [t] := by
  unfold addV
  rw [if_neg fun h => h3 h.1]
  cases o.getLast? with
  | none => rfl
  | some x => exact if_neg fun h => h3 h.1
theorem addV_first {t : Tk} (h0 : t.text ≠ []) : addV [] t = [t] := by
  unfold addV
  rw [if_neg fun h => h0 h.2]
  rfl
theorem addV_behind {P : List Tk} {x t : Tk} (h0 : t.text ≠ []) (hx : x.kind ≠ 3) : addV (P ++ [x]) t = P ++ [x] ++ [t] := by
  unfold addV
  rw [if_neg fun h => h0 h.2, List.getLast?_append, List.getLast?_singleton]
  exact if_neg fun h => hx h.2
theorem addV_join {P : List Tk} {x t : Tk} (h3 : t.kind = 3) (h0 : t.text ≠ []) (hx : x.kind = 3) : addV (P ++ [x]) t = P ++ [{ x with text := x.text ++ t.text }] := by
  unfold addV
  rw [if_neg fun h => h0 h.2, List.getLast?_append, List.getLast?_singleton]
  simp only [Option.some_or, List.dropLast_concat]
  exact if_pos ⟨h3, hx⟩
theorem fold_take {G : List TokE} {k : Nat} (hk : k < G.length) (o : List Tk) : ((G.take (k + 1)).map TokE.tk).foldl addV o = addV (((G.take k).map TokE.tk).foldl addV o) G[k].tk := by
  rw [List.take_succ_eq_append_getElem hk, List.map_append, List.foldl_append]
  rfl
theorem tokFV_end {n N : Nat} {o : List Tk} : tokFV (n + 1) N [] o = (o, N, 0) := by rw [tokFV, if_pos rfl]
theorem tokFV_bad {n N : Nat} {l : List UInt8} {o : List Tk} (h0 : l ≠ []) (h : partV l = none) : tokFV (n + 1) N l o = ([], N - l.length, 80) := by rw [tokFV, if_neg h0, h]
theorem tokFV_long {n N : Nat} {l r : List UInt8} {ts o : List Tk} (h0 : l ≠ []) (h : partV l = some (ts, r)) (h8 : 8192 < (ts.foldl addV o).length) : tokFV (n + 1) N l o = ([], N - l.length, 3) := by
  rw [tokFV, if_neg h0, h]
  exact if_pos h8
theorem tokFV_next {n N : Nat} {l r : List UInt8} {ts o : List Tk} (h0 : l ≠ []) (h : partV l = some (ts, r)) (h8 : ¬ 8192 < (ts.foldl addV o).length) : tokFV (n + 1) N l o = tokFV n N r (ts.foldl addV o) := by
  rw [tokFV, if_neg h0, h]
  exact if_neg h8
/-- A token more in the row. -/
theorem tok_push {w wr X w9 : World} {v v9 vG : Value} {E G : List TokE} {e : TokE} (hX : Below wr.heap.size wr X) (hE : TokRow wr w.heap.size v E) (hG : TokRow wr w.heap.size vG G) (he : e ∈ G) (hne : ∀ b, vG.ownBlock = some b → v.ownBlock ≠ some b) (hb : Below w.heap.size w wr)
    (o9 : w9.ownsRow w.heap.size 36 4 v9 (E.length + 1) (tcells E ++ [.int .i64 e.kind, .string (str e.name), e.v, .string (str e.text)])) (g9 : X.grownBy w9 v.ownBlock) (a9 : ∀ k, v9.ownBlock = some k → v.ownBlock = some k ∨ X.heap.size ≤ k) :
    TokRow w9 w.heap.size v9 (E ++ [e]) ∧ TokRow w9 w.heap.size vG G ∧ (∀ b, vG.ownBlock = some b → v9.ownBlock ≠ some b) ∧ Below w.heap.size w w9 := by
  have hE1 := hE.below hX
  have hG1 := hG.below hX
  have att : ∀ x : TokE, AttrRow X w.heap.size x → AttrRow w9 w.heap.size x := fun x hx => ownsRow_blk hx fun k hk => g9.block k (World.ownsRow.lt hx k hk).2 fun e1 => row_ne hx hE1.1 (by decide) k hk e1.symm
  refine ⟨⟨by rw [List.length_append, tcells_app]; exact o9, fun x hx => ?_⟩, ⟨ownsRow_blk hG1.1 fun k hk => g9.block k (World.ownsRow.lt hG1.1 k hk).2 fun e1 => hne k hk e1.symm, fun x hx => att x (hG1.2 x hx)⟩, fun b hb2 h9 => ?_, ?_⟩
  · rcases List.mem_append.1 hx with hx | hx
    · exact att x (hE1.2 x hx)
    · rw [List.mem_singleton.1 hx]; exact att e (hG1.2 e he)
  · rcases a9 b h9 with h | h
    · exact hne b hb2 h
    · have := (World.ownsRow.lt hG1.1 b hb2).2; omega
  · exact (below_then hb hX).grown g9 (Nat.le_trans hb.size hX.size) fun k hk => (World.ownsRow.lt hE1.1 k hk).1
/-- A text put to the last token's. -/
theorem tok_join {w wr : World} {vG : Value} {P G : List TokE} {x : TokE} {tx : List UInt8} {bo n c : Nat} (hE : TokRow wr w.heap.size (.slice (some ⟨bo, 0, none⟩) n c) (P ++ [x])) (hn : n = (P ++ [x]).length) (hG : TokRow wr w.heap.size vG G) (hne : ∀ b, vG.ownBlock = some b → (Value.slice (some ⟨bo, 0, none⟩) n c).ownBlock ≠ some b) (hb : Below w.heap.size w wr) :
    TokRow (wr.setCell ⟨bo, P.length * 4 + 3, none⟩ (.string (str tx))) w.heap.size (.slice (some ⟨bo, 0, none⟩) n c) (P ++ [{ x with text := tx }]) ∧ TokRow (wr.setCell ⟨bo, P.length * 4 + 3, none⟩ (.string (str tx))) w.heap.size vG G ∧ Below w.heap.size w (wr.setCell ⟨bo, P.length * 4 + 3, none⟩ (.string (str tx))) := by
  subst hn
  have hset := grown_set wr bo (P.length * 4 + 3) (.string (str tx))
  have att : ∀ y : TokE, AttrRow wr w.heap.size y → AttrRow (wr.setCell ⟨bo, P.length * 4 + 3, none⟩ (.string (str tx))) w.heap.size y := fun y hy => ownsRow_blk hy fun k hk => hset.block k (World.ownsRow.lt hy k hk).2 fun e1 => row_ne hy hE.1 (by decide) k hk e1.symm
  have hbo : w.heap.size ≤ bo := (World.ownsRow.lt hE.1 bo rfl).1
  refine ⟨⟨?_, fun y hy => ?_⟩, ⟨ownsRow_blk hG.1 fun k hk => hset.block k (World.ownsRow.lt hG.1 k hk).2 fun e1 => hne k hk e1.symm, fun y hy => att y (hG.2 y hy)⟩, below_more hb hset hbo⟩
  · have h := ownsRow_set hE.1 (P.length * 4 + 3) (.string (str tx))
    rw [tcells_set] at h
    have hl : (P ++ [{ x with text := tx }]).length = (P ++ [x]).length := by simp
    rw [hl]
    exact h
  · rcases List.mem_append.1 hy with hy | hy
    · exact att y (hE.2 y (List.mem_append.2 (.inl hy)))
    · rw [List.mem_singleton.1 hy]
      exact att x (hE.2 x (List.mem_append.2 (.inr List.mem_cons_self)))
set_option maxHeartbeats 25600000 in
set_option maxRecDepth 100000 in
theorem rtoksV_any (s : List UInt8) (w : World) (hl : s.length ≤ 1000000000) : Calls Tryd.prog 9 #[.string (str s)] w (RToksAns w s) := by
  by_cases hlong : (65536 : Int) < (s.length : Int)
  · have HX : Hid (tokV s = ([], 0, 3)) := Lib.hid (by unfold tokV; rw [if_pos (by omega)])
    go_enter Tryd.func9, Tryd.ntmps9
    go_wp2_with fail
    go_ret3
    exact ⟨.slice none 0 0, [], by rw [HX.out]; rfl, Below.refl _ _, by rw [HX.out]; rfl, row_nil _ _⟩
  · have hsI : (s.length : Int) ≤ 65536 := by omega
    have HSI : Hid (s.length ≤ 65536) := Lib.hid (by omega)
    have HTX : Hid (tokV s = tokFV (s.length + 1) s.length s []) := Lib.hid (by unfold tokV; rw [if_neg (by omega)])
    clear hl
    go_enter Tryd.func9, Tryd.ntmps9
    go_wp2_with fail
    go_loopw [5, 6] (RToksRel w s) (fun _ u _ => lenStr u)
    case atStart => exact ⟨s.length + 1, s, [], .slice none 0 0, HTX.out.symm, Nat.lt_succ_self _, Nat.le_refl _, rfl, rfl, row_nil _ _, Nat.zero_le _, (fun e he => (by cases he)), Below.refl _ _⟩
    case round =>
      obtain ⟨n, l, E0, v, hto, hln, hls, rfl, rfl, hte, hE, htb, hb⟩ := hrel
      obtain ⟨m, rfl⟩ : ∃ m, n = m + 1 := ⟨n - 1, by omega⟩
      have HTE0 := Lib.hid hte
      have HB := Lib.hid hb
      have HE0 := Lib.hid hE
      have HTB0 := Lib.hid htb
      have HTO := Lib.hid hto
      have HLN := Lib.hid hln
      have HLS := Lib.hid hls
      clear hto hln hb hE htb
      obtain ⟨A0, c0, hv0, z0⟩ := ownsRow_shape hte.1
      clear z0
      obtain ⟨N0, hN0⟩ : ∃ N0, N0 = E0.length := ⟨_, rfl⟩
      rw [← hN0] at hv0
      have HN00 := Lib.hid hN0
      clear hN0 hte
      subst hv0
      by_cases h0 : l = []
      · subst h0
        have HX : Hid (tokV s = (E0.map TokE.tk, s.length, 0)) := Lib.hid (by rw [← HTO.out, tokFV_end])
        clear hls
        go_wp2_with fail
        go_ret3
        exact ⟨.slice A0 N0 c0, E0, by rw [HX.out]; rfl, HB.out, by rw [HX.out], HTE0.out⟩
      · have hlp : (0 : Int) < (l.length : Int) := by have : l.length ≠ 0 := by simpa using h0
                                                      omega
        have HN0 := Lib.hid h0
        have hlI : (l.length : Int) ≤ (s.length : Int) := by omega
        cases hp : partV l with
        | none =>
          have HPV := Lib.hid hp
          have HX : Hid (tokV s = ([], s.length - l.length, 80)) := Lib.hid (by rw [← HTO.out, tokFV_bad HN0.out hp])
          clear hp h0 hls
          go_wp2_with (go_at_call 21; have kp := rpart_any l wr (by have := HLS.out; have := HSI.out; omega) HN0.out; unfold RPartAns at kp; rw [HPV.out] at kp; refine kp.mono ?_; rintro e w1 ⟨vG, rest, rfl, hb1, hy1⟩; have HB1 := Lib.hid (below_then HB.out hb1); have HBR := Lib.hid hb1; have HY1 := Lib.hid hy1; clear kp hb1 hy1)
          go_ret3
          exact ⟨.slice none 0 0, [], by rw [HX.out]; show _ = Ending.returned (.tuple #[_, .int .i64 ((s.length - l.length : Nat) : Int), _]); rw [Int.natCast_sub HLS.out]; rfl, HB1.out, by rw [HX.out]; rfl, row_nil _ _⟩
        | some q =>
          obtain ⟨ts, r⟩ := q
          have HPV := Lib.hid hp
          have hpx : partX l = some (ts, r) := by rw [← part_eq]; exact hp
          have HSH := Lib.hid (part_shape hpx)
          have HRL : Hid (r.length < l.length) := Lib.hid (prt_len hpx h0 [] []).1
          clear hp h0 hls hpx
          go_wp2_with (go_at_call 21; have kp := rpart_any l wr (by have := HLS.out; have := HSI.out; omega) HN0.out; unfold RPartAns at kp; rw [HPV.out] at kp; refine kp.mono ?_; rintro e w1 ⟨vG, rest, rfl, hb1, hy1⟩; have HB1 := Lib.hid (below_then HB.out hb1); have HBR := Lib.hid hb1; have HY1 := Lib.hid hy1; clear kp hb1 hy1)
          obtain ⟨hre, G, hgm, htg⟩ := HY1.out ts r rfl
          subst hre
          have HGM := Lib.hid hgm
          have HTG1 : Hid (TokRow w1 w.heap.size vG G) := Lib.hid (htg.more HB.out.size)
          have HTE1 : Hid (TokRow w1 w.heap.size (.slice A0 N0 c0) E0) := Lib.hid (HTE0.out.below HBR.out)
          have HNE1 : Hid (∀ b, vG.ownBlock = some b → (Value.slice A0 N0 c0).ownBlock ≠ some b) := Lib.hid fun b hb h => by
            have h1 := (World.ownsRow.lt htg.1 b hb).1
            have h2 := (World.ownsRow.lt HTE0.out.1 b h).2
            omega
          have HST : Hid (RAddRel w vG G E0 s.length rest.length (.slice A0 N0 c0) (.int .i64 0) w1) := Lib.hid ⟨0, E0, _, Nat.zero_le _, rfl, rfl, rfl, HTE1.out, HTG1.out, HNE1.out, HB1.out, fun e he => by have := HTB0.out e he; have := HRL.out; omega, fun _ => rfl, Nat.le_refl _⟩
          have HGL : Hid (G.length ≤ 2) := Lib.hid (by have h := HSH.out.1; rw [← hgm, List.length_map] at h; exact h)
          have HG3 : Hid (∀ t ∈ G, t.kind = 3 → G.length = 1) := Lib.hid fun t ht h3 => by
            have h := HSH.out.2.1 t.tk (by rw [← hgm]; exact List.mem_map_of_mem ht) h3
            rw [← hgm, List.length_map] at h; exact h
          have HGT : Hid (∀ t ∈ G, t.text.length + 4 * rest.length ≤ 4 * l.length) := Lib.hid fun t ht => HSH.out.2.2 HN0.out t.tk (by rw [← hgm]; exact List.mem_map_of_mem ht)
          obtain ⟨AG, cG, hvG, zG⟩ := ownsRow_shape htg.1
          have HZG : Hid (0 < G.length → ∃ b, AG = some ⟨b, 0, none⟩) := Lib.hid fun h => by
            cases AG with
            | none => have := (zG.2.2.1 rfl).1; omega
            | some ad => obtain ⟨b, hb, _⟩ := zG.2.2.2 ad rfl; exact ⟨b, by rw [hb]⟩
          obtain ⟨NG, hNG⟩ : ∃ NG, NG = G.length := ⟨_, rfl⟩
          rw [← hNG] at hvG
          have HNG := Lib.hid hNG
          clear hgm htg zG hNG
          subst hvG
          go_loopw [5, 11] (RAddRel w (.slice AG NG cG) G E0 s.length rest.length) (fun _ u _ => G.length - (intOf u).toNat)
          case atStart => exact HST.out
          case round =>
            obtain ⟨k, E, v, hk, rfl, rfl, hmp, hte, htg, hne, hbk, htb, hke, hlen⟩ := hrel
            obtain ⟨A, c, hv, zz⟩ := ownsRow_shape hte.1
            have HZE : Hid (0 < E.length → ∃ b, A = some ⟨b, 0, none⟩) := Lib.hid fun h => by
              cases A with
              | none => have := (zz.2.2.1 rfl).1; omega
              | some ad => obtain ⟨b, hb, _⟩ := zz.2.2.2 ad rfl; exact ⟨b, by rw [hb]⟩
            obtain ⟨N, hN⟩ : ∃ N, N = E.length := ⟨_, rfl⟩
            rw [← hN] at hv
            have HN2 := Lib.hid hN
            clear hN zz
            subst hv
            have HMP := Lib.hid hmp
            have HTE := Lib.hid hte
            have HTG := Lib.hid htg
            have HNE := Lib.hid hne
            have HBk := Lib.hid hbk
            have HTB := Lib.hid htb
            have HKE := Lib.hid hke
            have HLEN := Lib.hid hlen
            clear hmp hte htg hne hbk htb hke hlen
            rw [← HNG.out] at hk
            by_cases hkN : k < NG
            · have hkI : (k : Int) < (NG : Int) := by omega
              have hng2 : (NG : Int) ≤ 2 := by have := HNG.out; have := HGL.out; omega
              have hkG : k < G.length := by have := HNG.out; omega
              obtain ⟨bG, hbG⟩ := HZG.out (by omega)
              have HKL : Hid (k + 1 ≤ G.length) := Lib.hid hkG
              have HFT := Lib.hid (fold_take hkG (E0.map TokE.tk))
              have hat := tcells_at G k hkG
              have HEG : Hid (G[k] ∈ G) := Lib.hid (List.getElem_mem hkG)
              have HNB : Hid (N ≤ 100000) := Lib.hid (by have := HLEN.out; have := HE0.out; have := HN2.out; have := HGL.out; omega)
              subst hbG
              have yc := fun (j : Nat) (u : Value) (hu : (tcells G)[j]? = some u) => rowcell HTG.out.1 (show (Value.slice (some ⟨bG, 0, none⟩) NG cG).ownBlock = some bG from rfl) j u hu
              have YC : Hid (wr.cell? ⟨bG, k * 4, none⟩ = some (.int .i64 G[k].kind) ∧ wr.cell? ⟨bG, k * 4 + 1, none⟩ = some (.string (str G[k].name)) ∧ wr.cell? ⟨bG, k * 4 + 2, none⟩ = some G[k].v ∧ wr.cell? ⟨bG, k * 4 + 3, none⟩ = some (.string (str G[k].text))) := Lib.hid (by
                rw [Nat.mul_comm k 4]
                exact ⟨yc _ _ hat.1, yc _ _ hat.2.1, yc _ _ hat.2.2.1, yc _ _ hat.2.2.2⟩)
              have HEV : Hid (G[k].v.oneCell' = true) := Lib.hid (by obtain ⟨A, c, hv, _⟩ := ownsRow_shape (HTG.out.2 _ HEG.out); rw [hv]; rfl)
              have HETB : Hid (G[k].text.length + 4 * rest.length ≤ 4 * s.length) := Lib.hid (by have := HGT.out _ HEG.out; have := HLS.out; omega)
              have HET1 := Lib.hid (HGT.out _ HEG.out)
              have HG31 := Lib.hid (HG3.out _ HEG.out)
              clear hat yc
              generalize G[k] = e at *
              obtain ⟨ek, en, ea, ev, et⟩ := e
              have HTK : Hid ((TokE.tk ⟨ek, en, ea, ev, et⟩).text = et) := Lib.hid rfl
              simp only at YC HEV
              have BF4 : Hid (Blk (wr.alloc (.cells #[.int .i64 ek, .string (str en), ev, .string (str et)] 36)) wr.heap.size 36 #[.int .i64 ek, .string (str en), ev, .string (str et)]) := Lib.hid (Blk.fresh _ _ _)
              have HB4 : Hid (Below wr.heap.size wr (wr.alloc (.cells #[.int .i64 ek, .string (str en), ev, .string (str et)] 36))) := Lib.hid ((Below.refl _ _).alloc (Nat.le_refl _) _)
              have AR4 : Hid ((wr.alloc (.cells #[.int .i64 ek, .string (str en), ev, .string (str et)] 36)).ownsRow w.heap.size 36 4 (.slice A N c) N (tcells E)) := Lib.hid (by have h := (HTE.out.below HB4.out).1; rw [← HN2.out] at h; exact h)
              clear hkG
              by_cases h3 : ek = 3
              · subst h3
                have HK3 : Hid ((TokE.tk ⟨3, en, ea, ev, et⟩).kind = 3) := Lib.hid rfl
                by_cases h0 : et = []
                · have HT0 := Lib.hid h0
                  subst h0
                  have y0 : wr.cell? ⟨bG, k * 4, none⟩ = some (.int .i64 3) := YC.out.1
                  have y1 : wr.cell? ⟨bG, k * 4 + 1, none⟩ = some (.string (str en)) := YC.out.2.1
                  have y2 : wr.cell? ⟨bG, k * 4 + 2, none⟩ = some ev := YC.out.2.2.1
                  have y3 : wr.cell? ⟨bG, k * 4 + 3, none⟩ = some (.string (str [])) := YC.out.2.2.2
                  go_wp2_with fail
                  go_roundw
                  case rel => exact ⟨k + 1, E, .slice A N c, HKL.out, rfl, by go_num, by rw [HFT.out, ← HMP.out]; exact (addV_skip HK3.out rfl).symm, HTE.out, HTG.out, HNE.out, HBk.out, HTB.out, fun h => by omega, by have := HLEN.out; omega⟩
                  case measure => have := HKL.out; simp [intOf]; omega
                · have HT0 := Lib.hid h0
                  have e1 : (et == ([] : List UInt8)) = false := by simpa using h0
                  rcases List.eq_nil_or_concat E with hE | ⟨P, x, hE⟩
                  · have hN0 : N = 0 := by rw [HN2.out, hE]; rfl
                    have hn0 : ¬ (0 : Int) < (N : Int) := by omega
                    have hn0n : ¬ 0 < N := by omega
                    have hn0d : decide (0 < N) = false := decide_eq_false hn0n
                    clear hN0
                    have y0 : wr.cell? ⟨bG, k * 4, none⟩ = some (.int .i64 3) := YC.out.1
                    have y1 : wr.cell? ⟨bG, k * 4 + 1, none⟩ = some (.string (str en)) := YC.out.2.1
                    have y2 : wr.cell? ⟨bG, k * 4 + 2, none⟩ = some ev := YC.out.2.2.1
                    have y3 : wr.cell? ⟨bG, k * 4 + 3, none⟩ = some (.string (str et)) := YC.out.2.2.2
                    clear h0
                    go_wp2_with (at_builtin; go_must (refine wpList_append_w _ (by rfl) (.tmp 42) (.tmp 47) 23 (by rfl) w.heap.size 36 (.agg #[.int .i64 0, .string ⟨#[]⟩, .slice none 0 0, .string ⟨#[]⟩]) 4 64 Tryd.underlying23 Tryd.tokinfo (by rfl) (by decide) _ _ _ (by rfl) (by exact AR4.out) _ _ _ (by rfl) (by exact tok_one BF4.out) (by simp [Value.oneCell'] <;> exact HEV.out) (by have := HNB.out; unfold maxLen; omega) (by have := HNB.out; omega) (by exact Nat.le_trans HBk.out.size HB4.out.size) ?_); intro v9 w9 o9 g9 a9; have O9 := Lib.hid o9; have G9 := Lib.hid g9; have A9 := Lib.hid a9; clear o9 g9 a9 y0 y1 y2 y3; obtain ⟨A5, c5, hv9, z5⟩ := ownsRow_shape O9.out; clear z5; obtain ⟨N5, hN5⟩ : ∃ N5, N5 = N + 1 := ⟨_, rfl⟩; rw [← hN5] at hv9; have HN5 := Lib.hid hN5; clear hN5; subst hv9)
                    have HPU := Lib.hid (tok_push (w := w) HB4.out (HTE.out) HTG.out HEG.out HNE.out HBk.out (by have h := O9.out; rw [HN2.out] at h; exact h) ⟨G9.out.os, G9.out.tape, G9.out.output, G9.out.size, G9.out.block⟩ A9.out)
                    go_roundw
                    case rel =>
                      refine ⟨k + 1, E ++ [⟨3, en, ea, ev, et⟩], .slice A5 N5 c5, HKL.out, rfl, by go_num, ?_, HPU.out.1, HPU.out.2.1, HPU.out.2.2.1, HPU.out.2.2.2, fun y hy => ?_, fun h => by omega, ?_⟩
                      · rw [HFT.out, ← HMP.out, List.map_append]; rw [hE]; exact (addV_first (t := TokE.tk ⟨3, en, ea, ev, et⟩) HT0.out).symm
                      · rcases List.mem_append.1 hy with hy | hy
                        · exact HTB.out y hy
                        · rw [List.mem_singleton.1 hy]; exact HETB.out
                      · rw [List.length_append, List.length_singleton]; have := HLEN.out; omega
                    case measure => have := HKL.out; simp [intOf]; omega
                  · rw [List.concat_eq_append] at hE
                    obtain ⟨xk, xn, xa, xv, xt⟩ := x
                    have HNP : Hid (N = P.length + 1) := Lib.hid (by rw [HN2.out, hE]; simp)
                    obtain ⟨bE, hbE⟩ := HZE.out (by rw [← HN2.out]; have := HNP.out; omega)
                    subst hbE
                    have hatE := tcells_at E P.length (by rw [← HN2.out]; have := HNP.out; omega)
                    have hgP : E[P.length]'(by rw [← HN2.out]; have := HNP.out; omega) = ⟨xk, xn, xa, xv, xt⟩ := by simp [hE]
                    rw [hgP] at hatE
                    have u0 : wr.cell? ⟨bE, P.length * 4, none⟩ = some (.int .i64 xk) := by rw [Nat.mul_comm]; exact rowcell HTE.out.1 rfl _ _ hatE.1
                    have U3 : Hid (wr.cell? ⟨bE, P.length * 4 + 3, none⟩ = some (.string (str xt))) := Lib.hid (by rw [Nat.mul_comm]; exact rowcell HTE.out.1 rfl _ _ hatE.2.2.2)
                    have UF : Hid (∀ j, wr.frozen? ⟨bE, j, none⟩ = false) := Lib.hid fun j => by
                      obtain ⟨cur, hcur⟩ := ownsRow_rowAt HTE.out.1 bE rfl
                      exact Blk.free hcur j
                    obtain ⟨M, hM⟩ : ∃ M, M = P.length := ⟨_, rfl⟩
                    rw [← hM] at u0 U3
                    have hMI : (M : Int) < (N : Int) := by have := HNP.out; omega
                    have hM0 : (0 : Int) ≤ (M : Int) := by omega
                    have hNI : (0 : Int) < (N : Int) := by have := HNP.out; omega
                    have hNIn : 0 < N := by have := HNP.out; omega
                    have hNId : decide (0 < N) = true := decide_eq_true hNIn
                    have hNI2 : (N : Int) ≤ 100000 := by have := HNB.out; omega
                    have hNM : (N : Int) - 1 = (M : Int) := by have := HNP.out; omega
                    have hwM : IntKind.i64.wrap (M : Int) = (M : Int) := IntWalk.i64_in _ (by omega)
                    have HM := Lib.hid hM
                    have HEE := Lib.hid hE
                    clear hatE hgP hM hE
                    by_cases hx3 : xk = 3
                    · subst hx3
                      have HK0 : Hid (k = 0) := Lib.hid (by have h := HG31.out rfl; have := HKL.out; omega)
                      have HXB : Hid (xt.length + et.length + 4 * rest.length ≤ 4 * s.length) := Lib.hid (by
                        have hm : (⟨3, xn, xa, xv, xt⟩ : TokE) ∈ E0 := by rw [← HKE.out HK0.out, HEE.out]; simp
                        have h1 := HTB0.out _ hm
                        have h2 := HET1.out
                        simp only at h1 h2
                        omega)
                      have hcln : ¬ 9223372036854775807 < xt.length + et.length := by have := HXB.out; have := HSI.out; omega
                      have hcat : str xt ++ str et = str (xt ++ et) := by unfold str; exact ByteArray.mk_append_mk xt et
                      have u3 := U3.out
                      have uf : wr.frozen? ⟨bE, M * 4 + 3, none⟩ = false := UF.out _
                      have hcl : xt.length + et.length ≤ 9223372036854775807 := by have := HXB.out; have := HSI.out; omega
                      have y0 : wr.cell? ⟨bG, k * 4, none⟩ = some (.int .i64 3) := YC.out.1
                      have y1 : wr.cell? ⟨bG, k * 4 + 1, none⟩ = some (.string (str en)) := YC.out.2.1
                      have y2 : wr.cell? ⟨bG, k * 4 + 2, none⟩ = some ev := YC.out.2.2.1
                      have y3 : wr.cell? ⟨bG, k * 4 + 3, none⟩ = some (.string (str et)) := YC.out.2.2.2
                      clear h0
                      go_wp2_with fail
                      refine up_start (fun k => k = 0 ∨ 0 ≤ k) (by kernel_rfl) ?_
                      refine up_take (by exact at0) (by kernel_rfl) (by exact fun _ _ _ h => h) (by rfl) (by intro W hW; go_simp; try with_reducible rfl) ?_
                      simp only [Act.put, List.setIfInBounds_toArray, List.set_cons_zero, List.set_cons_succ]
                      refine up_take (by exact (atS at0)) (by kernel_rfl) (by exact fun _ _ _ h => h) (by rfl) (by intro W hW; go_simp; try with_reducible rfl) ?_
                      simp only [Act.put, List.setIfInBounds_toArray, List.set_cons_zero, List.set_cons_succ]
                      refine up_take (by exact (atS (atS at0))) (by kernel_rfl) (by exact fun _ _ _ h => h) (by rfl) (by intro W hW; go_simp; try with_reducible rfl) ?_
                      simp only [Act.put, List.setIfInBounds_toArray, List.set_cons_zero, List.set_cons_succ]
                      refine up_take (by exact (atS (atS (atS at0)))) (by kernel_rfl) (by exact fun _ _ _ h => h) (by rfl) (by intro W hW; go_simp; try with_reducible rfl) ?_
                      simp only [Act.put, List.setIfInBounds_toArray, List.set_cons_zero, List.set_cons_succ]
                      refine up_take (by exact (atS (atS (atS (atS at0))))) (by kernel_rfl) (by exact fun _ _ _ h => h) (by rfl) (by intro W hW; go_simp; try with_reducible rfl) ?_
                      simp only [Act.put, List.setIfInBounds_toArray, List.set_cons_zero, List.set_cons_succ]
                      refine up_take (by exact (atS (atS (atS (atS (atS at0)))))) (by kernel_rfl) (by exact fun _ _ _ h => h) (by rfl) (by intro W hW; go_simp; try with_reducible rfl) ?_
                      simp only [Act.put, List.setIfInBounds_toArray, List.set_cons_zero, List.set_cons_succ]
                      refine up_take (by exact (atS (atS (atS (atS (atS (atS at0))))))) (by kernel_rfl) (by exact fun _ _ _ h => h) (by rfl) (by intro W hW; go_simp; try with_reducible rfl) ?_
                      simp only [Act.put, List.setIfInBounds_toArray, List.set_cons_zero, List.set_cons_succ]
                      refine up_take (by exact (atS (atS (atS (atS (atS (atS (atS at0)))))))) (by kernel_rfl) (by exact fun _ _ _ h => h) (by rfl) (by intro W hW; go_simp; try with_reducible rfl) ?_
                      simp only [Act.put, List.setIfInBounds_toArray, List.set_cons_zero, List.set_cons_succ]
                      refine up_take (by exact (atS (atS (atS (atS (atS (atS (atS (atS (atS at0)))))))))) (by kernel_rfl) (by exact fun _ _ _ h => h) (by rfl) (by intro W hW; go_simp; try with_reducible rfl) ?_
                      simp only [Act.put, List.setIfInBounds_toArray, List.set_cons_zero, List.set_cons_succ]
                      refine up_take (by exact (atS (atS (atS (atS (atS (atS (atS (atS (atS (atS at0))))))))))) (by kernel_rfl) (by exact fun _ _ _ h => h) (by rfl) (by intro W hW; go_simp; try with_reducible rfl) ?_
                      simp only [Act.put, List.setIfInBounds_toArray, List.set_cons_zero, List.set_cons_succ]
                      refine up_take (by exact (atS (atS (atS (atS (atS (atS (atS (atS (atS (atS (atS at0)))))))))))) (by kernel_rfl) (by exact fun _ _ _ h => h) (by rfl) (by intro W hW; go_simp; try with_reducible rfl) ?_
                      simp only [Act.put, List.setIfInBounds_toArray, List.set_cons_zero, List.set_cons_succ]
                      refine up_take (by exact (atS (atS (atS (atS (atS (atS (atS (atS (atS (atS (atS (atS at0))))))))))))) (by kernel_rfl) (by exact fun _ _ _ h => h) (by rfl) (by intro W hW; go_simp; try with_reducible rfl) ?_
                      simp only [Act.put, List.setIfInBounds_toArray, List.set_cons_zero, List.set_cons_succ]
                      refine up_two (by exact (atS (atS (atS (atS (atS (atS (atS (atS at0))))))))) (by exact (atS (atS (atS (atS (atS (atS (atS (atS (atS (atS (atS (atS (atS at0)))))))))))))) (by kernel_rfl) (fun K hK => ?_) (fun K hK => ?_)
                      · go_simp
                        refine hK.out _ _ (Kept.refl _ _) ?_
                        clear hK K
                        refine up_one (by exact (atS (atS (atS (atS (atS (atS (atS (atS (atS (atS (atS (atS (atS at0)))))))))))))) (by kernel_rfl) (fun K hK => ?_)
                        go_simp
                        refine hK.out _ _ (Kept.refl _ _) ?_
                        clear hK K
                        refine up_take (by exact (atS (atS (atS (atS (atS (atS (atS (atS (atS (atS (atS (atS (atS (atS at0))))))))))))))) (by kernel_rfl) (by exact fun _ _ _ h => h) (by rfl) (by intro W hW; go_simp; try with_reducible rfl) ?_
                        simp only [Act.put, List.setIfInBounds_toArray, List.set_cons_zero, List.set_cons_succ]
                        refine up_take (by exact (atS (atS (atS (atS (atS (atS (atS (atS (atS (atS (atS (atS (atS (atS (atS at0)))))))))))))))) (by kernel_rfl) (by exact fun _ _ _ h => h) (by rfl) (by intro W hW; go_simp; try with_reducible rfl) ?_
                        simp only [Act.put, List.setIfInBounds_toArray, List.set_cons_zero, List.set_cons_succ]
                        refine up_take (by exact (atS (atS (atS (atS (atS (atS (atS (atS (atS (atS (atS (atS (atS (atS (atS (atS at0))))))))))))))))) (by kernel_rfl) (by exact fun _ _ _ h => h) (by rfl) (by intro W hW; go_simp; try with_reducible rfl) ?_
                        simp only [Act.put, List.setIfInBounds_toArray, List.set_cons_zero, List.set_cons_succ]
                        refine up_one (by exact (atS (atS (atS (atS (atS (atS (atS (atS (atS (atS (atS (atS (atS (atS (atS (atS (atS at0)))))))))))))))))) (by kernel_rfl) (fun K hK => ?_)
                        go_simp
                        refine hK.out _ _ (Kept.grown (grown_set _ bE _ _) (fun k _ => .inr (Nat.zero_le k))) ?_
                        clear hK K
                        refine up_done (by kernel_rfl) ?_
                        go_wp2_with fail
                        have HJ := Lib.hid (tok_join (tx := xt ++ et) (by have h := HTE.out; rw [HEE.out] at h; exact h) (by rw [HN2.out, HEE.out]) HTG.out HNE.out HBk.out)
                        rw [← HM.out] at HJ
                        go_roundw
                        case rel =>
                          refine ⟨k + 1, P ++ [⟨3, xn, xa, xv, xt ++ et⟩], .slice (some ⟨bE, 0, none⟩) N c, HKL.out, rfl, by go_num, ?_, TokRow.drew HJ.out.1, TokRow.drew HJ.out.2.1, HNE.out, drewb2 HJ.out.2.2, fun y hy => ?_, fun h => by omega, ?_⟩
                          · rw [HFT.out, ← HMP.out, HEE.out, List.map_append, List.map_append]; exact (addV_join (P := P.map TokE.tk) (x := TokE.tk ⟨3, xn, xa, xv, xt⟩) (t := TokE.tk ⟨3, en, ea, ev, et⟩) rfl HT0.out rfl).symm
                          · rcases List.mem_append.1 hy with hy | hy
                            · exact HTB.out y (by rw [HEE.out]; exact List.mem_append.2 (.inl hy))
                            · rw [List.mem_singleton.1 hy]; show (xt ++ et).length + _ ≤ _; rw [List.length_append]; exact HXB.out
                          · have h := HLEN.out; rw [HEE.out] at h; simp only [List.length_append, List.length_singleton] at h ⊢; omega
                        case measure => have := HKL.out; simp [intOf]; omega
                      · go_simp
                        refine hK.out _ _ (Kept.refl _ _) ?_
                        clear hK K
                        refine up_one (by exact (atS (atS (atS (atS (atS (atS (atS (atS at0))))))))) (by kernel_rfl) (fun K hK => ?_)
                        go_simp
                        refine hK.out _ _ (Kept.refl _ _) ?_
                        clear hK K
                        refine up_take (by exact (atS (atS (atS (atS (atS (atS (atS (atS (atS (atS (atS (atS (atS (atS at0))))))))))))))) (by kernel_rfl) (by exact fun _ _ _ h => h) (by rfl) (by intro W hW; go_simp; try with_reducible rfl) ?_
                        simp only [Act.put, List.setIfInBounds_toArray, List.set_cons_zero, List.set_cons_succ]
                        refine up_take (by exact (atS (atS (atS (atS (atS (atS (atS (atS (atS (atS (atS (atS (atS (atS (atS at0)))))))))))))))) (by kernel_rfl) (by exact fun _ _ _ h => h) (by rfl) (by intro W hW; go_simp; try with_reducible rfl) ?_
                        simp only [Act.put, List.setIfInBounds_toArray, List.set_cons_zero, List.set_cons_succ]
                        refine up_take (by exact (atS (atS (atS (atS (atS (atS (atS (atS (atS (atS (atS (atS (atS (atS (atS (atS at0))))))))))))))))) (by kernel_rfl) (by exact fun _ _ _ h => h) (by rfl) (by intro W hW; go_simp; try with_reducible rfl) ?_
                        simp only [Act.put, List.setIfInBounds_toArray, List.set_cons_zero, List.set_cons_succ]
                        refine up_one (by exact (atS (atS (atS (atS (atS (atS (atS (atS (atS (atS (atS (atS (atS (atS (atS (atS (atS at0)))))))))))))))))) (by kernel_rfl) (fun K hK => ?_)
                        go_simp
                        refine hK.out _ _ (Kept.grown (grown_set _ bE _ _) (fun k _ => .inr (Nat.zero_le k))) ?_
                        clear hK K
                        refine up_done (by kernel_rfl) ?_
                        go_wp2_with fail
                        have HJ := Lib.hid (tok_join (tx := xt ++ et) (by have h := HTE.out; rw [HEE.out] at h; exact h) (by rw [HN2.out, HEE.out]) HTG.out HNE.out HBk.out)
                        rw [← HM.out] at HJ
                        go_roundw
                        case rel =>
                          refine ⟨k + 1, P ++ [⟨3, xn, xa, xv, xt ++ et⟩], .slice (some ⟨bE, 0, none⟩) N c, HKL.out, rfl, by go_num, ?_, TokRow.drew HJ.out.1, TokRow.drew HJ.out.2.1, HNE.out, drewb2 HJ.out.2.2, fun y hy => ?_, fun h => by omega, ?_⟩
                          · rw [HFT.out, ← HMP.out, HEE.out, List.map_append, List.map_append]; exact (addV_join (P := P.map TokE.tk) (x := TokE.tk ⟨3, xn, xa, xv, xt⟩) (t := TokE.tk ⟨3, en, ea, ev, et⟩) rfl HT0.out rfl).symm
                          · rcases List.mem_append.1 hy with hy | hy
                            · exact HTB.out y (by rw [HEE.out]; exact List.mem_append.2 (.inl hy))
                            · rw [List.mem_singleton.1 hy]; show (xt ++ et).length + _ ≤ _; rw [List.length_append]; exact HXB.out
                          · have h := HLEN.out; rw [HEE.out] at h; simp only [List.length_append, List.length_singleton] at h ⊢; omega
                        case measure => have := HKL.out; simp [intOf]; omega
                    · have hxe : (xk == 3) = false := by simpa using hx3
                      have hxd : decide (xk = 3) = false := decide_eq_false hx3
                      have y0 : wr.cell? ⟨bG, k * 4, none⟩ = some (.int .i64 3) := YC.out.1
                      have y1 : wr.cell? ⟨bG, k * 4 + 1, none⟩ = some (.string (str en)) := YC.out.2.1
                      have y2 : wr.cell? ⟨bG, k * 4 + 2, none⟩ = some ev := YC.out.2.2.1
                      have y3 : wr.cell? ⟨bG, k * 4 + 3, none⟩ = some (.string (str et)) := YC.out.2.2.2
                      clear h0
                      go_wp2_with (at_builtin; go_must (refine wpList_append_w _ (by rfl) (.tmp 42) (.tmp 47) 23 (by rfl) w.heap.size 36 (.agg #[.int .i64 0, .string ⟨#[]⟩, .slice none 0 0, .string ⟨#[]⟩]) 4 64 Tryd.underlying23 Tryd.tokinfo (by rfl) (by decide) _ _ _ (by rfl) (by exact AR4.out) _ _ _ (by rfl) (by exact tok_one BF4.out) (by simp [Value.oneCell'] <;> exact HEV.out) (by have := HNB.out; unfold maxLen; omega) (by have := HNB.out; omega) (by exact Nat.le_trans HBk.out.size HB4.out.size) ?_); intro v9 w9 o9 g9 a9; have O9 := Lib.hid o9; have G9 := Lib.hid g9; have A9 := Lib.hid a9; clear o9 g9 a9 y0 y1 y2 y3; obtain ⟨A5, c5, hv9, z5⟩ := ownsRow_shape O9.out; clear z5; obtain ⟨N5, hN5⟩ : ∃ N5, N5 = N + 1 := ⟨_, rfl⟩; rw [← hN5] at hv9; have HN5 := Lib.hid hN5; clear hN5; subst hv9)
                      have HPU := Lib.hid (tok_push (w := w) HB4.out (HTE.out) HTG.out HEG.out HNE.out HBk.out (by have h := O9.out; rw [HN2.out] at h; exact h) ⟨G9.out.os, G9.out.tape, G9.out.output, G9.out.size, G9.out.block⟩ A9.out)
                      go_roundw
                      case rel =>
                        refine ⟨k + 1, E ++ [⟨3, en, ea, ev, et⟩], .slice A5 N5 c5, HKL.out, rfl, by go_num, ?_, HPU.out.1, HPU.out.2.1, HPU.out.2.2.1, HPU.out.2.2.2, fun y hy => ?_, fun h => by omega, ?_⟩
                        · rw [HFT.out, ← HMP.out, List.map_append]; rw [HEE.out, List.map_append]; exact (addV_behind (P := P.map TokE.tk) (x := TokE.tk ⟨xk, xn, xa, xv, xt⟩) (t := TokE.tk ⟨3, en, ea, ev, et⟩) HT0.out hx3).symm
                        · rcases List.mem_append.1 hy with hy | hy
                          · exact HTB.out y hy
                          · rw [List.mem_singleton.1 hy]; exact HETB.out
                        · rw [List.length_append, List.length_singleton]; have := HLEN.out; omega
                      case measure => have := HKL.out; simp [intOf]; omega
              · have h3e : (ek == 3) = false := by simpa using h3
                have h3d : decide (ek = 3) = false := decide_eq_false h3
                have y0 : wr.cell? ⟨bG, k * 4, none⟩ = some (.int .i64 ek) := YC.out.1
                have y1 : wr.cell? ⟨bG, k * 4 + 1, none⟩ = some (.string (str en)) := YC.out.2.1
                have y2 : wr.cell? ⟨bG, k * 4 + 2, none⟩ = some ev := YC.out.2.2.1
                have y3 : wr.cell? ⟨bG, k * 4 + 3, none⟩ = some (.string (str et)) := YC.out.2.2.2
                go_wp2_with (at_builtin; go_must (refine wpList_append_w _ (by rfl) (.tmp 42) (.tmp 47) 23 (by rfl) w.heap.size 36 (.agg #[.int .i64 0, .string ⟨#[]⟩, .slice none 0 0, .string ⟨#[]⟩]) 4 64 Tryd.underlying23 Tryd.tokinfo (by rfl) (by decide) _ _ _ (by rfl) (by exact AR4.out) _ _ _ (by rfl) (by exact tok_one BF4.out) (by simp [Value.oneCell'] <;> exact HEV.out) (by have := HNB.out; unfold maxLen; omega) (by have := HNB.out; omega) (by exact Nat.le_trans HBk.out.size HB4.out.size) ?_); intro v9 w9 o9 g9 a9; have O9 := Lib.hid o9; have G9 := Lib.hid g9; have A9 := Lib.hid a9; clear o9 g9 a9 y0 y1 y2 y3; obtain ⟨A5, c5, hv9, z5⟩ := ownsRow_shape O9.out; clear z5; obtain ⟨N5, hN5⟩ : ∃ N5, N5 = N + 1 := ⟨_, rfl⟩; rw [← hN5] at hv9; have HN5 := Lib.hid hN5; clear hN5; subst hv9)
                have HPU := Lib.hid (tok_push (w := w) HB4.out (HTE.out) HTG.out HEG.out HNE.out HBk.out (by have h := O9.out; rw [HN2.out] at h; exact h) ⟨G9.out.os, G9.out.tape, G9.out.output, G9.out.size, G9.out.block⟩ A9.out)
                go_roundw
                case rel =>
                  refine ⟨k + 1, E ++ [⟨ek, en, ea, ev, et⟩], .slice A5 N5 c5, HKL.out, rfl, by go_num, ?_, HPU.out.1, HPU.out.2.1, HPU.out.2.2.1, HPU.out.2.2.2, fun y hy => ?_, fun h => by omega, ?_⟩
                  · rw [HFT.out, ← HMP.out, List.map_append]; exact (addV_tag (t := TokE.tk ⟨ek, en, ea, ev, et⟩) h3).symm
                  · rcases List.mem_append.1 hy with hy | hy
                    · exact HTB.out y hy
                    · rw [List.mem_singleton.1 hy]; exact HETB.out
                  · rw [List.length_append, List.length_singleton]; have := HLEN.out; omega
                case measure => have := HKL.out; simp [intOf]; omega
            · have hkI : ¬ (k : Int) < (NG : Int) := by omega
              have HFE : Hid (E.map TokE.tk = ts.foldl addV (E0.map TokE.tk)) := Lib.hid (by rw [HMP.out, List.take_of_length_le (by have := HNG.out; omega), HGM.out])
              have HNF : Hid (N = (ts.foldl addV (E0.map TokE.tk)).length) := Lib.hid (by rw [← HFE.out, List.length_map]; exact HN2.out)
              by_cases h8 : (8192 : Int) < (N : Int)
              · have HX : Hid (tokV s = ([], s.length - l.length, 3)) := Lib.hid (by rw [← HTO.out, tokFV_long HN0.out HPV.out (by have := HNF.out; omega)])
                go_wp2_with fail
                go_ret3
                exact ⟨Value.slice none 0 0, ([] : List TokE), by rw [HX.out]; show _ = Ending.returned (.tuple #[_, .int .i64 ((s.length - l.length : Nat) : Int), _]); rw [Int.natCast_sub HLS.out]; rfl, HBk.out, by rw [HX.out]; rfl, row_nil _ _⟩
              · have HX : Hid (tokFV m s.length rest (E.map TokE.tk) = tokV s) := Lib.hid (by rw [HFE.out, ← HTO.out, tokFV_next HN0.out HPV.out (by have := HNF.out; omega)])
                have H8 : Hid (E.length ≤ 8192) := Lib.hid (by have := HN2.out; omega)
                go_wp2_with fail
                go_roundw
                case rel => exact ⟨m, rest, E, .slice A N c, HX.out, by have := HRL.out; have := HLN.out; omega, by have := HRL.out; have := HLS.out; omega, rfl, rfl, HTE.out, H8.out, HTB.out, HBk.out⟩
                case measure => rw [lenStr_str, lenStr_str]; exact HRL.out
theorem rtokens_any (s : List UInt8) (w : World) (hl : s.length ≤ 1000000000) : Calls Tryd.prog 9 #[.string (str s)] w (ToksAns w s) := by
  refine (rtoksV_any s w hl).mono ?_
  intro e w' h
  unfold ToksAns
  rw [← tok_eq]
  exact h
end Go.Proofs.YtelhdkidnhfnbaaDoor
