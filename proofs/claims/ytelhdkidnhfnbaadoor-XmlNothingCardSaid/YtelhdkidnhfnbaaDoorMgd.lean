/-
  What a part leaves: less than there was; how long the text and the tokens become. No condition; no run.
-/
import Derived.Test.YtelhdkidnhfnbaaDoorXPartM
import Derived.Test.YtelhdkidnhfnbaaDoorXPart
namespace Go.Proofs.YtelhdkidnhfnbaaDoor

theorem cutW_len {l m : List UInt8} (h : (cutW l m).2.2 = true) : (cutW l m).1.length + (cutW l m).2.1.length + m.length = l.length := by
  rw [cutW_find] at h ⊢
  cases hf : findI m l with
  | none => rw [hf] at h; cases h
  | some n =>
    have := findI_le l n hf
    simp only [List.length_take, List.length_drop]
    omega
theorem betwX_len {l a b : List UInt8} {r : List UInt8 × List UInt8} (hl : hasB l a = true) (h : betwX l a b = some r) : r.1.length + r.2.length + (a.length + b.length) ≤ l.length := by
  unfold betwX at h
  by_cases hc : (cutW (l.drop a.length) b).2.2 = true
  · rw [if_pos hc] at h
    injection h with h
    subst h
    have h1 := cutW_len hc
    rw [List.length_drop] at h1
    have h2 : a.length ≤ l.length := by
      unfold hasB at hl
      have e : l.take a.length = a := by simpa using hl
      have := congrArg List.length e
      rw [List.length_take] at this
      omega
    simp only
    omega
  · rw [if_neg hc] at h; cases h
theorem hasB_len {l a : List UInt8} (hl : hasB l a = true) : a.length ≤ l.length := by
  unfold hasB at hl
  have e : l.take a.length = a := by simpa using hl
  have := congrArg List.length e
  rw [List.length_take] at this
  omega
theorem opnX_len {l rest : List UInt8} {L : AttrL} {c : Bool} (h : opnX l = some (L, c, rest)) : rest.length ≤ l.length := by
  have q : ∀ (n : Nat) (x : List UInt8) (M : AttrL) (R : AttrL × List UInt8), opnF n x M = some R → R.2.length ≤ x.length := by
    intro n
    induction n with
    | zero => intro x M R h; cases h
    | succ n ih =>
      intro x M R h
      rw [opnF] at h
      split at h
      · rename_i hc
        split at h
        · rename_i h3
          have h1 := ih _ _ _ h
          have h2 := (attrX_yes h3).1
          have h4 := dropB_len x
          omega
        · cases h
      · injection h with h
        rw [← h]
        exact dropB_len x
  unfold opnX at h
  cases ho : opnF ((tailX l).length + 1) (tailX l) [] with
  | none => rw [ho] at h; cases h
  | some R =>
    obtain ⟨M, d⟩ := R
    rw [ho] at h
    simp only at h
    split at h
    · injection h with h
      injection h with _ h
      injection h with _ h
      rw [← h, List.length_drop]
      have h1 := q _ _ _ _ ho
      have h2 := tailX_len l
      have h3 := skipD_len d [47]
      simp only at h1
      omega
    · cases h
theorem prt_len {l r : List UInt8} {ts : List Tk} (h : partX l = some (ts, r)) (h0 : l ≠ []) (E : List Tk) (text : List UInt8) :
    r.length < l.length ∧ (ts.foldl addK (E, text)).2.length + 4 * r.length ≤ text.length + 4 * l.length ∧ (ts.foldl addK (E, text)).1.length ≤ E.length + 3 := by
  have hpos : 0 < l.length := List.length_pos_iff.2 h0
  have htk : (textK text).length ≤ 1 := by unfold textK; split <;> simp
  unfold partX at h
  by_cases a1 : hasB l mk1 = true
  · rw [if_pos a1] at h
    cases hb : betwX l mk1 [45, 45, 62] with
    | none => rw [hb] at h; cases h
    | some q =>
      rw [hb] at h; injection h with h; injection h with h1 h2; subst h1 h2
      have := betwX_len a1 hb
      have e : mk1.length = 4 := rfl
      simp only [List.foldl_nil, List.length_cons, List.length_nil] at *
      omega
  rw [if_neg a1] at h
  by_cases a2 : hasB l mk2 = true
  · rw [if_pos a2] at h
    cases hb : betwX l mk2 [63, 62] with
    | none => rw [hb] at h; cases h
    | some q =>
      rw [hb] at h; injection h with h; injection h with h1 h2; subst h1 h2
      have := betwX_len a2 hb
      have e : mk2.length = 2 := rfl
      simp only [List.foldl_nil, List.length_cons, List.length_nil] at *
      omega
  rw [if_neg a2] at h
  by_cases a3 : hasB l mk3 = true
  · rw [if_pos a3] at h
    cases hb : betwX l mk3 [62] with
    | none => rw [hb] at h; cases h
    | some q =>
      rw [hb] at h
      simp only at h
      split at h
      · cases h
      · injection h with h; injection h with h1 h2; subst h1 h2
        have := betwX_len a3 hb
        have e : mk3.length = 9 := rfl
        simp only [List.foldl_nil, List.length_cons, List.length_nil] at *
        omega
  rw [if_neg a3] at h
  by_cases a4 : hasB l mk4 = true
  · rw [if_pos a4] at h
    cases hb : betwX l mk4 [93, 93, 62] with
    | none => rw [hb] at h; cases h
    | some q =>
      rw [hb] at h; injection h with h; injection h with h1 h2; subst h1 h2
      have := betwX_len a4 hb
      have e : mk4.length = 9 := rfl
      show _ ∧ (text ++ q.1).length + _ ≤ _ ∧ E.length ≤ _
      rw [List.length_append]
      simp only [List.length_cons, List.length_nil] at *
      omega
  rw [if_neg a4] at h
  have tag : ∀ (nm : List UInt8) (x : List UInt8), (nm.length ≤ x.length) → True := fun _ _ _ => trivial
  by_cases a5 : hasB l mk5 = true
  · rw [if_pos a5] at h
    split at h
    · rename_i hc
      injection h with h; injection h with h1 h2; subst h1 h2
      have := hasB_len a5
      have e : mk5.length = 2 := rfl
      have h3 := restIn_len (l.drop 2)
      rw [List.length_drop] at h3
      show _ ∧ ([] : List UInt8).length + _ ≤ _ ∧ (E ++ textK text ++ [_]).length ≤ _
      rw [List.length_drop, List.length_append, List.length_append, List.length_nil, List.length_singleton]
      omega
    · cases h
  rw [if_neg a5] at h
  by_cases a6 : hasB l [60] = true
  · rw [if_pos a6] at h
    cases hb : opnX (l.drop 1) with
    | none => rw [hb] at h; cases h
    | some q =>
      obtain ⟨L, c, rest⟩ := q
      rw [hb] at h; injection h with h; injection h with h1 h2; subst h1 h2
      have h3 := opnX_len hb
      rw [List.length_drop] at h3
      simp only
      have hf : (openT (l.drop 1) L c).foldl addK (E, text) = (E ++ textK text ++ openT (l.drop 1) L c, []) := by
        unfold openT
        cases c with
        | false => rfl
        | true =>
          show ((E ++ textK text ++ [_]) ++ textK [] ++ [_], []) = _
          rw [show textK [] = [] from rfl, List.append_nil, List.append_assoc (E ++ textK text)]
          rfl
      rw [hf]
      have h4 : (openT (l.drop 1) L c).length ≤ 2 := by unfold openT; cases c <;> simp
      simp only [List.length_append, List.length_nil]
      omega
  · rw [if_neg a6] at h
    injection h with h; injection h with h1 h2; subst h1 h2
    have h9 : (l.takeWhile fun b => b.toNat != 60).length + (l.dropWhile fun b => b.toNat != 60).length = l.length := by rw [← List.length_append, List.takeWhile_append_dropWhile]
    have h8 := readF_len (l.takeWhile fun b => b.toNat != 60).length (l.takeWhile fun b => b.toNat != 60) (Nat.le_refl _)
    have h7 : 0 < (l.takeWhile fun b => b.toNat != 60).length := by
      cases l with
      | nil => exact absurd rfl h0
      | cons b t =>
        have hb : (b.toNat != 60) = true := by
          have : b ≠ 60 := fun e => a6 (by subst e; unfold hasB; simp)
          rw [show (60 : Nat) = (60 : UInt8).toNat from rfl, ne_toNat]
          exact bne_iff_ne.2 this
        rw [List.takeWhile_cons_of_pos (p := fun b : UInt8 => b.toNat != 60) hb]
        simp
    show _ ∧ (text ++ readR _).length + _ ≤ _ ∧ E.length ≤ _
    rw [List.length_append]
    omega
theorem tokF_end {n N : Nat} {S : List Tk × List UInt8} : tokF (n + 1) N [] S = (allK S, N, 0) := by rw [tokF, if_pos rfl]
theorem tokF_bad {n N : Nat} {l : List UInt8} {S : List Tk × List UInt8} (h0 : l ≠ []) (h : partX l = none) : tokF (n + 1) N l S = ([], N - l.length, 80) := by rw [tokF, if_neg h0, h]
theorem tokF_long {n N : Nat} {l r : List UInt8} {ts : List Tk} {S : List Tk × List UInt8} (h0 : l ≠ []) (h : partX l = some (ts, r)) (h8 : 8192 < (allK (ts.foldl addK S)).length) : tokF (n + 1) N l S = ([], N - l.length, 3) := by
  rw [tokF, if_neg h0, h]
  exact if_pos h8
theorem tokF_next {n N : Nat} {l r : List UInt8} {ts : List Tk} {S : List Tk × List UInt8} (h0 : l ≠ []) (h : partX l = some (ts, r)) (h8 : ¬ 8192 < (allK (ts.foldl addK S)).length) : tokF (n + 1) N l S = tokF n N r (ts.foldl addK S) := by
  rw [tokF, if_neg h0, h]
  exact if_neg h8
end Go.Proofs.YtelhdkidnhfnbaaDoor

/-
  xml.Tokens: the tokens of a text, in memory. Conditions: the text's length is a length; the table of signs and the library's MaxLen lie in memory.
-/
namespace Go.Proofs.YtelhdkidnhfnbaaDoor
open Go.RowKit

/-- A row of tokens in memory, all of it new. -/
def TokRow (w : World) (base : Nat) (v : Value) (G : List TokE) : Prop := w.ownsRow base 36 4 v G.length (tcells G) ∧ ∀ e ∈ G, AttrRow w base e
def ToksAns (w : World) (s : List UInt8) (e : Ending) (w' : World) : Prop :=
  ∃ v G, e = .returned (.tuple #[v, .int .i64 ((tokX s).2.1 : Int), .int .i64 (tokX s).2.2]) ∧ Below w.heap.size w w' ∧ G.map TokE.tk = (tokX s).1 ∧ TokRow w' w.heap.size v G
def ToksRel (w : World) (s : List UInt8) (_u6 : Value) (W : World) : Prop :=
  ∃ (n : Nat) (l : List UInt8) (tk p bf : Value) (E : List TokE) (text : List UInt8), tokF n s.length l (E.map TokE.tk, text) = tokX s ∧ l.length < n ∧ l.length ≤ s.length ∧ RdrS W (w.heap.size + 1) w.heap.size l tk p bf E text ∧ Below w.heap.size w W ∧
    E.length ≤ 8192 ∧ text.length + 4 * l.length ≤ 4 * s.length
theorem below_off {w W W' : World} (hb : Below w.heap.size w W) (ho : Off (fun k => k = w.heap.size ∨ w.heap.size + 1 ≤ k) W W') : Below w.heap.size w W' :=
  ⟨ho.1.trans hb.os, ho.2.1.trans hb.tape, ho.2.2.1.trans hb.output, Nat.le_trans hb.size ho.2.2.2.1, fun k hk => (ho.2.2.2.2 k (Nat.lt_of_lt_of_le hk hb.size) (by rintro (e | e) <;> omega)).trans (hb.block k hk)⟩
theorem MaxAt.below {w w' : World} (h : MaxAt w) (hb : Below w.heap.size w w') : MaxAt w' := by
  obtain ⟨m, hm⟩ := h
  exact ⟨m, (hb.cell (p := ⟨1, 0, none⟩) (World.block_lt_of_cell? w _ hm)).trans hm⟩
theorem MaxAt.lt {w : World} (h : MaxAt w) : 1 < w.heap.size := by
  obtain ⟨m, hm⟩ := h
  exact World.block_lt_of_cell? w _ hm
theorem allK_len (E : List TokE) (text : List UInt8) : (allK (E.map TokE.tk, text)).length = (E ++ textTok text).length := by
  have h := congrArg List.length (textTok_tk E text)
  rw [List.length_map] at h
  rw [h]
  rfl
theorem row_nil (w : World) (base : Nat) : TokRow w base (.slice none 0 0) [] := ⟨World.ownsRow_nil _ _ _ _, fun e he => by cases he⟩
set_option maxHeartbeats 12800000 in
set_option maxRecDepth 100000 in
theorem tokens_any (s : List UInt8) (w : World) (hl : s.length ≤ 1000000000) (hS : Sig w) (hm : MaxAt w) : Calls Tryd.prog 8 #[.string (str s)] w (ToksAns w s) := by
  by_cases hlong : (65536 : Int) < (s.length : Int)
  · have HX : Hid (tokX s = ([], 0, 3)) := Lib.hid (by unfold tokX; rw [if_pos (by omega)])
    clear hS hm
    go_enter Tryd.func8, Tryd.ntmps8
    go_wp2_with fail
    go_ret3
    exact ⟨.slice none 0 0, [], by rw [HX.out]; rfl, Below.refl _ _, by rw [HX.out]; rfl, row_nil _ _⟩
  · have hsI : (s.length : Int) ≤ 65536 := by omega
    have HSI : Hid (s.length ≤ 65536) := Lib.hid (by omega)
    have HS := Lib.hid hS
    have HM := Lib.hid hm
    have HTX : Hid (tokX s = tokF (s.length + 1) s.length s ([], [])) := Lib.hid (by unfold tokX; rw [if_neg (by omega)])
    clear hS hm hl
    go_enter Tryd.func8, Tryd.ntmps8
    go_wp2_with fail
    go_loopw [6] (ToksRel w s) (fun _ W => restLen W w.heap.size)
    case atStart =>
      have hb : Below w.heap.size w (w.alloc (.cells #[.string (str s), .slice none 0 0, .pointer none, .slice none 0 0] 45)) := (Below.refl _ _).alloc (Nat.le_refl _) _
      exact ⟨s.length + 1, s, .slice none 0 0, .pointer none, .slice none 0 0, [], [], HTX.out.symm, Nat.lt_succ_self _, Nat.le_refl _, ⟨Blk.fresh _ _ _, .inl rfl, Own.nil _ _ _, World.ownsRow_nil _ _ _ _, (fun e he => (by cases he)), Nat.lt_succ_self _, (by simp)⟩, hb, Nat.zero_le _, by simp⟩
    case round =>
      obtain ⟨n, l, tk, p, bf, E, text, hto, hln, hls, hr, hb, hE, ht⟩ := hrel
      obtain ⟨m, rfl⟩ : ∃ m, n = m + 1 := ⟨n - 1, by omega⟩
      have c0 : wr.cell? ⟨w.heap.size, 0, none⟩ = some (.string (str l)) := hr.1.cell 0
      have HR := Lib.hid hr
      have HB := Lib.hid hb
      have HE := Lib.hid hE
      have HT := Lib.hid ht
      have HTO := Lib.hid hto
      have HLN := Lib.hid hln
      have HLS := Lib.hid hls
      have HME : Hid (restLen wr w.heap.size = l.length) := Lib.hid (restLen_at hr.1)
      clear hto hln hr hb hE ht
      by_cases h0 : l = []
      · subst h0
        have HX : Hid (tokX s = (allK (E.map TokE.tk, text), s.length, 0)) := Lib.hid (by rw [← HTO.out, tokF_end])
        clear hls
        go_wp2_with (go_at_call 20; refine (endText_any HR.out (by have := HE.out; omega)).mono ?_; rintro e we ⟨rfl, tk', p', bf', hr', ho', _⟩; have c1 : we.cell? ⟨w.heap.size, 1, none⟩ = some tk' := hr'.1.cell 1; have HRE := Lib.hid hr'; have HOE := Lib.hid ho'; clear hr' ho' c0)
        go_ret3
        refine ⟨tk', E ++ textTok text, by rw [HX.out]; rfl, below_off HB.out (HOE.out.wide fun k hk => wide_blk HR.out hk), by rw [HX.out, textTok_tk]; rfl, ?_, fun e he => ?_⟩
        · exact ownsRow_more HRE.out.2.2.2.1 (Nat.le_succ _)
        · exact ownsRow_more (HRE.out.2.2.2.2.1 e he) (Nat.le_succ _)
      · have e1 : (l == ([] : List UInt8)) = false := by simpa using h0
        have e2 : (([] : List UInt8) == l) = false := by cases l with
          | nil => exact absurd rfl h0
          | cons a b => rfl
        have HN0 := Lib.hid h0
        have hlI : (l.length : Int) ≤ (s.length : Int) := by omega
        have HPH : Hid (PartHyp wr (w.heap.size + 1) w.heap.size l tk p bf E text) := Lib.hid ⟨HR.out, by have := HE.out; omega, by have := HSI.out; have := HLS.out; omega, by have := HT.out; have := HSI.out; omega, HS.out.below HB.out, HM.out.below HB.out, HS.out.1, HM.out.lt⟩
        have kp := part_any HPH.out
        unfold PartAns at kp
        cases hp : partX l with
        | none =>
          rw [hp] at kp
          have HX : Hid (tokX s = ([], s.length - l.length, 80)) := Lib.hid (by rw [← HTO.out, tokF_bad HN0.out hp])
          have KP : Hid (Calls Tryd.prog 18 #[.pointer (some ⟨w.heap.size, 0, none⟩)] wr (fun e w' => e = .returned (.bool false) ∧ Off (fun k => k = w.heap.size ∨ w.heap.size + 1 ≤ k) wr w')) := Lib.hid (kp.mono fun e w' h => ⟨h.1, h.2.1⟩)
          clear kp hp h0 hls
          go_wp2_with (go_at_call 18; refine KP.out.mono ?_; rintro e w1 ⟨rfl, ho⟩; have HO := Lib.hid ho; clear ho)
          go_ret3
          exact ⟨.slice none 0 0, [], by rw [HX.out]; show _ = Ending.returned (.tuple #[_, .int .i64 ((s.length - l.length : Nat) : Int), _]); rw [Int.natCast_sub HLS.out]; rfl, below_off HB.out HO.out, by rw [HX.out]; rfl, row_nil _ _⟩
        | some q =>
          obtain ⟨ts, r⟩ := q
          have hpl := prt_len hp HN0.out (E.map TokE.tk) text
          rw [hp] at kp
          have KP : Hid (Calls Tryd.prog 18 #[.pointer (some ⟨w.heap.size, 0, none⟩)] wr (fun e w' => e = .returned (.bool true) ∧ Off (fun k => k = w.heap.size ∨ w.heap.size + 1 ≤ k) wr w' ∧ ∃ tk' p' bf' E' text', RdrS w' (w.heap.size + 1) w.heap.size r tk' p' bf' E' text' ∧ (E'.map TokE.tk, text') = ts.foldl addK (E.map TokE.tk, text))) := Lib.hid (kp.mono fun e w' h => ⟨h.1, h.2.1, h.2.2 ts r rfl⟩)
          have HP := Lib.hid hp
          have HPL := Lib.hid hpl
          clear kp hp h0 hls hpl
          by_cases h8 : (8192 : Int) < ((allK (ts.foldl addK (E.map TokE.tk, text))).length : Int)
          · have HX : Hid (tokX s = ([], s.length - l.length, 3)) := Lib.hid (by rw [← HTO.out, tokF_long HN0.out HP.out (by omega)])
            obtain ⟨M, hM⟩ : ∃ M : Nat, M = (allK (ts.foldl addK (E.map TokE.tk, text))).length := ⟨_, rfl⟩
            rw [← hM] at h8
            have HMM := Lib.hid hM
            clear hM
            go_wp2_with (first
              | (go_at_call 18; refine KP.out.mono ?_; rintro e w1 ⟨rfl, ho, tk', p', bf', E', text', hr', hf'⟩; have HO := Lib.hid ho; have HR1 := Lib.hid hr'; have HF1 := Lib.hid hf'; clear ho hr' hf')
              | (go_at_call 19; have kc := count_all HR1.out (by have h := HPL.out.2.2; rw [← HF1.out] at h; simp only [List.length_map] at h; have := HE.out; omega); rw [← allK_len, HF1.out, ← HMM.out] at kc; refine kc.mono ?_; rintro e w2 ⟨rfl, rfl⟩; clear kc))
            go_ret3
            exact ⟨.slice none 0 0, [], by rw [HX.out]; show _ = Ending.returned (.tuple #[_, .int .i64 ((s.length - l.length : Nat) : Int), _]); rw [Int.natCast_sub HLS.out]; rfl, below_off HB.out HO.out, by rw [HX.out]; rfl, row_nil _ _⟩
          · have HX : Hid (tokF m s.length r (ts.foldl addK (E.map TokE.tk, text)) = tokX s) := Lib.hid (by rw [← HTO.out, tokF_next HN0.out HP.out (by omega)])
            have H8 : Hid ((allK (ts.foldl addK (E.map TokE.tk, text))).length ≤ 8192) := Lib.hid (by omega)
            obtain ⟨M, hM⟩ : ∃ M : Nat, M = (allK (ts.foldl addK (E.map TokE.tk, text))).length := ⟨_, rfl⟩
            rw [← hM] at h8
            have HMM := Lib.hid hM
            clear hM
            go_wp2_with (first
              | (go_at_call 18; refine KP.out.mono ?_; rintro e w1 ⟨rfl, ho, tk', p', bf', E', text', hr', hf'⟩; have HO := Lib.hid ho; have HR1 := Lib.hid hr'; have HF1 := Lib.hid hf'; clear ho hr' hf')
              | (go_at_call 19; have kc := count_all HR1.out (by have h := HPL.out.2.2; rw [← HF1.out] at h; simp only [List.length_map] at h; have := HE.out; omega); rw [← allK_len, HF1.out, ← HMM.out] at kc; refine kc.mono ?_; rintro e w2 ⟨rfl, rfl⟩; clear kc))
            go_roundw
            case rel =>
              refine ⟨m, r, tk', p', bf', E', text', by rw [HF1.out]; exact HX.out, ?_, ?_, HR1.out, below_off HB.out HO.out, ?_, ?_⟩
              · have := HPL.out.1; have := HLN.out; omega
              · have := HPL.out.1; have := HLS.out; omega
              · have h := H8.out
                rw [← HF1.out, allK_len, List.length_append] at h
                omega
              · have h := HPL.out.2.1
                rw [← HF1.out] at h
                simp only at h
                have := HT.out
                omega
            case measure =>
              rw [restLen_at HR1.out.1, HME.out]
              exact HPL.out.1
end Go.Proofs.YtelhdkidnhfnbaaDoor
