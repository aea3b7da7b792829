/-
  Parts and tokens of a document in plain words: the reader's and the document's are the same. No condition; no run.
-/
import Derived.Test.YtelhdkidnhfnbaaDoorXPlain
namespace Go.Proofs.YtelhdkidnhfnbaaDoor

structure Tk where
  kind : Int
  name : List UInt8
  attrs : AttrL
  text : List UInt8
def TokE.tk (e : TokE) : Tk := ⟨e.kind, e.name, e.attrs, e.text⟩
def textK (t : List UInt8) : List Tk := if t = [] then [] else [⟨3, [], [], t⟩]
theorem textK_tok (t : List UInt8) : (textTok t).map TokE.tk = textK t := by unfold textTok textK; split <;> rfl
/-- Between two marks. -/
def betwX (l a b : List UInt8) : Option (List UInt8 × List UInt8) := if (cutW (l.drop a.length) b).2.2 = true then some ((cutW (l.drop a.length) b).1, (cutW (l.drop a.length) b).2.1) else none
def openT (l : List UInt8) (L : AttrL) (c : Bool) : List Tk := ⟨1, nameIn l, L, []⟩ :: if c = true then [⟨2, nameIn l, [], []⟩] else []
def mk1 : List UInt8 := [60, 33, 45, 45]
def mk2 : List UInt8 := [60, 63]
def mk3 : List UInt8 := [60, 33, 68, 79, 67, 84, 89, 80, 69]
def mk4 : List UInt8 := [60, 33, 91, 67, 68, 65, 84, 65, 91]
def mk5 : List UInt8 := [60, 47]
/-- The next part, as the reader takes it: its tokens, and what is left. -/
def partX (l : List UInt8) : Option (List Tk × List UInt8) :=
  if hasB l mk1 = true then (betwX l mk1 [45, 45, 62]).map fun r => ([], r.2)
  else if hasB l mk2 = true then (betwX l mk2 [63, 62]).map fun r => ([], r.2)
  else if hasB l mk3 = true then (match betwX l mk3 [62] with
    | none => none
    | some r => if r.1.contains 91 = true then none else some ([], r.2))
  else if hasB l mk4 = true then (betwX l mk4 [93, 93, 62]).map fun r => ([⟨3, [], [], r.1⟩], r.2)
  else if hasB l mk5 = true then (if closX (l.drop 2) = true then some ([⟨2, nameIn (l.drop 2), [], []⟩], (restIn (l.drop 2)).drop 1) else none)
  else if hasB l [60] = true then (opnX (l.drop 1)).map fun r => (openT (l.drop 1) r.1 r.2.1, r.2.2)
  else some ([⟨3, [], [], readR (l.takeWhile fun b => b.toNat != 60)⟩], l.dropWhile fun b => b.toNat != 60)
/-- The document's part. -/
def partV (l : List UInt8) : Option (List Tk × List UInt8) :=
  if hasB l [60] = false then (match findI [60] l with
    | none => some ([⟨3, [], [], readR l⟩], [])
    | some n => some ([⟨3, [], [], readR (l.take n)⟩], l.drop n))
  else if hasB l mk1 = true then (if (uptoV l mk1 [45, 45, 62]).2.2 = true then some ([], (uptoV l mk1 [45, 45, 62]).2.1) else none)
  else if hasB l mk2 = true then (if (uptoV l mk2 [63, 62]).2.2 = true then some ([], (uptoV l mk2 [63, 62]).2.1) else none)
  else if hasB l mk3 = true then (if (uptoV l mk3 [62]).2.2 = true ∧ (findI [91] (uptoV l mk3 [62]).1).isSome = false then some ([], (uptoV l mk3 [62]).2.1) else none)
  else if hasB l mk4 = true then (if (uptoV l mk4 [93, 93, 62]).2.2 = true then some ([⟨3, [], [], (uptoV l mk4 [93, 93, 62]).1⟩], (uptoV l mk4 [93, 93, 62]).2.1) else none)
  else if hasB l mk5 = true then (if (nameV (l.drop 2)).1 = [] ∨ hasB (dropB (nameV (l.drop 2)).2) [62] = false then none else some ([⟨2, (nameV (l.drop 2)).1, [], []⟩], (dropB (nameV (l.drop 2)).2).drop 1))
  else (openV (l.drop 1)).map fun r => (⟨1, (nameV (l.drop 1)).1, r.1, []⟩ :: (if r.2.1 = true then [⟨2, (nameV (l.drop 1)).1, [], []⟩] else []), r.2.2)
theorem has_first {l m : List UInt8} {c : UInt8} (h : hasB l [c] = false) : hasB l (c :: m) = false := by
  cases l with
  | nil => rfl
  | cons b t =>
    have hb : (b == c) = false := by
      cases q : b == c with
      | false => rfl
      | true =>
        have : b = c := by simpa using q
        subst this
        unfold hasB at h
        simp [List.take] at h
    unfold hasB
    show (b :: t.take m.length == c :: m) = false
    rw [List.cons_beq_cons, hb, Bool.false_and]
theorem betw_upto (l a b : List UInt8) : uptoV l a b = match betwX l a b with
    | some r => (r.1, r.2, true)
    | none => ([], [], false) := by
  rw [upto_cut]
  unfold betwX
  by_cases h : (cutW (l.drop a.length) b).2.2 = true
  · rw [if_pos h, if_pos h]
  · rw [if_neg h, if_neg h]
theorem findI_some1 (c : UInt8) (t : List UInt8) : (findI [c] t).isSome = t.contains c := by
  rw [findI_one]
  cases h : t.contains c with
  | true => rw [if_pos rfl]; rfl
  | false => rw [if_neg Bool.false_ne_true]; rfl
theorem ne_toNat (b c : UInt8) : (b.toNat != c.toNat) = (b != c) := by
  by_cases h : b = c
  · subst h; simp
  · have : b.toNat ≠ c.toNat := fun e => h (UInt8.toNat_inj.1 e)
    rw [bne_iff_ne.2 this, bne_iff_ne.2 h]
theorem tw_self (p : UInt8 → Bool) : ∀ l : List UInt8, (∀ b ∈ l, p b = true) → l.takeWhile p = l ∧ l.dropWhile p = []
  | [], _ => ⟨rfl, rfl⟩
  | b :: t, h => by
    have hb := h b List.mem_cons_self
    obtain ⟨h1, h2⟩ := tw_self p t fun x hx => h x (List.mem_cons_of_mem _ hx)
    rw [List.takeWhile_cons_of_pos hb, List.dropWhile_cons_of_pos hb, h1, h2]
    exact ⟨rfl, rfl⟩
theorem part_eq (l : List UInt8) : partV l = partX l := by
  unfold partV partX
  by_cases h0 : hasB l [60] = false
  · rw [if_pos h0, has_first h0 (m := [33, 45, 45]) (l := l) |> (fun h => show hasB l mk1 = false from h), show hasB l mk2 = false from has_first h0, show hasB l mk3 = false from has_first h0, show hasB l mk4 = false from has_first h0, show hasB l mk5 = false from has_first h0, h0]
    simp only [Bool.false_eq_true, if_false]
    have hf : (fun b : UInt8 => b.toNat != 60) = fun b : UInt8 => b != 60 := funext fun b => ne_toNat b 60
    rw [hf, findI_one]
    by_cases hc : l.contains 60 = true
    · rw [if_pos hc]
      simp only
      rw [tw_take_any, tw_drop_any]
    · rw [if_neg hc]
      simp only
      have ha : ∀ b ∈ l, (b != 60) = true := fun b hb => by
        have : ¬ (60 : UInt8) ∈ l := by simpa using hc
        have hne : b ≠ 60 := fun e => this (e ▸ hb)
        simpa using hne
      rw [(tw_self _ l ha).1, (tw_self _ l ha).2]
  · have h1 : hasB l [60] = true := by simpa using h0
    rw [if_neg h0]
    by_cases a1 : hasB l mk1 = true
    · rw [if_pos a1, if_pos a1, betw_upto]
      cases betwX l mk1 [45, 45, 62] <;> rfl
    rw [if_neg a1, if_neg a1]
    by_cases a2 : hasB l mk2 = true
    · rw [if_pos a2, if_pos a2, betw_upto]
      cases betwX l mk2 [63, 62] <;> rfl
    rw [if_neg a2, if_neg a2]
    by_cases a3 : hasB l mk3 = true
    · rw [if_pos a3, if_pos a3, betw_upto]
      cases betwX l mk3 [62] with
      | none => rfl
      | some r =>
        simp only [findI_some1, true_and]
        cases r.1.contains 91 <;> rfl
    rw [if_neg a3, if_neg a3]
    by_cases a4 : hasB l mk4 = true
    · rw [if_pos a4, if_pos a4, betw_upto]
      cases betwX l mk4 [93, 93, 62] <;> rfl
    rw [if_neg a4, if_neg a4]
    by_cases a5 : hasB l mk5 = true
    · rw [if_pos a5, if_pos a5, nameV_in]
      unfold closX
      cases hx : nameX (nameIn (l.drop 2)) with
      | false => simp
      | true =>
        have hne : nameIn (l.drop 2) ≠ [] := fun e => by rw [e] at hx; cases hx
        rw [if_pos rfl]
        simp only [hne, false_or, Bool.and_true]
        show (if hasB (restIn (l.drop 2)) [62] = false then none else _) = _
        cases hb : hasB (restIn (l.drop 2)) [62] with
        | false => rfl
        | true => rfl
    rw [if_neg a5, if_neg a5, if_pos h1, open_eq]
    cases ho : opnX (l.drop 1) with
    | none => rfl
    | some r =>
      have hx : nameX (nameIn (l.drop 1)) = true := by
        cases hx : nameX (nameIn (l.drop 1)) with
        | true => rfl
        | false =>
          rw [← open_eq] at ho
          unfold openV at ho
          rw [nameV_in, hx] at ho
          simp at ho
      rw [nameV_in, hx, if_pos rfl]
      rfl

/-! ### tokens -/
/-- The reader's state: the tokens that there are, the text that has not ended. -/
def addK (S : List Tk × List UInt8) (t : Tk) : List Tk × List UInt8 := if t.kind = 3 then (S.1, S.2 ++ t.text) else (S.1 ++ textK S.2 ++ [t], [])
def allK (S : List Tk × List UInt8) : List Tk := S.1 ++ textK S.2
def tokF : Nat → Nat → List UInt8 → List Tk × List UInt8 → List Tk × Nat × Int
  | 0, _, _, _ => ([], 0, 0)
  | n + 1, N, l, S => if l = [] then (allK S, N, 0) else match partX l with
    | none => ([], N - l.length, 80)
    | some (ts, r) => if 8192 < (allK (ts.foldl addK S)).length then ([], N - l.length, 3) else tokF n N r (ts.foldl addK S)
def tokX (s : List UInt8) : List Tk × Nat × Int := if 65536 < s.length then ([], 0, 3) else tokF (s.length + 1) s.length s ([], [])
/-- The document's way of adding a token. -/
def addV (o : List Tk) (t : Tk) : List Tk :=
  if t.kind = 3 ∧ t.text = [] then o
  else match o.getLast? with
    | none => o ++ [t]
    | some x => if t.kind = 3 ∧ x.kind = 3 then o.dropLast ++ [{ x with text := x.text ++ t.text }] else o ++ [t]
def tokFV : Nat → Nat → List UInt8 → List Tk → List Tk × Nat × Int
  | 0, _, _, _ => ([], 0, 0)
  | n + 1, N, l, o => if l = [] then (o, N, 0) else match partV l with
    | none => ([], N - l.length, 80)
    | some (ts, r) => if 8192 < (ts.foldl addV o).length then ([], N - l.length, 3) else tokFV n N r (ts.foldl addV o)
def tokV (s : List UInt8) : List Tk × Nat × Int := if 65536 < s.length then ([], 0, 3) else tokFV (s.length + 1) s.length s []
/-- The tokens that nothing can be added to do not end in a text; a text token is nothing but its text. -/
def NoText (E : List Tk) : Prop := ∀ x, E.getLast? = some x → x.kind ≠ 3
def PlainT (t : Tk) : Prop := t.kind = 3 → t.name = [] ∧ t.attrs = []
theorem add_eq {S : List Tk × List UInt8} {t : Tk} (hS : NoText S.1) (ht : PlainT t) : addV (allK S) t = allK (addK S t) ∧ NoText (addK S t).1 := by
  obtain ⟨E, text⟩ := S
  obtain ⟨k, nm, L, tx⟩ := t
  unfold addV addK allK
  by_cases h3 : k = 3
  · subst h3
    obtain ⟨rfl, rfl⟩ := ht rfl
    rw [if_pos rfl]
    refine ⟨?_, hS⟩
    by_cases h0 : tx = []
    · subst h0
      rw [if_pos ⟨rfl, rfl⟩, List.append_nil]
    · rw [if_neg (fun h => h0 h.2)]
      by_cases ht0 : text = []
      · subst ht0
        have e1 : textK [] = [] := rfl
        simp only [e1, List.append_nil, List.nil_append]
        have e2 : textK tx = [⟨3, [], [], tx⟩] := by unfold textK; rw [if_neg h0]
        rw [e2]
        cases hl : E.getLast? with
        | none => rfl
        | some x =>
          simp only
          rw [if_neg (fun h => hS x hl h.2)]
      · have e2 : textK text = [⟨3, [], [], text⟩] := by unfold textK; rw [if_neg ht0]
        have e3 : textK (text ++ tx) = [⟨3, [], [], text ++ tx⟩] := by unfold textK; rw [if_neg (by simp [ht0])]
        simp only [e2, e3, List.getLast?_append, List.getLast?_singleton, Option.some_or, List.dropLast_concat]
        rw [if_pos ⟨trivial, trivial⟩]
  · rw [if_neg h3]
    refine ⟨?_, fun x hx => ?_⟩
    · rw [if_neg (fun h => h3 h.1)]
      have e1 : textK [] = [] := rfl
      simp only [e1, List.append_nil]
      cases hl : (E ++ textK text).getLast? with
      | none => rfl
      | some x =>
        simp only
        rw [if_neg (fun h => h3 h.1)]
    · simp only [List.getLast?_append, List.getLast?_singleton, Option.some_or, Option.some.injEq] at hx
      rw [← hx]
      exact h3
theorem fold_eq : ∀ (ts : List Tk) (S : List Tk × List UInt8), NoText S.1 → (∀ t ∈ ts, PlainT t) → ts.foldl addV (allK S) = allK (ts.foldl addK S) ∧ NoText (ts.foldl addK S).1
  | [], S, hS, _ => ⟨rfl, hS⟩
  | t :: ts, S, hS, ht => by
    obtain ⟨h1, h2⟩ := add_eq hS (ht t List.mem_cons_self)
    rw [List.foldl_cons, List.foldl_cons, h1]
    exact fold_eq ts _ h2 fun x hx => ht x (List.mem_cons_of_mem _ hx)
theorem part_plain {l r : List UInt8} {ts : List Tk} (h : partX l = some (ts, r)) : ∀ t ∈ ts, PlainT t := by
  have c2 : ∀ (nm : List UInt8) (L : AttrL) (t : Tk), t = ⟨2, nm, L, []⟩ → PlainT t := fun nm L t e h3 => by rw [e] at h3; exact absurd h3 (by show ¬ (2 : Int) = 3; decide)
  have c1 : ∀ (nm : List UInt8) (L : AttrL) (t : Tk), t = ⟨1, nm, L, []⟩ → PlainT t := fun nm L t e h3 => by rw [e] at h3; exact absurd h3 (by show ¬ (1 : Int) = 3; decide)
  have c3 : ∀ (tx : List UInt8) (t : Tk), t = ⟨3, [], [], tx⟩ → PlainT t := fun tx t e _ => by rw [e]; exact ⟨rfl, rfl⟩
  unfold partX at h
  intro t ht
  by_cases a1 : hasB l mk1 = true
  · rw [if_pos a1] at h
    cases hb : betwX l mk1 [45, 45, 62] with
    | none => rw [hb] at h; cases h
    | some q => rw [hb] at h; injection h with h; injection h with h _; rw [← h] at ht; cases ht
  rw [if_neg a1] at h
  by_cases a2 : hasB l mk2 = true
  · rw [if_pos a2] at h
    cases hb : betwX l mk2 [63, 62] with
    | none => rw [hb] at h; cases h
    | some q => rw [hb] at h; injection h with h; injection h with h _; rw [← h] at ht; cases ht
  rw [if_neg a2] at h
  by_cases a3 : hasB l mk3 = true
  · rw [if_pos a3] at h
    cases hb : betwX l mk3 [62] with
    | none => rw [hb] at h; cases h
    | some q =>
      rw [hb] at h
      simp only at h
      split at h
      · cases h
      · injection h with h; injection h with h _; rw [← h] at ht; cases ht
  rw [if_neg a3] at h
  by_cases a4 : hasB l mk4 = true
  · rw [if_pos a4] at h
    cases hb : betwX l mk4 [93, 93, 62] with
    | none => rw [hb] at h; cases h
    | some q => rw [hb] at h; injection h with h; injection h with h _; rw [← h] at ht; exact c3 _ t (List.mem_singleton.1 ht)
  rw [if_neg a4] at h
  by_cases a5 : hasB l mk5 = true
  · rw [if_pos a5] at h
    split at h
    · injection h with h; injection h with h _; rw [← h] at ht; exact c2 _ _ t (List.mem_singleton.1 ht)
    · cases h
  rw [if_neg a5] at h
  by_cases a6 : hasB l [60] = true
  · rw [if_pos a6] at h
    cases hb : opnX (l.drop 1) with
    | none => rw [hb] at h; cases h
    | some q =>
      rw [hb] at h; injection h with h; injection h with h _; rw [← h] at ht
      unfold openT at ht
      rcases List.mem_cons.1 ht with e | ht
      · exact c1 _ _ t e
      · split at ht
        · exact c2 _ _ t (List.mem_singleton.1 ht)
        · cases ht
  · rw [if_neg a6] at h
    injection h with h; injection h with h _; rw [← h] at ht; exact c3 _ t (List.mem_singleton.1 ht)
theorem tokF_eq : ∀ (n N : Nat) (l : List UInt8) (S : List Tk × List UInt8), NoText S.1 → tokFV n N l (allK S) = tokF n N l S
  | 0, _, _, _, _ => rfl
  | n + 1, N, l, S, hS => by
    rw [tokFV, tokF, part_eq]
    by_cases h0 : l = []
    · rw [if_pos h0, if_pos h0]
    · rw [if_neg h0, if_neg h0]
      cases hp : partX l with
      | none => rfl
      | some r =>
        obtain ⟨ts, r⟩ := r
        obtain ⟨h1, h2⟩ := fold_eq ts S hS (part_plain hp)
        simp only
        rw [h1]
        split
        · rfl
        · exact tokF_eq n N r _ h2
theorem tok_eq (s : List UInt8) : tokV s = tokX s := by
  unfold tokV tokX
  split
  · rfl
  · exact tokF_eq _ _ _ ([], []) (fun x h => by cases h)
end Go.Proofs.YtelhdkidnhfnbaaDoor
