/-
  Attributes and opening tags: what the reader takes is what the document says. No condition; no run.
-/
import Derived.Test.YtelhdkidnhfnbaaDoorMgU
import Derived.Test.YtelhdkidnhfnbaaDoorXRefN
namespace Go.Proofs.YtelhdkidnhfnbaaDoor

theorem tw_take_any (p : UInt8 → Bool) (l : List UInt8) : l.take (l.takeWhile p).length = l.takeWhile p := (List.prefix_iff_eq_take.1 (List.takeWhile_prefix p)).symm
theorem tw_drop_any (p : UInt8 → Bool) (l : List UInt8) : l.drop (l.takeWhile p).length = l.dropWhile p := by
  have h : l.takeWhile p ++ l.dropWhile p = l := List.takeWhile_append_dropWhile
  conv => lhs; arg 2; rw [← h]
  rw [List.drop_left]
theorem tw_all (p : UInt8 → Bool) : ∀ l : List UInt8, (l.takeWhile p).all p = true
  | [] => rfl
  | b :: t => by
    cases hb : p b with
    | false => rw [List.takeWhile_cons_of_neg (by rw [hb]; decide)]; rfl
    | true => rw [List.takeWhile_cons_of_pos hb, List.all_cons, hb, tw_all p t]; rfl
theorem nameV_in (l : List UInt8) : nameV l = if nameX (nameIn l) = true then (nameIn l, tailX l) else ([], l) := by
  cases l with
  | nil => rfl
  | cons b t =>
    cases hb : beginN (b.toNat : Int) with
    | false =>
      rw [nameV_none (l := b :: t) (by simp) hb]
      have hx : nameX (nameIn (b :: t)) = false := by
        unfold nameIn
        cases hi : inN (b.toNat : Int) with
        | false => rw [List.takeWhile_cons_of_neg (by rw [hi]; decide)]; rfl
        | true => rw [List.takeWhile_cons_of_pos (by exact hi)]; exact nameX_nobegin (by simp) hb
      rw [hx]; rfl
    | true =>
      have hi : inN (b.toNat : Int) = true := by unfold inN; rw [hb]; rfl
      have e1 : nameIn (b :: t) = b :: t.takeWhile fun b => inN (b.toNat : Int) := List.takeWhile_cons_of_pos hi
      have e2 : tailX (b :: t) = t.dropWhile fun b => inN (b.toNat : Int) := List.dropWhile_cons_of_pos hi
      have hn : nameN (b :: t) = 1 + (t.takeWhile fun b => inN (b.toNat : Int)).length := rfl
      by_cases h64 : 64 < nameN (b :: t)
      · rw [nameV_long (l := b :: t) (by simp) h64, e1, nameX_long (by rw [List.length_cons]; omega)]; rfl
      · rw [nameV_some (l := b :: t) (by simp) hb h64, e1, nameX_yes (l := b :: t.takeWhile fun b => inN (b.toNat : Int)) (by simp) (by rw [List.length_cons]; omega) hb (by rw [List.all_cons, hi]; exact tw_all _ t), if_pos rfl, e2, hn, Nat.add_comm 1]
        rw [List.take_succ_cons, List.drop_succ_cons, tw_take_any, tw_drop_any]
theorem findI_one (c : UInt8) : ∀ t : List UInt8, findI [c] t = if t.contains c = true then some (t.takeWhile fun b => b != c).length else none
  | [] => rfl
  | x :: t => by
    unfold findI
    by_cases h : x = c
    · subst h
      rw [if_pos (by simp), if_pos (by simp), List.takeWhile_cons_of_neg (by simp)]; rfl
    · rw [if_neg (by simpa using h), findI_one c t, List.takeWhile_cons_of_pos (by simpa using h)]
      have hc : (x :: t).contains c = t.contains c := by
        rw [List.contains_cons]
        have : (c == x) = false := by simpa using fun e : c = x => h e.symm
        rw [this, Bool.false_or]
      rw [hc]
      split <;> rfl
/-- What stands between two signs c, with no < in it, and the rest behind. -/
def valW (c : UInt8) (t : List UInt8) : Option (List UInt8 × List UInt8) := match findI [c] t with
  | none => none
  | some e => if (findI [60] (t.take e)).isSome = true then none else some (t.take e, t.drop (e + 1))
theorem valW_eq (c : UInt8) (hc : c ≠ 60) : ∀ t : List UInt8, valW c t = if hasB (t.dropWhile fun b => b.toNat != c.toNat && b.toNat != 60) [c] = true then some (t.takeWhile fun b => b.toNat != c.toNat && b.toNat != 60, (t.dropWhile fun b => b.toNat != c.toNat && b.toNat != 60).drop 1) else none
  | [] => by unfold valW findI; rfl
  | x :: t => by
    have ih := valW_eq c hc t
    have hn : ∀ a b : UInt8, (a.toNat != b.toNat) = (a != b) := fun a b => by
      by_cases h : a = b
      · subst h; simp
      · have : a.toNat ≠ b.toNat := fun e => h (UInt8.toNat_inj.1 e)
        rw [bne_iff_ne.2 this, bne_iff_ne.2 h]
    by_cases h : x = c
    · subst h
      rw [List.dropWhile_cons_of_neg (by simp), List.takeWhile_cons_of_neg (by simp)]
      unfold valW
      rw [findI_one, if_pos (by simp), List.takeWhile_cons_of_neg (by simp)]
      have hh : hasB (x :: t) [x] = true := by unfold hasB; simp
      rw [if_pos hh]
      rfl
    · by_cases h6 : x = 60
      · subst h6
        rw [List.dropWhile_cons_of_neg (by simp)]
        have hh : hasB (60 :: t) [c] = false := by unfold hasB; simpa using h
        rw [if_neg (by rw [hh]; exact Bool.false_ne_true)]
        unfold valW
        rw [findI_one]
        by_cases hm : ((60 : UInt8) :: t).contains c = true
        · rw [if_pos hm, List.takeWhile_cons_of_pos (by simpa using h), List.length_cons]
          exact if_pos (by rw [List.take_succ_cons, findI_one, if_pos (by simp)]; rfl)
        · rw [if_neg hm]
      · have hp : (fun b : UInt8 => b.toNat != c.toNat && b.toNat != 60) x = true := by
          show (x.toNat != c.toNat && x.toNat != (60 : UInt8).toNat) = true
          rw [hn, hn]
          simp [h, h6]
        rw [List.dropWhile_cons_of_pos (p := fun b : UInt8 => b.toNat != c.toNat && b.toNat != 60) hp, List.takeWhile_cons_of_pos (p := fun b : UInt8 => b.toNat != c.toNat && b.toNat != 60) hp]
        have hf : findI [c] (x :: t) = (findI [c] t).map (· + 1) := by
          conv => lhs; unfold findI
          rw [if_neg (by simpa using h)]
        have e0 : valW c (x :: t) = (valW c t).map fun r => (x :: r.1, r.2) := by
          unfold valW
          rw [hf]
          cases findI [c] t with
          | none => rfl
          | some e =>
            simp only [Option.map_some]
            have h9 : findI [60] ((x :: t).take (e + 1)) = (findI [60] (t.take e)).map (· + 1) := by
              rw [List.take_succ_cons]
              conv => lhs; unfold findI
              rw [if_neg (by simpa using h6)]
            rw [h9, Option.isSome_map]
            by_cases hs : (findI [60] (t.take e)).isSome = true
            · rw [if_pos hs, if_pos hs]; rfl
            · rw [if_neg hs, if_neg hs]; rfl
        rw [e0, ih]
        split <;> rfl
/-- The document's attribute: its name, its value, and the rest. -/
def attrV (l : List UInt8) : Option ((List UInt8 × List UInt8) × List UInt8) :=
  if (nameV l).1 = [] ∨ hasB (dropB (nameV l).2) [61] = false then none
  else match dropB ((dropB (nameV l).2).drop 1) with
    | [] => none
    | b :: t => if b ≠ 34 ∧ b ≠ 39 then none else match valW b t with
      | none => none
      | some (s, r) => some (((nameV l).1, readR s), r)
theorem valX_eq (q : List UInt8) : (if (valX q).1.2 = true then some ((valX q).1.1, (valX q).2) else none) = match q with
    | [] => none
    | b :: t => if b ≠ 34 ∧ b ≠ 39 then none else match valW b t with
      | none => none
      | some (s, r) => some (readR s, r) := by
  have hq : ∀ (n : Nat) (b : UInt8) (t : List UInt8), n < 60 → b = UInt8.ofNat n → (if (valQ n (b :: t)).1.2 = true then some ((valQ n (b :: t)).1.1, (valQ n (b :: t)).2) else none) = match valW b t with
      | none => none
      | some (s, r) => some (readR s, r) := fun n b t hn hb => by
    have hbn : b.toNat = n := by rw [hb]; simp; omega
    have h60 : b ≠ 60 := fun e => by rw [e] at hbn; simp at hbn; omega
    have hw := valW_eq b h60 t
    rw [hbn] at hw
    rw [hw]
    unfold valQ
    simp only [List.drop_succ_cons, List.drop_zero]
    rw [← hb]
    by_cases hh : hasB (t.dropWhile fun b => b.toNat != n && b.toNat != 60) [b] = true
    · rw [if_pos hh, if_pos hh]
      simp only
      unfold skipD
      rw [if_pos hh]
      rfl
    · rw [if_neg hh, if_neg hh]
  unfold valX
  cases q with
  | nil => rfl
  | cons b t =>
    have hh : ∀ c : UInt8, hasB (b :: t) [c] = decide (b = c) := fun c => by unfold hasB; simp [List.take]; rfl
    rw [hh, hh]
    by_cases h1 : b = 34
    · subst h1
      have := hq 34 34 t (by omega) rfl
      simpa using this
    · by_cases h2 : b = 39
      · subst h2
        have := hq 39 39 t (by omega) rfl
        simpa using this
      · simp [h1, h2]
theorem attr_eq (l : List UInt8) : attrV l = if (nameX (nameIn l) && (attrX l).1.2.2) = true then some (((attrX l).1.1, (attrX l).1.2.1), (attrX l).2) else none := by
  unfold attrV
  rw [nameV_in]
  cases hx : nameX (nameIn l) with
  | false => simp
  | true =>
    have hne : nameIn l ≠ [] := fun e => by rw [e] at hx; cases hx
    rw [if_pos rfl]
    simp only [hne, false_or, Bool.true_and]
    unfold attrX
    show (if hasB (restIn l) [61] = false then none else _) = _
    by_cases h : hasB (restIn l) [61] = true
    · have hv := valX_eq (dropB ((restIn l).drop 1))
      rw [if_pos h, if_neg (by rw [h]; decide)]
      show (match dropB ((restIn l).drop 1) with
        | [] => none
        | b :: t => if b ≠ 34 ∧ b ≠ 39 then none else match valW b t with
          | none => none
          | some (s, r) => some ((nameIn l, readR s), r)) = _
      generalize dropB ((restIn l).drop 1) = q at hv ⊢
      have hv2 : (if (valX q).1.2 = true then some ((nameIn l, (valX q).1.1), (valX q).2) else none) = (if (valX q).1.2 = true then some ((valX q).1.1, (valX q).2) else none).map fun r => ((nameIn l, r.1), r.2) := by split <;> rfl
      rw [hv2, hv]
      cases q with
      | nil => rfl
      | cons b t =>
        simp only
        by_cases hb : b ≠ 34 ∧ b ≠ 39
        · rw [if_pos hb, if_pos hb]; rfl
        · rw [if_neg hb, if_neg hb]
          cases valW b t with
          | none => rfl
          | some r => rfl
    · rw [if_neg h, if_pos (by simpa using h)]; rfl
theorem okN_app : ∀ (H N : List (List UInt8)) (n : List UInt8), okN H (N ++ [n]) = (okN H N && (nameX n && !(H ++ N).contains n))
  | H, [], n => by
    rw [List.nil_append, okN, List.append_nil]
    show ((nameX n && !H.contains n) && okN (H ++ [n]) []) = (true && (nameX n && !H.contains n))
    rw [show okN (H ++ [n]) [] = true from rfl, Bool.and_true, Bool.true_and]
  | H, m :: N, n => by
    rw [List.cons_append, okN, okN, okN_app (H ++ [m]) N n, List.append_assoc, List.singleton_append]
    simp only [Bool.and_assoc]
theorem attrsOk_app (L : AttrL) (a : List UInt8 × List UInt8) : attrsOk (L ++ [a]) = (decide (L.length < 32) && (okN [] (L.map (·.1)) && (nameX a.1 && !(L.map (·.1)).contains a.1))) := by
  unfold attrsOk
  rw [List.map_append, List.length_append]
  show (decide (L.length + 1 ≤ 32) && okN [] (L.map (·.1) ++ [a.1])) = _
  rw [okN_app, List.nil_append]
  rfl
theorem attrsOk_pre {L : AttrL} {a : List UInt8 × List UInt8} (h : attrsOk (L ++ [a]) = true) : attrsOk L = true := by
  rw [attrsOk_app] at h
  simp only [Bool.and_eq_true, decide_eq_true_eq] at h
  unfold attrsOk
  rw [h.2.1, decide_eq_true (by omega)]; rfl
theorem opnF_pre : ∀ (n : Nat) (l : List UInt8) (L L' : AttrL) (d : List UInt8), opnF n l L = some (L', d) → attrsOk L' = true → attrsOk L = true
  | 0, l, L, L', d, h, _ => by cases h
  | n + 1, l, L, L', d, h, hk => by
    by_cases h1 : blk1 l = false ∨ atEndB (dropB l) = true
    · rw [opnF_stop h1] at h
      injection h with h
      injection h with h _
      rw [h]; exact hk
    · have hb : blk1 l = true := by cases hb : blk1 l with | true => rfl | false => exact absurd (.inl hb) h1
      have he : atEndB (dropB l) = false := by cases he : atEndB (dropB l) with | false => rfl | true => exact absurd (.inr he) h1
      cases h3 : (attrX (dropB l)).1.2.2 with
      | false => rw [opnF_bad hb he h3] at h; cases h
      | true =>
        rw [opnF_more hb he h3] at h
        exact attrsOk_pre (opnF_pre n _ _ _ _ h hk)
def opnE (o : Option (AttrL × List UInt8)) : Option (AttrL × Bool × List UInt8) := match o with
  | none => none
  | some (L, d) => if (hasB (skipD d [47]) [62] && attrsOk L) = true then some (L, hasB d [47], (skipD d [47]).drop 1) else none
theorem opnE_bad {n : Nat} {l : List UInt8} {L : AttrL} (h : attrsOk L = false) : opnE (opnF n l L) = none := by
  cases hf : opnF n l L with
  | none => rfl
  | some r =>
    obtain ⟨L', d⟩ := r
    have : attrsOk L' = false := by
      cases hk : attrsOk L' with
      | false => rfl
      | true => rw [opnF_pre n l L L' d hf hk] at h; cases h
    unfold opnE
    simp only
    rw [this, Bool.and_false, if_neg Bool.false_ne_true]
/-- The document's way through a tag that opens, behind its name. -/
def opnR : Nat → List UInt8 → AttrL → Option (AttrL × Bool × List UInt8)
  | 0, _, _ => none
  | n + 1, l, L =>
    if hasB (dropB l) [62] = true then some (L, false, (dropB l).drop 1)
    else if hasB (dropB l) [47, 62] = true then some (L, true, (dropB l).drop 2)
    else if (dropB l).length = l.length then none
    else match attrV (dropB l) with
      | none => none
      | some (a, r) => if 32 ≤ L.length ∨ (L.map (·.1)).contains a.1 = true then none else opnR n r (L ++ [a])
theorem blk1_len (l : List UInt8) : (dropB l).length = l.length ↔ blk1 l = false := by
  have h : (l.takeWhile fun b => blkB (b.toNat : Int)) ++ dropB l = l := List.takeWhile_append_dropWhile
  have h2 := congrArg List.length h
  rw [List.length_append] at h2
  unfold blk1
  cases ht : l.takeWhile fun b => blkB (b.toNat : Int) with
  | nil => rw [ht, List.length_nil] at h2; simp; omega
  | cons a b => rw [ht, List.length_cons] at h2; simp; omega
theorem attrV_end {d : List UInt8} (h : atEndB d = true) : attrV d = none := by
  rw [attr_eq]
  cases d with
  | nil => rfl
  | cons b t =>
    have hb : b.toNat = 62 ∨ b.toNat = 47 := by simpa [atEndB] using h
    have hin : inN (b.toNat : Int) = false := by rcases hb with hb | hb <;> rw [hb] <;> rfl
    have : nameIn (b :: t) = [] := List.takeWhile_cons_of_neg (by rw [hin]; decide)
    rw [this]
    rfl
theorem opn_eq : ∀ (n : Nat) (l : List UInt8) (L : AttrL), l.length < n → attrsOk L = true → opnE (opnF n l L) = opnR n l L
  | 0, l, L, h, _ => by omega
  | n + 1, l, L, h, hk => by
    have hh : ∀ (b c : UInt8) (t : List UInt8), hasB (b :: t) [c] = decide (b = c) := fun b c t => by unfold hasB; simp [List.take]; rfl
    rw [opnR]
    by_cases h1 : blk1 l = false ∨ atEndB (dropB l) = true
    · rw [opnF_stop h1]
      unfold opnE
      simp only
      rw [hk, Bool.and_true]
      cases hd : dropB l with
      | nil =>
        have e1 : hasB (skipD ([] : List UInt8) [47]) [62] = false := rfl
        have e2 : hasB ([] : List UInt8) [62] = false := rfl
        have e3 : hasB ([] : List UInt8) [47, 62] = false := rfl
        rw [e1, e2, e3, if_neg Bool.false_ne_true, if_neg Bool.false_ne_true, if_neg Bool.false_ne_true]
        rw [show attrV [] = none from attrV_end rfl]
        split <;> rfl
      | cons b t =>
        by_cases hb : b = 62
        · subst hb
          have e0 : hasB ((62 : UInt8) :: t) [47] = false := by rw [hh]; rfl
          have e1 : skipD ((62 : UInt8) :: t) [47] = 62 :: t := by unfold skipD; rw [e0]; rfl
          have e2 : hasB ((62 : UInt8) :: t) [62] = true := by rw [hh]; rfl
          rw [e1, e0, e2, if_pos rfl, if_pos rfl]
        · have e2 : hasB (b :: t) [62] = false := by rw [hh]; simpa using hb
          rw [e2, if_neg (c := false = true) Bool.false_ne_true]
          by_cases hb7 : b = 47
          · subst hb7
            have e0 : hasB ((47 : UInt8) :: t) [47] = true := by rw [hh]; rfl
            have e1 : skipD ((47 : UInt8) :: t) [47] = t := by unfold skipD; rw [e0]; rfl
            have e3 : hasB ((47 : UInt8) :: t) [47, 62] = hasB t [62] := by
              unfold hasB
              show ((47 : UInt8) :: t.take 1 == [47, 62]) = (t.take 1 == [62])
              rw [List.cons_beq_cons]
              simp
            rw [e1, e0, e3]
            by_cases ht : hasB t [62] = true
            · rw [if_pos ht, if_pos ht]
              rfl
            · rw [if_neg ht, if_neg ht]
              rw [show attrV ((47 : UInt8) :: t) = none from attrV_end rfl]
              split <;> rfl
          · have e0 : hasB (b :: t) [47] = false := by rw [hh]; simpa using hb7
            have e1 : skipD (b :: t) [47] = b :: t := by unfold skipD; rw [e0]; rfl
            have e3 : hasB (b :: t) [47, 62] = false := by
              unfold hasB
              show (b :: t.take 1 == [47, 62]) = false
              rw [List.cons_beq_cons]
              have : (b == 47) = false := by simpa using hb7
              rw [this, Bool.false_and]
            have hne : atEndB (b :: t) = false := by
              have x1 : b.toNat ≠ 62 := fun e => hb (UInt8.toNat_inj.1 e)
              have x2 : b.toNat ≠ 47 := fun e => hb7 (UInt8.toNat_inj.1 e)
              simp [atEndB, x1, x2]
            rw [e1, e2, e3, if_neg Bool.false_ne_true, if_neg Bool.false_ne_true, if_pos]
            rw [← hd]
            refine (blk1_len l).2 ?_
            rcases h1 with h1 | h1
            · exact h1
            · rw [hd, hne] at h1; cases h1
    · have hb : blk1 l = true := by cases hb : blk1 l with | true => rfl | false => exact absurd (.inl hb) h1
      have he : atEndB (dropB l) = false := by cases he : atEndB (dropB l) with | false => rfl | true => exact absurd (.inr he) h1
      have hlen : ¬ (dropB l).length = l.length := fun e => by rw [(blk1_len l).1 e] at hb; cases hb
      have e2 : hasB (dropB l) [62] = false ∧ hasB (dropB l) [47, 62] = false := by
        cases hd : dropB l with
        | nil => exact ⟨rfl, rfl⟩
        | cons b t =>
          rw [hd] at he
          have x1 : b ≠ 62 := fun e => by subst e; cases he
          have x2 : b ≠ 47 := fun e => by subst e; cases he
          refine ⟨by rw [hh]; simpa using x1, ?_⟩
          unfold hasB
          show (b :: t.take 1 == [47, 62]) = false
          rw [List.cons_beq_cons]
          have : (b == 47) = false := by simpa using x2
          rw [this, Bool.false_and]
      rw [e2.1, e2.2, if_neg Bool.false_ne_true, if_neg Bool.false_ne_true, if_neg hlen, attr_eq]
      cases h3 : (attrX (dropB l)).1.2.2 with
      | false => rw [opnF_bad hb he h3, Bool.and_false, if_neg Bool.false_ne_true]; rfl
      | true =>
        rw [opnF_more hb he h3, Bool.and_true]
        have hy := attrX_yes h3
        cases hx : nameX (nameIn (dropB l)) with
        | false =>
          rw [if_neg Bool.false_ne_true]
          refine opnE_bad ?_
          rw [attrsOk_app]
          show (_ && (_ && (nameX (attrX (dropB l)).1.1 && _))) = false
          rw [hy.2, hx]
          simp
        | true =>
          rw [if_pos rfl]
          simp only
          have hok : attrsOk (L ++ [((attrX (dropB l)).1.1, (attrX (dropB l)).1.2.1)]) = (decide (L.length < 32) && !(L.map (·.1)).contains (attrX (dropB l)).1.1) := by
            rw [attrsOk_app]
            show (_ && (_ && (nameX (attrX (dropB l)).1.1 && _))) = _
            rw [hy.2, hx]
            unfold attrsOk at hk
            rw [Bool.and_eq_true] at hk
            rw [hk.2]
            simp
          by_cases hc : 32 ≤ L.length ∨ (L.map (·.1)).contains (attrX (dropB l)).1.1 = true
          · rw [if_pos hc]
            refine opnE_bad ?_
            rw [hok]
            rcases hc with hc | hc
            · rw [decide_eq_false (by omega)]; rfl
            · rw [hc]; simp
          · rw [if_neg hc]
            have hc2 : (L.map (·.1)).contains (attrX (dropB l)).1.1 = false := by
              cases q : (L.map (·.1)).contains (attrX (dropB l)).1.1 with
              | false => rfl
              | true => exact absurd (.inr q) hc
            refine opn_eq n _ _ ?_ ?_
            · have := hy.1
              have := dropB_len l
              omega
            · rw [hok, hc2, decide_eq_true (by omega)]; rfl
/-- The document's tag that opens, behind its <. -/
def openV (l : List UInt8) : Option (AttrL × Bool × List UInt8) := if (nameV l).1 = [] then none else opnR ((nameV l).2.length + 1) (nameV l).2 []
theorem open_eq (l : List UInt8) : openV l = opnX l := by
  unfold openV opnX
  rw [nameV_in]
  cases hx : nameX (nameIn l) with
  | false =>
    simp only [Bool.false_eq_true, if_false, if_true]
    cases opnF ((tailX l).length + 1) (tailX l) [] with
    | none => rfl
    | some r =>
      obtain ⟨L, d⟩ := r
      simp only
      have : mayTok 1 (nameIn l) L [] = false := by unfold mayTok; rw [if_pos rfl, hx]; rfl
      rw [this, Bool.and_false, if_neg Bool.false_ne_true]
  | true =>
    have hne : nameIn l ≠ [] := fun e => by rw [e] at hx; cases hx
    rw [if_pos rfl]
    simp only
    rw [if_neg hne, ← opn_eq _ _ _ (Nat.lt_succ_self _) rfl]
    cases opnF ((tailX l).length + 1) (tailX l) [] with
    | none => rfl
    | some r =>
      obtain ⟨L, d⟩ := r
      unfold opnE
      simp only
      have : mayTok 1 (nameIn l) L [] = attrsOk L := by unfold mayTok; rw [if_pos rfl, hx]; simp
      rw [this]
end Go.Proofs.YtelhdkidnhfnbaaDoor
