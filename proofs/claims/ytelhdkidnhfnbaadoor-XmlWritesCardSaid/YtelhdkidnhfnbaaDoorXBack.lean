/-
  What is written of tokens that may be is read as the same tokens, in plain words. No condition; no run.
-/
import Derived.Test.YtelhdkidnhfnbaaDoorXNoth
import Derived.Test.YtelhdkidnhfnbaaDoorXWrite
namespace Go.Proofs.YtelhdkidnhfnbaaDoor
open Go.RowKit

theorem name_parts {l : List UInt8} (h : nameX l = true) : ∃ b t, l = b :: t ∧ beginN (b.toNat : Int) = true ∧ ∀ x ∈ l, inN (x.toNat : Int) = true := by
  cases l with
  | nil => cases h
  | cons b t =>
    unfold nameX at h
    simp only [Bool.and_eq_true] at h
    exact ⟨b, t, rfl, h.1.2, List.all_eq_true.1 h.2⟩
theorem tw_stop (p : UInt8 → Bool) : ∀ (l : List UInt8) (c : UInt8) (r : List UInt8), (∀ x ∈ l, p x = true) → p c = false → (l ++ c :: r).takeWhile p = l ∧ (l ++ c :: r).dropWhile p = c :: r
  | [], c, r, _, hc => by
    have hc' : ¬ p c = true := by rw [hc]; exact Bool.false_ne_true
    rw [List.nil_append, List.takeWhile_cons_of_neg hc', List.dropWhile_cons_of_neg hc']
    exact ⟨rfl, rfl⟩
  | b :: t, c, r, h, hc => by
    have hb := h b List.mem_cons_self
    obtain ⟨h1, h2⟩ := tw_stop p t c r (fun x hx => h x (List.mem_cons_of_mem _ hx)) hc
    rw [List.cons_append, List.takeWhile_cons_of_pos hb, List.dropWhile_cons_of_pos hb, h1, h2]
    exact ⟨rfl, rfl⟩
theorem name_stop {n : List UInt8} (h : nameX n = true) (c : UInt8) (r : List UInt8) (hc : inN (c.toNat : Int) = false) : nameIn (n ++ c :: r) = n ∧ tailX (n ++ c :: r) = c :: r := by
  obtain ⟨_, _, _, _, ha⟩ := name_parts h
  exact tw_stop (fun b => inN (b.toNat : Int)) n c r ha hc
theorem dropB_stopc {c : UInt8} (r : List UInt8) (h : blkB (c.toNat : Int) = false) : dropB (c :: r) = c :: r := by
  unfold dropB
  exact List.dropWhile_cons_of_neg (by rw [h]; exact Bool.false_ne_true)
theorem begin_noblank {c : Int} (h : beginN c = true) : blkB c = false ∧ c ≠ 62 ∧ c ≠ 47 := by
  have h1 := (begin_iff c).1 h
  refine ⟨?_, by omega, by omega⟩
  unfold blkB
  have e1 : (c == 9) = false := by simpa using (by omega : ¬ c = 9)
  have e2 : (c == 10) = false := by simpa using (by omega : ¬ c = 10)
  have e3 : (c == 13) = false := by simpa using (by omega : ¬ c = 13)
  have e4 : (c == 32) = false := by simpa using (by omega : ¬ c = 32)
  rw [e1, e2, e3, e4]
  rfl
theorem esc_no (b : UInt8) : ∀ x ∈ escB b, x ≠ 60 ∧ x ≠ 34 := by
  intro x hx
  unfold escB at hx
  split at hx
  · rename_i h
    rcases (signE_iff _).1 h with h | h | h | h | h <;> (rw [h] at hx; revert x hx; decide)
  · rename_i h
    rw [List.mem_singleton.1 hx]
    have hn : ¬ ((b.toNat : Int) = 38 ∨ (b.toNat : Int) = 60 ∨ (b.toNat : Int) = 62 ∨ (b.toNat : Int) = 34 ∨ (b.toNat : Int) = 39) := fun h2 => h ((signE_iff _).2 h2)
    refine ⟨fun e => hn ?_, fun e => hn ?_⟩
    · subst e; exact .inr (.inl rfl)
    · subst e; exact .inr (.inr (.inr (.inl rfl)))
theorem write_no (l : List UInt8) : ∀ x ∈ writeR l, x ≠ 60 ∧ x ≠ 34 := fun x hx => by
  obtain ⟨b, _, hb⟩ := List.mem_flatMap.1 hx
  exact esc_no b x hb
/-- An attribute that is written is taken. -/
theorem attr_back {n v : List UInt8} (hn : nameX n = true) (R : List UInt8) : attrX (n ++ 61 :: 34 :: (writeR v ++ 34 :: R)) = ((n, v, true), R) := by
  obtain ⟨h1, h2⟩ := name_stop hn 61 (34 :: (writeR v ++ 34 :: R)) (by decide)
  have h3 : restIn (n ++ 61 :: 34 :: (writeR v ++ 34 :: R)) = 61 :: 34 :: (writeR v ++ 34 :: R) := by
    show dropB (tailX _) = _
    rw [h2]
    exact dropB_stopc _ (by decide)
  obtain ⟨h4, h5⟩ := tw_stop (fun b : UInt8 => b.toNat != 34 && b.toNat != 60) (writeR v) 34 R (fun x hx => by
    obtain ⟨a, b⟩ := write_no v x hx
    have e1 : (x.toNat != 60) = true := by rw [show (60 : Nat) = (60 : UInt8).toNat from rfl, ne_toNat]; simpa using a
    have e2 : (x.toNat != 34) = true := by rw [show (34 : Nat) = (34 : UInt8).toNat from rfl, ne_toNat]; simpa using b
    show (x.toNat != 34 && x.toNat != 60) = true
    rw [e1, e2]; rfl) (by decide)
  unfold attrX
  rw [h3, h1, if_pos (show hasB (61 :: 34 :: (writeR v ++ 34 :: R)) [61] = true from rfl)]
  have h6 : dropB ((61 :: 34 :: (writeR v ++ 34 :: R)).drop 1) = 34 :: (writeR v ++ 34 :: R) := dropB_stopc _ (by decide)
  rw [h6]
  have h7 : valX (34 :: (writeR v ++ 34 :: R)) = ((v, true), R) := by
    unfold valX
    rw [if_pos (show hasB (34 :: (writeR v ++ 34 :: R)) [34] = true from rfl)]
    unfold valQ
    show ((readR ((writeR v ++ 34 :: R).takeWhile _), hasB ((writeR v ++ 34 :: R).dropWhile _) _), skipD ((writeR v ++ 34 :: R).dropWhile _) _) = _
    rw [h4, h5, read_write]
    rfl
  rw [h7]
theorem opnF_back : ∀ (L L0 : AttrL) (R : List UInt8) (n : Nat), (∀ a ∈ L, nameX a.1 = true) → (attrsW L ++ 62 :: R).length < n → opnF n (attrsW L ++ 62 :: R) L0 = some (L0 ++ L, 62 :: R)
  | [], L0, R, n, _, hn => by
    obtain ⟨k, rfl⟩ : ∃ k, n = k + 1 := ⟨n - 1, by omega⟩
    show opnF (k + 1) (62 :: R) L0 = _
    rw [opnF_stop (.inl rfl), List.append_nil]
    rfl
  | a :: r, L0, R, n, h, hn => by
    obtain ⟨k, rfl⟩ : ∃ k, n = k + 1 := ⟨n - 1, by omega⟩
    have hna := h a List.mem_cons_self
    obtain ⟨b, t, hb, hbeg, _⟩ := name_parts hna
    have e1 : attrsW (a :: r) ++ 62 :: R = 32 :: (a.1 ++ 61 :: 34 :: (writeR a.2 ++ 34 :: (attrsW r ++ 62 :: R))) := by
      show attrW a ++ attrsW r ++ 62 :: R = _
      unfold attrW
      simp only [List.cons_append, List.append_assoc, List.nil_append]
    rw [e1] at hn ⊢
    obtain ⟨n1, n2, n3⟩ := begin_noblank hbeg
    have e2 : dropB (32 :: (a.1 ++ 61 :: 34 :: (writeR a.2 ++ 34 :: (attrsW r ++ 62 :: R)))) = a.1 ++ 61 :: 34 :: (writeR a.2 ++ 34 :: (attrsW r ++ 62 :: R)) := by
      show dropB (a.1 ++ _) = _
      rw [hb]
      exact dropB_stopc _ n1
    have e3 : atEndB (a.1 ++ 61 :: 34 :: (writeR a.2 ++ 34 :: (attrsW r ++ 62 :: R))) = false := by
      rw [hb]
      show ((b.toNat == 62) || (b.toNat == 47)) = false
      have q1 : (b.toNat == 62) = false := by simpa using (by omega : ¬ b.toNat = 62)
      have q2 : (b.toNat == 47) = false := by simpa using (by omega : ¬ b.toNat = 47)
      rw [q1, q2]; rfl
    have e4 := attr_back (v := a.2) hna (attrsW r ++ 62 :: R)
    rw [opnF_more rfl (by rw [e2]; exact e3) (by rw [e2, e4])]
    rw [e2, e4]
    simp only [List.length_cons, List.length_append] at hn
    rw [opnF_back r _ R k (fun x hx => h x (List.mem_cons_of_mem _ hx)) (by simp only [List.length_append, List.length_cons]; omega), List.append_assoc]
    rfl
theorem okN_names : ∀ (N H : List (List UInt8)), okN H N = true → ∀ n ∈ N, nameX n = true
  | [], _, _, n, hn => by cases hn
  | x :: r, H, h, n, hn => by
    rw [okN, Bool.and_eq_true, Bool.and_eq_true] at h
    rcases List.mem_cons.1 hn with rfl | hn
    · exact h.1.1
    · exact okN_names r _ h.2 n hn
theorem attrs_names {L : AttrL} (h : attrsOk L = true) : ∀ a ∈ L, nameX a.1 = true := fun a ha => by
  unfold attrsOk at h
  rw [Bool.and_eq_true] at h
  exact okN_names _ _ h.2 a.1 (List.mem_map_of_mem ha)
theorem attrsW_noname (L : AttrL) (R : List UInt8) : ∃ c r, attrsW L ++ 62 :: R = c :: r ∧ inN (c.toNat : Int) = false := by
  cases L with
  | nil => exact ⟨62, R, rfl, by decide⟩
  | cons a r => exact ⟨32, _, rfl, by decide⟩
/-- A tag that is written is taken. -/
theorem open_back {n : List UInt8} {L : AttrL} (hn : nameX n = true) (hL : attrsOk L = true) (R : List UInt8) : partX (60 :: (n ++ (attrsW L ++ 62 :: R))) = some ([⟨1, n, L, []⟩], R) := by
  obtain ⟨b, t, hb, hbeg, hin⟩ := name_parts hn
  obtain ⟨c, r, hc, hcn⟩ := attrsW_noname L R
  have h1 := name_stop hn c r hcn
  rw [← hc] at h1
  have h2 : opnX (n ++ (attrsW L ++ 62 :: R)) = some (L, false, R) := by
    unfold opnX
    rw [h1.1, h1.2, opnF_back L [] R _ (attrs_names hL) (by omega)]
    simp only
    have h3 : (hasB (skipD (62 :: R) [47]) [62] && mayTok 1 n L []) = true := by
      have e : skipD (62 :: R) [47] = 62 :: R := rfl
      rw [e]
      unfold mayTok
      rw [if_pos rfl, hn, hL]
      rfl
    rw [List.nil_append, if_pos h3]
    rfl
  obtain ⟨m1, m2, m3, m4, m5⟩ := no_mark (hin b (by rw [hb]; exact List.mem_cons_self)) (t ++ (attrsW L ++ 62 :: R))
  have e : 60 :: (n ++ (attrsW L ++ 62 :: R)) = 60 :: b :: (t ++ (attrsW L ++ 62 :: R)) := by rw [hb]; rfl
  rw [← e] at m1 m2 m3 m4 m5
  unfold partX
  rw [m1, m2, m3, m4, m5]
  simp only [Bool.false_eq_true, if_false]
  rw [if_pos (show hasB (60 :: (n ++ (attrsW L ++ 62 :: R))) [60] = true from rfl)]
  show (opnX (n ++ (attrsW L ++ 62 :: R))).map _ = _
  rw [h2]
  show some (openT (n ++ (attrsW L ++ 62 :: R)) L false, R) = _
  unfold openT
  rw [h1.1]
  rfl
theorem close_back {n : List UInt8} (hn : nameX n = true) (R : List UInt8) : partX (60 :: 47 :: (n ++ 62 :: R)) = some ([⟨2, n, [], []⟩], R) := by
  obtain ⟨h1, h2⟩ := name_stop hn 62 R (by decide)
  have h3 : restIn (n ++ 62 :: R) = 62 :: R := by
    show dropB (tailX _) = _
    rw [h2]
    exact dropB_stopc _ (by decide)
  unfold partX
  rw [if_neg (by show ¬ (false = true); exact Bool.false_ne_true), if_neg (by show ¬ (false = true); exact Bool.false_ne_true), if_neg (by show ¬ (false = true); exact Bool.false_ne_true), if_neg (by show ¬ (false = true); exact Bool.false_ne_true), if_pos (show hasB (60 :: 47 :: (n ++ 62 :: R)) mk5 = true from rfl)]
  show (if closX (n ++ 62 :: R) = true then some ([(⟨2, nameIn (n ++ 62 :: R), [], []⟩ : Tk)], (restIn (n ++ 62 :: R)).drop 1) else none) = _
  have h4 : closX (n ++ 62 :: R) = true := by
    unfold closX
    rw [h1, h3, hn]
    rfl
  rw [if_pos h4, h1, h3]
  rfl
theorem text_back {t : List UInt8} (h0 : t ≠ []) (R : List UInt8) (hR : R = [] ∨ ∃ r, R = 60 :: r) : partX (writeR t ++ R) = some ([⟨3, [], [], t⟩], R) := by
  have hne : writeR t ≠ [] := fun e => by
    have := (writeR_len t).1
    rw [e] at this
    exact h0 (List.length_eq_zero_iff.1 (by simpa using this))
  obtain ⟨x, y, hx⟩ : ∃ x y, writeR t = x :: y := by
    cases hw : writeR t with
    | nil => exact absurd hw hne
    | cons x y => exact ⟨x, y, rfl⟩
  have hx60 : x ≠ 60 := (write_no t x (by rw [hx]; exact List.mem_cons_self)).1
  have f0 : hasB (writeR t ++ R) [60] = false := by
    rw [hx]
    show ([x] == [60]) = false
    simpa using hx60
  have hall : ∀ b ∈ writeR t, (fun b : UInt8 => b.toNat != 60) b = true := fun b hb => by
    show (b.toNat != 60) = true
    rw [show (60 : Nat) = (60 : UInt8).toNat from rfl, ne_toNat]
    simpa using (write_no t b hb).1
  have h2 : (writeR t ++ R).takeWhile (fun b : UInt8 => b.toNat != 60) = writeR t ∧ (writeR t ++ R).dropWhile (fun b : UInt8 => b.toNat != 60) = R := by
    rcases hR with rfl | ⟨r, rfl⟩
    · rw [List.append_nil]
      exact tw_self _ _ hall
    · exact tw_stop _ _ 60 r hall (by decide)
  unfold partX
  rw [show hasB (writeR t ++ R) mk1 = false from has_first f0, show hasB (writeR t ++ R) mk2 = false from has_first f0, show hasB (writeR t ++ R) mk3 = false from has_first f0, show hasB (writeR t ++ R) mk4 = false from has_first f0, show hasB (writeR t ++ R) mk5 = false from has_first f0, f0]
  simp only [Bool.false_eq_true, if_false]
  rw [h2.1, h2.2, read_write]
/-! ### all tokens -/
def mayA : Int → List Tk → Bool
  | _, [] => true
  | was, t :: r => mayW was t && mayA t.kind r
def allW (T : List Tk) : List UInt8 := T.flatMap writeK
theorem wriF_yes : ∀ (T : List Tk) (was : Int) (out : List UInt8), mayA was T = true → wriF was out T = (out ++ allW T, 0)
  | [], _, out, _ => by rw [wriF]; show _ = (out ++ [], _); rw [List.append_nil]
  | t :: r, was, out, h => by
    rw [mayA, Bool.and_eq_true] at h
    rw [wriF, if_pos h.1, wriF_yes r _ _ h.2]
    show _ = (out ++ (writeK t ++ allW r), _)
    rw [List.append_assoc]
theorem wriF_no : ∀ (T : List Tk) (was : Int) (out : List UInt8), mayA was T = false → wriF was out T = ([], 1)
  | [], _, _, h => by cases h
  | t :: r, was, out, h => by
    rw [mayA] at h
    rw [wriF]
    by_cases h1 : mayW was t = true
    · rw [if_pos h1]
      rw [h1, Bool.true_and] at h
      exact wriF_no r _ _ h
    · rw [if_neg h1]
theorem may_kind {was : Int} {t : Tk} (h : mayW was t = true) : (t.kind = 1 ∧ nameX t.name = true ∧ attrsOk t.attrs = true ∧ t.text = []) ∨ (t.kind = 2 ∧ nameX t.name = true ∧ t.attrs = [] ∧ t.text = []) ∨ (t.kind = 3 ∧ t.name = [] ∧ t.attrs = [] ∧ t.text ≠ [] ∧ was ≠ 3) := by
  unfold mayW at h
  rw [Bool.and_eq_true] at h
  obtain ⟨h1, h2⟩ := h
  unfold mayTok at h1
  split at h1
  · rename_i hk
    simp only [Bool.and_eq_true, List.isEmpty_iff] at h1
    exact .inl ⟨hk, h1.1.1, h1.1.2, h1.2⟩
  · split at h1
    · rename_i hk
      simp only [Bool.and_eq_true, List.isEmpty_iff] at h1
      exact .inr (.inl ⟨hk, h1.1.1, h1.1.2, h1.2⟩)
    · split at h1
      · rename_i hk
        simp only [Bool.and_eq_true, List.isEmpty_iff, Bool.not_eq_true', List.isEmpty_eq_false_iff] at h1
        refine .inr (.inr ⟨hk, h1.1.1, h1.1.2, h1.2, fun e => ?_⟩)
        rw [hk, e] at h2
        cases h2
      · cases h1
theorem allW_begin : ∀ (T : List Tk), mayA 3 T = true → allW T = [] ∨ ∃ r, allW T = 60 :: r
  | [], _ => .inl rfl
  | t :: r, h => by
    rw [mayA, Bool.and_eq_true] at h
    right
    show ∃ q, writeK t ++ allW r = 60 :: q
    rcases may_kind h.1 with ⟨hk, _⟩ | ⟨hk, _⟩ | ⟨_, _, _, _, hw⟩
    · unfold writeK; rw [if_pos hk]; exact ⟨_, rfl⟩
    · unfold writeK; rw [if_neg (by rw [hk]; decide), if_pos hk]; exact ⟨_, rfl⟩
    · exact absurd rfl hw
theorem writeK_part {was : Int} {t : Tk} {r : List Tk} (h : mayW was t = true) (hr : mayA t.kind r = true) : partX (writeK t ++ allW r) = some ([t], allW r) ∧ writeK t ≠ [] := by
  obtain ⟨k, n, L, x⟩ := t
  rcases may_kind h with ⟨hk, h1, h2, h3⟩ | ⟨hk, h1, h2, h3⟩ | ⟨hk, h1, h2, h3, _⟩
  · simp only at hk h1 h2 h3
    subst hk h3
    have e : writeK ⟨1, n, L, []⟩ ++ allW r = 60 :: (n ++ (attrsW L ++ 62 :: allW r)) := by
      unfold writeK
      rw [if_pos rfl]
      simp only [List.cons_append, List.append_assoc, List.nil_append]
    rw [e]
    exact ⟨open_back h1 h2 _, by unfold writeK; rw [if_pos rfl]; simp⟩
  · simp only at hk h1 h2 h3
    subst hk h2 h3
    have e : writeK ⟨2, n, [], []⟩ ++ allW r = 60 :: 47 :: (n ++ 62 :: allW r) := by
      unfold writeK
      rw [if_neg (show ¬ (2 : Int) = 1 by decide), if_pos rfl]
      simp only [List.cons_append, List.append_assoc, List.nil_append]
    rw [e]
    exact ⟨close_back h1 _, by unfold writeK; rw [if_neg (show ¬ (2 : Int) = 1 by decide), if_pos rfl]; simp⟩
  · simp only at hk h1 h2 h3
    subst hk h1 h2
    have e : writeK ⟨3, [], [], x⟩ = writeR x := by
      unfold writeK
      rw [if_neg (show ¬ (3 : Int) = 1 by decide), if_neg (show ¬ (3 : Int) = 2 by decide), if_pos rfl]
    rw [e]
    refine ⟨text_back h3 _ (allW_begin r hr), fun e2 => h3 ?_⟩
    have := (writeR_len x).1
    rw [e2] at this
    exact List.length_eq_zero_iff.1 (by simpa using this)
theorem toks_back : ∀ (T : List Tk) (was : Int) (o : List Tk) (n N : Nat), mayA was T = true → (∀ x, o.getLast? = some x → x.kind = 3 → was = 3) → (allW T).length < n → o.length + T.length ≤ 8192 → tokFV n N (allW T) o = (o ++ T, N, 0)
  | [], was, o, n, N, _, _, hn, _ => by
    obtain ⟨k, rfl⟩ : ∃ k, n = k + 1 := ⟨n - 1, by omega⟩
    show tokFV (k + 1) N [] o = _
    rw [tokFV_end, List.append_nil]
  | t :: r, was, o, n, N, h, ho, hn, h8 => by
    rw [mayA, Bool.and_eq_true] at h
    obtain ⟨h1, h2⟩ := h
    obtain ⟨hp, hne⟩ := writeK_part h1 h2
    obtain ⟨k, rfl⟩ : ∃ k, n = k + 1 := ⟨n - 1, by omega⟩
    have e : allW (t :: r) = writeK t ++ allW r := rfl
    rw [e] at hn ⊢
    have hadd : addV o t = o ++ [t] := by
      rcases may_kind h1 with ⟨hk, _⟩ | ⟨hk, _⟩ | ⟨hk, _, _, h3, hw⟩
      · exact addV_tag (by rw [hk]; decide)
      · exact addV_tag (by rw [hk]; decide)
      · rcases List.eq_nil_or_concat o with rfl | ⟨P, x, rfl⟩
        · exact addV_first h3
        · rw [List.concat_eq_append]
          refine addV_behind h3 fun hx => hw (ho x ?_ hx)
          simp
    have hf : [t].foldl addV o = o ++ [t] := hadd
    rw [← part_eq] at hp
    rw [List.length_cons] at h8
    rw [tokFV_next (by simp [hne]) hp (by rw [hf, List.length_append, List.length_singleton]; omega), hf]
    have hl : 0 < (writeK t).length := List.length_pos_iff.2 hne
    rw [List.length_append] at hn
    rw [toks_back r t.kind (o ++ [t]) k N h2 (fun x hx h3 => by
      rw [List.getLast?_append] at hx
      injection hx with hx
      have hx' : t = x := hx
      rw [hx']; exact h3) (by omega) (by rw [List.length_append, List.length_singleton]; omega), List.append_assoc]
    rfl
theorem write_back {T : List Tk} (h : mayA 0 T = true) (hT : T.length ≤ 8192) (hl : (allW T).length ≤ 65536) : tokX (allW T) = (T, (allW T).length, 0) := by
  rw [← tok_eq]
  unfold tokV
  rw [if_neg (by omega)]
  exact toks_back T 0 [] _ _ h (fun x hx => by cases hx) (by omega) (by rw [List.length_nil]; omega)
end Go.Proofs.YtelhdkidnhfnbaaDoor
