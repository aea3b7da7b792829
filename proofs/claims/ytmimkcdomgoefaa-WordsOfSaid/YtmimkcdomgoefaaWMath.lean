/-
  Words of texts with a blank between, in plain words; words are words. No condition.
-/
import Derived.Test.YtmimkcdomgoefaaWLives
namespace Go.Proofs.Ytmimkcdomgoefaa
open Go.RowKit
open Go.Lib (decodeL decodeN encodeRune)

set_option maxRecDepth 100000 in
set_option maxHeartbeats 4000000 in
theorem decN_app (n n' c0 c1 c2 c3 d0 d1 d2 d3 : Nat) (hn : 1 ≤ n) (hn' : n < n') (e0 : d0 = c0) (e1 : 1 < n → d1 = c1) (e2 : 2 < n → d2 = c2) (e3 : 3 < n → d3 = c3) (z1 : n = 1 → d1 = 32) (z2 : n = 2 → d2 = 32) (z3 : n = 3 → d3 = 32) :
    decodeN n' d0 d1 d2 d3 = decodeN n c0 c1 c2 c3 := by
  subst e0
  by_cases h1 : n = 1
  · have := z1 h1
    unfold decodeN
    repeat' split
    all_goals first | rfl | (exfalso; omega)
  · have := e1 (by omega)
    by_cases h2 : n = 2
    · have := z2 h2
      unfold decodeN
      repeat' split
      all_goals first | rfl | (exfalso; omega) | (apply Prod.ext <;> simp only <;> omega)
    · have := e2 (by omega)
      by_cases h3 : n = 3
      · have := z3 h3
        unfold decodeN
        repeat' split
        all_goals first | rfl | (exfalso; omega) | (apply Prod.ext <;> simp only <;> omega)
      · have := e3 (by omega)
        unfold decodeN
        repeat' split
        all_goals first | rfl | (exfalso; omega) | (apply Prod.ext <;> simp only <;> omega)
theorem getD_app_lt (l b : List UInt8) (i : Nat) (h : i < l.length) : ((l ++ 32 :: b).getD i 0).toNat = (l.getD i 0).toNat := by
  rw [List.getD_eq_getElem?_getD, List.getD_eq_getElem?_getD, List.getElem?_append_left h]
theorem getD_app_eq (l b : List UInt8) (i : Nat) (h : l.length = i) : ((l ++ 32 :: b).getD i 0).toNat = 32 := by
  subst h
  rw [List.getD_eq_getElem?_getD, List.getElem?_append_right (Nat.le_refl _), Nat.sub_self]
  rfl
theorem dec_app {l : List UInt8} (h : l ≠ []) (b : List UInt8) : decodeL (l ++ 32 :: b) = decodeL l := by
  have hl : 0 < l.length := List.length_pos_iff.2 h
  rw [Lib.decodeL_N, Lib.decodeL_N]
  exact decN_app _ _ _ _ _ _ _ _ _ _ hl (by rw [List.length_append, List.length_cons]; omega) (getD_app_lt l b 0 hl) (getD_app_lt l b 1) (getD_app_lt l b 2) (getD_app_lt l b 3) (fun e => getD_app_eq l b 1 e) (fun e => getD_app_eq l b 2 e) (fun e => getD_app_eq l b 3 e)
theorem dec_blank (b : List UInt8) : decodeL (32 :: b) = (32, 1) := Lib.decodeL_ascii 32 b (by decide)
theorem runes_blank (b : List UInt8) : runes (32 :: b) = 32 :: runes b := by
  rw [runes_step (by simp), dec_blank]
  rfl
theorem runes_app : ∀ (a b : List UInt8), runes (a ++ 32 :: b) = runes a ++ 32 :: runes b := by
  intro a b
  revert a
  refine text_ind ?_ ?_
  · exact runes_blank b
  · intro l hne ih
    have hw := dec_bd hne
    rw [runes_step (show l ++ 32 :: b ≠ [] by simp), dec_app hne, runes_step hne, List.cons_append]
    congr 1
    rw [← ih, List.drop_append_of_le_length hw.2]

/-! ### steps with words ahead -/
theorem wStep_pre (P : List (List UInt8)) (o : List (List UInt8) × List Int) (c : Int) : wStep (P ++ o.1, o.2) c = (P ++ (wStep o c).1, (wStep o c).2) := by
  unfold wStep
  dsimp only
  repeat' split
  all_goals first | rfl | rw [List.append_assoc]
theorem wFold_pre (P : List (List UInt8)) : ∀ (rs : List Int) (o : List (List UInt8) × List Int), rs.foldl wStep (P ++ o.1, o.2) = (P ++ (rs.foldl wStep o).1, (rs.foldl wStep o).2)
  | [], _ => rfl
  | c :: rs, o => by
    rw [List.foldl_cons, List.foldl_cons, wStep_pre]
    exact wFold_pre P rs (wStep o c)
theorem wStep_blank (o : List (List UInt8) × List Int) : (wStep o 32).2 = [] := by
  have h : letB 32 = false := by decide
  by_cases h0 : o.2.length = 0
  · rw [step_idle h h0]
    exact List.length_eq_zero_iff.1 h0
  · rw [step_tell h h0]
theorem wordsR_app (xs ys : List Int) : wordsR (xs ++ 32 :: ys) = wordsR xs ++ wordsR ys := by
  have e : wFold (xs ++ 32 :: ys) = (wordsR xs ++ (wFold ys).1, (wFold ys).2) := by
    have h1 : wStep (wFold xs) 32 = (wordsR xs ++ ([] : List (List UInt8)), []) := by
      have h2 := wStep_blank (wFold xs)
      rw [List.append_nil]
      unfold wordsR
      rw [← h2]
    unfold wFold at h1 ⊢
    rw [List.foldl_append, List.foldl_cons, h1]
    exact wFold_pre (wordsR xs) ys ([], [])
  unfold wordsR at *
  rw [e, wStep_pre _ (wFold ys)]
theorem wordsS_app (a b : List UInt8) : wordsS (a ++ 32 :: b) = wordsS a ++ wordsS b := by
  unfold wordsS
  rw [runes_app, List.map_append, List.map_cons]
  exact wordsR_app _ _

/-! ### words are words -/
def GoodW (word : List Int) : Prop := word.length ≤ 32 ∧ ∀ c ∈ word, letB c = true ∧ foldR c = c ∧ okR c
def GoodT (x : List UInt8) : Prop := ∃ word, GoodW word ∧ word ≠ [] ∧ x = put word
theorem good_step {o : List (List UInt8) × List Int} {c : Int} (h1 : ∀ x ∈ o.1, GoodT x) (h2 : GoodW o.2) (hf : foldR c = c) (hk : okR c) : (∀ x ∈ (wStep o c).1, GoodT x) ∧ GoodW (wStep o c).2 := by
  cases hl : letB c with
  | true =>
    by_cases h32 : o.2.length < 32
    · rw [step_add hl h32]
      refine ⟨h1, by simp; omega, fun x hx => ?_⟩
      rcases List.mem_append.1 hx with hx | hx
      · exact h2.2 x hx
      · rw [List.mem_singleton] at hx
        subst hx
        exact ⟨hl, hf, hk⟩
    · rw [step_full hl h32]
      exact ⟨h1, h2⟩
  | false =>
    by_cases h0 : o.2.length = 0
    · rw [step_idle hl h0]
      exact ⟨h1, h2⟩
    · rw [step_tell hl h0]
      refine ⟨fun x hx => ?_, by simp, fun x hx => by cases hx⟩
      rcases List.mem_append.1 hx with hx | hx
      · exact h1 x hx
      · rw [List.mem_singleton] at hx
        exact ⟨o.2, h2, fun e => h0 (by rw [e]; rfl), hx⟩
theorem good_all : ∀ (rs : List Int) (o : List (List UInt8) × List Int), (∀ x ∈ o.1, GoodT x) → GoodW o.2 → (∀ c ∈ rs, foldR c = c ∧ okR c) → (∀ x ∈ (rs.foldl wStep o).1, GoodT x) ∧ GoodW (rs.foldl wStep o).2
  | [], _, h1, h2, _ => ⟨h1, h2⟩
  | c :: rs, o, h1, h2, hr => by
    have hc := hr c (by simp)
    have h3 := good_step h1 h2 hc.1 hc.2
    exact good_all rs (wStep o c) h3.1 h3.2 fun x hx => hr x (by simp [hx])
theorem words_good (l : List UInt8) : ∀ x ∈ wordsS l, GoodT x := by
  have h := good_all ((runes l).map foldR) ([], []) (fun x hx => by cases hx) ⟨by simp, fun c hc => by cases hc⟩ (fun c hc => by
    obtain ⟨y, hy, rfl⟩ := List.mem_map.1 hc
    exact ⟨foldR_twice y, foldR_ok (runes_ok l y hy)⟩)
  exact (good_step (o := wFold ((runes l).map foldR)) (c := 32) h.1 h.2 (by decide) (by unfold okR; omega)).1
theorem fold_letters : ∀ (word pre : List Int), pre.length + word.length ≤ 32 → (∀ c ∈ word, letB c = true) → word.foldl wStep ([], pre) = ([], pre ++ word)
  | [], pre, _, _ => by simp
  | c :: word, pre, h, hl => by
    rw [List.length_cons] at h
    rw [List.foldl_cons, step_add (o := ([], pre)) (hl c (by simp)) (show pre.length < 32 by omega)]
    rw [fold_letters word (pre ++ [c]) (by rw [List.length_append, List.length_singleton]; omega) (fun x hx => hl x (by simp [hx])), List.append_assoc]
    rfl
theorem good_word {x : List UInt8} (h : GoodT x) : wordsS x = [x] := by
  obtain ⟨word, ⟨h1, h2⟩, h3, rfl⟩ := h
  unfold wordsS
  rw [runes_put_ok fun c hc => (h2 c hc).2.2]
  have e : word.map foldR = word := by
    conv => rhs; rw [← List.map_id word]
    exact List.map_congr_left fun c hc => (h2 c hc).2.1
  rw [e]
  unfold wordsR wFold
  rw [fold_letters word [] (by simpa using h1) fun c hc => (h2 c hc).1, List.nil_append]
  rw [step_tell (o := ([], word)) (by decide) (fun h0 => h3 (List.length_eq_zero_iff.1 h0))]
  rfl
theorem good_len {x : List UInt8} (h : GoodT x) : x.length ≤ 128 := by
  obtain ⟨word, ⟨h1, _⟩, _, rfl⟩ := h
  have := (put_len word).2
  omega
theorem words_count (l : List UInt8) : (wordsS l).length ≤ l.length + 1 := by
  have h1 := wFold_bd ((runes l).map foldR) ([], []) (by simp)
  have h2 := wStep_bd (o := wFold ((runes l).map foldR)) (c := 32) h1.1
  have h3 := runes_len l
  have h4 := h1.2
  rw [List.length_map] at h4
  simp only [List.length_nil, Nat.zero_add] at h4
  have h5 : (wFold ((runes l).map foldR)).1.length ≤ (runes l).length := h4
  have h6 := h2.2
  show (wStep (wFold ((runes l).map foldR)) 32).1.length ≤ _
  omega
theorem words_is (l x : List UInt8) (h : x ∈ wordsS l) : isB x = true := by
  unfold isB
  exact decide_eq_true (good_word (words_good l x h))

/-- Words with a blank ahead of each. -/
def joined (L : List (List UInt8)) : List UInt8 := L.flatMap fun x => 32 :: x
theorem joined_snoc (L : List (List UInt8)) (x : List UInt8) : joined (L ++ [x]) = joined L ++ 32 :: x := by simp [joined]
theorem joined_take {L : List (List UInt8)} {k : Nat} (h : k < L.length) : joined (L.take (k + 1)) = joined (L.take k) ++ 32 :: L[k] := by rw [List.take_succ_eq_append_getElem h, joined_snoc]
theorem wordsS_nil : wordsS [] = [] := rfl
theorem joined_words (L : List (List UInt8)) (h : ∀ x ∈ L, wordsS x = [x]) : wordsS (joined L) = L := by
  have key : ∀ k, k ≤ L.length → wordsS (joined (L.take k)) = L.take k := by
    intro k
    induction k with
    | zero => intro _; rfl
    | succ k ih =>
      intro hk
      have hkl : k < L.length := by omega
      rw [joined_take hkl, wordsS_app, ih (by omega), h L[k] (List.getElem_mem hkl), List.take_succ_eq_append_getElem hkl]
  have := key L.length (Nat.le_refl _)
  rwa [List.take_length] at this
theorem joined_len : ∀ (L : List (List UInt8)), (∀ x ∈ L, x.length ≤ 128) → (joined L).length ≤ 129 * L.length
  | [], _ => by simp [joined]
  | x :: L, h => by
    have h1 := h x (by simp)
    have h2 := joined_len L fun y hy => h y (by simp [hy])
    have e : joined (x :: L) = (32 :: x) ++ joined L := by simp [joined]
    rw [e, List.length_append, List.length_cons, List.length_cons]
    omega
theorem str_append (a b : List UInt8) : str a ++ str b = str (a ++ b) := by
  apply ByteArray.ext
  apply Array.ext'
  simp [str]
end Go.Proofs.Ytmimkcdomgoefaa
