/-
  Rows of texts in order, each once: by insertion, by sorting. No condition.
-/
import Derived.Test.YtmimkcdomgoefaaWSet
namespace Go.Proofs.Ytmimkcdomgoefaa
open Go.RowKit

theorem slt_irr (x : List UInt8) : ¬ x < x := List.lt_irrefl x
theorem slt_tr {x y z : List UInt8} (h : x < y) (k : y < z) : x < z := List.lt_trans h k
theorem slt_tri {x y : List UInt8} (h : ¬ x < y) (k : ¬ y < x) : x = y := List.le_antisymm k h
theorem slt_le {x y z : List UInt8} (h : ¬ y < x) (k : y < z) : x < z := by
  by_cases e : x = y
  · rw [e]; exact k
  · by_cases hx : x < y
    · exact slt_tr hx k
    · exact (e (slt_tri hx h)).elim
theorem sle_tr {x y z : List UInt8} (h : ¬ y < x) (k : ¬ z < y) : ¬ z < x := fun hz => k (by
  by_cases e : x = y
  · rw [← e]; exact hz
  · by_cases hx : x < y
    · exact slt_tr hz hx
    · exact (e (slt_tri hx h)).elim)

/-! ### by insertion -/
def insP (x : List UInt8) : List (List UInt8) → List (List UInt8)
  | [] => [x]
  | y :: P => if y < x then y :: insP x P else if y = x then y :: P else x :: y :: P
def insAll (L : List (List UInt8)) : List (List UInt8) := L.foldl (fun P x => insP x P) []
theorem ins_len (x : List UInt8) : ∀ P, (insP x P).length ≤ P.length + 1
  | [] => Nat.le_refl _
  | y :: P => by
    unfold insP
    have := ins_len x P
    split
    · simp; omega
    · split <;> simp
theorem fold_len : ∀ (L P : List (List UInt8)), (L.foldl (fun P x => insP x P) P).length ≤ P.length + L.length
  | [], P => by simp
  | x :: L, P => by
    rw [List.foldl_cons, List.length_cons]
    have h1 := fold_len L (insP x P)
    have h2 := ins_len x P
    omega
theorem insAll_len (L : List (List UInt8)) : (insAll L).length ≤ L.length := by
  have := fold_len L []
  rw [List.length_nil] at this
  unfold insAll
  omega
theorem insAll_snoc {L : List (List UInt8)} {k : Nat} (h : k < L.length) : insAll (L.take (k + 1)) = insP L[k] (insAll (L.take k)) := by
  unfold insAll
  rw [List.take_succ_eq_append_getElem h, List.foldl_append]
  rfl
theorem ins_have {x : List UInt8} : ∀ {P : List (List UInt8)} {k : Nat} (h : k < P.length) (_ : ∀ y ∈ P.take k, y < x) (_ : P[k] = x), insP x P = P
  | y :: P, 0, _, _, e => by
    have e' : y = x := e
    subst e'
    unfold insP
    rw [if_neg (slt_irr y), if_pos rfl]
  | y :: P, k + 1, h, ht, e => by
    unfold insP
    rw [if_pos (ht y (by simp)), ins_have (k := k) (by simpa using h) (fun z hz => ht z (by simp [hz])) (by simpa using e)]
theorem ins_new {x : List UInt8} : ∀ {P : List (List UInt8)} {k : Nat} (_ : k ≤ P.length) (_ : ∀ y ∈ P.take k, y < x) (_ : ∀ h : k < P.length, ¬ P[k] < x ∧ ¬ P[k] = x), insP x P = P.take k ++ x :: P.drop k
  | [], k, _, _, _ => by simp [insP]
  | y :: P, 0, _, _, e => by
    have e' := e (by simp)
    have e1 : ¬ y < x := e'.1
    have e2 : ¬ y = x := e'.2
    unfold insP
    rw [if_neg e1, if_neg e2]
    rfl
  | y :: P, k + 1, h, ht, e => by
    unfold insP
    rw [if_pos (ht y (by simp)), ins_new (k := k) (by simpa using h) (fun z hz => ht z (by simp [hz])) (fun hk => e (show k + 1 < (y :: P).length from Nat.succ_lt_succ hk))]
    rfl
theorem ins_mem (x : List UInt8) : ∀ (P : List (List UInt8)) (y : List UInt8), y ∈ insP x P ↔ y = x ∨ y ∈ P
  | [], y => by simp [insP]
  | z :: P, y => by
    unfold insP
    split
    · rw [List.mem_cons, ins_mem x P y, List.mem_cons]
      constructor
      · rintro (h | h | h)
        · exact .inr (.inl h)
        · exact .inl h
        · exact .inr (.inr h)
      · rintro (h | h | h)
        · exact .inr (.inl h)
        · exact .inl h
        · exact .inr (.inr h)
    · split
      · next e =>
        subst e
        rw [List.mem_cons]
        constructor
        · exact .inr
        · rintro (h | h)
          · exact .inl h
          · exact h
      · rw [List.mem_cons]
theorem ins_sorted (x : List UInt8) : ∀ (P : List (List UInt8)), P.Pairwise (· < ·) → (insP x P).Pairwise (· < ·)
  | [], _ => by simp [insP]
  | z :: P, h => by
    rw [List.pairwise_cons] at h
    unfold insP
    split
    · next hz =>
      rw [List.pairwise_cons]
      refine ⟨fun y hy => ?_, ins_sorted x P h.2⟩
      rcases (ins_mem x P y).1 hy with rfl | hy
      · exact hz
      · exact h.1 y hy
    · next hz =>
      split
      · rw [List.pairwise_cons]; exact h
      · next he =>
        have hxz : x < z := by
          by_cases hx : x < z
          · exact hx
          · exact (he (slt_tri hz hx)).elim
        rw [List.pairwise_cons, List.pairwise_cons]
        refine ⟨fun y hy => ?_, h⟩
        rcases List.mem_cons.1 hy with rfl | hy
        · exact hxz
        · exact slt_tr hxz (h.1 y hy)
theorem fold_mem : ∀ (L P : List (List UInt8)) (y : List UInt8), y ∈ L.foldl (fun P x => insP x P) P ↔ y ∈ P ∨ y ∈ L
  | [], P, y => by simp
  | x :: L, P, y => by
    rw [List.foldl_cons, fold_mem L, ins_mem, List.mem_cons]
    constructor
    · rintro ((h | h) | h)
      · exact .inr (.inl h)
      · exact .inl h
      · exact .inr (.inr h)
    · rintro (h | h | h)
      · exact .inl (.inr h)
      · exact .inl (.inl h)
      · exact .inr h
theorem fold_sorted : ∀ (L P : List (List UInt8)), P.Pairwise (· < ·) → (L.foldl (fun P x => insP x P) P).Pairwise (· < ·)
  | [], _, h => h
  | x :: L, P, h => by rw [List.foldl_cons]; exact fold_sorted L _ (ins_sorted x P h)
theorem strict_ext : ∀ {xs ys : List (List UInt8)} (_ : xs.Pairwise (· < ·)) (_ : ys.Pairwise (· < ·)) (_ : ∀ z, z ∈ xs ↔ z ∈ ys), xs = ys
  | [], [], _, _, _ => rfl
  | [], y :: ys, _, _, h => by have := (h y).2 (by simp); cases this
  | x :: xs, [], _, _, h => by have := (h x).1 (by simp); cases this
  | x :: xs, y :: ys, hx, hy, h => by
    rw [List.pairwise_cons] at hx hy
    have e : x = y := by
      rcases List.mem_cons.1 ((h x).1 (by simp)) with e | h1
      · exact e
      · rcases List.mem_cons.1 ((h y).2 (by simp)) with e | h2
        · exact e.symm
        · exact (slt_irr x (slt_tr (hx.1 y h2) (hy.1 x h1))).elim
    subst e
    rw [strict_ext hx.2 hy.2 fun z => ?_]
    have hz := h z
    rw [List.mem_cons, List.mem_cons] at hz
    constructor
    · intro k
      rcases hz.1 (.inr k) with e | k'
      · subst e; exact (slt_irr z (hx.1 z k)).elim
      · exact k'
    · intro k
      rcases hz.2 (.inr k) with e | k'
      · subst e; exact (slt_irr z (hy.1 z k)).elim
      · exact k'

/-! ### by sorting -/
theorem comp_mem (d : Array (List UInt8)) : ∀ (m : Nat) (y : List UInt8), y ∈ Lib.compactUpTo d m ↔ ∃ j, j < m ∧ d[j]! = y
  | 0, y => by simp [Lib.compactUpTo]
  | m + 1, y => by
    rw [Lib.compactUpTo_succ, List.mem_append, comp_mem d m]
    constructor
    · rintro (⟨j, hj, e⟩ | h)
      · exact ⟨j, by omega, e⟩
      · by_cases hk : Lib.keeps d m = true
        · rw [if_pos hk, List.mem_singleton] at h
          exact ⟨m, by omega, h.symm⟩
        · rw [if_neg hk] at h
          cases h
    · rintro ⟨j, hj, e⟩
      by_cases hjm : j < m
      · exact .inl ⟨j, hjm, e⟩
      · have : j = m := by omega
        subst this
        by_cases hk : Lib.keeps d j = true
        · rw [if_pos hk]
          exact .inr (by simp [e])
        · have hk' : ¬ (j = 0 ∨ d[j]! ≠ d[j - 1]!) := fun h => hk (by unfold Lib.keeps; exact decide_eq_true h)
          have h0 : j ≠ 0 := fun h => hk' (.inl h)
          have h1 : d[j]! = d[j - 1]! := Classical.byContradiction fun h => hk' (.inr h)
          exact .inl ⟨j - 1, by omega, by rw [← h1]; exact e⟩
theorem comp_sorted (d : Array (List UInt8)) (hs : ∀ i j, i ≤ j → j < d.size → ¬ d[j]! < d[i]!) : ∀ (m : Nat), m ≤ d.size → (Lib.compactUpTo d m).Pairwise (· < ·)
  | 0, _ => by simp [Lib.compactUpTo]
  | m + 1, hm => by
    rw [Lib.compactUpTo_succ, List.pairwise_append]
    refine ⟨comp_sorted d hs m (by omega), by split <;> simp, fun a ha b hb => ?_⟩
    by_cases hk : Lib.keeps d m = true
    · rw [if_pos hk, List.mem_singleton] at hb
      subst hb
      obtain ⟨j, hj, rfl⟩ := (comp_mem d m a).1 ha
      have hk' : m = 0 ∨ d[m]! ≠ d[m - 1]! := by unfold Lib.keeps at hk; exact of_decide_eq_true hk
      rcases hk' with h0 | hne
      · omega
      · have h1 := hs j (m - 1) (by omega) (by omega)
        have h2 := hs (m - 1) m (by omega) (by omega)
        refine slt_le h1 ?_
        by_cases h3 : d[m - 1]! < d[m]!
        · exact h3
        · exact (hne (slt_tri h2 h3)).elim
    · rw [if_neg hk] at hb
      cases hb
theorem sortP_sorted (L : List (List UInt8)) : (sortP L).Pairwise fun a b => ¬ b < a := by
  have h := List.pairwise_mergeSort (le := fun x y : List UInt8 => decide (x ≤ y)) (fun a b c h1 h2 => decide_eq_true (sle_tr (of_decide_eq_true h1) (of_decide_eq_true h2)))
    (fun a b => by
      rcases List.le_total a b with h | h
      · simp [h]
      · simp [h]) L
  exact h.imp fun h => of_decide_eq_true h
theorem setP_ins (L : List (List UInt8)) : setP L = insAll L := by
  unfold setP insAll Lib.compact
  have hsz : (sortP L).toArray.size = (sortP L).length := by simp
  have hget : ∀ j (h : j < (sortP L).length), (sortP L).toArray[j]! = (sortP L)[j] := fun j h => by rw [getElem!_pos _ _ (by simpa using h)]; simp
  refine strict_ext (comp_sorted _ (fun i j hij hj => ?_) _ (by simp)) (fold_sorted L [] (by simp)) fun z => ?_
  · rw [hsz] at hj
    rw [hget j hj, hget i (by omega)]
    rcases Nat.lt_or_ge i j with h | h
    · exact List.pairwise_iff_getElem.1 (sortP_sorted L) i j (by omega) hj h
    · have : i = j := by omega
      subst this
      exact slt_irr _
  · rw [comp_mem, fold_mem]
    have hm : z ∈ L ↔ z ∈ sortP L := by unfold sortP; rw [List.mem_mergeSort]
    rw [hm]
    constructor
    · rintro ⟨j, hj, rfl⟩
      rw [hget j hj]
      exact .inr (List.getElem_mem hj)
    · rintro (h | h)
      · cases h
      · obtain ⟨j, hj, e⟩ := List.mem_iff_getElem.1 h
        exact ⟨j, hj, by rw [hget j hj]; exact e⟩
end Go.Proofs.Ytmimkcdomgoefaa
