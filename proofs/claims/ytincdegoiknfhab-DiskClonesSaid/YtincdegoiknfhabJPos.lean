/-
  Where a name stands in a disk as the document has it, or would: files in order of names, by places. No condition.
-/
import Derived.Test.YtincdegoiknfhabKNames
namespace Go.Proofs.Ytincdegoiknfhab
open Go.RowKit

/-! ### in plain words: where a name stands, or would -/
def RiseA (L : List AFile) : Prop := L.Pairwise fun a b => a.name < b.name
def posA (n : List UInt8) : List AFile → Nat
  | [] => 0
  | f :: r => if bytesBefore f.name n then posA n r + 1 else 0
def isA (n : List UInt8) (L : List AFile) : Bool := match L[posA n L]? with | some f => f.name == n | none => false
theorem lt_irr (a : List UInt8) : ¬ a < a := List.lt_irrefl a
theorem lt_ne {a b : List UInt8} (h : a < b) : a ≠ b := fun e => lt_irr b (e ▸ h)
theorem lt_tr {a b c : List UInt8} (h : a < b) (k : b < c) : a < c := List.lt_trans h k
theorem lt_as {a b : List UInt8} (h : a < b) : ¬ b < a := fun k => lt_irr a (lt_tr h k)
theorem lt_tri {a b : List UInt8} (h : ¬ a < b) (k : a ≠ b) : b < a := by
  rcases Nat.lt_or_ge 0 1 with _ | _
  · have h1 : b ≤ a := h
    rcases List.le_iff_lt_or_eq.1 h1 with h2 | h2
    · exact h2
    · exact (k h2.symm).elim
  · exact absurd ‹_› (by omega)
theorem bb_false {a b : List UInt8} (h : ¬ a < b) : bytesBefore a b = false := by
  cases hb : bytesBefore a b with
  | false => rfl
  | true => exact (h ((bb_iff a b).1 hb)).elim
theorem bb_true {a b : List UInt8} (h : a < b) : bytesBefore a b = true := (bb_iff a b).2 h
theorem pos_le (n : List UInt8) : ∀ L : List AFile, posA n L ≤ L.length
  | [] => Nat.le_refl _
  | f :: r => by
    unfold posA
    split
    · have := pos_le n r; rw [List.length_cons]; omega
    · exact Nat.zero_le _
theorem is_cons_lt {f : AFile} {r : List AFile} {n : List UInt8} (h : f.name < n) : isA n (f :: r) = isA n r ∧ posA n (f :: r) = posA n r + 1 := by
  have hp : posA n (f :: r) = posA n r + 1 := by rw [posA, if_pos (bb_true h)]
  refine ⟨?_, hp⟩
  unfold isA
  rw [hp, List.getElem?_cons_succ]
theorem pos_cons_ge {f : AFile} {r : List AFile} {n : List UInt8} (h : ¬ f.name < n) : isA n (f :: r) = (f.name == n) ∧ posA n (f :: r) = 0 := by
  have hp : posA n (f :: r) = 0 := by rw [posA, if_neg (by rw [bb_false h]; exact Bool.false_ne_true)]
  refine ⟨?_, hp⟩
  unfold isA
  rw [hp]
  rfl
theorem rise_gt {f : AFile} {r : List AFile} (h : RiseA (f :: r)) : (∀ x ∈ r, f.name < x.name) ∧ RiseA r := List.pairwise_cons.1 h
theorem at_none {L : List AFile} {n : List UInt8} (h : ∀ x ∈ L, n < x.name) : atA L n = none := by
  unfold atA
  rw [List.find?_eq_none]
  intro x hx
  have := lt_ne (h x hx)
  simp only [beq_iff_eq]
  exact fun e => this e.symm
theorem del_none {L : List AFile} {n : List UInt8} (h : ∀ x ∈ L, n < x.name) : delA n L = L := by
  unfold delA
  rw [List.filter_eq_self]
  intro x hx
  have := lt_ne (h x hx)
  simp only [Bool.not_eq_true', beq_eq_false_iff_ne]
  exact fun e => this e.symm
theorem ins_none {L : List AFile} {e : AFile} (h : ∀ x ∈ L, e.name < x.name) : insA e L = e :: L := by
  cases L with
  | nil => rfl
  | cons f r =>
    unfold insA
    rw [if_pos (bb_true (h f (by simp)))]
theorem upd_none {L : List AFile} {e : AFile} (h : ∀ x ∈ L, e.name < x.name) : updA e L = L := by
  unfold updA
  have : L.map (fun f => if f.name = e.name then e else f) = L.map id := List.map_congr_left fun x hx => if_neg fun k => lt_ne (h x hx) k.symm
  rw [this, List.map_id]
theorem at_pos {n : List UInt8} : ∀ {L : List AFile}, RiseA L → atA L n = if isA n L = true then L[posA n L]? else none
  | [], _ => by unfold isA; rfl
  | f :: r, h => by
    obtain ⟨h1, h2⟩ := rise_gt h
    by_cases hlt : f.name < n
    · obtain ⟨e1, e2⟩ := is_cons_lt (r := r) hlt
      rw [e1, e2, List.getElem?_cons_succ, ← at_pos h2]
      unfold atA
      rw [List.find?_cons_of_neg (by simp only [beq_iff_eq]; exact lt_ne hlt)]
    · obtain ⟨e1, e2⟩ := pos_cons_ge (r := r) hlt
      rw [e1, e2]
      by_cases he : f.name = n
      · rw [beq_iff_eq.2 he, if_pos rfl]
        unfold atA
        rw [List.find?_cons_of_pos (by simpa using he)]
        rfl
      · rw [if_neg (by simpa using he)]
        exact at_none fun x hx => by
          rcases List.mem_cons.1 hx with rfl | hx
          · exact lt_tri hlt he
          · exact lt_tr (lt_tri hlt he) (h1 x hx)
theorem put_pos {e : AFile} : ∀ {L : List AFile}, RiseA L → isA e.name L = false → putA e L = L.take (posA e.name L) ++ e :: L.drop (posA e.name L)
  | [], _, _ => rfl
  | f :: r, h, hi => by
    obtain ⟨h1, h2⟩ := rise_gt h
    by_cases hlt : f.name < e.name
    · obtain ⟨e1, e2⟩ := is_cons_lt (r := r) hlt
      rw [e1] at hi
      rw [e2, List.take_succ_cons, List.drop_succ_cons, List.cons_append, ← put_pos h2 hi]
      unfold putA
      have hd : delA e.name (f :: r) = f :: delA e.name r := by
        unfold delA
        rw [List.filter_cons_of_pos (by simp only [Bool.not_eq_true', beq_eq_false_iff_ne]; exact lt_ne hlt)]
      rw [hd]
      conv => lhs; unfold insA
      rw [if_neg (by rw [bb_false (lt_as hlt)]; exact Bool.false_ne_true)]
    · obtain ⟨e1, e2⟩ := pos_cons_ge (r := r) hlt
      rw [e1] at hi
      have hne : f.name ≠ e.name := by simpa using hi
      have hall : ∀ x ∈ f :: r, e.name < x.name := fun x hx => by
        rcases List.mem_cons.1 hx with rfl | hx
        · exact lt_tri hlt hne
        · exact lt_tr (lt_tri hlt hne) (h1 x hx)
      rw [e2]
      unfold putA
      rw [del_none hall, ins_none hall]
      rfl
theorem del_pos {n : List UInt8} : ∀ {L : List AFile}, RiseA L → isA n L = true → delA n L = L.take (posA n L) ++ L.drop (posA n L + 1)
  | [], _, hi => by unfold isA at hi; cases hi
  | f :: r, h, hi => by
    obtain ⟨h1, h2⟩ := rise_gt h
    by_cases hlt : f.name < n
    · obtain ⟨e1, e2⟩ := is_cons_lt (r := r) hlt
      rw [e1] at hi
      rw [e2, List.take_succ_cons, List.drop_succ_cons, List.cons_append, ← del_pos h2 hi]
      unfold delA
      rw [List.filter_cons_of_pos (by simp only [Bool.not_eq_true', beq_eq_false_iff_ne]; exact lt_ne hlt)]
    · obtain ⟨e1, e2⟩ := pos_cons_ge (r := r) hlt
      rw [e1] at hi
      have he : f.name = n := by simpa using hi
      rw [e2]
      have hd : delA n (f :: r) = delA n r := by
        unfold delA
        rw [List.filter_cons_of_neg (by simp [he])]
      rw [hd, del_none fun x hx => he ▸ h1 x hx]
      rfl
theorem upd_pos {e : AFile} : ∀ {L : List AFile}, RiseA L → isA e.name L = true → updA e L = L.set (posA e.name L) e
  | [], _, hi => by unfold isA at hi; cases hi
  | f :: r, h, hi => by
    obtain ⟨h1, h2⟩ := rise_gt h
    by_cases hlt : f.name < e.name
    · obtain ⟨e1, e2⟩ := is_cons_lt (r := r) hlt
      rw [e1] at hi
      rw [e2, List.set_cons_succ, ← upd_pos h2 hi]
      unfold updA
      rw [List.map_cons, if_neg (lt_ne hlt)]
    · obtain ⟨e1, e2⟩ := pos_cons_ge (r := r) hlt
      rw [e1] at hi
      have he : f.name = e.name := by simpa using hi
      rw [e2, List.set_cons_zero]
      have hr : updA e r = r := upd_none fun x hx => he ▸ h1 x hx
      unfold updA at hr ⊢
      rw [List.map_cons, hr, if_pos he]
theorem rise_sub {L M : List AFile} (h : RiseA L) (hs : M.Sublist L) : RiseA M := h.sublist hs
theorem del_rise {n : List UInt8} {L : List AFile} (h : RiseA L) : RiseA (delA n L) := rise_sub h List.filter_sublist
theorem pos_not {L : List AFile} {n : List UInt8} (h : ∀ x ∈ L, n < x.name) : posA n L = 0 ∧ isA n L = false := by
  cases L with
  | nil => exact ⟨rfl, rfl⟩
  | cons f r =>
    have hf := h f (by simp)
    obtain ⟨e1, e2⟩ := pos_cons_ge (f := f) (r := r) (n := n) (lt_as hf)
    refine ⟨e2, ?_⟩
    rw [e1]
    simp only [beq_eq_false_iff_ne]
    exact fun k => lt_ne hf k.symm
theorem pos_del {n : List UInt8} : ∀ {L : List AFile}, RiseA L → posA n (delA n L) = posA n L ∧ isA n (delA n L) = false
  | [], _ => ⟨rfl, rfl⟩
  | f :: r, h => by
    obtain ⟨h1, h2⟩ := rise_gt h
    by_cases hlt : f.name < n
    · have hd : delA n (f :: r) = f :: delA n r := by
        unfold delA
        rw [List.filter_cons_of_pos (by simp only [Bool.not_eq_true', beq_eq_false_iff_ne]; exact lt_ne hlt)]
      obtain ⟨e1, e2⟩ := is_cons_lt (r := r) hlt
      obtain ⟨e3, e4⟩ := is_cons_lt (r := delA n r) hlt
      rw [hd, e2, e3, e4, (pos_del h2).1, (pos_del h2).2]
      exact ⟨rfl, rfl⟩
    · obtain ⟨e1, e2⟩ := pos_cons_ge (r := r) hlt
      rw [e2]
      by_cases he : f.name = n
      · have hall : ∀ x ∈ r, n < x.name := fun x hx => he ▸ h1 x hx
        have hd : delA n (f :: r) = r := by
          rw [← del_none hall]
          unfold delA
          rw [List.filter_cons_of_neg (by simp [he])]
          rw [List.filter_filter]
          simp
        rw [hd]
        exact pos_not hall
      · have hall : ∀ x ∈ f :: r, n < x.name := fun x hx => by
          rcases List.mem_cons.1 hx with rfl | hx
          · exact lt_tri hlt he
          · exact lt_tr (lt_tri hlt he) (h1 x hx)
        rw [del_none hall]
        exact ⟨e2, (pos_not hall).2⟩
end Go.Proofs.Ytincdegoiknfhab
