/-
  Plain words for dates of the mail: runs and parts of a text, put together and taken apart. No condition.
-/
import Derived.Test.YtmimkcdomgoefabDoorDRefSplit
import Derived.Test.YtmimkcdomgoefabDoorDWebEq
namespace Go.Proofs.YtmimkcdomgoefabDoor
open Go.RowKit

def NoB (b : Nat) (a : List UInt8) : Prop := ∀ x ∈ a, ¬ x.toNat = b
theorem splitGo_word {b : Nat} : ∀ (a r cur : List UInt8), NoB b a → splitGo b (a ++ r) cur = splitGo b r (cur ++ a)
  | [], r, cur, _ => by simp
  | c :: a, r, cur, h => by
    show (if c.toNat = b then _ else splitGo b (a ++ r) (cur ++ [c])) = _
    rw [if_neg (h c (by simp)), splitGo_word a r (cur ++ [c]) (fun x hx => h x (by simp [hx]))]
    simp
theorem splitR_end {b : Nat} {a : List UInt8} (h : NoB b a) : splitR b a = [a] := by
  have := splitGo_word a [] [] h
  unfold splitR
  rw [List.append_nil] at this
  rw [this]
  rfl
theorem splitR_cons {b : Nat} {a r : List UInt8} {x : UInt8} (h : NoB b a) (hx : x.toNat = b) : splitR b (a ++ x :: r) = a :: splitR b r := by
  unfold splitR
  rw [splitGo_word a (x :: r) [] h]
  show (if x.toNat = b then _ :: splitGo b r [] else _) = _
  rw [if_pos hx, List.nil_append]
theorem splitR_parts (b : Nat) : ∀ l : List UInt8, ∃ a, NoB b a ∧ ((l = a ∧ splitR b l = [a]) ∨ ∃ x r, l = a ++ x :: r ∧ x.toNat = b ∧ splitR b l = a :: splitR b r)
  | [] => ⟨[], fun _ h => by simp at h, .inl ⟨rfl, rfl⟩⟩
  | c :: l => by
    by_cases hc : c.toNat = b
    · exact ⟨[], fun _ h => by simp at h, .inr ⟨c, l, rfl, hc, splitR_cons (a := []) (fun _ h => by simp at h) hc⟩⟩
    · obtain ⟨a, ha, h⟩ := splitR_parts b l
      have hn : NoB b (c :: a) := fun x hx => by
        rcases List.mem_cons.1 hx with rfl | hx
        · exact hc
        · exact ha x hx
      refine ⟨c :: a, hn, ?_⟩
      rcases h with ⟨rfl, _⟩ | ⟨x, r, rfl, hx, _⟩
      · exact .inl ⟨rfl, splitR_end hn⟩
      · exact .inr ⟨x, r, rfl, hx, splitR_cons (a := c :: a) hn hx⟩

/-- The words of a text, one after the other. -/
theorem split_one {b : Nat} {l w : List UInt8} (h : splitR b l = [w]) : l = w ∧ NoB b w := by
  obtain ⟨a, ha, h1 | ⟨x, r, rfl, hx, h1⟩⟩ := splitR_parts b l
  · obtain ⟨rfl, h2⟩ := h1
    rw [h] at h2
    injection h2 with h3
    subst h3
    exact ⟨rfl, ha⟩
  · rw [h] at h1
    injection h1 with _ h3
    obtain ⟨a', _, ⟨_, h4⟩ | ⟨_, _, _, _, h4⟩⟩ := splitR_parts b r <;> rw [h4] at h3 <;> cases h3
theorem split_more {b : Nat} {l w v : List UInt8} {t : List (List UInt8)} (h : splitR b l = w :: v :: t) : ∃ x r, l = w ++ x :: r ∧ x.toNat = b ∧ NoB b w ∧ splitR b r = v :: t := by
  obtain ⟨a, ha, ⟨_, h1⟩ | ⟨x, r, rfl, hx, h1⟩⟩ := splitR_parts b l
  · rw [h] at h1
    cases h1
  · rw [h] at h1
    injection h1 with h2 h3
    subst h2
    exact ⟨x, r, rfl, hx, ha, h3.symm⟩

def AllP (p : Nat → Bool) (t : List UInt8) : Prop := ∀ x ∈ t, p x.toNat = true
/-- What follows does not go on so. -/
def Ends (p : Nat → Bool) (r : List UInt8) : Prop := ∀ x t, r = x :: t → p x.toNat = false
theorem lead_app {p : Nat → Bool} : ∀ (t r : List UInt8) (m : Nat), AllP p t → t.length ≤ m → (t.length = m ∨ Ends p r) → lead p m (t ++ r) = t.length
  | [], r, m, _, _, h => by
    cases m with
    | zero => rfl
    | succ m =>
      rcases h with h | h
      · simp at h
      · cases r with
        | nil => rfl
        | cons x r =>
          show (if p x.toNat = true then _ else 0) = _
          rw [if_neg (by rw [h x r rfl]; simp)]
          rfl
  | c :: t, r, m, ht, hm, h => by
    cases m with
    | zero => simp at hm
    | succ m =>
      show (if p c.toNat = true then lead p m (t ++ r) + 1 else 0) = _
      rw [if_pos (ht c (by simp)), lead_app t r m (fun x hx => ht x (by simp [hx])) (by simpa using hm) (by
        rcases h with h | h
        · exact .inl (by simpa using h)
        · exact .inr h)]
      rfl
theorem runS_ok {p : Nat → Bool} {a b : Nat} {t r : List UInt8} (q : Bool) (ht : AllP p t) (ha : a ≤ t.length) (hb : t.length ≤ b) (he : t.length = b ∨ Ends p r) : runS p a b ((t ++ r, q) : St) = (t, (r, q)) := by
  have hl := lead_app t r b ht hb he
  unfold runS runT runL runB
  simp only [hl, if_neg (Nat.not_lt.2 ha), List.take_left', List.drop_left']
theorem runS_inv {p : Nat → Bool} {a b : Nat} {s : St} (h : (runS p a b s).2.2 = false) : s.2 = false ∧ ∃ t r, s.1 = t ++ r ∧ AllP p t ∧ a ≤ t.length ∧ t.length ≤ b ∧ runS p a b s = (t, (r, false)) := by
  obtain ⟨l, q⟩ := s
  have hle := lead_le p b l
  have hn : ¬ lead p b l < a := fun hlt => by
    unfold runS runB at h
    simp only [if_pos hlt] at h
    cases h
  have hq : q = false := by
    unfold runS runB at h
    simp only [if_neg hn] at h
    exact h
  subst hq
  refine ⟨rfl, l.take (lead p b l), l.drop (lead p b l), (List.take_append_drop _ _).symm, fun x hx => ?_, by simp; omega, by simp; omega, ?_⟩
  · obtain ⟨i, hi, rfl⟩ := List.getElem_of_mem hx
    rw [List.getElem_take]
    exact lead_fits p b l i (by simp at hi; omega) (by simp at hi; omega)
  · unfold runS runT runL runB
    simp only [if_neg hn]
end Go.Proofs.YtmimkcdomgoefabDoor
