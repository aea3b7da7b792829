/-
  A row of texts of a call's own reads as its texts; its rest reads as the rest. No condition.
-/
import Derived.Test.YtmimkcdomgoefabDoorDRefSplit
namespace Go.Proofs.YtmimkcdomgoefabDoor
open Go.RowKit

theorem RdS.below {w w' : World} {B : Nat} {v : Value} {L : List (List UInt8)} (h : RdS w B v L) (hb : Below B w w') : RdS w' B v L := h.keep fun _ hp => hb.cell hp
theorem RdS.nil (w : World) (B : Nat) : RdS w B (.slice none 0 0) [] := ⟨none, 0, rfl, Nat.le_refl _, Nat.zero_le _, fun h => absurd h (by simp)⟩
theorem RdS.own {w : World} {B base e : Nat} {v : Value} {L : List (List UInt8)} (h : Own w base e v (strs L)) (hB : w.heap.size ≤ B) : RdS w B v L := by
  unfold Own at h
  rw [strs_length] at h
  have h' := h
  obtain ⟨h1, h2⟩ := h
  rcases h2 with ⟨rfl, h0⟩ | ⟨g, cap, cur, rfl, hg, hh, hn, hc, hs, ht⟩
  · have : L = [] := List.length_eq_zero_iff.1 h0
    subst this
    exact RdS.nil w B
  · refine ⟨_, cap, rfl, hn, hc, fun _ => ⟨g, 0, rfl, ?_, fun j hj => ?_⟩⟩
    · have := h'.lt g rfl; omega
    · rw [Nat.zero_add, h'.cellAt j (by omega)]
      simp [strs, hj]
end Go.Proofs.YtmimkcdomgoefabDoor
