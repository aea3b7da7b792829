/-
  Slices of integers that are only read. No condition.
-/
import Derived.Test.YtelhdkidnhfnbabGreatDoorRegion
namespace Go.Proofs.YtelhdkidnhfnbabGreatDoor
open Go.RowKit

/-- The slice value v reads in w as these integers; what is read lies below block B. -/
def RdI (w : World) (B : Nat) (v : Value) (l : List Int) : Prop :=
  ∃ A c, v = .slice A l.length c ∧ l.length ≤ c ∧ c ≤ maxLen ∧
    (0 < l.length → ∃ b o, A = some ⟨b, o, none⟩ ∧ b < B ∧ ∀ j (h : j < l.length), w.cell? ⟨b, o + j, none⟩ = some (.int .i64 l[j]))

theorem RdI.below {w w' : World} {B : Nat} {v : Value} {l : List Int} (h : RdI w B v l) (hk : Below B w w') : RdI w' B v l := by
  obtain ⟨A, c, rfl, h1, h2, h3⟩ := h
  refine ⟨A, c, rfl, h1, h2, fun hn => ?_⟩
  obtain ⟨b, o, rfl, hb, hc⟩ := h3 hn
  exact ⟨b, o, rfl, hb, fun j hj => (hk.cell (p := ⟨b, o + j, none⟩) hb).trans (hc j hj)⟩

/-- A cell that stood is there. -/
theorem cell_up {D : Nat → Prop} {w W : World} {p : Addr} {v : Value} (h : w.cell? p = some v) (hW : Kept D w W) (hd : ¬ D p.block) : W.cell? p = some v :=
  (World.cell?_of_block (w := w) (hW.block p.block (World.block_lt_of_cell? w p h) hd)).trans h
end Go.Proofs.YtelhdkidnhfnbabGreatDoor
