/-
  A whole date stored into, or read from, a block of its own. No condition.
-/
import Derived.Test.YtelhdkidnhfnbabGreatDoorBlk
import Derived.Deep.MidRow
namespace Go.Proofs.YtelhdkidnhfnbabGreatDoor
open Go.RowKit

theorem dateInfo : (Tryz.prog.info? 61).map (·.size) = some 6 := by kernel_rfl

theorem Blk.there6 {w : World} {b : Nat} {a0 a1 a2 a3 a4 a5 : Value} (h : Blk w b 61 #[a0, a1, a2, a3, a4, a5]) : w.there b 0 6 := fun j hj => ⟨by
  rw [Nat.zero_add, h.cell j]
  match j, hj with
  | 0, _ => rfl
  | 1, _ => rfl
  | 2, _ => rfl
  | 3, _ => rfl
  | 4, _ => rfl
  | 5, _ => rfl, h.free _⟩

theorem Blk.set6 {w : World} {b : Nat} {a0 a1 a2 a3 a4 a5 : Value} (h : Blk w b 61 #[a0, a1, a2, a3, a4, a5]) (v0 v1 v2 v3 v4 v5 : Value) :
    Blk (w.setCells b 0 [v0, v1, v2, v3, v4, v5]) b 61 #[v0, v1, v2, v3, v4, v5] ∧ w.grownBy (w.setCells b 0 [v0, v1, v2, v3, v4, v5]) (some b) := by
  constructor
  · have h6 := (((((h.set 0 v0).set 1 v1).set 2 v2).set 3 v3).set 4 v4).set 5 v5
    exact h6
  · exact ((((((World.grownBy.refl w (some b)).trans (grown_set _ b 0 v0)).trans (grown_set _ b 1 v1)).trans (grown_set _ b 2 v2)).trans (grown_set _ b 3 v3)).trans (grown_set _ b 4 v4)).trans (grown_set _ b 5 v5)

theorem wpList_store_date {ops : Array Oper} {rest : List Oper} {op : Oper} {a : Act} {w : World} {Q : Exit → Act → World → Prop} (hgd : op.guard = none) (x z : Operand) (ho : op.op = .store 61 x z)
    (b : Nat) (a0 a1 a2 a3 a4 a5 : Value) (y m d h mi s : Int) (hx : a.eval x = .pointer (some ⟨b, 0, none⟩)) (hy : a.eval z = .agg #[.int .i64 y, .int .i64 m, .int .i64 d, .int .i64 h, .int .i64 mi, .int .i64 s])
    (hb : Blk w b 61 #[a0, a1, a2, a3, a4, a5])
    (hn : ∀ w', Blk w' b 61 #[.int .i64 y, .int .i64 m, .int .i64 d, .int .i64 h, .int .i64 mi, .int .i64 s] → w.grownBy w' (some b) → wpList Tryz.prog ops Q rest (a.put op.dst undef) w') : wpList Tryz.prog ops Q (op :: rest) a w :=
  wpList_store_mid hgd 61 x z ho b 0 #[.int .i64 y, .int .i64 m, .int .i64 d, .int .i64 h, .int .i64 mi, .int .i64 s] hx hy hb.there6 dateInfo (by simp [Value.oneCell']) (hn _ (hb.set6 _ _ _ _ _ _).1 (hb.set6 _ _ _ _ _ _).2)

theorem date_results {w : World} {b : Nat} {y m d h mi s : Int} (hb : Blk w b 61 #[.int .i64 y, .int .i64 m, .int .i64 d, .int .i64 h, .int .i64 mi, .int .i64 s]) : w.cell? ⟨b, 0, none⟩ = some (.int .i64 y) ∧ w.cell? ⟨b, 1, none⟩ = some (.int .i64 m) ∧ w.cell? ⟨b, 2, none⟩ = some (.int .i64 d) ∧ w.cell? ⟨b, 3, none⟩ = some (.int .i64 h) ∧ w.cell? ⟨b, 4, none⟩ = some (.int .i64 mi) ∧ w.cell? ⟨b, 5, none⟩ = some (.int .i64 s) :=
  ⟨hb.cell 0, hb.cell 1, hb.cell 2, hb.cell 3, hb.cell 4, hb.cell 5⟩
end Go.Proofs.YtelhdkidnhfnbabGreatDoor
