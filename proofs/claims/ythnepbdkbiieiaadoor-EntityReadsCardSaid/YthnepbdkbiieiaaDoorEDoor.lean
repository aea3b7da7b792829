/-
  What the program's text lays in the table of signs, read where a call begins. No condition.
-/
import Derived.Test.YthnepbdkbiieiaaDoorRows
import Derived.Test.YthnepbdkbiieiaaDoorEName
import Derived.ProofKit
import Derived.LaidMore
import Derived.OpenShut
import Derived.Stop.Joined
namespace Go.Proofs.YthnepbdkbiieiaaDoor
open Go.ChangeShapes Go.WideShapes Go.ChangeAt Go.WideMaps Go.WideElems Go.RowKit

theorem gSigns : Tryd.prog.globalNamed "newsstand/entity.signs" = some 0 := by kernel_rfl
theorem tSigns : (Tryd.prog.globals[0]?).map (·.type) = some 43 := by kernel_rfl
/-- The row's listed variable. -/
def listed : List (String × DataW Unit) := [("newsstand/entity.signs", Rows.laid_newsstand_entity_signs)]
def sigD : List (DataW Unit) := [.agg [.lit (.int .i32 38), .lit (.string [97, 109, 112])], .agg [.lit (.int .i32 60), .lit (.string [108, 116])], .agg [.lit (.int .i32 62), .lit (.string [103, 116])], .agg [.lit (.int .i32 34), .lit (.string [113, 117, 111, 116])], .agg [.lit (.int .i32 39), .lit (.string [97, 112, 111, 115])]]
theorem door_met (os : Os) (args : Array Value) : laidMetH Tryd.prog listed ((World.doorLaid Tryd.prog 400 os).forCall (fun _ _ => 0) ⟨#[], args, []⟩).memory :=
  laidMetH_of_parts3 (fuel := 8) (laidMet_of_run' 8 (by kernel_rfl) (by kernel_rfl)) (by kernel_rfl) (by kernel_rfl)
set_option maxRecDepth 100000 in
theorem sig_of {W : World} (h : laidMetH Tryd.prog listed W) : Sig W := by
  rw [MakeChecks.laidMetH_plain _ _ _ (by kernel_rfl)] at h
  obtain ⟨ps, ⟨g, t, cs, fuel, p, q, hg, ht, hv, hd, _, _⟩, _⟩ := h
  obtain rfl := Option.some.inj (gSigns.symm.trans hg)
  obtain rfl := Option.some.inj (tSigns.symm.trans ht)
  obtain ⟨xs, m, rfl, hx, hlen, hn, hel⟩ := DataW.trod_array Tryd.underlying43 hd
  have c2 : Tryd.prog.cellsOf 42 = 2 := by kernel_rfl
  have ci : Tryd.prog.cellsOf 21 = 1 := by kernel_rfl
  have cst : Tryd.prog.cellsOf 9 = 1 := by kernel_rfl
  have hx1 : sigD = xs.map (·.1) := by injection congrArg Prod.fst hx
  have el : ∀ (i : Nat) (c : Int) (nm : List UInt8), i < 5 → sigD[i]? = some (.agg [.lit (.int .i32 c), .lit (.string nm)]) → W.cell? ⟨0, i * 2, none⟩ = some (.int .i32 c) ∧ W.cell? ⟨0, i * 2 + 1, none⟩ = some (.string (str nm)) := by
    intro i c nm hi hs
    have h1 := hel i hi
    rw [c2, List.getElem?_eq_getElem (by omega)] at h1
    obtain ⟨ys, n', _, hy, hcl, hyl, hf⟩ := DataW.trod_struct Tryd.underlying42 h1
    have hy2 : ys.length = 2 := hyl
    have h2 := congrArg (fun l => l[i]?) hx1
    simp only [List.getElem?_map, hs, List.getElem?_eq_getElem (show i < xs.length by omega), Option.map_some] at h2
    have h3 : (DataW.agg [.lit (.int .i32 c), .lit (.string nm)] : DataW Unit) = .agg (ys.map (·.1)) := (Option.some.inj h2).trans (congrArg Prod.fst hy)
    injection h3 with h3
    have f0 := hf 0 _ rfl
    have f1 := hf 1 _ rfl
    rw [List.getElem?_eq_getElem (by omega)] at f0 f1
    obtain ⟨k, e1, e2, _⟩ := DataW.trod_int Tryd.underlying21 f0
    obtain ⟨s, e3, e4, _⟩ := DataW.trod_string Tryd.underlying9 f1
    have d0 := congrArg (fun l => l[0]?) h3
    have d1 := congrArg (fun l => l[1]?) h3
    simp only [List.getElem?_map, List.getElem?_cons_zero, List.getElem?_cons_succ, List.getElem?_eq_getElem (show 0 < ys.length by omega), List.getElem?_eq_getElem (show 1 < ys.length by omega), Option.map_some, e2, e4] at d0 d1
    have hk : k = c := by simpa using d0.symm
    have hs2 : s.data.toList = nm := by simpa using d1.symm
    subst hk hs2
    have q0 : (((cs.toList.drop (i * 2)).take 2).drop 0).take (Tryd.prog.cellsOf 21) = [.int .i32 k] := e1
    have q1 : (((cs.toList.drop (i * 2)).take 2).drop 1).take (Tryd.prog.cellsOf 9) = [.string s] := e3
    rw [ci] at q0
    rw [cst] at q1
    rw [World.var?_cell hg hv (i * 2), World.var?_cell hg hv (i * 2 + 1)]
    have r0 := congrArg (fun l => l[0]?) q0
    have r1 := congrArg (fun l => l[0]?) q1
    simp only [List.getElem?_take, List.getElem?_drop, Nat.add_zero] at r0 r1
    exact ⟨by simpa using r0, by simpa [str_of] using r1⟩
  have a0 := el 0 38 [97, 109, 112] (by decide) rfl
  have a1 := el 1 60 [108, 116] (by decide) rfl
  have a2 := el 2 62 [103, 116] (by decide) rfl
  have a3 := el 3 34 [113, 117, 111, 116] (by decide) rfl
  have a4 := el 4 39 [97, 112, 111, 115] (by decide) rfl
  refine ⟨World.block_lt_of_cell? W ⟨0, 0, none⟩ a0.1, fun j v hj => ?_⟩
  have hj10 : j < 10 := by
    have := (List.getElem?_eq_some_iff.1 hj).1
    exact this
  have hjj : j = 0 ∨ j = 1 ∨ j = 2 ∨ j = 3 ∨ j = 4 ∨ j = 5 ∨ j = 6 ∨ j = 7 ∨ j = 8 ∨ j = 9 := by omega
  rcases hjj with rfl | rfl | rfl | rfl | rfl | rfl | rfl | rfl | rfl | rfl <;> (injection hj with hj; subst hj)
  · exact a0.1
  · exact a0.2
  · exact a1.1
  · exact a1.2
  · exact a2.1
  · exact a2.2
  · exact a3.1
  · exact a3.2
  · exact a4.1
  · exact a4.2
end Go.Proofs.YthnepbdkbiieiaaDoor
