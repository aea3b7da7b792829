/-
  What the program's and the library's texts lay in the tables of names and of powers of ten, read where a call begins. No condition.
-/
import Derived.Test.YtelhdkidnhfnbabDoorRows
import Derived.Test.YtelhdkidnhfnbabDoorVShow
import Derived.ProofKit
import Derived.LaidMore
import Derived.OpenShut
import Derived.Stop.Joined
namespace Go.Proofs.YtelhdkidnhfnbabDoor
open Go.ChangeShapes Go.WideShapes Go.ChangeAt Go.WideMaps Go.WideElems Go.RowKit

theorem gPow : Tryd.prog.globalNamed "internal/strconv.uint64pow10" = some 1 := by kernel_rfl
theorem tPow : (Tryd.prog.globals[1]?).map (·.type) = some 92 := by kernel_rfl
theorem gNames : Tryd.prog.globalNamed "newsstand/event.names" = some 0 := by kernel_rfl
theorem tNames : (Tryd.prog.globals[0]?).map (·.type) = some 55 := by kernel_rfl
/-- The row's listed variables. -/
def listed : List (String × DataW Unit) := [("math/bits.deBruijn32tab", Rows.laid_math_bits_deBruijn32tab), ("math/bits.deBruijn64tab", Rows.laid_math_bits_deBruijn64tab), ("internal/strconv.uint64pow10", Rows.laid_internal_strconv_uint64pow10), ("unicode/utf8.acceptRanges", Rows.laid_unicode_utf8_acceptRanges), ("newsstand/event.names", Rows.laid_newsstand_event_names), ("unicode/utf8.first", Rows.laid_unicode_utf8_first)]
theorem pow_datum : (Rows.laid_internal_strconv_uint64pow10 : DataW Unit) = Lib.tabData .u64 Lib.pow10Tab := rfl
theorem names_datum : (Rows.laid_newsstand_event_names : DataW Unit) = .agg (namesL.map fun n => .lit (.string n)) := rfl
set_option maxRecDepth 100000 in
theorem ev_of {W : World} (h : laidMetH Tryd.prog listed W) (hm : MaxV W) : EvW W := by
  rw [MakeChecks.laidMetH_plain _ _ _ (by kernel_rfl)] at h
  obtain ⟨ps, ⟨_, _, _, _, _, _, _, _, _, _, ⟨_, _, _, _, _, _, _, _, _, _, ⟨g, t, cs, fuel, p, q, hg, ht, hv, hd, ⟨_, _, _, _, _, _, _, _, _, _, ⟨g2, t2, cs2, fuel2, p2, q2, hg2, ht2, hv2, hd2, _, _⟩, _⟩, _⟩, _⟩, _⟩, _⟩ := h
  obtain rfl := Option.some.inj (gPow.symm.trans hg)
  obtain rfl := Option.some.inj (tPow.symm.trans ht)
  obtain rfl := Option.some.inj (gNames.symm.trans hg2)
  obtain rfl := Option.some.inj (tNames.symm.trans ht2)
  rw [pow_datum] at hd
  have hc := Lib.cells_of_tab Tryd.underlying92 Tryd.underlying82 (by kernel_rfl) (by kernel_rfl) hd
  have htab : Lib.TabIs Tryd.prog W "internal/strconv.uint64pow10" .u64 Lib.pow10Tab := by
    unfold Lib.TabIs
    rw [hv, ← hc]
  have hT : TabP W := ⟨World.block_lt_of_cell? W ⟨1, 0, none⟩ (htab.cell gPow 0 (by decide)), htab⟩
  obtain ⟨xs, m, rfl, hx, hlen, hn, hel⟩ := DataW.trod_array Tryd.underlying55 hd2
  have cst : Tryd.prog.cellsOf 9 = 1 := by kernel_rfl
  have hx1 : namesL.map (fun n => (DataW.lit (Lit.string n) : DataW Unit)) = xs.map (·.1) := by
    have h1 := congrArg Prod.fst hx
    rw [names_datum] at h1
    injection h1
  have hN : NmsAt W := by
    have el : ∀ i, (hi : i < namesL.length) → W.cell? ⟨0, i, none⟩ = some (.string (str namesL[i])) := by
      intro i hi
      have hi13 : i < 13 := hi
      have h1 := hel i hi13
      rw [cst, List.getElem?_eq_getElem (by omega)] at h1
      obtain ⟨s, e3, e4, _⟩ := DataW.trod_string Tryd.underlying9 h1
      have d1 := congrArg (fun l => l[i]?) hx1
      simp only [List.getElem?_map, List.getElem?_eq_getElem hi, List.getElem?_eq_getElem (show i < xs.length by omega), Option.map_some, e4] at d1
      have hs2 : s.data.toList = namesL[i] := by
        injection d1 with d1
        injection d1 with d1
        injection d1 with d1
        exact d1.symm
      rw [World.var?_cell hg2 hv2 i]
      have r1 := congrArg (fun l => l[0]?) e3
      simp only [List.getElem?_take, List.getElem?_drop, Nat.add_zero] at r1
      have h5 : str namesL[i] = s := by rw [← hs2]; exact str_of s
      have r2 : cs2[i]? = some (Value.string s) := by simpa using r1
      exact r2.trans (congrArg (fun x => some (Value.string x)) h5.symm)
    exact ⟨World.block_lt_of_cell? W ⟨0, 0, none⟩ (el 0 (by decide)), el⟩
  exact ⟨hN, hT, hm⟩
theorem max_ofV {W : World} (h : W.ShapedOpen Tryd.prog) : MaxV W := Tryd.laysM143.s1_3 W h
end Go.Proofs.YtelhdkidnhfnbabDoor
