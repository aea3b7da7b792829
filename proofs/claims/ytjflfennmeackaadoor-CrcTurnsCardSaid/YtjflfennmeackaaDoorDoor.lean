/-
  What the text lays in the table of halves, read where a call begins. No condition.
-/
import Derived.Test.YtjflfennmeackaaDoorRows
import Derived.Test.YtjflfennmeackaaDoorCrcMore
import Derived.ProofKit
import Derived.LaidMore
import Derived.OpenShut
import Derived.Stop.Joined
namespace Go.Proofs.YtjflfennmeackaaDoor
open Go.ChangeShapes Go.WideShapes Go.ChangeAt Go.WideMaps Go.WideElems Go.RowKit

theorem gHalves : Tryd.prog.globalNamed "newsstand/crc.halves" = some 0 := by kernel_rfl
theorem tHalves : (Tryd.prog.globals[0]?).map (·.type) = some 38 := by kernel_rfl

/-- The row's listed variable. -/
def listed : List (String × DataW Unit) := [("newsstand/crc.halves", Rows.laid_newsstand_crc_halves)]

def halvesL : List Int := [0, 498536548, 997073096, 651767980, 1994146192, 1802195444, 1303535960, 1342533948, 3988292384, 4027552580, 3604390888, 3412177804, 2607071920, 2262029012, 2685067896, 3183342108]
theorem halvesL_at : ∀ i, i < 16 → halvesL[i]? = some (halfT i : Int) := by decide

theorem door_met (os : Os) (args : Array Value) : laidMetH Tryd.prog listed ((World.doorLaid Tryd.prog 400 os).forCall (fun _ _ => 0) ⟨#[], args, []⟩).memory :=
  laidMetH_of_parts3 (fuel := 8) (laidMet_of_run' 8 (by kernel_rfl) (by kernel_rfl)) (by kernel_rfl) (by kernel_rfl)

theorem halves_of {W : World} (h : laidMetH Tryd.prog listed W) : Halves W := by
  rw [MakeChecks.laidMetH_plain _ _ _ (by kernel_rfl)] at h
  obtain ⟨ps, ⟨g, t, cs, fuel, p, q, hg, ht, hv, hd, _, _⟩, _⟩ := h
  obtain rfl := Option.some.inj (gHalves.symm.trans hg)
  obtain rfl := Option.some.inj (tHalves.symm.trans ht)
  obtain ⟨xs, m, rfl, hx, hlen, hn, hel⟩ := DataW.trod_array Tryd.underlying38 hd
  have c1 : Tryd.prog.cellsOf 24 = 1 := by kernel_rfl
  have hx1 : halvesL.map (fun n => (DataW.lit (.int .u32 n) : DataW Unit)) = xs.map (·.1) := by
    injection congrArg Prod.fst hx
  have key : ∀ i, i < 16 → W.cell? ⟨0, i, none⟩ = some (.int .u32 (halfT i : Int)) := fun i hi => by
    have h1 := hel i hi
    rw [c1, List.getElem?_eq_getElem (by omega)] at h1
    obtain ⟨k, e1, e2, _⟩ := DataW.trod_int Tryd.underlying24 h1
    have h2 := congrArg (fun l => l[i]?) hx1
    simp only [List.getElem?_map, halvesL_at i hi, List.getElem?_eq_getElem (show i < xs.length by omega), e2, Option.map_some] at h2
    have hk : k = (halfT i : Int) := by simpa using h2.symm
    subst hk
    rw [World.var?_cell hg hv i]
    have h3 := congrArg (fun l => l[0]?) e1
    simp only [Nat.mul_one, List.getElem?_take, List.getElem?_drop, Nat.add_zero] at h3
    simpa using h3
  exact ⟨World.block_lt_of_cell? W ⟨0, 0, none⟩ (key 0 (by decide)), key⟩
end Go.Proofs.YtjflfennmeackaaDoor
