/-
  DERIVED. GIVEN WITH THE SEED: THE CARDS: each row of YtmimkcdomgoefabDoorRows.lean that lists a variable, with what it lists TIED to the program's text (the seventh form; the later family's looks); each row that meets fmt, with fmt's text TOLD by the authors' own Lean function (tested against real Go, not proved from fmt's source: count such statements apart). THE CARD IS WHAT COUNTS. Prove the row's statement (the work); the ties are given (YtmimkcdomgoefabDoorTie.lean); close each card by the builder's one call (the guide's Derived/Test/ToyasCard.lean, 'card_holds'). Laid BY PROGRAM, IN A SANDBOX (cutbox-door.mjs). By AI agents, Wed Nov 11 2026. No macro, syntax, notation, axiom, sorry.
-/
import Derived.Test.YtmimkcdomgoefabDoorRows
import GoSem.ClaimSeven
namespace Go.Proofs.YtmimkcdomgoefabDoor
namespace Rows

/-- THE TIED CARD OF 'newsstandlaw04.DateReads'. -/
def dateReadsCard : Claim7 := { stood := { row := dateReadsRow, standIns := [], harness := (true, "5c99017c5c5f4470969e1702e3f4b0bcf9c82ffb5f41069b6b1ad50b1fb6bf64"), looks := false }, kinds := [], alts := [], laidByText := true, laidKinds := [.data, .data, .data], laidTests := true, laidLooks := .later }
def DateReadsCardSaid : Prop := Claim7.holds Tryd.pinned (.plain (OpenSpec.ofChange dateReadsSpec)) dateReadsCard

/-- THE SECOND FORM's CARD OF 'newsstandlaw04.DateReads'. -/
def dateReadsUptoCard : Claim7 := { stood := { row := dateReadsUptoRow, standIns := [], harness := (true, "5c99017c5c5f4470969e1702e3f4b0bcf9c82ffb5f41069b6b1ad50b1fb6bf64"), looks := false }, kinds := [], alts := [], laidByText := true, laidKinds := [.data, .data, .data], laidTests := true, laidLooks := .later }
def DateReadsUptoCardSaid : Prop := Claim7.holds Tryd.pinned (.plain (OpenSpec.upto dateReadsSpec)) dateReadsUptoCard
end Rows
end Go.Proofs.YtmimkcdomgoefabDoor
