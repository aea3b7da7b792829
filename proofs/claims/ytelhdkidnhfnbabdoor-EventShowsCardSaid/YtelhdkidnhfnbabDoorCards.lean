/-
  DERIVED. GIVEN WITH THE SEED: THE CARDS: each row of YtelhdkidnhfnbabDoorRows.lean that lists a variable, with what it lists TIED to the program's text (the seventh form; the later family's looks); each row that meets fmt, with fmt's text TOLD by the authors' own Lean function (tested against real Go, not proved from fmt's source: count such statements apart). THE CARD IS WHAT COUNTS. Prove the row's statement (the work); the ties are given (YtelhdkidnhfnbabDoorTie.lean); close each card by the builder's one call (the guide's Derived/Test/ToyasCard.lean, 'card_holds'). Laid BY PROGRAM, IN A SANDBOX (cutbox-door.mjs). By AI agents, Wed Nov 11 2026. No macro, syntax, notation, axiom, sorry.
-/
import Derived.Test.YtelhdkidnhfnbabDoorRows
import GoSem.ClaimSeven
namespace Go.Proofs.YtelhdkidnhfnbabDoor
namespace Rows

/-- THE TIED CARD OF 'newsstandlaw14.EventTexts'. -/
def eventTextsCard : Claim7 := { stood := { row := eventTextsRow, standIns := [], harness := (true, "4886cf5c22f3ceac53f3e246a00dc08c56d513e781b482c853dbb9d30437e7ff"), looks := false }, kinds := [], alts := [], laidByText := true, laidKinds := [.data, .data, .data, .data, .data, .pinned], laidTests := true, laidLooks := .later }
def EventTextsCardSaid : Prop := Claim7.holds Tryd.pinned (.plain (OpenSpec.ofChange eventTextsSpec)) eventTextsCard

/-- THE TIED CARD OF 'newsstandlaw14.EventShows'. -/
def eventShowsCard : Claim7 := { stood := { row := eventShowsRow, standIns := [], harness := (true, "4886cf5c22f3ceac53f3e246a00dc08c56d513e781b482c853dbb9d30437e7ff"), looks := false }, kinds := [], alts := [], laidByText := true, laidKinds := [.data, .data, .data, .data, .data, .pinned], laidTests := true, laidLooks := .later }
def EventShowsCardSaid : Prop := Claim7.holds Tryd.pinned (.plain (OpenSpec.ofChange eventShowsSpec)) eventShowsCard

/-- THE SECOND FORM's CARD OF 'newsstandlaw14.EventTexts'. -/
def eventTextsUptoCard : Claim7 := { stood := { row := eventTextsUptoRow, standIns := [], harness := (true, "4886cf5c22f3ceac53f3e246a00dc08c56d513e781b482c853dbb9d30437e7ff"), looks := false }, kinds := [], alts := [], laidByText := true, laidKinds := [.data, .data, .data, .data, .data, .pinned], laidTests := true, laidLooks := .later }
def EventTextsUptoCardSaid : Prop := Claim7.holds Tryd.pinned (.plain (OpenSpec.upto eventTextsSpec)) eventTextsUptoCard

/-- THE SECOND FORM's CARD OF 'newsstandlaw14.EventShows'. -/
def eventShowsUptoCard : Claim7 := { stood := { row := eventShowsUptoRow, standIns := [], harness := (true, "4886cf5c22f3ceac53f3e246a00dc08c56d513e781b482c853dbb9d30437e7ff"), looks := false }, kinds := [], alts := [], laidByText := true, laidKinds := [.data, .data, .data, .data, .data, .pinned], laidTests := true, laidLooks := .later }
def EventShowsUptoCardSaid : Prop := Claim7.holds Tryd.pinned (.plain (OpenSpec.upto eventShowsSpec)) eventShowsUptoCard
end Rows
end Go.Proofs.YtelhdkidnhfnbabDoor
