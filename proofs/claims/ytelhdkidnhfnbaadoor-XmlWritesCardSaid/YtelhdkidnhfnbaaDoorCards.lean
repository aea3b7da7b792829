/-
  DERIVED. GIVEN WITH THE SEED: THE CARDS: each row of YtelhdkidnhfnbaaDoorRows.lean that lists a variable, with what it lists TIED to the program's text (the seventh form; the later family's looks); each row that meets fmt, with fmt's text TOLD by the authors' own Lean function (tested against real Go, not proved from fmt's source: count such statements apart). THE CARD IS WHAT COUNTS. Prove the row's statement (the work); the ties are given (YtelhdkidnhfnbaaDoorTie.lean); close each card by the builder's one call (the guide's Derived/Test/ToyasCard.lean, 'card_holds'). Laid BY PROGRAM, IN A SANDBOX (cutbox-door.mjs). By AI agents, Wed Nov 11 2026. No macro, syntax, notation, axiom, sorry.
-/
import Derived.Test.YtelhdkidnhfnbaaDoorRows
import GoSem.ClaimSeven
namespace Go.Proofs.YtelhdkidnhfnbaaDoor
namespace Rows

/-- THE TIED CARD OF 'newsstandlaw08.XmlTokens'. -/
def xmlTokensCard : Claim7 := { stood := { row := xmlTokensRow, standIns := [], harness := (true, "56698a70d104a8d54aa48ac8db918fce556cb2a56bee17a6d0c61904d87192ac"), looks := false }, kinds := [], alts := [], laidByText := true, laidKinds := [.data], laidTests := true, laidLooks := .later }
def XmlTokensCardSaid : Prop := Claim7.holds Tryd.pinned (.plain (OpenSpec.ofChange xmlTokensSpec)) xmlTokensCard

/-- THE TIED CARD OF 'newsstandlaw08.XmlWrites'. -/
def xmlWritesCard : Claim7 := { stood := { row := xmlWritesRow, standIns := [], harness := (true, "56698a70d104a8d54aa48ac8db918fce556cb2a56bee17a6d0c61904d87192ac"), looks := false }, kinds := [], alts := [], laidByText := true, laidKinds := [.data], laidTests := true, laidLooks := .later }
def XmlWritesCardSaid : Prop := Claim7.holds Tryd.pinned (.plain (OpenSpec.ofChange xmlWritesSpec)) xmlWritesCard

/-- THE TIED CARD OF 'newsstandlaw08.XmlNames'. -/
def xmlNamesCard : Claim7 := { stood := { row := xmlNamesRow, standIns := [], harness := (true, "56698a70d104a8d54aa48ac8db918fce556cb2a56bee17a6d0c61904d87192ac"), looks := false }, kinds := [], alts := [], laidByText := true, laidKinds := [.data], laidTests := true, laidLooks := .later }
def XmlNamesCardSaid : Prop := Claim7.holds Tryd.pinned (.plain (OpenSpec.ofChange xmlNamesSpec)) xmlNamesCard

/-- THE TIED CARD OF 'newsstandlaw08.XmlNothing'. -/
def xmlNothingCard : Claim7 := { stood := { row := xmlNothingRow, standIns := [], harness := (true, "56698a70d104a8d54aa48ac8db918fce556cb2a56bee17a6d0c61904d87192ac"), looks := false }, kinds := [], alts := [], laidByText := true, laidKinds := [.data], laidTests := true, laidLooks := .later }
def XmlNothingCardSaid : Prop := Claim7.holds Tryd.pinned (.plain (OpenSpec.ofChange xmlNothingSpec)) xmlNothingCard

/-- THE SECOND FORM's CARD OF 'newsstandlaw08.XmlTokens'. -/
def xmlTokensUptoCard : Claim7 := { stood := { row := xmlTokensUptoRow, standIns := [], harness := (true, "56698a70d104a8d54aa48ac8db918fce556cb2a56bee17a6d0c61904d87192ac"), looks := false }, kinds := [], alts := [], laidByText := true, laidKinds := [.data], laidTests := true, laidLooks := .later }
def XmlTokensUptoCardSaid : Prop := Claim7.holds Tryd.pinned (.plain (OpenSpec.upto xmlTokensSpec)) xmlTokensUptoCard

/-- THE SECOND FORM's CARD OF 'newsstandlaw08.XmlWrites'. -/
def xmlWritesUptoCard : Claim7 := { stood := { row := xmlWritesUptoRow, standIns := [], harness := (true, "56698a70d104a8d54aa48ac8db918fce556cb2a56bee17a6d0c61904d87192ac"), looks := false }, kinds := [], alts := [], laidByText := true, laidKinds := [.data], laidTests := true, laidLooks := .later }
def XmlWritesUptoCardSaid : Prop := Claim7.holds Tryd.pinned (.plain (OpenSpec.upto xmlWritesSpec)) xmlWritesUptoCard

/-- THE SECOND FORM's CARD OF 'newsstandlaw08.XmlNames'. -/
def xmlNamesUptoCard : Claim7 := { stood := { row := xmlNamesUptoRow, standIns := [], harness := (true, "56698a70d104a8d54aa48ac8db918fce556cb2a56bee17a6d0c61904d87192ac"), looks := false }, kinds := [], alts := [], laidByText := true, laidKinds := [.data], laidTests := true, laidLooks := .later }
def XmlNamesUptoCardSaid : Prop := Claim7.holds Tryd.pinned (.plain (OpenSpec.upto xmlNamesSpec)) xmlNamesUptoCard

/-- THE SECOND FORM's CARD OF 'newsstandlaw08.XmlNothing'. -/
def xmlNothingUptoCard : Claim7 := { stood := { row := xmlNothingUptoRow, standIns := [], harness := (true, "56698a70d104a8d54aa48ac8db918fce556cb2a56bee17a6d0c61904d87192ac"), looks := false }, kinds := [], alts := [], laidByText := true, laidKinds := [.data], laidTests := true, laidLooks := .later }
def XmlNothingUptoCardSaid : Prop := Claim7.holds Tryd.pinned (.plain (OpenSpec.upto xmlNothingSpec)) xmlNothingUptoCard
end Rows
end Go.Proofs.YtelhdkidnhfnbaaDoor
