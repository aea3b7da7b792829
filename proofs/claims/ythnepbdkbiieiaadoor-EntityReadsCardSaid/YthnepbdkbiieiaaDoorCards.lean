/-
  DERIVED. GIVEN WITH THE SEED: THE CARDS: each row of YthnepbdkbiieiaaDoorRows.lean that lists a variable, with what it lists TIED to the program's text (the seventh form; the later family's looks); each row that meets fmt, with fmt's text TOLD by the authors' own Lean function (tested against real Go, not proved from fmt's source: count such statements apart). THE CARD IS WHAT COUNTS. Prove the row's statement (the work); the ties are given (YthnepbdkbiieiaaDoorTie.lean); close each card by the builder's one call (the guide's Derived/Test/ToyasCard.lean, 'card_holds'). Laid BY PROGRAM, IN A SANDBOX (cutbox-door.mjs). By AI agents, Wed Nov 11 2026. No macro, syntax, notation, axiom, sorry.
-/
import Derived.Test.YthnepbdkbiieiaaDoorRows
import GoSem.ClaimSeven
namespace Go.Proofs.YthnepbdkbiieiaaDoor
namespace Rows

/-- THE TIED CARD OF 'newsstandlaw07.EntitySigns'. -/
def entitySignsCard : Claim7 := { stood := { row := entitySignsRow, standIns := [], harness := (true, "22db0fd626e4acb5dae506beb07b8dc3d71407b7bb2bf728633d160663480180"), looks := false }, kinds := [], alts := [], laidByText := true, laidKinds := [.data], laidTests := true, laidLooks := .later }
def EntitySignsCardSaid : Prop := Claim7.holds Tryd.pinned (.plain (OpenSpec.ofChange entitySignsSpec)) entitySignsCard

/-- THE TIED CARD OF 'newsstandlaw07.EntityReads'. -/
def entityReadsCard : Claim7 := { stood := { row := entityReadsRow, standIns := [], harness := (true, "22db0fd626e4acb5dae506beb07b8dc3d71407b7bb2bf728633d160663480180"), looks := false }, kinds := [], alts := [], laidByText := true, laidKinds := [.data], laidTests := true, laidLooks := .later }
def EntityReadsCardSaid : Prop := Claim7.holds Tryd.pinned (.plain (OpenSpec.ofChange entityReadsSpec)) entityReadsCard

/-- THE TIED CARD OF 'newsstandlaw07.EntityWrites'. -/
def entityWritesCard : Claim7 := { stood := { row := entityWritesRow, standIns := [], harness := (true, "22db0fd626e4acb5dae506beb07b8dc3d71407b7bb2bf728633d160663480180"), looks := false }, kinds := [], alts := [], laidByText := true, laidKinds := [.data], laidTests := true, laidLooks := .later }
def EntityWritesCardSaid : Prop := Claim7.holds Tryd.pinned (.plain (OpenSpec.ofChange entityWritesSpec)) entityWritesCard

/-- THE TIED CARD OF 'newsstandlaw07.EntityBoth'. -/
def entityBothCard : Claim7 := { stood := { row := entityBothRow, standIns := [], harness := (true, "22db0fd626e4acb5dae506beb07b8dc3d71407b7bb2bf728633d160663480180"), looks := false }, kinds := [], alts := [], laidByText := true, laidKinds := [.data], laidTests := true, laidLooks := .later }
def EntityBothCardSaid : Prop := Claim7.holds Tryd.pinned (.plain (OpenSpec.ofChange entityBothSpec)) entityBothCard

/-- THE TIED CARD OF 'newsstandlaw08.XmlTokens'. -/
def xmlTokensCard : Claim7 := { stood := { row := xmlTokensRow, standIns := [], harness := (true, "22db0fd626e4acb5dae506beb07b8dc3d71407b7bb2bf728633d160663480180"), looks := false }, kinds := [], alts := [], laidByText := true, laidKinds := [.data], laidTests := true, laidLooks := .later }
def XmlTokensCardSaid : Prop := Claim7.holds Tryd.pinned (.plain (OpenSpec.ofChange xmlTokensSpec)) xmlTokensCard

/-- THE TIED CARD OF 'newsstandlaw08.XmlWrites'. -/
def xmlWritesCard : Claim7 := { stood := { row := xmlWritesRow, standIns := [], harness := (true, "22db0fd626e4acb5dae506beb07b8dc3d71407b7bb2bf728633d160663480180"), looks := false }, kinds := [], alts := [], laidByText := true, laidKinds := [.data], laidTests := true, laidLooks := .later }
def XmlWritesCardSaid : Prop := Claim7.holds Tryd.pinned (.plain (OpenSpec.ofChange xmlWritesSpec)) xmlWritesCard

/-- THE TIED CARD OF 'newsstandlaw08.XmlNames'. -/
def xmlNamesCard : Claim7 := { stood := { row := xmlNamesRow, standIns := [], harness := (true, "22db0fd626e4acb5dae506beb07b8dc3d71407b7bb2bf728633d160663480180"), looks := false }, kinds := [], alts := [], laidByText := true, laidKinds := [.data], laidTests := true, laidLooks := .later }
def XmlNamesCardSaid : Prop := Claim7.holds Tryd.pinned (.plain (OpenSpec.ofChange xmlNamesSpec)) xmlNamesCard

/-- THE TIED CARD OF 'newsstandlaw08.XmlNothing'. -/
def xmlNothingCard : Claim7 := { stood := { row := xmlNothingRow, standIns := [], harness := (true, "22db0fd626e4acb5dae506beb07b8dc3d71407b7bb2bf728633d160663480180"), looks := false }, kinds := [], alts := [], laidByText := true, laidKinds := [.data], laidTests := true, laidLooks := .later }
def XmlNothingCardSaid : Prop := Claim7.holds Tryd.pinned (.plain (OpenSpec.ofChange xmlNothingSpec)) xmlNothingCard

/-- THE SECOND FORM's CARD OF 'newsstandlaw07.EntitySigns'. -/
def entitySignsUptoCard : Claim7 := { stood := { row := entitySignsUptoRow, standIns := [], harness := (true, "22db0fd626e4acb5dae506beb07b8dc3d71407b7bb2bf728633d160663480180"), looks := false }, kinds := [], alts := [], laidByText := true, laidKinds := [.data], laidTests := true, laidLooks := .later }
def EntitySignsUptoCardSaid : Prop := Claim7.holds Tryd.pinned (.plain (OpenSpec.upto entitySignsSpec)) entitySignsUptoCard

/-- THE SECOND FORM's CARD OF 'newsstandlaw07.EntityReads'. -/
def entityReadsUptoCard : Claim7 := { stood := { row := entityReadsUptoRow, standIns := [], harness := (true, "22db0fd626e4acb5dae506beb07b8dc3d71407b7bb2bf728633d160663480180"), looks := false }, kinds := [], alts := [], laidByText := true, laidKinds := [.data], laidTests := true, laidLooks := .later }
def EntityReadsUptoCardSaid : Prop := Claim7.holds Tryd.pinned (.plain (OpenSpec.upto entityReadsSpec)) entityReadsUptoCard

/-- THE SECOND FORM's CARD OF 'newsstandlaw07.EntityWrites'. -/
def entityWritesUptoCard : Claim7 := { stood := { row := entityWritesUptoRow, standIns := [], harness := (true, "22db0fd626e4acb5dae506beb07b8dc3d71407b7bb2bf728633d160663480180"), looks := false }, kinds := [], alts := [], laidByText := true, laidKinds := [.data], laidTests := true, laidLooks := .later }
def EntityWritesUptoCardSaid : Prop := Claim7.holds Tryd.pinned (.plain (OpenSpec.upto entityWritesSpec)) entityWritesUptoCard

/-- THE SECOND FORM's CARD OF 'newsstandlaw07.EntityBoth'. -/
def entityBothUptoCard : Claim7 := { stood := { row := entityBothUptoRow, standIns := [], harness := (true, "22db0fd626e4acb5dae506beb07b8dc3d71407b7bb2bf728633d160663480180"), looks := false }, kinds := [], alts := [], laidByText := true, laidKinds := [.data], laidTests := true, laidLooks := .later }
def EntityBothUptoCardSaid : Prop := Claim7.holds Tryd.pinned (.plain (OpenSpec.upto entityBothSpec)) entityBothUptoCard

/-- THE SECOND FORM's CARD OF 'newsstandlaw08.XmlTokens'. -/
def xmlTokensUptoCard : Claim7 := { stood := { row := xmlTokensUptoRow, standIns := [], harness := (true, "22db0fd626e4acb5dae506beb07b8dc3d71407b7bb2bf728633d160663480180"), looks := false }, kinds := [], alts := [], laidByText := true, laidKinds := [.data], laidTests := true, laidLooks := .later }
def XmlTokensUptoCardSaid : Prop := Claim7.holds Tryd.pinned (.plain (OpenSpec.upto xmlTokensSpec)) xmlTokensUptoCard

/-- THE SECOND FORM's CARD OF 'newsstandlaw08.XmlWrites'. -/
def xmlWritesUptoCard : Claim7 := { stood := { row := xmlWritesUptoRow, standIns := [], harness := (true, "22db0fd626e4acb5dae506beb07b8dc3d71407b7bb2bf728633d160663480180"), looks := false }, kinds := [], alts := [], laidByText := true, laidKinds := [.data], laidTests := true, laidLooks := .later }
def XmlWritesUptoCardSaid : Prop := Claim7.holds Tryd.pinned (.plain (OpenSpec.upto xmlWritesSpec)) xmlWritesUptoCard

/-- THE SECOND FORM's CARD OF 'newsstandlaw08.XmlNames'. -/
def xmlNamesUptoCard : Claim7 := { stood := { row := xmlNamesUptoRow, standIns := [], harness := (true, "22db0fd626e4acb5dae506beb07b8dc3d71407b7bb2bf728633d160663480180"), looks := false }, kinds := [], alts := [], laidByText := true, laidKinds := [.data], laidTests := true, laidLooks := .later }
def XmlNamesUptoCardSaid : Prop := Claim7.holds Tryd.pinned (.plain (OpenSpec.upto xmlNamesSpec)) xmlNamesUptoCard

/-- THE SECOND FORM's CARD OF 'newsstandlaw08.XmlNothing'. -/
def xmlNothingUptoCard : Claim7 := { stood := { row := xmlNothingUptoRow, standIns := [], harness := (true, "22db0fd626e4acb5dae506beb07b8dc3d71407b7bb2bf728633d160663480180"), looks := false }, kinds := [], alts := [], laidByText := true, laidKinds := [.data], laidTests := true, laidLooks := .later }
def XmlNothingUptoCardSaid : Prop := Claim7.holds Tryd.pinned (.plain (OpenSpec.upto xmlNothingSpec)) xmlNothingUptoCard
end Rows
end Go.Proofs.YthnepbdkbiieiaaDoor
