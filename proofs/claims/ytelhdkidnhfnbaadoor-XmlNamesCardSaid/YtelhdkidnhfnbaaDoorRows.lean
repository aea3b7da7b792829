/-
  NARROWER THAN 'FOR EVERY INPUT', by the rows' own cells (each row's printed sentence says how): XmlTokens: laid · XmlWrites: laid · XmlNames: laid · XmlNothing: laid.
  DERIVED. THE GIVEN ROWS OF THIS SEAT. 4 by the template 'for every input the law returns true; each argument reads behind the call as it read before'; 0 by the template 'total and deterministic' (their statements: YtelhdkidnhfnbaaDoorTotals.lean).
  GIVEN WITH THE SEED: the statements are not yours to turn. If you find one false, say at which input.
  Laid BY PROGRAM, IN A SANDBOX (cutbox-rows.mjs): the forced cells as the released guide's own fill.sh prints them over the translation 6c2721ef0263ac46… (all of the seat's roots in one cut). By AI agents, Wed Nov 11 2026. No macro, syntax, notation, axiom, sorry.
-/
import Derived.Test.YtelhdkidnhfnbaaDoorChecked
import GoSem.Claim
import GoSem.ClaimJoined
import GoSem.ClaimMapViews
import Derived.JoinedTies
import Derived.KernelRfl
namespace Go.Proofs.YtelhdkidnhfnbaaDoor
/- THE CELL 'sum', in the pinned program and in every row, IS THE sha256 OF THE DUMP (.gsa) THAT YtelhdkidnhfnbaaDoorProg.lean LOADS. Nothing in Lean hashes anything: it is a label: what it is worth is what the hold of that sum in a sandbox is worth. -/
noncomputable def Tryd.pinned : Pinned := { name := "ytelhdkidnhfnbaadoor", sum := "6c2721ef0263ac46e314c6080050a515ac7955f0fbb24039bb6e1ca1bdb26048", checked := Tryd.checked }
namespace Rows
def none {H : Type} : Left H := { results := [], args := [] }

/- WHAT THE LISTED PACKAGE-LEVEL VARIABLES READ AS WHEN THE CALL BEGINS. Each datum BY PROGRAM (the guide's laid-datum.mjs) off the statement by which the dump's own 'gosem.cut.vars' lays the variable. In a bare row this is a premise. The card (YtelhdkidnhfnbaaDoorCards.lean) ties it to the program's text. -/
def laid_newsstand_entity_signs {H : Type} : DataW H := .agg [.agg [.lit (.int .i32 38), .lit (.string [97, 109, 112])], .agg [.lit (.int .i32 60), .lit (.string [108, 116])], .agg [.lit (.int .i32 62), .lit (.string [103, 116])], .agg [.lit (.int .i32 34), .lit (.string [113, 117, 111, 116])], .agg [.lit (.int .i32 39), .lit (.string [97, 112, 111, 115])]]

/-- 'newsstandlaw08.XmlTokens': WHATEVER THE INPUT: true; the input reads as it did. -/
def xmlTokensSpec : ChangeSpec := { name := "xmlTokens", fn := fun _ => fun
  | [d] => { results := [.lit (.bool true)], args := [d] }
  | _ => none }
def xmlTokensRow : OpenClaim := { program := "ytelhdkidnhfnbaadoor", sum := "6c2721ef0263ac46e314c6080050a515ac7955f0fbb24039bb6e1ca1bdb26048", func := "newsstand/newsstandlaw08.XmlTokens", spec := "xmlTokens", inPlace := ["internal/bytealg.IndexByteString", "internal/bytealg.IndexString", "internal/abi.NoEscape"], unfollowed := true, recurses := true, named := ["internal/bytealg.MaxLen", "newsstand/entity.signs"], apart := false, laid := [("newsstand/entity.signs", laid_newsstand_entity_signs)] }
def XmlTokensSaid : Prop := xmlTokensRow.holds Tryd.pinned (OpenSpec.ofChange xmlTokensSpec)

/-- ITS FALSE NEIGHBOUR: 'it returns false'. Refute it at one input. -/
def xmlTokensWrong : ChangeSpec := { name := "xmlTokens", fn := fun _ => fun
  | [d] => { results := [.lit (.bool false)], args := [d] }
  | _ => none }
def XmlTokensWrongFalsely : Prop := xmlTokensRow.holds Tryd.pinned (OpenSpec.ofChange xmlTokensWrong)

/-- 'newsstandlaw08.XmlWrites': WHATEVER THE INPUT: true; the input reads as it did. -/
def xmlWritesSpec : ChangeSpec := { name := "xmlWrites", fn := fun _ => fun
  | [d] => { results := [.lit (.bool true)], args := [d] }
  | _ => none }
def xmlWritesRow : OpenClaim := { program := "ytelhdkidnhfnbaadoor", sum := "6c2721ef0263ac46e314c6080050a515ac7955f0fbb24039bb6e1ca1bdb26048", func := "newsstand/newsstandlaw08.XmlWrites", spec := "xmlWrites", inPlace := ["internal/bytealg.IndexByteString", "internal/bytealg.IndexString", "internal/abi.NoEscape"], unfollowed := true, recurses := true, named := ["internal/bytealg.MaxLen", "newsstand/entity.signs"], apart := false, laid := [("newsstand/entity.signs", laid_newsstand_entity_signs)] }
def XmlWritesSaid : Prop := xmlWritesRow.holds Tryd.pinned (OpenSpec.ofChange xmlWritesSpec)

/-- ITS FALSE NEIGHBOUR: 'it returns false'. Refute it at one input. -/
def xmlWritesWrong : ChangeSpec := { name := "xmlWrites", fn := fun _ => fun
  | [d] => { results := [.lit (.bool false)], args := [d] }
  | _ => none }
def XmlWritesWrongFalsely : Prop := xmlWritesRow.holds Tryd.pinned (OpenSpec.ofChange xmlWritesWrong)

/-- 'newsstandlaw08.XmlNames': WHATEVER THE INPUT: true; the input reads as it did. -/
def xmlNamesSpec : ChangeSpec := { name := "xmlNames", fn := fun _ => fun
  | [d1, d2, d3] => { results := [.lit (.bool true)], args := [d1, d2, d3] }
  | _ => none }
def xmlNamesRow : OpenClaim := { program := "ytelhdkidnhfnbaadoor", sum := "6c2721ef0263ac46e314c6080050a515ac7955f0fbb24039bb6e1ca1bdb26048", func := "newsstand/newsstandlaw08.XmlNames", spec := "xmlNames", inPlace := ["internal/bytealg.IndexByteString", "internal/bytealg.IndexString", "internal/abi.NoEscape"], unfollowed := true, recurses := true, named := ["internal/bytealg.MaxLen", "newsstand/entity.signs"], apart := false, laid := [("newsstand/entity.signs", laid_newsstand_entity_signs)] }
def XmlNamesSaid : Prop := xmlNamesRow.holds Tryd.pinned (OpenSpec.ofChange xmlNamesSpec)

/-- ITS FALSE NEIGHBOUR: 'it returns false'. Refute it at one input. -/
def xmlNamesWrong : ChangeSpec := { name := "xmlNames", fn := fun _ => fun
  | [d1, d2, d3] => { results := [.lit (.bool false)], args := [d1, d2, d3] }
  | _ => none }
def XmlNamesWrongFalsely : Prop := xmlNamesRow.holds Tryd.pinned (OpenSpec.ofChange xmlNamesWrong)

/-- 'newsstandlaw08.XmlNothing': WHATEVER THE INPUT: true; the input reads as it did. -/
def xmlNothingSpec : ChangeSpec := { name := "xmlNothing", fn := fun _ => fun
  | [d1, d2, d3] => { results := [.lit (.bool true)], args := [d1, d2, d3] }
  | _ => none }
def xmlNothingRow : OpenClaim := { program := "ytelhdkidnhfnbaadoor", sum := "6c2721ef0263ac46e314c6080050a515ac7955f0fbb24039bb6e1ca1bdb26048", func := "newsstand/newsstandlaw08.XmlNothing", spec := "xmlNothing", inPlace := ["internal/bytealg.IndexByteString", "internal/bytealg.IndexString", "internal/abi.NoEscape"], unfollowed := true, recurses := true, named := ["internal/bytealg.MaxLen", "newsstand/entity.signs"], apart := false, laid := [("newsstand/entity.signs", laid_newsstand_entity_signs)] }
def XmlNothingSaid : Prop := xmlNothingRow.holds Tryd.pinned (OpenSpec.ofChange xmlNothingSpec)

/-- ITS FALSE NEIGHBOUR: 'it returns false'. Refute it at one input. -/
def xmlNothingWrong : ChangeSpec := { name := "xmlNothing", fn := fun _ => fun
  | [d1, d2, d3] => { results := [.lit (.bool false)], args := [d1, d2, d3] }
  | _ => none }
def XmlNothingWrongFalsely : Prop := xmlNothingRow.holds Tryd.pinned (OpenSpec.ofChange xmlNothingWrong)

/- THE SECOND FORM. 'bulk': how many values and letters a reading holds, each counted each time it is reached (what is shared counts as often as it is met; a slice's spare places count too). A statement '..UptoSaid' is the law's where the arguments, and the package variables that the reading takes, are together of bulk at most 1048576: NARROWER than '..Said'. Prove '..Said' where nothing that the law and all that it calls make is longer than what came in: it says more and counts as full. Else prove '..UptoSaid'. A law counts once. -/
mutual
def uptoBulk {H : Type} : DataW H → Nat
  | .lit (.string bytes) => bytes.length + 1
  | .lit _ => 1
  | .nil => 1
  | .ptr d => uptoBulk d + 1
  | .slice elems spare => uptoBulkAll elems + uptoBulkAll spare + 1
  | .agg parts => uptoBulkAll parts + 1
  | .iface _ d => uptoBulk d + 1
  | .map entries => uptoBulkEntries entries + 1
  | .held _ => 1
def uptoBulkAll {H : Type} : List (DataW H) → Nat
  | [] => 0
  | d :: r => uptoBulk d + uptoBulkAll r
def uptoBulkEntries {H : Type} : List (Lit × DataW H) → Nat
  | [] => 0
  | x :: r => uptoBulkEntry x + uptoBulkEntries r
def uptoBulkEntry {H : Type} : Lit × DataW H → Nat
  | (.string bytes, d) => bytes.length + uptoBulk d + 1
  | (_, d) => uptoBulk d + 1
 end
def uptoSmall : (H : Type) → List (DataW H) → Bool := fun _ ds => decide (uptoBulkAll ds ≤ 1048576)
def OpenSpec.upto (s : _root_.Go.ChangeSpec) : _root_.Go.OpenSpec := { _root_.Go.OpenSpec.ofChange s with cond := some uptoSmall }

/-- 'newsstandlaw08.XmlTokens', WHERE WHAT IT READS IS OF BULK AT MOST 1048576: true; the input reads as it did. -/
def xmlTokensUptoRow : OpenClaim := { program := "ytelhdkidnhfnbaadoor", sum := "6c2721ef0263ac46e314c6080050a515ac7955f0fbb24039bb6e1ca1bdb26048", func := "newsstand/newsstandlaw08.XmlTokens", spec := "xmlTokens", inPlace := ["internal/bytealg.IndexByteString", "internal/bytealg.IndexString", "internal/abi.NoEscape"], unfollowed := true, recurses := true, named := ["internal/bytealg.MaxLen", "newsstand/entity.signs"], apart := false, laid := [("newsstand/entity.signs", laid_newsstand_entity_signs)], narrowed := true }
def XmlTokensUptoSaid : Prop := xmlTokensUptoRow.holds Tryd.pinned (OpenSpec.upto xmlTokensSpec)

/-- 'newsstandlaw08.XmlWrites', WHERE WHAT IT READS IS OF BULK AT MOST 1048576: true; the input reads as it did. -/
def xmlWritesUptoRow : OpenClaim := { program := "ytelhdkidnhfnbaadoor", sum := "6c2721ef0263ac46e314c6080050a515ac7955f0fbb24039bb6e1ca1bdb26048", func := "newsstand/newsstandlaw08.XmlWrites", spec := "xmlWrites", inPlace := ["internal/bytealg.IndexByteString", "internal/bytealg.IndexString", "internal/abi.NoEscape"], unfollowed := true, recurses := true, named := ["internal/bytealg.MaxLen", "newsstand/entity.signs"], apart := false, laid := [("newsstand/entity.signs", laid_newsstand_entity_signs)], narrowed := true }
def XmlWritesUptoSaid : Prop := xmlWritesUptoRow.holds Tryd.pinned (OpenSpec.upto xmlWritesSpec)

/-- 'newsstandlaw08.XmlNames', WHERE WHAT IT READS IS OF BULK AT MOST 1048576: true; the input reads as it did. -/
def xmlNamesUptoRow : OpenClaim := { program := "ytelhdkidnhfnbaadoor", sum := "6c2721ef0263ac46e314c6080050a515ac7955f0fbb24039bb6e1ca1bdb26048", func := "newsstand/newsstandlaw08.XmlNames", spec := "xmlNames", inPlace := ["internal/bytealg.IndexByteString", "internal/bytealg.IndexString", "internal/abi.NoEscape"], unfollowed := true, recurses := true, named := ["internal/bytealg.MaxLen", "newsstand/entity.signs"], apart := false, laid := [("newsstand/entity.signs", laid_newsstand_entity_signs)], narrowed := true }
def XmlNamesUptoSaid : Prop := xmlNamesUptoRow.holds Tryd.pinned (OpenSpec.upto xmlNamesSpec)

/-- 'newsstandlaw08.XmlNothing', WHERE WHAT IT READS IS OF BULK AT MOST 1048576: true; the input reads as it did. -/
def xmlNothingUptoRow : OpenClaim := { program := "ytelhdkidnhfnbaadoor", sum := "6c2721ef0263ac46e314c6080050a515ac7955f0fbb24039bb6e1ca1bdb26048", func := "newsstand/newsstandlaw08.XmlNothing", spec := "xmlNothing", inPlace := ["internal/bytealg.IndexByteString", "internal/bytealg.IndexString", "internal/abi.NoEscape"], unfollowed := true, recurses := true, named := ["internal/bytealg.MaxLen", "newsstand/entity.signs"], apart := false, laid := [("newsstand/entity.signs", laid_newsstand_entity_signs)], narrowed := true }
def XmlNothingUptoSaid : Prop := xmlNothingUptoRow.holds Tryd.pinned (OpenSpec.upto xmlNothingSpec)

end Rows
end Go.Proofs.YtelhdkidnhfnbaaDoor
