/-
  No cell of these rows narrows 'for every input' (looked for: loops, veiled, ifaces, maps, wideKeys, modest, calm, conditions, laid).
  DERIVED. THE GIVEN ROWS OF THIS SEAT. 8 by the template 'for every input the law returns true; each argument reads behind the call as it read before'; 0 by the template 'total and deterministic' (their statements: YtmimkcdomgoefaaTotals.lean).
  GIVEN WITH THE SEED: the statements are not yours to turn. If you find one false, say at which input.
  Laid BY PROGRAM, IN A SANDBOX (cutbox-rows.mjs): the forced cells as the released guide's own fill.sh prints them over the translation 0ff0d5e5197ef14e… (all of the seat's roots in one cut). By AI agents, Wed Nov 11 2026. No macro, syntax, notation, axiom, sorry.
-/
import Derived.Test.YtmimkcdomgoefaaChecked
import GoSem.Claim
import GoSem.ClaimJoined
import GoSem.ClaimMapViews
import Derived.JoinedTies
import Derived.KernelRfl
namespace Go.Proofs.Ytmimkcdomgoefaa
/- THE CELL 'sum', in the pinned program and in every row, IS THE sha256 OF THE DUMP (.gsa) THAT YtmimkcdomgoefaaProg.lean LOADS. Nothing in Lean hashes anything: it is a label: what it is worth is what the hold of that sum in a sandbox is worth. -/
noncomputable def Try.pinned : Pinned := { name := "ytmimkcdomgoefaa", sum := "0ff0d5e5197ef14e06a107f5f4b2f7f1b1eb6097a1ad286c5a9091e22b32614e", checked := Try.checked }
namespace Rows
def none {H : Type} : Left H := { results := [], args := [] }

/-- 'newsstandlaw05.UtfRunes': WHATEVER THE INPUT: true; the input reads as it did. -/
def utfRunesSpec : ChangeSpec := { name := "utfRunes", fn := fun _ => fun
  | [d] => { results := [.lit (.bool true)], args := [d] }
  | _ => none }
def utfRunesRow : OpenClaim := { program := "ytmimkcdomgoefaa", sum := "0ff0d5e5197ef14e06a107f5f4b2f7f1b1eb6097a1ad286c5a9091e22b32614e", func := "newsstand/newsstandlaw05.UtfRunes", spec := "utfRunes", inPlace := ["internal/abi.NoEscape"], apart := false }
def UtfRunesSaid : Prop := utfRunesRow.holds Try.pinned (OpenSpec.ofChange utfRunesSpec)

/-- ITS FALSE NEIGHBOUR: 'it returns false'. Refute it at one input. -/
def utfRunesWrong : ChangeSpec := { name := "utfRunes", fn := fun _ => fun
  | [d] => { results := [.lit (.bool false)], args := [d] }
  | _ => none }
def UtfRunesWrongFalsely : Prop := utfRunesRow.holds Try.pinned (OpenSpec.ofChange utfRunesWrong)

/-- 'newsstandlaw05.UtfPuts': WHATEVER THE INPUT: true; the input reads as it did. -/
def utfPutsSpec : ChangeSpec := { name := "utfPuts", fn := fun _ => fun
  | [d] => { results := [.lit (.bool true)], args := [d] }
  | _ => none }
def utfPutsRow : OpenClaim := { program := "ytmimkcdomgoefaa", sum := "0ff0d5e5197ef14e06a107f5f4b2f7f1b1eb6097a1ad286c5a9091e22b32614e", func := "newsstand/newsstandlaw05.UtfPuts", spec := "utfPuts", inPlace := ["internal/abi.NoEscape"], apart := false }
def UtfPutsSaid : Prop := utfPutsRow.holds Try.pinned (OpenSpec.ofChange utfPutsSpec)

/-- ITS FALSE NEIGHBOUR: 'it returns false'. Refute it at one input. -/
def utfPutsWrong : ChangeSpec := { name := "utfPuts", fn := fun _ => fun
  | [d] => { results := [.lit (.bool false)], args := [d] }
  | _ => none }
def UtfPutsWrongFalsely : Prop := utfPutsRow.holds Try.pinned (OpenSpec.ofChange utfPutsWrong)

/-- 'newsstandlaw05.UtfCleans': WHATEVER THE INPUT: true; the input reads as it did. -/
def utfCleansSpec : ChangeSpec := { name := "utfCleans", fn := fun _ => fun
  | [d] => { results := [.lit (.bool true)], args := [d] }
  | _ => none }
def utfCleansRow : OpenClaim := { program := "ytmimkcdomgoefaa", sum := "0ff0d5e5197ef14e06a107f5f4b2f7f1b1eb6097a1ad286c5a9091e22b32614e", func := "newsstand/newsstandlaw05.UtfCleans", spec := "utfCleans", inPlace := ["internal/abi.NoEscape"], apart := false }
def UtfCleansSaid : Prop := utfCleansRow.holds Try.pinned (OpenSpec.ofChange utfCleansSpec)

/-- ITS FALSE NEIGHBOUR: 'it returns false'. Refute it at one input. -/
def utfCleansWrong : ChangeSpec := { name := "utfCleans", fn := fun _ => fun
  | [d] => { results := [.lit (.bool false)], args := [d] }
  | _ => none }
def UtfCleansWrongFalsely : Prop := utfCleansRow.holds Try.pinned (OpenSpec.ofChange utfCleansWrong)

/-- 'newsstandlaw05.UtfCuts': WHATEVER THE INPUT: true; the input reads as it did. -/
def utfCutsSpec : ChangeSpec := { name := "utfCuts", fn := fun _ => fun
  | [d1, d2] => { results := [.lit (.bool true)], args := [d1, d2] }
  | _ => none }
def utfCutsRow : OpenClaim := { program := "ytmimkcdomgoefaa", sum := "0ff0d5e5197ef14e06a107f5f4b2f7f1b1eb6097a1ad286c5a9091e22b32614e", func := "newsstand/newsstandlaw05.UtfCuts", spec := "utfCuts", inPlace := ["internal/abi.NoEscape"], apart := false }
def UtfCutsSaid : Prop := utfCutsRow.holds Try.pinned (OpenSpec.ofChange utfCutsSpec)

/-- ITS FALSE NEIGHBOUR: 'it returns false'. Refute it at one input. -/
def utfCutsWrong : ChangeSpec := { name := "utfCuts", fn := fun _ => fun
  | [d1, d2] => { results := [.lit (.bool false)], args := [d1, d2] }
  | _ => none }
def UtfCutsWrongFalsely : Prop := utfCutsRow.holds Try.pinned (OpenSpec.ofChange utfCutsWrong)

/-- 'newsstandlaw06.WordsOf': WHATEVER THE INPUT: true; the input reads as it did. -/
def wordsOfSpec : ChangeSpec := { name := "wordsOf", fn := fun _ => fun
  | [d] => { results := [.lit (.bool true)], args := [d] }
  | _ => none }
def wordsOfRow : OpenClaim := { program := "ytmimkcdomgoefaa", sum := "0ff0d5e5197ef14e06a107f5f4b2f7f1b1eb6097a1ad286c5a9091e22b32614e", func := "newsstand/newsstandlaw06.WordsOf", spec := "wordsOf", inPlace := ["internal/abi.NoEscape"], unfollowed := true, recurses := true, apart := false }
def WordsOfSaid : Prop := wordsOfRow.holds Try.pinned (OpenSpec.ofChange wordsOfSpec)

/-- ITS FALSE NEIGHBOUR: 'it returns false'. Refute it at one input. -/
def wordsOfWrong : ChangeSpec := { name := "wordsOf", fn := fun _ => fun
  | [d] => { results := [.lit (.bool false)], args := [d] }
  | _ => none }
def WordsOfWrongFalsely : Prop := wordsOfRow.holds Try.pinned (OpenSpec.ofChange wordsOfWrong)

/-- 'newsstandlaw06.WordsHas': WHATEVER THE INPUT: true; the input reads as it did. -/
def wordsHasSpec : ChangeSpec := { name := "wordsHas", fn := fun _ => fun
  | [d1, d2] => { results := [.lit (.bool true)], args := [d1, d2] }
  | _ => none }
def wordsHasRow : OpenClaim := { program := "ytmimkcdomgoefaa", sum := "0ff0d5e5197ef14e06a107f5f4b2f7f1b1eb6097a1ad286c5a9091e22b32614e", func := "newsstand/newsstandlaw06.WordsHas", spec := "wordsHas", inPlace := ["internal/abi.NoEscape"], unfollowed := true, recurses := true, apart := false }
def WordsHasSaid : Prop := wordsHasRow.holds Try.pinned (OpenSpec.ofChange wordsHasSpec)

/-- ITS FALSE NEIGHBOUR: 'it returns false'. Refute it at one input. -/
def wordsHasWrong : ChangeSpec := { name := "wordsHas", fn := fun _ => fun
  | [d1, d2] => { results := [.lit (.bool false)], args := [d1, d2] }
  | _ => none }
def WordsHasWrongFalsely : Prop := wordsHasRow.holds Try.pinned (OpenSpec.ofChange wordsHasWrong)

/-- 'newsstandlaw06.WordsJoined': WHATEVER THE INPUT: true; the input reads as it did. -/
def wordsJoinedSpec : ChangeSpec := { name := "wordsJoined", fn := fun _ => fun
  | [d] => { results := [.lit (.bool true)], args := [d] }
  | _ => none }
def wordsJoinedRow : OpenClaim := { program := "ytmimkcdomgoefaa", sum := "0ff0d5e5197ef14e06a107f5f4b2f7f1b1eb6097a1ad286c5a9091e22b32614e", func := "newsstand/newsstandlaw06.WordsJoined", spec := "wordsJoined", inPlace := ["internal/abi.NoEscape"], unfollowed := true, recurses := true, apart := false }
def WordsJoinedSaid : Prop := wordsJoinedRow.holds Try.pinned (OpenSpec.ofChange wordsJoinedSpec)

/-- ITS FALSE NEIGHBOUR: 'it returns false'. Refute it at one input. -/
def wordsJoinedWrong : ChangeSpec := { name := "wordsJoined", fn := fun _ => fun
  | [d] => { results := [.lit (.bool false)], args := [d] }
  | _ => none }
def WordsJoinedWrongFalsely : Prop := wordsJoinedRow.holds Try.pinned (OpenSpec.ofChange wordsJoinedWrong)

/-- 'newsstandlaw06.WordsBoth': WHATEVER THE INPUT: true; the input reads as it did. -/
def wordsBothSpec : ChangeSpec := { name := "wordsBoth", fn := fun _ => fun
  | [d1, d2] => { results := [.lit (.bool true)], args := [d1, d2] }
  | _ => none }
def wordsBothRow : OpenClaim := { program := "ytmimkcdomgoefaa", sum := "0ff0d5e5197ef14e06a107f5f4b2f7f1b1eb6097a1ad286c5a9091e22b32614e", func := "newsstand/newsstandlaw06.WordsBoth", spec := "wordsBoth", inPlace := ["internal/abi.NoEscape"], unfollowed := true, recurses := true, apart := false }
def WordsBothSaid : Prop := wordsBothRow.holds Try.pinned (OpenSpec.ofChange wordsBothSpec)

/-- ITS FALSE NEIGHBOUR: 'it returns false'. Refute it at one input. -/
def wordsBothWrong : ChangeSpec := { name := "wordsBoth", fn := fun _ => fun
  | [d1, d2] => { results := [.lit (.bool false)], args := [d1, d2] }
  | _ => none }
def WordsBothWrongFalsely : Prop := wordsBothRow.holds Try.pinned (OpenSpec.ofChange wordsBothWrong)

/- THE SECOND FORM. 'bulk': how many values and letters a reading holds, each counted each time it is reached (what is shared counts as often as it is met; a slice's spare places count too). A statement '..UptoSaid' is the law's where the arguments, and the package variables that the reading takes, are together of bulk at most 1048576: NARROWER than '..Said'. Prove '..Said' where nothing that the law and all that it calls make is longer than what came in: it says more and counts as full. Else prove '..UptoSaid'. A law counts once. -/
mutual
def uptoBulk {H : Type} : DataW H → Nat
  | .lit (.string bytes) => bytes.length + 1
  | .lit _ => 1
  | .nil => 1
  | .ptr d => uptoBulk d + 1
  | .slice elems spare => uptoBulkAll elems + uptoBulkAll spare + 1
  | .agg parts => uptoBulkAll parts + 1
  | .iface _ d => uptoBulk d + 1
  | .map entries => uptoBulkEntries entries + 1
  | .held _ => 1
def uptoBulkAll {H : Type} : List (DataW H) → Nat
  | [] => 0
  | d :: r => uptoBulk d + uptoBulkAll r
def uptoBulkEntries {H : Type} : List (Lit × DataW H) → Nat
  | [] => 0
  | x :: r => uptoBulkEntry x + uptoBulkEntries r
def uptoBulkEntry {H : Type} : Lit × DataW H → Nat
  | (.string bytes, d) => bytes.length + uptoBulk d + 1
  | (_, d) => uptoBulk d + 1
 end
def uptoSmall : (H : Type) → List (DataW H) → Bool := fun _ ds => decide (uptoBulkAll ds ≤ 1048576)
def OpenSpec.upto (s : _root_.Go.ChangeSpec) : _root_.Go.OpenSpec := { _root_.Go.OpenSpec.ofChange s with cond := some uptoSmall }

/-- 'newsstandlaw05.UtfRunes', WHERE WHAT IT READS IS OF BULK AT MOST 1048576: true; the input reads as it did. -/
def utfRunesUptoRow : OpenClaim := { program := "ytmimkcdomgoefaa", sum := "0ff0d5e5197ef14e06a107f5f4b2f7f1b1eb6097a1ad286c5a9091e22b32614e", func := "newsstand/newsstandlaw05.UtfRunes", spec := "utfRunes", inPlace := ["internal/abi.NoEscape"], apart := false, narrowed := true }
def UtfRunesUptoSaid : Prop := utfRunesUptoRow.holds Try.pinned (OpenSpec.upto utfRunesSpec)

/-- 'newsstandlaw05.UtfPuts', WHERE WHAT IT READS IS OF BULK AT MOST 1048576: true; the input reads as it did. -/
def utfPutsUptoRow : OpenClaim := { program := "ytmimkcdomgoefaa", sum := "0ff0d5e5197ef14e06a107f5f4b2f7f1b1eb6097a1ad286c5a9091e22b32614e", func := "newsstand/newsstandlaw05.UtfPuts", spec := "utfPuts", inPlace := ["internal/abi.NoEscape"], apart := false, narrowed := true }
def UtfPutsUptoSaid : Prop := utfPutsUptoRow.holds Try.pinned (OpenSpec.upto utfPutsSpec)

/-- 'newsstandlaw05.UtfCleans', WHERE WHAT IT READS IS OF BULK AT MOST 1048576: true; the input reads as it did. -/
def utfCleansUptoRow : OpenClaim := { program := "ytmimkcdomgoefaa", sum := "0ff0d5e5197ef14e06a107f5f4b2f7f1b1eb6097a1ad286c5a9091e22b32614e", func := "newsstand/newsstandlaw05.UtfCleans", spec := "utfCleans", inPlace := ["internal/abi.NoEscape"], apart := false, narrowed := true }
def UtfCleansUptoSaid : Prop := utfCleansUptoRow.holds Try.pinned (OpenSpec.upto utfCleansSpec)

/-- 'newsstandlaw05.UtfCuts', WHERE WHAT IT READS IS OF BULK AT MOST 1048576: true; the input reads as it did. -/
def utfCutsUptoRow : OpenClaim := { program := "ytmimkcdomgoefaa", sum := "0ff0d5e5197ef14e06a107f5f4b2f7f1b1eb6097a1ad286c5a9091e22b32614e", func := "newsstand/newsstandlaw05.UtfCuts", spec := "utfCuts", inPlace := ["internal/abi.NoEscape"], apart := false, narrowed := true }
def UtfCutsUptoSaid : Prop := utfCutsUptoRow.holds Try.pinned (OpenSpec.upto utfCutsSpec)

/-- 'newsstandlaw06.WordsOf', WHERE WHAT IT READS IS OF BULK AT MOST 1048576: true; the input reads as it did. -/
def wordsOfUptoRow : OpenClaim := { program := "ytmimkcdomgoefaa", sum := "0ff0d5e5197ef14e06a107f5f4b2f7f1b1eb6097a1ad286c5a9091e22b32614e", func := "newsstand/newsstandlaw06.WordsOf", spec := "wordsOf", inPlace := ["internal/abi.NoEscape"], unfollowed := true, recurses := true, apart := false, narrowed := true }
def WordsOfUptoSaid : Prop := wordsOfUptoRow.holds Try.pinned (OpenSpec.upto wordsOfSpec)

/-- 'newsstandlaw06.WordsHas', WHERE WHAT IT READS IS OF BULK AT MOST 1048576: true; the input reads as it did. -/
def wordsHasUptoRow : OpenClaim := { program := "ytmimkcdomgoefaa", sum := "0ff0d5e5197ef14e06a107f5f4b2f7f1b1eb6097a1ad286c5a9091e22b32614e", func := "newsstand/newsstandlaw06.WordsHas", spec := "wordsHas", inPlace := ["internal/abi.NoEscape"], unfollowed := true, recurses := true, apart := false, narrowed := true }
def WordsHasUptoSaid : Prop := wordsHasUptoRow.holds Try.pinned (OpenSpec.upto wordsHasSpec)

/-- 'newsstandlaw06.WordsJoined', WHERE WHAT IT READS IS OF BULK AT MOST 1048576: true; the input reads as it did. -/
def wordsJoinedUptoRow : OpenClaim := { program := "ytmimkcdomgoefaa", sum := "0ff0d5e5197ef14e06a107f5f4b2f7f1b1eb6097a1ad286c5a9091e22b32614e", func := "newsstand/newsstandlaw06.WordsJoined", spec := "wordsJoined", inPlace := ["internal/abi.NoEscape"], unfollowed := true, recurses := true, apart := false, narrowed := true }
def WordsJoinedUptoSaid : Prop := wordsJoinedUptoRow.holds Try.pinned (OpenSpec.upto wordsJoinedSpec)

/-- 'newsstandlaw06.WordsBoth', WHERE WHAT IT READS IS OF BULK AT MOST 1048576: true; the input reads as it did. -/
def wordsBothUptoRow : OpenClaim := { program := "ytmimkcdomgoefaa", sum := "0ff0d5e5197ef14e06a107f5f4b2f7f1b1eb6097a1ad286c5a9091e22b32614e", func := "newsstand/newsstandlaw06.WordsBoth", spec := "wordsBoth", inPlace := ["internal/abi.NoEscape"], unfollowed := true, recurses := true, apart := false, narrowed := true }
def WordsBothUptoSaid : Prop := wordsBothUptoRow.holds Try.pinned (OpenSpec.upto wordsBothSpec)

end Rows
end Go.Proofs.Ytmimkcdomgoefaa
