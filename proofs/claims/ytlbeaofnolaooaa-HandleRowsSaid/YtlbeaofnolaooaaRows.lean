/-
  No cell of these rows narrows 'for every input' (looked for: loops, veiled, ifaces, maps, wideKeys, modest, calm, conditions, laid).
  DERIVED. THE GIVEN ROWS OF THIS SEAT. 7 by the template 'for every input the law returns true; each argument reads behind the call as it read before'; 0 by the template 'total and deterministic' (their statements: YtlbeaofnolaooaaTotals.lean).
  GIVEN WITH THE SEED: the statements are not yours to turn. If you find one false, say at which input.
  Laid BY PROGRAM, IN A SANDBOX (cutbox-rows.mjs): the forced cells as the released guide's own fill.sh prints them over the translation 51deebd572a9c532… (all of the seat's roots in one cut). By AI agents, Wed Nov 11 2026. No macro, syntax, notation, axiom, sorry.
-/
import Derived.Test.YtlbeaofnolaooaaChecked
import GoSem.Claim
import GoSem.ClaimJoined
import GoSem.ClaimMapViews
import Derived.JoinedTies
import Derived.KernelRfl
namespace Go.Proofs.Ytlbeaofnolaooaa
/- THE CELL 'sum', in the pinned program and in every row, IS THE sha256 OF THE DUMP (.gsa) THAT YtlbeaofnolaooaaProg.lean LOADS. Nothing in Lean hashes anything: it is a label: what it is worth is what the hold of that sum in a sandbox is worth. -/
noncomputable def Try.pinned : Pinned := { name := "ytlbeaofnolaooaa", sum := "51deebd572a9c53251c463b3de5707c6658c1028c4200a718df2dcf95199d3fd", checked := Try.checked }
namespace Rows
def none {H : Type} : Left H := { results := [], args := [] }

/-- 'bedsidelaw01.HandleTells': WHATEVER THE INPUT: true; the input reads as it did. -/
def handleTellsSpec : ChangeSpec := { name := "handleTells", fn := fun _ => fun
  | [d1, d2] => { results := [.lit (.bool true)], args := [d1, d2] }
  | _ => none }
def handleTellsRow : OpenClaim := { program := "ytlbeaofnolaooaa", sum := "51deebd572a9c53251c463b3de5707c6658c1028c4200a718df2dcf95199d3fd", func := "bedside/bedsidelaw01.HandleTells", spec := "handleTells", inPlace := ["internal/bytealg.abigen_runtime_cmpstring"], unfollowed := true, recurses := true, apart := false }
def HandleTellsSaid : Prop := handleTellsRow.holds Try.pinned (OpenSpec.ofChange handleTellsSpec)

/-- ITS FALSE NEIGHBOUR: 'it returns false'. Refute it at one input. -/
def handleTellsWrong : ChangeSpec := { name := "handleTells", fn := fun _ => fun
  | [d1, d2] => { results := [.lit (.bool false)], args := [d1, d2] }
  | _ => none }
def HandleTellsWrongFalsely : Prop := handleTellsRow.holds Try.pinned (OpenSpec.ofChange handleTellsWrong)

/-- 'bedsidelaw01.HandleRows': WHATEVER THE INPUT: true; the input reads as it did. -/
def handleRowsSpec : ChangeSpec := { name := "handleRows", fn := fun _ => fun
  | [d1, d2] => { results := [.lit (.bool true)], args := [d1, d2] }
  | _ => none }
def handleRowsRow : OpenClaim := { program := "ytlbeaofnolaooaa", sum := "51deebd572a9c53251c463b3de5707c6658c1028c4200a718df2dcf95199d3fd", func := "bedside/bedsidelaw01.HandleRows", spec := "handleRows", unfollowed := true, recurses := true, apart := false }
def HandleRowsSaid : Prop := handleRowsRow.holds Try.pinned (OpenSpec.ofChange handleRowsSpec)

/-- ITS FALSE NEIGHBOUR: 'it returns false'. Refute it at one input. -/
def handleRowsWrong : ChangeSpec := { name := "handleRows", fn := fun _ => fun
  | [d1, d2] => { results := [.lit (.bool false)], args := [d1, d2] }
  | _ => none }
def HandleRowsWrongFalsely : Prop := handleRowsRow.holds Try.pinned (OpenSpec.ofChange handleRowsWrong)

/-- 'bedsidelaw01.HandleTexts': WHATEVER THE INPUT: true; the input reads as it did. -/
def handleTextsSpec : ChangeSpec := { name := "handleTexts", fn := fun _ => fun
  | [d1, d2] => { results := [.lit (.bool true)], args := [d1, d2] }
  | _ => none }
def handleTextsRow : OpenClaim := { program := "ytlbeaofnolaooaa", sum := "51deebd572a9c53251c463b3de5707c6658c1028c4200a718df2dcf95199d3fd", func := "bedside/bedsidelaw01.HandleTexts", spec := "handleTexts", inPlace := ["internal/abi.NoEscape", "internal/bytealg.MakeNoZero"], unfollowed := true, recurses := true, apart := false }
def HandleTextsSaid : Prop := handleTextsRow.holds Try.pinned (OpenSpec.ofChange handleTextsSpec)

/-- ITS FALSE NEIGHBOUR: 'it returns false'. Refute it at one input. -/
def handleTextsWrong : ChangeSpec := { name := "handleTexts", fn := fun _ => fun
  | [d1, d2] => { results := [.lit (.bool false)], args := [d1, d2] }
  | _ => none }
def HandleTextsWrongFalsely : Prop := handleTextsRow.holds Try.pinned (OpenSpec.ofChange handleTextsWrong)

/-- 'bedsidelaw01.HandleBack': WHATEVER THE INPUT: true; the input reads as it did. -/
def handleBackSpec : ChangeSpec := { name := "handleBack", fn := fun _ => fun
  | [d1, d2] => { results := [.lit (.bool true)], args := [d1, d2] }
  | _ => none }
def handleBackRow : OpenClaim := { program := "ytlbeaofnolaooaa", sum := "51deebd572a9c53251c463b3de5707c6658c1028c4200a718df2dcf95199d3fd", func := "bedside/bedsidelaw01.HandleBack", spec := "handleBack", inPlace := ["internal/abi.NoEscape", "internal/bytealg.MakeNoZero"], unfollowed := true, recurses := true, apart := false }
def HandleBackSaid : Prop := handleBackRow.holds Try.pinned (OpenSpec.ofChange handleBackSpec)

/-- ITS FALSE NEIGHBOUR: 'it returns false'. Refute it at one input. -/
def handleBackWrong : ChangeSpec := { name := "handleBack", fn := fun _ => fun
  | [d1, d2] => { results := [.lit (.bool false)], args := [d1, d2] }
  | _ => none }
def HandleBackWrongFalsely : Prop := handleBackRow.holds Try.pinned (OpenSpec.ofChange handleBackWrong)

/-- 'bedsidelaw01.HandleOrder': WHATEVER THE INPUT: true; the input reads as it did. -/
def handleOrderSpec : ChangeSpec := { name := "handleOrder", fn := fun _ => fun
  | [d1, d2, d3] => { results := [.lit (.bool true)], args := [d1, d2, d3] }
  | _ => none }
def handleOrderRow : OpenClaim := { program := "ytlbeaofnolaooaa", sum := "51deebd572a9c53251c463b3de5707c6658c1028c4200a718df2dcf95199d3fd", func := "bedside/bedsidelaw01.HandleOrder", spec := "handleOrder", inPlace := ["internal/abi.NoEscape", "internal/bytealg.MakeNoZero", "internal/bytealg.abigen_runtime_cmpstring"], unfollowed := true, recurses := true, apart := false }
def HandleOrderSaid : Prop := handleOrderRow.holds Try.pinned (OpenSpec.ofChange handleOrderSpec)

/-- ITS FALSE NEIGHBOUR: 'it returns false'. Refute it at one input. -/
def handleOrderWrong : ChangeSpec := { name := "handleOrder", fn := fun _ => fun
  | [d1, d2, d3] => { results := [.lit (.bool false)], args := [d1, d2, d3] }
  | _ => none }
def HandleOrderWrongFalsely : Prop := handleOrderRow.holds Try.pinned (OpenSpec.ofChange handleOrderWrong)

/-- 'bedsidelaw01.HandleSorted': WHATEVER THE INPUT: true; the input reads as it did. -/
def handleSortedSpec : ChangeSpec := { name := "handleSorted", fn := fun _ => fun
  | [d1, d2] => { results := [.lit (.bool true)], args := [d1, d2] }
  | _ => none }
def handleSortedRow : OpenClaim := { program := "ytlbeaofnolaooaa", sum := "51deebd572a9c53251c463b3de5707c6658c1028c4200a718df2dcf95199d3fd", func := "bedside/bedsidelaw01.HandleSorted", spec := "handleSorted", inPlace := ["internal/abi.NoEscape", "internal/bytealg.MakeNoZero"], unfollowed := true, recurses := true, apart := false }
def HandleSortedSaid : Prop := handleSortedRow.holds Try.pinned (OpenSpec.ofChange handleSortedSpec)

/-- ITS FALSE NEIGHBOUR: 'it returns false'. Refute it at one input. -/
def handleSortedWrong : ChangeSpec := { name := "handleSorted", fn := fun _ => fun
  | [d1, d2] => { results := [.lit (.bool false)], args := [d1, d2] }
  | _ => none }
def HandleSortedWrongFalsely : Prop := handleSortedRow.holds Try.pinned (OpenSpec.ofChange handleSortedWrong)

/-- 'bedsidelaw01.HandleParts': WHATEVER THE INPUT: true; the input reads as it did. -/
def handlePartsSpec : ChangeSpec := { name := "handleParts", fn := fun _ => fun
  | [d1, d2] => { results := [.lit (.bool true)], args := [d1, d2] }
  | _ => none }
def handlePartsRow : OpenClaim := { program := "ytlbeaofnolaooaa", sum := "51deebd572a9c53251c463b3de5707c6658c1028c4200a718df2dcf95199d3fd", func := "bedside/bedsidelaw01.HandleParts", spec := "handleParts", inPlace := ["internal/abi.NoEscape", "internal/bytealg.MakeNoZero"], unfollowed := true, recurses := true, apart := false }
def HandlePartsSaid : Prop := handlePartsRow.holds Try.pinned (OpenSpec.ofChange handlePartsSpec)

/-- ITS FALSE NEIGHBOUR: 'it returns false'. Refute it at one input. -/
def handlePartsWrong : ChangeSpec := { name := "handleParts", fn := fun _ => fun
  | [d1, d2] => { results := [.lit (.bool false)], args := [d1, d2] }
  | _ => none }
def HandlePartsWrongFalsely : Prop := handlePartsRow.holds Try.pinned (OpenSpec.ofChange handlePartsWrong)

/- THE SECOND FORM. 'bulk': how many values and letters a reading holds, each counted each time it is reached (what is shared counts as often as it is met; a slice's spare places count too). A statement '..UptoSaid' is the law's where the arguments, and the package variables that the reading takes, are together of bulk at most 1048576: NARROWER than '..Said'. Prove '..Said' where nothing that the law and all that it calls make is longer than what came in: it says more and counts as full. Else prove '..UptoSaid'. A law counts once. -/
mutual
def uptoBulk {H : Type} : DataW H → Nat
  | .lit (.string bytes) => bytes.length + 1
  | .lit _ => 1
  | .nil => 1
  | .ptr d => uptoBulk d + 1
  | .slice elems spare => uptoBulkAll elems + uptoBulkAll spare + 1
  | .agg parts => uptoBulkAll parts + 1
  | .iface _ d => uptoBulk d + 1
  | .map entries => uptoBulkEntries entries + 1
  | .held _ => 1
def uptoBulkAll {H : Type} : List (DataW H) → Nat
  | [] => 0
  | d :: r => uptoBulk d + uptoBulkAll r
def uptoBulkEntries {H : Type} : List (Lit × DataW H) → Nat
  | [] => 0
  | x :: r => uptoBulkEntry x + uptoBulkEntries r
def uptoBulkEntry {H : Type} : Lit × DataW H → Nat
  | (.string bytes, d) => bytes.length + uptoBulk d + 1
  | (_, d) => uptoBulk d + 1
 end
def uptoSmall : (H : Type) → List (DataW H) → Bool := fun _ ds => decide (uptoBulkAll ds ≤ 1048576)
def OpenSpec.upto (s : _root_.Go.ChangeSpec) : _root_.Go.OpenSpec := { _root_.Go.OpenSpec.ofChange s with cond := some uptoSmall }

/-- 'bedsidelaw01.HandleTells', WHERE WHAT IT READS IS OF BULK AT MOST 1048576: true; the input reads as it did. -/
def handleTellsUptoRow : OpenClaim := { program := "ytlbeaofnolaooaa", sum := "51deebd572a9c53251c463b3de5707c6658c1028c4200a718df2dcf95199d3fd", func := "bedside/bedsidelaw01.HandleTells", spec := "handleTells", inPlace := ["internal/bytealg.abigen_runtime_cmpstring"], unfollowed := true, recurses := true, apart := false, narrowed := true }
def HandleTellsUptoSaid : Prop := handleTellsUptoRow.holds Try.pinned (OpenSpec.upto handleTellsSpec)

/-- 'bedsidelaw01.HandleRows', WHERE WHAT IT READS IS OF BULK AT MOST 1048576: true; the input reads as it did. -/
def handleRowsUptoRow : OpenClaim := { program := "ytlbeaofnolaooaa", sum := "51deebd572a9c53251c463b3de5707c6658c1028c4200a718df2dcf95199d3fd", func := "bedside/bedsidelaw01.HandleRows", spec := "handleRows", unfollowed := true, recurses := true, apart := false, narrowed := true }
def HandleRowsUptoSaid : Prop := handleRowsUptoRow.holds Try.pinned (OpenSpec.upto handleRowsSpec)

/-- 'bedsidelaw01.HandleTexts', WHERE WHAT IT READS IS OF BULK AT MOST 1048576: true; the input reads as it did. -/
def handleTextsUptoRow : OpenClaim := { program := "ytlbeaofnolaooaa", sum := "51deebd572a9c53251c463b3de5707c6658c1028c4200a718df2dcf95199d3fd", func := "bedside/bedsidelaw01.HandleTexts", spec := "handleTexts", inPlace := ["internal/abi.NoEscape", "internal/bytealg.MakeNoZero"], unfollowed := true, recurses := true, apart := false, narrowed := true }
def HandleTextsUptoSaid : Prop := handleTextsUptoRow.holds Try.pinned (OpenSpec.upto handleTextsSpec)

/-- 'bedsidelaw01.HandleBack', WHERE WHAT IT READS IS OF BULK AT MOST 1048576: true; the input reads as it did. -/
def handleBackUptoRow : OpenClaim := { program := "ytlbeaofnolaooaa", sum := "51deebd572a9c53251c463b3de5707c6658c1028c4200a718df2dcf95199d3fd", func := "bedside/bedsidelaw01.HandleBack", spec := "handleBack", inPlace := ["internal/abi.NoEscape", "internal/bytealg.MakeNoZero"], unfollowed := true, recurses := true, apart := false, narrowed := true }
def HandleBackUptoSaid : Prop := handleBackUptoRow.holds Try.pinned (OpenSpec.upto handleBackSpec)

/-- 'bedsidelaw01.HandleOrder', WHERE WHAT IT READS IS OF BULK AT MOST 1048576: true; the input reads as it did. -/
def handleOrderUptoRow : OpenClaim := { program := "ytlbeaofnolaooaa", sum := "51deebd572a9c53251c463b3de5707c6658c1028c4200a718df2dcf95199d3fd", func := "bedside/bedsidelaw01.HandleOrder", spec := "handleOrder", inPlace := ["internal/abi.NoEscape", "internal/bytealg.MakeNoZero", "internal/bytealg.abigen_runtime_cmpstring"], unfollowed := true, recurses := true, apart := false, narrowed := true }
def HandleOrderUptoSaid : Prop := handleOrderUptoRow.holds Try.pinned (OpenSpec.upto handleOrderSpec)

/-- 'bedsidelaw01.HandleSorted', WHERE WHAT IT READS IS OF BULK AT MOST 1048576: true; the input reads as it did. -/
def handleSortedUptoRow : OpenClaim := { program := "ytlbeaofnolaooaa", sum := "51deebd572a9c53251c463b3de5707c6658c1028c4200a718df2dcf95199d3fd", func := "bedside/bedsidelaw01.HandleSorted", spec := "handleSorted", inPlace := ["internal/abi.NoEscape", "internal/bytealg.MakeNoZero"], unfollowed := true, recurses := true, apart := false, narrowed := true }
def HandleSortedUptoSaid : Prop := handleSortedUptoRow.holds Try.pinned (OpenSpec.upto handleSortedSpec)

/-- 'bedsidelaw01.HandleParts', WHERE WHAT IT READS IS OF BULK AT MOST 1048576: true; the input reads as it did. -/
def handlePartsUptoRow : OpenClaim := { program := "ytlbeaofnolaooaa", sum := "51deebd572a9c53251c463b3de5707c6658c1028c4200a718df2dcf95199d3fd", func := "bedside/bedsidelaw01.HandleParts", spec := "handleParts", inPlace := ["internal/abi.NoEscape", "internal/bytealg.MakeNoZero"], unfollowed := true, recurses := true, apart := false, narrowed := true }
def HandlePartsUptoSaid : Prop := handlePartsUptoRow.holds Try.pinned (OpenSpec.upto handlePartsSpec)

end Rows
end Go.Proofs.Ytlbeaofnolaooaa
