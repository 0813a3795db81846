/-
  NARROWER THAN 'FOR EVERY INPUT', by the rows' own cells (each row's printed sentence says how): FixedTexts: laid · FixedScales: laid · FixedCompares: laid · FixedBack: laid · FixedHalf: laid · FixedOrder: laid · FixedSums: laid.
  DERIVED. THE GIVEN ROWS OF THIS SEAT. 7 by the template 'for every input the law returns true; each argument reads behind the call as it read before'; 0 by the template 'total and deterministic' (their statements: YtgomfgebcljnbaaDoorTotals.lean).
  GIVEN WITH THE SEED: the statements are not yours to turn. If you find one false, say at which input.
  Laid BY PROGRAM, IN A SANDBOX (cutbox-rows.mjs): the forced cells as the released guide's own fill.sh prints them over the translation 82f7b033a300b7a5… (all of the seat's roots in one cut). By AI agents, Wed Nov 11 2026. No macro, syntax, notation, axiom, sorry.
-/
import Derived.Test.YtgomfgebcljnbaaDoorChecked
import GoSem.Claim
import GoSem.ClaimJoined
import GoSem.ClaimMapViews
import Derived.JoinedTies
import Derived.KernelRfl
namespace Go.Proofs.YtgomfgebcljnbaaDoor
/- THE CELL 'sum', in the pinned program and in every row, IS THE sha256 OF THE DUMP (.gsa) THAT YtgomfgebcljnbaaDoorProg.lean LOADS. Nothing in Lean hashes anything: it is a label: what it is worth is what the hold of that sum in a sandbox is worth. -/
noncomputable def Tryd.pinned : Pinned := { name := "ytgomfgebcljnbaadoor", sum := "82f7b033a300b7a546c35c393f211b8dab68e573aa8ff0d7d603e6b1eacd364a", checked := Tryd.checked }
namespace Rows
def none {H : Type} : Left H := { results := [], args := [] }

/- WHAT THE LISTED PACKAGE-LEVEL VARIABLES READ AS WHEN THE CALL BEGINS. Each datum BY PROGRAM (the guide's laid-datum.mjs) off the statement by which the dump's own 'gosem.cut.vars' lays the variable. In a bare row this is a premise. The card (YtgomfgebcljnbaaDoorCards.lean) ties it to the program's text. -/
def laid_bedside_fixed_units {H : Type} : DataW H := .agg [.lit (.int .i64 1), .lit (.int .i64 10), .lit (.int .i64 100), .lit (.int .i64 1000), .lit (.int .i64 10000), .lit (.int .i64 100000), .lit (.int .i64 1000000)]

/-- 'bedsidelaw02.FixedTexts': WHATEVER THE INPUT: true; the input reads as it did. -/
def fixedTextsSpec : ChangeSpec := { name := "fixedTexts", fn := fun _ => fun
  | [d1, d2, d3] => { results := [.lit (.bool true)], args := [d1, d2, d3] }
  | _ => none }
def fixedTextsRow : OpenClaim := { program := "ytgomfgebcljnbaadoor", sum := "82f7b033a300b7a546c35c393f211b8dab68e573aa8ff0d7d603e6b1eacd364a", func := "bedside/bedsidelaw02.FixedTexts", spec := "fixedTexts", named := ["bedside/fixed.units"], apart := false, laid := [("bedside/fixed.units", laid_bedside_fixed_units)] }
def FixedTextsSaid : Prop := fixedTextsRow.holds Tryd.pinned (OpenSpec.ofChange fixedTextsSpec)

/-- ITS FALSE NEIGHBOUR: 'it returns false'. Refute it at one input. -/
def fixedTextsWrong : ChangeSpec := { name := "fixedTexts", fn := fun _ => fun
  | [d1, d2, d3] => { results := [.lit (.bool false)], args := [d1, d2, d3] }
  | _ => none }
def FixedTextsWrongFalsely : Prop := fixedTextsRow.holds Tryd.pinned (OpenSpec.ofChange fixedTextsWrong)

/-- 'bedsidelaw02.FixedScales': WHATEVER THE INPUT: true; the input reads as it did. -/
def fixedScalesSpec : ChangeSpec := { name := "fixedScales", fn := fun _ => fun
  | [d1, d2, d3] => { results := [.lit (.bool true)], args := [d1, d2, d3] }
  | _ => none }
def fixedScalesRow : OpenClaim := { program := "ytgomfgebcljnbaadoor", sum := "82f7b033a300b7a546c35c393f211b8dab68e573aa8ff0d7d603e6b1eacd364a", func := "bedside/bedsidelaw02.FixedScales", spec := "fixedScales", named := ["bedside/fixed.units"], apart := false, laid := [("bedside/fixed.units", laid_bedside_fixed_units)] }
def FixedScalesSaid : Prop := fixedScalesRow.holds Tryd.pinned (OpenSpec.ofChange fixedScalesSpec)

/-- ITS FALSE NEIGHBOUR: 'it returns false'. Refute it at one input. -/
def fixedScalesWrong : ChangeSpec := { name := "fixedScales", fn := fun _ => fun
  | [d1, d2, d3] => { results := [.lit (.bool false)], args := [d1, d2, d3] }
  | _ => none }
def FixedScalesWrongFalsely : Prop := fixedScalesRow.holds Tryd.pinned (OpenSpec.ofChange fixedScalesWrong)

/-- 'bedsidelaw02.FixedCompares': WHATEVER THE INPUT: true; the input reads as it did. -/
def fixedComparesSpec : ChangeSpec := { name := "fixedCompares", fn := fun _ => fun
  | [d1, d2, d3, d4] => { results := [.lit (.bool true)], args := [d1, d2, d3, d4] }
  | _ => none }
def fixedComparesRow : OpenClaim := { program := "ytgomfgebcljnbaadoor", sum := "82f7b033a300b7a546c35c393f211b8dab68e573aa8ff0d7d603e6b1eacd364a", func := "bedside/bedsidelaw02.FixedCompares", spec := "fixedCompares", named := ["bedside/fixed.units"], apart := false, laid := [("bedside/fixed.units", laid_bedside_fixed_units)] }
def FixedComparesSaid : Prop := fixedComparesRow.holds Tryd.pinned (OpenSpec.ofChange fixedComparesSpec)

/-- ITS FALSE NEIGHBOUR: 'it returns false'. Refute it at one input. -/
def fixedComparesWrong : ChangeSpec := { name := "fixedCompares", fn := fun _ => fun
  | [d1, d2, d3, d4] => { results := [.lit (.bool false)], args := [d1, d2, d3, d4] }
  | _ => none }
def FixedComparesWrongFalsely : Prop := fixedComparesRow.holds Tryd.pinned (OpenSpec.ofChange fixedComparesWrong)

/-- 'bedsidelaw02.FixedBack': WHATEVER THE INPUT: true; the input reads as it did. -/
def fixedBackSpec : ChangeSpec := { name := "fixedBack", fn := fun _ => fun
  | [d1, d2, d3] => { results := [.lit (.bool true)], args := [d1, d2, d3] }
  | _ => none }
def fixedBackRow : OpenClaim := { program := "ytgomfgebcljnbaadoor", sum := "82f7b033a300b7a546c35c393f211b8dab68e573aa8ff0d7d603e6b1eacd364a", func := "bedside/bedsidelaw02.FixedBack", spec := "fixedBack", named := ["bedside/fixed.units"], apart := false, laid := [("bedside/fixed.units", laid_bedside_fixed_units)] }
def FixedBackSaid : Prop := fixedBackRow.holds Tryd.pinned (OpenSpec.ofChange fixedBackSpec)

/-- ITS FALSE NEIGHBOUR: 'it returns false'. Refute it at one input. -/
def fixedBackWrong : ChangeSpec := { name := "fixedBack", fn := fun _ => fun
  | [d1, d2, d3] => { results := [.lit (.bool false)], args := [d1, d2, d3] }
  | _ => none }
def FixedBackWrongFalsely : Prop := fixedBackRow.holds Tryd.pinned (OpenSpec.ofChange fixedBackWrong)

/-- 'bedsidelaw02.FixedHalf': WHATEVER THE INPUT: true; the input reads as it did. -/
def fixedHalfSpec : ChangeSpec := { name := "fixedHalf", fn := fun _ => fun
  | [d1, d2, d3] => { results := [.lit (.bool true)], args := [d1, d2, d3] }
  | _ => none }
def fixedHalfRow : OpenClaim := { program := "ytgomfgebcljnbaadoor", sum := "82f7b033a300b7a546c35c393f211b8dab68e573aa8ff0d7d603e6b1eacd364a", func := "bedside/bedsidelaw02.FixedHalf", spec := "fixedHalf", named := ["bedside/fixed.units"], apart := false, laid := [("bedside/fixed.units", laid_bedside_fixed_units)] }
def FixedHalfSaid : Prop := fixedHalfRow.holds Tryd.pinned (OpenSpec.ofChange fixedHalfSpec)

/-- ITS FALSE NEIGHBOUR: 'it returns false'. Refute it at one input. -/
def fixedHalfWrong : ChangeSpec := { name := "fixedHalf", fn := fun _ => fun
  | [d1, d2, d3] => { results := [.lit (.bool false)], args := [d1, d2, d3] }
  | _ => none }
def FixedHalfWrongFalsely : Prop := fixedHalfRow.holds Tryd.pinned (OpenSpec.ofChange fixedHalfWrong)

/-- 'bedsidelaw02.FixedOrder': WHATEVER THE INPUT: true; the input reads as it did. -/
def fixedOrderSpec : ChangeSpec := { name := "fixedOrder", fn := fun _ => fun
  | [d1, d2, d3, d4, d5, d6] => { results := [.lit (.bool true)], args := [d1, d2, d3, d4, d5, d6] }
  | _ => none }
def fixedOrderRow : OpenClaim := { program := "ytgomfgebcljnbaadoor", sum := "82f7b033a300b7a546c35c393f211b8dab68e573aa8ff0d7d603e6b1eacd364a", func := "bedside/bedsidelaw02.FixedOrder", spec := "fixedOrder", named := ["bedside/fixed.units"], apart := false, laid := [("bedside/fixed.units", laid_bedside_fixed_units)] }
def FixedOrderSaid : Prop := fixedOrderRow.holds Tryd.pinned (OpenSpec.ofChange fixedOrderSpec)

/-- ITS FALSE NEIGHBOUR: 'it returns false'. Refute it at one input. -/
def fixedOrderWrong : ChangeSpec := { name := "fixedOrder", fn := fun _ => fun
  | [d1, d2, d3, d4, d5, d6] => { results := [.lit (.bool false)], args := [d1, d2, d3, d4, d5, d6] }
  | _ => none }
def FixedOrderWrongFalsely : Prop := fixedOrderRow.holds Tryd.pinned (OpenSpec.ofChange fixedOrderWrong)

/-- 'bedsidelaw02.FixedSums': WHATEVER THE INPUT: true; the input reads as it did. -/
def fixedSumsSpec : ChangeSpec := { name := "fixedSums", fn := fun _ => fun
  | [d1, d2, d3, d4] => { results := [.lit (.bool true)], args := [d1, d2, d3, d4] }
  | _ => none }
def fixedSumsRow : OpenClaim := { program := "ytgomfgebcljnbaadoor", sum := "82f7b033a300b7a546c35c393f211b8dab68e573aa8ff0d7d603e6b1eacd364a", func := "bedside/bedsidelaw02.FixedSums", spec := "fixedSums", named := ["bedside/fixed.units"], apart := false, laid := [("bedside/fixed.units", laid_bedside_fixed_units)] }
def FixedSumsSaid : Prop := fixedSumsRow.holds Tryd.pinned (OpenSpec.ofChange fixedSumsSpec)

/-- ITS FALSE NEIGHBOUR: 'it returns false'. Refute it at one input. -/
def fixedSumsWrong : ChangeSpec := { name := "fixedSums", fn := fun _ => fun
  | [d1, d2, d3, d4] => { results := [.lit (.bool false)], args := [d1, d2, d3, d4] }
  | _ => none }
def FixedSumsWrongFalsely : Prop := fixedSumsRow.holds Tryd.pinned (OpenSpec.ofChange fixedSumsWrong)

/- THE SECOND FORM. 'bulk': how many values and letters a reading holds, each counted each time it is reached (what is shared counts as often as it is met; a slice's spare places count too). A statement '..UptoSaid' is the law's where the arguments, and the package variables that the reading takes, are together of bulk at most 1048576: NARROWER than '..Said'. Prove '..Said' where nothing that the law and all that it calls make is longer than what came in: it says more and counts as full. Else prove '..UptoSaid'. A law counts once. -/
mutual
def uptoBulk {H : Type} : DataW H → Nat
  | .lit (.string bytes) => bytes.length + 1
  | .lit _ => 1
  | .nil => 1
  | .ptr d => uptoBulk d + 1
  | .slice elems spare => uptoBulkAll elems + uptoBulkAll spare + 1
  | .agg parts => uptoBulkAll parts + 1
  | .iface _ d => uptoBulk d + 1
  | .map entries => uptoBulkEntries entries + 1
  | .held _ => 1
def uptoBulkAll {H : Type} : List (DataW H) → Nat
  | [] => 0
  | d :: r => uptoBulk d + uptoBulkAll r
def uptoBulkEntries {H : Type} : List (Lit × DataW H) → Nat
  | [] => 0
  | x :: r => uptoBulkEntry x + uptoBulkEntries r
def uptoBulkEntry {H : Type} : Lit × DataW H → Nat
  | (.string bytes, d) => bytes.length + uptoBulk d + 1
  | (_, d) => uptoBulk d + 1
 end
def uptoSmall : (H : Type) → List (DataW H) → Bool := fun _ ds => decide (uptoBulkAll ds ≤ 1048576)
def OpenSpec.upto (s : _root_.Go.ChangeSpec) : _root_.Go.OpenSpec := { _root_.Go.OpenSpec.ofChange s with cond := some uptoSmall }

/-- 'bedsidelaw02.FixedTexts', WHERE WHAT IT READS IS OF BULK AT MOST 1048576: true; the input reads as it did. -/
def fixedTextsUptoRow : OpenClaim := { program := "ytgomfgebcljnbaadoor", sum := "82f7b033a300b7a546c35c393f211b8dab68e573aa8ff0d7d603e6b1eacd364a", func := "bedside/bedsidelaw02.FixedTexts", spec := "fixedTexts", named := ["bedside/fixed.units"], apart := false, laid := [("bedside/fixed.units", laid_bedside_fixed_units)], narrowed := true }
def FixedTextsUptoSaid : Prop := fixedTextsUptoRow.holds Tryd.pinned (OpenSpec.upto fixedTextsSpec)

/-- 'bedsidelaw02.FixedScales', WHERE WHAT IT READS IS OF BULK AT MOST 1048576: true; the input reads as it did. -/
def fixedScalesUptoRow : OpenClaim := { program := "ytgomfgebcljnbaadoor", sum := "82f7b033a300b7a546c35c393f211b8dab68e573aa8ff0d7d603e6b1eacd364a", func := "bedside/bedsidelaw02.FixedScales", spec := "fixedScales", named := ["bedside/fixed.units"], apart := false, laid := [("bedside/fixed.units", laid_bedside_fixed_units)], narrowed := true }
def FixedScalesUptoSaid : Prop := fixedScalesUptoRow.holds Tryd.pinned (OpenSpec.upto fixedScalesSpec)

/-- 'bedsidelaw02.FixedCompares', WHERE WHAT IT READS IS OF BULK AT MOST 1048576: true; the input reads as it did. -/
def fixedComparesUptoRow : OpenClaim := { program := "ytgomfgebcljnbaadoor", sum := "82f7b033a300b7a546c35c393f211b8dab68e573aa8ff0d7d603e6b1eacd364a", func := "bedside/bedsidelaw02.FixedCompares", spec := "fixedCompares", named := ["bedside/fixed.units"], apart := false, laid := [("bedside/fixed.units", laid_bedside_fixed_units)], narrowed := true }
def FixedComparesUptoSaid : Prop := fixedComparesUptoRow.holds Tryd.pinned (OpenSpec.upto fixedComparesSpec)

/-- 'bedsidelaw02.FixedBack', WHERE WHAT IT READS IS OF BULK AT MOST 1048576: true; the input reads as it did. -/
def fixedBackUptoRow : OpenClaim := { program := "ytgomfgebcljnbaadoor", sum := "82f7b033a300b7a546c35c393f211b8dab68e573aa8ff0d7d603e6b1eacd364a", func := "bedside/bedsidelaw02.FixedBack", spec := "fixedBack", named := ["bedside/fixed.units"], apart := false, laid := [("bedside/fixed.units", laid_bedside_fixed_units)], narrowed := true }
def FixedBackUptoSaid : Prop := fixedBackUptoRow.holds Tryd.pinned (OpenSpec.upto fixedBackSpec)

/-- 'bedsidelaw02.FixedHalf', WHERE WHAT IT READS IS OF BULK AT MOST 1048576: true; the input reads as it did. -/
def fixedHalfUptoRow : OpenClaim := { program := "ytgomfgebcljnbaadoor", sum := "82f7b033a300b7a546c35c393f211b8dab68e573aa8ff0d7d603e6b1eacd364a", func := "bedside/bedsidelaw02.FixedHalf", spec := "fixedHalf", named := ["bedside/fixed.units"], apart := false, laid := [("bedside/fixed.units", laid_bedside_fixed_units)], narrowed := true }
def FixedHalfUptoSaid : Prop := fixedHalfUptoRow.holds Tryd.pinned (OpenSpec.upto fixedHalfSpec)

/-- 'bedsidelaw02.FixedOrder', WHERE WHAT IT READS IS OF BULK AT MOST 1048576: true; the input reads as it did. -/
def fixedOrderUptoRow : OpenClaim := { program := "ytgomfgebcljnbaadoor", sum := "82f7b033a300b7a546c35c393f211b8dab68e573aa8ff0d7d603e6b1eacd364a", func := "bedside/bedsidelaw02.FixedOrder", spec := "fixedOrder", named := ["bedside/fixed.units"], apart := false, laid := [("bedside/fixed.units", laid_bedside_fixed_units)], narrowed := true }
def FixedOrderUptoSaid : Prop := fixedOrderUptoRow.holds Tryd.pinned (OpenSpec.upto fixedOrderSpec)

/-- 'bedsidelaw02.FixedSums', WHERE WHAT IT READS IS OF BULK AT MOST 1048576: true; the input reads as it did. -/
def fixedSumsUptoRow : OpenClaim := { program := "ytgomfgebcljnbaadoor", sum := "82f7b033a300b7a546c35c393f211b8dab68e573aa8ff0d7d603e6b1eacd364a", func := "bedside/bedsidelaw02.FixedSums", spec := "fixedSums", named := ["bedside/fixed.units"], apart := false, laid := [("bedside/fixed.units", laid_bedside_fixed_units)], narrowed := true }
def FixedSumsUptoSaid : Prop := fixedSumsUptoRow.holds Tryd.pinned (OpenSpec.upto fixedSumsSpec)

end Rows
end Go.Proofs.YtgomfgebcljnbaaDoor
