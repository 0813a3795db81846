/-
  NARROWER THAN 'FOR EVERY INPUT', by the rows' own cells (each row's printed sentence says how): TreeNil: laid · TreeOnce: laid · TreeWalked: laid · TreeKids: laid · TreeGone: laid.
  DERIVED. THE GIVEN ROWS OF THIS SEAT. 5 by the template 'for every input the law returns true; each argument reads behind the call as it read before'; 0 by the template 'total and deterministic' (their statements: YtlfbjgeobibnhaaDoorTotals.lean).
  GIVEN WITH THE SEED: the statements are not yours to turn. If you find one false, say at which input.
  Laid BY PROGRAM, IN A SANDBOX (cutbox-rows.mjs): the forced cells as the released guide's own fill.sh prints them over the translation 8cc7d5c4c65ed5e6… (all of the seat's roots in one cut). By AI agents, Wed Nov 11 2026. No macro, syntax, notation, axiom, sorry.
-/
import Derived.Test.YtlfbjgeobibnhaaDoorChecked
import GoSem.Claim
import GoSem.ClaimJoined
import GoSem.ClaimMapViews
import Derived.JoinedTies
import Derived.KernelRfl
namespace Go.Proofs.YtlfbjgeobibnhaaDoor
/- THE CELL 'sum', in the pinned program and in every row, IS THE sha256 OF THE DUMP (.gsa) THAT YtlfbjgeobibnhaaDoorProg.lean LOADS. Nothing in Lean hashes anything: it is a label: what it is worth is what the hold of that sum in a sandbox is worth. -/
noncomputable def Tryd.pinned : Pinned := { name := "ytlfbjgeobibnhaadoor", sum := "8cc7d5c4c65ed5e62ba93da29cdb8331beb877c07d9aed773623937c014847cc", checked := Tryd.checked }
namespace Rows
def none {H : Type} : Left H := { results := [], args := [] }

/- WHAT THE LISTED PACKAGE-LEVEL VARIABLES READ AS WHEN THE CALL BEGINS. Each datum BY PROGRAM (the guide's laid-datum.mjs) off the statement by which the dump's own 'gosem.cut.vars' lays the variable. In a bare row this is a premise. The card (YtlfbjgeobibnhaaDoorCards.lean) ties it to the program's text. -/
def laid_bedside_object_kinds {H : Type} : DataW H := .agg [.lit (.int .u16 0), .lit (.int .u16 0), .lit (.int .u16 1), .lit (.int .u16 1), .lit (.int .u16 441), .lit (.int .u16 65), .lit (.int .u16 71), .lit (.int .u16 69), .lit (.int .u16 1607), .lit (.int .u16 2051)]
def laid_bedside_object_words {H : Type} : DataW H := .agg [.lit (.string []), .lit (.string [109, 100, 115]), .lit (.string [118, 109, 100]), .lit (.string [99, 104, 97, 110, 110, 101, 108]), .lit (.string [109, 101, 116, 114, 105, 99]), .lit (.string [115, 121, 115, 116, 101, 109]), .lit (.string [99, 111, 110, 100, 105, 116, 105, 111, 110]), .lit (.string [115, 105, 103, 110, 97, 108]), .lit (.string [108, 105, 109, 105, 116]), .lit (.string [99, 111, 110, 116, 101, 120, 116])]

/-- 'bedsidelaw08.TreeNil': WHATEVER THE INPUT: true; the input reads as it did. -/
def treeNilSpec : ChangeSpec := { name := "treeNil", fn := fun _ => fun
  | [d] => { results := [.lit (.bool true)], args := [d] }
  | _ => none }
def treeNilRow : OpenClaim := { program := "ytlfbjgeobibnhaadoor", sum := "8cc7d5c4c65ed5e62ba93da29cdb8331beb877c07d9aed773623937c014847cc", func := "bedside/bedsidelaw08.TreeNil", spec := "treeNil", inPlace := ["internal/bytealg.abigen_runtime_cmpstring"], unfollowed := true, recurses := true, named := ["bedside/object.kinds", "bedside/object.words"], apart := false, laid := [("bedside/object.kinds", laid_bedside_object_kinds), ("bedside/object.words", laid_bedside_object_words)] }
def TreeNilSaid : Prop := treeNilRow.holds Tryd.pinned (OpenSpec.ofChange treeNilSpec)

/-- ITS FALSE NEIGHBOUR: 'it returns false'. Refute it at one input. -/
def treeNilWrong : ChangeSpec := { name := "treeNil", fn := fun _ => fun
  | [d] => { results := [.lit (.bool false)], args := [d] }
  | _ => none }
def TreeNilWrongFalsely : Prop := treeNilRow.holds Tryd.pinned (OpenSpec.ofChange treeNilWrong)

/-- 'bedsidelaw08.TreeOnce': WHATEVER THE INPUT: true; the input reads as it did. -/
def treeOnceSpec : ChangeSpec := { name := "treeOnce", fn := fun _ => fun
  | [d1, d2] => { results := [.lit (.bool true)], args := [d1, d2] }
  | _ => none }
def treeOnceRow : OpenClaim := { program := "ytlfbjgeobibnhaadoor", sum := "8cc7d5c4c65ed5e62ba93da29cdb8331beb877c07d9aed773623937c014847cc", func := "bedside/bedsidelaw08.TreeOnce", spec := "treeOnce", inPlace := ["internal/bytealg.abigen_runtime_cmpstring"], unfollowed := true, recurses := true, named := ["bedside/object.kinds", "bedside/object.words"], apart := false, laid := [("bedside/object.kinds", laid_bedside_object_kinds), ("bedside/object.words", laid_bedside_object_words)] }
def TreeOnceSaid : Prop := treeOnceRow.holds Tryd.pinned (OpenSpec.ofChange treeOnceSpec)

/-- ITS FALSE NEIGHBOUR: 'it returns false'. Refute it at one input. -/
def treeOnceWrong : ChangeSpec := { name := "treeOnce", fn := fun _ => fun
  | [d1, d2] => { results := [.lit (.bool false)], args := [d1, d2] }
  | _ => none }
def TreeOnceWrongFalsely : Prop := treeOnceRow.holds Tryd.pinned (OpenSpec.ofChange treeOnceWrong)

/-- 'bedsidelaw08.TreeWalked': WHATEVER THE INPUT: true; the input reads as it did. -/
def treeWalkedSpec : ChangeSpec := { name := "treeWalked", fn := fun _ => fun
  | [d1, d2] => { results := [.lit (.bool true)], args := [d1, d2] }
  | _ => none }
def treeWalkedRow : OpenClaim := { program := "ytlfbjgeobibnhaadoor", sum := "8cc7d5c4c65ed5e62ba93da29cdb8331beb877c07d9aed773623937c014847cc", func := "bedside/bedsidelaw08.TreeWalked", spec := "treeWalked", inPlace := ["internal/bytealg.abigen_runtime_cmpstring"], unfollowed := true, recurses := true, named := ["bedside/object.kinds", "bedside/object.words"], apart := false, laid := [("bedside/object.kinds", laid_bedside_object_kinds), ("bedside/object.words", laid_bedside_object_words)] }
def TreeWalkedSaid : Prop := treeWalkedRow.holds Tryd.pinned (OpenSpec.ofChange treeWalkedSpec)

/-- ITS FALSE NEIGHBOUR: 'it returns false'. Refute it at one input. -/
def treeWalkedWrong : ChangeSpec := { name := "treeWalked", fn := fun _ => fun
  | [d1, d2] => { results := [.lit (.bool false)], args := [d1, d2] }
  | _ => none }
def TreeWalkedWrongFalsely : Prop := treeWalkedRow.holds Tryd.pinned (OpenSpec.ofChange treeWalkedWrong)

/-- 'bedsidelaw08.TreeKids': WHATEVER THE INPUT: true; the input reads as it did. -/
def treeKidsSpec : ChangeSpec := { name := "treeKids", fn := fun _ => fun
  | [d1, d2, d3] => { results := [.lit (.bool true)], args := [d1, d2, d3] }
  | _ => none }
def treeKidsRow : OpenClaim := { program := "ytlfbjgeobibnhaadoor", sum := "8cc7d5c4c65ed5e62ba93da29cdb8331beb877c07d9aed773623937c014847cc", func := "bedside/bedsidelaw08.TreeKids", spec := "treeKids", inPlace := ["internal/bytealg.abigen_runtime_cmpstring"], unfollowed := true, recurses := true, named := ["bedside/object.kinds", "bedside/object.words"], apart := false, laid := [("bedside/object.kinds", laid_bedside_object_kinds), ("bedside/object.words", laid_bedside_object_words)] }
def TreeKidsSaid : Prop := treeKidsRow.holds Tryd.pinned (OpenSpec.ofChange treeKidsSpec)

/-- ITS FALSE NEIGHBOUR: 'it returns false'. Refute it at one input. -/
def treeKidsWrong : ChangeSpec := { name := "treeKids", fn := fun _ => fun
  | [d1, d2, d3] => { results := [.lit (.bool false)], args := [d1, d2, d3] }
  | _ => none }
def TreeKidsWrongFalsely : Prop := treeKidsRow.holds Tryd.pinned (OpenSpec.ofChange treeKidsWrong)

/-- 'bedsidelaw08.TreeGone': WHATEVER THE INPUT: true; the input reads as it did. -/
def treeGoneSpec : ChangeSpec := { name := "treeGone", fn := fun _ => fun
  | [d1, d2, d3] => { results := [.lit (.bool true)], args := [d1, d2, d3] }
  | _ => none }
def treeGoneRow : OpenClaim := { program := "ytlfbjgeobibnhaadoor", sum := "8cc7d5c4c65ed5e62ba93da29cdb8331beb877c07d9aed773623937c014847cc", func := "bedside/bedsidelaw08.TreeGone", spec := "treeGone", inPlace := ["internal/bytealg.abigen_runtime_cmpstring"], unfollowed := true, recurses := true, named := ["bedside/object.kinds", "bedside/object.words"], apart := false, laid := [("bedside/object.kinds", laid_bedside_object_kinds), ("bedside/object.words", laid_bedside_object_words)] }
def TreeGoneSaid : Prop := treeGoneRow.holds Tryd.pinned (OpenSpec.ofChange treeGoneSpec)

/-- ITS FALSE NEIGHBOUR: 'it returns false'. Refute it at one input. -/
def treeGoneWrong : ChangeSpec := { name := "treeGone", fn := fun _ => fun
  | [d1, d2, d3] => { results := [.lit (.bool false)], args := [d1, d2, d3] }
  | _ => none }
def TreeGoneWrongFalsely : Prop := treeGoneRow.holds Tryd.pinned (OpenSpec.ofChange treeGoneWrong)

/- THE SECOND FORM. 'bulk': how many values and letters a reading holds, each counted each time it is reached (what is shared counts as often as it is met; a slice's spare places count too). A statement '..UptoSaid' is the law's where the arguments, and the package variables that the reading takes, are together of bulk at most 1048576: NARROWER than '..Said'. Prove '..Said' where nothing that the law and all that it calls make is longer than what came in: it says more and counts as full. Else prove '..UptoSaid'. A law counts once. -/
mutual
def uptoBulk {H : Type} : DataW H → Nat
  | .lit (.string bytes) => bytes.length + 1
  | .lit _ => 1
  | .nil => 1
  | .ptr d => uptoBulk d + 1
  | .slice elems spare => uptoBulkAll elems + uptoBulkAll spare + 1
  | .agg parts => uptoBulkAll parts + 1
  | .iface _ d => uptoBulk d + 1
  | .map entries => uptoBulkEntries entries + 1
  | .held _ => 1
def uptoBulkAll {H : Type} : List (DataW H) → Nat
  | [] => 0
  | d :: r => uptoBulk d + uptoBulkAll r
def uptoBulkEntries {H : Type} : List (Lit × DataW H) → Nat
  | [] => 0
  | x :: r => uptoBulkEntry x + uptoBulkEntries r
def uptoBulkEntry {H : Type} : Lit × DataW H → Nat
  | (.string bytes, d) => bytes.length + uptoBulk d + 1
  | (_, d) => uptoBulk d + 1
 end
def uptoSmall : (H : Type) → List (DataW H) → Bool := fun _ ds => decide (uptoBulkAll ds ≤ 1048576)
def OpenSpec.upto (s : _root_.Go.ChangeSpec) : _root_.Go.OpenSpec := { _root_.Go.OpenSpec.ofChange s with cond := some uptoSmall }

/-- 'bedsidelaw08.TreeNil', WHERE WHAT IT READS IS OF BULK AT MOST 1048576: true; the input reads as it did. -/
def treeNilUptoRow : OpenClaim := { program := "ytlfbjgeobibnhaadoor", sum := "8cc7d5c4c65ed5e62ba93da29cdb8331beb877c07d9aed773623937c014847cc", func := "bedside/bedsidelaw08.TreeNil", spec := "treeNil", inPlace := ["internal/bytealg.abigen_runtime_cmpstring"], unfollowed := true, recurses := true, named := ["bedside/object.kinds", "bedside/object.words"], apart := false, laid := [("bedside/object.kinds", laid_bedside_object_kinds), ("bedside/object.words", laid_bedside_object_words)], narrowed := true }
def TreeNilUptoSaid : Prop := treeNilUptoRow.holds Tryd.pinned (OpenSpec.upto treeNilSpec)

/-- 'bedsidelaw08.TreeOnce', WHERE WHAT IT READS IS OF BULK AT MOST 1048576: true; the input reads as it did. -/
def treeOnceUptoRow : OpenClaim := { program := "ytlfbjgeobibnhaadoor", sum := "8cc7d5c4c65ed5e62ba93da29cdb8331beb877c07d9aed773623937c014847cc", func := "bedside/bedsidelaw08.TreeOnce", spec := "treeOnce", inPlace := ["internal/bytealg.abigen_runtime_cmpstring"], unfollowed := true, recurses := true, named := ["bedside/object.kinds", "bedside/object.words"], apart := false, laid := [("bedside/object.kinds", laid_bedside_object_kinds), ("bedside/object.words", laid_bedside_object_words)], narrowed := true }
def TreeOnceUptoSaid : Prop := treeOnceUptoRow.holds Tryd.pinned (OpenSpec.upto treeOnceSpec)

/-- 'bedsidelaw08.TreeWalked', WHERE WHAT IT READS IS OF BULK AT MOST 1048576: true; the input reads as it did. -/
def treeWalkedUptoRow : OpenClaim := { program := "ytlfbjgeobibnhaadoor", sum := "8cc7d5c4c65ed5e62ba93da29cdb8331beb877c07d9aed773623937c014847cc", func := "bedside/bedsidelaw08.TreeWalked", spec := "treeWalked", inPlace := ["internal/bytealg.abigen_runtime_cmpstring"], unfollowed := true, recurses := true, named := ["bedside/object.kinds", "bedside/object.words"], apart := false, laid := [("bedside/object.kinds", laid_bedside_object_kinds), ("bedside/object.words", laid_bedside_object_words)], narrowed := true }
def TreeWalkedUptoSaid : Prop := treeWalkedUptoRow.holds Tryd.pinned (OpenSpec.upto treeWalkedSpec)

/-- 'bedsidelaw08.TreeKids', WHERE WHAT IT READS IS OF BULK AT MOST 1048576: true; the input reads as it did. -/
def treeKidsUptoRow : OpenClaim := { program := "ytlfbjgeobibnhaadoor", sum := "8cc7d5c4c65ed5e62ba93da29cdb8331beb877c07d9aed773623937c014847cc", func := "bedside/bedsidelaw08.TreeKids", spec := "treeKids", inPlace := ["internal/bytealg.abigen_runtime_cmpstring"], unfollowed := true, recurses := true, named := ["bedside/object.kinds", "bedside/object.words"], apart := false, laid := [("bedside/object.kinds", laid_bedside_object_kinds), ("bedside/object.words", laid_bedside_object_words)], narrowed := true }
def TreeKidsUptoSaid : Prop := treeKidsUptoRow.holds Tryd.pinned (OpenSpec.upto treeKidsSpec)

/-- 'bedsidelaw08.TreeGone', WHERE WHAT IT READS IS OF BULK AT MOST 1048576: true; the input reads as it did. -/
def treeGoneUptoRow : OpenClaim := { program := "ytlfbjgeobibnhaadoor", sum := "8cc7d5c4c65ed5e62ba93da29cdb8331beb877c07d9aed773623937c014847cc", func := "bedside/bedsidelaw08.TreeGone", spec := "treeGone", inPlace := ["internal/bytealg.abigen_runtime_cmpstring"], unfollowed := true, recurses := true, named := ["bedside/object.kinds", "bedside/object.words"], apart := false, laid := [("bedside/object.kinds", laid_bedside_object_kinds), ("bedside/object.words", laid_bedside_object_words)], narrowed := true }
def TreeGoneUptoSaid : Prop := treeGoneUptoRow.holds Tryd.pinned (OpenSpec.upto treeGoneSpec)

end Rows
end Go.Proofs.YtlfbjgeobibnhaaDoor
