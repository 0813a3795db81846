/-
  NARROWER THAN 'FOR EVERY INPUT', by the rows' own cells (each row's printed sentence says how): ChangeApplies: laid · ChangeBack: laid · ChangeNone: laid · ChangeOrder: laid.
  DERIVED. THE GIVEN ROWS OF THIS SEAT. 4 by the template 'for every input the law returns true; each argument reads behind the call as it read before'; 0 by the template 'total and deterministic' (their statements: YtncahpbjbgcnbaaGreatDoorTotals.lean).
  GIVEN WITH THE SEED: the statements are not yours to turn. If you find one false, say at which input.
  Laid BY PROGRAM, IN A SANDBOX (cutbox-rows.mjs): the forced cells as the released guide's own fill.sh prints them over the translation 84062059896ca0ac… (all of the seat's roots in one cut). By AI agents, Wed Nov 11 2026. No macro, syntax, notation, axiom, sorry.
-/
import Derived.Test.YtncahpbjbgcnbaaGreatDoorChecked
import GoSem.Claim
import GoSem.ClaimJoined
import GoSem.ClaimMapViews
import Derived.JoinedTies
import Derived.KernelRfl
namespace Go.Proofs.YtncahpbjbgcnbaaGreatDoor
/- THE CELL 'sum', in the pinned program and in every row, IS THE sha256 OF THE DUMP (.gsa) THAT YtncahpbjbgcnbaaGreatDoorProg.lean LOADS. Nothing in Lean hashes anything: it is a label: what it is worth is what the hold of that sum in a sandbox is worth. -/
noncomputable def Tryz.pinned : Pinned := { name := "ytncahpbjbgcnbaagreatdoor", sum := "84062059896ca0acbe0847616a98c35dd7ef36fbc3522e4e7a3679ed2a2476fb", checked := Tryz.checked }
namespace Rows
def none {H : Type} : Left H := { results := [], args := [] }

/- WHAT THE LISTED PACKAGE-LEVEL VARIABLES READ AS WHEN THE CALL BEGINS. Each datum BY PROGRAM (the guide's laid-datum.mjs) off the statement by which the dump's own 'gosem.cut.vars' lays the variable. In a bare row this is a premise. The card (YtncahpbjbgcnbaaGreatDoorCards.lean) ties it to the program's text. -/
def laid_bedside_object_kinds {H : Type} : DataW H := .agg [.lit (.int .u16 0), .lit (.int .u16 0), .lit (.int .u16 1), .lit (.int .u16 1), .lit (.int .u16 441), .lit (.int .u16 65), .lit (.int .u16 71), .lit (.int .u16 69), .lit (.int .u16 1607), .lit (.int .u16 2051)]
def laid_bedside_object_words {H : Type} : DataW H := .agg [.lit (.string []), .lit (.string [109, 100, 115]), .lit (.string [118, 109, 100]), .lit (.string [99, 104, 97, 110, 110, 101, 108]), .lit (.string [109, 101, 116, 114, 105, 99]), .lit (.string [115, 121, 115, 116, 101, 109]), .lit (.string [99, 111, 110, 100, 105, 116, 105, 111, 110]), .lit (.string [115, 105, 103, 110, 97, 108]), .lit (.string [108, 105, 109, 105, 116]), .lit (.string [99, 111, 110, 116, 101, 120, 116])]

/-- 'bedsidelaw10.ChangeApplies': WHATEVER THE INPUT: true; the input reads as it did. -/
def changeAppliesSpec : ChangeSpec := { name := "changeApplies", fn := fun _ => fun
  | [d1, d2] => { results := [.lit (.bool true)], args := [d1, d2] }
  | _ => none }
def changeAppliesRow : OpenClaim := { program := "ytncahpbjbgcnbaagreatdoor", sum := "84062059896ca0acbe0847616a98c35dd7ef36fbc3522e4e7a3679ed2a2476fb", func := "bedside/bedsidelaw10.ChangeApplies", spec := "changeApplies", inPlace := ["internal/bytealg.abigen_runtime_cmpstring"], unfollowed := true, recurses := true, named := ["bedside/object.kinds", "bedside/object.words"], apart := false, laid := [("bedside/object.kinds", laid_bedside_object_kinds), ("bedside/object.words", laid_bedside_object_words)] }
def ChangeAppliesSaid : Prop := changeAppliesRow.holds Tryz.pinned (OpenSpec.ofChange changeAppliesSpec)

/-- ITS FALSE NEIGHBOUR: 'it returns false'. Refute it at one input. -/
def changeAppliesWrong : ChangeSpec := { name := "changeApplies", fn := fun _ => fun
  | [d1, d2] => { results := [.lit (.bool false)], args := [d1, d2] }
  | _ => none }
def ChangeAppliesWrongFalsely : Prop := changeAppliesRow.holds Tryz.pinned (OpenSpec.ofChange changeAppliesWrong)

/-- 'bedsidelaw10.ChangeBack': WHATEVER THE INPUT: true; the input reads as it did. -/
def changeBackSpec : ChangeSpec := { name := "changeBack", fn := fun _ => fun
  | [d1, d2] => { results := [.lit (.bool true)], args := [d1, d2] }
  | _ => none }
def changeBackRow : OpenClaim := { program := "ytncahpbjbgcnbaagreatdoor", sum := "84062059896ca0acbe0847616a98c35dd7ef36fbc3522e4e7a3679ed2a2476fb", func := "bedside/bedsidelaw10.ChangeBack", spec := "changeBack", inPlace := ["internal/bytealg.abigen_runtime_cmpstring"], unfollowed := true, recurses := true, named := ["bedside/object.kinds", "bedside/object.words"], apart := false, laid := [("bedside/object.kinds", laid_bedside_object_kinds), ("bedside/object.words", laid_bedside_object_words)] }
def ChangeBackSaid : Prop := changeBackRow.holds Tryz.pinned (OpenSpec.ofChange changeBackSpec)

/-- ITS FALSE NEIGHBOUR: 'it returns false'. Refute it at one input. -/
def changeBackWrong : ChangeSpec := { name := "changeBack", fn := fun _ => fun
  | [d1, d2] => { results := [.lit (.bool false)], args := [d1, d2] }
  | _ => none }
def ChangeBackWrongFalsely : Prop := changeBackRow.holds Tryz.pinned (OpenSpec.ofChange changeBackWrong)

/-- 'bedsidelaw10.ChangeNone': WHATEVER THE INPUT: true; the input reads as it did. -/
def changeNoneSpec : ChangeSpec := { name := "changeNone", fn := fun _ => fun
  | [d1, d2] => { results := [.lit (.bool true)], args := [d1, d2] }
  | _ => none }
def changeNoneRow : OpenClaim := { program := "ytncahpbjbgcnbaagreatdoor", sum := "84062059896ca0acbe0847616a98c35dd7ef36fbc3522e4e7a3679ed2a2476fb", func := "bedside/bedsidelaw10.ChangeNone", spec := "changeNone", inPlace := ["internal/bytealg.abigen_runtime_cmpstring"], unfollowed := true, recurses := true, named := ["bedside/object.kinds", "bedside/object.words"], apart := false, laid := [("bedside/object.kinds", laid_bedside_object_kinds), ("bedside/object.words", laid_bedside_object_words)] }
def ChangeNoneSaid : Prop := changeNoneRow.holds Tryz.pinned (OpenSpec.ofChange changeNoneSpec)

/-- ITS FALSE NEIGHBOUR: 'it returns false'. Refute it at one input. -/
def changeNoneWrong : ChangeSpec := { name := "changeNone", fn := fun _ => fun
  | [d1, d2] => { results := [.lit (.bool false)], args := [d1, d2] }
  | _ => none }
def ChangeNoneWrongFalsely : Prop := changeNoneRow.holds Tryz.pinned (OpenSpec.ofChange changeNoneWrong)

/-- 'bedsidelaw10.ChangeOrder': WHATEVER THE INPUT: true; the input reads as it did. -/
def changeOrderSpec : ChangeSpec := { name := "changeOrder", fn := fun _ => fun
  | [d1, d2, d3] => { results := [.lit (.bool true)], args := [d1, d2, d3] }
  | _ => none }
def changeOrderRow : OpenClaim := { program := "ytncahpbjbgcnbaagreatdoor", sum := "84062059896ca0acbe0847616a98c35dd7ef36fbc3522e4e7a3679ed2a2476fb", func := "bedside/bedsidelaw10.ChangeOrder", spec := "changeOrder", inPlace := ["internal/bytealg.abigen_runtime_cmpstring"], unfollowed := true, recurses := true, named := ["bedside/object.kinds", "bedside/object.words"], apart := false, laid := [("bedside/object.kinds", laid_bedside_object_kinds), ("bedside/object.words", laid_bedside_object_words)] }
def ChangeOrderSaid : Prop := changeOrderRow.holds Tryz.pinned (OpenSpec.ofChange changeOrderSpec)

/-- ITS FALSE NEIGHBOUR: 'it returns false'. Refute it at one input. -/
def changeOrderWrong : ChangeSpec := { name := "changeOrder", fn := fun _ => fun
  | [d1, d2, d3] => { results := [.lit (.bool false)], args := [d1, d2, d3] }
  | _ => none }
def ChangeOrderWrongFalsely : Prop := changeOrderRow.holds Tryz.pinned (OpenSpec.ofChange changeOrderWrong)

/- THE SECOND FORM. 'bulk': how many values and letters a reading holds, each counted each time it is reached (what is shared counts as often as it is met; a slice's spare places count too). A statement '..UptoSaid' is the law's where the arguments, and the package variables that the reading takes, are together of bulk at most 1048576: NARROWER than '..Said'. Prove '..Said' where nothing that the law and all that it calls make is longer than what came in: it says more and counts as full. Else prove '..UptoSaid'. A law counts once. -/
mutual
def uptoBulk {H : Type} : DataW H → Nat
  | .lit (.string bytes) => bytes.length + 1
  | .lit _ => 1
  | .nil => 1
  | .ptr d => uptoBulk d + 1
  | .slice elems spare => uptoBulkAll elems + uptoBulkAll spare + 1
  | .agg parts => uptoBulkAll parts + 1
  | .iface _ d => uptoBulk d + 1
  | .map entries => uptoBulkEntries entries + 1
  | .held _ => 1
def uptoBulkAll {H : Type} : List (DataW H) → Nat
  | [] => 0
  | d :: r => uptoBulk d + uptoBulkAll r
def uptoBulkEntries {H : Type} : List (Lit × DataW H) → Nat
  | [] => 0
  | x :: r => uptoBulkEntry x + uptoBulkEntries r
def uptoBulkEntry {H : Type} : Lit × DataW H → Nat
  | (.string bytes, d) => bytes.length + uptoBulk d + 1
  | (_, d) => uptoBulk d + 1
 end
def uptoSmall : (H : Type) → List (DataW H) → Bool := fun _ ds => decide (uptoBulkAll ds ≤ 1048576)
def OpenSpec.upto (s : _root_.Go.ChangeSpec) : _root_.Go.OpenSpec := { _root_.Go.OpenSpec.ofChange s with cond := some uptoSmall }

/-- 'bedsidelaw10.ChangeApplies', WHERE WHAT IT READS IS OF BULK AT MOST 1048576: true; the input reads as it did. -/
def changeAppliesUptoRow : OpenClaim := { program := "ytncahpbjbgcnbaagreatdoor", sum := "84062059896ca0acbe0847616a98c35dd7ef36fbc3522e4e7a3679ed2a2476fb", func := "bedside/bedsidelaw10.ChangeApplies", spec := "changeApplies", inPlace := ["internal/bytealg.abigen_runtime_cmpstring"], unfollowed := true, recurses := true, named := ["bedside/object.kinds", "bedside/object.words"], apart := false, laid := [("bedside/object.kinds", laid_bedside_object_kinds), ("bedside/object.words", laid_bedside_object_words)], narrowed := true }
def ChangeAppliesUptoSaid : Prop := changeAppliesUptoRow.holds Tryz.pinned (OpenSpec.upto changeAppliesSpec)

/-- 'bedsidelaw10.ChangeBack', WHERE WHAT IT READS IS OF BULK AT MOST 1048576: true; the input reads as it did. -/
def changeBackUptoRow : OpenClaim := { program := "ytncahpbjbgcnbaagreatdoor", sum := "84062059896ca0acbe0847616a98c35dd7ef36fbc3522e4e7a3679ed2a2476fb", func := "bedside/bedsidelaw10.ChangeBack", spec := "changeBack", inPlace := ["internal/bytealg.abigen_runtime_cmpstring"], unfollowed := true, recurses := true, named := ["bedside/object.kinds", "bedside/object.words"], apart := false, laid := [("bedside/object.kinds", laid_bedside_object_kinds), ("bedside/object.words", laid_bedside_object_words)], narrowed := true }
def ChangeBackUptoSaid : Prop := changeBackUptoRow.holds Tryz.pinned (OpenSpec.upto changeBackSpec)

/-- 'bedsidelaw10.ChangeNone', WHERE WHAT IT READS IS OF BULK AT MOST 1048576: true; the input reads as it did. -/
def changeNoneUptoRow : OpenClaim := { program := "ytncahpbjbgcnbaagreatdoor", sum := "84062059896ca0acbe0847616a98c35dd7ef36fbc3522e4e7a3679ed2a2476fb", func := "bedside/bedsidelaw10.ChangeNone", spec := "changeNone", inPlace := ["internal/bytealg.abigen_runtime_cmpstring"], unfollowed := true, recurses := true, named := ["bedside/object.kinds", "bedside/object.words"], apart := false, laid := [("bedside/object.kinds", laid_bedside_object_kinds), ("bedside/object.words", laid_bedside_object_words)], narrowed := true }
def ChangeNoneUptoSaid : Prop := changeNoneUptoRow.holds Tryz.pinned (OpenSpec.upto changeNoneSpec)

/-- 'bedsidelaw10.ChangeOrder', WHERE WHAT IT READS IS OF BULK AT MOST 1048576: true; the input reads as it did. -/
def changeOrderUptoRow : OpenClaim := { program := "ytncahpbjbgcnbaagreatdoor", sum := "84062059896ca0acbe0847616a98c35dd7ef36fbc3522e4e7a3679ed2a2476fb", func := "bedside/bedsidelaw10.ChangeOrder", spec := "changeOrder", inPlace := ["internal/bytealg.abigen_runtime_cmpstring"], unfollowed := true, recurses := true, named := ["bedside/object.kinds", "bedside/object.words"], apart := false, laid := [("bedside/object.kinds", laid_bedside_object_kinds), ("bedside/object.words", laid_bedside_object_words)], narrowed := true }
def ChangeOrderUptoSaid : Prop := changeOrderUptoRow.holds Tryz.pinned (OpenSpec.upto changeOrderSpec)

end Rows
end Go.Proofs.YtncahpbjbgcnbaaGreatDoor
