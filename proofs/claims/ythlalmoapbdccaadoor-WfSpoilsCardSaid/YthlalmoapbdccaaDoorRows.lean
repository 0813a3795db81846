/-
  NARROWER THAN 'FOR EVERY INPUT', by the rows' own cells (each row's printed sentence says how): WfChecks: laid · WfSpoils: laid · WfOrder: laid · WfApart: laid · WfLess: laid · WfRules: laid.
  DERIVED. THE GIVEN ROWS OF THIS SEAT. 6 by the template 'for every input the law returns true; each argument reads behind the call as it read before'; 0 by the template 'total and deterministic' (their statements: YthlalmoapbdccaaDoorTotals.lean).
  GIVEN WITH THE SEED: the statements are not yours to turn. If you find one false, say at which input.
  Laid BY PROGRAM, IN A SANDBOX (cutbox-rows.mjs): the forced cells as the released guide's own fill.sh prints them over the translation 029695f8de2a8255… (all of the seat's roots in one cut). By AI agents, Wed Nov 11 2026. No macro, syntax, notation, axiom, sorry.
-/
import Derived.Test.YthlalmoapbdccaaDoorChecked
import GoSem.Claim
import GoSem.ClaimJoined
import GoSem.ClaimMapViews
import Derived.JoinedTies
import Derived.KernelRfl
namespace Go.Proofs.YthlalmoapbdccaaDoor
/- THE CELL 'sum', in the pinned program and in every row, IS THE sha256 OF THE DUMP (.gsa) THAT YthlalmoapbdccaaDoorProg.lean LOADS. Nothing in Lean hashes anything: it is a label: what it is worth is what the hold of that sum in a sandbox is worth. -/
noncomputable def Tryd.pinned : Pinned := { name := "ythlalmoapbdccaadoor", sum := "029695f8de2a82557b70f6f8a483fe979fb6d3d460c62d274ce7231735e1a2c5", checked := Tryd.checked }
namespace Rows
def none {H : Type} : Left H := { results := [], args := [] }

/- WHAT THE LISTED PACKAGE-LEVEL VARIABLES READ AS WHEN THE CALL BEGINS. Each datum BY PROGRAM (the guide's laid-datum.mjs) off the statement by which the dump's own 'gosem.cut.vars' lays the variable. In a bare row this is a premise. The card (YthlalmoapbdccaaDoorCards.lean) ties it to the program's text. -/
def laid_bedside_object_kinds {H : Type} : DataW H := .agg [.lit (.int .u16 0), .lit (.int .u16 0), .lit (.int .u16 1), .lit (.int .u16 1), .lit (.int .u16 441), .lit (.int .u16 65), .lit (.int .u16 71), .lit (.int .u16 69), .lit (.int .u16 1607), .lit (.int .u16 2051)]
def laid_bedside_object_words {H : Type} : DataW H := .agg [.lit (.string []), .lit (.string [109, 100, 115]), .lit (.string [118, 109, 100]), .lit (.string [99, 104, 97, 110, 110, 101, 108]), .lit (.string [109, 101, 116, 114, 105, 99]), .lit (.string [115, 121, 115, 116, 101, 109]), .lit (.string [99, 111, 110, 100, 105, 116, 105, 111, 110]), .lit (.string [115, 105, 103, 110, 97, 108]), .lit (.string [108, 105, 109, 105, 116]), .lit (.string [99, 111, 110, 116, 101, 120, 116])]
def laid_bedside_contain_rules {H : Type} : DataW H := .agg [.agg [.lit (.int .u16 0), .lit (.int .u16 0), .lit (.int .u8 0), .lit (.int .i64 0)], .agg [.lit (.int .u16 1), .lit (.int .u16 0), .lit (.int .u8 1), .lit (.int .i64 4)], .agg [.lit (.int .u16 2), .lit (.int .u16 0), .lit (.int .u8 2), .lit (.int .i64 8)], .agg [.lit (.int .u16 4), .lit (.int .u16 0), .lit (.int .u8 3), .lit (.int .i64 8)], .agg [.lit (.int .u16 8), .lit (.int .u16 0), .lit (.int .u8 4), .lit (.int .i64 16)], .agg [.lit (.int .u16 6), .lit (.int .u16 0), .lit (.int .u8 5), .lit (.int .i64 1)], .agg [.lit (.int .u16 32), .lit (.int .u16 16), .lit (.int .u8 6), .lit (.int .i64 16)], .agg [.lit (.int .u16 32), .lit (.int .u16 320), .lit (.int .u8 6), .lit (.int .i64 0)], .agg [.lit (.int .u16 32), .lit (.int .u16 16), .lit (.int .u8 6), .lit (.int .i64 0)], .agg [.lit (.int .u16 2), .lit (.int .u16 0), .lit (.int .u8 9), .lit (.int .i64 8)]]

/-- 'bedsidelaw09.WfChecks': WHATEVER THE INPUT: true; the input reads as it did. -/
def wfChecksSpec : ChangeSpec := { name := "wfChecks", fn := fun _ => fun
  | [d] => { results := [.lit (.bool true)], args := [d] }
  | _ => none }
def wfChecksRow : OpenClaim := { program := "ythlalmoapbdccaadoor", sum := "029695f8de2a82557b70f6f8a483fe979fb6d3d460c62d274ce7231735e1a2c5", func := "bedside/bedsidelaw09.WfChecks", spec := "wfChecks", unfollowed := true, recurses := true, named := ["bedside/object.kinds", "bedside/object.words", "bedside/contain.rules"], plainKeys := false, apart := false, laid := [("bedside/object.kinds", laid_bedside_object_kinds), ("bedside/object.words", laid_bedside_object_words), ("bedside/contain.rules", laid_bedside_contain_rules)] }
def WfChecksSaid : Prop := wfChecksRow.holds Tryd.pinned (OpenSpec.ofChange wfChecksSpec)

/-- ITS FALSE NEIGHBOUR: 'it returns false'. Refute it at one input. -/
def wfChecksWrong : ChangeSpec := { name := "wfChecks", fn := fun _ => fun
  | [d] => { results := [.lit (.bool false)], args := [d] }
  | _ => none }
def WfChecksWrongFalsely : Prop := wfChecksRow.holds Tryd.pinned (OpenSpec.ofChange wfChecksWrong)

/-- 'bedsidelaw09.WfSpoils': WHATEVER THE INPUT: true; the input reads as it did. -/
def wfSpoilsSpec : ChangeSpec := { name := "wfSpoils", fn := fun _ => fun
  | [d1, d2, d3] => { results := [.lit (.bool true)], args := [d1, d2, d3] }
  | _ => none }
def wfSpoilsRow : OpenClaim := { program := "ythlalmoapbdccaadoor", sum := "029695f8de2a82557b70f6f8a483fe979fb6d3d460c62d274ce7231735e1a2c5", func := "bedside/bedsidelaw09.WfSpoils", spec := "wfSpoils", unfollowed := true, recurses := true, named := ["bedside/object.kinds", "bedside/object.words", "bedside/contain.rules"], plainKeys := false, apart := false, laid := [("bedside/object.kinds", laid_bedside_object_kinds), ("bedside/object.words", laid_bedside_object_words), ("bedside/contain.rules", laid_bedside_contain_rules)] }
def WfSpoilsSaid : Prop := wfSpoilsRow.holds Tryd.pinned (OpenSpec.ofChange wfSpoilsSpec)

/-- ITS FALSE NEIGHBOUR: 'it returns false'. Refute it at one input. -/
def wfSpoilsWrong : ChangeSpec := { name := "wfSpoils", fn := fun _ => fun
  | [d1, d2, d3] => { results := [.lit (.bool false)], args := [d1, d2, d3] }
  | _ => none }
def WfSpoilsWrongFalsely : Prop := wfSpoilsRow.holds Tryd.pinned (OpenSpec.ofChange wfSpoilsWrong)

/-- 'bedsidelaw09.WfOrder': WHATEVER THE INPUT: true; the input reads as it did. -/
def wfOrderSpec : ChangeSpec := { name := "wfOrder", fn := fun _ => fun
  | [d1, d2, d3] => { results := [.lit (.bool true)], args := [d1, d2, d3] }
  | _ => none }
def wfOrderRow : OpenClaim := { program := "ythlalmoapbdccaadoor", sum := "029695f8de2a82557b70f6f8a483fe979fb6d3d460c62d274ce7231735e1a2c5", func := "bedside/bedsidelaw09.WfOrder", spec := "wfOrder", unfollowed := true, recurses := true, named := ["bedside/object.kinds", "bedside/object.words", "bedside/contain.rules"], plainKeys := false, apart := false, laid := [("bedside/object.kinds", laid_bedside_object_kinds), ("bedside/object.words", laid_bedside_object_words), ("bedside/contain.rules", laid_bedside_contain_rules)] }
def WfOrderSaid : Prop := wfOrderRow.holds Tryd.pinned (OpenSpec.ofChange wfOrderSpec)

/-- ITS FALSE NEIGHBOUR: 'it returns false'. Refute it at one input. -/
def wfOrderWrong : ChangeSpec := { name := "wfOrder", fn := fun _ => fun
  | [d1, d2, d3] => { results := [.lit (.bool false)], args := [d1, d2, d3] }
  | _ => none }
def WfOrderWrongFalsely : Prop := wfOrderRow.holds Tryd.pinned (OpenSpec.ofChange wfOrderWrong)

/-- 'bedsidelaw09.WfApart': WHATEVER THE INPUT: true; the input reads as it did. -/
def wfApartSpec : ChangeSpec := { name := "wfApart", fn := fun _ => fun
  | [d1, d2] => { results := [.lit (.bool true)], args := [d1, d2] }
  | _ => none }
def wfApartRow : OpenClaim := { program := "ythlalmoapbdccaadoor", sum := "029695f8de2a82557b70f6f8a483fe979fb6d3d460c62d274ce7231735e1a2c5", func := "bedside/bedsidelaw09.WfApart", spec := "wfApart", unfollowed := true, recurses := true, named := ["bedside/object.kinds", "bedside/object.words", "bedside/contain.rules"], plainKeys := false, apart := false, laid := [("bedside/object.kinds", laid_bedside_object_kinds), ("bedside/object.words", laid_bedside_object_words), ("bedside/contain.rules", laid_bedside_contain_rules)] }
def WfApartSaid : Prop := wfApartRow.holds Tryd.pinned (OpenSpec.ofChange wfApartSpec)

/-- ITS FALSE NEIGHBOUR: 'it returns false'. Refute it at one input. -/
def wfApartWrong : ChangeSpec := { name := "wfApart", fn := fun _ => fun
  | [d1, d2] => { results := [.lit (.bool false)], args := [d1, d2] }
  | _ => none }
def WfApartWrongFalsely : Prop := wfApartRow.holds Tryd.pinned (OpenSpec.ofChange wfApartWrong)

/-- 'bedsidelaw09.WfLess': WHATEVER THE INPUT: true; the input reads as it did. -/
def wfLessSpec : ChangeSpec := { name := "wfLess", fn := fun _ => fun
  | [d1, d2] => { results := [.lit (.bool true)], args := [d1, d2] }
  | _ => none }
def wfLessRow : OpenClaim := { program := "ythlalmoapbdccaadoor", sum := "029695f8de2a82557b70f6f8a483fe979fb6d3d460c62d274ce7231735e1a2c5", func := "bedside/bedsidelaw09.WfLess", spec := "wfLess", unfollowed := true, recurses := true, named := ["bedside/object.kinds", "bedside/object.words", "bedside/contain.rules"], plainKeys := false, apart := false, laid := [("bedside/object.kinds", laid_bedside_object_kinds), ("bedside/object.words", laid_bedside_object_words), ("bedside/contain.rules", laid_bedside_contain_rules)] }
def WfLessSaid : Prop := wfLessRow.holds Tryd.pinned (OpenSpec.ofChange wfLessSpec)

/-- ITS FALSE NEIGHBOUR: 'it returns false'. Refute it at one input. -/
def wfLessWrong : ChangeSpec := { name := "wfLess", fn := fun _ => fun
  | [d1, d2] => { results := [.lit (.bool false)], args := [d1, d2] }
  | _ => none }
def WfLessWrongFalsely : Prop := wfLessRow.holds Tryd.pinned (OpenSpec.ofChange wfLessWrong)

/-- 'bedsidelaw09.WfRules': WHATEVER THE INPUT: true; the input reads as it did. -/
def wfRulesSpec : ChangeSpec := { name := "wfRules", fn := fun _ => fun
  | [d] => { results := [.lit (.bool true)], args := [d] }
  | _ => none }
def wfRulesRow : OpenClaim := { program := "ythlalmoapbdccaadoor", sum := "029695f8de2a82557b70f6f8a483fe979fb6d3d460c62d274ce7231735e1a2c5", func := "bedside/bedsidelaw09.WfRules", spec := "wfRules", unfollowed := true, recurses := true, named := ["bedside/object.kinds", "bedside/object.words", "bedside/contain.rules"], plainKeys := false, apart := false, laid := [("bedside/object.kinds", laid_bedside_object_kinds), ("bedside/object.words", laid_bedside_object_words), ("bedside/contain.rules", laid_bedside_contain_rules)] }
def WfRulesSaid : Prop := wfRulesRow.holds Tryd.pinned (OpenSpec.ofChange wfRulesSpec)

/-- ITS FALSE NEIGHBOUR: 'it returns false'. Refute it at one input. -/
def wfRulesWrong : ChangeSpec := { name := "wfRules", fn := fun _ => fun
  | [d] => { results := [.lit (.bool false)], args := [d] }
  | _ => none }
def WfRulesWrongFalsely : Prop := wfRulesRow.holds Tryd.pinned (OpenSpec.ofChange wfRulesWrong)

/- THE SECOND FORM. 'bulk': how many values and letters a reading holds, each counted each time it is reached (what is shared counts as often as it is met; a slice's spare places count too). A statement '..UptoSaid' is the law's where the arguments, and the package variables that the reading takes, are together of bulk at most 1048576: NARROWER than '..Said'. Prove '..Said' where nothing that the law and all that it calls make is longer than what came in: it says more and counts as full. Else prove '..UptoSaid'. A law counts once. -/
mutual
def uptoBulk {H : Type} : DataW H → Nat
  | .lit (.string bytes) => bytes.length + 1
  | .lit _ => 1
  | .nil => 1
  | .ptr d => uptoBulk d + 1
  | .slice elems spare => uptoBulkAll elems + uptoBulkAll spare + 1
  | .agg parts => uptoBulkAll parts + 1
  | .iface _ d => uptoBulk d + 1
  | .map entries => uptoBulkEntries entries + 1
  | .held _ => 1
def uptoBulkAll {H : Type} : List (DataW H) → Nat
  | [] => 0
  | d :: r => uptoBulk d + uptoBulkAll r
def uptoBulkEntries {H : Type} : List (Lit × DataW H) → Nat
  | [] => 0
  | x :: r => uptoBulkEntry x + uptoBulkEntries r
def uptoBulkEntry {H : Type} : Lit × DataW H → Nat
  | (.string bytes, d) => bytes.length + uptoBulk d + 1
  | (_, d) => uptoBulk d + 1
 end
def uptoSmall : (H : Type) → List (DataW H) → Bool := fun _ ds => decide (uptoBulkAll ds ≤ 1048576)
def OpenSpec.upto (s : _root_.Go.ChangeSpec) : _root_.Go.OpenSpec := { _root_.Go.OpenSpec.ofChange s with cond := some uptoSmall }

/-- 'bedsidelaw09.WfChecks', WHERE WHAT IT READS IS OF BULK AT MOST 1048576: true; the input reads as it did. -/
def wfChecksUptoRow : OpenClaim := { program := "ythlalmoapbdccaadoor", sum := "029695f8de2a82557b70f6f8a483fe979fb6d3d460c62d274ce7231735e1a2c5", func := "bedside/bedsidelaw09.WfChecks", spec := "wfChecks", unfollowed := true, recurses := true, named := ["bedside/object.kinds", "bedside/object.words", "bedside/contain.rules"], plainKeys := false, apart := false, laid := [("bedside/object.kinds", laid_bedside_object_kinds), ("bedside/object.words", laid_bedside_object_words), ("bedside/contain.rules", laid_bedside_contain_rules)], narrowed := true }
def WfChecksUptoSaid : Prop := wfChecksUptoRow.holds Tryd.pinned (OpenSpec.upto wfChecksSpec)

/-- 'bedsidelaw09.WfSpoils', WHERE WHAT IT READS IS OF BULK AT MOST 1048576: true; the input reads as it did. -/
def wfSpoilsUptoRow : OpenClaim := { program := "ythlalmoapbdccaadoor", sum := "029695f8de2a82557b70f6f8a483fe979fb6d3d460c62d274ce7231735e1a2c5", func := "bedside/bedsidelaw09.WfSpoils", spec := "wfSpoils", unfollowed := true, recurses := true, named := ["bedside/object.kinds", "bedside/object.words", "bedside/contain.rules"], plainKeys := false, apart := false, laid := [("bedside/object.kinds", laid_bedside_object_kinds), ("bedside/object.words", laid_bedside_object_words), ("bedside/contain.rules", laid_bedside_contain_rules)], narrowed := true }
def WfSpoilsUptoSaid : Prop := wfSpoilsUptoRow.holds Tryd.pinned (OpenSpec.upto wfSpoilsSpec)

/-- 'bedsidelaw09.WfOrder', WHERE WHAT IT READS IS OF BULK AT MOST 1048576: true; the input reads as it did. -/
def wfOrderUptoRow : OpenClaim := { program := "ythlalmoapbdccaadoor", sum := "029695f8de2a82557b70f6f8a483fe979fb6d3d460c62d274ce7231735e1a2c5", func := "bedside/bedsidelaw09.WfOrder", spec := "wfOrder", unfollowed := true, recurses := true, named := ["bedside/object.kinds", "bedside/object.words", "bedside/contain.rules"], plainKeys := false, apart := false, laid := [("bedside/object.kinds", laid_bedside_object_kinds), ("bedside/object.words", laid_bedside_object_words), ("bedside/contain.rules", laid_bedside_contain_rules)], narrowed := true }
def WfOrderUptoSaid : Prop := wfOrderUptoRow.holds Tryd.pinned (OpenSpec.upto wfOrderSpec)

/-- 'bedsidelaw09.WfApart', WHERE WHAT IT READS IS OF BULK AT MOST 1048576: true; the input reads as it did. -/
def wfApartUptoRow : OpenClaim := { program := "ythlalmoapbdccaadoor", sum := "029695f8de2a82557b70f6f8a483fe979fb6d3d460c62d274ce7231735e1a2c5", func := "bedside/bedsidelaw09.WfApart", spec := "wfApart", unfollowed := true, recurses := true, named := ["bedside/object.kinds", "bedside/object.words", "bedside/contain.rules"], plainKeys := false, apart := false, laid := [("bedside/object.kinds", laid_bedside_object_kinds), ("bedside/object.words", laid_bedside_object_words), ("bedside/contain.rules", laid_bedside_contain_rules)], narrowed := true }
def WfApartUptoSaid : Prop := wfApartUptoRow.holds Tryd.pinned (OpenSpec.upto wfApartSpec)

/-- 'bedsidelaw09.WfLess', WHERE WHAT IT READS IS OF BULK AT MOST 1048576: true; the input reads as it did. -/
def wfLessUptoRow : OpenClaim := { program := "ythlalmoapbdccaadoor", sum := "029695f8de2a82557b70f6f8a483fe979fb6d3d460c62d274ce7231735e1a2c5", func := "bedside/bedsidelaw09.WfLess", spec := "wfLess", unfollowed := true, recurses := true, named := ["bedside/object.kinds", "bedside/object.words", "bedside/contain.rules"], plainKeys := false, apart := false, laid := [("bedside/object.kinds", laid_bedside_object_kinds), ("bedside/object.words", laid_bedside_object_words), ("bedside/contain.rules", laid_bedside_contain_rules)], narrowed := true }
def WfLessUptoSaid : Prop := wfLessUptoRow.holds Tryd.pinned (OpenSpec.upto wfLessSpec)

/-- 'bedsidelaw09.WfRules', WHERE WHAT IT READS IS OF BULK AT MOST 1048576: true; the input reads as it did. -/
def wfRulesUptoRow : OpenClaim := { program := "ythlalmoapbdccaadoor", sum := "029695f8de2a82557b70f6f8a483fe979fb6d3d460c62d274ce7231735e1a2c5", func := "bedside/bedsidelaw09.WfRules", spec := "wfRules", unfollowed := true, recurses := true, named := ["bedside/object.kinds", "bedside/object.words", "bedside/contain.rules"], plainKeys := false, apart := false, laid := [("bedside/object.kinds", laid_bedside_object_kinds), ("bedside/object.words", laid_bedside_object_words), ("bedside/contain.rules", laid_bedside_contain_rules)], narrowed := true }
def WfRulesUptoSaid : Prop := wfRulesUptoRow.holds Tryd.pinned (OpenSpec.upto wfRulesSpec)

end Rows
end Go.Proofs.YthlalmoapbdccaaDoor
