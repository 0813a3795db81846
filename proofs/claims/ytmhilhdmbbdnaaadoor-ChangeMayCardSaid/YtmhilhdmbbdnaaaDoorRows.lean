/-
  NARROWER THAN 'FOR EVERY INPUT', by the rows' own cells (each row's printed sentence says how): ChangeMay: laid.
  DERIVED. THE GIVEN ROWS OF THIS SEAT. 1 by the template 'for every input the law returns true; each argument reads behind the call as it read before'; 0 by the template 'total and deterministic' (their statements: YtmhilhdmbbdnaaaDoorTotals.lean).
  GIVEN WITH THE SEED: the statements are not yours to turn. If you find one false, say at which input.
  Laid BY PROGRAM, IN A SANDBOX (cutbox-rows.mjs): the forced cells as the released guide's own fill.sh prints them over the translation 8fdd451df404a9dd… (all of the seat's roots in one cut). By AI agents, Wed Nov 11 2026. No macro, syntax, notation, axiom, sorry.
-/
import Derived.Test.YtmhilhdmbbdnaaaDoorChecked
import GoSem.Claim
import GoSem.ClaimJoined
import GoSem.ClaimMapViews
import Derived.JoinedTies
import Derived.KernelRfl
namespace Go.Proofs.YtmhilhdmbbdnaaaDoor
/- THE CELL 'sum', in the pinned program and in every row, IS THE sha256 OF THE DUMP (.gsa) THAT YtmhilhdmbbdnaaaDoorProg.lean LOADS. Nothing in Lean hashes anything: it is a label: what it is worth is what the hold of that sum in a sandbox is worth. -/
noncomputable def Tryd.pinned : Pinned := { name := "ytmhilhdmbbdnaaadoor", sum := "8fdd451df404a9dd9f65b4938dc03e88763298d090677349706eb995575f0f68", checked := Tryd.checked }
namespace Rows
def none {H : Type} : Left H := { results := [], args := [] }

/- WHAT THE LISTED PACKAGE-LEVEL VARIABLES READ AS WHEN THE CALL BEGINS. Each datum BY PROGRAM (the guide's laid-datum.mjs) off the statement by which the dump's own 'gosem.cut.vars' lays the variable. In a bare row this is a premise. The card (YtmhilhdmbbdnaaaDoorCards.lean) ties it to the program's text. -/
def laid_bedside_object_kinds {H : Type} : DataW H := .agg [.lit (.int .u16 0), .lit (.int .u16 0), .lit (.int .u16 1), .lit (.int .u16 1), .lit (.int .u16 441), .lit (.int .u16 65), .lit (.int .u16 71), .lit (.int .u16 69), .lit (.int .u16 1607), .lit (.int .u16 2051)]
def laid_bedside_object_words {H : Type} : DataW H := .agg [.lit (.string []), .lit (.string [109, 100, 115]), .lit (.string [118, 109, 100]), .lit (.string [99, 104, 97, 110, 110, 101, 108]), .lit (.string [109, 101, 116, 114, 105, 99]), .lit (.string [115, 121, 115, 116, 101, 109]), .lit (.string [99, 111, 110, 100, 105, 116, 105, 111, 110]), .lit (.string [115, 105, 103, 110, 97, 108]), .lit (.string [108, 105, 109, 105, 116]), .lit (.string [99, 111, 110, 116, 101, 120, 116])]

/-- 'bedsidelaw10.ChangeMay': WHATEVER THE INPUT: true; the input reads as it did. -/
def changeMaySpec : ChangeSpec := { name := "changeMay", fn := fun _ => fun
  | [d1, d2] => { results := [.lit (.bool true)], args := [d1, d2] }
  | _ => none }
def changeMayRow : OpenClaim := { program := "ytmhilhdmbbdnaaadoor", sum := "8fdd451df404a9dd9f65b4938dc03e88763298d090677349706eb995575f0f68", func := "bedside/bedsidelaw10.ChangeMay", spec := "changeMay", unfollowed := true, recurses := true, named := ["bedside/object.kinds", "bedside/object.words"], apart := false, laid := [("bedside/object.kinds", laid_bedside_object_kinds), ("bedside/object.words", laid_bedside_object_words)] }
def ChangeMaySaid : Prop := changeMayRow.holds Tryd.pinned (OpenSpec.ofChange changeMaySpec)

/-- ITS FALSE NEIGHBOUR: 'it returns false'. Refute it at one input. -/
def changeMayWrong : ChangeSpec := { name := "changeMay", fn := fun _ => fun
  | [d1, d2] => { results := [.lit (.bool false)], args := [d1, d2] }
  | _ => none }
def ChangeMayWrongFalsely : Prop := changeMayRow.holds Tryd.pinned (OpenSpec.ofChange changeMayWrong)

/- THE SECOND FORM. 'bulk': how many values and letters a reading holds, each counted each time it is reached (what is shared counts as often as it is met; a slice's spare places count too). A statement '..UptoSaid' is the law's where the arguments, and the package variables that the reading takes, are together of bulk at most 1048576: NARROWER than '..Said'. Prove '..Said' where nothing that the law and all that it calls make is longer than what came in: it says more and counts as full. Else prove '..UptoSaid'. A law counts once. -/
mutual
def uptoBulk {H : Type} : DataW H → Nat
  | .lit (.string bytes) => bytes.length + 1
  | .lit _ => 1
  | .nil => 1
  | .ptr d => uptoBulk d + 1
  | .slice elems spare => uptoBulkAll elems + uptoBulkAll spare + 1
  | .agg parts => uptoBulkAll parts + 1
  | .iface _ d => uptoBulk d + 1
  | .map entries => uptoBulkEntries entries + 1
  | .held _ => 1
def uptoBulkAll {H : Type} : List (DataW H) → Nat
  | [] => 0
  | d :: r => uptoBulk d + uptoBulkAll r
def uptoBulkEntries {H : Type} : List (Lit × DataW H) → Nat
  | [] => 0
  | x :: r => uptoBulkEntry x + uptoBulkEntries r
def uptoBulkEntry {H : Type} : Lit × DataW H → Nat
  | (.string bytes, d) => bytes.length + uptoBulk d + 1
  | (_, d) => uptoBulk d + 1
 end
def uptoSmall : (H : Type) → List (DataW H) → Bool := fun _ ds => decide (uptoBulkAll ds ≤ 1048576)
def OpenSpec.upto (s : _root_.Go.ChangeSpec) : _root_.Go.OpenSpec := { _root_.Go.OpenSpec.ofChange s with cond := some uptoSmall }

/-- 'bedsidelaw10.ChangeMay', WHERE WHAT IT READS IS OF BULK AT MOST 1048576: true; the input reads as it did. -/
def changeMayUptoRow : OpenClaim := { program := "ytmhilhdmbbdnaaadoor", sum := "8fdd451df404a9dd9f65b4938dc03e88763298d090677349706eb995575f0f68", func := "bedside/bedsidelaw10.ChangeMay", spec := "changeMay", unfollowed := true, recurses := true, named := ["bedside/object.kinds", "bedside/object.words"], apart := false, laid := [("bedside/object.kinds", laid_bedside_object_kinds), ("bedside/object.words", laid_bedside_object_words)], narrowed := true }
def ChangeMayUptoSaid : Prop := changeMayUptoRow.holds Tryd.pinned (OpenSpec.upto changeMaySpec)

end Rows
end Go.Proofs.YtmhilhdmbbdnaaaDoor
