/-
  NARROWER THAN 'FOR EVERY INPUT', by the rows' own cells (each row's printed sentence says how): ContainTwo: laid · ContainCounts: laid · ContainStands: laid · ContainAbove: laid · ContainRoom: laid · ContainGroups: laid · ContainRefers: laid.
  DERIVED. THE GIVEN ROWS OF THIS SEAT. 7 by the template 'for every input the law returns true; each argument reads behind the call as it read before'; 0 by the template 'total and deterministic' (their statements: YtmhckcpcnkhbeaaDoorTotals.lean).
  GIVEN WITH THE SEED: the statements are not yours to turn. If you find one false, say at which input.
  Laid BY PROGRAM, IN A SANDBOX (cutbox-rows.mjs): the forced cells as the released guide's own fill.sh prints them over the translation 57adbcdc4256b334… (all of the seat's roots in one cut). By AI agents, Wed Nov 11 2026. No macro, syntax, notation, axiom, sorry.
-/
import Derived.Test.YtmhckcpcnkhbeaaDoorChecked
import GoSem.Claim
import GoSem.ClaimJoined
import GoSem.ClaimMapViews
import Derived.JoinedTies
import Derived.KernelRfl
namespace Go.Proofs.YtmhckcpcnkhbeaaDoor
/- THE CELL 'sum', in the pinned program and in every row, IS THE sha256 OF THE DUMP (.gsa) THAT YtmhckcpcnkhbeaaDoorProg.lean LOADS. Nothing in Lean hashes anything: it is a label: what it is worth is what the hold of that sum in a sandbox is worth. -/
noncomputable def Tryd.pinned : Pinned := { name := "ytmhckcpcnkhbeaadoor", sum := "57adbcdc4256b3343e0857053577348d31bae6f32e0ecd29742dc6cd082c7a8d", checked := Tryd.checked }
namespace Rows
def none {H : Type} : Left H := { results := [], args := [] }

/- WHAT THE LISTED PACKAGE-LEVEL VARIABLES READ AS WHEN THE CALL BEGINS. Each datum BY PROGRAM (the guide's laid-datum.mjs) off the statement by which the dump's own 'gosem.cut.vars' lays the variable. In a bare row this is a premise. The card (YtmhckcpcnkhbeaaDoorCards.lean) ties it to the program's text. -/
def laid_bedside_object_words {H : Type} : DataW H := .agg [.lit (.string []), .lit (.string [109, 100, 115]), .lit (.string [118, 109, 100]), .lit (.string [99, 104, 97, 110, 110, 101, 108]), .lit (.string [109, 101, 116, 114, 105, 99]), .lit (.string [115, 121, 115, 116, 101, 109]), .lit (.string [99, 111, 110, 100, 105, 116, 105, 111, 110]), .lit (.string [115, 105, 103, 110, 97, 108]), .lit (.string [108, 105, 109, 105, 116]), .lit (.string [99, 111, 110, 116, 101, 120, 116])]
def laid_bedside_contain_rules {H : Type} : DataW H := .agg [.agg [.lit (.int .u16 0), .lit (.int .u16 0), .lit (.int .u8 0), .lit (.int .i64 0)], .agg [.lit (.int .u16 1), .lit (.int .u16 0), .lit (.int .u8 1), .lit (.int .i64 4)], .agg [.lit (.int .u16 2), .lit (.int .u16 0), .lit (.int .u8 2), .lit (.int .i64 8)], .agg [.lit (.int .u16 4), .lit (.int .u16 0), .lit (.int .u8 3), .lit (.int .i64 8)], .agg [.lit (.int .u16 8), .lit (.int .u16 0), .lit (.int .u8 4), .lit (.int .i64 16)], .agg [.lit (.int .u16 6), .lit (.int .u16 0), .lit (.int .u8 5), .lit (.int .i64 1)], .agg [.lit (.int .u16 32), .lit (.int .u16 16), .lit (.int .u8 6), .lit (.int .i64 16)], .agg [.lit (.int .u16 32), .lit (.int .u16 320), .lit (.int .u8 6), .lit (.int .i64 0)], .agg [.lit (.int .u16 32), .lit (.int .u16 16), .lit (.int .u8 6), .lit (.int .i64 0)], .agg [.lit (.int .u16 2), .lit (.int .u16 0), .lit (.int .u8 9), .lit (.int .i64 8)]]

/-- 'bedsidelaw05.ContainTwo': WHATEVER THE INPUT: true; the input reads as it did. -/
def containTwoSpec : ChangeSpec := { name := "containTwo", fn := fun _ => fun
  | [d1, d2] => { results := [.lit (.bool true)], args := [d1, d2] }
  | _ => none }
def containTwoRow : OpenClaim := { program := "ytmhckcpcnkhbeaadoor", sum := "57adbcdc4256b3343e0857053577348d31bae6f32e0ecd29742dc6cd082c7a8d", func := "bedside/bedsidelaw05.ContainTwo", spec := "containTwo", unfollowed := true, recurses := true, named := ["bedside/contain.rules", "bedside/object.words"], apart := false, laid := [("bedside/object.words", laid_bedside_object_words), ("bedside/contain.rules", laid_bedside_contain_rules)] }
def ContainTwoSaid : Prop := containTwoRow.holds Tryd.pinned (OpenSpec.ofChange containTwoSpec)

/-- ITS FALSE NEIGHBOUR: 'it returns false'. Refute it at one input. -/
def containTwoWrong : ChangeSpec := { name := "containTwo", fn := fun _ => fun
  | [d1, d2] => { results := [.lit (.bool false)], args := [d1, d2] }
  | _ => none }
def ContainTwoWrongFalsely : Prop := containTwoRow.holds Tryd.pinned (OpenSpec.ofChange containTwoWrong)

/-- 'bedsidelaw05.ContainCounts': WHATEVER THE INPUT: true; the input reads as it did. -/
def containCountsSpec : ChangeSpec := { name := "containCounts", fn := fun _ => fun
  | [d1, d2] => { results := [.lit (.bool true)], args := [d1, d2] }
  | _ => none }
def containCountsRow : OpenClaim := { program := "ytmhckcpcnkhbeaadoor", sum := "57adbcdc4256b3343e0857053577348d31bae6f32e0ecd29742dc6cd082c7a8d", func := "bedside/bedsidelaw05.ContainCounts", spec := "containCounts", named := ["bedside/object.words", "bedside/contain.rules"], apart := false, laid := [("bedside/object.words", laid_bedside_object_words), ("bedside/contain.rules", laid_bedside_contain_rules)] }
def ContainCountsSaid : Prop := containCountsRow.holds Tryd.pinned (OpenSpec.ofChange containCountsSpec)

/-- ITS FALSE NEIGHBOUR: 'it returns false'. Refute it at one input. -/
def containCountsWrong : ChangeSpec := { name := "containCounts", fn := fun _ => fun
  | [d1, d2] => { results := [.lit (.bool false)], args := [d1, d2] }
  | _ => none }
def ContainCountsWrongFalsely : Prop := containCountsRow.holds Tryd.pinned (OpenSpec.ofChange containCountsWrong)

/-- 'bedsidelaw05.ContainStands': WHATEVER THE INPUT: true; the input reads as it did. -/
def containStandsSpec : ChangeSpec := { name := "containStands", fn := fun _ => fun
  | [d1, d2] => { results := [.lit (.bool true)], args := [d1, d2] }
  | _ => none }
def containStandsRow : OpenClaim := { program := "ytmhckcpcnkhbeaadoor", sum := "57adbcdc4256b3343e0857053577348d31bae6f32e0ecd29742dc6cd082c7a8d", func := "bedside/bedsidelaw05.ContainStands", spec := "containStands", named := ["bedside/object.words", "bedside/contain.rules"], apart := false, laid := [("bedside/object.words", laid_bedside_object_words), ("bedside/contain.rules", laid_bedside_contain_rules)] }
def ContainStandsSaid : Prop := containStandsRow.holds Tryd.pinned (OpenSpec.ofChange containStandsSpec)

/-- ITS FALSE NEIGHBOUR: 'it returns false'. Refute it at one input. -/
def containStandsWrong : ChangeSpec := { name := "containStands", fn := fun _ => fun
  | [d1, d2] => { results := [.lit (.bool false)], args := [d1, d2] }
  | _ => none }
def ContainStandsWrongFalsely : Prop := containStandsRow.holds Tryd.pinned (OpenSpec.ofChange containStandsWrong)

/-- 'bedsidelaw05.ContainAbove': WHATEVER THE INPUT: true; the input reads as it did. -/
def containAboveSpec : ChangeSpec := { name := "containAbove", fn := fun _ => fun
  | [d1, d2] => { results := [.lit (.bool true)], args := [d1, d2] }
  | _ => none }
def containAboveRow : OpenClaim := { program := "ytmhckcpcnkhbeaadoor", sum := "57adbcdc4256b3343e0857053577348d31bae6f32e0ecd29742dc6cd082c7a8d", func := "bedside/bedsidelaw05.ContainAbove", spec := "containAbove", unfollowed := true, recurses := true, named := ["bedside/contain.rules", "bedside/object.words"], apart := false, laid := [("bedside/object.words", laid_bedside_object_words), ("bedside/contain.rules", laid_bedside_contain_rules)] }
def ContainAboveSaid : Prop := containAboveRow.holds Tryd.pinned (OpenSpec.ofChange containAboveSpec)

/-- ITS FALSE NEIGHBOUR: 'it returns false'. Refute it at one input. -/
def containAboveWrong : ChangeSpec := { name := "containAbove", fn := fun _ => fun
  | [d1, d2] => { results := [.lit (.bool false)], args := [d1, d2] }
  | _ => none }
def ContainAboveWrongFalsely : Prop := containAboveRow.holds Tryd.pinned (OpenSpec.ofChange containAboveWrong)

/-- 'bedsidelaw05.ContainRoom': WHATEVER THE INPUT: true; the input reads as it did. -/
def containRoomSpec : ChangeSpec := { name := "containRoom", fn := fun _ => fun
  | [d1, d2] => { results := [.lit (.bool true)], args := [d1, d2] }
  | _ => none }
def containRoomRow : OpenClaim := { program := "ytmhckcpcnkhbeaadoor", sum := "57adbcdc4256b3343e0857053577348d31bae6f32e0ecd29742dc6cd082c7a8d", func := "bedside/bedsidelaw05.ContainRoom", spec := "containRoom", unfollowed := true, recurses := true, named := ["bedside/contain.rules", "bedside/object.words"], apart := false, laid := [("bedside/object.words", laid_bedside_object_words), ("bedside/contain.rules", laid_bedside_contain_rules)] }
def ContainRoomSaid : Prop := containRoomRow.holds Tryd.pinned (OpenSpec.ofChange containRoomSpec)

/-- ITS FALSE NEIGHBOUR: 'it returns false'. Refute it at one input. -/
def containRoomWrong : ChangeSpec := { name := "containRoom", fn := fun _ => fun
  | [d1, d2] => { results := [.lit (.bool false)], args := [d1, d2] }
  | _ => none }
def ContainRoomWrongFalsely : Prop := containRoomRow.holds Tryd.pinned (OpenSpec.ofChange containRoomWrong)

/-- 'bedsidelaw05.ContainGroups': WHATEVER THE INPUT: true; the input reads as it did. -/
def containGroupsSpec : ChangeSpec := { name := "containGroups", fn := fun _ => fun
  | [d1, d2, d3] => { results := [.lit (.bool true)], args := [d1, d2, d3] }
  | _ => none }
def containGroupsRow : OpenClaim := { program := "ytmhckcpcnkhbeaadoor", sum := "57adbcdc4256b3343e0857053577348d31bae6f32e0ecd29742dc6cd082c7a8d", func := "bedside/bedsidelaw05.ContainGroups", spec := "containGroups", unfollowed := true, recurses := true, named := ["bedside/contain.rules", "bedside/object.words"], apart := false, laid := [("bedside/object.words", laid_bedside_object_words), ("bedside/contain.rules", laid_bedside_contain_rules)] }
def ContainGroupsSaid : Prop := containGroupsRow.holds Tryd.pinned (OpenSpec.ofChange containGroupsSpec)

/-- ITS FALSE NEIGHBOUR: 'it returns false'. Refute it at one input. -/
def containGroupsWrong : ChangeSpec := { name := "containGroups", fn := fun _ => fun
  | [d1, d2, d3] => { results := [.lit (.bool false)], args := [d1, d2, d3] }
  | _ => none }
def ContainGroupsWrongFalsely : Prop := containGroupsRow.holds Tryd.pinned (OpenSpec.ofChange containGroupsWrong)

/-- 'bedsidelaw05.ContainRefers': WHATEVER THE INPUT: true; the input reads as it did. -/
def containRefersSpec : ChangeSpec := { name := "containRefers", fn := fun _ => fun
  | [d1, d2] => { results := [.lit (.bool true)], args := [d1, d2] }
  | _ => none }
def containRefersRow : OpenClaim := { program := "ytmhckcpcnkhbeaadoor", sum := "57adbcdc4256b3343e0857053577348d31bae6f32e0ecd29742dc6cd082c7a8d", func := "bedside/bedsidelaw05.ContainRefers", spec := "containRefers", unfollowed := true, recurses := true, named := ["bedside/contain.rules", "bedside/object.words"], apart := false, laid := [("bedside/object.words", laid_bedside_object_words), ("bedside/contain.rules", laid_bedside_contain_rules)] }
def ContainRefersSaid : Prop := containRefersRow.holds Tryd.pinned (OpenSpec.ofChange containRefersSpec)

/-- ITS FALSE NEIGHBOUR: 'it returns false'. Refute it at one input. -/
def containRefersWrong : ChangeSpec := { name := "containRefers", fn := fun _ => fun
  | [d1, d2] => { results := [.lit (.bool false)], args := [d1, d2] }
  | _ => none }
def ContainRefersWrongFalsely : Prop := containRefersRow.holds Tryd.pinned (OpenSpec.ofChange containRefersWrong)

/- THE SECOND FORM. 'bulk': how many values and letters a reading holds, each counted each time it is reached (what is shared counts as often as it is met; a slice's spare places count too). A statement '..UptoSaid' is the law's where the arguments, and the package variables that the reading takes, are together of bulk at most 1048576: NARROWER than '..Said'. Prove '..Said' where nothing that the law and all that it calls make is longer than what came in: it says more and counts as full. Else prove '..UptoSaid'. A law counts once. -/
mutual
def uptoBulk {H : Type} : DataW H → Nat
  | .lit (.string bytes) => bytes.length + 1
  | .lit _ => 1
  | .nil => 1
  | .ptr d => uptoBulk d + 1
  | .slice elems spare => uptoBulkAll elems + uptoBulkAll spare + 1
  | .agg parts => uptoBulkAll parts + 1
  | .iface _ d => uptoBulk d + 1
  | .map entries => uptoBulkEntries entries + 1
  | .held _ => 1
def uptoBulkAll {H : Type} : List (DataW H) → Nat
  | [] => 0
  | d :: r => uptoBulk d + uptoBulkAll r
def uptoBulkEntries {H : Type} : List (Lit × DataW H) → Nat
  | [] => 0
  | x :: r => uptoBulkEntry x + uptoBulkEntries r
def uptoBulkEntry {H : Type} : Lit × DataW H → Nat
  | (.string bytes, d) => bytes.length + uptoBulk d + 1
  | (_, d) => uptoBulk d + 1
 end
def uptoSmall : (H : Type) → List (DataW H) → Bool := fun _ ds => decide (uptoBulkAll ds ≤ 1048576)
def OpenSpec.upto (s : _root_.Go.ChangeSpec) : _root_.Go.OpenSpec := { _root_.Go.OpenSpec.ofChange s with cond := some uptoSmall }

/-- 'bedsidelaw05.ContainTwo', WHERE WHAT IT READS IS OF BULK AT MOST 1048576: true; the input reads as it did. -/
def containTwoUptoRow : OpenClaim := { program := "ytmhckcpcnkhbeaadoor", sum := "57adbcdc4256b3343e0857053577348d31bae6f32e0ecd29742dc6cd082c7a8d", func := "bedside/bedsidelaw05.ContainTwo", spec := "containTwo", unfollowed := true, recurses := true, named := ["bedside/contain.rules", "bedside/object.words"], apart := false, laid := [("bedside/object.words", laid_bedside_object_words), ("bedside/contain.rules", laid_bedside_contain_rules)], narrowed := true }
def ContainTwoUptoSaid : Prop := containTwoUptoRow.holds Tryd.pinned (OpenSpec.upto containTwoSpec)

/-- 'bedsidelaw05.ContainCounts', WHERE WHAT IT READS IS OF BULK AT MOST 1048576: true; the input reads as it did. -/
def containCountsUptoRow : OpenClaim := { program := "ytmhckcpcnkhbeaadoor", sum := "57adbcdc4256b3343e0857053577348d31bae6f32e0ecd29742dc6cd082c7a8d", func := "bedside/bedsidelaw05.ContainCounts", spec := "containCounts", named := ["bedside/object.words", "bedside/contain.rules"], apart := false, laid := [("bedside/object.words", laid_bedside_object_words), ("bedside/contain.rules", laid_bedside_contain_rules)], narrowed := true }
def ContainCountsUptoSaid : Prop := containCountsUptoRow.holds Tryd.pinned (OpenSpec.upto containCountsSpec)

/-- 'bedsidelaw05.ContainStands', WHERE WHAT IT READS IS OF BULK AT MOST 1048576: true; the input reads as it did. -/
def containStandsUptoRow : OpenClaim := { program := "ytmhckcpcnkhbeaadoor", sum := "57adbcdc4256b3343e0857053577348d31bae6f32e0ecd29742dc6cd082c7a8d", func := "bedside/bedsidelaw05.ContainStands", spec := "containStands", named := ["bedside/object.words", "bedside/contain.rules"], apart := false, laid := [("bedside/object.words", laid_bedside_object_words), ("bedside/contain.rules", laid_bedside_contain_rules)], narrowed := true }
def ContainStandsUptoSaid : Prop := containStandsUptoRow.holds Tryd.pinned (OpenSpec.upto containStandsSpec)

/-- 'bedsidelaw05.ContainAbove', WHERE WHAT IT READS IS OF BULK AT MOST 1048576: true; the input reads as it did. -/
def containAboveUptoRow : OpenClaim := { program := "ytmhckcpcnkhbeaadoor", sum := "57adbcdc4256b3343e0857053577348d31bae6f32e0ecd29742dc6cd082c7a8d", func := "bedside/bedsidelaw05.ContainAbove", spec := "containAbove", unfollowed := true, recurses := true, named := ["bedside/contain.rules", "bedside/object.words"], apart := false, laid := [("bedside/object.words", laid_bedside_object_words), ("bedside/contain.rules", laid_bedside_contain_rules)], narrowed := true }
def ContainAboveUptoSaid : Prop := containAboveUptoRow.holds Tryd.pinned (OpenSpec.upto containAboveSpec)

/-- 'bedsidelaw05.ContainRoom', WHERE WHAT IT READS IS OF BULK AT MOST 1048576: true; the input reads as it did. -/
def containRoomUptoRow : OpenClaim := { program := "ytmhckcpcnkhbeaadoor", sum := "57adbcdc4256b3343e0857053577348d31bae6f32e0ecd29742dc6cd082c7a8d", func := "bedside/bedsidelaw05.ContainRoom", spec := "containRoom", unfollowed := true, recurses := true, named := ["bedside/contain.rules", "bedside/object.words"], apart := false, laid := [("bedside/object.words", laid_bedside_object_words), ("bedside/contain.rules", laid_bedside_contain_rules)], narrowed := true }
def ContainRoomUptoSaid : Prop := containRoomUptoRow.holds Tryd.pinned (OpenSpec.upto containRoomSpec)

/-- 'bedsidelaw05.ContainGroups', WHERE WHAT IT READS IS OF BULK AT MOST 1048576: true; the input reads as it did. -/
def containGroupsUptoRow : OpenClaim := { program := "ytmhckcpcnkhbeaadoor", sum := "57adbcdc4256b3343e0857053577348d31bae6f32e0ecd29742dc6cd082c7a8d", func := "bedside/bedsidelaw05.ContainGroups", spec := "containGroups", unfollowed := true, recurses := true, named := ["bedside/contain.rules", "bedside/object.words"], apart := false, laid := [("bedside/object.words", laid_bedside_object_words), ("bedside/contain.rules", laid_bedside_contain_rules)], narrowed := true }
def ContainGroupsUptoSaid : Prop := containGroupsUptoRow.holds Tryd.pinned (OpenSpec.upto containGroupsSpec)

/-- 'bedsidelaw05.ContainRefers', WHERE WHAT IT READS IS OF BULK AT MOST 1048576: true; the input reads as it did. -/
def containRefersUptoRow : OpenClaim := { program := "ytmhckcpcnkhbeaadoor", sum := "57adbcdc4256b3343e0857053577348d31bae6f32e0ecd29742dc6cd082c7a8d", func := "bedside/bedsidelaw05.ContainRefers", spec := "containRefers", unfollowed := true, recurses := true, named := ["bedside/contain.rules", "bedside/object.words"], apart := false, laid := [("bedside/object.words", laid_bedside_object_words), ("bedside/contain.rules", laid_bedside_contain_rules)], narrowed := true }
def ContainRefersUptoSaid : Prop := containRefersUptoRow.holds Tryd.pinned (OpenSpec.upto containRefersSpec)

end Rows
end Go.Proofs.YtmhckcpcnkhbeaaDoor
