/-
  No cell of these rows narrows 'for every input' (looked for: loops, veiled, ifaces, maps, wideKeys, modest, calm, conditions, laid).
  DERIVED. THE GIVEN ROWS OF THIS SEAT. 7 by the template 'for every input the law returns true; each argument reads behind the call as it read before'; 0 by the template 'total and deterministic' (their statements: YtecdcfmbhphagaaTotals.lean).
  GIVEN WITH THE SEED: the statements are not yours to turn. If you find one false, say at which input.
  Laid BY PROGRAM, IN A SANDBOX (cutbox-rows.mjs): the forced cells as the released guide's own fill.sh prints them over the translation 612c638972b6fece… (all of the seat's roots in one cut). By AI agents, Wed Nov 11 2026. No macro, syntax, notation, axiom, sorry.
-/
import Derived.Test.YtecdcfmbhphagaaChecked
import GoSem.Claim
import GoSem.ClaimJoined
import GoSem.ClaimMapViews
import Derived.JoinedTies
import Derived.KernelRfl
namespace Go.Proofs.Ytecdcfmbhphagaa
/- THE CELL 'sum', in the pinned program and in every row, IS THE sha256 OF THE DUMP (.gsa) THAT YtecdcfmbhphagaaProg.lean LOADS. Nothing in Lean hashes anything: it is a label: what it is worth is what the hold of that sum in a sandbox is worth. -/
noncomputable def Try.pinned : Pinned := { name := "ytecdcfmbhphagaa", sum := "612c638972b6fece19fccac6cbaf603202ec762f9e7913be2163e736698c6a32", checked := Try.checked }
namespace Rows
def none {H : Type} : Left H := { results := [], args := [] }

/-- 'bedsidelaw16.RingPlays': WHATEVER THE INPUT: true; the input reads as it did. -/
def ringPlaysSpec : ChangeSpec := { name := "ringPlays", fn := fun _ => fun
  | [d1, d2, d3] => { results := [.lit (.bool true)], args := [d1, d2, d3] }
  | _ => none }
def ringPlaysRow : OpenClaim := { program := "ytecdcfmbhphagaa", sum := "612c638972b6fece19fccac6cbaf603202ec762f9e7913be2163e736698c6a32", func := "bedside/bedsidelaw16.RingPlays", spec := "ringPlays", unfollowed := true, recurses := true, apart := false }
def RingPlaysSaid : Prop := ringPlaysRow.holds Try.pinned (OpenSpec.ofChange ringPlaysSpec)

/-- ITS FALSE NEIGHBOUR: 'it returns false'. Refute it at one input. -/
def ringPlaysWrong : ChangeSpec := { name := "ringPlays", fn := fun _ => fun
  | [d1, d2, d3] => { results := [.lit (.bool false)], args := [d1, d2, d3] }
  | _ => none }
def RingPlaysWrongFalsely : Prop := ringPlaysRow.holds Try.pinned (OpenSpec.ofChange ringPlaysWrong)

/-- 'bedsidelaw16.RingReads': WHATEVER THE INPUT: true; the input reads as it did. -/
def ringReadsSpec : ChangeSpec := { name := "ringReads", fn := fun _ => fun
  | [d1, d2, d3, d4] => { results := [.lit (.bool true)], args := [d1, d2, d3, d4] }
  | _ => none }
def ringReadsRow : OpenClaim := { program := "ytecdcfmbhphagaa", sum := "612c638972b6fece19fccac6cbaf603202ec762f9e7913be2163e736698c6a32", func := "bedside/bedsidelaw16.RingReads", spec := "ringReads", unfollowed := true, recurses := true, apart := false }
def RingReadsSaid : Prop := ringReadsRow.holds Try.pinned (OpenSpec.ofChange ringReadsSpec)

/-- ITS FALSE NEIGHBOUR: 'it returns false'. Refute it at one input. -/
def ringReadsWrong : ChangeSpec := { name := "ringReads", fn := fun _ => fun
  | [d1, d2, d3, d4] => { results := [.lit (.bool false)], args := [d1, d2, d3, d4] }
  | _ => none }
def RingReadsWrongFalsely : Prop := ringReadsRow.holds Try.pinned (OpenSpec.ofChange ringReadsWrong)

/-- 'bedsidelaw16.RingNil': WHATEVER THE INPUT: true; the input reads as it did. -/
def ringNilSpec : ChangeSpec := { name := "ringNil", fn := fun _ => fun
  | [d1, d2] => { results := [.lit (.bool true)], args := [d1, d2] }
  | _ => none }
def ringNilRow : OpenClaim := { program := "ytecdcfmbhphagaa", sum := "612c638972b6fece19fccac6cbaf603202ec762f9e7913be2163e736698c6a32", func := "bedside/bedsidelaw16.RingNil", spec := "ringNil", unfollowed := true, recurses := true, apart := false }
def RingNilSaid : Prop := ringNilRow.holds Try.pinned (OpenSpec.ofChange ringNilSpec)

/-- ITS FALSE NEIGHBOUR: 'it returns false'. Refute it at one input. -/
def ringNilWrong : ChangeSpec := { name := "ringNil", fn := fun _ => fun
  | [d1, d2] => { results := [.lit (.bool false)], args := [d1, d2] }
  | _ => none }
def RingNilWrongFalsely : Prop := ringNilRow.holds Try.pinned (OpenSpec.ofChange ringNilWrong)

/-- 'bedsidelaw16.RingAll': WHATEVER THE INPUT: true; the input reads as it did. -/
def ringAllSpec : ChangeSpec := { name := "ringAll", fn := fun _ => fun
  | [d1, d2, d3, d4] => { results := [.lit (.bool true)], args := [d1, d2, d3, d4] }
  | _ => none }
def ringAllRow : OpenClaim := { program := "ytecdcfmbhphagaa", sum := "612c638972b6fece19fccac6cbaf603202ec762f9e7913be2163e736698c6a32", func := "bedside/bedsidelaw16.RingAll", spec := "ringAll", unfollowed := true, recurses := true, apart := false }
def RingAllSaid : Prop := ringAllRow.holds Try.pinned (OpenSpec.ofChange ringAllSpec)

/-- ITS FALSE NEIGHBOUR: 'it returns false'. Refute it at one input. -/
def ringAllWrong : ChangeSpec := { name := "ringAll", fn := fun _ => fun
  | [d1, d2, d3, d4] => { results := [.lit (.bool false)], args := [d1, d2, d3, d4] }
  | _ => none }
def RingAllWrongFalsely : Prop := ringAllRow.holds Try.pinned (OpenSpec.ofChange ringAllWrong)

/-- 'bedsidelaw16.RingBounded': WHATEVER THE INPUT: true; the input reads as it did. -/
def ringBoundedSpec : ChangeSpec := { name := "ringBounded", fn := fun _ => fun
  | [d1, d2, d3] => { results := [.lit (.bool true)], args := [d1, d2, d3] }
  | _ => none }
def ringBoundedRow : OpenClaim := { program := "ytecdcfmbhphagaa", sum := "612c638972b6fece19fccac6cbaf603202ec762f9e7913be2163e736698c6a32", func := "bedside/bedsidelaw16.RingBounded", spec := "ringBounded", unfollowed := true, recurses := true, apart := false }
def RingBoundedSaid : Prop := ringBoundedRow.holds Try.pinned (OpenSpec.ofChange ringBoundedSpec)

/-- ITS FALSE NEIGHBOUR: 'it returns false'. Refute it at one input. -/
def ringBoundedWrong : ChangeSpec := { name := "ringBounded", fn := fun _ => fun
  | [d1, d2, d3] => { results := [.lit (.bool false)], args := [d1, d2, d3] }
  | _ => none }
def RingBoundedWrongFalsely : Prop := ringBoundedRow.holds Try.pinned (OpenSpec.ofChange ringBoundedWrong)

/-- 'bedsidelaw16.RingSteady': WHATEVER THE INPUT: true; the input reads as it did. -/
def ringSteadySpec : ChangeSpec := { name := "ringSteady", fn := fun _ => fun
  | [d1, d2, d3, d4] => { results := [.lit (.bool true)], args := [d1, d2, d3, d4] }
  | _ => none }
def ringSteadyRow : OpenClaim := { program := "ytecdcfmbhphagaa", sum := "612c638972b6fece19fccac6cbaf603202ec762f9e7913be2163e736698c6a32", func := "bedside/bedsidelaw16.RingSteady", spec := "ringSteady", unfollowed := true, recurses := true, apart := false }
def RingSteadySaid : Prop := ringSteadyRow.holds Try.pinned (OpenSpec.ofChange ringSteadySpec)

/-- ITS FALSE NEIGHBOUR: 'it returns false'. Refute it at one input. -/
def ringSteadyWrong : ChangeSpec := { name := "ringSteady", fn := fun _ => fun
  | [d1, d2, d3, d4] => { results := [.lit (.bool false)], args := [d1, d2, d3, d4] }
  | _ => none }
def RingSteadyWrongFalsely : Prop := ringSteadyRow.holds Try.pinned (OpenSpec.ofChange ringSteadyWrong)

/-- 'bedsidelaw16.RingStamps': WHATEVER THE INPUT: true; the input reads as it did. -/
def ringStampsSpec : ChangeSpec := { name := "ringStamps", fn := fun _ => fun
  | [d1, d2, d3] => { results := [.lit (.bool true)], args := [d1, d2, d3] }
  | _ => none }
def ringStampsRow : OpenClaim := { program := "ytecdcfmbhphagaa", sum := "612c638972b6fece19fccac6cbaf603202ec762f9e7913be2163e736698c6a32", func := "bedside/bedsidelaw16.RingStamps", spec := "ringStamps", unfollowed := true, recurses := true, apart := false }
def RingStampsSaid : Prop := ringStampsRow.holds Try.pinned (OpenSpec.ofChange ringStampsSpec)

/-- ITS FALSE NEIGHBOUR: 'it returns false'. Refute it at one input. -/
def ringStampsWrong : ChangeSpec := { name := "ringStamps", fn := fun _ => fun
  | [d1, d2, d3] => { results := [.lit (.bool false)], args := [d1, d2, d3] }
  | _ => none }
def RingStampsWrongFalsely : Prop := ringStampsRow.holds Try.pinned (OpenSpec.ofChange ringStampsWrong)

/- THE SECOND FORM. 'bulk': how many values and letters a reading holds, each counted each time it is reached (what is shared counts as often as it is met; a slice's spare places count too). A statement '..UptoSaid' is the law's where the arguments, and the package variables that the reading takes, are together of bulk at most 1048576: NARROWER than '..Said'. Prove '..Said' where nothing that the law and all that it calls make is longer than what came in: it says more and counts as full. Else prove '..UptoSaid'. A law counts once. -/
mutual
def uptoBulk {H : Type} : DataW H → Nat
  | .lit (.string bytes) => bytes.length + 1
  | .lit _ => 1
  | .nil => 1
  | .ptr d => uptoBulk d + 1
  | .slice elems spare => uptoBulkAll elems + uptoBulkAll spare + 1
  | .agg parts => uptoBulkAll parts + 1
  | .iface _ d => uptoBulk d + 1
  | .map entries => uptoBulkEntries entries + 1
  | .held _ => 1
def uptoBulkAll {H : Type} : List (DataW H) → Nat
  | [] => 0
  | d :: r => uptoBulk d + uptoBulkAll r
def uptoBulkEntries {H : Type} : List (Lit × DataW H) → Nat
  | [] => 0
  | x :: r => uptoBulkEntry x + uptoBulkEntries r
def uptoBulkEntry {H : Type} : Lit × DataW H → Nat
  | (.string bytes, d) => bytes.length + uptoBulk d + 1
  | (_, d) => uptoBulk d + 1
 end
def uptoSmall : (H : Type) → List (DataW H) → Bool := fun _ ds => decide (uptoBulkAll ds ≤ 1048576)
def OpenSpec.upto (s : _root_.Go.ChangeSpec) : _root_.Go.OpenSpec := { _root_.Go.OpenSpec.ofChange s with cond := some uptoSmall }

/-- 'bedsidelaw16.RingPlays', WHERE WHAT IT READS IS OF BULK AT MOST 1048576: true; the input reads as it did. -/
def ringPlaysUptoRow : OpenClaim := { program := "ytecdcfmbhphagaa", sum := "612c638972b6fece19fccac6cbaf603202ec762f9e7913be2163e736698c6a32", func := "bedside/bedsidelaw16.RingPlays", spec := "ringPlays", unfollowed := true, recurses := true, apart := false, narrowed := true }
def RingPlaysUptoSaid : Prop := ringPlaysUptoRow.holds Try.pinned (OpenSpec.upto ringPlaysSpec)

/-- 'bedsidelaw16.RingReads', WHERE WHAT IT READS IS OF BULK AT MOST 1048576: true; the input reads as it did. -/
def ringReadsUptoRow : OpenClaim := { program := "ytecdcfmbhphagaa", sum := "612c638972b6fece19fccac6cbaf603202ec762f9e7913be2163e736698c6a32", func := "bedside/bedsidelaw16.RingReads", spec := "ringReads", unfollowed := true, recurses := true, apart := false, narrowed := true }
def RingReadsUptoSaid : Prop := ringReadsUptoRow.holds Try.pinned (OpenSpec.upto ringReadsSpec)

/-- 'bedsidelaw16.RingNil', WHERE WHAT IT READS IS OF BULK AT MOST 1048576: true; the input reads as it did. -/
def ringNilUptoRow : OpenClaim := { program := "ytecdcfmbhphagaa", sum := "612c638972b6fece19fccac6cbaf603202ec762f9e7913be2163e736698c6a32", func := "bedside/bedsidelaw16.RingNil", spec := "ringNil", unfollowed := true, recurses := true, apart := false, narrowed := true }
def RingNilUptoSaid : Prop := ringNilUptoRow.holds Try.pinned (OpenSpec.upto ringNilSpec)

/-- 'bedsidelaw16.RingAll', WHERE WHAT IT READS IS OF BULK AT MOST 1048576: true; the input reads as it did. -/
def ringAllUptoRow : OpenClaim := { program := "ytecdcfmbhphagaa", sum := "612c638972b6fece19fccac6cbaf603202ec762f9e7913be2163e736698c6a32", func := "bedside/bedsidelaw16.RingAll", spec := "ringAll", unfollowed := true, recurses := true, apart := false, narrowed := true }
def RingAllUptoSaid : Prop := ringAllUptoRow.holds Try.pinned (OpenSpec.upto ringAllSpec)

/-- 'bedsidelaw16.RingBounded', WHERE WHAT IT READS IS OF BULK AT MOST 1048576: true; the input reads as it did. -/
def ringBoundedUptoRow : OpenClaim := { program := "ytecdcfmbhphagaa", sum := "612c638972b6fece19fccac6cbaf603202ec762f9e7913be2163e736698c6a32", func := "bedside/bedsidelaw16.RingBounded", spec := "ringBounded", unfollowed := true, recurses := true, apart := false, narrowed := true }
def RingBoundedUptoSaid : Prop := ringBoundedUptoRow.holds Try.pinned (OpenSpec.upto ringBoundedSpec)

/-- 'bedsidelaw16.RingSteady', WHERE WHAT IT READS IS OF BULK AT MOST 1048576: true; the input reads as it did. -/
def ringSteadyUptoRow : OpenClaim := { program := "ytecdcfmbhphagaa", sum := "612c638972b6fece19fccac6cbaf603202ec762f9e7913be2163e736698c6a32", func := "bedside/bedsidelaw16.RingSteady", spec := "ringSteady", unfollowed := true, recurses := true, apart := false, narrowed := true }
def RingSteadyUptoSaid : Prop := ringSteadyUptoRow.holds Try.pinned (OpenSpec.upto ringSteadySpec)

/-- 'bedsidelaw16.RingStamps', WHERE WHAT IT READS IS OF BULK AT MOST 1048576: true; the input reads as it did. -/
def ringStampsUptoRow : OpenClaim := { program := "ytecdcfmbhphagaa", sum := "612c638972b6fece19fccac6cbaf603202ec762f9e7913be2163e736698c6a32", func := "bedside/bedsidelaw16.RingStamps", spec := "ringStamps", unfollowed := true, recurses := true, apart := false, narrowed := true }
def RingStampsUptoSaid : Prop := ringStampsUptoRow.holds Try.pinned (OpenSpec.upto ringStampsSpec)

end Rows
end Go.Proofs.Ytecdcfmbhphagaa
