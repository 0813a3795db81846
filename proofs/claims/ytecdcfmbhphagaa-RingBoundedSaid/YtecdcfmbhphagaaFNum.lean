/-
  WALKS: the bounds, the units, comparison of two integers.
-/
import Derived.Test.YtecdcfmbhphagaaChecked
import Derived.Test.YtecdcfmbhphagaaFMath
import Derived.WalkKit
import Derived.Below
import Derived.Lib.Hide
import Derived.IntWalk
namespace Go.Proofs.Ytecdcfmbhphagaa
open Go.RowKit FixMath
set_option maxRecDepth 100000
set_option linter.unusedVariables false

def unitN (d : Nat) : Nat := if d ≤ 6 then 10 ^ d else 0
/-- The table of units lies in memory. -/
def Units (w : World) : Prop := 0 < w.heap.size ∧ ∀ j : Nat, j < 7 → w.cell? ⟨0, j, none⟩ = some (.int .i64 (unitN j))
def mayB (n : Int) : Bool := decide (-1000000000000000 ≤ n ∧ n ≤ 1000000000000000)

end Go.Proofs.Ytecdcfmbhphagaa
