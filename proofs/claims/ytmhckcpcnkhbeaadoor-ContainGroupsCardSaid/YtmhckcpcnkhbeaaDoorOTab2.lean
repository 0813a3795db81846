/-
  WALKS: the table of kinds, as it lies in memory.
-/
import Derived.Test.YtmhckcpcnkhbeaaDoorOTab
namespace Go.Proofs.YtmhckcpcnkhbeaaDoor
open Go.RowKit
set_option maxRecDepth 100000
set_option linter.unusedVariables false

def kindMask (k : Nat) : Nat := match k with | 2 => 1 | 3 => 1 | 4 => 441 | 5 => 65 | 6 => 71 | 7 => 69 | 8 => 1607 | 9 => 2051 | _ => 0
end Go.Proofs.YtmhckcpcnkhbeaaDoor
