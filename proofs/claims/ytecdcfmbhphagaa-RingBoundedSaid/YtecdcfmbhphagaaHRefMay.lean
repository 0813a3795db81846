/-
  WALK: the document's May: it says 'mayB s' of any string s, and writes nothing.
-/
import Derived.Test.YtecdcfmbhphagaaHMay
import Derived.Deep.QuietTactic
import Derived.BigQuiet
namespace Go.Proofs.Ytecdcfmbhphagaa.HL
open Go.RowKit
set_option maxRecDepth 100000
set_option linter.unusedVariables false

end Go.Proofs.Ytecdcfmbhphagaa.HL
