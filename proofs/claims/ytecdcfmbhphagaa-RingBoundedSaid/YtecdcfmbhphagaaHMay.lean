/-
  WALKS: isLetter, isLater, letter; May of the program and of the document's answer: both say 'mayB s' of any string s, and write nothing that was there.
-/
import Derived.Test.YtecdcfmbhphagaaChecked
import Derived.Test.YtecdcfmbhphagaaHMath
import Derived.WalkKit
import Derived.WalkSpells
import Derived.WalkLawsBesides
import Derived.Lib.OthersKept
import Derived.Lib.Hide
namespace Go.Proofs.Ytecdcfmbhphagaa.HL
open Go.RowKit
set_option maxRecDepth 100000
set_option linter.unusedVariables false

end Go.Proofs.Ytecdcfmbhphagaa.HL
