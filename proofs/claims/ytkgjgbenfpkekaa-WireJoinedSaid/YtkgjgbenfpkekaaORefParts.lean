/-
  WALKS: the document's Refers, Desc, State, Bare, Only.
-/
import Derived.Test.YtkgjgbenfpkekaaOKit
namespace Go.Proofs.Ytkgjgbenfpkekaa
open Go.RowKit
set_option maxRecDepth 100000
set_option linter.unusedVariables false

def descOf (o f : Ob) : Ob := { f with handle := o.handle, kind := o.kind, on := o.on, has := o.has, value := o.value, low := o.low, high := o.high, assoc := o.assoc }
def stateOf (o f : Ob) : Ob := { o with on := f.on, has := f.has, value := f.value, low := f.low, high := f.high, assoc := f.assoc }
def zeroOb : Ob := ⟨⟨#[]⟩, 0, ⟨#[]⟩, 0, ⟨#[]⟩, 0, 0, 0, false, false, 0, 0, 0, 0⟩
end Go.Proofs.Ytkgjgbenfpkekaa
