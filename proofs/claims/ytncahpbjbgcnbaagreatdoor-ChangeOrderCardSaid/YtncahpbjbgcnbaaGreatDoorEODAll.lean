/-
  PLAIN: all that the laws ChangeOrder, ChangeNone and ChangeBack stand on, in one text, so that their claims merge the same groups.
-/
import Derived.Test.YtncahpbjbgcnbaaGreatDoorEO18
import Derived.Test.YtncahpbjbgcnbaaGreatDoorEODApply
import Derived.Test.YtncahpbjbgcnbaaGreatDoorEO12
import Derived.Test.YtncahpbjbgcnbaaGreatDoorEO16
import Derived.Test.YtncahpbjbgcnbaaGreatDoorEO11
import Derived.Test.YtncahpbjbgcnbaaGreatDoorEO6
namespace Go.Proofs.YtncahpbjbgcnbaaGreatDoor.DX
end Go.Proofs.YtncahpbjbgcnbaaGreatDoor.DX
