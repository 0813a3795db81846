/-
  WALKS: the table of kinds, as it lies in memory.
-/
import Derived.Test.YtmhilhdmbbdnaaaGreatDoorOTab
namespace Go.Proofs.YtmhilhdmbbdnaaaGreatDoor
open Go.RowKit
set_option maxRecDepth 100000
set_option linter.unusedVariables false

def kindMask (k : Nat) : Nat := match k with | 2 => 1 | 3 => 1 | 4 => 441 | 5 => 65 | 6 => 71 | 7 => 69 | 8 => 1607 | 9 => 2051 | _ => 0
/-- The table of kinds lies in memory. -/
def Kinds (w : World) : Prop := 0 < w.heap.size ∧ ∀ j : Nat, j < 10 → w.cell? ⟨0, j, none⟩ = some (.int .u16 (kindMask j))
theorem Kinds.then {W W1 : World} (h : Kinds W) (k : Below W.heap.size W W1) : Kinds W1 := ⟨Nat.lt_of_lt_of_le h.1 k.size, fun j hj => by rw [k.cell h.1]; exact h.2 j hj⟩
end Go.Proofs.YtmhilhdmbbdnaaaGreatDoor
