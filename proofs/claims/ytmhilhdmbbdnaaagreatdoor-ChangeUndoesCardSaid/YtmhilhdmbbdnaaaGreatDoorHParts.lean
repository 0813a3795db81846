/-
  slices.Collect of an iterator; Parts.
-/
import Derived.Test.YtmhilhdmbbdnaaaGreatDoorHPieces
namespace Go.Proofs.YtmhilhdmbbdnaaaGreatDoor.HL
open Go.RowKit
set_option maxRecDepth 100000
set_option linter.unusedVariables false
set_option linter.unusedSimpArgs false

attribute [local go_sem] Oper.semAt_some

theorem same_nil (w : World) : Calls Tryz.prog 24 #[.slice none 0 0, .slice none 0 0] w fun e w' => e = .returned (.bool true) ∧ Dr w w' := by
  have h := same_any none none 0 0 [] [] w 0 (Strs.nil_ _ _ _) (Strs.nil_ _ _ _) (Nat.zero_le _) (Nat.zero_le _)
  rw [sameB_t rfl] at h
  exact h

/-! ### The law -/
end Go.Proofs.YtmhilhdmbbdnaaaGreatDoor.HL
