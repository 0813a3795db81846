/-
  WALKS: the bounds, the units, comparison of two integers.
-/
import Derived.Test.YtmhilhdmbbdnaaaGreatDoorChecked
import Derived.Test.YtmhilhdmbbdnaaaGreatDoorFMath
import Derived.WalkKit
import Derived.Below
import Derived.Lib.Hide
import Derived.IntWalk
namespace Go.Proofs.YtmhilhdmbbdnaaaGreatDoor
open Go.RowKit FixMath
set_option maxRecDepth 100000
set_option linter.unusedVariables false

def unitN (d : Nat) : Nat := if d ≤ 6 then 10 ^ d else 0
/-- The table of units lies in memory. -/
def Units (w : World) : Prop := 0 < w.heap.size ∧ ∀ j : Nat, j < 7 → w.cell? ⟨0, j, none⟩ = some (.int .i64 (unitN j))
def mayB (n : Int) : Bool := decide (-1000000000000000 ≤ n ∧ n ≤ 1000000000000000)

theorem may_any (n : Int) (w : World) : Calls Tryz.prog 84 #[.int .i64 n] w fun e w' => e = .returned (.bool (mayB n)) ∧ w = w' := by
  by_cases h1 : -1000000000000000 ≤ n
  · by_cases h2 : n ≤ 1000000000000000
    · have HV : Hid (mayB n = true) := Lib.hid (by simp [mayB]; omega)
      go_enter Tryz.func84, Tryz.ntmps84
      go_wp2
      go_ret
      exact ⟨by rw [HV.out]; rfl, rfl⟩
    · have HV : Hid (mayB n = false) := Lib.hid (by simp [mayB]; omega)
      go_enter Tryz.func84, Tryz.ntmps84
      go_wp2
      go_ret
      exact ⟨by rw [HV.out]; rfl, rfl⟩
  · have HV : Hid (mayB n = false) := Lib.hid (by simp [mayB]; omega)
    go_enter Tryz.func84, Tryz.ntmps84
    go_wp2
    go_ret
    exact ⟨by rw [HV.out]; rfl, rfl⟩
theorem refMay_any (n : Int) (w : World) : Calls Tryz.prog 130 #[.int .i64 n] w fun e w' => e = .returned (.bool (mayB n)) ∧ w = w' := by
  by_cases h1 : -1000000000000000 ≤ n
  · by_cases h2 : n ≤ 1000000000000000
    · have HV : Hid (mayB n = true) := Lib.hid (by simp [mayB]; omega)
      go_enter Tryz.func130, Tryz.ntmps130
      go_wp2
      go_ret
      exact ⟨by rw [HV.out]; rfl, rfl⟩
    · have HV : Hid (mayB n = false) := Lib.hid (by simp [mayB]; omega)
      go_enter Tryz.func130, Tryz.ntmps130
      go_wp2
      go_ret
      exact ⟨by rw [HV.out]; rfl, rfl⟩
  · have HV : Hid (mayB n = false) := Lib.hid (by simp [mayB]; omega)
    go_enter Tryz.func130, Tryz.ntmps130
    go_wp2
    go_ret
    exact ⟨by rw [HV.out]; rfl, rfl⟩

end Go.Proofs.YtmhilhdmbbdnaaaGreatDoor
