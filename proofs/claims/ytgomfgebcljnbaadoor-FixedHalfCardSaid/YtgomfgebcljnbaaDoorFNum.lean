/-
  WALKS: the bounds, the units, comparison of two integers.
-/
import Derived.Test.YtgomfgebcljnbaaDoorChecked
import Derived.Test.YtgomfgebcljnbaaDoorFMath
import Derived.WalkKit
import Derived.Below
import Derived.Lib.Hide
import Derived.IntWalk
namespace Go.Proofs.YtgomfgebcljnbaaDoor
open Go.RowKit FixMath
set_option maxRecDepth 100000
set_option linter.unusedVariables false

def unitN (d : Nat) : Nat := if d ≤ 6 then 10 ^ d else 0
/-- The table of units lies in memory. -/
def Units (w : World) : Prop := 0 < w.heap.size ∧ ∀ j : Nat, j < 7 → w.cell? ⟨0, j, none⟩ = some (.int .i64 (unitN j))
def mayB (n : Int) : Bool := decide (-1000000000000000 ≤ n ∧ n ≤ 1000000000000000)

theorem may_any (n : Int) (w : World) : Calls Tryd.prog 14 #[.int .i64 n] w fun e w' => e = .returned (.bool (mayB n)) ∧ w = w' := by
  by_cases h1 : -1000000000000000 ≤ n
  · by_cases h2 : n ≤ 1000000000000000
    · have HV : Hid (mayB n = true) := Lib.hid (by simp [mayB]; omega)
      go_enter Tryd.func14, Tryd.ntmps14
      go_wp2
      go_ret
      exact ⟨by rw [HV.out]; rfl, rfl⟩
    · have HV : Hid (mayB n = false) := Lib.hid (by simp [mayB]; omega)
      go_enter Tryd.func14, Tryd.ntmps14
      go_wp2
      go_ret
      exact ⟨by rw [HV.out]; rfl, rfl⟩
  · have HV : Hid (mayB n = false) := Lib.hid (by simp [mayB]; omega)
    go_enter Tryd.func14, Tryd.ntmps14
    go_wp2
    go_ret
    exact ⟨by rw [HV.out]; rfl, rfl⟩
theorem refMay_any (n : Int) (w : World) : Calls Tryd.prog 15 #[.int .i64 n] w fun e w' => e = .returned (.bool (mayB n)) ∧ w = w' := by
  by_cases h1 : -1000000000000000 ≤ n
  · by_cases h2 : n ≤ 1000000000000000
    · have HV : Hid (mayB n = true) := Lib.hid (by simp [mayB]; omega)
      go_enter Tryd.func15, Tryd.ntmps15
      go_wp2
      go_ret
      exact ⟨by rw [HV.out]; rfl, rfl⟩
    · have HV : Hid (mayB n = false) := Lib.hid (by simp [mayB]; omega)
      go_enter Tryd.func15, Tryd.ntmps15
      go_wp2
      go_ret
      exact ⟨by rw [HV.out]; rfl, rfl⟩
  · have HV : Hid (mayB n = false) := Lib.hid (by simp [mayB]; omega)
    go_enter Tryd.func15, Tryd.ntmps15
    go_wp2
    go_ret
    exact ⟨by rw [HV.out]; rfl, rfl⟩

theorem unit_any (d : Nat) (w : World) (hu : Units w) : Calls Tryd.prog 16 #[.int .u8 d] w fun e w' => e = .returned (.int .i64 (unitN d)) ∧ w = w' := by
  by_cases hd : 6 < d
  · have HV : Hid (unitN d = 0) := Lib.hid (by simp [unitN]; omega)
    go_enter Tryd.func16, Tryd.ntmps16
    go_wp2
    go_ret
    exact ⟨by rw [HV.out]; rfl, rfl⟩
  · have hc := hu.2 d (by omega)
    have h0 := hu.1
    have hd2 : d < 7 := by omega
    clear hu hd
    go_enter Tryd.func16, Tryd.ntmps16
    go_wp2
    go_ret
    exact ⟨rfl, rfl⟩
end Go.Proofs.YtgomfgebcljnbaaDoor
