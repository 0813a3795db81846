/-
  WALK: the laws' guard Long.
-/
import Derived.Test.YtmhilhdmbbdnaaaGreatDoorORefParts
namespace Go.Proofs.YtmhilhdmbbdnaaaGreatDoor
open Go.RowKit
set_option maxRecDepth 100000
set_option linter.unusedVariables false

def longB (o : Ob) : Bool := decide (100 < o.handle.size ∨ 100 < o.parent.size ∨ 100 < o.ref.size)
theorem longB_out {o : Ob} (h : longB o = false) : o.handle.size ≤ 100 ∧ o.parent.size ≤ 100 ∧ o.ref.size ≤ 100 := by
  simp [longB] at h; omega
theorem long_any (o : Ob) (w : World) : Calls Tryz.prog 33 #[ob o] w fun e w' => e = .returned (.bool (longB o)) ∧ Below w.heap.size w w' := by
  have hb : Below w.heap.size w w := Below.refl _ _
  by_cases h1 : 100 < o.handle.size
  · have HV := Lib.hid (show longB o = true by simp [longB]; omega)
    have h1' : (100 : Int) < o.handle.size := by omega
    go_enter Tryz.func33, Tryz.ntmps33
    go_wp2
    go_ret
    exact ⟨by rw [HV.out]; rfl, bAl hb _⟩
  · by_cases h2 : 100 < o.parent.size
    · have HV := Lib.hid (show longB o = true by simp [longB]; omega)
      have h1' : ¬ (100 : Int) < o.handle.size := by omega
      have h2' : (100 : Int) < o.parent.size := by omega
      clear h1 h2
      go_enter Tryz.func33, Tryz.ntmps33
      go_wp2
      go_ret
      exact ⟨by rw [HV.out]; rfl, bAl hb _⟩
    · by_cases h3 : 100 < o.ref.size
      · have HV := Lib.hid (show longB o = true by simp [longB]; omega)
        have h1' : ¬ (100 : Int) < o.handle.size := by omega
        have h2' : ¬ (100 : Int) < o.parent.size := by omega
        have h3' : (100 : Int) < o.ref.size := by omega
        clear h1 h2 h3
        go_enter Tryz.func33, Tryz.ntmps33
        go_wp2
        go_ret
        exact ⟨by rw [HV.out]; simp [*], bAl hb _⟩
      · have HV := Lib.hid (show longB o = false by simp [longB]; omega)
        have h1' : ¬ (100 : Int) < o.handle.size := by omega
        have h2' : ¬ (100 : Int) < o.parent.size := by omega
        have h3' : ¬ (100 : Int) < o.ref.size := by omega
        clear h1 h2 h3
        go_enter Tryz.func33, Tryz.ntmps33
        go_wp2
        go_ret
        exact ⟨by rw [HV.out]; simp [*], bAl hb _⟩
end Go.Proofs.YtmhilhdmbbdnaaaGreatDoor
