/-
  WALKS: the tables of words and of kinds, as they lie in memory; the program's Word, and its kind of a word.
-/
import Derived.Test.YtmhilhdmbbdnaaaGreatDoorORefWord
namespace Go.Proofs.YtmhilhdmbbdnaaaGreatDoor
open Go.RowKit
set_option maxRecDepth 100000
set_option linter.unusedVariables false

/-- The table of words lies in memory. -/
def Words (w : World) : Prop := 2 < w.heap.size ∧ ∀ j : Nat, j < 10 → w.cell? ⟨2, j, none⟩ = some (.string (wordOf j))
theorem Words.then {W W1 : World} (h : Words W) (k : Below W.heap.size W W1) : Words W1 := ⟨Nat.lt_of_lt_of_le h.1 k.size, fun j hj => by rw [k.cell h.1]; exact h.2 j hj⟩
theorem Words.al {W : World} (h : Words W) (o : Obj) : Words (W.alloc o) := h.then (bAl (Below.refl _ _) o)
theorem Words.from {w W : World} (h : Words w) (k : Below w.heap.size w W) : Words W := h.then k

theorem word_any (k : Nat) (w : World) (hk : k ≤ 255) (hw : Words w) : Calls Tryz.prog 78 #[.int .u8 k] w fun e w' => e = .returned (.string (wordOf k)) ∧ w = w' := by
  by_cases hd : 10 ≤ k
  · have HV := Lib.hid (word_none (k := k) (by omega))
    have hd2 : (10 : Int) ≤ k := by omega
    clear hd hw
    go_enter Tryz.func78, Tryz.ntmps78
    go_wp2
    go_ret
    exact ⟨by rw [HV.out]; rfl, rfl⟩
  · have hc := hw.2 k (by omega)
    have h0 := hw.1
    have hd2 : k < 10 := by omega
    clear hw hd
    go_enter Tryz.func78, Tryz.ntmps78
    go_wp2
    go_ret
    exact ⟨rfl, rfl⟩
end Go.Proofs.YtmhilhdmbbdnaaaGreatDoor
