/-
  WALK: the document's Compare, and the program's: both give the order of the two texts' bytes.
-/
import Derived.Test.YtecdcfmbhphagaaHRefMay
import Derived.Shelf.Small.Strs
import Derived.Test.YtecdcfmbhphagaaShelf
namespace Go.Proofs.Ytecdcfmbhphagaa.HL
open Go.RowKit
set_option maxRecDepth 100000
set_option linter.unusedVariables false

theorem drop_cons (s : ByteArray) (k : Nat) (h : k < s.size) : s.data.toList.drop k = (s[k]'h) :: s.data.toList.drop (k + 1) := by
  have h2 : k < s.data.toList.length := by simpa using h
  rw [List.drop_eq_getElem_cons h2]
  rfl
theorem drop_all (s : ByteArray) (k : Nat) (h : ¬ k < s.size) : s.data.toList.drop k = [] := by
  apply List.drop_eq_nil_of_le
  simp; omega

/-- w' is w but for draws. -/
def Dr (w w' : World) : Prop := ∃ n, w' = w.drewN n
theorem Dr.refl (w : World) : Dr w w := ⟨0, rfl⟩
theorem Dr.one (w : World) (a : Nat) : Dr w (w.drewN a) := ⟨a, rfl⟩
theorem Dr.two (w : World) (a b : Nat) : Dr w ((w.drewN a).drewN b) := ⟨_, World.drewN_drewN _ _ _⟩
theorem Dr.three (w : World) (a b c : Nat) : Dr w (((w.drewN a).drewN b).drewN c) := ⟨_, by rw [World.drewN_drewN, World.drewN_drewN]⟩
theorem Dr.below {w w' : World} (h : Dr w w') (B : Nat) : Below B w w' := by
  obtain ⟨n, rfl⟩ := h
  exact ⟨rfl, rfl, rfl, Nat.le_refl _, fun _ _ => rfl⟩

end Go.Proofs.Ytecdcfmbhphagaa.HL
