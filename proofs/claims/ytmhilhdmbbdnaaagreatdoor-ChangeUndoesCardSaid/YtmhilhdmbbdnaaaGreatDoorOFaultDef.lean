/-
  PLAIN: the kinds that there are; the fault of an object, as the chapter says it.
-/
import Derived.Test.YtmhilhdmbbdnaaaGreatDoorORefTrim
import Derived.Test.YtmhilhdmbbdnaaaGreatDoorHRefMay
import Derived.Test.YtmhilhdmbbdnaaaGreatDoorFNum2
namespace Go.Proofs.YtmhilhdmbbdnaaaGreatDoor
open Go.RowKit
set_option maxRecDepth 100000
set_option linter.unusedVariables false

def kindB (k : Nat) : Bool := decide (1 ≤ k ∧ k ≤ 9)
/-- What is wrong with an object of a kind that there is, with just its kind's fields. -/
noncomputable def faultR (o : Ob) (desc valued : Bool) : Int :=
  if HL.mayB o.handle = false ∨ (desc = true ∧ ¬ (o.kind : Int) = 1 ∧ HL.mayB o.parent = false) ∨ (desc = true ∧ refersB o.kind = true ∧ HL.mayB o.ref = false) then 10
  else if (6 : Int) < o.digits ∨ mayB o.lo = false ∨ mayB o.hi = false ∨ mayB o.value = false ∨ mayB o.low = false ∨ mayB o.high = false ∨ (o.has = false ∧ ¬ o.value = 0) then 20
  else if o.hi < o.lo ∨ o.high < o.low ∨ (valued = true ∧ o.has = true ∧ (o.value < o.lo ∨ o.hi < o.value)) then 30 else 0
noncomputable def faultOf (o : Ob) (desc valued : Bool) : Int := by
  classical exact if kindB o.kind = false ∨ trimOf o ≠ o ∨ 3 < o.typ ∨ 3 < o.assoc then 40 else faultR o desc valued

theorem bytes_toList {s t : ByteArray} (h : s.toList = t.toList) : s = t := by
  rw [ByteArray.toList_eq, ByteArray.toList_eq] at h
  exact ByteArray.ext (Array.toList_inj.1 h)
theorem word_some {k : Nat} (h : kindB k = true) : ∃ c l, wordOf k = ⟨⟨c :: l⟩⟩ := by
  unfold kindB at h
  have := of_decide_eq_true h
  rcases (show k = 1 ∨ k = 2 ∨ k = 3 ∨ k = 4 ∨ k = 5 ∨ k = 6 ∨ k = 7 ∨ k = 8 ∨ k = 9 by omega) with rfl | rfl | rfl | rfl | rfl | rfl | rfl | rfl | rfl <;> exact ⟨_, _, rfl⟩
end Go.Proofs.YtmhilhdmbbdnaaaGreatDoor
