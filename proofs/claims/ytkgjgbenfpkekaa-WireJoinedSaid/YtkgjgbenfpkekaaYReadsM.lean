/-
  PLAIN: bounds of what is told.
-/
import Derived.Test.YtkgjgbenfpkekaaYRefText
namespace Go.Proofs.Ytkgjgbenfpkekaa.YX
open Go.RowKit HL
set_option maxRecDepth 100000

theorem told_I (s : Option Bs) : -9223372036854775808 ≤ told (0 : Int) rdI s ∧ told (0 : Int) rdI s < 9223372036854775808 := by
  rw [(rdI_told s).1]; exact natI_ge (told_lt s)
theorem told_B (s : Option Bs) : told (0 : Nat) rdB s < 256 := by
  cases s with
  | none => simp [told]
  | some l => cases l with
    | nil => simp [told, rdB]
    | cons b r => exact u8lt b
theorem told_T (s : Option Bs) : told (0 : Nat) rdT s ≤ 1 := by
  cases s with
  | none => simp [told]
  | some l =>
    cases e : rdT l with
    | none => rw [(told_none 0 e).1]; omega
    | some y =>
      obtain ⟨v, r⟩ := y
      rw [(told_some 0 e).1]
      cases l with
      | nil => simp [rdT] at e
      | cons b r2 => simp only [rdT] at e; split at e <;> simp at e; omega
end Go.Proofs.Ytkgjgbenfpkekaa.YX
