/-
  WALKS: the document's reader: Int, Text.
-/
import Derived.Test.YtkgjgbenfpkekaaYRefUint
namespace Go.Proofs.Ytkgjgbenfpkekaa.YX
open Go.RowKit HL
open IX (ptr El cellsK cellsK_at cellsK_len OwnK RdK Kept slice_toK slice_fromK)
set_option maxRecDepth 100000
set_option linter.unusedVariables false
set_option linter.unusedSimpArgs false

/-- No more bytes than a law has. -/
def Lim (s : Option Bs) : Prop := (s.getD []).length ≤ 1000000
theorem rUint_any (B : Nat) (s : Option Bs) (hs : Lim s) (w : World) (h : RAt w B s) : Calls Try.prog 57 #[ptr B] w fun e w' => e = .returned (vU (told (0 : Nat) rdU s)) ∧ RAt w' B (rest rdU s) ∧ Kept w w' (· ≠ B) := by
  cases s with
  | none => exact rUint_no B w h
  | some l => exact rUint_some B l w h hs
theorem told_lt (s : Option Bs) : told (0 : Nat) rdU s < 18446744073709551616 := by
  cases s with
  | none => simp [told]
  | some l =>
    cases e : rdU l with
    | none => rw [(told_none 0 e).1]; decide
    | some y => rw [(told_some 0 e).1]; exact (rdU_inv e).2
theorem rdI_told (s : Option Bs) : told (0 : Int) rdI s = natI (told (0 : Nat) rdU s) ∧ rest rdI s = rest rdU s := by
  cases s with
  | none => exact ⟨rfl, rfl⟩
  | some l =>
    cases e : rdU l with
    | none => rw [(told_none 0 e).1, (told_none (0 : Nat) e).2]; have e2 : rdI l = none := by simp [rdI, e]
              rw [(told_none 0 e2).1, (told_none (0 : Int) e2).2]; exact ⟨rfl, rfl⟩
    | some y => obtain ⟨v, r⟩ := y; rw [(told_some 0 e).1, (told_some (0 : Nat) e).2]; have e2 : rdI l = some (natI v, r) := by simp [rdI, e]
                rw [(told_some 0 e2).1, (told_some (0 : Int) e2).2]; exact ⟨rfl, rfl⟩
theorem size8 (W : World) : (sizeOf 5).run Try.prog W = .ok 1 W := IX.size_K u8K W
end Go.Proofs.Ytkgjgbenfpkekaa.YX
