/-
  PLAIN: two readers beside one another.
-/
import Derived.Test.YtejjlmdaalfenaaYReadsM
namespace Go.Proofs.Ytejjlmdaalfenaa.YX
open Go.RowKit HL
open IX (ptr El cellsK cellsK_at cellsK_len OwnK RdK Kept slice_toK slice_fromK)
set_option maxRecDepth 100000
set_option linter.unusedVariables false
set_option linter.unusedSimpArgs false

/-- What is done to one reader leaves another one alone. -/
theorem RAt.two {w w' : World} {X B : Nat} {s : Option Bs} (h : RAt w X s) (hb : ∃ x y, AtC w B #[x, y] ∧ (∀ n, x ≠ .int .u8 n) ∧ (∀ n, y ≠ .int .u8 n)) (hne : X ≠ B) (k : Kept w w' (· ≠ B)) : RAt w' X s := by
  cases s with
  | none => exact AtC.kept h k hne
  | some l =>
    obtain ⟨A, c, h1, h2, h3⟩ := h
    refine ⟨A, c, h1.kept k hne, ?_, h3⟩
    rcases rdY h2 with e | ⟨b, off, e, hlt, hc⟩
    · exact rdY_back (.inl e)
    · subst e
      refine rdY_back (.inr ⟨b, off, rfl, hlt, fun j y hy => ?_⟩)
      have hcj := hc j y hy
      have hbB : b ≠ B := by
        rintro rfl
        obtain ⟨u, v, ha, hu, hv⟩ := hb
        rw [ha.c (off + j)] at hcj
        rcases (show off + j = 0 ∨ off + j = 1 ∨ 2 ≤ off + j by omega) with q | q | q
        · rw [q] at hcj; simp at hcj; exact hu _ hcj
        · rw [q] at hcj; simp at hcj; exact hv _ hcj
        · rw [Array.getElem?_eq_none (by simpa using q)] at hcj; cases hcj
      exact (k.cell (Nat.lt_trans hlt h1.lt) hbB).trans hcj
theorem RAt.shape {w : World} {B : Nat} {s : Option Bs} (h : RAt w B s) : ∃ x y, AtC w B #[x, y] ∧ (∀ n, x ≠ .int .u8 n) ∧ (∀ n, y ≠ .int .u8 n) := by
  cases s with
  | none => exact ⟨_, _, h, fun n q => (by cases q), fun n q => (by cases q)⟩
  | some l => obtain ⟨A, c, h1, _⟩ := h; exact ⟨_, _, h1, fun n q => (by cases q), fun n q => (by cases q)⟩
theorem RAt.aside {w w' : World} {X B : Nat} {s t : Option Bs} (h : RAt w X s) (hb : RAt w B t) (hne : X ≠ B) (k : Kept w w' (· ≠ B)) : RAt w' X s := h.two hb.shape hne k
theorem RAt.form {w : World} {B : Nat} {s : Option Bs} (h : RAt w B s) : ∃ A c, AtC w B #[.slice A (s.getD []).length c, .bool s.isNone] := by
  cases s with
  | none => exact ⟨none, 0, h⟩
  | some l => obtain ⟨A, c, h1, _⟩ := h; exact ⟨A, c, h1⟩
end Go.Proofs.Ytejjlmdaalfenaa.YX
