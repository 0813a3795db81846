/-
  PLAIN MATHEMATICS of handles: bytes of a string, what a handle is, the order of strings. No program is named here.
-/
import Derived.WalkKit
namespace Go.Proofs.Ytecdcfmbhphagaa.HL
open Go.RowKit

/-- Byte k of a string, 0 beyond its end. -/
def bt (s : ByteArray) (k : Nat) : Nat := (s.data.toList.getD k 0).toNat
theorem bt_get (s : ByteArray) (k : Nat) (h : k < s.size) : (s[k]'h).toNat = bt s k := by
  have h2 : k < s.data.toList.length := by simpa using h
  unfold bt
  rw [List.getD_eq_getElem?_getD, List.getElem?_eq_getElem h2]
  rfl
theorem bt_lt (s : ByteArray) (k : Nat) : bt s k < 256 := by unfold bt; exact UInt8.toNat_lt _

/-- A letter, and what may stand behind the first sign, as numbers. -/
def ltrI (r : Int) : Bool := decide (97 ≤ r ∧ r ≤ 122)
def latI (r : Int) : Bool := decide ((97 ≤ r ∧ r ≤ 122) ∨ (48 ≤ r ∧ r ≤ 57) ∨ r = 46 ∨ r = 95 ∨ r = 45)
theorem ltrI_t {r : Int} : ltrI r = true ↔ 97 ≤ r ∧ r ≤ 122 := by simp [ltrI]
theorem ltrI_f {r : Int} : ltrI r = false ↔ ¬ (97 ≤ r ∧ r ≤ 122) := by simp [ltrI]
theorem latI_t {r : Int} : latI r = true ↔ ((97 ≤ r ∧ r ≤ 122) ∨ (48 ≤ r ∧ r ≤ 57) ∨ r = 46 ∨ r = 95 ∨ r = 45) := by simp [latI]
theorem latI_f {r : Int} : latI r = false ↔ ¬ ((97 ≤ r ∧ r ≤ 122) ∨ (48 ≤ r ∧ r ≤ 57) ∨ r = 46 ∨ r = 95 ∨ r = 45) := by rw [← latI_t]; simp

/-- A handle. -/
def MayP (s : ByteArray) : Prop :=
  1 ≤ s.size ∧ s.size ≤ 16 ∧ ltrI (bt s 0) = true ∧ (∀ k, k < s.size → latI (bt s k) = true) ∧ (∀ k, k + 1 < s.size → ¬ (bt s k = 46 ∧ bt s (k + 1) = 46)) ∧ bt s (s.size - 1) ≠ 46
noncomputable def mayB (s : ByteArray) : Bool := @decide (MayP s) (Classical.propDecidable _)
theorem mayB_t {s : ByteArray} (h : MayP s) : mayB s = true := by simp [mayB, h]
theorem mayB_f {s : ByteArray} (h : ¬ MayP s) : mayB s = false := by simp [mayB, h]
theorem mayB_iff {s : ByteArray} : mayB s = true ↔ MayP s := by simp [mayB]

/-- The sign before place k (0 at the first place). -/
def prev (s : ByteArray) (k : Nat) : Nat := if k = 0 then 0 else bt s (k - 1)
/-- What holds when k signs have been looked at. -/
def MayTo (s : ByteArray) (k : Nat) : Prop :=
  (0 < k → ltrI (bt s 0) = true) ∧ (∀ j, j < k → latI (bt s j) = true) ∧ (∀ j, j + 1 < k → ¬ (bt s j = 46 ∧ bt s (j + 1) = 46))
theorem MayTo.zero (s : ByteArray) : MayTo s 0 := ⟨fun h => absurd h (by omega), fun _ h => absurd h (by omega), fun _ h => absurd h (by omega)⟩
theorem MayTo.step {s : ByteArray} {k : Nat} (h : MayTo s k) (h1 : k = 0 → ltrI (bt s k) = true) (h2 : latI (bt s k) = true) (h3 : ¬ (bt s k = 46 ∧ prev s k = 46)) : MayTo s (k + 1) := by
  obtain ⟨a, b, c⟩ := h
  refine ⟨fun _ => ?_, fun j hj => ?_, fun j hj => ?_⟩
  · by_cases hk : k = 0
    · subst hk; exact h1 rfl
    · exact a (by omega)
  · by_cases e : j = k
    · subst e; exact h2
    · exact b j (by omega)
  · by_cases e : j + 1 = k
    · subst e
      have : prev s (j + 1) = bt s j := by simp [prev]
      rw [this] at h3
      exact fun ⟨x, y⟩ => h3 ⟨y, x⟩
    · exact c j (by omega)
theorem MayTo.done {s : ByteArray} (h : MayTo s s.size) (h1 : 1 ≤ s.size) (h2 : s.size ≤ 16) (h3 : prev s s.size ≠ 46) : MayP s :=
  ⟨h1, h2, h.1 (by omega), h.2.1, h.2.2, by simpa [prev, show s.size ≠ 0 by omega] using h3⟩
theorem no_len {s : ByteArray} (h : s.size < 1 ∨ 16 < s.size) : mayB s = false := mayB_f fun m => by have := m.1; have := m.2.1; omega
theorem no_ltr {s : ByteArray} (h : ltrI (bt s 0) = false) : mayB s = false := mayB_f fun m => by rw [m.2.2.1] at h; cases h
theorem no_lat {s : ByteArray} {k : Nat} (hk : k < s.size) (h : latI (bt s k) = false) : mayB s = false := mayB_f fun m => by rw [m.2.2.2.1 k hk] at h; cases h
theorem no_dots {s : ByteArray} {k : Nat} (hk : k < s.size) (h : bt s k = 46) (h2 : prev s k = 46) : mayB s = false := mayB_f fun m => by
  by_cases e : k = 0
  · subst e; simp [prev] at h2
  · have := m.2.2.2.2.1 (k - 1) (by omega)
    rw [show k - 1 + 1 = k by omega] at this
    simp [prev, e] at h2
    exact this ⟨h2, h⟩
theorem no_two {s : ByteArray} {k : Nat} (hk : k + 1 < s.size) (h : bt s k = 46) (h2 : bt s (k + 1) = 46) : mayB s = false := mayB_f fun m => m.2.2.2.2.1 k hk ⟨h, h2⟩
theorem no_end {s : ByteArray} (h : prev s s.size = 46) : mayB s = false := mayB_f fun m => by
  by_cases e : s.size = 0
  · have := m.1; omega
  · simp [prev, e] at h; exact m.2.2.2.2.2 h
theorem no_end' {s : ByteArray} (h : bt s (s.size - 1) = 46) : mayB s = false := mayB_f fun m => m.2.2.2.2.2 h
/-- What holds when the document's loop has looked at k signs. -/
def RefTo (s : ByteArray) (k : Nat) : Prop := ltrI (bt s 0) = true ∧ ∀ j, j < k → latI (bt s j) = true ∧ (bt s j = 46 → j + 1 < s.size ∧ bt s (j + 1) ≠ 46)
theorem RefTo.one {s : ByteArray} (h : ltrI (bt s 0) = true) : RefTo s 1 :=
  ⟨h, fun j hj => by
    obtain rfl : j = 0 := by omega
    exact ⟨latI_t.2 (.inl (ltrI_t.1 h)), fun h2 => by have := ltrI_t.1 h; omega⟩⟩
theorem RefTo.step {s : ByteArray} {k : Nat} (h : RefTo s k) (h2 : latI (bt s k) = true) (h3 : bt s k = 46 → k + 1 < s.size ∧ bt s (k + 1) ≠ 46) : RefTo s (k + 1) :=
  ⟨h.1, fun j hj => by
    by_cases e : j = k
    · subst e; exact ⟨h2, h3⟩
    · exact h.2 j (by omega)⟩
theorem RefTo.done {s : ByteArray} (h : RefTo s s.size) (h1 : 1 ≤ s.size) (h2 : s.size ≤ 16) : MayP s := by
  refine ⟨h1, h2, h.1, fun k hk => (h.2 k hk).1, fun k hk ⟨a, b⟩ => ((h.2 k (by omega)).2 a).2 b, fun e => ?_⟩
  have := ((h.2 (s.size - 1) (by omega)).2 e).1
  omega
end Go.Proofs.Ytecdcfmbhphagaa.HL
