/-
  A slice that reads as a list of strings; the document's Same.
-/
import Derived.Test.YtecdcfmbhphagaaHCmp
namespace Go.Proofs.Ytecdcfmbhphagaa.HL
open Go.RowKit
set_option maxRecDepth 100000
set_option linter.unusedVariables false

/-- A string, its bytes given. -/
abbrev str (x : List UInt8) : Value := .string ⟨x.toArray⟩
/-- The cells from address A on, below block B, read as the strings xs. -/
def Strs (w : World) (B : Nat) (A : Option Addr) (xs : List (List UInt8)) : Prop :=
  xs = [] ∨ ∃ b off, A = some ⟨b, off, none⟩ ∧ b < B ∧ ∀ j x, xs[j]? = some x → w.cell? ⟨b, off + j, none⟩ = some (str x)
theorem Strs.nil_ (w : World) (B : Nat) (A : Option Addr) : Strs w B A [] := .inl rfl
theorem Strs.at_ {w : World} {B : Nat} {A : Option Addr} {xs : List (List UInt8)} (h : Strs w B A xs) (h0 : 0 < xs.length) :
    ∃ b off, A = some ⟨b, off, none⟩ ∧ b < B ∧ ∀ j x, xs[j]? = some x → w.cell? ⟨b, off + j, none⟩ = some (str x) := by
  rcases h with rfl | h
  · simp at h0
  · exact h
theorem Strs.keep {w w' : World} {B : Nat} {A : Option Addr} {xs : List (List UInt8)} (h : Strs w B A xs) (hk : ∀ b o, b < B → w'.cell? ⟨b, o, none⟩ = w.cell? ⟨b, o, none⟩) : Strs w' B A xs := by
  rcases h with h | ⟨b, off, e, hb, hc⟩
  · exact .inl h
  · exact .inr ⟨b, off, e, hb, fun j x hx => (hk _ _ hb).trans (hc j x hx)⟩
theorem Strs.below {w w' : World} {B : Nat} {A : Option Addr} {xs : List (List UInt8)} (h : Strs w B A xs) (hb : Below B w w') : Strs w' B A xs := h.keep fun b o hlt => hb.cell (p := ⟨b, o, none⟩) hlt
theorem Strs.more {w : World} {B B' : Nat} {A : Option Addr} {xs : List (List UInt8)} (h : Strs w B A xs) (hB : B ≤ B') : Strs w B' A xs := by
  rcases h with h | ⟨b, off, e, hb, hc⟩
  · exact .inl h
  · exact .inr ⟨b, off, e, by omega, hc⟩

theorem strs_open {w : World} {a : Addr} {len cap : Nat} {ss : List ByteArray} (hl : len ≤ cap) (hm : cap ≤ maxLen) (hz : ss.length = cap) (hcell : ∀ i, i < ss.length → w.cell? (a.add i) = some (.string (ss.getD i ByteArray.empty))) (hws : ∀ s ∈ ss, s.size ≤ maxLen) :
    ∃ xs, Strs w w.heap.size (some a) xs ∧ xs.length = len ∧ xs.length ≤ maxLen ∧ (∀ x ∈ xs, x.length ≤ maxLen) ∧ xs.length ≤ cap := by
  refine ⟨(ss.take len).map (·.data.toList), ?_, by simp; omega, by simp; omega, ?_, by simp; omega⟩
  · by_cases h0 : len = 0
    · subst h0; exact .inl (by simp)
    · have c0 := hcell 0 (by omega)
      obtain ⟨b, off, spot⟩ := a
      have hspot : spot = none := by simpa [Addr.add] using World.cell?_spot c0
      subst hspot
      refine .inr ⟨b, off, rfl, by simpa [Addr.add] using World.block_lt_of_cell? w _ c0, fun j x hx => ?_⟩
      have hj : j < len := by
        have := (List.getElem?_eq_some_iff.1 hx).1
        simp at this; omega
      have hc := hcell j (by omega)
      have hadd : (⟨b, off, none⟩ : Addr).add j = ⟨b, off + j, none⟩ := by unfold Addr.add; split <;> simp_all
      rw [hadd] at hc
      rw [hc]
      have hj2 : j < ss.length := by omega
      rw [List.getElem?_map, List.getElem?_take, if_pos hj, List.getElem?_eq_getElem hj2] at hx
      simp only [Option.map_some, Option.some.injEq] at hx
      rw [List.getD_eq_getElem?_getD, List.getElem?_eq_getElem hj2, ← hx]
      rfl
  · intro x hx
    obtain ⟨s, hs, rfl⟩ := List.mem_map.1 hx
    have := hws s (List.mem_of_mem_take hs)
    simpa using this

theorem take_step {xs ys : List (List UInt8)} {k : Nat} (h1 : k < xs.length) (h2 : k < ys.length) (h : xs.take k = ys.take k) (he : xs[k] = ys[k]) : xs.take (k + 1) = ys.take (k + 1) := by
  rw [List.take_succ_eq_append_getElem h1, List.take_succ_eq_append_getElem h2, h, he]

noncomputable def sameB (xs ys : List (List UInt8)) : Bool := @decide (xs = ys) (Classical.propDecidable _)
theorem sameB_t {xs ys : List (List UInt8)} (h : xs = ys) : sameB xs ys = true := by simp [sameB, h]
theorem sameB_f {xs ys : List (List UInt8)} (h : xs ≠ ys) : sameB xs ys = false := by simp [sameB, h]

end Go.Proofs.Ytecdcfmbhphagaa.HL
