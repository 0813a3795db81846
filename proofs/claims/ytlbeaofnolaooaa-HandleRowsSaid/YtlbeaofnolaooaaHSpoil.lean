/-
  WALK: spoil (the law's own row is written over, cell by cell).
-/
import Derived.Test.YtlbeaofnolaooaaHAwake
import Derived.Laws.OwnMore
namespace Go.Proofs.Ytlbeaofnolaooaa
open Go.RowKit
set_option maxRecDepth 100000
set_option linter.unusedVariables false
set_option linter.unusedSimpArgs false

theorem grown_setCell {w0 w : World} {g : Nat} (h : w0.grownBy w (some g)) (k : Nat) (v : Value) : w0.grownBy (w.setCell ⟨g, k, none⟩ v) (some g) where
  os := h.os
  tape := h.tape
  output := h.output
  size := by have := h.size; simpa using this
  block := fun i hi hne => (Below.heap_setCell w ⟨g, k, none⟩ v i (fun e => hne (congrArg some e))).trans (h.block i hi hne)
theorem RowG.stored {w : World} {g cap : Nat} {ys : List Bs} (h : RowG w g cap ys) (k : Nat) (x : Bs) : RowG (w.setCell ⟨g, k, none⟩ (str x)) g cap (ys.set k x) := by
  have := World.ownsRow.stored (show w.ownsRow _ _ _ _ _ _ from h) k (str x)
  show World.ownsRow _ _ _ _ _ _ _
  rw [List.length_set, List.map_set]
  exact this.1

set_option maxHeartbeats 1000000 in
theorem spoil_row (g cap : Nat) (xs : List Bs) (w : World) (h : RowG w g cap xs) (hn : xs.length ≤ 1000000) :
    Calls Try.prog 26 #[.slice (some ⟨g, 0, none⟩) xs.length cap] w fun e w' => e = .returned (.tuple #[]) ∧ w.grownBy w' (some g) := by
  have H := Lib.hid h
  clear h
  go_enter Try.func26, Try.ntmps26
  go_wp2
  go_loopw [2] (fun i wr => ∃ (k : Nat) (ys : List Bs), i = .int .i64 k ∧ k ≤ xs.length ∧ ys.length = xs.length ∧ RowG wr g cap ys ∧ w.grownBy wr (some g)) (fun i _ => xs.length - (intOf i).toNat)
  case atStart => exact ⟨0, xs, rfl, Nat.zero_le _, rfl, H.out, World.grownBy.refl _ _⟩
  case round =>
    obtain ⟨k, ys, rfl, hk, hl, hr, hg⟩ := hrel
    by_cases hlt : k < xs.length
    · have hc : wr.cell? ⟨g, 0 + k, none⟩ = some (str (ys[k]'(by omega))) := hr.cells k _ (List.getElem?_eq_getElem (by omega))
      rw [Nat.zero_add] at hc
      have hf : wr.frozen? ⟨g, k, none⟩ = false := World.ownsRow.frozenAt (show wr.ownsRow _ _ _ _ _ _ from hr) k
      have HR := Lib.hid (hr.stored k [63])
      have HG := Lib.hid (grown_setCell hg k (str [63]))
      clear hr hg
      go_wp2
      go_roundw
      case rel => exact ⟨k + 1, _, by go_num, by omega, by rw [List.length_set]; exact hl, HR.out, HG.out⟩
      case measure => simp [intOf]; omega
    · have HG := Lib.hid hg
      clear hr hg
      go_wp2
      go_end0
      exact ⟨rfl, HG.out⟩
end Go.Proofs.Ytlbeaofnolaooaa
