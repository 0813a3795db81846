/-
  PLAIN: a whole row stored into a block of the call's own; a row that a result's cell holds.
-/
import Derived.Test.YthdphdmiafkkgaaDoorGKit
import Derived.Laws.Tables
import Derived.Laws.Cells
namespace Go.Proofs.YthdphdmiafkkgaaDoor
open Go.RowKit
set_option maxRecDepth 100000
set_option linter.unusedVariables false

theorem storeAs {P : Program} {vs vs' : List Value} (he : vs = vs') (g : Nat) (t : TypeId) (cur : Array Value) (w : World) (hg : w.heap[g]? = some (.cells cur t (0, 0))) (hl : vs'.length = cur.size) (h1 : ∀ v ∈ vs', v.oneCell' = true) :
    (storeCells ⟨g, 0, none⟩ vs 0).run P w = .ok () (w.setRow g vs'.toArray) := by
  subst he
  have := run_storeCells_from (P := P) g t vs 0 cur w hg (by omega) h1
  simpa using this
theorem AtC.row {W : World} {g : Nat} {Z C : Array Value} {T : TypeId} (hg : W.heap[g]? = some (.cells Z T (0, 0))) : AtC (W.setRow g C) g C :=
  ⟨by simpa using (Array.getElem?_eq_some_iff.1 hg).1, fun i => cell_setRow_same _ _ _ _ _ _ _ hg, fun i => by simp [World.frozen?, setRow_heap _ _ _ _ _ _ hg]⟩
theorem bRow {w W : World} (h : Below w.heap.size w W) {g : Nat} (hg : w.heap.size ≤ g) (C : Array Value) : Below w.heap.size w (W.setRow g C) :=
  ⟨by simpa using h.os, by simpa using h.tape, by simpa using h.output, by simpa using h.size, fun k hk => (setRow_other _ _ _ _ (by omega)).trans (h.block k hk)⟩
theorem ret_row {P : Program} {fn : Func} {R : Ending → World → Prop} {act : Act} {W : World} {B : Nat} {C : Array Value} {p : Tmp} {ty : TypeId} (hr : fn.results = #[.cell p ty]) (hp : act.tmps.getD p undef = .pointer (some ⟨B, 0, none⟩)) (hd : act.defers = [])
    (h : AtC W B C) (ha : (isAgg ty).run P W = .ok true W) (hs : (sizeOf ty).run P W = .ok C.size W) (hR : R (.returned (.agg C)) W) : bodyPost P fn R .ret act W := by
  refine bodyPost_ret (v := .agg C) ?_ hd hR
  have hl := run_loadCells_list (P := P) W ⟨B, 0, none⟩ C.toList (fun j v hv => by
    have : (⟨B, 0, none⟩ : Addr).add j = ⟨B, j, none⟩ := by unfold Addr.add; split <;> simp_all
    rw [this, h.c j]; simpa using hv)
  simp only [Array.length_toList, Array.toArray_toList] at hl
  simp at hp
  have h0 : (asAddr (act.tmps[p]?.getD undef)).run P W = .ok ⟨B, 0, none⟩ W := by rw [hp]; simp [asAddr, go_sem]
  simp only [results, hr]
  simp [Sem.run_bind, Result.andThen, h0, loadVar, ha, hs, hl]
end Go.Proofs.YthdphdmiafkkgaaDoor
