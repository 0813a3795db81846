/-
  PLAIN: a struct told beside a number; the tail of a function's code; a store into a block.
-/
import Derived.Test.YtjocbokfdfdkeaaGreatLZLMath
import Derived.Test.YtjocbokfdfdkeaaGreatLZYNum
import Derived.Test.YtjocbokfdfdkeaaGreatLZ5
import Derived.Deep.RegionHeld3
import Derived.Deep.MidRow
namespace Go.Proofs.YtjocbokfdfdkeaaGreat.PX
open Go.RowKit HL
open IX (ptr El cellsK cellsK_at cellsK_len OwnK RdK Kept strK)
open YX (numB rdU rdB rdT rdS rdI addW intN natI rest told WAt WPt Wr RAt vS vU vI u8K Got)
open DX (Ch ch chCells chK zeroCh)
set_option maxRecDepth 100000
set_option linter.unusedVariables false
set_option linter.unusedSimpArgs false

theorem ret_row_tmp {P : Program} {fn : Func} {R : Ending → World → Prop} {act : Act} {W : World} {B : Nat} {C : Array Value} {p u : Tmp} {ty : TypeId} {v : Value} (hr : fn.results = #[.cell p ty, .tmp u]) (hp : act.tmps.getD p undef = .pointer (some ⟨B, 0, none⟩)) (hu : act.tmps.getD u undef = v) (hd : act.defers = [])
    (h : AtC W B C) (ha : (isAgg ty).run P W = .ok true W) (hs : (sizeOf ty).run P W = .ok C.size W) (hR : R (.returned (.tuple #[.agg C, v])) W) : bodyPost P fn R .ret act W := by
  refine bodyPost_ret (v := .tuple #[.agg C, v]) ?_ hd hR
  have hl := run_loadCells_list (P := P) W ⟨B, 0, none⟩ C.toList (fun j v hv => by
    have : (⟨B, 0, none⟩ : Addr).add j = ⟨B, j, none⟩ := by unfold Addr.add; split <;> simp_all
    rw [this, h.c j]; simpa using hv)
  simp only [Array.length_toList, Array.toArray_toList] at hl
  have h0 : (asAddr (.pointer (some ⟨B, 0, none⟩))).run P W = .ok ⟨B, 0, none⟩ W := by simp [asAddr, go_sem]
  rw [results_cell_tmp hr, hp, hu, h0]
  simp [Sem.run_bind, Result.andThen, loadVar, ha, hs, hl]
theorem belowK {W0 w w' : World} {B : Nat} (h : Below W0.heap.size W0 w) (k : Kept w w' (· ≠ B)) (hB : W0.heap.size ≤ B) : Below W0.heap.size W0 w' :=
  h.trans (k.below h.size (fun j hj => show j ≠ B by omega))
theorem there_at {W : World} {B : Nat} {C : Array Value} (h : AtC W B C) : W.there B 0 C.size := fun j hj => by
  rw [Nat.zero_add]
  refine ⟨?_, h.f j⟩
  rw [h.c j, Array.getElem?_eq_getElem hj]; rfl
theorem range_at {W : World} {B : Nat} {C : Array Value} (h : AtC W B C) : W.rangeAt B 0 C.toList := fun j v hv => by
  rw [Nat.zero_add, h.c j, ← hv]; exact Array.getElem?_toList.symm
theorem set_at {W : World} {B : Nat} {Z C : Array Value} (h : AtC W B Z) (hl : Z.size = C.size) : AtC (W.setCells B 0 C.toList) B C := by
  rw [setCells_row]
  have := at_all (W := W) (B := B) Z.toList C.toList (by simpa using h) (by simpa using hl)
  simpa using this
theorem set_kept {W : World} {B : Nat} (C : Array Value) : Kept W (W.setCells B 0 C.toList) (· ≠ B) := by
  rw [setCells_row]
  exact kept_stC (fun _ q => q rfl) _ _ _ (Kept.refl _ _)
theorem set_below {w W : World} {B : Nat} (h : Below w.heap.size w W) (hB : w.heap.size ≤ B) (C : Array Value) : Below w.heap.size w (W.setCells B 0 C.toList) := belowK h (set_kept C) hB
theorem own_rd {α : Type} {K : El α} {w : World} {base : Nat} {A : Option Addr} {n c : Nat} {l : List α} (h : OwnK K w base (.slice A n c) l) : RdK K w w.heap.size A l := by
  obtain ⟨A2, c2, e, r, _⟩ := h.form
  simp only [Value.slice.injEq] at e
  rw [e.1]; exact r
theorem own_far {α : Type} {K : El α} {w w' : World} {base N : Nat} {v : Value} {l : List α} (h : OwnK K w base v l) (k : Kept w w' (· ≠ N)) (hN : N < base ∨ w.heap.size ≤ N) : OwnK K w' base v l :=
  h.kept k (fun b hb => by have := h.lt b hb; show b ≠ N; omega)
def nthL : Nat → Code → Code
  | 0, c => c
  | n + 1, .seq _ b => nthL n b
  | _, c => c
end Go.Proofs.YtjocbokfdfdkeaaGreat.PX
