/-
  A whole object stored into a row of one's own: one step of a statement whose order is left open.
-/
import Derived.Test.YthlalmoapbdccaaDoorWZWPut
namespace Go.Proofs.YthlalmoapbdccaaDoor.WX
open Go.RowKit HL
open IX (ptr El cellsK cellsK_at cellsK_inv OwnK RdK strK)
set_option maxRecDepth 100000
set_option linter.unusedVariables false
set_option linter.unusedSimpArgs false

theorem run_putC {P : Program} {g off : Nat} : ∀ (vs : List Value) (i : Nat) {W : World} {C : Array Value}, AtC W g C → off + i + vs.length ≤ C.size → (∀ v ∈ vs, v.oneCell' = true) → (storeCells ⟨g, off, none⟩ vs i).run P W = .ok () (putC W g (off + i) vs)
  | [], i, W, C, _, _, _ => rfl
  | v :: vs, i, W, C, h, hl, h1 => by
    have hi : off + i < C.size := by simp at hl; omega
    have hcell : W.cell? ⟨g, off + i, none⟩ = some C[off + i] := by rw [h.c]; exact Array.getElem?_eq_getElem hi
    have hfro : W.frozen? ⟨g, off + i, none⟩ = false := h.f (off + i)
    have hst : (store ((⟨g, off, none⟩ : Addr).add i) v).run P W = .ok () (W.setCell ⟨g, off + i, none⟩ v) := by
      rw [IX.addr_lit, run_store P W _ v _ (h1 v (by simp)), hcell]
      simp [hfro]
    have ih := run_putC (P := P) (off := off) vs (i + 1) (h.set hi v) (by simp at hl ⊢; omega) (fun x hx => h1 x (by simp [hx]))
    simp only [storeCells, Sem.run_bind, hst, Result.andThen_ok, ih]
    rw [show off + (i + 1) = off + i + 1 by omega]
    rfl
theorem run_storeOb {W : World} {g off : Nat} {C : Array Value} {o : Ob} (a : AtC W g C) (h : off + 14 ≤ C.size) : (Instr.storeAt 31 (.pointer (some ⟨g, off, none⟩)) (ob o)).run Tryd.prog W = .ok () (putC W g off (obCells o).toList) := by
  have h1 := run_putC (P := Tryd.prog) (off := off) (obCells o).toList 0 a (by show off + 0 + 14 ≤ _; omega) (fun v hv => obK.one o v hv)
  have h2 : (sizeOf 31).run Tryd.prog W = .ok 14 W := IX.size_K obK W
  have h3 : (ob o).cells = obCells o := rfl
  rw [Nat.add_zero] at h1
  simp only [Instr.storeAt, Instr.sureAddr, storeVar, Sem.run_bind, h2, Result.andThen_ok, h3]
  simp [Sem.run_bind, h2, h1, Result.andThen]
theorem step_storeOb {ops : Array Oper} {o : Oper} {a : Act} {w : World} {K' : Act → World → Prop} {Q : Exit → Act → World → Prop} {E : Prop} (hgd : o.guard = none) (s x : Operand)
    (ho : o.op = .store 31 s x) {g off : Nat} {C : Array Value} {b : Ob} (hs : a.eval s = .pointer (some ⟨g, off, none⟩)) (hx : a.eval x = ob b) (hat : AtC w g C) (hl : off + 14 ≤ C.size)
    (h : K' (a.put o.dst undef) (putC w g off (obCells b).toList)) :
    if Region.wanted o (yielded ops a.tmps) = true then Oper.wp Tryd.prog o a w K' Q else E := by
  have hw : Region.wanted o (yielded ops a.tmps) = true := by simp [Region.wanted, hgd]
  rw [if_pos hw]
  unfold Oper.wp
  simp [execOp, ho, hs, hx, run_storeOb hat hl, Sem.run_bind, Result.andThen]
  exact h
end Go.Proofs.YthlalmoapbdccaaDoor.WX
