/-
  PLAIN: a stamp in memory; two stamps compared; what a function tells of one.
-/
import Derived.Test.YtecdcfmbhphagaaUMath
import Derived.Test.YtecdcfmbhphagaaSKit
import Derived.Laws.StructEq
namespace Go.Proofs.Ytecdcfmbhphagaa.UX
open Go.RowKit FixMath
set_option maxRecDepth 100000
set_option linter.unusedVariables false
set_option linter.unusedSimpArgs false

theorem loadVar_st {W : World} {B : Nat} {a b : Int} (h : At2 W B a b) : (loadVar 33 ⟨B, 0, none⟩).run Try.prog W = .ok (sp a b) W := by
  have h0 := h.c0; have h1 := h.c1
  simp [loadVar, go_sem, h0, h1]
theorem ret_st_tmp {fn : Func} {R : Ending → World → Prop} {act : Act} {W : World} {B : Nat} {a b : Int} {p u : Tmp} {v : Value} (hr : fn.results = #[.cell p 33, .tmp u]) (hp : act.tmps.getD p undef = .pointer (some ⟨B, 0, none⟩)) (hu : act.tmps.getD u undef = v) (hd : act.defers = [])
    (h : At2 W B a b) (hR : R (.returned (.tuple #[sp a b, v])) W) : bodyPost Try.prog fn R .ret act W := by
  refine bodyPost_ret (v := .tuple #[sp a b, v]) ?_ hd hR
  have h0 := h.c0; have h1 := h.c1
  rw [results_cell_tmp hr, hp, hu]
  simp [Result.andThen, go_sem, h0, h1]
theorem ret_st_tmp2 {fn : Func} {R : Ending → World → Prop} {act : Act} {W : World} {B : Nat} {a b : Int} {p u t : Tmp} {v x : Value} (hr : fn.results = #[.cell p 33, .tmp u, .tmp t]) (hp : act.tmps.getD p undef = .pointer (some ⟨B, 0, none⟩)) (hu : act.tmps.getD u undef = v) (ht : act.tmps.getD t undef = x) (hd : act.defers = [])
    (h : At2 W B a b) (hR : R (.returned (.tuple #[sp a b, v, x])) W) : bodyPost Try.prog fn R .ret act W := by
  refine bodyPost_ret (v := .tuple #[sp a b, v, x]) ?_ hd hR
  have h0 := h.c0; have h1 := h.c1
  simp at hp hu ht
  simp only [results, hr]
  simp [Sem.run_bind, Result.andThen, hp, hu, ht, go_sem, h0, h1]
def eqS (a b c d : Int) : Bool := decide (a = c ∧ b = d)
theorem run_eqSt (W : World) (a b c d : Int) : (Op.equalIn 10000 33 (sp a b) (sp c d)).run Try.prog W = .ok (eqS a b c d) W := by
  unfold eqS
  go_simp
  by_cases h1 : a = c <;> by_cases h2 : b = d <;> simp [h1, h2]
end Go.Proofs.Ytecdcfmbhphagaa.UX
