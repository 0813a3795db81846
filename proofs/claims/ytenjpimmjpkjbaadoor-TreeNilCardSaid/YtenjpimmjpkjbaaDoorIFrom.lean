/-
  WALK: the law's from: what From goes over, gathered in two rows.
-/
import Derived.Test.YtenjpimmjpkjbaaDoorIRegion
namespace Go.Proofs.YtenjpimmjpkjbaaDoor.IX
open Go.RowKit HL
set_option maxRecDepth 100000
set_option linter.unusedVariables false
set_option linter.unusedSimpArgs false
attribute [local go_sem] Oper.semAt_some

theorem run_seq_nil (W : World) (f : Fn) (cs : Array Value) : (binOp .eql 70 (.func f #[] cs) Value.nilFunc).run Tryd.prog W = .ok (.bool false) W := by
  have h : ∀ d : Nat, (Op.equalIn (d + 1) 70 (.func f #[] cs) Value.nilFunc).run Tryd.prog W = .ok false W := fun d => by
    simp [Op.equalIn, run_underlying Tryd.underlying70, Value.nilFunc]
  simp only [binOp]
  simp [Op.equal, Op.maxDepth, h 9999]
theorem boxed_far {W : World} {B : Nat} {t : TypeId} {v : Value} (h : Boxed W B t v) {r : Option Nat} (hr : ∀ k, r = some k → ∃ o : Obj, W.heap[k]? = some o ∧ o.isCells = false) : some B ≠ r := fun e => by
  obtain ⟨o, ho, hc⟩ := hr B e.symm
  have h : W.heap[B]? = some (Obj.cells #[v] t (0, 0)) := h
  rw [h] at ho
  cases ho
  cases hc
theorem own_far {α : Type} {K : El α} {W : World} {base : Nat} {v : Value} {l : List α} (h : OwnK K W base v l) {r : Option Nat} (hr : ∀ k, r = some k → ∃ o : Obj, W.heap[k]? = some o ∧ o.isCells = false) : v.ownBlock = none ∨ v.ownBlock ≠ r := by
  cases e : v.ownBlock with
  | none => exact .inl rfl
  | some g =>
    refine .inr fun e2 => ?_
    obtain ⟨o, ho, hc⟩ := hr g e2.symm
    rcases h.2 with ⟨rfl, _⟩ | ⟨g', cap, cur, rfl, _, hh, _⟩
    · simp [Value.ownBlock] at e
    · simp only [Value.ownBlock, Option.some.injEq] at e
      subst e
      rw [hh] at ho
      cases ho
      cases hc
theorem keepsOthers_of {W W' : World} {P : Nat → Prop} (h : Kept W W' P) (hp : ∀ k o, W.heap[k]? = some o → o.isCells = false → P k) : KeepsOthers W W' :=
  ⟨h.size, fun k o hk ho => (h.block k (Array.getElem?_eq_some_iff.1 hk).1 (hp k o hk ho)).trans hk⟩
end Go.Proofs.YtenjpimmjpkjbaaDoor.IX
