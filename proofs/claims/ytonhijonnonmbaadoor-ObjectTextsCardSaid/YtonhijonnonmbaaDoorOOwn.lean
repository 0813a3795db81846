/-
  PLAIN: a slice of texts of the call's own grows by one literal, as one step of a region that draws; blocks beside it.
-/
import Derived.Test.YtonhijonnonmbaaDoorHSplit
import Derived.Test.YtonhijonnonmbaaDoorGKit
import Derived.Deep.RegionLaw
import Derived.Deep.AppendLies
import Derived.Laws.OwnMore
import Derived.OwnWalkIn
namespace Go.Proofs.YtonhijonnonmbaaDoor.HL
open Go.RowKit
set_option maxRecDepth 100000
set_option linter.unusedVariables false
set_option linter.unusedSimpArgs false

theorem OwnS.lt {w : World} {base : Nat} {v : Value} {zs : List (List UInt8)} (h : OwnS w base v zs) : ∀ k, v.ownBlock = some k → base ≤ k ∧ k < w.heap.size := World.ownsRow.lt (show w.ownsRow _ _ _ _ _ _ from h)
theorem OwnS.below {w w' : World} {base : Nat} {v : Value} {zs : List (List UInt8)} (h : OwnS w base v zs) (hb : Below w.heap.size w w') : OwnS w' base v zs := by
  unfold OwnS at *
  exact World.ownsRow.kept h (row := none) ⟨hb.os, hb.tape, hb.output, hb.size, fun k hk _ => hb.block k hk⟩ (by
    cases hv : v.ownBlock with
    | none => exact .inl rfl
    | some k => exact .inr (by simp))
theorem AtC.grown {w w' : World} {B : Nat} {C : Array Value} {row : Option Nat} (h : AtC w B C) (hg : w.grownBy w' row) (hne : ∀ q, row = some q → q ≠ B) : AtC w' B C := by
  have hq : w'.heap[B]? = w.heap[B]? := hg.block B h.lt (fun e => hne B e.symm rfl)
  exact ⟨Nat.lt_of_lt_of_le h.lt hg.size, fun i => by rw [← h.c i]; simp only [World.cell?, hq], fun i => by rw [← h.f i]; simp only [World.frozen?, hq]⟩
/-- 'append(own, x)' as one step of a region that draws: the literal [x] has just been made. -/
theorem step_one {ops : Array Oper} {o : Oper} {a : Act} {w : World} {K : Act → World → Prop} {Q : Exit → Act → World → Prop} {E : Prop} (hgd : o.guard = none) (s x : Operand)
    (ho : o.op = .call { callee := .builtin .append, args := #[s, x], argTypes := #[38, 38] }) (base : Nat) (v : Value) (xs : List (List UInt8)) (hs : a.eval s = v) (hown : OwnS w base v xs)
    (g c : Nat) (y : List UInt8) (hx : a.eval x = .slice (some ⟨g, 0, none⟩) 1 c) (hc : w.cell? ⟨g, 0, none⟩ = some (str y)) (hl : xs.length ≤ 1000000) (hbase : base ≤ w.heap.size)
    (h : ∀ v' w', OwnS w' base v' (xs ++ [y]) → w.grownBy w' v.ownBlock → K (a.put o.dst v') w') :
    if Region.wanted o (yielded ops a.tmps) = true then Oper.wp Tryd.prog o a w K Q else E := by
  have hw : Region.wanted o (yielded ops a.tmps) = true := by simp [Region.wanted, hgd]
  rw [if_pos hw]
  obtain ⟨i0, hi, hz0, hz1, hz2⟩ := info_parts info_str
  refine wp_append_own w s x 38 ho base 9 i0 (.string ByteArray.empty) 1 16 Tryd.underlying38 hi hz0 hz1 hz2 rfl (by decide) v xs.length _ hs hown ⟨g, 0, none⟩ 1 c [str y] hx (by simp) ?_ (by simp [str, Value.oneCell']) (by unfold maxLen; omega) (by omega) hbase (fun v' w' q g _ => h v' w' (OwnS.more q rfl) g)
  intro j u hu
  rcases j with _ | j
  · simp at hu; subst hu
    rw [show (⟨g, 0, none⟩ : Addr).add 0 = ⟨g, 0, none⟩ by unfold Addr.add; split <;> simp_all]; exact hc
  · simp at hu
end Go.Proofs.YtonhijonnonmbaaDoor.HL
