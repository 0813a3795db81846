/-
  PLAIN: 'append(own, x)' where the old row is read afterwards too.
-/
import Derived.Test.YtmhckcpcnkhbeaaDoorCRow
import Derived.Laws.OwnMore
namespace Go.Proofs.YtmhckcpcnkhbeaaDoor
open Go.RowKit
set_option maxRecDepth 100000
set_option linter.unusedVariables false
set_option linter.unusedSimpArgs false

theorem lit_cells {w : World} {n : Nat} : ∀ j u, ([u8 n] : List Value)[j]? = some u → (w.alloc (.cells #[u8 n] 5)).cell? ((⟨w.heap.size, 0, none⟩ : Addr).add j) = some u := by
  intro j u hu
  rcases j with _ | j
  · simp at hu; subst hu
    rw [show (⟨w.heap.size, 0, none⟩ : Addr).add 0 = ⟨w.heap.size, 0, none⟩ by unfold Addr.add; split <;> simp_all]
    rw [World.cell?_alloc_at _ _ _ _ rfl]; rfl
  · simp at hu
theorem run_keep (w : World) (ty : TypeId) {base : Nat} {v : Value} {l : List Nat} (hown : OwnU w base v l) (n : Nat) (hl : l.length ≤ 1000000) (hbase : base ≤ w.heap.size) :
    ∃ v' w', (Builtin.append_ #[22, 22] ty #[v, .slice (some ⟨w.heap.size, 0, none⟩) 1 1]).run Tryd.prog (w.alloc (.cells #[u8 n] 5)) = .ok v' w' ∧ OwnU w' base v' (l ++ [n]) ∧ OwnU w' base v l ∧ Below base w w' := by
  obtain ⟨i0, hi, hz0, hz1, hz2⟩ := info_parts info_u8
  have hown0 := hown.al (.cells #[u8 n] 5)
  obtain ⟨v', w', hrun, h2, h3, _⟩ := run_append_own (P := Tryd.prog) (w.alloc (.cells #[u8 n] 5)) base 22 ty 5 i0 (.int .u8 0) 1 1 Tryd.underlying22 hi hz0 hz1 hz2 rfl (by decide) v l.length _ hown0 ⟨w.heap.size, 0, none⟩ 1 1 [u8 n] (by simp) lit_cells (by simp [Value.oneCell']) (by unfold maxLen; omega) (by omega) (by simp; omega)
  have hb : Below base w w' := ((Below.refl _ _).alloc hbase _).grown h3 (by simp; omega) (fun k hk => (hown.lt k hk).1)
  refine ⟨v', w', hrun, by unfold OwnU; simpa using h2, ?_, hb⟩
  rcases hown0.2 with ⟨e1, e2⟩ | ⟨g, cap, cur, e1, hbg, hg, hnc, hcm, hcs, htake⟩
  · have : l = [] := List.eq_nil_of_length_eq_zero e2
    rw [e1, this]; exact OwnU.nil_ _ _
  · subst e1
    by_cases hroom : l.length + 1 ≤ cap
    · have hr := run_append_room (P := Tryd.prog) (w.alloc (.cells #[u8 n] 5)) 22 ty 5 i0 Tryd.underlying22 hi g l.length cap cur hg ⟨w.heap.size, 0, none⟩ 1 1 [u8 n] (by rw [hz1]; rfl) lit_cells (by simp [Value.oneCell']) hroom (by rw [hz1, hcs]; simp; omega)
      rw [hr] at hrun
      injection hrun with _ e3
      subst e3
      refine ⟨hown0.1, .inr ⟨g, cap, _, rfl, hbg, setRow_heap _ g cur _ 5 _ hg, hnc, hcm, ?_, ?_⟩⟩
      · simp [hz1, hcs]; omega
      · rw [← htake]
        simp only [hz1, Nat.mul_one, List.append_assoc]
        rw [List.take_append_of_le_length (by simp; omega), List.take_take]
        simp
    · have hr := run_append_grow (P := Tryd.prog) (w.alloc (.cells #[u8 n] 5)) 22 ty 5 i0 (.int .u8 0) Tryd.underlying22 hi hz0 ⟨g, 0, none⟩ l.length cap (l.map u8) (by rw [hz1]; simp) (hown0.cells (g := g) rfl) ⟨w.heap.size, 0, none⟩ 1 1 [u8 n] (by rw [hz1]; rfl) lit_cells (by omega) (by omega) (growslice_fits (by omega) (by rw [hz2]; omega))
      rw [hr] at hrun
      injection hrun with _ e3
      subst e3
      exact (show OwnU (w.alloc (.cells #[u8 n] 5)).drew base _ l from hown0).al _
/-- 'append' whose run is known, guarded or not. -/
theorem wpList_run {ops : Array Oper} {rest : List Oper} {o : Oper} {a : Act} {Q : Exit → Act → World → Prop} {w : World} (hw : Region.wanted o (yielded ops a.tmps) = true) (s x : Operand)
    (ho : o.op = .call { callee := .builtin .append, args := #[s, x], argTypes := #[22, 22] }) (v xv v' : Value) (w' : World) (hs : a.eval s = v) (hx : a.eval x = xv)
    (hrun : (Builtin.append_ #[22, 22] o.type #[v, xv]).run Tryd.prog w = .ok v' w') (h : wpList Tryd.prog ops Q rest (a.put o.dst v') w') : wpList Tryd.prog ops Q (o :: rest) a w := by
  refine wpList_step fun K hK => ?_
  rw [if_pos hw]
  unfold Oper.wp execOp
  simp only [ho, resolve, invoke, builtin, Sem.run_bind, Sem.run_pure, Result.andThen_ok, List.map_toArray, List.map_cons, List.map_nil, hs, hx, hrun]
  exact hK _ _ h
end Go.Proofs.YtmhckcpcnkhbeaaDoor
