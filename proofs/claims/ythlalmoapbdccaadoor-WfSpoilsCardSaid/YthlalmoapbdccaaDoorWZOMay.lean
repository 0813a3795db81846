/-
  WALKS: May, MayDesc, MayState, the document's.
-/
import Derived.Test.YthlalmoapbdccaaDoorWZOMayP
import Derived.Test.YthlalmoapbdccaaDoorWZORefWrong
namespace Go.Proofs.YthlalmoapbdccaaDoor
open Go.RowKit
set_option maxRecDepth 100000
set_option linter.unusedVariables false

theorem refWrong_any (o : Ob) (desc valued : Bool) (w : World) (hk : o.kind ≤ 255) (z1 : o.handle.size ≤ maxLen) (z2 : o.parent.size ≤ maxLen) (z3 : o.ref.size ≤ maxLen) :
    Calls Tryd.prog 59 #[ob o, .bool desc, .bool valued] w fun e w' => e = .returned (.int .i64 (faultOf o desc valued)) ∧ Below w.heap.size w w' := by
  unfold faultOf
  cases h : kindB o.kind with
  | false => rw [if_pos (.inl rfl)]; exact wrong_kind o desc valued w hk h
  | true =>
    by_cases hx : trimOf o = o
    · by_cases ht : (3 : Int) < o.typ
      · rw [if_pos (.inr (.inr (.inl (by omega))))]; exact wrong_typ o desc valued w hk h hx ht
      · by_cases ha : (3 : Int) < o.assoc
        · rw [if_pos (.inr (.inr (.inr (by omega))))]; exact wrong_assoc o desc valued w hk h hx ht ha
        · rw [if_neg (by rintro (h | h | h | h)
                         · cases h
                         · exact h hx
                         · omega
                         · omega)]
          exact wrong_rest o desc valued w hk h hx ht ha z1 z2 z3 _ rfl
    · rw [if_pos (.inr (.inl hx))]; exact wrong_trim o _ desc valued w hk h rfl hx
theorem refOMay_any {o : Ob} {w : World} (h : Meets o w) : Calls Tryd.prog 41 #[ob o] w fun e w' => e = .returned (.int .i64 (faultP o true)) ∧ Below w.heap.size w w' := by
  have hb : Below w.heap.size w w := Below.refl _ _
  have C := fun W => Lib.hid (refWrong_any o true true W h.kind h.handle h.parent h.ref)
  rw [← fault_eq o true true (.inl rfl)] at C
  clear h
  generalize faultP o true = r at *
  go_enter Tryd.func41, Tryd.ntmps41
  go_wp2_with (go_at_call 59; ((with_reducible refine (C _).out.mono ?_); rintro e w1 ⟨rfl, k⟩; replace hb := bThen (bAl hb _) k))
  go_ret
  exact ⟨rfl, hb⟩
end Go.Proofs.YthlalmoapbdccaaDoor
