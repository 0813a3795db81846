/-
  WALKS: May, MayDesc, MayState, the document's.
-/
import Derived.Test.YtncahpbjbgcnbaaGreatDoorEOOMayP
import Derived.Test.YtncahpbjbgcnbaaGreatDoorEOORefWrong
namespace Go.Proofs.YtncahpbjbgcnbaaGreatDoor
open Go.RowKit
set_option maxRecDepth 100000
set_option linter.unusedVariables false

theorem refWrong_any (o : Ob) (desc valued : Bool) (w : World) (hk : o.kind ≤ 255) (z1 : o.handle.size ≤ maxLen) (z2 : o.parent.size ≤ maxLen) (z3 : o.ref.size ≤ maxLen) :
    Calls Tryz.prog 97 #[ob o, .bool desc, .bool valued] w fun e w' => e = .returned (.int .i64 (faultOf o desc valued)) ∧ Below w.heap.size w w' := by
  unfold faultOf
  cases h : kindB o.kind with
  | false => rw [if_pos (.inl rfl)]; exact wrong_kind o desc valued w hk h
  | true =>
    by_cases hx : trimOf o = o
    · by_cases ht : (3 : Int) < o.typ
      · rw [if_pos (.inr (.inr (.inl (by omega))))]; exact wrong_typ o desc valued w hk h hx ht
      · by_cases ha : (3 : Int) < o.assoc
        · rw [if_pos (.inr (.inr (.inr (by omega))))]; exact wrong_assoc o desc valued w hk h hx ht ha
        · rw [if_neg (by rintro (h | h | h | h)
                         · cases h
                         · exact h hx
                         · omega
                         · omega)]
          exact wrong_rest o desc valued w hk h hx ht ha z1 z2 z3 _ rfl
    · rw [if_pos (.inr (.inl hx))]; exact wrong_trim o _ desc valued w hk h rfl hx
theorem refOMay_any {o : Ob} {w : World} (h : Meets o w) : Calls Tryz.prog 84 #[ob o] w fun e w' => e = .returned (.int .i64 (faultP o true)) ∧ Below w.heap.size w w' := by
  have hb : Below w.heap.size w w := Below.refl _ _
  have C := fun W => Lib.hid (refWrong_any o true true W h.kind h.handle h.parent h.ref)
  rw [← fault_eq o true true (.inl rfl)] at C
  clear h
  generalize faultP o true = r at *
  go_enter Tryz.func84, Tryz.ntmps84
  go_wp2_with (go_at_call 97; ((with_reducible refine (C _).out.mono ?_); rintro e w1 ⟨rfl, k⟩; replace hb := bThen (bAl hb _) k))
  go_ret
  exact ⟨rfl, hb⟩
theorem refOMayDesc_any {o : Ob} {w : World} (h : Meets o w) : Calls Tryz.prog 86 #[ob o] w fun e w' => e = .returned (.int .i64 (faultP (stateOf o zeroOb) true)) ∧ Below w.heap.size w w' := by
  have hb : Below w.heap.size w w := Below.refl _ _
  have CB := fun W => Lib.hid (refBare_any o W)
  have C := fun W => Lib.hid (refWrong_any (stateOf o zeroOb) true false W h.kind h.handle h.parent h.ref)
  rw [← fault_eq (stateOf o zeroOb) true false (.inr rfl)] at C
  clear h
  generalize faultP (stateOf o zeroOb) true = r at *
  generalize stateOf o zeroOb = x at *
  go_enter Tryz.func86, Tryz.ntmps86
  go_wp2_with fail
  go_at_call 85
  with_reducible refine (CB _).out.mono ?_
  rintro e w1 ⟨rfl, k⟩
  replace hb := bThen (bAl hb _) k
  go_wp2_with (go_at_call 97; ((with_reducible refine (C _).out.mono ?_); rintro e w2 ⟨rfl, k2⟩; replace hb := bThen hb k2))
  go_ret
  exact ⟨rfl, hb⟩
theorem refOMayState_any {o : Ob} {w : World} (h : Meets o w) : Calls Tryz.prog 88 #[ob o] w fun e w' => e = .returned (.int .i64 (faultP (descOf o zeroOb) false)) ∧ Below w.heap.size w w' := by
  have hb : Below w.heap.size w w := Below.refl _ _
  have CB := fun W => Lib.hid (refOnly_any o W)
  have C := fun W => Lib.hid (refWrong_any (descOf o zeroOb) false false W h.kind h.handle (Nat.zero_le _) (Nat.zero_le _))
  rw [← fault_eq (descOf o zeroOb) false false (.inl rfl)] at C
  clear h
  generalize faultP (descOf o zeroOb) false = r at *
  generalize descOf o zeroOb = x at *
  go_enter Tryz.func88, Tryz.ntmps88
  go_wp2_with fail
  go_at_call 87
  with_reducible refine (CB _).out.mono ?_
  rintro e w1 ⟨rfl, k⟩
  replace hb := bThen (bAl hb _) k
  go_wp2_with (go_at_call 97; ((with_reducible refine (C _).out.mono ?_); rintro e w2 ⟨rfl, k2⟩; replace hb := bThen hb k2))
  go_ret
  exact ⟨rfl, hb⟩
end Go.Proofs.YtncahpbjbgcnbaaGreatDoor
