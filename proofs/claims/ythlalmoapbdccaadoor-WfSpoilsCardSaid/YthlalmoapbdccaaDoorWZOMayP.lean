/-
  WALKS: May, MayDesc, MayState, the program's.
-/
import Derived.Test.YthlalmoapbdccaaDoorWZOFault
namespace Go.Proofs.YthlalmoapbdccaaDoor
open Go.RowKit
set_option maxRecDepth 100000
set_option linter.unusedVariables false

theorem Meets.bare {o : Ob} {w : World} (h : Meets o w) : Meets (stateOf o zeroOb) w := ⟨h.kind, h.typ, h.digits, Nat.zero_le _, h.handle, h.parent, h.ref, h.words, h.kinds⟩
theorem Meets.only {o : Ob} {w : World} (h : Meets o w) : Meets (descOf o zeroOb) w := ⟨h.kind, Nat.zero_le _, Nat.zero_le _, h.assoc, h.handle, Nat.zero_le _, Nat.zero_le _, h.words, h.kinds⟩
theorem objMay_any {o : Ob} {w : World} (h : Meets o w) : Calls Tryd.prog 19 #[ob o] w fun e w' => e = .returned (.int .i64 (faultP o true)) ∧ Below w.heap.size w w' := by
  have hb : Below w.heap.size w w := Below.refl _ _
  have C := Lib.hid (fun W (k : Below w.heap.size w W) => fault_any o true W (h.then k))
  clear h
  generalize faultP o true = r at *
  go_enter Tryd.func19, Tryd.ntmps19
  go_wp2_with (go_at_call 29; ((with_reducible refine (C.out _ (bAl hb _)).mono ?_); rintro e w1 ⟨rfl, k⟩; replace hb := bThen (bAl hb _) k))
  go_ret
  exact ⟨rfl, hb⟩
end Go.Proofs.YthlalmoapbdccaaDoor
