/-
  WALKS: May, MayDesc, MayState, the program's.
-/
import Derived.Test.YtncahpbjbgcnbaaGreatDoorEOOFault
namespace Go.Proofs.YtncahpbjbgcnbaaGreatDoor
open Go.RowKit
set_option maxRecDepth 100000
set_option linter.unusedVariables false

theorem Meets.bare {o : Ob} {w : World} (h : Meets o w) : Meets (stateOf o zeroOb) w := ⟨h.kind, h.typ, h.digits, Nat.zero_le _, h.handle, h.parent, h.ref, h.words, h.kinds⟩
theorem Meets.only {o : Ob} {w : World} (h : Meets o w) : Meets (descOf o zeroOb) w := ⟨h.kind, Nat.zero_le _, Nat.zero_le _, h.assoc, h.handle, Nat.zero_le _, Nat.zero_le _, h.words, h.kinds⟩
theorem objMay_any {o : Ob} {w : World} (h : Meets o w) : Calls Tryz.prog 18 #[ob o] w fun e w' => e = .returned (.int .i64 (faultP o true)) ∧ Below w.heap.size w w' := by
  have hb : Below w.heap.size w w := Below.refl _ _
  have C := Lib.hid (fun W (k : Below w.heap.size w W) => fault_any o true W (h.then k))
  clear h
  generalize faultP o true = r at *
  go_enter Tryz.func18, Tryz.ntmps18
  go_wp2_with (go_at_call 41; ((with_reducible refine (C.out _ (bAl hb _)).mono ?_); rintro e w1 ⟨rfl, k⟩; replace hb := bThen (bAl hb _) k))
  go_ret
  exact ⟨rfl, hb⟩
theorem objMayDesc_any {o : Ob} {w : World} (h : Meets o w) : Calls Tryz.prog 80 #[ob o] w fun e w' => e = .returned (.int .i64 (faultP (stateOf o zeroOb) true)) ∧ Below w.heap.size w w' := by
  have hb : Below w.heap.size w w := Below.refl _ _
  have CB := fun W => Lib.hid (bare_any o W)
  have C := Lib.hid (fun W (k : Below w.heap.size w W) => fault_any _ true W (h.bare.then k))
  clear h
  generalize faultP (stateOf o zeroOb) true = r at *
  generalize stateOf o zeroOb = x at *
  go_enter Tryz.func80, Tryz.ntmps80
  go_wp2_with fail
  go_at_call 26
  with_reducible refine (CB _).out.mono ?_
  rintro e w1 ⟨rfl, k⟩
  replace hb := bThen (bAl hb _) k
  go_wp2_with (go_at_call 41; ((with_reducible refine (C.out _ hb).mono ?_); rintro e w2 ⟨rfl, k2⟩; replace hb := bThen hb k2))
  go_ret
  exact ⟨rfl, hb⟩
theorem objMayState_any {o : Ob} {w : World} (h : Meets o w) : Calls Tryz.prog 81 #[ob o] w fun e w' => e = .returned (.int .i64 (faultP (descOf o zeroOb) false)) ∧ Below w.heap.size w w' := by
  have hb : Below w.heap.size w w := Below.refl _ _
  have CB := fun W => Lib.hid (only_any o W)
  have C := Lib.hid (fun W (k : Below w.heap.size w W) => fault_any _ false W (h.only.then k))
  clear h
  generalize faultP (descOf o zeroOb) false = r at *
  generalize descOf o zeroOb = x at *
  go_enter Tryz.func81, Tryz.ntmps81
  go_wp2_with fail
  go_at_call 25
  with_reducible refine (CB _).out.mono ?_
  rintro e w1 ⟨rfl, k⟩
  replace hb := bThen (bAl hb _) k
  go_wp2_with (go_at_call 41; ((with_reducible refine (C.out _ hb).mono ?_); rintro e w2 ⟨rfl, k2⟩; replace hb := bThen hb k2))
  go_ret
  exact ⟨rfl, hb⟩
end Go.Proofs.YtncahpbjbgcnbaaGreatDoor
