/-
  WALKS: the program's Desc, State, Bare, Only.
-/
import Derived.Test.YtmhilhdmbbdnaaaGreatDoorORefParts
namespace Go.Proofs.YtmhilhdmbbdnaaaGreatDoor
open Go.RowKit
set_option maxRecDepth 100000
set_option linter.unusedVariables false

set_option maxHeartbeats 4000000 in
theorem desc_any (o f : Ob) (w : World) : Calls Tryz.prog 32 #[ob o, ob f] w fun e w' => e = .returned (ob (descOf o f)) ∧ Below w.heap.size w w' := by
  have hb : Below w.heap.size w w := Below.refl _ _
  go_enter Tryz.func32, Tryz.ntmps32
  go_wp2
  go_region
  go_wp2
  go_region
  go_wp2
  exact ret_ob rfl rfl rfl (AtC.drew1 (AtC.drew1 (AtC.newAt (by simp)))) ⟨rfl, (bAl (bAl (bAl hb _) _) _).drew.drew⟩
theorem state_any (o f : Ob) (w : World) : Calls Tryz.prog 31 #[ob o, ob f] w fun e w' => e = .returned (ob (stateOf o f)) ∧ Below w.heap.size w w' := by
  have hb : Below w.heap.size w w := Below.refl _ _
  have CD := fun W => Lib.hid (show Calls Tryz.prog 32 #[ob { f with handle := o.handle, kind := o.kind }, ob o] W fun e w' => e = .returned (ob (stateOf o f)) ∧ Below W.heap.size W w' from desc_any { f with handle := o.handle, kind := o.kind } o W)
  go_enter Tryz.func31, Tryz.ntmps31
  go_wp2
  go_region
  go_wp2_with (go_at_call 32; ((with_reducible refine (CD _).out.mono ?_); rintro e w1 ⟨rfl, k1⟩; replace hb := bThen (bDrew (bAl (bAl (bAl hb _) _) _) 1) k1; have mR := (AtC.drew1 (AtC.new _ _ _)).then k1; simp at mR; have rc := mR.c; have rf := mR.f; have rl := mR.lt))
  exact ret_ob rfl rfl rfl (AtC.fill mR rfl _ _ _ _ _ _ _ _ _ _ _ _ _ _) ⟨rfl, bFill hb (by omega) _ _ _ _ _ _ _ _ _ _ _ _ _ _⟩
theorem bare_any (o : Ob) (w : World) : Calls Tryz.prog 29 #[ob o] w fun e w' => e = .returned (ob (stateOf o zeroOb)) ∧ Below w.heap.size w w' := by
  have hb : Below w.heap.size w w := Below.refl _ _
  have C := fun W => Lib.hid (show Calls Tryz.prog 31 #[ob o, .agg #[.string ⟨#[]⟩, .int .u8 0, .string ⟨#[]⟩, .int .u8 0, .string ⟨#[]⟩, .int .i64 0, .int .i64 0, .int .u8 0, .bool false, .bool false, .int .i64 0, .int .i64 0, .int .i64 0, .int .u8 0]] W fun e w' => e = .returned (ob (stateOf o zeroOb)) ∧ Below W.heap.size W w' from state_any o zeroOb W)
  go_enter Tryz.func29, Tryz.ntmps29
  go_wp2_with (go_at_call 31; ((with_reducible refine (C _).out.mono ?_); rintro e w1 ⟨rfl, k1⟩; replace hb := bThen (bAl (bAl hb _) _) k1; have mR := (AtC.new _ _ _).then k1; simp at mR; have rc := mR.c; have rf := mR.f; have rl := mR.lt))
  exact ret_ob rfl rfl rfl (AtC.fill mR rfl _ _ _ _ _ _ _ _ _ _ _ _ _ _) ⟨rfl, bFill hb (by omega) _ _ _ _ _ _ _ _ _ _ _ _ _ _⟩
theorem only_any (o : Ob) (w : World) : Calls Tryz.prog 28 #[ob o] w fun e w' => e = .returned (ob (descOf o zeroOb)) ∧ Below w.heap.size w w' := by
  have hb : Below w.heap.size w w := Below.refl _ _
  have C := fun W => Lib.hid (show Calls Tryz.prog 32 #[ob o, .agg #[.string ⟨#[]⟩, .int .u8 0, .string ⟨#[]⟩, .int .u8 0, .string ⟨#[]⟩, .int .i64 0, .int .i64 0, .int .u8 0, .bool false, .bool false, .int .i64 0, .int .i64 0, .int .i64 0, .int .u8 0]] W fun e w' => e = .returned (ob (descOf o zeroOb)) ∧ Below W.heap.size W w' from desc_any o zeroOb W)
  go_enter Tryz.func28, Tryz.ntmps28
  go_wp2_with (go_at_call 32; ((with_reducible refine (C _).out.mono ?_); rintro e w1 ⟨rfl, k1⟩; replace hb := bThen (bAl (bAl hb _) _) k1; have mR := (AtC.new _ _ _).then k1; simp at mR; have rc := mR.c; have rf := mR.f; have rl := mR.lt))
  exact ret_ob rfl rfl rfl (AtC.fill mR rfl _ _ _ _ _ _ _ _ _ _ _ _ _ _) ⟨rfl, bFill hb (by omega) _ _ _ _ _ _ _ _ _ _ _ _ _ _⟩
end Go.Proofs.YtmhilhdmbbdnaaaGreatDoor
