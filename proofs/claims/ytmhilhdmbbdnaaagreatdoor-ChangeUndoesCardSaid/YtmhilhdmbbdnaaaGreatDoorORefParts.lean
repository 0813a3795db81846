/-
  WALKS: the document's Refers, Desc, State, Bare, Only.
-/
import Derived.Test.YtmhilhdmbbdnaaaGreatDoorOKit
namespace Go.Proofs.YtmhilhdmbbdnaaaGreatDoor
open Go.RowKit
set_option maxRecDepth 100000
set_option linter.unusedVariables false

def descOf (o f : Ob) : Ob := { f with handle := o.handle, kind := o.kind, on := o.on, has := o.has, value := o.value, low := o.low, high := o.high, assoc := o.assoc }
def stateOf (o f : Ob) : Ob := { o with on := f.on, has := f.has, value := f.value, low := f.low, high := f.high, assoc := f.assoc }
def zeroOb : Ob := ⟨⟨#[]⟩, 0, ⟨#[]⟩, 0, ⟨#[]⟩, 0, 0, 0, false, false, 0, 0, 0, 0⟩
set_option maxHeartbeats 1000000 in
theorem refDesc_any (o f : Ob) (w : World) : Calls Tryz.prog 42 #[ob o, ob f] w fun e w' => e = .returned (ob (descOf o f)) ∧ Below w.heap.size w w' := by
  have hb : Below w.heap.size w w := Below.refl _ _
  go_enter Tryz.func42, Tryz.ntmps42
  go_wp2
  go_region
  go_wp2
  exact ret_ob rfl rfl rfl (AtC.drew1 (AtC.al (AtC.newAt (by simp)) _)) ⟨rfl, (bAl (bAl (bAl (bAl hb _) _) _) _).drew⟩
theorem refState_any (o f : Ob) (w : World) : Calls Tryz.prog 43 #[ob o, ob f] w fun e w' => e = .returned (ob (stateOf o f)) ∧ Below w.heap.size w w' := by
  have hb : Below w.heap.size w w := Below.refl _ _
  have CD := fun W => Lib.hid (refDesc_any f o W)
  go_enter Tryz.func43, Tryz.ntmps43
  go_wp2_with (go_at_call 42; ((with_reducible refine (CD _).out.mono ?_); rintro e w1 ⟨rfl, k1⟩; replace hb := bThen (bAl (bAl (bAl hb _) _) _) k1; have mO := (((AtC.new _ _ _).al _).al _).then k1; have mF := ((AtC.new _ _ _).al _).then k1; have mR := (AtC.new _ _ _).then k1; simp at mO mF mR; have oc := mO.c; have ol := mO.lt; have rc := mR.c; have rf := mR.f; have rl := mR.lt))
  exact ret_ob rfl rfl rfl (AtC.al (AtC.fill mR rfl _ _ _ _ _ _ _ _ _ _ _ _ _ _) _) ⟨rfl, bAl (bFill hb (by omega) _ _ _ _ _ _ _ _ _ _ _ _ _ _) _⟩
end Go.Proofs.YtmhilhdmbbdnaaaGreatDoor
