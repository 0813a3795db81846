/-
  WALK: the law ObjectMay.
-/
import Derived.Test.YtljgokdhdbgdbaaDoorOMay
import Derived.Test.YtljgokdhdbgdbaaDoorOLong
import Derived.Deep.RegionHeld3
namespace Go.Proofs.YtljgokdhdbgdbaaDoor
open Go.RowKit
set_option maxRecDepth 100000
set_option linter.unusedVariables false

set_option maxHeartbeats 8000000 in
theorem may_walk (o : Ob) (w : World) (h : Meets o w) : Calls Tryd.prog 3 #[ob o] w fun e w' => e = .returned (.bool true) ∧ Below w.heap.size w w' := by
  have hb : Below w.heap.size w w := Below.refl _ _
  have L1 := fun W => Lib.hid (long_any o W)
  generalize longB o = l1 at *
  cases l1 with
  | true =>
    go_enter Tryd.func3, Tryd.ntmps3
    go_wp2_with (go_at_call 10; ((with_reducible refine (L1 _).out.mono ?_); rintro e w1 ⟨rfl, k1⟩; replace hb := bThen (bAl hb _) k1))
    go_ret
    exact ⟨by simp, hb⟩
  | false =>
    have A1 := Lib.hid (fun W (k : Below w.heap.size w W) => objMay_any (h.then k))
    have A2 := Lib.hid (fun W (k : Below w.heap.size w W) => refOMay_any (h.then k))
    have A3 := Lib.hid (fun W (k : Below w.heap.size w W) => objMayDesc_any (h.then k))
    have A4 := Lib.hid (fun W (k : Below w.heap.size w W) => refOMayDesc_any (h.then k))
    have A5 := Lib.hid (fun W (k : Below w.heap.size w W) => objMayState_any (h.then k))
    have A6 := Lib.hid (fun W (k : Below w.heap.size w W) => refOMayState_any (h.then k))
    clear h
    generalize faultP o true = r1 at *
    generalize faultP (stateOf o zeroOb) true = r2 at *
    generalize faultP (descOf o zeroOb) false = r3 at *
    go_enter Tryd.func3, Tryd.ntmps3
    go_wp2_with fail
    go_at_call 10
    with_reducible refine (L1 _).out.mono ?_
    rintro e W0 ⟨rfl, k1⟩
    replace hb := bThen (bAl hb _) k1
    have mO := (AtC.new _ _ _).then k1
    have hP : ∀ w', Below W0.heap.size W0 w' → (∀ i, w'.cell? ⟨w.heap.size, i, none⟩ = (obCells o)[i]?) := fun w' k => (mO.then k).c
    clear k1 L1
    go_wp2_with fail
    go_region_held3 (fun w' => (∀ i, w'.cell? ⟨w.heap.size, i, none⟩ = (obCells o)[i]?) ∧ Below W0.heap.size W0 w')
      (first | exact ⟨hP _ (Below.refl _ _).drew, (Below.refl _ _).drew⟩ | exact ⟨hP _ (keepD (by assumption) k3), keepD (by assumption) k3⟩)
      (first
      | (go_at_call 11; (with_reducible refine (A1.out _ (bThen hb (‹_ ∧ Below W0.heap.size W0 _›).2)).mono ?_); rintro e w3 ⟨rfl, k3⟩)
      | (go_at_call 12; (with_reducible refine (A2.out _ (bThen hb (‹_ ∧ Below W0.heap.size W0 _›).2)).mono ?_); rintro e w3 ⟨rfl, k3⟩)
      | (go_at_call 13; (with_reducible refine (A3.out _ (bThen hb (‹_ ∧ Below W0.heap.size W0 _›).2)).mono ?_); rintro e w3 ⟨rfl, k3⟩)
      | (go_at_call 14; (with_reducible refine (A4.out _ (bThen hb (‹_ ∧ Below W0.heap.size W0 _›).2)).mono ?_); rintro e w3 ⟨rfl, k3⟩)
      | (go_at_call 15; (with_reducible refine (A5.out _ (bThen hb (‹_ ∧ Below W0.heap.size W0 _›).2)).mono ?_); rintro e w3 ⟨rfl, k3⟩)
      | (go_at_call 16; (with_reducible refine (A6.out _ (bThen hb (‹_ ∧ Below W0.heap.size W0 _›).2)).mono ?_); rintro e w3 ⟨rfl, k3⟩))
    go_wp2_with fail
    go_ret
    exact ⟨by simp, bThen hb (‹_ ∧ Below W0.heap.size W0 _›).2⟩
end Go.Proofs.YtljgokdhdbgdbaaDoor
