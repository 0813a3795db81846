/-
  WALK: the law SpanTwo.
-/
import Derived.Test.YtadbbpfnedbhcaaSRefMeet
import Derived.Deep.RegionHeld3
namespace Go.Proofs.Ytadbbpfnedbhcaa
open Go.RowKit FixMath
set_option maxRecDepth 100000
set_option linter.unusedVariables false

set_option maxHeartbeats 4000000 in
theorem two_walk (a b c d : Int) (w : World) : Calls Try.prog 4 #[sp a b, sp c d] w fun e w' => e = .returned (.bool true) ∧ Below w.heap.size w w' := by
  have hb : Below w.heap.size w w := Below.refl _ _
  have C1 := fun W => Lib.hid (meet_any a b c d W)
  have C2 := fun W => Lib.hid (refMeet_any a b c d W)
  have C3 := fun W => Lib.hid (within_any a b c d W)
  have C4 := fun W => Lib.hid (refWithin_any a b c d W)
  have C5 := fun W => Lib.hid (hold_any a b c d W)
  have C6 := fun W => Lib.hid (refHold_any a b c d W)
  generalize meetX a b c d = x at *
  generalize meetY a b c d = y at *
  generalize decide (overB a b c d) = q at *
  generalize withinB a b c d = r at *
  generalize holdX a b c d = u at *
  generalize holdY a b c d = v at *
  go_enter Try.func4, Try.ntmps4
  go_wp2_with (first
    | (go_at_call 17; (refine (C1 _).out.mono ?_; rintro e w1 ⟨rfl, k1⟩; replace hb := bThen (bAl (bAl hb _) _) k1; have mS := ((At2.new _ _ _ _).al _).then k1; have mT := (At2.new _ _ _ _).then k1; simp at mS mT; have s0 := mS.c0; have s1 := mS.c1; have t0 := mT.c0; have t1 := mT.c1; have ls := mS.lt; have lt := mT.lt))
    | (go_at_call 18; (refine (C2 _).out.mono ?_; rintro e w2 ⟨rfl, k2⟩; replace hb := bThen (bAl hb _) k2; replace mS := (mS.al _).then k2; replace mT := (mT.al _).then k2; have mA := (At2.new _ _ _ _).then k2)))
  have mB := At2.new w2 x y 23
  replace hb := bAl hb (.cells #[.int .i64 x, .int .i64 y] 23)
  replace mS := mS.al (.cells #[.int .i64 x, .int .i64 y] 23)
  replace mT := mT.al (.cells #[.int .i64 x, .int .i64 y] 23)
  replace mA := mA.al (.cells #[.int .i64 x, .int .i64 y] 23)
  generalize w2.alloc (.cells #[.int .i64 x, .int .i64 y] 23) = W0 at *
  have hP : ∀ w', Below W0.heap.size W0 w' → (w'.cell? ⟨w.heap.size, 0, none⟩ = some (.int .i64 a) ∧ w'.cell? ⟨w.heap.size, 1, none⟩ = some (.int .i64 b) ∧ w'.cell? ⟨w.heap.size + 1, 0, none⟩ = some (.int .i64 c) ∧ w'.cell? ⟨w.heap.size + 1, 1, none⟩ = some (.int .i64 d) ∧ w'.cell? ⟨w1.heap.size, 0, none⟩ = some (.int .i64 x) ∧ w'.cell? ⟨w1.heap.size, 1, none⟩ = some (.int .i64 y) ∧ w'.cell? ⟨w2.heap.size, 0, none⟩ = some (.int .i64 x) ∧ w'.cell? ⟨w2.heap.size, 1, none⟩ = some (.int .i64 y)) := fun w' k => ⟨(mS.then k).c0, (mS.then k).c1, (mT.then k).c0, (mT.then k).c1, (mA.then k).c0, (mA.then k).c1, (mB.then k).c0, (mB.then k).c1⟩
  clear s0 s1 t0 t1 ls lt
  go_region_held3 (fun w' => (w'.cell? ⟨w.heap.size, 0, none⟩ = some (.int .i64 a) ∧ w'.cell? ⟨w.heap.size, 1, none⟩ = some (.int .i64 b) ∧ w'.cell? ⟨w.heap.size + 1, 0, none⟩ = some (.int .i64 c) ∧ w'.cell? ⟨w.heap.size + 1, 1, none⟩ = some (.int .i64 d) ∧ w'.cell? ⟨w1.heap.size, 0, none⟩ = some (.int .i64 x) ∧ w'.cell? ⟨w1.heap.size, 1, none⟩ = some (.int .i64 y) ∧ w'.cell? ⟨w2.heap.size, 0, none⟩ = some (.int .i64 x) ∧ w'.cell? ⟨w2.heap.size, 1, none⟩ = some (.int .i64 y)) ∧ Below W0.heap.size W0 w')
    (first | exact ⟨hP _ (Below.refl _ _).drew, (Below.refl _ _).drew⟩ | exact ⟨hP _ (keepD (by assumption) k3), keepD (by assumption) k3⟩)
    (first
    | (go_at_call 19; refine (C3 _).out.mono ?_; rintro e w3 ⟨rfl, k3⟩)
    | (go_at_call 20; refine (C4 _).out.mono ?_; rintro e w3 ⟨rfl, k3⟩)
    | (go_at_call 21; refine (C5 _).out.mono ?_; rintro e w3 ⟨rfl, k3⟩)
    | (go_at_call 22; refine (C6 _).out.mono ?_; rintro e w3 ⟨rfl, k3⟩))
  go_wp2_with fail
  go_ret
  exact ⟨by simp, bThen hb ‹_ ∧ Below W0.heap.size W0 _›.2⟩
end Go.Proofs.Ytadbbpfnedbhcaa
