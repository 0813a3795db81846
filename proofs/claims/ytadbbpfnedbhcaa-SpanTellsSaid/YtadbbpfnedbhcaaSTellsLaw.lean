/-
  WALK: the law SpanTells.
-/
import Derived.Test.YtadbbpfnedbhcaaSMay
import Derived.Deep.RegionHeld3
namespace Go.Proofs.Ytadbbpfnedbhcaa
open Go.RowKit FixMath
set_option maxRecDepth 100000
set_option linter.unusedVariables false

set_option maxHeartbeats 4000000 in
theorem tells_walk (a b n : Int) (w : World) : Calls Try.prog 3 #[sp a b, .int .i64 n] w fun e w' => e = .returned (.bool true) ∧ Below w.heap.size w w' := by
  have hb : Below w.heap.size w w := Below.refl _ _
  have C1 := fun W => Lib.hid (spanMay_any a b W)
  have C2 := fun W => Lib.hid (refSpanMay_any a b W)
  have C3 := fun W => Lib.hid (side_any a b n W)
  have C4 := fun W => Lib.hid (refSide_any a b n W)
  have C5 := fun W => Lib.hid (has_any a b n W)
  have C6 := fun W => Lib.hid (near_any a b n W)
  have C7 := fun W => Lib.hid (refNear_any a b n W)
  rw [sideV_has] at C5
  have HE := sideV_cases a b n
  generalize spanE a b = e0 at *
  generalize sideV a b n = v at *
  generalize nearV a b n = z at *
  rcases HE with rfl | rfl | rfl
  all_goals simp at C5
  all_goals
    go_enter Try.func3, Try.ntmps3
    go_wp2_with fail
    have m0 := At2.new w a b 23
    have hb0 := bAl hb (.cells #[.int .i64 a, .int .i64 b] 23)
    go_region_held3 (fun w' => w'.cell? ⟨w.heap.size, 0, none⟩ = some (.int .i64 a) ∧ w'.cell? ⟨w.heap.size, 1, none⟩ = some (.int .i64 b) ∧ w.heap.size < w'.heap.size ∧ Below w.heap.size w w')
      (first | exact begin1 m0 hb0 | exact keep1 (by assumption) k1)
      (first
      | (go_at_call 10; refine (C1 _).out.mono ?_; rintro e w1 ⟨rfl, k1⟩)
      | (go_at_call 11; refine (C2 _).out.mono ?_; rintro e w1 ⟨rfl, k1⟩)
      | (go_at_call 12; refine (C3 _).out.mono ?_; rintro e w1 ⟨rfl, k1⟩)
      | (go_at_call 13; refine (C4 _).out.mono ?_; rintro e w1 ⟨rfl, k1⟩)
      | (go_at_call 14; refine (C5 _).out.mono ?_; rintro e w1 ⟨rfl, k1⟩)
      | (go_at_call 15; refine (C6 _).out.mono ?_; rintro e w1 ⟨rfl, k1⟩)
      | (go_at_call 16; refine (C7 _).out.mono ?_; rintro e w1 ⟨rfl, k1⟩))
    go_wp2_with fail
    go_ret
    exact ⟨by simp, ‹_ ∧ _ ∧ _ ∧ Below w.heap.size w _›.2.2.2⟩
end Go.Proofs.Ytadbbpfnedbhcaa
