/-
  WALKS: the laws FixedScales and FixedCompares.
-/
import Derived.Test.YtgomfgebcljnbaaDoorFRefScale
namespace Go.Proofs.YtgomfgebcljnbaaDoor
open Go.RowKit FixMath
set_option maxRecDepth 100000
set_option linter.unusedVariables false

theorem scaleV_form (n : Int) (f t : Nat) : ∃ (a : Int) (x : Bool) (e : Int), scaleV n f t = .tuple #[.int .i64 a, .bool x, .int .i64 e] := by
  unfold scaleV
  split
  · split
    · exact ⟨_, _, _, rfl⟩
    · split <;> exact ⟨_, _, _, rfl⟩
  · exact ⟨_, _, _, rfl⟩
theorem cmpV_form (a : Int) (da : Nat) (b : Int) (db : Nat) : ∃ (c : Int) (e : Int), cmpV a da b db = .tuple #[.int .i64 c, .int .i64 e] := by
  unfold cmpV
  split <;> exact ⟨_, _, rfl⟩
theorem addV_form (a b : Int) : ∃ (c : Int) (e : Int), addV a b = .tuple #[.int .i64 c, .int .i64 e] := by
  unfold addV
  split
  · split <;> exact ⟨_, _, rfl⟩
  · exact ⟨_, _, rfl⟩

theorem scales_walk (n : Int) (f t : Nat) (w : World) (hu : Units w) :
    Calls Tryd.prog 4 #[.int .i64 n, .int .u8 f, .int .u8 t] w fun e w' => e = .returned (.bool true) ∧ Below w.heap.size w w' := by
  obtain ⟨a, x, e0, hS⟩ := scaleV_form n f t
  have C1 := Lib.hid (scale_any n f t w hu)
  have C2 := fun W => Lib.hid (refScale_any n f t W)
  rw [hS] at C1 C2
  clear hS
  go_enter Tryd.func4, Tryd.ntmps4
  go_wp2_with (first | (go_at_call 18; (refine C1.out.mono ?_; rintro e w1 ⟨rfl, k, rfl⟩)) | (go_at_call 19; (refine (C2 _).out.mono ?_; rintro e w2 ⟨rfl, rfl⟩)))
  go_ret
  exact ⟨by simp, (Dr.one w k).below _⟩

theorem compares_walk (a : Int) (da : Nat) (b : Int) (db : Nat) (w : World) (hu : Units w) :
    Calls Tryd.prog 5 #[.int .i64 a, .int .u8 da, .int .i64 b, .int .u8 db] w fun e w' => e = .returned (.bool true) ∧ Below w.heap.size w w' := by
  obtain ⟨c, e0, hS⟩ := cmpV_form a da b db
  obtain ⟨s, e1, hA⟩ := addV_form a b
  have C1 := Lib.hid (compare_any a da b db w hu)
  have C2 := fun W => Lib.hid (refCompare_any a da b db W)
  have C3 := fun W => Lib.hid (add_any a b W)
  have C4 := fun W => Lib.hid (refAdd_any a b W)
  rw [hS] at C1 C2
  rw [hA] at C3 C4
  clear hS hA
  go_enter Tryd.func5, Tryd.ntmps5
  go_wp2_with (first | (go_at_call 20; (refine C1.out.mono ?_; rintro e w1 ⟨rfl, k, rfl⟩)) | (go_at_call 21; (refine (C2 _).out.mono ?_; rintro e w1 ⟨rfl, k2, rfl⟩)) | (go_at_call 22; (refine (C3 _).out.mono ?_; rintro e w2 ⟨rfl, rfl⟩)) | (go_at_call 23; (refine (C4 _).out.mono ?_; rintro e w2 ⟨rfl, rfl⟩)))
  go_ret
  exact ⟨by simp, by first | exact (Dr.one w _).below _ | exact ((Dr.one w _).trans (Dr.one _ _)).below _⟩
end Go.Proofs.YtgomfgebcljnbaaDoor
