/-
  WALK: the law ArenaNil: a nil arena, and one that nobody made.
-/
import Derived.Test.YtaofhooddbkglaaAProg3
import Derived.WalkMore
namespace Go.Proofs.Ytaofhooddbkglaa
open Go.RowKit
set_option maxRecDepth 100000
set_option linter.unusedVariables false
set_option linter.unusedSimpArgs false

/-- No arena, or one that nobody made. -/
def Unm (W : World) (v : Value) : Prop := v = .pointer none ∨ ∃ B, v = ptr B ∧ W.cell? ⟨B, 0, none⟩ = some (.pointer none) ∧ B < W.heap.size
theorem Unm.then {W W1 : World} {v : Value} (h : Unm W v) (k : Below W.heap.size W W1) : Unm W1 v := by
  rcases h with h | ⟨B, e, c, l⟩
  · exact .inl h
  · exact .inr ⟨B, e, by rw [k.cell (p := ⟨B, 0, none⟩) l]; exact c, Nat.lt_of_lt_of_le l k.size⟩
theorem run_nil_some {P : Program} (w : World) {tp te : TypeId} (a : Addr) (hp : P.underlying tp = some (.pointer te)) : (binOp .eql tp (.pointer none) (.pointer (some a))).run P w = .ok (.bool false) w := by
  have h : ∀ d : Nat, (Op.equalIn (d + 1) tp (.pointer none) (.pointer (some a))).run P w = .ok false w := fun d => by
    simp [Op.equalIn, run_underlying hp]
  simp only [binOp]
  simp [Op.equal, Op.maxDepth, h 9999]
theorem made_no (v : Value) (w : World) (h : Unm w v) : Calls Try.prog 28 #[v] w fun e w' => e = .returned (.bool false) ∧ w = w' := by
  rcases h with rfl | ⟨B, rfl, c0, _⟩
  · go_enter Try.func28, Try.ntmps28
    go_wp2
    go_ret
    exact ⟨rfl, rfl⟩
  · have HE := fun W => run_nil_some (P := Try.prog) W (tp := 23) ⟨B, 0, none⟩ Try.underlying23
    go_enter Try.func28, Try.ntmps28
    go_wp2
    go_ret
    exact ⟨rfl, rfl⟩
theorem exists_no (v : Value) (k : Int) (w : World) (h : Unm w v) : Calls Try.prog 29 #[v, .int .i64 k] w fun e w' => e = .returned (.bool false) ∧ w = w' := by
  have C := Lib.hid (made_no v w h)
  clear h
  go_enter Try.func29, Try.ntmps29
  go_wp2_with (go_at_call 28; ((with_reducible refine C.out.mono ?_); rintro e w1 ⟨rfl, rfl⟩))
  go_ret
  exact ⟨rfl, rfl⟩
theorem taken_no (v : Value) (k : Int) (w : World) (h : Unm w v) : Calls Try.prog 15 #[v, .int .i64 k] w fun e w' => e = .returned (.bool false) ∧ Below w.heap.size w w' := by
  have C := Lib.hid (fun W q => exists_no v k W (h.then q))
  clear h
  go_enter Try.func15, Try.ntmps15
  go_wp2
  go_quiet ((go_at_call 29; exact Calls.quiet_of_same ((C.out _ (bDrew (Below.refl _ _) _)).mono fun _ _ h => ⟨h.1, h.2.symm⟩)))
  go_wp2
  go_ret
  exact ⟨rfl, bDrew (Below.refl _ _) _⟩
theorem take_no (v : Value) (w : World) (h : Unm w v) : Calls Try.prog 13 #[v] w fun e w' => e = .returned (.tuple #[.int .i64 0, .int .i64 1]) ∧ w = w' := by
  have C := Lib.hid (made_no v w h)
  clear h
  go_enter Try.func13, Try.ntmps13
  go_wp2
  go_step3
  go_wp2_with (go_at_call 28; ((with_reducible refine C.out.mono ?_); rintro e w1 ⟨rfl, rfl⟩))
  rw [Exit.noGoto_ret]
  go_ret2
  exact ⟨rfl, rfl⟩
theorem give_no (v : Value) (k : Int) (w : World) (h : Unm w v) : Calls Try.prog 11 #[v, .int .i64 k] w fun e w' => e = .returned (.int .i64 1) ∧ w = w' := by
  have C := Lib.hid (made_no v w h)
  clear h
  go_enter Try.func11, Try.ntmps11
  go_wp2_with (go_at_call 28; ((with_reducible refine C.out.mono ?_); rintro e w1 ⟨rfl, rfl⟩))
  go_ret
  exact ⟨rfl, rfl⟩
theorem age_no (v : Value) (k : Int) (w : World) (h : Unm w v) : Calls Try.prog 17 #[v, .int .i64 k] w fun e w' => e = .returned (.int .i64 0) ∧ w = w' := by
  have C := Lib.hid (exists_no v k w h)
  clear h
  go_enter Try.func17, Try.ntmps17
  go_wp2_with (go_at_call 29; ((with_reducible refine C.out.mono ?_); rintro e w1 ⟨rfl, rfl⟩))
  go_ret
  exact ⟨rfl, rfl⟩
theorem size_no (v : Value) (w : World) (h : Unm w v) : Calls Try.prog 21 #[v] w fun e w' => e = .returned (.int .i64 0) ∧ w = w' := by
  have C := Lib.hid (made_no v w h)
  clear h
  go_enter Try.func21, Try.ntmps21
  go_wp2_with (go_at_call 28; ((with_reducible refine C.out.mono ?_); rintro e w1 ⟨rfl, rfl⟩))
  go_ret
  exact ⟨rfl, rfl⟩
theorem many_no (v : Value) (w : World) (h : Unm w v) : Calls Try.prog 19 #[v] w fun e w' => e = .returned (.int .i64 0) ∧ w = w' := by
  have C := Lib.hid (made_no v w h)
  clear h
  go_enter Try.func19, Try.ntmps19
  go_wp2_with (go_at_call 28; ((with_reducible refine C.out.mono ?_); rintro e w1 ⟨rfl, rfl⟩))
  go_ret
  exact ⟨rfl, rfl⟩
theorem all_no (v : Value) (w : World) (h : Unm w v) : Calls Try.prog 23 #[v] w fun e w' => e = .returned (.slice none 0 0) ∧ w = w' := by
  have C := Lib.hid (size_no v w h)
  clear h
  go_enter Try.func23, Try.ntmps23
  go_wp2_with (go_at_call 21; ((with_reducible refine C.out.mono ?_); rintro e w1 ⟨rfl, rfl⟩))
  go_loop [3, 7] (fun v i => v = .slice none 0 0 ∧ i = .int .i64 0) (fun _ _ => 0)
  case atStart => exact ⟨rfl, rfl⟩
  case round =>
    obtain ⟨rfl, rfl⟩ := hrel
    go_wp2
    go_ret
    exact ⟨rfl, rfl⟩
theorem copy_no (w : World) : Calls Try.prog 25 #[.pointer none] w fun e w' => e = .returned (.pointer none) ∧ w = w' := by
  go_enter Try.func25, Try.ntmps25
  go_wp2
  go_ret
  exact ⟨rfl, rfl⟩
end Go.Proofs.Ytaofhooddbkglaa
