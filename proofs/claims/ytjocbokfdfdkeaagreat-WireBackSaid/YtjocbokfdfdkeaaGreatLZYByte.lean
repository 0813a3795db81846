/-
  WALKS: next of a reader that has failed, or is nil; Byte, Truth, Uint, Int, Text; Left, End.
-/
import Derived.Test.YtjocbokfdfdkeaaGreatLZYNext
namespace Go.Proofs.YtjocbokfdfdkeaaGreat.YX
open Go.RowKit HL
open IX (ptr El cellsK cellsK_at cellsK_len OwnK RdK Kept slice_toK slice_fromK)
set_option maxRecDepth 100000
set_option linter.unusedVariables false
set_option linter.unusedSimpArgs false


theorem octet_next_none (B : Nat) (w : World) (h : RAt w B none) : Calls Tryz.prog 110 #[ptr B, .func (.func 111) #[] #[]] w fun e w' => e = .returned ((fun n : Nat => Value.int .u8 (n : Int)) (told (0 : Nat) rdB none)) ∧ RAt w' B (rest rdB none) ∧ Kept w w' (· ≠ B) := by
  have k0 : Kept w (w.alloc (.cells #[ptr B] 122)) (· ≠ B) := .of_below (bAl (Below.refl _ _) _)
  have hW : RAt (w.alloc (.cells #[ptr B] 122)) B none := h.below (bAl (Below.refl _ _) _)
  have HW := Lib.hid hW
  have hB := h.lt
  have CF := Lib.hid (failed_any B none _ hW)
  clear h hW
  go_enter_defers Tryz.func110, Tryz.ntmps110
  go_wp2_with (go_at_call 124; ((refine CF.out.mono ?_); rintro e w1 ⟨rfl, rfl⟩))
  exact ⟨_, results_tmp rfl _ _ _, rfl, HW.out, k0⟩
theorem octet_next_nil (w : World) : Calls Tryz.prog 110 #[.pointer none, .func (.func 111) #[] #[]] w fun e w' => e = .returned ((fun n : Nat => Value.int .u8 (n : Int)) (0 : Nat)) ∧ Below w.heap.size w w' := by
  have k0 : Below w.heap.size w (w.alloc (.cells #[.pointer none] 122)) := bAl (Below.refl _ _) _
  have CF := Lib.hid (failed_nil)
  go_enter_defers Tryz.func110, Tryz.ntmps110
  go_wp2_with (go_at_call 124; ((refine (CF.out _).mono ?_); rintro e w1 ⟨rfl, rfl⟩))
  exact ⟨_, results_tmp rfl _ _ _, rfl, k0⟩
theorem octet_any2 (B : Nat) (s : Option Bs) (w : World) (h : RAt w B s) : Calls Tryz.prog 88 #[ptr B] w fun e w' => e = .returned ((fun n : Nat => Value.int .u8 (n : Int)) (told (0 : Nat) rdB s)) ∧ RAt w' B (rest rdB s) ∧ Kept w w' (· ≠ B) := by
  have C : Hid (Calls Tryz.prog 110 #[ptr B, .func (.func 111) #[] #[]] w fun e w' => e = .returned ((fun n : Nat => Value.int .u8 (n : Int)) (told (0 : Nat) rdB s)) ∧ RAt w' B (rest rdB s) ∧ Kept w w' (· ≠ B)) := Lib.hid (by
    cases s with
    | none => exact octet_next_none B w h
    | some l => exact octet_next_some B l w h)
  clear h
  generalize told (0 : Nat) rdB s = v at *
  generalize rest rdB s = s2 at *
  go_enter Tryz.func88, Tryz.ntmps88
  go_wp2_with (go_at_call 110; ((refine C.out.mono ?_); rintro e w1 ⟨rfl, h1, k1⟩; have H1 := Lib.hid h1; clear h1))
  go_ret
  exact ⟨rfl, H1.out, k1⟩
theorem octet_nil (w : World) : Calls Tryz.prog 88 #[.pointer none] w fun e w' => e = .returned ((fun n : Nat => Value.int .u8 (n : Int)) (0 : Nat)) ∧ Below w.heap.size w w' := by
  have C := Lib.hid (octet_next_nil w)
  go_enter Tryz.func88, Tryz.ntmps88
  go_wp2_with (go_at_call 110; ((refine C.out.mono ?_); rintro e w1 ⟨rfl, k1⟩))
  go_ret
  exact ⟨rfl, k1⟩

theorem truth_next_none (B : Nat) (w : World) (h : RAt w B none) : Calls Tryz.prog 117 #[ptr B, .func (.func 118) #[] #[]] w fun e w' => e = .returned ((fun n : Nat => Value.bool (n == 1)) (told (0 : Nat) rdT none)) ∧ RAt w' B (rest rdT none) ∧ Kept w w' (· ≠ B) := by
  have k0 : Kept w (w.alloc (.cells #[ptr B] 122)) (· ≠ B) := .of_below (bAl (Below.refl _ _) _)
  have hW : RAt (w.alloc (.cells #[ptr B] 122)) B none := h.below (bAl (Below.refl _ _) _)
  have HW := Lib.hid hW
  have hB := h.lt
  have CF := Lib.hid (failed_any B none _ hW)
  clear h hW
  go_enter_defers Tryz.func117, Tryz.ntmps117
  go_wp2_with (go_at_call 124; ((refine CF.out.mono ?_); rintro e w1 ⟨rfl, rfl⟩))
  exact ⟨_, results_tmp rfl _ _ _, rfl, HW.out, k0⟩
theorem truth_next_nil (w : World) : Calls Tryz.prog 117 #[.pointer none, .func (.func 118) #[] #[]] w fun e w' => e = .returned ((fun n : Nat => Value.bool (n == 1)) (0 : Nat)) ∧ Below w.heap.size w w' := by
  have k0 : Below w.heap.size w (w.alloc (.cells #[.pointer none] 122)) := bAl (Below.refl _ _) _
  have CF := Lib.hid (failed_nil)
  go_enter_defers Tryz.func117, Tryz.ntmps117
  go_wp2_with (go_at_call 124; ((refine (CF.out _).mono ?_); rintro e w1 ⟨rfl, rfl⟩))
  exact ⟨_, results_tmp rfl _ _ _, rfl, k0⟩
theorem truth_any2 (B : Nat) (s : Option Bs) (w : World) (h : RAt w B s) : Calls Tryz.prog 93 #[ptr B] w fun e w' => e = .returned ((fun n : Nat => Value.bool (n == 1)) (told (0 : Nat) rdT s)) ∧ RAt w' B (rest rdT s) ∧ Kept w w' (· ≠ B) := by
  have C : Hid (Calls Tryz.prog 117 #[ptr B, .func (.func 118) #[] #[]] w fun e w' => e = .returned ((fun n : Nat => Value.bool (n == 1)) (told (0 : Nat) rdT s)) ∧ RAt w' B (rest rdT s) ∧ Kept w w' (· ≠ B)) := Lib.hid (by
    cases s with
    | none => exact truth_next_none B w h
    | some l => exact truth_next_some B l w h)
  clear h
  generalize told (0 : Nat) rdT s = v at *
  generalize rest rdT s = s2 at *
  go_enter Tryz.func93, Tryz.ntmps93
  go_wp2_with (go_at_call 117; ((refine C.out.mono ?_); rintro e w1 ⟨rfl, h1, k1⟩; have H1 := Lib.hid h1; clear h1))
  go_ret
  exact ⟨rfl, H1.out, k1⟩
theorem truth_nil (w : World) : Calls Tryz.prog 93 #[.pointer none] w fun e w' => e = .returned ((fun n : Nat => Value.bool (n == 1)) (0 : Nat)) ∧ Below w.heap.size w w' := by
  have C := Lib.hid (truth_next_nil w)
  go_enter Tryz.func93, Tryz.ntmps93
  go_wp2_with (go_at_call 117; ((refine C.out.mono ?_); rintro e w1 ⟨rfl, k1⟩))
  go_ret
  exact ⟨rfl, k1⟩

theorem unsigned_next_none (B : Nat) (w : World) (h : RAt w B none) : Calls Tryz.prog 119 #[ptr B, .func (.func 120) #[] #[]] w fun e w' => e = .returned (vU (told (0 : Nat) rdU none)) ∧ RAt w' B (rest rdU none) ∧ Kept w w' (· ≠ B) := by
  have k0 : Kept w (w.alloc (.cells #[ptr B] 122)) (· ≠ B) := .of_below (bAl (Below.refl _ _) _)
  have hW : RAt (w.alloc (.cells #[ptr B] 122)) B none := h.below (bAl (Below.refl _ _) _)
  have HW := Lib.hid hW
  have hB := h.lt
  have CF := Lib.hid (failed_any B none _ hW)
  clear h hW
  go_enter_defers Tryz.func119, Tryz.ntmps119
  go_wp2_with (go_at_call 124; ((refine CF.out.mono ?_); rintro e w1 ⟨rfl, rfl⟩))
  exact ⟨_, results_tmp rfl _ _ _, rfl, HW.out, k0⟩
theorem unsigned_next_nil (w : World) : Calls Tryz.prog 119 #[.pointer none, .func (.func 120) #[] #[]] w fun e w' => e = .returned (vU (0 : Nat)) ∧ Below w.heap.size w w' := by
  have k0 : Below w.heap.size w (w.alloc (.cells #[.pointer none] 122)) := bAl (Below.refl _ _) _
  have CF := Lib.hid (failed_nil)
  go_enter_defers Tryz.func119, Tryz.ntmps119
  go_wp2_with (go_at_call 124; ((refine (CF.out _).mono ?_); rintro e w1 ⟨rfl, rfl⟩))
  exact ⟨_, results_tmp rfl _ _ _, rfl, k0⟩
theorem unsigned_any2 (B : Nat) (s : Option Bs) (w : World) (h : RAt w B s) : Calls Tryz.prog 94 #[ptr B] w fun e w' => e = .returned (vU (told (0 : Nat) rdU s)) ∧ RAt w' B (rest rdU s) ∧ Kept w w' (· ≠ B) := by
  have C : Hid (Calls Tryz.prog 119 #[ptr B, .func (.func 120) #[] #[]] w fun e w' => e = .returned (vU (told (0 : Nat) rdU s)) ∧ RAt w' B (rest rdU s) ∧ Kept w w' (· ≠ B)) := Lib.hid (by
    cases s with
    | none => exact unsigned_next_none B w h
    | some l => exact unsigned_next_some B l w h)
  clear h
  generalize told (0 : Nat) rdU s = v at *
  generalize rest rdU s = s2 at *
  go_enter Tryz.func94, Tryz.ntmps94
  go_wp2_with (go_at_call 119; ((refine C.out.mono ?_); rintro e w1 ⟨rfl, h1, k1⟩; have H1 := Lib.hid h1; clear h1))
  go_ret
  exact ⟨rfl, H1.out, k1⟩
theorem unsigned_nil (w : World) : Calls Tryz.prog 94 #[.pointer none] w fun e w' => e = .returned (vU (0 : Nat)) ∧ Below w.heap.size w w' := by
  have C := Lib.hid (unsigned_next_nil w)
  go_enter Tryz.func94, Tryz.ntmps94
  go_wp2_with (go_at_call 119; ((refine C.out.mono ?_); rintro e w1 ⟨rfl, k1⟩))
  go_ret
  exact ⟨rfl, k1⟩

theorem signed_next_none (B : Nat) (w : World) (h : RAt w B none) : Calls Tryz.prog 115 #[ptr B, .func (.func 116) #[] #[]] w fun e w' => e = .returned (vI (told (0 : Int) rdI none)) ∧ RAt w' B (rest rdI none) ∧ Kept w w' (· ≠ B) := by
  have k0 : Kept w (w.alloc (.cells #[ptr B] 122)) (· ≠ B) := .of_below (bAl (Below.refl _ _) _)
  have hW : RAt (w.alloc (.cells #[ptr B] 122)) B none := h.below (bAl (Below.refl _ _) _)
  have HW := Lib.hid hW
  have hB := h.lt
  have CF := Lib.hid (failed_any B none _ hW)
  clear h hW
  go_enter_defers Tryz.func115, Tryz.ntmps115
  go_wp2_with (go_at_call 124; ((refine CF.out.mono ?_); rintro e w1 ⟨rfl, rfl⟩))
  exact ⟨_, results_tmp rfl _ _ _, rfl, HW.out, k0⟩
theorem signed_next_nil (w : World) : Calls Tryz.prog 115 #[.pointer none, .func (.func 116) #[] #[]] w fun e w' => e = .returned (vI (0 : Int)) ∧ Below w.heap.size w w' := by
  have k0 : Below w.heap.size w (w.alloc (.cells #[.pointer none] 122)) := bAl (Below.refl _ _) _
  have CF := Lib.hid (failed_nil)
  go_enter_defers Tryz.func115, Tryz.ntmps115
  go_wp2_with (go_at_call 124; ((refine (CF.out _).mono ?_); rintro e w1 ⟨rfl, rfl⟩))
  exact ⟨_, results_tmp rfl _ _ _, rfl, k0⟩
theorem signed_any2 (B : Nat) (s : Option Bs) (w : World) (h : RAt w B s) : Calls Tryz.prog 92 #[ptr B] w fun e w' => e = .returned (vI (told (0 : Int) rdI s)) ∧ RAt w' B (rest rdI s) ∧ Kept w w' (· ≠ B) := by
  have C : Hid (Calls Tryz.prog 115 #[ptr B, .func (.func 116) #[] #[]] w fun e w' => e = .returned (vI (told (0 : Int) rdI s)) ∧ RAt w' B (rest rdI s) ∧ Kept w w' (· ≠ B)) := Lib.hid (by
    cases s with
    | none => exact signed_next_none B w h
    | some l => exact signed_next_some B l w h)
  clear h
  generalize told (0 : Int) rdI s = v at *
  generalize rest rdI s = s2 at *
  go_enter Tryz.func92, Tryz.ntmps92
  go_wp2_with (go_at_call 115; ((refine C.out.mono ?_); rintro e w1 ⟨rfl, h1, k1⟩; have H1 := Lib.hid h1; clear h1))
  go_ret
  exact ⟨rfl, H1.out, k1⟩
theorem signed_nil (w : World) : Calls Tryz.prog 92 #[.pointer none] w fun e w' => e = .returned (vI (0 : Int)) ∧ Below w.heap.size w w' := by
  have C := Lib.hid (signed_next_nil w)
  go_enter Tryz.func92, Tryz.ntmps92
  go_wp2_with (go_at_call 115; ((refine C.out.mono ?_); rintro e w1 ⟨rfl, k1⟩))
  go_ret
  exact ⟨rfl, k1⟩

theorem text_next_none (B : Nat) (w : World) (h : RAt w B none) : Calls Tryz.prog 112 #[ptr B, .func (.func 113) #[] #[]] w fun e w' => e = .returned (vS (told ([] : Bs) rdS none)) ∧ RAt w' B (rest rdS none) ∧ Kept w w' (· ≠ B) := by
  have k0 : Kept w (w.alloc (.cells #[ptr B] 122)) (· ≠ B) := .of_below (bAl (Below.refl _ _) _)
  have hW : RAt (w.alloc (.cells #[ptr B] 122)) B none := h.below (bAl (Below.refl _ _) _)
  have HW := Lib.hid hW
  have hB := h.lt
  have CF := Lib.hid (failed_any B none _ hW)
  clear h hW
  go_enter_defers Tryz.func112, Tryz.ntmps112
  go_wp2_with (go_at_call 124; ((refine CF.out.mono ?_); rintro e w1 ⟨rfl, rfl⟩))
  exact ⟨_, results_tmp rfl _ _ _, rfl, HW.out, k0⟩
theorem text_next_nil (w : World) : Calls Tryz.prog 112 #[.pointer none, .func (.func 113) #[] #[]] w fun e w' => e = .returned (vS ([] : Bs)) ∧ Below w.heap.size w w' := by
  have k0 : Below w.heap.size w (w.alloc (.cells #[.pointer none] 122)) := bAl (Below.refl _ _) _
  have CF := Lib.hid (failed_nil)
  go_enter_defers Tryz.func112, Tryz.ntmps112
  go_wp2_with (go_at_call 124; ((refine (CF.out _).mono ?_); rintro e w1 ⟨rfl, rfl⟩))
  exact ⟨_, results_tmp rfl _ _ _, rfl, k0⟩
theorem text_any2 (B : Nat) (s : Option Bs) (w : World) (h : RAt w B s) : Calls Tryz.prog 89 #[ptr B] w fun e w' => e = .returned (vS (told ([] : Bs) rdS s)) ∧ RAt w' B (rest rdS s) ∧ Kept w w' (· ≠ B) := by
  have C : Hid (Calls Tryz.prog 112 #[ptr B, .func (.func 113) #[] #[]] w fun e w' => e = .returned (vS (told ([] : Bs) rdS s)) ∧ RAt w' B (rest rdS s) ∧ Kept w w' (· ≠ B)) := Lib.hid (by
    cases s with
    | none => exact text_next_none B w h
    | some l => exact text_next_some B l w h)
  clear h
  generalize told ([] : Bs) rdS s = v at *
  generalize rest rdS s = s2 at *
  go_enter Tryz.func89, Tryz.ntmps89
  go_wp2_with (go_at_call 112; ((refine C.out.mono ?_); rintro e w1 ⟨rfl, h1, k1⟩; have H1 := Lib.hid h1; clear h1))
  go_ret
  exact ⟨rfl, H1.out, k1⟩
theorem text_nil (w : World) : Calls Tryz.prog 89 #[.pointer none] w fun e w' => e = .returned (vS ([] : Bs)) ∧ Below w.heap.size w w' := by
  have C := Lib.hid (text_next_nil w)
  go_enter Tryz.func89, Tryz.ntmps89
  go_wp2_with (go_at_call 112; ((refine C.out.mono ?_); rintro e w1 ⟨rfl, k1⟩))
  go_ret
  exact ⟨rfl, k1⟩

theorem left_nil (w : World) : Calls Tryz.prog 78 #[.pointer none] w fun e w' => e = .returned (.int .i64 0) ∧ w = w' := by
  go_enter Tryz.func78, Tryz.ntmps78
  go_wp2
  go_ret
  exact ⟨rfl, rfl⟩
theorem left_any (B : Nat) (s : Option Bs) (w : World) (h : RAt w B s) : Calls Tryz.prog 78 #[ptr B] w fun e w' => e = .returned (.int .i64 ((s.getD []).length : Nat)) ∧ w = w' := by
  cases s with
  | none =>
    have h : AtC w B #[.slice none 0 0, .bool true] := h
    have c0 := h.c 0
    clear h
    go_enter Tryz.func78, Tryz.ntmps78
    go_wp2
    go_ret
    exact ⟨rfl, rfl⟩
  | some l =>
    obtain ⟨A, c, h1, h2, h3⟩ := h
    have c0 := h1.c 0
    clear h1 h2
    show Calls _ _ _ _ fun e w' => e = .returned (.int .i64 (l.length : Nat)) ∧ w = w'
    generalize l.length = n at *
    go_enter Tryz.func78, Tryz.ntmps78
    go_wp2
    go_ret
    exact ⟨rfl, rfl⟩
/-- Were all bytes read? -/
def doneB (s : Option Bs) : Bool := s == some []
end Go.Proofs.YtjocbokfdfdkeaaGreat.YX
