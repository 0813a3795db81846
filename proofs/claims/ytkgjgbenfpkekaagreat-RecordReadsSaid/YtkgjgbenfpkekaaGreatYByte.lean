/-
  WALKS: next of a reader that has failed, or is nil; Byte, Truth, Uint, Int, Text; Left, End.
-/
import Derived.Test.YtkgjgbenfpkekaaGreatYNext
namespace Go.Proofs.YtkgjgbenfpkekaaGreat.YX
open Go.RowKit HL
open IX (ptr El cellsK cellsK_at cellsK_len OwnK RdK Kept slice_toK slice_fromK)
set_option maxRecDepth 100000
set_option linter.unusedVariables false
set_option linter.unusedSimpArgs false


theorem octet_next_none (B : Nat) (w : World) (h : RAt w B none) : Calls Tryz.prog 118 #[ptr B, .func (.func 119) #[] #[]] w fun e w' => e = .returned ((fun n : Nat => Value.int .u8 (n : Int)) (told (0 : Nat) rdB none)) ∧ RAt w' B (rest rdB none) ∧ Kept w w' (· ≠ B) := by
  have k0 : Kept w (w.alloc (.cells #[ptr B] 142)) (· ≠ B) := .of_below (bAl (Below.refl _ _) _)
  have hW : RAt (w.alloc (.cells #[ptr B] 142)) B none := h.below (bAl (Below.refl _ _) _)
  have HW := Lib.hid hW
  have hB := h.lt
  have CF := Lib.hid (failed_any B none _ hW)
  clear h hW
  go_enter_defers Tryz.func118, Tryz.ntmps118
  go_wp2_with (go_at_call 146; ((refine CF.out.mono ?_); rintro e w1 ⟨rfl, rfl⟩))
  exact ⟨_, results_tmp rfl _ _ _, rfl, HW.out, k0⟩
theorem octet_next_nil (w : World) : Calls Tryz.prog 118 #[.pointer none, .func (.func 119) #[] #[]] w fun e w' => e = .returned ((fun n : Nat => Value.int .u8 (n : Int)) (0 : Nat)) ∧ Below w.heap.size w w' := by
  have k0 : Below w.heap.size w (w.alloc (.cells #[.pointer none] 142)) := bAl (Below.refl _ _) _
  have CF := Lib.hid (failed_nil)
  go_enter_defers Tryz.func118, Tryz.ntmps118
  go_wp2_with (go_at_call 146; ((refine (CF.out _).mono ?_); rintro e w1 ⟨rfl, rfl⟩))
  exact ⟨_, results_tmp rfl _ _ _, rfl, k0⟩
theorem octet_any2 (B : Nat) (s : Option Bs) (w : World) (h : RAt w B s) : Calls Tryz.prog 89 #[ptr B] w fun e w' => e = .returned ((fun n : Nat => Value.int .u8 (n : Int)) (told (0 : Nat) rdB s)) ∧ RAt w' B (rest rdB s) ∧ Kept w w' (· ≠ B) := by
  have C : Hid (Calls Tryz.prog 118 #[ptr B, .func (.func 119) #[] #[]] w fun e w' => e = .returned ((fun n : Nat => Value.int .u8 (n : Int)) (told (0 : Nat) rdB s)) ∧ RAt w' B (rest rdB s) ∧ Kept w w' (· ≠ B)) := Lib.hid (by
    cases s with
    | none => exact octet_next_none B w h
    | some l => exact octet_next_some B l w h)
  clear h
  generalize told (0 : Nat) rdB s = v at *
  generalize rest rdB s = s2 at *
  go_enter Tryz.func89, Tryz.ntmps89
  go_wp2_with (go_at_call 118; ((refine C.out.mono ?_); rintro e w1 ⟨rfl, h1, k1⟩; have H1 := Lib.hid h1; clear h1))
  go_ret
  exact ⟨rfl, H1.out, k1⟩
theorem octet_nil (w : World) : Calls Tryz.prog 89 #[.pointer none] w fun e w' => e = .returned ((fun n : Nat => Value.int .u8 (n : Int)) (0 : Nat)) ∧ Below w.heap.size w w' := by
  have C := Lib.hid (octet_next_nil w)
  go_enter Tryz.func89, Tryz.ntmps89
  go_wp2_with (go_at_call 118; ((refine C.out.mono ?_); rintro e w1 ⟨rfl, k1⟩))
  go_ret
  exact ⟨rfl, k1⟩

theorem truth_next_none (B : Nat) (w : World) (h : RAt w B none) : Calls Tryz.prog 132 #[ptr B, .func (.func 133) #[] #[]] w fun e w' => e = .returned ((fun n : Nat => Value.bool (n == 1)) (told (0 : Nat) rdT none)) ∧ RAt w' B (rest rdT none) ∧ Kept w w' (· ≠ B) := by
  have k0 : Kept w (w.alloc (.cells #[ptr B] 142)) (· ≠ B) := .of_below (bAl (Below.refl _ _) _)
  have hW : RAt (w.alloc (.cells #[ptr B] 142)) B none := h.below (bAl (Below.refl _ _) _)
  have HW := Lib.hid hW
  have hB := h.lt
  have CF := Lib.hid (failed_any B none _ hW)
  clear h hW
  go_enter_defers Tryz.func132, Tryz.ntmps132
  go_wp2_with (go_at_call 146; ((refine CF.out.mono ?_); rintro e w1 ⟨rfl, rfl⟩))
  exact ⟨_, results_tmp rfl _ _ _, rfl, HW.out, k0⟩
theorem truth_next_nil (w : World) : Calls Tryz.prog 132 #[.pointer none, .func (.func 133) #[] #[]] w fun e w' => e = .returned ((fun n : Nat => Value.bool (n == 1)) (0 : Nat)) ∧ Below w.heap.size w w' := by
  have k0 : Below w.heap.size w (w.alloc (.cells #[.pointer none] 142)) := bAl (Below.refl _ _) _
  have CF := Lib.hid (failed_nil)
  go_enter_defers Tryz.func132, Tryz.ntmps132
  go_wp2_with (go_at_call 146; ((refine (CF.out _).mono ?_); rintro e w1 ⟨rfl, rfl⟩))
  exact ⟨_, results_tmp rfl _ _ _, rfl, k0⟩
theorem truth_any2 (B : Nat) (s : Option Bs) (w : World) (h : RAt w B s) : Calls Tryz.prog 100 #[ptr B] w fun e w' => e = .returned ((fun n : Nat => Value.bool (n == 1)) (told (0 : Nat) rdT s)) ∧ RAt w' B (rest rdT s) ∧ Kept w w' (· ≠ B) := by
  have C : Hid (Calls Tryz.prog 132 #[ptr B, .func (.func 133) #[] #[]] w fun e w' => e = .returned ((fun n : Nat => Value.bool (n == 1)) (told (0 : Nat) rdT s)) ∧ RAt w' B (rest rdT s) ∧ Kept w w' (· ≠ B)) := Lib.hid (by
    cases s with
    | none => exact truth_next_none B w h
    | some l => exact truth_next_some B l w h)
  clear h
  generalize told (0 : Nat) rdT s = v at *
  generalize rest rdT s = s2 at *
  go_enter Tryz.func100, Tryz.ntmps100
  go_wp2_with (go_at_call 132; ((refine C.out.mono ?_); rintro e w1 ⟨rfl, h1, k1⟩; have H1 := Lib.hid h1; clear h1))
  go_ret
  exact ⟨rfl, H1.out, k1⟩
theorem truth_nil (w : World) : Calls Tryz.prog 100 #[.pointer none] w fun e w' => e = .returned ((fun n : Nat => Value.bool (n == 1)) (0 : Nat)) ∧ Below w.heap.size w w' := by
  have C := Lib.hid (truth_next_nil w)
  go_enter Tryz.func100, Tryz.ntmps100
  go_wp2_with (go_at_call 132; ((refine C.out.mono ?_); rintro e w1 ⟨rfl, k1⟩))
  go_ret
  exact ⟨rfl, k1⟩

theorem unsigned_next_none (B : Nat) (w : World) (h : RAt w B none) : Calls Tryz.prog 116 #[ptr B, .func (.func 117) #[] #[]] w fun e w' => e = .returned (vU (told (0 : Nat) rdU none)) ∧ RAt w' B (rest rdU none) ∧ Kept w w' (· ≠ B) := by
  have k0 : Kept w (w.alloc (.cells #[ptr B] 142)) (· ≠ B) := .of_below (bAl (Below.refl _ _) _)
  have hW : RAt (w.alloc (.cells #[ptr B] 142)) B none := h.below (bAl (Below.refl _ _) _)
  have HW := Lib.hid hW
  have hB := h.lt
  have CF := Lib.hid (failed_any B none _ hW)
  clear h hW
  go_enter_defers Tryz.func116, Tryz.ntmps116
  go_wp2_with (go_at_call 146; ((refine CF.out.mono ?_); rintro e w1 ⟨rfl, rfl⟩))
  exact ⟨_, results_tmp rfl _ _ _, rfl, HW.out, k0⟩
theorem unsigned_next_nil (w : World) : Calls Tryz.prog 116 #[.pointer none, .func (.func 117) #[] #[]] w fun e w' => e = .returned (vU (0 : Nat)) ∧ Below w.heap.size w w' := by
  have k0 : Below w.heap.size w (w.alloc (.cells #[.pointer none] 142)) := bAl (Below.refl _ _) _
  have CF := Lib.hid (failed_nil)
  go_enter_defers Tryz.func116, Tryz.ntmps116
  go_wp2_with (go_at_call 146; ((refine (CF.out _).mono ?_); rintro e w1 ⟨rfl, rfl⟩))
  exact ⟨_, results_tmp rfl _ _ _, rfl, k0⟩
theorem unsigned_any2 (B : Nat) (s : Option Bs) (w : World) (h : RAt w B s) : Calls Tryz.prog 86 #[ptr B] w fun e w' => e = .returned (vU (told (0 : Nat) rdU s)) ∧ RAt w' B (rest rdU s) ∧ Kept w w' (· ≠ B) := by
  have C : Hid (Calls Tryz.prog 116 #[ptr B, .func (.func 117) #[] #[]] w fun e w' => e = .returned (vU (told (0 : Nat) rdU s)) ∧ RAt w' B (rest rdU s) ∧ Kept w w' (· ≠ B)) := Lib.hid (by
    cases s with
    | none => exact unsigned_next_none B w h
    | some l => exact unsigned_next_some B l w h)
  clear h
  generalize told (0 : Nat) rdU s = v at *
  generalize rest rdU s = s2 at *
  go_enter Tryz.func86, Tryz.ntmps86
  go_wp2_with (go_at_call 116; ((refine C.out.mono ?_); rintro e w1 ⟨rfl, h1, k1⟩; have H1 := Lib.hid h1; clear h1))
  go_ret
  exact ⟨rfl, H1.out, k1⟩
theorem unsigned_nil (w : World) : Calls Tryz.prog 86 #[.pointer none] w fun e w' => e = .returned (vU (0 : Nat)) ∧ Below w.heap.size w w' := by
  have C := Lib.hid (unsigned_next_nil w)
  go_enter Tryz.func86, Tryz.ntmps86
  go_wp2_with (go_at_call 116; ((refine C.out.mono ?_); rintro e w1 ⟨rfl, k1⟩))
  go_ret
  exact ⟨rfl, k1⟩

theorem signed_next_none (B : Nat) (w : World) (h : RAt w B none) : Calls Tryz.prog 159 #[ptr B, .func (.func 160) #[] #[]] w fun e w' => e = .returned (vI (told (0 : Int) rdI none)) ∧ RAt w' B (rest rdI none) ∧ Kept w w' (· ≠ B) := by
  have k0 : Kept w (w.alloc (.cells #[ptr B] 142)) (· ≠ B) := .of_below (bAl (Below.refl _ _) _)
  have hW : RAt (w.alloc (.cells #[ptr B] 142)) B none := h.below (bAl (Below.refl _ _) _)
  have HW := Lib.hid hW
  have hB := h.lt
  have CF := Lib.hid (failed_any B none _ hW)
  clear h hW
  go_enter_defers Tryz.func159, Tryz.ntmps159
  go_wp2_with (go_at_call 146; ((refine CF.out.mono ?_); rintro e w1 ⟨rfl, rfl⟩))
  exact ⟨_, results_tmp rfl _ _ _, rfl, HW.out, k0⟩
theorem signed_next_nil (w : World) : Calls Tryz.prog 159 #[.pointer none, .func (.func 160) #[] #[]] w fun e w' => e = .returned (vI (0 : Int)) ∧ Below w.heap.size w w' := by
  have k0 : Below w.heap.size w (w.alloc (.cells #[.pointer none] 142)) := bAl (Below.refl _ _) _
  have CF := Lib.hid (failed_nil)
  go_enter_defers Tryz.func159, Tryz.ntmps159
  go_wp2_with (go_at_call 146; ((refine (CF.out _).mono ?_); rintro e w1 ⟨rfl, rfl⟩))
  exact ⟨_, results_tmp rfl _ _ _, rfl, k0⟩
theorem signed_any2 (B : Nat) (s : Option Bs) (w : World) (h : RAt w B s) : Calls Tryz.prog 134 #[ptr B] w fun e w' => e = .returned (vI (told (0 : Int) rdI s)) ∧ RAt w' B (rest rdI s) ∧ Kept w w' (· ≠ B) := by
  have C : Hid (Calls Tryz.prog 159 #[ptr B, .func (.func 160) #[] #[]] w fun e w' => e = .returned (vI (told (0 : Int) rdI s)) ∧ RAt w' B (rest rdI s) ∧ Kept w w' (· ≠ B)) := Lib.hid (by
    cases s with
    | none => exact signed_next_none B w h
    | some l => exact signed_next_some B l w h)
  clear h
  generalize told (0 : Int) rdI s = v at *
  generalize rest rdI s = s2 at *
  go_enter Tryz.func134, Tryz.ntmps134
  go_wp2_with (go_at_call 159; ((refine C.out.mono ?_); rintro e w1 ⟨rfl, h1, k1⟩; have H1 := Lib.hid h1; clear h1))
  go_ret
  exact ⟨rfl, H1.out, k1⟩
theorem signed_nil (w : World) : Calls Tryz.prog 134 #[.pointer none] w fun e w' => e = .returned (vI (0 : Int)) ∧ Below w.heap.size w w' := by
  have C := Lib.hid (signed_next_nil w)
  go_enter Tryz.func134, Tryz.ntmps134
  go_wp2_with (go_at_call 159; ((refine C.out.mono ?_); rintro e w1 ⟨rfl, k1⟩))
  go_ret
  exact ⟨rfl, k1⟩

theorem text_next_none (B : Nat) (w : World) (h : RAt w B none) : Calls Tryz.prog 120 #[ptr B, .func (.func 121) #[] #[]] w fun e w' => e = .returned (vS (told ([] : Bs) rdS none)) ∧ RAt w' B (rest rdS none) ∧ Kept w w' (· ≠ B) := by
  have k0 : Kept w (w.alloc (.cells #[ptr B] 142)) (· ≠ B) := .of_below (bAl (Below.refl _ _) _)
  have hW : RAt (w.alloc (.cells #[ptr B] 142)) B none := h.below (bAl (Below.refl _ _) _)
  have HW := Lib.hid hW
  have hB := h.lt
  have CF := Lib.hid (failed_any B none _ hW)
  clear h hW
  go_enter_defers Tryz.func120, Tryz.ntmps120
  go_wp2_with (go_at_call 146; ((refine CF.out.mono ?_); rintro e w1 ⟨rfl, rfl⟩))
  exact ⟨_, results_tmp rfl _ _ _, rfl, HW.out, k0⟩
theorem text_next_nil (w : World) : Calls Tryz.prog 120 #[.pointer none, .func (.func 121) #[] #[]] w fun e w' => e = .returned (vS ([] : Bs)) ∧ Below w.heap.size w w' := by
  have k0 : Below w.heap.size w (w.alloc (.cells #[.pointer none] 142)) := bAl (Below.refl _ _) _
  have CF := Lib.hid (failed_nil)
  go_enter_defers Tryz.func120, Tryz.ntmps120
  go_wp2_with (go_at_call 146; ((refine (CF.out _).mono ?_); rintro e w1 ⟨rfl, rfl⟩))
  exact ⟨_, results_tmp rfl _ _ _, rfl, k0⟩
theorem text_any2 (B : Nat) (s : Option Bs) (w : World) (h : RAt w B s) : Calls Tryz.prog 90 #[ptr B] w fun e w' => e = .returned (vS (told ([] : Bs) rdS s)) ∧ RAt w' B (rest rdS s) ∧ Kept w w' (· ≠ B) := by
  have C : Hid (Calls Tryz.prog 120 #[ptr B, .func (.func 121) #[] #[]] w fun e w' => e = .returned (vS (told ([] : Bs) rdS s)) ∧ RAt w' B (rest rdS s) ∧ Kept w w' (· ≠ B)) := Lib.hid (by
    cases s with
    | none => exact text_next_none B w h
    | some l => exact text_next_some B l w h)
  clear h
  generalize told ([] : Bs) rdS s = v at *
  generalize rest rdS s = s2 at *
  go_enter Tryz.func90, Tryz.ntmps90
  go_wp2_with (go_at_call 120; ((refine C.out.mono ?_); rintro e w1 ⟨rfl, h1, k1⟩; have H1 := Lib.hid h1; clear h1))
  go_ret
  exact ⟨rfl, H1.out, k1⟩
theorem text_nil (w : World) : Calls Tryz.prog 90 #[.pointer none] w fun e w' => e = .returned (vS ([] : Bs)) ∧ Below w.heap.size w w' := by
  have C := Lib.hid (text_next_nil w)
  go_enter Tryz.func90, Tryz.ntmps90
  go_wp2_with (go_at_call 120; ((refine C.out.mono ?_); rintro e w1 ⟨rfl, k1⟩))
  go_ret
  exact ⟨rfl, k1⟩

theorem left_nil (w : World) : Calls Tryz.prog 113 #[.pointer none] w fun e w' => e = .returned (.int .i64 0) ∧ w = w' := by
  go_enter Tryz.func113, Tryz.ntmps113
  go_wp2
  go_ret
  exact ⟨rfl, rfl⟩
theorem left_any (B : Nat) (s : Option Bs) (w : World) (h : RAt w B s) : Calls Tryz.prog 113 #[ptr B] w fun e w' => e = .returned (.int .i64 ((s.getD []).length : Nat)) ∧ w = w' := by
  cases s with
  | none =>
    have h : AtC w B #[.slice none 0 0, .bool true] := h
    have c0 := h.c 0
    clear h
    go_enter Tryz.func113, Tryz.ntmps113
    go_wp2
    go_ret
    exact ⟨rfl, rfl⟩
  | some l =>
    obtain ⟨A, c, h1, h2, h3⟩ := h
    have c0 := h1.c 0
    clear h1 h2
    show Calls _ _ _ _ fun e w' => e = .returned (.int .i64 (l.length : Nat)) ∧ w = w'
    generalize l.length = n at *
    go_enter Tryz.func113, Tryz.ntmps113
    go_wp2
    go_ret
    exact ⟨rfl, rfl⟩
/-- Were all bytes read? -/
def doneB (s : Option Bs) : Bool := s == some []
end Go.Proofs.YtkgjgbenfpkekaaGreat.YX
