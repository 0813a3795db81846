/-
  WALK: the program's kindOf: the kind of a word.
-/
import Derived.Test.YtonhijonnonmbaaDoorOTab
import Derived.KernelRfl
namespace Go.Proofs.YtonhijonnonmbaaDoor
open Go.RowKit
set_option maxRecDepth 100000
set_option linter.unusedVariables false
set_option linter.unusedSimpArgs false

/-- The least kind whose word this is, and 0. -/
def kindS (s : ByteArray) : Nat := ((List.range 10).find? fun k => decide ((wordOf k).data = s.data)).getD 0
theorem bytes_eq {a b : ByteArray} : a.data = b.data ↔ a = b := ⟨fun h => by cases a; cases b; simp at h; rw [h], fun h => by rw [h]⟩
theorem kindS_le (s : ByteArray) : kindS s ≤ 9 := by
  unfold kindS
  cases h : (List.range 10).find? fun k => decide ((wordOf k).data = s.data) with
  | none => simp
  | some k =>
    have := List.mem_of_find?_eq_some h
    simp at this
    simp; omega
theorem kindS_at {s : ByteArray} {j : Nat} (hj : j < 10) (hb : ∀ k, k < j → wordOf k ≠ s) (he : wordOf j = s) : kindS s = j := by
  unfold kindS
  have : (List.range 10).find? (fun k => decide ((wordOf k).data = s.data)) = some j := by
    rw [List.find?_eq_some_iff_append]
    refine ⟨by simp [he], List.range j, (List.range (10 - j - 1)).map (j + 1 + ·), ?_, fun k hk => ?_⟩
    · rw [show (10 : Nat) = j + (1 + (10 - j - 1)) by omega, List.range_add, List.range_add]
      simp [List.range_succ, List.range_zero, Function.comp_def, Nat.add_assoc]
    · have := hb k (by simpa using hk)
      simp [bytes_eq]; exact this
  rw [this]; rfl
theorem kindS_none {s : ByteArray} (hb : ∀ k, k < 10 → wordOf k ≠ s) : kindS s = 0 := by
  unfold kindS
  have : (List.range 10).find? (fun k => decide ((wordOf k).data = s.data)) = none := by
    rw [List.find?_eq_none]
    intro k hk
    have := hb k (by simpa using hk)
    simp [bytes_eq]; exact this
  rw [this]; rfl
theorem strs_ne {a b : ByteArray} (h : a ≠ b) : (a.toList == b.toList) = false := by
  rw [beq_eq_false_iff_ne, ne_eq, ByteArray.toList_eq, ByteArray.toList_eq]
  intro e; apply h
  obtain ⟨⟨x⟩⟩ := a
  obtain ⟨⟨y⟩⟩ := b
  simp at e; rw [e]
theorem idx_words (a : Nat → ByteArray) (j : Nat) (h : j < 10) (W : World) : (Instr.index 62 (.agg #[.string (a 0), .string (a 1), .string (a 2), .string (a 3), .string (a 4), .string (a 5), .string (a 6), .string (a 7), .string (a 8), .string (a 9)]) (.int .i64 (j : Int))).run Tryd.prog W = .ok (.string (a j)) W := by
  rcases (show j = 0 ∨ j = 1 ∨ j = 2 ∨ j = 3 ∨ j = 4 ∨ j = 5 ∨ j = 6 ∨ j = 7 ∨ j = 8 ∨ j = 9 by omega) with rfl | rfl | rfl | rfl | rfl | rfl | rfl | rfl | rfl | rfl <;> kernel_rfl
set_option maxHeartbeats 4000000 in
theorem kindOf_any (s : ByteArray) (w : World) (hw : Words w) : Calls Tryd.prog 48 #[.string s] w fun e w' => e = .returned (.int .u8 (kindS s)) ∧ w = w' := by
  have c0 := hw.2 0 (by omega)
  have c1 := hw.2 1 (by omega)
  have c2 := hw.2 2 (by omega)
  have c3 := hw.2 3 (by omega)
  have c4 := hw.2 4 (by omega)
  have c5 := hw.2 5 (by omega)
  have c6 := hw.2 6 (by omega)
  have c7 := hw.2 7 (by omega)
  have c8 := hw.2 8 (by omega)
  have c9 := hw.2 9 (by omega)
  have h0 := hw.1
  have HA := Lib.hid (fun j hj => @kindS_at s j hj)
  have HN := Lib.hid (@kindS_none s)
  clear hw
  have HI := Lib.hid (idx_words wordOf)
  generalize wordOf = a at *
  go_enter Tryd.func48, Tryd.ntmps48
  go_wp2
  go_loop [6] (fun i => ∃ j : Nat, j ≤ 10 ∧ i = .int .i64 j ∧ ∀ k, k < j → a k ≠ s) (fun i => 10 - (intOf i).toNat)
  case atStart => exact ⟨0, by omega, rfl, fun k h => by omega⟩
  case round =>
    obtain ⟨j, hj, rfl, hm⟩ := hrel
    have HM := Lib.hid hm
    clear hm c0 c1 c2 c3 c4 c5 c6 c7 c8 c9
    by_cases hlt : j < 10
    · have i1 : (j : Int) < 10 := by omega
      have hi := HI.out j hlt
      by_cases he : a j = s
      · have HV := Lib.hid (HA.out j hlt HM.out he)
        have q : ((a j).toList == s.toList) = true := by rw [he]; simp
        clear he
        generalize a j = x at *
        go_wp2
        go_ret
        exact ⟨by rw [HV.out]; rfl, rfl⟩
      · have q : ((a j).toList == s.toList) = false := strs_ne he
        have HR : Hid (∀ k, k < j + 1 → a k ≠ s) := Lib.hid (fun k hk => by
          rcases (show k < j ∨ k = j by omega) with h | rfl
          · exact HM.out k h
          · exact he)
        clear he
        generalize a j = x at *
        go_wp2
        go_round
        case rel => exact ⟨j + 1, by omega, by go_num, HR.out⟩
        case measure => simp [intOf]; omega
    · have e : j = 10 := by omega
      subst e
      have HV := Lib.hid (HN.out HM.out)
      go_wp2
      go_ret
      exact ⟨by rw [HV.out]; rfl, rfl⟩
end Go.Proofs.YtonhijonnonmbaaDoor
