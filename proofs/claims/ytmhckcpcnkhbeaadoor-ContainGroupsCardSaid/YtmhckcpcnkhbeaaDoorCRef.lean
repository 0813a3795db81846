/-
  WALKS: the document's Known, Under, Refers, Group, Most, Levels.
-/
import Derived.Test.YtmhckcpcnkhbeaaDoorCMath
import Derived.Test.YtmhckcpcnkhbeaaDoorGKit
namespace Go.Proofs.YtmhckcpcnkhbeaaDoor
open Go.RowKit
set_option maxRecDepth 100000
set_option linter.unusedVariables false
set_option linter.unusedSimpArgs false

theorem kinds_cases (k : Nat) : k = 1 ∨ k = 2 ∨ k = 3 ∨ k = 4 ∨ k = 5 ∨ k = 6 ∨ k = 7 ∨ k = 8 ∨ k = 9 ∨ kdB k = false := by rw [kdB_f]; omega
theorem ret_b {a b : Bool} (h : a = b) : Ending.returned (.bool a) = .returned (.bool b) := by rw [h]
theorem natB (p n : Nat) : ((p : Int) == (n : Int)) = (p == n) := by rw [Bool.eq_iff_iff]; simp; omega
theorem known_any (k : Nat) (w : World) : Calls Tryd.prog 39 #[.int .u8 k] w fun e w' => e = .returned (.bool (kdB k)) ∧ w = w' := by
  have HK : Hid (kdB k = true ↔ 1 ≤ k ∧ k ≤ 9) := Lib.hid kdB_iff
  generalize kdB k = b at *
  go_enter Tryd.func39, Tryd.ntmps39
  go_wp2
  all_goals go_ret
  all_goals refine ⟨ret_b ?_, rfl⟩
  all_goals rw [Bool.eq_iff_iff, HK.out]
  all_goals simp [*]
  all_goals omega
set_option maxHeartbeats 2000000 in
theorem refUnder_any (k p : Nat) (w : World) : Calls Tryd.prog 19 #[.int .u8 k, .int .u8 p] w fun e w' => e = .returned (.bool (underB k p)) ∧ w = w' := by
  have CK := fun k W => Lib.hid (known_any k W)
  rcases kinds_cases k with rfl | rfl | rfl | rfl | rfl | rfl | rfl | rfl | rfl | h
  case inr.inr.inr.inr.inr.inr.inr.inr.inr =>
    have h0 := kdB_f.1 h
    have i1 : ((k : Int) == 1) = false := by simp; omega
    have i2 : ((k : Int) == 2) = false := by simp; omega
    have i3 : ((k : Int) == 3) = false := by simp; omega
    have i4 : ((k : Int) == 4) = false := by simp; omega
    have i5 : ((k : Int) == 5) = false := by simp; omega
    have i6 : ((k : Int) == 6) = false := by simp; omega
    have i7 : ((k : Int) == 7) = false := by simp; omega
    have i8 : ((k : Int) == 8) = false := by simp; omega
    have i9 : ((k : Int) == 9) = false := by simp; omega
    have HV := Lib.hid (under_none h p)
    have C := Lib.hid (CK k w).out
    rw [h] at C
    clear CK h h0
    go_enter Tryd.func19, Tryd.ntmps19
    go_wp2
    go_ret
    exact ⟨by first | rfl | (rw [HV.out]; rfl) | (rw [HV.out.1, HV.out.2]; rfl), rfl⟩
  all_goals
    go_enter Tryd.func19, Tryd.ntmps19
    go_wp2
    all_goals go_ret
    all_goals first | exact ⟨rfl, rfl⟩ | (refine ⟨ret_b ?_, rfl⟩; rw [Bool.eq_iff_iff]; simp_all [underB, refersTo]; try omega)
set_option maxHeartbeats 2000000 in
theorem refRefers5_any (k p : Nat) (w : World) : Calls Tryd.prog 21 #[.int .u8 k, .int .u8 p] w fun e w' => e = .returned (.bool (refersTo k p)) ∧ w = w' := by
  have CK := fun k W => Lib.hid (known_any k W)
  rcases kinds_cases k with rfl | rfl | rfl | rfl | rfl | rfl | rfl | rfl | rfl | h
  case inr.inr.inr.inr.inr.inr.inr.inr.inr =>
    have h0 := kdB_f.1 h
    have i1 : ((k : Int) == 1) = false := by simp; omega
    have i2 : ((k : Int) == 2) = false := by simp; omega
    have i3 : ((k : Int) == 3) = false := by simp; omega
    have i4 : ((k : Int) == 4) = false := by simp; omega
    have i5 : ((k : Int) == 5) = false := by simp; omega
    have i6 : ((k : Int) == 6) = false := by simp; omega
    have i7 : ((k : Int) == 7) = false := by simp; omega
    have i8 : ((k : Int) == 8) = false := by simp; omega
    have i9 : ((k : Int) == 9) = false := by simp; omega
    have HV := Lib.hid (refers_none h p)
    have C := Lib.hid (CK k w).out
    rw [h] at C
    clear CK h h0
    go_enter Tryd.func21, Tryd.ntmps21
    go_wp2
    go_ret
    exact ⟨by first | rfl | (rw [HV.out]; rfl) | (rw [HV.out.1, HV.out.2]; rfl), rfl⟩
  all_goals
    go_enter Tryd.func21, Tryd.ntmps21
    go_wp2
    all_goals go_ret
    all_goals first | exact ⟨rfl, rfl⟩ | (refine ⟨ret_b ?_, rfl⟩; rw [Bool.eq_iff_iff]; simp_all [underB, refersTo]; try omega)
theorem refGroup_any (k : Nat) (w : World) : Calls Tryd.prog 23 #[.int .u8 k] w fun e w' => e = .returned (.int .u8 (grp k)) ∧ w = w' := by
  have C := Lib.hid (known_any k w)
  cases h : kdB k with
  | false =>
    have HV := Lib.hid (none_of h).2.2.1
    rw [h] at C
    clear h
    go_enter Tryd.func23, Tryd.ntmps23
    go_wp2_with (go_at_call 39; ((with_reducible refine C.out.mono ?_); rintro e w1 ⟨rfl, rfl⟩))
    go_ret
    exact ⟨by rw [HV.out]; rfl, rfl⟩
  | true =>
    rw [h] at C
    by_cases h7 : k = 7 ∨ k = 8
    · have HV : Hid (grp k = 6) := Lib.hid (by rcases h7 with rfl | rfl <;> rfl)
      have i : (k : Int) = 7 ∨ (k : Int) = 8 := by omega
      clear h h7
      go_enter Tryd.func23, Tryd.ntmps23
      go_wp2_with (go_at_call 39; ((with_reducible refine C.out.mono ?_); rintro e w1 ⟨rfl, rfl⟩))
      all_goals first | (go_ret; exact ⟨by rw [HV.out]; rfl, rfl⟩) | (exfalso; simp_all; done) | (exfalso; simp_all; omega)
    · have HV : Hid (grp k = k) := Lib.hid (by
        have := kdB_iff.1 h
        have h3 : k ≠ 7 := by omega
        have h4 : k ≠ 8 := by omega
        exact (show ∀ k, k < 10 → 1 ≤ k → k ≠ 7 → k ≠ 8 → grp k = k by decide +kernel) k (by omega) this.1 h3 h4)
      have i1 : ((k : Int) == 7) = false := by simp; omega
      have i2 : ((k : Int) == 8) = false := by simp; omega
      clear h h7
      go_enter Tryd.func23, Tryd.ntmps23
      go_wp2_with (go_at_call 39; ((with_reducible refine C.out.mono ?_); rintro e w1 ⟨rfl, rfl⟩))
      go_ret
      exact ⟨by rw [HV.out]; rfl, rfl⟩
theorem refMost_any (k : Nat) (w : World) : Calls Tryd.prog 25 #[.int .u8 k] w fun e w' => e = .returned (.int .i64 (most k)) ∧ w = w' := by
  have C := Lib.hid (refGroup_any k w)
  have hg := grp_le k
  have HV : Hid (most k = rmost (grp k)) := Lib.hid rfl
  generalize most k = m at *
  generalize grp k = c at *
  rcases (show c = 0 ∨ c = 1 ∨ c = 2 ∨ c = 3 ∨ c = 4 ∨ c = 5 ∨ c = 6 ∨ c = 7 ∨ c = 8 ∨ c = 9 by omega) with rfl | rfl | rfl | rfl | rfl | rfl | rfl | rfl | rfl | rfl
  all_goals
    go_enter Tryd.func25, Tryd.ntmps25
    go_wp2_with (go_at_call 23; ((with_reducible refine C.out.mono ?_); rintro e w1 ⟨rfl, rfl⟩))
    go_ret
    exact ⟨by rw [HV.out]; rfl, rfl⟩
set_option maxHeartbeats 2000000 in
theorem refLevels_any (k : Nat) (w : World) : Calls Tryd.prog 17 #[.int .u8 k] w fun e w' => e = .returned (.tuple #[.int .i64 (lowL k), .int .i64 (highL k)]) ∧ w = w' := by
  have CK := fun k W => Lib.hid (known_any k W)
  rcases kinds_cases k with rfl | rfl | rfl | rfl | rfl | rfl | rfl | rfl | rfl | h
  case inr.inr.inr.inr.inr.inr.inr.inr.inr =>
    have h0 := kdB_f.1 h
    have i1 : ((k : Int) == 1) = false := by simp; omega
    have i2 : ((k : Int) == 2) = false := by simp; omega
    have i3 : ((k : Int) == 3) = false := by simp; omega
    have i4 : ((k : Int) == 4) = false := by simp; omega
    have i5 : ((k : Int) == 5) = false := by simp; omega
    have i6 : ((k : Int) == 6) = false := by simp; omega
    have i7 : ((k : Int) == 7) = false := by simp; omega
    have i8 : ((k : Int) == 8) = false := by simp; omega
    have i9 : ((k : Int) == 9) = false := by simp; omega
    have HV := Lib.hid ((none_of h).2.2.2.2.2)
    have C := Lib.hid (CK k w).out
    rw [h] at C
    clear CK h h0
    go_enter Tryd.func17, Tryd.ntmps17
    go_wp2
    go_ret2
    exact ⟨by first | rfl | (rw [HV.out]; rfl) | (rw [HV.out.1, HV.out.2]; rfl), rfl⟩
  all_goals
    go_enter Tryd.func17, Tryd.ntmps17
    go_wp2
    all_goals go_ret2
    all_goals first | exact ⟨rfl, rfl⟩ | (refine ⟨ret_b ?_, rfl⟩; rw [Bool.eq_iff_iff]; simp_all [underB, refersTo]; try omega)
end Go.Proofs.YtmhckcpcnkhbeaaDoor
