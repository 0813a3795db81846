/-
  WALKS: a span's May, Side, Has; the document's May, Side.
-/
import Derived.Test.YtmhilhdmbbdnaaaGreatDoorSKit
namespace Go.Proofs.YtmhilhdmbbdnaaaGreatDoor
open Go.RowKit FixMath
set_option maxRecDepth 100000
set_option linter.unusedVariables false

def spanE (a b : Int) : Int := if mayB a = true ∧ mayB b = true then (if b < a then 30 else 0) else 20
theorem spanE_1 {a b : Int} (h : mayB a = false) : spanE a b = 20 := by unfold spanE; rw [if_neg (by simp [h])]
theorem spanE_2 {a b : Int} (h : mayB b = false) : spanE a b = 20 := by unfold spanE; rw [if_neg (by simp [h])]
theorem spanE_3 {a b : Int} (h : mayB a = true) (k : mayB b = true) (l : b < a) : spanE a b = 30 := by unfold spanE; rw [if_pos ⟨h, k⟩, if_pos l]
theorem spanE_4 {a b : Int} (h : mayB a = true) (k : mayB b = true) (l : ¬ b < a) : spanE a b = 0 := by unfold spanE; rw [if_pos ⟨h, k⟩, if_neg l]
theorem mayB_iff {n : Int} : mayB n = true ↔ -1000000000000000 ≤ n ∧ n ≤ 1000000000000000 := by simp [mayB]
theorem spanE_iff {a b : Int} : spanE a b = 0 ↔ -1000000000000000 ≤ a ∧ a ≤ b ∧ b ≤ 1000000000000000 := by
  unfold spanE
  by_cases h : mayB a = true ∧ mayB b = true
  · have h1 := mayB_iff.1 h.1; have h2 := mayB_iff.1 h.2
    rw [if_pos h]
    by_cases l : b < a
    · rw [if_pos l]; constructor <;> intro k <;> omega
    · rw [if_neg l]; constructor <;> intro k <;> omega
  · rw [if_neg h]
    constructor
    · intro k; omega
    · intro k; exact absurd ⟨mayB_iff.2 (by omega), mayB_iff.2 (by omega)⟩ h
theorem spanE_cases (a b : Int) : spanE a b = 0 ∨ spanE a b = 20 ∨ spanE a b = 30 := by
  unfold spanE; split
  · split
    · exact .inr (.inr rfl)
    · exact .inl rfl
  · exact .inr (.inl rfl)

theorem spanMay_any (a b : Int) (w : World) : Calls Tryz.prog 85 #[sp a b] w fun e w' => e = .returned (.int .i64 (spanE a b)) ∧ Below w.heap.size w w' := by
  have CM := fun n W => Lib.hid (may_any n W)
  have hb : Below w.heap.size w w := Below.refl _ _
  by_cases h1 : mayB a = true
  · by_cases h2 : mayB b = true
    · by_cases h3 : b < a
      · have HV := Lib.hid (spanE_3 h1 h2 h3)
        go_enter Tryz.func85, Tryz.ntmps85
        go_wp2_with (go_at_call 84; refine (CM _ _).out.mono ?_; rintro e w' ⟨rfl, rfl⟩)
        go_ret
        exact ⟨by rw [HV.out]; rfl, hb.alloc hb.size _⟩
      · have HV := Lib.hid (spanE_4 h1 h2 h3)
        go_enter Tryz.func85, Tryz.ntmps85
        go_wp2_with (go_at_call 84; refine (CM _ _).out.mono ?_; rintro e w' ⟨rfl, rfl⟩)
        go_ret
        exact ⟨by rw [HV.out]; rfl, hb.alloc hb.size _⟩
    · have h2 : mayB b = false := by simpa using h2
      have HV := Lib.hid (spanE_2 (a := a) h2)
      go_enter Tryz.func85, Tryz.ntmps85
      go_wp2_with (go_at_call 84; refine (CM _ _).out.mono ?_; rintro e w' ⟨rfl, rfl⟩)
      go_ret
      exact ⟨by rw [HV.out]; rfl, hb.alloc hb.size _⟩
  · have h1 : mayB a = false := by simpa using h1
    have HV := Lib.hid (spanE_1 (b := b) h1)
    go_enter Tryz.func85, Tryz.ntmps85
    go_wp2_with (go_at_call 84; refine (CM _ _).out.mono ?_; rintro e w' ⟨rfl, rfl⟩)
    go_ret
    exact ⟨by rw [HV.out]; rfl, hb.alloc hb.size _⟩
theorem spanMay_eq {a b e0 : Int} (h : spanE a b = e0) (w : World) : Calls Tryz.prog 85 #[sp a b] w fun e w' => e = .returned (.int .i64 e0) ∧ Below w.heap.size w w' := h ▸ spanMay_any a b w
def sideV (a b n : Int) : Int := if n < a then 0 else if b < n then 2 else 1
theorem sideV_1 {a b n : Int} (h : n < a) : sideV a b n = 0 := by unfold sideV; rw [if_pos h]
theorem sideV_2 {a b n : Int} (h : ¬ n < a) (k : b < n) : sideV a b n = 2 := by unfold sideV; rw [if_neg h, if_pos k]
theorem sideV_3 {a b n : Int} (h : ¬ n < a) (k : ¬ b < n) : sideV a b n = 1 := by unfold sideV; rw [if_neg h, if_neg k]
theorem side_any (a b n : Int) (w : World) : Calls Tryz.prog 86 #[sp a b, .int .i64 n] w fun e w' => e = .returned (.int .u8 (sideV a b n)) ∧ Below w.heap.size w w' := by
  have hb : Below w.heap.size w w := Below.refl _ _
  by_cases h1 : n < a
  · have HV := Lib.hid (sideV_1 (b := b) h1)
    go_enter Tryz.func86, Tryz.ntmps86
    go_wp2
    go_ret
    exact ⟨by rw [HV.out]; rfl, hb.alloc hb.size _⟩
  · by_cases h2 : b < n
    · have HV := Lib.hid (sideV_2 h1 h2)
      go_enter Tryz.func86, Tryz.ntmps86
      go_wp2
      go_ret
      exact ⟨by rw [HV.out]; rfl, hb.alloc hb.size _⟩
    · have HV := Lib.hid (sideV_3 h1 h2)
      go_enter Tryz.func86, Tryz.ntmps86
      go_wp2
      go_ret
      exact ⟨by rw [HV.out]; rfl, hb.alloc hb.size _⟩
theorem sideV_cases (a b n : Int) : sideV a b n = 0 ∨ sideV a b n = 1 ∨ sideV a b n = 2 := by
  unfold sideV; split
  · exact .inl rfl
  · split
    · exact .inr (.inr rfl)
    · exact .inr (.inl rfl)
def hasB (a b n : Int) : Bool := decide (a ≤ n ∧ n ≤ b)
theorem sideV_has (a b n : Int) : hasB a b n = decide (sideV a b n = 1) := by
  unfold hasB sideV
  by_cases h1 : n < a
  · rw [if_pos h1, decide_eq_false (by omega), decide_eq_false (by omega)]
  · rw [if_neg h1]
    by_cases h2 : b < n
    · rw [if_pos h2, decide_eq_false (by omega), decide_eq_false (by omega)]
    · rw [if_neg h2, decide_eq_true (by omega), decide_eq_true (by omega)]
theorem has_any (a b n : Int) (w : World) : Calls Tryz.prog 67 #[sp a b, .int .i64 n] w fun e w' => e = .returned (.bool (hasB a b n)) ∧ Below w.heap.size w w' := by
  have CS := fun W => Lib.hid (side_any a b n W)
  have hb : Below w.heap.size w w := Below.refl _ _
  have HV := Lib.hid (sideV_has a b n)
  generalize sideV a b n = v at *
  go_enter Tryz.func67, Tryz.ntmps67
  go_wp2_with (go_at_call 86; refine (CS _).out.mono ?_; rintro e w1 ⟨rfl, h1⟩; replace hb := bThen (bAl hb _) h1)
  go_ret
  exact ⟨by rw [HV.out]; rfl, hb⟩
def nearV (a b n : Int) : Int := if spanE a b = 0 then (if n < a then a else if b < n then b else n) else 0
theorem nearV_0 {a b n : Int} (h : spanE a b ≠ 0) : nearV a b n = 0 := by unfold nearV; rw [if_neg h]
theorem nearV_1 {a b n : Int} (h : spanE a b = 0) (k : n < a) : nearV a b n = a := by unfold nearV; rw [if_pos h, if_pos k]
theorem nearV_2 {a b n : Int} (h : spanE a b = 0) (k : ¬ n < a) (l : b < n) : nearV a b n = b := by unfold nearV; rw [if_pos h, if_neg k, if_pos l]
theorem nearV_3 {a b n : Int} (h : spanE a b = 0) (k : ¬ n < a) (l : ¬ b < n) : nearV a b n = n := by unfold nearV; rw [if_pos h, if_neg k, if_neg l]
theorem side_eq {a b n v : Int} (h : sideV a b n = v) (w : World) : Calls Tryz.prog 86 #[sp a b, .int .i64 n] w fun e w' => e = .returned (.int .u8 v) ∧ Below w.heap.size w w' := h ▸ side_any a b n w
end Go.Proofs.YtmhilhdmbbdnaaaGreatDoor
