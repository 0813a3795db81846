/-
  WALK: the chapter's examples ('awake').
-/
import Derived.Test.YtonhijonnonmbaaDoorOText
import Derived.Test.YtonhijonnonmbaaDoorOAwakeMath
namespace Go.Proofs.YtonhijonnonmbaaDoor
open Go.RowKit HL
set_option maxRecDepth 100000
set_option linter.unusedVariables false

/-- What the tables give. -/
structure Tabs (w : World) : Prop where
  words : Words w
  kinds : Kinds w
  pow : Pow w
theorem Tabs.then {w W : World} (h : Tabs w) (k : Below w.heap.size w W) : Tabs W := ⟨h.words.then k, h.kinds.then k, h.pow.then k⟩
theorem exM_meets {w : World} (h : Tabs w) (v : Int) : Meets (exM v) w := ⟨(by decide : 4 ≤ 255), (by decide : 0 ≤ 255), (by decide : 1 ≤ 255), (by decide : 0 ≤ 255), (by decide : (1 : Nat) ≤ maxLen), (by decide : (1 : Nat) ≤ maxLen), (by decide : (0 : Nat) ≤ maxLen), h.words, h.kinds⟩
theorem exV_meets {w : World} (h : Tabs w) : Meets exV w := ⟨by decide, by decide, by decide, by decide, by decide, by decide, by decide, h.words, h.kinds⟩
theorem exM_small : Small (exM 37) := ⟨by decide, by decide, by decide, by decide, by decide, by decide, by decide, by decide, by decide, by decide, by decide⟩
abbrev agM (v : Int) : Value := .agg #[.string ⟨#[109]⟩, .int .u8 4, .string ⟨#[99]⟩, .int .u8 0, .string ⟨#[]⟩, .int .i64 0, .int .i64 100, .int .u8 1, .bool false, .bool true, .int .i64 v, .int .i64 0, .int .i64 0, .int .u8 0]
abbrev agV : Value := .agg #[.string ⟨#[118]⟩, .int .u8 2, .string ⟨#[100]⟩, .int .u8 0, .string ⟨#[]⟩, .int .i64 0, .int .i64 0, .int .u8 0, .bool true, .bool false, .int .i64 0, .int .i64 0, .int .i64 0, .int .u8 0]
theorem exText {w : World} (h : Tabs w) : Calls Tryd.prog 6 #[agM 37] w fun e w' => e = .returned (.tuple #[.string ⟨#[109, 101, 116, 114, 105, 99, 32, 109, 32, 112, 97, 114, 101, 110, 116, 61, 99, 32, 104, 105, 61, 49, 48, 48, 32, 100, 105, 103, 105, 116, 115, 61, 49, 32, 104, 97, 115, 61, 49, 32, 118, 97, 108, 117, 101, 61, 51, 55]⟩, .int .i64 0]) ∧ Below w.heap.size w w' := by
  have := otext_any (exM_meets h 37) exM_small h.pow
  rw [textR_ok ex1, exM_text] at this
  exact this
theorem exMay2 {w : World} (h : Tabs w) : Calls Tryd.prog 11 #[agM 101] w fun e w' => e = .returned (.int .i64 30) ∧ Below w.heap.size w w' := by
  have := objMay_any (exM_meets h 101)
  rw [ex2] at this
  exact this
theorem exMay3 {w : World} (h : Tabs w) : Calls Tryd.prog 25 #[agM 101] w fun e w' => e = .returned (.int .i64 0) ∧ Below w.heap.size w w' := by
  have := objMayDesc_any (exM_meets h 101)
  rw [ex3] at this
  exact this
theorem exMay4 {w : World} (h : Tabs w) : Calls Tryd.prog 26 #[agM 101] w fun e w' => e = .returned (.int .i64 0) ∧ Below w.heap.size w w' := by
  have := objMayState_any (exM_meets h 101)
  rw [ex4] at this
  exact this
theorem exMay5 {w : World} (h : Tabs w) : Calls Tryd.prog 11 #[agV] w fun e w' => e = .returned (.int .i64 40) ∧ Below w.heap.size w w' := by
  have := objMay_any (exV_meets h)
  rw [ex5] at this
  exact this
set_option maxHeartbeats 8000000 in
theorem awake_any {w : World} (h : Tabs w) : Calls Tryd.prog 10 #[] w fun e w' => e = .returned (.bool true) ∧ Below w.heap.size w w' := by
  have hb : Below w.heap.size w w := Below.refl _ _
  have C1 := Lib.hid (fun W (k : Below w.heap.size w W) => exText (h.then k))
  have C2 := Lib.hid (fun W (k : Below w.heap.size w W) => exMay2 (h.then k))
  have C3 := Lib.hid (fun W (k : Below w.heap.size w W) => exMay3 (h.then k))
  have C4 := Lib.hid (fun W (k : Below w.heap.size w W) => exMay4 (h.then k))
  have C5 := Lib.hid (fun W (k : Below w.heap.size w W) => exMay5 (h.then k))
  clear h
  go_enter Tryd.func10, Tryd.ntmps10
  go_wp2_with fail
  go_at_call 6
  refine (C1.out _ (bAl hb _)).mono ?_
  rintro e w1 ⟨rfl, k1⟩
  replace hb := bThen (bAl hb _) k1
  have mO := (AtC.new _ _ _).then k1
  have oc := mO.c
  have of := mO.f
  go_wp2_with fail
  have hb2 := bStore hb (p := ⟨w.heap.size, 10, none⟩) (Nat.le_refl _) (.int .i64 101)
  have m2 : AtC (w1.setCell ⟨w.heap.size, 10, none⟩ (.int .i64 101)) w.heap.size #[.string ⟨#[109]⟩, .int .u8 4, .string ⟨#[99]⟩, .int .u8 0, .string ⟨#[]⟩, .int .i64 0, .int .i64 100, .int .u8 1, .bool false, .bool true, .int .i64 101, .int .i64 0, .int .i64 0, .int .u8 0] := mO.set (i := 10) (by decide) _
  clear k1 mO oc of hb
  generalize w1.setCell ⟨w.heap.size, 10, none⟩ (.int .i64 101) = w2 at *
  go_at_call 11
  refine (C2.out _ hb2).mono ?_
  rintro e w3 ⟨rfl, k3⟩
  replace hb2 := bThen hb2 k3
  replace m2 := m2.then k3
  have oc := m2.c
  go_wp2_with fail
  go_at_call 25
  refine (C3.out _ hb2).mono ?_
  rintro e w4 ⟨rfl, k4⟩
  replace hb2 := bThen hb2 k4
  replace m2 := m2.then k4
  have oc := m2.c
  go_wp2_with fail
  go_at_call 26
  refine (C4.out _ hb2).mono ?_
  rintro e w5 ⟨rfl, k5⟩
  replace hb2 := bThen hb2 k5
  go_wp2_with fail
  go_at_call 11
  refine (C5.out _ hb2).mono ?_
  rintro e w6 ⟨rfl, k6⟩
  replace hb2 := bThen hb2 k6
  go_wp2_with fail
  go_ret
  exact ⟨by simp, hb2⟩
end Go.Proofs.YtonhijonnonmbaaDoor
