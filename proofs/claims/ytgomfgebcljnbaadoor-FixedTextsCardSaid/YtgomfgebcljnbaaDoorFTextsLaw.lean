/-
  WALK: the law FixedTexts.
-/
import Derived.Test.YtgomfgebcljnbaaDoorFRefParseP
import Derived.Test.YtgomfgebcljnbaaDoorFAwake
namespace Go.Proofs.YtgomfgebcljnbaaDoor
open Go.RowKit FixMath
set_option maxRecDepth 100000
set_option linter.unusedVariables false
set_option linter.unusedSimpArgs false

theorem textV_form (n : Int) (d : Nat) : ∃ (t : ByteArray) (e : Int), textV n d = .tuple #[.string t, .int .i64 e] := by
  unfold textV
  split <;> exact ⟨_, _, rfl⟩
theorem parseV_form (l : Bs) (d : Nat) : ∃ (a e : Int), parseV l d = .tuple #[.int .i64 a, .int .i64 e] := by
  by_cases h : isText l d
  · exact ⟨_, _, parseV_t h⟩
  · exact ⟨_, _, parseV_f h⟩

set_option maxHeartbeats 2000000 in
theorem texts_walk (n : Int) (d : Nat) (hd : d ≤ 255) (s : ByteArray) (w : World) (hu : Units w) (hs : s.size ≤ maxLen) :
    Calls Tryd.prog 3 #[.int .i64 n, .int .u8 d, .string s] w fun e w' => e = .returned (.bool true) ∧ Below w.heap.size w w' := by
  have hb : Below w.heap.size w w := Below.refl _ _
  obtain ⟨t, e0, hT⟩ := textV_form n d
  obtain ⟨a, e1, hP⟩ := parseV_form s.data.toList d
  have C1 := fun W => Lib.hid (text_any n d W)
  have C2 := fun W => Lib.hid (refText_any n d W)
  have C3 := fun W => Lib.hid (parse_any s d W hs)
  have C4 := fun W => Lib.hid (refParse_any s d W hs)
  have HU := Lib.hid hu
  rw [hT] at C1 C2
  rw [hP] at C3 C4
  unfold maxLen at hs
  clear hT hP hu
  go_enter Tryd.func3, Tryd.ntmps3
  go_wp2_with (first
    | (go_at_call 10; (refine (C1 _).out.mono ?_; rintro e w1 ⟨rfl, h1⟩; replace hb := hb.trans (h1.mono hb.size)))
    | (go_at_call 11; (refine (C2 _).out.mono ?_; rintro e w1 ⟨rfl, h1⟩; replace hb := hb.trans (h1.mono hb.size)))
    | (go_at_call 12; (refine (C3 _).out.mono ?_; rintro e w1 ⟨rfl, h1⟩; replace hb := hb.trans (h1.mono hb.size)))
    | (go_at_call 13; (refine (C4 _).out.mono ?_; rintro e w1 ⟨rfl, rfl⟩))
    | (go_at_call 14; (refine (may_any _ _).mono ?_; rintro e w1 ⟨rfl, rfl⟩))
    | (go_at_call 15; (refine (refMay_any _ _).mono ?_; rintro e w1 ⟨rfl, rfl⟩))
    | (go_at_call 16; (refine (unit_any _ _ (HU.out.below hb)).mono ?_; rintro e w1 ⟨rfl, rfl⟩))
    | (go_at_call 17; (refine (refUnit_any _ _ hd).mono ?_; rintro e w1 ⟨rfl, rfl⟩)))
  all_goals
    go_ret
    exact ⟨by simp, hb⟩
end Go.Proofs.YtgomfgebcljnbaaDoor
