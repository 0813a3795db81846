/-
  WALK: the law SpanTexts.
-/
import Derived.Test.YtadbbpfnedbhcaaSText
import Derived.Test.YtadbbpfnedbhcaaSRefParse
namespace Go.Proofs.Ytadbbpfnedbhcaa
open Go.RowKit FixMath
set_option maxRecDepth 100000
set_option linter.unusedVariables false
set_option linter.unusedSimpArgs false

theorem spParse_form (l : Bs) (d : Nat) : ∃ (p q e : Int), spParse l d = .tuple #[sp p q, .int .i64 e] := by
  unfold spParse
  by_cases h : isText (Lib.cut l dd).1 d ∧ isText (Lib.cut l dd).2.1 d
  · by_cases k : readZ (Lib.cut l dd).2.1 < readZ (Lib.cut l dd).1
    · exact ⟨_, _, _, spParseV_1 h.1 h.2 k⟩
    · exact ⟨_, _, _, spParseV_2 h.1 h.2 k⟩
  · exact ⟨_, _, _, spParseV_3 h⟩

set_option maxHeartbeats 2000000 in
theorem texts_walk (a b : Int) (d : Nat) (s : ByteArray) (w : World) (hs : s.size ≤ maxLen) (m0 : Int) (hm : w.cell? ⟨0, 0, none⟩ = some (.int .i64 m0)) (hlt : 0 < w.heap.size) :
    Calls Try.prog 5 #[sp a b, .int .u8 d, .string s] w fun e w' => e = .returned (.bool true) ∧ Below w.heap.size w w' := by
  have hb : Below w.heap.size w w := Below.refl _ _
  by_cases h200 : 200 < s.size
  · unfold maxLen at hs
    clear hm hlt
    go_enter Try.func5, Try.ntmps5
    go_wp2
    go_ret
    exact ⟨rfl, bAl hb _⟩
  · obtain ⟨t, e0, hT⟩ := spTextV_form a b d
    obtain ⟨p, q, e1, hP⟩ := spParse_form s.data.toList d
    have C1 := fun W => Lib.hid (hT ▸ spText_any a b d W)
    have C2 := fun W => Lib.hid (hT ▸ refSpText_any a b d W)
    have C3 := fun W hm hlt => Lib.hid (hP ▸ spParse_any s d W (by omega) m0 hm hlt)
    have C4 := fun W => Lib.hid (hP ▸ refSpParse_any s d W (by omega))
    have HM := Lib.hid hm
    have HL := Lib.hid hlt
    unfold maxLen at hs
    clear hT hP hm hlt
    go_enter Try.func5, Try.ntmps5
    go_wp2_with (first
      | (go_at_call 23; (refine (C1 _).out.mono ?_; rintro e w1 ⟨rfl, k1⟩; replace hb := bThen (bAl hb _) k1; have r := (At2.new _ _ _ _).then k1; have r0 := r.c0; have r1 := r.c1))
      | (go_at_call 24; (refine (C2 _).out.mono ?_; rintro e w2 ⟨rfl, k2⟩; replace hb := bThen hb k2))
      | (go_at_call 25; (refine (C3 _ ((hb.cell (p := ⟨0, 0, none⟩) HL.out).trans HM.out) (Nat.lt_of_lt_of_le HL.out hb.size)).out.mono ?_; rintro e w3 ⟨rfl, k3⟩; replace hb := bThen hb k3))
      | (go_at_call 26; (refine (C4 _).out.mono ?_; rintro e w4 ⟨rfl, k4⟩; replace hb := bThen (bAl hb _) k4; have n := (At2.new _ _ _ _).then k4; have n0 := n.c0; have n1 := n.c1; have ln := n.lt)))
    all_goals
      go_ret
      exact ⟨by simp, bAl hb _⟩
end Go.Proofs.Ytadbbpfnedbhcaa
