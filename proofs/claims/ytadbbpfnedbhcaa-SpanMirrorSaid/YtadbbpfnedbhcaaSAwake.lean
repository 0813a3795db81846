/-
  WALK: awake of layer 3: the chapter's examples.
-/
import Derived.Test.YtadbbpfnedbhcaaSText
import Derived.Test.YtadbbpfnedbhcaaSParse
import Derived.Test.YtadbbpfnedbhcaaSMeet
namespace Go.Proofs.Ytadbbpfnedbhcaa
open Go.RowKit FixMath
set_option maxRecDepth 100000
set_option linter.unusedVariables false
set_option linter.unusedSimpArgs false

theorem nd_lo {n : Nat} (h : n < 10) : nd n = 1 := by unfold nd; rw [dif_pos h]
theorem nd_hi {n : Nat} (h : 10 ≤ n) : nd n = nd (n / 10) + 1 := by rw [nd, dif_neg (by omega)]
theorem AT (w : World) : Calls Try.prog 23 #[sp (-5) 10, .int .u8 1] w fun e w' => e = .returned (.tuple #[.string ⟨#[45, 48, 46, 53, 46, 46, 49, 46, 48]⟩, .int .i64 0]) ∧ Below w.heap.size w w' := by
  have h := spText_any (-5) 10 1 w
  have e : spText (-5) 10 1 = [45, 48, 46, 53, 46, 46, 49, 46, 48] := by simp [spText, fixText, natText, nd_lo, nd_hi, low, dig]
  rw [spTextV_t (by decide) (by decide), e] at h
  exact h
theorem AM (w : World) : Calls Try.prog 17 #[sp (-5) 10, sp 10 20] w fun e w' => e = .returned (.tuple #[sp 10 10, .bool true]) ∧ Below w.heap.size w w' :=
  meet_t (-5) 10 10 20 10 10 w (by decide) (by decide) (by omega) (by omega) (by omega)
theorem AH (w : World) : Calls Try.prog 21 #[sp (-5) 10, sp 10 20] w fun e w' => e = .returned (sp (-5) 20) ∧ Below w.heap.size w w' :=
  hold_t (-5) 10 10 20 (-5) 20 w (by decide) (by decide) (by omega) (by omega)
theorem AS1 (w : World) : Calls Try.prog 12 #[sp (-5) 10, .int .i64 (-6)] w fun e w' => e = .returned (.int .u8 0) ∧ Below w.heap.size w w' := side_eq (by decide) w
theorem AS2 (w : World) : Calls Try.prog 12 #[sp (-5) 10, .int .i64 10] w fun e w' => e = .returned (.int .u8 1) ∧ Below w.heap.size w w' := side_eq (by decide) w
theorem AS3 (w : World) : Calls Try.prog 12 #[sp (-5) 10, .int .i64 11] w fun e w' => e = .returned (.int .u8 2) ∧ Below w.heap.size w w' := side_eq (by decide) w
theorem AN (w : World) : Calls Try.prog 15 #[sp (-5) 10, .int .i64 99] w fun e w' => e = .returned (.int .i64 10) ∧ Below w.heap.size w w' := by
  have h := near_any (-5) 10 99 w
  rw [show nearV (-5) 10 99 = 10 by decide] at h
  exact h
theorem is_text1 : isText [49] 0 ∧ readZ [49] = 1 := by
  have e : readZ [49] = 1 := by decide
  exact ⟨isText_iff.2 ⟨by rw [e]; decide, by rw [e]; simp [fixText, natText, nd_lo, low, dig]⟩, e⟩
theorem is_text0 : isText [48] 0 ∧ readZ [48] = 0 := by
  have e : readZ [48] = 0 := by decide
  exact ⟨isText_iff.2 ⟨by rw [e]; decide, by rw [e]; simp [fixText, natText, nd_lo, low, dig]⟩, e⟩
theorem AP1 (w : World) (m : Int) (hm : w.cell? ⟨0, 0, none⟩ = some (.int .i64 m)) (hlt : 0 < w.heap.size) :
    Calls Try.prog 25 #[.string ⟨#[49, 46, 46, 48]⟩, .int .u8 0] w fun e w' => e = .returned (.tuple #[sp 0 0, .int .i64 30]) ∧ Below w.heap.size w w' := by
  have h := spParse_any ⟨#[49, 46, 46, 48]⟩ 0 w (by decide) m hm hlt
  have e : spParse (⟨#[49, 46, 46, 48]⟩ : ByteArray).data.toList 0 = .tuple #[sp 0 0, .int .i64 30] := by
    unfold spParse
    rw [show Lib.cut (⟨#[49, 46, 46, 48]⟩ : ByteArray).data.toList dd = ([49], [48], true) by decide]
    exact spParseV_1 is_text1.1 is_text0.1 (by rw [is_text1.2, is_text0.2]; decide)
  rw [e] at h
  exact h
theorem AP2 (w : World) (m : Int) (hm : w.cell? ⟨0, 0, none⟩ = some (.int .i64 m)) (hlt : 0 < w.heap.size) :
    Calls Try.prog 25 #[.string ⟨#[49, 46, 46]⟩, .int .u8 0] w fun e w' => e = .returned (.tuple #[sp 0 0, .int .i64 20]) ∧ Below w.heap.size w w' := by
  have h := spParse_any ⟨#[49, 46, 46]⟩ 0 w (by decide) m hm hlt
  have e : spParse (⟨#[49, 46, 46]⟩ : ByteArray).data.toList 0 = .tuple #[sp 0 0, .int .i64 20] := by
    unfold spParse
    rw [show Lib.cut (⟨#[49, 46, 46]⟩ : ByteArray).data.toList dd = ([49], [], true) by decide]
    exact spParseV_3 (fun k => not_text_nil 0 k.2)
  rw [e] at h
  exact h

set_option maxHeartbeats 2000000 in
theorem awake_any (w : World) (m0 : Int) (hm : w.cell? ⟨0, 0, none⟩ = some (.int .i64 m0)) (hlt : 0 < w.heap.size) :
    Calls Try.prog 27 #[] w fun e w' => e = .returned (.bool true) ∧ Below w.heap.size w w' := by
  have hb : Below w.heap.size w w := Below.refl _ _
  have HM := Lib.hid hm
  have HL := Lib.hid hlt
  clear hm hlt
  go_enter Try.func27, Try.ntmps27
  go_wp2_with (first
    | (go_at_call 17; (refine (AM _).mono ?_; rintro e w1 ⟨rfl, k1⟩; replace hb := bThen (bAl hb _) k1; have mS := (At2.new _ _ _ _).then k1; have s0 := mS.c0; have s1 := mS.c1; have ls := mS.lt))
    | (go_at_call 23; (refine (AT _).mono ?_; rintro e w2 ⟨rfl, k2⟩; replace hb := bThen (bAl hb _) k2; replace mS := (mS.al _).then k2; have mM := (At2.new _ _ _ _).then k2; have s0 := mS.c0; have s1 := mS.c1; have n0 := mM.c0; have n1 := mM.c1))
    | (go_at_call 25; first
      | ((with_reducible refine (AP1 _ m0 ((hb.cell (p := ⟨0, 0, none⟩) HL.out).trans HM.out) (Nat.lt_of_lt_of_le HL.out hb.size)).mono ?_); rintro e w3 ⟨rfl, k3⟩; replace hb := bThen hb k3; replace mS := mS.then k3; replace mM := mM.then k3)
      | ((with_reducible refine (AP2 _ m0 (((bAl hb (.cells #[.int .i64 0, .int .i64 0] 23)).cell (p := ⟨0, 0, none⟩) HL.out).trans HM.out) (Nat.lt_of_lt_of_le HL.out (bAl hb (.cells #[.int .i64 0, .int .i64 0] 23)).size)).mono ?_); rintro e w4 ⟨rfl, k4⟩; replace hb := bThen (bAl hb _) k4; replace mS := (mS.al _).then k4; replace mM := (mM.al _).then k4; have s0 := mS.c0; have s1 := mS.c1; have n0 := mM.c0; have n1 := mM.c1; have ls := mS.lt; have lm := mM.lt))
    | (go_at_call 12; first
      | ((with_reducible refine (AS1 _).mono ?_); rintro e w5 ⟨rfl, k5⟩; replace hb := bThen (bAl hb _) k5; replace mS := (mS.al _).then k5; replace mM := (mM.al _).then k5; have s0 := mS.c0; have s1 := mS.c1; have n0 := mM.c0; have n1 := mM.c1; have ls := mS.lt; have lm := mM.lt)
      | ((with_reducible refine (AS2 _).mono ?_); rintro e w6 ⟨rfl, k6⟩; replace hb := bThen hb k6; replace mS := mS.then k6; replace mM := mM.then k6; have s0 := mS.c0; have s1 := mS.c1; have n0 := mM.c0; have n1 := mM.c1; have ls := mS.lt; have lm := mM.lt)
      | ((with_reducible refine (AS3 _).mono ?_); rintro e w6 ⟨rfl, k6⟩; replace hb := bThen hb k6; replace mS := mS.then k6; replace mM := mM.then k6; have s0 := mS.c0; have s1 := mS.c1; have n0 := mM.c0; have n1 := mM.c1; have ls := mS.lt; have lm := mM.lt))
    | (go_at_call 21; (refine (AH _).mono ?_; rintro e w6 ⟨rfl, k6⟩; replace hb := bThen hb k6; replace mS := mS.then k6; replace mM := mM.then k6; have s0 := mS.c0; have s1 := mS.c1; have n0 := mM.c0; have n1 := mM.c1; have ls := mS.lt; have lm := mM.lt))
    | (go_at_call 15; (refine (AN _).mono ?_; rintro e w6 ⟨rfl, k6⟩; replace hb := bThen hb k6)))
  go_ret
  exact ⟨rfl, hb⟩
end Go.Proofs.Ytadbbpfnedbhcaa
