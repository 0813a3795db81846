/-
  WALK: the law WfChecks.
-/
import Derived.Test.YthlalmoapbdccaaDoorWZ14
namespace Go.Proofs.YthlalmoapbdccaaDoor.WX
open Go.RowKit HL
open IX (ptr El cellsK cellsK_at OwnK RdK strK)
set_option maxRecDepth 100000
set_option linter.unusedVariables false
set_option linter.unusedSimpArgs false

theorem ver_zero (l : List Ob) : (verR l).1 = 0 ↔ (verR l).2 = 0 := by
  unfold verR
  by_cases h0 : (fltK l l.length).2 ≠ 0
  · rw [if_pos h0]
    exact ⟨fun e => (by cases e), fun e => absurd e h0⟩
  · rw [if_neg h0]
    cases twiceB l <;> cases l.any (noStand (lastO l)) <;> cases countsB l <;> cases l.any (fun o => !refW (lastO l) o) <;> cases l.any (fun o => !inLim (lastO l) o) <;> cases ctxB l <;> simp
set_option maxHeartbeats 16000000 in
theorem checks_walk (A : Option Addr) (c : Nat) (l : List Ob) (w : World) (h1 : RdK obK w w.heap.size A l) (n1 : l.length ≤ maxLen) (hF : ∀ o ∈ l, Fine o) (ht : Tables w ∧ Kinds w) :
    Calls Tryd.prog 3 #[.slice A l.length c] w fun e w' => e = .returned (.bool true) ∧ Below w.heap.size w w' := by
  have L1 := Lib.hid (longO_any A c l w h1 n1)
  cases e1 : longO l with
  | true =>
    rw [e1] at L1
    clear e1 h1 hF ht
    go_enter Tryd.func3, Tryd.ntmps3
    go_wp2_with (go_at_call 9; ((with_reducible refine L1.out.mono ?_); rintro e w1 ⟨rfl, k1⟩))
    go_ret
    exact ⟨rfl, k1⟩
  | false =>
    have nl := (longO_out e1).1
    have hM : ∀ W, Below w.heap.size w W → MeetsL l W := fun W k => (meetsL_of (by omega) hF ht).then k
    have CB := Lib.hid (fun W (k : Below w.heap.size w W) => refBroken_any (A := A) l c W ((h1.below k).more k.size) (hM W k))
    have CC := Lib.hid (fun W (k : Below w.heap.size w W) A' c' (r : RdK obK W W.heap.size A' l) => check_any (A := A') l c' W r (hM W k))
    have CR := Lib.hid (fun W (k : Below w.heap.size w W) A' c' (r : RdK obK W W.heap.size A' l) => ruleN_any (A := A') l c' W r (hM W k))
    have CW := Lib.hid (fun W (k : Below w.heap.size w W) A' c' (r : RdK obK W W.heap.size A' l) => well_any (A := A') l c' W r (hM W k))
    have CS := Lib.hid (fun A1 A2 c1 c2 W r1 r2 => sameO_yes A1 A2 c1 c2 l.length l W r1 r2 rfl (by omega))
    have HV := Lib.hid (verR_eq l)
    have HZ := Lib.hid (ver_zero l)
    have H1 := Lib.hid h1
    rw [e1] at L1
    clear e1 h1 hF ht hM n1
    generalize brokenR l = b at *
    generalize verR l = v at *
    obtain ⟨b1, b2⟩ := b
    obtain ⟨v1, v2⟩ := v
    obtain ⟨rfl, rfl⟩ : v1 = b1 ∧ v2 = b2 := by
      have := HV.out
      simpa using this
    clear HV
    obtain ⟨b, hz1, hz2⟩ : ∃ b : Bool, ((v1 : Int) == 0) = b ∧ (v2 == 0) = b := by
      have := HZ.out
      simp only at this
      by_cases q : v2 = 0
      · have q1 := this.2 q
        subst q; subst q1; exact ⟨true, rfl, rfl⟩
      · have q1 : ¬ v1 = 0 := fun e => q (this.1 e)
        have q2 : ¬ (v1 : Int) = 0 := by omega
        exact ⟨false, by simpa using q1, by simpa using q⟩
    simp only [hz2] at CW
    clear HZ hz2
    have O0 := fun w1 => Lib.hid (OwnK.lit (K := obK) w1 w1.heap.size (Nat.le_refl _))
    go_enter Tryd.func3, Tryd.ntmps3
    go_wp2_with (first
      | (go_at_call 9; ((with_reducible refine L1.out.mono ?_); rintro e w1 ⟨rfl, k1⟩; have ka := bAl k1 (.cells #[] 31)))
      | (at_builtin; refine IX.wpList_spreadK obK rfl _ _ rfl w1.heap.size _ [] rfl (O0 w1).out (w1.alloc (.cells #[] 31)).heap.size A l.length c l rfl rfl ((H1.out.below ka).more ka.size) ?d1 ?d2 ?_))
    case d1 => simp; omega
    case d2 => simp
    intro v' w2 o2 g2 _
    obtain ⟨A2, c2, rfl, r2, _, _⟩ := o2.form
    have k2 : Below w.heap.size w w2 := ka.grown g2 ka.size (fun k hk => by have := k1.size; simp [Value.ownBlock] at hk; omega)
    have R2 := Lib.hid r2
    have K2 := Lib.hid k2
    clear o2 g2 r2 k2
    go_wp2_with (first
      | (go_at_call 10; ((with_reducible refine (CB.out _ K2.out).mono ?_); rintro e w3 ⟨rfl, q3⟩; have k3 := bThen K2.out q3; have r3 := (R2.out.below q3).more q3.size))
      | (go_at_call 11; ((with_reducible refine (CC.out _ k3 _ _ r3).mono ?_); rintro e w4 ⟨rfl, q4⟩; have k4 := bThen k3 q4; have r4 := (r3.below q4).more q4.size))
      | (go_at_call 12; ((with_reducible refine (CR.out _ k4 _ _ r4).mono ?_); rintro e w5 ⟨rfl, q5⟩; have k5 := bThen k4 q5; have r5 := (r4.below q5).more q5.size))
      | (go_at_call 13; ((with_reducible refine (CW.out _ k5 _ _ r5).mono ?_); rintro e w6 ⟨rfl, q6⟩; have k6 := bThen k5 q6; have r6 := (r5.below q6).more q6.size; have s6 := (H1.out.below k6).more k6.size))
      | (go_at_call 14; ((with_reducible refine (CS.out _ _ _ _ _ r6 s6).mono ?_); rintro e w7 ⟨rfl, q7⟩; have k7 := bThen k6 q7)))
    go_ret
    exact ⟨by simp, k7⟩
end Go.Proofs.YthlalmoapbdccaaDoor.WX
