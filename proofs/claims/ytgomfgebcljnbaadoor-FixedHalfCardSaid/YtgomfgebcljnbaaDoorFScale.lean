/-
  WALKS: Scale (the program's and the document's), and the rounding.
-/
import Derived.Test.YtgomfgebcljnbaaDoorFCmp
namespace Go.Proofs.YtgomfgebcljnbaaDoor
open Go.RowKit FixMath
set_option maxRecDepth 100000
set_option linter.unusedVariables false

/-- Half a unit is added, away from 0, and the quotient taken. -/
def rndP (n u : Int) : Int := if n < 0 then (n + -(u / 2)).tdiv u else (n + u / 2).tdiv u
/-- The document's way: the quotient, and one more where the rest is half a unit or more. -/
def rndZ (n u : Int) : Int := n.tdiv u + (if u ≤ 2 * n.tmod u then 1 else 0) - (if u ≤ -2 * n.tmod u then 1 else 0)

theorem tdiv_neg_of {n u : Int} (h : n < 0) : n.tdiv u = -((-n) / u) := by
  have : n = -(-n) := by omega
  rw [this, Int.neg_tdiv, Int.tdiv_eq_ediv_of_nonneg (by omega)]; simp
theorem tmod_neg_of {n u : Int} (h : n < 0) : n.tmod u = -((-n) % u) := by
  have : n = -(-n) := by omega
  rw [this, Int.neg_tmod, Int.tmod_eq_emod_of_nonneg (by omega)]; simp
theorem rnd_nat {n u h : Int} (hn : 0 ≤ n) (hu : u = 2 * h) (h1 : 1 ≤ h) : (n + h) / u = n / u + (if u ≤ 2 * (n % u) then 1 else 0) := by
  have hq := Int.mul_ediv_add_emod n u
  have hr := Int.emod_nonneg n (b := u) (by omega)
  have hr2 := Int.emod_lt_of_pos n (b := u) (by omega)
  generalize n / u = q at *
  generalize n % u = r at *
  have e : n + h = (r + h) + u * q := by omega
  rw [e, Int.add_mul_ediv_left _ _ (by omega)]
  split
  · have : (r + h) / u = 1 := by
      rw [show r + h = (r + h - u) + u * 1 by omega, Int.add_mul_ediv_left _ _ (by omega), Int.ediv_eq_zero_of_lt (by omega) (by omega)]; rfl
    omega
  · have : (r + h) / u = 0 := Int.ediv_eq_zero_of_lt (by omega) (by omega)
    omega
theorem rnd_eq {n u h : Int} (hu : u = 2 * h) (h1 : 1 ≤ h) : rndP n u = rndZ n u := by
  unfold rndP rndZ
  have e2 : u / 2 = h := by omega
  rw [e2]
  by_cases hn : n < 0
  · rw [if_pos hn, tdiv_neg_of (n := n + -h) (by omega), tdiv_neg_of hn, tmod_neg_of hn]
    have := rnd_nat (n := -n) (by omega) hu h1
    rw [show -(n + -h) = -n + h by omega, this]
    have hr := Int.emod_nonneg (-n) (b := u) (by omega)
    split <;> split <;> split <;> omega
  · rw [if_neg hn, Int.tdiv_eq_ediv_of_nonneg (by omega), Int.tdiv_eq_ediv_of_nonneg (by omega), Int.tmod_eq_emod_of_nonneg (by omega)]
    rw [rnd_nat (by omega) hu h1]
    have hr := Int.emod_nonneg n (b := u) (by omega)
    split <;> split <;> omega
theorem unitN_even {k : Nat} (h1 : 1 ≤ k) (h : k ≤ 6) : ∃ m : Int, ((unitN k : Nat) : Int) = 2 * m ∧ 1 ≤ m := by
  have h2 := unitN_succ (d := k - 1) (by omega)
  rw [show k - 1 + 1 = k by omega] at h2
  have := unitN_pos (d := k - 1) (by omega)
  exact ⟨5 * (unitN (k - 1) : Nat), by omega, by omega⟩

def scaleV (n : Int) (f t : Nat) : Value :=
  if countsB n f = true ∧ t ≤ 6 then
    (if t < f then .tuple #[.int .i64 (rndZ n (unitN (f - t))), .bool (decide (n.tmod (unitN (f - t)) = 0)), .int .i64 0]
    else if mayB (n * unitN (t - f)) = true then .tuple #[.int .i64 (n * unitN (t - f)), .bool true, .int .i64 0]
    else .tuple #[.int .i64 0, .bool false, .int .i64 30])
  else .tuple #[.int .i64 0, .bool false, .int .i64 20]
theorem scaleV_f {n : Int} {f t : Nat} (h : ¬ (countsB n f = true ∧ t ≤ 6)) : scaleV n f t = .tuple #[.int .i64 0, .bool false, .int .i64 20] := by
  unfold scaleV; rw [if_neg h]
theorem scaleV_down {n : Int} {f t : Nat} (h1 : countsB n f = true) (h : t < f) : scaleV n f t = .tuple #[.int .i64 (rndZ n (unitN (f - t))), .bool (decide (n.tmod (unitN (f - t)) = 0)), .int .i64 0] := by
  have := (countsB_out h1).2.2
  unfold scaleV; rw [if_pos ⟨h1, by omega⟩, if_pos h]
theorem scaleV_up {n : Int} {f t : Nat} (h1 : countsB n f = true) (ht : t ≤ 6) (h : ¬ t < f) (h2 : mayB (n * unitN (t - f)) = true) : scaleV n f t = .tuple #[.int .i64 (n * unitN (t - f)), .bool true, .int .i64 0] := by
  unfold scaleV; rw [if_pos ⟨h1, by omega⟩, if_neg h, if_pos h2]
theorem scaleV_far {n : Int} {f t : Nat} (h1 : countsB n f = true) (ht : t ≤ 6) (h : ¬ t < f) (h2 : ¬ mayB (n * unitN (t - f)) = true) : scaleV n f t = .tuple #[.int .i64 0, .bool false, .int .i64 30] := by
  unfold scaleV; rw [if_pos ⟨h1, by omega⟩, if_neg h, if_neg h2]

theorem rounded_any (n u : Int) (w : World) (h : -1000000000000000 ≤ n ∧ n ≤ 1000000000000000) (hu : 1 ≤ u ∧ u ≤ 1000000) :
    Calls Tryd.prog 28 #[.int .i64 n, .int .i64 u] w fun e w' => e = .returned (.int .i64 (rndP n u)) ∧ w = w' := by
  obtain ⟨u1, u2⟩ := hu
  obtain ⟨n1, n2⟩ := h
  have u0 : ¬ u = 0 := by omega
  by_cases hn : n < 0
  · have HV : Hid (rndP n u = (n + -(u / 2)).tdiv u) := Lib.hid (by unfold rndP; rw [if_pos hn])
    go_enter Tryd.func28, Tryd.ntmps28
    go_wp2
    go_ret
    exact ⟨by rw [HV.out]; rfl, rfl⟩
  · have HV : Hid (rndP n u = (n + u / 2) / u) := Lib.hid (by unfold rndP; rw [if_neg hn, Int.tdiv_eq_ediv_of_nonneg (by omega)])
    go_enter Tryd.func28, Tryd.ntmps28
    go_wp2
    go_ret
    exact ⟨by rw [HV.out]; rfl, rfl⟩

theorem may_mul {n : Int} {u : Nat} (hu : 1 ≤ u) : mayB (n * u) = true ↔ -(1000000000000000 / (u : Int)) ≤ n ∧ n ≤ 1000000000000000 / (u : Int) := by
  have hp : 0 < (u : Int) := by omega
  have e1 : n ≤ 1000000000000000 / (u : Int) ↔ n * u ≤ 1000000000000000 := Int.le_ediv_iff_mul_le hp
  have e2 : -n ≤ 1000000000000000 / (u : Int) ↔ -n * u ≤ 1000000000000000 := Int.le_ediv_iff_mul_le hp
  have e3 : -n * (u : Int) = -(n * u) := Int.neg_mul _ _
  rw [e3] at e2
  simp only [mayB, decide_eq_true_eq]
  omega

theorem scale_any (n : Int) (f t : Nat) (w : World) (hu : Units w) :
    Calls Tryd.prog 18 #[.int .i64 n, .int .u8 f, .int .u8 t] w fun e w' => e = .returned (scaleV n f t) ∧ Dr w w' := by
  by_cases h0 : countsB n f = true ∧ t ≤ 6
  · obtain ⟨h1, ht⟩ := h0
    obtain ⟨n1, n2, f6⟩ := countsB_out h1
    have ht2 : ¬ 6 < t := by omega
    have HU := Lib.hid hu
    by_cases hd : t < f
    · have HV := Lib.hid (scaleV_down h1 hd)
      have hp := unitN_pos (d := f - t) (by omega)
      have hn0 : ¬ unitN (f - t) = 0 := by omega
      obtain ⟨_, ⟨r1, r2⟩, _⟩ := parts_bounds n (f - t) ⟨n1, n2⟩ (by omega)
      have W2 : IntKind.i64.wrap (n.tmod (unitN (f - t))) = n.tmod (unitN (f - t)) := IntWalk.i64_in _ (by omega)
      have eu : IntKind.u8.wrap ((f : Int) - (t : Int)) = ((f - t : Nat) : Int) := by rw [IntWalk.u8_in _ (by omega)]; omega
      have eu' : (f : Int) - (t : Int) = ((f - t : Nat) : Int) := by omega
      have HR : Hid (rndP n (unitN (f - t)) = rndZ n (unitN (f - t))) := by
        obtain ⟨m, e1, e2⟩ := unitN_even (k := f - t) (by omega) (by omega)
        exact Lib.hid (rnd_eq e1 e2)
      clear hu
      by_cases hz : n.tmod (unitN (f - t)) = 0
      · go_enter Tryd.func18, Tryd.ntmps18
        go_wp2_with (first | (go_at_call 25; (refine (counts_any _ _ _).mono ?_; rintro e w' ⟨rfl, rfl⟩)) | (go_at_call 16; (refine (unit_any _ _ HU.out).mono ?_; rintro e w' ⟨rfl, rfl⟩)))
        go_quiet ((go_at_call 28; exact q1 (rounded_any _ _ _ ⟨n1, n2⟩ (by omega))))
        go_wp2
        refine bodyPost_ret (v := .tuple #[.int .i64 (rndP n (unitN (f - t))), .bool true, .int .i64 0]) (by simp [results, Tryd.results18, go_sem]) rfl ⟨by rw [HV.out, HR.out, decide_eq_true hz], Dr.one _ _⟩
      · go_enter Tryd.func18, Tryd.ntmps18
        go_wp2_with (first | (go_at_call 25; (refine (counts_any _ _ _).mono ?_; rintro e w' ⟨rfl, rfl⟩)) | (go_at_call 16; (refine (unit_any _ _ HU.out).mono ?_; rintro e w' ⟨rfl, rfl⟩)))
        go_quiet ((go_at_call 28; exact q1 (rounded_any _ _ _ ⟨n1, n2⟩ (by omega))))
        go_wp2
        refine bodyPost_ret (v := .tuple #[.int .i64 (rndP n (unitN (f - t))), .bool false, .int .i64 0]) (by simp [results, Tryd.results18, go_sem, hz]) rfl ⟨by rw [HV.out, HR.out, decide_eq_false hz], Dr.one _ _⟩
    · have hp := unitN_pos (d := t - f) (by omega)
      have hn0 : ¬ unitN (t - f) = 0 := by omega
      have eu' : (t : Int) - (f : Int) = ((t - f : Nat) : Int) := by omega
      have hM := may_mul (n := n) (u := unitN (t - f)) hp.1
      have hq : 0 ≤ 1000000000000000 / (unitN (t - f) : Int) ∧ 1000000000000000 / (unitN (t - f) : Int) ≤ 1000000000000000 := ⟨Int.ediv_nonneg (by omega) (by omega), Int.ediv_le_self _ (by omega)⟩
      clear hu
      by_cases hm : mayB (n * unitN (t - f)) = true
      · have HV := Lib.hid (scaleV_up h1 ht hd hm)
        have hb := mayB_out hm
        obtain ⟨m1, m2⟩ := hM.1 hm
        have m1' : ¬ n < -(1000000000000000 / (unitN (t - f) : Int)) := by omega
        have m2' : ¬ 1000000000000000 / (unitN (t - f) : Int) < n := by omega
        have HW : IntKind.i64.wrap (n * unitN (t - f)) = n * unitN (t - f) := IntWalk.i64_in _ (by omega)
        clear hM hm
        go_enter Tryd.func18, Tryd.ntmps18
        go_wp2_with (first | (go_at_call 25; (refine (counts_any _ _ _).mono ?_; rintro e w' ⟨rfl, rfl⟩)) | (go_at_call 16; (refine (unit_any _ _ HU.out).mono ?_; rintro e w' ⟨rfl, rfl⟩)))
        refine bodyPost_ret (v := .tuple #[.int .i64 (n * unitN (t - f)), .bool true, .int .i64 0]) (by simp [results, Tryd.results18, go_sem]) rfl ⟨by rw [HV.out], Dr.refl _⟩
      · have HV := Lib.hid (scaleV_far h1 ht hd hm)
        have hbad : n < -(1000000000000000 / (unitN (t - f) : Int)) ∨ (¬ n < -(1000000000000000 / (unitN (t - f) : Int)) ∧ 1000000000000000 / (unitN (t - f) : Int) < n) := by
          by_cases e1 : n < -(1000000000000000 / (unitN (t - f) : Int))
          · exact .inl e1
          · exact .inr ⟨e1, by
              by_cases e2 : 1000000000000000 / (unitN (t - f) : Int) < n
              · exact e2
              · exact absurd (hM.2 ⟨by omega, by omega⟩) hm⟩
        clear hM hm
        rcases hbad with e1 | ⟨e1, e2⟩
        all_goals
          go_enter Tryd.func18, Tryd.ntmps18
          go_wp2_with (first | (go_at_call 25; (refine (counts_any _ _ _).mono ?_; rintro e w' ⟨rfl, rfl⟩)) | (go_at_call 16; (refine (unit_any _ _ HU.out).mono ?_; rintro e w' ⟨rfl, rfl⟩)))
          refine bodyPost_ret (v := .tuple #[.int .i64 0, .bool false, .int .i64 30]) (by simp [results, Tryd.results18, go_sem]) rfl ⟨by rw [HV.out], Dr.refl _⟩
  · have HV := Lib.hid (scaleV_f h0)
    have h0' : countsB n f = false ∨ (countsB n f = true ∧ 6 < t) := by
      cases h : countsB n f
      · exact .inl rfl
      · exact .inr ⟨rfl, by rw [h] at h0; simp at h0; omega⟩
    clear h0 hu
    rcases h0' with h1 | ⟨h1, h2⟩
    all_goals
      go_enter Tryd.func18, Tryd.ntmps18
      go_wp2_with (go_at_call 25; (refine (counts_any _ _ _).mono ?_; rintro e w' ⟨rfl, rfl⟩))
      refine bodyPost_ret (v := .tuple #[.int .i64 0, .bool false, .int .i64 20]) (by simp [results, Tryd.results18, go_sem]) rfl ⟨by rw [HV.out], Dr.refl _⟩
end Go.Proofs.YtgomfgebcljnbaaDoor
