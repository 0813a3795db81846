/-
  WALK: the document's Scale.
-/
import Derived.Test.YtgomfgebcljnbaaDoorFScale
namespace Go.Proofs.YtgomfgebcljnbaaDoor
open Go.RowKit FixMath
set_option maxRecDepth 100000
set_option linter.unusedVariables false
set_option linter.unusedSimpArgs false

theorem refUnit_0 (w : World) : Calls Tryd.prog 17 #[.int .u8 0] w fun e w' => e = .returned (.int .i64 1) ∧ w = w' := refUnit_any 0 w (by omega)

theorem refScale_f (n : Int) (f t : Nat) (w : World) (h0 : ¬ (countsB n f = true ∧ t ≤ 6)) :
    Calls Tryd.prog 19 #[.int .i64 n, .int .u8 f, .int .u8 t] w fun e w' => e = .returned (scaleV n f t) ∧ w = w' := by
  have HV := Lib.hid (scaleV_f h0)
  have h0' : mayB n = false ∨ (mayB n = true ∧ 6 < f) ∨ (mayB n = true ∧ f ≤ 6 ∧ 6 < t) := by
    cases h : mayB n <;> simp [countsB, h] at h0 ⊢; omega
  clear h0
  rcases h0' with h1 | ⟨h1, h2⟩ | ⟨h1, h2, h3⟩
  all_goals
    go_enter Tryd.func19, Tryd.ntmps19
    go_wp2_with (go_at_call 15; (refine (refMay_any _ _).mono ?_; rintro e w' ⟨rfl, rfl⟩))
    refine bodyPost_ret (v := .tuple #[.int .i64 0, .bool false, .int .i64 20]) (by simp [results, Tryd.results19, go_sem]) rfl ⟨by rw [HV.out], rfl⟩

theorem tmod_sign (n u : Int) (hu : 1 ≤ u) : -u < n.tmod u ∧ n.tmod u < u := by
  by_cases hn : n < 0
  · rw [tmod_neg_of hn]
    have := Int.emod_nonneg (-n) (b := u) (by omega)
    have := Int.emod_lt_of_pos (-n) (b := u) (by omega)
    omega
  · rw [Int.tmod_eq_emod_of_nonneg (by omega)]
    have := Int.emod_nonneg n (b := u) (by omega)
    have := Int.emod_lt_of_pos n (b := u) (by omega)
    omega

set_option maxHeartbeats 1000000 in
theorem refScale_down (n : Int) (f t : Nat) (w : World) (h1 : countsB n f = true) (ht : t ≤ 6) (hd : t < f) :
    Calls Tryd.prog 19 #[.int .i64 n, .int .u8 f, .int .u8 t] w fun e w' => e = .returned (scaleV n f t) ∧ w = w' := by
  obtain ⟨n1, n2, f6⟩ := countsB_out h1
  have HV := Lib.hid (scaleV_down h1 hd)
  have m1 : mayB n = true := by simp [mayB]; omega
  have hp := unitN_pos (d := f - t) (by omega)
  have hn0 : ¬ unitN (f - t) = 0 := by omega
  obtain ⟨⟨q1, q2⟩, ⟨r1, r2⟩, _⟩ := parts_bounds n (f - t) ⟨n1, n2⟩ (by omega)
  have hs := tmod_sign n (unitN (f - t)) (by omega)
  have hu2 : 1 < (unitN (f - t) : Int) := by
    obtain ⟨m, e1, e2⟩ := unitN_even (k := f - t) (by omega) (by omega)
    omega
  have eu : (f : Int) - (t : Int) = ((f - t : Nat) : Int) := by omega
  have hft : ¬ (f : Int) < t := by omega
  have ht2 : ¬ 6 < t := by omega
  have hf2 : ¬ 6 < f := by omega
  have hcase : ∃ (c : Int), rndZ n (unitN (f - t)) = n.tdiv (unitN (f - t)) + c ∧ (((unitN (f - t) : Int) ≤ 2 * n.tmod (unitN (f - t)) ∧ ¬ (unitN (f - t) : Int) ≤ -2 * n.tmod (unitN (f - t)) ∧ c = 1) ∨ (¬ (unitN (f - t) : Int) ≤ 2 * n.tmod (unitN (f - t)) ∧ (unitN (f - t) : Int) ≤ -2 * n.tmod (unitN (f - t)) ∧ c = -1) ∨ (¬ (unitN (f - t) : Int) ≤ 2 * n.tmod (unitN (f - t)) ∧ ¬ (unitN (f - t) : Int) ≤ -2 * n.tmod (unitN (f - t)) ∧ c = 0)) := by
    unfold rndZ
    by_cases e1 : (unitN (f - t) : Int) ≤ 2 * n.tmod (unitN (f - t))
    · have e2 : ¬ (unitN (f - t) : Int) ≤ -2 * n.tmod (unitN (f - t)) := by omega
      exact ⟨1, by rw [if_pos e1, if_neg e2]; omega, .inl ⟨e1, e2, rfl⟩⟩
    · by_cases e2 : (unitN (f - t) : Int) ≤ -2 * n.tmod (unitN (f - t))
      · exact ⟨-1, by rw [if_neg e1, if_pos e2]; omega, .inr (.inl ⟨e1, e2, rfl⟩)⟩
      · exact ⟨0, by rw [if_neg e1, if_neg e2]; omega, .inr (.inr ⟨e1, e2, rfl⟩)⟩
  obtain ⟨c, hc, hcase⟩ := hcase
  have HC := Lib.hid hc
  clear hc h1
  by_cases hz : n.tmod (unitN (f - t)) = 0
  · have HZ := Lib.hid (decide_eq_true hz)
    have e12 : ¬ (unitN (f - t) : Int) ≤ 2 * n.tmod (unitN (f - t)) ∧ ¬ (unitN (f - t) : Int) ≤ -2 * n.tmod (unitN (f - t)) ∧ c = 0 := by
      rcases hcase with h | h | h
      · exfalso; omega
      · exfalso; omega
      · exact h
    obtain ⟨e1, e2, rfl⟩ := e12
    clear hcase
    go_enter Tryd.func19, Tryd.ntmps19
    go_wp2_with (go_at_call 15; (refine (refMay_any _ _).mono ?_; rintro e w' ⟨rfl, rfl⟩))
    go_loop [0, 1] (fun a b => a = .int .i64 n ∧ b = .int .u8 f) (fun _ _ => 0)
    case atStart => exact ⟨rfl, rfl⟩
    case round =>
      obtain ⟨rfl, rfl⟩ := hrel
      go_wp2_with (go_at_call 17; (refine (refUnit_any _ _ (by omega)).mono ?_; rintro e w' ⟨rfl, rfl⟩))
      refine bodyPost_ret (v := .tuple #[.int .i64 (rndZ n (unitN (f - t))), .bool true, .int .i64 0]) (by simp [results, Tryd.results19, go_sem, hz, HC.out] <;> omega) rfl ⟨by rw [HV.out, HZ.out], rfl⟩
  · have HZ := Lib.hid (decide_eq_false hz)
    rcases hcase with ⟨e1, e2, rfl⟩ | ⟨e1, e2, rfl⟩ | ⟨e1, e2, rfl⟩
    all_goals
      go_enter Tryd.func19, Tryd.ntmps19
      go_wp2_with (go_at_call 15; (refine (refMay_any _ _).mono ?_; rintro e w' ⟨rfl, rfl⟩))
      go_loop [0, 1] (fun a b => a = .int .i64 n ∧ b = .int .u8 f) (fun _ _ => 0)
      case atStart => exact ⟨rfl, rfl⟩
      case round =>
        obtain ⟨rfl, rfl⟩ := hrel
        go_wp2_with (go_at_call 17; (refine (refUnit_any _ _ (by omega)).mono ?_; rintro e w' ⟨rfl, rfl⟩))
        refine bodyPost_ret (v := .tuple #[.int .i64 (rndZ n (unitN (f - t))), .bool false, .int .i64 0]) (by simp [results, Tryd.results19, go_sem, hz, HC.out] <;> omega) rfl ⟨by rw [HV.out, HZ.out], rfl⟩

theorem mul_abs {n : Int} {a b : Nat} (hab : a ≤ b) (h : mayB (n * b) = true) : mayB (n * a) = true := by
  simp only [mayB, decide_eq_true_eq] at *
  have h1 : (n * b).natAbs = n.natAbs * b := by rw [Int.natAbs_mul]; rfl
  have h2 : (n * a).natAbs = n.natAbs * a := by rw [Int.natAbs_mul]; rfl
  have : n.natAbs * a ≤ n.natAbs * b := Nat.mul_le_mul_left _ hab
  omega
theorem unitN_mono {a b : Nat} (h : a ≤ b) (hb : b ≤ 6) : unitN a ≤ unitN b := by
  unfold unitN; rw [if_pos hb, if_pos (by omega)]; exact Nat.pow_le_pow_right (by omega) h

set_option maxHeartbeats 1000000 in
theorem refScale_up (n : Int) (f t : Nat) (w : World) (h1 : countsB n f = true) (ht : t ≤ 6) (hd : ¬ t < f) :
    Calls Tryd.prog 19 #[.int .i64 n, .int .u8 f, .int .u8 t] w fun e w' => e = .returned (scaleV n f t) ∧ w = w' := by
  obtain ⟨n1, n2, f6⟩ := countsB_out h1
  have HU := Lib.hid (fun h2 => scaleV_up h1 ht hd h2)
  have HF := Lib.hid (fun h2 => scaleV_far h1 ht hd h2)
  have m1 : mayB n = true := by simp [mayB]; omega
  have ht2 : ¬ 6 < t := by omega
  have hf2 : ¬ 6 < f := by omega
  clear h1
  go_enter Tryd.func19, Tryd.ntmps19
  go_wp2_with (go_at_call 15; (refine (refMay_any _ _).mono ?_; rintro e w' ⟨rfl, rfl⟩))
  go_loop [0, 1] (fun a b => ∃ (k : Nat) (v : Int), f + k ≤ t ∧ a = .int .i64 v ∧ b = .int .u8 (f + k : Nat) ∧ Hid (v = n * unitN k) ∧ -1000000000000000 ≤ v ∧ v ≤ 1000000000000000) (fun _ b => t - (intOf b).toNat)
  case atStart => exact ⟨0, n, by omega, rfl, rfl, Lib.hid (by simp [unitN]), n1, n2⟩
  case round =>
    obtain ⟨k, v, hk, rfl, rfl, HV, v1, v2⟩ := hrel
    by_cases hlt : f + k < t
    · have hi : ((f + k : Nat) : Int) < (t : Int) := by omega
      have HS : Hid (10 * v = n * unitN (k + 1)) := Lib.hid (by
        rw [unitN_succ (by omega), HV.out]
        have : ((10 * unitN k : Nat) : Int) = 10 * (unitN k : Int) := by omega
        rw [this, ← Int.mul_assoc, ← Int.mul_assoc, Int.mul_comm 10 n])
      by_cases hm : mayB (10 * v) = true
      · have hb := mayB_out hm
        go_wp2_with (go_at_call 15; (refine (refMay_any _ _).mono ?_; rintro e w' ⟨rfl, rfl⟩))
        go_round
        case rel => exact ⟨k + 1, 10 * v, by omega, by go_num, by go_num, HS, hb.1, hb.2⟩
        case measure => simp [intOf]; omega
      · have HB : Hid (scaleV n f t = .tuple #[.int .i64 0, .bool false, .int .i64 30]) := Lib.hid (HF.out (fun h => hm (by
          rw [HS.out]
          exact mul_abs (unitN_mono (by omega) (by omega)) h)))
        have hm : mayB (10 * v) = false := by simpa using hm
        go_wp2_with (go_at_call 15; (refine (refMay_any _ _).mono ?_; rintro e w' ⟨rfl, rfl⟩))
        refine bodyPost_ret (v := .tuple #[.int .i64 0, .bool false, .int .i64 30]) (by simp [results, Tryd.results19, go_sem]) rfl ⟨by rw [HB.out], rfl⟩
    · have ek : t = f + k := by omega
      have e2 : t - f = k := by omega
      have hi : ¬ ((f + k : Nat) : Int) < (t : Int) := by omega
      have es : ((f + k : Nat) : Int) - (t : Int) = 0 := by omega
      have HB : Hid (scaleV n f t = .tuple #[.int .i64 v, .bool true, .int .i64 0]) := Lib.hid (by
        have := HU.out (by rw [e2, ← HV.out]; simp [mayB]; omega)
        rw [this, e2, ← HV.out])
      clear HU HF e2
      subst ek
      go_wp2_with (go_at_call 17; (refine (refUnit_0 _).mono ?_; rintro e w' ⟨rfl, rfl⟩))
      refine bodyPost_ret (v := .tuple #[.int .i64 v, .bool true, .int .i64 0]) (by simp [results, Tryd.results19, go_sem]) rfl ⟨by rw [HB.out], rfl⟩

theorem refScale_any (n : Int) (f t : Nat) (w : World) :
    Calls Tryd.prog 19 #[.int .i64 n, .int .u8 f, .int .u8 t] w fun e w' => e = .returned (scaleV n f t) ∧ w = w' := by
  by_cases h : countsB n f = true ∧ t ≤ 6
  · by_cases hd : t < f
    · exact refScale_down n f t w h.1 h.2 hd
    · exact refScale_up n f t w h.1 h.2 hd
  · exact refScale_f n f t w h
end Go.Proofs.YtgomfgebcljnbaaDoor
