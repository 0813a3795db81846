/-
  WALK: the law FixedHalf.
-/
import Derived.Test.YtgomfgebcljnbaaDoorFOrderLaw
namespace Go.Proofs.YtgomfgebcljnbaaDoor
open Go.RowKit FixMath
set_option maxRecDepth 100000
set_option linter.unusedVariables false
set_option linter.unusedSimpArgs false

theorem half_facts {n u h m P : Int} (hu : u = 2 * h) (h5 : 5 ≤ h) (hm : m = rndZ n u) (hP : P = m * u) :
    (-u ≤ 2 * (P - n) ∧ 2 * (P - n) ≤ u) ∧ (n < 0 → 2 * (P - n) < u) ∧ (0 < n → -u < 2 * (P - n)) ∧ (n.tmod u = 0 ↔ P = n) ∧ (n = 0 → P = 0) := by
  have hq := Int.mul_tdiv_add_tmod n u
  have hs := tmod_sign n u (by omega)
  have s1 : 0 ≤ n → 0 ≤ n.tmod u := fun h => Int.tmod_nonneg _ h
  have s2 : n ≤ 0 → n.tmod u ≤ 0 := fun h => by
    have e2 : n.tmod u = -((-n).tmod u) := by rw [Int.neg_tmod]; omega
    have k2 := Int.tmod_nonneg (a := -n) u (by omega)
    omega
  have z1 : n = 0 → n.tmod u = 0 ∧ u * n.tdiv u = 0 := fun h => by subst h; simp
  unfold rndZ at hm
  subst hm
  generalize n.tmod u = r at *
  generalize n.tdiv u = q at *
  by_cases c1 : u ≤ 2 * r
  · rw [if_pos c1, if_neg (by omega)] at hP
    have : (q + 1 - 0) * u = u * q + u := by rw [Int.sub_zero, Int.add_mul, Int.mul_comm, Int.one_mul]
    rw [this] at hP
    generalize u * q = Q at *
    omega
  · by_cases c2 : u ≤ -2 * r
    · rw [if_neg c1, if_pos c2] at hP
      have : (q + 0 - 1) * u = u * q - u := by rw [Int.add_zero, Int.sub_mul, Int.mul_comm, Int.one_mul]
      rw [this] at hP
      generalize u * q = Q at *
      omega
    · rw [if_neg c1, if_neg c2] at hP
      have : (q + 0 - 0) * u = u * q := by rw [Int.add_zero, Int.sub_zero, Int.mul_comm]
      rw [this] at hP
      generalize u * q = Q at *
      omega
theorem rnd_mul (n : Int) {u : Int} (hu : 2 ≤ u) : rndZ (n * u) u = n := by
  unfold rndZ
  rw [Int.mul_tdiv_cancel _ (by omega), Int.mul_tmod_left]
  rw [if_neg (by omega), if_neg (by omega)]
  omega
theorem scale_back {n : Int} {f t : Nat} (hf : f ≤ 6) (ht : t ≤ 6) (h : f ≤ t) (hn : mayB n = true) (hm : mayB (n * unitN (t - f)) = true) : scaleV (n * unitN (t - f)) t f = .tuple #[.int .i64 n, .bool true, .int .i64 0] := by
  have hc := countsB_t hm ht
  by_cases e : f = t
  · subst e
    have e1 : n * (unitN (f - f) : Nat) = n := by rw [Nat.sub_self]; unfold unitN; simp
    rw [e1] at hc ⊢
    rw [scaleV_up hc hf (by omega) (by rw [e1]; exact hn), e1]
  · rw [scaleV_down hc (by omega)]
    obtain ⟨k, e1, e2⟩ := unitN_even (k := t - f) (by omega) (by omega)
    rw [rnd_mul n (by omega), decide_eq_true (Int.mul_tmod_left _ _)]

set_option maxHeartbeats 4000000 in
theorem half_no (n : Int) (f t : Nat) (w : World) (hu : Units w) (h : mayB n = false) :
    Calls Tryd.prog 7 #[.int .i64 n, .int .u8 f, .int .u8 t] w fun e w' => e = .returned (.bool true) ∧ Below w.heap.size w w' := by
  have hb : Below w.heap.size w w := Below.refl _ _
  have CA := Lib.hid (awake_any w hu)
  have HU := Lib.hid hu
  obtain ⟨DF, hDF⟩ : ∃ D : Nat, D = f % 7 := ⟨_, rfl⟩
  obtain ⟨DT, hDT⟩ : ∃ D : Nat, D = t % 7 := ⟨_, rfl⟩
  have eF : (f : Int) % 7 = (DF : Int) := by omega
  have eT : (t : Int) % 7 = (DT : Int) := by omega
  have CS := fun W h => Lib.hid (scale_any n DF DT W h)
  rw [scaleV_f (by rw [countsB_f1 h]; simp)] at CS
  clear hu hDF hDT
  go_enter Tryd.func7, Tryd.ntmps7
  go_wp2_with (first
    | (go_at_call 24; (refine CA.out.mono ?_; rintro e w1 ⟨rfl, h1⟩; replace hb := h1))
    | (go_at_call 14; (refine (may_any _ _).mono ?_; rintro e w1 ⟨rfl, rfl⟩))
    | (go_at_call 18; (first | (with_reducible refine (CS _ (HU.out.below hb)).out.mono ?_)); rintro e w1 ⟨rfl, hr⟩; replace hb := hb.trans ((hr.below _).mono hb.size)))
  all_goals
    go_ret
    exact ⟨by simp, hb⟩

set_option maxHeartbeats 4000000 in
theorem half_up (n : Int) (f t DF DT : Nat) (w : World) (hu : Units w) (hn : mayB n = true) (hDF : DF = f % 7) (hDT : DT = t % 7) (hle : DF ≤ DT) :
    Calls Tryd.prog 7 #[.int .i64 n, .int .u8 f, .int .u8 t] w fun e w' => e = .returned (.bool true) ∧ Below w.heap.size w w' := by
  have hb : Below w.heap.size w w := Below.refl _ _
  have CA := Lib.hid (awake_any w hu)
  have HU := Lib.hid hu
  have DF6 : DF ≤ 6 := by omega
  have DT6 : DT ≤ 6 := by omega
  have eF : (f : Int) % 7 = (DF : Int) := by omega
  have eT : (t : Int) % 7 = (DT : Int) := by omega
  obtain ⟨n1, n2⟩ := mayB_out hn
  clear hu hDF hDT
  have hlt : ¬ DT < DF := by omega
  have hp := unitN_pos (d := DT - DF) (by omega)
  have hu0 : ¬ unitN (DT - DF) = 0 := by omega
  have hu1 : ¬ unitN (DT - DF) < 1 := by omega
  have ed : (DT : Int) - (DF : Int) = ((DT - DF : Nat) : Int) := by omega
  have hq : 0 ≤ 1000000000000000 / (unitN (DT - DF) : Int) ∧ 1000000000000000 / (unitN (DT - DF) : Int) ≤ 1000000000000000 := ⟨Int.ediv_nonneg (by omega) (by omega), Int.ediv_le_self _ (by omega)⟩
  have hM := may_mul (n := n) (u := unitN (DT - DF)) hp.1
  by_cases hm : mayB (n * unitN (DT - DF)) = true
  · obtain ⟨m1, m2⟩ := hM.1 hm
    have m1' : ¬ n < -(1000000000000000 / (unitN (DT - DF) : Int)) := by omega
    have m2' : ¬ 1000000000000000 / (unitN (DT - DF) : Int) < n := by omega
    have hS := scaleV_up (countsB_t hn DF6) DT6 hlt hm
    have hB := scale_back DF6 DT6 hle hn hm
    obtain ⟨m, em⟩ : ∃ m : Int, n * unitN (DT - DF) = m := ⟨_, rfl⟩
    rw [em] at hS hB hm
    have hmb := mayB_out hm
    have CS := fun W h => Lib.hid (scale_any n DF DT W h)
    have CB := fun W h => Lib.hid (scale_any m DT DF W h)
    rw [hS] at CS
    rw [hB] at CB
    clear hS hB hM hm
    go_enter Tryd.func7, Tryd.ntmps7
    go_wp2_with (first
      | (go_at_call 24; (refine CA.out.mono ?_; rintro e w1 ⟨rfl, h1⟩; replace hb := h1))
      | (go_at_call 14; (refine (may_any _ _).mono ?_; rintro e w1 ⟨rfl, rfl⟩))
      | (go_at_call 16; (refine (unit_any _ _ (HU.out.below hb)).mono ?_; rintro e w1 ⟨rfl, rfl⟩))
      | (go_at_call 18; (first | (with_reducible refine (CS _ (HU.out.below hb)).out.mono ?_) | (with_reducible refine (CB _ (HU.out.below hb)).out.mono ?_)); rintro e w1 ⟨rfl, hr⟩; replace hb := hb.trans ((hr.below _).mono hb.size)))
    all_goals
      go_ret
      exact ⟨by simp, hb⟩
  · have hS := scaleV_far (countsB_t hn DF6) DT6 hlt hm
    have hbad : n < -(1000000000000000 / (unitN (DT - DF) : Int)) ∨ (¬ n < -(1000000000000000 / (unitN (DT - DF) : Int)) ∧ 1000000000000000 / (unitN (DT - DF) : Int) < n) := by
      by_cases e1 : n < -(1000000000000000 / (unitN (DT - DF) : Int))
      · exact .inl e1
      · exact .inr ⟨e1, by
          by_cases e2 : 1000000000000000 / (unitN (DT - DF) : Int) < n
          · exact e2
          · exact absurd (hM.2 ⟨by omega, by omega⟩) hm⟩
    have CS := fun W h => Lib.hid (scale_any n DF DT W h)
    rw [hS] at CS
    clear hS hM hm
    rcases hbad with e1 | ⟨e1, e2⟩
    all_goals
      go_enter Tryd.func7, Tryd.ntmps7
      go_wp2_with (first
        | (go_at_call 24; (refine CA.out.mono ?_; rintro e w1 ⟨rfl, h1⟩; replace hb := h1))
        | (go_at_call 14; (refine (may_any _ _).mono ?_; rintro e w1 ⟨rfl, rfl⟩))
        | (go_at_call 16; (refine (unit_any _ _ (HU.out.below hb)).mono ?_; rintro e w1 ⟨rfl, rfl⟩))
        | (go_at_call 18; (first | (with_reducible refine (CS _ (HU.out.below hb)).out.mono ?_)); rintro e w1 ⟨rfl, hr⟩; replace hb := hb.trans ((hr.below _).mono hb.size)))
      all_goals
        go_ret
        exact ⟨by simp, hb⟩

set_option maxHeartbeats 4000000 in
theorem half_down (n : Int) (f t DF DT : Nat) (w : World) (hu : Units w) (hn : mayB n = true) (hDF : DF = f % 7) (hDT : DT = t % 7) (hlt : DT < DF) :
    Calls Tryd.prog 7 #[.int .i64 n, .int .u8 f, .int .u8 t] w fun e w' => e = .returned (.bool true) ∧ Below w.heap.size w w' := by
  have hb : Below w.heap.size w w := Below.refl _ _
  have CA := Lib.hid (awake_any w hu)
  have HU := Lib.hid hu
  have DF6 : DF ≤ 6 := by omega
  have DT6 : DT ≤ 6 := by omega
  have eF : (f : Int) % 7 = (DF : Int) := by omega
  have eT : (t : Int) % 7 = (DT : Int) := by omega
  obtain ⟨n1, n2⟩ := mayB_out hn
  clear hu hDF hDT
  have hp := unitN_pos (d := DF - DT) (by omega)
  have hu0 : ¬ unitN (DF - DT) = 0 := by omega
  have hu1 : ¬ unitN (DF - DT) < 1 := by omega
  have ed : (DF : Int) - (DT : Int) = ((DF - DT : Nat) : Int) := by omega
  have hS := scaleV_down (countsB_t hn DF6) hlt
  obtain ⟨m, em⟩ : ∃ m : Int, m = rndZ n (unitN (DF - DT)) := ⟨_, rfl⟩
  obtain ⟨P, eP⟩ : ∃ P : Int, m * (unitN (DF - DT) : Int) = P := ⟨_, rfl⟩
  obtain ⟨h, eh, h1⟩ := unitN_even (k := DF - DT) (by omega) (by omega)
  have h5 : 5 ≤ h := by
    have := unitN_succ (d := DF - DT - 1) (by omega)
    rw [show DF - DT - 1 + 1 = DF - DT by omega] at this
    have := unitN_pos (d := DF - DT - 1) (by omega)
    omega
  obtain ⟨⟨b1, b2⟩, b3, b4, b5, b6⟩ := half_facts eh h5 em eP.symm
  have mb : -1000000000000000 ≤ m ∧ m ≤ 1000000000000000 := by
    have k1 : (m * (unitN (DF - DT) : Int)).natAbs = m.natAbs * unitN (DF - DT) := by rw [Int.natAbs_mul]; rfl
    have k2 : m.natAbs * 10 ≤ m.natAbs * unitN (DF - DT) := Nat.mul_le_mul_left _ (by omega)
    rw [eP] at k1
    omega
  have hmm : mayB m = true := by simp [mayB]; omega
  obtain ⟨c, hc, c1, c2, CC⟩ := cmpC n DF m DT (countsB_t hn DF6) (countsB_t hmm DT6)
  have hc0 : c = 0 ↔ P = n := by
    have k := unitN_mul (a := DF - DT) (b := 6 - DF) (by omega)
    rw [show DF - DT + (6 - DF) = 6 - DT by omega] at k
    have kp := unitN_pos (d := 6 - DF) (by omega)
    have e2 : valZ m DT = P * unitN (6 - DF) := by
      unfold valZ
      rw [← k, ← eP, Int.mul_assoc]; rfl
    have e1 : valZ n DF = n * unitN (6 - DF) := rfl
    rw [hc, e1, e2]
    have l1 : n < P ↔ n * unitN (6 - DF) < P * unitN (6 - DF) := ⟨fun h => Int.mul_lt_mul_of_pos_right h (by omega), fun h => Int.lt_of_mul_lt_mul_right h (by omega)⟩
    have l2 : P < n ↔ P * unitN (6 - DF) < n * unitN (6 - DF) := ⟨fun h => Int.mul_lt_mul_of_pos_right h (by omega), fun h => Int.lt_of_mul_lt_mul_right h (by omega)⟩
    unfold cmpZ
    split
    · omega
    · split <;> omega
  have KC := fun W h => Lib.hid (CC W h)
  have CS := fun W h => Lib.hid (scale_any n DF DT W h)
  rw [hS, ← em] at CS
  have Pb : -1000001000000000 ≤ P ∧ P ≤ 1000001000000000 := by omega
  clear hS em eh h1 h5 CC hc hmm
  by_cases hz : n.tmod (unitN (DF - DT)) = 0
  · have hPn : P = n := b5.1 hz
    have hcz : c = 0 := hc0.2 hPn
    rw [decide_eq_true hz] at CS
    clear hz b5 hc0 b1 b2 b3 b4 b6
    subst hcz
    subst hPn
    have hs : P < 0 ∨ (¬ P < 0 ∧ 0 < P) ∨ (¬ P < 0 ∧ ¬ 0 < P) := by omega
    rcases hs with s1 | ⟨s1, s2⟩ | ⟨s1, s2⟩
    all_goals
      go_enter Tryd.func7, Tryd.ntmps7
      go_wp2_with (first
        | (go_at_call 24; (refine CA.out.mono ?_; rintro e w1 ⟨rfl, h1⟩; replace hb := h1))
        | (go_at_call 14; (refine (may_any _ _).mono ?_; rintro e w1 ⟨rfl, rfl⟩))
        | (go_at_call 16; (refine (unit_any _ _ (HU.out.below hb)).mono ?_; rintro e w1 ⟨rfl, rfl⟩))
        | (go_at_call 18; (first | (with_reducible refine (CS _ (HU.out.below hb)).out.mono ?_)); rintro e w1 ⟨rfl, hr⟩; replace hb := hb.trans ((hr.below _).mono hb.size))
        | (go_at_call 20; (with_reducible refine (KC _ (HU.out.below hb)).out.mono ?_); rintro e w1 ⟨rfl, hr⟩; replace hb := hb.trans ((hr.below _).mono hb.size)))
      all_goals
        go_ret
        exact ⟨by simp <;> omega, hb⟩
  · have hPn : ¬ P = n := fun e => hz (b5.2 e)
    have hcz : ¬ c = 0 := fun e => hPn (hc0.1 e)
    have hcz2 : (c == 0) = false := by simp; omega
    have ho : ¬ 2 * (P - n) = 0 := by omega
    have ho2 : (2 * (P - n) == 0) = false := by simp; omega
    rw [decide_eq_false hz] at CS
    have hs : (n < 0 ∧ 2 * (P - n) < unitN (DF - DT)) ∨ (¬ n < 0 ∧ 0 < n ∧ -(unitN (DF - DT) : Int) < 2 * (P - n)) := by
      have : n ≠ 0 := fun e => hPn (by rw [e]; exact b6 e)
      omega
    clear hz b5 hc0 b3 b4 b6
    rcases hs with ⟨s1, s2⟩ | ⟨s0, s1, s2⟩
    all_goals
      go_enter Tryd.func7, Tryd.ntmps7
      go_wp2_with (first
        | (go_at_call 24; (refine CA.out.mono ?_; rintro e w1 ⟨rfl, h1⟩; replace hb := h1))
        | (go_at_call 14; (refine (may_any _ _).mono ?_; rintro e w1 ⟨rfl, rfl⟩))
        | (go_at_call 16; (refine (unit_any _ _ (HU.out.below hb)).mono ?_; rintro e w1 ⟨rfl, rfl⟩))
        | (go_at_call 18; (first | (with_reducible refine (CS _ (HU.out.below hb)).out.mono ?_)); rintro e w1 ⟨rfl, hr⟩; replace hb := hb.trans ((hr.below _).mono hb.size))
        | (go_at_call 20; (with_reducible refine (KC _ (HU.out.below hb)).out.mono ?_); rintro e w1 ⟨rfl, hr⟩; replace hb := hb.trans ((hr.below _).mono hb.size)))
      all_goals
        go_ret
        exact ⟨by simp <;> omega, hb⟩

theorem half_walk (n : Int) (f t : Nat) (w : World) (hu : Units w) :
    Calls Tryd.prog 7 #[.int .i64 n, .int .u8 f, .int .u8 t] w fun e w' => e = .returned (.bool true) ∧ Below w.heap.size w w' := by
  cases hn : mayB n
  · exact half_no n f t w hu hn
  · by_cases h : f % 7 ≤ t % 7
    · exact half_up n f t _ _ w hu hn rfl rfl h
    · exact half_down n f t _ _ w hu hn rfl rfl (by omega)
end Go.Proofs.YtgomfgebcljnbaaDoor
