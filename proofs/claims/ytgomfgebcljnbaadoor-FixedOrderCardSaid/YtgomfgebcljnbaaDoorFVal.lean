/-
  PLAIN: comparing two numbers is comparing what they are worth, in millionths. And the contract of Compare in these words.
-/
import Derived.Test.YtgomfgebcljnbaaDoorFAwake
namespace Go.Proofs.YtgomfgebcljnbaaDoor
open Go.RowKit FixMath
set_option maxRecDepth 100000
set_option linter.unusedVariables false
set_option linter.unusedSimpArgs false

def valZ (a : Int) (d : Nat) : Int := a * unitN (6 - d)
theorem parts_val (a : Int) (d : Nat) (hd : d ≤ 6) : valZ a d = 1000000 * wholeZ a d + restZ a d ∧ (-1000000 < restZ a d ∧ restZ a d < 1000000) ∧ (0 ≤ a → 0 ≤ wholeZ a d ∧ 0 ≤ restZ a d) ∧ (a ≤ 0 → wholeZ a d ≤ 0 ∧ restZ a d ≤ 0) := by
  have hu := unitN_pos hd
  have hv := unitN_pos (d := 6 - d) (by omega)
  have hm := unitN_mul (a := d) (b := 6 - d) (by omega)
  have e6 : unitN (d + (6 - d)) = 1000000 := by rw [show d + (6 - d) = 6 by omega]; rfl
  rw [e6] at hm
  have hmZ : (unitN d : Int) * (unitN (6 - d) : Int) = 1000000 := by rw [← Int.natCast_mul, hm]; rfl
  unfold valZ wholeZ restZ
  have hq := Int.mul_tdiv_add_tmod a (unitN d)
  have h2 : (a.tmod (unitN d)).natAbs = a.natAbs % unitN d := by rw [Int.natAbs_tmod]; simp
  have h2' : a.natAbs % unitN d < unitN d := Nat.mod_lt _ (by omega)
  have h3 : (a.tmod (unitN d) * unitN (6 - d)).natAbs = a.natAbs % unitN d * unitN (6 - d) := by rw [Int.natAbs_mul, h2]; simp
  have h3' : a.natAbs % unitN d * unitN (6 - d) < unitN d * unitN (6 - d) := Nat.mul_lt_mul_of_pos_right h2' (by omega)
  rw [hm] at h3'
  have s1 : 0 ≤ a → 0 ≤ a.tdiv (unitN d) ∧ 0 ≤ a.tmod (unitN d) := fun h => ⟨Int.tdiv_nonneg h (by omega), Int.tmod_nonneg _ h⟩
  have s2 : a ≤ 0 → a.tdiv (unitN d) ≤ 0 ∧ a.tmod (unitN d) ≤ 0 := fun h => by
    have e1 : a.tdiv (unitN d) = -((-a).tdiv (unitN d)) := by rw [Int.neg_tdiv]; omega
    have e2 : a.tmod (unitN d) = -((-a).tmod (unitN d)) := by rw [Int.neg_tmod]; omega
    have k1 := Int.tdiv_nonneg (a := -a) (b := unitN d) (by omega) (by omega)
    have k2 := Int.tmod_nonneg (a := -a) (unitN d : Int) (by omega)
    omega
  have r1 : 0 ≤ a.tmod (unitN d) → 0 ≤ a.tmod (unitN d) * unitN (6 - d) := fun h => Int.mul_nonneg h (by omega)
  have r2 : a.tmod (unitN d) ≤ 0 → a.tmod (unitN d) * unitN (6 - d) ≤ 0 := fun h => Int.mul_nonpos_of_nonpos_of_nonneg h (by omega)
  refine ⟨?_, by omega, fun h => ⟨(s1 h).1, r1 (s1 h).2⟩, fun h => ⟨(s2 h).1, r2 (s2 h).2⟩⟩
  conv => lhs; rw [← hq]
  rw [Int.add_mul, ← hmZ, Int.mul_assoc, Int.mul_assoc, Int.mul_comm (a.tdiv (unitN d)) (unitN (6 - d) : Int)]
theorem cmp_val (a : Int) (da : Nat) (b : Int) (db : Nat) (ha : da ≤ 6) (hb : db ≤ 6) : cmpRes a da b db = cmpZ (valZ a da) (valZ b db) := by
  obtain ⟨a1, a2, a3, a4⟩ := parts_val a da ha
  obtain ⟨b1, b2, b3, b4⟩ := parts_val b db hb
  unfold cmpRes
  rw [a1, b1]
  generalize wholeZ a da = x at *
  generalize restZ a da = p at *
  generalize wholeZ b db = y at *
  generalize restZ b db = q at *
  unfold cmpZ
  by_cases h : x = y
  · rw [if_pos h]
    subst h
    by_cases h1 : p < q
    · rw [if_pos h1, if_pos (by omega)]
    · rw [if_neg h1, if_neg (show ¬ (1000000 * x + p < 1000000 * x + q) by omega)]
      by_cases h2 : q < p
      · rw [if_pos h2, if_pos (by omega)]
      · rw [if_neg h2, if_neg (by omega)]
  · rw [if_neg h]
    by_cases h1 : x < y
    · rw [if_pos h1, if_pos]
      rcases Int.le_total 0 a with p1 | p1 <;> rcases Int.le_total 0 b with p2 | p2 <;> simp [p1, p2] at a3 a4 b3 b4 <;> omega
    · rw [if_neg h1, if_pos (by omega)]
      have : 1000000 * y + q < 1000000 * x + p := by
        rcases Int.le_total 0 a with p1 | p1 <;> rcases Int.le_total 0 b with p2 | p2 <;> simp [p1, p2] at a3 a4 b3 b4 <;> omega
      rw [if_neg (by omega), if_pos this]
theorem cmpZ_in (a b : Int) : -1 ≤ cmpZ a b ∧ cmpZ a b ≤ 1 := by unfold cmpZ; split <;> (try split) <;> omega
theorem valZ_mul {a b : Int} {d : Nat} (hd : d ≤ 6) : (a < b ↔ valZ a d < valZ b d) := by
  have hv := unitN_pos (d := 6 - d) (by omega)
  unfold valZ
  constructor
  · intro h; exact Int.mul_lt_mul_of_pos_right h (by omega)
  · intro h; exact Int.lt_of_mul_lt_mul_right h (by omega)

/-- Compare of two that may be: its answer, and what that says. -/
theorem cmpC (a : Int) (da : Nat) (b : Int) (db : Nat) (h1 : countsB a da = true) (h2 : countsB b db = true) :
    ∃ c : Int, c = cmpZ (valZ a da) (valZ b db) ∧ -1 ≤ c ∧ c ≤ 1 ∧ ∀ W, Units W → Calls Tryd.prog 20 #[.int .i64 a, .int .u8 da, .int .i64 b, .int .u8 db] W fun e w' => e = .returned (.tuple #[.int .i64 c, .int .i64 0]) ∧ Dr W w' := by
  have e := cmp_val a da b db (countsB_out h1).2.2 (countsB_out h2).2.2
  refine ⟨_, rfl, (cmpZ_in _ _).1, (cmpZ_in _ _).2, fun W hu => ?_⟩
  have := compare_any a da b db W hu
  rw [cmpV_t h1 h2 e] at this
  exact this
end Go.Proofs.YtgomfgebcljnbaaDoor
