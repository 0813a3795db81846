/-
  WALKS: two spans: valid, Meet, Within, Hold of the program.
-/
import Derived.Test.YtadbbpfnedbhcaaSMay
namespace Go.Proofs.Ytadbbpfnedbhcaa
open Go.RowKit FixMath
set_option maxRecDepth 100000
set_option linter.unusedVariables false

def validB (a b c d : Int) : Bool := decide (spanE a b = 0 ∧ spanE c d = 0)
theorem validB_t {a b c d : Int} (h : spanE a b = 0) (k : spanE c d = 0) : validB a b c d = true := by simp [validB, h, k]
theorem validB_f {a b c d : Int} (h : ¬ (spanE a b = 0 ∧ spanE c d = 0)) : validB a b c d = false := by unfold validB; rw [decide_eq_false h]
theorem valid_any (a b c d : Int) (w : World) : Calls Try.prog 31 #[sp a b, sp c d] w fun e w' => e = .returned (.bool (validB a b c d)) ∧ Below w.heap.size w w' := by
  have hb : Below w.heap.size w w := Below.refl _ _
  by_cases h1 : spanE a b = 0
  · have C1 := fun W => Lib.hid (spanMay_eq h1 W)
    obtain ⟨e2, h2⟩ : ∃ e2, spanE c d = e2 := ⟨_, rfl⟩
    have C2 := fun W => Lib.hid (spanMay_eq h2 W)
    have HV : Hid (validB a b c d = decide (e2 = 0)) := Lib.hid (by unfold validB; rw [h1, h2]; simp)
    clear h1 h2
    go_enter Try.func31, Try.ntmps31
    go_wp2_with (go_at_call 10; first
      | ((with_reducible refine (C1 _).out.mono ?_); rintro e w1 ⟨rfl, k1⟩; replace hb := bThen (bAl (bAl hb _) _) k1; have m1 := ((At2.new _ _ _ _).al _).then k1; have m2 := (At2.new _ _ _ _).then k1; simp at m2; have c0 := m2.c0; have c1 := m2.c1)
      | ((with_reducible refine (C2 _).out.mono ?_); rintro e w2 ⟨rfl, k2⟩; replace hb := bThen hb k2))
    go_ret
    exact ⟨by rw [HV.out]; rfl, hb⟩
  · have HV := Lib.hid (validB_f (a := a) (b := b) (c := c) (d := d) (fun h => h1 h.1))
    obtain ⟨e0, he⟩ : ∃ e0, spanE a b = e0 := ⟨_, rfl⟩
    have C1 := fun W => Lib.hid (spanMay_eq he W)
    rw [he] at h1
    clear he
    go_enter Try.func31, Try.ntmps31
    go_wp2_with (go_at_call 10; ((with_reducible refine (C1 _).out.mono ?_); rintro e w1 ⟨rfl, k1⟩; replace hb := bThen (bAl (bAl hb _) _) k1))
    go_ret
    exact ⟨by rw [HV.out]; rfl, hb⟩

theorem meet_t (a b c d x y : Int) (w : World) (h : spanE a b = 0) (k : spanE c d = 0) (hx : (a < c ∧ x = c) ∨ (¬ a < c ∧ x = a)) (hy : (d < b ∧ y = d) ∨ (¬ d < b ∧ y = b)) (l : x ≤ y) :
    Calls Try.prog 17 #[sp a b, sp c d] w fun e w' => e = .returned (.tuple #[sp x y, .bool true]) ∧ Below w.heap.size w w' := by
  have hb : Below w.heap.size w w := Below.refl _ _
  have CV := fun W => Lib.hid (validB_t h k ▸ valid_any a b c d W)
  have hs : spanE x y = 0 := by have := spanE_iff.1 h; have := spanE_iff.1 k; rw [spanE_iff]; omega
  have CM := fun W => Lib.hid (spanMay_eq hs W)
  clear h k l hs
  rcases hx with ⟨h1, rfl⟩ | ⟨h1, rfl⟩
  all_goals rcases hy with ⟨h2, rfl⟩ | ⟨h2, rfl⟩
  all_goals
      go_enter Try.func17, Try.ntmps17
      go_wp2_with (first
        | (go_at_call 31; ((with_reducible refine (CV _).out.mono ?_); rintro e w1 ⟨rfl, k1⟩; replace hb := bThen (bAl (bAl (bAl (bAl hb _) _) _) _) k1; have m1 := (At2.new _ _ _ _).then k1; have r1 := ((At2.new _ _ _ _).al _).then k1; simp at m1 r1; have c0 := m1.c0; have c1 := m1.c1; have r0 := r1.c0; have r2 := r1.c1; have g0 := r1.f0; have g1 := r1.f1))
        | (go_at_call 10; ((with_reducible refine (CM _).out.mono ?_); rintro e w2 ⟨rfl, k2⟩; replace hb := bThen hb k2; have m2 := m1.then k2; have r2 := r1.then k2; have d0 := m2.c0; have d1 := m2.c1; have e0 := r2.c0; have e1 := r2.c1; have f0 := r2.f0; have f1 := r2.f1)))
      exact ret_sp_tmp rfl rfl rfl rfl (r2.set _ _) ⟨rfl, bSet hb (by omega) _ _⟩

theorem meet_f (a b c d x y : Int) (w : World) (h : spanE a b = 0) (k : spanE c d = 0) (hx : (a < c ∧ x = c) ∨ (¬ a < c ∧ x = a)) (hy : (d < b ∧ y = d) ∨ (¬ d < b ∧ y = b)) (l : y < x) :
    Calls Try.prog 17 #[sp a b, sp c d] w fun e w' => e = .returned (.tuple #[sp 0 0, .bool false]) ∧ Below w.heap.size w w' := by
  have hb : Below w.heap.size w w := Below.refl _ _
  have CV := fun W => Lib.hid (validB_t h k ▸ valid_any a b c d W)
  have hs : spanE x y = 30 := by have := spanE_iff.1 h; have := spanE_iff.1 k; exact spanE_3 (mayB_iff.2 (by omega)) (mayB_iff.2 (by omega)) l
  have CM := fun W => Lib.hid (spanMay_eq hs W)
  clear h k l hs
  rcases hx with ⟨h1, rfl⟩ | ⟨h1, rfl⟩
  all_goals rcases hy with ⟨h2, rfl⟩ | ⟨h2, rfl⟩
  all_goals
      go_enter Try.func17, Try.ntmps17
      go_wp2_with (first
        | (go_at_call 31; ((with_reducible refine (CV _).out.mono ?_); rintro e w1 ⟨rfl, k1⟩; replace hb := bThen (bAl (bAl (bAl (bAl hb _) _) _) _) k1; have m1 := (At2.new _ _ _ _).then k1; have r1 := ((At2.new _ _ _ _).al _).then k1; simp at m1 r1; have c0 := m1.c0; have c1 := m1.c1; have r0 := r1.c0; have r2 := r1.c1; have g0 := r1.f0; have g1 := r1.f1))
        | (go_at_call 10; ((with_reducible refine (CM _).out.mono ?_); rintro e w2 ⟨rfl, k2⟩; replace hb := bThen hb k2; have m2 := m1.then k2; have r2 := r1.then k2; have d0 := m2.c0; have d1 := m2.c1; have e0 := r2.c0; have e1 := r2.c1; have f0 := r2.f0; have f1 := r2.f1)))
      exact ret_sp_tmp rfl rfl rfl rfl (r2.set _ _) ⟨rfl, bSet hb (by omega) _ _⟩

theorem meet_n (a b c d : Int) (w : World) (h : ¬ (spanE a b = 0 ∧ spanE c d = 0)) :
    Calls Try.prog 17 #[sp a b, sp c d] w fun e w' => e = .returned (.tuple #[sp 0 0, .bool false]) ∧ Below w.heap.size w w' := by
  have hb : Below w.heap.size w w := Below.refl _ _
  have CV := fun W => Lib.hid (validB_f h ▸ valid_any a b c d W)
  clear h
  go_enter Try.func17, Try.ntmps17
  go_wp2_with (go_at_call 31; ((with_reducible refine (CV _).out.mono ?_); rintro e w1 ⟨rfl, k1⟩; replace hb := bThen (bAl (bAl (bAl (bAl hb _) _) _) _) k1; have r1 := ((At2.new _ _ _ _).al _).then k1; simp at r1; have r0 := r1.c0; have r2 := r1.c1; have g0 := r1.f0; have g1 := r1.f1))
  all_goals exact ret_sp_tmp rfl rfl rfl rfl (r1.set _ _) ⟨rfl, bSet hb (by omega) _ _⟩
def overB (a b c d : Int) : Prop := spanE a b = 0 ∧ spanE c d = 0 ∧ max a c ≤ min b d
instance (a b c d : Int) : Decidable (overB a b c d) := by unfold overB; infer_instance
def meetX (a b c d : Int) : Int := if overB a b c d then max a c else 0
def meetY (a b c d : Int) : Int := if overB a b c d then min b d else 0
theorem meet_any (a b c d : Int) (w : World) :
    Calls Try.prog 17 #[sp a b, sp c d] w fun e w' => e = .returned (.tuple #[sp (meetX a b c d) (meetY a b c d), .bool (decide (overB a b c d))]) ∧ Below w.heap.size w w' := by
  by_cases h : overB a b c d
  · unfold meetX meetY
    rw [if_pos h, if_pos h, decide_eq_true h]
    exact meet_t a b c d _ _ w h.1 h.2.1 (by omega) (by omega) h.2.2
  · unfold meetX meetY
    rw [if_neg h, if_neg h, decide_eq_false h]
    by_cases k : spanE a b = 0 ∧ spanE c d = 0
    · exact meet_f a b c d (max a c) (min b d) w k.1 k.2 (by omega) (by omega) (by have : ¬ max a c ≤ min b d := fun l => h ⟨k.1, k.2, l⟩; omega)
    · exact meet_n a b c d w k
def withinB (a b c d : Int) : Bool := decide (spanE a b = 0 ∧ spanE c d = 0 ∧ c ≤ a ∧ b ≤ d)
theorem withinB_meet (a b c d : Int) : withinB a b c d = (decide (overB a b c d) && (decide (meetX a b c d = a) && decide (meetY a b c d = b))) := by
  unfold withinB
  rw [← Bool.decide_and, ← Bool.decide_and]
  congr 1
  apply propext
  constructor
  · rintro ⟨h, k, l, m⟩
    have := spanE_iff.1 h
    have ho : overB a b c d := ⟨h, k, by omega⟩
    refine ⟨ho, ?_, ?_⟩
    · unfold meetX; rw [if_pos ho]; omega
    · unfold meetY; rw [if_pos ho]; omega
  · rintro ⟨ho, hx, hy⟩
    unfold meetX at hx; rw [if_pos ho] at hx
    unfold meetY at hy; rw [if_pos ho] at hy
    exact ⟨ho.1, ho.2.1, by omega, by omega⟩
theorem within_any (a b c d : Int) (w : World) : Calls Try.prog 19 #[sp a b, sp c d] w fun e w' => e = .returned (.bool (withinB a b c d)) ∧ Below w.heap.size w w' := by
  have hb : Below w.heap.size w w := Below.refl _ _
  have CM := fun W => Lib.hid (meet_any a b c d W)
  have HV := Lib.hid (withinB_meet a b c d)
  generalize meetX a b c d = x at *
  generalize meetY a b c d = y at *
  generalize decide (overB a b c d) = q at *
  go_enter Try.func19, Try.ntmps19
  go_wp2_with (go_at_call 17; ((with_reducible refine (CM _).out.mono ?_); rintro e w1 ⟨rfl, k1⟩; replace hb := bThen (bAl (bAl hb _) _) k1; have m1 := ((At2.new _ _ _ _).al _).then k1; have lt := m1.lt; have c0 := m1.c0; have c1 := m1.c1))
  all_goals
    go_ret
    exact ⟨by rw [HV.out]; simp [*], bAl hb _⟩
def holdX (a b c d : Int) : Int := if validB a b c d = true then min a c else 0
def holdY (a b c d : Int) : Int := if validB a b c d = true then max b d else 0
theorem hold_t (a b c d x y : Int) (w : World) (h : spanE a b = 0) (k : spanE c d = 0) (hx : (c < a ∧ x = c) ∨ (¬ c < a ∧ x = a)) (hy : (b < d ∧ y = d) ∨ (¬ b < d ∧ y = b)) :
    Calls Try.prog 21 #[sp a b, sp c d] w fun e w' => e = .returned (sp x y) ∧ Below w.heap.size w w' := by
  have hb : Below w.heap.size w w := Below.refl _ _
  have CV := fun W => Lib.hid (validB_t h k ▸ valid_any a b c d W)
  clear h k
  rcases hx with ⟨h1, rfl⟩ | ⟨h1, rfl⟩
  all_goals rcases hy with ⟨h2, rfl⟩ | ⟨h2, rfl⟩
  all_goals
      go_enter Try.func21, Try.ntmps21
      go_wp2_with (go_at_call 31; ((with_reducible refine (CV _).out.mono ?_); rintro e w1 ⟨rfl, k1⟩; replace hb := bThen (bAl (bAl (bAl hb _) _) _) k1; have r1 := (At2.new _ _ _ _).then k1; have s1 := (((At2.new _ _ _ _).al _).al _).then k1; have t1 := ((At2.new _ _ _ _).al _).then k1; simp at r1 s1 t1; have s0 := s1.c0; have s2 := s1.c1; have t0 := t1.c0; have t2 := t1.c1; have r0 := r1.c0; have r2 := r1.c1; have g0 := r1.f0; have g1 := r1.f1))
      exact ret_sp rfl rfl rfl (r1.set _ _) ⟨rfl, bSet hb (by omega) _ _⟩
theorem hold_n (a b c d : Int) (w : World) (h : ¬ (spanE a b = 0 ∧ spanE c d = 0)) :
    Calls Try.prog 21 #[sp a b, sp c d] w fun e w' => e = .returned (sp 0 0) ∧ Below w.heap.size w w' := by
  have hb : Below w.heap.size w w := Below.refl _ _
  have CV := fun W => Lib.hid (validB_f h ▸ valid_any a b c d W)
  clear h
  go_enter Try.func21, Try.ntmps21
  go_wp2_with (go_at_call 31; ((with_reducible refine (CV _).out.mono ?_); rintro e w1 ⟨rfl, k1⟩; replace hb := bThen (bAl (bAl (bAl hb _) _) _) k1; have r1 := (At2.new _ _ _ _).then k1; simp at r1; have r0 := r1.c0; have r2 := r1.c1; have g0 := r1.f0; have g1 := r1.f1))
  exact ret_sp rfl rfl rfl (r1.set _ _) ⟨rfl, bSet hb (by omega) _ _⟩
theorem hold_any (a b c d : Int) (w : World) : Calls Try.prog 21 #[sp a b, sp c d] w fun e w' => e = .returned (sp (holdX a b c d) (holdY a b c d)) ∧ Below w.heap.size w w' := by
  by_cases k : spanE a b = 0 ∧ spanE c d = 0
  · unfold holdX holdY
    rw [if_pos (validB_t k.1 k.2), if_pos (validB_t k.1 k.2)]
    exact hold_t a b c d _ _ w k.1 k.2 (by omega) (by omega)
  · unfold holdX holdY
    have := validB_f k
    rw [if_neg (by simp [this]), if_neg (by simp [this])]
    exact hold_n a b c d w k
end Go.Proofs.Ytadbbpfnedbhcaa
