/-
  WALKS: two spans: the document's Meet, Within, Hold.
-/
import Derived.Test.YtadbbpfnedbhcaaSMeet
namespace Go.Proofs.Ytadbbpfnedbhcaa
open Go.RowKit FixMath
set_option maxRecDepth 100000
set_option linter.unusedVariables false

theorem refMeet_n (a b c d : Int) (w : World) (h : ¬ (spanE a b = 0 ∧ spanE c d = 0)) :
    Calls Try.prog 18 #[sp a b, sp c d] w fun e w' => e = .returned (.tuple #[sp 0 0, .bool false]) ∧ Below w.heap.size w w' := by
  have hb : Below w.heap.size w w := Below.refl _ _
  obtain ⟨e1, h1⟩ : ∃ e1, spanE a b = e1 := ⟨_, rfl⟩
  obtain ⟨e2, h2⟩ : ∃ e2, spanE c d = e2 := ⟨_, rfl⟩
  have C1 := fun W => Lib.hid (refSpanMay_eq h1 W)
  have C2 := fun W => Lib.hid (refSpanMay_eq h2 W)
  rw [h1, h2] at h
  clear h1 h2
  by_cases n1 : e1 = 0
  · subst n1
    have n2 : ¬ e2 = 0 := fun k => h ⟨rfl, k⟩
    clear h
    go_enter Try.func18, Try.ntmps18
    go_wp2_with (go_at_call 11; first | ((with_reducible refine (C1 _).out.mono ?_); rintro e w1 ⟨rfl, k1⟩; replace hb := bThen (bAl (bAl (bAl hb _) _) _) k1; have s1 := (((At2.new _ _ _ _).al _).al _).then k1; have t1 := ((At2.new _ _ _ _).al _).then k1; have r1 := (At2.new _ _ _ _).then k1; simp at s1 t1 r1; have sa1 := s1.c0; have sb1 := s1.c1; have sf1 := s1.f0; have sg1 := s1.f1; have ta1 := t1.c0; have tb1 := t1.c1; have tf1 := t1.f0; have tg1 := t1.f1; have ra1 := r1.c0; have rb1 := r1.c1; have rf1 := r1.f0; have rg1 := r1.f1) | ((with_reducible refine (C2 _).out.mono ?_); rintro e w2 ⟨rfl, k2⟩; replace hb := bThen hb k2; have s2 := s1.then k2; have t2 := t1.then k2; have r2 := r1.then k2; have sa2 := s2.c0; have sb2 := s2.c1; have sf2 := s2.f0; have sg2 := s2.f1; have ta2 := t2.c0; have tb2 := t2.c1; have tf2 := t2.f0; have tg2 := t2.f1; have ra2 := r2.c0; have rb2 := r2.c1; have rf2 := r2.f0; have rg2 := r2.f1))
    exact ret_sp_tmp rfl rfl rfl rfl (r2.set _ _) ⟨rfl, bSet hb (by omega) _ _⟩
  · clear h
    go_enter Try.func18, Try.ntmps18
    go_wp2_with (go_at_call 11; ((with_reducible refine (C1 _).out.mono ?_); rintro e w1 ⟨rfl, k1⟩; replace hb := bThen (bAl (bAl (bAl hb _) _) _) k1; have s1 := (((At2.new _ _ _ _).al _).al _).then k1; have t1 := ((At2.new _ _ _ _).al _).then k1; have r1 := (At2.new _ _ _ _).then k1; simp at s1 t1 r1; have sa1 := s1.c0; have sb1 := s1.c1; have sf1 := s1.f0; have sg1 := s1.f1; have ta1 := t1.c0; have tb1 := t1.c1; have tf1 := t1.f0; have tg1 := t1.f1; have ra1 := r1.c0; have rb1 := r1.c1; have rf1 := r1.f0; have rg1 := r1.f1))
    exact ret_sp_tmp rfl rfl rfl rfl (r1.set _ _) ⟨rfl, bSet hb (by omega) _ _⟩

theorem refHold_n (a b c d : Int) (w : World) (h : ¬ (spanE a b = 0 ∧ spanE c d = 0)) :
    Calls Try.prog 22 #[sp a b, sp c d] w fun e w' => e = .returned (sp 0 0) ∧ Below w.heap.size w w' := by
  have hb : Below w.heap.size w w := Below.refl _ _
  obtain ⟨e1, h1⟩ : ∃ e1, spanE a b = e1 := ⟨_, rfl⟩
  obtain ⟨e2, h2⟩ : ∃ e2, spanE c d = e2 := ⟨_, rfl⟩
  have C1 := fun W => Lib.hid (refSpanMay_eq h1 W)
  have C2 := fun W => Lib.hid (refSpanMay_eq h2 W)
  rw [h1, h2] at h
  clear h1 h2
  by_cases n1 : e1 = 0
  · subst n1
    have n2 : ¬ e2 = 0 := fun k => h ⟨rfl, k⟩
    clear h
    go_enter Try.func22, Try.ntmps22
    go_wp2_with (go_at_call 11; first | ((with_reducible refine (C1 _).out.mono ?_); rintro e w1 ⟨rfl, k1⟩; replace hb := bThen (bAl (bAl (bAl hb _) _) _) k1; have s1 := (((At2.new _ _ _ _).al _).al _).then k1; have t1 := ((At2.new _ _ _ _).al _).then k1; have r1 := (At2.new _ _ _ _).then k1; simp at s1 t1 r1; have sa1 := s1.c0; have sb1 := s1.c1; have sf1 := s1.f0; have sg1 := s1.f1; have ta1 := t1.c0; have tb1 := t1.c1; have tf1 := t1.f0; have tg1 := t1.f1; have ra1 := r1.c0; have rb1 := r1.c1; have rf1 := r1.f0; have rg1 := r1.f1) | ((with_reducible refine (C2 _).out.mono ?_); rintro e w2 ⟨rfl, k2⟩; replace hb := bThen hb k2; have s2 := s1.then k2; have t2 := t1.then k2; have r2 := r1.then k2; have sa2 := s2.c0; have sb2 := s2.c1; have sf2 := s2.f0; have sg2 := s2.f1; have ta2 := t2.c0; have tb2 := t2.c1; have tf2 := t2.f0; have tg2 := t2.f1; have ra2 := r2.c0; have rb2 := r2.c1; have rf2 := r2.f0; have rg2 := r2.f1))
    exact ret_sp rfl rfl rfl (r2.set _ _) ⟨rfl, bSet hb (by omega) _ _⟩
  · clear h
    go_enter Try.func22, Try.ntmps22
    go_wp2_with (go_at_call 11; ((with_reducible refine (C1 _).out.mono ?_); rintro e w1 ⟨rfl, k1⟩; replace hb := bThen (bAl (bAl (bAl hb _) _) _) k1; have s1 := (((At2.new _ _ _ _).al _).al _).then k1; have t1 := ((At2.new _ _ _ _).al _).then k1; have r1 := (At2.new _ _ _ _).then k1; simp at s1 t1 r1; have sa1 := s1.c0; have sb1 := s1.c1; have sf1 := s1.f0; have sg1 := s1.f1; have ta1 := t1.c0; have tb1 := t1.c1; have tf1 := t1.f0; have tg1 := t1.f1; have ra1 := r1.c0; have rb1 := r1.c1; have rf1 := r1.f0; have rg1 := r1.f1))
    exact ret_sp rfl rfl rfl (r1.set _ _) ⟨rfl, bSet hb (by omega) _ _⟩

theorem refMeet_f (a b c d : Int) (w : World) (h : spanE a b = 0) (k : spanE c d = 0) (l : b < c ∨ (¬ b < c ∧ d < a)) :
    Calls Try.prog 18 #[sp a b, sp c d] w fun e w' => e = .returned (.tuple #[sp 0 0, .bool false]) ∧ Below w.heap.size w w' := by
  have hb : Below w.heap.size w w := Below.refl _ _
  have C1 := fun W => Lib.hid (refSpanMay_eq h W)
  have C2 := fun W => Lib.hid (refSpanMay_eq k W)
  clear h k
  rcases l with l | ⟨l1, l2⟩
  all_goals
    go_enter Try.func18, Try.ntmps18
    go_wp2_with (go_at_call 11; first | ((with_reducible refine (C1 _).out.mono ?_); rintro e w1 ⟨rfl, k1⟩; replace hb := bThen (bAl (bAl (bAl hb _) _) _) k1; have s1 := (((At2.new _ _ _ _).al _).al _).then k1; have t1 := ((At2.new _ _ _ _).al _).then k1; have r1 := (At2.new _ _ _ _).then k1; simp at s1 t1 r1; have sa1 := s1.c0; have sb1 := s1.c1; have sf1 := s1.f0; have sg1 := s1.f1; have ta1 := t1.c0; have tb1 := t1.c1; have tf1 := t1.f0; have tg1 := t1.f1; have ra1 := r1.c0; have rb1 := r1.c1; have rf1 := r1.f0; have rg1 := r1.f1) | ((with_reducible refine (C2 _).out.mono ?_); rintro e w2 ⟨rfl, k2⟩; replace hb := bThen hb k2; have s2 := s1.then k2; have t2 := t1.then k2; have r2 := r1.then k2; have sa2 := s2.c0; have sb2 := s2.c1; have sf2 := s2.f0; have sg2 := s2.f1; have ta2 := t2.c0; have tb2 := t2.c1; have tf2 := t2.f0; have tg2 := t2.f1; have ra2 := r2.c0; have rb2 := r2.c1; have rf2 := r2.f0; have rg2 := r2.f1))
    exact ret_sp_tmp rfl rfl rfl rfl (r2.set _ _) ⟨rfl, bSet hb (by omega) _ _⟩

set_option maxHeartbeats 1000000 in
theorem refMeet_t (a b c d x y : Int) (w : World) (h : spanE a b = 0) (k : spanE c d = 0) (hx : (a < c ∧ x = c) ∨ (¬ a < c ∧ x = a)) (hy : (d < b ∧ y = d) ∨ (¬ d < b ∧ y = b)) (l : ¬ b < c) (m : ¬ d < a) :
    Calls Try.prog 18 #[sp a b, sp c d] w fun e w' => e = .returned (.tuple #[sp x y, .bool true]) ∧ Below w.heap.size w w' := by
  have hb : Below w.heap.size w w := Below.refl _ _
  have C1 := fun W => Lib.hid (refSpanMay_eq h W)
  have C2 := fun W => Lib.hid (refSpanMay_eq k W)
  clear h k
  rcases hx with ⟨h1, rfl⟩ | ⟨h1, rfl⟩
  · rcases hy with ⟨h2, rfl⟩ | ⟨h2, rfl⟩
    · skip
      go_enter Try.func18, Try.ntmps18
      go_wp2_with (go_at_call 11; first | ((with_reducible refine (C1 _).out.mono ?_); rintro e w1 ⟨rfl, k1⟩; replace hb := bThen (bAl (bAl (bAl hb _) _) _) k1; have s1 := (((At2.new _ _ _ _).al _).al _).then k1; have t1 := ((At2.new _ _ _ _).al _).then k1; have r1 := (At2.new _ _ _ _).then k1; simp at s1 t1 r1; have sa1 := s1.c0; have sb1 := s1.c1; have sf1 := s1.f0; have sg1 := s1.f1; have ta1 := t1.c0; have tb1 := t1.c1; have tf1 := t1.f0; have tg1 := t1.f1; have ra1 := r1.c0; have rb1 := r1.c1; have rf1 := r1.f0; have rg1 := r1.f1) | ((with_reducible refine (C2 _).out.mono ?_); rintro e w2 ⟨rfl, k2⟩; replace hb := bThen hb k2; have s2 := s1.then k2; have t2 := t1.then k2; have r2 := r1.then k2; have sa2 := s2.c0; have sb2 := s2.c1; have sf2 := s2.f0; have sg2 := s2.f1; have ta2 := t2.c0; have tb2 := t2.c1; have tf2 := t2.f0; have tg2 := t2.f1; have ra2 := r2.c0; have rb2 := r2.c1; have rf2 := r2.f0; have rg2 := r2.f1))
      exact ret_sp_tmp rfl rfl rfl rfl (((r2.store (by show w.heap.size ≠ _; omega) _).store (by show w.heap.size ≠ _; omega) _).set _ _) ⟨rfl, bSet (bStore (bStore hb (by simp) _) (by simp) _) (by omega) _ _⟩
    · skip
      go_enter Try.func18, Try.ntmps18
      go_wp2_with (go_at_call 11; first | ((with_reducible refine (C1 _).out.mono ?_); rintro e w1 ⟨rfl, k1⟩; replace hb := bThen (bAl (bAl (bAl hb _) _) _) k1; have s1 := (((At2.new _ _ _ _).al _).al _).then k1; have t1 := ((At2.new _ _ _ _).al _).then k1; have r1 := (At2.new _ _ _ _).then k1; simp at s1 t1 r1; have sa1 := s1.c0; have sb1 := s1.c1; have sf1 := s1.f0; have sg1 := s1.f1; have ta1 := t1.c0; have tb1 := t1.c1; have tf1 := t1.f0; have tg1 := t1.f1; have ra1 := r1.c0; have rb1 := r1.c1; have rf1 := r1.f0; have rg1 := r1.f1) | ((with_reducible refine (C2 _).out.mono ?_); rintro e w2 ⟨rfl, k2⟩; replace hb := bThen hb k2; have s2 := s1.then k2; have t2 := t1.then k2; have r2 := r1.then k2; have sa2 := s2.c0; have sb2 := s2.c1; have sf2 := s2.f0; have sg2 := s2.f1; have ta2 := t2.c0; have tb2 := t2.c1; have tf2 := t2.f0; have tg2 := t2.f1; have ra2 := r2.c0; have rb2 := r2.c1; have rf2 := r2.f0; have rg2 := r2.f1))
      exact ret_sp_tmp rfl rfl rfl rfl ((r2.store (by show w.heap.size ≠ _; omega) _).set _ _) ⟨rfl, bSet (bStore hb (by simp) _) (by omega) _ _⟩
  · rcases hy with ⟨h2, rfl⟩ | ⟨h2, rfl⟩
    · skip
      go_enter Try.func18, Try.ntmps18
      go_wp2_with (go_at_call 11; first | ((with_reducible refine (C1 _).out.mono ?_); rintro e w1 ⟨rfl, k1⟩; replace hb := bThen (bAl (bAl (bAl hb _) _) _) k1; have s1 := (((At2.new _ _ _ _).al _).al _).then k1; have t1 := ((At2.new _ _ _ _).al _).then k1; have r1 := (At2.new _ _ _ _).then k1; simp at s1 t1 r1; have sa1 := s1.c0; have sb1 := s1.c1; have sf1 := s1.f0; have sg1 := s1.f1; have ta1 := t1.c0; have tb1 := t1.c1; have tf1 := t1.f0; have tg1 := t1.f1; have ra1 := r1.c0; have rb1 := r1.c1; have rf1 := r1.f0; have rg1 := r1.f1) | ((with_reducible refine (C2 _).out.mono ?_); rintro e w2 ⟨rfl, k2⟩; replace hb := bThen hb k2; have s2 := s1.then k2; have t2 := t1.then k2; have r2 := r1.then k2; have sa2 := s2.c0; have sb2 := s2.c1; have sf2 := s2.f0; have sg2 := s2.f1; have ta2 := t2.c0; have tb2 := t2.c1; have tf2 := t2.f0; have tg2 := t2.f1; have ra2 := r2.c0; have rb2 := r2.c1; have rf2 := r2.f0; have rg2 := r2.f1))
      exact ret_sp_tmp rfl rfl rfl rfl ((r2.store (by show w.heap.size ≠ _; omega) _).set _ _) ⟨rfl, bSet (bStore hb (by simp) _) (by omega) _ _⟩
    · skip
      go_enter Try.func18, Try.ntmps18
      go_wp2_with (go_at_call 11; first | ((with_reducible refine (C1 _).out.mono ?_); rintro e w1 ⟨rfl, k1⟩; replace hb := bThen (bAl (bAl (bAl hb _) _) _) k1; have s1 := (((At2.new _ _ _ _).al _).al _).then k1; have t1 := ((At2.new _ _ _ _).al _).then k1; have r1 := (At2.new _ _ _ _).then k1; simp at s1 t1 r1; have sa1 := s1.c0; have sb1 := s1.c1; have sf1 := s1.f0; have sg1 := s1.f1; have ta1 := t1.c0; have tb1 := t1.c1; have tf1 := t1.f0; have tg1 := t1.f1; have ra1 := r1.c0; have rb1 := r1.c1; have rf1 := r1.f0; have rg1 := r1.f1) | ((with_reducible refine (C2 _).out.mono ?_); rintro e w2 ⟨rfl, k2⟩; replace hb := bThen hb k2; have s2 := s1.then k2; have t2 := t1.then k2; have r2 := r1.then k2; have sa2 := s2.c0; have sb2 := s2.c1; have sf2 := s2.f0; have sg2 := s2.f1; have ta2 := t2.c0; have tb2 := t2.c1; have tf2 := t2.f0; have tg2 := t2.f1; have ra2 := r2.c0; have rb2 := r2.c1; have rf2 := r2.f0; have rg2 := r2.f1))
      exact ret_sp_tmp rfl rfl rfl rfl (r2.set _ _) ⟨rfl, bSet hb (by omega) _ _⟩

set_option maxHeartbeats 1000000 in
theorem refHold_t (a b c d x y : Int) (w : World) (h : spanE a b = 0) (k : spanE c d = 0) (hx : (c < a ∧ x = c) ∨ (¬ c < a ∧ x = a)) (hy : (b < d ∧ y = d) ∨ (¬ b < d ∧ y = b)) :
    Calls Try.prog 22 #[sp a b, sp c d] w fun e w' => e = .returned (sp x y) ∧ Below w.heap.size w w' := by
  have hb : Below w.heap.size w w := Below.refl _ _
  have C1 := fun W => Lib.hid (refSpanMay_eq h W)
  have C2 := fun W => Lib.hid (refSpanMay_eq k W)
  clear h k
  rcases hx with ⟨h1, rfl⟩ | ⟨h1, rfl⟩
  · rcases hy with ⟨h2, rfl⟩ | ⟨h2, rfl⟩
    · skip
      go_enter Try.func22, Try.ntmps22
      go_wp2_with (go_at_call 11; first | ((with_reducible refine (C1 _).out.mono ?_); rintro e w1 ⟨rfl, k1⟩; replace hb := bThen (bAl (bAl (bAl hb _) _) _) k1; have s1 := (((At2.new _ _ _ _).al _).al _).then k1; have t1 := ((At2.new _ _ _ _).al _).then k1; have r1 := (At2.new _ _ _ _).then k1; simp at s1 t1 r1; have sa1 := s1.c0; have sb1 := s1.c1; have sf1 := s1.f0; have sg1 := s1.f1; have ta1 := t1.c0; have tb1 := t1.c1; have tf1 := t1.f0; have tg1 := t1.f1; have ra1 := r1.c0; have rb1 := r1.c1; have rf1 := r1.f0; have rg1 := r1.f1) | ((with_reducible refine (C2 _).out.mono ?_); rintro e w2 ⟨rfl, k2⟩; replace hb := bThen hb k2; have s2 := s1.then k2; have t2 := t1.then k2; have r2 := r1.then k2; have sa2 := s2.c0; have sb2 := s2.c1; have sf2 := s2.f0; have sg2 := s2.f1; have ta2 := t2.c0; have tb2 := t2.c1; have tf2 := t2.f0; have tg2 := t2.f1; have ra2 := r2.c0; have rb2 := r2.c1; have rf2 := r2.f0; have rg2 := r2.f1))
      exact ret_sp rfl rfl rfl (((r2.store (by show w.heap.size ≠ _; omega) _).store (by show w.heap.size ≠ _; omega) _).set _ _) ⟨rfl, bSet (bStore (bStore hb (by simp) _) (by simp) _) (by omega) _ _⟩
    · skip
      go_enter Try.func22, Try.ntmps22
      go_wp2_with (go_at_call 11; first | ((with_reducible refine (C1 _).out.mono ?_); rintro e w1 ⟨rfl, k1⟩; replace hb := bThen (bAl (bAl (bAl hb _) _) _) k1; have s1 := (((At2.new _ _ _ _).al _).al _).then k1; have t1 := ((At2.new _ _ _ _).al _).then k1; have r1 := (At2.new _ _ _ _).then k1; simp at s1 t1 r1; have sa1 := s1.c0; have sb1 := s1.c1; have sf1 := s1.f0; have sg1 := s1.f1; have ta1 := t1.c0; have tb1 := t1.c1; have tf1 := t1.f0; have tg1 := t1.f1; have ra1 := r1.c0; have rb1 := r1.c1; have rf1 := r1.f0; have rg1 := r1.f1) | ((with_reducible refine (C2 _).out.mono ?_); rintro e w2 ⟨rfl, k2⟩; replace hb := bThen hb k2; have s2 := s1.then k2; have t2 := t1.then k2; have r2 := r1.then k2; have sa2 := s2.c0; have sb2 := s2.c1; have sf2 := s2.f0; have sg2 := s2.f1; have ta2 := t2.c0; have tb2 := t2.c1; have tf2 := t2.f0; have tg2 := t2.f1; have ra2 := r2.c0; have rb2 := r2.c1; have rf2 := r2.f0; have rg2 := r2.f1))
      exact ret_sp rfl rfl rfl ((r2.store (by show w.heap.size ≠ _; omega) _).set _ _) ⟨rfl, bSet (bStore hb (by simp) _) (by omega) _ _⟩
  · rcases hy with ⟨h2, rfl⟩ | ⟨h2, rfl⟩
    · skip
      go_enter Try.func22, Try.ntmps22
      go_wp2_with (go_at_call 11; first | ((with_reducible refine (C1 _).out.mono ?_); rintro e w1 ⟨rfl, k1⟩; replace hb := bThen (bAl (bAl (bAl hb _) _) _) k1; have s1 := (((At2.new _ _ _ _).al _).al _).then k1; have t1 := ((At2.new _ _ _ _).al _).then k1; have r1 := (At2.new _ _ _ _).then k1; simp at s1 t1 r1; have sa1 := s1.c0; have sb1 := s1.c1; have sf1 := s1.f0; have sg1 := s1.f1; have ta1 := t1.c0; have tb1 := t1.c1; have tf1 := t1.f0; have tg1 := t1.f1; have ra1 := r1.c0; have rb1 := r1.c1; have rf1 := r1.f0; have rg1 := r1.f1) | ((with_reducible refine (C2 _).out.mono ?_); rintro e w2 ⟨rfl, k2⟩; replace hb := bThen hb k2; have s2 := s1.then k2; have t2 := t1.then k2; have r2 := r1.then k2; have sa2 := s2.c0; have sb2 := s2.c1; have sf2 := s2.f0; have sg2 := s2.f1; have ta2 := t2.c0; have tb2 := t2.c1; have tf2 := t2.f0; have tg2 := t2.f1; have ra2 := r2.c0; have rb2 := r2.c1; have rf2 := r2.f0; have rg2 := r2.f1))
      exact ret_sp rfl rfl rfl ((r2.store (by show w.heap.size ≠ _; omega) _).set _ _) ⟨rfl, bSet (bStore hb (by simp) _) (by omega) _ _⟩
    · skip
      go_enter Try.func22, Try.ntmps22
      go_wp2_with (go_at_call 11; first | ((with_reducible refine (C1 _).out.mono ?_); rintro e w1 ⟨rfl, k1⟩; replace hb := bThen (bAl (bAl (bAl hb _) _) _) k1; have s1 := (((At2.new _ _ _ _).al _).al _).then k1; have t1 := ((At2.new _ _ _ _).al _).then k1; have r1 := (At2.new _ _ _ _).then k1; simp at s1 t1 r1; have sa1 := s1.c0; have sb1 := s1.c1; have sf1 := s1.f0; have sg1 := s1.f1; have ta1 := t1.c0; have tb1 := t1.c1; have tf1 := t1.f0; have tg1 := t1.f1; have ra1 := r1.c0; have rb1 := r1.c1; have rf1 := r1.f0; have rg1 := r1.f1) | ((with_reducible refine (C2 _).out.mono ?_); rintro e w2 ⟨rfl, k2⟩; replace hb := bThen hb k2; have s2 := s1.then k2; have t2 := t1.then k2; have r2 := r1.then k2; have sa2 := s2.c0; have sb2 := s2.c1; have sf2 := s2.f0; have sg2 := s2.f1; have ta2 := t2.c0; have tb2 := t2.c1; have tf2 := t2.f0; have tg2 := t2.f1; have ra2 := r2.c0; have rb2 := r2.c1; have rf2 := r2.f0; have rg2 := r2.f1))
      exact ret_sp rfl rfl rfl (r2.set _ _) ⟨rfl, bSet hb (by omega) _ _⟩

theorem refMeet_any (a b c d : Int) (w : World) :
    Calls Try.prog 18 #[sp a b, sp c d] w fun e w' => e = .returned (.tuple #[sp (meetX a b c d) (meetY a b c d), .bool (decide (overB a b c d))]) ∧ Below w.heap.size w w' := by
  by_cases h : overB a b c d
  · unfold meetX meetY
    rw [if_pos h, if_pos h, decide_eq_true h]
    have := spanE_iff.1 h.1; have := spanE_iff.1 h.2.1; have := h.2.2
    exact refMeet_t a b c d _ _ w h.1 h.2.1 (by omega) (by omega) (by omega) (by omega)
  · unfold meetX meetY
    rw [if_neg h, if_neg h, decide_eq_false h]
    by_cases k : spanE a b = 0 ∧ spanE c d = 0
    · have := spanE_iff.1 k.1; have := spanE_iff.1 k.2
      exact refMeet_f a b c d w k.1 k.2 (by have : ¬ max a c ≤ min b d := fun l => h ⟨k.1, k.2, l⟩; omega)
    · exact refMeet_n a b c d w k
theorem refHold_any (a b c d : Int) (w : World) : Calls Try.prog 22 #[sp a b, sp c d] w fun e w' => e = .returned (sp (holdX a b c d) (holdY a b c d)) ∧ Below w.heap.size w w' := by
  by_cases k : spanE a b = 0 ∧ spanE c d = 0
  · unfold holdX holdY
    rw [if_pos (validB_t k.1 k.2), if_pos (validB_t k.1 k.2)]
    exact refHold_t a b c d _ _ w k.1 k.2 (by omega) (by omega)
  · unfold holdX holdY
    have := validB_f k
    rw [if_neg (by simp [this]), if_neg (by simp [this])]
    exact refHold_n a b c d w k

theorem withinB_side (a b c d : Int) : withinB a b c d = (decide (spanE a b = 0) && (decide (spanE c d = 0) && (decide (sideV c d a = 1) && decide (sideV c d b = 1)))) := by
  have h1 := sideV_has c d a
  have h2 := sideV_has c d b
  rw [← h1, ← h2]
  unfold hasB withinB
  rw [← Bool.decide_and, ← Bool.decide_and, ← Bool.decide_and]
  congr 1
  apply propext
  constructor
  · rintro ⟨h, k, l, m⟩
    have := spanE_iff.1 h
    exact ⟨h, k, ⟨by omega, by omega⟩, ⟨by omega, by omega⟩⟩
  · rintro ⟨h, k, l, m⟩
    exact ⟨h, k, l.1, m.2⟩
theorem refWithin_any (a b c d : Int) (w : World) : Calls Try.prog 20 #[sp a b, sp c d] w fun e w' => e = .returned (.bool (withinB a b c d)) ∧ Below w.heap.size w w' := by
  have hb : Below w.heap.size w w := Below.refl _ _
  have C1 := fun W => Lib.hid (refSpanMay_any a b W)
  have C2 := fun W => Lib.hid (refSpanMay_any c d W)
  have C3 := fun W => Lib.hid (refSide_any c d a W)
  have C4 := fun W => Lib.hid (refSide_any c d b W)
  have HV := Lib.hid (withinB_side a b c d)
  generalize spanE a b = e1 at *
  generalize spanE c d = e2 at *
  generalize sideV c d a = e3 at *
  generalize sideV c d b = e4 at *
  go_enter Try.func20, Try.ntmps20
  go_wp2_with (first
    | (go_at_call 11; first
      | ((with_reducible refine (C1 _).out.mono ?_); rintro e w1 ⟨rfl, k1⟩; replace hb := bThen (bAl (bAl hb _) _) k1; have s1 := ((At2.new _ _ _ _).al _).then k1; have t1 := (At2.new _ _ _ _).then k1; simp at s1 t1; have c0 := s1.c0; have c1 := s1.c1; have d0 := t1.c0; have d1 := t1.c1)
      | ((with_reducible refine (C2 _).out.mono ?_); rintro e w2 ⟨rfl, k2⟩; replace hb := bThen hb k2; replace s1 := s1.then k2; replace t1 := t1.then k2; have c0 := s1.c0; have c1 := s1.c1; have d0 := t1.c0; have d1 := t1.c1))
    | (go_at_call 13; first
      | ((with_reducible refine (C3 _).out.mono ?_); rintro e w3 ⟨rfl, k3⟩; replace hb := bThen hb k3; replace s1 := s1.then k3; replace t1 := t1.then k3; have c0 := s1.c0; have c1 := s1.c1; have d0 := t1.c0; have d1 := t1.c1)
      | ((with_reducible refine (C4 _).out.mono ?_); rintro e w3 ⟨rfl, k3⟩; replace hb := bThen hb k3)))
  all_goals
    go_ret
    exact ⟨by rw [HV.out]; first | (simp [*]; done) | (simp [*]; rfl), hb⟩

end Go.Proofs.Ytadbbpfnedbhcaa
