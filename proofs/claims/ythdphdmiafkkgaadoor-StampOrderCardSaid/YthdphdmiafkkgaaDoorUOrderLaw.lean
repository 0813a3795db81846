/-
  The law StampOrder walked.
-/
import Derived.Test.YthdphdmiafkkgaaDoorUAwake
namespace Go.Proofs.YthdphdmiafkkgaaDoor.UX
open Go.RowKit FixMath
set_option maxRecDepth 100000
set_option linter.unusedVariables false
set_option linter.unusedSimpArgs false

set_option maxHeartbeats 4000000 in
theorem order_walk (a b c d p q : Int) (w : World) (hE : Env w) : Calls Tryd.prog 8 #[sp a b, sp c d, sp p q] w fun e w' => e = .returned (.bool true) ∧ Below w.heap.size w w' := by
  have hb : Below w.heap.size w w := Below.refl _ _
  have CA := Lib.hid (awake15_any _ (hE.then (bAl (bAl (bAl hb (.cells #[.int .i64 a, .int .i64 b] 23)) (.cells #[.int .i64 c, .int .i64 d] 23)) (.cells #[.int .i64 p, .int .i64 q] 23))))
  have C1 := Lib.hid (fun W => stOf_any a b c d W)
  have C2 := Lib.hid (fun W => stOf_any c d a b W)
  have C3 := Lib.hid (fun W => stOf_any c d p q W)
  have C4 := Lib.hid (fun W => stOf_any a b p q W)
  have hQ := fun W => run_eqSt W a b c d
  have hc := ofS_cases a b c d
  have hm := ofS_mirror a b c d
  have hm2 := ofS_mirror c d a b
  have hs : eqS a b c d = decide (ofS a b c d = 0) := by
    unfold eqS
    have := @ofS_same a b c d
    rw [Bool.eq_iff_iff, decide_eq_true_eq, decide_eq_true_eq, this]
  have ht := @ofS_trans a b c d p q
  have hc2 := ofS_cases c d p q
  have hr := ofS_cases c d a b
  rw [hs] at hQ
  clear hE hs
  generalize ofS a b c d = x at *
  generalize ofS c d a b = y at *
  generalize ofS c d p q = z at *
  generalize ofS a b p q = v at *
  rcases hc with rfl | rfl | rfl | rfl
  · obtain rfl : y = 0 := by
      rcases hr with rfl | rfl | rfl | rfl <;> (simp at hm hm2 ⊢)
    have hQ2 := fun W => (hQ W).trans (by rw [show decide ((0 : Int) = 0) = true by decide])
    clear hQ hm hm2 hr
    clear ht hc2
    go_enter Tryd.func8, Tryd.ntmps8
    go_wp2_with (go_at_call 17; ((refine CA.out.mono ?_); rintro e w1 ⟨rfl, k1⟩; replace hb := bThen (bAl (bAl (bAl hb _) _) _) k1; have m1 := (((At2.new w a b 23).al _).al _).then k1; have m2 := ((At2.new (w.alloc (.cells #[.int .i64 a, .int .i64 b] 23)) c d 23).al _).then k1; have m3 := (At2.new ((w.alloc (.cells #[.int .i64 a, .int .i64 b] 23)).alloc (.cells #[.int .i64 c, .int .i64 d] 23)) p q 23).then k1; simp at m2 m3))
    have hP : ∀ W', Below w1.heap.size w1 W' → ((W'.cell? ⟨w.heap.size, 0, none⟩ = some (.int .i64 a) ∧ W'.cell? ⟨w.heap.size, 1, none⟩ = some (.int .i64 b) ∧ W'.cell? ⟨w.heap.size + 1, 0, none⟩ = some (.int .i64 c) ∧ W'.cell? ⟨w.heap.size + 1, 1, none⟩ = some (.int .i64 d)) ∧ Below w1.heap.size w1 W') := fun W' k => ⟨⟨(m1.then k).c0, (m1.then k).c1, (m2.then k).c0, (m2.then k).c1⟩, k⟩
    go_region_held3 (fun W' => (W'.cell? ⟨w.heap.size, 0, none⟩ = some (.int .i64 a) ∧ W'.cell? ⟨w.heap.size, 1, none⟩ = some (.int .i64 b) ∧ W'.cell? ⟨w.heap.size + 1, 0, none⟩ = some (.int .i64 c) ∧ W'.cell? ⟨w.heap.size + 1, 1, none⟩ = some (.int .i64 d)) ∧ Below w1.heap.size w1 W')
      (first | with_reducible exact hP _ (Below.refl _ _).drew | with_reducible exact hP _ (keepD (by assumption) k3))
      (first
      | (go_at_call 18; first | ((with_reducible refine (C1.out _).mono ?_); rintro e w3 ⟨rfl, k3⟩) | ((with_reducible refine (C2.out _).mono ?_); rintro e w3 ⟨rfl, k3⟩)))
    rename_i hH
    have K2 := hH.2
    have n1 := m1.then K2
    have n2 := m2.then K2
    have n3 := m3.then K2
    have hb2 := bThen hb K2
    have a0 := n1.c0; have a1 := n1.c1; have b0 := n2.c0; have b1 := n2.c1; have c0 := n3.c0; have c1 := n3.c1; have al := n1.lt; have bl := n2.lt; have cl := n3.lt
    clear hH hP
    go_wp2
    go_ret
    exact ⟨rfl, hb2⟩
  · obtain rfl : y = 2 := by
      rcases hr with rfl | rfl | rfl | rfl <;> (simp at hm hm2 ⊢)
    have hQ2 := fun W => (hQ W).trans (by rw [show decide ((1 : Int) = 0) = false by decide])
    clear hQ hm hm2 hr
    rcases hc2 with rfl | rfl | rfl | rfl
    · clear ht
      go_enter Tryd.func8, Tryd.ntmps8
      go_wp2_with (go_at_call 17; ((refine CA.out.mono ?_); rintro e w1 ⟨rfl, k1⟩; replace hb := bThen (bAl (bAl (bAl hb _) _) _) k1; have m1 := (((At2.new w a b 23).al _).al _).then k1; have m2 := ((At2.new (w.alloc (.cells #[.int .i64 a, .int .i64 b] 23)) c d 23).al _).then k1; have m3 := (At2.new ((w.alloc (.cells #[.int .i64 a, .int .i64 b] 23)).alloc (.cells #[.int .i64 c, .int .i64 d] 23)) p q 23).then k1; simp at m2 m3))
      have hP : ∀ W', Below w1.heap.size w1 W' → ((W'.cell? ⟨w.heap.size, 0, none⟩ = some (.int .i64 a) ∧ W'.cell? ⟨w.heap.size, 1, none⟩ = some (.int .i64 b) ∧ W'.cell? ⟨w.heap.size + 1, 0, none⟩ = some (.int .i64 c) ∧ W'.cell? ⟨w.heap.size + 1, 1, none⟩ = some (.int .i64 d)) ∧ Below w1.heap.size w1 W') := fun W' k => ⟨⟨(m1.then k).c0, (m1.then k).c1, (m2.then k).c0, (m2.then k).c1⟩, k⟩
      go_region_held3 (fun W' => (W'.cell? ⟨w.heap.size, 0, none⟩ = some (.int .i64 a) ∧ W'.cell? ⟨w.heap.size, 1, none⟩ = some (.int .i64 b) ∧ W'.cell? ⟨w.heap.size + 1, 0, none⟩ = some (.int .i64 c) ∧ W'.cell? ⟨w.heap.size + 1, 1, none⟩ = some (.int .i64 d)) ∧ Below w1.heap.size w1 W')
        (first | with_reducible exact hP _ (Below.refl _ _).drew | with_reducible exact hP _ (keepD (by assumption) k3))
        (first
        | (go_at_call 18; first | ((with_reducible refine (C1.out _).mono ?_); rintro e w3 ⟨rfl, k3⟩) | ((with_reducible refine (C2.out _).mono ?_); rintro e w3 ⟨rfl, k3⟩)))
      rename_i hH
      have K2 := hH.2
      have n1 := m1.then K2
      have n2 := m2.then K2
      have n3 := m3.then K2
      have hb2 := bThen hb K2
      have a0 := n1.c0; have a1 := n1.c1; have b0 := n2.c0; have b1 := n2.c1; have c0 := n3.c0; have c1 := n3.c1; have al := n1.lt; have bl := n2.lt; have cl := n3.lt
      clear hH hP
      go_wp2_with (go_at_call 18; ((with_reducible refine (C3.out _).mono ?_); rintro e w5 ⟨rfl, k5⟩; replace hb2 := bThen hb2 k5))
      go_ret
      exact ⟨rfl, hb2⟩
    · obtain rfl : v = 1 := ht rfl rfl
      clear ht
      go_enter Tryd.func8, Tryd.ntmps8
      go_wp2_with (go_at_call 17; ((refine CA.out.mono ?_); rintro e w1 ⟨rfl, k1⟩; replace hb := bThen (bAl (bAl (bAl hb _) _) _) k1; have m1 := (((At2.new w a b 23).al _).al _).then k1; have m2 := ((At2.new (w.alloc (.cells #[.int .i64 a, .int .i64 b] 23)) c d 23).al _).then k1; have m3 := (At2.new ((w.alloc (.cells #[.int .i64 a, .int .i64 b] 23)).alloc (.cells #[.int .i64 c, .int .i64 d] 23)) p q 23).then k1; simp at m2 m3))
      have hP : ∀ W', Below w1.heap.size w1 W' → ((W'.cell? ⟨w.heap.size, 0, none⟩ = some (.int .i64 a) ∧ W'.cell? ⟨w.heap.size, 1, none⟩ = some (.int .i64 b) ∧ W'.cell? ⟨w.heap.size + 1, 0, none⟩ = some (.int .i64 c) ∧ W'.cell? ⟨w.heap.size + 1, 1, none⟩ = some (.int .i64 d)) ∧ Below w1.heap.size w1 W') := fun W' k => ⟨⟨(m1.then k).c0, (m1.then k).c1, (m2.then k).c0, (m2.then k).c1⟩, k⟩
      go_region_held3 (fun W' => (W'.cell? ⟨w.heap.size, 0, none⟩ = some (.int .i64 a) ∧ W'.cell? ⟨w.heap.size, 1, none⟩ = some (.int .i64 b) ∧ W'.cell? ⟨w.heap.size + 1, 0, none⟩ = some (.int .i64 c) ∧ W'.cell? ⟨w.heap.size + 1, 1, none⟩ = some (.int .i64 d)) ∧ Below w1.heap.size w1 W')
        (first | with_reducible exact hP _ (Below.refl _ _).drew | with_reducible exact hP _ (keepD (by assumption) k3))
        (first
        | (go_at_call 18; first | ((with_reducible refine (C1.out _).mono ?_); rintro e w3 ⟨rfl, k3⟩) | ((with_reducible refine (C2.out _).mono ?_); rintro e w3 ⟨rfl, k3⟩)))
      rename_i hH
      have K2 := hH.2
      have n1 := m1.then K2
      have n2 := m2.then K2
      have n3 := m3.then K2
      have hb2 := bThen hb K2
      have a0 := n1.c0; have a1 := n1.c1; have b0 := n2.c0; have b1 := n2.c1; have c0 := n3.c0; have c1 := n3.c1; have al := n1.lt; have bl := n2.lt; have cl := n3.lt
      clear hH hP
      go_wp2_with (go_at_call 18; first | ((with_reducible refine (C3.out _).mono ?_); rintro e w5 ⟨rfl, k5⟩; replace n1 := n1.then k5; replace n3 := n3.then k5; have q0 := n1.c0; have q1 := n1.c1; have q2 := n3.c0; have q3 := n3.c1; have q4 := n1.lt; have q5 := n3.lt; replace hb2 := bThen hb2 k5) | ((with_reducible refine (C4.out _).mono ?_); rintro e w6 ⟨rfl, k6⟩; replace hb2 := bThen hb2 k6))
      go_ret
      exact ⟨rfl, hb2⟩
    · clear ht
      go_enter Tryd.func8, Tryd.ntmps8
      go_wp2_with (go_at_call 17; ((refine CA.out.mono ?_); rintro e w1 ⟨rfl, k1⟩; replace hb := bThen (bAl (bAl (bAl hb _) _) _) k1; have m1 := (((At2.new w a b 23).al _).al _).then k1; have m2 := ((At2.new (w.alloc (.cells #[.int .i64 a, .int .i64 b] 23)) c d 23).al _).then k1; have m3 := (At2.new ((w.alloc (.cells #[.int .i64 a, .int .i64 b] 23)).alloc (.cells #[.int .i64 c, .int .i64 d] 23)) p q 23).then k1; simp at m2 m3))
      have hP : ∀ W', Below w1.heap.size w1 W' → ((W'.cell? ⟨w.heap.size, 0, none⟩ = some (.int .i64 a) ∧ W'.cell? ⟨w.heap.size, 1, none⟩ = some (.int .i64 b) ∧ W'.cell? ⟨w.heap.size + 1, 0, none⟩ = some (.int .i64 c) ∧ W'.cell? ⟨w.heap.size + 1, 1, none⟩ = some (.int .i64 d)) ∧ Below w1.heap.size w1 W') := fun W' k => ⟨⟨(m1.then k).c0, (m1.then k).c1, (m2.then k).c0, (m2.then k).c1⟩, k⟩
      go_region_held3 (fun W' => (W'.cell? ⟨w.heap.size, 0, none⟩ = some (.int .i64 a) ∧ W'.cell? ⟨w.heap.size, 1, none⟩ = some (.int .i64 b) ∧ W'.cell? ⟨w.heap.size + 1, 0, none⟩ = some (.int .i64 c) ∧ W'.cell? ⟨w.heap.size + 1, 1, none⟩ = some (.int .i64 d)) ∧ Below w1.heap.size w1 W')
        (first | with_reducible exact hP _ (Below.refl _ _).drew | with_reducible exact hP _ (keepD (by assumption) k3))
        (first
        | (go_at_call 18; first | ((with_reducible refine (C1.out _).mono ?_); rintro e w3 ⟨rfl, k3⟩) | ((with_reducible refine (C2.out _).mono ?_); rintro e w3 ⟨rfl, k3⟩)))
      rename_i hH
      have K2 := hH.2
      have n1 := m1.then K2
      have n2 := m2.then K2
      have n3 := m3.then K2
      have hb2 := bThen hb K2
      have a0 := n1.c0; have a1 := n1.c1; have b0 := n2.c0; have b1 := n2.c1; have c0 := n3.c0; have c1 := n3.c1; have al := n1.lt; have bl := n2.lt; have cl := n3.lt
      clear hH hP
      go_wp2_with (go_at_call 18; ((with_reducible refine (C3.out _).mono ?_); rintro e w5 ⟨rfl, k5⟩; replace hb2 := bThen hb2 k5))
      go_ret
      exact ⟨rfl, hb2⟩
    · clear ht
      go_enter Tryd.func8, Tryd.ntmps8
      go_wp2_with (go_at_call 17; ((refine CA.out.mono ?_); rintro e w1 ⟨rfl, k1⟩; replace hb := bThen (bAl (bAl (bAl hb _) _) _) k1; have m1 := (((At2.new w a b 23).al _).al _).then k1; have m2 := ((At2.new (w.alloc (.cells #[.int .i64 a, .int .i64 b] 23)) c d 23).al _).then k1; have m3 := (At2.new ((w.alloc (.cells #[.int .i64 a, .int .i64 b] 23)).alloc (.cells #[.int .i64 c, .int .i64 d] 23)) p q 23).then k1; simp at m2 m3))
      have hP : ∀ W', Below w1.heap.size w1 W' → ((W'.cell? ⟨w.heap.size, 0, none⟩ = some (.int .i64 a) ∧ W'.cell? ⟨w.heap.size, 1, none⟩ = some (.int .i64 b) ∧ W'.cell? ⟨w.heap.size + 1, 0, none⟩ = some (.int .i64 c) ∧ W'.cell? ⟨w.heap.size + 1, 1, none⟩ = some (.int .i64 d)) ∧ Below w1.heap.size w1 W') := fun W' k => ⟨⟨(m1.then k).c0, (m1.then k).c1, (m2.then k).c0, (m2.then k).c1⟩, k⟩
      go_region_held3 (fun W' => (W'.cell? ⟨w.heap.size, 0, none⟩ = some (.int .i64 a) ∧ W'.cell? ⟨w.heap.size, 1, none⟩ = some (.int .i64 b) ∧ W'.cell? ⟨w.heap.size + 1, 0, none⟩ = some (.int .i64 c) ∧ W'.cell? ⟨w.heap.size + 1, 1, none⟩ = some (.int .i64 d)) ∧ Below w1.heap.size w1 W')
        (first | with_reducible exact hP _ (Below.refl _ _).drew | with_reducible exact hP _ (keepD (by assumption) k3))
        (first
        | (go_at_call 18; first | ((with_reducible refine (C1.out _).mono ?_); rintro e w3 ⟨rfl, k3⟩) | ((with_reducible refine (C2.out _).mono ?_); rintro e w3 ⟨rfl, k3⟩)))
      rename_i hH
      have K2 := hH.2
      have n1 := m1.then K2
      have n2 := m2.then K2
      have n3 := m3.then K2
      have hb2 := bThen hb K2
      have a0 := n1.c0; have a1 := n1.c1; have b0 := n2.c0; have b1 := n2.c1; have c0 := n3.c0; have c1 := n3.c1; have al := n1.lt; have bl := n2.lt; have cl := n3.lt
      clear hH hP
      go_wp2_with (go_at_call 18; ((with_reducible refine (C3.out _).mono ?_); rintro e w5 ⟨rfl, k5⟩; replace hb2 := bThen hb2 k5))
      go_ret
      exact ⟨rfl, hb2⟩
  · obtain rfl : y = 1 := by
      rcases hr with rfl | rfl | rfl | rfl <;> (simp at hm hm2 ⊢)
    have hQ2 := fun W => (hQ W).trans (by rw [show decide ((2 : Int) = 0) = false by decide])
    clear hQ hm hm2 hr
    clear ht hc2
    go_enter Tryd.func8, Tryd.ntmps8
    go_wp2_with (go_at_call 17; ((refine CA.out.mono ?_); rintro e w1 ⟨rfl, k1⟩; replace hb := bThen (bAl (bAl (bAl hb _) _) _) k1; have m1 := (((At2.new w a b 23).al _).al _).then k1; have m2 := ((At2.new (w.alloc (.cells #[.int .i64 a, .int .i64 b] 23)) c d 23).al _).then k1; have m3 := (At2.new ((w.alloc (.cells #[.int .i64 a, .int .i64 b] 23)).alloc (.cells #[.int .i64 c, .int .i64 d] 23)) p q 23).then k1; simp at m2 m3))
    have hP : ∀ W', Below w1.heap.size w1 W' → ((W'.cell? ⟨w.heap.size, 0, none⟩ = some (.int .i64 a) ∧ W'.cell? ⟨w.heap.size, 1, none⟩ = some (.int .i64 b) ∧ W'.cell? ⟨w.heap.size + 1, 0, none⟩ = some (.int .i64 c) ∧ W'.cell? ⟨w.heap.size + 1, 1, none⟩ = some (.int .i64 d)) ∧ Below w1.heap.size w1 W') := fun W' k => ⟨⟨(m1.then k).c0, (m1.then k).c1, (m2.then k).c0, (m2.then k).c1⟩, k⟩
    go_region_held3 (fun W' => (W'.cell? ⟨w.heap.size, 0, none⟩ = some (.int .i64 a) ∧ W'.cell? ⟨w.heap.size, 1, none⟩ = some (.int .i64 b) ∧ W'.cell? ⟨w.heap.size + 1, 0, none⟩ = some (.int .i64 c) ∧ W'.cell? ⟨w.heap.size + 1, 1, none⟩ = some (.int .i64 d)) ∧ Below w1.heap.size w1 W')
      (first | with_reducible exact hP _ (Below.refl _ _).drew | with_reducible exact hP _ (keepD (by assumption) k3))
      (first
      | (go_at_call 18; first | ((with_reducible refine (C1.out _).mono ?_); rintro e w3 ⟨rfl, k3⟩) | ((with_reducible refine (C2.out _).mono ?_); rintro e w3 ⟨rfl, k3⟩)))
    rename_i hH
    have K2 := hH.2
    have n1 := m1.then K2
    have n2 := m2.then K2
    have n3 := m3.then K2
    have hb2 := bThen hb K2
    have a0 := n1.c0; have a1 := n1.c1; have b0 := n2.c0; have b1 := n2.c1; have c0 := n3.c0; have c1 := n3.c1; have al := n1.lt; have bl := n2.lt; have cl := n3.lt
    clear hH hP
    go_wp2
    go_ret
    exact ⟨rfl, hb2⟩
  · obtain rfl : y = 3 := by
      rcases hr with rfl | rfl | rfl | rfl <;> (simp at hm hm2 ⊢)
    have hQ2 := fun W => (hQ W).trans (by rw [show decide ((3 : Int) = 0) = false by decide])
    clear hQ hm hm2 hr
    clear ht hc2
    go_enter Tryd.func8, Tryd.ntmps8
    go_wp2_with (go_at_call 17; ((refine CA.out.mono ?_); rintro e w1 ⟨rfl, k1⟩; replace hb := bThen (bAl (bAl (bAl hb _) _) _) k1; have m1 := (((At2.new w a b 23).al _).al _).then k1; have m2 := ((At2.new (w.alloc (.cells #[.int .i64 a, .int .i64 b] 23)) c d 23).al _).then k1; have m3 := (At2.new ((w.alloc (.cells #[.int .i64 a, .int .i64 b] 23)).alloc (.cells #[.int .i64 c, .int .i64 d] 23)) p q 23).then k1; simp at m2 m3))
    have hP : ∀ W', Below w1.heap.size w1 W' → ((W'.cell? ⟨w.heap.size, 0, none⟩ = some (.int .i64 a) ∧ W'.cell? ⟨w.heap.size, 1, none⟩ = some (.int .i64 b) ∧ W'.cell? ⟨w.heap.size + 1, 0, none⟩ = some (.int .i64 c) ∧ W'.cell? ⟨w.heap.size + 1, 1, none⟩ = some (.int .i64 d)) ∧ Below w1.heap.size w1 W') := fun W' k => ⟨⟨(m1.then k).c0, (m1.then k).c1, (m2.then k).c0, (m2.then k).c1⟩, k⟩
    go_region_held3 (fun W' => (W'.cell? ⟨w.heap.size, 0, none⟩ = some (.int .i64 a) ∧ W'.cell? ⟨w.heap.size, 1, none⟩ = some (.int .i64 b) ∧ W'.cell? ⟨w.heap.size + 1, 0, none⟩ = some (.int .i64 c) ∧ W'.cell? ⟨w.heap.size + 1, 1, none⟩ = some (.int .i64 d)) ∧ Below w1.heap.size w1 W')
      (first | with_reducible exact hP _ (Below.refl _ _).drew | with_reducible exact hP _ (keepD (by assumption) k3))
      (first
      | (go_at_call 18; first | ((with_reducible refine (C1.out _).mono ?_); rintro e w3 ⟨rfl, k3⟩) | ((with_reducible refine (C2.out _).mono ?_); rintro e w3 ⟨rfl, k3⟩)))
    rename_i hH
    have K2 := hH.2
    have n1 := m1.then K2
    have n2 := m2.then K2
    have n3 := m3.then K2
    have hb2 := bThen hb K2
    have a0 := n1.c0; have a1 := n1.c1; have b0 := n2.c0; have b1 := n2.c1; have c0 := n3.c0; have c1 := n3.c1; have al := n1.lt; have bl := n2.lt; have cl := n3.lt
    clear hH hP
    go_wp2
    go_ret
    exact ⟨rfl, hb2⟩
end Go.Proofs.YthdphdmiafkkgaaDoor.UX
