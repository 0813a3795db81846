/-
  WALK: the law SpanSides.
-/
import Derived.Test.YtadbbpfnedbhcaaSNearestLaw
namespace Go.Proofs.Ytadbbpfnedbhcaa
open Go.RowKit FixMath
set_option maxRecDepth 100000
set_option linter.unusedVariables false
set_option linter.unusedSimpArgs false

theorem within_eq {a b c d : Int} {q : Bool} (h : withinB a b c d = q) (w : World) : Calls Try.prog 19 #[sp a b, sp c d] w fun e w' => e = .returned (.bool q) ∧ Below w.heap.size w w' := h ▸ within_any a b c d w
theorem withinB_t {a b c d : Int} (h : spanE a b = 0) (k : spanE c d = 0) (l : c ≤ a ∧ b ≤ d) : withinB a b c d = true := by unfold withinB; exact decide_eq_true ⟨h, k, l⟩
theorem withinB_n {a b c d : Int} (h : ¬ (spanE a b = 0 ∧ spanE c d = 0)) : withinB a b c d = false := by unfold withinB; exact decide_eq_false (fun k => h ⟨k.1, k.2.1⟩)

set_option maxHeartbeats 4000000 in
theorem sides_n (a b c d n : Int) (w : World) (m0 : Int) (hm : w.cell? ⟨0, 0, none⟩ = some (.int .i64 m0)) (hlt : 0 < w.heap.size) (h : ¬ (spanE a b = 0 ∧ spanE c d = 0)) :
    Calls Try.prog 7 #[sp a b, sp c d, .int .i64 n] w fun e w' => e = .returned (.bool true) ∧ Below w.heap.size w w' := by
  have hb : Below w.heap.size w w := Below.refl _ _
  have hb2 := bAl (bAl hb (.cells #[.int .i64 a, .int .i64 b] 23)) (.cells #[.int .i64 c, .int .i64 d] 23)
  have CA := Lib.hid (awake_any _ m0 ((hb2.cell (p := ⟨0, 0, none⟩) hlt).trans hm) (Nat.lt_of_lt_of_le hlt hb2.size))
  have CE := fun W => Lib.hid (meet_n a b c d W h)
  have CW := fun W => Lib.hid (within_eq (withinB_n h) W)
  have CO := fun W => Lib.hid (hold_n a b c d W h)
  obtain ⟨e1, h1⟩ : ∃ e1, spanE a b = e1 := ⟨_, rfl⟩
  obtain ⟨e2, h2⟩ : ∃ e2, spanE c d = e2 := ⟨_, rfl⟩
  have C1 := fun W => Lib.hid (spanMay_eq h1 W)
  have C2 := fun W => Lib.hid (spanMay_eq h2 W)
  rw [h1, h2] at h
  clear h1 h2 hm hlt hb2
  have hc : (¬ e1 = 0) ∨ (e1 = 0 ∧ ¬ e2 = 0) := by omega
  clear h
  rcases hc with n1 | ⟨n1, n2⟩
  all_goals
    go_enter Try.func7, Try.ntmps7
    go_wp2_with (first
      | (go_at_call 27; (refine CA.out.mono ?_; rintro e w1 ⟨rfl, k1⟩; replace hb := bThen (bAl (bAl hb _) _) k1; have mS := ((At2.new _ _ _ _).al _).then k1; have mT := (At2.new _ _ _ _).then k1; simp at mS mT; have s0 := mS.c0; have s1 := mS.c1; have t0 := mT.c0; have t1 := mT.c1; have ls := mS.lt; have lt := mT.lt))
      | (go_at_call 10; first | ((with_reducible refine (C1 _).out.mono ?_); rintro e w2 ⟨rfl, k2⟩; replace hb := bThen hb k2; replace mS := mS.then k2; replace mT := mT.then k2; have s0 := mS.c0; have s1 := mS.c1; have t0 := mT.c0; have t1 := mT.c1; have ls := mS.lt; have lt := mT.lt) | ((with_reducible refine (C2 _).out.mono ?_); rintro e w2 ⟨rfl, k2⟩; replace hb := bThen hb k2; replace mS := mS.then k2; replace mT := mT.then k2; have s0 := mS.c0; have s1 := mS.c1; have t0 := mT.c0; have t1 := mT.c1; have ls := mS.lt; have lt := mT.lt))
      | (go_at_call 17; ((with_reducible refine (CE _).out.mono ?_); rintro e w2 ⟨rfl, k2⟩; replace hb := bThen hb k2; replace mS := mS.then k2; replace mT := mT.then k2; have s0 := mS.c0; have s1 := mS.c1; have t0 := mT.c0; have t1 := mT.c1; have ls := mS.lt; have lt := mT.lt))
      | (go_at_call 19; ((with_reducible refine (CW _).out.mono ?_); rintro e w2 ⟨rfl, k2⟩; replace hb := bThen (bAl hb _) k2; replace mS := (mS.al _).then k2; replace mT := (mT.al _).then k2; have s0 := mS.c0; have s1 := mS.c1; have t0 := mT.c0; have t1 := mT.c1; have ls := mS.lt; have lt := mT.lt))
      | (go_at_call 21; ((with_reducible refine (CO _).out.mono ?_); rintro e w2 ⟨rfl, k2⟩; replace hb := bThen hb k2; replace mS := mS.then k2; replace mT := mT.then k2; have s0 := mS.c0; have s1 := mS.c1; have t0 := mT.c0; have t1 := mT.c1; have ls := mS.lt; have lt := mT.lt)))
    all_goals
      go_ret
      exact ⟨by rfl, hb⟩

set_option maxHeartbeats 8000000 in
theorem sides_a (a b c d n : Int) (w : World) (m0 : Int) (hm : w.cell? ⟨0, 0, none⟩ = some (.int .i64 m0)) (hlt : 0 < w.heap.size) (h : spanE a b = 0) (k : spanE c d = 0) (l : ¬ (c ≤ a ∧ b ≤ d)) (hq : max a c ≤ min b d) :
    Calls Try.prog 7 #[sp a b, sp c d, .int .i64 n] w fun e w' => e = .returned (.bool true) ∧ Below w.heap.size w w' := by
  have hb : Below w.heap.size w w := Below.refl _ _
  have hb2 := bAl (bAl hb (.cells #[.int .i64 a, .int .i64 b] 23)) (.cells #[.int .i64 c, .int .i64 d] 23)
  have CA := Lib.hid (awake_any _ m0 ((hb2.cell (p := ⟨0, 0, none⟩) hlt).trans hm) (Nat.lt_of_lt_of_le hlt hb2.size))
  have C1 := fun W => Lib.hid (spanMay_eq h W)
  have C2 := fun W => Lib.hid (spanMay_eq k W)
  have hs := spanE_iff.1 h
  have ht := spanE_iff.1 k
  obtain ⟨u, hu⟩ : ∃ u, min a c = u := ⟨_, rfl⟩
  obtain ⟨v, hv⟩ : ∃ v, max b d = v := ⟨_, rfl⟩
  have huv : spanE u v = 0 := spanE_iff.2 (by omega)
  obtain ⟨p, hp⟩ : ∃ p, hasB a b n = p := ⟨_, rfl⟩
  obtain ⟨r, hr⟩ : ∃ r, hasB c d n = r := ⟨_, rfl⟩
  obtain ⟨g, hg⟩ : ∃ g, hasB u v n = g := ⟨_, rfl⟩
  have hst : withinB a b c d = false := by unfold withinB; exact decide_eq_false (fun z => l z.2.2)
  obtain ⟨wts, hts⟩ : ∃ q, withinB c d a b = q := ⟨_, rfl⟩
  have CO := fun W => Lib.hid (hold_t a b c d u v W h k (by omega) (by omega))
  have CP := fun W => Lib.hid (has_eq hp W)
  have CR := fun W => Lib.hid (has_eq hr W)
  have CG := fun W => Lib.hid (has_eq hg W)
  have W1 := fun W => Lib.hid (within_eq hst W)
  have W2 := fun W => Lib.hid (within_eq hts W)
  have W3 := fun W => Lib.hid (within_eq (withinB_t h h (by omega)) W)
  have W4 := fun W => Lib.hid (within_eq (withinB_t h huv (by omega)) W)
  have W5 := fun W => Lib.hid (within_eq (withinB_t k huv (by omega)) W)
  have R1 : Hid (True) := Lib.hid (by
    first
      | exact trivial
      | (rw [← hp, ← hr]; intro f; unfold hasB at f; have := of_decide_eq_true f; exact hasB_t (by omega)))
  have R4 : Hid ((p = true ∨ r = true) → g = true) := Lib.hid (fun e => by
    rw [← hg]; rw [← hp, ← hr] at e
    unfold hasB at e
    rcases e with e | e
    · have := of_decide_eq_true e; exact hasB_t (by omega)
    · have := of_decide_eq_true e; exact hasB_t (by omega))
  have R5 : Hid (u = a ∨ u = c) := Lib.hid (by omega)
  obtain ⟨x, hx⟩ : ∃ x, max a c = x := ⟨_, rfl⟩
  obtain ⟨y, hy⟩ : ∃ y, min b d = y := ⟨_, rfl⟩
  have hxy : spanE x y = 0 := spanE_iff.2 (by omega)
  have CE := fun W => Lib.hid (meet_t a b c d x y W h k (by omega) (by omega) (by omega))
  have W6 := fun W => Lib.hid (within_eq (withinB_t hxy h (by omega)) W)
  have W7 := fun W => Lib.hid (within_eq (withinB_t hxy k (by omega)) W)
  have CQ := fun W => Lib.hid (has_eq (show hasB x y n = (p && r) by
      rw [← hp, ← hr]; unfold hasB; rw [← Bool.decide_and]; congr 1; apply propext; constructor <;> intro <;> omega) W)
  clear hx hy hxy
  clear hm hlt hb2 h k hs ht hu hv huv hp hr hg hst hts hq l
  go_enter Try.func7, Try.ntmps7
  go_wp2_with (first
      | (go_at_call 27; (refine CA.out.mono ?_; rintro e w1 ⟨rfl, k1⟩; replace hb := bThen (bAl (bAl hb _) _) k1; have mS := ((At2.new _ _ _ _).al _).then k1; have mT := (At2.new _ _ _ _).then k1; simp at mS mT; have s0 := mS.c0; have s1 := mS.c1; have t0 := mT.c0; have t1 := mT.c1; have ls := mS.lt; have lt := mT.lt))
      | (go_at_call 10; first | ((with_reducible refine (C1 _).out.mono ?_); rintro e w2 ⟨rfl, k2⟩; replace hb := bThen hb k2; replace mS := mS.then k2; replace mT := mT.then k2; have s0 := mS.c0; have s1 := mS.c1; have t0 := mT.c0; have t1 := mT.c1; have ls := mS.lt; have lt := mT.lt) | ((with_reducible refine (C2 _).out.mono ?_); rintro e w2 ⟨rfl, k2⟩; replace hb := bThen hb k2; replace mS := mS.then k2; replace mT := mT.then k2; have s0 := mS.c0; have s1 := mS.c1; have t0 := mT.c0; have t1 := mT.c1; have ls := mS.lt; have lt := mT.lt))
      | (go_at_call 14; first | ((with_reducible refine (CP _).out.mono ?_); rintro e w2 ⟨rfl, k2⟩; (first | (replace hb := bThen hb k2; replace mS := mS.then k2; replace mT := mT.then k2; (try replace mM := mM.then k2); (try replace mH := mH.then k2)) | (have mH := (At2.new _ u v _).then k2; replace hb := bThen (bAl hb _) k2; replace mS := (mS.al _).then k2; replace mT := (mT.al _).then k2; replace mM := (mM.al _).then k2)); have s0 := mS.c0; have s1 := mS.c1; have t0 := mT.c0; have t1 := mT.c1; have ls := mS.lt; have lt := mT.lt; (try (have x0 := mM.c0; have x1 := mM.c1; have lm := mM.lt)); (try (have h0 := mH.c0; have h1 := mH.c1; have lh := mH.lt))) | ((with_reducible refine (CR _).out.mono ?_); rintro e w2 ⟨rfl, k2⟩; (first | (replace hb := bThen hb k2; replace mS := mS.then k2; replace mT := mT.then k2; (try replace mM := mM.then k2); (try replace mH := mH.then k2)) | (have mH := (At2.new _ u v _).then k2; replace hb := bThen (bAl hb _) k2; replace mS := (mS.al _).then k2; replace mT := (mT.al _).then k2; replace mM := (mM.al _).then k2)); have s0 := mS.c0; have s1 := mS.c1; have t0 := mT.c0; have t1 := mT.c1; have ls := mS.lt; have lt := mT.lt; (try (have x0 := mM.c0; have x1 := mM.c1; have lm := mM.lt)); (try (have h0 := mH.c0; have h1 := mH.c1; have lh := mH.lt))) | ((with_reducible refine (CQ _).out.mono ?_); rintro e w2 ⟨rfl, k2⟩; (first | (replace hb := bThen hb k2; replace mS := mS.then k2; replace mT := mT.then k2; (try replace mM := mM.then k2); (try replace mH := mH.then k2)) | (have mH := (At2.new _ u v _).then k2; replace hb := bThen (bAl hb _) k2; replace mS := (mS.al _).then k2; replace mT := (mT.al _).then k2; replace mM := (mM.al _).then k2)); have s0 := mS.c0; have s1 := mS.c1; have t0 := mT.c0; have t1 := mT.c1; have ls := mS.lt; have lt := mT.lt; (try (have x0 := mM.c0; have x1 := mM.c1; have lm := mM.lt)); (try (have h0 := mH.c0; have h1 := mH.c1; have lh := mH.lt))) | ((with_reducible refine (CG _).out.mono ?_); rintro e w2 ⟨rfl, k2⟩; (first | (replace hb := bThen hb k2; replace mS := mS.then k2; replace mT := mT.then k2; (try replace mM := mM.then k2); (try replace mH := mH.then k2)) | (have mH := (At2.new _ u v _).then k2; replace hb := bThen (bAl hb _) k2; replace mS := (mS.al _).then k2; replace mT := (mT.al _).then k2; replace mM := (mM.al _).then k2)); have s0 := mS.c0; have s1 := mS.c1; have t0 := mT.c0; have t1 := mT.c1; have ls := mS.lt; have lt := mT.lt; (try (have x0 := mM.c0; have x1 := mM.c1; have lm := mM.lt)); (try (have h0 := mH.c0; have h1 := mH.c1; have lh := mH.lt))))
      | (go_at_call 19; first | ((with_reducible refine (W1 _).out.mono ?_); rintro e w2 ⟨rfl, k2⟩; (first | (replace hb := bThen hb k2; replace mS := mS.then k2; replace mT := mT.then k2; (try replace mM := mM.then k2); (try replace mH := mH.then k2)) | (have mH := (At2.new _ u v _).then k2; replace hb := bThen (bAl hb _) k2; replace mS := (mS.al _).then k2; replace mT := (mT.al _).then k2; replace mM := (mM.al _).then k2)); have s0 := mS.c0; have s1 := mS.c1; have t0 := mT.c0; have t1 := mT.c1; have ls := mS.lt; have lt := mT.lt; (try (have x0 := mM.c0; have x1 := mM.c1; have lm := mM.lt)); (try (have h0 := mH.c0; have h1 := mH.c1; have lh := mH.lt))) | ((with_reducible refine (W2 _).out.mono ?_); rintro e w2 ⟨rfl, k2⟩; (first | (replace hb := bThen hb k2; replace mS := mS.then k2; replace mT := mT.then k2; (try replace mM := mM.then k2); (try replace mH := mH.then k2)) | (have mH := (At2.new _ u v _).then k2; replace hb := bThen (bAl hb _) k2; replace mS := (mS.al _).then k2; replace mT := (mT.al _).then k2; replace mM := (mM.al _).then k2)); have s0 := mS.c0; have s1 := mS.c1; have t0 := mT.c0; have t1 := mT.c1; have ls := mS.lt; have lt := mT.lt; (try (have x0 := mM.c0; have x1 := mM.c1; have lm := mM.lt)); (try (have h0 := mH.c0; have h1 := mH.c1; have lh := mH.lt))) | ((with_reducible refine (W3 _).out.mono ?_); rintro e w2 ⟨rfl, k2⟩; (first | (replace hb := bThen hb k2; replace mS := mS.then k2; replace mT := mT.then k2; (try replace mM := mM.then k2); (try replace mH := mH.then k2)) | (have mH := (At2.new _ u v _).then k2; replace hb := bThen (bAl hb _) k2; replace mS := (mS.al _).then k2; replace mT := (mT.al _).then k2; replace mM := (mM.al _).then k2)); have s0 := mS.c0; have s1 := mS.c1; have t0 := mT.c0; have t1 := mT.c1; have ls := mS.lt; have lt := mT.lt; (try (have x0 := mM.c0; have x1 := mM.c1; have lm := mM.lt)); (try (have h0 := mH.c0; have h1 := mH.c1; have lh := mH.lt))) | ((with_reducible refine (W4 _).out.mono ?_); rintro e w2 ⟨rfl, k2⟩; (first | (replace hb := bThen hb k2; replace mS := mS.then k2; replace mT := mT.then k2; (try replace mM := mM.then k2); (try replace mH := mH.then k2)) | (have mH := (At2.new _ u v _).then k2; replace hb := bThen (bAl hb _) k2; replace mS := (mS.al _).then k2; replace mT := (mT.al _).then k2; replace mM := (mM.al _).then k2)); have s0 := mS.c0; have s1 := mS.c1; have t0 := mT.c0; have t1 := mT.c1; have ls := mS.lt; have lt := mT.lt; (try (have x0 := mM.c0; have x1 := mM.c1; have lm := mM.lt)); (try (have h0 := mH.c0; have h1 := mH.c1; have lh := mH.lt))) | ((with_reducible refine (W5 _).out.mono ?_); rintro e w2 ⟨rfl, k2⟩; (first | (replace hb := bThen hb k2; replace mS := mS.then k2; replace mT := mT.then k2; (try replace mM := mM.then k2); (try replace mH := mH.then k2)) | (have mH := (At2.new _ u v _).then k2; replace hb := bThen (bAl hb _) k2; replace mS := (mS.al _).then k2; replace mT := (mT.al _).then k2; replace mM := (mM.al _).then k2)); have s0 := mS.c0; have s1 := mS.c1; have t0 := mT.c0; have t1 := mT.c1; have ls := mS.lt; have lt := mT.lt; (try (have x0 := mM.c0; have x1 := mM.c1; have lm := mM.lt)); (try (have h0 := mH.c0; have h1 := mH.c1; have lh := mH.lt))) | ((with_reducible refine (W6 _).out.mono ?_); rintro e w2 ⟨rfl, k2⟩; (first | (replace hb := bThen hb k2; replace mS := mS.then k2; replace mT := mT.then k2; (try replace mM := mM.then k2); (try replace mH := mH.then k2)) | (have mH := (At2.new _ u v _).then k2; replace hb := bThen (bAl hb _) k2; replace mS := (mS.al _).then k2; replace mT := (mT.al _).then k2; replace mM := (mM.al _).then k2)); have s0 := mS.c0; have s1 := mS.c1; have t0 := mT.c0; have t1 := mT.c1; have ls := mS.lt; have lt := mT.lt; (try (have x0 := mM.c0; have x1 := mM.c1; have lm := mM.lt)); (try (have h0 := mH.c0; have h1 := mH.c1; have lh := mH.lt))) | ((with_reducible refine (W7 _).out.mono ?_); rintro e w2 ⟨rfl, k2⟩; (first | (replace hb := bThen hb k2; replace mS := mS.then k2; replace mT := mT.then k2; (try replace mM := mM.then k2); (try replace mH := mH.then k2)) | (have mH := (At2.new _ u v _).then k2; replace hb := bThen (bAl hb _) k2; replace mS := (mS.al _).then k2; replace mT := (mT.al _).then k2; replace mM := (mM.al _).then k2)); have s0 := mS.c0; have s1 := mS.c1; have t0 := mT.c0; have t1 := mT.c1; have ls := mS.lt; have lt := mT.lt; (try (have x0 := mM.c0; have x1 := mM.c1; have lm := mM.lt)); (try (have h0 := mH.c0; have h1 := mH.c1; have lh := mH.lt))))
      | (go_at_call 17; ((with_reducible refine (CE _).out.mono ?_); rintro e w2 ⟨rfl, k2⟩; replace hb := bThen hb k2; replace mS := mS.then k2; replace mT := mT.then k2; have s0 := mS.c0; have s1 := mS.c1; have t0 := mT.c0; have t1 := mT.c1; have ls := mS.lt; have lt := mT.lt))
      | (go_at_call 21; ((with_reducible refine (CO _).out.mono ?_); rintro e w2 ⟨rfl, k2⟩; have mM := (At2.new _ _ _ _).then k2; replace hb := bThen (bAl hb _) k2; replace mS := (mS.al _).then k2; replace mT := (mT.al _).then k2; have s0 := mS.c0; have s1 := mS.c1; have t0 := mT.c0; have t1 := mT.c1; have ls := mS.lt; have lt := mT.lt; have x0 := mM.c0; have x1 := mM.c1; have lm := mM.lt)))
  all_goals
    go_ret
    exact ⟨by first | rfl | (exfalso; have r1 := R1.out; simp [*] at r1; done) | (exfalso; have r4 := R4.out; simp [*] at r4; done) | (exfalso; have r1 := R1.out (by assumption); subst r1; exact absurd ‹(!true) = true› (by decide)) | (rcases R5.out with e | e <;> simp [e]; done), hb⟩

set_option maxHeartbeats 8000000 in
theorem sides_b (a b c d n : Int) (w : World) (m0 : Int) (hm : w.cell? ⟨0, 0, none⟩ = some (.int .i64 m0)) (hlt : 0 < w.heap.size) (h : spanE a b = 0) (k : spanE c d = 0) (l : ¬ (c ≤ a ∧ b ≤ d)) (hq : min b d < max a c) :
    Calls Try.prog 7 #[sp a b, sp c d, .int .i64 n] w fun e w' => e = .returned (.bool true) ∧ Below w.heap.size w w' := by
  have hb : Below w.heap.size w w := Below.refl _ _
  have hb2 := bAl (bAl hb (.cells #[.int .i64 a, .int .i64 b] 23)) (.cells #[.int .i64 c, .int .i64 d] 23)
  have CA := Lib.hid (awake_any _ m0 ((hb2.cell (p := ⟨0, 0, none⟩) hlt).trans hm) (Nat.lt_of_lt_of_le hlt hb2.size))
  have C1 := fun W => Lib.hid (spanMay_eq h W)
  have C2 := fun W => Lib.hid (spanMay_eq k W)
  have hs := spanE_iff.1 h
  have ht := spanE_iff.1 k
  obtain ⟨u, hu⟩ : ∃ u, min a c = u := ⟨_, rfl⟩
  obtain ⟨v, hv⟩ : ∃ v, max b d = v := ⟨_, rfl⟩
  have huv : spanE u v = 0 := spanE_iff.2 (by omega)
  obtain ⟨p, hp⟩ : ∃ p, hasB a b n = p := ⟨_, rfl⟩
  obtain ⟨r, hr⟩ : ∃ r, hasB c d n = r := ⟨_, rfl⟩
  obtain ⟨g, hg⟩ : ∃ g, hasB u v n = g := ⟨_, rfl⟩
  have hst : withinB a b c d = false := by unfold withinB; exact decide_eq_false (fun z => l z.2.2)
  obtain ⟨wts, hts⟩ : ∃ q, withinB c d a b = q := ⟨_, rfl⟩
  have CO := fun W => Lib.hid (hold_t a b c d u v W h k (by omega) (by omega))
  have CP := fun W => Lib.hid (has_eq hp W)
  have CR := fun W => Lib.hid (has_eq hr W)
  have CG := fun W => Lib.hid (has_eq hg W)
  have W1 := fun W => Lib.hid (within_eq hst W)
  have W2 := fun W => Lib.hid (within_eq hts W)
  have W3 := fun W => Lib.hid (within_eq (withinB_t h h (by omega)) W)
  have W4 := fun W => Lib.hid (within_eq (withinB_t h huv (by omega)) W)
  have W5 := fun W => Lib.hid (within_eq (withinB_t k huv (by omega)) W)
  have R1 : Hid (True) := Lib.hid (by
    first
      | exact trivial
      | (rw [← hp, ← hr]; intro f; unfold hasB at f; have := of_decide_eq_true f; exact hasB_t (by omega)))
  have R4 : Hid ((p = true ∨ r = true) → g = true) := Lib.hid (fun e => by
    rw [← hg]; rw [← hp, ← hr] at e
    unfold hasB at e
    rcases e with e | e
    · have := of_decide_eq_true e; exact hasB_t (by omega)
    · have := of_decide_eq_true e; exact hasB_t (by omega))
  have R5 : Hid (u = a ∨ u = c) := Lib.hid (by omega)
  have CE := fun W => Lib.hid (meet_f a b c d (max a c) (min b d) W h k (by omega) (by omega) hq)
  have R6 : Hid (p = true → r = false) := Lib.hid (fun e => by
    rw [← hp] at e; rw [← hr]
    unfold hasB at e; have := of_decide_eq_true e
    exact hasB_f (by omega))
  clear hm hlt hb2 h k hs ht hu hv huv hp hr hg hst hts hq l
  go_enter Try.func7, Try.ntmps7
  go_wp2_with (first
      | (go_at_call 27; (refine CA.out.mono ?_; rintro e w1 ⟨rfl, k1⟩; replace hb := bThen (bAl (bAl hb _) _) k1; have mS := ((At2.new _ _ _ _).al _).then k1; have mT := (At2.new _ _ _ _).then k1; simp at mS mT; have s0 := mS.c0; have s1 := mS.c1; have t0 := mT.c0; have t1 := mT.c1; have ls := mS.lt; have lt := mT.lt))
      | (go_at_call 10; first | ((with_reducible refine (C1 _).out.mono ?_); rintro e w2 ⟨rfl, k2⟩; replace hb := bThen hb k2; replace mS := mS.then k2; replace mT := mT.then k2; have s0 := mS.c0; have s1 := mS.c1; have t0 := mT.c0; have t1 := mT.c1; have ls := mS.lt; have lt := mT.lt) | ((with_reducible refine (C2 _).out.mono ?_); rintro e w2 ⟨rfl, k2⟩; replace hb := bThen hb k2; replace mS := mS.then k2; replace mT := mT.then k2; have s0 := mS.c0; have s1 := mS.c1; have t0 := mT.c0; have t1 := mT.c1; have ls := mS.lt; have lt := mT.lt))
      | (go_at_call 14; first | ((with_reducible refine (CP _).out.mono ?_); rintro e w2 ⟨rfl, k2⟩; (first | (replace hb := bThen hb k2; replace mS := mS.then k2; replace mT := mT.then k2; (try replace mM := mM.then k2); (try replace mH := mH.then k2)) | (have mH := (At2.new _ u v _).then k2; replace hb := bThen (bAl hb _) k2; replace mS := (mS.al _).then k2; replace mT := (mT.al _).then k2; replace mM := (mM.al _).then k2)); have s0 := mS.c0; have s1 := mS.c1; have t0 := mT.c0; have t1 := mT.c1; have ls := mS.lt; have lt := mT.lt; (try (have x0 := mM.c0; have x1 := mM.c1; have lm := mM.lt)); (try (have h0 := mH.c0; have h1 := mH.c1; have lh := mH.lt))) | ((with_reducible refine (CR _).out.mono ?_); rintro e w2 ⟨rfl, k2⟩; (first | (replace hb := bThen hb k2; replace mS := mS.then k2; replace mT := mT.then k2; (try replace mM := mM.then k2); (try replace mH := mH.then k2)) | (have mH := (At2.new _ u v _).then k2; replace hb := bThen (bAl hb _) k2; replace mS := (mS.al _).then k2; replace mT := (mT.al _).then k2; replace mM := (mM.al _).then k2)); have s0 := mS.c0; have s1 := mS.c1; have t0 := mT.c0; have t1 := mT.c1; have ls := mS.lt; have lt := mT.lt; (try (have x0 := mM.c0; have x1 := mM.c1; have lm := mM.lt)); (try (have h0 := mH.c0; have h1 := mH.c1; have lh := mH.lt))) | ((with_reducible refine (CG _).out.mono ?_); rintro e w2 ⟨rfl, k2⟩; (first | (replace hb := bThen hb k2; replace mS := mS.then k2; replace mT := mT.then k2; (try replace mM := mM.then k2); (try replace mH := mH.then k2)) | (have mH := (At2.new _ u v _).then k2; replace hb := bThen (bAl hb _) k2; replace mS := (mS.al _).then k2; replace mT := (mT.al _).then k2; replace mM := (mM.al _).then k2)); have s0 := mS.c0; have s1 := mS.c1; have t0 := mT.c0; have t1 := mT.c1; have ls := mS.lt; have lt := mT.lt; (try (have x0 := mM.c0; have x1 := mM.c1; have lm := mM.lt)); (try (have h0 := mH.c0; have h1 := mH.c1; have lh := mH.lt))))
      | (go_at_call 19; first | ((with_reducible refine (W1 _).out.mono ?_); rintro e w2 ⟨rfl, k2⟩; (first | (replace hb := bThen hb k2; replace mS := mS.then k2; replace mT := mT.then k2; (try replace mM := mM.then k2); (try replace mH := mH.then k2)) | (have mH := (At2.new _ u v _).then k2; replace hb := bThen (bAl hb _) k2; replace mS := (mS.al _).then k2; replace mT := (mT.al _).then k2; replace mM := (mM.al _).then k2)); have s0 := mS.c0; have s1 := mS.c1; have t0 := mT.c0; have t1 := mT.c1; have ls := mS.lt; have lt := mT.lt; (try (have x0 := mM.c0; have x1 := mM.c1; have lm := mM.lt)); (try (have h0 := mH.c0; have h1 := mH.c1; have lh := mH.lt))) | ((with_reducible refine (W2 _).out.mono ?_); rintro e w2 ⟨rfl, k2⟩; (first | (replace hb := bThen hb k2; replace mS := mS.then k2; replace mT := mT.then k2; (try replace mM := mM.then k2); (try replace mH := mH.then k2)) | (have mH := (At2.new _ u v _).then k2; replace hb := bThen (bAl hb _) k2; replace mS := (mS.al _).then k2; replace mT := (mT.al _).then k2; replace mM := (mM.al _).then k2)); have s0 := mS.c0; have s1 := mS.c1; have t0 := mT.c0; have t1 := mT.c1; have ls := mS.lt; have lt := mT.lt; (try (have x0 := mM.c0; have x1 := mM.c1; have lm := mM.lt)); (try (have h0 := mH.c0; have h1 := mH.c1; have lh := mH.lt))) | ((with_reducible refine (W3 _).out.mono ?_); rintro e w2 ⟨rfl, k2⟩; (first | (replace hb := bThen hb k2; replace mS := mS.then k2; replace mT := mT.then k2; (try replace mM := mM.then k2); (try replace mH := mH.then k2)) | (have mH := (At2.new _ u v _).then k2; replace hb := bThen (bAl hb _) k2; replace mS := (mS.al _).then k2; replace mT := (mT.al _).then k2; replace mM := (mM.al _).then k2)); have s0 := mS.c0; have s1 := mS.c1; have t0 := mT.c0; have t1 := mT.c1; have ls := mS.lt; have lt := mT.lt; (try (have x0 := mM.c0; have x1 := mM.c1; have lm := mM.lt)); (try (have h0 := mH.c0; have h1 := mH.c1; have lh := mH.lt))) | ((with_reducible refine (W4 _).out.mono ?_); rintro e w2 ⟨rfl, k2⟩; (first | (replace hb := bThen hb k2; replace mS := mS.then k2; replace mT := mT.then k2; (try replace mM := mM.then k2); (try replace mH := mH.then k2)) | (have mH := (At2.new _ u v _).then k2; replace hb := bThen (bAl hb _) k2; replace mS := (mS.al _).then k2; replace mT := (mT.al _).then k2; replace mM := (mM.al _).then k2)); have s0 := mS.c0; have s1 := mS.c1; have t0 := mT.c0; have t1 := mT.c1; have ls := mS.lt; have lt := mT.lt; (try (have x0 := mM.c0; have x1 := mM.c1; have lm := mM.lt)); (try (have h0 := mH.c0; have h1 := mH.c1; have lh := mH.lt))) | ((with_reducible refine (W5 _).out.mono ?_); rintro e w2 ⟨rfl, k2⟩; (first | (replace hb := bThen hb k2; replace mS := mS.then k2; replace mT := mT.then k2; (try replace mM := mM.then k2); (try replace mH := mH.then k2)) | (have mH := (At2.new _ u v _).then k2; replace hb := bThen (bAl hb _) k2; replace mS := (mS.al _).then k2; replace mT := (mT.al _).then k2; replace mM := (mM.al _).then k2)); have s0 := mS.c0; have s1 := mS.c1; have t0 := mT.c0; have t1 := mT.c1; have ls := mS.lt; have lt := mT.lt; (try (have x0 := mM.c0; have x1 := mM.c1; have lm := mM.lt)); (try (have h0 := mH.c0; have h1 := mH.c1; have lh := mH.lt))))
      | (go_at_call 17; ((with_reducible refine (CE _).out.mono ?_); rintro e w2 ⟨rfl, k2⟩; replace hb := bThen hb k2; replace mS := mS.then k2; replace mT := mT.then k2; have s0 := mS.c0; have s1 := mS.c1; have t0 := mT.c0; have t1 := mT.c1; have ls := mS.lt; have lt := mT.lt))
      | (go_at_call 21; ((with_reducible refine (CO _).out.mono ?_); rintro e w2 ⟨rfl, k2⟩; have mM := (At2.new _ _ _ _).then k2; replace hb := bThen (bAl hb _) k2; replace mS := (mS.al _).then k2; replace mT := (mT.al _).then k2; have s0 := mS.c0; have s1 := mS.c1; have t0 := mT.c0; have t1 := mT.c1; have ls := mS.lt; have lt := mT.lt; have x0 := mM.c0; have x1 := mM.c1; have lm := mM.lt)))
  all_goals
    go_ret
    exact ⟨by first | rfl | (exfalso; have r1 := R1.out; simp [*] at r1; done) | (exfalso; have r6 := R6.out; simp [*] at r6; done) | (exfalso; have r4 := R4.out; simp [*] at r4; done) | (exfalso; have r1 := R1.out (by assumption); subst r1; exact absurd ‹(!true) = true› (by decide)) | (rcases R5.out with e | e <;> simp [e]; done), hb⟩

set_option maxHeartbeats 8000000 in
theorem sides_c (a b c d n : Int) (w : World) (m0 : Int) (hm : w.cell? ⟨0, 0, none⟩ = some (.int .i64 m0)) (hlt : 0 < w.heap.size) (h : spanE a b = 0) (k : spanE c d = 0) (l : c ≤ a ∧ b ≤ d) (l2 : ¬ (a ≤ c ∧ d ≤ b)) (hq : max a c ≤ min b d) :
    Calls Try.prog 7 #[sp a b, sp c d, .int .i64 n] w fun e w' => e = .returned (.bool true) ∧ Below w.heap.size w w' := by
  have hb : Below w.heap.size w w := Below.refl _ _
  have hb2 := bAl (bAl hb (.cells #[.int .i64 a, .int .i64 b] 23)) (.cells #[.int .i64 c, .int .i64 d] 23)
  have CA := Lib.hid (awake_any _ m0 ((hb2.cell (p := ⟨0, 0, none⟩) hlt).trans hm) (Nat.lt_of_lt_of_le hlt hb2.size))
  have C1 := fun W => Lib.hid (spanMay_eq h W)
  have C2 := fun W => Lib.hid (spanMay_eq k W)
  have hs := spanE_iff.1 h
  have ht := spanE_iff.1 k
  obtain ⟨u, hu⟩ : ∃ u, min a c = u := ⟨_, rfl⟩
  obtain ⟨v, hv⟩ : ∃ v, max b d = v := ⟨_, rfl⟩
  have huv : spanE u v = 0 := spanE_iff.2 (by omega)
  obtain ⟨p, hp⟩ : ∃ p, hasB a b n = p := ⟨_, rfl⟩
  obtain ⟨r, hr⟩ : ∃ r, hasB c d n = r := ⟨_, rfl⟩
  obtain ⟨g, hg⟩ : ∃ g, hasB u v n = g := ⟨_, rfl⟩
  have hst : withinB a b c d = true := withinB_t h k l
  have hts : withinB c d a b = false := by unfold withinB; exact decide_eq_false (fun z => l2 z.2.2)
  have CO := fun W => Lib.hid (hold_t a b c d u v W h k (by omega) (by omega))
  have CP := fun W => Lib.hid (has_eq hp W)
  have CR := fun W => Lib.hid (has_eq hr W)
  have CG := fun W => Lib.hid (has_eq hg W)
  have W1 := fun W => Lib.hid (within_eq hst W)
  have W2 := fun W => Lib.hid (within_eq hts W)
  have W3 := fun W => Lib.hid (within_eq (withinB_t h h (by omega)) W)
  have W4 := fun W => Lib.hid (within_eq (withinB_t h huv (by omega)) W)
  have W5 := fun W => Lib.hid (within_eq (withinB_t k huv (by omega)) W)
  have R1 : Hid (p = true → r = true) := Lib.hid (by
    first
      | exact trivial
      | (rw [← hp, ← hr]; intro f; unfold hasB at f; have := of_decide_eq_true f; exact hasB_t (by omega)))
  have R4 : Hid ((p = true ∨ r = true) → g = true) := Lib.hid (fun e => by
    rw [← hg]; rw [← hp, ← hr] at e
    unfold hasB at e
    rcases e with e | e
    · have := of_decide_eq_true e; exact hasB_t (by omega)
    · have := of_decide_eq_true e; exact hasB_t (by omega))
  have R5 : Hid (u = a ∨ u = c) := Lib.hid (by omega)
  obtain ⟨x, hx⟩ : ∃ x, max a c = x := ⟨_, rfl⟩
  obtain ⟨y, hy⟩ : ∃ y, min b d = y := ⟨_, rfl⟩
  have hxy : spanE x y = 0 := spanE_iff.2 (by omega)
  have CE := fun W => Lib.hid (meet_t a b c d x y W h k (by omega) (by omega) (by omega))
  have W6 := fun W => Lib.hid (within_eq (withinB_t hxy h (by omega)) W)
  have W7 := fun W => Lib.hid (within_eq (withinB_t hxy k (by omega)) W)
  have CQ := fun W => Lib.hid (has_eq (show hasB x y n = (p && r) by
      rw [← hp, ← hr]; unfold hasB; rw [← Bool.decide_and]; congr 1; apply propext; constructor <;> intro <;> omega) W)
  clear hx hy hxy
  clear hm hlt hb2 h k hs ht hu hv huv hp hr hg hst hts hq l l2
  go_enter Try.func7, Try.ntmps7
  go_wp2_with (first
      | (go_at_call 27; (refine CA.out.mono ?_; rintro e w1 ⟨rfl, k1⟩; replace hb := bThen (bAl (bAl hb _) _) k1; have mS := ((At2.new _ _ _ _).al _).then k1; have mT := (At2.new _ _ _ _).then k1; simp at mS mT; have s0 := mS.c0; have s1 := mS.c1; have t0 := mT.c0; have t1 := mT.c1; have ls := mS.lt; have lt := mT.lt))
      | (go_at_call 10; first | ((with_reducible refine (C1 _).out.mono ?_); rintro e w2 ⟨rfl, k2⟩; replace hb := bThen hb k2; replace mS := mS.then k2; replace mT := mT.then k2; have s0 := mS.c0; have s1 := mS.c1; have t0 := mT.c0; have t1 := mT.c1; have ls := mS.lt; have lt := mT.lt) | ((with_reducible refine (C2 _).out.mono ?_); rintro e w2 ⟨rfl, k2⟩; replace hb := bThen hb k2; replace mS := mS.then k2; replace mT := mT.then k2; have s0 := mS.c0; have s1 := mS.c1; have t0 := mT.c0; have t1 := mT.c1; have ls := mS.lt; have lt := mT.lt))
      | (go_at_call 14; first | ((with_reducible refine (CP _).out.mono ?_); rintro e w2 ⟨rfl, k2⟩; (first | (replace hb := bThen hb k2; replace mS := mS.then k2; replace mT := mT.then k2; (try replace mM := mM.then k2); (try replace mH := mH.then k2)) | (have mH := (At2.new _ u v _).then k2; replace hb := bThen (bAl hb _) k2; replace mS := (mS.al _).then k2; replace mT := (mT.al _).then k2; replace mM := (mM.al _).then k2)); have s0 := mS.c0; have s1 := mS.c1; have t0 := mT.c0; have t1 := mT.c1; have ls := mS.lt; have lt := mT.lt; (try (have x0 := mM.c0; have x1 := mM.c1; have lm := mM.lt)); (try (have h0 := mH.c0; have h1 := mH.c1; have lh := mH.lt))) | ((with_reducible refine (CR _).out.mono ?_); rintro e w2 ⟨rfl, k2⟩; (first | (replace hb := bThen hb k2; replace mS := mS.then k2; replace mT := mT.then k2; (try replace mM := mM.then k2); (try replace mH := mH.then k2)) | (have mH := (At2.new _ u v _).then k2; replace hb := bThen (bAl hb _) k2; replace mS := (mS.al _).then k2; replace mT := (mT.al _).then k2; replace mM := (mM.al _).then k2)); have s0 := mS.c0; have s1 := mS.c1; have t0 := mT.c0; have t1 := mT.c1; have ls := mS.lt; have lt := mT.lt; (try (have x0 := mM.c0; have x1 := mM.c1; have lm := mM.lt)); (try (have h0 := mH.c0; have h1 := mH.c1; have lh := mH.lt))) | ((with_reducible refine (CQ _).out.mono ?_); rintro e w2 ⟨rfl, k2⟩; (first | (replace hb := bThen hb k2; replace mS := mS.then k2; replace mT := mT.then k2; (try replace mM := mM.then k2); (try replace mH := mH.then k2)) | (have mH := (At2.new _ u v _).then k2; replace hb := bThen (bAl hb _) k2; replace mS := (mS.al _).then k2; replace mT := (mT.al _).then k2; replace mM := (mM.al _).then k2)); have s0 := mS.c0; have s1 := mS.c1; have t0 := mT.c0; have t1 := mT.c1; have ls := mS.lt; have lt := mT.lt; (try (have x0 := mM.c0; have x1 := mM.c1; have lm := mM.lt)); (try (have h0 := mH.c0; have h1 := mH.c1; have lh := mH.lt))) | ((with_reducible refine (CG _).out.mono ?_); rintro e w2 ⟨rfl, k2⟩; (first | (replace hb := bThen hb k2; replace mS := mS.then k2; replace mT := mT.then k2; (try replace mM := mM.then k2); (try replace mH := mH.then k2)) | (have mH := (At2.new _ u v _).then k2; replace hb := bThen (bAl hb _) k2; replace mS := (mS.al _).then k2; replace mT := (mT.al _).then k2; replace mM := (mM.al _).then k2)); have s0 := mS.c0; have s1 := mS.c1; have t0 := mT.c0; have t1 := mT.c1; have ls := mS.lt; have lt := mT.lt; (try (have x0 := mM.c0; have x1 := mM.c1; have lm := mM.lt)); (try (have h0 := mH.c0; have h1 := mH.c1; have lh := mH.lt))))
      | (go_at_call 19; first | ((with_reducible refine (W1 _).out.mono ?_); rintro e w2 ⟨rfl, k2⟩; (first | (replace hb := bThen hb k2; replace mS := mS.then k2; replace mT := mT.then k2; (try replace mM := mM.then k2); (try replace mH := mH.then k2)) | (have mH := (At2.new _ u v _).then k2; replace hb := bThen (bAl hb _) k2; replace mS := (mS.al _).then k2; replace mT := (mT.al _).then k2; replace mM := (mM.al _).then k2)); have s0 := mS.c0; have s1 := mS.c1; have t0 := mT.c0; have t1 := mT.c1; have ls := mS.lt; have lt := mT.lt; (try (have x0 := mM.c0; have x1 := mM.c1; have lm := mM.lt)); (try (have h0 := mH.c0; have h1 := mH.c1; have lh := mH.lt))) | ((with_reducible refine (W2 _).out.mono ?_); rintro e w2 ⟨rfl, k2⟩; (first | (replace hb := bThen hb k2; replace mS := mS.then k2; replace mT := mT.then k2; (try replace mM := mM.then k2); (try replace mH := mH.then k2)) | (have mH := (At2.new _ u v _).then k2; replace hb := bThen (bAl hb _) k2; replace mS := (mS.al _).then k2; replace mT := (mT.al _).then k2; replace mM := (mM.al _).then k2)); have s0 := mS.c0; have s1 := mS.c1; have t0 := mT.c0; have t1 := mT.c1; have ls := mS.lt; have lt := mT.lt; (try (have x0 := mM.c0; have x1 := mM.c1; have lm := mM.lt)); (try (have h0 := mH.c0; have h1 := mH.c1; have lh := mH.lt))) | ((with_reducible refine (W3 _).out.mono ?_); rintro e w2 ⟨rfl, k2⟩; (first | (replace hb := bThen hb k2; replace mS := mS.then k2; replace mT := mT.then k2; (try replace mM := mM.then k2); (try replace mH := mH.then k2)) | (have mH := (At2.new _ u v _).then k2; replace hb := bThen (bAl hb _) k2; replace mS := (mS.al _).then k2; replace mT := (mT.al _).then k2; replace mM := (mM.al _).then k2)); have s0 := mS.c0; have s1 := mS.c1; have t0 := mT.c0; have t1 := mT.c1; have ls := mS.lt; have lt := mT.lt; (try (have x0 := mM.c0; have x1 := mM.c1; have lm := mM.lt)); (try (have h0 := mH.c0; have h1 := mH.c1; have lh := mH.lt))) | ((with_reducible refine (W4 _).out.mono ?_); rintro e w2 ⟨rfl, k2⟩; (first | (replace hb := bThen hb k2; replace mS := mS.then k2; replace mT := mT.then k2; (try replace mM := mM.then k2); (try replace mH := mH.then k2)) | (have mH := (At2.new _ u v _).then k2; replace hb := bThen (bAl hb _) k2; replace mS := (mS.al _).then k2; replace mT := (mT.al _).then k2; replace mM := (mM.al _).then k2)); have s0 := mS.c0; have s1 := mS.c1; have t0 := mT.c0; have t1 := mT.c1; have ls := mS.lt; have lt := mT.lt; (try (have x0 := mM.c0; have x1 := mM.c1; have lm := mM.lt)); (try (have h0 := mH.c0; have h1 := mH.c1; have lh := mH.lt))) | ((with_reducible refine (W5 _).out.mono ?_); rintro e w2 ⟨rfl, k2⟩; (first | (replace hb := bThen hb k2; replace mS := mS.then k2; replace mT := mT.then k2; (try replace mM := mM.then k2); (try replace mH := mH.then k2)) | (have mH := (At2.new _ u v _).then k2; replace hb := bThen (bAl hb _) k2; replace mS := (mS.al _).then k2; replace mT := (mT.al _).then k2; replace mM := (mM.al _).then k2)); have s0 := mS.c0; have s1 := mS.c1; have t0 := mT.c0; have t1 := mT.c1; have ls := mS.lt; have lt := mT.lt; (try (have x0 := mM.c0; have x1 := mM.c1; have lm := mM.lt)); (try (have h0 := mH.c0; have h1 := mH.c1; have lh := mH.lt))) | ((with_reducible refine (W6 _).out.mono ?_); rintro e w2 ⟨rfl, k2⟩; (first | (replace hb := bThen hb k2; replace mS := mS.then k2; replace mT := mT.then k2; (try replace mM := mM.then k2); (try replace mH := mH.then k2)) | (have mH := (At2.new _ u v _).then k2; replace hb := bThen (bAl hb _) k2; replace mS := (mS.al _).then k2; replace mT := (mT.al _).then k2; replace mM := (mM.al _).then k2)); have s0 := mS.c0; have s1 := mS.c1; have t0 := mT.c0; have t1 := mT.c1; have ls := mS.lt; have lt := mT.lt; (try (have x0 := mM.c0; have x1 := mM.c1; have lm := mM.lt)); (try (have h0 := mH.c0; have h1 := mH.c1; have lh := mH.lt))) | ((with_reducible refine (W7 _).out.mono ?_); rintro e w2 ⟨rfl, k2⟩; (first | (replace hb := bThen hb k2; replace mS := mS.then k2; replace mT := mT.then k2; (try replace mM := mM.then k2); (try replace mH := mH.then k2)) | (have mH := (At2.new _ u v _).then k2; replace hb := bThen (bAl hb _) k2; replace mS := (mS.al _).then k2; replace mT := (mT.al _).then k2; replace mM := (mM.al _).then k2)); have s0 := mS.c0; have s1 := mS.c1; have t0 := mT.c0; have t1 := mT.c1; have ls := mS.lt; have lt := mT.lt; (try (have x0 := mM.c0; have x1 := mM.c1; have lm := mM.lt)); (try (have h0 := mH.c0; have h1 := mH.c1; have lh := mH.lt))))
      | (go_at_call 17; ((with_reducible refine (CE _).out.mono ?_); rintro e w2 ⟨rfl, k2⟩; replace hb := bThen hb k2; replace mS := mS.then k2; replace mT := mT.then k2; have s0 := mS.c0; have s1 := mS.c1; have t0 := mT.c0; have t1 := mT.c1; have ls := mS.lt; have lt := mT.lt))
      | (go_at_call 21; ((with_reducible refine (CO _).out.mono ?_); rintro e w2 ⟨rfl, k2⟩; have mM := (At2.new _ _ _ _).then k2; replace hb := bThen (bAl hb _) k2; replace mS := (mS.al _).then k2; replace mT := (mT.al _).then k2; have s0 := mS.c0; have s1 := mS.c1; have t0 := mT.c0; have t1 := mT.c1; have ls := mS.lt; have lt := mT.lt; have x0 := mM.c0; have x1 := mM.c1; have lm := mM.lt)))
  all_goals
    go_ret
    exact ⟨by first | rfl | (exfalso; have r1 := R1.out; simp [*] at r1; done) | (exfalso; have r4 := R4.out; simp [*] at r4; done) | (exfalso; have r1 := R1.out (by assumption); subst r1; exact absurd ‹(!true) = true› (by decide)) | (rcases R5.out with e | e <;> simp [e]; done), hb⟩

set_option maxHeartbeats 8000000 in
theorem sides_d (a b n : Int) (w : World) (m0 : Int) (hm : w.cell? ⟨0, 0, none⟩ = some (.int .i64 m0)) (hlt : 0 < w.heap.size) (h : spanE a b = 0) (k : spanE a b = 0)  (hq : max a a ≤ min b b) :
    Calls Try.prog 7 #[sp a b, sp a b, .int .i64 n] w fun e w' => e = .returned (.bool true) ∧ Below w.heap.size w w' := by
  have hb : Below w.heap.size w w := Below.refl _ _
  have hb2 := bAl (bAl hb (.cells #[.int .i64 a, .int .i64 b] 23)) (.cells #[.int .i64 a, .int .i64 b] 23)
  have CA := Lib.hid (awake_any _ m0 ((hb2.cell (p := ⟨0, 0, none⟩) hlt).trans hm) (Nat.lt_of_lt_of_le hlt hb2.size))
  have C1 := fun W => Lib.hid (spanMay_eq h W)
  have C2 := fun W => Lib.hid (spanMay_eq k W)
  have hs := spanE_iff.1 h
  have ht := spanE_iff.1 k
  obtain ⟨u, hu⟩ : ∃ u, min a a = u := ⟨_, rfl⟩
  obtain ⟨v, hv⟩ : ∃ v, max b b = v := ⟨_, rfl⟩
  have huv : spanE u v = 0 := spanE_iff.2 (by omega)
  obtain ⟨p, hp⟩ : ∃ p, hasB a b n = p := ⟨_, rfl⟩
  obtain ⟨r, hr⟩ : ∃ r, hasB a b n = r := ⟨_, rfl⟩
  obtain ⟨g, hg⟩ : ∃ g, hasB u v n = g := ⟨_, rfl⟩
  have hst : withinB a b a b = true := withinB_t h k (by omega)
  have hts : withinB a b a b = true := withinB_t k h (by omega)
  have CO := fun W => Lib.hid (hold_t a b a b u v W h k (by omega) (by omega))
  have CP := fun W => Lib.hid (has_eq hp W)
  have CR := fun W => Lib.hid (has_eq hr W)
  have CG := fun W => Lib.hid (has_eq hg W)
  have W1 := fun W => Lib.hid (within_eq hst W)
  have W2 := fun W => Lib.hid (within_eq hts W)
  have W3 := fun W => Lib.hid (within_eq (withinB_t h h (by omega)) W)
  have W4 := fun W => Lib.hid (within_eq (withinB_t h huv (by omega)) W)
  have W5 := fun W => Lib.hid (within_eq (withinB_t k huv (by omega)) W)
  have R1 : Hid (p = true → r = true) := Lib.hid (by
    first
      | exact trivial
      | (rw [← hp, ← hr]; intro f; unfold hasB at f; have := of_decide_eq_true f; exact hasB_t (by omega)))
  have R4 : Hid ((p = true ∨ r = true) → g = true) := Lib.hid (fun e => by
    rw [← hg]; rw [← hp, ← hr] at e
    unfold hasB at e
    rcases e with e | e
    · have := of_decide_eq_true e; exact hasB_t (by omega)
    · have := of_decide_eq_true e; exact hasB_t (by omega))
  have R5 : Hid (u = a ∨ u = a) := Lib.hid (by omega)
  obtain ⟨x, hx⟩ : ∃ x, max a a = x := ⟨_, rfl⟩
  obtain ⟨y, hy⟩ : ∃ y, min b b = y := ⟨_, rfl⟩
  have hxy : spanE x y = 0 := spanE_iff.2 (by omega)
  have CE := fun W => Lib.hid (meet_t a b a b x y W h k (by omega) (by omega) (by omega))
  have W6 := fun W => Lib.hid (within_eq (withinB_t hxy h (by omega)) W)
  have W7 := fun W => Lib.hid (within_eq (withinB_t hxy k (by omega)) W)
  have CQ := fun W => Lib.hid (has_eq (show hasB x y n = (p && r) by
      rw [← hp, ← hr]; unfold hasB; rw [← Bool.decide_and]; congr 1; apply propext; constructor <;> intro <;> omega) W)
  clear hx hy hxy
  clear hm hlt hb2 h k hs ht hu hv huv hp hr hg hst hts hq 
  go_enter Try.func7, Try.ntmps7
  go_wp2_with (first
      | (go_at_call 27; (refine CA.out.mono ?_; rintro e w1 ⟨rfl, k1⟩; replace hb := bThen (bAl (bAl hb _) _) k1; have mS := ((At2.new _ _ _ _).al _).then k1; have mT := (At2.new _ _ _ _).then k1; simp at mS mT; have s0 := mS.c0; have s1 := mS.c1; have t0 := mT.c0; have t1 := mT.c1; have ls := mS.lt; have lt := mT.lt))
      | (go_at_call 10; first | ((with_reducible refine (C1 _).out.mono ?_); rintro e w2 ⟨rfl, k2⟩; replace hb := bThen hb k2; replace mS := mS.then k2; replace mT := mT.then k2; have s0 := mS.c0; have s1 := mS.c1; have t0 := mT.c0; have t1 := mT.c1; have ls := mS.lt; have lt := mT.lt) | ((with_reducible refine (C2 _).out.mono ?_); rintro e w2 ⟨rfl, k2⟩; replace hb := bThen hb k2; replace mS := mS.then k2; replace mT := mT.then k2; have s0 := mS.c0; have s1 := mS.c1; have t0 := mT.c0; have t1 := mT.c1; have ls := mS.lt; have lt := mT.lt))
      | (go_at_call 14; first | ((with_reducible refine (CP _).out.mono ?_); rintro e w2 ⟨rfl, k2⟩; (first | (replace hb := bThen hb k2; replace mS := mS.then k2; replace mT := mT.then k2; (try replace mM := mM.then k2); (try replace mH := mH.then k2)) | (have mH := (At2.new _ u v _).then k2; replace hb := bThen (bAl hb _) k2; replace mS := (mS.al _).then k2; replace mT := (mT.al _).then k2; replace mM := (mM.al _).then k2)); have s0 := mS.c0; have s1 := mS.c1; have t0 := mT.c0; have t1 := mT.c1; have ls := mS.lt; have lt := mT.lt; (try (have x0 := mM.c0; have x1 := mM.c1; have lm := mM.lt)); (try (have h0 := mH.c0; have h1 := mH.c1; have lh := mH.lt))) | ((with_reducible refine (CR _).out.mono ?_); rintro e w2 ⟨rfl, k2⟩; (first | (replace hb := bThen hb k2; replace mS := mS.then k2; replace mT := mT.then k2; (try replace mM := mM.then k2); (try replace mH := mH.then k2)) | (have mH := (At2.new _ u v _).then k2; replace hb := bThen (bAl hb _) k2; replace mS := (mS.al _).then k2; replace mT := (mT.al _).then k2; replace mM := (mM.al _).then k2)); have s0 := mS.c0; have s1 := mS.c1; have t0 := mT.c0; have t1 := mT.c1; have ls := mS.lt; have lt := mT.lt; (try (have x0 := mM.c0; have x1 := mM.c1; have lm := mM.lt)); (try (have h0 := mH.c0; have h1 := mH.c1; have lh := mH.lt))) | ((with_reducible refine (CQ _).out.mono ?_); rintro e w2 ⟨rfl, k2⟩; (first | (replace hb := bThen hb k2; replace mS := mS.then k2; replace mT := mT.then k2; (try replace mM := mM.then k2); (try replace mH := mH.then k2)) | (have mH := (At2.new _ u v _).then k2; replace hb := bThen (bAl hb _) k2; replace mS := (mS.al _).then k2; replace mT := (mT.al _).then k2; replace mM := (mM.al _).then k2)); have s0 := mS.c0; have s1 := mS.c1; have t0 := mT.c0; have t1 := mT.c1; have ls := mS.lt; have lt := mT.lt; (try (have x0 := mM.c0; have x1 := mM.c1; have lm := mM.lt)); (try (have h0 := mH.c0; have h1 := mH.c1; have lh := mH.lt))) | ((with_reducible refine (CG _).out.mono ?_); rintro e w2 ⟨rfl, k2⟩; (first | (replace hb := bThen hb k2; replace mS := mS.then k2; replace mT := mT.then k2; (try replace mM := mM.then k2); (try replace mH := mH.then k2)) | (have mH := (At2.new _ u v _).then k2; replace hb := bThen (bAl hb _) k2; replace mS := (mS.al _).then k2; replace mT := (mT.al _).then k2; replace mM := (mM.al _).then k2)); have s0 := mS.c0; have s1 := mS.c1; have t0 := mT.c0; have t1 := mT.c1; have ls := mS.lt; have lt := mT.lt; (try (have x0 := mM.c0; have x1 := mM.c1; have lm := mM.lt)); (try (have h0 := mH.c0; have h1 := mH.c1; have lh := mH.lt))))
      | (go_at_call 19; first | ((with_reducible refine (W1 _).out.mono ?_); rintro e w2 ⟨rfl, k2⟩; (first | (replace hb := bThen hb k2; replace mS := mS.then k2; replace mT := mT.then k2; (try replace mM := mM.then k2); (try replace mH := mH.then k2)) | (have mH := (At2.new _ u v _).then k2; replace hb := bThen (bAl hb _) k2; replace mS := (mS.al _).then k2; replace mT := (mT.al _).then k2; replace mM := (mM.al _).then k2)); have s0 := mS.c0; have s1 := mS.c1; have t0 := mT.c0; have t1 := mT.c1; have ls := mS.lt; have lt := mT.lt; (try (have x0 := mM.c0; have x1 := mM.c1; have lm := mM.lt)); (try (have h0 := mH.c0; have h1 := mH.c1; have lh := mH.lt))) | ((with_reducible refine (W2 _).out.mono ?_); rintro e w2 ⟨rfl, k2⟩; (first | (replace hb := bThen hb k2; replace mS := mS.then k2; replace mT := mT.then k2; (try replace mM := mM.then k2); (try replace mH := mH.then k2)) | (have mH := (At2.new _ u v _).then k2; replace hb := bThen (bAl hb _) k2; replace mS := (mS.al _).then k2; replace mT := (mT.al _).then k2; replace mM := (mM.al _).then k2)); have s0 := mS.c0; have s1 := mS.c1; have t0 := mT.c0; have t1 := mT.c1; have ls := mS.lt; have lt := mT.lt; (try (have x0 := mM.c0; have x1 := mM.c1; have lm := mM.lt)); (try (have h0 := mH.c0; have h1 := mH.c1; have lh := mH.lt))) | ((with_reducible refine (W3 _).out.mono ?_); rintro e w2 ⟨rfl, k2⟩; (first | (replace hb := bThen hb k2; replace mS := mS.then k2; replace mT := mT.then k2; (try replace mM := mM.then k2); (try replace mH := mH.then k2)) | (have mH := (At2.new _ u v _).then k2; replace hb := bThen (bAl hb _) k2; replace mS := (mS.al _).then k2; replace mT := (mT.al _).then k2; replace mM := (mM.al _).then k2)); have s0 := mS.c0; have s1 := mS.c1; have t0 := mT.c0; have t1 := mT.c1; have ls := mS.lt; have lt := mT.lt; (try (have x0 := mM.c0; have x1 := mM.c1; have lm := mM.lt)); (try (have h0 := mH.c0; have h1 := mH.c1; have lh := mH.lt))) | ((with_reducible refine (W4 _).out.mono ?_); rintro e w2 ⟨rfl, k2⟩; (first | (replace hb := bThen hb k2; replace mS := mS.then k2; replace mT := mT.then k2; (try replace mM := mM.then k2); (try replace mH := mH.then k2)) | (have mH := (At2.new _ u v _).then k2; replace hb := bThen (bAl hb _) k2; replace mS := (mS.al _).then k2; replace mT := (mT.al _).then k2; replace mM := (mM.al _).then k2)); have s0 := mS.c0; have s1 := mS.c1; have t0 := mT.c0; have t1 := mT.c1; have ls := mS.lt; have lt := mT.lt; (try (have x0 := mM.c0; have x1 := mM.c1; have lm := mM.lt)); (try (have h0 := mH.c0; have h1 := mH.c1; have lh := mH.lt))) | ((with_reducible refine (W5 _).out.mono ?_); rintro e w2 ⟨rfl, k2⟩; (first | (replace hb := bThen hb k2; replace mS := mS.then k2; replace mT := mT.then k2; (try replace mM := mM.then k2); (try replace mH := mH.then k2)) | (have mH := (At2.new _ u v _).then k2; replace hb := bThen (bAl hb _) k2; replace mS := (mS.al _).then k2; replace mT := (mT.al _).then k2; replace mM := (mM.al _).then k2)); have s0 := mS.c0; have s1 := mS.c1; have t0 := mT.c0; have t1 := mT.c1; have ls := mS.lt; have lt := mT.lt; (try (have x0 := mM.c0; have x1 := mM.c1; have lm := mM.lt)); (try (have h0 := mH.c0; have h1 := mH.c1; have lh := mH.lt))) | ((with_reducible refine (W6 _).out.mono ?_); rintro e w2 ⟨rfl, k2⟩; (first | (replace hb := bThen hb k2; replace mS := mS.then k2; replace mT := mT.then k2; (try replace mM := mM.then k2); (try replace mH := mH.then k2)) | (have mH := (At2.new _ u v _).then k2; replace hb := bThen (bAl hb _) k2; replace mS := (mS.al _).then k2; replace mT := (mT.al _).then k2; replace mM := (mM.al _).then k2)); have s0 := mS.c0; have s1 := mS.c1; have t0 := mT.c0; have t1 := mT.c1; have ls := mS.lt; have lt := mT.lt; (try (have x0 := mM.c0; have x1 := mM.c1; have lm := mM.lt)); (try (have h0 := mH.c0; have h1 := mH.c1; have lh := mH.lt))) | ((with_reducible refine (W7 _).out.mono ?_); rintro e w2 ⟨rfl, k2⟩; (first | (replace hb := bThen hb k2; replace mS := mS.then k2; replace mT := mT.then k2; (try replace mM := mM.then k2); (try replace mH := mH.then k2)) | (have mH := (At2.new _ u v _).then k2; replace hb := bThen (bAl hb _) k2; replace mS := (mS.al _).then k2; replace mT := (mT.al _).then k2; replace mM := (mM.al _).then k2)); have s0 := mS.c0; have s1 := mS.c1; have t0 := mT.c0; have t1 := mT.c1; have ls := mS.lt; have lt := mT.lt; (try (have x0 := mM.c0; have x1 := mM.c1; have lm := mM.lt)); (try (have h0 := mH.c0; have h1 := mH.c1; have lh := mH.lt))))
      | (go_at_call 17; ((with_reducible refine (CE _).out.mono ?_); rintro e w2 ⟨rfl, k2⟩; replace hb := bThen hb k2; replace mS := mS.then k2; replace mT := mT.then k2; have s0 := mS.c0; have s1 := mS.c1; have t0 := mT.c0; have t1 := mT.c1; have ls := mS.lt; have lt := mT.lt))
      | (go_at_call 21; ((with_reducible refine (CO _).out.mono ?_); rintro e w2 ⟨rfl, k2⟩; have mM := (At2.new _ _ _ _).then k2; replace hb := bThen (bAl hb _) k2; replace mS := (mS.al _).then k2; replace mT := (mT.al _).then k2; have s0 := mS.c0; have s1 := mS.c1; have t0 := mT.c0; have t1 := mT.c1; have ls := mS.lt; have lt := mT.lt; have x0 := mM.c0; have x1 := mM.c1; have lm := mM.lt)))
  all_goals
    go_ret
    exact ⟨by first | rfl | (exfalso; have r1 := R1.out; simp [*] at r1; done) | (exfalso; have r4 := R4.out; simp [*] at r4; done) | (exfalso; have r1 := R1.out (by assumption); subst r1; exact absurd ‹(!true) = true› (by decide)) | (rcases R5.out with e | e <;> simp [e]; done), hb⟩

theorem sides_walk (a b c d n : Int) (w : World) (m0 : Int) (hm : w.cell? ⟨0, 0, none⟩ = some (.int .i64 m0)) (hlt : 0 < w.heap.size) :
    Calls Try.prog 7 #[sp a b, sp c d, .int .i64 n] w fun e w' => e = .returned (.bool true) ∧ Below w.heap.size w w' := by
  by_cases h : spanE a b = 0 ∧ spanE c d = 0
  · have hs := spanE_iff.1 h.1
    have ht := spanE_iff.1 h.2
    by_cases l : c ≤ a ∧ b ≤ d
    · by_cases l2 : a ≤ c ∧ d ≤ b
      · obtain rfl : a = c := by omega
        obtain rfl : b = d := by omega
        exact sides_d a b n w m0 hm hlt h.1 h.2 (by omega)
      · exact sides_c a b c d n w m0 hm hlt h.1 h.2 l l2 (by omega)
    · by_cases hq : max a c ≤ min b d
      · exact sides_a a b c d n w m0 hm hlt h.1 h.2 l hq
      · exact sides_b a b c d n w m0 hm hlt h.1 h.2 l (by omega)
  · exact sides_n a b c d n w m0 hm hlt h
end Go.Proofs.Ytadbbpfnedbhcaa
