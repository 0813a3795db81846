/-
  WALK: the law SpanMirror.
-/
import Derived.Test.YtadbbpfnedbhcaaSSidesLaw
import Derived.Deep.RegionHeld3
namespace Go.Proofs.Ytadbbpfnedbhcaa
open Go.RowKit FixMath
set_option maxRecDepth 100000
set_option linter.unusedVariables false
set_option linter.unusedSimpArgs false

theorem At2.drew1 {W : World} {B : Nat} {a b : Int} (h : At2 W B a b) : At2 W.drew B a b := ⟨h.lt, h.c0, h.c1, h.f0, h.f1⟩
theorem meet_eqT {a b c d x y : Int} (h : spanE a b = 0) (k : spanE c d = 0) (hx : max a c = x) (hy : min b d = y) (l : x ≤ y) (w : World) :
    Calls Try.prog 17 #[sp a b, sp c d] w fun e w' => e = .returned (.tuple #[sp x y, .bool true]) ∧ Below w.heap.size w w' := meet_t a b c d x y w h k (by omega) (by omega) l
theorem meet_eqF {a b c d : Int} (h : spanE a b = 0) (k : spanE c d = 0) (l : min b d < max a c) (w : World) :
    Calls Try.prog 17 #[sp a b, sp c d] w fun e w' => e = .returned (.tuple #[sp 0 0, .bool false]) ∧ Below w.heap.size w w' := meet_f a b c d _ _ w h k (by omega) (by omega) l
theorem hold_eq {a b c d u v : Int} (h : spanE a b = 0) (k : spanE c d = 0) (hu : min a c = u) (hv : max b d = v) (w : World) :
    Calls Try.prog 21 #[sp a b, sp c d] w fun e w' => e = .returned (sp u v) ∧ Below w.heap.size w w' := hold_t a b c d u v w h k (by omega) (by omega)
theorem mirror_near {a b n z : Int} (h : spanE a b = 0) (hz : nearV a b n = z) : nearV (-b) (-a) (-n) = -z := by
  have hs := spanE_iff.1 h
  have h' : spanE (-b) (-a) = 0 := spanE_iff.2 (by omega)
  rw [← hz]
  unfold nearV
  rw [if_pos h, if_pos h']
  repeat' split
  all_goals omega
theorem mirror_within {a b c d : Int} (h : spanE a b = 0) (k : spanE c d = 0) : withinB (-b) (-a) (-d) (-c) = withinB a b c d := by
  have hs := spanE_iff.1 h; have ht := spanE_iff.1 k
  have h' : spanE (-b) (-a) = 0 := spanE_iff.2 (by omega)
  have k' : spanE (-d) (-c) = 0 := spanE_iff.2 (by omega)
  unfold withinB
  congr 1
  apply propext
  constructor
  · rintro ⟨_, _, l⟩; exact ⟨h, k, by omega⟩
  · rintro ⟨_, _, l⟩; exact ⟨h', k', by omega⟩

set_option maxHeartbeats 16000000 in
theorem mirror_t (a b c d n : Int) (w : World) (m0 : Int) (hm : w.cell? ⟨0, 0, none⟩ = some (.int .i64 m0)) (hlt : 0 < w.heap.size) (h : spanE a b = 0) (k : spanE c d = 0) (hn : -1000000000000000 ≤ n ∧ n ≤ 1000000000000000) (hq : max a c ≤ min b d) :
    Calls Try.prog 8 #[sp a b, sp c d, .int .i64 n] w fun e w' => e = .returned (.bool true) ∧ Below w.heap.size w w' := by
  have hb : Below w.heap.size w w := Below.refl _ _
  have hb2 := bAl (bAl hb (.cells #[.int .i64 a, .int .i64 b] 23)) (.cells #[.int .i64 c, .int .i64 d] 23)
  have CA := Lib.hid (awake_any _ m0 ((hb2.cell (p := ⟨0, 0, none⟩) hlt).trans hm) (Nat.lt_of_lt_of_le hlt hb2.size))
  have C1 := fun W => Lib.hid (spanMay_eq h W)
  have C2 := fun W => Lib.hid (spanMay_eq k W)
  have hs := spanE_iff.1 h
  have ht := spanE_iff.1 k
  have h' : spanE (-b) (-a) = 0 := spanE_iff.2 (by omega)
  have k' : spanE (-d) (-c) = 0 := spanE_iff.2 (by omega)
  obtain ⟨u, hu⟩ : ∃ u, min a c = u := ⟨_, rfl⟩
  obtain ⟨v, hv⟩ : ∃ v, max b d = v := ⟨_, rfl⟩
  obtain ⟨z, hz⟩ : ∃ z, nearV a b n = z := ⟨_, rfl⟩
  obtain ⟨q, hw⟩ : ∃ q, withinB a b c d = q := ⟨_, rfl⟩
  have hzb := (near_facts (n := n) h).1
  rw [hz] at hzb
  have O1 := fun W => Lib.hid (hold_eq h k hu hv W)
  have O2 := fun W => Lib.hid (hold_eq k h (by omega : min c a = u) (by omega : max d b = v) W)
  have N1 := fun W => Lib.hid (near_eq hz W)
  have N2 := fun W => Lib.hid (near_eq (mirror_near h hz) W)
  have W1 := fun W => Lib.hid (within_eq hw W)
  have W2 := fun W => Lib.hid (within_eq ((mirror_within h k).trans hw) W)
  have G1 : IntKind.i64.wrap (-a) = -a := IntWalk.i64_in _ (by omega)
  have G2 : IntKind.i64.wrap (-b) = -b := IntWalk.i64_in _ (by omega)
  have G3 : IntKind.i64.wrap (-c) = -c := IntWalk.i64_in _ (by omega)
  have G4 : IntKind.i64.wrap (-d) = -d := IntWalk.i64_in _ (by omega)
  have G5 : IntKind.i64.wrap (-n) = -n := IntWalk.i64_in _ (by omega)
  have G6 : IntKind.i64.wrap (-z) = -z := IntWalk.i64_in _ (by omega)
  have D : (n < a ∧ sideV a b n = 0 ∧ sideV (-b) (-a) (-n) = 2 ∧ hasB a b n = false ∧ hasB (-b) (-a) (-n) = false) ∨ (b < n ∧ sideV a b n = 2 ∧ sideV (-b) (-a) (-n) = 0 ∧ hasB a b n = false ∧ hasB (-b) (-a) (-n) = false) ∨ (sideV a b n = 1 ∧ sideV (-b) (-a) (-n) = 1 ∧ hasB a b n = true ∧ hasB (-b) (-a) (-n) = true) := by
    by_cases l1 : n < a
    · exact .inl ⟨l1, sideV_1 l1, sideV_2 (by omega) (by omega), hasB_f (by omega), hasB_f (by omega)⟩
    · by_cases l2 : b < n
      · exact .inr (.inl ⟨l2, sideV_2 l1 l2, sideV_1 (by omega), hasB_f (by omega), hasB_f (by omega)⟩)
      · exact .inr (.inr ⟨sideV_3 l1 l2, sideV_3 (by omega) (by omega), hasB_t (by omega), hasB_t (by omega)⟩)
  have HD := Lib.hid D
  have hn1 : ¬ n < -1000000000000000 := by omega
  have hn2 : ¬ 1000000000000000 < n := by omega
  obtain ⟨x, hx⟩ : ∃ x, max a c = x := ⟨_, rfl⟩
  obtain ⟨y, hy⟩ : ∃ y, min b d = y := ⟨_, rfl⟩
  have E1 := fun W => Lib.hid (meet_eqT h k hx hy (by omega) W)
  have E2 := fun W => Lib.hid (meet_eqT k h (by omega : max c a = x) (by omega : min d b = y) (by omega) W)
  have E3 := fun W => Lib.hid (meet_eqT h' k' (by omega : max (-b) (-d) = -y) (by omega : min (-a) (-c) = -x) (by omega) W)
  have G7 : IntKind.i64.wrap (-x) = -x := IntWalk.i64_in _ (by omega)
  have G8 : IntKind.i64.wrap (-y) = -y := IntWalk.i64_in _ (by omega)
  clear hx hy
  clear hm hlt hb2 h k hs ht h' k' hu hv hz hw hzb D hn hq
  go_enter Try.func8, Try.ntmps8
  go_wp2_with (first
    | (go_at_call 27; (refine CA.out.mono ?_; rintro e w1 ⟨rfl, k1⟩; replace hb := bThen (bAl (bAl hb _) _) k1; have mS := ((At2.new _ _ _ _).al _).then k1; have mT := (At2.new _ _ _ _).then k1; simp at mS mT; have s0 := mS.c0; have s1 := mS.c1; have t0 := mT.c0; have t1 := mT.c1; have ls := mS.lt; have lt := mT.lt))
    | (go_at_call 10; first | ((with_reducible refine (C1 _).out.mono ?_); rintro e w2 ⟨rfl, k2⟩; replace hb := bThen hb k2; replace mS := mS.then k2; replace mT := mT.then k2; have s0 := mS.c0; have s1 := mS.c1; have t0 := mT.c0; have t1 := mT.c1; have ls := mS.lt; have lt := mT.lt) | ((with_reducible refine (C2 _).out.mono ?_); rintro e w2 ⟨rfl, k2⟩; replace hb := bThen hb k2; replace mS := mS.then k2; replace mT := mT.then k2; have s0 := mS.c0; have s1 := mS.c1; have t0 := mT.c0; have t1 := mT.c1; have ls := mS.lt; have lt := mT.lt))
    | (go_at_call 17; first | ((with_reducible refine (E1 _).out.mono ?_); rintro e wa ⟨rfl, k2⟩; replace hb := bThen hb k2; replace mS := mS.then k2; replace mT := mT.then k2; have s0 := mS.c0; have s1 := mS.c1; have t0 := mT.c0; have t1 := mT.c1; have ls := mS.lt; have lt := mT.lt) | ((with_reducible refine (E2 _).out.mono ?_); rintro e wb ⟨rfl, k2⟩; have mA := (At2.new _ _ _ _).then k2; replace hb := bThen (bAl hb _) k2; replace mS := (mS.al _).then k2; replace mT := (mT.al _).then k2; have s0 := mS.c0; have s1 := mS.c1; have t0 := mT.c0; have t1 := mT.c1; have ls := mS.lt; have lt := mT.lt)))
  have mB := At2.new wb x y 23
  replace hb := bAl hb (.cells #[.int .i64 x, .int .i64 y] 23)
  replace mS := mS.al (.cells #[.int .i64 x, .int .i64 y] 23)
  replace mT := mT.al (.cells #[.int .i64 x, .int .i64 y] 23)
  replace mA := mA.al (.cells #[.int .i64 x, .int .i64 y] 23)
  generalize wb.alloc (.cells #[.int .i64 x, .int .i64 y] 23) = W0 at *
  have hP : ∀ w', Below W0.heap.size W0 w' → (w'.cell? ⟨w.heap.size, 0, none⟩ = some (.int .i64 a) ∧ w'.cell? ⟨w.heap.size, 1, none⟩ = some (.int .i64 b) ∧ w'.cell? ⟨w.heap.size + 1, 0, none⟩ = some (.int .i64 c) ∧ w'.cell? ⟨w.heap.size + 1, 1, none⟩ = some (.int .i64 d) ∧ w'.cell? ⟨wa.heap.size, 0, none⟩ = some (.int .i64 x) ∧ w'.cell? ⟨wa.heap.size, 1, none⟩ = some (.int .i64 y) ∧ w'.cell? ⟨wb.heap.size, 0, none⟩ = some (.int .i64 x) ∧ w'.cell? ⟨wb.heap.size, 1, none⟩ = some (.int .i64 y)) := fun w' k => ⟨(mS.then k).c0, (mS.then k).c1, (mT.then k).c0, (mT.then k).c1, (mA.then k).c0, (mA.then k).c1, (mB.then k).c0, (mB.then k).c1⟩
  clear s0 s1 t0 t1 ls lt
  go_region_held3 (fun w' => (w'.cell? ⟨w.heap.size, 0, none⟩ = some (.int .i64 a) ∧ w'.cell? ⟨w.heap.size, 1, none⟩ = some (.int .i64 b) ∧ w'.cell? ⟨w.heap.size + 1, 0, none⟩ = some (.int .i64 c) ∧ w'.cell? ⟨w.heap.size + 1, 1, none⟩ = some (.int .i64 d) ∧ w'.cell? ⟨wa.heap.size, 0, none⟩ = some (.int .i64 x) ∧ w'.cell? ⟨wa.heap.size, 1, none⟩ = some (.int .i64 y) ∧ w'.cell? ⟨wb.heap.size, 0, none⟩ = some (.int .i64 x) ∧ w'.cell? ⟨wb.heap.size, 1, none⟩ = some (.int .i64 y)) ∧ Below W0.heap.size W0 w')
    (first | exact ⟨hP _ (Below.refl _ _).drew, (Below.refl _ _).drew⟩ | exact ⟨hP _ (keepD (by assumption) k3), keepD (by assumption) k3⟩)
    (first
    | (go_at_call 21; (with_reducible refine (O1 _).out.mono ?_); rintro e w3 ⟨rfl, k3⟩)
    | (go_at_call 21; (with_reducible refine (O2 _).out.mono ?_); rintro e w3 ⟨rfl, k3⟩))
  go_wp2_with fail
  obtain ⟨hX, hY⟩ : _ ∧ Below W0.heap.size W0 _ := by assumption
  replace hb := bThen hb hY
  replace mS := mS.then hY
  replace mT := mT.then hY
  replace mA := mA.then hY
  clear hX hY hP mB O1 O2 E1 E2 C1 C2 CA
  have s0 := mS.c0; have s1 := mS.c1; have t0 := mT.c0; have t1 := mT.c1; have ls := mS.lt; have lt := mT.lt
  go_region_held3 (fun w' => (w'.cell? ⟨w.heap.size, 0, none⟩ = some (.int .i64 a) ∧ w'.cell? ⟨w.heap.size, 1, none⟩ = some (.int .i64 b) ∧ w'.cell? ⟨w.heap.size + 1, 0, none⟩ = some (.int .i64 c) ∧ w'.cell? ⟨w.heap.size + 1, 1, none⟩ = some (.int .i64 d))) (go_keep) (fail)
  · skip
    have mP := At2.drew1 ((At2.new w3 (-b) (-a) 23).al (.cells #[.int .i64 (-d), .int .i64 (-c)] 23))
    have mQ := At2.drew1 (At2.new (w3.alloc (.cells #[.int .i64 (-b), .int .i64 (-a)] 23)) (-d) (-c) 23)
    simp at mQ
    replace hb := (bAl (bAl hb (.cells #[.int .i64 (-b), .int .i64 (-a)] 23)) (.cells #[.int .i64 (-d), .int .i64 (-c)] 23)).drew
    replace mS := At2.drew1 ((mS.al (.cells #[.int .i64 (-b), .int .i64 (-a)] 23)).al (.cells #[.int .i64 (-d), .int .i64 (-c)] 23))
    replace mT := At2.drew1 ((mT.al (.cells #[.int .i64 (-b), .int .i64 (-a)] 23)).al (.cells #[.int .i64 (-d), .int .i64 (-c)] 23))
    replace mA := At2.drew1 ((mA.al (.cells #[.int .i64 (-b), .int .i64 (-a)] 23)).al (.cells #[.int .i64 (-d), .int .i64 (-c)] 23))
    clear s0 s1 t0 t1 ls lt
    generalize ((w3.alloc (.cells #[.int .i64 (-b), .int .i64 (-a)] 23)).alloc (.cells #[.int .i64 (-d), .int .i64 (-c)] 23)).drew = W4 at *
    generalize w3.heap.size + 1 = BQ at *
    generalize w3.heap.size = BP at *
    have p0 := mP.c0; have p1 := mP.c1; have q0 := mQ.c0; have q1 := mQ.c1
    go_wp2_with (go_at_call 17; ((with_reducible refine (E3 _).out.mono ?_); rintro e w5 ⟨rfl, k5⟩; replace hb := bThen hb k5; replace mS := mS.then k5; replace mT := mT.then k5; replace mA := mA.then k5; replace mP := mP.then k5; replace mQ := mQ.then k5))
    clear p0 p1 q0 q1
    have mC := At2.new w5 (-y) (-x) 23
    replace hb := bAl hb (.cells #[.int .i64 (-y), .int .i64 (-x)] 23)
    replace mS := mS.al (.cells #[.int .i64 (-y), .int .i64 (-x)] 23)
    replace mT := mT.al (.cells #[.int .i64 (-y), .int .i64 (-x)] 23)
    replace mA := mA.al (.cells #[.int .i64 (-y), .int .i64 (-x)] 23)
    replace mP := mP.al (.cells #[.int .i64 (-y), .int .i64 (-x)] 23)
    replace mQ := mQ.al (.cells #[.int .i64 (-y), .int .i64 (-x)] 23)
    generalize hc : w5.alloc (.cells #[.int .i64 (-y), .int .i64 (-x)] 23) = W6 at *
    have hP : ∀ w', Below W6.heap.size W6 w' → (w'.cell? ⟨w.heap.size, 0, none⟩ = some (.int .i64 a) ∧ w'.cell? ⟨w.heap.size, 1, none⟩ = some (.int .i64 b) ∧ w'.cell? ⟨w.heap.size + 1, 0, none⟩ = some (.int .i64 c) ∧ w'.cell? ⟨w.heap.size + 1, 1, none⟩ = some (.int .i64 d) ∧ w'.cell? ⟨wa.heap.size, 0, none⟩ = some (.int .i64 x) ∧ w'.cell? ⟨wa.heap.size, 1, none⟩ = some (.int .i64 y) ∧ w'.cell? ⟨w5.heap.size, 0, none⟩ = some (.int .i64 (-y)) ∧ w'.cell? ⟨w5.heap.size, 1, none⟩ = some (.int .i64 (-x)) ∧ w'.cell? ⟨BP, 0, none⟩ = some (.int .i64 (-b)) ∧ w'.cell? ⟨BP, 1, none⟩ = some (.int .i64 (-a)) ∧ w'.cell? ⟨BQ, 0, none⟩ = some (.int .i64 (-d)) ∧ w'.cell? ⟨BQ, 1, none⟩ = some (.int .i64 (-c))) := fun w' k => ⟨(mS.then k).c0, (mS.then k).c1, (mT.then k).c0, (mT.then k).c1, (mA.then k).c0, (mA.then k).c1, (mC.then k).c0, (mC.then k).c1, (mP.then k).c0, (mP.then k).c1, (mQ.then k).c0, (mQ.then k).c1⟩
    go_region_held3 (fun w' => (w'.cell? ⟨w.heap.size, 0, none⟩ = some (.int .i64 a) ∧ w'.cell? ⟨w.heap.size, 1, none⟩ = some (.int .i64 b) ∧ w'.cell? ⟨w.heap.size + 1, 0, none⟩ = some (.int .i64 c) ∧ w'.cell? ⟨w.heap.size + 1, 1, none⟩ = some (.int .i64 d) ∧ w'.cell? ⟨wa.heap.size, 0, none⟩ = some (.int .i64 x) ∧ w'.cell? ⟨wa.heap.size, 1, none⟩ = some (.int .i64 y) ∧ w'.cell? ⟨w5.heap.size, 0, none⟩ = some (.int .i64 (-y)) ∧ w'.cell? ⟨w5.heap.size, 1, none⟩ = some (.int .i64 (-x)) ∧ w'.cell? ⟨BP, 0, none⟩ = some (.int .i64 (-b)) ∧ w'.cell? ⟨BP, 1, none⟩ = some (.int .i64 (-a)) ∧ w'.cell? ⟨BQ, 0, none⟩ = some (.int .i64 (-d)) ∧ w'.cell? ⟨BQ, 1, none⟩ = some (.int .i64 (-c))) ∧ Below W6.heap.size W6 w')
      (first | exact ⟨hP _ (Below.refl _ _).drew, (Below.refl _ _).drew⟩ | exact ⟨hP _ (keepD (by assumption) k3), keepD (by assumption) k3⟩)
      (first
      | (go_at_call 15; first | ((with_reducible refine (N1 _).out.mono ?_); rintro e w3 ⟨rfl, k3⟩) | ((with_reducible refine (N2 _).out.mono ?_); rintro e w3 ⟨rfl, k3⟩))
      | (go_at_call 15; (with_reducible refine (N2 _).out.mono ?_); rintro e w3 ⟨rfl, k3⟩)
      | (go_at_call 19; first | ((with_reducible refine (W1 _).out.mono ?_); rintro e w3 ⟨rfl, k3⟩) | ((with_reducible refine (W2 _).out.mono ?_); rintro e w3 ⟨rfl, k3⟩))
      | (go_at_call 19; (with_reducible refine (W2 _).out.mono ?_); rintro e w3 ⟨rfl, k3⟩))
    go_wp2_with fail
    obtain ⟨hX, hY⟩ : _ ∧ Below W6.heap.size W6 _ := by assumption
    replace hb := bThen hb hY
    replace mS := mS.then hY
    replace mP := mP.then hY
    clear hX hY hP mT mA mC mQ N1 N2 W1 W2
    rcases HD.out with ⟨l1, v1, v2, v3, v4⟩ | ⟨l1, v1, v2, v3, v4⟩ | ⟨v1, v2, v3, v4⟩
    all_goals
      have S1 := fun W => Lib.hid (side_eq v1 W)
      have S2 := fun W => Lib.hid (side_eq v2 W)
      have H1 := fun W => Lib.hid (has_eq v3 W)
      have H2 := fun W => Lib.hid (has_eq v4 W)
      clear HD v1 v2 v3 v4
      have hP : ∀ w', Below w3.heap.size w3 w' → (w'.cell? ⟨w.heap.size, 0, none⟩ = some (.int .i64 a) ∧ w'.cell? ⟨w.heap.size, 1, none⟩ = some (.int .i64 b) ∧ w'.cell? ⟨BP, 0, none⟩ = some (.int .i64 (-b)) ∧ w'.cell? ⟨BP, 1, none⟩ = some (.int .i64 (-a))) := fun w' k => ⟨(mS.then k).c0, (mS.then k).c1, (mP.then k).c0, (mP.then k).c1⟩
      go_region_held3 (fun w' => (w'.cell? ⟨w.heap.size, 0, none⟩ = some (.int .i64 a) ∧ w'.cell? ⟨w.heap.size, 1, none⟩ = some (.int .i64 b) ∧ w'.cell? ⟨BP, 0, none⟩ = some (.int .i64 (-b)) ∧ w'.cell? ⟨BP, 1, none⟩ = some (.int .i64 (-a))) ∧ Below w3.heap.size w3 w')
        (first | exact ⟨hP _ (Below.refl _ _).drew, (Below.refl _ _).drew⟩ | exact ⟨hP _ (keepD (by assumption) k3), keepD (by assumption) k3⟩)
        (first
        | (go_at_call 12; first | ((with_reducible refine (S1 _).out.mono ?_); rintro e w8 ⟨rfl, k3⟩) | ((with_reducible refine (S2 _).out.mono ?_); rintro e w8 ⟨rfl, k3⟩))
        | (go_at_call 14; first | ((with_reducible refine (H1 _).out.mono ?_); rintro e w8 ⟨rfl, k3⟩) | ((with_reducible refine (H2 _).out.mono ?_); rintro e w8 ⟨rfl, k3⟩)))
      go_wp2_with fail
      go_ret
      exact ⟨by simp, bThen hb ‹_ ∧ Below w3.heap.size w3 _›.2⟩
  · skip
    have mP := At2.drew1 (At2.new (w3.alloc (.cells #[.int .i64 (-d), .int .i64 (-c)] 23)) (-b) (-a) 23)
    have mQ := At2.drew1 ((At2.new w3 (-d) (-c) 23).al (.cells #[.int .i64 (-b), .int .i64 (-a)] 23))
    simp at mP
    replace hb := (bAl (bAl hb (.cells #[.int .i64 (-d), .int .i64 (-c)] 23)) (.cells #[.int .i64 (-b), .int .i64 (-a)] 23)).drew
    replace mS := At2.drew1 ((mS.al (.cells #[.int .i64 (-d), .int .i64 (-c)] 23)).al (.cells #[.int .i64 (-b), .int .i64 (-a)] 23))
    replace mT := At2.drew1 ((mT.al (.cells #[.int .i64 (-d), .int .i64 (-c)] 23)).al (.cells #[.int .i64 (-b), .int .i64 (-a)] 23))
    replace mA := At2.drew1 ((mA.al (.cells #[.int .i64 (-d), .int .i64 (-c)] 23)).al (.cells #[.int .i64 (-b), .int .i64 (-a)] 23))
    clear s0 s1 t0 t1 ls lt
    generalize ((w3.alloc (.cells #[.int .i64 (-d), .int .i64 (-c)] 23)).alloc (.cells #[.int .i64 (-b), .int .i64 (-a)] 23)).drew = W4 at *
    generalize w3.heap.size + 1 = BP at *
    generalize w3.heap.size = BQ at *
    have p0 := mP.c0; have p1 := mP.c1; have q0 := mQ.c0; have q1 := mQ.c1
    go_wp2_with (go_at_call 17; ((with_reducible refine (E3 _).out.mono ?_); rintro e w5 ⟨rfl, k5⟩; replace hb := bThen hb k5; replace mS := mS.then k5; replace mT := mT.then k5; replace mA := mA.then k5; replace mP := mP.then k5; replace mQ := mQ.then k5))
    clear p0 p1 q0 q1
    have mC := At2.new w5 (-y) (-x) 23
    replace hb := bAl hb (.cells #[.int .i64 (-y), .int .i64 (-x)] 23)
    replace mS := mS.al (.cells #[.int .i64 (-y), .int .i64 (-x)] 23)
    replace mT := mT.al (.cells #[.int .i64 (-y), .int .i64 (-x)] 23)
    replace mA := mA.al (.cells #[.int .i64 (-y), .int .i64 (-x)] 23)
    replace mP := mP.al (.cells #[.int .i64 (-y), .int .i64 (-x)] 23)
    replace mQ := mQ.al (.cells #[.int .i64 (-y), .int .i64 (-x)] 23)
    generalize hc : w5.alloc (.cells #[.int .i64 (-y), .int .i64 (-x)] 23) = W6 at *
    have hP : ∀ w', Below W6.heap.size W6 w' → (w'.cell? ⟨w.heap.size, 0, none⟩ = some (.int .i64 a) ∧ w'.cell? ⟨w.heap.size, 1, none⟩ = some (.int .i64 b) ∧ w'.cell? ⟨w.heap.size + 1, 0, none⟩ = some (.int .i64 c) ∧ w'.cell? ⟨w.heap.size + 1, 1, none⟩ = some (.int .i64 d) ∧ w'.cell? ⟨wa.heap.size, 0, none⟩ = some (.int .i64 x) ∧ w'.cell? ⟨wa.heap.size, 1, none⟩ = some (.int .i64 y) ∧ w'.cell? ⟨w5.heap.size, 0, none⟩ = some (.int .i64 (-y)) ∧ w'.cell? ⟨w5.heap.size, 1, none⟩ = some (.int .i64 (-x)) ∧ w'.cell? ⟨BP, 0, none⟩ = some (.int .i64 (-b)) ∧ w'.cell? ⟨BP, 1, none⟩ = some (.int .i64 (-a)) ∧ w'.cell? ⟨BQ, 0, none⟩ = some (.int .i64 (-d)) ∧ w'.cell? ⟨BQ, 1, none⟩ = some (.int .i64 (-c))) := fun w' k => ⟨(mS.then k).c0, (mS.then k).c1, (mT.then k).c0, (mT.then k).c1, (mA.then k).c0, (mA.then k).c1, (mC.then k).c0, (mC.then k).c1, (mP.then k).c0, (mP.then k).c1, (mQ.then k).c0, (mQ.then k).c1⟩
    go_region_held3 (fun w' => (w'.cell? ⟨w.heap.size, 0, none⟩ = some (.int .i64 a) ∧ w'.cell? ⟨w.heap.size, 1, none⟩ = some (.int .i64 b) ∧ w'.cell? ⟨w.heap.size + 1, 0, none⟩ = some (.int .i64 c) ∧ w'.cell? ⟨w.heap.size + 1, 1, none⟩ = some (.int .i64 d) ∧ w'.cell? ⟨wa.heap.size, 0, none⟩ = some (.int .i64 x) ∧ w'.cell? ⟨wa.heap.size, 1, none⟩ = some (.int .i64 y) ∧ w'.cell? ⟨w5.heap.size, 0, none⟩ = some (.int .i64 (-y)) ∧ w'.cell? ⟨w5.heap.size, 1, none⟩ = some (.int .i64 (-x)) ∧ w'.cell? ⟨BP, 0, none⟩ = some (.int .i64 (-b)) ∧ w'.cell? ⟨BP, 1, none⟩ = some (.int .i64 (-a)) ∧ w'.cell? ⟨BQ, 0, none⟩ = some (.int .i64 (-d)) ∧ w'.cell? ⟨BQ, 1, none⟩ = some (.int .i64 (-c))) ∧ Below W6.heap.size W6 w')
      (first | exact ⟨hP _ (Below.refl _ _).drew, (Below.refl _ _).drew⟩ | exact ⟨hP _ (keepD (by assumption) k3), keepD (by assumption) k3⟩)
      (first
      | (go_at_call 15; first | ((with_reducible refine (N1 _).out.mono ?_); rintro e w3 ⟨rfl, k3⟩) | ((with_reducible refine (N2 _).out.mono ?_); rintro e w3 ⟨rfl, k3⟩))
      | (go_at_call 15; (with_reducible refine (N2 _).out.mono ?_); rintro e w3 ⟨rfl, k3⟩)
      | (go_at_call 19; first | ((with_reducible refine (W1 _).out.mono ?_); rintro e w3 ⟨rfl, k3⟩) | ((with_reducible refine (W2 _).out.mono ?_); rintro e w3 ⟨rfl, k3⟩))
      | (go_at_call 19; (with_reducible refine (W2 _).out.mono ?_); rintro e w3 ⟨rfl, k3⟩))
    go_wp2_with fail
    obtain ⟨hX, hY⟩ : _ ∧ Below W6.heap.size W6 _ := by assumption
    replace hb := bThen hb hY
    replace mS := mS.then hY
    replace mP := mP.then hY
    clear hX hY hP mT mA mC mQ N1 N2 W1 W2
    rcases HD.out with ⟨l1, v1, v2, v3, v4⟩ | ⟨l1, v1, v2, v3, v4⟩ | ⟨v1, v2, v3, v4⟩
    all_goals
      have S1 := fun W => Lib.hid (side_eq v1 W)
      have S2 := fun W => Lib.hid (side_eq v2 W)
      have H1 := fun W => Lib.hid (has_eq v3 W)
      have H2 := fun W => Lib.hid (has_eq v4 W)
      clear HD v1 v2 v3 v4
      have hP : ∀ w', Below w3.heap.size w3 w' → (w'.cell? ⟨w.heap.size, 0, none⟩ = some (.int .i64 a) ∧ w'.cell? ⟨w.heap.size, 1, none⟩ = some (.int .i64 b) ∧ w'.cell? ⟨BP, 0, none⟩ = some (.int .i64 (-b)) ∧ w'.cell? ⟨BP, 1, none⟩ = some (.int .i64 (-a))) := fun w' k => ⟨(mS.then k).c0, (mS.then k).c1, (mP.then k).c0, (mP.then k).c1⟩
      go_region_held3 (fun w' => (w'.cell? ⟨w.heap.size, 0, none⟩ = some (.int .i64 a) ∧ w'.cell? ⟨w.heap.size, 1, none⟩ = some (.int .i64 b) ∧ w'.cell? ⟨BP, 0, none⟩ = some (.int .i64 (-b)) ∧ w'.cell? ⟨BP, 1, none⟩ = some (.int .i64 (-a))) ∧ Below w3.heap.size w3 w')
        (first | exact ⟨hP _ (Below.refl _ _).drew, (Below.refl _ _).drew⟩ | exact ⟨hP _ (keepD (by assumption) k3), keepD (by assumption) k3⟩)
        (first
        | (go_at_call 12; first | ((with_reducible refine (S1 _).out.mono ?_); rintro e w8 ⟨rfl, k3⟩) | ((with_reducible refine (S2 _).out.mono ?_); rintro e w8 ⟨rfl, k3⟩))
        | (go_at_call 14; first | ((with_reducible refine (H1 _).out.mono ?_); rintro e w8 ⟨rfl, k3⟩) | ((with_reducible refine (H2 _).out.mono ?_); rintro e w8 ⟨rfl, k3⟩)))
      go_wp2_with fail
      go_ret
      exact ⟨by simp, bThen hb ‹_ ∧ Below w3.heap.size w3 _›.2⟩

set_option maxHeartbeats 16000000 in
theorem mirror_f (a b c d n : Int) (w : World) (m0 : Int) (hm : w.cell? ⟨0, 0, none⟩ = some (.int .i64 m0)) (hlt : 0 < w.heap.size) (h : spanE a b = 0) (k : spanE c d = 0) (hn : -1000000000000000 ≤ n ∧ n ≤ 1000000000000000) (hq : min b d < max a c) :
    Calls Try.prog 8 #[sp a b, sp c d, .int .i64 n] w fun e w' => e = .returned (.bool true) ∧ Below w.heap.size w w' := by
  have hb : Below w.heap.size w w := Below.refl _ _
  have hb2 := bAl (bAl hb (.cells #[.int .i64 a, .int .i64 b] 23)) (.cells #[.int .i64 c, .int .i64 d] 23)
  have CA := Lib.hid (awake_any _ m0 ((hb2.cell (p := ⟨0, 0, none⟩) hlt).trans hm) (Nat.lt_of_lt_of_le hlt hb2.size))
  have C1 := fun W => Lib.hid (spanMay_eq h W)
  have C2 := fun W => Lib.hid (spanMay_eq k W)
  have hs := spanE_iff.1 h
  have ht := spanE_iff.1 k
  have h' : spanE (-b) (-a) = 0 := spanE_iff.2 (by omega)
  have k' : spanE (-d) (-c) = 0 := spanE_iff.2 (by omega)
  obtain ⟨u, hu⟩ : ∃ u, min a c = u := ⟨_, rfl⟩
  obtain ⟨v, hv⟩ : ∃ v, max b d = v := ⟨_, rfl⟩
  obtain ⟨z, hz⟩ : ∃ z, nearV a b n = z := ⟨_, rfl⟩
  obtain ⟨q, hw⟩ : ∃ q, withinB a b c d = q := ⟨_, rfl⟩
  have hzb := (near_facts (n := n) h).1
  rw [hz] at hzb
  have O1 := fun W => Lib.hid (hold_eq h k hu hv W)
  have O2 := fun W => Lib.hid (hold_eq k h (by omega : min c a = u) (by omega : max d b = v) W)
  have N1 := fun W => Lib.hid (near_eq hz W)
  have N2 := fun W => Lib.hid (near_eq (mirror_near h hz) W)
  have W1 := fun W => Lib.hid (within_eq hw W)
  have W2 := fun W => Lib.hid (within_eq ((mirror_within h k).trans hw) W)
  have G1 : IntKind.i64.wrap (-a) = -a := IntWalk.i64_in _ (by omega)
  have G2 : IntKind.i64.wrap (-b) = -b := IntWalk.i64_in _ (by omega)
  have G3 : IntKind.i64.wrap (-c) = -c := IntWalk.i64_in _ (by omega)
  have G4 : IntKind.i64.wrap (-d) = -d := IntWalk.i64_in _ (by omega)
  have G5 : IntKind.i64.wrap (-n) = -n := IntWalk.i64_in _ (by omega)
  have G6 : IntKind.i64.wrap (-z) = -z := IntWalk.i64_in _ (by omega)
  have D : (n < a ∧ sideV a b n = 0 ∧ sideV (-b) (-a) (-n) = 2 ∧ hasB a b n = false ∧ hasB (-b) (-a) (-n) = false) ∨ (b < n ∧ sideV a b n = 2 ∧ sideV (-b) (-a) (-n) = 0 ∧ hasB a b n = false ∧ hasB (-b) (-a) (-n) = false) ∨ (sideV a b n = 1 ∧ sideV (-b) (-a) (-n) = 1 ∧ hasB a b n = true ∧ hasB (-b) (-a) (-n) = true) := by
    by_cases l1 : n < a
    · exact .inl ⟨l1, sideV_1 l1, sideV_2 (by omega) (by omega), hasB_f (by omega), hasB_f (by omega)⟩
    · by_cases l2 : b < n
      · exact .inr (.inl ⟨l2, sideV_2 l1 l2, sideV_1 (by omega), hasB_f (by omega), hasB_f (by omega)⟩)
      · exact .inr (.inr ⟨sideV_3 l1 l2, sideV_3 (by omega) (by omega), hasB_t (by omega), hasB_t (by omega)⟩)
  have HD := Lib.hid D
  have hn1 : ¬ n < -1000000000000000 := by omega
  have hn2 : ¬ 1000000000000000 < n := by omega
  have E1 := fun W => Lib.hid (meet_eqF h k hq W)
  have E2 := fun W => Lib.hid (meet_eqF k h (by omega) W)
  have E3 := fun W => Lib.hid (meet_eqF h' k' (by omega) W)
  clear hm hlt hb2 h k hs ht h' k' hu hv hz hw hzb D hn hq
  go_enter Try.func8, Try.ntmps8
  go_wp2_with (first
    | (go_at_call 27; (refine CA.out.mono ?_; rintro e w1 ⟨rfl, k1⟩; replace hb := bThen (bAl (bAl hb _) _) k1; have mS := ((At2.new _ _ _ _).al _).then k1; have mT := (At2.new _ _ _ _).then k1; simp at mS mT; have s0 := mS.c0; have s1 := mS.c1; have t0 := mT.c0; have t1 := mT.c1; have ls := mS.lt; have lt := mT.lt))
    | (go_at_call 10; first | ((with_reducible refine (C1 _).out.mono ?_); rintro e w2 ⟨rfl, k2⟩; replace hb := bThen hb k2; replace mS := mS.then k2; replace mT := mT.then k2; have s0 := mS.c0; have s1 := mS.c1; have t0 := mT.c0; have t1 := mT.c1; have ls := mS.lt; have lt := mT.lt) | ((with_reducible refine (C2 _).out.mono ?_); rintro e w2 ⟨rfl, k2⟩; replace hb := bThen hb k2; replace mS := mS.then k2; replace mT := mT.then k2; have s0 := mS.c0; have s1 := mS.c1; have t0 := mT.c0; have t1 := mT.c1; have ls := mS.lt; have lt := mT.lt))
    | (go_at_call 17; first | ((with_reducible refine (E1 _).out.mono ?_); rintro e wa ⟨rfl, k2⟩; replace hb := bThen hb k2; replace mS := mS.then k2; replace mT := mT.then k2; have s0 := mS.c0; have s1 := mS.c1; have t0 := mT.c0; have t1 := mT.c1; have ls := mS.lt; have lt := mT.lt) | ((with_reducible refine (E2 _).out.mono ?_); rintro e wb ⟨rfl, k2⟩; have mA := (At2.new _ _ _ _).then k2; replace hb := bThen (bAl hb _) k2; replace mS := (mS.al _).then k2; replace mT := (mT.al _).then k2; have s0 := mS.c0; have s1 := mS.c1; have t0 := mT.c0; have t1 := mT.c1; have ls := mS.lt; have lt := mT.lt)))
  have mB := At2.new wb 0 0 23
  replace hb := bAl hb (.cells #[.int .i64 0, .int .i64 0] 23)
  replace mS := mS.al (.cells #[.int .i64 0, .int .i64 0] 23)
  replace mT := mT.al (.cells #[.int .i64 0, .int .i64 0] 23)
  replace mA := mA.al (.cells #[.int .i64 0, .int .i64 0] 23)
  generalize wb.alloc (.cells #[.int .i64 0, .int .i64 0] 23) = W0 at *
  have hP : ∀ w', Below W0.heap.size W0 w' → (w'.cell? ⟨w.heap.size, 0, none⟩ = some (.int .i64 a) ∧ w'.cell? ⟨w.heap.size, 1, none⟩ = some (.int .i64 b) ∧ w'.cell? ⟨w.heap.size + 1, 0, none⟩ = some (.int .i64 c) ∧ w'.cell? ⟨w.heap.size + 1, 1, none⟩ = some (.int .i64 d) ∧ w'.cell? ⟨wa.heap.size, 0, none⟩ = some (.int .i64 0) ∧ w'.cell? ⟨wa.heap.size, 1, none⟩ = some (.int .i64 0) ∧ w'.cell? ⟨wb.heap.size, 0, none⟩ = some (.int .i64 0) ∧ w'.cell? ⟨wb.heap.size, 1, none⟩ = some (.int .i64 0)) := fun w' k => ⟨(mS.then k).c0, (mS.then k).c1, (mT.then k).c0, (mT.then k).c1, (mA.then k).c0, (mA.then k).c1, (mB.then k).c0, (mB.then k).c1⟩
  clear s0 s1 t0 t1 ls lt
  go_region_held3 (fun w' => (w'.cell? ⟨w.heap.size, 0, none⟩ = some (.int .i64 a) ∧ w'.cell? ⟨w.heap.size, 1, none⟩ = some (.int .i64 b) ∧ w'.cell? ⟨w.heap.size + 1, 0, none⟩ = some (.int .i64 c) ∧ w'.cell? ⟨w.heap.size + 1, 1, none⟩ = some (.int .i64 d) ∧ w'.cell? ⟨wa.heap.size, 0, none⟩ = some (.int .i64 0) ∧ w'.cell? ⟨wa.heap.size, 1, none⟩ = some (.int .i64 0) ∧ w'.cell? ⟨wb.heap.size, 0, none⟩ = some (.int .i64 0) ∧ w'.cell? ⟨wb.heap.size, 1, none⟩ = some (.int .i64 0)) ∧ Below W0.heap.size W0 w')
    (first | exact ⟨hP _ (Below.refl _ _).drew, (Below.refl _ _).drew⟩ | exact ⟨hP _ (keepD (by assumption) k3), keepD (by assumption) k3⟩)
    (first
    | (go_at_call 21; (with_reducible refine (O1 _).out.mono ?_); rintro e w3 ⟨rfl, k3⟩)
    | (go_at_call 21; (with_reducible refine (O2 _).out.mono ?_); rintro e w3 ⟨rfl, k3⟩))
  go_wp2_with fail
  obtain ⟨hX, hY⟩ : _ ∧ Below W0.heap.size W0 _ := by assumption
  replace hb := bThen hb hY
  replace mS := mS.then hY
  replace mT := mT.then hY
  replace mA := mA.then hY
  clear hX hY hP mB O1 O2 E1 E2 C1 C2 CA
  have s0 := mS.c0; have s1 := mS.c1; have t0 := mT.c0; have t1 := mT.c1; have ls := mS.lt; have lt := mT.lt
  go_region_held3 (fun w' => (w'.cell? ⟨w.heap.size, 0, none⟩ = some (.int .i64 a) ∧ w'.cell? ⟨w.heap.size, 1, none⟩ = some (.int .i64 b) ∧ w'.cell? ⟨w.heap.size + 1, 0, none⟩ = some (.int .i64 c) ∧ w'.cell? ⟨w.heap.size + 1, 1, none⟩ = some (.int .i64 d))) (go_keep) (fail)
  · skip
    have mP := At2.drew1 ((At2.new w3 (-b) (-a) 23).al (.cells #[.int .i64 (-d), .int .i64 (-c)] 23))
    have mQ := At2.drew1 (At2.new (w3.alloc (.cells #[.int .i64 (-b), .int .i64 (-a)] 23)) (-d) (-c) 23)
    simp at mQ
    replace hb := (bAl (bAl hb (.cells #[.int .i64 (-b), .int .i64 (-a)] 23)) (.cells #[.int .i64 (-d), .int .i64 (-c)] 23)).drew
    replace mS := At2.drew1 ((mS.al (.cells #[.int .i64 (-b), .int .i64 (-a)] 23)).al (.cells #[.int .i64 (-d), .int .i64 (-c)] 23))
    replace mT := At2.drew1 ((mT.al (.cells #[.int .i64 (-b), .int .i64 (-a)] 23)).al (.cells #[.int .i64 (-d), .int .i64 (-c)] 23))
    replace mA := At2.drew1 ((mA.al (.cells #[.int .i64 (-b), .int .i64 (-a)] 23)).al (.cells #[.int .i64 (-d), .int .i64 (-c)] 23))
    clear s0 s1 t0 t1 ls lt
    generalize ((w3.alloc (.cells #[.int .i64 (-b), .int .i64 (-a)] 23)).alloc (.cells #[.int .i64 (-d), .int .i64 (-c)] 23)).drew = W4 at *
    generalize w3.heap.size + 1 = BQ at *
    generalize w3.heap.size = BP at *
    have p0 := mP.c0; have p1 := mP.c1; have q0 := mQ.c0; have q1 := mQ.c1
    go_wp2_with (go_at_call 17; ((with_reducible refine (E3 _).out.mono ?_); rintro e w5 ⟨rfl, k5⟩; replace hb := bThen hb k5; replace mS := mS.then k5; replace mT := mT.then k5; replace mA := mA.then k5; replace mP := mP.then k5; replace mQ := mQ.then k5))
    clear p0 p1 q0 q1
    have mC := At2.new w5 0 0 23
    replace hb := bAl hb (.cells #[.int .i64 0, .int .i64 0] 23)
    replace mS := mS.al (.cells #[.int .i64 0, .int .i64 0] 23)
    replace mT := mT.al (.cells #[.int .i64 0, .int .i64 0] 23)
    replace mA := mA.al (.cells #[.int .i64 0, .int .i64 0] 23)
    replace mP := mP.al (.cells #[.int .i64 0, .int .i64 0] 23)
    replace mQ := mQ.al (.cells #[.int .i64 0, .int .i64 0] 23)
    generalize hc : w5.alloc (.cells #[.int .i64 0, .int .i64 0] 23) = W6 at *
    have hP : ∀ w', Below W6.heap.size W6 w' → (w'.cell? ⟨w.heap.size, 0, none⟩ = some (.int .i64 a) ∧ w'.cell? ⟨w.heap.size, 1, none⟩ = some (.int .i64 b) ∧ w'.cell? ⟨w.heap.size + 1, 0, none⟩ = some (.int .i64 c) ∧ w'.cell? ⟨w.heap.size + 1, 1, none⟩ = some (.int .i64 d) ∧ w'.cell? ⟨wa.heap.size, 0, none⟩ = some (.int .i64 0) ∧ w'.cell? ⟨wa.heap.size, 1, none⟩ = some (.int .i64 0) ∧ w'.cell? ⟨w5.heap.size, 0, none⟩ = some (.int .i64 0) ∧ w'.cell? ⟨w5.heap.size, 1, none⟩ = some (.int .i64 0) ∧ w'.cell? ⟨BP, 0, none⟩ = some (.int .i64 (-b)) ∧ w'.cell? ⟨BP, 1, none⟩ = some (.int .i64 (-a)) ∧ w'.cell? ⟨BQ, 0, none⟩ = some (.int .i64 (-d)) ∧ w'.cell? ⟨BQ, 1, none⟩ = some (.int .i64 (-c))) := fun w' k => ⟨(mS.then k).c0, (mS.then k).c1, (mT.then k).c0, (mT.then k).c1, (mA.then k).c0, (mA.then k).c1, (mC.then k).c0, (mC.then k).c1, (mP.then k).c0, (mP.then k).c1, (mQ.then k).c0, (mQ.then k).c1⟩
    refine wp_region_held_drew (S := fun w' => (w'.cell? ⟨w.heap.size, 0, none⟩ = some (.int .i64 a) ∧ w'.cell? ⟨w.heap.size, 1, none⟩ = some (.int .i64 b) ∧ w'.cell? ⟨w.heap.size + 1, 0, none⟩ = some (.int .i64 c) ∧ w'.cell? ⟨w.heap.size + 1, 1, none⟩ = some (.int .i64 d) ∧ w'.cell? ⟨wa.heap.size, 0, none⟩ = some (.int .i64 0) ∧ w'.cell? ⟨wa.heap.size, 1, none⟩ = some (.int .i64 0) ∧ w'.cell? ⟨w5.heap.size, 0, none⟩ = some (.int .i64 0) ∧ w'.cell? ⟨w5.heap.size, 1, none⟩ = some (.int .i64 0) ∧ w'.cell? ⟨BP, 0, none⟩ = some (.int .i64 (-b)) ∧ w'.cell? ⟨BP, 1, none⟩ = some (.int .i64 (-a)) ∧ w'.cell? ⟨BQ, 0, none⟩ = some (.int .i64 (-d)) ∧ w'.cell? ⟨BQ, 1, none⟩ = some (.int .i64 (-c))) ∧ Below W6.heap.size W6 w') (by kernel_rfl) ⟨hP _ (Below.refl _ _).drew, (Below.refl _ _).drew⟩ (fun hHeld0 => ?_)
    refine wpAnyH_take (i := 0) (oi := { dst := some 82, op := Op.move (Operand.tmp 14), type := 4, pos := "outright.go:84", after := #[], guard := none }) (v := ?vvr1n0) rfl (by kernel_rfl) (by kernel_rfl) (by kernel_rfl) (fun _ _ _ h => h) (Or.inl ⟨by rfl, ?hyr1n0⟩) (by assumption) ?restr1n0
    case hyr1n0 => (intro w hSw; (try dsimp only at hSw); go_simp; try with_reducible rfl)
    simp only [Act.put, List.setIfInBounds_toArray, List.set_cons_zero, List.set_cons_succ]
    refine wpAnyH_take (i := 1) (oi := { dst := some 83, op := Op.move (Operand.tmp 8), type := 4, pos := "outright.go:84", after := #[], guard := none }) (v := ?vvr1n1) rfl (by kernel_rfl) (by kernel_rfl) (by kernel_rfl) (fun _ _ _ h => h) (Or.inl ⟨by rfl, ?hyr1n1⟩) (by assumption) ?restr1n1
    case hyr1n1 => (intro w hSw; (try dsimp only at hSw); go_simp; try with_reducible rfl)
    simp only [Act.put, List.setIfInBounds_toArray, List.set_cons_zero, List.set_cons_succ]
    refine wpAnyH_take (i := 2) (oi := { dst := some 84, op := Op.binOp BinOp.neq 4 (Operand.tmp 82) (Operand.tmp 83) 4, type := 4, pos := "outright.go:84", after := #[{ on := 0, ground := Ground.data }, { on := 1, ground := Ground.data }], guard := none }) (v := ?vvr1n2) rfl (by kernel_rfl) (by kernel_rfl) (by kernel_rfl) (fun _ _ _ h => h) (Or.inl ⟨by rfl, ?hyr1n2⟩) (by assumption) ?restr1n2
    case hyr1n2 => (intro w hSw; (try dsimp only at hSw); go_simp; try with_reducible rfl)
    simp only [Act.put, List.setIfInBounds_toArray, List.set_cons_zero, List.set_cons_succ]
    refine wpAnyH_take (i := 3) (oi := { dst := some 85, op := Op.move (Operand.tmp 84), type := 4, pos := "outright.go:84", after := #[{ on := 2, ground := Ground.data }], guard := none }) (v := ?vvr1n3) rfl (by kernel_rfl) (by kernel_rfl) (by kernel_rfl) (fun _ _ _ h => h) (Or.inl ⟨by rfl, ?hyr1n3⟩) (by assumption) ?restr1n3
    case hyr1n3 => (intro w hSw; (try dsimp only at hSw); go_simp; try with_reducible rfl)
    simp only [Act.put, List.setIfInBounds_toArray, List.set_cons_zero, List.set_cons_succ]
    refine wpAnyH_take (i := 4) (oi := { dst := some 86, op := Op.move (Operand.tmp 14), type := 4, pos := "outright.go:84", after := #[{ on := 3, ground := Ground.guard }], guard := some (3, false) }) (v := ?vvr1n4) rfl (by kernel_rfl) (by kernel_rfl) (by kernel_rfl) (fun _ _ _ h => h) (Or.inl ⟨by rfl, ?hyr1n4⟩) (by assumption) ?restr1n4
    case hyr1n4 => (intro w hSw; (try dsimp only at hSw); go_simp; try with_reducible rfl)
    simp only [Act.put, List.setIfInBounds_toArray, List.set_cons_zero, List.set_cons_succ]
    refine wpAnyH_take (i := 5) (oi := { dst := some 87, op := Op.move (Operand.tmp 86), type := 4, pos := "outright.go:84", after := #[{ on := 4, ground := Ground.data }, { on := 3, ground := Ground.chain }, { on := 3, ground := Ground.guard }], guard := some (3, false) }) (v := ?vvr1n5) rfl (by kernel_rfl) (by kernel_rfl) (by kernel_rfl) (fun _ _ _ h => h) (Or.inl ⟨by rfl, ?hyr1n5⟩) (by assumption) ?restr1n5
    case hyr1n5 => (intro w hSw; (try dsimp only at hSw); go_simp; try with_reducible rfl)
    simp only [Act.put, List.setIfInBounds_toArray, List.set_cons_zero, List.set_cons_succ]
    refine wpAnyH_take (i := 6) (oi := { dst := some 88, op := Op.fieldAddr 23 (Operand.tmp 13) 0, type := 0, pos := "outright.go:84", after := #[{ on := 5, ground := Ground.guard }], guard := some (5, true) }) (v := undef) rfl (by kernel_rfl) (by kernel_rfl) (by kernel_rfl) (fun _ _ _ h => h) (Or.inr ⟨by rfl, rfl⟩) (by assumption) ?_
    simp only [Act.put, List.setIfInBounds_toArray, List.set_cons_zero, List.set_cons_succ]
    refine wpAnyH_take (i := 7) (oi := { dst := some 89, op := Op.load 2 (Operand.tmp 88), type := 2, pos := "outright.go:84", after := #[{ on := 6, ground := Ground.data }, { on := 5, ground := Ground.guard }], guard := some (5, true) }) (v := undef) rfl (by kernel_rfl) (by kernel_rfl) (by kernel_rfl) (fun _ _ _ h => h) (Or.inr ⟨by rfl, rfl⟩) (by assumption) ?_
    simp only [Act.put, List.setIfInBounds_toArray, List.set_cons_zero, List.set_cons_succ]
    refine wpAnyH_take (i := 8) (oi := { dst := some 90, op := Op.fieldAddr 23 (Operand.tmp 7) 1, type := 0, pos := "outright.go:84", after := #[{ on := 5, ground := Ground.guard }], guard := some (5, true) }) (v := undef) rfl (by kernel_rfl) (by kernel_rfl) (by kernel_rfl) (fun _ _ _ h => h) (Or.inr ⟨by rfl, rfl⟩) (by assumption) ?_
    simp only [Act.put, List.setIfInBounds_toArray, List.set_cons_zero, List.set_cons_succ]
    refine wpAnyH_take (i := 9) (oi := { dst := some 91, op := Op.load 2 (Operand.tmp 90), type := 2, pos := "outright.go:84", after := #[{ on := 8, ground := Ground.data }, { on := 5, ground := Ground.guard }], guard := some (5, true) }) (v := undef) rfl (by kernel_rfl) (by kernel_rfl) (by kernel_rfl) (fun _ _ _ h => h) (Or.inr ⟨by rfl, rfl⟩) (by assumption) ?_
    simp only [Act.put, List.setIfInBounds_toArray, List.set_cons_zero, List.set_cons_succ]
    refine wpAnyH_take (i := 10) (oi := { dst := some 92, op := Op.unOp UnOp.neg 2 (Operand.tmp 91), type := 2, pos := "outright.go:84", after := #[{ on := 9, ground := Ground.data }, { on := 5, ground := Ground.guard }], guard := some (5, true) }) (v := undef) rfl (by kernel_rfl) (by kernel_rfl) (by kernel_rfl) (fun _ _ _ h => h) (Or.inr ⟨by rfl, rfl⟩) (by assumption) ?_
    simp only [Act.put, List.setIfInBounds_toArray, List.set_cons_zero, List.set_cons_succ]
    refine wpAnyH_take (i := 11) (oi := { dst := some 93, op := Op.binOp BinOp.neq 2 (Operand.tmp 89) (Operand.tmp 92) 2, type := 4, pos := "outright.go:84", after := #[{ on := 7, ground := Ground.data }, { on := 10, ground := Ground.data }, { on := 5, ground := Ground.guard }], guard := some (5, true) }) (v := undef) rfl (by kernel_rfl) (by kernel_rfl) (by kernel_rfl) (fun _ _ _ h => h) (Or.inr ⟨by rfl, rfl⟩) (by assumption) ?_
    simp only [Act.put, List.setIfInBounds_toArray, List.set_cons_zero, List.set_cons_succ]
    refine wpAnyH_take (i := 12) (oi := { dst := some 94, op := Op.move (Operand.tmp 93), type := 4, pos := "outright.go:84", after := #[{ on := 11, ground := Ground.data }, { on := 5, ground := Ground.chain }, { on := 5, ground := Ground.guard }], guard := some (5, true) }) (v := undef) rfl (by kernel_rfl) (by kernel_rfl) (by kernel_rfl) (fun _ _ _ h => h) (Or.inr ⟨by rfl, rfl⟩) (by assumption) ?_
    simp only [Act.put, List.setIfInBounds_toArray, List.set_cons_zero, List.set_cons_succ]
    refine wpAnyH_take (i := 13) (oi := { dst := some 95, op := Op.fieldAddr 23 (Operand.tmp 13) 1, type := 0, pos := "outright.go:84", after := #[{ on := 12, ground := Ground.guard }], guard := some (12, false) }) (v := undef) rfl (by kernel_rfl) (by kernel_rfl) (by kernel_rfl) (fun _ _ _ h => h) (Or.inr ⟨by rfl, rfl⟩) (by assumption) ?_
    simp only [Act.put, List.setIfInBounds_toArray, List.set_cons_zero, List.set_cons_succ]
    refine wpAnyH_take (i := 14) (oi := { dst := some 96, op := Op.load 2 (Operand.tmp 95), type := 2, pos := "outright.go:84", after := #[{ on := 13, ground := Ground.data }, { on := 12, ground := Ground.guard }], guard := some (12, false) }) (v := undef) rfl (by kernel_rfl) (by kernel_rfl) (by kernel_rfl) (fun _ _ _ h => h) (Or.inr ⟨by rfl, rfl⟩) (by assumption) ?_
    simp only [Act.put, List.setIfInBounds_toArray, List.set_cons_zero, List.set_cons_succ]
    refine wpAnyH_take (i := 15) (oi := { dst := some 97, op := Op.fieldAddr 23 (Operand.tmp 7) 0, type := 0, pos := "outright.go:84", after := #[{ on := 12, ground := Ground.guard }], guard := some (12, false) }) (v := undef) rfl (by kernel_rfl) (by kernel_rfl) (by kernel_rfl) (fun _ _ _ h => h) (Or.inr ⟨by rfl, rfl⟩) (by assumption) ?_
    simp only [Act.put, List.setIfInBounds_toArray, List.set_cons_zero, List.set_cons_succ]
    refine wpAnyH_take (i := 16) (oi := { dst := some 98, op := Op.load 2 (Operand.tmp 97), type := 2, pos := "outright.go:84", after := #[{ on := 15, ground := Ground.data }, { on := 12, ground := Ground.guard }], guard := some (12, false) }) (v := undef) rfl (by kernel_rfl) (by kernel_rfl) (by kernel_rfl) (fun _ _ _ h => h) (Or.inr ⟨by rfl, rfl⟩) (by assumption) ?_
    simp only [Act.put, List.setIfInBounds_toArray, List.set_cons_zero, List.set_cons_succ]
    refine wpAnyH_take (i := 17) (oi := { dst := some 99, op := Op.unOp UnOp.neg 2 (Operand.tmp 98), type := 2, pos := "outright.go:84", after := #[{ on := 16, ground := Ground.data }, { on := 12, ground := Ground.guard }], guard := some (12, false) }) (v := undef) rfl (by kernel_rfl) (by kernel_rfl) (by kernel_rfl) (fun _ _ _ h => h) (Or.inr ⟨by rfl, rfl⟩) (by assumption) ?_
    simp only [Act.put, List.setIfInBounds_toArray, List.set_cons_zero, List.set_cons_succ]
    refine wpAnyH_take (i := 18) (oi := { dst := some 100, op := Op.binOp BinOp.neq 2 (Operand.tmp 96) (Operand.tmp 99) 2, type := 4, pos := "outright.go:84", after := #[{ on := 14, ground := Ground.data }, { on := 17, ground := Ground.data }, { on := 12, ground := Ground.guard }], guard := some (12, false) }) (v := undef) rfl (by kernel_rfl) (by kernel_rfl) (by kernel_rfl) (fun _ _ _ h => h) (Or.inr ⟨by rfl, rfl⟩) (by assumption) ?_
    simp only [Act.put, List.setIfInBounds_toArray, List.set_cons_zero, List.set_cons_succ]
    refine wpAnyH_take (i := 19) (oi := { dst := some 101, op := Op.pick (Operand.tmp 94) (Operand.const (Value.bool true)) (Operand.tmp 100), type := 4, pos := "outright.go:84", after := #[{ on := 12, ground := Ground.data }, { on := 18, ground := Ground.data }, { on := 5, ground := Ground.guard }], guard := some (5, true) }) (v := undef) rfl (by kernel_rfl) (by kernel_rfl) (by kernel_rfl) (fun _ _ _ h => h) (Or.inr ⟨by rfl, rfl⟩) (by assumption) ?_
    simp only [Act.put, List.setIfInBounds_toArray, List.set_cons_zero, List.set_cons_succ]
    refine wpAnyH_take (i := 20) (oi := { dst := some 102, op := Op.pick (Operand.tmp 87) (Operand.tmp 101) (Operand.const (Value.bool false)), type := 4, pos := "outright.go:84", after := #[{ on := 5, ground := Ground.data }, { on := 19, ground := Ground.data }, { on := 3, ground := Ground.guard }], guard := some (3, false) }) (v := ?vvr1n20) rfl (by kernel_rfl) (by kernel_rfl) (by kernel_rfl) (fun _ _ _ h => h) (Or.inl ⟨by rfl, ?hyr1n20⟩) (by assumption) ?restr1n20
    case hyr1n20 => (intro w hSw; (try dsimp only at hSw); go_simp; try with_reducible rfl)
    simp only [Act.put, List.setIfInBounds_toArray, List.set_cons_zero, List.set_cons_succ]
    refine wpAnyH_take (i := 21) (oi := { dst := some 103, op := Op.pick (Operand.tmp 85) (Operand.const (Value.bool true)) (Operand.tmp 102), type := 4, pos := "outright.go:84", after := #[{ on := 3, ground := Ground.data }, { on := 20, ground := Ground.data }], guard := none }) (v := ?vvr1n21) rfl (by kernel_rfl) (by kernel_rfl) (by kernel_rfl) (fun _ _ _ h => h) (Or.inl ⟨by rfl, ?hyr1n21⟩) (by assumption) ?restr1n21
    case hyr1n21 => (intro w hSw; (try dsimp only at hSw); go_simp; try with_reducible rfl)
    simp only [Act.put, List.setIfInBounds_toArray, List.set_cons_zero, List.set_cons_succ]
    refine wpAnyH_take (i := 22) (oi := { dst := some 104, op := Op.move (Operand.tmp 103), type := 4, pos := "outright.go:84", after := #[{ on := 21, ground := Ground.data }, { on := 12, ground := Ground.chain }], guard := none }) (v := ?vvr1n22) rfl (by kernel_rfl) (by kernel_rfl) (by kernel_rfl) (fun _ _ _ h => h) (Or.inl ⟨by rfl, ?hyr1n22⟩) (by assumption) ?restr1n22
    case hyr1n22 => (intro w hSw; (try dsimp only at hSw); go_simp; try with_reducible rfl)
    simp only [Act.put, List.setIfInBounds_toArray, List.set_cons_zero, List.set_cons_succ]
    refine wpAnyH_take (i := 23) (oi := { dst := some 105, op := Op.load 23 (Operand.tmp 11), type := 23, pos := "outright.go:84", after := #[{ on := 22, ground := Ground.guard }], guard := some (22, false) }) (v := ?vvr1n23) rfl (by kernel_rfl) (by kernel_rfl) (by kernel_rfl) (fun _ _ _ h => h) (Or.inl ⟨by rfl, ?hyr1n23⟩) (by assumption) ?restr1n23
    case hyr1n23 => (intro w hSw; (try dsimp only at hSw); go_simp; try with_reducible rfl)
    simp only [Act.put, List.setIfInBounds_toArray, List.set_cons_zero, List.set_cons_succ]
    refine wpAnyH_take (i := 24) (oi := { dst := some 106, op := Op.move (Operand.tmp 2), type := 2, pos := "outright.go:84", after := #[{ on := 22, ground := Ground.guard }], guard := some (22, false) }) (v := ?vvr1n24) rfl (by kernel_rfl) (by kernel_rfl) (by kernel_rfl) (fun _ _ _ h => h) (Or.inl ⟨by rfl, ?hyr1n24⟩) (by assumption) ?restr1n24
    case hyr1n24 => (intro w hSw; (try dsimp only at hSw); go_simp; try with_reducible rfl)
    simp only [Act.put, List.setIfInBounds_toArray, List.set_cons_zero, List.set_cons_succ]
    refine wpAnyH_take (i := 25) (oi := { dst := some 107, op := Op.unOp UnOp.neg 2 (Operand.tmp 106), type := 2, pos := "outright.go:84", after := #[{ on := 24, ground := Ground.data }, { on := 22, ground := Ground.guard }], guard := some (22, false) }) (v := ?vvr1n25) rfl (by kernel_rfl) (by kernel_rfl) (by kernel_rfl) (fun _ _ _ h => h) (Or.inl ⟨by rfl, ?hyr1n25⟩) (by assumption) ?restr1n25
    case hyr1n25 => (intro w hSw; (try dsimp only at hSw); go_simp; try with_reducible rfl)
    simp only [Act.put, List.setIfInBounds_toArray, List.set_cons_zero, List.set_cons_succ]
    refine wpAnyH_take (i := 27) (oi := { dst := some 109, op := Op.load 23 (Operand.tmp 3), type := 23, pos := "outright.go:84", after := #[{ on := 22, ground := Ground.guard }], guard := some (22, false) }) (v := ?vvr1n27) rfl (by kernel_rfl) (by kernel_rfl) (by kernel_rfl) (fun _ _ _ h => h) (Or.inl ⟨by rfl, ?hyr1n27⟩) (by assumption) ?restr1n27
    case hyr1n27 => (intro w hSw; (try dsimp only at hSw); go_simp; try with_reducible rfl)
    simp only [Act.put, List.setIfInBounds_toArray, List.set_cons_zero, List.set_cons_succ]
    refine wpAnyH_take (i := 28) (oi := { dst := some 110, op := Op.move (Operand.tmp 2), type := 2, pos := "outright.go:84", after := #[{ on := 22, ground := Ground.guard }], guard := some (22, false) }) (v := ?vvr1n28) rfl (by kernel_rfl) (by kernel_rfl) (by kernel_rfl) (fun _ _ _ h => h) (Or.inl ⟨by rfl, ?hyr1n28⟩) (by assumption) ?restr1n28
    case hyr1n28 => (intro w hSw; (try dsimp only at hSw); go_simp; try with_reducible rfl)
    simp only [Act.put, List.setIfInBounds_toArray, List.set_cons_zero, List.set_cons_succ]
    refine wpAnyH_ready (rs := [26]) (by kernel_rfl) (by simp) ?_
    refine AllReadyH.cons (o := { dst := some 108, op := Op.call { callee := Callee.value (Operand.func 15), args := #[Operand.tmp 105, Operand.tmp 107], argTypes := #[23, 2] }, type := 2, pos := "outright.go:84", after := #[{ on := 23, ground := Ground.data }, { on := 25, ground := Ground.data }, { on := 22, ground := Ground.chain }, { on := 22, ground := Ground.guard }], guard := some (22, false) }) rfl (fun K hK => ?_) AllReadyH.nil
    go_simp
    refine (N2 _).out.mono ?_
    rintro e w3 ⟨rfl, k3⟩
    go_wp2_with fail
    refine hK.out _ _ ⟨hP _ (keepD hHeld0 k3), keepD hHeld0 k3⟩ (fun hHeld1 => ?_)
    clear hK K hHeld0
    try simp only [Act.put, List.setIfInBounds_toArray, List.set_cons_zero, List.set_cons_succ]
    refine wpAnyH_ready (rs := [29]) (by kernel_rfl) (by simp) ?_
    refine AllReadyH.cons (o := { dst := some 111, op := Op.call { callee := Callee.value (Operand.func 15), args := #[Operand.tmp 109, Operand.tmp 110], argTypes := #[23, 2] }, type := 2, pos := "outright.go:84", after := #[{ on := 27, ground := Ground.data }, { on := 28, ground := Ground.data }, { on := 26, ground := Ground.chain }, { on := 22, ground := Ground.guard }], guard := some (22, false) }) rfl (fun K hK => ?_) AllReadyH.nil
    go_simp
    refine (N1 _).out.mono ?_
    rintro e w3 ⟨rfl, k3⟩
    go_wp2_with fail
    refine hK.out _ _ ⟨hP _ (keepD hHeld1 k3), keepD hHeld1 k3⟩ (fun hHeld2 => ?_)
    clear hK K hHeld1
    try simp only [Act.put, List.setIfInBounds_toArray, List.set_cons_zero, List.set_cons_succ]
    refine wpAnyH_take (i := 30) (oi := { dst := some 112, op := Op.unOp UnOp.neg 2 (Operand.tmp 111), type := 2, pos := "outright.go:84", after := #[{ on := 29, ground := Ground.data }, { on := 22, ground := Ground.guard }], guard := some (22, false) }) (v := ?vvr1n30) rfl (by kernel_rfl) (by kernel_rfl) (by kernel_rfl) (fun _ _ _ h => h) (Or.inl ⟨by rfl, ?hyr1n30⟩) (by assumption) ?restr1n30
    case hyr1n30 => (intro w hSw; (try dsimp only at hSw); go_simp; try with_reducible rfl)
    simp only [Act.put, List.setIfInBounds_toArray, List.set_cons_zero, List.set_cons_succ]
    refine wpAnyH_take (i := 31) (oi := { dst := some 113, op := Op.binOp BinOp.neq 2 (Operand.tmp 108) (Operand.tmp 112) 2, type := 4, pos := "outright.go:84", after := #[{ on := 26, ground := Ground.data }, { on := 30, ground := Ground.data }, { on := 22, ground := Ground.guard }], guard := some (22, false) }) (v := ?vvr1n31) rfl (by kernel_rfl) (by kernel_rfl) (by kernel_rfl) (fun _ _ _ h => h) (Or.inl ⟨by rfl, ?hyr1n31⟩) (by assumption) ?restr1n31
    case hyr1n31 => (intro w hSw; (try dsimp only at hSw); go_simp; try with_reducible rfl)
    simp only [Act.put, List.setIfInBounds_toArray, List.set_cons_zero, List.set_cons_succ]
    refine wpAnyH_take (i := 32) (oi := { dst := some 114, op := Op.pick (Operand.tmp 104) (Operand.const (Value.bool true)) (Operand.tmp 113), type := 4, pos := "outright.go:84", after := #[{ on := 22, ground := Ground.data }, { on := 31, ground := Ground.data }], guard := none }) (v := ?vvr1n32) rfl (by kernel_rfl) (by kernel_rfl) (by kernel_rfl) (fun _ _ _ h => h) (Or.inl ⟨by rfl, ?hyr1n32⟩) (by assumption) ?restr1n32
    case hyr1n32 => (intro w hSw; (try dsimp only at hSw); go_simp; try with_reducible rfl)
    simp only [Act.put, List.setIfInBounds_toArray, List.set_cons_zero, List.set_cons_succ]
    refine wpAnyH_take (i := 33) (oi := { dst := some 115, op := Op.move (Operand.tmp 114), type := 4, pos := "outright.go:84", after := #[{ on := 32, ground := Ground.data }, { on := 29, ground := Ground.chain }], guard := none }) (v := ?vvr1n33) rfl (by kernel_rfl) (by kernel_rfl) (by kernel_rfl) (fun _ _ _ h => h) (Or.inl ⟨by rfl, ?hyr1n33⟩) (by assumption) ?restr1n33
    case hyr1n33 => (intro w hSw; (try dsimp only at hSw); go_simp; try with_reducible rfl)
    simp only [Act.put, List.setIfInBounds_toArray, List.set_cons_zero, List.set_cons_succ]
    refine wpAnyH_take (i := 34) (oi := { dst := some 116, op := Op.load 23 (Operand.tmp 11), type := 23, pos := "outright.go:84", after := #[{ on := 33, ground := Ground.guard }], guard := some (33, false) }) (v := ?vvr1n34) rfl (by kernel_rfl) (by kernel_rfl) (by kernel_rfl) (fun _ _ _ h => h) (Or.inl ⟨by rfl, ?hyr1n34⟩) (by assumption) ?restr1n34
    case hyr1n34 => (intro w hSw; (try dsimp only at hSw); go_simp; try with_reducible rfl)
    simp only [Act.put, List.setIfInBounds_toArray, List.set_cons_zero, List.set_cons_succ]
    refine wpAnyH_take (i := 35) (oi := { dst := some 117, op := Op.load 23 (Operand.tmp 12), type := 23, pos := "outright.go:84", after := #[{ on := 33, ground := Ground.guard }], guard := some (33, false) }) (v := ?vvr1n35) rfl (by kernel_rfl) (by kernel_rfl) (by kernel_rfl) (fun _ _ _ h => h) (Or.inl ⟨by rfl, ?hyr1n35⟩) (by assumption) ?restr1n35
    case hyr1n35 => (intro w hSw; (try dsimp only at hSw); go_simp; try with_reducible rfl)
    simp only [Act.put, List.setIfInBounds_toArray, List.set_cons_zero, List.set_cons_succ]
    refine wpAnyH_take (i := 37) (oi := { dst := some 119, op := Op.load 23 (Operand.tmp 3), type := 23, pos := "outright.go:84", after := #[{ on := 33, ground := Ground.guard }], guard := some (33, false) }) (v := ?vvr1n37) rfl (by kernel_rfl) (by kernel_rfl) (by kernel_rfl) (fun _ _ _ h => h) (Or.inl ⟨by rfl, ?hyr1n37⟩) (by assumption) ?restr1n37
    case hyr1n37 => (intro w hSw; (try dsimp only at hSw); go_simp; try with_reducible rfl)
    simp only [Act.put, List.setIfInBounds_toArray, List.set_cons_zero, List.set_cons_succ]
    refine wpAnyH_take (i := 38) (oi := { dst := some 120, op := Op.load 23 (Operand.tmp 4), type := 23, pos := "outright.go:84", after := #[{ on := 33, ground := Ground.guard }], guard := some (33, false) }) (v := ?vvr1n38) rfl (by kernel_rfl) (by kernel_rfl) (by kernel_rfl) (fun _ _ _ h => h) (Or.inl ⟨by rfl, ?hyr1n38⟩) (by assumption) ?restr1n38
    case hyr1n38 => (intro w hSw; (try dsimp only at hSw); go_simp; try with_reducible rfl)
    simp only [Act.put, List.setIfInBounds_toArray, List.set_cons_zero, List.set_cons_succ]
    refine wpAnyH_ready (rs := [36]) (by kernel_rfl) (by simp) ?_
    refine AllReadyH.cons (o := { dst := some 118, op := Op.call { callee := Callee.value (Operand.func 19), args := #[Operand.tmp 116, Operand.tmp 117], argTypes := #[23, 23] }, type := 4, pos := "outright.go:84", after := #[{ on := 34, ground := Ground.data }, { on := 35, ground := Ground.data }, { on := 33, ground := Ground.chain }, { on := 33, ground := Ground.guard }], guard := some (33, false) }) rfl (fun K hK => ?_) AllReadyH.nil
    go_simp
    refine (W2 _).out.mono ?_
    rintro e w3 ⟨rfl, k3⟩
    go_wp2_with fail
    refine hK.out _ _ ⟨hP _ (keepD hHeld2 k3), keepD hHeld2 k3⟩ (fun hHeld3 => ?_)
    clear hK K hHeld2
    try simp only [Act.put, List.setIfInBounds_toArray, List.set_cons_zero, List.set_cons_succ]
    refine wpAnyH_ready (rs := [39]) (by kernel_rfl) (by simp) ?_
    refine AllReadyH.cons (o := { dst := some 121, op := Op.call { callee := Callee.value (Operand.func 19), args := #[Operand.tmp 119, Operand.tmp 120], argTypes := #[23, 23] }, type := 4, pos := "outright.go:84", after := #[{ on := 37, ground := Ground.data }, { on := 38, ground := Ground.data }, { on := 36, ground := Ground.chain }, { on := 33, ground := Ground.guard }], guard := some (33, false) }) rfl (fun K hK => ?_) AllReadyH.nil
    go_simp
    refine (W1 _).out.mono ?_
    rintro e w3 ⟨rfl, k3⟩
    go_wp2_with fail
    refine hK.out _ _ ⟨hP _ (keepD hHeld3 k3), keepD hHeld3 k3⟩ (fun hHeld4 => ?_)
    clear hK K hHeld3
    try simp only [Act.put, List.setIfInBounds_toArray, List.set_cons_zero, List.set_cons_succ]
    refine wpAnyH_take (i := 40) (oi := { dst := some 122, op := Op.binOp BinOp.neq 4 (Operand.tmp 118) (Operand.tmp 121) 4, type := 4, pos := "outright.go:84", after := #[{ on := 36, ground := Ground.data }, { on := 39, ground := Ground.data }, { on := 33, ground := Ground.guard }], guard := some (33, false) }) (v := ?vvr1n40) rfl (by kernel_rfl) (by kernel_rfl) (by kernel_rfl) (fun _ _ _ h => h) (Or.inl ⟨by rfl, ?hyr1n40⟩) (by assumption) ?restr1n40
    case hyr1n40 => (intro w hSw; (try dsimp only at hSw); go_simp; try with_reducible rfl)
    simp only [Act.put, List.setIfInBounds_toArray, List.set_cons_zero, List.set_cons_succ]
    refine wpAnyH_take (i := 41) (oi := { dst := some 123, op := Op.pick (Operand.tmp 115) (Operand.const (Value.bool true)) (Operand.tmp 122), type := 4, pos := "outright.go:84", after := #[{ on := 33, ground := Ground.data }, { on := 40, ground := Ground.data }], guard := none }) (v := ?vvr1n41) rfl (by kernel_rfl) (by kernel_rfl) (by kernel_rfl) (fun _ _ _ h => h) (Or.inl ⟨by rfl, ?hyr1n41⟩) (by assumption) ?restr1n41
    case hyr1n41 => (intro w hSw; (try dsimp only at hSw); go_simp; try with_reducible rfl)
    simp only [Act.put, List.setIfInBounds_toArray, List.set_cons_zero, List.set_cons_succ]
    refine wpAnyH_done (by kernel_rfl) ?_ _
    go_wp2_with fail
    obtain ⟨hX, hY⟩ : _ ∧ Below W6.heap.size W6 _ := by assumption
    replace hb := bThen hb hY
    replace mS := mS.then hY
    replace mP := mP.then hY
    clear hX hY hP mT mA mC mQ N1 N2 W1 W2
    rcases HD.out with ⟨l1, v1, v2, v3, v4⟩ | ⟨l1, v1, v2, v3, v4⟩ | ⟨v1, v2, v3, v4⟩
    all_goals
      have S1 := fun W => Lib.hid (side_eq v1 W)
      have S2 := fun W => Lib.hid (side_eq v2 W)
      have H1 := fun W => Lib.hid (has_eq v3 W)
      have H2 := fun W => Lib.hid (has_eq v4 W)
      clear HD v1 v2 v3 v4
      have hP : ∀ w', Below w3.heap.size w3 w' → (w'.cell? ⟨w.heap.size, 0, none⟩ = some (.int .i64 a) ∧ w'.cell? ⟨w.heap.size, 1, none⟩ = some (.int .i64 b) ∧ w'.cell? ⟨BP, 0, none⟩ = some (.int .i64 (-b)) ∧ w'.cell? ⟨BP, 1, none⟩ = some (.int .i64 (-a))) := fun w' k => ⟨(mS.then k).c0, (mS.then k).c1, (mP.then k).c0, (mP.then k).c1⟩
      go_region_held3 (fun w' => (w'.cell? ⟨w.heap.size, 0, none⟩ = some (.int .i64 a) ∧ w'.cell? ⟨w.heap.size, 1, none⟩ = some (.int .i64 b) ∧ w'.cell? ⟨BP, 0, none⟩ = some (.int .i64 (-b)) ∧ w'.cell? ⟨BP, 1, none⟩ = some (.int .i64 (-a))) ∧ Below w3.heap.size w3 w')
        (first | exact ⟨hP _ (Below.refl _ _).drew, (Below.refl _ _).drew⟩ | exact ⟨hP _ (keepD (by assumption) k3), keepD (by assumption) k3⟩)
        (first
        | (go_at_call 12; first | ((with_reducible refine (S1 _).out.mono ?_); rintro e w8 ⟨rfl, k3⟩) | ((with_reducible refine (S2 _).out.mono ?_); rintro e w8 ⟨rfl, k3⟩))
        | (go_at_call 14; first | ((with_reducible refine (H1 _).out.mono ?_); rintro e w8 ⟨rfl, k3⟩) | ((with_reducible refine (H2 _).out.mono ?_); rintro e w8 ⟨rfl, k3⟩)))
      go_wp2_with fail
      go_ret
      exact ⟨by simp, bThen hb ‹_ ∧ Below w3.heap.size w3 _›.2⟩
  · skip
    have mP := At2.drew1 (At2.new (w3.alloc (.cells #[.int .i64 (-d), .int .i64 (-c)] 23)) (-b) (-a) 23)
    have mQ := At2.drew1 ((At2.new w3 (-d) (-c) 23).al (.cells #[.int .i64 (-b), .int .i64 (-a)] 23))
    simp at mP
    replace hb := (bAl (bAl hb (.cells #[.int .i64 (-d), .int .i64 (-c)] 23)) (.cells #[.int .i64 (-b), .int .i64 (-a)] 23)).drew
    replace mS := At2.drew1 ((mS.al (.cells #[.int .i64 (-d), .int .i64 (-c)] 23)).al (.cells #[.int .i64 (-b), .int .i64 (-a)] 23))
    replace mT := At2.drew1 ((mT.al (.cells #[.int .i64 (-d), .int .i64 (-c)] 23)).al (.cells #[.int .i64 (-b), .int .i64 (-a)] 23))
    replace mA := At2.drew1 ((mA.al (.cells #[.int .i64 (-d), .int .i64 (-c)] 23)).al (.cells #[.int .i64 (-b), .int .i64 (-a)] 23))
    clear s0 s1 t0 t1 ls lt
    generalize ((w3.alloc (.cells #[.int .i64 (-d), .int .i64 (-c)] 23)).alloc (.cells #[.int .i64 (-b), .int .i64 (-a)] 23)).drew = W4 at *
    generalize w3.heap.size + 1 = BP at *
    generalize w3.heap.size = BQ at *
    have p0 := mP.c0; have p1 := mP.c1; have q0 := mQ.c0; have q1 := mQ.c1
    go_wp2_with (go_at_call 17; ((with_reducible refine (E3 _).out.mono ?_); rintro e w5 ⟨rfl, k5⟩; replace hb := bThen hb k5; replace mS := mS.then k5; replace mT := mT.then k5; replace mA := mA.then k5; replace mP := mP.then k5; replace mQ := mQ.then k5))
    clear p0 p1 q0 q1
    have mC := At2.new w5 0 0 23
    replace hb := bAl hb (.cells #[.int .i64 0, .int .i64 0] 23)
    replace mS := mS.al (.cells #[.int .i64 0, .int .i64 0] 23)
    replace mT := mT.al (.cells #[.int .i64 0, .int .i64 0] 23)
    replace mA := mA.al (.cells #[.int .i64 0, .int .i64 0] 23)
    replace mP := mP.al (.cells #[.int .i64 0, .int .i64 0] 23)
    replace mQ := mQ.al (.cells #[.int .i64 0, .int .i64 0] 23)
    generalize hc : w5.alloc (.cells #[.int .i64 0, .int .i64 0] 23) = W6 at *
    have hP : ∀ w', Below W6.heap.size W6 w' → (w'.cell? ⟨w.heap.size, 0, none⟩ = some (.int .i64 a) ∧ w'.cell? ⟨w.heap.size, 1, none⟩ = some (.int .i64 b) ∧ w'.cell? ⟨w.heap.size + 1, 0, none⟩ = some (.int .i64 c) ∧ w'.cell? ⟨w.heap.size + 1, 1, none⟩ = some (.int .i64 d) ∧ w'.cell? ⟨wa.heap.size, 0, none⟩ = some (.int .i64 0) ∧ w'.cell? ⟨wa.heap.size, 1, none⟩ = some (.int .i64 0) ∧ w'.cell? ⟨w5.heap.size, 0, none⟩ = some (.int .i64 0) ∧ w'.cell? ⟨w5.heap.size, 1, none⟩ = some (.int .i64 0) ∧ w'.cell? ⟨BP, 0, none⟩ = some (.int .i64 (-b)) ∧ w'.cell? ⟨BP, 1, none⟩ = some (.int .i64 (-a)) ∧ w'.cell? ⟨BQ, 0, none⟩ = some (.int .i64 (-d)) ∧ w'.cell? ⟨BQ, 1, none⟩ = some (.int .i64 (-c))) := fun w' k => ⟨(mS.then k).c0, (mS.then k).c1, (mT.then k).c0, (mT.then k).c1, (mA.then k).c0, (mA.then k).c1, (mC.then k).c0, (mC.then k).c1, (mP.then k).c0, (mP.then k).c1, (mQ.then k).c0, (mQ.then k).c1⟩
    refine wp_region_held_drew (S := fun w' => (w'.cell? ⟨w.heap.size, 0, none⟩ = some (.int .i64 a) ∧ w'.cell? ⟨w.heap.size, 1, none⟩ = some (.int .i64 b) ∧ w'.cell? ⟨w.heap.size + 1, 0, none⟩ = some (.int .i64 c) ∧ w'.cell? ⟨w.heap.size + 1, 1, none⟩ = some (.int .i64 d) ∧ w'.cell? ⟨wa.heap.size, 0, none⟩ = some (.int .i64 0) ∧ w'.cell? ⟨wa.heap.size, 1, none⟩ = some (.int .i64 0) ∧ w'.cell? ⟨w5.heap.size, 0, none⟩ = some (.int .i64 0) ∧ w'.cell? ⟨w5.heap.size, 1, none⟩ = some (.int .i64 0) ∧ w'.cell? ⟨BP, 0, none⟩ = some (.int .i64 (-b)) ∧ w'.cell? ⟨BP, 1, none⟩ = some (.int .i64 (-a)) ∧ w'.cell? ⟨BQ, 0, none⟩ = some (.int .i64 (-d)) ∧ w'.cell? ⟨BQ, 1, none⟩ = some (.int .i64 (-c))) ∧ Below W6.heap.size W6 w') (by kernel_rfl) ⟨hP _ (Below.refl _ _).drew, (Below.refl _ _).drew⟩ (fun hHeld0 => ?_)
    refine wpAnyH_take (i := 0) (oi := { dst := some 82, op := Op.move (Operand.tmp 14), type := 4, pos := "outright.go:84", after := #[], guard := none }) (v := ?vvr2n0) rfl (by kernel_rfl) (by kernel_rfl) (by kernel_rfl) (fun _ _ _ h => h) (Or.inl ⟨by rfl, ?hyr2n0⟩) (by assumption) ?restr2n0
    case hyr2n0 => (intro w hSw; (try dsimp only at hSw); go_simp; try with_reducible rfl)
    simp only [Act.put, List.setIfInBounds_toArray, List.set_cons_zero, List.set_cons_succ]
    refine wpAnyH_take (i := 1) (oi := { dst := some 83, op := Op.move (Operand.tmp 8), type := 4, pos := "outright.go:84", after := #[], guard := none }) (v := ?vvr2n1) rfl (by kernel_rfl) (by kernel_rfl) (by kernel_rfl) (fun _ _ _ h => h) (Or.inl ⟨by rfl, ?hyr2n1⟩) (by assumption) ?restr2n1
    case hyr2n1 => (intro w hSw; (try dsimp only at hSw); go_simp; try with_reducible rfl)
    simp only [Act.put, List.setIfInBounds_toArray, List.set_cons_zero, List.set_cons_succ]
    refine wpAnyH_take (i := 2) (oi := { dst := some 84, op := Op.binOp BinOp.neq 4 (Operand.tmp 82) (Operand.tmp 83) 4, type := 4, pos := "outright.go:84", after := #[{ on := 0, ground := Ground.data }, { on := 1, ground := Ground.data }], guard := none }) (v := ?vvr2n2) rfl (by kernel_rfl) (by kernel_rfl) (by kernel_rfl) (fun _ _ _ h => h) (Or.inl ⟨by rfl, ?hyr2n2⟩) (by assumption) ?restr2n2
    case hyr2n2 => (intro w hSw; (try dsimp only at hSw); go_simp; try with_reducible rfl)
    simp only [Act.put, List.setIfInBounds_toArray, List.set_cons_zero, List.set_cons_succ]
    refine wpAnyH_take (i := 3) (oi := { dst := some 85, op := Op.move (Operand.tmp 84), type := 4, pos := "outright.go:84", after := #[{ on := 2, ground := Ground.data }], guard := none }) (v := ?vvr2n3) rfl (by kernel_rfl) (by kernel_rfl) (by kernel_rfl) (fun _ _ _ h => h) (Or.inl ⟨by rfl, ?hyr2n3⟩) (by assumption) ?restr2n3
    case hyr2n3 => (intro w hSw; (try dsimp only at hSw); go_simp; try with_reducible rfl)
    simp only [Act.put, List.setIfInBounds_toArray, List.set_cons_zero, List.set_cons_succ]
    refine wpAnyH_take (i := 4) (oi := { dst := some 86, op := Op.move (Operand.tmp 14), type := 4, pos := "outright.go:84", after := #[{ on := 3, ground := Ground.guard }], guard := some (3, false) }) (v := ?vvr2n4) rfl (by kernel_rfl) (by kernel_rfl) (by kernel_rfl) (fun _ _ _ h => h) (Or.inl ⟨by rfl, ?hyr2n4⟩) (by assumption) ?restr2n4
    case hyr2n4 => (intro w hSw; (try dsimp only at hSw); go_simp; try with_reducible rfl)
    simp only [Act.put, List.setIfInBounds_toArray, List.set_cons_zero, List.set_cons_succ]
    refine wpAnyH_take (i := 5) (oi := { dst := some 87, op := Op.move (Operand.tmp 86), type := 4, pos := "outright.go:84", after := #[{ on := 4, ground := Ground.data }, { on := 3, ground := Ground.chain }, { on := 3, ground := Ground.guard }], guard := some (3, false) }) (v := ?vvr2n5) rfl (by kernel_rfl) (by kernel_rfl) (by kernel_rfl) (fun _ _ _ h => h) (Or.inl ⟨by rfl, ?hyr2n5⟩) (by assumption) ?restr2n5
    case hyr2n5 => (intro w hSw; (try dsimp only at hSw); go_simp; try with_reducible rfl)
    simp only [Act.put, List.setIfInBounds_toArray, List.set_cons_zero, List.set_cons_succ]
    refine wpAnyH_take (i := 6) (oi := { dst := some 88, op := Op.fieldAddr 23 (Operand.tmp 13) 0, type := 0, pos := "outright.go:84", after := #[{ on := 5, ground := Ground.guard }], guard := some (5, true) }) (v := undef) rfl (by kernel_rfl) (by kernel_rfl) (by kernel_rfl) (fun _ _ _ h => h) (Or.inr ⟨by rfl, rfl⟩) (by assumption) ?_
    simp only [Act.put, List.setIfInBounds_toArray, List.set_cons_zero, List.set_cons_succ]
    refine wpAnyH_take (i := 7) (oi := { dst := some 89, op := Op.load 2 (Operand.tmp 88), type := 2, pos := "outright.go:84", after := #[{ on := 6, ground := Ground.data }, { on := 5, ground := Ground.guard }], guard := some (5, true) }) (v := undef) rfl (by kernel_rfl) (by kernel_rfl) (by kernel_rfl) (fun _ _ _ h => h) (Or.inr ⟨by rfl, rfl⟩) (by assumption) ?_
    simp only [Act.put, List.setIfInBounds_toArray, List.set_cons_zero, List.set_cons_succ]
    refine wpAnyH_take (i := 8) (oi := { dst := some 90, op := Op.fieldAddr 23 (Operand.tmp 7) 1, type := 0, pos := "outright.go:84", after := #[{ on := 5, ground := Ground.guard }], guard := some (5, true) }) (v := undef) rfl (by kernel_rfl) (by kernel_rfl) (by kernel_rfl) (fun _ _ _ h => h) (Or.inr ⟨by rfl, rfl⟩) (by assumption) ?_
    simp only [Act.put, List.setIfInBounds_toArray, List.set_cons_zero, List.set_cons_succ]
    refine wpAnyH_take (i := 9) (oi := { dst := some 91, op := Op.load 2 (Operand.tmp 90), type := 2, pos := "outright.go:84", after := #[{ on := 8, ground := Ground.data }, { on := 5, ground := Ground.guard }], guard := some (5, true) }) (v := undef) rfl (by kernel_rfl) (by kernel_rfl) (by kernel_rfl) (fun _ _ _ h => h) (Or.inr ⟨by rfl, rfl⟩) (by assumption) ?_
    simp only [Act.put, List.setIfInBounds_toArray, List.set_cons_zero, List.set_cons_succ]
    refine wpAnyH_take (i := 10) (oi := { dst := some 92, op := Op.unOp UnOp.neg 2 (Operand.tmp 91), type := 2, pos := "outright.go:84", after := #[{ on := 9, ground := Ground.data }, { on := 5, ground := Ground.guard }], guard := some (5, true) }) (v := undef) rfl (by kernel_rfl) (by kernel_rfl) (by kernel_rfl) (fun _ _ _ h => h) (Or.inr ⟨by rfl, rfl⟩) (by assumption) ?_
    simp only [Act.put, List.setIfInBounds_toArray, List.set_cons_zero, List.set_cons_succ]
    refine wpAnyH_take (i := 11) (oi := { dst := some 93, op := Op.binOp BinOp.neq 2 (Operand.tmp 89) (Operand.tmp 92) 2, type := 4, pos := "outright.go:84", after := #[{ on := 7, ground := Ground.data }, { on := 10, ground := Ground.data }, { on := 5, ground := Ground.guard }], guard := some (5, true) }) (v := undef) rfl (by kernel_rfl) (by kernel_rfl) (by kernel_rfl) (fun _ _ _ h => h) (Or.inr ⟨by rfl, rfl⟩) (by assumption) ?_
    simp only [Act.put, List.setIfInBounds_toArray, List.set_cons_zero, List.set_cons_succ]
    refine wpAnyH_take (i := 12) (oi := { dst := some 94, op := Op.move (Operand.tmp 93), type := 4, pos := "outright.go:84", after := #[{ on := 11, ground := Ground.data }, { on := 5, ground := Ground.chain }, { on := 5, ground := Ground.guard }], guard := some (5, true) }) (v := undef) rfl (by kernel_rfl) (by kernel_rfl) (by kernel_rfl) (fun _ _ _ h => h) (Or.inr ⟨by rfl, rfl⟩) (by assumption) ?_
    simp only [Act.put, List.setIfInBounds_toArray, List.set_cons_zero, List.set_cons_succ]
    refine wpAnyH_take (i := 13) (oi := { dst := some 95, op := Op.fieldAddr 23 (Operand.tmp 13) 1, type := 0, pos := "outright.go:84", after := #[{ on := 12, ground := Ground.guard }], guard := some (12, false) }) (v := undef) rfl (by kernel_rfl) (by kernel_rfl) (by kernel_rfl) (fun _ _ _ h => h) (Or.inr ⟨by rfl, rfl⟩) (by assumption) ?_
    simp only [Act.put, List.setIfInBounds_toArray, List.set_cons_zero, List.set_cons_succ]
    refine wpAnyH_take (i := 14) (oi := { dst := some 96, op := Op.load 2 (Operand.tmp 95), type := 2, pos := "outright.go:84", after := #[{ on := 13, ground := Ground.data }, { on := 12, ground := Ground.guard }], guard := some (12, false) }) (v := undef) rfl (by kernel_rfl) (by kernel_rfl) (by kernel_rfl) (fun _ _ _ h => h) (Or.inr ⟨by rfl, rfl⟩) (by assumption) ?_
    simp only [Act.put, List.setIfInBounds_toArray, List.set_cons_zero, List.set_cons_succ]
    refine wpAnyH_take (i := 15) (oi := { dst := some 97, op := Op.fieldAddr 23 (Operand.tmp 7) 0, type := 0, pos := "outright.go:84", after := #[{ on := 12, ground := Ground.guard }], guard := some (12, false) }) (v := undef) rfl (by kernel_rfl) (by kernel_rfl) (by kernel_rfl) (fun _ _ _ h => h) (Or.inr ⟨by rfl, rfl⟩) (by assumption) ?_
    simp only [Act.put, List.setIfInBounds_toArray, List.set_cons_zero, List.set_cons_succ]
    refine wpAnyH_take (i := 16) (oi := { dst := some 98, op := Op.load 2 (Operand.tmp 97), type := 2, pos := "outright.go:84", after := #[{ on := 15, ground := Ground.data }, { on := 12, ground := Ground.guard }], guard := some (12, false) }) (v := undef) rfl (by kernel_rfl) (by kernel_rfl) (by kernel_rfl) (fun _ _ _ h => h) (Or.inr ⟨by rfl, rfl⟩) (by assumption) ?_
    simp only [Act.put, List.setIfInBounds_toArray, List.set_cons_zero, List.set_cons_succ]
    refine wpAnyH_take (i := 17) (oi := { dst := some 99, op := Op.unOp UnOp.neg 2 (Operand.tmp 98), type := 2, pos := "outright.go:84", after := #[{ on := 16, ground := Ground.data }, { on := 12, ground := Ground.guard }], guard := some (12, false) }) (v := undef) rfl (by kernel_rfl) (by kernel_rfl) (by kernel_rfl) (fun _ _ _ h => h) (Or.inr ⟨by rfl, rfl⟩) (by assumption) ?_
    simp only [Act.put, List.setIfInBounds_toArray, List.set_cons_zero, List.set_cons_succ]
    refine wpAnyH_take (i := 18) (oi := { dst := some 100, op := Op.binOp BinOp.neq 2 (Operand.tmp 96) (Operand.tmp 99) 2, type := 4, pos := "outright.go:84", after := #[{ on := 14, ground := Ground.data }, { on := 17, ground := Ground.data }, { on := 12, ground := Ground.guard }], guard := some (12, false) }) (v := undef) rfl (by kernel_rfl) (by kernel_rfl) (by kernel_rfl) (fun _ _ _ h => h) (Or.inr ⟨by rfl, rfl⟩) (by assumption) ?_
    simp only [Act.put, List.setIfInBounds_toArray, List.set_cons_zero, List.set_cons_succ]
    refine wpAnyH_take (i := 19) (oi := { dst := some 101, op := Op.pick (Operand.tmp 94) (Operand.const (Value.bool true)) (Operand.tmp 100), type := 4, pos := "outright.go:84", after := #[{ on := 12, ground := Ground.data }, { on := 18, ground := Ground.data }, { on := 5, ground := Ground.guard }], guard := some (5, true) }) (v := undef) rfl (by kernel_rfl) (by kernel_rfl) (by kernel_rfl) (fun _ _ _ h => h) (Or.inr ⟨by rfl, rfl⟩) (by assumption) ?_
    simp only [Act.put, List.setIfInBounds_toArray, List.set_cons_zero, List.set_cons_succ]
    refine wpAnyH_take (i := 20) (oi := { dst := some 102, op := Op.pick (Operand.tmp 87) (Operand.tmp 101) (Operand.const (Value.bool false)), type := 4, pos := "outright.go:84", after := #[{ on := 5, ground := Ground.data }, { on := 19, ground := Ground.data }, { on := 3, ground := Ground.guard }], guard := some (3, false) }) (v := ?vvr2n20) rfl (by kernel_rfl) (by kernel_rfl) (by kernel_rfl) (fun _ _ _ h => h) (Or.inl ⟨by rfl, ?hyr2n20⟩) (by assumption) ?restr2n20
    case hyr2n20 => (intro w hSw; (try dsimp only at hSw); go_simp; try with_reducible rfl)
    simp only [Act.put, List.setIfInBounds_toArray, List.set_cons_zero, List.set_cons_succ]
    refine wpAnyH_take (i := 21) (oi := { dst := some 103, op := Op.pick (Operand.tmp 85) (Operand.const (Value.bool true)) (Operand.tmp 102), type := 4, pos := "outright.go:84", after := #[{ on := 3, ground := Ground.data }, { on := 20, ground := Ground.data }], guard := none }) (v := ?vvr2n21) rfl (by kernel_rfl) (by kernel_rfl) (by kernel_rfl) (fun _ _ _ h => h) (Or.inl ⟨by rfl, ?hyr2n21⟩) (by assumption) ?restr2n21
    case hyr2n21 => (intro w hSw; (try dsimp only at hSw); go_simp; try with_reducible rfl)
    simp only [Act.put, List.setIfInBounds_toArray, List.set_cons_zero, List.set_cons_succ]
    refine wpAnyH_take (i := 22) (oi := { dst := some 104, op := Op.move (Operand.tmp 103), type := 4, pos := "outright.go:84", after := #[{ on := 21, ground := Ground.data }, { on := 12, ground := Ground.chain }], guard := none }) (v := ?vvr2n22) rfl (by kernel_rfl) (by kernel_rfl) (by kernel_rfl) (fun _ _ _ h => h) (Or.inl ⟨by rfl, ?hyr2n22⟩) (by assumption) ?restr2n22
    case hyr2n22 => (intro w hSw; (try dsimp only at hSw); go_simp; try with_reducible rfl)
    simp only [Act.put, List.setIfInBounds_toArray, List.set_cons_zero, List.set_cons_succ]
    refine wpAnyH_take (i := 23) (oi := { dst := some 105, op := Op.load 23 (Operand.tmp 11), type := 23, pos := "outright.go:84", after := #[{ on := 22, ground := Ground.guard }], guard := some (22, false) }) (v := ?vvr2n23) rfl (by kernel_rfl) (by kernel_rfl) (by kernel_rfl) (fun _ _ _ h => h) (Or.inl ⟨by rfl, ?hyr2n23⟩) (by assumption) ?restr2n23
    case hyr2n23 => (intro w hSw; (try dsimp only at hSw); go_simp; try with_reducible rfl)
    simp only [Act.put, List.setIfInBounds_toArray, List.set_cons_zero, List.set_cons_succ]
    refine wpAnyH_take (i := 24) (oi := { dst := some 106, op := Op.move (Operand.tmp 2), type := 2, pos := "outright.go:84", after := #[{ on := 22, ground := Ground.guard }], guard := some (22, false) }) (v := ?vvr2n24) rfl (by kernel_rfl) (by kernel_rfl) (by kernel_rfl) (fun _ _ _ h => h) (Or.inl ⟨by rfl, ?hyr2n24⟩) (by assumption) ?restr2n24
    case hyr2n24 => (intro w hSw; (try dsimp only at hSw); go_simp; try with_reducible rfl)
    simp only [Act.put, List.setIfInBounds_toArray, List.set_cons_zero, List.set_cons_succ]
    refine wpAnyH_take (i := 25) (oi := { dst := some 107, op := Op.unOp UnOp.neg 2 (Operand.tmp 106), type := 2, pos := "outright.go:84", after := #[{ on := 24, ground := Ground.data }, { on := 22, ground := Ground.guard }], guard := some (22, false) }) (v := ?vvr2n25) rfl (by kernel_rfl) (by kernel_rfl) (by kernel_rfl) (fun _ _ _ h => h) (Or.inl ⟨by rfl, ?hyr2n25⟩) (by assumption) ?restr2n25
    case hyr2n25 => (intro w hSw; (try dsimp only at hSw); go_simp; try with_reducible rfl)
    simp only [Act.put, List.setIfInBounds_toArray, List.set_cons_zero, List.set_cons_succ]
    refine wpAnyH_take (i := 27) (oi := { dst := some 109, op := Op.load 23 (Operand.tmp 3), type := 23, pos := "outright.go:84", after := #[{ on := 22, ground := Ground.guard }], guard := some (22, false) }) (v := ?vvr2n27) rfl (by kernel_rfl) (by kernel_rfl) (by kernel_rfl) (fun _ _ _ h => h) (Or.inl ⟨by rfl, ?hyr2n27⟩) (by assumption) ?restr2n27
    case hyr2n27 => (intro w hSw; (try dsimp only at hSw); go_simp; try with_reducible rfl)
    simp only [Act.put, List.setIfInBounds_toArray, List.set_cons_zero, List.set_cons_succ]
    refine wpAnyH_take (i := 28) (oi := { dst := some 110, op := Op.move (Operand.tmp 2), type := 2, pos := "outright.go:84", after := #[{ on := 22, ground := Ground.guard }], guard := some (22, false) }) (v := ?vvr2n28) rfl (by kernel_rfl) (by kernel_rfl) (by kernel_rfl) (fun _ _ _ h => h) (Or.inl ⟨by rfl, ?hyr2n28⟩) (by assumption) ?restr2n28
    case hyr2n28 => (intro w hSw; (try dsimp only at hSw); go_simp; try with_reducible rfl)
    simp only [Act.put, List.setIfInBounds_toArray, List.set_cons_zero, List.set_cons_succ]
    refine wpAnyH_ready (rs := [26]) (by kernel_rfl) (by simp) ?_
    refine AllReadyH.cons (o := { dst := some 108, op := Op.call { callee := Callee.value (Operand.func 15), args := #[Operand.tmp 105, Operand.tmp 107], argTypes := #[23, 2] }, type := 2, pos := "outright.go:84", after := #[{ on := 23, ground := Ground.data }, { on := 25, ground := Ground.data }, { on := 22, ground := Ground.chain }, { on := 22, ground := Ground.guard }], guard := some (22, false) }) rfl (fun K hK => ?_) AllReadyH.nil
    go_simp
    refine (N2 _).out.mono ?_
    rintro e w3 ⟨rfl, k3⟩
    go_wp2_with fail
    refine hK.out _ _ ⟨hP _ (keepD hHeld0 k3), keepD hHeld0 k3⟩ (fun hHeld1 => ?_)
    clear hK K hHeld0
    try simp only [Act.put, List.setIfInBounds_toArray, List.set_cons_zero, List.set_cons_succ]
    refine wpAnyH_ready (rs := [29]) (by kernel_rfl) (by simp) ?_
    refine AllReadyH.cons (o := { dst := some 111, op := Op.call { callee := Callee.value (Operand.func 15), args := #[Operand.tmp 109, Operand.tmp 110], argTypes := #[23, 2] }, type := 2, pos := "outright.go:84", after := #[{ on := 27, ground := Ground.data }, { on := 28, ground := Ground.data }, { on := 26, ground := Ground.chain }, { on := 22, ground := Ground.guard }], guard := some (22, false) }) rfl (fun K hK => ?_) AllReadyH.nil
    go_simp
    refine (N1 _).out.mono ?_
    rintro e w3 ⟨rfl, k3⟩
    go_wp2_with fail
    refine hK.out _ _ ⟨hP _ (keepD hHeld1 k3), keepD hHeld1 k3⟩ (fun hHeld2 => ?_)
    clear hK K hHeld1
    try simp only [Act.put, List.setIfInBounds_toArray, List.set_cons_zero, List.set_cons_succ]
    refine wpAnyH_take (i := 30) (oi := { dst := some 112, op := Op.unOp UnOp.neg 2 (Operand.tmp 111), type := 2, pos := "outright.go:84", after := #[{ on := 29, ground := Ground.data }, { on := 22, ground := Ground.guard }], guard := some (22, false) }) (v := ?vvr2n30) rfl (by kernel_rfl) (by kernel_rfl) (by kernel_rfl) (fun _ _ _ h => h) (Or.inl ⟨by rfl, ?hyr2n30⟩) (by assumption) ?restr2n30
    case hyr2n30 => (intro w hSw; (try dsimp only at hSw); go_simp; try with_reducible rfl)
    simp only [Act.put, List.setIfInBounds_toArray, List.set_cons_zero, List.set_cons_succ]
    refine wpAnyH_take (i := 31) (oi := { dst := some 113, op := Op.binOp BinOp.neq 2 (Operand.tmp 108) (Operand.tmp 112) 2, type := 4, pos := "outright.go:84", after := #[{ on := 26, ground := Ground.data }, { on := 30, ground := Ground.data }, { on := 22, ground := Ground.guard }], guard := some (22, false) }) (v := ?vvr2n31) rfl (by kernel_rfl) (by kernel_rfl) (by kernel_rfl) (fun _ _ _ h => h) (Or.inl ⟨by rfl, ?hyr2n31⟩) (by assumption) ?restr2n31
    case hyr2n31 => (intro w hSw; (try dsimp only at hSw); go_simp; try with_reducible rfl)
    simp only [Act.put, List.setIfInBounds_toArray, List.set_cons_zero, List.set_cons_succ]
    refine wpAnyH_take (i := 32) (oi := { dst := some 114, op := Op.pick (Operand.tmp 104) (Operand.const (Value.bool true)) (Operand.tmp 113), type := 4, pos := "outright.go:84", after := #[{ on := 22, ground := Ground.data }, { on := 31, ground := Ground.data }], guard := none }) (v := ?vvr2n32) rfl (by kernel_rfl) (by kernel_rfl) (by kernel_rfl) (fun _ _ _ h => h) (Or.inl ⟨by rfl, ?hyr2n32⟩) (by assumption) ?restr2n32
    case hyr2n32 => (intro w hSw; (try dsimp only at hSw); go_simp; try with_reducible rfl)
    simp only [Act.put, List.setIfInBounds_toArray, List.set_cons_zero, List.set_cons_succ]
    refine wpAnyH_take (i := 33) (oi := { dst := some 115, op := Op.move (Operand.tmp 114), type := 4, pos := "outright.go:84", after := #[{ on := 32, ground := Ground.data }, { on := 29, ground := Ground.chain }], guard := none }) (v := ?vvr2n33) rfl (by kernel_rfl) (by kernel_rfl) (by kernel_rfl) (fun _ _ _ h => h) (Or.inl ⟨by rfl, ?hyr2n33⟩) (by assumption) ?restr2n33
    case hyr2n33 => (intro w hSw; (try dsimp only at hSw); go_simp; try with_reducible rfl)
    simp only [Act.put, List.setIfInBounds_toArray, List.set_cons_zero, List.set_cons_succ]
    refine wpAnyH_take (i := 34) (oi := { dst := some 116, op := Op.load 23 (Operand.tmp 11), type := 23, pos := "outright.go:84", after := #[{ on := 33, ground := Ground.guard }], guard := some (33, false) }) (v := ?vvr2n34) rfl (by kernel_rfl) (by kernel_rfl) (by kernel_rfl) (fun _ _ _ h => h) (Or.inl ⟨by rfl, ?hyr2n34⟩) (by assumption) ?restr2n34
    case hyr2n34 => (intro w hSw; (try dsimp only at hSw); go_simp; try with_reducible rfl)
    simp only [Act.put, List.setIfInBounds_toArray, List.set_cons_zero, List.set_cons_succ]
    refine wpAnyH_take (i := 35) (oi := { dst := some 117, op := Op.load 23 (Operand.tmp 12), type := 23, pos := "outright.go:84", after := #[{ on := 33, ground := Ground.guard }], guard := some (33, false) }) (v := ?vvr2n35) rfl (by kernel_rfl) (by kernel_rfl) (by kernel_rfl) (fun _ _ _ h => h) (Or.inl ⟨by rfl, ?hyr2n35⟩) (by assumption) ?restr2n35
    case hyr2n35 => (intro w hSw; (try dsimp only at hSw); go_simp; try with_reducible rfl)
    simp only [Act.put, List.setIfInBounds_toArray, List.set_cons_zero, List.set_cons_succ]
    refine wpAnyH_take (i := 37) (oi := { dst := some 119, op := Op.load 23 (Operand.tmp 3), type := 23, pos := "outright.go:84", after := #[{ on := 33, ground := Ground.guard }], guard := some (33, false) }) (v := ?vvr2n37) rfl (by kernel_rfl) (by kernel_rfl) (by kernel_rfl) (fun _ _ _ h => h) (Or.inl ⟨by rfl, ?hyr2n37⟩) (by assumption) ?restr2n37
    case hyr2n37 => (intro w hSw; (try dsimp only at hSw); go_simp; try with_reducible rfl)
    simp only [Act.put, List.setIfInBounds_toArray, List.set_cons_zero, List.set_cons_succ]
    refine wpAnyH_take (i := 38) (oi := { dst := some 120, op := Op.load 23 (Operand.tmp 4), type := 23, pos := "outright.go:84", after := #[{ on := 33, ground := Ground.guard }], guard := some (33, false) }) (v := ?vvr2n38) rfl (by kernel_rfl) (by kernel_rfl) (by kernel_rfl) (fun _ _ _ h => h) (Or.inl ⟨by rfl, ?hyr2n38⟩) (by assumption) ?restr2n38
    case hyr2n38 => (intro w hSw; (try dsimp only at hSw); go_simp; try with_reducible rfl)
    simp only [Act.put, List.setIfInBounds_toArray, List.set_cons_zero, List.set_cons_succ]
    refine wpAnyH_ready (rs := [36]) (by kernel_rfl) (by simp) ?_
    refine AllReadyH.cons (o := { dst := some 118, op := Op.call { callee := Callee.value (Operand.func 19), args := #[Operand.tmp 116, Operand.tmp 117], argTypes := #[23, 23] }, type := 4, pos := "outright.go:84", after := #[{ on := 34, ground := Ground.data }, { on := 35, ground := Ground.data }, { on := 33, ground := Ground.chain }, { on := 33, ground := Ground.guard }], guard := some (33, false) }) rfl (fun K hK => ?_) AllReadyH.nil
    go_simp
    refine (W2 _).out.mono ?_
    rintro e w3 ⟨rfl, k3⟩
    go_wp2_with fail
    refine hK.out _ _ ⟨hP _ (keepD hHeld2 k3), keepD hHeld2 k3⟩ (fun hHeld3 => ?_)
    clear hK K hHeld2
    try simp only [Act.put, List.setIfInBounds_toArray, List.set_cons_zero, List.set_cons_succ]
    refine wpAnyH_ready (rs := [39]) (by kernel_rfl) (by simp) ?_
    refine AllReadyH.cons (o := { dst := some 121, op := Op.call { callee := Callee.value (Operand.func 19), args := #[Operand.tmp 119, Operand.tmp 120], argTypes := #[23, 23] }, type := 4, pos := "outright.go:84", after := #[{ on := 37, ground := Ground.data }, { on := 38, ground := Ground.data }, { on := 36, ground := Ground.chain }, { on := 33, ground := Ground.guard }], guard := some (33, false) }) rfl (fun K hK => ?_) AllReadyH.nil
    go_simp
    refine (W1 _).out.mono ?_
    rintro e w3 ⟨rfl, k3⟩
    go_wp2_with fail
    refine hK.out _ _ ⟨hP _ (keepD hHeld3 k3), keepD hHeld3 k3⟩ (fun hHeld4 => ?_)
    clear hK K hHeld3
    try simp only [Act.put, List.setIfInBounds_toArray, List.set_cons_zero, List.set_cons_succ]
    refine wpAnyH_take (i := 40) (oi := { dst := some 122, op := Op.binOp BinOp.neq 4 (Operand.tmp 118) (Operand.tmp 121) 4, type := 4, pos := "outright.go:84", after := #[{ on := 36, ground := Ground.data }, { on := 39, ground := Ground.data }, { on := 33, ground := Ground.guard }], guard := some (33, false) }) (v := ?vvr2n40) rfl (by kernel_rfl) (by kernel_rfl) (by kernel_rfl) (fun _ _ _ h => h) (Or.inl ⟨by rfl, ?hyr2n40⟩) (by assumption) ?restr2n40
    case hyr2n40 => (intro w hSw; (try dsimp only at hSw); go_simp; try with_reducible rfl)
    simp only [Act.put, List.setIfInBounds_toArray, List.set_cons_zero, List.set_cons_succ]
    refine wpAnyH_take (i := 41) (oi := { dst := some 123, op := Op.pick (Operand.tmp 115) (Operand.const (Value.bool true)) (Operand.tmp 122), type := 4, pos := "outright.go:84", after := #[{ on := 33, ground := Ground.data }, { on := 40, ground := Ground.data }], guard := none }) (v := ?vvr2n41) rfl (by kernel_rfl) (by kernel_rfl) (by kernel_rfl) (fun _ _ _ h => h) (Or.inl ⟨by rfl, ?hyr2n41⟩) (by assumption) ?restr2n41
    case hyr2n41 => (intro w hSw; (try dsimp only at hSw); go_simp; try with_reducible rfl)
    simp only [Act.put, List.setIfInBounds_toArray, List.set_cons_zero, List.set_cons_succ]
    refine wpAnyH_done (by kernel_rfl) ?_ _
    go_wp2_with fail
    obtain ⟨hX, hY⟩ : _ ∧ Below W6.heap.size W6 _ := by assumption
    replace hb := bThen hb hY
    replace mS := mS.then hY
    replace mP := mP.then hY
    clear hX hY hP mT mA mC mQ N1 N2 W1 W2
    rcases HD.out with ⟨l1, v1, v2, v3, v4⟩ | ⟨l1, v1, v2, v3, v4⟩ | ⟨v1, v2, v3, v4⟩
    all_goals
      have S1 := fun W => Lib.hid (side_eq v1 W)
      have S2 := fun W => Lib.hid (side_eq v2 W)
      have H1 := fun W => Lib.hid (has_eq v3 W)
      have H2 := fun W => Lib.hid (has_eq v4 W)
      clear HD v1 v2 v3 v4
      have hP : ∀ w', Below w3.heap.size w3 w' → (w'.cell? ⟨w.heap.size, 0, none⟩ = some (.int .i64 a) ∧ w'.cell? ⟨w.heap.size, 1, none⟩ = some (.int .i64 b) ∧ w'.cell? ⟨BP, 0, none⟩ = some (.int .i64 (-b)) ∧ w'.cell? ⟨BP, 1, none⟩ = some (.int .i64 (-a))) := fun w' k => ⟨(mS.then k).c0, (mS.then k).c1, (mP.then k).c0, (mP.then k).c1⟩
      go_region_held3 (fun w' => (w'.cell? ⟨w.heap.size, 0, none⟩ = some (.int .i64 a) ∧ w'.cell? ⟨w.heap.size, 1, none⟩ = some (.int .i64 b) ∧ w'.cell? ⟨BP, 0, none⟩ = some (.int .i64 (-b)) ∧ w'.cell? ⟨BP, 1, none⟩ = some (.int .i64 (-a))) ∧ Below w3.heap.size w3 w')
        (first | exact ⟨hP _ (Below.refl _ _).drew, (Below.refl _ _).drew⟩ | exact ⟨hP _ (keepD (by assumption) k3), keepD (by assumption) k3⟩)
        (first
        | (go_at_call 12; first | ((with_reducible refine (S1 _).out.mono ?_); rintro e w8 ⟨rfl, k3⟩) | ((with_reducible refine (S2 _).out.mono ?_); rintro e w8 ⟨rfl, k3⟩))
        | (go_at_call 14; first | ((with_reducible refine (H1 _).out.mono ?_); rintro e w8 ⟨rfl, k3⟩) | ((with_reducible refine (H2 _).out.mono ?_); rintro e w8 ⟨rfl, k3⟩)))
      go_wp2_with fail
      go_ret
      exact ⟨by simp, bThen hb ‹_ ∧ Below w3.heap.size w3 _›.2⟩

theorem mirror_n (a b c d n : Int) (w : World) (m0 : Int) (hm : w.cell? ⟨0, 0, none⟩ = some (.int .i64 m0)) (hlt : 0 < w.heap.size) (h : ¬ (spanE a b = 0 ∧ spanE c d = 0) ∨ (spanE a b = 0 ∧ spanE c d = 0 ∧ ¬ (-1000000000000000 ≤ n ∧ n ≤ 1000000000000000))) :
    Calls Try.prog 8 #[sp a b, sp c d, .int .i64 n] w fun e w' => e = .returned (.bool true) ∧ Below w.heap.size w w' := by
  have hb : Below w.heap.size w w := Below.refl _ _
  have hb2 := bAl (bAl hb (.cells #[.int .i64 a, .int .i64 b] 23)) (.cells #[.int .i64 c, .int .i64 d] 23)
  have CA := Lib.hid (awake_any _ m0 ((hb2.cell (p := ⟨0, 0, none⟩) hlt).trans hm) (Nat.lt_of_lt_of_le hlt hb2.size))
  obtain ⟨e1, h1⟩ : ∃ e1, spanE a b = e1 := ⟨_, rfl⟩
  obtain ⟨e2, h2⟩ : ∃ e2, spanE c d = e2 := ⟨_, rfl⟩
  have C1 := fun W => Lib.hid (spanMay_eq h1 W)
  have C2 := fun W => Lib.hid (spanMay_eq h2 W)
  rw [h1, h2] at h
  clear h1 h2 hm hlt hb2
  have hc : (¬ e1 = 0) ∨ (e1 = 0 ∧ ¬ e2 = 0) ∨ (e1 = 0 ∧ e2 = 0 ∧ n < -1000000000000000) ∨ (e1 = 0 ∧ e2 = 0 ∧ ¬ n < -1000000000000000 ∧ 1000000000000000 < n) := by omega
  clear h
  rcases hc with n1 | ⟨n1, n2⟩ | ⟨n1, n2, n3⟩ | ⟨n1, n2, n3, n4⟩
  all_goals
    go_enter Try.func8, Try.ntmps8
    go_wp2_with (first
      | (go_at_call 27; (refine CA.out.mono ?_; rintro e w1 ⟨rfl, k1⟩; replace hb := bThen (bAl (bAl hb _) _) k1; have mS := ((At2.new _ _ _ _).al _).then k1; have mT := (At2.new _ _ _ _).then k1; simp at mS mT; have s0 := mS.c0; have s1 := mS.c1; have t0 := mT.c0; have t1 := mT.c1; have ls := mS.lt; have lt := mT.lt))
      | (go_at_call 10; first | ((with_reducible refine (C1 _).out.mono ?_); rintro e w2 ⟨rfl, k2⟩; replace hb := bThen hb k2; replace mS := mS.then k2; replace mT := mT.then k2; have s0 := mS.c0; have s1 := mS.c1; have t0 := mT.c0; have t1 := mT.c1; have ls := mS.lt; have lt := mT.lt) | ((with_reducible refine (C2 _).out.mono ?_); rintro e w2 ⟨rfl, k2⟩; replace hb := bThen hb k2; replace mS := mS.then k2; replace mT := mT.then k2; have s0 := mS.c0; have s1 := mS.c1; have t0 := mT.c0; have t1 := mT.c1; have ls := mS.lt; have lt := mT.lt)))
    all_goals
      go_ret
      exact ⟨by rfl, hb⟩
theorem mirror_walk (a b c d n : Int) (w : World) (m0 : Int) (hm : w.cell? ⟨0, 0, none⟩ = some (.int .i64 m0)) (hlt : 0 < w.heap.size) :
    Calls Try.prog 8 #[sp a b, sp c d, .int .i64 n] w fun e w' => e = .returned (.bool true) ∧ Below w.heap.size w w' := by
  by_cases h : spanE a b = 0 ∧ spanE c d = 0
  · by_cases hn : -1000000000000000 ≤ n ∧ n ≤ 1000000000000000
    · by_cases hq : max a c ≤ min b d
      · exact mirror_t a b c d n w m0 hm hlt h.1 h.2 hn hq
      · exact mirror_f a b c d n w m0 hm hlt h.1 h.2 hn (by omega)
    · exact mirror_n a b c d n w m0 hm hlt (.inr ⟨h.1, h.2, hn⟩)
  · exact mirror_n a b c d n w m0 hm hlt (.inl h)
end Go.Proofs.Ytadbbpfnedbhcaa
