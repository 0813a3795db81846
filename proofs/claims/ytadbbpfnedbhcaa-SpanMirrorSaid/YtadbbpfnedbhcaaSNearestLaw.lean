/-
  WALK: the law SpanNearest.
-/
import Derived.Test.YtadbbpfnedbhcaaSAwake
namespace Go.Proofs.Ytadbbpfnedbhcaa
open Go.RowKit FixMath
set_option maxRecDepth 100000
set_option linter.unusedVariables false
set_option linter.unusedSimpArgs false

def farV (a b : Int) : Int := if a < b then b - a else a - b
theorem far_any (a b : Int) (w : World) (h : -1000000000000000 ≤ a ∧ a ≤ 1000000000000000) (k : -1000000000000000 ≤ b ∧ b ≤ 1000000000000000) :
    Calls Try.prog 28 #[.int .i64 a, .int .i64 b] w fun e w' => e = .returned (.int .i64 (farV a b)) ∧ w = w' := by
  have W1 : IntKind.i64.wrap (b - a) = b - a := IntWalk.i64_in _ (by omega)
  have W2 : IntKind.i64.wrap (a - b) = a - b := IntWalk.i64_in _ (by omega)
  by_cases l : a < b
  · have HV : Hid (farV a b = b - a) := Lib.hid (by unfold farV; rw [if_pos l])
    go_enter Try.func28, Try.ntmps28
    go_wp2
    go_ret
    exact ⟨by rw [HV.out]; simp, rfl⟩
  · have HV : Hid (farV a b = a - b) := Lib.hid (by unfold farV; rw [if_neg l])
    go_enter Try.func28, Try.ntmps28
    go_wp2
    go_ret
    exact ⟨by rw [HV.out]; simp, rfl⟩

theorem near_facts {a b n : Int} (h : spanE a b = 0) :
    (a ≤ nearV a b n ∧ nearV a b n ≤ b) ∧ (nearV a b n = n ↔ a ≤ n ∧ n ≤ b) ∧ ∀ o, a ≤ o → o ≤ b → farV n (nearV a b n) ≤ farV n o := by
  have hs := spanE_iff.1 h
  unfold nearV farV
  rw [if_pos h]
  refine ⟨?_, ?_, fun o h1 h2 => ?_⟩
  · repeat' split
    all_goals omega
  · repeat' split
    all_goals omega
  · repeat' split
    all_goals omega
theorem hasB_t {a b n : Int} (h : a ≤ n ∧ n ≤ b) : hasB a b n = true := by unfold hasB; exact decide_eq_true h
theorem hasB_f {a b n : Int} (h : ¬ (a ≤ n ∧ n ≤ b)) : hasB a b n = false := by unfold hasB; exact decide_eq_false h
theorem has_eq {a b n : Int} {q : Bool} (h : hasB a b n = q) (w : World) : Calls Try.prog 14 #[sp a b, .int .i64 n] w fun e w' => e = .returned (.bool q) ∧ Below w.heap.size w w' := h ▸ has_any a b n w
theorem near_eq {a b n z : Int} (h : nearV a b n = z) (w : World) : Calls Try.prog 15 #[sp a b, .int .i64 n] w fun e w' => e = .returned (.int .i64 z) ∧ Below w.heap.size w w' := h ▸ near_any a b n w
theorem far_eq {a b f : Int} (e : farV a b = f) (h : -1000000000000000 ≤ a ∧ a ≤ 1000000000000000) (k : -1000000000000000 ≤ b ∧ b ≤ 1000000000000000) (w : World) :
    Calls Try.prog 28 #[.int .i64 a, .int .i64 b] w fun e w' => e = .returned (.int .i64 f) ∧ w = w' := e ▸ far_any a b w h k

set_option maxHeartbeats 2000000 in
theorem nearest_walk (a b n o : Int) (w : World) (m0 : Int) (hm : w.cell? ⟨0, 0, none⟩ = some (.int .i64 m0)) (hlt : 0 < w.heap.size) :
    Calls Try.prog 9 #[sp a b, .int .i64 n, .int .i64 o] w fun e w' => e = .returned (.bool true) ∧ Below w.heap.size w w' := by
  have hb : Below w.heap.size w w := Below.refl _ _
  have hw : (w.alloc (.cells #[.int .i64 a, .int .i64 b] 23)).cell? ⟨0, 0, none⟩ = some (.int .i64 m0) := (World.cell?_alloc_past _ _ _ hlt).trans hm
  have CA := Lib.hid (awake_any _ m0 hw (by simp))
  clear hm hlt hw
  by_cases h0 : spanE a b = 0
  · have CM := fun W => Lib.hid (spanMay_eq h0 W)
    by_cases h1 : (-1000000000000000 ≤ n ∧ n ≤ 1000000000000000) ∧ (-1000000000000000 ≤ o ∧ o ≤ 1000000000000000)
    · obtain ⟨⟨n1, n2⟩, ⟨o1, o2⟩⟩ := h1
      obtain ⟨f1, f2, f3⟩ := near_facts (n := n) h0
      have hs := spanE_iff.1 h0
      obtain ⟨z, hz⟩ : ∃ z, nearV a b n = z := ⟨_, rfl⟩
      rw [hz] at f1 f2 f3
      obtain ⟨u, hu⟩ : ∃ u, farV n z = u := ⟨_, rfl⟩
      obtain ⟨v, hv⟩ : ∃ v, farV n o = v := ⟨_, rfl⟩
      obtain ⟨q, hq⟩ : ∃ q, hasB a b o = q := ⟨_, rfl⟩
      have CZ := fun W => Lib.hid (near_eq hz W)
      have CF := fun W => Lib.hid (far_eq hu ⟨n1, n2⟩ (by omega) W)
      have CG := fun W => Lib.hid (far_eq hv ⟨n1, n2⟩ ⟨o1, o2⟩ W)
      have C1 := fun W => Lib.hid (has_eq (hasB_t f1) W)
      have C3 := fun W => Lib.hid (has_eq hq W)
      have HQ : Hid (q = true → u ≤ v) := Lib.hid (fun e => by rw [e] at hq; unfold hasB at hq; have := of_decide_eq_true hq; rw [← hu, ← hv]; exact f3 o this.1 this.2)
      by_cases e : z = n
      · subst e
        clear f1 f2 f3 hs hz hu hv hq h0
        go_enter Try.func9, Try.ntmps9
        go_wp2_with (first
          | (go_at_call 27; (refine CA.out.mono ?_; rintro e w1 ⟨rfl, k1⟩; replace hb := bThen (bAl hb _) k1; have m := (At2.new _ _ _ _).then k1; have c0 := m.c0; have c1 := m.c1))
          | (go_at_call 10; (refine (CM _).out.mono ?_; rintro e w2 ⟨rfl, k2⟩; replace hb := bThen hb k2; replace m := m.then k2; have c0 := m.c0; have c1 := m.c1))
          | (go_at_call 15; (refine (CZ _).out.mono ?_; rintro e w2 ⟨rfl, k2⟩; replace hb := bThen hb k2; replace m := m.then k2; have c0 := m.c0; have c1 := m.c1))
          | (go_at_call 14; first | ((with_reducible refine (C1 _).out.mono ?_); rintro e w2 ⟨rfl, k2⟩; replace hb := bThen hb k2; replace m := m.then k2; have c0 := m.c0; have c1 := m.c1) | ((with_reducible refine (C3 _).out.mono ?_); rintro e w2 ⟨rfl, k2⟩; replace hb := bThen hb k2; replace m := m.then k2; have c0 := m.c0; have c1 := m.c1))
          | (go_at_call 28; first | ((with_reducible refine (CF _).out.mono ?_); rintro e w2 ⟨rfl, rfl⟩) | ((with_reducible refine (CG _).out.mono ?_); rintro e w2 ⟨rfl, rfl⟩)))
        all_goals
          go_ret
          exact ⟨by first | rfl | (have hq := HQ.out; cases q <;> simp_all), hb⟩
      · have e2 : ¬ (a ≤ n ∧ n ≤ b) := fun k => e (f2.2 k)
        have C2 := fun W => Lib.hid (has_eq (hasB_f e2) W)
        clear f1 f2 f3 hs hz hu hv hq h0 e2
        go_enter Try.func9, Try.ntmps9
        go_wp2_with (first
          | (go_at_call 27; (refine CA.out.mono ?_; rintro e w1 ⟨rfl, k1⟩; replace hb := bThen (bAl hb _) k1; have m := (At2.new _ _ _ _).then k1; have c0 := m.c0; have c1 := m.c1))
          | (go_at_call 10; (refine (CM _).out.mono ?_; rintro e w2 ⟨rfl, k2⟩; replace hb := bThen hb k2; replace m := m.then k2; have c0 := m.c0; have c1 := m.c1))
          | (go_at_call 15; (refine (CZ _).out.mono ?_; rintro e w2 ⟨rfl, k2⟩; replace hb := bThen hb k2; replace m := m.then k2; have c0 := m.c0; have c1 := m.c1))
          | (go_at_call 14; first | ((first | (with_reducible refine (C1 _).out.mono ?_) | (with_reducible refine (C2 _).out.mono ?_)); rintro e w2 ⟨rfl, k2⟩; replace hb := bThen hb k2; replace m := m.then k2; have c0 := m.c0; have c1 := m.c1) | ((with_reducible refine (C3 _).out.mono ?_); rintro e w2 ⟨rfl, k2⟩; replace hb := bThen hb k2; replace m := m.then k2; have c0 := m.c0; have c1 := m.c1))
          | (go_at_call 28; first | ((with_reducible refine (CF _).out.mono ?_); rintro e w2 ⟨rfl, rfl⟩) | ((with_reducible refine (CG _).out.mono ?_); rintro e w2 ⟨rfl, rfl⟩)))
        all_goals
          go_ret
          exact ⟨by first | rfl | (have hq := HQ.out; cases q <;> simp_all), hb⟩
    · have h2 : n < -1000000000000000 ∨ (¬ n < -1000000000000000 ∧ 1000000000000000 < n) ∨ (¬ n < -1000000000000000 ∧ ¬ 1000000000000000 < n ∧ o < -1000000000000000) ∨ (¬ n < -1000000000000000 ∧ ¬ 1000000000000000 < n ∧ ¬ o < -1000000000000000 ∧ 1000000000000000 < o) := by omega
      clear h1 h0
      rcases h2 with l1 | ⟨l1, l2⟩ | ⟨l1, l2, l3⟩ | ⟨l1, l2, l3, l4⟩
      all_goals
        go_enter Try.func9, Try.ntmps9
        go_wp2_with (first
          | (go_at_call 27; (refine CA.out.mono ?_; rintro e w1 ⟨rfl, k1⟩; replace hb := bThen (bAl hb _) k1; have m := (At2.new _ _ _ _).then k1; have c0 := m.c0; have c1 := m.c1))
          | (go_at_call 10; (refine (CM _).out.mono ?_; rintro e w2 ⟨rfl, k2⟩; replace hb := bThen hb k2; replace m := m.then k2; have c0 := m.c0; have c1 := m.c1)))
        all_goals
          go_ret
          exact ⟨rfl, hb⟩
  · obtain ⟨e0, he⟩ : ∃ e0, spanE a b = e0 := ⟨_, rfl⟩
    rw [he] at h0
    have CM := fun W => Lib.hid (spanMay_eq he W)
    clear he
    go_enter Try.func9, Try.ntmps9
    go_wp2_with (first
      | (go_at_call 27; (refine CA.out.mono ?_; rintro e w1 ⟨rfl, k1⟩; replace hb := bThen (bAl hb _) k1; have m := (At2.new _ _ _ _).then k1; have c0 := m.c0; have c1 := m.c1))
      | (go_at_call 10; (refine (CM _).out.mono ?_; rintro e w2 ⟨rfl, k2⟩; replace hb := bThen hb k2; replace m := m.then k2; have c0 := m.c0; have c1 := m.c1)))
    all_goals
      go_ret
      exact ⟨rfl, hb⟩
end Go.Proofs.Ytadbbpfnedbhcaa
