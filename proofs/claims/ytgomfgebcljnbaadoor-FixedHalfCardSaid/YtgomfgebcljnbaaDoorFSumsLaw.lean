/-
  WALK: the law FixedSums.
-/
import Derived.Test.YtgomfgebcljnbaaDoorFVal
namespace Go.Proofs.YtgomfgebcljnbaaDoor
open Go.RowKit FixMath
set_option maxRecDepth 100000
set_option linter.unusedVariables false
set_option linter.unusedSimpArgs false

theorem addV_comm (a c : Int) : addV c a = addV a c := by
  unfold addV
  rw [Int.add_comm c a]
  by_cases h1 : mayB a = true <;> by_cases h2 : mayB c = true <;> simp [h1, h2]
theorem sum_cmp (a b c : Int) (D : Nat) (hD : D ≤ 6) : cmpZ (valZ (a + c) D) (valZ (b + c) D) = cmpZ (valZ a D) (valZ b D) := by
  have h1 := valZ_mul (a := a + c) (b := b + c) hD
  have h2 := valZ_mul (a := b + c) (b := a + c) hD
  have h3 := valZ_mul (a := a) (b := b) hD
  have h4 := valZ_mul (a := b) (b := a) hD
  unfold cmpZ
  by_cases k1 : a < b
  · rw [if_pos (h1.1 (by omega)), if_pos (h3.1 k1)]
  · rw [if_neg (fun h => k1 (by have := h1.2 h; omega)), if_neg (fun h => k1 (h3.2 h))]
    by_cases k2 : b < a
    · rw [if_pos (h2.1 (by omega)), if_pos (h4.1 k2)]
    · rw [if_neg (fun h => k2 (by have := h2.2 h; omega)), if_neg (fun h => k2 (h4.2 h))]

set_option maxHeartbeats 2000000 in
theorem sums_walk (a b c : Int) (d : Nat) (hd : d ≤ 255) (w : World) (hu : Units w) :
    Calls Tryd.prog 9 #[.int .i64 a, .int .i64 b, .int .i64 c, .int .u8 d] w fun e w' => e = .returned (.bool true) ∧ Below w.heap.size w w' := by
  have hb : Below w.heap.size w w := Below.refl _ _
  have CA := Lib.hid (awake_any w hu)
  have HU := Lib.hid hu
  obtain ⟨D, hD⟩ : ∃ D : Nat, D = d % 7 := ⟨_, rfl⟩
  have hD6 : D ≤ 6 := by omega
  have eD : (d : Int) % 7 = (D : Int) := by omega
  have C1 := fun W => Lib.hid (add_any a c W)
  have C3 := fun W => Lib.hid (add_any c a W)
  have C2 := fun W => Lib.hid (add_any b c W)
  rw [addV_comm] at C3
  clear hu hD
  by_cases hac : mayB a = true ∧ mayB c = true
  · obtain ⟨h1, h2⟩ := hac
    have b1 := mayB_out h1
    have b2 := mayB_out h2
    by_cases h3 : mayB (a + c) = true
    · have e1 : addV a c = .tuple #[.int .i64 (a + c), .int .i64 0] := by unfold addV; rw [if_pos ⟨h1, h2⟩, if_pos h3]
      rw [e1] at C1 C3
      clear e1
      by_cases h4 : mayB b = true ∧ mayB (b + c) = true
      · have e2 : addV b c = .tuple #[.int .i64 (b + c), .int .i64 0] := by unfold addV; rw [if_pos ⟨h4.1, h2⟩, if_pos h4.2]
        rw [e2] at C2
        obtain ⟨s, hs, s1, s2, CS⟩ := cmpC (a + c) D (b + c) D (countsB_t h3 hD6) (countsB_t h4.2 hD6)
        obtain ⟨t, ht, t1, t2, CT⟩ := cmpC a D b D (countsB_t h1 hD6) (countsB_t h4.1 hD6)
        rw [sum_cmp _ _ _ _ hD6, ← ht] at hs
        subst hs
        have CS' := fun W h => Lib.hid (CS W h)
        have CT' := fun W h => Lib.hid (CT W h)
        have b4 := mayB_out h4.1
        clear e2 CS CT ht h4
        go_enter Tryd.func9, Tryd.ntmps9
        go_wp2_with (first
          | (go_at_call 24; (refine CA.out.mono ?_; rintro e w1 ⟨rfl, h1⟩; replace hb := h1))
          | (go_at_call 22; (first | (with_reducible refine (C1 _).out.mono ?_) | (with_reducible refine (C2 _).out.mono ?_) | (with_reducible refine (C3 _).out.mono ?_)); rintro e w1 ⟨rfl, rfl⟩)
          | (go_at_call 14; (refine (may_any _ _).mono ?_; rintro e w1 ⟨rfl, rfl⟩))
          | (go_at_call 20; (first | (with_reducible refine (CS' _ (HU.out.below hb)).out.mono ?_) | (with_reducible refine (CT' _ (HU.out.below hb)).out.mono ?_)); rintro e w1 ⟨rfl, hr⟩; replace hb := hb.trans ((hr.below _).mono hb.size)))
        all_goals
          go_ret
          exact ⟨by simp, hb⟩
      · have e2 : ∃ f : Int, addV b c = .tuple #[.int .i64 0, .int .i64 f] ∧ 20 ≤ f := by
          unfold addV
          by_cases k : mayB b = true
          · rw [if_pos ⟨k, h2⟩, if_neg (fun h => h4 ⟨k, h⟩)]; exact ⟨30, rfl, by omega⟩
          · rw [if_neg (fun h => k h.1)]; exact ⟨20, rfl, by omega⟩
        obtain ⟨f, e2, hf⟩ := e2
        rw [e2] at C2
        have hf0 : ¬ f = 0 := by omega
        have hf1 : (f == 0) = false := by simp; omega
        clear e2 h4
        go_enter Tryd.func9, Tryd.ntmps9
        go_wp2_with (first
          | (go_at_call 24; (refine CA.out.mono ?_; rintro e w1 ⟨rfl, h1⟩; replace hb := h1))
          | (go_at_call 22; (first | (with_reducible refine (C1 _).out.mono ?_) | (with_reducible refine (C2 _).out.mono ?_) | (with_reducible refine (C3 _).out.mono ?_)); rintro e w1 ⟨rfl, rfl⟩)
          | (go_at_call 14; (refine (may_any _ _).mono ?_; rintro e w1 ⟨rfl, rfl⟩)))
        all_goals
          go_ret
          exact ⟨by simp, hb⟩
    · have e1 : addV a c = .tuple #[.int .i64 0, .int .i64 30] := by unfold addV; rw [if_pos ⟨h1, h2⟩, if_neg h3]
      obtain ⟨y, f, e2⟩ := addV_form b c
      rw [e1] at C1 C3
      rw [e2] at C2
      have h3 : mayB (a + c) = false := by simpa using h3
      clear e1 e2
      go_enter Tryd.func9, Tryd.ntmps9
      go_wp2_with (first
        | (go_at_call 24; (refine CA.out.mono ?_; rintro e w1 ⟨rfl, h1⟩; replace hb := h1))
        | (go_at_call 22; (first | (with_reducible refine (C1 _).out.mono ?_) | (with_reducible refine (C2 _).out.mono ?_) | (with_reducible refine (C3 _).out.mono ?_)); rintro e w1 ⟨rfl, rfl⟩)
        | (go_at_call 14; (refine (may_any _ _).mono ?_; rintro e w1 ⟨rfl, rfl⟩)))
      all_goals
        go_ret
        exact ⟨by simp, hb⟩
  · have e1 : addV a c = .tuple #[.int .i64 0, .int .i64 20] := by unfold addV; rw [if_neg hac]
    obtain ⟨y, f, e2⟩ := addV_form b c
    rw [e1] at C1 C3
    rw [e2] at C2
    have hf : mayB a = false ∨ (mayB a = true ∧ mayB c = false) := by
      cases e : mayB a
      · exact .inl rfl
      · exact .inr ⟨rfl, by simpa [e] using hac⟩
    clear e1 e2 hac
    rcases hf with f1 | ⟨f1, f2⟩
    all_goals
      go_enter Tryd.func9, Tryd.ntmps9
      go_wp2_with (first
        | (go_at_call 24; (refine CA.out.mono ?_; rintro e w1 ⟨rfl, h1⟩; replace hb := h1))
        | (go_at_call 22; (first | (with_reducible refine (C1 _).out.mono ?_) | (with_reducible refine (C2 _).out.mono ?_) | (with_reducible refine (C3 _).out.mono ?_)); rintro e w1 ⟨rfl, rfl⟩)
        | (go_at_call 14; (refine (may_any _ _).mono ?_; rintro e w1 ⟨rfl, rfl⟩)))
      all_goals
        go_ret
        exact ⟨by simp, hb⟩
end Go.Proofs.YtgomfgebcljnbaaDoor
