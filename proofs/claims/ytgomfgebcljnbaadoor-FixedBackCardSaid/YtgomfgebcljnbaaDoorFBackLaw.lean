/-
  WALK: the law FixedBack.
-/
import Derived.Test.YtgomfgebcljnbaaDoorFAwake
namespace Go.Proofs.YtgomfgebcljnbaaDoor
open Go.RowKit FixMath
set_option maxRecDepth 100000
set_option linter.unusedVariables false
set_option linter.unusedSimpArgs false

theorem parseB (n : Int) (d : Nat) (h : countsB n d = true) (t : ByteArray) (ht : t.data.toList = fixText n d) (w : World) :
    Calls Tryd.prog 12 #[.string t, .int .u8 d] w fun e w' => e = .returned (.tuple #[.int .i64 n, .int .i64 0]) ∧ Below w.heap.size w w' := by
  obtain ⟨h1, h2, h3⟩ := countsB_out h
  have hz : readZ t.data.toList = n := by rw [ht, readZ_fixText]
  have hlen := fixText_length_le n d h1 h2 h3
  have hs : t.size ≤ 18 := by rw [← ht] at hlen; simpa using hlen
  have := parse_any t d w (by unfold maxLen; omega)
  rw [parseV_t (isText_iff.2 ⟨by rw [hz]; exact h, by rw [hz, ht]⟩), hz] at this
  exact this

set_option maxHeartbeats 2000000 in
theorem back_walk (n : Int) (d : Nat) (s : ByteArray) (w : World) (hu : Units w) (hs : s.size ≤ maxLen) :
    Calls Tryd.prog 6 #[.int .i64 n, .int .u8 d, .string s] w fun e w' => e = .returned (.bool true) ∧ Below w.heap.size w w' := by
  have CA := Lib.hid (awake_any w hu)
  have hb : Below w.heap.size w w := Below.refl _ _
  by_cases h200 : 200 < s.size
  · unfold maxLen at hs
    clear hu
    go_enter Tryd.func6, Tryd.ntmps6
    go_wp2_with (go_at_call 24; (refine CA.out.mono ?_; rintro e w1 ⟨rfl, h1⟩))
    go_ret
    exact ⟨rfl, h1⟩
  · have CP := fun W => Lib.hid (parse_any s d W hs)
    unfold maxLen at hs
    clear hu
    -- what the given text is
    have hp : (∃ m u, countsB m d = true ∧ mayB m = true ∧ parseV s.data.toList d = .tuple #[.int .i64 m, .int .i64 0] ∧ u = s ∧ ∀ W, Calls Tryd.prog 10 #[.int .i64 m, .int .u8 d] W fun e w' => e = .returned (.tuple #[.string u, .int .i64 0]) ∧ Below W.heap.size W w') ∨ parseV s.data.toList d = .tuple #[.int .i64 0, .int .i64 20] := by
      by_cases ht : isText s.data.toList d
      · obtain ⟨k1, k2⟩ := isText_iff.1 ht
        obtain ⟨u, hu, hT⟩ := textB _ _ k1
        have k3 := countsB_out k1
        exact .inl ⟨_, u, k1, by simp [mayB]; omega, parseV_t ht, bytes_ext (by rw [hu, k2]), hT⟩
      · exact .inr (parseV_f ht)
    by_cases hc : countsB n d = true
    · obtain ⟨t, ht, hT⟩ := textB n d hc
      have CT := fun W => Lib.hid (hT W)
      have CB := fun W => Lib.hid (parseB n d hc t ht W)
      obtain ⟨c1, c2, c3⟩ := countsB_out hc
      have hm : mayB n = true := by simp [mayB]; omega
      clear hT ht c1 c2 hc
      rcases hp with ⟨m, u, m1, m2, hP, rfl, hU⟩ | hP
      · have CU := fun W => Lib.hid (hU W)
        rw [hP] at CP
        clear hU hP m1
        go_enter Tryd.func6, Tryd.ntmps6
        go_wp2_with (first
          | (go_at_call 24; (refine CA.out.mono ?_; rintro e w1 ⟨rfl, h1⟩; replace hb := h1))
          | (go_at_call 10; (first | (with_reducible refine (CT _).out.mono ?_) | (with_reducible refine (CU _).out.mono ?_)); rintro e w1 ⟨rfl, h1⟩; replace hb := hb.trans (h1.mono hb.size))
          | (go_at_call 12; (first | (with_reducible refine (CB _).out.mono ?_) | (with_reducible refine (CP _).out.mono ?_)); rintro e w1 ⟨rfl, h1⟩; replace hb := hb.trans (h1.mono hb.size))
          | (go_at_call 14; (refine (may_any _ _).mono ?_; rintro e w1 ⟨rfl, rfl⟩)))
        all_goals
          go_ret
          exact ⟨by simp, hb⟩
      · rw [hP] at CP
        clear hP
        go_enter Tryd.func6, Tryd.ntmps6
        go_wp2_with (first
          | (go_at_call 24; (refine CA.out.mono ?_; rintro e w1 ⟨rfl, h1⟩; replace hb := h1))
          | (go_at_call 10; (first | (with_reducible refine (CT _).out.mono ?_)); rintro e w1 ⟨rfl, h1⟩; replace hb := hb.trans (h1.mono hb.size))
          | (go_at_call 12; (first | (with_reducible refine (CB _).out.mono ?_) | (with_reducible refine (CP _).out.mono ?_)); rintro e w1 ⟨rfl, h1⟩; replace hb := hb.trans (h1.mono hb.size))
          | (go_at_call 14; (refine (may_any _ _).mono ?_; rintro e w1 ⟨rfl, rfl⟩)))
        all_goals
          go_ret
          exact ⟨by simp, hb⟩
    · have CT := fun W => Lib.hid (textB_f n d hc W)
      have hf : mayB n = false ∨ (mayB n = true ∧ 6 < d) := by
        cases e : mayB n
        · exact .inl rfl
        · exact .inr ⟨rfl, by simp [countsB, e] at hc; omega⟩
      clear hc
      rcases hp with ⟨m, u, m1, m2, hP, rfl, hU⟩ | hP
      · have CU := fun W => Lib.hid (hU W)
        rw [hP] at CP
        clear hU hP m1
        rcases hf with f1 | ⟨f1, f2⟩
        all_goals
          go_enter Tryd.func6, Tryd.ntmps6
          go_wp2_with (first
            | (go_at_call 24; (refine CA.out.mono ?_; rintro e w1 ⟨rfl, h1⟩; replace hb := h1))
            | (go_at_call 10; (first | (with_reducible refine (CT _).out.mono ?_) | (with_reducible refine (CU _).out.mono ?_)); rintro e w1 ⟨rfl, h1⟩; replace hb := hb.trans (h1.mono hb.size))
            | (go_at_call 12; (first | (with_reducible refine (CP _).out.mono ?_)); rintro e w1 ⟨rfl, h1⟩; replace hb := hb.trans (h1.mono hb.size))
            | (go_at_call 14; (refine (may_any _ _).mono ?_; rintro e w1 ⟨rfl, rfl⟩)))
          all_goals
            go_ret
            exact ⟨by simp, hb⟩
      · rw [hP] at CP
        clear hP
        rcases hf with f1 | ⟨f1, f2⟩
        all_goals
          go_enter Tryd.func6, Tryd.ntmps6
          go_wp2_with (first
            | (go_at_call 24; (refine CA.out.mono ?_; rintro e w1 ⟨rfl, h1⟩; replace hb := h1))
            | (go_at_call 10; (first | (with_reducible refine (CT _).out.mono ?_)); rintro e w1 ⟨rfl, h1⟩; replace hb := hb.trans (h1.mono hb.size))
            | (go_at_call 12; (first | (with_reducible refine (CP _).out.mono ?_)); rintro e w1 ⟨rfl, h1⟩; replace hb := hb.trans (h1.mono hb.size))
            | (go_at_call 14; (refine (may_any _ _).mono ?_; rintro e w1 ⟨rfl, rfl⟩)))
          all_goals
            go_ret
            exact ⟨by simp, hb⟩
end Go.Proofs.YtgomfgebcljnbaaDoor
