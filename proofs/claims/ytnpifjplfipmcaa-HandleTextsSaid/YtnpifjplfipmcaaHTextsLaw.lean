/-
  THE LAW HandleTexts: its walk.
-/
import Derived.Test.YtnpifjplfipmcaaHSortedLaw
namespace Go.Proofs.Ytnpifjplfipmcaa
open Go.RowKit
set_option maxRecDepth 100000
set_option linter.unusedVariables false
set_option linter.unusedSimpArgs false

theorem textR_cases (l : List Bs) : ∃ X : ByteArray, textR l = .tuple #[.string X, .int .i64 0] ∨ textR l = .tuple #[.string X, .int .i64 10] := by
  by_cases h : okT l = true
  · exact ⟨_, .inl (textR_t h rfl)⟩
  · exact ⟨_, .inr (textR_f (by simpa using h))⟩
theorem same_own {xs : List Bs} (hn : xs.length ≤ 1000000000) : ∀ A c A2 c2 W, Strs W W.heap.size A xs → Strs W W.heap.size A2 xs → Calls Try.prog 14 #[.slice A xs.length c, .slice A2 xs.length c2] W fun e w' => e = .returned (.bool true) ∧ Dr W w' := fun A c A2 c2 W hs hs2 => by
  have := same_any A A2 c c2 xs xs W _ hs hs2 (by unfold maxLen; omega) (by unfold maxLen; omega)
  rw [sameB_t rfl] at this
  exact this

/-- How Parse and the document's Parse end, on one text: alike. -/
theorem parse_pair (s : ByteArray) (hs : s.size ≤ 1000000) :
    (∃ k : Int, (k = 0 ∨ k = 10) ∧ (∀ W, Calls Try.prog 29 #[.string s] W fun e w' => e = .returned (.tuple #[.slice none 0 0, .int .i64 k]) ∧ Below W.heap.size W w') ∧
      (∀ W, Calls Try.prog 30 #[.string s] W fun e w' => e = .returned (.tuple #[.slice none 0 0, .int .i64 k]) ∧ Below W.heap.size W w')) ∨
    (∃ l : List Bs, l.length ≤ 1000001 ∧ (∀ W, Calls Try.prog 29 #[.string s] W (PR W l)) ∧ (∀ W, Calls Try.prog 30 #[.string s] W (PR W l))) := by
  by_cases hd : s.data.toList = [45]
  · exact .inl ⟨0, .inl rfl, fun W => parse_dash s W hd, fun W => (refParse_dash s W hd).mono fun e w' ⟨he, hw⟩ => ⟨he, by rw [← hw]; exact Below.refl _ _⟩⟩
  · by_cases ho : okT (splitL s 32) = true
    · exact .inr ⟨_, by have := splitL_le s 32; omega, fun W => parse_ok s W hs hd ho, fun W => refParse_ok s W hs hd ho⟩
    · have ho : okT (splitL s 32) = false := by simpa using ho
      exact .inl ⟨10, .inr rfl, fun W => parse_bad s W hs hd ho, fun W => refParse_bad s W hs hd ho⟩

set_option maxHeartbeats 2000000 in
theorem texts_walk (l : List Bs) (A : Option Addr) (c : Nat) (s : ByteArray) (w : World) (Sl : Strs w w.heap.size A l) (hn : l.length ≤ maxLen) (he : ∀ x ∈ l, x.length ≤ maxLen) (hc : l.length ≤ c) (hs : s.size ≤ maxLen) :
    Calls Try.prog 5 #[.slice A l.length c, .string s] w fun e w' => e = .returned (.bool true) ∧ Below w.heap.size w w' := by
  have LA := Lib.hid (long_any A c l _ w Sl hn he)
  by_cases h1 : longB l = true
  · rw [h1] at LA
    clear h1 he hn
    go_enter Try.func5, Try.ntmps5
    go_wp2_with (go_at_call 17; refine LA.out.mono ?_; rintro e w1 ⟨rfl, rfl⟩)
    go_ret
    exact ⟨rfl, Below.refl _ _⟩
  · have h1 : longB l = false := by simpa using h1
    rw [h1] at LA
    unfold maxLen at hs
    by_cases h2 : 2000 < s.size
    · clear h1 he hn
      go_enter Try.func5, Try.ntmps5
      go_wp2_with (go_at_call 17; refine LA.out.mono ?_; rintro e w1 ⟨rfl, rfl⟩)
      go_ret
      exact ⟨rfl, Below.refl _ _⟩
    · have h3 : s.size ≤ 2000 := by omega
      have hl := (longB_out h1).1
      have CT := fun W (h : Strs W W.heap.size A l) => Lib.hid (text_any A c l W h hc (by omega) he)
      have CR := fun W (h : Strs W W.heap.size A l) => Lib.hid (refText_any A c l W h (by omega) he)
      have hpp := parse_pair s (by omega)
      obtain ⟨X, hX⟩ := textR_cases l
      clear h1 h2 he hn hl
      rcases hX with hX | hX <;> rw [hX] at CT CR <;> clear hX
      all_goals
        have HT := Lib.hid CT
        have HR := Lib.hid CR
        clear CT CR
        rcases hpp with ⟨k, hk, p1, p2⟩ | ⟨m, hm, p1, p2⟩
        · have P1 := Lib.hid p1
          have P2 := Lib.hid p2
          clear p1 p2
          rcases hk with rfl | rfl
          all_goals
            go_enter Try.func5, Try.ntmps5
            go_wp2_with (first | (go_at_call 17; refine LA.out.mono ?_; rintro e w1 ⟨rfl, rfl⟩) | (go_at_call 27; refine (HT.out _ Sl).out.mono ?_; rintro e w2 ⟨rfl, hb⟩) | (go_at_call 28; refine (HR.out _ ((Sl.below hb).more hb.size)).out.mono ?_; rintro e w' ⟨rfl, rfl⟩) | (go_at_call 29; refine (P1.out _).mono ?_; rintro e w3 ⟨rfl, b3⟩) | (go_at_call 30; refine (P2.out _).mono ?_; rintro e w4 ⟨rfl, b4⟩) | (go_at_call 14; refine (same_nil _).mono ?_; rintro e w5 ⟨rfl, d5⟩))
            go_ret
            exact ⟨rfl, hb.trans ((b3.mono hb.size).trans ((b4.mono (Nat.le_trans hb.size b3.size)).trans (d5.below _)))⟩
        · have P1 := Lib.hid p1
          have P2 := Lib.hid p2
          have CS := Lib.hid (same_own (xs := m) (by omega))
          clear p1 p2
          go_enter Try.func5, Try.ntmps5
          go_wp2_with (first | (go_at_call 17; refine LA.out.mono ?_; rintro e w1 ⟨rfl, rfl⟩) | (go_at_call 27; refine (HT.out _ Sl).out.mono ?_; rintro e w2 ⟨rfl, hb⟩) | (go_at_call 28; refine (HR.out _ ((Sl.below hb).more hb.size)).out.mono ?_; rintro e w' ⟨rfl, rfl⟩) | (go_at_call 29; refine (P1.out _).mono ?_; rintro e w3 ⟨v3, rfl, o3, b3⟩; obtain ⟨A3, c3, rfl, s3, _, _⟩ := o3.form) | (go_at_call 30; refine (P2.out _).mono ?_; rintro e w4 ⟨v4, rfl, o4, b4⟩; obtain ⟨A4, c4, rfl, s4, _, _⟩ := o4.form) | (go_at_call 14; refine (CS.out _ _ _ _ _ ((s3.below b4).more b4.size) s4).mono ?_; rintro e w5 ⟨rfl, d5⟩))
          go_ret
          exact ⟨rfl, hb.trans ((b3.mono hb.size).trans ((b4.mono (Nat.le_trans hb.size b3.size)).trans (d5.below _)))⟩
end Go.Proofs.Ytnpifjplfipmcaa
