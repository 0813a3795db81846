/-
  THE LAW HandleOrder: its walk.
-/
import Derived.Test.YtnpifjplfipmcaaHAwake
namespace Go.Proofs.Ytnpifjplfipmcaa
open Go.RowKit
set_option maxRecDepth 100000
set_option linter.unusedVariables false
set_option linter.unusedSimpArgs false

def cmpS (a b : ByteArray) : Int := Lib.compareBytes a.data.toList b.data.toList
theorem cmpS_any (a b : ByteArray) (w : World) : Calls Try.prog 12 #[.string a, .string b] w fun e w' => e = .returned (.int .i64 (cmpS a b)) ∧ w = w' := compare_any a b w
theorem bytes_eq {a b : ByteArray} (h : a.data.toList = b.data.toList) : a = b := ByteArray.ext (Array.ext' h)
theorem beq_false {a b : ByteArray} (h : a ≠ b) : (a.toList == b.toList) = false := by
  rw [beq_eq_false_iff_ne, ByteArray.toList_eq, ByteArray.toList_eq]
  exact fun e => h (bytes_eq e)
/-- What the order of three texts may be. -/
theorem cmp_three (a b c : ByteArray) :
    (a = b ∧ cmpS a b = 0 ∧ cmpS b a = 0 ∧ cmpS a c = cmpS b c) ∨
    (a ≠ b ∧ cmpS a b = -1 ∧ cmpS b a = 1 ∧ ((cmpS b c = 1 ∧ (cmpS a c = -1 ∨ cmpS a c = 0 ∨ cmpS a c = 1)) ∨ ((cmpS b c = 0 ∨ cmpS b c = -1) ∧ cmpS a c = -1))) ∨
    (a ≠ b ∧ cmpS a b = 1 ∧ cmpS b a = -1) := by
  unfold cmpS
  rcases cmp_cases a.data.toList b.data.toList with ⟨h, l⟩ | ⟨h, l⟩ | ⟨h, l⟩
  · refine .inr (.inl ⟨fun e => by subst e; exact lt_irrefl _ l, h, cmp_gt.2 l, ?_⟩)
    rcases cmp_cases b.data.toList c.data.toList with ⟨h2, l2⟩ | ⟨h2, l2⟩ | ⟨h2, l2⟩
    · exact .inr ⟨.inr h2, cmp_lt.2 (lt_trans l l2)⟩
    · exact .inr ⟨.inl h2, by rw [← l2]; exact h⟩
    · refine .inl ⟨h2, ?_⟩
      rcases cmp_cases a.data.toList c.data.toList with ⟨h3, _⟩ | ⟨h3, _⟩ | ⟨h3, _⟩
      · exact .inl h3
      · exact .inr (.inl h3)
      · exact .inr (.inr h3)
  · have e := bytes_eq l
    subst e
    exact .inl ⟨rfl, h, h, rfl⟩
  · exact .inr (.inr ⟨fun e => by subst e; exact lt_irrefl _ l, h, cmp_lt.2 l⟩)
theorem cmp_vals (a b : ByteArray) : cmpS a b = -1 ∨ cmpS a b = 0 ∨ cmpS a b = 1 := by
  unfold cmpS
  rcases cmp_cases a.data.toList b.data.toList with ⟨h, _⟩ | ⟨h, _⟩ | ⟨h, _⟩
  · exact .inl h
  · exact .inr (.inl h)
  · exact .inr (.inr h)
theorem cmp_pre : ∀ (a b c : Bs), Lib.compareBytes (a ++ b) (a ++ c) = Lib.compareBytes b c
  | [], b, c => rfl
  | x :: a, b, c => by
    rw [List.cons_append, List.cons_append, Lib.compareBytes, if_neg (UInt8.lt_irrefl x), if_neg (UInt8.lt_irrefl x)]
    exact cmp_pre a b c
theorem cmpS_more (a : ByteArray) (x : ByteArray) (h : x.data.toList = [45]) : cmpS a (a ++ x) = -1 := by
  unfold cmpS
  rw [ByteArray.data_append, Array.toList_append, h]
  have := cmp_pre a.data.toList [] [45]
  rw [List.append_nil] at this
  rw [this]
  rfl
theorem cmpS_both (a b c : ByteArray) : cmpS (a ++ b) (a ++ c) = cmpS b c := by
  unfold cmpS
  rw [ByteArray.data_append, ByteArray.data_append, Array.toList_append, Array.toList_append, cmp_pre]

set_option maxHeartbeats 4000000 in
theorem order_walk (a b c : ByteArray) (w0 : a.size ≤ maxLen) (w1 : b.size ≤ maxLen) (w2 : c.size ≤ maxLen) (w : World) :
    Calls Try.prog 7 #[.string a, .string b, .string c] w fun e w' => e = .returned (.bool true) ∧ Below w.heap.size w w' := by
  unfold maxLen at w0 w1 w2
  by_cases hl : 100 < a.size ∨ 100 < b.size ∨ 100 < c.size
  · by_cases h1 : 100 < a.size
    · clear hl
      go_enter Try.func7, Try.ntmps7
      go_wp2_with (go_at_call 31; refine (awake_any _).mono ?_; rintro e wa ⟨rfl, hb⟩)
      go_ret
      exact ⟨rfl, hb⟩
    · by_cases h2 : 100 < b.size
      · clear hl
        go_enter Try.func7, Try.ntmps7
        go_wp2_with (go_at_call 31; refine (awake_any _).mono ?_; rintro e wa ⟨rfl, hb⟩)
        go_ret
        exact ⟨rfl, hb⟩
      · have h3 : 100 < c.size := by omega
        clear hl
        go_enter Try.func7, Try.ntmps7
        go_wp2_with (go_at_call 31; refine (awake_any _).mono ?_; rintro e wa ⟨rfl, hb⟩)
        go_ret
        exact ⟨rfl, hb⟩
  · have h1 : a.size ≤ 100 := by omega
    have h2 : b.size ≤ 100 := by omega
    have h3 : c.size ≤ 100 := by omega
    have hm := cmpS_more a ⟨#[45]⟩ rfl
    have hbb := cmpS_both a b c
    clear hl w0 w1 w2
    rcases cmp_three a b c with ⟨rfl, x1, x2, x3⟩ | ⟨hne, x1, x2, hx⟩ | ⟨hne, x1, x2⟩
    · rcases cmp_vals a c with y | y | y <;> rw [y] at x3 hbb <;> clear x3
      all_goals
        go_enter Try.func7, Try.ntmps7
        go_wp2_with (first | (go_at_call 31; refine (awake_any _).mono ?_; rintro e wa ⟨rfl, hb⟩) | (go_at_call 12; refine (cmpS_any _ _ _).mono ?_; rintro e w' ⟨rfl, rfl⟩))
        go_ret
        exact ⟨rfl, hb⟩
    · have he := beq_false hne
      clear hne
      rcases hx with ⟨y, z | z | z⟩ | ⟨y | y, z⟩ <;> rw [y] at hbb
      all_goals
        go_enter Try.func7, Try.ntmps7
        go_wp2_with (first | (go_at_call 31; refine (awake_any _).mono ?_; rintro e wa ⟨rfl, hb⟩) | (go_at_call 12; refine (cmpS_any _ _ _).mono ?_; rintro e w' ⟨rfl, rfl⟩))
        go_ret
        exact ⟨rfl, hb⟩
    · have he := beq_false hne
      clear hne
      rcases cmp_vals b c with y | y | y <;> rw [y] at hbb
      all_goals
        go_enter Try.func7, Try.ntmps7
        go_wp2_with (first | (go_at_call 31; refine (awake_any _).mono ?_; rintro e wa ⟨rfl, hb⟩) | (go_at_call 12; refine (cmpS_any _ _ _).mono ?_; rintro e w' ⟨rfl, rfl⟩))
        go_ret
        exact ⟨rfl, hb⟩
end Go.Proofs.Ytnpifjplfipmcaa
