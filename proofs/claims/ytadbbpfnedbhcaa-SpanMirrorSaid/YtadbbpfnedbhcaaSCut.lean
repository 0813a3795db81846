/-
  PLAIN: where two dots stand in a text; the text of a span, cut there.
-/
import Derived.Test.YtadbbpfnedbhcaaFParse
import Derived.Lib.CutLaws
import Derived.Lib.IndexLaws
namespace Go.Proofs.Ytadbbpfnedbhcaa
open Go.RowKit FixMath
set_option maxRecDepth 100000
set_option linter.unusedVariables false
set_option linter.unusedSimpArgs false

abbrev dd : Bs := [46, 46]
theorem occ_iff {l : Bs} {i : Nat} : Lib.occAt l dd i = true ↔ l[i]? = some 46 ∧ l[i + 1]? = some 46 := by
  constructor
  · intro h
    exact ⟨Lib.occAt_head rfl h, Lib.occAt_second rfl h⟩
  · rintro ⟨h1, h2⟩
    obtain ⟨i1, e1⟩ := List.getElem?_eq_some_iff.1 h1
    obtain ⟨i2, e2⟩ := List.getElem?_eq_some_iff.1 h2
    unfold Lib.occAt
    rw [List.drop_eq_getElem_cons i1, List.drop_eq_getElem_cons i2, e1, e2]
    rfl
theorem occ_f {l : Bs} {i : Nat} (h : ¬ (l[i]? = some 46 ∧ l[i + 1]? = some 46)) : Lib.occAt l dd i = false := by
  cases e : Lib.occAt l dd i
  · rfl
  · exact absurd (occ_iff.1 e) h
theorem cut_hit {l : Bs} {i : Nat} (h : l[i]? = some 46 ∧ l[i + 1]? = some 46) (hn : ∀ j, j < i → ¬ (l[j]? = some 46 ∧ l[j + 1]? = some 46)) : Lib.cut l dd = (l.take i, l.drop (i + 2), true) := by
  have hi : i < l.length := (List.getElem?_eq_some_iff.1 h.1).1
  have e := Lib.index_first (Nat.le_of_lt hi) (occ_iff.2 h) (fun j hj => occ_f (hn j hj))
  unfold Lib.cut
  rw [e, if_pos (by omega)]
  simp
theorem cut_miss {l : Bs} (hn : ∀ j, j + 1 < l.length → ¬ (l[j]? = some 46 ∧ l[j + 1]? = some 46)) : Lib.cut l dd = (l, [], false) := by
  have e := Lib.index_none (s := l) (sub := dd) (fun j _ => occ_f (fun h => hn j (List.getElem?_eq_some_iff.1 h.2).1 h))
  unfold Lib.cut
  rw [e, if_neg (by omega)]
/-- Each dot is followed by something else. -/
def NoDD (A : Bs) : Prop := ∀ j : Nat, A[j]? = some 46 → ∃ c, A[j + 1]? = some c ∧ c ≠ 46
theorem noDD_of {X Y : Bs} (hX : ∀ c ∈ X, c ≠ 46) (hY : ∀ c ∈ Y, c ≠ 46) (h0 : Y ≠ []) : NoDD (X ++ 46 :: Y) := by
  intro j hj
  rcases Nat.lt_trichotomy j X.length with h | h | h
  · rw [List.getElem?_append_left h] at hj
    exact absurd rfl (hX _ (List.mem_of_getElem? hj))
  · subst h
    cases Y with
    | nil => exact absurd rfl h0
    | cons y r => exact ⟨y, by simp, hY y (by simp)⟩
  · rw [List.getElem?_append_right (by omega)] at hj
    obtain ⟨k, hk⟩ : ∃ k, j - X.length = k + 1 := ⟨j - X.length - 1, by omega⟩
    rw [hk, List.getElem?_cons_succ] at hj
    exact absurd rfl (hY _ (List.mem_of_getElem? hj))
theorem noDD_fix (n : Int) (d : Nat) : NoDD (fixText n d) := by
  have hX : ∀ c ∈ (if n < 0 then [45] else ([] : Bs)) ++ low (nd (n.natAbs / 10 ^ d)) (n.natAbs / 10 ^ d), c ≠ 46 := by
    intro c hc
    rcases List.mem_append.1 hc with h | h
    · split at h
      · simp at h; subst h; decide
      · cases h
    · exact (dig_ne_dot (low_dig _ _ c h)).1
  unfold fixText natText
  by_cases h0 : d = 0
  · subst h0
    rw [if_pos rfl, List.append_nil]
    intro j hj
    exact absurd rfl (hX _ (List.mem_of_getElem? hj))
  · rw [if_neg h0, ← List.append_assoc]
    refine noDD_of hX (fun c hc => (dig_ne_dot (low_dig _ _ c hc)).1) ?_
    intro e
    have := low_length d n.natAbs
    rw [e] at this
    exact h0 this.symm
theorem cut_text {A B : Bs} (h : NoDD A) : Lib.cut (A ++ [46, 46] ++ B) dd = (A, B, true) := by
  have e : A ++ [46, 46] ++ B = A ++ 46 :: 46 :: B := by simp
  rw [e, cut_hit (i := A.length) ⟨by simp, by simp⟩ ?_]
  · simp
  · rintro j hj ⟨h1, h2⟩
    rw [List.getElem?_append_left hj] at h1
    obtain ⟨c, hc, hne⟩ := h j h1
    have hl := (List.getElem?_eq_some_iff.1 hc).1
    rw [List.getElem?_append_left hl, hc] at h2
    exact hne (by simpa using h2)
theorem cut_join {l : Bs} (h : (Lib.cut l dd).2.2 = true) : (Lib.cut l dd).1 ++ [46, 46] ++ (Lib.cut l dd).2.1 = l := by
  rcases Lib.index_spec l dd with ⟨h1, _⟩ | ⟨i, h1, h2, h3, _⟩
  · unfold Lib.cut at h
    rw [h1] at h
    simp at h
  · obtain ⟨o1, o2⟩ := occ_iff.1 h3
    obtain ⟨i1, e1⟩ := List.getElem?_eq_some_iff.1 o1
    obtain ⟨i2, e2⟩ := List.getElem?_eq_some_iff.1 o2
    have e : Lib.cut l dd = (l.take i, l.drop (i + 2), true) := by
      unfold Lib.cut
      rw [h1, if_pos (by omega)]
      simp
    rw [e]
    show l.take i ++ [46, 46] ++ l.drop (i + 2) = l
    have h4 : l.drop i = 46 :: 46 :: l.drop (i + 2) := by rw [List.drop_eq_getElem_cons i1, List.drop_eq_getElem_cons i2, e1, e2]
    have := List.take_append_drop i l
    rw [h4] at this
    simpa using this
theorem cut_len (l : Bs) : (Lib.cut l dd).1.length ≤ l.length ∧ (Lib.cut l dd).2.1.length ≤ l.length := by
  unfold Lib.cut
  split <;> simp <;> omega
theorem not_text_nil (d : Nat) : ¬ isText [] d := by
  rintro ⟨_, n, _, _, h⟩
  obtain ⟨c, t, e, _⟩ := natText_head n.natAbs d
  unfold fixText at h
  rw [e] at h
  simp at h
theorem cut_none {l : Bs} (h : ¬ (Lib.cut l dd).2.2 = true) : (Lib.cut l dd).2.1 = [] := by
  unfold Lib.cut at h ⊢
  split at h
  · simp at h
  · rename_i k; rw [if_neg k]

/-- What a text is parsed to, cut into these two. -/
noncomputable def spParseV (x y : Bs) (d : Nat) : Value := by
  classical exact if isText x d ∧ isText y d then (if readZ y < readZ x then .tuple #[.agg #[.int .i64 0, .int .i64 0], .int .i64 30] else .tuple #[.agg #[.int .i64 (readZ x), .int .i64 (readZ y)], .int .i64 0]) else .tuple #[.agg #[.int .i64 0, .int .i64 0], .int .i64 20]
noncomputable def spParse (l : Bs) (d : Nat) : Value := spParseV (Lib.cut l dd).1 (Lib.cut l dd).2.1 d
end Go.Proofs.Ytadbbpfnedbhcaa
