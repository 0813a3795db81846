/-
  JOINED AND SPLIT TEXTS are each other's undoing. No walk.
-/
import Derived.Test.YtnpifjplfipmcaaHText
namespace Go.Proofs.Ytnpifjplfipmcaa
open Go.RowKit
set_option linter.unusedVariables false
set_option linter.unusedSimpArgs false

theorem tail_cons (c : UInt8) (y : Bs) (r : List Bs) : Lib.joinTail [c] (y :: r) = c :: (y ++ Lib.joinTail [c] r) := by simp [Lib.joinTail]
theorem join_snoc' (c : UInt8) (l : List Bs) (x : Bs) (h : l ≠ []) : Lib.join (l ++ [x]) [c] = Lib.join l [c] ++ [c] ++ x := by
  cases l with
  | nil => exact absurd rfl h
  | cons y r =>
    rw [List.cons_append, Lib.join_cons, Lib.join_cons]
    simp [Lib.joinTail]
theorem join_last (c : UInt8) (l : List Bs) (x : Bs) (b : UInt8) : Lib.join (l ++ [x ++ [b]]) [c] = Lib.join (l ++ [x]) [c] ++ [b] := by
  by_cases h : l = []
  · subst h; simp [Lib.join_one]
  · rw [join_snoc' c l _ h, join_snoc' c l _ h]; simp

theorem cut_step (s : ByteArray) (f k : Nat) (hf : f ≤ k) (h : k < s.size) : cutL s f (k + 1) = cutL s f k ++ [s[k]'h] := by
  unfold cutL
  have hl : k - f < (s.data.toList.drop f).length := by simp; omega
  rw [show k + 1 - f = (k - f) + 1 by omega, List.take_succ_eq_append_getElem hl]
  congr 2
  rw [List.getElem_drop]
  have : f + (k - f) = k := by omega
  simp only [this]
  rfl

theorem split_join (s : ByteArray) (c : UInt8) : ∀ k, k ≤ s.size → Lib.join (ps s c.toNat k ++ [cutL s (fr s c.toNat k) k]) [c] = s.data.toList.take k
  | 0, _ => by simp [ps, fr, cutL, Lib.join_one]
  | k + 1, hk => by
    have hlt : k < s.size := by omega
    have ih := split_join s c k (by omega)
    have hl : k < s.data.toList.length := by simpa using hlt
    rw [List.take_succ_eq_append_getElem hl, ← ih]
    have hb := bt_get s k hlt
    by_cases e : (bt s k : Int) = (c.toNat : Int)
    · rw [ps_t e, fr_t e]
      have hc : s[k]'hlt = c := UInt8.toNat_inj.1 (by omega)
      have h0 : cutL s (k + 1) (k + 1) = [] := by simp [cutL]
      rw [h0, join_snoc' c _ _ (by simp), List.append_nil]
      congr 1
      exact congrArg (fun x => [x]) hc.symm
    · rw [ps_f e, fr_f e, cut_step s _ k (fr_le s _ k) hlt, join_last]
      rfl
theorem join_split (s : ByteArray) (c : UInt8) : Lib.join (splitL s c.toNat) [c] = s.data.toList := by
  have := split_join s c s.size (Nat.le_refl _)
  rw [List.take_of_length_le (by simp)] at this
  exact this

/-- No piece holds the mark. -/
theorem split_none (s : ByteArray) (c : UInt8) : ∀ k, k ≤ s.size → ∀ x ∈ ps s c.toNat k ++ [cutL s (fr s c.toNat k) k], c ∉ x
  | 0, _ => by simp [ps, fr, cutL]
  | k + 1, hk => by
    have hlt : k < s.size := by omega
    have ih := split_none s c k (by omega)
    have hb := bt_get s k hlt
    by_cases e : (bt s k : Int) = (c.toNat : Int)
    · rw [ps_t e, fr_t e]
      intro x hx
      rcases List.mem_append.1 hx with h | h
      · exact ih x h
      · rw [List.mem_singleton.1 h]; simp [cutL]
    · rw [ps_f e, fr_f e, cut_step s _ k (fr_le s _ k) hlt]
      intro x hx
      rcases List.mem_append.1 hx with h | h
      · exact ih x (List.mem_append.2 (.inl h))
      · rw [List.mem_singleton.1 h]
        intro hc
        rcases List.mem_append.1 hc with h1 | h1
        · exact ih _ (List.mem_append.2 (.inr (by simp))) h1
        · have := List.mem_singleton.1 h1
          exact e (by rw [← hb, ← this])

theorem head_eq (c : UInt8) : ∀ (x y T U : Bs), c ∉ x → c ∉ y → (T = [] ∨ ∃ T', T = c :: T') → (U = [] ∨ ∃ U', U = c :: U') → x ++ T = y ++ U → x = y ∧ T = U
  | [], [], T, U, _, _, _, _, h => ⟨rfl, by simpa using h⟩
  | [], b :: y, T, U, _, hy, hT, _, h => by
    rw [List.nil_append, List.cons_append] at h
    rcases hT with rfl | ⟨T', rfl⟩
    · cases h
    · injection h with h1 _
      exact absurd (by rw [h1]; simp) hy
  | a :: x, [], T, U, hx, _, _, hU, h => by
    rw [List.nil_append, List.cons_append] at h
    rcases hU with rfl | ⟨U', rfl⟩
    · cases h
    · injection h with h1 _
      exact absurd (by rw [← h1]; simp) hx
  | a :: x, b :: y, T, U, hx, hy, hT, hU, h => by
    rw [List.cons_append, List.cons_append] at h
    injection h with h1 h2
    obtain ⟨e1, e2⟩ := head_eq c x y T U (fun k => hx (List.mem_cons_of_mem _ k)) (fun k => hy (List.mem_cons_of_mem _ k)) hT hU h2
    exact ⟨by rw [h1, e1], e2⟩
theorem tail_form (c : UInt8) (r : List Bs) : Lib.joinTail [c] r = [] ∨ ∃ T', Lib.joinTail [c] r = c :: T' := by
  cases r with
  | nil => exact .inl rfl
  | cons y r => exact .inr ⟨_, tail_cons c y r⟩
theorem tail_inj (c : UInt8) : ∀ (r q : List Bs), (∀ x ∈ r, c ∉ x) → (∀ x ∈ q, c ∉ x) → Lib.joinTail [c] r = Lib.joinTail [c] q → r = q
  | [], [], _, _, _ => rfl
  | [], z :: q, _, _, h => by rw [tail_cons] at h; cases h
  | y :: r, [], _, _, h => by rw [tail_cons] at h; cases h
  | y :: r, z :: q, h1, h2, h => by
    rw [tail_cons, tail_cons] at h
    injection h with _ h
    obtain ⟨e1, e2⟩ := head_eq c y z _ _ (h1 y (by simp)) (h2 z (by simp)) (tail_form c r) (tail_form c q) h
    rw [e1, tail_inj c r q (fun x hx => h1 x (List.mem_cons_of_mem _ hx)) (fun x hx => h2 x (List.mem_cons_of_mem _ hx)) e2]
theorem join_inj (c : UInt8) {l m : List Bs} (hl : l ≠ []) (hm : m ≠ []) (h1 : ∀ x ∈ l, c ∉ x) (h2 : ∀ x ∈ m, c ∉ x) (h : Lib.join l [c] = Lib.join m [c]) : l = m := by
  cases l with
  | nil => exact absurd rfl hl
  | cons y r =>
    cases m with
    | nil => exact absurd rfl hm
    | cons z q =>
      rw [Lib.join_cons, Lib.join_cons] at h
      obtain ⟨e1, e2⟩ := head_eq c y z _ _ (h1 y (by simp)) (h2 z (by simp)) (tail_form c r) (tail_form c q) h
      rw [e1, tail_inj c r q (fun x hx => h1 x (List.mem_cons_of_mem _ hx)) (fun x hx => h2 x (List.mem_cons_of_mem _ hx)) e2]

/-- What is split from a joined list is the list. -/
theorem split_of_join (c : UInt8) {l : List Bs} (hl : l ≠ []) (h1 : ∀ x ∈ l, c ∉ x) : splitL ⟨(Lib.join l [c]).toArray⟩ c.toNat = l := by
  refine join_inj c (by simp [splitL]) hl (split_none _ c _ (Nat.le_refl _)) h1 ?_
  rw [join_split]

/-- A handle's signs. -/
theorem mayS_signs {x : Bs} (h : mayS x = true) : ∀ b ∈ x, latI (b.toNat : Int) = true := by
  intro b hb
  obtain ⟨k, hk, rfl⟩ := List.getElem_of_mem hb
  have := (mayB_iff.1 h).2.2.2.1 k hk
  rw [← bt_get (⟨x.toArray⟩ : ByteArray) k hk] at this
  exact this
theorem mayS_no32 {x : Bs} (h : mayS x = true) : (32 : UInt8) ∉ x := fun hb => by
  have := latI_t.1 (mayS_signs h _ hb)
  revert this
  decide
theorem mayS_head {x : Bs} (h : mayS x = true) : ∃ b r, x = b :: r ∧ ltrI (b.toNat : Int) = true := by
  have h0 := (mayB_iff.1 h).1
  have h1 := (mayB_iff.1 h).2.2.1
  cases x with
  | nil => exact absurd h0 (by decide)
  | cons b r =>
    refine ⟨b, r, rfl, ?_⟩
    rw [← bt_get (⟨(b :: r).toArray⟩ : ByteArray) 0 h0] at h1
    exact h1
theorem text_nodash {l : List Bs} (hl : l ≠ []) (h : ∀ x ∈ l, mayS x = true) : Lib.join l [32] ≠ [45] := by
  cases l with
  | nil => exact absurd rfl hl
  | cons x r =>
    obtain ⟨b, q, rfl, hb⟩ := mayS_head (h x (by simp))
    rw [Lib.join_cons, List.cons_append]
    intro e
    injection e with e1 _
    rw [e1] at hb
    revert hb
    decide
/-- What Parse makes of a list's text. -/
theorem split_text {l : List Bs} (hl : l ≠ []) (h : ∀ x ∈ l, mayS x = true) : splitL ⟨(Lib.join l [32]).toArray⟩ 32 = l := split_of_join 32 hl fun x hx => mayS_no32 (h x hx)
end Go.Proofs.Ytnpifjplfipmcaa
