/-
  THE PARTS OF A HANDLE: none is empty; each that begins with a letter is a handle; two handles with a dot between. No walk.
-/
import Derived.Test.YtnpifjplfipmcaaHJoin
namespace Go.Proofs.Ytnpifjplfipmcaa
open Go.RowKit
set_option linter.unusedVariables false
set_option linter.unusedSimpArgs false

theorem fr_same {s : ByteArray} {c : Int} {k : Nat} (h : fr s c k = k) : k = 0 ∨ (bt s (k - 1) : Int) = c := by
  cases k with
  | zero => exact .inl rfl
  | succ k =>
    by_cases e : (bt s k : Int) = c
    · exact .inr e
    · rw [fr_f e] at h
      have := fr_le s c k
      omega
theorem cut_len (s : ByteArray) (a b : Nat) (h : b ≤ s.size) : (cutL s a b).length = b - a := by
  unfold cutL
  rw [List.length_take, List.length_drop]
  have : s.data.toList.length = s.size := by simp
  omega
theorem ltr46 (s : ByteArray) (h : ltrI (bt s 0) = true) : bt s 0 ≠ 46 := fun e => by rw [e] at h; revert h; decide

/-- No part of a handle is empty. -/
theorem parts_ne {s : ByteArray} (h : MayP s) : ∀ k, k ≤ s.size → ∀ x ∈ ps s 46 k, x ≠ []
  | 0, _ => by simp [ps]
  | k + 1, hk => by
    obtain ⟨h1, h2, h3, h4, h5, h6⟩ := h
    have ih := parts_ne (s := s) ⟨h1, h2, h3, h4, h5, h6⟩ k (by omega)
    by_cases e : (bt s k : Int) = 46
    · rw [ps_t e]
      intro x hx
      rcases List.mem_append.1 hx with q | q
      · exact ih x q
      · rw [List.mem_singleton.1 q]
        intro hc
        have hl : (cutL s (fr s 46 k) k).length = 0 := by rw [hc]; rfl
        rw [cut_len s _ k (by omega)] at hl
        have hf := fr_le s 46 k
        rcases fr_same (s := s) (c := 46) (k := k) (by omega) with r | r
        · subst r; exact ltr46 s h3 (by omega)
        · by_cases k0 : k = 0
          · subst k0; exact ltr46 s h3 (by omega)
          · exact h5 (k - 1) (by omega) ⟨by omega, by rw [show k - 1 + 1 = k by omega]; omega⟩
    · rw [ps_f e]; exact ih
theorem part_ne {s : ByteArray} (h : MayP s) : ∀ x ∈ splitL s 46, x ≠ [] := by
  intro x hx
  rcases List.mem_append.1 hx with q | q
  · exact parts_ne h _ (Nat.le_refl _) x q
  · rw [List.mem_singleton.1 q]
    intro hc
    have hl : (cutL s (fr s 46 s.size) s.size).length = 0 := by rw [hc]; rfl
    rw [cut_len s _ _ (Nat.le_refl _)] at hl
    have hf := fr_le s 46 s.size
    rcases fr_same (s := s) (c := 46) (k := s.size) (by omega) with r | r
    · have := h.1; omega
    · exact h.2.2.2.2.2 (by omega)
theorem cut_sub (s : ByteArray) (a b : Nat) : ∀ y ∈ cutL s a b, y ∈ s.data.toList := fun y hy => List.mem_of_mem_drop (List.mem_of_mem_take hy)
theorem part_sub (s : ByteArray) (c : Int) : ∀ x ∈ splitL s c, ∀ y ∈ x, y ∈ s.data.toList := by
  have hp : ∀ k, ∀ x ∈ ps s c k, ∀ y ∈ x, y ∈ s.data.toList := by
    intro k
    induction k with
    | zero => simp [ps]
    | succ k ih =>
      intro x hx
      simp only [ps] at hx
      split at hx
      · rcases List.mem_append.1 hx with h | h
        · exact ih x h
        · rw [List.mem_singleton.1 h]; exact cut_sub s _ _
      · exact ih x hx
  intro x hx
  rcases List.mem_append.1 hx with h | h
  · exact hp _ x h
  · rw [List.mem_singleton.1 h]; exact cut_sub s _ _
theorem sign_lat {s : ByteArray} (h : MayP s) : ∀ y ∈ s.data.toList, latI (y.toNat : Int) = true := by
  intro y hy
  obtain ⟨k, hk, rfl⟩ := List.getElem_of_mem hy
  have hk' : k < s.size := by simpa using hk
  have := h.2.2.2.1 k hk'
  rw [← bt_get s k hk'] at this
  exact this
theorem part_no46 (s : ByteArray) : ∀ x ∈ splitL s 46, (46 : UInt8) ∉ x := split_none s 46 _ (Nat.le_refl _)
theorem part_len' (s : ByteArray) (c : Int) : ∀ x ∈ splitL s c, x.length ≤ s.size := by
  have hc : ∀ a b, (cutL s a b).length ≤ s.size := fun a b => by
    unfold cutL
    rw [List.length_take, List.length_drop]
    have : s.data.toList.length = s.size := by simp
    omega
  have hp : ∀ k, ∀ x ∈ ps s c k, x.length ≤ s.size := by
    intro k
    induction k with
    | zero => simp [ps]
    | succ k ih =>
      intro x hx
      simp only [ps] at hx
      split at hx
      · rcases List.mem_append.1 hx with h | h
        · exact ih x h
        · rw [List.mem_singleton.1 h]; exact hc _ _
      · exact ih x hx
  intro x hx
  rcases List.mem_append.1 hx with h | h
  · exact hp _ x h
  · rw [List.mem_singleton.1 h]; exact hc _ _
theorem bt_str (x : Bs) (k : Nat) (h : k < x.length) : bt ⟨x.toArray⟩ k = x[k].toNat := by
  rw [← bt_get (⟨x.toArray⟩ : ByteArray) k h]
  rfl
/-- A part that begins with a letter is a handle, and none else is. -/
theorem part_may {s : ByteArray} (h : MayP s) {x : Bs} (hx : x ∈ splitL s 46) (h0 : 0 < x.length) : mayS x = ltrI (x[0].toNat : Int) := by
  have hlat : ∀ k (hk : k < x.length), latI (x[k].toNat : Int) = true := fun k hk => sign_lat h _ (part_sub s 46 x hx _ (List.getElem_mem hk))
  have h46 : ∀ k (hk : k < x.length), x[k].toNat ≠ 46 := fun k hk e => part_no46 s x hx (by
    have : x[k] = (46 : UInt8) := UInt8.toNat_inj.1 e
    rw [← this]; exact List.getElem_mem hk)
  have hl := part_len' s 46 x hx
  have hs := h.2.1
  by_cases hb : ltrI (x[0].toNat : Int) = true
  · rw [hb]
    refine mayB_t ⟨h0, by show x.length ≤ 16; omega, by rw [bt_str x 0 h0]; exact hb, fun k hk => by rw [bt_str x k hk]; exact hlat k hk, fun k hk e => ?_, ?_⟩
    · rw [bt_str x k (by show k < x.length; exact Nat.lt_of_succ_lt hk)] at e
      exact h46 k _ e.1
    · show bt ⟨x.toArray⟩ (x.length - 1) ≠ 46
      rw [bt_str x (x.length - 1) (by omega)]
      exact h46 _ _
  · have hb' : ltrI (x[0].toNat : Int) = false := by simpa using hb
    rw [hb']
    exact no_ltr (by rw [bt_str x 0 h0]; exact hb')

/-- Two handles with a dot between. -/
def both (a b : ByteArray) : ByteArray := a ++ ⟨#[46]⟩ ++ b
theorem both_data (a b : ByteArray) : (both a b).data.toList = a.data.toList ++ [46] ++ b.data.toList := by
  unfold both
  rw [ByteArray.data_append, ByteArray.data_append, Array.toList_append, Array.toList_append]
theorem both_size (a b : ByteArray) : (both a b).size = a.size + 1 + b.size := by
  have := congrArg List.length (both_data a b)
  simp at this
  omega
theorem both_bt (a b : ByteArray) : (∀ k, k < a.size → bt (both a b) k = bt a k) ∧ bt (both a b) a.size = 46 ∧ (∀ k, bt (both a b) (a.size + 1 + k) = bt b k) := by
  unfold bt
  rw [both_data]
  have hl : a.data.toList.length = a.size := by simp
  refine ⟨fun k hk => ?_, ?_, fun k => ?_⟩
  · rw [List.getD_eq_getElem?_getD, List.getD_eq_getElem?_getD, List.getElem?_append_left (by simp; omega), List.getElem?_append_left (by omega)]
  · rw [List.getD_eq_getElem?_getD, List.getElem?_append_left (by simp), List.getElem?_append_right (by omega), hl, Nat.sub_self]
    try rfl
  · rw [List.getD_eq_getElem?_getD, List.getD_eq_getElem?_getD, List.getElem?_append_right (by simp)]
    simp only [List.length_append, List.length_singleton, hl]
    rw [show a.size + 1 + k - (a.size + 1) = k by omega]
theorem both_may {a b : ByteArray} (ha : MayP a) (hb : MayP b) : mayB (both a b) = decide ((both a b).size ≤ 16) := by
  obtain ⟨b1, b2, b3⟩ := both_bt a b
  have hsz := both_size a b
  obtain ⟨a1, a2, a3, a4, a5, a6⟩ := ha
  obtain ⟨c1, c2, c3, c4, c5, c6⟩ := hb
  by_cases h : (both a b).size ≤ 16
  · rw [decide_eq_true h]
    refine mayB_t ⟨by omega, h, by rw [b1 0 (by omega)]; exact a3, fun k hk => ?_, fun k hk e => ?_, ?_⟩
    · by_cases k1 : k < a.size
      · rw [b1 k k1]; exact a4 k k1
      · by_cases k2 : k = a.size
        · rw [k2, b2]; decide
        · obtain ⟨j, rfl⟩ : ∃ j, k = a.size + 1 + j := ⟨k - (a.size + 1), by omega⟩
          rw [b3]; exact c4 j (by omega)
    · by_cases k1 : k + 1 < a.size
      · rw [b1 k (by omega), b1 (k + 1) k1] at e; exact a5 k k1 e
      · by_cases k2 : k + 1 = a.size
        · rw [b1 k (by omega)] at e
          have : k = a.size - 1 := by omega
          rw [this] at e
          exact a6 e.1
        · by_cases k3 : k = a.size
          · have := e.2
            rw [k3, show a.size + 1 = a.size + 1 + 0 by omega, b3] at this
            exact ltr46 b c3 this
          · obtain ⟨j, rfl⟩ : ∃ j, k = a.size + 1 + j := ⟨k - (a.size + 1), by omega⟩
            rw [b3, show a.size + 1 + j + 1 = a.size + 1 + (j + 1) by omega, b3] at e
            exact c5 j (by omega) e
    · rw [show (both a b).size - 1 = a.size + 1 + (b.size - 1) by omega, b3]
      exact c6
  · rw [decide_eq_false h]
    exact no_len (by omega)
theorem both_parts (a b : ByteArray) : splitL (both a b) 46 = splitL a 46 ++ splitL b 46 := by
  have ha : splitL a 46 ≠ [] := by simp [splitL]
  have hb : splitL b 46 ≠ [] := by simp [splitL]
  refine join_inj 46 (by simp [splitL]) (by simp [ha]) (part_no46 _) (fun x hx => ?_) ?_
  · rcases List.mem_append.1 hx with h | h
    · exact part_no46 a x h
    · exact part_no46 b x h
  · have j1 := join_split (both a b) 46
    have j2 := join_split a 46
    have j3 := join_split b 46
    have e1 : Lib.join (splitL (both a b) 46) [46] = (both a b).data.toList := j1
    have e2 : Lib.join (splitL a 46) [46] = a.data.toList := j2
    have e3 : Lib.join (splitL b 46) [46] = b.data.toList := j3
    rw [e1, both_data, ← e2, ← e3]
    generalize splitL a 46 = l at ha
    generalize splitL b 46 = m at hb
    cases l with
    | nil => exact absurd rfl ha
    | cons x l =>
      cases m with
      | nil => exact absurd rfl hb
      | cons y m =>
        rw [List.cons_append, Lib.join_cons, Lib.join_cons, Lib.join_cons]
        simp [Lib.joinTail]
end Go.Proofs.Ytnpifjplfipmcaa
