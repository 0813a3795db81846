/-
  PLAIN: what taking and giving back does to how many are taken, and to the sum of ages.
-/
import Derived.Test.YtaofhooddbkglaaAPlays
namespace Go.Proofs.Ytaofhooddbkglaa
open Go.RowKit
set_option maxRecDepth 100000
set_option linter.unusedVariables false
set_option linter.unusedSimpArgs false

theorem many_le (l : List Bool) : many l ≤ l.length := List.countP_le_length
theorem many_set_f {l : List Bool} {k : Nat} (h : l.getD k false = true) : many (l.set k false) + 1 = many l := by
  unfold many
  induction l generalizing k with
  | nil => simp at h
  | cons b l ih =>
    cases k with
    | zero => simp at h; subst h; simp
    | succ k => have := ih (k := k) (by simpa using h); cases b <;> simp <;> omega
theorem many_set_t {l : List Bool} {k : Nat} (hk : k < l.length) (h : l.getD k false = false) : many (l.set k true) = many l + 1 := by
  unfold many
  induction l generalizing k with
  | nil => simp at hk
  | cons b l ih =>
    cases k with
    | zero => simp at h; subst h; simp
    | succ k => have := ih (k := k) (by simpa using hk) (by simpa using h); cases b <;> simp <;> omega
theorem sum_set {l : List Nat} {k : Nat} (hk : k < l.length) : (l.set k (l.getD k 0 + 1)).sum = l.sum + 1 := by
  induction l generalizing k with
  | nil => simp at hk
  | cons b l ih =>
    cases k with
    | zero => simp; omega
    | succ k => have := ih (k := k) (by simpa using hk); simp at this ⊢; omega
theorem free_lt {l : List Bool} (h : freeIx l < l.length) : l.getD (freeIx l) false = false ∧ ∀ i, i < freeIx l → l.getD i false = true := by
  unfold freeIx at *
  refine ⟨?_, fun i hi => ?_⟩
  · have := List.findIdx_getElem (w := h)
    rw [List.getD_eq_getElem?_getD, List.getElem?_eq_getElem h]
    simpa using this
  · have := List.not_of_lt_findIdx hi
    rw [List.getD_eq_getElem?_getD, List.getElem?_eq_getElem (by omega)]
    simpa using this
theorem many_full {l : List Bool} (h : ¬ freeIx l < l.length) : many l = l.length := by
  unfold freeIx at h
  have e : l.findIdx (fun b => !b) = l.length := by have := List.findIdx_le_length (xs := l) (p := fun b => !b); omega
  rw [List.findIdx_eq_length] at e
  unfold many
  rw [List.countP_eq_length]
  intro x hx
  have := e x hx
  simpa using this
theorem many_notfull {l : List Bool} (h : freeIx l < l.length) : many l < l.length := by
  have h1 := many_set_t h (free_lt h).1
  have h2 := many_le (l.set (freeIx l) true)
  simp at h2; omega
structure Tally (s : Ar) (t g : Nat) : Prop where
  sum : s.ag.sum = t
  many : many s.tk + g = t
  pos : ∀ i, s.tk.getD i false = true → 1 ≤ s.ag.getD i 0
theorem Tally.give_yes {s : Ar} {t g : Nat} {k : Int} (h : Tally s t g) (hk : takenB s k = true) : Tally (giveS s k) t (g + 1) := by
  obtain ⟨n, rfl, hn, hg⟩ := taken_at hk
  have e : giveS s n = ⟨s.tk.set n false, s.ag⟩ := by simp [giveS, hk]
  rw [e]
  refine ⟨h.sum, by have := many_set_f hg; have := h.many; simp only; omega, fun i hi => ?_⟩
  simp only at hi
  rw [getD_set _ _ _ _ hn] at hi
  split at hi
  · cases hi
  · exact h.pos i hi
theorem Tally.give_no {s : Ar} {t g : Nat} {k : Int} (h : Tally s t g) (hk : takenB s k = false) : Tally (giveS s k) t g := by
  have e : giveS s k = s := by simp [giveS, hk]
  rw [e]; exact h
theorem getD_setN (l : List Nat) (k x i : Nat) (h : k < l.length) : (l.set k x).getD i 0 = if k = i then x else l.getD i 0 := by
  simp only [List.getD_eq_getElem?_getD, List.getElem?_set]
  by_cases e : k = i
  · subst e; simp [h]
  · simp [e]
theorem Tally.take_yes {s : Ar} {t g : Nat} (h : Tally s t g) (ok : ArOk s) (hf : freeIx s.tk < s.tk.length) : Tally (takeS s) (t + 1) g := by
  have e : takeS s = ⟨s.tk.set (freeIx s.tk) true, s.ag.set (freeIx s.tk) (s.ag.getD (freeIx s.tk) 0 + 1)⟩ := by simp [takeS, hf]
  have hl : freeIx s.tk < s.ag.length := by rw [ok.len]; exact hf
  rw [e]
  refine ⟨by simp only; rw [sum_set hl, h.sum], by have := many_set_t hf (free_lt hf).1; have := h.many; simp only; omega, fun i hi => ?_⟩
  simp only at hi ⊢
  rw [getD_set _ _ _ _ hf] at hi
  rw [getD_setN _ _ _ _ hl]
  split
  · omega
  · rename_i q; rw [if_neg q] at hi; exact h.pos i hi
theorem Tally.take_no {s : Ar} {t g : Nat} (h : Tally s t g) (hf : ¬ freeIx s.tk < s.tk.length) : Tally (takeS s) t g := by
  have e : takeS s = s := by simp [takeS, hf]
  rw [e]; exact h
theorem tally_new (n : Nat) : Tally (newS n) 0 0 := by
  refine ⟨by simp [newS], by simp [newS, many], fun i hi => ?_⟩
  simp only [newS, List.getD_eq_getElem?_getD, List.getElem?_replicate] at hi
  split at hi <;> simp at hi
theorem sum_take_le (l : List Nat) (k : Nat) : (l.take k).sum ≤ l.sum := by
  have := congrArg List.sum (List.take_append_drop k l)
  rw [List.sum_append] at this; omega
theorem sum_snoc (l : List Nat) (k : Nat) : (l.take (k + 1)).sum = (l.take k).sum + l.getD k 0 := by
  by_cases h : k < l.length
  · rw [List.take_succ_eq_append_getElem h, List.sum_append, List.getD_eq_getElem?_getD, List.getElem?_eq_getElem h]; simp
  · rw [List.take_of_length_le (by omega), List.take_of_length_le (by omega), List.getD_eq_getElem?_getD, List.getElem?_eq_none (by omega)]; simp
end Go.Proofs.Ytaofhooddbkglaa
