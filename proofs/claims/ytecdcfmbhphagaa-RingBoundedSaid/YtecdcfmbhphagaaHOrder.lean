/-
  THE ORDER OF TEXTS, AND LISTS THAT ASCEND. No program is named here.
-/
import Derived.Test.YtecdcfmbhphagaaHMath
import Derived.Lib.Bytealg
import Derived.Lib.SlicesCompact
import Derived.Sort.Walk0
import Derived.Lib.RowBridge
import Derived.Shelf.Spec.SearchS
namespace Go.Proofs.Ytecdcfmbhphagaa.HL
open Go.RowKit
set_option linter.unusedVariables false
set_option linter.unusedSimpArgs false

abbrev Bs := List UInt8

theorem cmp_cases : ∀ (a b : Bs), (Lib.compareBytes a b = -1 ∧ a < b) ∨ (Lib.compareBytes a b = 0 ∧ a = b) ∨ (Lib.compareBytes a b = 1 ∧ b < a)
  | [], [] => .inr (.inl ⟨by simp [Lib.compareBytes], rfl⟩)
  | [], _ :: _ => .inl ⟨by simp [Lib.compareBytes], List.nil_lt_cons _ _⟩
  | _ :: _, [] => .inr (.inr ⟨by simp [Lib.compareBytes], List.nil_lt_cons _ _⟩)
  | x :: a, y :: b => by
    by_cases h1 : x < y
    · exact .inl ⟨by simp [Lib.compareBytes, h1], List.cons_lt_cons_iff.2 (.inl h1)⟩
    · by_cases h2 : y < x
      · exact .inr (.inr ⟨by simp [Lib.compareBytes, h1, h2], List.cons_lt_cons_iff.2 (.inl h2)⟩)
      · have e : x = y := UInt8.le_antisymm (UInt8.not_lt.1 h2) (UInt8.not_lt.1 h1)
        subst e
        rcases cmp_cases a b with ⟨h, l⟩ | ⟨h, l⟩ | ⟨h, l⟩
        · exact .inl ⟨by simp [Lib.compareBytes, h1, h], List.cons_lt_cons_iff.2 (.inr ⟨rfl, l⟩)⟩
        · exact .inr (.inl ⟨by simp [Lib.compareBytes, h1, h], by rw [l]⟩)
        · exact .inr (.inr ⟨by simp [Lib.compareBytes, h1, h], List.cons_lt_cons_iff.2 (.inr ⟨rfl, l⟩)⟩)

theorem lt_irrefl (a : Bs) : ¬ a < a := List.lt_irrefl a
theorem lt_trans {a b c : Bs} (h : a < b) (k : b < c) : a < c := List.lt_trans h k
theorem lt_asymm {a b : Bs} (h : a < b) : ¬ b < a := fun k => lt_irrefl a (lt_trans h k)
theorem cmp_lt {a b : Bs} : Lib.compareBytes a b = -1 ↔ a < b := by
  rcases cmp_cases a b with ⟨h, l⟩ | ⟨h, l⟩ | ⟨h, l⟩
  · exact ⟨fun _ => l, fun _ => h⟩
  · subst l; rw [h]; exact ⟨fun e => absurd e (by decide), fun k => absurd k (lt_irrefl _)⟩
  · rw [h]; exact ⟨fun e => absurd e (by decide), fun k => absurd k (lt_asymm l)⟩
theorem cmp_gt {a b : Bs} : Lib.compareBytes a b = 1 ↔ b < a := by
  rcases cmp_cases a b with ⟨h, l⟩ | ⟨h, l⟩ | ⟨h, l⟩
  · rw [h]; exact ⟨fun e => absurd e (by decide), fun k => absurd k (lt_asymm l)⟩
  · subst l; rw [h]; exact ⟨fun e => absurd e (by decide), fun k => absurd k (lt_irrefl _)⟩
  · exact ⟨fun _ => l, fun _ => h⟩
theorem cmp_eq {a b : Bs} : Lib.compareBytes a b = 0 ↔ a = b := by
  rcases cmp_cases a b with ⟨h, l⟩ | ⟨h, l⟩ | ⟨h, l⟩
  · rw [h]; exact ⟨fun e => absurd e (by decide), fun k => by subst k; exact absurd l (lt_irrefl _)⟩
  · exact ⟨fun _ => l, fun _ => h⟩
  · rw [h]; exact ⟨fun e => absurd e (by decide), fun k => by subst k; exact absurd l (lt_irrefl _)⟩
theorem tri (a b : Bs) : a < b ∨ a = b ∨ b < a := by
  rcases cmp_cases a b with ⟨_, l⟩ | ⟨_, l⟩ | ⟨_, l⟩
  · exact .inl l
  · exact .inr (.inl l)
  · exact .inr (.inr l)
theorem le_def {a b : Bs} : a ≤ b ↔ ¬ b < a := Iff.rfl
theorem le_cases {a b : Bs} : a ≤ b ↔ a < b ∨ a = b := by
  rw [le_def]
  rcases tri a b with h | h | h
  · exact ⟨fun _ => .inl h, fun _ => lt_asymm h⟩
  · subst h; exact ⟨fun _ => .inr rfl, fun _ => lt_irrefl _⟩
  · exact ⟨fun k => absurd h k, fun k => by rcases k with k | k; exact absurd h (lt_asymm k); subst k; exact absurd h (lt_irrefl _)⟩

/-! ### Lists that ascend -/
abbrev Asc (l : List Bs) : Prop := l.Pairwise (· < ·)
theorem asc_uniq : ∀ {a b : List Bs}, Asc a → Asc b → (∀ x, x ∈ a ↔ x ∈ b) → a = b
  | [], [], _, _, _ => rfl
  | [], y :: b, _, _, h => absurd ((h y).2 (by simp)) (by simp)
  | x :: a, [], _, _, h => absurd ((h x).1 (by simp)) (by simp)
  | x :: a, y :: b, ha, hb, h => by
    replace ha := List.pairwise_cons.1 ha
    replace hb := List.pairwise_cons.1 hb
    have e : x = y := by
      rcases List.mem_cons.1 ((h x).1 (by simp)) with h1 | h1
      · exact h1
      · rcases List.mem_cons.1 ((h y).2 (by simp)) with h2 | h2
        · exact h2.symm
        · exact absurd (hb.1 x h1) (lt_asymm (ha.1 y h2))
    subst e
    congr 1
    refine asc_uniq ha.2 hb.2 fun z => ⟨fun hz => ?_, fun hz => ?_⟩
    · rcases List.mem_cons.1 ((h z).1 (List.mem_cons_of_mem _ hz)) with h1 | h1
      · subst h1; exact absurd (ha.1 z hz) (lt_irrefl _)
      · exact h1
    · rcases List.mem_cons.1 ((h z).2 (List.mem_cons_of_mem _ hz)) with h1 | h1
      · subst h1; exact absurd (hb.1 z hz) (lt_irrefl _)
      · exact h1
theorem asc_snoc {l : List Bs} {x : Bs} (h : Asc l) (hx : ∀ y ∈ l, y < x) : Asc (l ++ [x]) :=
  List.pairwise_append.2 ⟨h, List.pairwise_singleton _ _, fun y hy z hz => by rw [List.mem_singleton] at hz; subst hz; exact hx y hy⟩

def sorted (xs : List Bs) : List Bs := xs.mergeSort fun x y => decide (x ≤ y)
def sortU (xs : List Bs) : List Bs := Lib.compact (sorted xs)
theorem sorted_len (xs : List Bs) : (sorted xs).length = xs.length := List.length_mergeSort xs
theorem sortU_le (xs : List Bs) : (sortU xs).length ≤ xs.length := by
  have := Lib.compact_length_le (sorted xs)
  rw [sorted_len] at this
  exact this
theorem le_trans' {a b c : Bs} (h : a ≤ b) (k : b ≤ c) : a ≤ c := by
  rw [le_cases] at *
  rcases h with h | h <;> rcases k with k | k
  · exact .inl (lt_trans h k)
  · subst k; exact .inl h
  · subst h; exact .inl k
  · subst h; exact .inr k
theorem sorted_pw (xs : List Bs) : (sorted xs).Pairwise (· ≤ ·) := by
  have := List.pairwise_mergeSort (le := fun x y : Bs => decide (x ≤ y)) (fun a b c h k => by simp only [decide_eq_true_eq] at *; exact le_trans' h k) (fun a b => by
    simp only [Bool.or_eq_true, decide_eq_true_eq]
    rcases tri a b with h | h | h
    · exact .inl (le_cases.2 (.inl h))
    · exact .inl (le_cases.2 (.inr h))
    · exact .inr (le_cases.2 (.inl h))) xs
  exact this.imp (fun h => by simpa using h)
theorem sorted_mem {xs : List Bs} {x : Bs} : x ∈ sorted xs ↔ x ∈ xs := List.mem_mergeSort
theorem get_pw {l : List Bs} (h : l.Pairwise (· ≤ ·)) {i j : Nat} (hij : i < j) (hj : j < l.length) : l[i]'(by omega) ≤ l[j] := List.pairwise_iff_getElem.1 h i j (by omega) hj hij
theorem bang {l : List Bs} {m : Nat} (h : m < l.length) : l.toArray[m]! = l[m] := by
  rw [getElem!_pos _ m (by simpa using h)]; simp

theorem compact_inv {zs : List Bs} (h : zs.Pairwise (· ≤ ·)) : ∀ m, m ≤ zs.length → Asc (Lib.compactUpTo zs.toArray m) ∧ ∀ x, x ∈ Lib.compactUpTo zs.toArray m ↔ x ∈ zs.take m
  | 0, _ => ⟨by simp [Lib.compactUpTo, Asc], fun x => by simp [Lib.compactUpTo]⟩
  | m + 1, hm => by
    obtain ⟨ih1, ih2⟩ := compact_inv h m (by omega)
    have hlt : m < zs.length := by omega
    rw [Lib.compactUpTo_succ, bang hlt, List.take_succ_eq_append_getElem hlt]
    by_cases hk : Lib.keeps zs.toArray m = true
    · rw [if_pos hk]
      refine ⟨asc_snoc ih1 fun y hy => ?_, fun x => by rw [List.mem_append, List.mem_append, List.mem_singleton, ih2 x]⟩
      obtain ⟨i, hi, rfl⟩ := List.getElem_of_mem ((ih2 y).1 hy)
      simp only [List.length_take] at hi
      rw [List.getElem_take]
      have h1 : zs[m - 1]'(by omega) ≤ zs[m] := get_pw h (by omega) hlt
      have h2 : zs[i]'(by omega) ≤ zs[m - 1]'(by omega) := by
        by_cases e : i = m - 1
        · subst e; exact le_cases.2 (.inr rfl)
        · exact get_pw h (by omega) (by omega)
      have hne : zs[m] ≠ zs[m - 1]'(by omega) := by
        intro e
        have := Lib.keeps_neg (d := zs.toArray) (m := m) (by omega) (by rw [bang hlt, bang (by omega)]; exact e)
        rw [this] at hk
        cases hk
      rcases le_cases.1 h1 with h1 | h1
      · rcases le_cases.1 h2 with h2 | h2
        · exact lt_trans h2 h1
        · rw [h2]; exact h1
      · exact absurd h1.symm hne
    · rw [if_neg hk, List.append_nil]
      refine ⟨ih1, fun x => ?_⟩
      have hm0 : 0 < m := by
        apply Nat.pos_of_ne_zero
        intro e
        subst e
        exact hk (Lib.keeps_lt_one _ 0 (by omega))
      have he : zs[m] = zs[m - 1]'(by omega) := by
        by_cases e : zs[m] = zs[m - 1]'(by omega)
        · exact e
        · exact absurd (Lib.keeps_pos (d := zs.toArray) (m := m) (by rw [bang hlt, bang (by omega)]; exact e)) hk
      rw [ih2 x, List.mem_append, List.mem_singleton]
      refine ⟨.inl, fun hx => ?_⟩
      rcases hx with hx | hx
      · exact hx
      · rw [hx, he, List.mem_take_iff_getElem]
        exact ⟨m - 1, by omega, rfl⟩

theorem sortU_asc (xs : List Bs) : Asc (sortU xs) := (compact_inv (sorted_pw xs) _ (Nat.le_refl _)).1
theorem sortU_mem {xs : List Bs} {x : Bs} : x ∈ sortU xs ↔ x ∈ xs := by
  have := (compact_inv (sorted_pw xs) _ (Nat.le_refl _)).2 x
  rw [List.take_of_length_le (Nat.le_refl _)] at this
  exact this.trans sorted_mem
theorem sortU_eq {a xs : List Bs} (h : Asc a) (hm : ∀ x, x ∈ a ↔ x ∈ xs) : a = sortU xs := asc_uniq h (sortU_asc xs) fun x => (hm x).trans sortU_mem.symm
theorem sortU_self {a : List Bs} (h : Asc a) : sortU a = a := (sortU_eq h fun _ => Iff.rfl).symm

theorem asc_cut : ∀ {l : List Bs} (x : Bs), Asc l → ∃ k, k ≤ l.length ∧ (∀ t, t < k → l.getD t x < x) ∧ (∀ t, k ≤ t → ¬ l.getD t x < x)
  | [], x, _ => ⟨0, Nat.zero_le _, fun t h => absurd h (Nat.not_lt_zero _), fun t _ => lt_irrefl x⟩
  | y :: l, x, h => by
    obtain ⟨h1, h2⟩ := List.pairwise_cons.1 h
    by_cases hy : y < x
    · obtain ⟨k, hk, ha, hb⟩ := asc_cut x h2
      refine ⟨k + 1, by simpa using hk, fun t ht => ?_, fun t ht => ?_⟩
      · cases t with
        | zero => simpa using hy
        | succ t => simpa using ha t (by omega)
      · cases t with
        | zero => omega
        | succ t => simpa using hb t (by omega)
    · refine ⟨0, Nat.zero_le _, fun t ht => absurd ht (Nat.not_lt_zero _), fun t _ => ?_⟩
      cases t with
      | zero => simpa using hy
      | succ t =>
        by_cases ht : t < l.length
        · have hm : l[t] ∈ l := List.getElem_mem ht
          have := h1 _ hm
          have e : (y :: l).getD (t + 1) x = l[t] := by rw [List.getD_eq_getElem?_getD, List.getElem?_cons_succ, List.getElem?_eq_getElem ht]; rfl
          rw [e]
          intro hc
          exact hy (lt_trans this hc)
        · have e : (y :: l).getD (t + 1) x = x := by rw [List.getD_eq_getElem?_getD, List.getElem?_cons_succ, List.getElem?_eq_none (Nat.le_of_not_lt ht)]; rfl
          rw [e]
          exact lt_irrefl x

/-- What a binary search of an ascending list finds. -/
theorem search_found {l : List Bs} (h : Asc l) (x : Bs) :
    decide (Lib.bsGo (fun t => Op.bytesLess (⟨(l.getD t x).toArray⟩ : ByteArray).toList (⟨x.toArray⟩ : ByteArray).toList) l.length 0 l.length < l.length ∧ (⟨(l.getD (Lib.bsGo (fun t => Op.bytesLess (⟨(l.getD t x).toArray⟩ : ByteArray).toList (⟨x.toArray⟩ : ByteArray).toList) l.length 0 l.length) x).toArray⟩ : ByteArray) = ⟨x.toArray⟩) = decide (x ∈ l) := by
  obtain ⟨k, hk, ha, hb⟩ := asc_cut x h
  have e : ∀ t, Op.bytesLess (⟨(l.getD t x).toArray⟩ : ByteArray).toList (⟨x.toArray⟩ : ByteArray).toList = decide (l.getD t x < x) := fun t => by
    rw [bytesLess_eq, ByteArray.toList_eq, ByteArray.toList_eq]
  have hI : Lib.bsGo (fun t => Op.bytesLess (⟨(l.getD t x).toArray⟩ : ByteArray).toList (⟨x.toArray⟩ : ByteArray).toList) l.length 0 l.length = k :=
    Lib.bsGo_spec _ k (fun t ht => by rw [e]; exact decide_eq_true (ha t ht)) (fun t ht => by rw [e]; exact decide_eq_false (hb t ht)) _ _ _ (by omega) (by omega) hk
  rw [hI]
  apply decide_eq_decide.2
  constructor
  · rintro ⟨h1, h2⟩
    have h3 : l.getD k x = x := by
      have := congrArg (fun b : ByteArray => b.data.toList) h2
      simpa using this
    rw [List.getD_eq_getElem?_getD, List.getElem?_eq_getElem h1] at h3
    rw [← h3]
    exact List.getElem_mem h1
  · intro hx
    obtain ⟨i, hi, e2⟩ := List.getElem_of_mem hx
    have hg : l.getD i x = x := by rw [List.getD_eq_getElem?_getD, List.getElem?_eq_getElem hi]; exact e2
    have h1 : k ≤ i := by
      apply Nat.le_of_not_lt
      intro hc
      have := ha i hc
      rw [hg] at this
      exact lt_irrefl _ this
    have hkl : k < l.length := by omega
    refine ⟨hkl, ?_⟩
    have h2 := hb k (Nat.le_refl _)
    rw [List.getD_eq_getElem?_getD, List.getElem?_eq_getElem hkl] at h2 ⊢
    simp only [Option.getD_some] at h2 ⊢
    by_cases e3 : k = i
    · subst e3; rw [e2]
    · have := List.pairwise_iff_getElem.1 h k i hkl hi (by omega)
      rw [e2] at this
      exact absurd this h2
end Go.Proofs.Ytecdcfmbhphagaa.HL
