/-
  PLAIN MATHEMATICS of handles: bytes of a string, what a handle is, the order of strings. No program is named here.
-/
import Derived.WalkKit
import Derived.Lib.Bytealg
import Derived.Lib.SlicesCompact
import Derived.Sort.Walk0
import Derived.Lib.RowBridge
import Derived.Shelf.Spec.SearchS
namespace Go.Proofs.YtjocbokfdfdkeaaGreat.HL
open Go.RowKit

/-- Byte k of a string, 0 beyond its end. -/
def bt (s : ByteArray) (k : Nat) : Nat := (s.data.toList.getD k 0).toNat
theorem bt_get (s : ByteArray) (k : Nat) (h : k < s.size) : (s[k]'h).toNat = bt s k := by
  have h2 : k < s.data.toList.length := by simpa using h
  unfold bt
  rw [List.getD_eq_getElem?_getD, List.getElem?_eq_getElem h2]
  rfl
theorem bt_lt (s : ByteArray) (k : Nat) : bt s k < 256 := by unfold bt; exact UInt8.toNat_lt _

/-- A letter, and what may stand behind the first sign, as numbers. -/
def ltrI (r : Int) : Bool := decide (97 ≤ r ∧ r ≤ 122)
def latI (r : Int) : Bool := decide ((97 ≤ r ∧ r ≤ 122) ∨ (48 ≤ r ∧ r ≤ 57) ∨ r = 46 ∨ r = 95 ∨ r = 45)
theorem ltrI_t {r : Int} : ltrI r = true ↔ 97 ≤ r ∧ r ≤ 122 := by simp [ltrI]
theorem ltrI_f {r : Int} : ltrI r = false ↔ ¬ (97 ≤ r ∧ r ≤ 122) := by simp [ltrI]
theorem latI_t {r : Int} : latI r = true ↔ ((97 ≤ r ∧ r ≤ 122) ∨ (48 ≤ r ∧ r ≤ 57) ∨ r = 46 ∨ r = 95 ∨ r = 45) := by simp [latI]
theorem latI_f {r : Int} : latI r = false ↔ ¬ ((97 ≤ r ∧ r ≤ 122) ∨ (48 ≤ r ∧ r ≤ 57) ∨ r = 46 ∨ r = 95 ∨ r = 45) := by rw [← latI_t]; simp

/-- A handle. -/
def MayP (s : ByteArray) : Prop :=
  1 ≤ s.size ∧ s.size ≤ 16 ∧ ltrI (bt s 0) = true ∧ (∀ k, k < s.size → latI (bt s k) = true) ∧ (∀ k, k + 1 < s.size → ¬ (bt s k = 46 ∧ bt s (k + 1) = 46)) ∧ bt s (s.size - 1) ≠ 46
noncomputable def mayB (s : ByteArray) : Bool := @decide (MayP s) (Classical.propDecidable _)
theorem mayB_t {s : ByteArray} (h : MayP s) : mayB s = true := by simp [mayB, h]
theorem mayB_f {s : ByteArray} (h : ¬ MayP s) : mayB s = false := by simp [mayB, h]
theorem mayB_iff {s : ByteArray} : mayB s = true ↔ MayP s := by simp [mayB]

/-- The sign before place k (0 at the first place). -/
def prev (s : ByteArray) (k : Nat) : Nat := if k = 0 then 0 else bt s (k - 1)
/-- What holds when k signs have been looked at. -/
def MayTo (s : ByteArray) (k : Nat) : Prop :=
  (0 < k → ltrI (bt s 0) = true) ∧ (∀ j, j < k → latI (bt s j) = true) ∧ (∀ j, j + 1 < k → ¬ (bt s j = 46 ∧ bt s (j + 1) = 46))
theorem MayTo.zero (s : ByteArray) : MayTo s 0 := ⟨fun h => absurd h (by omega), fun _ h => absurd h (by omega), fun _ h => absurd h (by omega)⟩
theorem MayTo.step {s : ByteArray} {k : Nat} (h : MayTo s k) (h1 : k = 0 → ltrI (bt s k) = true) (h2 : latI (bt s k) = true) (h3 : ¬ (bt s k = 46 ∧ prev s k = 46)) : MayTo s (k + 1) := by
  obtain ⟨a, b, c⟩ := h
  refine ⟨fun _ => ?_, fun j hj => ?_, fun j hj => ?_⟩
  · by_cases hk : k = 0
    · subst hk; exact h1 rfl
    · exact a (by omega)
  · by_cases e : j = k
    · subst e; exact h2
    · exact b j (by omega)
  · by_cases e : j + 1 = k
    · subst e
      have : prev s (j + 1) = bt s j := by simp [prev]
      rw [this] at h3
      exact fun ⟨x, y⟩ => h3 ⟨y, x⟩
    · exact c j (by omega)
theorem MayTo.done {s : ByteArray} (h : MayTo s s.size) (h1 : 1 ≤ s.size) (h2 : s.size ≤ 16) (h3 : prev s s.size ≠ 46) : MayP s :=
  ⟨h1, h2, h.1 (by omega), h.2.1, h.2.2, by simpa [prev, show s.size ≠ 0 by omega] using h3⟩
theorem no_len {s : ByteArray} (h : s.size < 1 ∨ 16 < s.size) : mayB s = false := mayB_f fun m => by have := m.1; have := m.2.1; omega
theorem no_ltr {s : ByteArray} (h : ltrI (bt s 0) = false) : mayB s = false := mayB_f fun m => by rw [m.2.2.1] at h; cases h
theorem no_lat {s : ByteArray} {k : Nat} (hk : k < s.size) (h : latI (bt s k) = false) : mayB s = false := mayB_f fun m => by rw [m.2.2.2.1 k hk] at h; cases h
theorem no_dots {s : ByteArray} {k : Nat} (hk : k < s.size) (h : bt s k = 46) (h2 : prev s k = 46) : mayB s = false := mayB_f fun m => by
  by_cases e : k = 0
  · subst e; simp [prev] at h2
  · have := m.2.2.2.2.1 (k - 1) (by omega)
    rw [show k - 1 + 1 = k by omega] at this
    simp [prev, e] at h2
    exact this ⟨h2, h⟩
theorem no_two {s : ByteArray} {k : Nat} (hk : k + 1 < s.size) (h : bt s k = 46) (h2 : bt s (k + 1) = 46) : mayB s = false := mayB_f fun m => m.2.2.2.2.1 k hk ⟨h, h2⟩
theorem no_end {s : ByteArray} (h : prev s s.size = 46) : mayB s = false := mayB_f fun m => by
  by_cases e : s.size = 0
  · have := m.1; omega
  · simp [prev, e] at h; exact m.2.2.2.2.2 h
theorem no_end' {s : ByteArray} (h : bt s (s.size - 1) = 46) : mayB s = false := mayB_f fun m => m.2.2.2.2.2 h
/-- What holds when the document's loop has looked at k signs. -/
def RefTo (s : ByteArray) (k : Nat) : Prop := ltrI (bt s 0) = true ∧ ∀ j, j < k → latI (bt s j) = true ∧ (bt s j = 46 → j + 1 < s.size ∧ bt s (j + 1) ≠ 46)
theorem RefTo.one {s : ByteArray} (h : ltrI (bt s 0) = true) : RefTo s 1 :=
  ⟨h, fun j hj => by
    obtain rfl : j = 0 := by omega
    exact ⟨latI_t.2 (.inl (ltrI_t.1 h)), fun h2 => by have := ltrI_t.1 h; omega⟩⟩
theorem RefTo.step {s : ByteArray} {k : Nat} (h : RefTo s k) (h2 : latI (bt s k) = true) (h3 : bt s k = 46 → k + 1 < s.size ∧ bt s (k + 1) ≠ 46) : RefTo s (k + 1) :=
  ⟨h.1, fun j hj => by
    by_cases e : j = k
    · subst e; exact ⟨h2, h3⟩
    · exact h.2 j (by omega)⟩
theorem RefTo.done {s : ByteArray} (h : RefTo s s.size) (h1 : 1 ≤ s.size) (h2 : s.size ≤ 16) : MayP s := by
  refine ⟨h1, h2, h.1, fun k hk => (h.2 k hk).1, fun k hk ⟨a, b⟩ => ((h.2 k (by omega)).2 a).2 b, fun e => ?_⟩
  have := ((h.2 (s.size - 1) (by omega)).2 e).1
  omega
end Go.Proofs.YtjocbokfdfdkeaaGreat.HL
/-
  THE ORDER OF TEXTS, AND LISTS THAT ASCEND. No program is named here.
-/
namespace Go.Proofs.YtjocbokfdfdkeaaGreat.HL
open Go.RowKit
set_option linter.unusedVariables false
set_option linter.unusedSimpArgs false

abbrev Bs := List UInt8

theorem cmp_cases : ∀ (a b : Bs), (Lib.compareBytes a b = -1 ∧ a < b) ∨ (Lib.compareBytes a b = 0 ∧ a = b) ∨ (Lib.compareBytes a b = 1 ∧ b < a)
  | [], [] => .inr (.inl ⟨by simp [Lib.compareBytes], rfl⟩)
  | [], _ :: _ => .inl ⟨by simp [Lib.compareBytes], List.nil_lt_cons _ _⟩
  | _ :: _, [] => .inr (.inr ⟨by simp [Lib.compareBytes], List.nil_lt_cons _ _⟩)
  | x :: a, y :: b => by
    by_cases h1 : x < y
    · exact .inl ⟨by simp [Lib.compareBytes, h1], List.cons_lt_cons_iff.2 (.inl h1)⟩
    · by_cases h2 : y < x
      · exact .inr (.inr ⟨by simp [Lib.compareBytes, h1, h2], List.cons_lt_cons_iff.2 (.inl h2)⟩)
      · have e : x = y := UInt8.le_antisymm (UInt8.not_lt.1 h2) (UInt8.not_lt.1 h1)
        subst e
        rcases cmp_cases a b with ⟨h, l⟩ | ⟨h, l⟩ | ⟨h, l⟩
        · exact .inl ⟨by simp [Lib.compareBytes, h1, h], List.cons_lt_cons_iff.2 (.inr ⟨rfl, l⟩)⟩
        · exact .inr (.inl ⟨by simp [Lib.compareBytes, h1, h], by rw [l]⟩)
        · exact .inr (.inr ⟨by simp [Lib.compareBytes, h1, h], List.cons_lt_cons_iff.2 (.inr ⟨rfl, l⟩)⟩)

theorem lt_irrefl (a : Bs) : ¬ a < a := List.lt_irrefl a
theorem lt_trans {a b c : Bs} (h : a < b) (k : b < c) : a < c := List.lt_trans h k
theorem lt_asymm {a b : Bs} (h : a < b) : ¬ b < a := fun k => lt_irrefl a (lt_trans h k)
theorem cmp_lt {a b : Bs} : Lib.compareBytes a b = -1 ↔ a < b := by
  rcases cmp_cases a b with ⟨h, l⟩ | ⟨h, l⟩ | ⟨h, l⟩
  · exact ⟨fun _ => l, fun _ => h⟩
  · subst l; rw [h]; exact ⟨fun e => absurd e (by decide), fun k => absurd k (lt_irrefl _)⟩
  · rw [h]; exact ⟨fun e => absurd e (by decide), fun k => absurd k (lt_asymm l)⟩
theorem cmp_gt {a b : Bs} : Lib.compareBytes a b = 1 ↔ b < a := by
  rcases cmp_cases a b with ⟨h, l⟩ | ⟨h, l⟩ | ⟨h, l⟩
  · rw [h]; exact ⟨fun e => absurd e (by decide), fun k => absurd k (lt_asymm l)⟩
  · subst l; rw [h]; exact ⟨fun e => absurd e (by decide), fun k => absurd k (lt_irrefl _)⟩
  · exact ⟨fun _ => l, fun _ => h⟩
theorem cmp_eq {a b : Bs} : Lib.compareBytes a b = 0 ↔ a = b := by
  rcases cmp_cases a b with ⟨h, l⟩ | ⟨h, l⟩ | ⟨h, l⟩
  · rw [h]; exact ⟨fun e => absurd e (by decide), fun k => by subst k; exact absurd l (lt_irrefl _)⟩
  · exact ⟨fun _ => l, fun _ => h⟩
  · rw [h]; exact ⟨fun e => absurd e (by decide), fun k => by subst k; exact absurd l (lt_irrefl _)⟩
theorem tri (a b : Bs) : a < b ∨ a = b ∨ b < a := by
  rcases cmp_cases a b with ⟨_, l⟩ | ⟨_, l⟩ | ⟨_, l⟩
  · exact .inl l
  · exact .inr (.inl l)
  · exact .inr (.inr l)
theorem le_def {a b : Bs} : a ≤ b ↔ ¬ b < a := Iff.rfl
theorem le_cases {a b : Bs} : a ≤ b ↔ a < b ∨ a = b := by
  rw [le_def]
  rcases tri a b with h | h | h
  · exact ⟨fun _ => .inl h, fun _ => lt_asymm h⟩
  · subst h; exact ⟨fun _ => .inr rfl, fun _ => lt_irrefl _⟩
  · exact ⟨fun k => absurd h k, fun k => by rcases k with k | k; exact absurd h (lt_asymm k); subst k; exact absurd h (lt_irrefl _)⟩

/-! ### Lists that ascend -/
abbrev Asc (l : List Bs) : Prop := l.Pairwise (· < ·)
theorem asc_uniq : ∀ {a b : List Bs}, Asc a → Asc b → (∀ x, x ∈ a ↔ x ∈ b) → a = b
  | [], [], _, _, _ => rfl
  | [], y :: b, _, _, h => absurd ((h y).2 (by simp)) (by simp)
  | x :: a, [], _, _, h => absurd ((h x).1 (by simp)) (by simp)
  | x :: a, y :: b, ha, hb, h => by
    replace ha := List.pairwise_cons.1 ha
    replace hb := List.pairwise_cons.1 hb
    have e : x = y := by
      rcases List.mem_cons.1 ((h x).1 (by simp)) with h1 | h1
      · exact h1
      · rcases List.mem_cons.1 ((h y).2 (by simp)) with h2 | h2
        · exact h2.symm
        · exact absurd (hb.1 x h1) (lt_asymm (ha.1 y h2))
    subst e
    congr 1
    refine asc_uniq ha.2 hb.2 fun z => ⟨fun hz => ?_, fun hz => ?_⟩
    · rcases List.mem_cons.1 ((h z).1 (List.mem_cons_of_mem _ hz)) with h1 | h1
      · subst h1; exact absurd (ha.1 z hz) (lt_irrefl _)
      · exact h1
    · rcases List.mem_cons.1 ((h z).2 (List.mem_cons_of_mem _ hz)) with h1 | h1
      · subst h1; exact absurd (hb.1 z hz) (lt_irrefl _)
      · exact h1
theorem asc_snoc {l : List Bs} {x : Bs} (h : Asc l) (hx : ∀ y ∈ l, y < x) : Asc (l ++ [x]) :=
  List.pairwise_append.2 ⟨h, List.pairwise_singleton _ _, fun y hy z hz => by rw [List.mem_singleton] at hz; subst hz; exact hx y hy⟩

def sorted (xs : List Bs) : List Bs := xs.mergeSort fun x y => decide (x ≤ y)
def sortU (xs : List Bs) : List Bs := Lib.compact (sorted xs)
theorem sorted_len (xs : List Bs) : (sorted xs).length = xs.length := List.length_mergeSort xs
theorem sortU_le (xs : List Bs) : (sortU xs).length ≤ xs.length := by
  have := Lib.compact_length_le (sorted xs)
  rw [sorted_len] at this
  exact this
theorem le_trans' {a b c : Bs} (h : a ≤ b) (k : b ≤ c) : a ≤ c := by
  rw [le_cases] at *
  rcases h with h | h <;> rcases k with k | k
  · exact .inl (lt_trans h k)
  · subst k; exact .inl h
  · subst h; exact .inl k
  · subst h; exact .inr k
theorem sorted_pw (xs : List Bs) : (sorted xs).Pairwise (· ≤ ·) := by
  have := List.pairwise_mergeSort (le := fun x y : Bs => decide (x ≤ y)) (fun a b c h k => by simp only [decide_eq_true_eq] at *; exact le_trans' h k) (fun a b => by
    simp only [Bool.or_eq_true, decide_eq_true_eq]
    rcases tri a b with h | h | h
    · exact .inl (le_cases.2 (.inl h))
    · exact .inl (le_cases.2 (.inr h))
    · exact .inr (le_cases.2 (.inl h))) xs
  exact this.imp (fun h => by simpa using h)
theorem sorted_mem {xs : List Bs} {x : Bs} : x ∈ sorted xs ↔ x ∈ xs := List.mem_mergeSort
theorem get_pw {l : List Bs} (h : l.Pairwise (· ≤ ·)) {i j : Nat} (hij : i < j) (hj : j < l.length) : l[i]'(by omega) ≤ l[j] := List.pairwise_iff_getElem.1 h i j (by omega) hj hij
theorem bang {l : List Bs} {m : Nat} (h : m < l.length) : l.toArray[m]! = l[m] := by
  rw [getElem!_pos _ m (by simpa using h)]; simp

theorem compact_inv {zs : List Bs} (h : zs.Pairwise (· ≤ ·)) : ∀ m, m ≤ zs.length → Asc (Lib.compactUpTo zs.toArray m) ∧ ∀ x, x ∈ Lib.compactUpTo zs.toArray m ↔ x ∈ zs.take m
  | 0, _ => ⟨by simp [Lib.compactUpTo, Asc], fun x => by simp [Lib.compactUpTo]⟩
  | m + 1, hm => by
    obtain ⟨ih1, ih2⟩ := compact_inv h m (by omega)
    have hlt : m < zs.length := by omega
    rw [Lib.compactUpTo_succ, bang hlt, List.take_succ_eq_append_getElem hlt]
    by_cases hk : Lib.keeps zs.toArray m = true
    · rw [if_pos hk]
      refine ⟨asc_snoc ih1 fun y hy => ?_, fun x => by rw [List.mem_append, List.mem_append, List.mem_singleton, ih2 x]⟩
      obtain ⟨i, hi, rfl⟩ := List.getElem_of_mem ((ih2 y).1 hy)
      simp only [List.length_take] at hi
      rw [List.getElem_take]
      have h1 : zs[m - 1]'(by omega) ≤ zs[m] := get_pw h (by omega) hlt
      have h2 : zs[i]'(by omega) ≤ zs[m - 1]'(by omega) := by
        by_cases e : i = m - 1
        · subst e; exact le_cases.2 (.inr rfl)
        · exact get_pw h (by omega) (by omega)
      have hne : zs[m] ≠ zs[m - 1]'(by omega) := by
        intro e
        have := Lib.keeps_neg (d := zs.toArray) (m := m) (by omega) (by rw [bang hlt, bang (by omega)]; exact e)
        rw [this] at hk
        cases hk
      rcases le_cases.1 h1 with h1 | h1
      · rcases le_cases.1 h2 with h2 | h2
        · exact lt_trans h2 h1
        · rw [h2]; exact h1
      · exact absurd h1.symm hne
    · rw [if_neg hk, List.append_nil]
      refine ⟨ih1, fun x => ?_⟩
      have hm0 : 0 < m := by
        apply Nat.pos_of_ne_zero
        intro e
        subst e
        exact hk (Lib.keeps_lt_one _ 0 (by omega))
      have he : zs[m] = zs[m - 1]'(by omega) := by
        by_cases e : zs[m] = zs[m - 1]'(by omega)
        · exact e
        · exact absurd (Lib.keeps_pos (d := zs.toArray) (m := m) (by rw [bang hlt, bang (by omega)]; exact e)) hk
      rw [ih2 x, List.mem_append, List.mem_singleton]
      refine ⟨.inl, fun hx => ?_⟩
      rcases hx with hx | hx
      · exact hx
      · rw [hx, he, List.mem_take_iff_getElem]
        exact ⟨m - 1, by omega, rfl⟩

theorem sortU_asc (xs : List Bs) : Asc (sortU xs) := (compact_inv (sorted_pw xs) _ (Nat.le_refl _)).1
theorem sortU_mem {xs : List Bs} {x : Bs} : x ∈ sortU xs ↔ x ∈ xs := by
  have := (compact_inv (sorted_pw xs) _ (Nat.le_refl _)).2 x
  rw [List.take_of_length_le (Nat.le_refl _)] at this
  exact this.trans sorted_mem
theorem sortU_eq {a xs : List Bs} (h : Asc a) (hm : ∀ x, x ∈ a ↔ x ∈ xs) : a = sortU xs := asc_uniq h (sortU_asc xs) fun x => (hm x).trans sortU_mem.symm
theorem sortU_self {a : List Bs} (h : Asc a) : sortU a = a := (sortU_eq h fun _ => Iff.rfl).symm

theorem asc_cut : ∀ {l : List Bs} (x : Bs), Asc l → ∃ k, k ≤ l.length ∧ (∀ t, t < k → l.getD t x < x) ∧ (∀ t, k ≤ t → ¬ l.getD t x < x)
  | [], x, _ => ⟨0, Nat.zero_le _, fun t h => absurd h (Nat.not_lt_zero _), fun t _ => lt_irrefl x⟩
  | y :: l, x, h => by
    obtain ⟨h1, h2⟩ := List.pairwise_cons.1 h
    by_cases hy : y < x
    · obtain ⟨k, hk, ha, hb⟩ := asc_cut x h2
      refine ⟨k + 1, by simpa using hk, fun t ht => ?_, fun t ht => ?_⟩
      · cases t with
        | zero => simpa using hy
        | succ t => simpa using ha t (by omega)
      · cases t with
        | zero => omega
        | succ t => simpa using hb t (by omega)
    · refine ⟨0, Nat.zero_le _, fun t ht => absurd ht (Nat.not_lt_zero _), fun t _ => ?_⟩
      cases t with
      | zero => simpa using hy
      | succ t =>
        by_cases ht : t < l.length
        · have hm : l[t] ∈ l := List.getElem_mem ht
          have := h1 _ hm
          have e : (y :: l).getD (t + 1) x = l[t] := by rw [List.getD_eq_getElem?_getD, List.getElem?_cons_succ, List.getElem?_eq_getElem ht]; rfl
          rw [e]
          intro hc
          exact hy (lt_trans this hc)
        · have e : (y :: l).getD (t + 1) x = x := by rw [List.getD_eq_getElem?_getD, List.getElem?_cons_succ, List.getElem?_eq_none (Nat.le_of_not_lt ht)]; rfl
          rw [e]
          exact lt_irrefl x

/-- What a binary search of an ascending list finds. -/
theorem search_found {l : List Bs} (h : Asc l) (x : Bs) :
    decide (Lib.bsGo (fun t => Op.bytesLess (⟨(l.getD t x).toArray⟩ : ByteArray).toList (⟨x.toArray⟩ : ByteArray).toList) l.length 0 l.length < l.length ∧ (⟨(l.getD (Lib.bsGo (fun t => Op.bytesLess (⟨(l.getD t x).toArray⟩ : ByteArray).toList (⟨x.toArray⟩ : ByteArray).toList) l.length 0 l.length) x).toArray⟩ : ByteArray) = ⟨x.toArray⟩) = decide (x ∈ l) := by
  obtain ⟨k, hk, ha, hb⟩ := asc_cut x h
  have e : ∀ t, Op.bytesLess (⟨(l.getD t x).toArray⟩ : ByteArray).toList (⟨x.toArray⟩ : ByteArray).toList = decide (l.getD t x < x) := fun t => by
    rw [bytesLess_eq, ByteArray.toList_eq, ByteArray.toList_eq]
  have hI : Lib.bsGo (fun t => Op.bytesLess (⟨(l.getD t x).toArray⟩ : ByteArray).toList (⟨x.toArray⟩ : ByteArray).toList) l.length 0 l.length = k :=
    Lib.bsGo_spec _ k (fun t ht => by rw [e]; exact decide_eq_true (ha t ht)) (fun t ht => by rw [e]; exact decide_eq_false (hb t ht)) _ _ _ (by omega) (by omega) hk
  rw [hI]
  apply decide_eq_decide.2
  constructor
  · rintro ⟨h1, h2⟩
    have h3 : l.getD k x = x := by
      have := congrArg (fun b : ByteArray => b.data.toList) h2
      simpa using this
    rw [List.getD_eq_getElem?_getD, List.getElem?_eq_getElem h1] at h3
    rw [← h3]
    exact List.getElem_mem h1
  · intro hx
    obtain ⟨i, hi, e2⟩ := List.getElem_of_mem hx
    have hg : l.getD i x = x := by rw [List.getD_eq_getElem?_getD, List.getElem?_eq_getElem hi]; exact e2
    have h1 : k ≤ i := by
      apply Nat.le_of_not_lt
      intro hc
      have := ha i hc
      rw [hg] at this
      exact lt_irrefl _ this
    have hkl : k < l.length := by omega
    refine ⟨hkl, ?_⟩
    have h2 := hb k (Nat.le_refl _)
    rw [List.getD_eq_getElem?_getD, List.getElem?_eq_getElem hkl] at h2 ⊢
    simp only [Option.getD_some] at h2 ⊢
    by_cases e3 : k = i
    · subst e3; rw [e2]
    · have := List.pairwise_iff_getElem.1 h k i hkl hi (by omega)
      rw [e2] at this
      exact absurd this h2
end Go.Proofs.YtjocbokfdfdkeaaGreat.HL
/-
  PLAIN: rows of texts with numbers, rising by their texts: the place of a text, whether it is there, a row put in and taken out.
-/
namespace Go.Proofs.YtjocbokfdfdkeaaGreat.IX
open Go.RowKit HL
set_option linter.unusedVariables false
set_option linter.unusedSimpArgs false

abbrev Rw := Bs × Int
def keys (l : List Rw) : List Bs := l.map (·.1)
def nums (l : List Rw) : List Int := l.map (·.2)
theorem keys_len (l : List Rw) : (keys l).length = l.length := by simp [keys]
theorem nums_len (l : List Rw) : (nums l).length = l.length := by simp [nums]
theorem keys_get {l : List Rw} {i : Nat} (h : i < l.length) : (keys l)[i]? = some l[i].1 := by simp [keys, h]
theorem nums_get {l : List Rw} {i : Nat} (h : i < l.length) : (nums l)[i]? = some l[i].2 := by simp [nums, h]
/-- The rows rise. -/
def Up (l : List Rw) : Prop := Asc (keys l)
/-- How many are less. -/
def plc (l : List Rw) (h : Bs) : Nat := l.countP fun r => decide (r.1 < h)
theorem plc_le (l : List Rw) (h : Bs) : plc l h ≤ l.length := List.countP_le_length
theorem Up.cons {a : Rw} {l : List Rw} : Up (a :: l) ↔ (∀ r ∈ l, a.1 < r.1) ∧ Up l := by
  unfold Up keys Asc
  rw [List.map_cons, List.pairwise_cons]
  simp
theorem plc_none {l : List Rw} {h : Bs} (k : ∀ r ∈ l, ¬ r.1 < h) : plc l h = 0 := by
  unfold plc
  rw [List.countP_eq_zero]
  intro r hr
  simpa using k r hr
theorem plc_iff {l : List Rw} (u : Up l) (h : Bs) : ∀ i (hi : i < l.length), l[i].1 < h ↔ i < plc l h := by
  induction l with
  | nil => intro i hi; simp at hi
  | cons a l ih =>
    obtain ⟨ua, ul⟩ := Up.cons.1 u
    by_cases ha : a.1 < h
    · have e : plc (a :: l) h = plc l h + 1 := by simp [plc, ha]
      intro i hi
      rw [e]
      cases i with
      | zero => simp [ha]
      | succ i =>
        have := ih ul i (by simpa using hi)
        simp only [List.getElem_cons_succ]
        rw [this]; omega
    · have e : plc (a :: l) h = 0 := plc_none fun r hr => by
        rcases List.mem_cons.1 hr with rfl | hr
        · exact ha
        · exact fun q => ha (lt_trans (ua r hr) q)
      intro i hi
      rw [e]
      refine ⟨fun q => absurd q ?_, fun q => absurd q (Nat.not_lt_zero _)⟩
      cases i with
      | zero => exact ha
      | succ i => exact fun q => ha (lt_trans (ua _ (List.getElem_mem _)) q)
theorem plc_lt {l : List Rw} (u : Up l) {h : Bs} {i : Nat} (hi : i < l.length) (k : l[i].1 < h) : i < plc l h := (plc_iff u h i hi).1 k
theorem plc_ge {l : List Rw} (u : Up l) {h : Bs} {i : Nat} (hi : i < l.length) (k : ¬ l[i].1 < h) : plc l h ≤ i := by
  have := mt (plc_iff u h i hi).2 k; omega
theorem plc_at {l : List Rw} (u : Up l) {h : Bs} {p : Nat} (h1 : ∀ i (hi : i < l.length), i < p → l[i].1 < h) (h2 : ∀ i (hi : i < l.length), p ≤ i → ¬ l[i].1 < h) (hp : p ≤ l.length) : plc l h = p := by
  have hl := plc_le l h
  by_cases a : plc l h < p
  · have := plc_lt u (i := plc l h) (by omega) (h1 _ _ a); omega
  · by_cases b : p < plc l h
    · exact absurd ((plc_iff u h p (by omega)).2 b) (h2 p (by omega) (Nat.le_refl _))
    · omega
/-- Is it there? -/
noncomputable def hasB (l : List Rw) (h : Bs) : Bool := @decide (h ∈ keys l) (Classical.propDecidable _)
theorem hasB_iff {l : List Rw} {h : Bs} : hasB l h = true ↔ h ∈ keys l := by simp [hasB]
theorem hasB_f {l : List Rw} {h : Bs} : hasB l h = false ↔ h ∉ keys l := by simp [hasB]
theorem has_at {l : List Rw} (u : Up l) {h : Bs} (k : hasB l h = true) : ∃ hp : plc l h < l.length, l[plc l h].1 = h := by
  obtain ⟨r, hr, rfl⟩ := List.mem_map.1 (hasB_iff.1 k)
  obtain ⟨i, hi, rfl⟩ := List.getElem_of_mem hr
  have h1 : plc l l[i].1 ≤ i := plc_ge u hi (lt_irrefl _)
  have hp : plc l l[i].1 < l.length := by omega
  refine ⟨hp, ?_⟩
  have h2 := mt (plc_iff u l[i].1 _ hp).1 (Nat.lt_irrefl _)
  rcases Nat.lt_or_eq_of_le h1 with q | q
  · have : l[plc l l[i].1].1 < l[i].1 := by
      have := List.pairwise_iff_getElem.1 u (plc l l[i].1) i (by simpa [keys] using hp) (by simpa [keys] using hi) q
      simpa [keys] using this
    exact absurd this h2
  · congr 1; simp only [q]
theorem has_of {l : List Rw} {h : Bs} {i : Nat} (hi : i < l.length) (e : l[i].1 = h) : hasB l h = true := hasB_iff.2 (List.mem_map.2 ⟨l[i], List.getElem_mem hi, e⟩)
theorem has_at_iff {l : List Rw} (u : Up l) {h : Bs} (hp : plc l h < l.length) : hasB l h = true ↔ l[plc l h].1 = h :=
  ⟨fun k => (has_at u k).2, fun e => has_of hp e⟩
theorem has_none {l : List Rw} (u : Up l) {h : Bs} (hp : ¬ plc l h < l.length) : hasB l h = false := by
  cases e : hasB l h with
  | false => rfl
  | true => exact absurd (has_at u e).1 hp
/-- The number of a text, 0 where it isn't there. -/
noncomputable def numOf (l : List Rw) (h : Bs) : Int := if hasB l h = true then (l.getD (plc l h) ([], 0)).2 else 0
theorem numOf_t {l : List Rw} {h : Bs} (k : hasB l h = true) (hp : plc l h < l.length) : numOf l h = l[plc l h].2 := by
  unfold numOf; rw [if_pos k, List.getD_eq_getElem?_getD, List.getElem?_eq_getElem hp]; rfl
theorem numOf_f {l : List Rw} {h : Bs} (k : hasB l h = false) : numOf l h = 0 := by simp [numOf, k]
theorem up_inj {l : List Rw} (u : Up l) {i j : Nat} (hi : i < l.length) (hj : j < l.length) (e : l[i].1 = l[j].1) : i = j := by
  rcases Nat.lt_trichotomy i j with q | q | q
  · have := List.pairwise_iff_getElem.1 u i j (by simpa [keys] using hi) (by simpa [keys] using hj) q
    simp [keys, e] at this; exact absurd this (lt_irrefl _)
  · exact q
  · have := List.pairwise_iff_getElem.1 u j i (by simpa [keys] using hj) (by simpa [keys] using hi) q
    simp [keys, e] at this; exact absurd this (lt_irrefl _)
theorem numOf_at {l : List Rw} (u : Up l) {i : Nat} (hi : i < l.length) : numOf l l[i].1 = l[i].2 := by
  have k : hasB l l[i].1 = true := has_of hi rfl
  obtain ⟨hp, e⟩ := has_at u k
  rw [numOf_t k hp]
  have := up_inj u hp hi e
  simp only [this]
theorem plc_self {l : List Rw} (u : Up l) {i : Nat} (hi : i < l.length) : plc l l[i].1 = i := by
  obtain ⟨hp, e⟩ := has_at u (has_of hi rfl : hasB l l[i].1 = true)
  exact up_inj u hp hi e
/-- A row put in at its place; a text taken out. -/
def ins (l : List Rw) (h : Bs) (n : Int) : List Rw := l.take (plc l h) ++ (h, n) :: l.drop (plc l h)
def del (l : List Rw) (h : Bs) : List Rw := l.take (plc l h) ++ l.drop (plc l h + 1)
theorem ins_len (l : List Rw) (h : Bs) (n : Int) : (ins l h n).length = l.length + 1 := by
  have := plc_le l h
  simp [ins]; omega
theorem del_len {l : List Rw} {h : Bs} (hp : plc l h < l.length) : (del l h).length = l.length - 1 := by
  simp [del]; omega
theorem take_all_lt {l : List Rw} (u : Up l) {h : Bs} {r : Rw} (hr : r ∈ l.take (plc l h)) : r.1 < h := by
  obtain ⟨i, hi, rfl⟩ := List.getElem_of_mem hr
  simp only [List.length_take] at hi
  rw [List.getElem_take]
  exact (plc_iff u h i (by omega)).2 (by omega)
theorem drop_all_ge {l : List Rw} (u : Up l) {h : Bs} {r : Rw} (hr : r ∈ l.drop (plc l h)) : ¬ r.1 < h := by
  obtain ⟨i, hi, rfl⟩ := List.getElem_of_mem hr
  simp only [List.length_drop] at hi
  rw [List.getElem_drop]
  exact fun q => absurd ((plc_iff u h _ (by omega)).1 q) (by omega)
theorem up_take {l : List Rw} (u : Up l) (k : Nat) : Up (l.take k) := by
  unfold Up keys at *; rw [List.map_take]; exact List.Pairwise.sublist (List.take_sublist _ _) u
theorem up_drop {l : List Rw} (u : Up l) (k : Nat) : Up (l.drop k) := by
  unfold Up keys at *; rw [List.map_drop]; exact List.Pairwise.sublist (List.drop_sublist _ _) u
theorem up_del {l : List Rw} (u : Up l) (h : Bs) : Up (del l h) := by
  have : (del l h).Sublist l := by
    have e : l = l.take (plc l h) ++ l.drop (plc l h) := (List.take_append_drop _ _).symm
    conv => rhs; rw [e]
    exact List.Sublist.append (List.Sublist.refl _) (by rw [← List.drop_drop]; exact List.drop_sublist _ _)
  unfold Up keys at *
  exact List.Pairwise.sublist (this.map _) u
theorem up_ins {l : List Rw} (u : Up l) {h : Bs} (n : Int) (k : hasB l h = false) : Up (ins l h n) := by
  have hk := hasB_f.1 k
  have key : ∀ r ∈ l.drop (plc l h), h < r.1 := fun r hr => by
    rcases tri h r.1 with q | q | q
    · exact q
    · exact absurd (List.mem_map.2 ⟨r, List.mem_of_mem_drop hr, q.symm⟩) hk
    · exact absurd q (drop_all_ge u hr)
  have u1 := up_take u (plc l h)
  have u2 := up_drop u (plc l h)
  unfold Up keys ins at *
  rw [List.map_append, List.map_cons]
  refine List.pairwise_append.2 ⟨u1, List.pairwise_cons.2 ⟨fun y hy => ?_, u2⟩, fun a ha b hb => ?_⟩
  · obtain ⟨r, hr, rfl⟩ := List.mem_map.1 hy
    exact key r hr
  · obtain ⟨r, hr, rfl⟩ := List.mem_map.1 ha
    have h1 := take_all_lt u hr
    rcases List.mem_cons.1 hb with q | q
    · rw [q]; exact h1
    · obtain ⟨s, hs, rfl⟩ := List.mem_map.1 q
      exact lt_trans h1 (key s hs)
theorem mem_ins {l : List Rw} {h : Bs} {n : Int} {r : Rw} : r ∈ ins l h n ↔ r = (h, n) ∨ r ∈ l := by
  unfold ins
  rw [List.mem_append, List.mem_cons]
  constructor
  · rintro (q | q | q)
    · exact .inr (List.mem_of_mem_take q)
    · exact .inl q
    · exact .inr (List.mem_of_mem_drop q)
  · rintro (q | q)
    · exact .inr (.inl q)
    · have : r ∈ l.take (plc l h) ++ l.drop (plc l h) := by rw [List.take_append_drop]; exact q
      rcases List.mem_append.1 this with q | q
      · exact .inl q
      · exact .inr (.inr q)
theorem mem_of_del {l : List Rw} {h : Bs} {r : Rw} (k : r ∈ del l h) : r ∈ l := by
  rcases List.mem_append.1 k with q | q
  · exact List.mem_of_mem_take q
  · exact List.mem_of_mem_drop q
theorem mem_del {l : List Rw} (u : Up l) {h : Bs} (k : hasB l h = true) {r : Rw} : r ∈ del l h ↔ r ∈ l ∧ r.1 ≠ h := by
  obtain ⟨hp, e⟩ := has_at u k
  have hd : l.drop (plc l h) = l[plc l h] :: l.drop (plc l h + 1) := List.drop_eq_getElem_cons hp
  constructor
  · intro q
    refine ⟨mem_of_del q, fun e2 => ?_⟩
    rcases List.mem_append.1 q with q | q
    · have := take_all_lt u q; rw [e2] at this; exact lt_irrefl _ this
    · have u2 := up_drop u (plc l h)
      rw [hd] at u2
      have := (Up.cons.1 u2).1 r q
      rw [e, e2] at this; exact lt_irrefl _ this
  · rintro ⟨q, e2⟩
    have : r ∈ l.take (plc l h) ++ l.drop (plc l h) := by rw [List.take_append_drop]; exact q
    rcases List.mem_append.1 this with q | q
    · exact List.mem_append.2 (.inl q)
    · rw [hd] at q
      rcases List.mem_cons.1 q with q | q
      · rw [q] at e2; exact absurd e e2
      · exact List.mem_append.2 (.inr q)
/-- At a place. -/
def inB (l : List Rw) (i : Int) : Bool := decide (0 ≤ i) && decide (i < l.length)
def atH (l : List Rw) (i : Int) : Bs := if inB l i = true then (l.getD i.toNat ([], 0)).1 else []
def atN (l : List Rw) (i : Int) : Int := if inB l i = true then (l.getD i.toNat ([], 0)).2 else 0
theorem inB_nat (l : List Rw) (i : Nat) (h : i < l.length) : inB l i = true := by simp [inB]; omega
theorem at_nat {l : List Rw} {i : Nat} (h : i < l.length) : atH l i = l[i].1 ∧ atN l i = l[i].2 := by
  simp [atH, atN, inB_nat l i h, h]
end Go.Proofs.YtjocbokfdfdkeaaGreat.IX
