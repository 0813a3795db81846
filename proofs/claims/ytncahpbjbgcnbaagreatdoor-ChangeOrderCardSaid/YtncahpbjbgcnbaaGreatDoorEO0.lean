/-
  PLAIN MATHEMATICS of handles: bytes of a string, what a handle is, the order of strings. No program is named here.
-/
import Derived.WalkKit
import Derived.Lib.Bytealg
import Derived.Lib.SlicesCompact
import Derived.Sort.Walk0
import Derived.Lib.RowBridge
import Derived.Shelf.Spec.SearchS
import Derived.Test.YtncahpbjbgcnbaaGreatDoorChecked
import Derived.Below
import Derived.Lib.Hide
import Derived.IntWalk
import Derived.Deep.QuietTactic
import Derived.Laws.World
import Derived.Laws.ResultCell
import Derived.WalkSpells
import Derived.WalkLawsBesides
import Derived.Lib.OthersKept
import Derived.BigQuiet
import Derived.Shelf.Small.Strs
import Derived.Test.YtncahpbjbgcnbaaGreatDoorShelf
namespace Go.Proofs.YtncahpbjbgcnbaaGreatDoor.HL
open Go.RowKit

/-- Byte k of a string, 0 beyond its end. -/
def bt (s : ByteArray) (k : Nat) : Nat := (s.data.toList.getD k 0).toNat
theorem bt_get (s : ByteArray) (k : Nat) (h : k < s.size) : (s[k]'h).toNat = bt s k := by
  have h2 : k < s.data.toList.length := by simpa using h
  unfold bt
  rw [List.getD_eq_getElem?_getD, List.getElem?_eq_getElem h2]
  rfl
theorem bt_lt (s : ByteArray) (k : Nat) : bt s k < 256 := by unfold bt; exact UInt8.toNat_lt _

/-- A letter, and what may stand behind the first sign, as numbers. -/
def ltrI (r : Int) : Bool := decide (97 ≤ r ∧ r ≤ 122)
def latI (r : Int) : Bool := decide ((97 ≤ r ∧ r ≤ 122) ∨ (48 ≤ r ∧ r ≤ 57) ∨ r = 46 ∨ r = 95 ∨ r = 45)
theorem ltrI_t {r : Int} : ltrI r = true ↔ 97 ≤ r ∧ r ≤ 122 := by simp [ltrI]
theorem ltrI_f {r : Int} : ltrI r = false ↔ ¬ (97 ≤ r ∧ r ≤ 122) := by simp [ltrI]
theorem latI_t {r : Int} : latI r = true ↔ ((97 ≤ r ∧ r ≤ 122) ∨ (48 ≤ r ∧ r ≤ 57) ∨ r = 46 ∨ r = 95 ∨ r = 45) := by simp [latI]
theorem latI_f {r : Int} : latI r = false ↔ ¬ ((97 ≤ r ∧ r ≤ 122) ∨ (48 ≤ r ∧ r ≤ 57) ∨ r = 46 ∨ r = 95 ∨ r = 45) := by rw [← latI_t]; simp

/-- A handle. -/
def MayP (s : ByteArray) : Prop :=
  1 ≤ s.size ∧ s.size ≤ 16 ∧ ltrI (bt s 0) = true ∧ (∀ k, k < s.size → latI (bt s k) = true) ∧ (∀ k, k + 1 < s.size → ¬ (bt s k = 46 ∧ bt s (k + 1) = 46)) ∧ bt s (s.size - 1) ≠ 46
noncomputable def mayB (s : ByteArray) : Bool := @decide (MayP s) (Classical.propDecidable _)
theorem mayB_t {s : ByteArray} (h : MayP s) : mayB s = true := by simp [mayB, h]
theorem mayB_f {s : ByteArray} (h : ¬ MayP s) : mayB s = false := by simp [mayB, h]
theorem mayB_iff {s : ByteArray} : mayB s = true ↔ MayP s := by simp [mayB]

/-- The sign before place k (0 at the first place). -/
def prev (s : ByteArray) (k : Nat) : Nat := if k = 0 then 0 else bt s (k - 1)
/-- What holds when k signs have been looked at. -/
def MayTo (s : ByteArray) (k : Nat) : Prop :=
  (0 < k → ltrI (bt s 0) = true) ∧ (∀ j, j < k → latI (bt s j) = true) ∧ (∀ j, j + 1 < k → ¬ (bt s j = 46 ∧ bt s (j + 1) = 46))
theorem MayTo.zero (s : ByteArray) : MayTo s 0 := ⟨fun h => absurd h (by omega), fun _ h => absurd h (by omega), fun _ h => absurd h (by omega)⟩
theorem MayTo.step {s : ByteArray} {k : Nat} (h : MayTo s k) (h1 : k = 0 → ltrI (bt s k) = true) (h2 : latI (bt s k) = true) (h3 : ¬ (bt s k = 46 ∧ prev s k = 46)) : MayTo s (k + 1) := by
  obtain ⟨a, b, c⟩ := h
  refine ⟨fun _ => ?_, fun j hj => ?_, fun j hj => ?_⟩
  · by_cases hk : k = 0
    · subst hk; exact h1 rfl
    · exact a (by omega)
  · by_cases e : j = k
    · subst e; exact h2
    · exact b j (by omega)
  · by_cases e : j + 1 = k
    · subst e
      have : prev s (j + 1) = bt s j := by simp [prev]
      rw [this] at h3
      exact fun ⟨x, y⟩ => h3 ⟨y, x⟩
    · exact c j (by omega)
theorem MayTo.done {s : ByteArray} (h : MayTo s s.size) (h1 : 1 ≤ s.size) (h2 : s.size ≤ 16) (h3 : prev s s.size ≠ 46) : MayP s :=
  ⟨h1, h2, h.1 (by omega), h.2.1, h.2.2, by simpa [prev, show s.size ≠ 0 by omega] using h3⟩
theorem no_len {s : ByteArray} (h : s.size < 1 ∨ 16 < s.size) : mayB s = false := mayB_f fun m => by have := m.1; have := m.2.1; omega
theorem no_ltr {s : ByteArray} (h : ltrI (bt s 0) = false) : mayB s = false := mayB_f fun m => by rw [m.2.2.1] at h; cases h
theorem no_lat {s : ByteArray} {k : Nat} (hk : k < s.size) (h : latI (bt s k) = false) : mayB s = false := mayB_f fun m => by rw [m.2.2.2.1 k hk] at h; cases h
theorem no_dots {s : ByteArray} {k : Nat} (hk : k < s.size) (h : bt s k = 46) (h2 : prev s k = 46) : mayB s = false := mayB_f fun m => by
  by_cases e : k = 0
  · subst e; simp [prev] at h2
  · have := m.2.2.2.2.1 (k - 1) (by omega)
    rw [show k - 1 + 1 = k by omega] at this
    simp [prev, e] at h2
    exact this ⟨h2, h⟩
theorem no_two {s : ByteArray} {k : Nat} (hk : k + 1 < s.size) (h : bt s k = 46) (h2 : bt s (k + 1) = 46) : mayB s = false := mayB_f fun m => m.2.2.2.2.1 k hk ⟨h, h2⟩
theorem no_end {s : ByteArray} (h : prev s s.size = 46) : mayB s = false := mayB_f fun m => by
  by_cases e : s.size = 0
  · have := m.1; omega
  · simp [prev, e] at h; exact m.2.2.2.2.2 h
theorem no_end' {s : ByteArray} (h : bt s (s.size - 1) = 46) : mayB s = false := mayB_f fun m => m.2.2.2.2.2 h
/-- What holds when the document's loop has looked at k signs. -/
def RefTo (s : ByteArray) (k : Nat) : Prop := ltrI (bt s 0) = true ∧ ∀ j, j < k → latI (bt s j) = true ∧ (bt s j = 46 → j + 1 < s.size ∧ bt s (j + 1) ≠ 46)
theorem RefTo.one {s : ByteArray} (h : ltrI (bt s 0) = true) : RefTo s 1 :=
  ⟨h, fun j hj => by
    obtain rfl : j = 0 := by omega
    exact ⟨latI_t.2 (.inl (ltrI_t.1 h)), fun h2 => by have := ltrI_t.1 h; omega⟩⟩
theorem RefTo.step {s : ByteArray} {k : Nat} (h : RefTo s k) (h2 : latI (bt s k) = true) (h3 : bt s k = 46 → k + 1 < s.size ∧ bt s (k + 1) ≠ 46) : RefTo s (k + 1) :=
  ⟨h.1, fun j hj => by
    by_cases e : j = k
    · subst e; exact ⟨h2, h3⟩
    · exact h.2 j (by omega)⟩
theorem RefTo.done {s : ByteArray} (h : RefTo s s.size) (h1 : 1 ≤ s.size) (h2 : s.size ≤ 16) : MayP s := by
  refine ⟨h1, h2, h.1, fun k hk => (h.2 k hk).1, fun k hk ⟨a, b⟩ => ((h.2 k (by omega)).2 a).2 b, fun e => ?_⟩
  have := ((h.2 (s.size - 1) (by omega)).2 e).1
  omega
end Go.Proofs.YtncahpbjbgcnbaaGreatDoor.HL
/-
  THE ORDER OF TEXTS, AND LISTS THAT ASCEND. No program is named here.
-/
namespace Go.Proofs.YtncahpbjbgcnbaaGreatDoor.HL
open Go.RowKit
set_option linter.unusedVariables false
set_option linter.unusedSimpArgs false

abbrev Bs := List UInt8

theorem cmp_cases : ∀ (a b : Bs), (Lib.compareBytes a b = -1 ∧ a < b) ∨ (Lib.compareBytes a b = 0 ∧ a = b) ∨ (Lib.compareBytes a b = 1 ∧ b < a)
  | [], [] => .inr (.inl ⟨by simp [Lib.compareBytes], rfl⟩)
  | [], _ :: _ => .inl ⟨by simp [Lib.compareBytes], List.nil_lt_cons _ _⟩
  | _ :: _, [] => .inr (.inr ⟨by simp [Lib.compareBytes], List.nil_lt_cons _ _⟩)
  | x :: a, y :: b => by
    by_cases h1 : x < y
    · exact .inl ⟨by simp [Lib.compareBytes, h1], List.cons_lt_cons_iff.2 (.inl h1)⟩
    · by_cases h2 : y < x
      · exact .inr (.inr ⟨by simp [Lib.compareBytes, h1, h2], List.cons_lt_cons_iff.2 (.inl h2)⟩)
      · have e : x = y := UInt8.le_antisymm (UInt8.not_lt.1 h2) (UInt8.not_lt.1 h1)
        subst e
        rcases cmp_cases a b with ⟨h, l⟩ | ⟨h, l⟩ | ⟨h, l⟩
        · exact .inl ⟨by simp [Lib.compareBytes, h1, h], List.cons_lt_cons_iff.2 (.inr ⟨rfl, l⟩)⟩
        · exact .inr (.inl ⟨by simp [Lib.compareBytes, h1, h], by rw [l]⟩)
        · exact .inr (.inr ⟨by simp [Lib.compareBytes, h1, h], List.cons_lt_cons_iff.2 (.inr ⟨rfl, l⟩)⟩)

theorem lt_irrefl (a : Bs) : ¬ a < a := List.lt_irrefl a
theorem lt_trans {a b c : Bs} (h : a < b) (k : b < c) : a < c := List.lt_trans h k
theorem lt_asymm {a b : Bs} (h : a < b) : ¬ b < a := fun k => lt_irrefl a (lt_trans h k)
theorem cmp_lt {a b : Bs} : Lib.compareBytes a b = -1 ↔ a < b := by
  rcases cmp_cases a b with ⟨h, l⟩ | ⟨h, l⟩ | ⟨h, l⟩
  · exact ⟨fun _ => l, fun _ => h⟩
  · subst l; rw [h]; exact ⟨fun e => absurd e (by decide), fun k => absurd k (lt_irrefl _)⟩
  · rw [h]; exact ⟨fun e => absurd e (by decide), fun k => absurd k (lt_asymm l)⟩
theorem cmp_gt {a b : Bs} : Lib.compareBytes a b = 1 ↔ b < a := by
  rcases cmp_cases a b with ⟨h, l⟩ | ⟨h, l⟩ | ⟨h, l⟩
  · rw [h]; exact ⟨fun e => absurd e (by decide), fun k => absurd k (lt_asymm l)⟩
  · subst l; rw [h]; exact ⟨fun e => absurd e (by decide), fun k => absurd k (lt_irrefl _)⟩
  · exact ⟨fun _ => l, fun _ => h⟩
theorem cmp_eq {a b : Bs} : Lib.compareBytes a b = 0 ↔ a = b := by
  rcases cmp_cases a b with ⟨h, l⟩ | ⟨h, l⟩ | ⟨h, l⟩
  · rw [h]; exact ⟨fun e => absurd e (by decide), fun k => by subst k; exact absurd l (lt_irrefl _)⟩
  · exact ⟨fun _ => l, fun _ => h⟩
  · rw [h]; exact ⟨fun e => absurd e (by decide), fun k => by subst k; exact absurd l (lt_irrefl _)⟩
theorem tri (a b : Bs) : a < b ∨ a = b ∨ b < a := by
  rcases cmp_cases a b with ⟨_, l⟩ | ⟨_, l⟩ | ⟨_, l⟩
  · exact .inl l
  · exact .inr (.inl l)
  · exact .inr (.inr l)
theorem le_def {a b : Bs} : a ≤ b ↔ ¬ b < a := Iff.rfl
theorem le_cases {a b : Bs} : a ≤ b ↔ a < b ∨ a = b := by
  rw [le_def]
  rcases tri a b with h | h | h
  · exact ⟨fun _ => .inl h, fun _ => lt_asymm h⟩
  · subst h; exact ⟨fun _ => .inr rfl, fun _ => lt_irrefl _⟩
  · exact ⟨fun k => absurd h k, fun k => by rcases k with k | k; exact absurd h (lt_asymm k); subst k; exact absurd h (lt_irrefl _)⟩

/-! ### Lists that ascend -/
abbrev Asc (l : List Bs) : Prop := l.Pairwise (· < ·)
theorem asc_uniq : ∀ {a b : List Bs}, Asc a → Asc b → (∀ x, x ∈ a ↔ x ∈ b) → a = b
  | [], [], _, _, _ => rfl
  | [], y :: b, _, _, h => absurd ((h y).2 (by simp)) (by simp)
  | x :: a, [], _, _, h => absurd ((h x).1 (by simp)) (by simp)
  | x :: a, y :: b, ha, hb, h => by
    replace ha := List.pairwise_cons.1 ha
    replace hb := List.pairwise_cons.1 hb
    have e : x = y := by
      rcases List.mem_cons.1 ((h x).1 (by simp)) with h1 | h1
      · exact h1
      · rcases List.mem_cons.1 ((h y).2 (by simp)) with h2 | h2
        · exact h2.symm
        · exact absurd (hb.1 x h1) (lt_asymm (ha.1 y h2))
    subst e
    congr 1
    refine asc_uniq ha.2 hb.2 fun z => ⟨fun hz => ?_, fun hz => ?_⟩
    · rcases List.mem_cons.1 ((h z).1 (List.mem_cons_of_mem _ hz)) with h1 | h1
      · subst h1; exact absurd (ha.1 z hz) (lt_irrefl _)
      · exact h1
    · rcases List.mem_cons.1 ((h z).2 (List.mem_cons_of_mem _ hz)) with h1 | h1
      · subst h1; exact absurd (hb.1 z hz) (lt_irrefl _)
      · exact h1
theorem asc_snoc {l : List Bs} {x : Bs} (h : Asc l) (hx : ∀ y ∈ l, y < x) : Asc (l ++ [x]) :=
  List.pairwise_append.2 ⟨h, List.pairwise_singleton _ _, fun y hy z hz => by rw [List.mem_singleton] at hz; subst hz; exact hx y hy⟩

def sorted (xs : List Bs) : List Bs := xs.mergeSort fun x y => decide (x ≤ y)
def sortU (xs : List Bs) : List Bs := Lib.compact (sorted xs)
theorem sorted_len (xs : List Bs) : (sorted xs).length = xs.length := List.length_mergeSort xs
theorem sortU_le (xs : List Bs) : (sortU xs).length ≤ xs.length := by
  have := Lib.compact_length_le (sorted xs)
  rw [sorted_len] at this
  exact this
theorem le_trans' {a b c : Bs} (h : a ≤ b) (k : b ≤ c) : a ≤ c := by
  rw [le_cases] at *
  rcases h with h | h <;> rcases k with k | k
  · exact .inl (lt_trans h k)
  · subst k; exact .inl h
  · subst h; exact .inl k
  · subst h; exact .inr k
theorem sorted_pw (xs : List Bs) : (sorted xs).Pairwise (· ≤ ·) := by
  have := List.pairwise_mergeSort (le := fun x y : Bs => decide (x ≤ y)) (fun a b c h k => by simp only [decide_eq_true_eq] at *; exact le_trans' h k) (fun a b => by
    simp only [Bool.or_eq_true, decide_eq_true_eq]
    rcases tri a b with h | h | h
    · exact .inl (le_cases.2 (.inl h))
    · exact .inl (le_cases.2 (.inr h))
    · exact .inr (le_cases.2 (.inl h))) xs
  exact this.imp (fun h => by simpa using h)
theorem sorted_mem {xs : List Bs} {x : Bs} : x ∈ sorted xs ↔ x ∈ xs := List.mem_mergeSort
theorem get_pw {l : List Bs} (h : l.Pairwise (· ≤ ·)) {i j : Nat} (hij : i < j) (hj : j < l.length) : l[i]'(by omega) ≤ l[j] := List.pairwise_iff_getElem.1 h i j (by omega) hj hij
theorem bang {l : List Bs} {m : Nat} (h : m < l.length) : l.toArray[m]! = l[m] := by
  rw [getElem!_pos _ m (by simpa using h)]; simp

theorem compact_inv {zs : List Bs} (h : zs.Pairwise (· ≤ ·)) : ∀ m, m ≤ zs.length → Asc (Lib.compactUpTo zs.toArray m) ∧ ∀ x, x ∈ Lib.compactUpTo zs.toArray m ↔ x ∈ zs.take m
  | 0, _ => ⟨by simp [Lib.compactUpTo, Asc], fun x => by simp [Lib.compactUpTo]⟩
  | m + 1, hm => by
    obtain ⟨ih1, ih2⟩ := compact_inv h m (by omega)
    have hlt : m < zs.length := by omega
    rw [Lib.compactUpTo_succ, bang hlt, List.take_succ_eq_append_getElem hlt]
    by_cases hk : Lib.keeps zs.toArray m = true
    · rw [if_pos hk]
      refine ⟨asc_snoc ih1 fun y hy => ?_, fun x => by rw [List.mem_append, List.mem_append, List.mem_singleton, ih2 x]⟩
      obtain ⟨i, hi, rfl⟩ := List.getElem_of_mem ((ih2 y).1 hy)
      simp only [List.length_take] at hi
      rw [List.getElem_take]
      have h1 : zs[m - 1]'(by omega) ≤ zs[m] := get_pw h (by omega) hlt
      have h2 : zs[i]'(by omega) ≤ zs[m - 1]'(by omega) := by
        by_cases e : i = m - 1
        · subst e; exact le_cases.2 (.inr rfl)
        · exact get_pw h (by omega) (by omega)
      have hne : zs[m] ≠ zs[m - 1]'(by omega) := by
        intro e
        have := Lib.keeps_neg (d := zs.toArray) (m := m) (by omega) (by rw [bang hlt, bang (by omega)]; exact e)
        rw [this] at hk
        cases hk
      rcases le_cases.1 h1 with h1 | h1
      · rcases le_cases.1 h2 with h2 | h2
        · exact lt_trans h2 h1
        · rw [h2]; exact h1
      · exact absurd h1.symm hne
    · rw [if_neg hk, List.append_nil]
      refine ⟨ih1, fun x => ?_⟩
      have hm0 : 0 < m := by
        apply Nat.pos_of_ne_zero
        intro e
        subst e
        exact hk (Lib.keeps_lt_one _ 0 (by omega))
      have he : zs[m] = zs[m - 1]'(by omega) := by
        by_cases e : zs[m] = zs[m - 1]'(by omega)
        · exact e
        · exact absurd (Lib.keeps_pos (d := zs.toArray) (m := m) (by rw [bang hlt, bang (by omega)]; exact e)) hk
      rw [ih2 x, List.mem_append, List.mem_singleton]
      refine ⟨.inl, fun hx => ?_⟩
      rcases hx with hx | hx
      · exact hx
      · rw [hx, he, List.mem_take_iff_getElem]
        exact ⟨m - 1, by omega, rfl⟩

theorem sortU_asc (xs : List Bs) : Asc (sortU xs) := (compact_inv (sorted_pw xs) _ (Nat.le_refl _)).1
theorem sortU_mem {xs : List Bs} {x : Bs} : x ∈ sortU xs ↔ x ∈ xs := by
  have := (compact_inv (sorted_pw xs) _ (Nat.le_refl _)).2 x
  rw [List.take_of_length_le (Nat.le_refl _)] at this
  exact this.trans sorted_mem
theorem sortU_eq {a xs : List Bs} (h : Asc a) (hm : ∀ x, x ∈ a ↔ x ∈ xs) : a = sortU xs := asc_uniq h (sortU_asc xs) fun x => (hm x).trans sortU_mem.symm
theorem sortU_self {a : List Bs} (h : Asc a) : sortU a = a := (sortU_eq h fun _ => Iff.rfl).symm

theorem asc_cut : ∀ {l : List Bs} (x : Bs), Asc l → ∃ k, k ≤ l.length ∧ (∀ t, t < k → l.getD t x < x) ∧ (∀ t, k ≤ t → ¬ l.getD t x < x)
  | [], x, _ => ⟨0, Nat.zero_le _, fun t h => absurd h (Nat.not_lt_zero _), fun t _ => lt_irrefl x⟩
  | y :: l, x, h => by
    obtain ⟨h1, h2⟩ := List.pairwise_cons.1 h
    by_cases hy : y < x
    · obtain ⟨k, hk, ha, hb⟩ := asc_cut x h2
      refine ⟨k + 1, by simpa using hk, fun t ht => ?_, fun t ht => ?_⟩
      · cases t with
        | zero => simpa using hy
        | succ t => simpa using ha t (by omega)
      · cases t with
        | zero => omega
        | succ t => simpa using hb t (by omega)
    · refine ⟨0, Nat.zero_le _, fun t ht => absurd ht (Nat.not_lt_zero _), fun t _ => ?_⟩
      cases t with
      | zero => simpa using hy
      | succ t =>
        by_cases ht : t < l.length
        · have hm : l[t] ∈ l := List.getElem_mem ht
          have := h1 _ hm
          have e : (y :: l).getD (t + 1) x = l[t] := by rw [List.getD_eq_getElem?_getD, List.getElem?_cons_succ, List.getElem?_eq_getElem ht]; rfl
          rw [e]
          intro hc
          exact hy (lt_trans this hc)
        · have e : (y :: l).getD (t + 1) x = x := by rw [List.getD_eq_getElem?_getD, List.getElem?_cons_succ, List.getElem?_eq_none (Nat.le_of_not_lt ht)]; rfl
          rw [e]
          exact lt_irrefl x

/-- What a binary search of an ascending list finds. -/
theorem search_found {l : List Bs} (h : Asc l) (x : Bs) :
    decide (Lib.bsGo (fun t => Op.bytesLess (⟨(l.getD t x).toArray⟩ : ByteArray).toList (⟨x.toArray⟩ : ByteArray).toList) l.length 0 l.length < l.length ∧ (⟨(l.getD (Lib.bsGo (fun t => Op.bytesLess (⟨(l.getD t x).toArray⟩ : ByteArray).toList (⟨x.toArray⟩ : ByteArray).toList) l.length 0 l.length) x).toArray⟩ : ByteArray) = ⟨x.toArray⟩) = decide (x ∈ l) := by
  obtain ⟨k, hk, ha, hb⟩ := asc_cut x h
  have e : ∀ t, Op.bytesLess (⟨(l.getD t x).toArray⟩ : ByteArray).toList (⟨x.toArray⟩ : ByteArray).toList = decide (l.getD t x < x) := fun t => by
    rw [bytesLess_eq, ByteArray.toList_eq, ByteArray.toList_eq]
  have hI : Lib.bsGo (fun t => Op.bytesLess (⟨(l.getD t x).toArray⟩ : ByteArray).toList (⟨x.toArray⟩ : ByteArray).toList) l.length 0 l.length = k :=
    Lib.bsGo_spec _ k (fun t ht => by rw [e]; exact decide_eq_true (ha t ht)) (fun t ht => by rw [e]; exact decide_eq_false (hb t ht)) _ _ _ (by omega) (by omega) hk
  rw [hI]
  apply decide_eq_decide.2
  constructor
  · rintro ⟨h1, h2⟩
    have h3 : l.getD k x = x := by
      have := congrArg (fun b : ByteArray => b.data.toList) h2
      simpa using this
    rw [List.getD_eq_getElem?_getD, List.getElem?_eq_getElem h1] at h3
    rw [← h3]
    exact List.getElem_mem h1
  · intro hx
    obtain ⟨i, hi, e2⟩ := List.getElem_of_mem hx
    have hg : l.getD i x = x := by rw [List.getD_eq_getElem?_getD, List.getElem?_eq_getElem hi]; exact e2
    have h1 : k ≤ i := by
      apply Nat.le_of_not_lt
      intro hc
      have := ha i hc
      rw [hg] at this
      exact lt_irrefl _ this
    have hkl : k < l.length := by omega
    refine ⟨hkl, ?_⟩
    have h2 := hb k (Nat.le_refl _)
    rw [List.getD_eq_getElem?_getD, List.getElem?_eq_getElem hkl] at h2 ⊢
    simp only [Option.getD_some] at h2 ⊢
    by_cases e3 : k = i
    · subst e3; rw [e2]
    · have := List.pairwise_iff_getElem.1 h k i hkl hi (by omega)
      rw [e2] at this
      exact absurd this h2
end Go.Proofs.YtncahpbjbgcnbaaGreatDoor.HL
/-
  PLAIN: rows of texts with numbers, rising by their texts: the place of a text, whether it is there, a row put in and taken out.
-/
namespace Go.Proofs.YtncahpbjbgcnbaaGreatDoor.IX
open Go.RowKit HL
set_option linter.unusedVariables false
set_option linter.unusedSimpArgs false

abbrev Rw := Bs × Int
def keys (l : List Rw) : List Bs := l.map (·.1)
def nums (l : List Rw) : List Int := l.map (·.2)
theorem keys_len (l : List Rw) : (keys l).length = l.length := by simp [keys]
theorem nums_len (l : List Rw) : (nums l).length = l.length := by simp [nums]
theorem keys_get {l : List Rw} {i : Nat} (h : i < l.length) : (keys l)[i]? = some l[i].1 := by simp [keys, h]
theorem nums_get {l : List Rw} {i : Nat} (h : i < l.length) : (nums l)[i]? = some l[i].2 := by simp [nums, h]
/-- The rows rise. -/
def Up (l : List Rw) : Prop := Asc (keys l)
/-- How many are less. -/
def plc (l : List Rw) (h : Bs) : Nat := l.countP fun r => decide (r.1 < h)
theorem plc_le (l : List Rw) (h : Bs) : plc l h ≤ l.length := List.countP_le_length
theorem Up.cons {a : Rw} {l : List Rw} : Up (a :: l) ↔ (∀ r ∈ l, a.1 < r.1) ∧ Up l := by
  unfold Up keys Asc
  rw [List.map_cons, List.pairwise_cons]
  simp
theorem plc_none {l : List Rw} {h : Bs} (k : ∀ r ∈ l, ¬ r.1 < h) : plc l h = 0 := by
  unfold plc
  rw [List.countP_eq_zero]
  intro r hr
  simpa using k r hr
theorem plc_iff {l : List Rw} (u : Up l) (h : Bs) : ∀ i (hi : i < l.length), l[i].1 < h ↔ i < plc l h := by
  induction l with
  | nil => intro i hi; simp at hi
  | cons a l ih =>
    obtain ⟨ua, ul⟩ := Up.cons.1 u
    by_cases ha : a.1 < h
    · have e : plc (a :: l) h = plc l h + 1 := by simp [plc, ha]
      intro i hi
      rw [e]
      cases i with
      | zero => simp [ha]
      | succ i =>
        have := ih ul i (by simpa using hi)
        simp only [List.getElem_cons_succ]
        rw [this]; omega
    · have e : plc (a :: l) h = 0 := plc_none fun r hr => by
        rcases List.mem_cons.1 hr with rfl | hr
        · exact ha
        · exact fun q => ha (lt_trans (ua r hr) q)
      intro i hi
      rw [e]
      refine ⟨fun q => absurd q ?_, fun q => absurd q (Nat.not_lt_zero _)⟩
      cases i with
      | zero => exact ha
      | succ i => exact fun q => ha (lt_trans (ua _ (List.getElem_mem _)) q)
theorem plc_lt {l : List Rw} (u : Up l) {h : Bs} {i : Nat} (hi : i < l.length) (k : l[i].1 < h) : i < plc l h := (plc_iff u h i hi).1 k
theorem plc_ge {l : List Rw} (u : Up l) {h : Bs} {i : Nat} (hi : i < l.length) (k : ¬ l[i].1 < h) : plc l h ≤ i := by
  have := mt (plc_iff u h i hi).2 k; omega
theorem plc_at {l : List Rw} (u : Up l) {h : Bs} {p : Nat} (h1 : ∀ i (hi : i < l.length), i < p → l[i].1 < h) (h2 : ∀ i (hi : i < l.length), p ≤ i → ¬ l[i].1 < h) (hp : p ≤ l.length) : plc l h = p := by
  have hl := plc_le l h
  by_cases a : plc l h < p
  · have := plc_lt u (i := plc l h) (by omega) (h1 _ _ a); omega
  · by_cases b : p < plc l h
    · exact absurd ((plc_iff u h p (by omega)).2 b) (h2 p (by omega) (Nat.le_refl _))
    · omega
/-- Is it there? -/
noncomputable def hasB (l : List Rw) (h : Bs) : Bool := @decide (h ∈ keys l) (Classical.propDecidable _)
theorem hasB_iff {l : List Rw} {h : Bs} : hasB l h = true ↔ h ∈ keys l := by simp [hasB]
theorem hasB_f {l : List Rw} {h : Bs} : hasB l h = false ↔ h ∉ keys l := by simp [hasB]
theorem has_at {l : List Rw} (u : Up l) {h : Bs} (k : hasB l h = true) : ∃ hp : plc l h < l.length, l[plc l h].1 = h := by
  obtain ⟨r, hr, rfl⟩ := List.mem_map.1 (hasB_iff.1 k)
  obtain ⟨i, hi, rfl⟩ := List.getElem_of_mem hr
  have h1 : plc l l[i].1 ≤ i := plc_ge u hi (lt_irrefl _)
  have hp : plc l l[i].1 < l.length := by omega
  refine ⟨hp, ?_⟩
  have h2 := mt (plc_iff u l[i].1 _ hp).1 (Nat.lt_irrefl _)
  rcases Nat.lt_or_eq_of_le h1 with q | q
  · have : l[plc l l[i].1].1 < l[i].1 := by
      have := List.pairwise_iff_getElem.1 u (plc l l[i].1) i (by simpa [keys] using hp) (by simpa [keys] using hi) q
      simpa [keys] using this
    exact absurd this h2
  · congr 1; simp only [q]
theorem has_of {l : List Rw} {h : Bs} {i : Nat} (hi : i < l.length) (e : l[i].1 = h) : hasB l h = true := hasB_iff.2 (List.mem_map.2 ⟨l[i], List.getElem_mem hi, e⟩)
theorem has_at_iff {l : List Rw} (u : Up l) {h : Bs} (hp : plc l h < l.length) : hasB l h = true ↔ l[plc l h].1 = h :=
  ⟨fun k => (has_at u k).2, fun e => has_of hp e⟩
theorem has_none {l : List Rw} (u : Up l) {h : Bs} (hp : ¬ plc l h < l.length) : hasB l h = false := by
  cases e : hasB l h with
  | false => rfl
  | true => exact absurd (has_at u e).1 hp
/-- The number of a text, 0 where it isn't there. -/
noncomputable def numOf (l : List Rw) (h : Bs) : Int := if hasB l h = true then (l.getD (plc l h) ([], 0)).2 else 0
theorem numOf_t {l : List Rw} {h : Bs} (k : hasB l h = true) (hp : plc l h < l.length) : numOf l h = l[plc l h].2 := by
  unfold numOf; rw [if_pos k, List.getD_eq_getElem?_getD, List.getElem?_eq_getElem hp]; rfl
theorem numOf_f {l : List Rw} {h : Bs} (k : hasB l h = false) : numOf l h = 0 := by simp [numOf, k]
theorem up_inj {l : List Rw} (u : Up l) {i j : Nat} (hi : i < l.length) (hj : j < l.length) (e : l[i].1 = l[j].1) : i = j := by
  rcases Nat.lt_trichotomy i j with q | q | q
  · have := List.pairwise_iff_getElem.1 u i j (by simpa [keys] using hi) (by simpa [keys] using hj) q
    simp [keys, e] at this; exact absurd this (lt_irrefl _)
  · exact q
  · have := List.pairwise_iff_getElem.1 u j i (by simpa [keys] using hj) (by simpa [keys] using hi) q
    simp [keys, e] at this; exact absurd this (lt_irrefl _)
theorem numOf_at {l : List Rw} (u : Up l) {i : Nat} (hi : i < l.length) : numOf l l[i].1 = l[i].2 := by
  have k : hasB l l[i].1 = true := has_of hi rfl
  obtain ⟨hp, e⟩ := has_at u k
  rw [numOf_t k hp]
  have := up_inj u hp hi e
  simp only [this]
theorem plc_self {l : List Rw} (u : Up l) {i : Nat} (hi : i < l.length) : plc l l[i].1 = i := by
  obtain ⟨hp, e⟩ := has_at u (has_of hi rfl : hasB l l[i].1 = true)
  exact up_inj u hp hi e
/-- A row put in at its place; a text taken out. -/
def ins (l : List Rw) (h : Bs) (n : Int) : List Rw := l.take (plc l h) ++ (h, n) :: l.drop (plc l h)
def del (l : List Rw) (h : Bs) : List Rw := l.take (plc l h) ++ l.drop (plc l h + 1)
theorem ins_len (l : List Rw) (h : Bs) (n : Int) : (ins l h n).length = l.length + 1 := by
  have := plc_le l h
  simp [ins]; omega
theorem del_len {l : List Rw} {h : Bs} (hp : plc l h < l.length) : (del l h).length = l.length - 1 := by
  simp [del]; omega
theorem take_all_lt {l : List Rw} (u : Up l) {h : Bs} {r : Rw} (hr : r ∈ l.take (plc l h)) : r.1 < h := by
  obtain ⟨i, hi, rfl⟩ := List.getElem_of_mem hr
  simp only [List.length_take] at hi
  rw [List.getElem_take]
  exact (plc_iff u h i (by omega)).2 (by omega)
theorem drop_all_ge {l : List Rw} (u : Up l) {h : Bs} {r : Rw} (hr : r ∈ l.drop (plc l h)) : ¬ r.1 < h := by
  obtain ⟨i, hi, rfl⟩ := List.getElem_of_mem hr
  simp only [List.length_drop] at hi
  rw [List.getElem_drop]
  exact fun q => absurd ((plc_iff u h _ (by omega)).1 q) (by omega)
theorem up_take {l : List Rw} (u : Up l) (k : Nat) : Up (l.take k) := by
  unfold Up keys at *; rw [List.map_take]; exact List.Pairwise.sublist (List.take_sublist _ _) u
theorem up_drop {l : List Rw} (u : Up l) (k : Nat) : Up (l.drop k) := by
  unfold Up keys at *; rw [List.map_drop]; exact List.Pairwise.sublist (List.drop_sublist _ _) u
theorem up_del {l : List Rw} (u : Up l) (h : Bs) : Up (del l h) := by
  have : (del l h).Sublist l := by
    have e : l = l.take (plc l h) ++ l.drop (plc l h) := (List.take_append_drop _ _).symm
    conv => rhs; rw [e]
    exact List.Sublist.append (List.Sublist.refl _) (by rw [← List.drop_drop]; exact List.drop_sublist _ _)
  unfold Up keys at *
  exact List.Pairwise.sublist (this.map _) u
theorem up_ins {l : List Rw} (u : Up l) {h : Bs} (n : Int) (k : hasB l h = false) : Up (ins l h n) := by
  have hk := hasB_f.1 k
  have key : ∀ r ∈ l.drop (plc l h), h < r.1 := fun r hr => by
    rcases tri h r.1 with q | q | q
    · exact q
    · exact absurd (List.mem_map.2 ⟨r, List.mem_of_mem_drop hr, q.symm⟩) hk
    · exact absurd q (drop_all_ge u hr)
  have u1 := up_take u (plc l h)
  have u2 := up_drop u (plc l h)
  unfold Up keys ins at *
  rw [List.map_append, List.map_cons]
  refine List.pairwise_append.2 ⟨u1, List.pairwise_cons.2 ⟨fun y hy => ?_, u2⟩, fun a ha b hb => ?_⟩
  · obtain ⟨r, hr, rfl⟩ := List.mem_map.1 hy
    exact key r hr
  · obtain ⟨r, hr, rfl⟩ := List.mem_map.1 ha
    have h1 := take_all_lt u hr
    rcases List.mem_cons.1 hb with q | q
    · rw [q]; exact h1
    · obtain ⟨s, hs, rfl⟩ := List.mem_map.1 q
      exact lt_trans h1 (key s hs)
theorem mem_ins {l : List Rw} {h : Bs} {n : Int} {r : Rw} : r ∈ ins l h n ↔ r = (h, n) ∨ r ∈ l := by
  unfold ins
  rw [List.mem_append, List.mem_cons]
  constructor
  · rintro (q | q | q)
    · exact .inr (List.mem_of_mem_take q)
    · exact .inl q
    · exact .inr (List.mem_of_mem_drop q)
  · rintro (q | q)
    · exact .inr (.inl q)
    · have : r ∈ l.take (plc l h) ++ l.drop (plc l h) := by rw [List.take_append_drop]; exact q
      rcases List.mem_append.1 this with q | q
      · exact .inl q
      · exact .inr (.inr q)
theorem mem_of_del {l : List Rw} {h : Bs} {r : Rw} (k : r ∈ del l h) : r ∈ l := by
  rcases List.mem_append.1 k with q | q
  · exact List.mem_of_mem_take q
  · exact List.mem_of_mem_drop q
theorem mem_del {l : List Rw} (u : Up l) {h : Bs} (k : hasB l h = true) {r : Rw} : r ∈ del l h ↔ r ∈ l ∧ r.1 ≠ h := by
  obtain ⟨hp, e⟩ := has_at u k
  have hd : l.drop (plc l h) = l[plc l h] :: l.drop (plc l h + 1) := List.drop_eq_getElem_cons hp
  constructor
  · intro q
    refine ⟨mem_of_del q, fun e2 => ?_⟩
    rcases List.mem_append.1 q with q | q
    · have := take_all_lt u q; rw [e2] at this; exact lt_irrefl _ this
    · have u2 := up_drop u (plc l h)
      rw [hd] at u2
      have := (Up.cons.1 u2).1 r q
      rw [e, e2] at this; exact lt_irrefl _ this
  · rintro ⟨q, e2⟩
    have : r ∈ l.take (plc l h) ++ l.drop (plc l h) := by rw [List.take_append_drop]; exact q
    rcases List.mem_append.1 this with q | q
    · exact List.mem_append.2 (.inl q)
    · rw [hd] at q
      rcases List.mem_cons.1 q with q | q
      · rw [q] at e2; exact absurd e e2
      · exact List.mem_append.2 (.inr q)
/-- At a place. -/
def inB (l : List Rw) (i : Int) : Bool := decide (0 ≤ i) && decide (i < l.length)
def atH (l : List Rw) (i : Int) : Bs := if inB l i = true then (l.getD i.toNat ([], 0)).1 else []
def atN (l : List Rw) (i : Int) : Int := if inB l i = true then (l.getD i.toNat ([], 0)).2 else 0
theorem inB_nat (l : List Rw) (i : Nat) (h : i < l.length) : inB l i = true := by simp [inB]; omega
theorem at_nat {l : List Rw} {i : Nat} (h : i < l.length) : atH l i = l[i].1 ∧ atN l i = l[i].2 := by
  simp [atH, atN, inB_nat l i h, h]
end Go.Proofs.YtncahpbjbgcnbaaGreatDoor.IX
/-
  PLAIN: blocks of a call's own, behind callees that leave what is below alone.
-/
namespace Go.Proofs.YtncahpbjbgcnbaaGreatDoor
open Go.RowKit
set_option maxRecDepth 100000
set_option linter.unusedVariables false

theorem bAl {w W : World} (h : Below w.heap.size w W) (o : Obj) : Below w.heap.size w (W.alloc o) := h.alloc h.size o
theorem bThen {w W W1 : World} (h : Below w.heap.size w W) (k : Below W.heap.size W W1) : Below w.heap.size w W1 := h.trans (k.mono h.size)
theorem bDrew {w W : World} (h : Below w.heap.size w W) (n : Nat) : Below w.heap.size w (W.drewN n) := h.trans ⟨rfl, rfl, rfl, Nat.le_refl _, fun _ _ => rfl⟩
theorem bStore {w W : World} (h : Below w.heap.size w W) {p : Addr} (hp : w.heap.size ≤ p.block) (x : Value) : Below w.heap.size w (W.setCell p x) := h.setCell hp _
/-- Block B, older than what W makes next, holds these cells, and may be written. -/
structure AtC (W : World) (B : Nat) (C : Array Value) : Prop where
  lt : B < W.heap.size
  c : ∀ i, W.cell? ⟨B, i, none⟩ = C[i]?
  f : ∀ i, W.frozen? ⟨B, i, none⟩ = false
theorem AtC.new (w : World) (C : Array Value) (T : TypeId) : AtC (w.alloc (.cells C T)) w.heap.size C :=
  ⟨by simp, fun i => World.cell?_alloc_at _ _ _ _ rfl, fun i => World.frozen?_alloc_at _ _ _ _ rfl⟩
theorem AtC.newAt {w : World} {B : Nat} {C : Array Value} {T : TypeId} (h : B = w.heap.size) : AtC (w.alloc (.cells C T)) B C := h ▸ AtC.new w C T
theorem AtC.then {W W1 : World} {B : Nat} {C : Array Value} (h : AtC W B C) (k : Below W.heap.size W W1) : AtC W1 B C :=
  ⟨Nat.lt_of_lt_of_le h.lt k.size, fun i => by rw [k.cell h.lt]; exact h.c i, fun i => by rw [k.frozen h.lt]; exact h.f i⟩
theorem AtC.al {W : World} {B : Nat} {C : Array Value} (h : AtC W B C) (o : Obj) : AtC (W.alloc o) B C := h.then (bAl (Below.refl _ _) o)
theorem AtC.drew1 {W : World} {B : Nat} {C : Array Value} (h : AtC W B C) : AtC W.drew B C := ⟨h.lt, h.c, h.f⟩
theorem AtC.set {W : World} {B : Nat} {C : Array Value} (h : AtC W B C) {i : Nat} (hi : i < C.size) (v : Value) : AtC (W.setCell ⟨B, i, none⟩ v) B (C.setIfInBounds i v) := by
  refine ⟨by simp [World.setCell]; exact h.lt, fun j => ?_, fun j => by simp; exact h.f j⟩
  by_cases e : i = j
  · subst e
    have h1 : W.cell? ⟨B, i, none⟩ = some C[i] := by rw [h.c i]; simp [hi]
    rw [World.cell?_setCell_same _ _ _ h1]
    simp [hi]
  · have n0 : (⟨B, i, none⟩ : Addr) ≠ ⟨B, j, none⟩ := fun x => e (by injection x)
    rw [World.cell?_setCell_other (h := n0), h.c j, Array.getElem?_setIfInBounds_ne e]
theorem AtC.store {W : World} {B : Nat} {C : Array Value} (h : AtC W B C) {p : Addr} (hp : p.block ≠ B) (v : Value) : AtC (W.setCell p v) B C := by
  refine ⟨by simp [World.setCell]; exact h.lt, fun j => ?_, fun j => by simp; exact h.f j⟩
  have n0 : p ≠ ⟨B, j, none⟩ := fun x => hp (by rw [x])
  rw [World.cell?_setCell_other (h := n0)]; exact h.c j
set_option maxHeartbeats 2000000 in
/-- A whole object stored. -/
theorem AtC.fill {W : World} {B : Nat} {C : Array Value} (h : AtC W B C) (hC : C.size = 14) (v0 v1 v2 v3 v4 v5 v6 v7 v8 v9 v10 v11 v12 v13 : Value) :
    AtC ((((((((((((((W.setCell ⟨B, 0, none⟩ v0).setCell ⟨B, 1, none⟩ v1).setCell ⟨B, 2, none⟩ v2).setCell ⟨B, 3, none⟩ v3).setCell ⟨B, 4, none⟩ v4).setCell ⟨B, 5, none⟩ v5).setCell ⟨B, 6, none⟩ v6).setCell ⟨B, 7, none⟩ v7).setCell ⟨B, 8, none⟩ v8).setCell ⟨B, 9, none⟩ v9).setCell ⟨B, 10, none⟩ v10).setCell ⟨B, 11, none⟩ v11).setCell ⟨B, 12, none⟩ v12).setCell ⟨B, 13, none⟩ v13) B #[v0, v1, v2, v3, v4, v5, v6, v7, v8, v9, v10, v11, v12, v13] := by
  have e : ((((((((((((((C.setIfInBounds 0 v0).setIfInBounds 1 v1).setIfInBounds 2 v2).setIfInBounds 3 v3).setIfInBounds 4 v4).setIfInBounds 5 v5).setIfInBounds 6 v6).setIfInBounds 7 v7).setIfInBounds 8 v8).setIfInBounds 9 v9).setIfInBounds 10 v10).setIfInBounds 11 v11).setIfInBounds 12 v12).setIfInBounds 13 v13) = #[v0, v1, v2, v3, v4, v5, v6, v7, v8, v9, v10, v11, v12, v13] := by
    obtain ⟨l⟩ := C
    match l, hC with
    | [_, _, _, _, _, _, _, _, _, _, _, _, _, _], _ => simp only [List.setIfInBounds_toArray, List.set_cons_zero, List.set_cons_succ]
  rw [← e]
  exact (AtC.set (AtC.set (AtC.set (AtC.set (AtC.set (AtC.set (AtC.set (AtC.set (AtC.set (AtC.set (AtC.set (AtC.set (AtC.set (AtC.set h (i := 0) (by simp [hC]) v0) (i := 1) (by simp [hC]) v1) (i := 2) (by simp [hC]) v2) (i := 3) (by simp [hC]) v3) (i := 4) (by simp [hC]) v4) (i := 5) (by simp [hC]) v5) (i := 6) (by simp [hC]) v6) (i := 7) (by simp [hC]) v7) (i := 8) (by simp [hC]) v8) (i := 9) (by simp [hC]) v9) (i := 10) (by simp [hC]) v10) (i := 11) (by simp [hC]) v11) (i := 12) (by simp [hC]) v12) (i := 13) (by simp [hC]) v13)
theorem bFill {w W : World} {B : Nat} (h : Below w.heap.size w W) (hB : w.heap.size ≤ B) (v0 v1 v2 v3 v4 v5 v6 v7 v8 v9 v10 v11 v12 v13 : Value) : Below w.heap.size w ((((((((((((((W.setCell ⟨B, 0, none⟩ v0).setCell ⟨B, 1, none⟩ v1).setCell ⟨B, 2, none⟩ v2).setCell ⟨B, 3, none⟩ v3).setCell ⟨B, 4, none⟩ v4).setCell ⟨B, 5, none⟩ v5).setCell ⟨B, 6, none⟩ v6).setCell ⟨B, 7, none⟩ v7).setCell ⟨B, 8, none⟩ v8).setCell ⟨B, 9, none⟩ v9).setCell ⟨B, 10, none⟩ v10).setCell ⟨B, 11, none⟩ v11).setCell ⟨B, 12, none⟩ v12).setCell ⟨B, 13, none⟩ v13) := (bStore (bStore (bStore (bStore (bStore (bStore (bStore (bStore (bStore (bStore (bStore (bStore (bStore (bStore h (p := ⟨B, 0, none⟩) hB v0) (p := ⟨B, 1, none⟩) hB v1) (p := ⟨B, 2, none⟩) hB v2) (p := ⟨B, 3, none⟩) hB v3) (p := ⟨B, 4, none⟩) hB v4) (p := ⟨B, 5, none⟩) hB v5) (p := ⟨B, 6, none⟩) hB v6) (p := ⟨B, 7, none⟩) hB v7) (p := ⟨B, 8, none⟩) hB v8) (p := ⟨B, 9, none⟩) hB v9) (p := ⟨B, 10, none⟩) hB v10) (p := ⟨B, 11, none⟩) hB v11) (p := ⟨B, 12, none⟩) hB v12) (p := ⟨B, 13, none⟩) hB v13)
theorem keepD {W0 W W1 : World} {C : Prop} (h : C ∧ Below W0.heap.size W0 W) (k : Below W.heap.size W W1) : Below W0.heap.size W0 W1 := bThen h.2 k
end Go.Proofs.YtncahpbjbgcnbaaGreatDoor
/-
  WALKS: isLetter, isLater, letter; May of the program and of the document's answer: both say 'mayB s' of any string s, and write nothing that was there.
-/
namespace Go.Proofs.YtncahpbjbgcnbaaGreatDoor.HL
open Go.RowKit
set_option maxRecDepth 100000
set_option linter.unusedVariables false

theorem isLetter_any (r : Int) (w : World) : Calls Tryz.prog 73 #[.int .i32 r] w fun e w' => e = .returned (.bool (ltrI r)) ∧ w = w' := by
  by_cases h1 : 97 ≤ r
  · by_cases h2 : r ≤ 122
    · have H := ltrI_t.2 ⟨h1, h2⟩
      go_enter Tryz.func73, Tryz.ntmps73
      go_wp2
      go_ret
      first | exact ⟨rfl, rfl⟩ | exact ⟨by rw [H]; rfl, rfl⟩
    · have H : ltrI r = false := ltrI_f.2 (fun h => h2 h.2)
      go_enter Tryz.func73, Tryz.ntmps73
      go_wp2
      go_ret
      first | exact ⟨rfl, rfl⟩ | exact ⟨by rw [H]; rfl, rfl⟩
  · have H : ltrI r = false := ltrI_f.2 (fun h => h1 h.1)
    go_enter Tryz.func73, Tryz.ntmps73
    go_wp2
    go_ret
    first | exact ⟨rfl, rfl⟩ | exact ⟨by rw [H]; rfl, rfl⟩

theorem letter_any (r : Int) (w : World) : Calls Tryz.prog 98 #[.int .u8 r] w fun e w' => e = .returned (.bool (ltrI r)) ∧ w = w' := by
  by_cases h1 : 97 ≤ r
  · by_cases h2 : r ≤ 122
    · have H := ltrI_t.2 ⟨h1, h2⟩
      go_enter Tryz.func98, Tryz.ntmps98
      go_wp2
      go_ret
      first | exact ⟨rfl, rfl⟩ | exact ⟨by rw [H]; rfl, rfl⟩
    · have H : ltrI r = false := ltrI_f.2 (fun h => h2 h.2)
      go_enter Tryz.func98, Tryz.ntmps98
      go_wp2
      go_ret
      first | exact ⟨rfl, rfl⟩ | exact ⟨by rw [H]; rfl, rfl⟩
  · have H : ltrI r = false := ltrI_f.2 (fun h => h1 h.1)
    go_enter Tryz.func98, Tryz.ntmps98
    go_wp2
    go_ret
    first | exact ⟨rfl, rfl⟩ | exact ⟨by rw [H]; rfl, rfl⟩

set_option maxHeartbeats 400000 in
theorem isLater_any (r : Int) (w : World) : Calls Tryz.prog 74 #[.int .i32 r] w fun e w' => e = .returned (.bool (latI r)) ∧ w = w' := by
  by_cases h0 : ltrI r = true
  · have H : latI r = true := latI_t.2 (.inl (ltrI_t.1 h0))
    go_enter Tryz.func74, Tryz.ntmps74
    go_wp2_with (go_at_call 73; refine (isLetter_any _ _).mono ?_; rintro e w' ⟨rfl, rfl⟩)
    go_ret
    first | exact ⟨rfl, rfl⟩ | exact ⟨by rw [H]; rfl, rfl⟩
  · have h0 : ltrI r = false := by simpa using h0
    have n0 := ltrI_f.1 h0
    have HN := Hid (latI r = true)
    by_cases h1 : 48 ≤ r ∧ r ≤ 57
    · obtain ⟨h1, h2⟩ := h1
      have H : latI r = true := latI_t.2 (.inr (.inl ⟨h1, h2⟩))
      clear n0
      go_enter Tryz.func74, Tryz.ntmps74
      go_wp2_with (go_at_call 73; refine (isLetter_any _ _).mono ?_; rintro e w' ⟨rfl, rfl⟩)
      go_ret
      first | exact ⟨rfl, rfl⟩ | exact ⟨by rw [H]; rfl, rfl⟩
    · by_cases h3 : r = 46
      · subst h3
        clear n0 h1
        go_enter Tryz.func74, Tryz.ntmps74
        go_wp2_with (go_at_call 73; refine (isLetter_any _ _).mono ?_; rintro e w' ⟨rfl, rfl⟩)
        go_ret
        exact ⟨rfl, rfl⟩
      · by_cases h4 : r = 95
        · subst h4
          clear n0 h1
          go_enter Tryz.func74, Tryz.ntmps74
          go_wp2_with (go_at_call 73; refine (isLetter_any _ _).mono ?_; rintro e w' ⟨rfl, rfl⟩)
          go_ret
          exact ⟨rfl, rfl⟩
        · by_cases h5 : r = 45
          · subst h5
            clear n0 h1
            go_enter Tryz.func74, Tryz.ntmps74
            go_wp2_with (go_at_call 73; refine (isLetter_any _ _).mono ?_; rintro e w' ⟨rfl, rfl⟩)
            go_ret
            exact ⟨rfl, rfl⟩
          · have H : latI r = false := latI_f.2 (by omega)
            have b3 : (r == 46) = false := by simpa using h3
            have b4 : (r == 95) = false := by simpa using h4
            have b5 : (r == 45) = false := by simpa using h5
            have hd : 48 ≤ r → 57 < r := by omega
            clear n0 h3 h4 h5
            by_cases h6 : 48 ≤ r
            · have h7 := hd h6
              have h8 : decide (r ≤ 57) = false := by simp; omega
              clear h1 hd
              go_enter Tryz.func74, Tryz.ntmps74
              go_wp2_with (go_at_call 73; refine (isLetter_any _ _).mono ?_; rintro e w' ⟨rfl, rfl⟩)
              go_ret
              first | exact ⟨rfl, rfl⟩ | exact ⟨by rw [H]; rfl, rfl⟩
            · clear h1 hd
              go_enter Tryz.func74, Tryz.ntmps74
              go_wp2_with (go_at_call 73; refine (isLetter_any _ _).mono ?_; rintro e w' ⟨rfl, rfl⟩)
              go_ret
              first | exact ⟨rfl, rfl⟩ | exact ⟨by rw [H]; rfl, rfl⟩

/-- What the string's iterator hands over at place k: the sign that stands there, or a rune above all ASCII ones. -/
theorem next_at (s : ByteArray) (k : Nat) (h : k < s.size) (w : World) :
    ∃ c wd : Nat, (∀ ty, (Instr.next (.pointer (some ⟨w.heap.size, 0, none⟩)) true ty).run Tryz.prog (w.iter s k) = .ok (.tuple #[.bool true, .int .i64 k, .int .i32 c]) (w.iter s (k + wd))) ∧
      ((c = bt s k ∧ wd = 1) ∨ (128 ≤ c ∧ 128 ≤ bt s k)) := by
  by_cases ha : (s[k]'h).toNat < 128
  · refine ⟨bt s k, 1, fun ty => ?_, .inl ⟨rfl, rfl⟩⟩
    rw [← bt_get s k h]
    exact run_next_ascii w s k ty h ha
  · have hh := decode_high s k h (by omega)
    refine ⟨(Utf8.decode s k).1, (Utf8.decode s k).2, fun ty => run_next_any w s k ty h, .inr ⟨hh.1, by rw [← bt_get s k h]; omega⟩⟩

theorem empty_t {s : ByteArray} (h : s.size = 0) : s.toList = [] := by
  rw [ByteArray.toList_eq]
  exact List.eq_nil_of_length_eq_zero (by simpa using h)
theorem empty_f {s : ByteArray} (h : s.size ≠ 0) : s.toList.isEmpty = false := by
  rw [ByteArray.toList_eq, List.isEmpty_eq_false_iff]
  intro e
  have : s.data.toList.length = 0 := by rw [e]; rfl
  exact h (by simpa using this)

set_option maxHeartbeats 1000000 in
theorem may_any (s : ByteArray) (w : World) (hs : s.size ≤ maxLen) : Calls Tryz.prog 55 #[.string s] w fun e w' => e = .returned (.bool (mayB s)) ∧ Below w.heap.size w w' := by
  unfold maxLen at hs
  by_cases h0 : s.size = 0
  · have HN := Lib.hid (no_len (s := s) (by omega))
    have he := empty_t h0
    have he' : s.toList.isEmpty = true := by rw [he]; rfl
    clear h0
    go_enter Tryz.func55, Tryz.ntmps55
    go_wp2
    go_ret
    exact ⟨by rw [HN.out]; rfl, Below.refl _ _⟩
  · have he := empty_f h0
    by_cases h16 : 16 < s.size
    · have HN := Lib.hid (no_len (s := s) (by omega))
      go_enter Tryz.func55, Tryz.ntmps55
      go_wp2
      go_ret
      exact ⟨by rw [HN.out]; rfl, Below.refl _ _⟩
    · go_enter Tryz.func55, Tryz.ntmps55
      go_wp2
      go_loopw [3] (fun b w' => ∃ (k : Nat) (p : Nat), w' = w.iter s k ∧ b = .int .i32 p ∧ k ≤ s.size ∧ Hid (p = prev s k) ∧ MayTo s k) (fun _ w' => s.size - w'.iterPos w.heap.size)
      case atStart => exact ⟨0, 0, rfl, rfl, Nat.zero_le _, Lib.hid (by simp [prev]), MayTo.zero s⟩
      case round =>
        obtain ⟨k, p, rfl, rfl, hk, HP, HT⟩ := hrel
        by_cases hlt : k < s.size
        · obtain ⟨c, wd, hnx, hc⟩ := next_at s k hlt w
          have HC := Lib.hid hc
          clear hc
          -- the round's ways: which tests say what
          have key : (k = 0 ∧ ltrI c = false ∧ mayB s = false) ∨ (0 < k ∧ latI c = false ∧ mayB s = false) ∨
              (0 < k ∧ latI c = true ∧ c = 46 ∧ p = 46 ∧ mayB s = false) ∨
              ((k = 0 → ltrI c = true) ∧ latI c = true ∧ (c = 46 → p ≠ 46 ∧ 0 < k) ∧ wd = 1 ∧ c = bt s k ∧ MayTo s (k + 1)) := by
            have hp := HP.out
            rcases HC.out with ⟨hc, hw⟩ | ⟨hc, hb⟩
            · subst hc
              by_cases hk0 : k = 0
              · subst hk0
                by_cases hl : ltrI (bt s 0) = true
                · have hl2 : latI (bt s 0) = true := latI_t.2 (.inl (ltrI_t.1 hl))
                  have h46 : bt s 0 ≠ 46 := by have := ltrI_t.1 hl; omega
                  exact .inr (.inr (.inr ⟨fun _ => hl, hl2, fun h => absurd h h46, hw, rfl, HT.step (fun _ => hl) hl2 (fun h => h46 h.1)⟩))
                · have hl : ltrI (bt s 0) = false := by simpa using hl
                  exact .inl ⟨rfl, hl, no_ltr hl⟩
              · by_cases hl : latI (bt s k) = true
                · by_cases h46 : bt s k = 46 ∧ p = 46
                  · exact .inr (.inr (.inl ⟨by omega, hl, h46.1, h46.2, no_dots hlt h46.1 (by omega)⟩))
                  · exact .inr (.inr (.inr ⟨fun h => absurd h hk0, hl, fun h => ⟨fun h2 => h46 ⟨h, h2⟩, by omega⟩, hw, rfl, HT.step (fun h => absurd h hk0) hl (fun h => h46 ⟨h.1, by omega⟩)⟩))
                · have hl : latI (bt s k) = false := by simpa using hl
                  exact .inr (.inl ⟨by omega, hl, no_lat hlt hl⟩)
            · have hl : latI (bt s k) = false := latI_f.2 (by omega)
              by_cases hk0 : k = 0
              · exact .inl ⟨hk0, ltrI_f.2 (by omega), no_lat hlt hl⟩
              · exact .inr (.inl ⟨by omega, latI_f.2 (by omega), no_lat hlt hl⟩)
          clear HC
          rcases key with ⟨hk0, h1, h2⟩ | ⟨hk0, h1, h2⟩ | ⟨hk0, h1, h2, h3, h4⟩ | ⟨h1, h2, h3, h4, h5, h6⟩
          · subst hk0
            have HN := Lib.hid h2
            clear h2
            go_wp2_with (first | (go_at_call 73; refine (isLetter_any _ _).mono ?_; rintro e w' ⟨rfl, rfl⟩) | (go_at_call 74; refine (isLater_any _ _).mono ?_; rintro e w' ⟨rfl, rfl⟩))
            go_ret
            exact ⟨by rw [HN.out]; rfl, (Below.refl _ _).alloc (Nat.le_refl _) _⟩
          · have HN := Lib.hid h2
            have hkb : ((k : Int) == 0) = false := by simp; omega
            clear h2
            go_wp2_with (first | (go_at_call 73; refine (isLetter_any _ _).mono ?_; rintro e w' ⟨rfl, rfl⟩) | (go_at_call 74; refine (isLater_any _ _).mono ?_; rintro e w' ⟨rfl, rfl⟩))
            go_ret
            exact ⟨by rw [HN.out]; rfl, (Below.refl _ _).alloc (Nat.le_refl _) _⟩
          · subst h2 h3
            have HN := Lib.hid h4
            have hkb : ((k : Int) == 0) = false := by simp; omega
            clear h4
            go_wp2_with (first | (go_at_call 73; refine (isLetter_any _ _).mono ?_; rintro e w' ⟨rfl, rfl⟩) | (go_at_call 74; refine (isLater_any _ _).mono ?_; rintro e w' ⟨rfl, rfl⟩))
            go_ret
            exact ⟨by rw [HN.out]; rfl, (Below.refl _ _).alloc (Nat.le_refl _) _⟩
          · subst h4
            have HB := Lib.hid h5
            have HT6 := Lib.hid h6
            clear h5 h6 HT
            have hrel' : ∃ (k1 : Nat) (p1 : Nat), w.iter s (k + 1) = w.iter s k1 ∧ Value.int .i32 (c : Int) = .int .i32 p1 ∧ k1 ≤ s.size ∧ Hid (p1 = prev s k1) ∧ MayTo s k1 :=
              ⟨k + 1, c, rfl, rfl, by omega, Lib.hid (by rw [HB.out]; simp [prev]), HT6.out⟩
            have HR := Lib.hid hrel'
            clear hrel'
            by_cases hk0 : k = 0
            · subst hk0
              have hl := h1 rfl
              have hc46 : ((c : Int) == 46) = false := by
                have : c ≠ 46 := fun h => by have := (h3 h).2; omega
                simp; omega
              clear h1 h3
              go_wp2_with (first | (go_at_call 73; refine (isLetter_any _ _).mono ?_; rintro e w' ⟨rfl, rfl⟩) | (go_at_call 74; refine (isLater_any _ _).mono ?_; rintro e w' ⟨rfl, rfl⟩))
              go_roundw
              case rel => exact HR.out
              case measure => simp; omega
            · have hkb : ((k : Int) == 0) = false := by simp; omega
              by_cases hc : c = 46
              · subst hc
                have hp46 : ((p : Int) == 46) = false := by have := (h3 rfl).1; simp; omega
                clear h1 h3
                go_wp2_with (first | (go_at_call 73; refine (isLetter_any _ _).mono ?_; rintro e w' ⟨rfl, rfl⟩) | (go_at_call 74; refine (isLater_any _ _).mono ?_; rintro e w' ⟨rfl, rfl⟩))
                go_roundw
                case rel => exact HR.out
                case measure => simp; omega
              · have hc46 : ((c : Int) == 46) = false := by simp; omega
                clear h1 h3 hc
                go_wp2_with (first | (go_at_call 73; refine (isLetter_any _ _).mono ?_; rintro e w' ⟨rfl, rfl⟩) | (go_at_call 74; refine (isLater_any _ _).mono ?_; rintro e w' ⟨rfl, rfl⟩))
                go_roundw
                case rel => exact HR.out
                case measure => simp; omega
        · have hks : k = s.size := by omega
          subst hks
          have hnx : ∀ ty, (Instr.next (.pointer (some ⟨w.heap.size, 0, none⟩)) true ty).run Tryz.prog (w.iter s s.size) = _ := fun ty => run_next_end w s s.size ty hlt
          have HT' := Lib.hid HT
          clear HT
          by_cases hp : p = 46
          · subst hp
            have HN := Lib.hid (no_end (s := s) HP.out.symm)
            go_wp2
            go_ret
            exact ⟨by rw [HN.out]; rfl, (Below.refl _ _).alloc (Nat.le_refl _) _⟩
          · have HN := Lib.hid (mayB_t (HT'.out.done (by omega) (by omega) (by rw [← HP.out]; exact hp)))
            have hp' : ((p : Int) != 46) = true := by rw [bne_iff_ne]; omega
            go_wp2
            go_ret
            exact ⟨by rw [HN.out]; rfl, (Below.refl _ _).alloc (Nat.le_refl _) _⟩
end Go.Proofs.YtncahpbjbgcnbaaGreatDoor.HL
/-
  WALK: the document's May: it says 'mayB s' of any string s, and writes nothing.
-/
namespace Go.Proofs.YtncahpbjbgcnbaaGreatDoor.HL
open Go.RowKit
set_option maxRecDepth 100000
set_option linter.unusedVariables false

set_option maxHeartbeats 1000000 in
theorem refMay_any (s : ByteArray) (w : World) (hs : s.size ≤ maxLen) : Calls Tryz.prog 89 #[.string s] w fun e w' => e = .returned (.bool (mayB s)) ∧ w = w' := by
  unfold maxLen at hs
  by_cases h0 : s.size = 0
  · have HN := Lib.hid (no_len (s := s) (by omega))
    have h1 : decide ((s.size : Int) < 1) = true := by simp; omega
    have h0' : s.size < 1 := by omega
    clear h0
    go_enter Tryz.func89, Tryz.ntmps89
    go_wp2
    go_ret
    exact ⟨by rw [HN.out]; rfl, rfl⟩
  · by_cases h16 : 16 < s.size
    · have HN := Lib.hid (no_len (s := s) (by omega))
      have h0' : 1 ≤ s.size := by omega
      clear h0
      go_enter Tryz.func89, Tryz.ntmps89
      go_wp2
      go_ret
      exact ⟨by rw [HN.out]; rfl, rfl⟩
    · have h0' : 0 < s.size := by omega
      have h1' : 1 ≤ s.size := by omega
      have h16' : s.size ≤ 16 := by omega
      clear h0 h16
      have g0 := bt_get s 0 h0'
      by_cases hl : ltrI (bt s 0) = true
      · have hl0 : ltrI ((s[0]'h0').toNat : Int) = true := by rw [g0]; exact hl
        have HL := Lib.hid hl
        clear g0 hl
        go_enter Tryz.func89, Tryz.ntmps89
        go_wp2_with (go_at_call 98; refine (letter_any _ _).mono ?_; rintro e w' ⟨rfl, rfl⟩)
        go_loop [3] (fun i => ∃ k : Nat, i = .int .i64 k ∧ 1 ≤ k ∧ k ≤ s.size ∧ RefTo s k) (fun i => s.size - (intOf i).toNat)
        case atStart => exact ⟨1, rfl, Nat.le_refl _, h1', RefTo.one HL.out⟩
        case round =>
          obtain ⟨k, rfl, hk1, hk, HT⟩ := hrel
          clear HL hl0
          have HS := Lib.hid HT
          clear HT
          by_cases hlt : k < s.size
          · have HG := Lib.hid (bt_get s k hlt)
            have hu := (s[k]'hlt).toNat_lt
            by_cases h46 : bt s k = 46
            · have e46 : (((s[k]'hlt).toNat : Int) == 46) = true := by rw [HG.out, h46]; rfl
              have n46 : (((s[k]'hlt).toNat : Int) != 46) = false := by rw [HG.out, h46]; rfl
              have d2 : (s[k]'hlt).toNat < 48 := by rw [HG.out]; omega
              have hl : ltrI ((s[k]'hlt).toNat : Int) = false := by rw [HG.out]; exact ltrI_f.2 (by omega)
              have H46 := Lib.hid h46
              clear h46
              by_cases hend : k + 1 = s.size
              · have hb : ((k : Int) == (s.size : Int) - 1) = true := by simp; omega
                have HN := Lib.hid (no_end' (s := s) (by rw [← hend]; exact H46.out))
                clear hend
                go_wp2_with (go_at_call 98; refine (letter_any _ _).mono ?_; rintro e w' ⟨rfl, rfl⟩)
                go_ret
                exact ⟨by rw [HN.out]; rfl, rfl⟩
              · have hb : ((k : Int) == (s.size : Int) - 1) = false := by simp; omega
                have hlt1 : k + 1 < s.size := by omega
                have hg1 := bt_get s (k + 1) hlt1
                by_cases h2 : bt s (k + 1) = 46
                · have e2 : (((s[k + 1]'hlt1).toNat : Int) == 46) = true := by rw [hg1, h2]; rfl
                  have HN := Lib.hid (no_two hlt1 H46.out h2)
                  clear hend hg1 h2
                  go_wp2_with (go_at_call 98; refine (letter_any _ _).mono ?_; rintro e w' ⟨rfl, rfl⟩)
                  go_ret
                  exact ⟨by rw [HN.out]; rfl, rfl⟩
                · have e2 : (((s[k + 1]'hlt1).toNat : Int) == 46) = false := by rw [hg1]; simp; omega
                  have HR := Lib.hid (HS.out.step (latI_t.2 (by have := H46.out; omega)) (fun _ => ⟨hlt1, h2⟩))
                  clear hend hg1 h2
                  go_wp2_with (go_at_call 98; refine (letter_any _ _).mono ?_; rintro e w' ⟨rfl, rfl⟩)
                  go_round
                  case rel => exact ⟨k + 1, by go_num, by omega, by omega, HR.out⟩
                  case measure => simp [intOf]; omega
            · have e46 : (((s[k]'hlt).toNat : Int) == 46) = false := by rw [HG.out]; simp; omega
              have n46 : (((s[k]'hlt).toNat : Int) != 46) = true := by rw [HG.out, bne_iff_ne]; omega
              by_cases hl : ltrI (bt s k) = true
              · have hl' : ltrI ((s[k]'hlt).toNat : Int) = true := by rw [HG.out]; exact hl
                have HR := Lib.hid (HS.out.step (latI_t.2 (.inl (ltrI_t.1 hl))) (fun h => absurd h h46))
                have d3 : 57 < (s[k]'hlt).toNat := by have := ltrI_t.1 hl; rw [HG.out]; omega
                clear h46 hl
                go_wp2_with (go_at_call 98; refine (letter_any _ _).mono ?_; rintro e w' ⟨rfl, rfl⟩)
                go_round
                case rel => exact ⟨k + 1, by go_num, by omega, by omega, HR.out⟩
                case measure => simp [intOf]; omega
              · have hl : ltrI (bt s k) = false := by simpa using hl
                have hl' : ltrI ((s[k]'hlt).toNat : Int) = false := by rw [HG.out]; exact hl
                by_cases hd : 48 ≤ bt s k ∧ bt s k ≤ 57
                · have HR := Lib.hid (HS.out.step (latI_t.2 (by omega)) (fun h => absurd h h46))
                  have d1 : 48 ≤ (s[k]'hlt).toNat := by rw [HG.out]; omega
                  have d2 : (s[k]'hlt).toNat ≤ 57 := by rw [HG.out]; omega
                  clear h46 hl hd
                  go_wp2_with (go_at_call 98; refine (letter_any _ _).mono ?_; rintro e w' ⟨rfl, rfl⟩)
                  go_round
                  case rel => exact ⟨k + 1, by go_num, by omega, by omega, HR.out⟩
                  case measure => simp [intOf]; omega
                · by_cases ha : latI (bt s k) = true
                  · have HR := Lib.hid (HS.out.step ha (fun h => absurd h h46))
                    by_cases h95 : bt s k = 95
                    · have d1 : 57 < (s[k]'hlt).toNat := by rw [HG.out]; omega
                      have n95 : (((s[k]'hlt).toNat : Int) != 95) = false := by rw [HG.out, h95]; rfl
                      clear h46 hl hd ha h95
                      go_wp2_with (go_at_call 98; refine (letter_any _ _).mono ?_; rintro e w' ⟨rfl, rfl⟩)
                      go_round
                      case rel => exact ⟨k + 1, by go_num, by omega, by omega, HR.out⟩
                      case measure => simp [intOf]; omega
                    · have h45 : bt s k = 45 := by have := latI_t.1 ha; have := ltrI_f.1 hl; omega
                      have d1 : (s[k]'hlt).toNat < 48 := by rw [HG.out]; omega
                      have n95 : (((s[k]'hlt).toNat : Int) != 95) = true := by rw [HG.out, bne_iff_ne]; omega
                      have n45 : (((s[k]'hlt).toNat : Int) != 45) = false := by rw [HG.out, h45]; rfl
                      clear h46 hl hd ha h95 h45
                      go_wp2_with (go_at_call 98; refine (letter_any _ _).mono ?_; rintro e w' ⟨rfl, rfl⟩)
                      go_round
                      case rel => exact ⟨k + 1, by go_num, by omega, by omega, HR.out⟩
                      case measure => simp [intOf]; omega
                  · have ha : latI (bt s k) = false := by simpa using ha
                    have HN := Lib.hid (no_lat hlt ha)
                    have nn := latI_f.1 ha
                    have n95 : (((s[k]'hlt).toNat : Int) != 95) = true := by rw [HG.out, bne_iff_ne]; omega
                    have n45 : (((s[k]'hlt).toNat : Int) != 45) = true := by rw [HG.out, bne_iff_ne]; omega
                    by_cases hdd : 48 ≤ bt s k
                    · have d1 : 57 < (s[k]'hlt).toNat := by rw [HG.out]; omega
                      have d8 : decide (((s[k]'hlt).toNat : Int) ≤ 57) = false := by simp; omega
                      clear h46 hl hd ha nn hdd
                      go_wp2_with (go_at_call 98; refine (letter_any _ _).mono ?_; rintro e w' ⟨rfl, rfl⟩)
                      go_ret
                      exact ⟨by rw [HN.out]; rfl, rfl⟩
                    · have d1 : (s[k]'hlt).toNat < 48 := by rw [HG.out]; omega
                      clear h46 hl hd ha nn hdd
                      go_wp2_with (go_at_call 98; refine (letter_any _ _).mono ?_; rintro e w' ⟨rfl, rfl⟩)
                      go_ret
                      exact ⟨by rw [HN.out]; rfl, rfl⟩
          · have hks : k = s.size := by omega
            subst hks
            have HN := Lib.hid (mayB_t (HS.out.done h1' h16'))
            go_wp2
            go_ret
            exact ⟨by rw [HN.out]; rfl, rfl⟩
      · have hl : ltrI (bt s 0) = false := by simpa using hl
        have hl0 : ltrI ((s[0]'h0').toNat : Int) = false := by rw [g0]; exact hl
        have HN := Lib.hid (no_ltr hl)
        clear g0 hl
        go_enter Tryz.func89, Tryz.ntmps89
        go_wp2_with (go_at_call 98; refine (letter_any _ _).mono ?_; rintro e w' ⟨rfl, rfl⟩)
        go_ret
        exact ⟨by rw [HN.out]; rfl, rfl⟩
end Go.Proofs.YtncahpbjbgcnbaaGreatDoor.HL
/-
  WALK: the document's Compare, and the program's: both give the order of the two texts' bytes.
-/
namespace Go.Proofs.YtncahpbjbgcnbaaGreatDoor.HL
open Go.RowKit
set_option maxRecDepth 100000
set_option linter.unusedVariables false

theorem drop_cons (s : ByteArray) (k : Nat) (h : k < s.size) : s.data.toList.drop k = (s[k]'h) :: s.data.toList.drop (k + 1) := by
  have h2 : k < s.data.toList.length := by simpa using h
  rw [List.drop_eq_getElem_cons h2]
  rfl
theorem drop_all (s : ByteArray) (k : Nat) (h : ¬ k < s.size) : s.data.toList.drop k = [] := by
  apply List.drop_eq_nil_of_le
  simp; omega

/-- w' is w but for draws. -/
def Dr (w w' : World) : Prop := ∃ n, w' = w.drewN n
theorem Dr.refl (w : World) : Dr w w := ⟨0, rfl⟩
theorem Dr.one (w : World) (a : Nat) : Dr w (w.drewN a) := ⟨a, rfl⟩
theorem Dr.two (w : World) (a b : Nat) : Dr w ((w.drewN a).drewN b) := ⟨_, World.drewN_drewN _ _ _⟩
theorem Dr.three (w : World) (a b c : Nat) : Dr w (((w.drewN a).drewN b).drewN c) := ⟨_, by rw [World.drewN_drewN, World.drewN_drewN]⟩
theorem Dr.below {w w' : World} (h : Dr w w') (B : Nat) : Below B w w' := by
  obtain ⟨n, rfl⟩ := h
  exact ⟨rfl, rfl, rfl, Nat.le_refl _, fun _ _ => rfl⟩

theorem compare_any (a b : ByteArray) (w : World) : Calls Tryz.prog 34 #[.string a, .string b] w fun e w' => e = .returned (.int .i64 (Lib.compareBytes a.data.toList b.data.toList)) ∧ w = w' := by
  go_enter Tryz.func34, Tryz.ntmps34
  go_wp2_with (go_at_call 53; refine (Tryz.strings_Compare _ _ _).mono ?_; rintro e w' ⟨rfl, rfl⟩)
  go_ret
  exact ⟨rfl, rfl⟩

set_option maxHeartbeats 1000000 in
theorem refCompare_any (a b : ByteArray) (w : World) (ha : a.size ≤ maxLen) (hb : b.size ≤ maxLen) :
    Calls Tryz.prog 40 #[.string a, .string b] w fun e w' => e = .returned (.int .i64 (Lib.compareBytes a.data.toList b.data.toList)) ∧ Dr w w' := by
  unfold maxLen at ha hb
  go_enter Tryz.func40, Tryz.ntmps40
  go_wp2
  go_loopw [5] (fun i w' => ∃ k : Nat, i = .int .i64 k ∧ Dr w w' ∧ k ≤ a.size ∧ k ≤ b.size ∧ Lib.compareBytes a.data.toList b.data.toList = Lib.compareBytes (a.data.toList.drop k) (b.data.toList.drop k)) (fun i _ => a.size - (intOf i).toNat)
  case atStart => exact ⟨0, rfl, Dr.refl w, Nat.zero_le _, Nat.zero_le _, by simp⟩
  case round =>
    obtain ⟨k, rfl, ⟨n, rfl⟩, hka, hkb, hc⟩ := hrel
    have HC := Lib.hid hc
    clear hc
    by_cases h1 : k < a.size
    · by_cases h2 : k < b.size
      · have HA := Lib.hid (drop_cons a k h1)
        have HB := Lib.hid (drop_cons b k h2)
        have i1 : (k : Int) < (a.size : Int) := by omega
        have i2 : (k : Int) < (b.size : Int) := by omega
        by_cases hl : (a[k]'h1).toNat < (b[k]'h2).toNat
        · have hl2 : decide ((a[k]'h1).toNat < (b[k]'h2).toNat) = true := by simp; omega
          have HV : Hid (Lib.compareBytes a.data.toList b.data.toList = -1) := Lib.hid (by
            rw [HC.out, HA.out, HB.out, Lib.compareBytes, if_pos (UInt8.lt_iff_toNat_lt.2 hl)])
          clear HC HA HB
          go_wp2
          go_quiet (fail)
          go_wp2
          go_ret
          exact ⟨by rw [HV.out]; rfl, by first | exact Dr.one _ _ | exact Dr.two _ _ _ | exact Dr.three _ _ _ _ | exact Dr.refl _⟩
        · have hl2 : decide ((a[k]'h1).toNat < (b[k]'h2).toNat) = false := by simp; omega
          by_cases hg : (b[k]'h2).toNat < (a[k]'h1).toNat
          · have HV : Hid (Lib.compareBytes a.data.toList b.data.toList = 1) := Lib.hid (by
              rw [HC.out, HA.out, HB.out, Lib.compareBytes, if_neg (fun h => hl (UInt8.lt_iff_toNat_lt.1 h)), if_pos (UInt8.lt_iff_toNat_lt.2 hg)])
            have hg2 : decide ((b[k]'h2).toNat < (a[k]'h1).toNat) = true := by simp; omega
            clear HC HA HB hl
            go_wp2
            go_quiet (fail)
            go_wp2
            go_quiet (fail)
            go_wp2
            go_ret
            exact ⟨by rw [HV.out]; rfl, by first | exact Dr.one _ _ | exact Dr.two _ _ _ | exact Dr.three _ _ _ _ | exact Dr.refl _⟩
          · have HR : Hid (Lib.compareBytes a.data.toList b.data.toList = Lib.compareBytes (a.data.toList.drop (k + 1)) (b.data.toList.drop (k + 1))) := Lib.hid (by
              rw [HC.out, HA.out, HB.out, Lib.compareBytes, if_neg (fun h => hl (UInt8.lt_iff_toNat_lt.1 h)), if_neg (fun h => hg (UInt8.lt_iff_toNat_lt.1 h))])
            have hg2 : decide ((b[k]'h2).toNat < (a[k]'h1).toNat) = false := by simp; omega
            clear HC HA HB hl hg
            go_wp2
            go_quiet (fail)
            go_wp2
            go_quiet (fail)
            go_wp2
            go_roundw
            case rel => exact ⟨k + 1, by go_num, by first | exact Dr.one _ _ | exact Dr.two _ _ _ | exact Dr.three _ _ _ _ | exact Dr.refl _, by omega, by omega, HR.out⟩
            case measure => simp [intOf]; omega
      · have e2 : k = b.size := by omega
        subst e2
        have HA := Lib.hid (drop_cons a b.size h1)
        have HB := Lib.hid (drop_all b b.size h2)
        have HV : Hid (Lib.compareBytes a.data.toList b.data.toList = 1) := Lib.hid (by rw [HC.out, HA.out, HB.out, Lib.compareBytes])
        have i1 : (b.size : Int) < (a.size : Int) := by omega
        have d1 : decide (a.size < b.size) = false := by simp; omega
        clear HC HA HB h2
        go_wp2
        go_ret
        exact ⟨by rw [HV.out]; rfl, by first | exact Dr.one _ _ | exact Dr.two _ _ _ | exact Dr.three _ _ _ _ | exact Dr.refl _⟩
    · have e1 : k = a.size := by omega
      subst e1
      have HA := Lib.hid (drop_all a a.size h1)
      have d0 : decide (a.size < a.size) = false := by simp
      clear h1
      by_cases h2 : a.size < b.size
      · have HB := Lib.hid (drop_cons b a.size h2)
        have HV : Hid (Lib.compareBytes a.data.toList b.data.toList = -1) := Lib.hid (by rw [HC.out, HA.out, HB.out, Lib.compareBytes])
        have i1 : (a.size : Int) < (b.size : Int) := by omega
        clear HC HA HB
        go_wp2
        go_ret
        exact ⟨by rw [HV.out]; rfl, by first | exact Dr.one _ _ | exact Dr.two _ _ _ | exact Dr.three _ _ _ _ | exact Dr.refl _⟩
      · have HB := Lib.hid (drop_all b a.size h2)
        have HV : Hid (Lib.compareBytes a.data.toList b.data.toList = 0) := Lib.hid (by rw [HC.out, HA.out, HB.out, Lib.compareBytes])
        have d1 : decide (a.size < b.size) = false := by simp; omega
        have d2 : decide (b.size < a.size) = false := by simp; omega
        clear HC HA HB
        go_wp2
        go_ret
        exact ⟨by rw [HV.out]; rfl, by first | exact Dr.one _ _ | exact Dr.two _ _ _ | exact Dr.three _ _ _ _ | exact Dr.refl _⟩
end Go.Proofs.YtncahpbjbgcnbaaGreatDoor.HL
/-
  A slice that reads as a list of strings; the document's Same.
-/
namespace Go.Proofs.YtncahpbjbgcnbaaGreatDoor.HL
open Go.RowKit
set_option maxRecDepth 100000
set_option linter.unusedVariables false

/-- A string, its bytes given. -/
abbrev str (x : List UInt8) : Value := .string ⟨x.toArray⟩
/-- The cells from address A on, below block B, read as the strings xs. -/
def Strs (w : World) (B : Nat) (A : Option Addr) (xs : List (List UInt8)) : Prop :=
  xs = [] ∨ ∃ b off, A = some ⟨b, off, none⟩ ∧ b < B ∧ ∀ j x, xs[j]? = some x → w.cell? ⟨b, off + j, none⟩ = some (str x)
theorem Strs.nil_ (w : World) (B : Nat) (A : Option Addr) : Strs w B A [] := .inl rfl
theorem Strs.at_ {w : World} {B : Nat} {A : Option Addr} {xs : List (List UInt8)} (h : Strs w B A xs) (h0 : 0 < xs.length) :
    ∃ b off, A = some ⟨b, off, none⟩ ∧ b < B ∧ ∀ j x, xs[j]? = some x → w.cell? ⟨b, off + j, none⟩ = some (str x) := by
  rcases h with rfl | h
  · simp at h0
  · exact h
theorem Strs.keep {w w' : World} {B : Nat} {A : Option Addr} {xs : List (List UInt8)} (h : Strs w B A xs) (hk : ∀ b o, b < B → w'.cell? ⟨b, o, none⟩ = w.cell? ⟨b, o, none⟩) : Strs w' B A xs := by
  rcases h with h | ⟨b, off, e, hb, hc⟩
  · exact .inl h
  · exact .inr ⟨b, off, e, hb, fun j x hx => (hk _ _ hb).trans (hc j x hx)⟩
theorem Strs.below {w w' : World} {B : Nat} {A : Option Addr} {xs : List (List UInt8)} (h : Strs w B A xs) (hb : Below B w w') : Strs w' B A xs := h.keep fun b o hlt => hb.cell (p := ⟨b, o, none⟩) hlt
theorem Strs.more {w : World} {B B' : Nat} {A : Option Addr} {xs : List (List UInt8)} (h : Strs w B A xs) (hB : B ≤ B') : Strs w B' A xs := by
  rcases h with h | ⟨b, off, e, hb, hc⟩
  · exact .inl h
  · exact .inr ⟨b, off, e, by omega, hc⟩

theorem strs_open {w : World} {a : Addr} {len cap : Nat} {ss : List ByteArray} (hl : len ≤ cap) (hm : cap ≤ maxLen) (hz : ss.length = cap) (hcell : ∀ i, i < ss.length → w.cell? (a.add i) = some (.string (ss.getD i ByteArray.empty))) (hws : ∀ s ∈ ss, s.size ≤ maxLen) :
    ∃ xs, Strs w w.heap.size (some a) xs ∧ xs.length = len ∧ xs.length ≤ maxLen ∧ (∀ x ∈ xs, x.length ≤ maxLen) ∧ xs.length ≤ cap := by
  refine ⟨(ss.take len).map (·.data.toList), ?_, by simp; omega, by simp; omega, ?_, by simp; omega⟩
  · by_cases h0 : len = 0
    · subst h0; exact .inl (by simp)
    · have c0 := hcell 0 (by omega)
      obtain ⟨b, off, spot⟩ := a
      have hspot : spot = none := by simpa [Addr.add] using World.cell?_spot c0
      subst hspot
      refine .inr ⟨b, off, rfl, by simpa [Addr.add] using World.block_lt_of_cell? w _ c0, fun j x hx => ?_⟩
      have hj : j < len := by
        have := (List.getElem?_eq_some_iff.1 hx).1
        simp at this; omega
      have hc := hcell j (by omega)
      have hadd : (⟨b, off, none⟩ : Addr).add j = ⟨b, off + j, none⟩ := by unfold Addr.add; split <;> simp_all
      rw [hadd] at hc
      rw [hc]
      have hj2 : j < ss.length := by omega
      rw [List.getElem?_map, List.getElem?_take, if_pos hj, List.getElem?_eq_getElem hj2] at hx
      simp only [Option.map_some, Option.some.injEq] at hx
      rw [List.getD_eq_getElem?_getD, List.getElem?_eq_getElem hj2, ← hx]
      rfl
  · intro x hx
    obtain ⟨s, hs, rfl⟩ := List.mem_map.1 hx
    have := hws s (List.mem_of_mem_take hs)
    simpa using this

theorem take_step {xs ys : List (List UInt8)} {k : Nat} (h1 : k < xs.length) (h2 : k < ys.length) (h : xs.take k = ys.take k) (he : xs[k] = ys[k]) : xs.take (k + 1) = ys.take (k + 1) := by
  rw [List.take_succ_eq_append_getElem h1, List.take_succ_eq_append_getElem h2, h, he]

noncomputable def sameB (xs ys : List (List UInt8)) : Bool := @decide (xs = ys) (Classical.propDecidable _)
theorem sameB_t {xs ys : List (List UInt8)} (h : xs = ys) : sameB xs ys = true := by simp [sameB, h]
theorem sameB_f {xs ys : List (List UInt8)} (h : xs ≠ ys) : sameB xs ys = false := by simp [sameB, h]

set_option maxHeartbeats 1000000 in
theorem same_any (A1 A2 : Option Addr) (c1 c2 : Nat) (xs ys : List (List UInt8)) (w : World) (B : Nat) (h1 : Strs w B A1 xs) (h2 : Strs w B A2 ys) (hn : xs.length ≤ maxLen) (hm : ys.length ≤ maxLen) :
    Calls Tryz.prog 21 #[.slice A1 xs.length c1, .slice A2 ys.length c2] w fun e w' => e = .returned (.bool (sameB xs ys)) ∧ Dr w w' := by
  unfold maxLen at hn hm
  by_cases hl : xs.length = ys.length
  · have hlb : ((xs.length : Int) != (ys.length : Int)) = false := by simp [hl]
    have HL := Lib.hid hl
    clear hl
    go_enter Tryz.func21, Tryz.ntmps21
    go_wp2
    go_loopw [5] (fun i w' => ∃ k : Nat, i = .int .i64 k ∧ Dr w w' ∧ k ≤ xs.length ∧ xs.take k = ys.take k) (fun i _ => xs.length - (intOf i).toNat)
    case atStart => exact ⟨0, rfl, Dr.refl w, Nat.zero_le _, by simp⟩
    case round =>
      obtain ⟨k, rfl, ⟨n, rfl⟩, hk, ht⟩ := hrel
      have HT := Lib.hid ht
      clear ht
      by_cases hlt : k < xs.length
      · have hlt2 : k < ys.length := by rw [← HL.out]; exact hlt
        obtain ⟨b1, o1, rfl, _, hc1⟩ := h1.at_ (by omega)
        obtain ⟨b2, o2, rfl, _, hc2⟩ := h2.at_ (by omega)
        have hx1 := hc1 k _ (List.getElem?_eq_getElem hlt)
        have hx2 := hc2 k _ (List.getElem?_eq_getElem hlt2)
        have i1 : (k : Int) < (xs.length : Int) := by omega
        have i2 : (k : Int) < (ys.length : Int) := by omega
        clear hc1 hc2 h1 h2
        by_cases he : xs[k] = ys[k]
        · have HR := Lib.hid (take_step hlt hlt2 HT.out he)
          have hb : (xs[k] == ys[k]) = true := by simpa using he
          clear he
          go_wp2
          go_quiet (fail)
          go_wp2
          go_roundw
          case rel => exact ⟨k + 1, by go_num, by first | exact Dr.one _ _ | exact Dr.two _ _ _ | exact Dr.three _ _ _ _ | exact Dr.refl _, by omega, HR.out⟩
          case measure => simp [intOf]; omega
        · have hb : (xs[k] == ys[k]) = false := by simpa using he
          have HV := Lib.hid (sameB_f (xs := xs) (ys := ys) (fun h => he (by simp [h])))
          clear he
          go_wp2
          go_quiet (fail)
          go_wp2
          go_ret
          exact ⟨by rw [HV.out]; rfl, by first | exact Dr.one _ _ | exact Dr.two _ _ _ | exact Dr.three _ _ _ _ | exact Dr.refl _⟩
      · have hks : k = xs.length := by omega
        subst hks
        have HV := Lib.hid (sameB_t (xs := xs) (ys := ys) (by
          have := HT.out
          rw [List.take_of_length_le (Nat.le_refl _), HL.out, List.take_of_length_le (Nat.le_refl _)] at this
          exact this))
        go_wp2
        go_ret
        exact ⟨by rw [HV.out]; rfl, by first | exact Dr.one _ _ | exact Dr.two _ _ _ | exact Dr.three _ _ _ _ | exact Dr.refl _⟩
  · have hlb : ((xs.length : Int) != (ys.length : Int)) = true := by rw [bne_iff_ne]; omega
    have HV := Lib.hid (sameB_f (xs := xs) (ys := ys) (fun h => hl (by rw [h])))
    clear hl
    go_enter Tryz.func21, Tryz.ntmps21
    go_wp2
    go_ret
    exact ⟨by rw [HV.out]; rfl, Dr.refl _⟩
end Go.Proofs.YtncahpbjbgcnbaaGreatDoor.HL
