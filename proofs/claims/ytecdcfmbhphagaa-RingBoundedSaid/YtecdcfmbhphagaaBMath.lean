/-
  PLAIN: a ring: what was put in; what is kept; what is read; what may be put in.
-/
import Derived.Test.YtecdcfmbhphagaaBEn
import Derived.Test.YtecdcfmbhphagaaUMath
namespace Go.Proofs.Ytecdcfmbhphagaa.BX
open UX (mayS ofS mayS_iff ofS_ahead may_bd)
set_option maxRecDepth 100000
set_option linter.unusedVariables false
set_option linter.unusedSimpArgs false

/-- A ring: its handle, how many are kept at most, all that was put in (the first one first). -/
structure Rg where
  h : ByteArray
  size : Nat
  all : List (Int × En)
def neverE (h : ByteArray) : En := ⟨h, false, zeroOb, 0, 0⟩
/-- What is kept, from the last one on. -/
def kept (g : Rg) : List (Int × En) := (g.all.drop (g.all.length - g.size)).reverse
theorem kept_len (g : Rg) : (kept g).length = min g.all.length g.size := by simp [kept]; omega
theorem kept_at {g : Rg} {k : Nat} (h : k < min g.all.length g.size) : (kept g)[k]? = g.all[g.all.length - 1 - k]? := by
  unfold kept
  rw [List.getElem?_reverse (by simp; omega), List.getElem?_drop]
  congr 1
  simp
  omega
def lastV (g : Rg) : Int := (g.all.getLast?.map (·.1)).getD 0
def lastE (g : Rg) : En := (g.all.getLast?.map (·.2)).getD (neverE g.h)
def isL (g : Rg) : Bool := !g.all.isEmpty
theorem last_nil {g : Rg} (h : g.all = []) : lastV g = 0 ∧ lastE g = neverE g.h ∧ isL g = false := by simp [lastV, lastE, isL, h]
theorem last_snoc {g : Rg} {l : List (Int × En)} {x : Int × En} (h : g.all = l ++ [x]) : lastV g = x.1 ∧ lastE g = x.2 ∧ isL g = true := by simp [lastV, lastE, isL, h]
theorem kept_nil {g : Rg} (h : g.all = []) : kept g = [] := by simp [kept, h]
theorem kept_snoc {g : Rg} {l : List (Int × En)} {x : Int × En} (h : g.all = l ++ [x]) (hs : 1 ≤ g.size) : kept g = x :: kept ⟨g.h, g.size - 1, l⟩ := by
  unfold kept
  rw [h]
  simp only [List.length_append, List.length_cons, List.length_nil]
  rw [show l.length + 1 - g.size = l.length - (g.size - 1) by omega, List.drop_append_of_le_length (by omega), List.reverse_append]
  rfl
/-- What is read at a version. -/
def atR (g : Rg) (v : Int) : En × Int :=
  if v < 0 then (zeroEn, 2) else match (kept g).find? (fun x => decide (x.1 ≤ v)) with
    | some x => (x.2, 0)
    | none => if g.size < g.all.length then (zeroEn, 160) else (neverE g.h, 0)
def followsB (g : Rg) (v : Int) : Bool := decide (0 ≤ v) && (decide (v ≤ 1048576) && (!isL g || decide (lastV g < v)))
noncomputable def ownB (h : ByteArray) (e : En) : Bool := if e.there then (e.handle.toList == h.toList) && (e.o.handle.toList == h.toList) else (e.handle.toList == h.toList) && eqOb e.o zeroOb
def growsB (g : Rg) (e : En) : Bool := mayS e.desc e.state && decide (ofS (lastE g).desc (lastE g).state e.desc e.state = 1)
noncomputable def putB (g : Rg) (v : Int) (e : En) : Bool := followsB g v && ownB g.h e && growsB g e
noncomputable def putG (g : Rg) (v : Int) (e : En) : Rg := if putB g v e then ⟨g.h, g.size, g.all ++ [(v, e)]⟩ else g
noncomputable def putE (g : Rg) (v : Int) (e : En) : Int := if putB g v e then 0 else 2
theorem putG_h (g : Rg) (v : Int) (e : En) : (putG g v e).h = g.h := by unfold putG; split <;> rfl
theorem putG_size (g : Rg) (v : Int) (e : En) : (putG g v e).size = g.size := by unfold putG; split <;> rfl
theorem putG_len (g : Rg) (v : Int) (e : En) : (putG g v e).all.length ≤ g.all.length + 1 := by unfold putG; split <;> simp
abbrev dropN (g : Rg) : Nat := g.all.length - g.size

/-! ## the document's way -/
theorem snoc_ind {α : Type} {P : List α → Prop} (h0 : P []) (h1 : ∀ l x, P l → P (l ++ [x])) (l : List α) : P l := by
  rw [← l.reverse_reverse]
  induction l.reverse with
  | nil => exact h0
  | cons x r ih => rw [List.reverse_cons]; exact h1 _ _ ih
def allAt (h : ByteArray) (l : List (Int × En)) (v : Int) : En × Int := l.zipIdx.foldl (fun r x => if x.1.1 ≤ v then (x.1.2, (x.2 : Int)) else r) (neverE h, -1)
theorem allAt_nil (h : ByteArray) (v : Int) : allAt h [] v = (neverE h, -1) := rfl
theorem allAt_snoc (h : ByteArray) (l : List (Int × En)) (x : Int × En) (v : Int) : allAt h (l ++ [x]) v = if x.1 ≤ v then (x.2, (l.length : Int)) else allAt h l v := by
  unfold allAt
  rw [List.zipIdx_append, List.foldl_append]
  simp
theorem allAt_lt (h : ByteArray) (l : List (Int × En)) (v : Int) : -1 ≤ (allAt h l v).2 ∧ (allAt h l v).2 < l.length := by
  induction l using snoc_ind with
  | h0 => simp [allAt_nil]
  | h1 l x ih =>
    rw [allAt_snoc]
    split
    · constructor <;> simp <;> omega
    · exact ⟨ih.1, by have := ih.2; simp; omega⟩
theorem allAt_none (h : ByteArray) (l : List (Int × En)) (v : Int) : (allAt h l v).2 = -1 → (allAt h l v).1 = neverE h := by
  induction l using snoc_ind with
  | h0 => simp [allAt_nil]
  | h1 l x ih =>
    rw [allAt_snoc]
    split
    · intro e; exfalso; simp at e <;> omega
    · exact ih
theorem allAt_find (h : ByteArray) (l : List (Int × En)) (v : Int) : ∀ k ≤ l.length, match ((l.drop k).reverse.find? (fun x => decide (x.1 ≤ v))) with
    | some x => (allAt h l v).1 = x.2 ∧ (k : Int) ≤ (allAt h l v).2
    | none => (allAt h l v).2 < k := by
  induction l using snoc_ind with
  | h0 => intro k hk; simp at hk; subst hk; simp [allAt_nil]
  | h1 l x ih =>
    intro k hk
    by_cases hk2 : k ≤ l.length
    · rw [List.drop_append_of_le_length hk2, List.reverse_append, allAt_snoc]
      simp only [List.reverse_cons, List.reverse_nil, List.nil_append, List.cons_append, List.find?_cons]
      by_cases hx : x.1 ≤ v
      · simp [hx]; omega
      · simp only [hx, decide_false, if_false]
        exact ih k hk2
    · have e : k = (l ++ [x]).length := by simp at hk ⊢; omega
      rw [e, List.drop_length]
      have := allAt_lt h (l ++ [x]) v
      simp only [List.reverse_nil, List.find?_nil]
      exact this.2
theorem at_all_eq (g : Rg) {v : Int} (hv : 0 ≤ v) : atR g v = if (allAt g.h g.all v).2 < dropN g ∧ 0 < dropN g then (zeroEn, 160) else ((allAt g.h g.all v).1, 0) := by
  have h := allAt_find g.h g.all v (g.all.length - g.size) (by omega)
  have h1 := allAt_lt g.h g.all v
  have h2 := allAt_none g.h g.all v
  unfold atR kept dropN
  rw [if_neg (by omega)]
  cases e : (g.all.drop (g.all.length - g.size)).reverse.find? (fun x => decide (x.1 ≤ v)) with
  | some x =>
    rw [e] at h
    simp only
    rw [if_neg (by omega), h.1]
  | none =>
    rw [e] at h
    simp only
    by_cases hd : g.size < g.all.length
    · rw [if_pos hd, if_pos (by omega)]
    · rw [if_neg hd, if_neg (by omega), h2 (by omega)]

/-! ## steadiness -/
theorem allAt_more (h : ByteArray) (l : List (Int × En)) {v v2 : Int} (e2 : En) (h2 : v < v2) : allAt h (l ++ [(v2, e2)]) v = allAt h l v := by
  rw [allAt_snoc]
  exact if_neg (show ¬ v2 ≤ v by omega)
theorem at_steady {g : Rg} {v v2 : Int} {e2 : En} (hv : 0 ≤ v) (h2 : v < v2) : atR ⟨g.h, g.size, g.all ++ [(v2, e2)]⟩ v = atR g v ∨ (atR ⟨g.h, g.size, g.all ++ [(v2, e2)]⟩ v).2 = 160 := by
  rw [at_all_eq _ hv, at_all_eq _ hv]
  have e : allAt g.h (g.all ++ [(v2, e2)]) v = allAt g.h g.all v := allAt_more _ _ _ h2
  simp only [e]
  have hl : (g.all ++ [(v2, e2)]).length = g.all.length + 1 := by simp
  simp only [dropN, hl]
  by_cases h : (allAt g.h g.all v).2 < ((g.all.length + 1 - g.size : Nat) : Int) ∧ 0 < g.all.length + 1 - g.size
  · right; rw [if_pos h]
  · left; rw [if_neg h, if_neg (by omega)]
theorem gone_steady {g : Rg} {v v2 : Int} {e2 : En} (hv : 0 ≤ v) (h2 : v < v2) (h : (atR g v).2 = 160) : (atR ⟨g.h, g.size, g.all ++ [(v2, e2)]⟩ v).2 = 160 := by
  rw [at_all_eq _ hv] at h ⊢
  have e : allAt g.h (g.all ++ [(v2, e2)]) v = allAt g.h g.all v := allAt_more _ _ _ h2
  simp only [e]
  have hl : (g.all ++ [(v2, e2)]).length = g.all.length + 1 := by simp
  simp only [dropN, hl] at h ⊢
  by_cases h3 : (allAt g.h g.all v).2 < ((g.all.length - g.size : Nat) : Int) ∧ 0 < g.all.length - g.size
  · rw [if_pos (by omega)]
  · rw [if_neg h3] at h; simp at h
end Go.Proofs.Ytecdcfmbhphagaa.BX
