/-
  PLAIN: the fault of an object out of those of its two parts; one field spoilt.
-/
import Derived.Test.YtljgokdhdbgdbaaDoorOAwakeMath
import Derived.Test.YtljgokdhdbgdbaaDoorOParts
namespace Go.Proofs.YtljgokdhdbgdbaaDoor
open Go.RowKit
set_option maxRecDepth 100000
set_option linter.unusedVariables false
set_option linter.unusedSimpArgs false

theorem faultP_zero {o : Ob} {whole : Bool} (h : faultP o whole = 0) : fitsB o = true ∧ HL.mayB o.handle = true ∧ (whole = true → namedB o = true) ∧ countsObB o = true ∧ orderedB o = true ∧ (whole = true → o.has = true → hasB o.lo o.hi o.value = true) := by
  unfold faultP at h
  by_cases h1 : fitsB o = false
  · rw [if_pos h1] at h; cases h
  · rw [if_neg h1] at h
    by_cases h2 : HL.mayB o.handle = false ∨ (whole = true ∧ namedB o = false)
    · rw [if_pos h2] at h; cases h
    · rw [if_neg h2] at h
      by_cases h3 : countsObB o = false
      · rw [if_pos h3] at h; cases h
      · rw [if_neg h3] at h
        by_cases h4 : orderedB o = false ∨ (whole = true ∧ o.has = true ∧ hasB o.lo o.hi o.value = false)
        · rw [if_pos h4] at h; cases h
        · refine ⟨by simpa using h1, ?_, ?_, by simpa using h3, ?_, ?_⟩
          · cases q : HL.mayB o.handle with
            | true => rfl
            | false => exact absurd (.inl q) h2
          · intro a
            cases q : namedB o with
            | true => rfl
            | false => exact absurd (.inr ⟨a, q⟩) h2
          · cases q : orderedB o with
            | true => rfl
            | false => exact absurd (.inl q) h4
          · intro a b
            cases q : hasB o.lo o.hi o.value with
            | true => rfl
            | false => exact absurd (.inr ⟨a, b, q⟩) h4
theorem fits_true (o : Ob) : fitsB o = true ↔ (kindB o.kind = true ∧ trimOf o = o ∧ o.typ ≤ 3 ∧ o.assoc ≤ 3) := by
  constructor
  · intro h
    have hn : ¬ fitsB o = false := by rw [h]; simp
    rw [fits_iff] at hn
    refine ⟨?_, ?_, ?_, ?_⟩
    · cases q : kindB o.kind with
      | true => rfl
      | false => exact absurd (.inl q) hn
    · exact Classical.byContradiction fun q => hn (.inr (.inl q))
    · exact Classical.byContradiction fun q => hn (.inr (.inr (.inl (by omega))))
    · exact Classical.byContradiction fun q => hn (.inr (.inr (.inr (by omega))))
  · rintro ⟨a, b, c, d⟩; exact fits_of a b c d
theorem ite_keep {α : Type} {c : Prop} [Decidable c] {x z : α} : (if c then x else z) = x ↔ (¬ c → z = x) := by by_cases h : c <;> simp [h]
theorem ite_drop {α : Type} {c : Prop} [Decidable c] {x z : α} : (if c then z else x) = x ↔ (c → z = x) := by by_cases h : c <;> simp [h]
/-- What trimOf o = o says. -/
def TrimP (k : Nat) (p : ByteArray) (t : Nat) (r : ByteArray) (lo hi : Int) (d : Nat) (on has : Bool) (v lw hg : Int) (a : Nat) : Prop :=
  (k = 1 → (⟨#[]⟩ : ByteArray) = p) ∧ (¬ (k = 6 ∨ k = 8 ∨ k = 9) → 0 = t) ∧ (¬ (k = 6 ∨ k = 7 ∨ k = 8) → (⟨#[]⟩ : ByteArray) = r) ∧ (¬ k = 4 → 0 = lo) ∧ (¬ k = 4 → 0 = hi) ∧ (¬ k = 4 → 0 = d) ∧
  (¬ (k = 5 ∨ k = 6 ∨ k = 7 ∨ k = 8) → false = on) ∧ (¬ k = 4 → false = has) ∧ (¬ k = 4 → 0 = v) ∧ (¬ k = 8 → 0 = lw) ∧ (¬ k = 8 → 0 = hg) ∧ (¬ k = 9 → 0 = a)
theorem trim_P (xh : ByteArray) (k : Nat) (p : ByteArray) (t : Nat) (r : ByteArray) (lo hi : Int) (d : Nat) (on has : Bool) (v lw hg : Int) (a : Nat) :
    trimOf ⟨xh, k, p, t, r, lo, hi, d, on, has, v, lw, hg, a⟩ = ⟨xh, k, p, t, r, lo, hi, d, on, has, v, lw, hg, a⟩ ↔ TrimP k p t r lo hi d on has v lw hg a := by
  unfold TrimP trimOf
  rw [Ob.mk.injEq]
  dsimp only
  rw [ite_drop, ite_keep, ite_keep, ite_keep, ite_keep, ite_keep, ite_keep, ite_keep, ite_keep, ite_keep, ite_keep, ite_keep]
  simp only [true_and]
theorem trim_iff (o : Ob) : trimOf o = o ↔ TrimP o.kind o.parent o.typ o.ref o.lo o.hi o.digits o.on o.has o.value o.low o.high o.assoc := trim_P o.handle o.kind o.parent o.typ o.ref o.lo o.hi o.digits o.on o.has o.value o.low o.high o.assoc
theorem trim_parts (o : Ob) : trimOf o = o ↔ (trimOf (stateOf o zeroOb) = stateOf o zeroOb ∧ trimOf (descOf o zeroOb) = descOf o zeroOb) := by
  rw [trim_iff, trim_iff, trim_iff]
  constructor
  · rintro ⟨a1, a2, a3, a4, a5, a6, a7⟩
    exact ⟨⟨a1, a2, a3, a4, a5, a6, fun _ => rfl, fun _ => rfl, fun _ => rfl, fun _ => rfl, fun _ => rfl, fun _ => rfl⟩, fun _ => rfl, fun _ => rfl, fun _ => rfl, fun _ => rfl, fun _ => rfl, fun _ => rfl, a7⟩
  · rintro ⟨⟨a1, a2, a3, a4, a5, a6, _⟩, _, _, _, _, _, _, a7⟩
    exact ⟨a1, a2, a3, a4, a5, a6, a7⟩
theorem fits_parts (o : Ob) : fitsB o = true ↔ (fitsB (stateOf o zeroOb) = true ∧ fitsB (descOf o zeroOb) = true) := by
  rw [fits_true, fits_true, fits_true, trim_parts]
  simp only [stateOf, descOf, zeroOb]
  constructor
  · rintro ⟨a, ⟨b, c⟩, d, e⟩; exact ⟨⟨a, b, d, by omega⟩, a, c, by omega, e⟩
  · rintro ⟨⟨a, b, d, _⟩, _, c, _, e⟩; exact ⟨a, ⟨b, c⟩, d, e⟩
theorem counts_true (o : Ob) : countsObB o = true ↔ (mayB o.lo = true ∧ mayB o.hi = true ∧ mayB o.value = true ∧ mayB o.low = true ∧ mayB o.high = true ∧ o.digits ≤ 6 ∧ (o.has || o.value == 0) = true) := by
  unfold countsObB
  simp only [Bool.and_eq_true, decide_eq_true_eq, and_assoc]
theorem counts_parts (o : Ob) : countsObB o = true ↔ (countsObB (stateOf o zeroOb) = true ∧ countsObB (descOf o zeroOb) = true) := by
  have h0 : mayB 0 = true := by decide
  rw [counts_true, counts_true, counts_true]
  constructor
  · rintro ⟨a, b, c, d, e, f, g⟩
    exact ⟨⟨a, b, h0, h0, h0, f, rfl⟩, h0, h0, c, d, e, Nat.zero_le _, g⟩
  · rintro ⟨⟨a, b, _, _, _, f, _⟩, _, _, c, d, e, _, g⟩
    exact ⟨a, b, c, d, e, f, g⟩
theorem order_parts (o : Ob) : orderedB o = true ↔ (orderedB (stateOf o zeroOb) = true ∧ orderedB (descOf o zeroOb) = true) := by
  have h0 : (spanE 0 0 == 0) = true := by decide
  simp only [orderedB, stateOf, descOf, zeroOb, h0]
  cases (spanE o.lo o.hi == 0) <;> cases (spanE o.low o.high == 0) <;> simp
theorem both_fine {o : Ob} (h : faultP o true = 0) : faultP (stateOf o zeroOb) true = 0 ∧ faultP (descOf o zeroOb) false = 0 := by
  obtain ⟨a, b, c, d, e, f⟩ := faultP_zero h
  exact ⟨faultP_ok ((fits_parts o).1 a).1 b c ((counts_parts o).1 d).1 ((order_parts o).1 e).1 (fun _ q => by cases q),
    faultP_ok ((fits_parts o).1 a).2 b (fun q => by cases q) ((counts_parts o).1 d).2 ((order_parts o).1 e).2 (fun q => by cases q)⟩
theorem both_only {o : Ob} (h1 : faultP (stateOf o zeroOb) true = 0) (h2 : faultP (descOf o zeroOb) false = 0) : faultP o true = if o.has = true ∧ (o.value < o.lo ∨ o.hi < o.value) then 30 else 0 := by
  obtain ⟨a, b, c, d, e, _⟩ := faultP_zero h1
  obtain ⟨a2, _, _, d2, e2, _⟩ := faultP_zero h2
  have hf := (fits_parts o).2 ⟨a, a2⟩
  have hc := (counts_parts o).2 ⟨d, d2⟩
  have ho := (order_parts o).2 ⟨e, e2⟩
  have hn : namedB o = true := c rfl
  have hm : HL.mayB o.handle = true := b
  by_cases hx : o.has = true ∧ (o.value < o.lo ∨ o.hi < o.value)
  · rw [if_pos hx]
    unfold faultP
    rw [if_neg (by simp [hf]), if_neg (by simp [hm, hn]), if_neg (by simp [hc]), if_pos (.inr ⟨rfl, hx.1, (has_iff _ _ _).2 hx.2⟩)]
  · rw [if_neg hx]
    exact faultP_ok hf hm (fun _ => hn) hc ho (fun _ q => by
      cases z : hasB o.lo o.hi o.value with
      | true => rfl
      | false => exact absurd ⟨q, (has_iff _ _ _).1 z⟩ hx)
end Go.Proofs.YtljgokdhdbgdbaaDoor
