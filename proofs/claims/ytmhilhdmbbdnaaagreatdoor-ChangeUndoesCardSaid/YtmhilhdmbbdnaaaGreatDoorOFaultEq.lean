/-
  PLAIN: the program's fault is the document's.
-/
import Derived.Test.YtmhilhdmbbdnaaaGreatDoorOFits
import Derived.Test.YtmhilhdmbbdnaaaGreatDoorOCounts
namespace Go.Proofs.YtmhilhdmbbdnaaaGreatDoor
open Go.RowKit
set_option maxRecDepth 100000
set_option linter.unusedVariables false
set_option linter.unusedSimpArgs false

noncomputable def faultP (o : Ob) (whole : Bool) : Int :=
  if fitsB o = false then 40 else if HL.mayB o.handle = false ∨ (whole = true ∧ namedB o = false) then 10 else if countsObB o = false then 20
  else if orderedB o = false ∨ (whole = true ∧ o.has = true ∧ hasB o.lo o.hi o.value = false) then 30 else 0
theorem fits_iff (o : Ob) : fitsB o = false ↔ (kindB o.kind = false ∨ trimOf o ≠ o ∨ 3 < o.typ ∨ 3 < o.assoc) := by
  unfold fitsB
  cases hk : kindB o.kind with
  | false => simp
  | true =>
    have ht := fits_trim o hk
    cases hm : ((maskTo o 12 &&& (65535 - kindMask o.kind)) == 0) with
    | false =>
      rw [hm] at ht
      have : trimOf o ≠ o := fun h => by have := ht.2 h; cases this
      simp [this]
    | true =>
      rw [hm] at ht
      have : trimOf o = o := ht.1 rfl
      simp [this]
      omega
theorem named_iff (o : Ob) : namedB o = false ↔ ((¬ (o.kind : Int) = 1 ∧ HL.mayB o.parent = false) ∨ (refersB o.kind = true ∧ HL.mayB o.ref = false)) := by
  have : decide (o.kind = 1) = decide ((o.kind : Int) = 1) := by by_cases h : o.kind = 1 <;> simp <;> omega
  unfold namedB
  rw [this]
  by_cases h1 : (o.kind : Int) = 1 <;> cases HL.mayB o.parent <;> cases refersB o.kind <;> cases HL.mayB o.ref <;> simp [h1]
theorem counts_iff (o : Ob) : countsObB o = false ↔ ((6 : Int) < o.digits ∨ mayB o.lo = false ∨ mayB o.hi = false ∨ mayB o.value = false ∨ mayB o.low = false ∨ mayB o.high = false ∨ (o.has = false ∧ ¬ o.value = 0)) := by
  have : decide (o.digits ≤ 6) = !decide ((6 : Int) < o.digits) := by
    by_cases h : o.digits ≤ 6
    · rw [decide_eq_true h, decide_eq_false (by omega)]; rfl
    · rw [decide_eq_false h, decide_eq_true (by omega)]; rfl
  unfold countsObB
  rw [this]
  cases mayB o.lo <;> cases mayB o.hi <;> cases mayB o.value <;> cases mayB o.low <;> cases mayB o.high <;> cases o.has <;> by_cases h : (6 : Int) < o.digits <;> by_cases h2 : o.value = 0 <;> simp [h, h2]
theorem order_iff (o : Ob) (hc : countsObB o = true) : orderedB o = false ↔ (o.hi < o.lo ∨ o.high < o.low) := by
  have h1 : mayB o.lo = true ∧ mayB o.hi = true ∧ mayB o.low = true ∧ mayB o.high = true := by
    unfold countsObB at hc
    simp only [Bool.and_eq_true] at hc
    exact ⟨hc.1.1.1.1.1.1, hc.1.1.1.1.1.2, hc.1.1.1.2, hc.1.1.2⟩
  unfold orderedB
  by_cases a : o.hi < o.lo
  · rw [spanE_3 h1.1 h1.2.1 a]; simp [a]
  · rw [spanE_4 h1.1 h1.2.1 a]
    by_cases b : o.high < o.low
    · rw [spanE_3 h1.2.2.1 h1.2.2.2 b]; simp [b]
    · rw [spanE_4 h1.2.2.1 h1.2.2.2 b]; simp [a, b]
theorem has_iff (a b n : Int) : hasB a b n = false ↔ (n < a ∨ b < n) := by unfold hasB; rw [decide_eq_false_iff_not]; omega
theorem fault_eq (o : Ob) (whole valued : Bool) (hv : valued = whole ∨ o.has = false) : faultP o whole = faultOf o whole valued := by
  unfold faultP faultOf
  by_cases hf : fitsB o = false
  · rw [if_pos hf, if_pos ((fits_iff o).1 hf)]
  · rw [if_neg hf, if_neg (fun h => hf ((fits_iff o).2 h))]
    unfold faultR
    have e10 : (HL.mayB o.handle = false ∨ (whole = true ∧ namedB o = false)) ↔ (HL.mayB o.handle = false ∨ (whole = true ∧ ¬ (o.kind : Int) = 1 ∧ HL.mayB o.parent = false) ∨ (whole = true ∧ refersB o.kind = true ∧ HL.mayB o.ref = false)) := by
      rw [named_iff]; cases whole <;> simp
    by_cases h10 : (HL.mayB o.handle = false ∨ (whole = true ∧ namedB o = false))
    · rw [if_pos h10, if_pos (e10.1 h10)]
    · rw [if_neg h10, if_neg (fun h => h10 (e10.2 h))]
      by_cases hc : countsObB o = false
      · rw [if_pos hc, if_pos ((counts_iff o).1 hc)]
      · rw [if_neg hc, if_neg (fun h => hc ((counts_iff o).2 h))]
        have ho := order_iff o (by simpa using hc)
        have e30 : (orderedB o = false ∨ (whole = true ∧ o.has = true ∧ hasB o.lo o.hi o.value = false)) ↔ (o.hi < o.lo ∨ o.high < o.low ∨ (valued = true ∧ o.has = true ∧ (o.value < o.lo ∨ o.hi < o.value))) := by
          rw [ho, has_iff]
          rcases hv with rfl | hv
          · constructor
            · rintro ((h | h) | h)
              · exact .inl h
              · exact .inr (.inl h)
              · exact .inr (.inr h)
            · rintro (h | h | h)
              · exact .inl (.inl h)
              · exact .inl (.inr h)
              · exact .inr h
          · rw [hv]; simp
        by_cases h30 : (orderedB o = false ∨ (whole = true ∧ o.has = true ∧ hasB o.lo o.hi o.value = false))
        · rw [if_pos h30, if_pos (e30.1 h30)]
        · rw [if_neg h30, if_neg (fun h => h30 (e30.2 h))]
end Go.Proofs.YtmhilhdmbbdnaaaGreatDoor
