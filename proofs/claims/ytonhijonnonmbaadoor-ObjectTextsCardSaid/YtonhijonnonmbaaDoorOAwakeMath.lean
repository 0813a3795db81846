/-
  PLAIN: the chapter's examples: their faults, and the one's text.
-/
import Derived.Test.YtonhijonnonmbaaDoorOFaultEq
import Derived.Test.YtonhijonnonmbaaDoorOTextMath
namespace Go.Proofs.YtonhijonnonmbaaDoor
open Go.RowKit
set_option maxRecDepth 100000
set_option linter.unusedVariables false
set_option linter.unusedSimpArgs false

def mayC (s : ByteArray) : Bool :=
  decide (1 ≤ s.size) && decide (s.size ≤ 16) && HL.ltrI (HL.bt s 0) && (List.range s.size).all (fun k => HL.latI (HL.bt s k)) && (List.range s.size).all (fun k => decide (k + 1 < s.size → ¬ (HL.bt s k = 46 ∧ HL.bt s (k + 1) = 46))) && decide (HL.bt s (s.size - 1) ≠ 46)
theorem mayB_c (s : ByteArray) : HL.mayB s = mayC s := by
  rw [Bool.eq_iff_iff, HL.mayB_iff]
  unfold mayC HL.MayP
  simp only [Bool.and_eq_true, decide_eq_true_eq, List.all_eq_true, List.mem_range]
  constructor
  · rintro ⟨a, b, c, d, e, f⟩
    exact ⟨⟨⟨⟨⟨a, b⟩, c⟩, d⟩, fun k _ => e k⟩, f⟩
  · rintro ⟨⟨⟨⟨⟨a, b⟩, c⟩, d⟩, e⟩, f⟩
    exact ⟨a, b, c, d, fun k hk => e k (by omega) hk, f⟩
abbrev exM (v : Int) : Ob := ⟨⟨#[109]⟩, 4, ⟨#[99]⟩, 0, ⟨#[]⟩, 0, 100, 1, false, true, v, 0, 0, 0⟩
abbrev exV : Ob := ⟨⟨#[118]⟩, 2, ⟨#[100]⟩, 0, ⟨#[]⟩, 0, 0, 0, true, false, 0, 0, 0, 0⟩
theorem fits_of {o : Ob} (h1 : kindB o.kind = true) (h2 : trimOf o = o) (h3 : o.typ ≤ 3) (h4 : o.assoc ≤ 3) : fitsB o = true := by
  cases h : fitsB o with
  | true => rfl
  | false =>
    rcases (fits_iff o).1 h with k | k | k | k
    · rw [h1] at k; cases k
    · exact absurd h2 k
    · omega
    · omega
theorem exM_fits (v : Int) : fitsB (exM v) = true := fits_of rfl rfl (show 0 ≤ 3 by decide) (show 0 ≤ 3 by decide)
theorem may_m : HL.mayB ⟨#[109]⟩ = true := by rw [mayB_c]; decide +kernel
theorem may_c : HL.mayB ⟨#[99]⟩ = true := by rw [mayB_c]; decide +kernel
theorem exM_named (v : Int) : namedB (exM v) = true := by unfold namedB; simp [may_c, refersB]
theorem faultP_ok {o : Ob} {whole : Bool} (h1 : fitsB o = true) (h2 : HL.mayB o.handle = true) (h3 : whole = true → namedB o = true) (h4 : countsObB o = true) (h5 : orderedB o = true) (h6 : whole = true → o.has = true → hasB o.lo o.hi o.value = true) : faultP o whole = 0 := by
  unfold faultP
  rw [if_neg (by simp [h1]), if_neg, if_neg (by simp [h4]), if_neg]
  · rintro (h | ⟨a, b, c⟩)
    · rw [h5] at h; cases h
    · rw [h6 a b] at c; cases c
  · rintro (h | ⟨a, b⟩)
    · rw [h2] at h; cases h
    · rw [h3 a] at b; cases b
theorem ex1 : faultP (exM 37) true = 0 := faultP_ok (exM_fits 37) may_m (fun _ => exM_named 37) (by decide +kernel) (by decide +kernel) (fun _ _ => by decide +kernel)
theorem ex2 : faultP (exM 101) true = 30 := by
  unfold faultP
  rw [if_neg (by simp [exM_fits]), if_neg (by simp [may_m, exM_named]), if_neg (by decide +kernel), if_pos (.inr ⟨rfl, rfl, by decide +kernel⟩)]
theorem ex3 : faultP (stateOf (exM 101) zeroOb) true = 0 := faultP_ok (fits_of rfl rfl (by decide) (by decide)) may_m (fun _ => by unfold namedB; simp [may_c, refersB, stateOf, exM]) (by decide +kernel) (by decide +kernel) (fun _ h => by cases h)
theorem ex4 : faultP (descOf (exM 101) zeroOb) false = 0 := faultP_ok (fits_of rfl rfl (by decide) (by decide)) may_m (fun h => by cases h) (by decide +kernel) (by decide +kernel) (fun h => by cases h)
theorem ex5 : faultP exV true = 40 := by
  unfold faultP
  rw [if_pos]
  rw [fits_iff]
  refine .inr (.inl fun h => ?_)
  have := congrArg Ob.on h
  exact absurd this (by decide)
theorem dd_small {n : Nat} (h : n < 10) : Lib.decDigits n = [UInt8.ofNat (48 + n)] := Lib.decDigits_one h
theorem itoa_37 : Lib.itoa 37 = [51, 55] := by
  show (if (37 : Int) < 0 then _ else Lib.decDigits 37) = _
  rw [if_neg (by decide), Lib.decDigits_two (by decide) (by decide)]; rfl
theorem itoa_1 : Lib.itoa 1 = [49] := by
  show (if (1 : Int) < 0 then _ else Lib.decDigits 1) = _
  rw [if_neg (by decide), dd_small (by decide)]; rfl
theorem itoa_100 : Lib.itoa 100 = [49, 48, 48] := by
  show (if (100 : Int) < 0 then _ else Lib.decDigits 100) = _
  rw [if_neg (by decide), Lib.decDigits, dif_neg (by decide), Lib.decDigits_two (by decide) (by decide)]; rfl
theorem exM_text : textOf (exM 37) = ⟨#[109, 101, 116, 114, 105, 99, 32, 109, 32, 112, 97, 114, 101, 110, 116, 61, 99, 32, 104, 105, 61, 49, 48, 48, 32, 100, 105, 103, 105, 116, 115, 61, 49, 32, 104, 97, 115, 61, 49, 32, 118, 97, 108, 117, 101, 61, 51, 55]⟩ := by
  have e0 : zB (exM 37) 0 = false := by simp [zB, exM, ByteArray.toList_eq]
  have e2 : zB (exM 37) 2 = true := by simp [zB, exM, ByteArray.toList_eq]
  have f4 : ftext (exM 37) 4 = ⟨#[49, 48, 48]⟩ := by show (⟨(Lib.itoa 100).toArray⟩ : ByteArray) = _; rw [itoa_100]
  have f5 : ftext (exM 37) 5 = ⟨#[49]⟩ := by show (⟨(Lib.itoa 1).toArray⟩ : ByteArray) = _; rw [itoa_1]
  have f7 : ftext (exM 37) 7 = ⟨#[49]⟩ := by show (⟨(Lib.itoa 1).toArray⟩ : ByteArray) = _; rw [itoa_1]
  have f8 : ftext (exM 37) 8 = ⟨#[51, 55]⟩ := by show (⟨(Lib.itoa 37).toArray⟩ : ByteArray) = _; rw [itoa_37]
  unfold textOf
  simp only [textTo, e0, e2, show zB (exM 37) 1 = true from rfl, show zB (exM 37) 3 = true from rfl, show zB (exM 37) 4 = false from rfl, show zB (exM 37) 5 = false from rfl, show zB (exM 37) 6 = true from rfl, show zB (exM 37) 7 = false from rfl, show zB (exM 37) 8 = false from rfl, show zB (exM 37) 9 = true from rfl, show zB (exM 37) 10 = true from rfl, show zB (exM 37) 11 = true from rfl, pieceL, f4, f5, f7, f8]
  rfl
end Go.Proofs.YtonhijonnonmbaaDoor
