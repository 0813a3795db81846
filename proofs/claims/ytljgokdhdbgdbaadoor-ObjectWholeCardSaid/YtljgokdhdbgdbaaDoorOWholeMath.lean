/-
  PLAIN: one field of an object spoilt.
-/
import Derived.Test.YtljgokdhdbgdbaaDoorOBothMath
namespace Go.Proofs.YtljgokdhdbgdbaaDoor
open Go.RowKit
set_option maxRecDepth 100000
set_option linter.unusedVariables false
set_option linter.unusedSimpArgs false

theorem bad40 {x : Ob} (h : kindB x.kind = false ∨ trimOf x ≠ x ∨ 3 < x.typ ∨ 3 < x.assoc) : faultP x true = 40 := by
  unfold faultP; rw [if_pos ((fits_iff x).2 h)]
theorem bad10 {x : Ob} (h1 : fitsB x = true) (h2 : HL.mayB x.handle = false ∨ namedB x = false) : faultP x true = 10 := by
  unfold faultP
  rw [if_neg (by simp [h1]), if_pos (h2.imp_right fun q => ⟨rfl, q⟩)]
theorem bad20 {x : Ob} (h1 : fitsB x = true) (h2 : HL.mayB x.handle = true) (h3 : namedB x = true) (h4 : countsObB x = false) : faultP x true = 20 := by
  unfold faultP
  rw [if_neg (by simp [h1]), if_neg (by simp [h2, h3]), if_pos h4]
theorem may_none : HL.mayB ⟨#[]⟩ = false := by rw [mayB_c]; decide +kernel
theorem may_dot (s : ByteArray) : HL.mayB (s ++ ⟨#[46]⟩) = false := by
  refine HL.mayB_f fun h => h.2.2.2.2.2 ?_
  have h1 : (s ++ (⟨#[46]⟩ : ByteArray)).data.toList = s.data.toList ++ [46] := by rw [ByteArray.data_append]; simp
  have h2 : (s ++ (⟨#[46]⟩ : ByteArray)).size - 1 = s.data.toList.length := by
    have : (s ++ (⟨#[46]⟩ : ByteArray)).size = (s ++ (⟨#[46]⟩ : ByteArray)).data.toList.length := rfl
    rw [this, h1]; simp
  unfold HL.bt
  rw [h1, h2]
  simp
variable {h : ByteArray} {k : Nat} {p : ByteArray} {t : Nat} {r : ByteArray} {lo hi : Int} {d : Nat} {on has : Bool} {v lw hg : Int} {a : Nat}
theorem sp0 : faultP ⟨h, 10, p, t, r, lo, hi, d, on, has, v, lw, hg, a⟩ true = 40 := bad40 (.inl rfl)
theorem sp1 : faultP ⟨h, k, p, 4, r, lo, hi, d, on, has, v, lw, hg, a⟩ true = 40 := bad40 (.inr (.inr (.inl (show 3 < 4 by decide))))
theorem sp2 : faultP ⟨h, k, p, t, r, lo, hi, d, on, has, v, lw, hg, 4⟩ true = 40 := bad40 (.inr (.inr (.inr (show 3 < 4 by decide))))
theorem fits_of_P {o : Ob} (hf : fitsB o = true) {x : Ob} (hk : x.kind = o.kind) (ht : x.typ = o.typ) (ha : x.assoc = o.assoc) (hp : TrimP x.kind x.parent x.typ x.ref x.lo x.hi x.digits x.on x.has x.value x.low x.high x.assoc) : fitsB x = true := by
  obtain ⟨q1, _, q3, q4⟩ := (fits_true o).1 hf
  exact fits_of (by rw [hk]; exact q1) ((trim_iff x).2 hp) (by omega) (by omega)
theorem P_of {o : Ob} (hf : fitsB o = true) : TrimP o.kind o.parent o.typ o.ref o.lo o.hi o.digits o.on o.has o.value o.low o.high o.assoc := (trim_iff o).1 ((fits_true o).1 hf).2.1
theorem sp34 {h' : ByteArray} (hf : faultP ⟨h, k, p, t, r, lo, hi, d, on, has, v, lw, hg, a⟩ true = 0) (hm : HL.mayB h' = false) : faultP ⟨h', k, p, t, r, lo, hi, d, on, has, v, lw, hg, a⟩ true = 10 :=
  bad10 (fits_of_P (faultP_zero hf).1 rfl rfl rfl (P_of (faultP_zero hf).1)) (.inl hm)
theorem sp5a : faultP ⟨h, 1, ⟨#[97]⟩, t, r, lo, hi, d, on, has, v, lw, hg, a⟩ true = 40 := bad40 (.inr (.inl fun q => by
  have := ((trim_P _ _ _ _ _ _ _ _ _ _ _ _ _ _).1 q).1 rfl
  exact absurd (congrArg ByteArray.size this) (by decide)))
theorem sp5b (hf : faultP ⟨h, k, p, t, r, lo, hi, d, on, has, v, lw, hg, a⟩ true = 0) (hk : ¬ k = 1) : faultP ⟨h, k, ⟨#[]⟩, t, r, lo, hi, d, on, has, v, lw, hg, a⟩ true = 10 := by
  have P := P_of (faultP_zero hf).1
  refine bad10 (fits_of_P (faultP_zero hf).1 rfl rfl rfl ⟨fun q => absurd q hk, P.2⟩) (.inr ?_)
  unfold namedB
  simp [may_none, hk]
theorem sp6a (hf : faultP ⟨h, 8, p, t, r, lo, hi, d, on, has, v, lw, hg, a⟩ true = 0) : faultP ⟨h, 8, p, t, r, lo, hi, d, on, has, v, 1000000000000001, hg, a⟩ true = 20 := by
  obtain ⟨q1, q2, q3, _⟩ := faultP_zero hf
  obtain ⟨a1, a2, a3, a4, a5, a6, a7, a8, a9, a10, a11, a12⟩ := P_of q1
  refine bad20 (fits_of_P q1 rfl rfl rfl ⟨a1, a2, a3, a4, a5, a6, a7, a8, a9, fun q => absurd rfl q, a11, a12⟩) q2 (q3 rfl) ?_
  rw [counts_iff]
  exact .inr (.inr (.inr (.inr (.inl (show mayB 1000000000000001 = false by decide)))))
theorem sp6b (hk : ¬ k = 8) : faultP ⟨h, k, p, t, r, lo, hi, d, on, has, v, 1, hg, a⟩ true = 40 := bad40 (.inr (.inl fun q => by
  have := ((trim_P _ _ _ _ _ _ _ _ _ _ _ _ _ _).1 q).2.2.2.2.2.2.2.2.2.1 hk
  exact absurd this (by decide)))
theorem sp7a (hf : faultP ⟨h, 4, p, t, r, lo, hi, d, on, has, v, lw, hg, a⟩ true = 0) : faultP ⟨h, 4, p, t, r, lo, hi, d, on, false, 5, lw, hg, a⟩ true = 20 := by
  obtain ⟨q1, q2, q3, _⟩ := faultP_zero hf
  obtain ⟨a1, a2, a3, a4, a5, a6, a7, a8, a9, a10, a11, a12⟩ := P_of q1
  refine bad20 (fits_of_P q1 rfl rfl rfl ⟨a1, a2, a3, a4, a5, a6, a7, fun q => absurd rfl q, fun q => absurd rfl q, a10, a11, a12⟩) q2 (q3 rfl) ?_
  rw [counts_iff]
  exact .inr (.inr (.inr (.inr (.inr (.inr ⟨rfl, show ¬ (5 : Int) = 0 by decide⟩)))))
theorem sp7b (hk : ¬ k = 4) : faultP ⟨h, k, p, t, r, lo, hi, d, on, has, 5, lw, hg, a⟩ true = 40 := bad40 (.inr (.inl fun q => by
  have := ((trim_P _ _ _ _ _ _ _ _ _ _ _ _ _ _).1 q).2.2.2.2.2.2.2.2.1 hk
  exact absurd this (by decide)))
end Go.Proofs.YtljgokdhdbgdbaaDoor
