/-
  PLAIN: the set of an object's filled fields against its kind's: an object has just its kind's fields iff it is its own trimming.
-/
import Derived.Test.YtmhilhdmbbdnaaaGreatDoorOFilled
import Derived.Test.YtmhilhdmbbdnaaaGreatDoorOFaultDef
import Derived.Test.YtmhilhdmbbdnaaaGreatDoorOTab2
namespace Go.Proofs.YtmhilhdmbbdnaaaGreatDoor
open Go.RowKit
set_option maxRecDepth 100000
set_option linter.unusedVariables false
set_option linter.unusedSimpArgs false

def orIf (z : Bool) (m b : Nat) : Nat := if z then m else m ||| b
def maskZ (z0 z1 z2 z3 z4 z5 z6 z7 z8 z9 z10 z11 : Bool) : Nat := orIf z11 (orIf z10 (orIf z9 (orIf z8 (orIf z7 (orIf z6 (orIf z5 (orIf z4 (orIf z3 (orIf z2 (orIf z1 (orIf z0 0 1) 2) 4) 8) 16) 32) 64) 128) 256) 512) 1024) 2048
theorem maskTo_Z (o : Ob) : maskTo o 12 = maskZ (zB o 0) (zB o 1) (zB o 2) (zB o 3) (zB o 4) (zB o 5) (zB o 6) (zB o 7) (zB o 8) (zB o 9) (zB o 10) (zB o 11) := rfl
theorem mask1 : ∀ z0 z1 z2 z3 z4 z5 z6 z7 z8 z9 z10 z11 : Bool, ((maskZ z0 z1 z2 z3 z4 z5 z6 z7 z8 z9 z10 z11 &&& (65535 - 0)) == 0) = (z0 && z1 && z2 && z3 && z4 && z5 && z6 && z7 && z8 && z9 && z10 && z11) := by decide +kernel
theorem mask2 : ∀ z0 z1 z2 z3 z4 z5 z6 z7 z8 z9 z10 z11 : Bool, ((maskZ z0 z1 z2 z3 z4 z5 z6 z7 z8 z9 z10 z11 &&& (65535 - 1)) == 0) = (z1 && z2 && z3 && z4 && z5 && z6 && z7 && z8 && z9 && z10 && z11) := by decide +kernel
theorem mask3 : ∀ z0 z1 z2 z3 z4 z5 z6 z7 z8 z9 z10 z11 : Bool, ((maskZ z0 z1 z2 z3 z4 z5 z6 z7 z8 z9 z10 z11 &&& (65535 - 1)) == 0) = (z1 && z2 && z3 && z4 && z5 && z6 && z7 && z8 && z9 && z10 && z11) := by decide +kernel
theorem mask4 : ∀ z0 z1 z2 z3 z4 z5 z6 z7 z8 z9 z10 z11 : Bool, ((maskZ z0 z1 z2 z3 z4 z5 z6 z7 z8 z9 z10 z11 &&& (65535 - 441)) == 0) = (z1 && z2 && z6 && z9 && z10 && z11) := by decide +kernel
theorem mask5 : ∀ z0 z1 z2 z3 z4 z5 z6 z7 z8 z9 z10 z11 : Bool, ((maskZ z0 z1 z2 z3 z4 z5 z6 z7 z8 z9 z10 z11 &&& (65535 - 65)) == 0) = (z1 && z2 && z3 && z4 && z5 && z7 && z8 && z9 && z10 && z11) := by decide +kernel
theorem mask6 : ∀ z0 z1 z2 z3 z4 z5 z6 z7 z8 z9 z10 z11 : Bool, ((maskZ z0 z1 z2 z3 z4 z5 z6 z7 z8 z9 z10 z11 &&& (65535 - 71)) == 0) = (z3 && z4 && z5 && z7 && z8 && z9 && z10 && z11) := by decide +kernel
theorem mask7 : ∀ z0 z1 z2 z3 z4 z5 z6 z7 z8 z9 z10 z11 : Bool, ((maskZ z0 z1 z2 z3 z4 z5 z6 z7 z8 z9 z10 z11 &&& (65535 - 69)) == 0) = (z1 && z3 && z4 && z5 && z7 && z8 && z9 && z10 && z11) := by decide +kernel
theorem mask8 : ∀ z0 z1 z2 z3 z4 z5 z6 z7 z8 z9 z10 z11 : Bool, ((maskZ z0 z1 z2 z3 z4 z5 z6 z7 z8 z9 z10 z11 &&& (65535 - 1607)) == 0) = (z3 && z4 && z5 && z7 && z8 && z11) := by decide +kernel
theorem mask9 : ∀ z0 z1 z2 z3 z4 z5 z6 z7 z8 z9 z10 z11 : Bool, ((maskZ z0 z1 z2 z3 z4 z5 z6 z7 z8 z9 z10 z11 &&& (65535 - 2051)) == 0) = (z2 && z3 && z4 && z5 && z6 && z7 && z8 && z9 && z10) := by decide +kernel
theorem empty_iff (s : ByteArray) : s.toList.isEmpty = true ↔ (⟨#[]⟩ : ByteArray) = s := by
  constructor
  · intro h
    refine bytes_toList ?_
    have : s.toList = [] := by simpa using h
    rw [this, ByteArray.toList_eq]
  · intro h; subst h; rw [ByteArray.toList_eq]; rfl
theorem natz_iff (n : Nat) : ((n : Int) == 0) = true ↔ 0 = n := by simp; omega
theorem intz_iff (n : Int) : (n == 0) = true ↔ 0 = n := by simp; omega
theorem boolz_iff (b : Bool) : (boolI b == 0) = true ↔ false = b := by cases b <;> simp [boolI]
theorem fits_trim (o : Ob) (h : kindB o.kind = true) : ((maskTo o 12 &&& (65535 - kindMask o.kind)) == 0) = true ↔ trimOf o = o := by
  have h1 := of_decide_eq_true h
  clear h
  obtain ⟨xh, k, xp, xt, xr, xlo, xhi, xd, xon, xhas, xv, xlw, xhg, xa⟩ := o
  rw [maskTo_Z]
  dsimp only at h1 ⊢
  rcases (show k = 1 ∨ k = 2 ∨ k = 3 ∨ k = 4 ∨ k = 5 ∨ k = 6 ∨ k = 7 ∨ k = 8 ∨ k = 9 by omega) with rfl | rfl | rfl | rfl | rfl | rfl | rfl | rfl | rfl
  · show ((maskZ _ _ _ _ _ _ _ _ _ _ _ _ &&& (65535 - 0)) == 0) = true ↔ _
    rw [mask1]
    simp only [zB, Bool.and_eq_true, empty_iff, natz_iff, boolz_iff]
    simp only [trimOf, intz_iff, Ob.mk.injEq]
    simp
    try grind
  · show ((maskZ _ _ _ _ _ _ _ _ _ _ _ _ &&& (65535 - 1)) == 0) = true ↔ _
    rw [mask2]
    simp only [zB, Bool.and_eq_true, empty_iff, natz_iff, boolz_iff]
    simp only [trimOf, intz_iff, Ob.mk.injEq]
    simp
    try grind
  · show ((maskZ _ _ _ _ _ _ _ _ _ _ _ _ &&& (65535 - 1)) == 0) = true ↔ _
    rw [mask3]
    simp only [zB, Bool.and_eq_true, empty_iff, natz_iff, boolz_iff]
    simp only [trimOf, intz_iff, Ob.mk.injEq]
    simp
    try grind
  · show ((maskZ _ _ _ _ _ _ _ _ _ _ _ _ &&& (65535 - 441)) == 0) = true ↔ _
    rw [mask4]
    simp only [zB, Bool.and_eq_true, empty_iff, natz_iff, boolz_iff]
    simp only [trimOf, intz_iff, Ob.mk.injEq]
    simp
    try grind
  · show ((maskZ _ _ _ _ _ _ _ _ _ _ _ _ &&& (65535 - 65)) == 0) = true ↔ _
    rw [mask5]
    simp only [zB, Bool.and_eq_true, empty_iff, natz_iff, boolz_iff]
    simp only [trimOf, intz_iff, Ob.mk.injEq]
    simp
    try grind
  · show ((maskZ _ _ _ _ _ _ _ _ _ _ _ _ &&& (65535 - 71)) == 0) = true ↔ _
    rw [mask6]
    simp only [zB, Bool.and_eq_true, empty_iff, natz_iff, boolz_iff]
    simp only [trimOf, intz_iff, Ob.mk.injEq]
    simp
    try grind
  · show ((maskZ _ _ _ _ _ _ _ _ _ _ _ _ &&& (65535 - 69)) == 0) = true ↔ _
    rw [mask7]
    simp only [zB, Bool.and_eq_true, empty_iff, natz_iff, boolz_iff]
    simp only [trimOf, intz_iff, Ob.mk.injEq]
    simp
    try grind
  · show ((maskZ _ _ _ _ _ _ _ _ _ _ _ _ &&& (65535 - 1607)) == 0) = true ↔ _
    rw [mask8]
    simp only [zB, Bool.and_eq_true, empty_iff, natz_iff, boolz_iff]
    simp only [trimOf, intz_iff, Ob.mk.injEq]
    simp
    try grind
  · show ((maskZ _ _ _ _ _ _ _ _ _ _ _ _ &&& (65535 - 2051)) == 0) = true ↔ _
    rw [mask9]
    simp only [zB, Bool.and_eq_true, empty_iff, natz_iff, boolz_iff]
    simp only [trimOf, intz_iff, Ob.mk.injEq]
    simp
    try grind
def fitsB (o : Ob) : Bool := kindB o.kind && ((maskTo o 12 &&& (65535 - kindMask o.kind)) == 0) && decide (o.typ ≤ 3) && decide (o.assoc ≤ 3)
end Go.Proofs.YtmhilhdmbbdnaaaGreatDoor
