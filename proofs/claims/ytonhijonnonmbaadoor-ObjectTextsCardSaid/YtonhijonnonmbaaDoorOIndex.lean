/-
  WALK: where a field of the list stands, by its name (the library's IndexFunc over the list).
-/
import Derived.Test.YtonhijonnonmbaaDoorOFRead
import Derived.Test.YtonhijonnonmbaaDoorOKind
import Derived.Test.YtonhijonnonmbaaDoorOTextMath
import Derived.KernelRfl
namespace Go.Proofs.YtonhijonnonmbaaDoor
open Go.RowKit
set_option maxRecDepth 100000
set_option linter.unusedVariables false
set_option linter.unusedSimpArgs false

def fcell (j i : Nat) : Value := fieldsL.getD (j * 6 + i) undef
def nameAt (j : Nat) : ByteArray := ⟨(fnameL j).toArray⟩
theorem fields_len : fieldsL.length = 72 := by kernel_rfl
theorem fcell_at {j i : Nat} (hj : j < 12) (hi : i < 6) : fieldsA[j * 6 + i]? = some (fcell j i) := by
  have h : j * 6 + i < fieldsL.length := by rw [fields_len]; omega
  unfold fieldsA fcell
  rw [List.getElem?_toArray, List.getElem?_eq_getElem h, List.getD_eq_getElem?_getD, List.getElem?_eq_getElem h]
  rfl
theorem fcell_name {j : Nat} (hj : j < 12) : fcell j 1 = .string (nameAt j) := by
  rcases (show j = 0 ∨ j = 1 ∨ j = 2 ∨ j = 3 ∨ j = 4 ∨ j = 5 ∨ j = 6 ∨ j = 7 ∨ j = 8 ∨ j = 9 ∨ j = 10 ∨ j = 11 by omega) with rfl | rfl | rfl | rfl | rfl | rfl | rfl | rfl | rfl | rfl | rfl | rfl <;> kernel_rfl
/-- The place of the field of this name, and -1. -/
def idxI (name : ByteArray) : Int := match (List.range 12).find? fun k => decide ((nameAt k).data = name.data) with
  | some k => (k : Int)
  | none => -1
theorem idxI_at {s : ByteArray} {j : Nat} (hj : j < 12) (hb : ∀ k, k < j → nameAt k ≠ s) (he : nameAt j = s) : idxI s = (j : Int) := by
  unfold idxI
  have : (List.range 12).find? (fun k => decide ((nameAt k).data = s.data)) = some j := by
    rw [List.find?_eq_some_iff_append]
    refine ⟨by simp [he], List.range j, (List.range (12 - j - 1)).map (j + 1 + ·), ?_, fun k hk => ?_⟩
    · rw [show (12 : Nat) = j + (1 + (12 - j - 1)) by omega, List.range_add, List.range_add]
      simp [List.range_succ, List.range_zero, Function.comp_def, Nat.add_assoc]
    · have := hb k (by simpa using hk)
      simp [bytes_eq]; exact this
  rw [this]
theorem idxI_none {s : ByteArray} (hb : ∀ k, k < 12 → nameAt k ≠ s) : idxI s = -1 := by
  unfold idxI
  have : (List.range 12).find? (fun k => decide ((nameAt k).data = s.data)) = none := by
    rw [List.find?_eq_none]
    intro k hk
    have := hb k (by simpa using hk)
    simp [bytes_eq]; exact this
  rw [this]
theorem read1_any (a0 a2 a3 a4 a5 : Value) (nm s : ByteArray) (Bn : Nat) (w : World) (hn : w.cell? ⟨Bn, 0, none⟩ = some (.string s)) (hlt : Bn < w.heap.size) :
    Calls Tryd.prog 50 #[.agg #[a0, .string nm, a2, a3, a4, a5], .pointer (some ⟨Bn, 0, none⟩)] w fun e w' => e = .returned (.bool (nm.toList == s.toList)) ∧ Below w.heap.size w w' := by
  have hb : Below w.heap.size w w := Below.refl _ _
  have h2 := (AtC.new w #[a0, .string nm, a2, a3, a4, a5] 46).c
  have h3 : (w.alloc (.cells #[a0, .string nm, a2, a3, a4, a5] 46)).cell? ⟨Bn, 0, none⟩ = some (.string s) := by rw [World.cell?_alloc_lt _ _ _ hlt]; exact hn
  go_enter Tryd.func50, Tryd.ntmps50
  go_wp2
  go_ret
  exact ⟨rfl, bAl hb _⟩
set_option maxHeartbeats 4000000 in
theorem indexOf_any (Bf Bn : Nat) (s : ByteArray) (w : World) (hf : AtC w Bf fieldsA) (hn : w.cell? ⟨Bn, 0, none⟩ = some (.string s)) (hlt : Bn < w.heap.size) :
    Calls Tryd.prog 49 #[.slice (some ⟨Bf, 0, none⟩) 12 12, .func (.func 50) #[] #[.pointer (some ⟨Bn, 0, none⟩)]] w fun e w' => e = .returned (.int .i64 (idxI s)) ∧ Below w.heap.size w w' := by
  have HF := Lib.hid hf
  have HN := Lib.hid hn
  clear hf hn
  go_enter Tryd.func49, Tryd.ntmps49
  go_wp2
  go_loopw [8] (fun i wr => ∃ j : Nat, j ≤ 12 ∧ i = .int .i64 j ∧ (∀ k, k < j → nameAt k ≠ s) ∧ Below w.heap.size w wr) (fun i _ => 12 - (intOf i).toNat)
  case atStart => exact ⟨0, by omega, rfl, fun k h => by omega, Below.refl _ _⟩
  case round =>
    obtain ⟨j, hj, rfl, hm, hb⟩ := hrel
    have HM := Lib.hid hm
    clear hm
    by_cases hlt2 : j < 12
    · have i1 : (j : Int) < 12 := by omega
      have c := fun i (hi : i < 6) => (hb.cell (p := ⟨Bf, j * 6 + i, none⟩) HF.out.lt).trans ((HF.out.c _).trans (fcell_at hlt2 hi))
      have c0 := c 0 (by omega)
      have c1 := c 1 (by omega)
      have c2 := c 2 (by omega)
      have c3 := c 3 (by omega)
      have c4 := c 4 (by omega)
      have c5 := c 5 (by omega)
      rw [fcell_name hlt2] at c1
      simp only [Nat.add_zero] at c0
      clear c
      have CR := Lib.hid (read1_any (fcell j 0) (fcell j 2) (fcell j 3) (fcell j 4) (fcell j 5) (nameAt j) s Bn wr ((hb.cell (p := ⟨Bn, 0, none⟩) hlt).trans HN.out) (Nat.lt_of_lt_of_le hlt hb.size))
      generalize fcell j 0 = a0 at *
      generalize fcell j 2 = a2 at *
      generalize fcell j 3 = a3 at *
      generalize fcell j 4 = a4 at *
      generalize fcell j 5 = a5 at *
      by_cases he : nameAt j = s
      · have HV := Lib.hid (idxI_at hlt2 HM.out he)
        have q : ((nameAt j).toList == s.toList) = true := by rw [he]; simp
        rw [q] at CR
        clear he q
        generalize nameAt j = x at *
        go_wp2_with (go_at_call 50; ((with_reducible refine CR.out.mono ?_); rintro e w1 ⟨rfl, k1⟩))
        go_ret
        exact ⟨by rw [HV.out]; rfl, bThen hb k1⟩
      · have q : ((nameAt j).toList == s.toList) = false := strs_ne he
        rw [q] at CR
        have HR : Hid (∀ k, k < j + 1 → nameAt k ≠ s) := Lib.hid (fun k hk => by
          rcases (show k < j ∨ k = j by omega) with h | rfl
          · exact HM.out k h
          · exact he)
        clear he q
        generalize hx : nameAt j = x at *
        clear hx
        go_wp2_with (go_at_call 50; ((with_reducible refine CR.out.mono ?_); rintro e w1 ⟨rfl, k1⟩))
        go_roundw
        case rel => exact ⟨j + 1, by omega, by go_num, HR.out, bThen hb k1⟩
        case measure => simp [intOf]; omega
    · have e : j = 12 := by omega
      subst e
      have HV := Lib.hid (idxI_none HM.out)
      go_wp2
      go_ret
      exact ⟨by rw [HV.out]; rfl, hb⟩
end Go.Proofs.YtonhijonnonmbaaDoor
