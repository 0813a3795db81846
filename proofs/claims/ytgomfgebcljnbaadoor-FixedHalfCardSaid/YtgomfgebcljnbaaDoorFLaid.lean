/-
  WHAT THE ROW's CONDITION GIVES THE WALKS: the table of units lies in memory; and the heap that start-up leaves meets the condition.
-/
import Derived.Test.YtgomfgebcljnbaaDoorRows
import Derived.Test.YtgomfgebcljnbaaDoorFNum
import Derived.ProofKit
import Derived.LaidMore
import Derived.OpenShut
import Derived.Stop.Joined
import Derived.MakeChecks
namespace Go.Proofs.YtgomfgebcljnbaaDoor
open Go.ChangeShapes Go.WideShapes Go.ChangeAt Go.RowKit
set_option maxRecDepth 100000

def laidL : List (String × DataW Unit) := [("bedside/fixed.units", Rows.laid_bedside_fixed_units)]
theorem gUnits : Tryd.prog.globalNamed "bedside/fixed.units" = some 0 := by kernel_rfl
theorem tUnits : (Tryd.prog.globals[0]?).map (·.type) = some 54 := by kernel_rfl
theorem door_met (os : Os) (args : Array Value) : laidMetH Tryd.prog laidL ((World.doorLaid Tryd.prog 400 os).forCall (fun _ _ => 0) ⟨#[], args, []⟩).memory :=
  laidMetH_of_parts3 (fuel := 8) (laidMet_of_run' 8 (by kernel_rfl) (by kernel_rfl)) (by kernel_rfl) (by kernel_rfl)

theorem of_laid {W : World} (h : laidMetH Tryd.prog laidL W) : Units W := by
  rw [MakeChecks.laidMetH_plain _ _ _ (by kernel_rfl)] at h
  obtain ⟨ps, ⟨g0, t0, cs0, f0, p0, q0, hg0, ht0, hv0, hd0, _, _⟩, _, _⟩ := h
  obtain rfl := Option.some.inj (gUnits.symm.trans hg0)
  obtain rfl := Option.some.inj (tUnits.symm.trans ht0)
  obtain ⟨xs, m1, rfl, hx1, hlen, hn3, hel⟩ := DataW.trod_array Tryd.underlying54 hd0
  have c1 : Tryd.prog.cellsOf 2 = 1 := by kernel_rfl
  rw [c1] at hel
  simp only [Prod.mk.injEq] at hx1
  have key : ∀ j, j < 7 → ∃ k, W.cell? ⟨0, j, none⟩ = some (.int .i64 k) ∧ (xs[j]?).map (·.1) = some (.lit (.int .i64 k)) := by
    intro j hj
    have hj2 : j < xs.length := by omega
    have hx := hel j hj
    rw [List.getElem?_eq_getElem hj2] at hx
    obtain ⟨k, e1, e2, _⟩ := DataW.trod_int Tryd.underlying2 hx
    refine ⟨k, ?_, ?_⟩
    · rw [World.var?_cell hg0 hv0 j]
      have e3 : (cs0.toList.drop j).head? = some (.int .i64 k) := by
        have : ((cs0.toList.drop (j * 1)).take 1).head? = some (.int .i64 k) := by rw [e1]; rfl
        rw [Nat.mul_one] at this
        rw [List.head?_take] at this
        simpa using this
      rw [List.head?_drop] at e3
      simpa using e3
    · rw [List.getElem?_eq_getElem hj2, Option.map_some, e2]
  have hxs : ∀ j : Nat, (xs[j]?).map (·.1) = (xs.map (·.1))[j]? := fun j => by rw [List.getElem?_map]
  have hmap : xs.map (·.1) = [.lit (.int .i64 1), .lit (.int .i64 10), .lit (.int .i64 100), .lit (.int .i64 1000), .lit (.int .i64 10000), .lit (.int .i64 100000), .lit (.int .i64 1000000)] := by
    have := hx1.1
    unfold Rows.laid_bedside_fixed_units at this
    simpa using this.symm
  have all : ∀ j, j < 7 → W.cell? ⟨0, j, none⟩ = some (.int .i64 (unitN j)) := by
    intro j hj
    obtain ⟨k, h1, h2⟩ := key j hj
    rw [hxs, hmap] at h2
    rw [h1]
    have e : k = (unitN j : Int) := by
      have hj' : j = 0 ∨ j = 1 ∨ j = 2 ∨ j = 3 ∨ j = 4 ∨ j = 5 ∨ j = 6 := by omega
      rcases hj' with rfl | rfl | rfl | rfl | rfl | rfl | rfl <;> (simp at h2; rw [← h2]; rfl)
    rw [e]
  exact ⟨World.block_lt_of_cell? _ _ (all 0 (by omega)), all⟩
end Go.Proofs.YtgomfgebcljnbaaDoor
