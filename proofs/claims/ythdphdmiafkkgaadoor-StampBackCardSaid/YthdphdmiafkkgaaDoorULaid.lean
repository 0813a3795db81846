/-
  WHAT THE ROWS' CONDITIONS GIVE THE WALKS: the tables lie in memory; and the heap that start-up leaves meets the conditions.
-/
import Derived.Test.YthdphdmiafkkgaaDoorRows
import Derived.Test.YthdphdmiafkkgaaDoorUText
import Derived.Test.YthdphdmiafkkgaaDoorUAll
import Derived.ProofKit
import Derived.LaidMore
import Derived.OpenShut
import Derived.Stop.Joined
import Derived.MakeChecks
import Derived.LaidSub
import Derived.Lib.LaidTab
import Derived.Lib.ItoaNum
namespace Go.Proofs.YthdphdmiafkkgaaDoor
open Go.ChangeShapes Go.WideShapes Go.ChangeAt Go.RowKit
set_option maxRecDepth 100000
set_option linter.unusedVariables false

def laidUA : List (String × DataW Unit) := [("bedside/stamp.adds", Rows.laid_bedside_stamp_adds)]
theorem doorMetUA (os : Os) (args : Array Value) : laidMetH Tryd.prog laidUA ((World.doorLaid Tryd.prog 400 os).forCall (fun _ _ => 0) ⟨#[], args, []⟩).memory :=
  laidMetH_of_parts3 (fuel := 8) (laidMet_of_run' 8 (by kernel_rfl) (by kernel_rfl)) (by kernel_rfl) (by kernel_rfl)
theorem gAdds : Tryd.prog.globalNamed "bedside/stamp.adds" = some 0 := by kernel_rfl
theorem tAdds : (Tryd.prog.globals[0]?).map (·.type) = some 50 := by kernel_rfl
set_option maxHeartbeats 1000000 in
theorem adds_of {W : World} (h : laidMetH Tryd.prog laidUA W) : UX.Adds W := by
  rw [MakeChecks.laidMetH_plain _ _ _ (by kernel_rfl)] at h
  obtain ⟨ps, ⟨g0, t0, cs0, f0, p0, q0, hg0, ht0, hv0, hd0, _, _⟩, _, _⟩ := h
  obtain rfl := Option.some.inj (gAdds.symm.trans hg0)
  obtain rfl := Option.some.inj (tAdds.symm.trans ht0)
  obtain ⟨xs, m1, rfl, hx1, hlen, hn3, hel⟩ := DataW.trod_array Tryd.underlying50 hd0
  have c1 : Tryd.prog.cellsOf 49 = 2 := by kernel_rfl
  rw [c1] at hel
  simp only [Prod.mk.injEq] at hx1
  have key : ∀ j, j < 5 → ∃ a b : Int, W.cell? ⟨0, 2 * j, none⟩ = some (.int .i64 a) ∧ W.cell? ⟨0, 2 * j + 1, none⟩ = some (.int .i64 b) ∧ (xs[j]?).map (·.1) = some (.agg [.lit (.int .i64 a), .lit (.int .i64 b)]) := by
    intro j hj
    have hj2 : j < xs.length := by omega
    have hx := hel j hj
    rw [List.getElem?_eq_getElem hj2] at hx
    obtain ⟨ys, m2, e2, hy1, hyl, hn4, hel2⟩ := DataW.trod_array Tryd.underlying49 hx
    have c2 : Tryd.prog.cellsOf 3 = 1 := by kernel_rfl
    rw [c2] at hel2
    have h0 := hel2 0 (by omega)
    have h1 := hel2 1 (by omega)
    rw [List.getElem?_eq_getElem (show 0 < ys.length by omega)] at h0
    rw [List.getElem?_eq_getElem (show 1 < ys.length by omega)] at h1
    obtain ⟨a, ea, fa, _⟩ := DataW.trod_int Tryd.underlying3 h0
    obtain ⟨b, eb, fb, _⟩ := DataW.trod_int Tryd.underlying3 h1
    refine ⟨a, b, ?_, ?_, ?_⟩
    · rw [World.var?_cell hg0 hv0 (2 * j)]
      have q : (List.take 1 (List.drop (0 * 1) (List.take 2 (List.drop (j * 2) cs0.toList))))[0]? = some (.int .i64 a) := by rw [ea]; rfl
      simp [List.getElem?_drop] at q
      rw [Nat.mul_comm]; simpa using q
    · rw [World.var?_cell hg0 hv0 (2 * j + 1)]
      have q : (List.take 1 (List.drop (1 * 1) (List.take 2 (List.drop (j * 2) cs0.toList))))[0]? = some (.int .i64 b) := by rw [eb]; rfl
      simp [List.getElem?_drop] at q
      rw [Nat.mul_comm]; simpa using q
    · rw [List.getElem?_eq_getElem hj2, Option.map_some, hy1]
      have e : ys.map (·.1) = [.lit (.int .i64 a), .lit (.int .i64 b)] := by
        match ys, hn4 with
        | [y0, y1], _ =>
          simp only [List.getElem_cons_zero, List.getElem_cons_succ] at fa fb
          simp [fa, fb]
      simp only [e]
  have hxs : ∀ j : Nat, (xs[j]?).map (·.1) = (xs.map (·.1))[j]? := fun j => by rw [List.getElem?_map]
  have hmap : xs.map (·.1) = [.agg [.lit (.int .i64 0), .lit (.int .i64 0)], .agg [.lit (.int .i64 1), .lit (.int .i64 1)], .agg [.lit (.int .i64 1), .lit (.int .i64 0)], .agg [.lit (.int .i64 0), .lit (.int .i64 1)], .agg [.lit (.int .i64 1), .lit (.int .i64 0)]] := by
    have := hx1.1
    unfold Rows.laid_bedside_stamp_adds at this
    simpa using this.symm
  have all : ∀ k, k < 5 → W.cell? ⟨0, 2 * k, none⟩ = some (.int .i64 (UX.addD k)) ∧ W.cell? ⟨0, 2 * k + 1, none⟩ = some (.int .i64 (UX.addS k)) := by
    intro k hk
    obtain ⟨a, b, h1, h2, h3⟩ := key k hk
    rw [hxs, hmap] at h3
    rw [h1, h2]
    have hk' : k = 0 ∨ k = 1 ∨ k = 2 ∨ k = 3 ∨ k = 4 := by omega
    rcases hk' with rfl | rfl | rfl | rfl | rfl <;> (simp at h3; obtain ⟨rfl, rfl⟩ := h3; exact ⟨rfl, rfl⟩)
  exact ⟨World.block_lt_of_cell? _ _ (all 0 (by omega)).1, all⟩
theorem ofLaidUA {W : World} (h : laidMetH Tryd.prog laidUA W) : UX.Adds W := adds_of h
theorem tPowT : (Tryd.prog.globals[2]?).map (·.type) = some 81 := by kernel_rfl
theorem powT_of {W : World} (h : laidMetH Tryd.prog [("internal/strconv.uint64pow10", Rows.laid_internal_strconv_uint64pow10)] W) : UX.PowT W := by
  rw [MakeChecks.laidMetH_plain _ _ _ (by kernel_rfl)] at h
  exact Lib.tabIs_of_head (rest := []) UX.gPowT tPowT Tryd.underlying81 Tryd.underlying66 (by kernel_rfl) (by kernel_rfl) h
def laidUT : List (String × DataW Unit) := [("math/bits.deBruijn32tab", Rows.laid_math_bits_deBruijn32tab), ("math/bits.deBruijn64tab", Rows.laid_math_bits_deBruijn64tab), ("internal/strconv.uint64pow10", Rows.laid_internal_strconv_uint64pow10), ("strconv.ErrRange", Rows.laid_strconv_ErrRange), ("strconv.ErrSyntax", Rows.laid_strconv_ErrSyntax)]
theorem doorMetUT (os : Os) (args : Array Value) : laidMetH Tryd.prog laidUT ((World.doorLaid Tryd.prog 400 os).forCall (fun _ _ => 0) ⟨#[], args, []⟩).memory :=
  laidMetH_of_parts3 (fuel := 8) (laidMet_of_run' 8 (by kernel_rfl) (by kernel_rfl)) (by kernel_rfl) (by kernel_rfl)
def laidUR : List (String × DataW Unit) := [("math/bits.deBruijn32tab", Rows.laid_math_bits_deBruijn32tab), ("math/bits.deBruijn64tab", Rows.laid_math_bits_deBruijn64tab), ("internal/strconv.uint64pow10", Rows.laid_internal_strconv_uint64pow10), ("strconv.ErrRange", Rows.laid_strconv_ErrRange), ("strconv.ErrSyntax", Rows.laid_strconv_ErrSyntax), ("bedside/stamp.adds", Rows.laid_bedside_stamp_adds)]
theorem doorMetUR (os : Os) (args : Array Value) : laidMetH Tryd.prog laidUR ((World.doorLaid Tryd.prog 400 os).forCall (fun _ _ => 0) ⟨#[], args, []⟩).memory :=
  laidMetH_of_parts3 (fuel := 8) (laidMet_of_run' 8 (by kernel_rfl) (by kernel_rfl)) (by kernel_rfl) (by kernel_rfl)
theorem gSyn : Tryd.prog.globalNamed "strconv.ErrSyntax" = some 3 := by kernel_rfl
theorem tSyn : (Tryd.prog.globals[3]?).map (·.type) = some 59 := by kernel_rfl
theorem syn_of {W : World} (h : laidMetH Tryd.prog [("strconv.ErrSyntax", Rows.laid_strconv_ErrSyntax)] W) : UX.SynE W := by
  rw [MakeChecks.laidMetH_plain _ _ _ (by kernel_rfl)] at h
  obtain ⟨ps, ⟨g0, t0, cs0, f0, p0, q0, hg0, ht0, hv0, hd0, _, _⟩, _, _⟩ := h
  obtain rfl := Option.some.inj (gSyn.symm.trans hg0)
  obtain rfl := Option.some.inj (tSyn.symm.trans ht0)
  have hu := Tryd.underlying59
  have key : ∃ u v, cs0.toList = [.iface u v] := by
    cases f0 with
    | zero => simp [DataW.trod] at hd0
    | succ m =>
      unfold DataW.trod at hd0
      rw [hu] at hd0
      split at hd0
      all_goals first
        | exact ⟨_, _, by assumption⟩
        | (exfalso; simp_all [Rows.laid_strconv_ErrSyntax]; done)
  obtain ⟨u, v, e⟩ := key
  have hc : W.cell? ⟨3, 0, none⟩ = some (.iface u v) := by
    rw [World.var?_cell hg0 hv0 0, ← Array.getElem?_toList, e]; rfl
  exact ⟨World.block_lt_of_cell? _ _ hc, _, hc, .inr ⟨u, v, rfl⟩⟩
theorem ofLaidUT {W : World} (h : laidMetH Tryd.prog laidUT W) : UX.PowT W ∧ UX.SynE W :=
  ⟨powT_of (h.filter fun x => x.1 == "internal/strconv.uint64pow10"), syn_of (h.filter fun x => x.1 == "strconv.ErrSyntax")⟩
theorem ofLaidUR {W : World} (h : laidMetH Tryd.prog laidUR W) : (UX.PowT W ∧ UX.SynE W) ∧ UX.Adds W :=
  ⟨⟨powT_of (h.filter fun x => x.1 == "internal/strconv.uint64pow10"), syn_of (h.filter fun x => x.1 == "strconv.ErrSyntax")⟩, adds_of (h.filter fun x => x.1 == "bedside/stamp.adds")⟩
end Go.Proofs.YthdphdmiafkkgaaDoor
