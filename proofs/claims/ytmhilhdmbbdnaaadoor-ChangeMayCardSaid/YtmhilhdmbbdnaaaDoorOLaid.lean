/-
  WHAT THE ROWS' CONDITIONS GIVE THE WALKS: the tables lie in memory; and the heap that start-up leaves meets the conditions.
-/
import Derived.Test.YtmhilhdmbbdnaaaDoorRows
import Derived.Test.YtmhilhdmbbdnaaaDoorOTab
import Derived.Test.YtmhilhdmbbdnaaaDoorOTab2
import Derived.ProofKit
import Derived.LaidMore
import Derived.OpenShut
import Derived.Stop.Joined
import Derived.MakeChecks
import Derived.LaidSub
import Derived.Lib.LaidTab
import Derived.Lib.ItoaNum
namespace Go.Proofs.YtmhilhdmbbdnaaaDoor
open Go.ChangeShapes Go.WideShapes Go.ChangeAt Go.RowKit
set_option maxRecDepth 100000

def laidP : List (String × DataW Unit) := [("bedside/object.words", Rows.laid_bedside_object_words)]
theorem doorMetP (os : Os) (args : Array Value) : laidMetH Tryd.prog laidP ((World.doorLaid Tryd.prog 400 os).forCall (fun _ _ => 0) ⟨#[], args, []⟩).memory :=
  laidMetH_of_parts3 (fuel := 8) (laidMet_of_run' 8 (by kernel_rfl) (by kernel_rfl)) (by kernel_rfl) (by kernel_rfl)
theorem gWords : Tryd.prog.globalNamed "bedside/object.words" = some 1 := by kernel_rfl
theorem tWords : (Tryd.prog.globals[1]?).map (·.type) = some 83 := by kernel_rfl
theorem words_of {W : World} (h : laidMetH Tryd.prog laidP W) : Words W := by
  rw [MakeChecks.laidMetH_plain _ _ _ (by kernel_rfl)] at h
  obtain ⟨ps, ⟨g0, t0, cs0, f0, p0, q0, hg0, ht0, hv0, hd0, _, _⟩, _, _⟩ := h
  obtain rfl := Option.some.inj (gWords.symm.trans hg0)
  obtain rfl := Option.some.inj (tWords.symm.trans ht0)
  obtain ⟨xs, m1, rfl, hx1, hlen, hn3, hel⟩ := DataW.trod_array Tryd.underlying83 hd0
  have c1 : Tryd.prog.cellsOf 9 = 1 := by kernel_rfl
  rw [c1] at hel
  simp only [Prod.mk.injEq] at hx1
  have key : ∀ j, j < 10 → ∃ k : ByteArray, W.cell? ⟨1, j, none⟩ = some (.string k) ∧ (xs[j]?).map (·.1) = some (.lit (.string k.data.toList)) := by
    intro j hj
    have hj2 : j < xs.length := by omega
    have hx := hel j hj
    rw [List.getElem?_eq_getElem hj2] at hx
    obtain ⟨k, e1, e2, _⟩ := DataW.trod_string Tryd.underlying9 hx
    refine ⟨k, ?_, ?_⟩
    · rw [World.var?_cell hg0 hv0 j]
      have e3 : (cs0.toList.drop j).head? = some (.string k) := by
        have : ((cs0.toList.drop (j * 1)).take 1).head? = some (.string k) := by rw [e1]; rfl
        rw [Nat.mul_one] at this
        rw [List.head?_take] at this
        simpa using this
      rw [List.head?_drop] at e3
      simpa using e3
    · rw [List.getElem?_eq_getElem hj2, Option.map_some, e2]
  have hxs : ∀ j : Nat, (xs[j]?).map (·.1) = (xs.map (·.1))[j]? := fun j => by rw [List.getElem?_map]
  have hmap : xs.map (·.1) = [.lit (.string []), .lit (.string [109, 100, 115]), .lit (.string [118, 109, 100]), .lit (.string [99, 104, 97, 110, 110, 101, 108]), .lit (.string [109, 101, 116, 114, 105, 99]), .lit (.string [115, 121, 115, 116, 101, 109]), .lit (.string [99, 111, 110, 100, 105, 116, 105, 111, 110]), .lit (.string [115, 105, 103, 110, 97, 108]), .lit (.string [108, 105, 109, 105, 116]), .lit (.string [99, 111, 110, 116, 101, 120, 116])] := by
    have := hx1.1
    unfold Rows.laid_bedside_object_words at this
    simpa using this.symm
  have all : ∀ j, j < 10 → W.cell? ⟨1, j, none⟩ = some (.string (wordOf j)) := by
    intro j hj
    obtain ⟨⟨⟨k⟩⟩, h1, h2⟩ := key j hj
    rw [hxs, hmap] at h2
    rw [h1]
    have hj' : j = 0 ∨ j = 1 ∨ j = 2 ∨ j = 3 ∨ j = 4 ∨ j = 5 ∨ j = 6 ∨ j = 7 ∨ j = 8 ∨ j = 9 := by omega
    rcases hj' with rfl | rfl | rfl | rfl | rfl | rfl | rfl | rfl | rfl | rfl <;> (simp at h2; subst h2; rfl)
  exact ⟨World.block_lt_of_cell? _ _ (all 0 (by omega)), all⟩
theorem ofLaidP {W : World} (h : laidMetH Tryd.prog laidP W) : Words W := words_of h
def laidM : List (String × DataW Unit) := [("bedside/object.kinds", Rows.laid_bedside_object_kinds), ("bedside/object.words", Rows.laid_bedside_object_words)]
theorem doorMetM (os : Os) (args : Array Value) : laidMetH Tryd.prog laidM ((World.doorLaid Tryd.prog 400 os).forCall (fun _ _ => 0) ⟨#[], args, []⟩).memory :=
  laidMetH_of_parts3 (fuel := 8) (laidMet_of_run' 8 (by kernel_rfl) (by kernel_rfl)) (by kernel_rfl) (by kernel_rfl)
def kindTab : List Int := [0, 0, 1, 1, 441, 65, 71, 69, 1607, 2051]
theorem gKinds : Tryd.prog.globalNamed "bedside/object.kinds" = some 0 := by kernel_rfl
theorem tKinds : (Tryd.prog.globals[0]?).map (·.type) = some 64 := by kernel_rfl
theorem kinds_of {W : World} (h : laidMetH Tryd.prog [("bedside/object.kinds", Rows.laid_bedside_object_kinds)] W) : Kinds W := by
  rw [MakeChecks.laidMetH_plain _ _ _ (by kernel_rfl)] at h
  have T : Lib.TabIs Tryd.prog W "bedside/object.kinds" .u16 kindTab := Lib.tabIs_of_head (rest := []) gKinds tKinds Tryd.underlying64 Tryd.underlying62 (by kernel_rfl) (by kernel_rfl) h
  have all : ∀ j, j < 10 → W.cell? ⟨0, j, none⟩ = some (.int .u16 (kindMask j)) := by
    intro j hj
    rw [T.cell gKinds j hj]
    have hj' : j = 0 ∨ j = 1 ∨ j = 2 ∨ j = 3 ∨ j = 4 ∨ j = 5 ∨ j = 6 ∨ j = 7 ∨ j = 8 ∨ j = 9 := by omega
    rcases hj' with rfl | rfl | rfl | rfl | rfl | rfl | rfl | rfl | rfl | rfl <;> rfl
  exact ⟨World.block_lt_of_cell? _ _ (all 0 (by omega)), all⟩
theorem ofLaidM {W : World} (h : laidMetH Tryd.prog laidM W) : Words W ∧ Kinds W :=
  ⟨words_of (h.filter fun x => x.1 == "bedside/object.words"), kinds_of (h.filter fun x => x.1 == "bedside/object.kinds")⟩
end Go.Proofs.YtmhilhdmbbdnaaaDoor
