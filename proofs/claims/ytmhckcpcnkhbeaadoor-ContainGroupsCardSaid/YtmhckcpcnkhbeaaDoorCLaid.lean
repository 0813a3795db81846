/-
  WHAT THE ROWS' CONDITIONS GIVE THE WALKS: the tables of words and of rules lie in memory; and the heap that start-up leaves meets the conditions.
-/
import Derived.Test.YtmhckcpcnkhbeaaDoorOLaid
import Derived.Test.YtmhckcpcnkhbeaaDoorCKit
namespace Go.Proofs.YtmhckcpcnkhbeaaDoor
open Go.ChangeShapes Go.WideShapes Go.ChangeAt Go.RowKit
set_option maxRecDepth 100000

def laidR : List (String × DataW Unit) := [("bedside/object.words", Rows.laid_bedside_object_words), ("bedside/contain.rules", Rows.laid_bedside_contain_rules)]
theorem doorMetR (os : Os) (args : Array Value) : laidMetH Tryd.prog laidR ((World.doorLaid Tryd.prog 400 os).forCall (fun _ _ => 0) ⟨#[], args, []⟩).memory :=
  laidMetH_of_parts3 (fuel := 8) (laidMet_of_run' 8 (by kernel_rfl) (by kernel_rfl)) (by kernel_rfl) (by kernel_rfl)
theorem gRules : Tryd.prog.globalNamed "bedside/contain.rules" = some 0 := by kernel_rfl
theorem tRules : (Tryd.prog.globals[0]?).map (·.type) = some 59 := by kernel_rfl
def ruleD {H : Type} (j : Nat) : DataW H := .agg [.lit (.int .u16 (parM j)), .lit (.int .u16 (refM j)), .lit (.int .u8 (grp j)), .lit (.int .i64 (rmost j))]
theorem rules_of {W : World} (h : laidMetH Tryd.prog [("bedside/contain.rules", Rows.laid_bedside_contain_rules)] W) : ∀ k i : Nat, k < 10 → i < 4 → W.cell? ⟨0, k * 4 + i, none⟩ = (ruleCells k)[i]? := by
  rw [MakeChecks.laidMetH_plain _ _ _ (by kernel_rfl)] at h
  obtain ⟨ps, ⟨g0, t0, cs0, f0, p0, q0, hg0, ht0, hv0, hd0, _, _⟩, _, _⟩ := h
  obtain rfl := Option.some.inj (gRules.symm.trans hg0)
  obtain rfl := Option.some.inj (tRules.symm.trans ht0)
  obtain ⟨xs, m1, rfl, hx1, hlen, hn3, hel⟩ := DataW.trod_array Tryd.underlying59 hd0
  have c1 : Tryd.prog.cellsOf 52 = 4 := by kernel_rfl
  have cA : Tryd.prog.cellsOf 50 = 1 := by kernel_rfl
  have cB : Tryd.prog.cellsOf 5 = 1 := by kernel_rfl
  have cC : Tryd.prog.cellsOf 3 = 1 := by kernel_rfl
  rw [c1] at hel
  simp only [Prod.mk.injEq] at hx1
  have hmap : xs.map (·.1) = (List.range 10).map ruleD := by
    have := hx1.1
    unfold Rows.laid_bedside_contain_rules at this
    simp only [DataW.agg.injEq] at this
    rw [← this]
    rfl
  intro k i hk hi
  have hx := hel k hk
  have hk2 : k < xs.length := by omega
  rw [List.getElem?_eq_getElem hk2] at hx
  obtain ⟨ys, m2, rfl, hy1, hylen, hyn, hyel⟩ := DataW.trod_struct Tryd.underlying52 hx
  have hd : xs[k].1 = ruleD k := by
    have := congrArg (fun l => l[k]?) hmap
    simp [hk, hk2] at this
    exact this
  have hy2 : ys.map (·.1) = [.lit (.int .u16 (parM k)), .lit (.int .u16 (refM k)), .lit (.int .u8 (grp k)), .lit (.int .i64 (rmost k))] := by
    have := congrArg Prod.fst hy1
    rw [hd] at this
    unfold ruleD at this
    simp only [DataW.agg.injEq] at this
    exact this.symm
  have hyl : ys.length = 4 := by have := congrArg List.length hy2; simpa using this
  have cell : ∀ i v, (((cs0.toList.drop (k * 4)).take 4).drop i).take 1 = [v] → i < 4 → W.cell? ⟨0, k * 4 + i, none⟩ = some v := by
    intro i v e hi
    rw [World.var?_cell hg0 hv0 (k * 4 + i)]
    have e2 : ((((cs0.toList.drop (k * 4)).take 4).drop i).take 1).head? = some v := by rw [e]; rfl
    rw [List.head?_take, if_neg (by omega), List.head?_drop, List.getElem?_take, if_pos hi, List.getElem?_drop] at e2
    simpa using e2
  rcases (show i = 0 ∨ i = 1 ∨ i = 2 ∨ i = 3 by omega) with rfl | rfl | rfl | rfl
  · have h0 : DataW.trod (fun _ => ()) Tryd.prog W 0 (fun _ => true) false m2 50 ((((cs0.toList.drop (k * 4)).take 4).drop 0).take 1) = some (ys[0]'(by omega)) := by
      have := (hyel 0 _ rfl).trans (List.getElem?_eq_getElem (by omega))
      simpa [cA] using this
    obtain ⟨n, e1, e2, _⟩ := DataW.trod_int Tryd.underlying50 h0
    rw [cell 0 _ e1 hi]
    have := congrArg (fun l => l[0]?) hy2
    simp [hyl, e2] at this
    simp [ruleCells, this]
  · have h0 : DataW.trod (fun _ => ()) Tryd.prog W 0 (fun _ => true) false m2 50 ((((cs0.toList.drop (k * 4)).take 4).drop 1).take 1) = some (ys[1]'(by omega)) := by
      have := (hyel 1 _ rfl).trans (List.getElem?_eq_getElem (by omega))
      simpa [cA] using this
    obtain ⟨n, e1, e2, _⟩ := DataW.trod_int Tryd.underlying50 h0
    rw [cell 1 _ e1 hi]
    have := congrArg (fun l => l[1]?) hy2
    simp [hyl, e2] at this
    simp [ruleCells, this]
  · have h0 : DataW.trod (fun _ => ()) Tryd.prog W 0 (fun _ => true) false m2 5 ((((cs0.toList.drop (k * 4)).take 4).drop 2).take 1) = some (ys[2]'(by omega)) := by
      have := (hyel 2 _ rfl).trans (List.getElem?_eq_getElem (by omega))
      simpa [cB] using this
    obtain ⟨n, e1, e2, _⟩ := DataW.trod_int Tryd.underlying5 h0
    rw [cell 2 _ e1 hi]
    have := congrArg (fun l => l[2]?) hy2
    simp [hyl, e2] at this
    simp [ruleCells, this]
  · have h0 : DataW.trod (fun _ => ()) Tryd.prog W 0 (fun _ => true) false m2 3 ((((cs0.toList.drop (k * 4)).take 4).drop 3).take 1) = some (ys[3]'(by omega)) := by
      have := (hyel 3 _ rfl).trans (List.getElem?_eq_getElem (by omega))
      simpa [cC] using this
    obtain ⟨n, e1, e2, _⟩ := DataW.trod_int Tryd.underlying3 h0
    rw [cell 3 _ e1 hi]
    have := congrArg (fun l => l[3]?) hy2
    simp [hyl, e2] at this
    simp [ruleCells, this]
theorem ofLaidR {W : World} (h : laidMetH Tryd.prog laidR W) : Tables W :=
  have h1 := words_of (h.filter fun x => x.1 == "bedside/object.words")
  have h2 := rules_of (h.filter fun x => x.1 == "bedside/contain.rules")
  ⟨h1, World.block_lt_of_cell? _ _ (h2 1 0 (by omega) (by omega)), h2⟩
end Go.Proofs.YtmhckcpcnkhbeaaDoor
