/-
  A row of objects that came in as an argument.
-/
import Derived.Test.YthlalmoapbdccaaDoorWZ2
import Derived.Test.YthlalmoapbdccaaDoorWZ5
import Derived.Deep.SlicePairs
import Derived.OpenShut
import Derived.ProofKit
import Derived.Test.YthlalmoapbdccaaDoorRows
import Derived.Test.YthlalmoapbdccaaDoorWZ4
import Derived.LaidMore
import Derived.Stop.Joined
import Derived.MakeChecks
import Derived.LaidSub
import Derived.Lib.LaidTab
import Derived.Lib.ItoaNum
import Derived.Test.YthlalmoapbdccaaDoorWZ6
namespace Go.Proofs.YthlalmoapbdccaaDoor
open Go.ChangeShapes Go.WideShapes Go.ChangeAt Go.RowKit
set_option maxRecDepth 100000
set_option linter.unusedVariables false

set_option maxHeartbeats 4000000 in
theorem open_ob1 {H : Type} {enc : TypeId × Value → H} {W : World} {spare : Nat → Bool} {held : Bool} {n : Nat} {y : DataW H × List MemPlace} {v1 v2 v3 v4 v5 v6 v7 v8 v9 v10 v11 v12 v13 v14 : Value}
    (h2 : DataW.trod enc Tryd.prog W 0 spare held n 31 [v1, v2, v3, v4, v5, v6, v7, v8, v9, v10, v11, v12, v13, v14] = some y) :
    ∃ x : Ob, v1 = (.string x.handle) ∧ v2 = (.int .u8 x.kind) ∧ v3 = (.string x.parent) ∧ v4 = (.int .u8 x.typ) ∧ v5 = (.string x.ref) ∧ v6 = (.int .i64 x.lo) ∧ v7 = (.int .i64 x.hi) ∧ v8 = (.int .u8 x.digits) ∧ v9 = (.bool x.on) ∧ v10 = (.bool x.has) ∧ v11 = (.int .i64 x.value) ∧ v12 = (.int .i64 x.low) ∧ v13 = (.int .i64 x.high) ∧ v14 = (.int .u8 x.assoc) ∧ Fine x := by
  have cs1 : Tryd.prog.cellsOf 9 = 1 := by kernel_rfl
  have cu1 : Tryd.prog.cellsOf 5 = 1 := by kernel_rfl
  have ci1 : Tryd.prog.cellsOf 2 = 1 := by kernel_rfl
  have cb1 : Tryd.prog.cellsOf 4 = 1 := by kernel_rfl
  obtain ⟨ys, n2, _, _, _, hyl, hel⟩ := DataW.trod_struct Tryd.underlying31 h2
  have hl2 : ys.length = 14 := hyl
  have g1 : DataW.trod enc Tryd.prog W 0 spare held n2 9 [v1] = some (ys[0]'(by omega)) := by
    have := (hel 0 _ rfl).trans (List.getElem?_eq_getElem (by omega)); simpa [cs1, cu1, ci1, cb1] using this
  obtain ⟨x0, e1, -, q0⟩ := DataW.trod_string Tryd.underlying9 g1
  obtain rfl := (List.cons.inj e1).1
  have g2 : DataW.trod enc Tryd.prog W 0 spare held n2 5 [v2] = some (ys[1]'(by omega)) := by
    have := (hel 1 _ rfl).trans (List.getElem?_eq_getElem (by omega)); simpa [cs1, cu1, ci1, cb1] using this
  obtain ⟨x1, e2, -, q1⟩ := DataW.trod_int Tryd.underlying5 g2
  obtain rfl := (List.cons.inj e2).1
  obtain ⟨n1', rfl, b1'⟩ := u8_open q1
  have g3 : DataW.trod enc Tryd.prog W 0 spare held n2 9 [v3] = some (ys[2]'(by omega)) := by
    have := (hel 2 _ rfl).trans (List.getElem?_eq_getElem (by omega)); simpa [cs1, cu1, ci1, cb1] using this
  obtain ⟨x2, e3, -, q2⟩ := DataW.trod_string Tryd.underlying9 g3
  obtain rfl := (List.cons.inj e3).1
  have g4 : DataW.trod enc Tryd.prog W 0 spare held n2 5 [v4] = some (ys[3]'(by omega)) := by
    have := (hel 3 _ rfl).trans (List.getElem?_eq_getElem (by omega)); simpa [cs1, cu1, ci1, cb1] using this
  obtain ⟨x3, e4, -, q3⟩ := DataW.trod_int Tryd.underlying5 g4
  obtain rfl := (List.cons.inj e4).1
  obtain ⟨n3', rfl, b3'⟩ := u8_open q3
  have g5 : DataW.trod enc Tryd.prog W 0 spare held n2 9 [v5] = some (ys[4]'(by omega)) := by
    have := (hel 4 _ rfl).trans (List.getElem?_eq_getElem (by omega)); simpa [cs1, cu1, ci1, cb1] using this
  obtain ⟨x4, e5, -, q4⟩ := DataW.trod_string Tryd.underlying9 g5
  obtain rfl := (List.cons.inj e5).1
  have g6 : DataW.trod enc Tryd.prog W 0 spare held n2 2 [v6] = some (ys[5]'(by omega)) := by
    have := (hel 5 _ rfl).trans (List.getElem?_eq_getElem (by omega)); simpa [cs1, cu1, ci1, cb1] using this
  obtain ⟨x5, e6, -, q5⟩ := DataW.trod_int Tryd.underlying2 g6
  obtain rfl := (List.cons.inj e6).1
  have b5' := i64_open q5
  have g7 : DataW.trod enc Tryd.prog W 0 spare held n2 2 [v7] = some (ys[6]'(by omega)) := by
    have := (hel 6 _ rfl).trans (List.getElem?_eq_getElem (by omega)); simpa [cs1, cu1, ci1, cb1] using this
  obtain ⟨x6, e7, -, q6⟩ := DataW.trod_int Tryd.underlying2 g7
  obtain rfl := (List.cons.inj e7).1
  have b6' := i64_open q6
  have g8 : DataW.trod enc Tryd.prog W 0 spare held n2 5 [v8] = some (ys[7]'(by omega)) := by
    have := (hel 7 _ rfl).trans (List.getElem?_eq_getElem (by omega)); simpa [cs1, cu1, ci1, cb1] using this
  obtain ⟨x7, e8, -, q7⟩ := DataW.trod_int Tryd.underlying5 g8
  obtain rfl := (List.cons.inj e8).1
  obtain ⟨n7', rfl, b7'⟩ := u8_open q7
  have g9 : DataW.trod enc Tryd.prog W 0 spare held n2 4 [v9] = some (ys[8]'(by omega)) := by
    have := (hel 8 _ rfl).trans (List.getElem?_eq_getElem (by omega)); simpa [cs1, cu1, ci1, cb1] using this
  obtain ⟨x8, e9, -⟩ := DataW.trod_bool Tryd.underlying4 g9
  obtain rfl := (List.cons.inj e9).1
  have g10 : DataW.trod enc Tryd.prog W 0 spare held n2 4 [v10] = some (ys[9]'(by omega)) := by
    have := (hel 9 _ rfl).trans (List.getElem?_eq_getElem (by omega)); simpa [cs1, cu1, ci1, cb1] using this
  obtain ⟨x9, e10, -⟩ := DataW.trod_bool Tryd.underlying4 g10
  obtain rfl := (List.cons.inj e10).1
  have g11 : DataW.trod enc Tryd.prog W 0 spare held n2 2 [v11] = some (ys[10]'(by omega)) := by
    have := (hel 10 _ rfl).trans (List.getElem?_eq_getElem (by omega)); simpa [cs1, cu1, ci1, cb1] using this
  obtain ⟨x10, e11, -, q10⟩ := DataW.trod_int Tryd.underlying2 g11
  obtain rfl := (List.cons.inj e11).1
  have b10' := i64_open q10
  have g12 : DataW.trod enc Tryd.prog W 0 spare held n2 2 [v12] = some (ys[11]'(by omega)) := by
    have := (hel 11 _ rfl).trans (List.getElem?_eq_getElem (by omega)); simpa [cs1, cu1, ci1, cb1] using this
  obtain ⟨x11, e12, -, q11⟩ := DataW.trod_int Tryd.underlying2 g12
  obtain rfl := (List.cons.inj e12).1
  have b11' := i64_open q11
  have g13 : DataW.trod enc Tryd.prog W 0 spare held n2 2 [v13] = some (ys[12]'(by omega)) := by
    have := (hel 12 _ rfl).trans (List.getElem?_eq_getElem (by omega)); simpa [cs1, cu1, ci1, cb1] using this
  obtain ⟨x12, e13, -, q12⟩ := DataW.trod_int Tryd.underlying2 g13
  obtain rfl := (List.cons.inj e13).1
  have b12' := i64_open q12
  have g14 : DataW.trod enc Tryd.prog W 0 spare held n2 5 [v14] = some (ys[13]'(by omega)) := by
    have := (hel 13 _ rfl).trans (List.getElem?_eq_getElem (by omega)); simpa [cs1, cu1, ci1, cb1] using this
  obtain ⟨x13, e14, -, q13⟩ := DataW.trod_int Tryd.underlying5 g14
  obtain rfl := (List.cons.inj e14).1
  obtain ⟨n13', rfl, b13'⟩ := u8_open q13
  exact ⟨⟨x0, n1', x2, n3', x4, x5, x6, n7', x8, x9, x10, x11, x12, n13'⟩, rfl, rfl, rfl, rfl, rfl, rfl, rfl, rfl, rfl, rfl, rfl, rfl, rfl, rfl, ⟨q0, b1', q2, b3', q4, b5', b6', b7', b10', b11', b12', b13'⟩⟩
theorem open_obs {H : Type} {enc : TypeId × Value → H} {W : World} {b0 : Nat} {spare : Nat → Bool} {held : Bool} {v : Value} {d : DataW H} {p : List MemPlace}
    (hv : Value.okWide Tryd.prog W .any b0 22 v) (h : DataW.Trod enc Tryd.prog W 0 spare held 22 v d p) :
    ∃ (A : Option Addr) (l : List Ob) (c : Nat), v = .slice A l.length c ∧ IX.RdK WX.obK W W.heap.size A l ∧ (∀ x ∈ l, Fine x) ∧ l.length ≤ maxLen ∧ l.length ≤ c := by
  obtain ⟨a1, len, cap, rfl⟩ := okWide_slice Tryd.underlying22 hv
  obtain ⟨fuel, hf⟩ := h
  rcases Go.Deep.open_slice Tryd.underlying22 hf with ⟨hcs, _⟩ | ⟨a, len', cap', m, n, D, Pl, hcs, _, hl, hm, hmm, _, hc⟩
  · simp [Value.cells] at hcs
    obtain ⟨rfl, rfl, rfl⟩ := hcs
    exact ⟨none, [], 0, rfl, .inl rfl, fun _ h => (by cases h), Nat.zero_le _, Nat.zero_le _⟩
  · simp [Value.cells] at hcs
    obtain ⟨rfl, rfl, rfl⟩ := hcs
    have hlm : len ≤ m := by rw [hmm]; split <;> omega
    have ce : Tryd.prog.cellsOf 31 = 14 := by kernel_rfl
    have hex : ∀ i, i < m → ∃ x : Ob, (∀ j u, (WX.obK.enc x)[j]? = some u → W.cell? (a.add (i * 14 + j)) = some u) ∧ Fine x := by
      intro i hi
      obtain ⟨cs', h1, h2⟩ := hc i hi
      rw [ce] at h1
      obtain ⟨_, hlen, hcell⟩ := World.cells?_some h1
      match cs', hlen, h2, hcell with
      | [v1, v2, v3, v4, v5, v6, v7, v8, v9, v10, v11, v12, v13, v14], _, h2, hcell =>
        obtain ⟨x, rfl, rfl, rfl, rfl, rfl, rfl, rfl, rfl, rfl, rfl, rfl, rfl, rfl, rfl, hp⟩ := open_ob1 h2
        refine ⟨x, fun j u hu => ?_, hp⟩
        have hj : j < 14 := by have := (List.getElem?_eq_some_iff.1 hu).1; rwa [WX.obK.len] at this
        have q := hcell j hj
        rw [Go.Deep.add_add] at q
        rw [q]
        exact hu
    have hch : ∃ f : Nat → Ob, ∀ i, i < m → (∀ j u, (WX.obK.enc (f i))[j]? = some u → W.cell? (a.add (i * 14 + j)) = some u) ∧ Fine (f i) :=
      ⟨fun i => if h : i < m then Classical.choose (hex i h) else zeroOb, fun i hi => by simp only [hi, dif_pos]; exact Classical.choose_spec (hex i hi)⟩
    obtain ⟨f, hf2⟩ := hch
    refine ⟨some a, (List.range len).map f, cap, by simp, ?_, fun x hx => ?_, by simp; omega, by simp; exact hl⟩
    · by_cases h0 : len = 0
      · subst h0; exact .inl (by simp)
      · have c0 := (hf2 0 (by omega)).1 0 _ rfl
        obtain ⟨b, off, spot⟩ := a
        have hspot : spot = none := by simpa [Addr.add] using World.cell?_spot c0
        subst hspot
        refine .inr ⟨b, off, rfl, by simpa [Addr.add] using World.block_lt_of_cell? W _ c0, fun q u hu => ?_⟩
        obtain ⟨j, i, x, rfl, hx, hu2⟩ := IX.cellsK_inv WX.obK hu
        have hj : j < len := by have := (List.getElem?_eq_some_iff.1 hx).1; simpa using this
        have q0 := (hf2 j (by omega)).1 i u (by
          simp [hj] at hx
          subst hx; exact hu2)
        have hadd : ∀ k, (⟨b, off, none⟩ : Addr).add k = ⟨b, off + k, none⟩ := fun k => by unfold Addr.add; split <;> simp_all
        rw [hadd] at q0
        exact q0
    · obtain ⟨i, hi, rfl⟩ := List.mem_map.1 hx
      have := List.mem_range.1 hi
      exact (hf2 i (by omega)).2
end Go.Proofs.YthlalmoapbdccaaDoor
/-
  WHAT THE ROWS' CONDITIONS GIVE THE WALKS: the tables lie in memory; and the heap that start-up leaves meets the conditions.
-/
namespace Go.Proofs.YthlalmoapbdccaaDoor
open Go.ChangeShapes Go.WideShapes Go.ChangeAt Go.RowKit
set_option maxRecDepth 100000

def laidP : List (String × DataW Unit) := [("bedside/object.words", Rows.laid_bedside_object_words)]
theorem doorMetP (os : Os) (args : Array Value) : laidMetH Tryd.prog laidP ((World.doorLaid Tryd.prog 400 os).forCall (fun _ _ => 0) ⟨#[], args, []⟩).memory :=
  laidMetH_of_parts3 (fuel := 8) (laidMet_of_run' 8 (by kernel_rfl) (by kernel_rfl)) (by kernel_rfl) (by kernel_rfl)
theorem gWords : Tryd.prog.globalNamed "bedside/object.words" = some 2 := by kernel_rfl
theorem tWords : (Tryd.prog.globals[2]?).map (·.type) = some 98 := by kernel_rfl
theorem words_of {W : World} (h : laidMetH Tryd.prog laidP W) : Words W := by
  rw [MakeChecks.laidMetH_plain _ _ _ (by kernel_rfl)] at h
  obtain ⟨ps, ⟨g0, t0, cs0, f0, p0, q0, hg0, ht0, hv0, hd0, _, _⟩, _, _⟩ := h
  obtain rfl := Option.some.inj (gWords.symm.trans hg0)
  obtain rfl := Option.some.inj (tWords.symm.trans ht0)
  obtain ⟨xs, m1, rfl, hx1, hlen, hn3, hel⟩ := DataW.trod_array Tryd.underlying98 hd0
  have c1 : Tryd.prog.cellsOf 9 = 1 := by kernel_rfl
  rw [c1] at hel
  simp only [Prod.mk.injEq] at hx1
  have key : ∀ j, j < 10 → ∃ k : ByteArray, W.cell? ⟨2, j, none⟩ = some (.string k) ∧ (xs[j]?).map (·.1) = some (.lit (.string k.data.toList)) := by
    intro j hj
    have hj2 : j < xs.length := by omega
    have hx := hel j hj
    rw [List.getElem?_eq_getElem hj2] at hx
    obtain ⟨k, e1, e2, _⟩ := DataW.trod_string Tryd.underlying9 hx
    refine ⟨k, ?_, ?_⟩
    · rw [World.var?_cell hg0 hv0 j]
      have e3 : (cs0.toList.drop j).head? = some (.string k) := by
        have : ((cs0.toList.drop (j * 1)).take 1).head? = some (.string k) := by rw [e1]; rfl
        rw [Nat.mul_one] at this
        rw [List.head?_take] at this
        simpa using this
      rw [List.head?_drop] at e3
      simpa using e3
    · rw [List.getElem?_eq_getElem hj2, Option.map_some, e2]
  have hxs : ∀ j : Nat, (xs[j]?).map (·.1) = (xs.map (·.1))[j]? := fun j => by rw [List.getElem?_map]
  have hmap : xs.map (·.1) = [.lit (.string []), .lit (.string [109, 100, 115]), .lit (.string [118, 109, 100]), .lit (.string [99, 104, 97, 110, 110, 101, 108]), .lit (.string [109, 101, 116, 114, 105, 99]), .lit (.string [115, 121, 115, 116, 101, 109]), .lit (.string [99, 111, 110, 100, 105, 116, 105, 111, 110]), .lit (.string [115, 105, 103, 110, 97, 108]), .lit (.string [108, 105, 109, 105, 116]), .lit (.string [99, 111, 110, 116, 101, 120, 116])] := by
    have := hx1.1
    unfold Rows.laid_bedside_object_words at this
    simpa using this.symm
  have all : ∀ j, j < 10 → W.cell? ⟨2, j, none⟩ = some (.string (wordOf j)) := by
    intro j hj
    obtain ⟨⟨⟨k⟩⟩, h1, h2⟩ := key j hj
    rw [hxs, hmap] at h2
    rw [h1]
    have hj' : j = 0 ∨ j = 1 ∨ j = 2 ∨ j = 3 ∨ j = 4 ∨ j = 5 ∨ j = 6 ∨ j = 7 ∨ j = 8 ∨ j = 9 := by omega
    rcases hj' with rfl | rfl | rfl | rfl | rfl | rfl | rfl | rfl | rfl | rfl <;> (simp at h2; subst h2; rfl)
  exact ⟨World.block_lt_of_cell? _ _ (all 0 (by omega)), all⟩
theorem ofLaidP {W : World} (h : laidMetH Tryd.prog laidP W) : Words W := words_of h
def laidM : List (String × DataW Unit) := [("bedside/object.kinds", Rows.laid_bedside_object_kinds), ("bedside/object.words", Rows.laid_bedside_object_words)]
theorem doorMetM (os : Os) (args : Array Value) : laidMetH Tryd.prog laidM ((World.doorLaid Tryd.prog 400 os).forCall (fun _ _ => 0) ⟨#[], args, []⟩).memory :=
  laidMetH_of_parts3 (fuel := 8) (laidMet_of_run' 8 (by kernel_rfl) (by kernel_rfl)) (by kernel_rfl) (by kernel_rfl)
def kindTab : List Int := [0, 0, 1, 1, 441, 65, 71, 69, 1607, 2051]
theorem gKinds : Tryd.prog.globalNamed "bedside/object.kinds" = some 1 := by kernel_rfl
theorem tKinds : (Tryd.prog.globals[1]?).map (·.type) = some 91 := by kernel_rfl
theorem kinds_of {W : World} (h : laidMetH Tryd.prog [("bedside/object.kinds", Rows.laid_bedside_object_kinds)] W) : Kinds W := by
  rw [MakeChecks.laidMetH_plain _ _ _ (by kernel_rfl)] at h
  have T : Lib.TabIs Tryd.prog W "bedside/object.kinds" .u16 kindTab := Lib.tabIs_of_head (rest := []) gKinds tKinds Tryd.underlying91 Tryd.underlying89 (by kernel_rfl) (by kernel_rfl) h
  have all : ∀ j, j < 10 → W.cell? ⟨1, j, none⟩ = some (.int .u16 (kindMask j)) := by
    intro j hj
    rw [T.cell gKinds j hj]
    have hj' : j = 0 ∨ j = 1 ∨ j = 2 ∨ j = 3 ∨ j = 4 ∨ j = 5 ∨ j = 6 ∨ j = 7 ∨ j = 8 ∨ j = 9 := by omega
    rcases hj' with rfl | rfl | rfl | rfl | rfl | rfl | rfl | rfl | rfl | rfl <;> rfl
  exact ⟨World.block_lt_of_cell? _ _ (all 0 (by omega)), all⟩
theorem ofLaidM {W : World} (h : laidMetH Tryd.prog laidM W) : Words W ∧ Kinds W :=
  ⟨words_of (h.filter fun x => x.1 == "bedside/object.words"), kinds_of (h.filter fun x => x.1 == "bedside/object.kinds")⟩
end Go.Proofs.YthlalmoapbdccaaDoor
/-
  WHAT THE ROWS' CONDITIONS GIVE THE WALKS: the tables of words and of rules lie in memory; and the heap that start-up leaves meets the conditions.
-/
namespace Go.Proofs.YthlalmoapbdccaaDoor
open Go.ChangeShapes Go.WideShapes Go.ChangeAt Go.RowKit
set_option maxRecDepth 100000

def laidR : List (String × DataW Unit) := [("bedside/object.words", Rows.laid_bedside_object_words), ("bedside/contain.rules", Rows.laid_bedside_contain_rules)]
theorem doorMetR (os : Os) (args : Array Value) : laidMetH Tryd.prog laidR ((World.doorLaid Tryd.prog 400 os).forCall (fun _ _ => 0) ⟨#[], args, []⟩).memory :=
  laidMetH_of_parts3 (fuel := 8) (laidMet_of_run' 8 (by kernel_rfl) (by kernel_rfl)) (by kernel_rfl) (by kernel_rfl)
theorem gRules : Tryd.prog.globalNamed "bedside/contain.rules" = some 0 := by kernel_rfl
theorem tRules : (Tryd.prog.globals[0]?).map (·.type) = some 86 := by kernel_rfl
def ruleD {H : Type} (j : Nat) : DataW H := .agg [.lit (.int .u16 (parM j)), .lit (.int .u16 (refM j)), .lit (.int .u8 (grp j)), .lit (.int .i64 (rmost j))]
theorem rules_of {W : World} (h : laidMetH Tryd.prog [("bedside/contain.rules", Rows.laid_bedside_contain_rules)] W) : ∀ k i : Nat, k < 10 → i < 4 → W.cell? ⟨0, k * 4 + i, none⟩ = (ruleCells k)[i]? := by
  rw [MakeChecks.laidMetH_plain _ _ _ (by kernel_rfl)] at h
  obtain ⟨ps, ⟨g0, t0, cs0, f0, p0, q0, hg0, ht0, hv0, hd0, _, _⟩, _, _⟩ := h
  obtain rfl := Option.some.inj (gRules.symm.trans hg0)
  obtain rfl := Option.some.inj (tRules.symm.trans ht0)
  obtain ⟨xs, m1, rfl, hx1, hlen, hn3, hel⟩ := DataW.trod_array Tryd.underlying86 hd0
  have c1 : Tryd.prog.cellsOf 65 = 4 := by kernel_rfl
  have cA : Tryd.prog.cellsOf 63 = 1 := by kernel_rfl
  have cB : Tryd.prog.cellsOf 5 = 1 := by kernel_rfl
  have cC : Tryd.prog.cellsOf 3 = 1 := by kernel_rfl
  rw [c1] at hel
  simp only [Prod.mk.injEq] at hx1
  have hmap : xs.map (·.1) = (List.range 10).map ruleD := by
    have := hx1.1
    unfold Rows.laid_bedside_contain_rules at this
    simp only [DataW.agg.injEq] at this
    rw [← this]
    rfl
  intro k i hk hi
  have hx := hel k hk
  have hk2 : k < xs.length := by omega
  rw [List.getElem?_eq_getElem hk2] at hx
  obtain ⟨ys, m2, rfl, hy1, hylen, hyn, hyel⟩ := DataW.trod_struct Tryd.underlying65 hx
  have hd : xs[k].1 = ruleD k := by
    have := congrArg (fun l => l[k]?) hmap
    simp [hk, hk2] at this
    exact this
  have hy2 : ys.map (·.1) = [.lit (.int .u16 (parM k)), .lit (.int .u16 (refM k)), .lit (.int .u8 (grp k)), .lit (.int .i64 (rmost k))] := by
    have := congrArg Prod.fst hy1
    rw [hd] at this
    unfold ruleD at this
    simp only [DataW.agg.injEq] at this
    exact this.symm
  have hyl : ys.length = 4 := by have := congrArg List.length hy2; simpa using this
  have cell : ∀ i v, (((cs0.toList.drop (k * 4)).take 4).drop i).take 1 = [v] → i < 4 → W.cell? ⟨0, k * 4 + i, none⟩ = some v := by
    intro i v e hi
    rw [World.var?_cell hg0 hv0 (k * 4 + i)]
    have e2 : ((((cs0.toList.drop (k * 4)).take 4).drop i).take 1).head? = some v := by rw [e]; rfl
    rw [List.head?_take, if_neg (by omega), List.head?_drop, List.getElem?_take, if_pos hi, List.getElem?_drop] at e2
    simpa using e2
  rcases (show i = 0 ∨ i = 1 ∨ i = 2 ∨ i = 3 by omega) with rfl | rfl | rfl | rfl
  · have h0 : DataW.trod (fun _ => ()) Tryd.prog W 0 (fun _ => true) false m2 63 ((((cs0.toList.drop (k * 4)).take 4).drop 0).take 1) = some (ys[0]'(by omega)) := by
      have := (hyel 0 _ rfl).trans (List.getElem?_eq_getElem (by omega))
      simpa [cA] using this
    obtain ⟨n, e1, e2, _⟩ := DataW.trod_int Tryd.underlying63 h0
    rw [cell 0 _ e1 hi]
    have := congrArg (fun l => l[0]?) hy2
    simp [hyl, e2] at this
    simp [ruleCells, this]
  · have h0 : DataW.trod (fun _ => ()) Tryd.prog W 0 (fun _ => true) false m2 63 ((((cs0.toList.drop (k * 4)).take 4).drop 1).take 1) = some (ys[1]'(by omega)) := by
      have := (hyel 1 _ rfl).trans (List.getElem?_eq_getElem (by omega))
      simpa [cA] using this
    obtain ⟨n, e1, e2, _⟩ := DataW.trod_int Tryd.underlying63 h0
    rw [cell 1 _ e1 hi]
    have := congrArg (fun l => l[1]?) hy2
    simp [hyl, e2] at this
    simp [ruleCells, this]
  · have h0 : DataW.trod (fun _ => ()) Tryd.prog W 0 (fun _ => true) false m2 5 ((((cs0.toList.drop (k * 4)).take 4).drop 2).take 1) = some (ys[2]'(by omega)) := by
      have := (hyel 2 _ rfl).trans (List.getElem?_eq_getElem (by omega))
      simpa [cB] using this
    obtain ⟨n, e1, e2, _⟩ := DataW.trod_int Tryd.underlying5 h0
    rw [cell 2 _ e1 hi]
    have := congrArg (fun l => l[2]?) hy2
    simp [hyl, e2] at this
    simp [ruleCells, this]
  · have h0 : DataW.trod (fun _ => ()) Tryd.prog W 0 (fun _ => true) false m2 3 ((((cs0.toList.drop (k * 4)).take 4).drop 3).take 1) = some (ys[3]'(by omega)) := by
      have := (hyel 3 _ rfl).trans (List.getElem?_eq_getElem (by omega))
      simpa [cC] using this
    obtain ⟨n, e1, e2, _⟩ := DataW.trod_int Tryd.underlying3 h0
    rw [cell 3 _ e1 hi]
    have := congrArg (fun l => l[3]?) hy2
    simp [hyl, e2] at this
    simp [ruleCells, this]
theorem ofLaidR {W : World} (h : laidMetH Tryd.prog laidR W) : Tables W :=
  have h1 := words_of (h.filter fun x => x.1 == "bedside/object.words")
  have h2 := rules_of (h.filter fun x => x.1 == "bedside/contain.rules")
  ⟨h1, World.block_lt_of_cell? _ _ (h2 1 0 (by omega) (by omega)), h2⟩
end Go.Proofs.YthlalmoapbdccaaDoor
/-
  WHAT THE ROWS' CONDITIONS GIVE THE WALKS: the three tables lie in memory; and the heap that start-up leaves meets the conditions.
-/
namespace Go.Proofs.YthlalmoapbdccaaDoor
open Go.ChangeShapes Go.WideShapes Go.ChangeAt Go.RowKit
set_option maxRecDepth 100000
def laidW : List (String × DataW Unit) := [("bedside/object.kinds", Rows.laid_bedside_object_kinds), ("bedside/object.words", Rows.laid_bedside_object_words), ("bedside/contain.rules", Rows.laid_bedside_contain_rules)]
theorem doorMetW (os : Os) (args : Array Value) : laidMetH Tryd.prog laidW ((World.doorLaid Tryd.prog 400 os).forCall (fun _ _ => 0) ⟨#[], args, []⟩).memory :=
  laidMetH_of_parts3 (fuel := 8) (laidMet_of_run' 8 (by kernel_rfl) (by kernel_rfl)) (by kernel_rfl) (by kernel_rfl)
theorem ofLaidW {W : World} (h : laidMetH Tryd.prog laidW W) : Tables W ∧ Kinds W :=
  have h1 := words_of (h.filter fun x => x.1 == "bedside/object.words")
  have h2 := rules_of (h.filter fun x => x.1 == "bedside/contain.rules")
  have h3 := kinds_of (h.filter fun x => x.1 == "bedside/object.kinds")
  ⟨⟨h1, World.block_lt_of_cell? _ _ (h2 1 0 (by omega) (by omega)), h2⟩, h3⟩
end Go.Proofs.YthlalmoapbdccaaDoor
