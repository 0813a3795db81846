/-
  WHAT THE ROWS' CONDITIONS GIVE THE WALKS: the tables lie in memory; and the heap that start-up leaves meets the conditions.
-/
import Derived.Test.YtncahpbjbgcnbaaGreatDoorRows
import Derived.Test.YtncahpbjbgcnbaaGreatDoorEO5
import Derived.ProofKit
import Derived.LaidMore
import Derived.OpenShut
import Derived.Stop.Joined
import Derived.MakeChecks
import Derived.LaidSub
import Derived.Lib.LaidTab
import Derived.Lib.ItoaNum
import Derived.Test.YtncahpbjbgcnbaaGreatDoorEO7
import Derived.Test.YtncahpbjbgcnbaaGreatDoorEO6
import Derived.Deep.SlicePairs
import Derived.Test.YtncahpbjbgcnbaaGreatDoorEO2
namespace Go.Proofs.YtncahpbjbgcnbaaGreatDoor
open Go.ChangeShapes Go.WideShapes Go.ChangeAt Go.RowKit
set_option maxRecDepth 100000

def laidP : List (String × DataW Unit) := [("bedside/object.words", Rows.laid_bedside_object_words)]
theorem doorMetP (os : Os) (args : Array Value) : laidMetH Tryz.prog laidP ((World.doorLaid Tryz.prog 400 os).forCall (fun _ _ => 0) ⟨#[], args, []⟩).memory :=
  laidMetH_of_parts3 (fuel := 8) (laidMet_of_run' 8 (by kernel_rfl) (by kernel_rfl)) (by kernel_rfl) (by kernel_rfl)
theorem gWords : Tryz.prog.globalNamed "bedside/object.words" = some 2 := by kernel_rfl
theorem tWords : (Tryz.prog.globals[2]?).map (·.type) = some 98 := by kernel_rfl
theorem words_of {W : World} (h : laidMetH Tryz.prog laidP W) : Words W := by
  rw [MakeChecks.laidMetH_plain _ _ _ (by kernel_rfl)] at h
  obtain ⟨ps, ⟨g0, t0, cs0, f0, p0, q0, hg0, ht0, hv0, hd0, _, _⟩, _, _⟩ := h
  obtain rfl := Option.some.inj (gWords.symm.trans hg0)
  obtain rfl := Option.some.inj (tWords.symm.trans ht0)
  obtain ⟨xs, m1, rfl, hx1, hlen, hn3, hel⟩ := DataW.trod_array Tryz.underlying98 hd0
  have c1 : Tryz.prog.cellsOf 9 = 1 := by kernel_rfl
  rw [c1] at hel
  simp only [Prod.mk.injEq] at hx1
  have key : ∀ j, j < 10 → ∃ k : ByteArray, W.cell? ⟨2, j, none⟩ = some (.string k) ∧ (xs[j]?).map (·.1) = some (.lit (.string k.data.toList)) := by
    intro j hj
    have hj2 : j < xs.length := by omega
    have hx := hel j hj
    rw [List.getElem?_eq_getElem hj2] at hx
    obtain ⟨k, e1, e2, _⟩ := DataW.trod_string Tryz.underlying9 hx
    refine ⟨k, ?_, ?_⟩
    · rw [World.var?_cell hg0 hv0 j]
      have e3 : (cs0.toList.drop j).head? = some (.string k) := by
        have : ((cs0.toList.drop (j * 1)).take 1).head? = some (.string k) := by rw [e1]; rfl
        rw [Nat.mul_one] at this
        rw [List.head?_take] at this
        simpa using this
      rw [List.head?_drop] at e3
      simpa using e3
    · rw [List.getElem?_eq_getElem hj2, Option.map_some, e2]
  have hxs : ∀ j : Nat, (xs[j]?).map (·.1) = (xs.map (·.1))[j]? := fun j => by rw [List.getElem?_map]
  have hmap : xs.map (·.1) = [.lit (.string []), .lit (.string [109, 100, 115]), .lit (.string [118, 109, 100]), .lit (.string [99, 104, 97, 110, 110, 101, 108]), .lit (.string [109, 101, 116, 114, 105, 99]), .lit (.string [115, 121, 115, 116, 101, 109]), .lit (.string [99, 111, 110, 100, 105, 116, 105, 111, 110]), .lit (.string [115, 105, 103, 110, 97, 108]), .lit (.string [108, 105, 109, 105, 116]), .lit (.string [99, 111, 110, 116, 101, 120, 116])] := by
    have := hx1.1
    unfold Rows.laid_bedside_object_words at this
    simpa using this.symm
  have all : ∀ j, j < 10 → W.cell? ⟨2, j, none⟩ = some (.string (wordOf j)) := by
    intro j hj
    obtain ⟨⟨⟨k⟩⟩, h1, h2⟩ := key j hj
    rw [hxs, hmap] at h2
    rw [h1]
    have hj' : j = 0 ∨ j = 1 ∨ j = 2 ∨ j = 3 ∨ j = 4 ∨ j = 5 ∨ j = 6 ∨ j = 7 ∨ j = 8 ∨ j = 9 := by omega
    rcases hj' with rfl | rfl | rfl | rfl | rfl | rfl | rfl | rfl | rfl | rfl <;> (simp at h2; subst h2; rfl)
  exact ⟨World.block_lt_of_cell? _ _ (all 0 (by omega)), all⟩
theorem ofLaidP {W : World} (h : laidMetH Tryz.prog laidP W) : Words W := words_of h
def laidM : List (String × DataW Unit) := [("bedside/object.kinds", Rows.laid_bedside_object_kinds), ("bedside/object.words", Rows.laid_bedside_object_words)]
theorem doorMetM (os : Os) (args : Array Value) : laidMetH Tryz.prog laidM ((World.doorLaid Tryz.prog 400 os).forCall (fun _ _ => 0) ⟨#[], args, []⟩).memory :=
  laidMetH_of_parts3 (fuel := 8) (laidMet_of_run' 8 (by kernel_rfl) (by kernel_rfl)) (by kernel_rfl) (by kernel_rfl)
def kindTab : List Int := [0, 0, 1, 1, 441, 65, 71, 69, 1607, 2051]
theorem gKinds : Tryz.prog.globalNamed "bedside/object.kinds" = some 0 := by kernel_rfl
theorem tKinds : (Tryz.prog.globals[0]?).map (·.type) = some 88 := by kernel_rfl
theorem kinds_of {W : World} (h : laidMetH Tryz.prog [("bedside/object.kinds", Rows.laid_bedside_object_kinds)] W) : Kinds W := by
  rw [MakeChecks.laidMetH_plain _ _ _ (by kernel_rfl)] at h
  have T : Lib.TabIs Tryz.prog W "bedside/object.kinds" .u16 kindTab := Lib.tabIs_of_head (rest := []) gKinds tKinds Tryz.underlying88 Tryz.underlying86 (by kernel_rfl) (by kernel_rfl) h
  have all : ∀ j, j < 10 → W.cell? ⟨0, j, none⟩ = some (.int .u16 (kindMask j)) := by
    intro j hj
    rw [T.cell gKinds j hj]
    have hj' : j = 0 ∨ j = 1 ∨ j = 2 ∨ j = 3 ∨ j = 4 ∨ j = 5 ∨ j = 6 ∨ j = 7 ∨ j = 8 ∨ j = 9 := by omega
    rcases hj' with rfl | rfl | rfl | rfl | rfl | rfl | rfl | rfl | rfl | rfl <;> rfl
  exact ⟨World.block_lt_of_cell? _ _ (all 0 (by omega)), all⟩
theorem ofLaidM {W : World} (h : laidMetH Tryz.prog laidM W) : Words W ∧ Kinds W :=
  ⟨words_of (h.filter fun x => x.1 == "bedside/object.words"), kinds_of (h.filter fun x => x.1 == "bedside/object.kinds")⟩
end Go.Proofs.YtncahpbjbgcnbaaGreatDoor
/-
  PLAIN: the tables that are laid (OLaid), under this layer's name.
-/
/-
  A row of changes (a kind and an object) that came in as an argument.
-/
namespace Go.Proofs.YtncahpbjbgcnbaaGreatDoor
open Go.ChangeShapes Go.WideShapes Go.ChangeAt Go.RowKit
set_option maxRecDepth 100000
set_option linter.unusedVariables false

set_option maxHeartbeats 4000000 in
theorem open_ch1 {H : Type} {enc : TypeId × Value → H} {W : World} {spare : Nat → Bool} {held : Bool} {n : Nat} {y : DataW H × List MemPlace} {v0 v1 v2 v3 v4 v5 v6 v7 v8 v9 v10 v11 v12 v13 v14 : Value}
    (h2 : DataW.trod enc Tryz.prog W 0 spare held n 39 [v0, v1, v2, v3, v4, v5, v6, v7, v8, v9, v10, v11, v12, v13, v14] = some y) :
    ∃ x : DX.Ch, v0 = (.int .u8 x.kind) ∧ v1 = (.string x.o.handle) ∧ v2 = (.int .u8 x.o.kind) ∧ v3 = (.string x.o.parent) ∧ v4 = (.int .u8 x.o.typ) ∧ v5 = (.string x.o.ref) ∧ v6 = (.int .i64 x.o.lo) ∧ v7 = (.int .i64 x.o.hi) ∧ v8 = (.int .u8 x.o.digits) ∧ v9 = (.bool x.o.on) ∧ v10 = (.bool x.o.has) ∧ v11 = (.int .i64 x.o.value) ∧ v12 = (.int .i64 x.o.low) ∧ v13 = (.int .i64 x.o.high) ∧ v14 = (.int .u8 x.o.assoc) ∧ x.kind ≤ 255 ∧ Fine x.o := by
  obtain ⟨xs, k, _, _, _, hxl, hf⟩ := DataW.trod_struct Tryz.underlying39 h2
  have hl : xs.length = 2 := hxl
  have cs1 : Tryz.prog.cellsOf 9 = 1 := by kernel_rfl
  have cu1 : Tryz.prog.cellsOf 5 = 1 := by kernel_rfl
  have ci1 : Tryz.prog.cellsOf 2 = 1 := by kernel_rfl
  have cb1 : Tryz.prog.cellsOf 4 = 1 := by kernel_rfl
  have co1 : Tryz.prog.cellsOf 35 = 14 := by kernel_rfl
  have g0 : DataW.trod enc Tryz.prog W 0 spare held k 5 [v0] = some (xs[0]'(by omega)) := by
    have := (hf 0 _ rfl).trans (List.getElem?_eq_getElem (by omega)); simpa [cu1, co1] using this
  have gO : DataW.trod enc Tryz.prog W 0 spare held k 35 [v1, v2, v3, v4, v5, v6, v7, v8, v9, v10, v11, v12, v13, v14] = some (xs[1]'(by omega)) := by
    have := (hf 1 _ rfl).trans (List.getElem?_eq_getElem (by omega)); simpa [cu1, co1] using this
  obtain ⟨z0, e0, -, q0⟩ := DataW.trod_int Tryz.underlying5 g0
  obtain rfl := (List.cons.inj e0).1
  obtain ⟨m0, rfl, b0⟩ := u8_open q0
  obtain ⟨ys, n2, _, _, _, hyl, hel⟩ := DataW.trod_struct Tryz.underlying35 gO
  have hl2 : ys.length = 14 := hyl
  have g1 : DataW.trod enc Tryz.prog W 0 spare held n2 9 [v1] = some (ys[0]'(by omega)) := by
    have := (hel 0 _ rfl).trans (List.getElem?_eq_getElem (by omega)); simpa [cs1, cu1, ci1, cb1] using this
  obtain ⟨x0, e1, -, q0⟩ := DataW.trod_string Tryz.underlying9 g1
  obtain rfl := (List.cons.inj e1).1
  have g2 : DataW.trod enc Tryz.prog W 0 spare held n2 5 [v2] = some (ys[1]'(by omega)) := by
    have := (hel 1 _ rfl).trans (List.getElem?_eq_getElem (by omega)); simpa [cs1, cu1, ci1, cb1] using this
  obtain ⟨x1, e2, -, q1⟩ := DataW.trod_int Tryz.underlying5 g2
  obtain rfl := (List.cons.inj e2).1
  obtain ⟨n1', rfl, b1'⟩ := u8_open q1
  have g3 : DataW.trod enc Tryz.prog W 0 spare held n2 9 [v3] = some (ys[2]'(by omega)) := by
    have := (hel 2 _ rfl).trans (List.getElem?_eq_getElem (by omega)); simpa [cs1, cu1, ci1, cb1] using this
  obtain ⟨x2, e3, -, q2⟩ := DataW.trod_string Tryz.underlying9 g3
  obtain rfl := (List.cons.inj e3).1
  have g4 : DataW.trod enc Tryz.prog W 0 spare held n2 5 [v4] = some (ys[3]'(by omega)) := by
    have := (hel 3 _ rfl).trans (List.getElem?_eq_getElem (by omega)); simpa [cs1, cu1, ci1, cb1] using this
  obtain ⟨x3, e4, -, q3⟩ := DataW.trod_int Tryz.underlying5 g4
  obtain rfl := (List.cons.inj e4).1
  obtain ⟨n3', rfl, b3'⟩ := u8_open q3
  have g5 : DataW.trod enc Tryz.prog W 0 spare held n2 9 [v5] = some (ys[4]'(by omega)) := by
    have := (hel 4 _ rfl).trans (List.getElem?_eq_getElem (by omega)); simpa [cs1, cu1, ci1, cb1] using this
  obtain ⟨x4, e5, -, q4⟩ := DataW.trod_string Tryz.underlying9 g5
  obtain rfl := (List.cons.inj e5).1
  have g6 : DataW.trod enc Tryz.prog W 0 spare held n2 2 [v6] = some (ys[5]'(by omega)) := by
    have := (hel 5 _ rfl).trans (List.getElem?_eq_getElem (by omega)); simpa [cs1, cu1, ci1, cb1] using this
  obtain ⟨x5, e6, -, q5⟩ := DataW.trod_int Tryz.underlying2 g6
  obtain rfl := (List.cons.inj e6).1
  have b5' := i64_open q5
  have g7 : DataW.trod enc Tryz.prog W 0 spare held n2 2 [v7] = some (ys[6]'(by omega)) := by
    have := (hel 6 _ rfl).trans (List.getElem?_eq_getElem (by omega)); simpa [cs1, cu1, ci1, cb1] using this
  obtain ⟨x6, e7, -, q6⟩ := DataW.trod_int Tryz.underlying2 g7
  obtain rfl := (List.cons.inj e7).1
  have b6' := i64_open q6
  have g8 : DataW.trod enc Tryz.prog W 0 spare held n2 5 [v8] = some (ys[7]'(by omega)) := by
    have := (hel 7 _ rfl).trans (List.getElem?_eq_getElem (by omega)); simpa [cs1, cu1, ci1, cb1] using this
  obtain ⟨x7, e8, -, q7⟩ := DataW.trod_int Tryz.underlying5 g8
  obtain rfl := (List.cons.inj e8).1
  obtain ⟨n7', rfl, b7'⟩ := u8_open q7
  have g9 : DataW.trod enc Tryz.prog W 0 spare held n2 4 [v9] = some (ys[8]'(by omega)) := by
    have := (hel 8 _ rfl).trans (List.getElem?_eq_getElem (by omega)); simpa [cs1, cu1, ci1, cb1] using this
  obtain ⟨x8, e9, -⟩ := DataW.trod_bool Tryz.underlying4 g9
  obtain rfl := (List.cons.inj e9).1
  have g10 : DataW.trod enc Tryz.prog W 0 spare held n2 4 [v10] = some (ys[9]'(by omega)) := by
    have := (hel 9 _ rfl).trans (List.getElem?_eq_getElem (by omega)); simpa [cs1, cu1, ci1, cb1] using this
  obtain ⟨x9, e10, -⟩ := DataW.trod_bool Tryz.underlying4 g10
  obtain rfl := (List.cons.inj e10).1
  have g11 : DataW.trod enc Tryz.prog W 0 spare held n2 2 [v11] = some (ys[10]'(by omega)) := by
    have := (hel 10 _ rfl).trans (List.getElem?_eq_getElem (by omega)); simpa [cs1, cu1, ci1, cb1] using this
  obtain ⟨x10, e11, -, q10⟩ := DataW.trod_int Tryz.underlying2 g11
  obtain rfl := (List.cons.inj e11).1
  have b10' := i64_open q10
  have g12 : DataW.trod enc Tryz.prog W 0 spare held n2 2 [v12] = some (ys[11]'(by omega)) := by
    have := (hel 11 _ rfl).trans (List.getElem?_eq_getElem (by omega)); simpa [cs1, cu1, ci1, cb1] using this
  obtain ⟨x11, e12, -, q11⟩ := DataW.trod_int Tryz.underlying2 g12
  obtain rfl := (List.cons.inj e12).1
  have b11' := i64_open q11
  have g13 : DataW.trod enc Tryz.prog W 0 spare held n2 2 [v13] = some (ys[12]'(by omega)) := by
    have := (hel 12 _ rfl).trans (List.getElem?_eq_getElem (by omega)); simpa [cs1, cu1, ci1, cb1] using this
  obtain ⟨x12, e13, -, q12⟩ := DataW.trod_int Tryz.underlying2 g13
  obtain rfl := (List.cons.inj e13).1
  have b12' := i64_open q12
  have g14 : DataW.trod enc Tryz.prog W 0 spare held n2 5 [v14] = some (ys[13]'(by omega)) := by
    have := (hel 13 _ rfl).trans (List.getElem?_eq_getElem (by omega)); simpa [cs1, cu1, ci1, cb1] using this
  obtain ⟨x13, e14, -, q13⟩ := DataW.trod_int Tryz.underlying5 g14
  obtain rfl := (List.cons.inj e14).1
  obtain ⟨n13', rfl, b13'⟩ := u8_open q13
  exact ⟨⟨m0, ⟨x0, n1', x2, n3', x4, x5, x6, n7', x8, x9, x10, x11, x12, n13'⟩⟩, rfl, rfl, rfl, rfl, rfl, rfl, rfl, rfl, rfl, rfl, rfl, rfl, rfl, rfl, rfl, b0, ⟨q0, b1', q2, b3', q4, b5', b6', b7', b10', b11', b12', b13'⟩⟩
theorem open_chs {H : Type} {enc : TypeId × Value → H} {W : World} {b0 : Nat} {spare : Nat → Bool} {held : Bool} {v : Value} {d : DataW H} {p : List MemPlace}
    (hv : Value.okWide Tryz.prog W .any b0 23 v) (h : DataW.Trod enc Tryz.prog W 0 spare held 23 v d p) :
    ∃ (A : Option Addr) (l : List DX.Ch) (c : Nat), v = .slice A l.length c ∧ IX.RdK DX.chK W W.heap.size A l ∧ (∀ x ∈ l, x.kind ≤ 255 ∧ Fine x.o) ∧ l.length ≤ maxLen ∧ l.length ≤ c := by
  obtain ⟨a1, len, cap, rfl⟩ := okWide_slice Tryz.underlying23 hv
  obtain ⟨fuel, hf⟩ := h
  rcases Go.Deep.open_slice Tryz.underlying23 hf with ⟨hcs, _⟩ | ⟨a, len', cap', m, n, D, Pl, hcs, _, hl, hm, hmm, _, hc⟩
  · simp [Value.cells] at hcs
    obtain ⟨rfl, rfl, rfl⟩ := hcs
    exact ⟨none, [], 0, rfl, .inl rfl, fun _ h => (by cases h), Nat.zero_le _, Nat.zero_le _⟩
  · simp [Value.cells] at hcs
    obtain ⟨rfl, rfl, rfl⟩ := hcs
    have hlm : len ≤ m := by rw [hmm]; split <;> omega
    have ce : Tryz.prog.cellsOf 39 = 15 := by kernel_rfl
    have hex : ∀ i, i < m → ∃ x : DX.Ch, (∀ j u, (DX.chK.enc x)[j]? = some u → W.cell? (a.add (i * 15 + j)) = some u) ∧ x.kind ≤ 255 ∧ Fine x.o := by
      intro i hi
      obtain ⟨cs', h1, h2⟩ := hc i hi
      rw [ce] at h1
      obtain ⟨_, hlen, hcell⟩ := World.cells?_some h1
      match cs', hlen, h2, hcell with
      | [v0, v1, v2, v3, v4, v5, v6, v7, v8, v9, v10, v11, v12, v13, v14], _, h2, hcell =>
        obtain ⟨x, rfl, rfl, rfl, rfl, rfl, rfl, rfl, rfl, rfl, rfl, rfl, rfl, rfl, rfl, rfl, hp⟩ := open_ch1 h2
        refine ⟨x, fun j u hu => ?_, hp⟩
        have hj : j < 15 := by have := (List.getElem?_eq_some_iff.1 hu).1; rwa [DX.chK.len] at this
        have q := hcell j hj
        rw [Go.Deep.add_add] at q
        rw [q]
        exact hu
    have hch : ∃ f : Nat → DX.Ch, ∀ i, i < m → (∀ j u, (DX.chK.enc (f i))[j]? = some u → W.cell? (a.add (i * 15 + j)) = some u) ∧ (f i).kind ≤ 255 ∧ Fine (f i).o :=
      ⟨fun i => if h : i < m then Classical.choose (hex i h) else ⟨0, zeroOb⟩, fun i hi => by simp only [hi, dif_pos]; exact Classical.choose_spec (hex i hi)⟩
    obtain ⟨f, hf2⟩ := hch
    refine ⟨some a, (List.range len).map f, cap, by simp, ?_, fun x hx => ?_, by simp; omega, by simp; exact hl⟩
    · by_cases h0 : len = 0
      · subst h0; exact .inl (by simp)
      · have c0 := (hf2 0 (by omega)).1 0 _ rfl
        obtain ⟨b, off, spot⟩ := a
        have hspot : spot = none := by simpa [Addr.add] using World.cell?_spot c0
        subst hspot
        refine .inr ⟨b, off, rfl, by simpa [Addr.add] using World.block_lt_of_cell? W _ c0, fun q u hu => ?_⟩
        obtain ⟨j, i, x, rfl, hx, hu2⟩ := IX.cellsK_inv DX.chK hu
        have hj : j < len := by have := (List.getElem?_eq_some_iff.1 hx).1; simpa using this
        have q0 := (hf2 j (by omega)).1 i u (by
          simp [hj] at hx
          subst hx; exact hu2)
        have hadd : ∀ k, (⟨b, off, none⟩ : Addr).add k = ⟨b, off + k, none⟩ := fun k => by unfold Addr.add; split <;> simp_all
        rw [hadd] at q0
        exact q0
    · obtain ⟨i, hi, rfl⟩ := List.mem_map.1 hx
      have := List.mem_range.1 hi
      exact (hf2 i (by omega)).2
end Go.Proofs.YtncahpbjbgcnbaaGreatDoor
/-
  A row of objects that came in as an argument.
-/
namespace Go.Proofs.YtncahpbjbgcnbaaGreatDoor
open Go.ChangeShapes Go.WideShapes Go.ChangeAt Go.RowKit
set_option maxRecDepth 100000
set_option linter.unusedVariables false

set_option maxHeartbeats 4000000 in
theorem open_ob1 {H : Type} {enc : TypeId × Value → H} {W : World} {spare : Nat → Bool} {held : Bool} {n : Nat} {y : DataW H × List MemPlace} {v1 v2 v3 v4 v5 v6 v7 v8 v9 v10 v11 v12 v13 v14 : Value}
    (h2 : DataW.trod enc Tryz.prog W 0 spare held n 35 [v1, v2, v3, v4, v5, v6, v7, v8, v9, v10, v11, v12, v13, v14] = some y) :
    ∃ x : Ob, v1 = (.string x.handle) ∧ v2 = (.int .u8 x.kind) ∧ v3 = (.string x.parent) ∧ v4 = (.int .u8 x.typ) ∧ v5 = (.string x.ref) ∧ v6 = (.int .i64 x.lo) ∧ v7 = (.int .i64 x.hi) ∧ v8 = (.int .u8 x.digits) ∧ v9 = (.bool x.on) ∧ v10 = (.bool x.has) ∧ v11 = (.int .i64 x.value) ∧ v12 = (.int .i64 x.low) ∧ v13 = (.int .i64 x.high) ∧ v14 = (.int .u8 x.assoc) ∧ Fine x := by
  have cs1 : Tryz.prog.cellsOf 9 = 1 := by kernel_rfl
  have cu1 : Tryz.prog.cellsOf 5 = 1 := by kernel_rfl
  have ci1 : Tryz.prog.cellsOf 2 = 1 := by kernel_rfl
  have cb1 : Tryz.prog.cellsOf 4 = 1 := by kernel_rfl
  obtain ⟨ys, n2, _, _, _, hyl, hel⟩ := DataW.trod_struct Tryz.underlying35 h2
  have hl2 : ys.length = 14 := hyl
  have g1 : DataW.trod enc Tryz.prog W 0 spare held n2 9 [v1] = some (ys[0]'(by omega)) := by
    have := (hel 0 _ rfl).trans (List.getElem?_eq_getElem (by omega)); simpa [cs1, cu1, ci1, cb1] using this
  obtain ⟨x0, e1, -, q0⟩ := DataW.trod_string Tryz.underlying9 g1
  obtain rfl := (List.cons.inj e1).1
  have g2 : DataW.trod enc Tryz.prog W 0 spare held n2 5 [v2] = some (ys[1]'(by omega)) := by
    have := (hel 1 _ rfl).trans (List.getElem?_eq_getElem (by omega)); simpa [cs1, cu1, ci1, cb1] using this
  obtain ⟨x1, e2, -, q1⟩ := DataW.trod_int Tryz.underlying5 g2
  obtain rfl := (List.cons.inj e2).1
  obtain ⟨n1', rfl, b1'⟩ := u8_open q1
  have g3 : DataW.trod enc Tryz.prog W 0 spare held n2 9 [v3] = some (ys[2]'(by omega)) := by
    have := (hel 2 _ rfl).trans (List.getElem?_eq_getElem (by omega)); simpa [cs1, cu1, ci1, cb1] using this
  obtain ⟨x2, e3, -, q2⟩ := DataW.trod_string Tryz.underlying9 g3
  obtain rfl := (List.cons.inj e3).1
  have g4 : DataW.trod enc Tryz.prog W 0 spare held n2 5 [v4] = some (ys[3]'(by omega)) := by
    have := (hel 3 _ rfl).trans (List.getElem?_eq_getElem (by omega)); simpa [cs1, cu1, ci1, cb1] using this
  obtain ⟨x3, e4, -, q3⟩ := DataW.trod_int Tryz.underlying5 g4
  obtain rfl := (List.cons.inj e4).1
  obtain ⟨n3', rfl, b3'⟩ := u8_open q3
  have g5 : DataW.trod enc Tryz.prog W 0 spare held n2 9 [v5] = some (ys[4]'(by omega)) := by
    have := (hel 4 _ rfl).trans (List.getElem?_eq_getElem (by omega)); simpa [cs1, cu1, ci1, cb1] using this
  obtain ⟨x4, e5, -, q4⟩ := DataW.trod_string Tryz.underlying9 g5
  obtain rfl := (List.cons.inj e5).1
  have g6 : DataW.trod enc Tryz.prog W 0 spare held n2 2 [v6] = some (ys[5]'(by omega)) := by
    have := (hel 5 _ rfl).trans (List.getElem?_eq_getElem (by omega)); simpa [cs1, cu1, ci1, cb1] using this
  obtain ⟨x5, e6, -, q5⟩ := DataW.trod_int Tryz.underlying2 g6
  obtain rfl := (List.cons.inj e6).1
  have b5' := i64_open q5
  have g7 : DataW.trod enc Tryz.prog W 0 spare held n2 2 [v7] = some (ys[6]'(by omega)) := by
    have := (hel 6 _ rfl).trans (List.getElem?_eq_getElem (by omega)); simpa [cs1, cu1, ci1, cb1] using this
  obtain ⟨x6, e7, -, q6⟩ := DataW.trod_int Tryz.underlying2 g7
  obtain rfl := (List.cons.inj e7).1
  have b6' := i64_open q6
  have g8 : DataW.trod enc Tryz.prog W 0 spare held n2 5 [v8] = some (ys[7]'(by omega)) := by
    have := (hel 7 _ rfl).trans (List.getElem?_eq_getElem (by omega)); simpa [cs1, cu1, ci1, cb1] using this
  obtain ⟨x7, e8, -, q7⟩ := DataW.trod_int Tryz.underlying5 g8
  obtain rfl := (List.cons.inj e8).1
  obtain ⟨n7', rfl, b7'⟩ := u8_open q7
  have g9 : DataW.trod enc Tryz.prog W 0 spare held n2 4 [v9] = some (ys[8]'(by omega)) := by
    have := (hel 8 _ rfl).trans (List.getElem?_eq_getElem (by omega)); simpa [cs1, cu1, ci1, cb1] using this
  obtain ⟨x8, e9, -⟩ := DataW.trod_bool Tryz.underlying4 g9
  obtain rfl := (List.cons.inj e9).1
  have g10 : DataW.trod enc Tryz.prog W 0 spare held n2 4 [v10] = some (ys[9]'(by omega)) := by
    have := (hel 9 _ rfl).trans (List.getElem?_eq_getElem (by omega)); simpa [cs1, cu1, ci1, cb1] using this
  obtain ⟨x9, e10, -⟩ := DataW.trod_bool Tryz.underlying4 g10
  obtain rfl := (List.cons.inj e10).1
  have g11 : DataW.trod enc Tryz.prog W 0 spare held n2 2 [v11] = some (ys[10]'(by omega)) := by
    have := (hel 10 _ rfl).trans (List.getElem?_eq_getElem (by omega)); simpa [cs1, cu1, ci1, cb1] using this
  obtain ⟨x10, e11, -, q10⟩ := DataW.trod_int Tryz.underlying2 g11
  obtain rfl := (List.cons.inj e11).1
  have b10' := i64_open q10
  have g12 : DataW.trod enc Tryz.prog W 0 spare held n2 2 [v12] = some (ys[11]'(by omega)) := by
    have := (hel 11 _ rfl).trans (List.getElem?_eq_getElem (by omega)); simpa [cs1, cu1, ci1, cb1] using this
  obtain ⟨x11, e12, -, q11⟩ := DataW.trod_int Tryz.underlying2 g12
  obtain rfl := (List.cons.inj e12).1
  have b11' := i64_open q11
  have g13 : DataW.trod enc Tryz.prog W 0 spare held n2 2 [v13] = some (ys[12]'(by omega)) := by
    have := (hel 12 _ rfl).trans (List.getElem?_eq_getElem (by omega)); simpa [cs1, cu1, ci1, cb1] using this
  obtain ⟨x12, e13, -, q12⟩ := DataW.trod_int Tryz.underlying2 g13
  obtain rfl := (List.cons.inj e13).1
  have b12' := i64_open q12
  have g14 : DataW.trod enc Tryz.prog W 0 spare held n2 5 [v14] = some (ys[13]'(by omega)) := by
    have := (hel 13 _ rfl).trans (List.getElem?_eq_getElem (by omega)); simpa [cs1, cu1, ci1, cb1] using this
  obtain ⟨x13, e14, -, q13⟩ := DataW.trod_int Tryz.underlying5 g14
  obtain rfl := (List.cons.inj e14).1
  obtain ⟨n13', rfl, b13'⟩ := u8_open q13
  exact ⟨⟨x0, n1', x2, n3', x4, x5, x6, n7', x8, x9, x10, x11, x12, n13'⟩, rfl, rfl, rfl, rfl, rfl, rfl, rfl, rfl, rfl, rfl, rfl, rfl, rfl, rfl, ⟨q0, b1', q2, b3', q4, b5', b6', b7', b10', b11', b12', b13'⟩⟩
theorem open_obs {H : Type} {enc : TypeId × Value → H} {W : World} {b0 : Nat} {spare : Nat → Bool} {held : Bool} {v : Value} {d : DataW H} {p : List MemPlace}
    (hv : Value.okWide Tryz.prog W .any b0 22 v) (h : DataW.Trod enc Tryz.prog W 0 spare held 22 v d p) :
    ∃ (A : Option Addr) (l : List Ob) (c : Nat), v = .slice A l.length c ∧ IX.RdK WX.obK W W.heap.size A l ∧ (∀ x ∈ l, Fine x) ∧ l.length ≤ maxLen ∧ l.length ≤ c := by
  obtain ⟨a1, len, cap, rfl⟩ := okWide_slice Tryz.underlying22 hv
  obtain ⟨fuel, hf⟩ := h
  rcases Go.Deep.open_slice Tryz.underlying22 hf with ⟨hcs, _⟩ | ⟨a, len', cap', m, n, D, Pl, hcs, _, hl, hm, hmm, _, hc⟩
  · simp [Value.cells] at hcs
    obtain ⟨rfl, rfl, rfl⟩ := hcs
    exact ⟨none, [], 0, rfl, .inl rfl, fun _ h => (by cases h), Nat.zero_le _, Nat.zero_le _⟩
  · simp [Value.cells] at hcs
    obtain ⟨rfl, rfl, rfl⟩ := hcs
    have hlm : len ≤ m := by rw [hmm]; split <;> omega
    have ce : Tryz.prog.cellsOf 35 = 14 := by kernel_rfl
    have hex : ∀ i, i < m → ∃ x : Ob, (∀ j u, (WX.obK.enc x)[j]? = some u → W.cell? (a.add (i * 14 + j)) = some u) ∧ Fine x := by
      intro i hi
      obtain ⟨cs', h1, h2⟩ := hc i hi
      rw [ce] at h1
      obtain ⟨_, hlen, hcell⟩ := World.cells?_some h1
      match cs', hlen, h2, hcell with
      | [v1, v2, v3, v4, v5, v6, v7, v8, v9, v10, v11, v12, v13, v14], _, h2, hcell =>
        obtain ⟨x, rfl, rfl, rfl, rfl, rfl, rfl, rfl, rfl, rfl, rfl, rfl, rfl, rfl, rfl, hp⟩ := open_ob1 h2
        refine ⟨x, fun j u hu => ?_, hp⟩
        have hj : j < 14 := by have := (List.getElem?_eq_some_iff.1 hu).1; rwa [WX.obK.len] at this
        have q := hcell j hj
        rw [Go.Deep.add_add] at q
        rw [q]
        exact hu
    have hch : ∃ f : Nat → Ob, ∀ i, i < m → (∀ j u, (WX.obK.enc (f i))[j]? = some u → W.cell? (a.add (i * 14 + j)) = some u) ∧ Fine (f i) :=
      ⟨fun i => if h : i < m then Classical.choose (hex i h) else zeroOb, fun i hi => by simp only [hi, dif_pos]; exact Classical.choose_spec (hex i hi)⟩
    obtain ⟨f, hf2⟩ := hch
    refine ⟨some a, (List.range len).map f, cap, by simp, ?_, fun x hx => ?_, by simp; omega, by simp; exact hl⟩
    · by_cases h0 : len = 0
      · subst h0; exact .inl (by simp)
      · have c0 := (hf2 0 (by omega)).1 0 _ rfl
        obtain ⟨b, off, spot⟩ := a
        have hspot : spot = none := by simpa [Addr.add] using World.cell?_spot c0
        subst hspot
        refine .inr ⟨b, off, rfl, by simpa [Addr.add] using World.block_lt_of_cell? W _ c0, fun q u hu => ?_⟩
        obtain ⟨j, i, x, rfl, hx, hu2⟩ := IX.cellsK_inv WX.obK hu
        have hj : j < len := by have := (List.getElem?_eq_some_iff.1 hx).1; simpa using this
        have q0 := (hf2 j (by omega)).1 i u (by
          simp [hj] at hx
          subst hx; exact hu2)
        have hadd : ∀ k, (⟨b, off, none⟩ : Addr).add k = ⟨b, off + k, none⟩ := fun k => by unfold Addr.add; split <;> simp_all
        rw [hadd] at q0
        exact q0
    · obtain ⟨i, hi, rfl⟩ := List.mem_map.1 hx
      have := List.mem_range.1 hi
      exact (hf2 i (by omega)).2
end Go.Proofs.YtncahpbjbgcnbaaGreatDoor
