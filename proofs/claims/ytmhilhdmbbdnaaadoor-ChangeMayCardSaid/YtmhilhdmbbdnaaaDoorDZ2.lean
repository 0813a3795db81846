/-
  PLAIN: the tables that are laid (OLaid), under this layer's name.
-/
import Derived.Test.YtmhilhdmbbdnaaaDoorOLaid
import Derived.Test.YtmhilhdmbbdnaaaDoorDZ0
import Derived.Test.YtmhilhdmbbdnaaaDoorOOpen
import Derived.Deep.SlicePairs
import Derived.OpenShut
import Derived.ProofKit
/-
  A row of changes (a kind and an object) that came in as an argument.
-/
namespace Go.Proofs.YtmhilhdmbbdnaaaDoor
open Go.ChangeShapes Go.WideShapes Go.ChangeAt Go.RowKit
set_option maxRecDepth 100000
set_option linter.unusedVariables false

set_option maxHeartbeats 4000000 in
theorem open_ch1 {H : Type} {enc : TypeId × Value → H} {W : World} {spare : Nat → Bool} {held : Bool} {n : Nat} {y : DataW H × List MemPlace} {v0 v1 v2 v3 v4 v5 v6 v7 v8 v9 v10 v11 v12 v13 v14 : Value}
    (h2 : DataW.trod enc Tryd.prog W 0 spare held n 28 [v0, v1, v2, v3, v4, v5, v6, v7, v8, v9, v10, v11, v12, v13, v14] = some y) :
    ∃ x : DX.Ch, v0 = (.int .u8 x.kind) ∧ v1 = (.string x.o.handle) ∧ v2 = (.int .u8 x.o.kind) ∧ v3 = (.string x.o.parent) ∧ v4 = (.int .u8 x.o.typ) ∧ v5 = (.string x.o.ref) ∧ v6 = (.int .i64 x.o.lo) ∧ v7 = (.int .i64 x.o.hi) ∧ v8 = (.int .u8 x.o.digits) ∧ v9 = (.bool x.o.on) ∧ v10 = (.bool x.o.has) ∧ v11 = (.int .i64 x.o.value) ∧ v12 = (.int .i64 x.o.low) ∧ v13 = (.int .i64 x.o.high) ∧ v14 = (.int .u8 x.o.assoc) ∧ x.kind ≤ 255 ∧ Fine x.o := by
  obtain ⟨xs, k, _, _, _, hxl, hf⟩ := DataW.trod_struct Tryd.underlying28 h2
  have hl : xs.length = 2 := hxl
  have cs1 : Tryd.prog.cellsOf 9 = 1 := by kernel_rfl
  have cu1 : Tryd.prog.cellsOf 5 = 1 := by kernel_rfl
  have ci1 : Tryd.prog.cellsOf 2 = 1 := by kernel_rfl
  have cb1 : Tryd.prog.cellsOf 4 = 1 := by kernel_rfl
  have co1 : Tryd.prog.cellsOf 26 = 14 := by kernel_rfl
  have g0 : DataW.trod enc Tryd.prog W 0 spare held k 5 [v0] = some (xs[0]'(by omega)) := by
    have := (hf 0 _ rfl).trans (List.getElem?_eq_getElem (by omega)); simpa [cu1, co1] using this
  have gO : DataW.trod enc Tryd.prog W 0 spare held k 26 [v1, v2, v3, v4, v5, v6, v7, v8, v9, v10, v11, v12, v13, v14] = some (xs[1]'(by omega)) := by
    have := (hf 1 _ rfl).trans (List.getElem?_eq_getElem (by omega)); simpa [cu1, co1] using this
  obtain ⟨z0, e0, -, q0⟩ := DataW.trod_int Tryd.underlying5 g0
  obtain rfl := (List.cons.inj e0).1
  obtain ⟨m0, rfl, b0⟩ := u8_open q0
  obtain ⟨ys, n2, _, _, _, hyl, hel⟩ := DataW.trod_struct Tryd.underlying26 gO
  have hl2 : ys.length = 14 := hyl
  have g1 : DataW.trod enc Tryd.prog W 0 spare held n2 9 [v1] = some (ys[0]'(by omega)) := by
    have := (hel 0 _ rfl).trans (List.getElem?_eq_getElem (by omega)); simpa [cs1, cu1, ci1, cb1] using this
  obtain ⟨x0, e1, -, q0⟩ := DataW.trod_string Tryd.underlying9 g1
  obtain rfl := (List.cons.inj e1).1
  have g2 : DataW.trod enc Tryd.prog W 0 spare held n2 5 [v2] = some (ys[1]'(by omega)) := by
    have := (hel 1 _ rfl).trans (List.getElem?_eq_getElem (by omega)); simpa [cs1, cu1, ci1, cb1] using this
  obtain ⟨x1, e2, -, q1⟩ := DataW.trod_int Tryd.underlying5 g2
  obtain rfl := (List.cons.inj e2).1
  obtain ⟨n1', rfl, b1'⟩ := u8_open q1
  have g3 : DataW.trod enc Tryd.prog W 0 spare held n2 9 [v3] = some (ys[2]'(by omega)) := by
    have := (hel 2 _ rfl).trans (List.getElem?_eq_getElem (by omega)); simpa [cs1, cu1, ci1, cb1] using this
  obtain ⟨x2, e3, -, q2⟩ := DataW.trod_string Tryd.underlying9 g3
  obtain rfl := (List.cons.inj e3).1
  have g4 : DataW.trod enc Tryd.prog W 0 spare held n2 5 [v4] = some (ys[3]'(by omega)) := by
    have := (hel 3 _ rfl).trans (List.getElem?_eq_getElem (by omega)); simpa [cs1, cu1, ci1, cb1] using this
  obtain ⟨x3, e4, -, q3⟩ := DataW.trod_int Tryd.underlying5 g4
  obtain rfl := (List.cons.inj e4).1
  obtain ⟨n3', rfl, b3'⟩ := u8_open q3
  have g5 : DataW.trod enc Tryd.prog W 0 spare held n2 9 [v5] = some (ys[4]'(by omega)) := by
    have := (hel 4 _ rfl).trans (List.getElem?_eq_getElem (by omega)); simpa [cs1, cu1, ci1, cb1] using this
  obtain ⟨x4, e5, -, q4⟩ := DataW.trod_string Tryd.underlying9 g5
  obtain rfl := (List.cons.inj e5).1
  have g6 : DataW.trod enc Tryd.prog W 0 spare held n2 2 [v6] = some (ys[5]'(by omega)) := by
    have := (hel 5 _ rfl).trans (List.getElem?_eq_getElem (by omega)); simpa [cs1, cu1, ci1, cb1] using this
  obtain ⟨x5, e6, -, q5⟩ := DataW.trod_int Tryd.underlying2 g6
  obtain rfl := (List.cons.inj e6).1
  have b5' := i64_open q5
  have g7 : DataW.trod enc Tryd.prog W 0 spare held n2 2 [v7] = some (ys[6]'(by omega)) := by
    have := (hel 6 _ rfl).trans (List.getElem?_eq_getElem (by omega)); simpa [cs1, cu1, ci1, cb1] using this
  obtain ⟨x6, e7, -, q6⟩ := DataW.trod_int Tryd.underlying2 g7
  obtain rfl := (List.cons.inj e7).1
  have b6' := i64_open q6
  have g8 : DataW.trod enc Tryd.prog W 0 spare held n2 5 [v8] = some (ys[7]'(by omega)) := by
    have := (hel 7 _ rfl).trans (List.getElem?_eq_getElem (by omega)); simpa [cs1, cu1, ci1, cb1] using this
  obtain ⟨x7, e8, -, q7⟩ := DataW.trod_int Tryd.underlying5 g8
  obtain rfl := (List.cons.inj e8).1
  obtain ⟨n7', rfl, b7'⟩ := u8_open q7
  have g9 : DataW.trod enc Tryd.prog W 0 spare held n2 4 [v9] = some (ys[8]'(by omega)) := by
    have := (hel 8 _ rfl).trans (List.getElem?_eq_getElem (by omega)); simpa [cs1, cu1, ci1, cb1] using this
  obtain ⟨x8, e9, -⟩ := DataW.trod_bool Tryd.underlying4 g9
  obtain rfl := (List.cons.inj e9).1
  have g10 : DataW.trod enc Tryd.prog W 0 spare held n2 4 [v10] = some (ys[9]'(by omega)) := by
    have := (hel 9 _ rfl).trans (List.getElem?_eq_getElem (by omega)); simpa [cs1, cu1, ci1, cb1] using this
  obtain ⟨x9, e10, -⟩ := DataW.trod_bool Tryd.underlying4 g10
  obtain rfl := (List.cons.inj e10).1
  have g11 : DataW.trod enc Tryd.prog W 0 spare held n2 2 [v11] = some (ys[10]'(by omega)) := by
    have := (hel 10 _ rfl).trans (List.getElem?_eq_getElem (by omega)); simpa [cs1, cu1, ci1, cb1] using this
  obtain ⟨x10, e11, -, q10⟩ := DataW.trod_int Tryd.underlying2 g11
  obtain rfl := (List.cons.inj e11).1
  have b10' := i64_open q10
  have g12 : DataW.trod enc Tryd.prog W 0 spare held n2 2 [v12] = some (ys[11]'(by omega)) := by
    have := (hel 11 _ rfl).trans (List.getElem?_eq_getElem (by omega)); simpa [cs1, cu1, ci1, cb1] using this
  obtain ⟨x11, e12, -, q11⟩ := DataW.trod_int Tryd.underlying2 g12
  obtain rfl := (List.cons.inj e12).1
  have b11' := i64_open q11
  have g13 : DataW.trod enc Tryd.prog W 0 spare held n2 2 [v13] = some (ys[12]'(by omega)) := by
    have := (hel 12 _ rfl).trans (List.getElem?_eq_getElem (by omega)); simpa [cs1, cu1, ci1, cb1] using this
  obtain ⟨x12, e13, -, q12⟩ := DataW.trod_int Tryd.underlying2 g13
  obtain rfl := (List.cons.inj e13).1
  have b12' := i64_open q12
  have g14 : DataW.trod enc Tryd.prog W 0 spare held n2 5 [v14] = some (ys[13]'(by omega)) := by
    have := (hel 13 _ rfl).trans (List.getElem?_eq_getElem (by omega)); simpa [cs1, cu1, ci1, cb1] using this
  obtain ⟨x13, e14, -, q13⟩ := DataW.trod_int Tryd.underlying5 g14
  obtain rfl := (List.cons.inj e14).1
  obtain ⟨n13', rfl, b13'⟩ := u8_open q13
  exact ⟨⟨m0, ⟨x0, n1', x2, n3', x4, x5, x6, n7', x8, x9, x10, x11, x12, n13'⟩⟩, rfl, rfl, rfl, rfl, rfl, rfl, rfl, rfl, rfl, rfl, rfl, rfl, rfl, rfl, rfl, b0, ⟨q0, b1', q2, b3', q4, b5', b6', b7', b10', b11', b12', b13'⟩⟩
theorem open_chs {H : Type} {enc : TypeId × Value → H} {W : World} {b0 : Nat} {spare : Nat → Bool} {held : Bool} {v : Value} {d : DataW H} {p : List MemPlace}
    (hv : Value.okWide Tryd.prog W .any b0 22 v) (h : DataW.Trod enc Tryd.prog W 0 spare held 22 v d p) :
    ∃ (A : Option Addr) (l : List DX.Ch) (c : Nat), v = .slice A l.length c ∧ IX.RdK DX.chK W W.heap.size A l ∧ (∀ x ∈ l, x.kind ≤ 255 ∧ Fine x.o) ∧ l.length ≤ maxLen ∧ l.length ≤ c := by
  obtain ⟨a1, len, cap, rfl⟩ := okWide_slice Tryd.underlying22 hv
  obtain ⟨fuel, hf⟩ := h
  rcases Go.Deep.open_slice Tryd.underlying22 hf with ⟨hcs, _⟩ | ⟨a, len', cap', m, n, D, Pl, hcs, _, hl, hm, hmm, _, hc⟩
  · simp [Value.cells] at hcs
    obtain ⟨rfl, rfl, rfl⟩ := hcs
    exact ⟨none, [], 0, rfl, .inl rfl, fun _ h => (by cases h), Nat.zero_le _, Nat.zero_le _⟩
  · simp [Value.cells] at hcs
    obtain ⟨rfl, rfl, rfl⟩ := hcs
    have hlm : len ≤ m := by rw [hmm]; split <;> omega
    have ce : Tryd.prog.cellsOf 28 = 15 := by kernel_rfl
    have hex : ∀ i, i < m → ∃ x : DX.Ch, (∀ j u, (DX.chK.enc x)[j]? = some u → W.cell? (a.add (i * 15 + j)) = some u) ∧ x.kind ≤ 255 ∧ Fine x.o := by
      intro i hi
      obtain ⟨cs', h1, h2⟩ := hc i hi
      rw [ce] at h1
      obtain ⟨_, hlen, hcell⟩ := World.cells?_some h1
      match cs', hlen, h2, hcell with
      | [v0, v1, v2, v3, v4, v5, v6, v7, v8, v9, v10, v11, v12, v13, v14], _, h2, hcell =>
        obtain ⟨x, rfl, rfl, rfl, rfl, rfl, rfl, rfl, rfl, rfl, rfl, rfl, rfl, rfl, rfl, rfl, hp⟩ := open_ch1 h2
        refine ⟨x, fun j u hu => ?_, hp⟩
        have hj : j < 15 := by have := (List.getElem?_eq_some_iff.1 hu).1; rwa [DX.chK.len] at this
        have q := hcell j hj
        rw [Go.Deep.add_add] at q
        rw [q]
        exact hu
    have hch : ∃ f : Nat → DX.Ch, ∀ i, i < m → (∀ j u, (DX.chK.enc (f i))[j]? = some u → W.cell? (a.add (i * 15 + j)) = some u) ∧ (f i).kind ≤ 255 ∧ Fine (f i).o :=
      ⟨fun i => if h : i < m then Classical.choose (hex i h) else ⟨0, zeroOb⟩, fun i hi => by simp only [hi, dif_pos]; exact Classical.choose_spec (hex i hi)⟩
    obtain ⟨f, hf2⟩ := hch
    refine ⟨some a, (List.range len).map f, cap, by simp, ?_, fun x hx => ?_, by simp; omega, by simp; exact hl⟩
    · by_cases h0 : len = 0
      · subst h0; exact .inl (by simp)
      · have c0 := (hf2 0 (by omega)).1 0 _ rfl
        obtain ⟨b, off, spot⟩ := a
        have hspot : spot = none := by simpa [Addr.add] using World.cell?_spot c0
        subst hspot
        refine .inr ⟨b, off, rfl, by simpa [Addr.add] using World.block_lt_of_cell? W _ c0, fun q u hu => ?_⟩
        obtain ⟨j, i, x, rfl, hx, hu2⟩ := IX.cellsK_inv DX.chK hu
        have hj : j < len := by have := (List.getElem?_eq_some_iff.1 hx).1; simpa using this
        have q0 := (hf2 j (by omega)).1 i u (by
          simp [hj] at hx
          subst hx; exact hu2)
        have hadd : ∀ k, (⟨b, off, none⟩ : Addr).add k = ⟨b, off + k, none⟩ := fun k => by unfold Addr.add; split <;> simp_all
        rw [hadd] at q0
        exact q0
    · obtain ⟨i, hi, rfl⟩ := List.mem_map.1 hx
      have := List.mem_range.1 hi
      exact (hf2 i (by omega)).2
end Go.Proofs.YtmhilhdmbbdnaaaDoor
