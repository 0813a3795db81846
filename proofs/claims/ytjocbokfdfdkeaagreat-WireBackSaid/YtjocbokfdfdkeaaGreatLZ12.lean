/-
  An object that came in as an argument: its fields, and their bounds.
-/
import Derived.Test.YtjocbokfdfdkeaaGreatLZ0
import Derived.WideShapes
import Derived.Lib.SmallJoins
import Derived.ProofKit
import Derived.Test.YtjocbokfdfdkeaaGreatLZ3
import Derived.Deep.SlicePairs
import Derived.OpenShut
import Derived.Test.YtjocbokfdfdkeaaGreatLZ4
import Derived.Test.YtjocbokfdfdkeaaGreatLZ6
import Derived.Test.YtjocbokfdfdkeaaGreatLZLPutQ
import Derived.Test.YtjocbokfdfdkeaaGreatLZLPutP
import Derived.Test.YtjocbokfdfdkeaaGreatLZLRep
import Derived.SliceStrings
namespace Go.Proofs.YtjocbokfdfdkeaaGreat
open Go.ChangeShapes Go.WideShapes Go.ChangeAt Go.RowKit
set_option maxRecDepth 100000
set_option linter.unusedVariables false

structure Fine (o : Ob) : Prop where
  handle : o.handle.size ≤ maxLen
  kind : o.kind ≤ 255
  parent : o.parent.size ≤ maxLen
  typ : o.typ ≤ 255
  ref : o.ref.size ≤ maxLen
  lo : -9223372036854775808 ≤ o.lo ∧ o.lo ≤ 9223372036854775807
  hi : -9223372036854775808 ≤ o.hi ∧ o.hi ≤ 9223372036854775807
  digits : o.digits ≤ 255
  value : -9223372036854775808 ≤ o.value ∧ o.value ≤ 9223372036854775807
  low : -9223372036854775808 ≤ o.low ∧ o.low ≤ 9223372036854775807
  high : -9223372036854775808 ≤ o.high ∧ o.high ≤ 9223372036854775807
  assoc : o.assoc ≤ 255
theorem u8_open {i : Int} (h : (Lit.int .u8 i).wf = true) : ∃ d : Nat, i = (d : Int) ∧ d ≤ 255 := by
  simp [Lit.wf, show IntKind.u8.min = 0 from rfl, show IntKind.u8.max = 255 from rfl] at h
  exact ⟨i.toNat, by omega, by omega⟩
theorem i64_open {i : Int} (h : (Lit.int .i64 i).wf = true) : -9223372036854775808 ≤ i ∧ i ≤ 9223372036854775807 := by
  simp [Lit.wf, show IntKind.i64.min = -9223372036854775808 from rfl, show IntKind.i64.max = 9223372036854775807 from rfl] at h
  omega
set_option maxHeartbeats 2000000 in
theorem open_ob {H : Type} {enc : TypeId × Value → H} {W : World} {r : Reach} {base b0 : Nat} {spare : Nat → Bool} {held : Bool} {v : Value} {d : DataW H} {p : List MemPlace}
    (hv : Value.okWide Tryz.prog W r b0 24 v) (h : DataW.Trod enc Tryz.prog W base spare held 24 v d p) : ∃ o : Ob, v = ob o ∧ Fine o := by
  obtain ⟨cs, rfl, hsz⟩ := okWide_struct Tryz.underlying24 hv
  have hC : Tryz.prog.cellsOf 24 = 14 := by kernel_rfl
  rw [hC] at hsz
  obtain ⟨fuel, hf⟩ := h
  obtain ⟨xs, n, _, _, _, hlen, hel⟩ := DataW.trod_struct Tryz.underlying24 hf
  have hl : xs.length = 14 := hlen
  have cs1 : Tryz.prog.cellsOf 9 = 1 := by kernel_rfl
  have cu1 : Tryz.prog.cellsOf 5 = 1 := by kernel_rfl
  have ci1 : Tryz.prog.cellsOf 2 = 1 := by kernel_rfl
  have cb1 : Tryz.prog.cellsOf 4 = 1 := by kernel_rfl
  obtain ⟨l⟩ := cs
  match l, hsz with
  | [c0, c1, c2, c3, c4, c5, c6, c7, c8, c9, c10, c11, c12, c13], _ =>
    have g0 : DataW.trod enc Tryz.prog W base spare held n 9 [c0] = some (xs[0]'(by omega)) := by
      have := (hel 0 _ rfl).trans (List.getElem?_eq_getElem (by omega)); simpa [Value.cells, cs1] using this
    obtain ⟨x0, e0, -, q0⟩ := DataW.trod_string Tryz.underlying9 g0
    obtain rfl := (List.cons.inj e0).1
    have g1 : DataW.trod enc Tryz.prog W base spare held n 5 [c1] = some (xs[1]'(by omega)) := by
      have := (hel 1 _ rfl).trans (List.getElem?_eq_getElem (by omega)); simpa [Value.cells, cu1] using this
    obtain ⟨x1, e1, -, q1⟩ := DataW.trod_int Tryz.underlying5 g1
    obtain rfl := (List.cons.inj e1).1
    obtain ⟨n1, rfl, b1⟩ := u8_open q1
    have g2 : DataW.trod enc Tryz.prog W base spare held n 9 [c2] = some (xs[2]'(by omega)) := by
      have := (hel 2 _ rfl).trans (List.getElem?_eq_getElem (by omega)); simpa [Value.cells, cs1] using this
    obtain ⟨x2, e2, -, q2⟩ := DataW.trod_string Tryz.underlying9 g2
    obtain rfl := (List.cons.inj e2).1
    have g3 : DataW.trod enc Tryz.prog W base spare held n 5 [c3] = some (xs[3]'(by omega)) := by
      have := (hel 3 _ rfl).trans (List.getElem?_eq_getElem (by omega)); simpa [Value.cells, cu1] using this
    obtain ⟨x3, e3, -, q3⟩ := DataW.trod_int Tryz.underlying5 g3
    obtain rfl := (List.cons.inj e3).1
    obtain ⟨n3, rfl, b3⟩ := u8_open q3
    have g4 : DataW.trod enc Tryz.prog W base spare held n 9 [c4] = some (xs[4]'(by omega)) := by
      have := (hel 4 _ rfl).trans (List.getElem?_eq_getElem (by omega)); simpa [Value.cells, cs1] using this
    obtain ⟨x4, e4, -, q4⟩ := DataW.trod_string Tryz.underlying9 g4
    obtain rfl := (List.cons.inj e4).1
    have g5 : DataW.trod enc Tryz.prog W base spare held n 2 [c5] = some (xs[5]'(by omega)) := by
      have := (hel 5 _ rfl).trans (List.getElem?_eq_getElem (by omega)); simpa [Value.cells, ci1] using this
    obtain ⟨x5, e5, -, q5⟩ := DataW.trod_int Tryz.underlying2 g5
    obtain rfl := (List.cons.inj e5).1
    have g6 : DataW.trod enc Tryz.prog W base spare held n 2 [c6] = some (xs[6]'(by omega)) := by
      have := (hel 6 _ rfl).trans (List.getElem?_eq_getElem (by omega)); simpa [Value.cells, ci1] using this
    obtain ⟨x6, e6, -, q6⟩ := DataW.trod_int Tryz.underlying2 g6
    obtain rfl := (List.cons.inj e6).1
    have g7 : DataW.trod enc Tryz.prog W base spare held n 5 [c7] = some (xs[7]'(by omega)) := by
      have := (hel 7 _ rfl).trans (List.getElem?_eq_getElem (by omega)); simpa [Value.cells, cu1] using this
    obtain ⟨x7, e7, -, q7⟩ := DataW.trod_int Tryz.underlying5 g7
    obtain rfl := (List.cons.inj e7).1
    obtain ⟨n7, rfl, b7⟩ := u8_open q7
    have g8 : DataW.trod enc Tryz.prog W base spare held n 4 [c8] = some (xs[8]'(by omega)) := by
      have := (hel 8 _ rfl).trans (List.getElem?_eq_getElem (by omega)); simpa [Value.cells, cb1] using this
    obtain ⟨x8, e8, -⟩ := DataW.trod_bool Tryz.underlying4 g8
    obtain rfl := (List.cons.inj e8).1
    have g9 : DataW.trod enc Tryz.prog W base spare held n 4 [c9] = some (xs[9]'(by omega)) := by
      have := (hel 9 _ rfl).trans (List.getElem?_eq_getElem (by omega)); simpa [Value.cells, cb1] using this
    obtain ⟨x9, e9, -⟩ := DataW.trod_bool Tryz.underlying4 g9
    obtain rfl := (List.cons.inj e9).1
    have g10 : DataW.trod enc Tryz.prog W base spare held n 2 [c10] = some (xs[10]'(by omega)) := by
      have := (hel 10 _ rfl).trans (List.getElem?_eq_getElem (by omega)); simpa [Value.cells, ci1] using this
    obtain ⟨x10, e10, -, q10⟩ := DataW.trod_int Tryz.underlying2 g10
    obtain rfl := (List.cons.inj e10).1
    have g11 : DataW.trod enc Tryz.prog W base spare held n 2 [c11] = some (xs[11]'(by omega)) := by
      have := (hel 11 _ rfl).trans (List.getElem?_eq_getElem (by omega)); simpa [Value.cells, ci1] using this
    obtain ⟨x11, e11, -, q11⟩ := DataW.trod_int Tryz.underlying2 g11
    obtain rfl := (List.cons.inj e11).1
    have g12 : DataW.trod enc Tryz.prog W base spare held n 2 [c12] = some (xs[12]'(by omega)) := by
      have := (hel 12 _ rfl).trans (List.getElem?_eq_getElem (by omega)); simpa [Value.cells, ci1] using this
    obtain ⟨x12, e12, -, q12⟩ := DataW.trod_int Tryz.underlying2 g12
    obtain rfl := (List.cons.inj e12).1
    have g13 : DataW.trod enc Tryz.prog W base spare held n 5 [c13] = some (xs[13]'(by omega)) := by
      have := (hel 13 _ rfl).trans (List.getElem?_eq_getElem (by omega)); simpa [Value.cells, cu1] using this
    obtain ⟨x13, e13, -, q13⟩ := DataW.trod_int Tryz.underlying5 g13
    obtain rfl := (List.cons.inj e13).1
    obtain ⟨n13, rfl, b13⟩ := u8_open q13
    exact ⟨⟨x0, n1, x2, n3, x4, x5, x6, n7, x8, x9, x10, x11, x12, n13⟩, rfl, ⟨q0, b1, q2, b3, q4, i64_open q5, i64_open q6, b7, i64_open q10, i64_open q11, i64_open q12, b13⟩⟩
end Go.Proofs.YtjocbokfdfdkeaaGreat
/-
  A row of changes (a kind and an object) that came in as an argument.
-/
namespace Go.Proofs.YtjocbokfdfdkeaaGreat
open Go.ChangeShapes Go.WideShapes Go.ChangeAt Go.RowKit
set_option maxRecDepth 100000
set_option linter.unusedVariables false

set_option maxHeartbeats 4000000 in
theorem open_ch1 {H : Type} {enc : TypeId × Value → H} {W : World} {spare : Nat → Bool} {held : Bool} {n : Nat} {y : DataW H × List MemPlace} {v0 v1 v2 v3 v4 v5 v6 v7 v8 v9 v10 v11 v12 v13 v14 : Value}
    (h2 : DataW.trod enc Tryz.prog W 0 spare held n 26 [v0, v1, v2, v3, v4, v5, v6, v7, v8, v9, v10, v11, v12, v13, v14] = some y) :
    ∃ x : DX.Ch, v0 = (.int .u8 x.kind) ∧ v1 = (.string x.o.handle) ∧ v2 = (.int .u8 x.o.kind) ∧ v3 = (.string x.o.parent) ∧ v4 = (.int .u8 x.o.typ) ∧ v5 = (.string x.o.ref) ∧ v6 = (.int .i64 x.o.lo) ∧ v7 = (.int .i64 x.o.hi) ∧ v8 = (.int .u8 x.o.digits) ∧ v9 = (.bool x.o.on) ∧ v10 = (.bool x.o.has) ∧ v11 = (.int .i64 x.o.value) ∧ v12 = (.int .i64 x.o.low) ∧ v13 = (.int .i64 x.o.high) ∧ v14 = (.int .u8 x.o.assoc) ∧ x.kind ≤ 255 ∧ Fine x.o := by
  obtain ⟨xs, k, _, _, _, hxl, hf⟩ := DataW.trod_struct Tryz.underlying26 h2
  have hl : xs.length = 2 := hxl
  have cs1 : Tryz.prog.cellsOf 9 = 1 := by kernel_rfl
  have cu1 : Tryz.prog.cellsOf 5 = 1 := by kernel_rfl
  have ci1 : Tryz.prog.cellsOf 2 = 1 := by kernel_rfl
  have cb1 : Tryz.prog.cellsOf 4 = 1 := by kernel_rfl
  have co1 : Tryz.prog.cellsOf 24 = 14 := by kernel_rfl
  have g0 : DataW.trod enc Tryz.prog W 0 spare held k 5 [v0] = some (xs[0]'(by omega)) := by
    have := (hf 0 _ rfl).trans (List.getElem?_eq_getElem (by omega)); simpa [cu1, co1] using this
  have gO : DataW.trod enc Tryz.prog W 0 spare held k 24 [v1, v2, v3, v4, v5, v6, v7, v8, v9, v10, v11, v12, v13, v14] = some (xs[1]'(by omega)) := by
    have := (hf 1 _ rfl).trans (List.getElem?_eq_getElem (by omega)); simpa [cu1, co1] using this
  obtain ⟨z0, e0, -, q0⟩ := DataW.trod_int Tryz.underlying5 g0
  obtain rfl := (List.cons.inj e0).1
  obtain ⟨m0, rfl, b0⟩ := u8_open q0
  obtain ⟨ys, n2, _, _, _, hyl, hel⟩ := DataW.trod_struct Tryz.underlying24 gO
  have hl2 : ys.length = 14 := hyl
  have g1 : DataW.trod enc Tryz.prog W 0 spare held n2 9 [v1] = some (ys[0]'(by omega)) := by
    have := (hel 0 _ rfl).trans (List.getElem?_eq_getElem (by omega)); simpa [cs1, cu1, ci1, cb1] using this
  obtain ⟨x0, e1, -, q0⟩ := DataW.trod_string Tryz.underlying9 g1
  obtain rfl := (List.cons.inj e1).1
  have g2 : DataW.trod enc Tryz.prog W 0 spare held n2 5 [v2] = some (ys[1]'(by omega)) := by
    have := (hel 1 _ rfl).trans (List.getElem?_eq_getElem (by omega)); simpa [cs1, cu1, ci1, cb1] using this
  obtain ⟨x1, e2, -, q1⟩ := DataW.trod_int Tryz.underlying5 g2
  obtain rfl := (List.cons.inj e2).1
  obtain ⟨n1', rfl, b1'⟩ := u8_open q1
  have g3 : DataW.trod enc Tryz.prog W 0 spare held n2 9 [v3] = some (ys[2]'(by omega)) := by
    have := (hel 2 _ rfl).trans (List.getElem?_eq_getElem (by omega)); simpa [cs1, cu1, ci1, cb1] using this
  obtain ⟨x2, e3, -, q2⟩ := DataW.trod_string Tryz.underlying9 g3
  obtain rfl := (List.cons.inj e3).1
  have g4 : DataW.trod enc Tryz.prog W 0 spare held n2 5 [v4] = some (ys[3]'(by omega)) := by
    have := (hel 3 _ rfl).trans (List.getElem?_eq_getElem (by omega)); simpa [cs1, cu1, ci1, cb1] using this
  obtain ⟨x3, e4, -, q3⟩ := DataW.trod_int Tryz.underlying5 g4
  obtain rfl := (List.cons.inj e4).1
  obtain ⟨n3', rfl, b3'⟩ := u8_open q3
  have g5 : DataW.trod enc Tryz.prog W 0 spare held n2 9 [v5] = some (ys[4]'(by omega)) := by
    have := (hel 4 _ rfl).trans (List.getElem?_eq_getElem (by omega)); simpa [cs1, cu1, ci1, cb1] using this
  obtain ⟨x4, e5, -, q4⟩ := DataW.trod_string Tryz.underlying9 g5
  obtain rfl := (List.cons.inj e5).1
  have g6 : DataW.trod enc Tryz.prog W 0 spare held n2 2 [v6] = some (ys[5]'(by omega)) := by
    have := (hel 5 _ rfl).trans (List.getElem?_eq_getElem (by omega)); simpa [cs1, cu1, ci1, cb1] using this
  obtain ⟨x5, e6, -, q5⟩ := DataW.trod_int Tryz.underlying2 g6
  obtain rfl := (List.cons.inj e6).1
  have b5' := i64_open q5
  have g7 : DataW.trod enc Tryz.prog W 0 spare held n2 2 [v7] = some (ys[6]'(by omega)) := by
    have := (hel 6 _ rfl).trans (List.getElem?_eq_getElem (by omega)); simpa [cs1, cu1, ci1, cb1] using this
  obtain ⟨x6, e7, -, q6⟩ := DataW.trod_int Tryz.underlying2 g7
  obtain rfl := (List.cons.inj e7).1
  have b6' := i64_open q6
  have g8 : DataW.trod enc Tryz.prog W 0 spare held n2 5 [v8] = some (ys[7]'(by omega)) := by
    have := (hel 7 _ rfl).trans (List.getElem?_eq_getElem (by omega)); simpa [cs1, cu1, ci1, cb1] using this
  obtain ⟨x7, e8, -, q7⟩ := DataW.trod_int Tryz.underlying5 g8
  obtain rfl := (List.cons.inj e8).1
  obtain ⟨n7', rfl, b7'⟩ := u8_open q7
  have g9 : DataW.trod enc Tryz.prog W 0 spare held n2 4 [v9] = some (ys[8]'(by omega)) := by
    have := (hel 8 _ rfl).trans (List.getElem?_eq_getElem (by omega)); simpa [cs1, cu1, ci1, cb1] using this
  obtain ⟨x8, e9, -⟩ := DataW.trod_bool Tryz.underlying4 g9
  obtain rfl := (List.cons.inj e9).1
  have g10 : DataW.trod enc Tryz.prog W 0 spare held n2 4 [v10] = some (ys[9]'(by omega)) := by
    have := (hel 9 _ rfl).trans (List.getElem?_eq_getElem (by omega)); simpa [cs1, cu1, ci1, cb1] using this
  obtain ⟨x9, e10, -⟩ := DataW.trod_bool Tryz.underlying4 g10
  obtain rfl := (List.cons.inj e10).1
  have g11 : DataW.trod enc Tryz.prog W 0 spare held n2 2 [v11] = some (ys[10]'(by omega)) := by
    have := (hel 10 _ rfl).trans (List.getElem?_eq_getElem (by omega)); simpa [cs1, cu1, ci1, cb1] using this
  obtain ⟨x10, e11, -, q10⟩ := DataW.trod_int Tryz.underlying2 g11
  obtain rfl := (List.cons.inj e11).1
  have b10' := i64_open q10
  have g12 : DataW.trod enc Tryz.prog W 0 spare held n2 2 [v12] = some (ys[11]'(by omega)) := by
    have := (hel 11 _ rfl).trans (List.getElem?_eq_getElem (by omega)); simpa [cs1, cu1, ci1, cb1] using this
  obtain ⟨x11, e12, -, q11⟩ := DataW.trod_int Tryz.underlying2 g12
  obtain rfl := (List.cons.inj e12).1
  have b11' := i64_open q11
  have g13 : DataW.trod enc Tryz.prog W 0 spare held n2 2 [v13] = some (ys[12]'(by omega)) := by
    have := (hel 12 _ rfl).trans (List.getElem?_eq_getElem (by omega)); simpa [cs1, cu1, ci1, cb1] using this
  obtain ⟨x12, e13, -, q12⟩ := DataW.trod_int Tryz.underlying2 g13
  obtain rfl := (List.cons.inj e13).1
  have b12' := i64_open q12
  have g14 : DataW.trod enc Tryz.prog W 0 spare held n2 5 [v14] = some (ys[13]'(by omega)) := by
    have := (hel 13 _ rfl).trans (List.getElem?_eq_getElem (by omega)); simpa [cs1, cu1, ci1, cb1] using this
  obtain ⟨x13, e14, -, q13⟩ := DataW.trod_int Tryz.underlying5 g14
  obtain rfl := (List.cons.inj e14).1
  obtain ⟨n13', rfl, b13'⟩ := u8_open q13
  exact ⟨⟨m0, ⟨x0, n1', x2, n3', x4, x5, x6, n7', x8, x9, x10, x11, x12, n13'⟩⟩, rfl, rfl, rfl, rfl, rfl, rfl, rfl, rfl, rfl, rfl, rfl, rfl, rfl, rfl, rfl, b0, ⟨q0, b1', q2, b3', q4, b5', b6', b7', b10', b11', b12', b13'⟩⟩
theorem open_chs {H : Type} {enc : TypeId × Value → H} {W : World} {b0 : Nat} {spare : Nat → Bool} {held : Bool} {v : Value} {d : DataW H} {p : List MemPlace}
    (hv : Value.okWide Tryz.prog W .any b0 32 v) (h : DataW.Trod enc Tryz.prog W 0 spare held 32 v d p) :
    ∃ (A : Option Addr) (l : List DX.Ch) (c : Nat), v = .slice A l.length c ∧ IX.RdK DX.chK W W.heap.size A l ∧ (∀ x ∈ l, x.kind ≤ 255 ∧ Fine x.o) ∧ l.length ≤ maxLen ∧ l.length ≤ c := by
  obtain ⟨a1, len, cap, rfl⟩ := okWide_slice Tryz.underlying32 hv
  obtain ⟨fuel, hf⟩ := h
  rcases Go.Deep.open_slice Tryz.underlying32 hf with ⟨hcs, _⟩ | ⟨a, len', cap', m, n, D, Pl, hcs, _, hl, hm, hmm, _, hc⟩
  · simp [Value.cells] at hcs
    obtain ⟨rfl, rfl, rfl⟩ := hcs
    exact ⟨none, [], 0, rfl, .inl rfl, fun _ h => (by cases h), Nat.zero_le _, Nat.zero_le _⟩
  · simp [Value.cells] at hcs
    obtain ⟨rfl, rfl, rfl⟩ := hcs
    have hlm : len ≤ m := by rw [hmm]; split <;> omega
    have ce : Tryz.prog.cellsOf 26 = 15 := by kernel_rfl
    have hex : ∀ i, i < m → ∃ x : DX.Ch, (∀ j u, (DX.chK.enc x)[j]? = some u → W.cell? (a.add (i * 15 + j)) = some u) ∧ x.kind ≤ 255 ∧ Fine x.o := by
      intro i hi
      obtain ⟨cs', h1, h2⟩ := hc i hi
      rw [ce] at h1
      obtain ⟨_, hlen, hcell⟩ := World.cells?_some h1
      match cs', hlen, h2, hcell with
      | [v0, v1, v2, v3, v4, v5, v6, v7, v8, v9, v10, v11, v12, v13, v14], _, h2, hcell =>
        obtain ⟨x, rfl, rfl, rfl, rfl, rfl, rfl, rfl, rfl, rfl, rfl, rfl, rfl, rfl, rfl, rfl, hp⟩ := open_ch1 h2
        refine ⟨x, fun j u hu => ?_, hp⟩
        have hj : j < 15 := by have := (List.getElem?_eq_some_iff.1 hu).1; rwa [DX.chK.len] at this
        have q := hcell j hj
        rw [Go.Deep.add_add] at q
        rw [q]
        exact hu
    have hch : ∃ f : Nat → DX.Ch, ∀ i, i < m → (∀ j u, (DX.chK.enc (f i))[j]? = some u → W.cell? (a.add (i * 15 + j)) = some u) ∧ (f i).kind ≤ 255 ∧ Fine (f i).o :=
      ⟨fun i => if h : i < m then Classical.choose (hex i h) else ⟨0, zeroOb⟩, fun i hi => by simp only [hi, dif_pos]; exact Classical.choose_spec (hex i hi)⟩
    obtain ⟨f, hf2⟩ := hch
    refine ⟨some a, (List.range len).map f, cap, by simp, ?_, fun x hx => ?_, by simp; omega, by simp; exact hl⟩
    · by_cases h0 : len = 0
      · subst h0; exact .inl (by simp)
      · have c0 := (hf2 0 (by omega)).1 0 _ rfl
        obtain ⟨b, off, spot⟩ := a
        have hspot : spot = none := by simpa [Addr.add] using World.cell?_spot c0
        subst hspot
        refine .inr ⟨b, off, rfl, by simpa [Addr.add] using World.block_lt_of_cell? W _ c0, fun q u hu => ?_⟩
        obtain ⟨j, i, x, rfl, hx, hu2⟩ := IX.cellsK_inv DX.chK hu
        have hj : j < len := by have := (List.getElem?_eq_some_iff.1 hx).1; simpa using this
        have q0 := (hf2 j (by omega)).1 i u (by
          simp [hj] at hx
          subst hx; exact hu2)
        have hadd : ∀ k, (⟨b, off, none⟩ : Addr).add k = ⟨b, off + k, none⟩ := fun k => by unfold Addr.add; split <;> simp_all
        rw [hadd] at q0
        exact q0
    · obtain ⟨i, hi, rfl⟩ := List.mem_map.1 hx
      have := List.mem_range.1 hi
      exact (hf2 i (by omega)).2
end Go.Proofs.YtjocbokfdfdkeaaGreat
/-
  Bytes, things, a thing that came in as an argument.
-/
namespace Go.Proofs.YtjocbokfdfdkeaaGreat
open Go.ChangeShapes Go.WideShapes Go.ChangeAt Go.RowKit Go.Joins
open IX (RdK)
set_option maxRecDepth 100000
set_option linter.unusedVariables false

theorem cells_u8_ : Tryz.prog.cellsOf 5 = 1 := by kernel_rfl
theorem u8_of {x : Int} (h : (Lit.int .u8 x).wf = true) : ∃ b : UInt8, x = (b.toNat : Int) := by
  simp [Lit.wf, show IntKind.u8.min = 0 from rfl, show IntKind.u8.max = 255 from rfl] at h
  exact ⟨UInt8.ofNat x.toNat, by rw [YX.u8n (by omega)]; omega⟩
theorem u64_of {x : Int} (h : (Lit.int .u64 x).wf = true) : ∃ n : Nat, x = (n : Int) ∧ n < 18446744073709551616 := by
  simp [Lit.wf, show IntKind.u64.min = 0 from rfl, show IntKind.u64.max = 18446744073709551615 from rfl] at h
  exact ⟨x.toNat, by omega, by omega⟩
theorem open_bytes {H : Type} {enc : TypeId × Value → H} {W : World} {b0 : Nat} {spare : Nat → Bool} {held : Bool} {v : Value} {d : DataW H} {p : List MemPlace}
    (hv : Value.okWide Tryz.prog W .any b0 39 v) (h : DataW.Trod enc Tryz.prog W 0 spare held 39 v d p) :
    ∃ (A : Option Addr) (l : YX.Bs) (c : Nat), v = .slice A l.length c ∧ RdK YX.u8K W W.heap.size A l ∧ l.length ≤ maxLen ∧ l.length ≤ c ∧ (A = none → c = 0) := by
  obtain ⟨a1, len, cap, rfl⟩ := okWide_slice Tryz.underlying39 hv
  obtain ⟨fuel, hf⟩ := h
  rcases open_ints Tryz.underlying39 Tryz.underlying5 cells_u8_ hf with ⟨hcs, _⟩ | ⟨a, len', cap', zs, hcs, _, hl, hm, hz, _, hcell, hwz⟩
  · simp [Value.cells] at hcs
    obtain ⟨rfl, rfl, rfl⟩ := hcs
    exact ⟨none, [], 0, rfl, .inl rfl, Nat.zero_le _, Nat.zero_le _, fun _ => rfl⟩
  · simp [Value.cells] at hcs
    obtain ⟨rfl, rfl, rfl⟩ := hcs
    have hzl : len ≤ zs.length := by rw [hz]; split <;> omega
    have hlen : ((zs.take len).map fun z => UInt8.ofNat z.toNat).length = len := by simp; omega
    refine ⟨some a, (zs.take len).map fun z => UInt8.ofNat z.toNat, cap, by rw [hlen], YX.rdY_back ?_, by rw [hlen]; omega, by rw [hlen]; exact hl, fun q => (by cases q)⟩
    by_cases h0 : len = 0
    · subst h0; exact .inl (by simp)
    · have c0 := hcell 0 (by omega)
      obtain ⟨b, off, spot⟩ := a
      have hspot : spot = none := by simpa [Addr.add] using World.cell?_spot c0
      subst hspot
      refine .inr ⟨b, off, rfl, by simpa [Addr.add] using World.block_lt_of_cell? W _ c0, fun j x hx => ?_⟩
      have hj : j < len := by
        have := (List.getElem?_eq_some_iff.1 hx).1
        rw [hlen] at this; exact this
      have hc := hcell j (by omega)
      have hadd : (⟨b, off, none⟩ : Addr).add j = ⟨b, off + j, none⟩ := by unfold Addr.add; split <;> simp_all
      rw [hadd] at hc
      rw [hc]
      have hj2 : j < zs.length := by omega
      rw [List.getElem?_map, List.getElem?_take, if_pos hj, List.getElem?_eq_getElem hj2] at hx
      simp only [Option.map_some, Option.some.injEq] at hx
      rw [List.getD_eq_getElem?_getD, List.getElem?_eq_getElem hj2, ← hx]
      obtain ⟨y, e⟩ := u8_of (hwz _ (List.getElem_mem hj2))
      simp [e]
end Go.Proofs.YtjocbokfdfdkeaaGreat
/-
  A row of entries that came in as an argument.
-/
namespace Go.Proofs.YtjocbokfdfdkeaaGreat
open Go.ChangeShapes Go.WideShapes Go.ChangeAt Go.RowKit
set_option maxRecDepth 100000
set_option linter.unusedVariables false

def InE (x : PX.En) : Prop := (x.handle.size ≤ maxLen) ∧ Fine x.o ∧ (-9223372036854775808 ≤ x.desc ∧ x.desc ≤ 9223372036854775807) ∧ (-9223372036854775808 ≤ x.state ∧ x.state ≤ 9223372036854775807)
set_option maxHeartbeats 4000000 in
theorem open_en1 {H : Type} {enc : TypeId × Value → H} {W : World} {spare : Nat → Bool} {held : Bool} {n : Nat} {y : DataW H × List MemPlace} {v0 v1 v2 v3 v4 v5 v6 v7 v8 v9 v10 v11 v12 v13 v14 v15 v16 v17 : Value}
    (h2 : DataW.trod enc Tryz.prog W 0 spare held n 90 [v0, v1, v2, v3, v4, v5, v6, v7, v8, v9, v10, v11, v12, v13, v14, v15, v16, v17] = some y) :
    ∃ x : PX.En, v0 = (.string x.handle) ∧ v1 = (.bool x.there) ∧ v2 = (.string x.o.handle) ∧ v3 = (.int .u8 x.o.kind) ∧ v4 = (.string x.o.parent) ∧ v5 = (.int .u8 x.o.typ) ∧ v6 = (.string x.o.ref) ∧ v7 = (.int .i64 x.o.lo) ∧ v8 = (.int .i64 x.o.hi) ∧ v9 = (.int .u8 x.o.digits) ∧ v10 = (.bool x.o.on) ∧ v11 = (.bool x.o.has) ∧ v12 = (.int .i64 x.o.value) ∧ v13 = (.int .i64 x.o.low) ∧ v14 = (.int .i64 x.o.high) ∧ v15 = (.int .u8 x.o.assoc) ∧ v16 = (.int .i64 x.desc) ∧ v17 = (.int .i64 x.state) ∧ InE x := by
  obtain ⟨xs, k, _, _, _, hxl, hf⟩ := DataW.trod_struct Tryz.underlying90 h2
  have hl : xs.length = 4 := hxl
  have cs1 : Tryz.prog.cellsOf 9 = 1 := by kernel_rfl
  have cu1 : Tryz.prog.cellsOf 5 = 1 := by kernel_rfl
  have ci1 : Tryz.prog.cellsOf 2 = 1 := by kernel_rfl
  have cn1 : Tryz.prog.cellsOf 3 = 1 := by kernel_rfl
  have cb1 : Tryz.prog.cellsOf 4 = 1 := by kernel_rfl
  have co1 : Tryz.prog.cellsOf 24 = 14 := by kernel_rfl
  have ct1 : Tryz.prog.cellsOf 88 = 2 := by kernel_rfl
  have k0 : DataW.trod enc Tryz.prog W 0 spare held k 9 [v0] = some (xs[0]'(by omega)) := by
    have := (hf 0 _ rfl).trans (List.getElem?_eq_getElem (by omega)); simpa [cs1, cb1, co1, ct1] using this
  have k1 : DataW.trod enc Tryz.prog W 0 spare held k 4 [v1] = some (xs[1]'(by omega)) := by
    have := (hf 1 _ rfl).trans (List.getElem?_eq_getElem (by omega)); simpa [cs1, cb1, co1, ct1] using this
  have gO : DataW.trod enc Tryz.prog W 0 spare held k 24 [v2, v3, v4, v5, v6, v7, v8, v9, v10, v11, v12, v13, v14, v15] = some (xs[2]'(by omega)) := by
    have := (hf 2 _ rfl).trans (List.getElem?_eq_getElem (by omega)); simpa [cs1, cb1, co1, ct1] using this
  have gS : DataW.trod enc Tryz.prog W 0 spare held k 88 [v16, v17] = some (xs[3]'(by omega)) := by
    have := (hf 3 _ rfl).trans (List.getElem?_eq_getElem (by omega)); simpa [cs1, cb1, co1, ct1] using this
  obtain ⟨z0, f0, -, r0⟩ := DataW.trod_string Tryz.underlying9 k0
  obtain rfl := (List.cons.inj f0).1
  obtain ⟨z1, f1, -⟩ := DataW.trod_bool Tryz.underlying4 k1
  obtain rfl := (List.cons.inj f1).1
  obtain ⟨zs, n3, _, _, _, hzl, hzs⟩ := DataW.trod_struct Tryz.underlying88 gS
  have hl3 : zs.length = 2 := hzl
  have k16 : DataW.trod enc Tryz.prog W 0 spare held n3 3 [v16] = some (zs[0]'(by omega)) := by
    have := (hzs 0 _ rfl).trans (List.getElem?_eq_getElem (by omega)); simpa [cn1] using this
  have k17 : DataW.trod enc Tryz.prog W 0 spare held n3 3 [v17] = some (zs[1]'(by omega)) := by
    have := (hzs 1 _ rfl).trans (List.getElem?_eq_getElem (by omega)); simpa [cn1] using this
  obtain ⟨z16, f16, -, r16⟩ := DataW.trod_int Tryz.underlying3 k16
  obtain rfl := (List.cons.inj f16).1
  have r16' := i64_open r16
  obtain ⟨z17, f17, -, r17⟩ := DataW.trod_int Tryz.underlying3 k17
  obtain rfl := (List.cons.inj f17).1
  have r17' := i64_open r17
  obtain ⟨ys, n2, _, _, _, hyl, hel⟩ := DataW.trod_struct Tryz.underlying24 gO
  have hl2 : ys.length = 14 := hyl
  have g1 : DataW.trod enc Tryz.prog W 0 spare held n2 9 [v2] = some (ys[0]'(by omega)) := by
    have := (hel 0 _ rfl).trans (List.getElem?_eq_getElem (by omega)); simpa [cs1, cu1, ci1, cb1] using this
  obtain ⟨x0, e1, -, q0⟩ := DataW.trod_string Tryz.underlying9 g1
  obtain rfl := (List.cons.inj e1).1
  have g2 : DataW.trod enc Tryz.prog W 0 spare held n2 5 [v3] = some (ys[1]'(by omega)) := by
    have := (hel 1 _ rfl).trans (List.getElem?_eq_getElem (by omega)); simpa [cs1, cu1, ci1, cb1] using this
  obtain ⟨x1, e2, -, q1⟩ := DataW.trod_int Tryz.underlying5 g2
  obtain rfl := (List.cons.inj e2).1
  obtain ⟨n1', rfl, b1'⟩ := u8_open q1
  have g3 : DataW.trod enc Tryz.prog W 0 spare held n2 9 [v4] = some (ys[2]'(by omega)) := by
    have := (hel 2 _ rfl).trans (List.getElem?_eq_getElem (by omega)); simpa [cs1, cu1, ci1, cb1] using this
  obtain ⟨x2, e3, -, q2⟩ := DataW.trod_string Tryz.underlying9 g3
  obtain rfl := (List.cons.inj e3).1
  have g4 : DataW.trod enc Tryz.prog W 0 spare held n2 5 [v5] = some (ys[3]'(by omega)) := by
    have := (hel 3 _ rfl).trans (List.getElem?_eq_getElem (by omega)); simpa [cs1, cu1, ci1, cb1] using this
  obtain ⟨x3, e4, -, q3⟩ := DataW.trod_int Tryz.underlying5 g4
  obtain rfl := (List.cons.inj e4).1
  obtain ⟨n3', rfl, b3'⟩ := u8_open q3
  have g5 : DataW.trod enc Tryz.prog W 0 spare held n2 9 [v6] = some (ys[4]'(by omega)) := by
    have := (hel 4 _ rfl).trans (List.getElem?_eq_getElem (by omega)); simpa [cs1, cu1, ci1, cb1] using this
  obtain ⟨x4, e5, -, q4⟩ := DataW.trod_string Tryz.underlying9 g5
  obtain rfl := (List.cons.inj e5).1
  have g6 : DataW.trod enc Tryz.prog W 0 spare held n2 2 [v7] = some (ys[5]'(by omega)) := by
    have := (hel 5 _ rfl).trans (List.getElem?_eq_getElem (by omega)); simpa [cs1, cu1, ci1, cb1] using this
  obtain ⟨x5, e6, -, q5⟩ := DataW.trod_int Tryz.underlying2 g6
  obtain rfl := (List.cons.inj e6).1
  have b5' := i64_open q5
  have g7 : DataW.trod enc Tryz.prog W 0 spare held n2 2 [v8] = some (ys[6]'(by omega)) := by
    have := (hel 6 _ rfl).trans (List.getElem?_eq_getElem (by omega)); simpa [cs1, cu1, ci1, cb1] using this
  obtain ⟨x6, e7, -, q6⟩ := DataW.trod_int Tryz.underlying2 g7
  obtain rfl := (List.cons.inj e7).1
  have b6' := i64_open q6
  have g8 : DataW.trod enc Tryz.prog W 0 spare held n2 5 [v9] = some (ys[7]'(by omega)) := by
    have := (hel 7 _ rfl).trans (List.getElem?_eq_getElem (by omega)); simpa [cs1, cu1, ci1, cb1] using this
  obtain ⟨x7, e8, -, q7⟩ := DataW.trod_int Tryz.underlying5 g8
  obtain rfl := (List.cons.inj e8).1
  obtain ⟨n7', rfl, b7'⟩ := u8_open q7
  have g9 : DataW.trod enc Tryz.prog W 0 spare held n2 4 [v10] = some (ys[8]'(by omega)) := by
    have := (hel 8 _ rfl).trans (List.getElem?_eq_getElem (by omega)); simpa [cs1, cu1, ci1, cb1] using this
  obtain ⟨x8, e9, -⟩ := DataW.trod_bool Tryz.underlying4 g9
  obtain rfl := (List.cons.inj e9).1
  have g10 : DataW.trod enc Tryz.prog W 0 spare held n2 4 [v11] = some (ys[9]'(by omega)) := by
    have := (hel 9 _ rfl).trans (List.getElem?_eq_getElem (by omega)); simpa [cs1, cu1, ci1, cb1] using this
  obtain ⟨x9, e10, -⟩ := DataW.trod_bool Tryz.underlying4 g10
  obtain rfl := (List.cons.inj e10).1
  have g11 : DataW.trod enc Tryz.prog W 0 spare held n2 2 [v12] = some (ys[10]'(by omega)) := by
    have := (hel 10 _ rfl).trans (List.getElem?_eq_getElem (by omega)); simpa [cs1, cu1, ci1, cb1] using this
  obtain ⟨x10, e11, -, q10⟩ := DataW.trod_int Tryz.underlying2 g11
  obtain rfl := (List.cons.inj e11).1
  have b10' := i64_open q10
  have g12 : DataW.trod enc Tryz.prog W 0 spare held n2 2 [v13] = some (ys[11]'(by omega)) := by
    have := (hel 11 _ rfl).trans (List.getElem?_eq_getElem (by omega)); simpa [cs1, cu1, ci1, cb1] using this
  obtain ⟨x11, e12, -, q11⟩ := DataW.trod_int Tryz.underlying2 g12
  obtain rfl := (List.cons.inj e12).1
  have b11' := i64_open q11
  have g13 : DataW.trod enc Tryz.prog W 0 spare held n2 2 [v14] = some (ys[12]'(by omega)) := by
    have := (hel 12 _ rfl).trans (List.getElem?_eq_getElem (by omega)); simpa [cs1, cu1, ci1, cb1] using this
  obtain ⟨x12, e13, -, q12⟩ := DataW.trod_int Tryz.underlying2 g13
  obtain rfl := (List.cons.inj e13).1
  have b12' := i64_open q12
  have g14 : DataW.trod enc Tryz.prog W 0 spare held n2 5 [v15] = some (ys[13]'(by omega)) := by
    have := (hel 13 _ rfl).trans (List.getElem?_eq_getElem (by omega)); simpa [cs1, cu1, ci1, cb1] using this
  obtain ⟨x13, e14, -, q13⟩ := DataW.trod_int Tryz.underlying5 g14
  obtain rfl := (List.cons.inj e14).1
  obtain ⟨n13', rfl, b13'⟩ := u8_open q13
  exact ⟨⟨z0, z1, ⟨x0, n1', x2, n3', x4, x5, x6, n7', x8, x9, x10, x11, x12, n13'⟩, z16, z17⟩, rfl, rfl, rfl, rfl, rfl, rfl, rfl, rfl, rfl, rfl, rfl, rfl, rfl, rfl, rfl, rfl, rfl, rfl, r0, ⟨q0, b1', q2, b3', q4, b5', b6', b7', b10', b11', b12', b13'⟩, r16', r17'⟩
theorem open_ens {H : Type} {enc : TypeId × Value → H} {W : World} {b0 : Nat} {spare : Nat → Bool} {held : Bool} {v : Value} {d : DataW H} {p : List MemPlace}
    (hv : Value.okWide Tryz.prog W .any b0 31 v) (h : DataW.Trod enc Tryz.prog W 0 spare held 31 v d p) :
    ∃ (A : Option Addr) (l : List PX.En) (c : Nat), v = .slice A l.length c ∧ IX.RdK PX.enK W W.heap.size A l ∧ (∀ x ∈ l, InE x) ∧ l.length ≤ maxLen ∧ l.length ≤ c := by
  obtain ⟨a1, len, cap, rfl⟩ := okWide_slice Tryz.underlying31 hv
  obtain ⟨fuel, hf⟩ := h
  rcases Go.Deep.open_slice Tryz.underlying31 hf with ⟨hcs, _⟩ | ⟨a, len', cap', m, n, D, Pl, hcs, _, hl, hm, hmm, _, hc⟩
  · simp [Value.cells] at hcs
    obtain ⟨rfl, rfl, rfl⟩ := hcs
    exact ⟨none, [], 0, rfl, .inl rfl, fun _ h => (by cases h), Nat.zero_le _, Nat.zero_le _⟩
  · simp [Value.cells] at hcs
    obtain ⟨rfl, rfl, rfl⟩ := hcs
    have hlm : len ≤ m := by rw [hmm]; split <;> omega
    have ce : Tryz.prog.cellsOf 90 = 18 := by kernel_rfl
    have hex : ∀ i, i < m → ∃ x : PX.En, (∀ j u, (PX.enK.enc x)[j]? = some u → W.cell? (a.add (i * 18 + j)) = some u) ∧ InE x := by
      intro i hi
      obtain ⟨cs', h1, h2⟩ := hc i hi
      rw [ce] at h1
      obtain ⟨_, hlen, hcell⟩ := World.cells?_some h1
      match cs', hlen, h2, hcell with
      | [v0, v1, v2, v3, v4, v5, v6, v7, v8, v9, v10, v11, v12, v13, v14, v15, v16, v17], _, h2, hcell =>
        obtain ⟨x, rfl, rfl, rfl, rfl, rfl, rfl, rfl, rfl, rfl, rfl, rfl, rfl, rfl, rfl, rfl, rfl, rfl, rfl, hp⟩ := open_en1 h2
        refine ⟨x, fun j u hu => ?_, hp⟩
        have hj : j < 18 := by have := (List.getElem?_eq_some_iff.1 hu).1; rwa [PX.enK.len] at this
        have q := hcell j hj
        rw [Go.Deep.add_add] at q
        rw [q]
        exact hu
    have hch : ∃ f : Nat → PX.En, ∀ i, i < m → (∀ j u, (PX.enK.enc (f i))[j]? = some u → W.cell? (a.add (i * 18 + j)) = some u) ∧ InE (f i) :=
      ⟨fun i => if h : i < m then Classical.choose (hex i h) else PX.zeroEn, fun i hi => by simp only [hi, dif_pos]; exact Classical.choose_spec (hex i hi)⟩
    obtain ⟨f, hf2⟩ := hch
    refine ⟨some a, (List.range len).map f, cap, by simp, ?_, fun x hx => ?_, by simp; omega, by simp; exact hl⟩
    · by_cases h0 : len = 0
      · subst h0; exact .inl (by simp)
      · have c0 := (hf2 0 (by omega)).1 0 _ rfl
        obtain ⟨b, off, spot⟩ := a
        have hspot : spot = none := by simpa [Addr.add] using World.cell?_spot c0
        subst hspot
        refine .inr ⟨b, off, rfl, by simpa [Addr.add] using World.block_lt_of_cell? W _ c0, fun q u hu => ?_⟩
        obtain ⟨j, i, x, rfl, hx, hu2⟩ := IX.cellsK_inv PX.enK hu
        have hj : j < len := by have := (List.getElem?_eq_some_iff.1 hx).1; simpa using this
        have q0 := (hf2 j (by omega)).1 i u (by
          simp [hj] at hx
          subst hx; exact hu2)
        have hadd : ∀ k, (⟨b, off, none⟩ : Addr).add k = ⟨b, off + k, none⟩ := fun k => by unfold Addr.add; split <;> simp_all
        rw [hadd] at q0
        exact q0
    · obtain ⟨i, hi, rfl⟩ := List.mem_map.1 hx
      have := List.mem_range.1 hi
      exact (hf2 i (by omega)).2
end Go.Proofs.YtjocbokfdfdkeaaGreat
/-
  A request, a reply that came in by value.
-/
namespace Go.Proofs.YtjocbokfdfdkeaaGreat
open Go.ChangeShapes Go.WideShapes Go.ChangeAt Go.RowKit HL
open IX (RdK strK)
set_option maxRecDepth 100000
set_option linter.unusedVariables false

theorem open_ens1 {H : Type} {enc : TypeId × Value → H} {W : World} {spare : Nat → Bool} {held : Bool} {n0 : Nat} {y0 : DataW H × List MemPlace} {v : Value}
    (hf : DataW.trod enc Tryz.prog W 0 spare held n0 31 [v] = some y0) :
    ∃ (A : Option Addr) (l : List PX.En) (c : Nat), v = .slice A l.length c ∧ IX.RdK PX.enK W W.heap.size A l ∧ (∀ x ∈ l, InE x) ∧ l.length ≤ maxLen ∧ l.length ≤ c := by
  rcases Go.Deep.open_slice Tryz.underlying31 hf with ⟨hcs, _⟩ | ⟨a, len, cap, m, n, D, Pl, hcs, _, hl, hm, hmm, _, hc⟩
  · obtain rfl := (List.cons.inj hcs).1
    exact ⟨none, [], 0, rfl, .inl rfl, fun _ h => (by cases h), Nat.zero_le _, Nat.zero_le _⟩
  · obtain rfl := (List.cons.inj hcs).1
    have hlm : len ≤ m := by rw [hmm]; split <;> omega
    have ce : Tryz.prog.cellsOf 90 = 18 := by kernel_rfl
    have hex : ∀ i, i < m → ∃ x : PX.En, (∀ j u, (PX.enK.enc x)[j]? = some u → W.cell? (a.add (i * 18 + j)) = some u) ∧ InE x := by
      intro i hi
      obtain ⟨cs', h1, h2⟩ := hc i hi
      rw [ce] at h1
      obtain ⟨_, hlen, hcell⟩ := World.cells?_some h1
      match cs', hlen, h2, hcell with
      | [v0, v1, v2, v3, v4, v5, v6, v7, v8, v9, v10, v11, v12, v13, v14, v15, v16, v17], _, h2, hcell =>
        obtain ⟨x, rfl, rfl, rfl, rfl, rfl, rfl, rfl, rfl, rfl, rfl, rfl, rfl, rfl, rfl, rfl, rfl, rfl, rfl, hp⟩ := open_en1 h2
        refine ⟨x, fun j u hu => ?_, hp⟩
        have hj : j < 18 := by have := (List.getElem?_eq_some_iff.1 hu).1; rwa [PX.enK.len] at this
        have q := hcell j hj
        rw [Go.Deep.add_add] at q
        rw [q]
        exact hu
    have hch : ∃ f : Nat → PX.En, ∀ i, i < m → (∀ j u, (PX.enK.enc (f i))[j]? = some u → W.cell? (a.add (i * 18 + j)) = some u) ∧ InE (f i) :=
      ⟨fun i => if h : i < m then Classical.choose (hex i h) else PX.zeroEn, fun i hi => by simp only [hi, dif_pos]; exact Classical.choose_spec (hex i hi)⟩
    obtain ⟨f, hf2⟩ := hch
    refine ⟨some a, (List.range len).map f, cap, by simp, ?_, fun x hx => ?_, by simp; omega, by simp; exact hl⟩
    · by_cases h0 : len = 0
      · subst h0; exact .inl (by simp)
      · have c0 := (hf2 0 (by omega)).1 0 _ rfl
        obtain ⟨b, off, spot⟩ := a
        have hspot : spot = none := by simpa [Addr.add] using World.cell?_spot c0
        subst hspot
        refine .inr ⟨b, off, rfl, by simpa [Addr.add] using World.block_lt_of_cell? W _ c0, fun q u hu => ?_⟩
        obtain ⟨j, i, x, rfl, hx, hu2⟩ := IX.cellsK_inv PX.enK hu
        have hj : j < len := by have := (List.getElem?_eq_some_iff.1 hx).1; simpa using this
        have q0 := (hf2 j (by omega)).1 i u (by
          simp [hj] at hx
          subst hx; exact hu2)
        have hadd : ∀ k, (⟨b, off, none⟩ : Addr).add k = ⟨b, off + k, none⟩ := fun k => by unfold Addr.add; split <;> simp_all
        rw [hadd] at q0
        exact q0
    · obtain ⟨i, hi, rfl⟩ := List.mem_map.1 hx
      have := List.mem_range.1 hi
      exact (hf2 i (by omega)).2
theorem open_chs1 {H : Type} {enc : TypeId × Value → H} {W : World} {spare : Nat → Bool} {held : Bool} {n0 : Nat} {y0 : DataW H × List MemPlace} {v : Value}
    (hf : DataW.trod enc Tryz.prog W 0 spare held n0 32 [v] = some y0) :
    ∃ (A : Option Addr) (l : List DX.Ch) (c : Nat), v = .slice A l.length c ∧ IX.RdK DX.chK W W.heap.size A l ∧ (∀ x ∈ l, x.kind ≤ 255 ∧ Fine x.o) ∧ l.length ≤ maxLen ∧ l.length ≤ c := by
  rcases Go.Deep.open_slice Tryz.underlying32 hf with ⟨hcs, _⟩ | ⟨a, len, cap, m, n, D, Pl, hcs, _, hl, hm, hmm, _, hc⟩
  · obtain rfl := (List.cons.inj hcs).1
    exact ⟨none, [], 0, rfl, .inl rfl, fun _ h => (by cases h), Nat.zero_le _, Nat.zero_le _⟩
  · obtain rfl := (List.cons.inj hcs).1
    have hlm : len ≤ m := by rw [hmm]; split <;> omega
    have ce : Tryz.prog.cellsOf 26 = 15 := by kernel_rfl
    have hex : ∀ i, i < m → ∃ x : DX.Ch, (∀ j u, (DX.chK.enc x)[j]? = some u → W.cell? (a.add (i * 15 + j)) = some u) ∧ x.kind ≤ 255 ∧ Fine x.o := by
      intro i hi
      obtain ⟨cs', h1, h2⟩ := hc i hi
      rw [ce] at h1
      obtain ⟨_, hlen, hcell⟩ := World.cells?_some h1
      match cs', hlen, h2, hcell with
      | [v0, v1, v2, v3, v4, v5, v6, v7, v8, v9, v10, v11, v12, v13, v14], _, h2, hcell =>
        obtain ⟨x, rfl, rfl, rfl, rfl, rfl, rfl, rfl, rfl, rfl, rfl, rfl, rfl, rfl, rfl, rfl, hp⟩ := open_ch1 h2
        refine ⟨x, fun j u hu => ?_, hp⟩
        have hj : j < 15 := by have := (List.getElem?_eq_some_iff.1 hu).1; rwa [DX.chK.len] at this
        have q := hcell j hj
        rw [Go.Deep.add_add] at q
        rw [q]
        exact hu
    have hch : ∃ f : Nat → DX.Ch, ∀ i, i < m → (∀ j u, (DX.chK.enc (f i))[j]? = some u → W.cell? (a.add (i * 15 + j)) = some u) ∧ (f i).kind ≤ 255 ∧ Fine (f i).o :=
      ⟨fun i => if h : i < m then Classical.choose (hex i h) else ⟨0, zeroOb⟩, fun i hi => by simp only [hi, dif_pos]; exact Classical.choose_spec (hex i hi)⟩
    obtain ⟨f, hf2⟩ := hch
    refine ⟨some a, (List.range len).map f, cap, by simp, ?_, fun x hx => ?_, by simp; omega, by simp; exact hl⟩
    · by_cases h0 : len = 0
      · subst h0; exact .inl (by simp)
      · have c0 := (hf2 0 (by omega)).1 0 _ rfl
        obtain ⟨b, off, spot⟩ := a
        have hspot : spot = none := by simpa [Addr.add] using World.cell?_spot c0
        subst hspot
        refine .inr ⟨b, off, rfl, by simpa [Addr.add] using World.block_lt_of_cell? W _ c0, fun q u hu => ?_⟩
        obtain ⟨j, i, x, rfl, hx, hu2⟩ := IX.cellsK_inv DX.chK hu
        have hj : j < len := by have := (List.getElem?_eq_some_iff.1 hx).1; simpa using this
        have q0 := (hf2 j (by omega)).1 i u (by
          simp [hj] at hx
          subst hx; exact hu2)
        have hadd : ∀ k, (⟨b, off, none⟩ : Addr).add k = ⟨b, off + k, none⟩ := fun k => by unfold Addr.add; split <;> simp_all
        rw [hadd] at q0
        exact q0
    · obtain ⟨i, hi, rfl⟩ := List.mem_map.1 hx
      have := List.mem_range.1 hi
      exact (hf2 i (by omega)).2
theorem open_hs1 {H : Type} {enc : TypeId × Value → H} {W : World} {spare : Nat → Bool} {held : Bool} {n0 : Nat} {y0 : DataW H × List MemPlace} {v : Value}
    (h2 : DataW.trod enc Tryz.prog W 0 spare held n0 22 [v] = some y0) :
    ∃ (A : Option Addr) (l : List YX.Bs) (c : Nat), v = .slice A l.length c ∧ RdK strK W W.heap.size A l ∧ (∀ x ∈ l, x.length ≤ maxLen) ∧ l.length ≤ maxLen ∧ l.length ≤ c := by
  have cs1 : Tryz.prog.cellsOf 9 = 1 := by kernel_rfl
  rcases open_strings Tryz.underlying22 Tryz.underlying9 cs1 h2 with ⟨hcs, _⟩ | ⟨a, len, cap, ss, hcs, _, hl, hm, hz, _, hcell, hws⟩
  · obtain rfl := (List.cons.inj hcs).1
    exact ⟨none, [], 0, rfl, .inl rfl, fun _ h => (by cases h), Nat.zero_le _, Nat.zero_le _⟩
  · obtain rfl := (List.cons.inj hcs).1
    have hzl : len ≤ ss.length := by rw [hz]; split <;> omega
    have hlen : ((ss.take len).map (·.data.toList)).length = len := by simp; omega
    refine ⟨some a, (ss.take len).map (·.data.toList), cap, by rw [hlen], ?_, ?_, by rw [hlen]; omega, by rw [hlen]; exact hl⟩
    · by_cases h0 : len = 0
      · subst h0; exact .inl (by simp)
      · have c0 := hcell 0 (by omega)
        obtain ⟨b, off, spot⟩ := a
        have hspot : spot = none := by simpa [Addr.add] using World.cell?_spot c0
        subst hspot
        refine .inr ⟨b, off, rfl, by simpa [Addr.add] using World.block_lt_of_cell? W _ c0, fun q u hu => ?_⟩
        obtain ⟨j, i, x, rfl, hx, hu2⟩ := IX.cellsK_inv strK hu
        have hi : i = 0 := by have := (List.getElem?_eq_some_iff.1 hu2).1; rw [strK.len] at this; have e : strK.size = 1 := rfl; omega
        subst hi
        have hj : j < len := by
          have := (List.getElem?_eq_some_iff.1 hx).1
          rw [hlen] at this; exact this
        have hc := hcell j (by omega)
        have hadd : (⟨b, off, none⟩ : Addr).add j = ⟨b, off + j, none⟩ := by unfold Addr.add; split <;> simp_all
        rw [hadd] at hc
        have e1 : j * strK.size + 0 = j := by show j * 1 + 0 = j; omega
        rw [e1, hc]
        have hj2 : j < ss.length := by omega
        rw [List.getElem?_map, List.getElem?_take, if_pos hj, List.getElem?_eq_getElem hj2] at hx
        simp only [Option.map_some, Option.some.injEq] at hx
        have e2 : u = str x := (Option.some.inj hu2).symm
        rw [List.getD_eq_getElem?_getD, List.getElem?_eq_getElem hj2, e2, ← hx]
        rfl
    · intro x hx
      obtain ⟨s, hs, rfl⟩ := List.mem_map.1 hx
      have := hws s (List.mem_of_mem_take hs)
      simpa using this
/-- What a request that came in keeps to. -/
structure InQ (q : PX.Rq) : Prop where
  kind : q.kind ≤ 255
  handle : q.handle.size ≤ maxLen
  hs : ∀ x ∈ q.hs, x.length ≤ maxLen
  many : q.hs.length ≤ maxLen
  ck : q.ch.kind ≤ 255
  co : Fine q.ch.o
  op : q.op ≤ 255
  low : -9223372036854775808 ≤ q.low ∧ q.low ≤ 9223372036854775807
  high : -9223372036854775808 ≤ q.high ∧ q.high ≤ 9223372036854775807
  assoc : q.assoc ≤ 255
  expect : -9223372036854775808 ≤ q.expect ∧ q.expect ≤ 9223372036854775807
  mask : q.mask ≤ 65535
/-- What a reply that came in keeps to. -/
structure InP (p : PX.Rp) : Prop where
  err : -9223372036854775808 ≤ p.err ∧ p.err ≤ 9223372036854775807
  ver : -9223372036854775808 ≤ p.ver ∧ p.ver ≤ 9223372036854775807
  es : ∀ x ∈ p.es, InE x
  many : p.es.length ≤ maxLen
  rver : -9223372036854775808 ≤ p.rver ∧ p.rver ≤ 9223372036854775807
  cs : ∀ x ∈ p.cs, x.kind ≤ 255 ∧ Fine x.o
  many2 : p.cs.length ≤ maxLen
  st : p.st ≤ 255
theorem u16_open {i : Int} (h : Lit.wf (.int .u16 i)) : ∃ n : Nat, i = (n : Int) ∧ n ≤ 65535 := by
  simp [Lit.wf, show IntKind.u16.min = 0 from rfl, show IntKind.u16.max = 65535 from rfl] at h
  exact ⟨i.toNat, by omega, by omega⟩
set_option maxHeartbeats 4000000 in
theorem open_rq1 {H : Type} {enc : TypeId × Value → H} {W : World} {spare : Nat → Bool} {held : Bool} {n : Nat} {y : DataW H × List MemPlace} {v0 v1 v2 v3 v4 v5 v6 v7 v8 v9 v10 v11 v12 v13 v14 v15 v16 v17 v18 v19 v20 v21 v22 v23 v24 : Value}
    (h2 : DataW.trod enc Tryz.prog W 0 spare held n 29 [v0, v1, v2, v3, v4, v5, v6, v7, v8, v9, v10, v11, v12, v13, v14, v15, v16, v17, v18, v19, v20, v21, v22, v23, v24] = some y) :
    ∃ (q : PX.Rq) (A : Option Addr) (c : Nat), [v0, v1, v2, v3, v4, v5, v6, v7, v8, v9, v10, v11, v12, v13, v14, v15, v16, v17, v18, v19, v20, v21, v22, v23, v24] = (PX.rqC q A q.hs.length c).toList ∧ RdK strK W W.heap.size A q.hs ∧ q.hs.length ≤ c ∧ InQ q := by
  obtain ⟨xs, k, _, _, _, hxl, hf⟩ := DataW.trod_struct Tryz.underlying29 h2
  have hl : xs.length = 11 := hxl
  have cz0 : Tryz.prog.cellsOf 9 = 1 := by kernel_rfl
  have cz1 : Tryz.prog.cellsOf 5 = 1 := by kernel_rfl
  have cz2 : Tryz.prog.cellsOf 27 = 1 := by kernel_rfl
  have cz3 : Tryz.prog.cellsOf 2 = 1 := by kernel_rfl
  have cz4 : Tryz.prog.cellsOf 3 = 1 := by kernel_rfl
  have cz5 : Tryz.prog.cellsOf 4 = 1 := by kernel_rfl
  have cz6 : Tryz.prog.cellsOf 22 = 1 := by kernel_rfl
  have cz7 : Tryz.prog.cellsOf 31 = 1 := by kernel_rfl
  have cz8 : Tryz.prog.cellsOf 32 = 1 := by kernel_rfl
  have cz9 : Tryz.prog.cellsOf 30 = 1 := by kernel_rfl
  have cz10 : Tryz.prog.cellsOf 26 = 15 := by kernel_rfl
  have cz11 : Tryz.prog.cellsOf 34 = 3 := by kernel_rfl
  have k0 : DataW.trod enc Tryz.prog W 0 spare held k 5 [v0] = some (xs[0]'(by omega)) := by
    have := (hf 0 _ rfl).trans (List.getElem?_eq_getElem (by omega)); simpa [cz0, cz1, cz2, cz3, cz4, cz5, cz6, cz7, cz8, cz9, cz10, cz11] using this
  have k1 : DataW.trod enc Tryz.prog W 0 spare held k 9 [v1] = some (xs[1]'(by omega)) := by
    have := (hf 1 _ rfl).trans (List.getElem?_eq_getElem (by omega)); simpa [cz0, cz1, cz2, cz3, cz4, cz5, cz6, cz7, cz8, cz9, cz10, cz11] using this
  have k2 : DataW.trod enc Tryz.prog W 0 spare held k 22 [v2] = some (xs[2]'(by omega)) := by
    have := (hf 2 _ rfl).trans (List.getElem?_eq_getElem (by omega)); simpa [cz0, cz1, cz2, cz3, cz4, cz5, cz6, cz7, cz8, cz9, cz10, cz11] using this
  have k3 : DataW.trod enc Tryz.prog W 0 spare held k 26 [v3, v4, v5, v6, v7, v8, v9, v10, v11, v12, v13, v14, v15, v16, v17] = some (xs[3]'(by omega)) := by
    have := (hf 3 _ rfl).trans (List.getElem?_eq_getElem (by omega)); simpa [cz0, cz1, cz2, cz3, cz4, cz5, cz6, cz7, cz8, cz9, cz10, cz11] using this
  have k4 : DataW.trod enc Tryz.prog W 0 spare held k 5 [v18] = some (xs[4]'(by omega)) := by
    have := (hf 4 _ rfl).trans (List.getElem?_eq_getElem (by omega)); simpa [cz0, cz1, cz2, cz3, cz4, cz5, cz6, cz7, cz8, cz9, cz10, cz11] using this
  have k5 : DataW.trod enc Tryz.prog W 0 spare held k 2 [v19] = some (xs[5]'(by omega)) := by
    have := (hf 5 _ rfl).trans (List.getElem?_eq_getElem (by omega)); simpa [cz0, cz1, cz2, cz3, cz4, cz5, cz6, cz7, cz8, cz9, cz10, cz11] using this
  have k6 : DataW.trod enc Tryz.prog W 0 spare held k 2 [v20] = some (xs[6]'(by omega)) := by
    have := (hf 6 _ rfl).trans (List.getElem?_eq_getElem (by omega)); simpa [cz0, cz1, cz2, cz3, cz4, cz5, cz6, cz7, cz8, cz9, cz10, cz11] using this
  have k7 : DataW.trod enc Tryz.prog W 0 spare held k 4 [v21] = some (xs[7]'(by omega)) := by
    have := (hf 7 _ rfl).trans (List.getElem?_eq_getElem (by omega)); simpa [cz0, cz1, cz2, cz3, cz4, cz5, cz6, cz7, cz8, cz9, cz10, cz11] using this
  have k8 : DataW.trod enc Tryz.prog W 0 spare held k 5 [v22] = some (xs[8]'(by omega)) := by
    have := (hf 8 _ rfl).trans (List.getElem?_eq_getElem (by omega)); simpa [cz0, cz1, cz2, cz3, cz4, cz5, cz6, cz7, cz8, cz9, cz10, cz11] using this
  have k9 : DataW.trod enc Tryz.prog W 0 spare held k 3 [v23] = some (xs[9]'(by omega)) := by
    have := (hf 9 _ rfl).trans (List.getElem?_eq_getElem (by omega)); simpa [cz0, cz1, cz2, cz3, cz4, cz5, cz6, cz7, cz8, cz9, cz10, cz11] using this
  have k10 : DataW.trod enc Tryz.prog W 0 spare held k 27 [v24] = some (xs[10]'(by omega)) := by
    have := (hf 10 _ rfl).trans (List.getElem?_eq_getElem (by omega)); simpa [cz0, cz1, cz2, cz3, cz4, cz5, cz6, cz7, cz8, cz9, cz10, cz11] using this
  clear hf h2
  obtain ⟨z0, f0, -, r0⟩ := DataW.trod_int Tryz.underlying5 k0
  obtain rfl := (List.cons.inj f0).1
  obtain ⟨n0, rfl, b0⟩ := u8_open r0
  obtain ⟨z1, f1, -, r1⟩ := DataW.trod_string Tryz.underlying9 k1
  obtain rfl := (List.cons.inj f1).1
  obtain ⟨z4, f4, -, r4⟩ := DataW.trod_int Tryz.underlying5 k4
  obtain rfl := (List.cons.inj f4).1
  obtain ⟨n4, rfl, b4⟩ := u8_open r4
  obtain ⟨z5, f5, -, r5⟩ := DataW.trod_int Tryz.underlying2 k5
  obtain rfl := (List.cons.inj f5).1
  have b5 := i64_open r5
  obtain ⟨z6, f6, -, r6⟩ := DataW.trod_int Tryz.underlying2 k6
  obtain rfl := (List.cons.inj f6).1
  have b6 := i64_open r6
  obtain ⟨z7, f7, -⟩ := DataW.trod_bool Tryz.underlying4 k7
  obtain rfl := (List.cons.inj f7).1
  obtain ⟨z8, f8, -, r8⟩ := DataW.trod_int Tryz.underlying5 k8
  obtain rfl := (List.cons.inj f8).1
  obtain ⟨n8, rfl, b8⟩ := u8_open r8
  obtain ⟨z9, f9, -, r9⟩ := DataW.trod_int Tryz.underlying3 k9
  obtain rfl := (List.cons.inj f9).1
  have b9 := i64_open r9
  obtain ⟨z10, f10, -, r10⟩ := DataW.trod_int Tryz.underlying27 k10
  obtain rfl := (List.cons.inj f10).1
  obtain ⟨n10, rfl, b10⟩ := u16_open r10
  obtain ⟨A, hs, c, rfl, rd, hsl, hsm, hsc⟩ := open_hs1 k2
  obtain ⟨x, rfl, rfl, rfl, rfl, rfl, rfl, rfl, rfl, rfl, rfl, rfl, rfl, rfl, rfl, rfl, hk, hp⟩ := open_ch1 k3
  exact ⟨⟨n0, z1, hs, x, n4, z5, z6, z7, n8, z9, n10⟩, A, c, rfl, rd, hsc, ⟨b0, r1, hsl, hsm, hk, hp, b4, b5, b6, b8, b9, b10⟩⟩
theorem open_rqV {H : Type} {enc : TypeId × Value → H} {W : World} {r : Reach} {b0 : Nat} {spare : Nat → Bool} {held : Bool} {v : Value} {d : DataW H} {p : List MemPlace}
    (hv : Value.okWide Tryz.prog W r b0 29 v) (h : DataW.Trod enc Tryz.prog W 0 spare held 29 v d p) :
    ∃ (q : PX.Rq) (A : Option Addr) (c : Nat), v = PX.rq q A q.hs.length c ∧ RdK strK W W.heap.size A q.hs ∧ q.hs.length ≤ c ∧ InQ q := by
  obtain ⟨cs, rfl, hsz⟩ := okWide_struct Tryz.underlying29 hv
  have hC : Tryz.prog.cellsOf 29 = 25 := by kernel_rfl
  rw [hC] at hsz
  obtain ⟨fuel, hf⟩ := h
  obtain ⟨l⟩ := cs
  match l, hsz with
  | [v0, v1, v2, v3, v4, v5, v6, v7, v8, v9, v10, v11, v12, v13, v14, v15, v16, v17, v18, v19, v20, v21, v22, v23, v24], _ =>
    obtain ⟨q, A, c, e, hr⟩ := open_rq1 (show DataW.trod enc Tryz.prog W 0 spare held fuel 29 [v0, v1, v2, v3, v4, v5, v6, v7, v8, v9, v10, v11, v12, v13, v14, v15, v16, v17, v18, v19, v20, v21, v22, v23, v24] = some (d, p) from hf)
    exact ⟨q, A, c, congrArg (fun l => Value.agg ⟨l⟩) e, hr⟩
set_option maxHeartbeats 4000000 in
theorem open_rl1 {H : Type} {enc : TypeId × Value → H} {W : World} {spare : Nat → Bool} {held : Bool} {n : Nat} {y : DataW H × List MemPlace} {v0 v1 v2 v3 v4 v5 v6 : Value}
    (h2 : DataW.trod enc Tryz.prog W 0 spare held n 36 [v0, v1, v2, v3, v4, v5, v6] = some y) :
    ∃ (p : PX.Rp) (A : Option Addr) (c : Nat) (A2 : Option Addr) (c2 : Nat), [v0, v1, v2, v3, v4, v5, v6] = (PX.rlC p A p.es.length c A2 p.cs.length c2).toList ∧ RdK PX.enK W W.heap.size A p.es ∧ RdK DX.chK W W.heap.size A2 p.cs ∧ p.es.length ≤ c ∧ p.cs.length ≤ c2 ∧ InP p := by
  obtain ⟨xs, k, _, _, _, hxl, hf⟩ := DataW.trod_struct Tryz.underlying36 h2
  have hl : xs.length = 5 := hxl
  have cz0 : Tryz.prog.cellsOf 9 = 1 := by kernel_rfl
  have cz1 : Tryz.prog.cellsOf 5 = 1 := by kernel_rfl
  have cz2 : Tryz.prog.cellsOf 27 = 1 := by kernel_rfl
  have cz3 : Tryz.prog.cellsOf 2 = 1 := by kernel_rfl
  have cz4 : Tryz.prog.cellsOf 3 = 1 := by kernel_rfl
  have cz5 : Tryz.prog.cellsOf 4 = 1 := by kernel_rfl
  have cz6 : Tryz.prog.cellsOf 22 = 1 := by kernel_rfl
  have cz7 : Tryz.prog.cellsOf 31 = 1 := by kernel_rfl
  have cz8 : Tryz.prog.cellsOf 32 = 1 := by kernel_rfl
  have cz9 : Tryz.prog.cellsOf 30 = 1 := by kernel_rfl
  have cz10 : Tryz.prog.cellsOf 26 = 15 := by kernel_rfl
  have cz11 : Tryz.prog.cellsOf 34 = 3 := by kernel_rfl
  have k0 : DataW.trod enc Tryz.prog W 0 spare held k 30 [v0] = some (xs[0]'(by omega)) := by
    have := (hf 0 _ rfl).trans (List.getElem?_eq_getElem (by omega)); simpa [cz0, cz1, cz2, cz3, cz4, cz5, cz6, cz7, cz8, cz9, cz10, cz11] using this
  have k1 : DataW.trod enc Tryz.prog W 0 spare held k 3 [v1] = some (xs[1]'(by omega)) := by
    have := (hf 1 _ rfl).trans (List.getElem?_eq_getElem (by omega)); simpa [cz0, cz1, cz2, cz3, cz4, cz5, cz6, cz7, cz8, cz9, cz10, cz11] using this
  have k2 : DataW.trod enc Tryz.prog W 0 spare held k 31 [v2] = some (xs[2]'(by omega)) := by
    have := (hf 2 _ rfl).trans (List.getElem?_eq_getElem (by omega)); simpa [cz0, cz1, cz2, cz3, cz4, cz5, cz6, cz7, cz8, cz9, cz10, cz11] using this
  have k3 : DataW.trod enc Tryz.prog W 0 spare held k 34 [v3, v4, v5] = some (xs[3]'(by omega)) := by
    have := (hf 3 _ rfl).trans (List.getElem?_eq_getElem (by omega)); simpa [cz0, cz1, cz2, cz3, cz4, cz5, cz6, cz7, cz8, cz9, cz10, cz11] using this
  have k4 : DataW.trod enc Tryz.prog W 0 spare held k 5 [v6] = some (xs[4]'(by omega)) := by
    have := (hf 4 _ rfl).trans (List.getElem?_eq_getElem (by omega)); simpa [cz0, cz1, cz2, cz3, cz4, cz5, cz6, cz7, cz8, cz9, cz10, cz11] using this
  clear hf h2
  obtain ⟨z0, f0, -, r0⟩ := DataW.trod_int Tryz.underlying30 k0
  obtain rfl := (List.cons.inj f0).1
  have b0 := i64_open r0
  obtain ⟨z1, f1, -, r1⟩ := DataW.trod_int Tryz.underlying3 k1
  obtain rfl := (List.cons.inj f1).1
  have b1 := i64_open r1
  obtain ⟨z4, f4, -, r4⟩ := DataW.trod_int Tryz.underlying5 k4
  obtain rfl := (List.cons.inj f4).1
  obtain ⟨n4, rfl, b4⟩ := u8_open r4
  obtain ⟨ys, k', _, _, _, hyl, hg⟩ := DataW.trod_struct Tryz.underlying34 k3
  have hl2 : ys.length = 3 := hyl
  have g0 : DataW.trod enc Tryz.prog W 0 spare held k' 3 [v3] = some (ys[0]'(by omega)) := by
    have := (hg 0 _ rfl).trans (List.getElem?_eq_getElem (by omega)); simpa [cz0, cz1, cz2, cz3, cz4, cz5, cz6, cz7, cz8, cz9, cz10, cz11] using this
  have g1 : DataW.trod enc Tryz.prog W 0 spare held k' 32 [v4] = some (ys[1]'(by omega)) := by
    have := (hg 1 _ rfl).trans (List.getElem?_eq_getElem (by omega)); simpa [cz0, cz1, cz2, cz3, cz4, cz5, cz6, cz7, cz8, cz9, cz10, cz11] using this
  have g2 : DataW.trod enc Tryz.prog W 0 spare held k' 4 [v5] = some (ys[2]'(by omega)) := by
    have := (hg 2 _ rfl).trans (List.getElem?_eq_getElem (by omega)); simpa [cz0, cz1, cz2, cz3, cz4, cz5, cz6, cz7, cz8, cz9, cz10, cz11] using this
  clear hg
  obtain ⟨z10, f10, -, r10⟩ := DataW.trod_int Tryz.underlying3 g0
  obtain rfl := (List.cons.inj f10).1
  have b10 := i64_open r10
  obtain ⟨z12, f12, -⟩ := DataW.trod_bool Tryz.underlying4 g2
  obtain rfl := (List.cons.inj f12).1
  obtain ⟨A, es, c, rfl, rd, he, hem, hec⟩ := open_ens1 k2
  obtain ⟨A2, cs, c2, rfl, rd2, hc, hcm, hcc⟩ := open_chs1 g1
  exact ⟨⟨z0, z1, es, z10, cs, z12, n4⟩, A, c, A2, c2, rfl, rd, rd2, hec, hcc, ⟨b0, b1, he, hem, b10, hc, hcm, b4⟩⟩
theorem open_rlV {H : Type} {enc : TypeId × Value → H} {W : World} {r : Reach} {b0 : Nat} {spare : Nat → Bool} {held : Bool} {v : Value} {d : DataW H} {p : List MemPlace}
    (hv : Value.okWide Tryz.prog W r b0 36 v) (h : DataW.Trod enc Tryz.prog W 0 spare held 36 v d p) :
    ∃ (x : PX.Rp) (A : Option Addr) (c : Nat) (A2 : Option Addr) (c2 : Nat), v = PX.rl x A x.es.length c A2 x.cs.length c2 ∧ RdK PX.enK W W.heap.size A x.es ∧ RdK DX.chK W W.heap.size A2 x.cs ∧ x.es.length ≤ c ∧ x.cs.length ≤ c2 ∧ InP x := by
  obtain ⟨cs, rfl, hsz⟩ := okWide_struct Tryz.underlying36 hv
  have hC : Tryz.prog.cellsOf 36 = 7 := by kernel_rfl
  rw [hC] at hsz
  obtain ⟨fuel, hf⟩ := h
  obtain ⟨l⟩ := cs
  match l, hsz with
  | [v0, v1, v2, v3, v4, v5, v6], _ =>
    obtain ⟨x, A, c, A2, c2, e, hr⟩ := open_rl1 (show DataW.trod enc Tryz.prog W 0 spare held fuel 36 [v0, v1, v2, v3, v4, v5, v6] = some (d, p) from hf)
    exact ⟨x, A, c, A2, c2, congrArg (fun l => Value.agg ⟨l⟩) e, hr⟩
end Go.Proofs.YtjocbokfdfdkeaaGreat
