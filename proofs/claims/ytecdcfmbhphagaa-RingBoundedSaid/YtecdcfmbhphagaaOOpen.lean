/-
  An object that came in as an argument: its fields, and their bounds.
-/
import Derived.Test.YtecdcfmbhphagaaOKit
import Derived.WideShapes
import Derived.Lib.SmallJoins
import Derived.ProofKit
namespace Go.Proofs.Ytecdcfmbhphagaa
open Go.ChangeShapes Go.WideShapes Go.ChangeAt Go.RowKit
set_option maxRecDepth 100000
set_option linter.unusedVariables false

structure Fine (o : Ob) : Prop where
  handle : o.handle.size ≤ maxLen
  kind : o.kind ≤ 255
  parent : o.parent.size ≤ maxLen
  typ : o.typ ≤ 255
  ref : o.ref.size ≤ maxLen
  lo : -9223372036854775808 ≤ o.lo ∧ o.lo ≤ 9223372036854775807
  hi : -9223372036854775808 ≤ o.hi ∧ o.hi ≤ 9223372036854775807
  digits : o.digits ≤ 255
  value : -9223372036854775808 ≤ o.value ∧ o.value ≤ 9223372036854775807
  low : -9223372036854775808 ≤ o.low ∧ o.low ≤ 9223372036854775807
  high : -9223372036854775808 ≤ o.high ∧ o.high ≤ 9223372036854775807
  assoc : o.assoc ≤ 255
theorem u8_open {i : Int} (h : (Lit.int .u8 i).wf = true) : ∃ d : Nat, i = (d : Int) ∧ d ≤ 255 := by
  simp [Lit.wf, show IntKind.u8.min = 0 from rfl, show IntKind.u8.max = 255 from rfl] at h
  exact ⟨i.toNat, by omega, by omega⟩
theorem i64_open {i : Int} (h : (Lit.int .i64 i).wf = true) : -9223372036854775808 ≤ i ∧ i ≤ 9223372036854775807 := by
  simp [Lit.wf, show IntKind.i64.min = -9223372036854775808 from rfl, show IntKind.i64.max = 9223372036854775807 from rfl] at h
  omega
set_option maxHeartbeats 2000000 in
theorem open_ob {H : Type} {enc : TypeId × Value → H} {W : World} {r : Reach} {base b0 : Nat} {spare : Nat → Bool} {held : Bool} {v : Value} {d : DataW H} {p : List MemPlace}
    (hv : Value.okWide Try.prog W r b0 31 v) (h : DataW.Trod enc Try.prog W base spare held 31 v d p) : ∃ o : Ob, v = ob o ∧ Fine o := by
  obtain ⟨cs, rfl, hsz⟩ := okWide_struct Try.underlying31 hv
  have hC : Try.prog.cellsOf 31 = 14 := by kernel_rfl
  rw [hC] at hsz
  obtain ⟨fuel, hf⟩ := h
  obtain ⟨xs, n, _, _, _, hlen, hel⟩ := DataW.trod_struct Try.underlying31 hf
  have hl : xs.length = 14 := hlen
  have cs1 : Try.prog.cellsOf 9 = 1 := by kernel_rfl
  have cu1 : Try.prog.cellsOf 5 = 1 := by kernel_rfl
  have ci1 : Try.prog.cellsOf 2 = 1 := by kernel_rfl
  have cb1 : Try.prog.cellsOf 4 = 1 := by kernel_rfl
  obtain ⟨l⟩ := cs
  match l, hsz with
  | [c0, c1, c2, c3, c4, c5, c6, c7, c8, c9, c10, c11, c12, c13], _ =>
    have g0 : DataW.trod enc Try.prog W base spare held n 9 [c0] = some (xs[0]'(by omega)) := by
      have := (hel 0 _ rfl).trans (List.getElem?_eq_getElem (by omega)); simpa [Value.cells, cs1] using this
    obtain ⟨x0, e0, -, q0⟩ := DataW.trod_string Try.underlying9 g0
    obtain rfl := (List.cons.inj e0).1
    have g1 : DataW.trod enc Try.prog W base spare held n 5 [c1] = some (xs[1]'(by omega)) := by
      have := (hel 1 _ rfl).trans (List.getElem?_eq_getElem (by omega)); simpa [Value.cells, cu1] using this
    obtain ⟨x1, e1, -, q1⟩ := DataW.trod_int Try.underlying5 g1
    obtain rfl := (List.cons.inj e1).1
    obtain ⟨n1, rfl, b1⟩ := u8_open q1
    have g2 : DataW.trod enc Try.prog W base spare held n 9 [c2] = some (xs[2]'(by omega)) := by
      have := (hel 2 _ rfl).trans (List.getElem?_eq_getElem (by omega)); simpa [Value.cells, cs1] using this
    obtain ⟨x2, e2, -, q2⟩ := DataW.trod_string Try.underlying9 g2
    obtain rfl := (List.cons.inj e2).1
    have g3 : DataW.trod enc Try.prog W base spare held n 5 [c3] = some (xs[3]'(by omega)) := by
      have := (hel 3 _ rfl).trans (List.getElem?_eq_getElem (by omega)); simpa [Value.cells, cu1] using this
    obtain ⟨x3, e3, -, q3⟩ := DataW.trod_int Try.underlying5 g3
    obtain rfl := (List.cons.inj e3).1
    obtain ⟨n3, rfl, b3⟩ := u8_open q3
    have g4 : DataW.trod enc Try.prog W base spare held n 9 [c4] = some (xs[4]'(by omega)) := by
      have := (hel 4 _ rfl).trans (List.getElem?_eq_getElem (by omega)); simpa [Value.cells, cs1] using this
    obtain ⟨x4, e4, -, q4⟩ := DataW.trod_string Try.underlying9 g4
    obtain rfl := (List.cons.inj e4).1
    have g5 : DataW.trod enc Try.prog W base spare held n 2 [c5] = some (xs[5]'(by omega)) := by
      have := (hel 5 _ rfl).trans (List.getElem?_eq_getElem (by omega)); simpa [Value.cells, ci1] using this
    obtain ⟨x5, e5, -, q5⟩ := DataW.trod_int Try.underlying2 g5
    obtain rfl := (List.cons.inj e5).1
    have g6 : DataW.trod enc Try.prog W base spare held n 2 [c6] = some (xs[6]'(by omega)) := by
      have := (hel 6 _ rfl).trans (List.getElem?_eq_getElem (by omega)); simpa [Value.cells, ci1] using this
    obtain ⟨x6, e6, -, q6⟩ := DataW.trod_int Try.underlying2 g6
    obtain rfl := (List.cons.inj e6).1
    have g7 : DataW.trod enc Try.prog W base spare held n 5 [c7] = some (xs[7]'(by omega)) := by
      have := (hel 7 _ rfl).trans (List.getElem?_eq_getElem (by omega)); simpa [Value.cells, cu1] using this
    obtain ⟨x7, e7, -, q7⟩ := DataW.trod_int Try.underlying5 g7
    obtain rfl := (List.cons.inj e7).1
    obtain ⟨n7, rfl, b7⟩ := u8_open q7
    have g8 : DataW.trod enc Try.prog W base spare held n 4 [c8] = some (xs[8]'(by omega)) := by
      have := (hel 8 _ rfl).trans (List.getElem?_eq_getElem (by omega)); simpa [Value.cells, cb1] using this
    obtain ⟨x8, e8, -⟩ := DataW.trod_bool Try.underlying4 g8
    obtain rfl := (List.cons.inj e8).1
    have g9 : DataW.trod enc Try.prog W base spare held n 4 [c9] = some (xs[9]'(by omega)) := by
      have := (hel 9 _ rfl).trans (List.getElem?_eq_getElem (by omega)); simpa [Value.cells, cb1] using this
    obtain ⟨x9, e9, -⟩ := DataW.trod_bool Try.underlying4 g9
    obtain rfl := (List.cons.inj e9).1
    have g10 : DataW.trod enc Try.prog W base spare held n 2 [c10] = some (xs[10]'(by omega)) := by
      have := (hel 10 _ rfl).trans (List.getElem?_eq_getElem (by omega)); simpa [Value.cells, ci1] using this
    obtain ⟨x10, e10, -, q10⟩ := DataW.trod_int Try.underlying2 g10
    obtain rfl := (List.cons.inj e10).1
    have g11 : DataW.trod enc Try.prog W base spare held n 2 [c11] = some (xs[11]'(by omega)) := by
      have := (hel 11 _ rfl).trans (List.getElem?_eq_getElem (by omega)); simpa [Value.cells, ci1] using this
    obtain ⟨x11, e11, -, q11⟩ := DataW.trod_int Try.underlying2 g11
    obtain rfl := (List.cons.inj e11).1
    have g12 : DataW.trod enc Try.prog W base spare held n 2 [c12] = some (xs[12]'(by omega)) := by
      have := (hel 12 _ rfl).trans (List.getElem?_eq_getElem (by omega)); simpa [Value.cells, ci1] using this
    obtain ⟨x12, e12, -, q12⟩ := DataW.trod_int Try.underlying2 g12
    obtain rfl := (List.cons.inj e12).1
    have g13 : DataW.trod enc Try.prog W base spare held n 5 [c13] = some (xs[13]'(by omega)) := by
      have := (hel 13 _ rfl).trans (List.getElem?_eq_getElem (by omega)); simpa [Value.cells, cu1] using this
    obtain ⟨x13, e13, -, q13⟩ := DataW.trod_int Try.underlying5 g13
    obtain rfl := (List.cons.inj e13).1
    obtain ⟨n13, rfl, b13⟩ := u8_open q13
    exact ⟨⟨x0, n1, x2, n3, x4, x5, x6, n7, x8, x9, x10, x11, x12, n13⟩, rfl, ⟨q0, b1, q2, b3, q4, i64_open q5, i64_open q6, b7, i64_open q10, i64_open q11, i64_open q12, b13⟩⟩
end Go.Proofs.Ytecdcfmbhphagaa
