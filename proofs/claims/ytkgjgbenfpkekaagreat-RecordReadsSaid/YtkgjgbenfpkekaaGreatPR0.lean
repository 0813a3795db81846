/-
  An object that came in as an argument: its fields, and their bounds.
-/
import Derived.Test.YtkgjgbenfpkekaaGreatOKit
import Derived.WideShapes
import Derived.Lib.SmallJoins
import Derived.ProofKit
import Derived.Test.YtkgjgbenfpkekaaGreatWOb
import Derived.Deep.SlicePairs
import Derived.OpenShut
import Derived.Test.YtkgjgbenfpkekaaGreatYReadsM
namespace Go.Proofs.YtkgjgbenfpkekaaGreat
open Go.ChangeShapes Go.WideShapes Go.ChangeAt Go.RowKit
set_option maxRecDepth 100000
set_option linter.unusedVariables false

structure Fine (o : Ob) : Prop where
  handle : o.handle.size ≤ maxLen
  kind : o.kind ≤ 255
  parent : o.parent.size ≤ maxLen
  typ : o.typ ≤ 255
  ref : o.ref.size ≤ maxLen
  lo : -9223372036854775808 ≤ o.lo ∧ o.lo ≤ 9223372036854775807
  hi : -9223372036854775808 ≤ o.hi ∧ o.hi ≤ 9223372036854775807
  digits : o.digits ≤ 255
  value : -9223372036854775808 ≤ o.value ∧ o.value ≤ 9223372036854775807
  low : -9223372036854775808 ≤ o.low ∧ o.low ≤ 9223372036854775807
  high : -9223372036854775808 ≤ o.high ∧ o.high ≤ 9223372036854775807
  assoc : o.assoc ≤ 255
theorem u8_open {i : Int} (h : (Lit.int .u8 i).wf = true) : ∃ d : Nat, i = (d : Int) ∧ d ≤ 255 := by
  simp [Lit.wf, show IntKind.u8.min = 0 from rfl, show IntKind.u8.max = 255 from rfl] at h
  exact ⟨i.toNat, by omega, by omega⟩
theorem i64_open {i : Int} (h : (Lit.int .i64 i).wf = true) : -9223372036854775808 ≤ i ∧ i ≤ 9223372036854775807 := by
  simp [Lit.wf, show IntKind.i64.min = -9223372036854775808 from rfl, show IntKind.i64.max = 9223372036854775807 from rfl] at h
  omega
set_option maxHeartbeats 2000000 in
theorem open_ob {H : Type} {enc : TypeId × Value → H} {W : World} {r : Reach} {base b0 : Nat} {spare : Nat → Bool} {held : Bool} {v : Value} {d : DataW H} {p : List MemPlace}
    (hv : Value.okWide Tryz.prog W r b0 45 v) (h : DataW.Trod enc Tryz.prog W base spare held 45 v d p) : ∃ o : Ob, v = ob o ∧ Fine o := by
  obtain ⟨cs, rfl, hsz⟩ := okWide_struct Tryz.underlying45 hv
  have hC : Tryz.prog.cellsOf 45 = 14 := by kernel_rfl
  rw [hC] at hsz
  obtain ⟨fuel, hf⟩ := h
  obtain ⟨xs, n, _, _, _, hlen, hel⟩ := DataW.trod_struct Tryz.underlying45 hf
  have hl : xs.length = 14 := hlen
  have cs1 : Tryz.prog.cellsOf 9 = 1 := by kernel_rfl
  have cu1 : Tryz.prog.cellsOf 5 = 1 := by kernel_rfl
  have ci1 : Tryz.prog.cellsOf 2 = 1 := by kernel_rfl
  have cb1 : Tryz.prog.cellsOf 4 = 1 := by kernel_rfl
  obtain ⟨l⟩ := cs
  match l, hsz with
  | [c0, c1, c2, c3, c4, c5, c6, c7, c8, c9, c10, c11, c12, c13], _ =>
    have g0 : DataW.trod enc Tryz.prog W base spare held n 9 [c0] = some (xs[0]'(by omega)) := by
      have := (hel 0 _ rfl).trans (List.getElem?_eq_getElem (by omega)); simpa [Value.cells, cs1] using this
    obtain ⟨x0, e0, -, q0⟩ := DataW.trod_string Tryz.underlying9 g0
    obtain rfl := (List.cons.inj e0).1
    have g1 : DataW.trod enc Tryz.prog W base spare held n 5 [c1] = some (xs[1]'(by omega)) := by
      have := (hel 1 _ rfl).trans (List.getElem?_eq_getElem (by omega)); simpa [Value.cells, cu1] using this
    obtain ⟨x1, e1, -, q1⟩ := DataW.trod_int Tryz.underlying5 g1
    obtain rfl := (List.cons.inj e1).1
    obtain ⟨n1, rfl, b1⟩ := u8_open q1
    have g2 : DataW.trod enc Tryz.prog W base spare held n 9 [c2] = some (xs[2]'(by omega)) := by
      have := (hel 2 _ rfl).trans (List.getElem?_eq_getElem (by omega)); simpa [Value.cells, cs1] using this
    obtain ⟨x2, e2, -, q2⟩ := DataW.trod_string Tryz.underlying9 g2
    obtain rfl := (List.cons.inj e2).1
    have g3 : DataW.trod enc Tryz.prog W base spare held n 5 [c3] = some (xs[3]'(by omega)) := by
      have := (hel 3 _ rfl).trans (List.getElem?_eq_getElem (by omega)); simpa [Value.cells, cu1] using this
    obtain ⟨x3, e3, -, q3⟩ := DataW.trod_int Tryz.underlying5 g3
    obtain rfl := (List.cons.inj e3).1
    obtain ⟨n3, rfl, b3⟩ := u8_open q3
    have g4 : DataW.trod enc Tryz.prog W base spare held n 9 [c4] = some (xs[4]'(by omega)) := by
      have := (hel 4 _ rfl).trans (List.getElem?_eq_getElem (by omega)); simpa [Value.cells, cs1] using this
    obtain ⟨x4, e4, -, q4⟩ := DataW.trod_string Tryz.underlying9 g4
    obtain rfl := (List.cons.inj e4).1
    have g5 : DataW.trod enc Tryz.prog W base spare held n 2 [c5] = some (xs[5]'(by omega)) := by
      have := (hel 5 _ rfl).trans (List.getElem?_eq_getElem (by omega)); simpa [Value.cells, ci1] using this
    obtain ⟨x5, e5, -, q5⟩ := DataW.trod_int Tryz.underlying2 g5
    obtain rfl := (List.cons.inj e5).1
    have g6 : DataW.trod enc Tryz.prog W base spare held n 2 [c6] = some (xs[6]'(by omega)) := by
      have := (hel 6 _ rfl).trans (List.getElem?_eq_getElem (by omega)); simpa [Value.cells, ci1] using this
    obtain ⟨x6, e6, -, q6⟩ := DataW.trod_int Tryz.underlying2 g6
    obtain rfl := (List.cons.inj e6).1
    have g7 : DataW.trod enc Tryz.prog W base spare held n 5 [c7] = some (xs[7]'(by omega)) := by
      have := (hel 7 _ rfl).trans (List.getElem?_eq_getElem (by omega)); simpa [Value.cells, cu1] using this
    obtain ⟨x7, e7, -, q7⟩ := DataW.trod_int Tryz.underlying5 g7
    obtain rfl := (List.cons.inj e7).1
    obtain ⟨n7, rfl, b7⟩ := u8_open q7
    have g8 : DataW.trod enc Tryz.prog W base spare held n 4 [c8] = some (xs[8]'(by omega)) := by
      have := (hel 8 _ rfl).trans (List.getElem?_eq_getElem (by omega)); simpa [Value.cells, cb1] using this
    obtain ⟨x8, e8, -⟩ := DataW.trod_bool Tryz.underlying4 g8
    obtain rfl := (List.cons.inj e8).1
    have g9 : DataW.trod enc Tryz.prog W base spare held n 4 [c9] = some (xs[9]'(by omega)) := by
      have := (hel 9 _ rfl).trans (List.getElem?_eq_getElem (by omega)); simpa [Value.cells, cb1] using this
    obtain ⟨x9, e9, -⟩ := DataW.trod_bool Tryz.underlying4 g9
    obtain rfl := (List.cons.inj e9).1
    have g10 : DataW.trod enc Tryz.prog W base spare held n 2 [c10] = some (xs[10]'(by omega)) := by
      have := (hel 10 _ rfl).trans (List.getElem?_eq_getElem (by omega)); simpa [Value.cells, ci1] using this
    obtain ⟨x10, e10, -, q10⟩ := DataW.trod_int Tryz.underlying2 g10
    obtain rfl := (List.cons.inj e10).1
    have g11 : DataW.trod enc Tryz.prog W base spare held n 2 [c11] = some (xs[11]'(by omega)) := by
      have := (hel 11 _ rfl).trans (List.getElem?_eq_getElem (by omega)); simpa [Value.cells, ci1] using this
    obtain ⟨x11, e11, -, q11⟩ := DataW.trod_int Tryz.underlying2 g11
    obtain rfl := (List.cons.inj e11).1
    have g12 : DataW.trod enc Tryz.prog W base spare held n 2 [c12] = some (xs[12]'(by omega)) := by
      have := (hel 12 _ rfl).trans (List.getElem?_eq_getElem (by omega)); simpa [Value.cells, ci1] using this
    obtain ⟨x12, e12, -, q12⟩ := DataW.trod_int Tryz.underlying2 g12
    obtain rfl := (List.cons.inj e12).1
    have g13 : DataW.trod enc Tryz.prog W base spare held n 5 [c13] = some (xs[13]'(by omega)) := by
      have := (hel 13 _ rfl).trans (List.getElem?_eq_getElem (by omega)); simpa [Value.cells, cu1] using this
    obtain ⟨x13, e13, -, q13⟩ := DataW.trod_int Tryz.underlying5 g13
    obtain rfl := (List.cons.inj e13).1
    obtain ⟨n13, rfl, b13⟩ := u8_open q13
    exact ⟨⟨x0, n1, x2, n3, x4, x5, x6, n7, x8, x9, x10, x11, x12, n13⟩, rfl, ⟨q0, b1, q2, b3, q4, i64_open q5, i64_open q6, b7, i64_open q10, i64_open q11, i64_open q12, b13⟩⟩
end Go.Proofs.YtkgjgbenfpkekaaGreat
/-
  A row of objects that came in as an argument.
-/
namespace Go.Proofs.YtkgjgbenfpkekaaGreat
open Go.ChangeShapes Go.WideShapes Go.ChangeAt Go.RowKit
set_option maxRecDepth 100000
set_option linter.unusedVariables false

set_option maxHeartbeats 4000000 in
theorem open_ob1 {H : Type} {enc : TypeId × Value → H} {W : World} {spare : Nat → Bool} {held : Bool} {n : Nat} {y : DataW H × List MemPlace} {v1 v2 v3 v4 v5 v6 v7 v8 v9 v10 v11 v12 v13 v14 : Value}
    (h2 : DataW.trod enc Tryz.prog W 0 spare held n 45 [v1, v2, v3, v4, v5, v6, v7, v8, v9, v10, v11, v12, v13, v14] = some y) :
    ∃ x : Ob, v1 = (.string x.handle) ∧ v2 = (.int .u8 x.kind) ∧ v3 = (.string x.parent) ∧ v4 = (.int .u8 x.typ) ∧ v5 = (.string x.ref) ∧ v6 = (.int .i64 x.lo) ∧ v7 = (.int .i64 x.hi) ∧ v8 = (.int .u8 x.digits) ∧ v9 = (.bool x.on) ∧ v10 = (.bool x.has) ∧ v11 = (.int .i64 x.value) ∧ v12 = (.int .i64 x.low) ∧ v13 = (.int .i64 x.high) ∧ v14 = (.int .u8 x.assoc) ∧ Fine x := by
  have cs1 : Tryz.prog.cellsOf 9 = 1 := by kernel_rfl
  have cu1 : Tryz.prog.cellsOf 5 = 1 := by kernel_rfl
  have ci1 : Tryz.prog.cellsOf 2 = 1 := by kernel_rfl
  have cb1 : Tryz.prog.cellsOf 4 = 1 := by kernel_rfl
  obtain ⟨ys, n2, _, _, _, hyl, hel⟩ := DataW.trod_struct Tryz.underlying45 h2
  have hl2 : ys.length = 14 := hyl
  have g1 : DataW.trod enc Tryz.prog W 0 spare held n2 9 [v1] = some (ys[0]'(by omega)) := by
    have := (hel 0 _ rfl).trans (List.getElem?_eq_getElem (by omega)); simpa [cs1, cu1, ci1, cb1] using this
  obtain ⟨x0, e1, -, q0⟩ := DataW.trod_string Tryz.underlying9 g1
  obtain rfl := (List.cons.inj e1).1
  have g2 : DataW.trod enc Tryz.prog W 0 spare held n2 5 [v2] = some (ys[1]'(by omega)) := by
    have := (hel 1 _ rfl).trans (List.getElem?_eq_getElem (by omega)); simpa [cs1, cu1, ci1, cb1] using this
  obtain ⟨x1, e2, -, q1⟩ := DataW.trod_int Tryz.underlying5 g2
  obtain rfl := (List.cons.inj e2).1
  obtain ⟨n1', rfl, b1'⟩ := u8_open q1
  have g3 : DataW.trod enc Tryz.prog W 0 spare held n2 9 [v3] = some (ys[2]'(by omega)) := by
    have := (hel 2 _ rfl).trans (List.getElem?_eq_getElem (by omega)); simpa [cs1, cu1, ci1, cb1] using this
  obtain ⟨x2, e3, -, q2⟩ := DataW.trod_string Tryz.underlying9 g3
  obtain rfl := (List.cons.inj e3).1
  have g4 : DataW.trod enc Tryz.prog W 0 spare held n2 5 [v4] = some (ys[3]'(by omega)) := by
    have := (hel 3 _ rfl).trans (List.getElem?_eq_getElem (by omega)); simpa [cs1, cu1, ci1, cb1] using this
  obtain ⟨x3, e4, -, q3⟩ := DataW.trod_int Tryz.underlying5 g4
  obtain rfl := (List.cons.inj e4).1
  obtain ⟨n3', rfl, b3'⟩ := u8_open q3
  have g5 : DataW.trod enc Tryz.prog W 0 spare held n2 9 [v5] = some (ys[4]'(by omega)) := by
    have := (hel 4 _ rfl).trans (List.getElem?_eq_getElem (by omega)); simpa [cs1, cu1, ci1, cb1] using this
  obtain ⟨x4, e5, -, q4⟩ := DataW.trod_string Tryz.underlying9 g5
  obtain rfl := (List.cons.inj e5).1
  have g6 : DataW.trod enc Tryz.prog W 0 spare held n2 2 [v6] = some (ys[5]'(by omega)) := by
    have := (hel 5 _ rfl).trans (List.getElem?_eq_getElem (by omega)); simpa [cs1, cu1, ci1, cb1] using this
  obtain ⟨x5, e6, -, q5⟩ := DataW.trod_int Tryz.underlying2 g6
  obtain rfl := (List.cons.inj e6).1
  have b5' := i64_open q5
  have g7 : DataW.trod enc Tryz.prog W 0 spare held n2 2 [v7] = some (ys[6]'(by omega)) := by
    have := (hel 6 _ rfl).trans (List.getElem?_eq_getElem (by omega)); simpa [cs1, cu1, ci1, cb1] using this
  obtain ⟨x6, e7, -, q6⟩ := DataW.trod_int Tryz.underlying2 g7
  obtain rfl := (List.cons.inj e7).1
  have b6' := i64_open q6
  have g8 : DataW.trod enc Tryz.prog W 0 spare held n2 5 [v8] = some (ys[7]'(by omega)) := by
    have := (hel 7 _ rfl).trans (List.getElem?_eq_getElem (by omega)); simpa [cs1, cu1, ci1, cb1] using this
  obtain ⟨x7, e8, -, q7⟩ := DataW.trod_int Tryz.underlying5 g8
  obtain rfl := (List.cons.inj e8).1
  obtain ⟨n7', rfl, b7'⟩ := u8_open q7
  have g9 : DataW.trod enc Tryz.prog W 0 spare held n2 4 [v9] = some (ys[8]'(by omega)) := by
    have := (hel 8 _ rfl).trans (List.getElem?_eq_getElem (by omega)); simpa [cs1, cu1, ci1, cb1] using this
  obtain ⟨x8, e9, -⟩ := DataW.trod_bool Tryz.underlying4 g9
  obtain rfl := (List.cons.inj e9).1
  have g10 : DataW.trod enc Tryz.prog W 0 spare held n2 4 [v10] = some (ys[9]'(by omega)) := by
    have := (hel 9 _ rfl).trans (List.getElem?_eq_getElem (by omega)); simpa [cs1, cu1, ci1, cb1] using this
  obtain ⟨x9, e10, -⟩ := DataW.trod_bool Tryz.underlying4 g10
  obtain rfl := (List.cons.inj e10).1
  have g11 : DataW.trod enc Tryz.prog W 0 spare held n2 2 [v11] = some (ys[10]'(by omega)) := by
    have := (hel 10 _ rfl).trans (List.getElem?_eq_getElem (by omega)); simpa [cs1, cu1, ci1, cb1] using this
  obtain ⟨x10, e11, -, q10⟩ := DataW.trod_int Tryz.underlying2 g11
  obtain rfl := (List.cons.inj e11).1
  have b10' := i64_open q10
  have g12 : DataW.trod enc Tryz.prog W 0 spare held n2 2 [v12] = some (ys[11]'(by omega)) := by
    have := (hel 11 _ rfl).trans (List.getElem?_eq_getElem (by omega)); simpa [cs1, cu1, ci1, cb1] using this
  obtain ⟨x11, e12, -, q11⟩ := DataW.trod_int Tryz.underlying2 g12
  obtain rfl := (List.cons.inj e12).1
  have b11' := i64_open q11
  have g13 : DataW.trod enc Tryz.prog W 0 spare held n2 2 [v13] = some (ys[12]'(by omega)) := by
    have := (hel 12 _ rfl).trans (List.getElem?_eq_getElem (by omega)); simpa [cs1, cu1, ci1, cb1] using this
  obtain ⟨x12, e13, -, q12⟩ := DataW.trod_int Tryz.underlying2 g13
  obtain rfl := (List.cons.inj e13).1
  have b12' := i64_open q12
  have g14 : DataW.trod enc Tryz.prog W 0 spare held n2 5 [v14] = some (ys[13]'(by omega)) := by
    have := (hel 13 _ rfl).trans (List.getElem?_eq_getElem (by omega)); simpa [cs1, cu1, ci1, cb1] using this
  obtain ⟨x13, e14, -, q13⟩ := DataW.trod_int Tryz.underlying5 g14
  obtain rfl := (List.cons.inj e14).1
  obtain ⟨n13', rfl, b13'⟩ := u8_open q13
  exact ⟨⟨x0, n1', x2, n3', x4, x5, x6, n7', x8, x9, x10, x11, x12, n13'⟩, rfl, rfl, rfl, rfl, rfl, rfl, rfl, rfl, rfl, rfl, rfl, rfl, rfl, rfl, ⟨q0, b1', q2, b3', q4, b5', b6', b7', b10', b11', b12', b13'⟩⟩
theorem open_obs {H : Type} {enc : TypeId × Value → H} {W : World} {b0 : Nat} {spare : Nat → Bool} {held : Bool} {v : Value} {d : DataW H} {p : List MemPlace}
    (hv : Value.okWide Tryz.prog W .any b0 23 v) (h : DataW.Trod enc Tryz.prog W 0 spare held 23 v d p) :
    ∃ (A : Option Addr) (l : List Ob) (c : Nat), v = .slice A l.length c ∧ IX.RdK WX.obK W W.heap.size A l ∧ (∀ x ∈ l, Fine x) ∧ l.length ≤ maxLen ∧ l.length ≤ c := by
  obtain ⟨a1, len, cap, rfl⟩ := okWide_slice Tryz.underlying23 hv
  obtain ⟨fuel, hf⟩ := h
  rcases Go.Deep.open_slice Tryz.underlying23 hf with ⟨hcs, _⟩ | ⟨a, len', cap', m, n, D, Pl, hcs, _, hl, hm, hmm, _, hc⟩
  · simp [Value.cells] at hcs
    obtain ⟨rfl, rfl, rfl⟩ := hcs
    exact ⟨none, [], 0, rfl, .inl rfl, fun _ h => (by cases h), Nat.zero_le _, Nat.zero_le _⟩
  · simp [Value.cells] at hcs
    obtain ⟨rfl, rfl, rfl⟩ := hcs
    have hlm : len ≤ m := by rw [hmm]; split <;> omega
    have ce : Tryz.prog.cellsOf 45 = 14 := by kernel_rfl
    have hex : ∀ i, i < m → ∃ x : Ob, (∀ j u, (WX.obK.enc x)[j]? = some u → W.cell? (a.add (i * 14 + j)) = some u) ∧ Fine x := by
      intro i hi
      obtain ⟨cs', h1, h2⟩ := hc i hi
      rw [ce] at h1
      obtain ⟨_, hlen, hcell⟩ := World.cells?_some h1
      match cs', hlen, h2, hcell with
      | [v1, v2, v3, v4, v5, v6, v7, v8, v9, v10, v11, v12, v13, v14], _, h2, hcell =>
        obtain ⟨x, rfl, rfl, rfl, rfl, rfl, rfl, rfl, rfl, rfl, rfl, rfl, rfl, rfl, rfl, hp⟩ := open_ob1 h2
        refine ⟨x, fun j u hu => ?_, hp⟩
        have hj : j < 14 := by have := (List.getElem?_eq_some_iff.1 hu).1; rwa [WX.obK.len] at this
        have q := hcell j hj
        rw [Go.Deep.add_add] at q
        rw [q]
        exact hu
    have hch : ∃ f : Nat → Ob, ∀ i, i < m → (∀ j u, (WX.obK.enc (f i))[j]? = some u → W.cell? (a.add (i * 14 + j)) = some u) ∧ Fine (f i) :=
      ⟨fun i => if h : i < m then Classical.choose (hex i h) else zeroOb, fun i hi => by simp only [hi, dif_pos]; exact Classical.choose_spec (hex i hi)⟩
    obtain ⟨f, hf2⟩ := hch
    refine ⟨some a, (List.range len).map f, cap, by simp, ?_, fun x hx => ?_, by simp; omega, by simp; exact hl⟩
    · by_cases h0 : len = 0
      · subst h0; exact .inl (by simp)
      · have c0 := (hf2 0 (by omega)).1 0 _ rfl
        obtain ⟨b, off, spot⟩ := a
        have hspot : spot = none := by simpa [Addr.add] using World.cell?_spot c0
        subst hspot
        refine .inr ⟨b, off, rfl, by simpa [Addr.add] using World.block_lt_of_cell? W _ c0, fun q u hu => ?_⟩
        obtain ⟨j, i, x, rfl, hx, hu2⟩ := IX.cellsK_inv WX.obK hu
        have hj : j < len := by have := (List.getElem?_eq_some_iff.1 hx).1; simpa using this
        have q0 := (hf2 j (by omega)).1 i u (by
          simp [hj] at hx
          subst hx; exact hu2)
        have hadd : ∀ k, (⟨b, off, none⟩ : Addr).add k = ⟨b, off + k, none⟩ := fun k => by unfold Addr.add; split <;> simp_all
        rw [hadd] at q0
        exact q0
    · obtain ⟨i, hi, rfl⟩ := List.mem_map.1 hx
      have := List.mem_range.1 hi
      exact (hf2 i (by omega)).2
end Go.Proofs.YtkgjgbenfpkekaaGreat
/-
  Bytes, things, a thing that came in as an argument.
-/
namespace Go.Proofs.YtkgjgbenfpkekaaGreat
open Go.ChangeShapes Go.WideShapes Go.ChangeAt Go.RowKit Go.Joins
open IX (RdK)
set_option maxRecDepth 100000
set_option linter.unusedVariables false

theorem cells_u8_ : Tryz.prog.cellsOf 5 = 1 := by kernel_rfl
theorem u8_of {x : Int} (h : (Lit.int .u8 x).wf = true) : ∃ b : UInt8, x = (b.toNat : Int) := by
  simp [Lit.wf, show IntKind.u8.min = 0 from rfl, show IntKind.u8.max = 255 from rfl] at h
  exact ⟨UInt8.ofNat x.toNat, by rw [YX.u8n (by omega)]; omega⟩
theorem u64_of {x : Int} (h : (Lit.int .u64 x).wf = true) : ∃ n : Nat, x = (n : Int) ∧ n < 18446744073709551616 := by
  simp [Lit.wf, show IntKind.u64.min = 0 from rfl, show IntKind.u64.max = 18446744073709551615 from rfl] at h
  exact ⟨x.toNat, by omega, by omega⟩
theorem open_bytes {H : Type} {enc : TypeId × Value → H} {W : World} {b0 : Nat} {spare : Nat → Bool} {held : Bool} {v : Value} {d : DataW H} {p : List MemPlace}
    (hv : Value.okWide Tryz.prog W .any b0 22 v) (h : DataW.Trod enc Tryz.prog W 0 spare held 22 v d p) :
    ∃ (A : Option Addr) (l : YX.Bs) (c : Nat), v = .slice A l.length c ∧ RdK YX.u8K W W.heap.size A l ∧ l.length ≤ maxLen ∧ l.length ≤ c ∧ (A = none → c = 0) := by
  obtain ⟨a1, len, cap, rfl⟩ := okWide_slice Tryz.underlying22 hv
  obtain ⟨fuel, hf⟩ := h
  rcases open_ints Tryz.underlying22 Tryz.underlying5 cells_u8_ hf with ⟨hcs, _⟩ | ⟨a, len', cap', zs, hcs, _, hl, hm, hz, _, hcell, hwz⟩
  · simp [Value.cells] at hcs
    obtain ⟨rfl, rfl, rfl⟩ := hcs
    exact ⟨none, [], 0, rfl, .inl rfl, Nat.zero_le _, Nat.zero_le _, fun _ => rfl⟩
  · simp [Value.cells] at hcs
    obtain ⟨rfl, rfl, rfl⟩ := hcs
    have hzl : len ≤ zs.length := by rw [hz]; split <;> omega
    have hlen : ((zs.take len).map fun z => UInt8.ofNat z.toNat).length = len := by simp; omega
    refine ⟨some a, (zs.take len).map fun z => UInt8.ofNat z.toNat, cap, by rw [hlen], YX.rdY_back ?_, by rw [hlen]; omega, by rw [hlen]; exact hl, fun q => (by cases q)⟩
    by_cases h0 : len = 0
    · subst h0; exact .inl (by simp)
    · have c0 := hcell 0 (by omega)
      obtain ⟨b, off, spot⟩ := a
      have hspot : spot = none := by simpa [Addr.add] using World.cell?_spot c0
      subst hspot
      refine .inr ⟨b, off, rfl, by simpa [Addr.add] using World.block_lt_of_cell? W _ c0, fun j x hx => ?_⟩
      have hj : j < len := by
        have := (List.getElem?_eq_some_iff.1 hx).1
        rw [hlen] at this; exact this
      have hc := hcell j (by omega)
      have hadd : (⟨b, off, none⟩ : Addr).add j = ⟨b, off + j, none⟩ := by unfold Addr.add; split <;> simp_all
      rw [hadd] at hc
      rw [hc]
      have hj2 : j < zs.length := by omega
      rw [List.getElem?_map, List.getElem?_take, if_pos hj, List.getElem?_eq_getElem hj2] at hx
      simp only [Option.map_some, Option.some.injEq] at hx
      rw [List.getD_eq_getElem?_getD, List.getElem?_eq_getElem hj2, ← hx]
      obtain ⟨y, e⟩ := u8_of (hwz _ (List.getElem_mem hj2))
      simp [e]
end Go.Proofs.YtkgjgbenfpkekaaGreat
