/-
  Rows of acts of the ring's laws: a kind of element of 20 cells; one that came in as an argument; []ring rows of puts.
-/
import Derived.Test.YtecdcfmbhphagaaBAwake
import Derived.Test.YtecdcfmbhphagaaOOpen
import Derived.Deep.SlicePairs
import Derived.OpenShut
import Derived.ProofKit
namespace Go.Proofs.Ytecdcfmbhphagaa
open Go.ChangeShapes Go.WideShapes Go.ChangeAt Go.RowKit
set_option maxRecDepth 100000
set_option linter.unusedVariables false

namespace BX
structure Act where
  v : Int
  e : En
  c : Bool
abbrev actC (x : Act) : Array Value := #[.int .i64 x.v, .string x.e.handle, .bool x.e.there, .string x.e.o.handle, .int .u8 x.e.o.kind, .string x.e.o.parent, .int .u8 x.e.o.typ, .string x.e.o.ref, .int .i64 x.e.o.lo, .int .i64 x.e.o.hi, .int .u8 x.e.o.digits, .bool x.e.o.on, .bool x.e.o.has, .int .i64 x.e.o.value, .int .i64 x.e.o.low, .int .i64 x.e.o.high, .int .u8 x.e.o.assoc, .int .i64 x.e.desc, .int .i64 x.e.state, .bool x.c]
noncomputable def actK : IX.El Act where
  T := 22
  e := 37
  size := 20
  bytes := (IX.infoOf 37).bytes
  z := .agg #[.int .i64 0, .string ⟨#[]⟩, .bool false, .string ⟨#[]⟩, .int .u8 0, .string ⟨#[]⟩, .int .u8 0, .string ⟨#[]⟩, .int .i64 0, .int .i64 0, .int .u8 0, .bool false, .bool false, .int .i64 0, .int .i64 0, .int .i64 0, .int .u8 0, .int .i64 0, .int .i64 0, .bool false]
  i := IX.infoOf 37
  enc := fun x => (actC x).toList
  el := by kernel_rfl
  ht := Try.underlying22
  hi := by kernel_rfl
  hz := by kernel_rfl
  hs := by kernel_rfl
  hb := rfl
  hzs := rfl
  pos := by decide
  len := fun _ => rfl
  one := fun _ u hu => by simp at hu; rcases hu with rfl | rfl | rfl | rfl | rfl | rfl | rfl | rfl | rfl | rfl | rfl | rfl | rfl | rfl | rfl | rfl | rfl | rfl | rfl | rfl <;> rfl
  small := of_decide_eq_true (by kernel_rfl)
/-- What the walk reads of the j-th act. -/
theorem acts_at {w : World} {B : Nat} {A : Option Addr} {l : List Act} (h : IX.RdK actK w B A l) (h0 : 0 < l.length) : ∃ b off, A = some ⟨b, off, none⟩ ∧ b < B ∧ ∀ j x, l[j]? = some x → w.cell? ⟨b, off + j * 20, none⟩ = some (.int .i64 x.v) ∧ w.rangeAt b (off + j * 20 + 1) (enC x.e).toList ∧ w.cell? ⟨b, off + j * 20 + 19, none⟩ = some (.bool x.c) := by
  rcases h with rfl | ⟨b, off, e, hb, hc⟩
  · simp at h0
  · refine ⟨b, off, e, hb, fun j x hx => ?_⟩
    have q : ∀ (i : Nat) (u : Value), (actC x)[i]? = some u → w.cell? ⟨b, off + j * 20 + i, none⟩ = some u := fun i u hu => by
      have := hc _ _ (IX.cellsK_at actK hx (i := i) (u := u) (by rw [← hu]; exact Array.getElem?_toList))
      rw [Nat.add_assoc]; exact this
    refine ⟨q 0 _ rfl, fun i v hv => ?_, q 19 _ rfl⟩
    have hi : i < 18 := by have := (List.getElem?_eq_some_iff.1 hv).1; simpa using this
    have e2 : (actC x).toList = [.int .i64 x.v] ++ ((enC x.e).toList ++ [.bool x.c]) := rfl
    have := q (1 + i) v (by rw [← Array.getElem?_toList, e2, List.getElem?_append_right (by simp), List.getElem?_append_left (by simp; omega), ← hv]; congr 1; simp)
    rw [Nat.add_assoc]; exact this
end BX
def InE (x : BX.En) : Prop := (x.handle.size ≤ maxLen) ∧ Fine x.o ∧ (-9223372036854775808 ≤ x.desc ∧ x.desc ≤ 9223372036854775807) ∧ (-9223372036854775808 ≤ x.state ∧ x.state ≤ 9223372036854775807)
set_option maxHeartbeats 4000000 in
theorem open_en1 {H : Type} {enc : TypeId × Value → H} {W : World} {spare : Nat → Bool} {held : Bool} {n : Nat} {y : DataW H × List MemPlace} {v0 v1 v2 v3 v4 v5 v6 v7 v8 v9 v10 v11 v12 v13 v14 v15 v16 v17 : Value}
    (h2 : DataW.trod enc Try.prog W 0 spare held n 35 [v0, v1, v2, v3, v4, v5, v6, v7, v8, v9, v10, v11, v12, v13, v14, v15, v16, v17] = some y) :
    ∃ x : BX.En, v0 = (.string x.handle) ∧ v1 = (.bool x.there) ∧ v2 = (.string x.o.handle) ∧ v3 = (.int .u8 x.o.kind) ∧ v4 = (.string x.o.parent) ∧ v5 = (.int .u8 x.o.typ) ∧ v6 = (.string x.o.ref) ∧ v7 = (.int .i64 x.o.lo) ∧ v8 = (.int .i64 x.o.hi) ∧ v9 = (.int .u8 x.o.digits) ∧ v10 = (.bool x.o.on) ∧ v11 = (.bool x.o.has) ∧ v12 = (.int .i64 x.o.value) ∧ v13 = (.int .i64 x.o.low) ∧ v14 = (.int .i64 x.o.high) ∧ v15 = (.int .u8 x.o.assoc) ∧ v16 = (.int .i64 x.desc) ∧ v17 = (.int .i64 x.state) ∧ InE x := by
  obtain ⟨xs, k, _, _, _, hxl, hf⟩ := DataW.trod_struct Try.underlying35 h2
  have hl : xs.length = 4 := hxl
  have cs1 : Try.prog.cellsOf 9 = 1 := by kernel_rfl
  have cu1 : Try.prog.cellsOf 5 = 1 := by kernel_rfl
  have ci1 : Try.prog.cellsOf 2 = 1 := by kernel_rfl
  have cn1 : Try.prog.cellsOf 3 = 1 := by kernel_rfl
  have cb1 : Try.prog.cellsOf 4 = 1 := by kernel_rfl
  have co1 : Try.prog.cellsOf 31 = 14 := by kernel_rfl
  have ct1 : Try.prog.cellsOf 33 = 2 := by kernel_rfl
  have k0 : DataW.trod enc Try.prog W 0 spare held k 9 [v0] = some (xs[0]'(by omega)) := by
    have := (hf 0 _ rfl).trans (List.getElem?_eq_getElem (by omega)); simpa [cs1, cb1, co1, ct1] using this
  have k1 : DataW.trod enc Try.prog W 0 spare held k 4 [v1] = some (xs[1]'(by omega)) := by
    have := (hf 1 _ rfl).trans (List.getElem?_eq_getElem (by omega)); simpa [cs1, cb1, co1, ct1] using this
  have gO : DataW.trod enc Try.prog W 0 spare held k 31 [v2, v3, v4, v5, v6, v7, v8, v9, v10, v11, v12, v13, v14, v15] = some (xs[2]'(by omega)) := by
    have := (hf 2 _ rfl).trans (List.getElem?_eq_getElem (by omega)); simpa [cs1, cb1, co1, ct1] using this
  have gS : DataW.trod enc Try.prog W 0 spare held k 33 [v16, v17] = some (xs[3]'(by omega)) := by
    have := (hf 3 _ rfl).trans (List.getElem?_eq_getElem (by omega)); simpa [cs1, cb1, co1, ct1] using this
  obtain ⟨z0, f0, -, r0⟩ := DataW.trod_string Try.underlying9 k0
  obtain rfl := (List.cons.inj f0).1
  obtain ⟨z1, f1, -⟩ := DataW.trod_bool Try.underlying4 k1
  obtain rfl := (List.cons.inj f1).1
  obtain ⟨zs, n3, _, _, _, hzl, hzs⟩ := DataW.trod_struct Try.underlying33 gS
  have hl3 : zs.length = 2 := hzl
  have k16 : DataW.trod enc Try.prog W 0 spare held n3 3 [v16] = some (zs[0]'(by omega)) := by
    have := (hzs 0 _ rfl).trans (List.getElem?_eq_getElem (by omega)); simpa [cn1] using this
  have k17 : DataW.trod enc Try.prog W 0 spare held n3 3 [v17] = some (zs[1]'(by omega)) := by
    have := (hzs 1 _ rfl).trans (List.getElem?_eq_getElem (by omega)); simpa [cn1] using this
  obtain ⟨z16, f16, -, r16⟩ := DataW.trod_int Try.underlying3 k16
  obtain rfl := (List.cons.inj f16).1
  have r16' := i64_open r16
  obtain ⟨z17, f17, -, r17⟩ := DataW.trod_int Try.underlying3 k17
  obtain rfl := (List.cons.inj f17).1
  have r17' := i64_open r17
  obtain ⟨ys, n2, _, _, _, hyl, hel⟩ := DataW.trod_struct Try.underlying31 gO
  have hl2 : ys.length = 14 := hyl
  have g1 : DataW.trod enc Try.prog W 0 spare held n2 9 [v2] = some (ys[0]'(by omega)) := by
    have := (hel 0 _ rfl).trans (List.getElem?_eq_getElem (by omega)); simpa [cs1, cu1, ci1, cb1] using this
  obtain ⟨x0, e1, -, q0⟩ := DataW.trod_string Try.underlying9 g1
  obtain rfl := (List.cons.inj e1).1
  have g2 : DataW.trod enc Try.prog W 0 spare held n2 5 [v3] = some (ys[1]'(by omega)) := by
    have := (hel 1 _ rfl).trans (List.getElem?_eq_getElem (by omega)); simpa [cs1, cu1, ci1, cb1] using this
  obtain ⟨x1, e2, -, q1⟩ := DataW.trod_int Try.underlying5 g2
  obtain rfl := (List.cons.inj e2).1
  obtain ⟨n1', rfl, b1'⟩ := u8_open q1
  have g3 : DataW.trod enc Try.prog W 0 spare held n2 9 [v4] = some (ys[2]'(by omega)) := by
    have := (hel 2 _ rfl).trans (List.getElem?_eq_getElem (by omega)); simpa [cs1, cu1, ci1, cb1] using this
  obtain ⟨x2, e3, -, q2⟩ := DataW.trod_string Try.underlying9 g3
  obtain rfl := (List.cons.inj e3).1
  have g4 : DataW.trod enc Try.prog W 0 spare held n2 5 [v5] = some (ys[3]'(by omega)) := by
    have := (hel 3 _ rfl).trans (List.getElem?_eq_getElem (by omega)); simpa [cs1, cu1, ci1, cb1] using this
  obtain ⟨x3, e4, -, q3⟩ := DataW.trod_int Try.underlying5 g4
  obtain rfl := (List.cons.inj e4).1
  obtain ⟨n3', rfl, b3'⟩ := u8_open q3
  have g5 : DataW.trod enc Try.prog W 0 spare held n2 9 [v6] = some (ys[4]'(by omega)) := by
    have := (hel 4 _ rfl).trans (List.getElem?_eq_getElem (by omega)); simpa [cs1, cu1, ci1, cb1] using this
  obtain ⟨x4, e5, -, q4⟩ := DataW.trod_string Try.underlying9 g5
  obtain rfl := (List.cons.inj e5).1
  have g6 : DataW.trod enc Try.prog W 0 spare held n2 2 [v7] = some (ys[5]'(by omega)) := by
    have := (hel 5 _ rfl).trans (List.getElem?_eq_getElem (by omega)); simpa [cs1, cu1, ci1, cb1] using this
  obtain ⟨x5, e6, -, q5⟩ := DataW.trod_int Try.underlying2 g6
  obtain rfl := (List.cons.inj e6).1
  have b5' := i64_open q5
  have g7 : DataW.trod enc Try.prog W 0 spare held n2 2 [v8] = some (ys[6]'(by omega)) := by
    have := (hel 6 _ rfl).trans (List.getElem?_eq_getElem (by omega)); simpa [cs1, cu1, ci1, cb1] using this
  obtain ⟨x6, e7, -, q6⟩ := DataW.trod_int Try.underlying2 g7
  obtain rfl := (List.cons.inj e7).1
  have b6' := i64_open q6
  have g8 : DataW.trod enc Try.prog W 0 spare held n2 5 [v9] = some (ys[7]'(by omega)) := by
    have := (hel 7 _ rfl).trans (List.getElem?_eq_getElem (by omega)); simpa [cs1, cu1, ci1, cb1] using this
  obtain ⟨x7, e8, -, q7⟩ := DataW.trod_int Try.underlying5 g8
  obtain rfl := (List.cons.inj e8).1
  obtain ⟨n7', rfl, b7'⟩ := u8_open q7
  have g9 : DataW.trod enc Try.prog W 0 spare held n2 4 [v10] = some (ys[8]'(by omega)) := by
    have := (hel 8 _ rfl).trans (List.getElem?_eq_getElem (by omega)); simpa [cs1, cu1, ci1, cb1] using this
  obtain ⟨x8, e9, -⟩ := DataW.trod_bool Try.underlying4 g9
  obtain rfl := (List.cons.inj e9).1
  have g10 : DataW.trod enc Try.prog W 0 spare held n2 4 [v11] = some (ys[9]'(by omega)) := by
    have := (hel 9 _ rfl).trans (List.getElem?_eq_getElem (by omega)); simpa [cs1, cu1, ci1, cb1] using this
  obtain ⟨x9, e10, -⟩ := DataW.trod_bool Try.underlying4 g10
  obtain rfl := (List.cons.inj e10).1
  have g11 : DataW.trod enc Try.prog W 0 spare held n2 2 [v12] = some (ys[10]'(by omega)) := by
    have := (hel 10 _ rfl).trans (List.getElem?_eq_getElem (by omega)); simpa [cs1, cu1, ci1, cb1] using this
  obtain ⟨x10, e11, -, q10⟩ := DataW.trod_int Try.underlying2 g11
  obtain rfl := (List.cons.inj e11).1
  have b10' := i64_open q10
  have g12 : DataW.trod enc Try.prog W 0 spare held n2 2 [v13] = some (ys[11]'(by omega)) := by
    have := (hel 11 _ rfl).trans (List.getElem?_eq_getElem (by omega)); simpa [cs1, cu1, ci1, cb1] using this
  obtain ⟨x11, e12, -, q11⟩ := DataW.trod_int Try.underlying2 g12
  obtain rfl := (List.cons.inj e12).1
  have b11' := i64_open q11
  have g13 : DataW.trod enc Try.prog W 0 spare held n2 2 [v14] = some (ys[12]'(by omega)) := by
    have := (hel 12 _ rfl).trans (List.getElem?_eq_getElem (by omega)); simpa [cs1, cu1, ci1, cb1] using this
  obtain ⟨x12, e13, -, q12⟩ := DataW.trod_int Try.underlying2 g13
  obtain rfl := (List.cons.inj e13).1
  have b12' := i64_open q12
  have g14 : DataW.trod enc Try.prog W 0 spare held n2 5 [v15] = some (ys[13]'(by omega)) := by
    have := (hel 13 _ rfl).trans (List.getElem?_eq_getElem (by omega)); simpa [cs1, cu1, ci1, cb1] using this
  obtain ⟨x13, e14, -, q13⟩ := DataW.trod_int Try.underlying5 g14
  obtain rfl := (List.cons.inj e14).1
  obtain ⟨n13', rfl, b13'⟩ := u8_open q13
  exact ⟨⟨z0, z1, ⟨x0, n1', x2, n3', x4, x5, x6, n7', x8, x9, x10, x11, x12, n13'⟩, z16, z17⟩, rfl, rfl, rfl, rfl, rfl, rfl, rfl, rfl, rfl, rfl, rfl, rfl, rfl, rfl, rfl, rfl, rfl, rfl, r0, ⟨q0, b1', q2, b3', q4, b5', b6', b7', b10', b11', b12', b13'⟩, r16', r17'⟩
theorem open_act1 {H : Type} {enc : TypeId × Value → H} {W : World} {spare : Nat → Bool} {held : Bool} {n : Nat} {y : DataW H × List MemPlace} {v0 v1 v2 v3 v4 v5 v6 v7 v8 v9 v10 v11 v12 v13 v14 v15 v16 v17 v18 v19 : Value}
    (h2 : DataW.trod enc Try.prog W 0 spare held n 37 [v0, v1, v2, v3, v4, v5, v6, v7, v8, v9, v10, v11, v12, v13, v14, v15, v16, v17, v18, v19] = some y) :
    ∃ x : BX.Act, [v0, v1, v2, v3, v4, v5, v6, v7, v8, v9, v10, v11, v12, v13, v14, v15, v16, v17, v18, v19] = (BX.actC x).toList ∧ (-9223372036854775808 ≤ x.v ∧ x.v ≤ 9223372036854775807) ∧ InE x.e := by
  obtain ⟨xs, k, _, _, _, hxl, hf⟩ := DataW.trod_struct Try.underlying37 h2
  have hl : xs.length = 3 := hxl
  have cn1 : Try.prog.cellsOf 3 = 1 := by kernel_rfl
  have cb1 : Try.prog.cellsOf 4 = 1 := by kernel_rfl
  have ce1 : Try.prog.cellsOf 35 = 18 := by kernel_rfl
  have k0 : DataW.trod enc Try.prog W 0 spare held k 3 [v0] = some (xs[0]'(by omega)) := by
    have := (hf 0 _ rfl).trans (List.getElem?_eq_getElem (by omega)); simpa [cn1, cb1, ce1] using this
  have k1 : DataW.trod enc Try.prog W 0 spare held k 35 [v1, v2, v3, v4, v5, v6, v7, v8, v9, v10, v11, v12, v13, v14, v15, v16, v17, v18] = some (xs[1]'(by omega)) := by
    have := (hf 1 _ rfl).trans (List.getElem?_eq_getElem (by omega)); simpa [cn1, cb1, ce1] using this
  have k2 : DataW.trod enc Try.prog W 0 spare held k 4 [v19] = some (xs[2]'(by omega)) := by
    have := (hf 2 _ rfl).trans (List.getElem?_eq_getElem (by omega)); simpa [cn1, cb1, ce1] using this
  obtain ⟨z0, f0, -, r0⟩ := DataW.trod_int Try.underlying3 k0
  obtain rfl := (List.cons.inj f0).1
  have r0' := i64_open r0
  obtain ⟨e, rfl, rfl, rfl, rfl, rfl, rfl, rfl, rfl, rfl, rfl, rfl, rfl, rfl, rfl, rfl, rfl, rfl, rfl, hp⟩ := open_en1 k1
  obtain ⟨z2, f2, -⟩ := DataW.trod_bool Try.underlying4 k2
  obtain rfl := (List.cons.inj f2).1
  exact ⟨⟨z0, e, z2⟩, rfl, r0', hp⟩
theorem open_acts16 {H : Type} {enc : TypeId × Value → H} {W : World} {b0 : Nat} {spare : Nat → Bool} {held : Bool} {v : Value} {d : DataW H} {p : List MemPlace}
    (hv : Value.okWide Try.prog W .any b0 22 v) (h : DataW.Trod enc Try.prog W 0 spare held 22 v d p) :
    ∃ (A : Option Addr) (l : List BX.Act) (c : Nat), v = .slice A l.length c ∧ IX.RdK BX.actK W W.heap.size A l ∧ (∀ x ∈ l, (-9223372036854775808 ≤ x.v ∧ x.v ≤ 9223372036854775807) ∧ InE x.e) ∧ l.length ≤ maxLen ∧ l.length ≤ c := by
  obtain ⟨a1, len, cap, rfl⟩ := okWide_slice Try.underlying22 hv
  obtain ⟨fuel, hf⟩ := h
  rcases Go.Deep.open_slice Try.underlying22 hf with ⟨hcs, _⟩ | ⟨a, len', cap', m, n, D, Pl, hcs, _, hl, hm, hmm, _, hc⟩
  · simp [Value.cells] at hcs
    obtain ⟨rfl, rfl, rfl⟩ := hcs
    exact ⟨none, [], 0, rfl, .inl rfl, fun _ h => (by cases h), Nat.zero_le _, Nat.zero_le _⟩
  · simp [Value.cells] at hcs
    obtain ⟨rfl, rfl, rfl⟩ := hcs
    have hlm : len ≤ m := by rw [hmm]; split <;> omega
    have ce : Try.prog.cellsOf 37 = 20 := by kernel_rfl
    have hex : ∀ i, i < m → ∃ x : BX.Act, (∀ j u, (BX.actK.enc x)[j]? = some u → W.cell? (a.add (i * 20 + j)) = some u) ∧ ((-9223372036854775808 ≤ x.v ∧ x.v ≤ 9223372036854775807) ∧ InE x.e) := by
      intro i hi
      obtain ⟨cs', h1, h2⟩ := hc i hi
      rw [ce] at h1
      obtain ⟨_, hlen, hcell⟩ := World.cells?_some h1
      match cs', hlen, h2, hcell with
      | [v0, v1, v2, v3, v4, v5, v6, v7, v8, v9, v10, v11, v12, v13, v14, v15, v16, v17, v18, v19], _, h2, hcell =>
        obtain ⟨x, hx, hp⟩ := open_act1 h2
        refine ⟨x, fun j u hu => ?_, hp⟩
        have hj : j < 20 := by have := (List.getElem?_eq_some_iff.1 hu).1; rwa [BX.actK.len] at this
        have q := hcell j hj
        rw [Go.Deep.add_add] at q
        rw [q]
        have hu2 : (BX.actC x).toList[j]? = some u := hu
        rw [← hx] at hu2
        exact hu2
    have hch : ∃ f : Nat → BX.Act, ∀ i, i < m → (∀ j u, (BX.actK.enc (f i))[j]? = some u → W.cell? (a.add (i * 20 + j)) = some u) ∧ ((-9223372036854775808 ≤ (f i).v ∧ (f i).v ≤ 9223372036854775807) ∧ InE (f i).e) :=
      ⟨fun i => if h : i < m then Classical.choose (hex i h) else ⟨0, BX.zeroEn, false⟩, fun i hi => by simp only [hi, dif_pos]; exact Classical.choose_spec (hex i hi)⟩
    obtain ⟨f, hf2⟩ := hch
    refine ⟨some a, (List.range len).map f, cap, by simp, ?_, fun x hx => ?_, by simp; omega, by simp; exact hl⟩
    · by_cases h0 : len = 0
      · subst h0; exact .inl (by simp)
      · have c0 := (hf2 0 (by omega)).1 0 _ rfl
        obtain ⟨b, off, spot⟩ := a
        have hspot : spot = none := by simpa [Addr.add] using World.cell?_spot c0
        subst hspot
        refine .inr ⟨b, off, rfl, by simpa [Addr.add] using World.block_lt_of_cell? W _ c0, fun q u hu => ?_⟩
        obtain ⟨j, i, x, rfl, hx, hu2⟩ := IX.cellsK_inv BX.actK hu
        have hj : j < len := by have := (List.getElem?_eq_some_iff.1 hx).1; simpa using this
        have q0 := (hf2 j (by omega)).1 i u (by
          simp [hj] at hx
          subst hx; exact hu2)
        have hadd : ∀ k, (⟨b, off, none⟩ : Addr).add k = ⟨b, off + k, none⟩ := fun k => by unfold Addr.add; split <;> simp_all
        rw [hadd] at q0
        exact q0
    · obtain ⟨i, hi, rfl⟩ := List.mem_map.1 hx
      have := List.mem_range.1 hi
      exact (hf2 i (by omega)).2
end Go.Proofs.Ytecdcfmbhphagaa
