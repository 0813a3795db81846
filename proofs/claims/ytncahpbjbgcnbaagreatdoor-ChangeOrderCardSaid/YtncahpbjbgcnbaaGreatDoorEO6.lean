/-
  WALKS: the program's Desc, State, Bare, Only.
-/
import Derived.Test.YtncahpbjbgcnbaaGreatDoorEO2
import Derived.Test.YtncahpbjbgcnbaaGreatDoorEO0
import Derived.BigQuiet
import Derived.WideShapes
import Derived.Lib.SmallJoins
import Derived.ProofKit
import Derived.Test.YtncahpbjbgcnbaaGreatDoorEO5
import Derived.Laws.World
import Derived.Laws.ResultCell
import Derived.Test.YtncahpbjbgcnbaaGreatDoorEO4
import Derived.Laws.BitsAllLaws
import Derived.Test.YtncahpbjbgcnbaaGreatDoorEOOFits
namespace Go.Proofs.YtncahpbjbgcnbaaGreatDoor
open Go.RowKit
set_option maxRecDepth 100000
set_option linter.unusedVariables false

set_option maxHeartbeats 4000000 in
theorem desc_any (o f : Ob) (w : World) : Calls Tryz.prog 36 #[ob o, ob f] w fun e w' => e = .returned (ob (descOf o f)) ∧ Below w.heap.size w w' := by
  have hb : Below w.heap.size w w := Below.refl _ _
  go_enter Tryz.func36, Tryz.ntmps36
  go_wp2
  go_region
  go_wp2
  go_region
  go_wp2
  exact ret_ob rfl rfl rfl (AtC.drew1 (AtC.drew1 (AtC.newAt (by simp)))) ⟨rfl, (bAl (bAl (bAl hb _) _) _).drew.drew⟩
theorem state_any (o f : Ob) (w : World) : Calls Tryz.prog 37 #[ob o, ob f] w fun e w' => e = .returned (ob (stateOf o f)) ∧ Below w.heap.size w w' := by
  have hb : Below w.heap.size w w := Below.refl _ _
  have CD := fun W => Lib.hid (show Calls Tryz.prog 36 #[ob { f with handle := o.handle, kind := o.kind }, ob o] W fun e w' => e = .returned (ob (stateOf o f)) ∧ Below W.heap.size W w' from desc_any { f with handle := o.handle, kind := o.kind } o W)
  go_enter Tryz.func37, Tryz.ntmps37
  go_wp2
  go_region
  go_wp2_with (go_at_call 36; ((with_reducible refine (CD _).out.mono ?_); rintro e w1 ⟨rfl, k1⟩; replace hb := bThen (bDrew (bAl (bAl (bAl hb _) _) _) 1) k1; have mR := (AtC.drew1 (AtC.new _ _ _)).then k1; simp at mR; have rc := mR.c; have rf := mR.f; have rl := mR.lt))
  exact ret_ob rfl rfl rfl (AtC.fill mR rfl _ _ _ _ _ _ _ _ _ _ _ _ _ _) ⟨rfl, bFill hb (by omega) _ _ _ _ _ _ _ _ _ _ _ _ _ _⟩
theorem bare_any (o : Ob) (w : World) : Calls Tryz.prog 26 #[ob o] w fun e w' => e = .returned (ob (stateOf o zeroOb)) ∧ Below w.heap.size w w' := by
  have hb : Below w.heap.size w w := Below.refl _ _
  have C := fun W => Lib.hid (show Calls Tryz.prog 37 #[ob o, .agg #[.string ⟨#[]⟩, .int .u8 0, .string ⟨#[]⟩, .int .u8 0, .string ⟨#[]⟩, .int .i64 0, .int .i64 0, .int .u8 0, .bool false, .bool false, .int .i64 0, .int .i64 0, .int .i64 0, .int .u8 0]] W fun e w' => e = .returned (ob (stateOf o zeroOb)) ∧ Below W.heap.size W w' from state_any o zeroOb W)
  go_enter Tryz.func26, Tryz.ntmps26
  go_wp2_with (go_at_call 37; ((with_reducible refine (C _).out.mono ?_); rintro e w1 ⟨rfl, k1⟩; replace hb := bThen (bAl (bAl hb _) _) k1; have mR := (AtC.new _ _ _).then k1; simp at mR; have rc := mR.c; have rf := mR.f; have rl := mR.lt))
  exact ret_ob rfl rfl rfl (AtC.fill mR rfl _ _ _ _ _ _ _ _ _ _ _ _ _ _) ⟨rfl, bFill hb (by omega) _ _ _ _ _ _ _ _ _ _ _ _ _ _⟩
theorem only_any (o : Ob) (w : World) : Calls Tryz.prog 25 #[ob o] w fun e w' => e = .returned (ob (descOf o zeroOb)) ∧ Below w.heap.size w w' := by
  have hb : Below w.heap.size w w := Below.refl _ _
  have C := fun W => Lib.hid (show Calls Tryz.prog 36 #[ob o, .agg #[.string ⟨#[]⟩, .int .u8 0, .string ⟨#[]⟩, .int .u8 0, .string ⟨#[]⟩, .int .i64 0, .int .i64 0, .int .u8 0, .bool false, .bool false, .int .i64 0, .int .i64 0, .int .i64 0, .int .u8 0]] W fun e w' => e = .returned (ob (descOf o zeroOb)) ∧ Below W.heap.size W w' from desc_any o zeroOb W)
  go_enter Tryz.func25, Tryz.ntmps25
  go_wp2_with (go_at_call 36; ((with_reducible refine (C _).out.mono ?_); rintro e w1 ⟨rfl, k1⟩; replace hb := bThen (bAl (bAl hb _) _) k1; have mR := (AtC.new _ _ _).then k1; simp at mR; have rc := mR.c; have rf := mR.f; have rl := mR.lt))
  exact ret_ob rfl rfl rfl (AtC.fill mR rfl _ _ _ _ _ _ _ _ _ _ _ _ _ _) ⟨rfl, bFill hb (by omega) _ _ _ _ _ _ _ _ _ _ _ _ _ _⟩
end Go.Proofs.YtncahpbjbgcnbaaGreatDoor
/-
  PLAIN: a region that draws its order, whose own operations only read, and whose callees may make memory: one walk of the text's order, in the worlds that leave alone what is below.
-/
namespace Go.Proofs.YtncahpbjbgcnbaaGreatDoor.TX
open Go.RowKit
set_option maxRecDepth 100000
set_option linter.unusedVariables false
set_option linter.unusedSimpArgs false

/-- A world that leaves alone what w has. -/
structure Ext (w : World) where
  W : World
  b : Below w.heap.size w W
instance (w : World) : Nonempty (Ext w) := ⟨⟨w, Below.refl _ _⟩⟩
theorem Ext.same {w : World} : ∃ x : Ext w, w = x.W := ⟨⟨w, Below.refl _ _⟩, rfl⟩
theorem Ext.drewn {w : World} : ∃ x : Ext w, w.drew = x.W := ⟨⟨w.drew, (Below.refl _ _).drew⟩, rfl⟩
theorem wp_region_ext {P : Program} {id : Nat} {Q : Exit → Act → World → Prop} {a : Act} {w : World} {l : List Oper} (hm : P.follows .mixedOrders = true) (hB : Region.lexB .any l.toArray = true)
    (h : wpQuiet P l.toArray (fun W => ∃ x : Ext w, W = x.W) (fun a' => ∀ w', (∃ x : Ext w, w' = x.W) → Q .normal a' w') l a) : (Code.region id l.toArray true).wp P Q a w :=
  wp_region_quiet (C := fun W => ∃ x : Ext w, W = x.W) hm hB Ext.drewn (by simpa using h)
theorem ext_same {P : Program} {f : FuncId} {args : Array Value} {w : World} {x : Ext w} {v : Value} (h : Calls P f args x.W fun e w' => e = .returned v ∧ x.W = w') : Calls P f args x.W fun e w' => e = .returned v ∧ ∃ y : Ext w, w' = y.W :=
  h.mono fun _ _ ⟨he, hw⟩ => ⟨he, x, hw.symm⟩
theorem ext_below {P : Program} {f : FuncId} {args : Array Value} {w : World} {x : Ext w} {v : Value} (h : Calls P f args x.W fun e w' => e = .returned v ∧ Below x.W.heap.size x.W w') : Calls P f args x.W fun e w' => e = .returned v ∧ ∃ y : Ext w, w' = y.W :=
  h.mono fun _ _ ⟨he, hw⟩ => ⟨he, ⟨_, bThen x.b hw⟩, rfl⟩
/-- A piece of a body, by its way (path.py): 0 a sequence's left, 1 its right, 2 a block's, 3 a loop's, 4 an if's yes, 5 its no. -/
def pathC : List Nat → Code → Code
  | 0 :: l, .seq a _ => pathC l a
  | 1 :: l, .seq _ b => pathC l b
  | 2 :: l, .block _ c => pathC l c
  | 3 :: l, .loop c => pathC l c
  | 4 :: l, .cond _ a _ => pathC l a
  | 5 :: l, .cond _ _ b => pathC l b
  | _, c => c
def bodyC (f : Func) (l : List Nat) : Code := match f.body with | some c => pathC l c | none => .skip
end Go.Proofs.YtncahpbjbgcnbaaGreatDoor.TX
/-
  An object that came in as an argument: its fields, and their bounds.
-/
namespace Go.Proofs.YtncahpbjbgcnbaaGreatDoor
open Go.ChangeShapes Go.WideShapes Go.ChangeAt Go.RowKit
set_option maxRecDepth 100000
set_option linter.unusedVariables false

structure Fine (o : Ob) : Prop where
  handle : o.handle.size ≤ maxLen
  kind : o.kind ≤ 255
  parent : o.parent.size ≤ maxLen
  typ : o.typ ≤ 255
  ref : o.ref.size ≤ maxLen
  lo : -9223372036854775808 ≤ o.lo ∧ o.lo ≤ 9223372036854775807
  hi : -9223372036854775808 ≤ o.hi ∧ o.hi ≤ 9223372036854775807
  digits : o.digits ≤ 255
  value : -9223372036854775808 ≤ o.value ∧ o.value ≤ 9223372036854775807
  low : -9223372036854775808 ≤ o.low ∧ o.low ≤ 9223372036854775807
  high : -9223372036854775808 ≤ o.high ∧ o.high ≤ 9223372036854775807
  assoc : o.assoc ≤ 255
theorem u8_open {i : Int} (h : (Lit.int .u8 i).wf = true) : ∃ d : Nat, i = (d : Int) ∧ d ≤ 255 := by
  simp [Lit.wf, show IntKind.u8.min = 0 from rfl, show IntKind.u8.max = 255 from rfl] at h
  exact ⟨i.toNat, by omega, by omega⟩
theorem i64_open {i : Int} (h : (Lit.int .i64 i).wf = true) : -9223372036854775808 ≤ i ∧ i ≤ 9223372036854775807 := by
  simp [Lit.wf, show IntKind.i64.min = -9223372036854775808 from rfl, show IntKind.i64.max = 9223372036854775807 from rfl] at h
  omega
set_option maxHeartbeats 2000000 in
theorem open_ob {H : Type} {enc : TypeId × Value → H} {W : World} {r : Reach} {base b0 : Nat} {spare : Nat → Bool} {held : Bool} {v : Value} {d : DataW H} {p : List MemPlace}
    (hv : Value.okWide Tryz.prog W r b0 35 v) (h : DataW.Trod enc Tryz.prog W base spare held 35 v d p) : ∃ o : Ob, v = ob o ∧ Fine o := by
  obtain ⟨cs, rfl, hsz⟩ := okWide_struct Tryz.underlying35 hv
  have hC : Tryz.prog.cellsOf 35 = 14 := by kernel_rfl
  rw [hC] at hsz
  obtain ⟨fuel, hf⟩ := h
  obtain ⟨xs, n, _, _, _, hlen, hel⟩ := DataW.trod_struct Tryz.underlying35 hf
  have hl : xs.length = 14 := hlen
  have cs1 : Tryz.prog.cellsOf 9 = 1 := by kernel_rfl
  have cu1 : Tryz.prog.cellsOf 5 = 1 := by kernel_rfl
  have ci1 : Tryz.prog.cellsOf 2 = 1 := by kernel_rfl
  have cb1 : Tryz.prog.cellsOf 4 = 1 := by kernel_rfl
  obtain ⟨l⟩ := cs
  match l, hsz with
  | [c0, c1, c2, c3, c4, c5, c6, c7, c8, c9, c10, c11, c12, c13], _ =>
    have g0 : DataW.trod enc Tryz.prog W base spare held n 9 [c0] = some (xs[0]'(by omega)) := by
      have := (hel 0 _ rfl).trans (List.getElem?_eq_getElem (by omega)); simpa [Value.cells, cs1] using this
    obtain ⟨x0, e0, -, q0⟩ := DataW.trod_string Tryz.underlying9 g0
    obtain rfl := (List.cons.inj e0).1
    have g1 : DataW.trod enc Tryz.prog W base spare held n 5 [c1] = some (xs[1]'(by omega)) := by
      have := (hel 1 _ rfl).trans (List.getElem?_eq_getElem (by omega)); simpa [Value.cells, cu1] using this
    obtain ⟨x1, e1, -, q1⟩ := DataW.trod_int Tryz.underlying5 g1
    obtain rfl := (List.cons.inj e1).1
    obtain ⟨n1, rfl, b1⟩ := u8_open q1
    have g2 : DataW.trod enc Tryz.prog W base spare held n 9 [c2] = some (xs[2]'(by omega)) := by
      have := (hel 2 _ rfl).trans (List.getElem?_eq_getElem (by omega)); simpa [Value.cells, cs1] using this
    obtain ⟨x2, e2, -, q2⟩ := DataW.trod_string Tryz.underlying9 g2
    obtain rfl := (List.cons.inj e2).1
    have g3 : DataW.trod enc Tryz.prog W base spare held n 5 [c3] = some (xs[3]'(by omega)) := by
      have := (hel 3 _ rfl).trans (List.getElem?_eq_getElem (by omega)); simpa [Value.cells, cu1] using this
    obtain ⟨x3, e3, -, q3⟩ := DataW.trod_int Tryz.underlying5 g3
    obtain rfl := (List.cons.inj e3).1
    obtain ⟨n3, rfl, b3⟩ := u8_open q3
    have g4 : DataW.trod enc Tryz.prog W base spare held n 9 [c4] = some (xs[4]'(by omega)) := by
      have := (hel 4 _ rfl).trans (List.getElem?_eq_getElem (by omega)); simpa [Value.cells, cs1] using this
    obtain ⟨x4, e4, -, q4⟩ := DataW.trod_string Tryz.underlying9 g4
    obtain rfl := (List.cons.inj e4).1
    have g5 : DataW.trod enc Tryz.prog W base spare held n 2 [c5] = some (xs[5]'(by omega)) := by
      have := (hel 5 _ rfl).trans (List.getElem?_eq_getElem (by omega)); simpa [Value.cells, ci1] using this
    obtain ⟨x5, e5, -, q5⟩ := DataW.trod_int Tryz.underlying2 g5
    obtain rfl := (List.cons.inj e5).1
    have g6 : DataW.trod enc Tryz.prog W base spare held n 2 [c6] = some (xs[6]'(by omega)) := by
      have := (hel 6 _ rfl).trans (List.getElem?_eq_getElem (by omega)); simpa [Value.cells, ci1] using this
    obtain ⟨x6, e6, -, q6⟩ := DataW.trod_int Tryz.underlying2 g6
    obtain rfl := (List.cons.inj e6).1
    have g7 : DataW.trod enc Tryz.prog W base spare held n 5 [c7] = some (xs[7]'(by omega)) := by
      have := (hel 7 _ rfl).trans (List.getElem?_eq_getElem (by omega)); simpa [Value.cells, cu1] using this
    obtain ⟨x7, e7, -, q7⟩ := DataW.trod_int Tryz.underlying5 g7
    obtain rfl := (List.cons.inj e7).1
    obtain ⟨n7, rfl, b7⟩ := u8_open q7
    have g8 : DataW.trod enc Tryz.prog W base spare held n 4 [c8] = some (xs[8]'(by omega)) := by
      have := (hel 8 _ rfl).trans (List.getElem?_eq_getElem (by omega)); simpa [Value.cells, cb1] using this
    obtain ⟨x8, e8, -⟩ := DataW.trod_bool Tryz.underlying4 g8
    obtain rfl := (List.cons.inj e8).1
    have g9 : DataW.trod enc Tryz.prog W base spare held n 4 [c9] = some (xs[9]'(by omega)) := by
      have := (hel 9 _ rfl).trans (List.getElem?_eq_getElem (by omega)); simpa [Value.cells, cb1] using this
    obtain ⟨x9, e9, -⟩ := DataW.trod_bool Tryz.underlying4 g9
    obtain rfl := (List.cons.inj e9).1
    have g10 : DataW.trod enc Tryz.prog W base spare held n 2 [c10] = some (xs[10]'(by omega)) := by
      have := (hel 10 _ rfl).trans (List.getElem?_eq_getElem (by omega)); simpa [Value.cells, ci1] using this
    obtain ⟨x10, e10, -, q10⟩ := DataW.trod_int Tryz.underlying2 g10
    obtain rfl := (List.cons.inj e10).1
    have g11 : DataW.trod enc Tryz.prog W base spare held n 2 [c11] = some (xs[11]'(by omega)) := by
      have := (hel 11 _ rfl).trans (List.getElem?_eq_getElem (by omega)); simpa [Value.cells, ci1] using this
    obtain ⟨x11, e11, -, q11⟩ := DataW.trod_int Tryz.underlying2 g11
    obtain rfl := (List.cons.inj e11).1
    have g12 : DataW.trod enc Tryz.prog W base spare held n 2 [c12] = some (xs[12]'(by omega)) := by
      have := (hel 12 _ rfl).trans (List.getElem?_eq_getElem (by omega)); simpa [Value.cells, ci1] using this
    obtain ⟨x12, e12, -, q12⟩ := DataW.trod_int Tryz.underlying2 g12
    obtain rfl := (List.cons.inj e12).1
    have g13 : DataW.trod enc Tryz.prog W base spare held n 5 [c13] = some (xs[13]'(by omega)) := by
      have := (hel 13 _ rfl).trans (List.getElem?_eq_getElem (by omega)); simpa [Value.cells, cu1] using this
    obtain ⟨x13, e13, -, q13⟩ := DataW.trod_int Tryz.underlying5 g13
    obtain rfl := (List.cons.inj e13).1
    obtain ⟨n13, rfl, b13⟩ := u8_open q13
    exact ⟨⟨x0, n1, x2, n3, x4, x5, x6, n7, x8, x9, x10, x11, x12, n13⟩, rfl, ⟨q0, b1, q2, b3, q4, i64_open q5, i64_open q6, b7, i64_open q10, i64_open q11, i64_open q12, b13⟩⟩
end Go.Proofs.YtncahpbjbgcnbaaGreatDoor
/-
  PLAIN: structs of two integers that a call lays in its own memory, behind callees that leave what is below alone.
-/
namespace Go.Proofs.YtncahpbjbgcnbaaGreatDoor
open Go.RowKit FixMath
set_option maxRecDepth 100000
set_option linter.unusedVariables false

abbrev sp (a b : Int) : Value := .agg #[.int .i64 a, .int .i64 b]
/-- Block B, older than what W makes next, holds these two numbers. -/
structure At2 (W : World) (B : Nat) (a b : Int) : Prop where
  lt : B < W.heap.size
  c0 : W.cell? ⟨B, 0, none⟩ = some (.int .i64 a)
  c1 : W.cell? ⟨B, 1, none⟩ = some (.int .i64 b)
  f0 : W.frozen? ⟨B, 0, none⟩ = false
  f1 : W.frozen? ⟨B, 1, none⟩ = false
theorem At2.new (w : World) (a b : Int) (T : TypeId) : At2 (w.alloc (.cells #[.int .i64 a, .int .i64 b] T)) w.heap.size a b :=
  ⟨by simp, by rw [World.cell?_alloc_at _ _ _ _ rfl]; rfl, by rw [World.cell?_alloc_at _ _ _ _ rfl]; rfl, World.frozen?_alloc_at _ _ _ _ rfl, World.frozen?_alloc_at _ _ _ _ rfl⟩
theorem At2.then {W W1 : World} {B : Nat} {a b : Int} (h : At2 W B a b) (k : Below W.heap.size W W1) : At2 W1 B a b :=
  ⟨Nat.lt_of_lt_of_le h.lt k.size, by rw [k.cell h.lt]; exact h.c0, by rw [k.cell h.lt]; exact h.c1, by rw [k.frozen h.lt]; exact h.f0, by rw [k.frozen h.lt]; exact h.f1⟩
theorem At2.al {W : World} {B : Nat} {a b : Int} (h : At2 W B a b) (o : Obj) : At2 (W.alloc o) B a b := h.then (bAl (Below.refl _ _) o)
theorem At2.set {W : World} {B : Nat} {a b : Int} (h : At2 W B a b) (x y : Int) : At2 ((W.setCell ⟨B, 0, none⟩ (.int .i64 x)).setCell ⟨B, 1, none⟩ (.int .i64 y)) B x y := by
  have n01 : (⟨B, 1, none⟩ : Addr) ≠ ⟨B, 0, none⟩ := by simp
  have n10 : (⟨B, 0, none⟩ : Addr) ≠ ⟨B, 1, none⟩ := by simp
  have k1 : (W.setCell ⟨B, 0, none⟩ (.int .i64 x)).cell? ⟨B, 1, none⟩ = some (.int .i64 b) := by rw [World.cell?_setCell_other (h := n10)]; exact h.c1
  refine ⟨by simp [World.setCell]; exact h.lt, ?_, World.cell?_setCell_same _ _ _ k1, ?_, ?_⟩
  · rw [World.cell?_setCell_other (h := n01)]; exact World.cell?_setCell_same _ _ _ h.c0
  · simp; exact h.f0
  · simp; exact h.f1
theorem At2.store {W : World} {B : Nat} {a b : Int} (h : At2 W B a b) {p : Addr} (hp : p.block ≠ B) (v : Value) : At2 (W.setCell p v) B a b := by
  have n0 : p ≠ ⟨B, 0, none⟩ := fun e => hp (by rw [e])
  have n1 : p ≠ ⟨B, 1, none⟩ := fun e => hp (by rw [e])
  exact ⟨by simp [World.setCell]; exact h.lt, by rw [World.cell?_setCell_other (h := n0)]; exact h.c0, by rw [World.cell?_setCell_other (h := n1)]; exact h.c1, by simp; exact h.f0, by simp; exact h.f1⟩
theorem At2.drew {W : World} {B : Nat} {a b : Int} (h : At2 W B a b) (n : Nat) : At2 (W.drewN n) B a b := ⟨h.lt, h.c0, h.c1, h.f0, h.f1⟩
theorem bSet {w W : World} {B : Nat} (h : Below w.heap.size w W) (hB : w.heap.size ≤ B) (x y : Value) : Below w.heap.size w ((W.setCell ⟨B, 0, none⟩ x).setCell ⟨B, 1, none⟩ y) := (h.setCell (p := ⟨B, 0, none⟩) hB _).setCell (p := ⟨B, 1, none⟩) hB _
theorem loadVar_sp {W : World} {B : Nat} {a b : Int} (h : At2 W B a b) : (loadVar 76 ⟨B, 0, none⟩).run Tryz.prog W = .ok (sp a b) W := by
  have h0 := h.c0; have h1 := h.c1
  simp [loadVar, go_sem, h0, h1]
theorem ret_sp {fn : Func} {R : Ending → World → Prop} {act : Act} {W : World} {B : Nat} {a b : Int} {p : Tmp} (hr : fn.results = #[.cell p 76]) (hp : act.tmps.getD p undef = .pointer (some ⟨B, 0, none⟩)) (hd : act.defers = [])
    (h : At2 W B a b) (hR : R (.returned (sp a b)) W) : bodyPost Tryz.prog fn R .ret act W := by
  refine bodyPost_ret (v := sp a b) ?_ hd hR
  have h0 := h.c0; have h1 := h.c1
  simp at hp
  simp only [results, hr]
  simp [Sem.run_bind, Result.andThen, hp, go_sem, h0, h1]
theorem ret_sp_tmp {fn : Func} {R : Ending → World → Prop} {act : Act} {W : World} {B : Nat} {a b : Int} {p u : Tmp} {v : Value} (hr : fn.results = #[.cell p 76, .tmp u]) (hp : act.tmps.getD p undef = .pointer (some ⟨B, 0, none⟩)) (hu : act.tmps.getD u undef = v) (hd : act.defers = [])
    (h : At2 W B a b) (hR : R (.returned (.tuple #[sp a b, v])) W) : bodyPost Tryz.prog fn R .ret act W := by
  refine bodyPost_ret (v := .tuple #[sp a b, v]) ?_ hd hR
  have h0 := h.c0; have h1 := h.c1
  rw [results_cell_tmp hr, hp, hu]
  simp [Result.andThen, go_sem, h0, h1]
/-- What a region keeps: one struct of the call's own, and what was there before the call. -/
theorem keep1 {w W W1 : World} {B : Nat} {a b : Int} (h : W.cell? ⟨B, 0, none⟩ = some (.int .i64 a) ∧ W.cell? ⟨B, 1, none⟩ = some (.int .i64 b) ∧ B < W.heap.size ∧ Below w.heap.size w W) (k : Below W.heap.size W W1) :
    W1.cell? ⟨B, 0, none⟩ = some (.int .i64 a) ∧ W1.cell? ⟨B, 1, none⟩ = some (.int .i64 b) ∧ B < W1.heap.size ∧ Below w.heap.size w W1 :=
  ⟨by rw [k.cell h.2.2.1]; exact h.1, by rw [k.cell h.2.2.1]; exact h.2.1, Nat.lt_of_lt_of_le h.2.2.1 k.size, bThen h.2.2.2 k⟩
theorem begin1 {w W : World} {B : Nat} {a b : Int} (h : At2 W B a b) (hb : Below w.heap.size w W) :
    W.drew.cell? ⟨B, 0, none⟩ = some (.int .i64 a) ∧ W.drew.cell? ⟨B, 1, none⟩ = some (.int .i64 b) ∧ B < W.drew.heap.size ∧ Below w.heap.size w W.drew := ⟨h.c0, h.c1, h.lt, hb.drew⟩
end Go.Proofs.YtncahpbjbgcnbaaGreatDoor
/-
  WALKS: a span's May, Side, Has; the document's May, Side.
-/
namespace Go.Proofs.YtncahpbjbgcnbaaGreatDoor
open Go.RowKit FixMath
set_option maxRecDepth 100000
set_option linter.unusedVariables false

def spanE (a b : Int) : Int := if mayB a = true ∧ mayB b = true then (if b < a then 30 else 0) else 20
theorem spanE_1 {a b : Int} (h : mayB a = false) : spanE a b = 20 := by unfold spanE; rw [if_neg (by simp [h])]
theorem spanE_2 {a b : Int} (h : mayB b = false) : spanE a b = 20 := by unfold spanE; rw [if_neg (by simp [h])]
theorem spanE_3 {a b : Int} (h : mayB a = true) (k : mayB b = true) (l : b < a) : spanE a b = 30 := by unfold spanE; rw [if_pos ⟨h, k⟩, if_pos l]
theorem spanE_4 {a b : Int} (h : mayB a = true) (k : mayB b = true) (l : ¬ b < a) : spanE a b = 0 := by unfold spanE; rw [if_pos ⟨h, k⟩, if_neg l]
theorem mayB_iff {n : Int} : mayB n = true ↔ -1000000000000000 ≤ n ∧ n ≤ 1000000000000000 := by simp [mayB]
theorem spanE_iff {a b : Int} : spanE a b = 0 ↔ -1000000000000000 ≤ a ∧ a ≤ b ∧ b ≤ 1000000000000000 := by
  unfold spanE
  by_cases h : mayB a = true ∧ mayB b = true
  · have h1 := mayB_iff.1 h.1; have h2 := mayB_iff.1 h.2
    rw [if_pos h]
    by_cases l : b < a
    · rw [if_pos l]; constructor <;> intro k <;> omega
    · rw [if_neg l]; constructor <;> intro k <;> omega
  · rw [if_neg h]
    constructor
    · intro k; omega
    · intro k; exact absurd ⟨mayB_iff.2 (by omega), mayB_iff.2 (by omega)⟩ h
theorem spanE_cases (a b : Int) : spanE a b = 0 ∨ spanE a b = 20 ∨ spanE a b = 30 := by
  unfold spanE; split
  · split
    · exact .inr (.inr rfl)
    · exact .inl rfl
  · exact .inr (.inl rfl)

theorem spanMay_any (a b : Int) (w : World) : Calls Tryz.prog 78 #[sp a b] w fun e w' => e = .returned (.int .i64 (spanE a b)) ∧ Below w.heap.size w w' := by
  have CM := fun n W => Lib.hid (may_any n W)
  have hb : Below w.heap.size w w := Below.refl _ _
  by_cases h1 : mayB a = true
  · by_cases h2 : mayB b = true
    · by_cases h3 : b < a
      · have HV := Lib.hid (spanE_3 h1 h2 h3)
        go_enter Tryz.func78, Tryz.ntmps78
        go_wp2_with (go_at_call 77; refine (CM _ _).out.mono ?_; rintro e w' ⟨rfl, rfl⟩)
        go_ret
        exact ⟨by rw [HV.out]; rfl, hb.alloc hb.size _⟩
      · have HV := Lib.hid (spanE_4 h1 h2 h3)
        go_enter Tryz.func78, Tryz.ntmps78
        go_wp2_with (go_at_call 77; refine (CM _ _).out.mono ?_; rintro e w' ⟨rfl, rfl⟩)
        go_ret
        exact ⟨by rw [HV.out]; rfl, hb.alloc hb.size _⟩
    · have h2 : mayB b = false := by simpa using h2
      have HV := Lib.hid (spanE_2 (a := a) h2)
      go_enter Tryz.func78, Tryz.ntmps78
      go_wp2_with (go_at_call 77; refine (CM _ _).out.mono ?_; rintro e w' ⟨rfl, rfl⟩)
      go_ret
      exact ⟨by rw [HV.out]; rfl, hb.alloc hb.size _⟩
  · have h1 : mayB a = false := by simpa using h1
    have HV := Lib.hid (spanE_1 (b := b) h1)
    go_enter Tryz.func78, Tryz.ntmps78
    go_wp2_with (go_at_call 77; refine (CM _ _).out.mono ?_; rintro e w' ⟨rfl, rfl⟩)
    go_ret
    exact ⟨by rw [HV.out]; rfl, hb.alloc hb.size _⟩
theorem spanMay_eq {a b e0 : Int} (h : spanE a b = e0) (w : World) : Calls Tryz.prog 78 #[sp a b] w fun e w' => e = .returned (.int .i64 e0) ∧ Below w.heap.size w w' := h ▸ spanMay_any a b w
def sideV (a b n : Int) : Int := if n < a then 0 else if b < n then 2 else 1
theorem sideV_1 {a b n : Int} (h : n < a) : sideV a b n = 0 := by unfold sideV; rw [if_pos h]
theorem sideV_2 {a b n : Int} (h : ¬ n < a) (k : b < n) : sideV a b n = 2 := by unfold sideV; rw [if_neg h, if_pos k]
theorem sideV_3 {a b n : Int} (h : ¬ n < a) (k : ¬ b < n) : sideV a b n = 1 := by unfold sideV; rw [if_neg h, if_neg k]
theorem side_any (a b n : Int) (w : World) : Calls Tryz.prog 79 #[sp a b, .int .i64 n] w fun e w' => e = .returned (.int .u8 (sideV a b n)) ∧ Below w.heap.size w w' := by
  have hb : Below w.heap.size w w := Below.refl _ _
  by_cases h1 : n < a
  · have HV := Lib.hid (sideV_1 (b := b) h1)
    go_enter Tryz.func79, Tryz.ntmps79
    go_wp2
    go_ret
    exact ⟨by rw [HV.out]; rfl, hb.alloc hb.size _⟩
  · by_cases h2 : b < n
    · have HV := Lib.hid (sideV_2 h1 h2)
      go_enter Tryz.func79, Tryz.ntmps79
      go_wp2
      go_ret
      exact ⟨by rw [HV.out]; rfl, hb.alloc hb.size _⟩
    · have HV := Lib.hid (sideV_3 h1 h2)
      go_enter Tryz.func79, Tryz.ntmps79
      go_wp2
      go_ret
      exact ⟨by rw [HV.out]; rfl, hb.alloc hb.size _⟩
theorem sideV_cases (a b n : Int) : sideV a b n = 0 ∨ sideV a b n = 1 ∨ sideV a b n = 2 := by
  unfold sideV; split
  · exact .inl rfl
  · split
    · exact .inr (.inr rfl)
    · exact .inr (.inl rfl)
def hasB (a b n : Int) : Bool := decide (a ≤ n ∧ n ≤ b)
theorem sideV_has (a b n : Int) : hasB a b n = decide (sideV a b n = 1) := by
  unfold hasB sideV
  by_cases h1 : n < a
  · rw [if_pos h1, decide_eq_false (by omega), decide_eq_false (by omega)]
  · rw [if_neg h1]
    by_cases h2 : b < n
    · rw [if_pos h2, decide_eq_false (by omega), decide_eq_false (by omega)]
    · rw [if_neg h2, decide_eq_true (by omega), decide_eq_true (by omega)]
theorem has_any (a b n : Int) (w : World) : Calls Tryz.prog 60 #[sp a b, .int .i64 n] w fun e w' => e = .returned (.bool (hasB a b n)) ∧ Below w.heap.size w w' := by
  have CS := fun W => Lib.hid (side_any a b n W)
  have hb : Below w.heap.size w w := Below.refl _ _
  have HV := Lib.hid (sideV_has a b n)
  generalize sideV a b n = v at *
  go_enter Tryz.func60, Tryz.ntmps60
  go_wp2_with (go_at_call 79; refine (CS _).out.mono ?_; rintro e w1 ⟨rfl, h1⟩; replace hb := bThen (bAl hb _) h1)
  go_ret
  exact ⟨by rw [HV.out]; rfl, hb⟩
def nearV (a b n : Int) : Int := if spanE a b = 0 then (if n < a then a else if b < n then b else n) else 0
theorem nearV_0 {a b n : Int} (h : spanE a b ≠ 0) : nearV a b n = 0 := by unfold nearV; rw [if_neg h]
theorem nearV_1 {a b n : Int} (h : spanE a b = 0) (k : n < a) : nearV a b n = a := by unfold nearV; rw [if_pos h, if_pos k]
theorem nearV_2 {a b n : Int} (h : spanE a b = 0) (k : ¬ n < a) (l : b < n) : nearV a b n = b := by unfold nearV; rw [if_pos h, if_neg k, if_pos l]
theorem nearV_3 {a b n : Int} (h : spanE a b = 0) (k : ¬ n < a) (l : ¬ b < n) : nearV a b n = n := by unfold nearV; rw [if_pos h, if_neg k, if_neg l]
theorem side_eq {a b n v : Int} (h : sideV a b n = v) (w : World) : Calls Tryz.prog 79 #[sp a b, .int .i64 n] w fun e w' => e = .returned (.int .u8 v) ∧ Below w.heap.size w w' := h ▸ side_any a b n w
end Go.Proofs.YtncahpbjbgcnbaaGreatDoor
/-
  WALKS: an object's range; whether an object's numbers may be, whether its ranges are in order, whether its Parent and Ref are handles.
-/
namespace Go.Proofs.YtncahpbjbgcnbaaGreatDoor
open Go.RowKit
set_option maxRecDepth 100000
set_option linter.unusedVariables false

theorem rangeOf_any (o : Ob) (w : World) : Calls Tryz.prog 59 #[ob o] w fun e w' => e = .returned (sp o.lo o.hi) ∧ Below w.heap.size w w' := by
  have hb : Below w.heap.size w w := Below.refl _ _
  go_enter Tryz.func59, Tryz.ntmps59
  go_wp2
  exact ret_row rfl rfl rfl (AtC.newAt (by simp)) (Tryz.isAgg76 _) (Tryz.sizeOf76 _) ⟨rfl, bAl (bAl hb _) _⟩
theorem notMay_any (n : Int) (w : World) : Calls Tryz.prog 76 #[.int .i64 n] w fun e w' => e = .returned (.bool (!mayB n)) ∧ w = w' := by
  have CM := fun W => Lib.hid (may_any n W)
  go_enter Tryz.func76, Tryz.ntmps76
  go_wp2_with (go_at_call 77; ((with_reducible refine (CM _).out.mono ?_); rintro e w1 ⟨rfl, rfl⟩))
  go_ret
  exact ⟨rfl, rfl⟩
def firstBad (l : List Int) : Nat := l.findIdx fun n => !mayB n
set_option maxHeartbeats 4000000 in
theorem indexNotMay_any (B : Nat) (l : List Int) (w : World) (hl : l.length ≤ 100) (h : ∀ j n, l[j]? = some n → w.cell? ⟨B, j, none⟩ = some (.int .i64 n)) (hB : B < w.heap.size) :
    Calls Tryz.prog 94 #[.slice (some ⟨B, 0, none⟩) l.length l.length, .func (.func 76) #[] #[]] w fun e w' => (∃ i : Int, e = .returned (.int .i64 i) ∧ (0 ≤ i ↔ ∃ n ∈ l, mayB n = false)) ∧ w = w' := by
  have CN := fun n W => Lib.hid (notMay_any n W)
  have H := Lib.hid h
  clear h
  go_enter Tryz.func94, Tryz.ntmps94
  go_wp2
  go_loop [8] (fun i => ∃ k : Nat, i = .int .i64 k ∧ k ≤ l.length ∧ Hid (∀ n ∈ l.take k, mayB n = true)) (fun i => l.length - (intOf i).toNat)
  case atStart => exact ⟨0, rfl, by omega, Lib.hid (by simp)⟩
  case round =>
    obtain ⟨k, rfl, hk, HT⟩ := hrel
    by_cases hlt : k < l.length
    · have hc := H.out k _ (List.getElem?_eq_getElem hlt)
      have HA : Hid (∀ n ∈ l.take (k + 1), n ∈ l.take k ∨ n = l[k]) := Lib.hid (fun n hn => by rw [List.take_succ_eq_append_getElem hlt] at hn; exact (List.mem_append.1 hn).imp_right List.mem_singleton.1)
      have HI : Hid (l[k] ∈ l) := Lib.hid (List.getElem_mem hlt)
      generalize l[k] = n at *
      have CM := fun W => CN n W
      cases hm : mayB n with
      | true =>
        rw [hm] at CM
        go_wp2_with (go_at_call 76; ((with_reducible refine (CM _).out.mono ?_); rintro e w1 ⟨rfl, rfl⟩))
        go_round
        case rel => exact ⟨k + 1, by go_num, by omega, Lib.hid (fun x hx => (HA.out x hx).elim (HT.out x) (fun e => e ▸ hm))⟩
        case measure => simp [intOf]; omega
      | false =>
        rw [hm] at CM
        go_wp2_with (go_at_call 76; ((with_reducible refine (CM _).out.mono ?_); rintro e w1 ⟨rfl, rfl⟩))
        go_ret
        exact ⟨⟨_, rfl, ⟨fun _ => ⟨n, HI.out, hm⟩, fun _ => by omega⟩⟩, rfl⟩
    · obtain rfl : k = l.length := by omega
      go_wp2
      go_ret
      refine ⟨⟨-1, rfl, ⟨fun h => by omega, fun ⟨n, hn, hm⟩ => ?_⟩⟩, rfl⟩
      rw [List.take_length] at HT
      rw [HT.out n hn] at hm; cases hm
theorem containsNotMay_any (B : Nat) (l : List Int) (w : World) (v : Bool) (hv : v = true ↔ ∃ n ∈ l, mayB n = false) (hl : l.length ≤ 100) (h : ∀ j n, l[j]? = some n → w.cell? ⟨B, j, none⟩ = some (.int .i64 n)) (hB : B < w.heap.size) :
    Calls Tryz.prog 75 #[.slice (some ⟨B, 0, none⟩) l.length l.length, .func (.func 76) #[] #[]] w fun e w' => e = .returned (.bool v) ∧ w = w' := by
  have C := Lib.hid (indexNotMay_any B l w hl h hB)
  have HV := Lib.hid hv
  clear h hv
  go_enter Tryz.func75, Tryz.ntmps75
  go_wp2_with fail
  go_at_call 94
  with_reducible refine C.out.mono ?_
  rintro e w1 ⟨⟨i, rfl, hi⟩, rfl⟩
  have HI := Lib.hid hi
  clear hi
  go_wp2_with fail
  go_ret
  refine ⟨?_, rfl⟩
  have h1 := HI.out
  have h2 := HV.out
  cases v
  · have : ¬ 0 ≤ i := fun k => by simpa using h2.2 (h1.1 k)
    simp; omega
  · have := h1.2 (h2.1 rfl)
    simp; omega
def countsObB (o : Ob) : Bool := mayB o.lo && mayB o.hi && mayB o.value && mayB o.low && mayB o.high && decide (o.digits ≤ 6) && (o.has || o.value == 0)
def anyBad (o : Ob) : Bool := !(mayB o.lo && mayB o.hi && mayB o.value && mayB o.low && mayB o.high)
theorem anyBad_iff (o : Ob) : anyBad o = true ↔ ∃ n ∈ [o.lo, o.hi, o.value, o.low, o.high], mayB n = false := by
  simp [anyBad]
  cases mayB o.lo <;> cases mayB o.hi <;> cases mayB o.value <;> cases mayB o.low <;> cases mayB o.high <;> simp
set_option maxHeartbeats 4000000 in
theorem countsOb_any (o : Ob) (w : World) : Calls Tryz.prog 57 #[ob o] w fun e w' => e = .returned (.bool (countsObB o)) ∧ Below w.heap.size w w' := by
  have hb : Below w.heap.size w w := Below.refl _ _
  have HV : Hid (countsObB o = (!anyBad o && decide ((o.digits : Int) ≤ 6) && (o.has || o.value == 0))) := Lib.hid (by
    have : decide (o.digits ≤ 6) = decide ((o.digits : Int) ≤ 6) := by by_cases h : o.digits ≤ 6 <;> simp <;> omega
    simp [countsObB, anyBad, this])
  have hx : ∀ j n, [o.lo, o.hi, o.value, o.low, o.high][j]? = some n → ((w.alloc (.cells (obCells o) 35)).alloc (.cells #[.int .i64 o.lo, .int .i64 o.hi, .int .i64 o.value, .int .i64 o.low, .int .i64 o.high] 90)).cell? ⟨w.heap.size + 1, j, none⟩ = some (.int .i64 n) := fun j n hn => by
    rw [(AtC.newAt (w := w.alloc (.cells (obCells o) 35)) (T := 90) (C := #[.int .i64 o.lo, .int .i64 o.hi, .int .i64 o.value, .int .i64 o.low, .int .i64 o.high]) (B := w.heap.size + 1) (by simp)).c j]
    rcases j with _ | _ | _ | _ | _ | j <;> simp at hn ⊢ <;> exact hn
  have C : Hid (Calls Tryz.prog 75 #[.slice (some ⟨w.heap.size + 1, 0, none⟩) 5 5, .func (.func 76) #[] #[]] _ fun e w' => e = .returned (.bool (anyBad o)) ∧ _ = w') := Lib.hid (containsNotMay_any (w.heap.size + 1) [o.lo, o.hi, o.value, o.low, o.high] _ (anyBad o) (anyBad_iff o) (by simp) hx (by simp))
  clear hx
  generalize anyBad o = b at *
  go_enter Tryz.func57, Tryz.ntmps57
  go_wp2_with fail
  go_at_call 75
  with_reducible refine C.out.mono ?_
  rintro e w1 ⟨rfl, rfl⟩
  go_wp2_with fail
  all_goals
    go_ret
    refine ⟨?_, bAl (bAl hb _) _⟩
    rw [HV.out]
    clear HV C
    show Ending.returned (Value.bool _) = _
    congr 2
    first | (simp [*]; done) | grind
def orderedB (o : Ob) : Bool := spanE o.lo o.hi == 0 && spanE o.low o.high == 0
set_option maxHeartbeats 4000000 in
theorem ordered_any (o : Ob) (w : World) : Calls Tryz.prog 58 #[ob o] w fun e w' => e = .returned (.bool (orderedB o)) ∧ Below w.heap.size w w' := by
  have hb : Below w.heap.size w w := Below.refl _ _
  have CR := fun W => Lib.hid (rangeOf_any o W)
  have C1 := fun W => Lib.hid (spanMay_any o.lo o.hi W)
  have C2 := fun W => Lib.hid (spanMay_any o.low o.high W)
  have HV : Hid (orderedB o = (spanE o.lo o.hi == 0 && spanE o.low o.high == 0)) := Lib.hid rfl
  generalize spanE o.lo o.hi = a at *
  generalize spanE o.low o.high = b at *
  go_enter Tryz.func58, Tryz.ntmps58
  go_wp2_with fail
  go_at_call 59
  with_reducible refine (CR _).out.mono ?_
  rintro e w1 ⟨rfl, k1⟩
  replace hb := bThen (bAl hb _) k1
  have mO := (AtC.new _ _ _).then k1
  go_wp2_with fail
  go_at_call 78
  with_reducible refine (C1 _).out.mono ?_
  rintro e w2 ⟨rfl, k2⟩
  replace hb := bThen hb k2
  replace mO := mO.then k2
  have oc := mO.c
  by_cases ha : a = 0
  · subst ha
    go_wp2_with (go_at_call 78; ((with_reducible refine (C2 _).out.mono ?_); rintro e w3 ⟨rfl, k3⟩; replace hb := bThen hb k3))
    go_ret
    exact ⟨by rw [HV.out]; rfl, hb⟩
  · go_wp2_with fail
    go_ret
    exact ⟨by rw [HV.out]; show Ending.returned (Value.bool _) = _; congr 2; simp [ha], hb⟩
noncomputable def namedB (o : Ob) : Bool := (decide (o.kind = 1) || HL.mayB o.parent) && (!refersB o.kind || HL.mayB o.ref)
set_option maxHeartbeats 8000000 in
theorem named_any (o : Ob) (w : World) (hk : kindB o.kind = true) (hkd : Kinds w) (z2 : o.parent.size ≤ maxLen) (z3 : o.ref.size ≤ maxLen) : Calls Tryz.prog 56 #[ob o] w fun e w' => e = .returned (.bool (namedB o)) ∧ Below w.heap.size w w' := by
  have hb : Below w.heap.size w w := Below.refl _ _
  have C1 := fun W => Lib.hid (HL.may_any o.parent W z2)
  have C2 := fun W => Lib.hid (HL.may_any o.ref W z3)
  have h1 := of_decide_eq_true hk
  clear hk z2 z3
  have hkw := hkd.1
  obtain ⟨xh, k, xp, xt, xr, xlo, xhi, xd, xon, xhas, xv, xlw, xhg, xa⟩ := o
  have hq := hkd.2 k (by dsimp only at h1; omega)
  clear hkd
  dsimp only at h1 C1 C2 ⊢
  unfold namedB
  dsimp only
  generalize HL.mayB xp = b1 at *
  generalize HL.mayB xr = b2 at *
  rcases (show k = 1 ∨ k = 2 ∨ k = 3 ∨ k = 4 ∨ k = 5 ∨ k = 6 ∨ k = 7 ∨ k = 8 ∨ k = 9 by omega) with rfl | rfl | rfl | rfl | rfl | rfl | rfl | rfl | rfl
  · have a1 : bits BinOp.and IntKind.u16 0 1 = 0 := by decide +kernel
    have a2 : bits BinOp.and IntKind.u16 0 4 = 0 := by decide +kernel
    have hq2 : w.cell? ⟨0, 1, none⟩ = some (.int .u16 0) := hq
    have hV : Hid (((decide ((1 : Nat) = 1) || b1) && (!refersB 1 || b2)) = (true && true)) := Lib.hid (by simp [refersB])
    rw [hV.out]
    clear hq hV
    cases b1 <;> cases b2
    all_goals
      go_enter Tryz.func56, Tryz.ntmps56
      go_wp2_with (go_at_call 55; (first | ((with_reducible refine (C1 _).out.mono ?_); rintro e w1 ⟨rfl, k1⟩; have hb1 := bThen (bAl hb _) k1; have m1 := (AtC.new _ _ _).then k1; have oc1 := m1.c) | ((with_reducible refine (C2 _).out.mono ?_); rintro e w2 ⟨rfl, k2⟩; have hb2 := bThen hb1 k2)))
      go_ret
      exact ⟨rfl, by first | exact hb2 | exact hb1 | exact bAl hb _⟩
  · have a1 : bits BinOp.and IntKind.u16 1 1 = 1 := by decide +kernel
    have a2 : bits BinOp.and IntKind.u16 1 4 = 0 := by decide +kernel
    have hq2 : w.cell? ⟨0, 2, none⟩ = some (.int .u16 1) := hq
    have hV : Hid (((decide ((2 : Nat) = 1) || b1) && (!refersB 2 || b2)) = (b1 && true)) := Lib.hid (by simp [refersB])
    rw [hV.out]
    clear hq hV
    cases b1 <;> cases b2
    all_goals
      go_enter Tryz.func56, Tryz.ntmps56
      go_wp2_with (go_at_call 55; (first | ((with_reducible refine (C1 _).out.mono ?_); rintro e w1 ⟨rfl, k1⟩; have hb1 := bThen (bAl hb _) k1; have m1 := (AtC.new _ _ _).then k1; have oc1 := m1.c) | ((with_reducible refine (C2 _).out.mono ?_); rintro e w2 ⟨rfl, k2⟩; have hb2 := bThen hb1 k2)))
      go_ret
      exact ⟨rfl, by first | exact hb2 | exact hb1 | exact bAl hb _⟩
  · have a1 : bits BinOp.and IntKind.u16 1 1 = 1 := by decide +kernel
    have a2 : bits BinOp.and IntKind.u16 1 4 = 0 := by decide +kernel
    have hq2 : w.cell? ⟨0, 3, none⟩ = some (.int .u16 1) := hq
    have hV : Hid (((decide ((3 : Nat) = 1) || b1) && (!refersB 3 || b2)) = (b1 && true)) := Lib.hid (by simp [refersB])
    rw [hV.out]
    clear hq hV
    cases b1 <;> cases b2
    all_goals
      go_enter Tryz.func56, Tryz.ntmps56
      go_wp2_with (go_at_call 55; (first | ((with_reducible refine (C1 _).out.mono ?_); rintro e w1 ⟨rfl, k1⟩; have hb1 := bThen (bAl hb _) k1; have m1 := (AtC.new _ _ _).then k1; have oc1 := m1.c) | ((with_reducible refine (C2 _).out.mono ?_); rintro e w2 ⟨rfl, k2⟩; have hb2 := bThen hb1 k2)))
      go_ret
      exact ⟨rfl, by first | exact hb2 | exact hb1 | exact bAl hb _⟩
  · have a1 : bits BinOp.and IntKind.u16 441 1 = 1 := by decide +kernel
    have a2 : bits BinOp.and IntKind.u16 441 4 = 0 := by decide +kernel
    have hq2 : w.cell? ⟨0, 4, none⟩ = some (.int .u16 441) := hq
    have hV : Hid (((decide ((4 : Nat) = 1) || b1) && (!refersB 4 || b2)) = (b1 && true)) := Lib.hid (by simp [refersB])
    rw [hV.out]
    clear hq hV
    cases b1 <;> cases b2
    all_goals
      go_enter Tryz.func56, Tryz.ntmps56
      go_wp2_with (go_at_call 55; (first | ((with_reducible refine (C1 _).out.mono ?_); rintro e w1 ⟨rfl, k1⟩; have hb1 := bThen (bAl hb _) k1; have m1 := (AtC.new _ _ _).then k1; have oc1 := m1.c) | ((with_reducible refine (C2 _).out.mono ?_); rintro e w2 ⟨rfl, k2⟩; have hb2 := bThen hb1 k2)))
      go_ret
      exact ⟨rfl, by first | exact hb2 | exact hb1 | exact bAl hb _⟩
  · have a1 : bits BinOp.and IntKind.u16 65 1 = 1 := by decide +kernel
    have a2 : bits BinOp.and IntKind.u16 65 4 = 0 := by decide +kernel
    have hq2 : w.cell? ⟨0, 5, none⟩ = some (.int .u16 65) := hq
    have hV : Hid (((decide ((5 : Nat) = 1) || b1) && (!refersB 5 || b2)) = (b1 && true)) := Lib.hid (by simp [refersB])
    rw [hV.out]
    clear hq hV
    cases b1 <;> cases b2
    all_goals
      go_enter Tryz.func56, Tryz.ntmps56
      go_wp2_with (go_at_call 55; (first | ((with_reducible refine (C1 _).out.mono ?_); rintro e w1 ⟨rfl, k1⟩; have hb1 := bThen (bAl hb _) k1; have m1 := (AtC.new _ _ _).then k1; have oc1 := m1.c) | ((with_reducible refine (C2 _).out.mono ?_); rintro e w2 ⟨rfl, k2⟩; have hb2 := bThen hb1 k2)))
      go_ret
      exact ⟨rfl, by first | exact hb2 | exact hb1 | exact bAl hb _⟩
  · have a1 : bits BinOp.and IntKind.u16 71 1 = 1 := by decide +kernel
    have a2 : bits BinOp.and IntKind.u16 71 4 = 4 := by decide +kernel
    have hq2 : w.cell? ⟨0, 6, none⟩ = some (.int .u16 71) := hq
    have hV : Hid (((decide ((6 : Nat) = 1) || b1) && (!refersB 6 || b2)) = (b1 && b2)) := Lib.hid (by simp [refersB])
    rw [hV.out]
    clear hq hV
    cases b1 <;> cases b2
    all_goals
      go_enter Tryz.func56, Tryz.ntmps56
      go_wp2_with (go_at_call 55; (first | ((with_reducible refine (C1 _).out.mono ?_); rintro e w1 ⟨rfl, k1⟩; have hb1 := bThen (bAl hb _) k1; have m1 := (AtC.new _ _ _).then k1; have oc1 := m1.c) | ((with_reducible refine (C2 _).out.mono ?_); rintro e w2 ⟨rfl, k2⟩; have hb2 := bThen hb1 k2)))
      go_ret
      exact ⟨rfl, by first | exact hb2 | exact hb1 | exact bAl hb _⟩
  · have a1 : bits BinOp.and IntKind.u16 69 1 = 1 := by decide +kernel
    have a2 : bits BinOp.and IntKind.u16 69 4 = 4 := by decide +kernel
    have hq2 : w.cell? ⟨0, 7, none⟩ = some (.int .u16 69) := hq
    have hV : Hid (((decide ((7 : Nat) = 1) || b1) && (!refersB 7 || b2)) = (b1 && b2)) := Lib.hid (by simp [refersB])
    rw [hV.out]
    clear hq hV
    cases b1 <;> cases b2
    all_goals
      go_enter Tryz.func56, Tryz.ntmps56
      go_wp2_with (go_at_call 55; (first | ((with_reducible refine (C1 _).out.mono ?_); rintro e w1 ⟨rfl, k1⟩; have hb1 := bThen (bAl hb _) k1; have m1 := (AtC.new _ _ _).then k1; have oc1 := m1.c) | ((with_reducible refine (C2 _).out.mono ?_); rintro e w2 ⟨rfl, k2⟩; have hb2 := bThen hb1 k2)))
      go_ret
      exact ⟨rfl, by first | exact hb2 | exact hb1 | exact bAl hb _⟩
  · have a1 : bits BinOp.and IntKind.u16 1607 1 = 1 := by decide +kernel
    have a2 : bits BinOp.and IntKind.u16 1607 4 = 4 := by decide +kernel
    have hq2 : w.cell? ⟨0, 8, none⟩ = some (.int .u16 1607) := hq
    have hV : Hid (((decide ((8 : Nat) = 1) || b1) && (!refersB 8 || b2)) = (b1 && b2)) := Lib.hid (by simp [refersB])
    rw [hV.out]
    clear hq hV
    cases b1 <;> cases b2
    all_goals
      go_enter Tryz.func56, Tryz.ntmps56
      go_wp2_with (go_at_call 55; (first | ((with_reducible refine (C1 _).out.mono ?_); rintro e w1 ⟨rfl, k1⟩; have hb1 := bThen (bAl hb _) k1; have m1 := (AtC.new _ _ _).then k1; have oc1 := m1.c) | ((with_reducible refine (C2 _).out.mono ?_); rintro e w2 ⟨rfl, k2⟩; have hb2 := bThen hb1 k2)))
      go_ret
      exact ⟨rfl, by first | exact hb2 | exact hb1 | exact bAl hb _⟩
  · have a1 : bits BinOp.and IntKind.u16 2051 1 = 1 := by decide +kernel
    have a2 : bits BinOp.and IntKind.u16 2051 4 = 0 := by decide +kernel
    have hq2 : w.cell? ⟨0, 9, none⟩ = some (.int .u16 2051) := hq
    have hV : Hid (((decide ((9 : Nat) = 1) || b1) && (!refersB 9 || b2)) = (b1 && true)) := Lib.hid (by simp [refersB])
    rw [hV.out]
    clear hq hV
    cases b1 <;> cases b2
    all_goals
      go_enter Tryz.func56, Tryz.ntmps56
      go_wp2_with (go_at_call 55; (first | ((with_reducible refine (C1 _).out.mono ?_); rintro e w1 ⟨rfl, k1⟩; have hb1 := bThen (bAl hb _) k1; have m1 := (AtC.new _ _ _).then k1; have oc1 := m1.c) | ((with_reducible refine (C2 _).out.mono ?_); rintro e w2 ⟨rfl, k2⟩; have hb2 := bThen hb1 k2)))
      go_ret
      exact ⟨rfl, by first | exact hb2 | exact hb1 | exact bAl hb _⟩
end Go.Proofs.YtncahpbjbgcnbaaGreatDoor
/-
  PLAIN: the program's fault is the document's.
-/
namespace Go.Proofs.YtncahpbjbgcnbaaGreatDoor
open Go.RowKit
set_option maxRecDepth 100000
set_option linter.unusedVariables false
set_option linter.unusedSimpArgs false

noncomputable def faultP (o : Ob) (whole : Bool) : Int :=
  if fitsB o = false then 40 else if HL.mayB o.handle = false ∨ (whole = true ∧ namedB o = false) then 10 else if countsObB o = false then 20
  else if orderedB o = false ∨ (whole = true ∧ o.has = true ∧ hasB o.lo o.hi o.value = false) then 30 else 0
theorem fits_iff (o : Ob) : fitsB o = false ↔ (kindB o.kind = false ∨ trimOf o ≠ o ∨ 3 < o.typ ∨ 3 < o.assoc) := by
  unfold fitsB
  cases hk : kindB o.kind with
  | false => simp
  | true =>
    have ht := fits_trim o hk
    cases hm : ((maskTo o 12 &&& (65535 - kindMask o.kind)) == 0) with
    | false =>
      rw [hm] at ht
      have : trimOf o ≠ o := fun h => by have := ht.2 h; cases this
      simp [this]
    | true =>
      rw [hm] at ht
      have : trimOf o = o := ht.1 rfl
      simp [this]
      omega
theorem named_iff (o : Ob) : namedB o = false ↔ ((¬ (o.kind : Int) = 1 ∧ HL.mayB o.parent = false) ∨ (refersB o.kind = true ∧ HL.mayB o.ref = false)) := by
  have : decide (o.kind = 1) = decide ((o.kind : Int) = 1) := by by_cases h : o.kind = 1 <;> simp <;> omega
  unfold namedB
  rw [this]
  by_cases h1 : (o.kind : Int) = 1 <;> cases HL.mayB o.parent <;> cases refersB o.kind <;> cases HL.mayB o.ref <;> simp [h1]
theorem counts_iff (o : Ob) : countsObB o = false ↔ ((6 : Int) < o.digits ∨ mayB o.lo = false ∨ mayB o.hi = false ∨ mayB o.value = false ∨ mayB o.low = false ∨ mayB o.high = false ∨ (o.has = false ∧ ¬ o.value = 0)) := by
  have : decide (o.digits ≤ 6) = !decide ((6 : Int) < o.digits) := by
    by_cases h : o.digits ≤ 6
    · rw [decide_eq_true h, decide_eq_false (by omega)]; rfl
    · rw [decide_eq_false h, decide_eq_true (by omega)]; rfl
  unfold countsObB
  rw [this]
  cases mayB o.lo <;> cases mayB o.hi <;> cases mayB o.value <;> cases mayB o.low <;> cases mayB o.high <;> cases o.has <;> by_cases h : (6 : Int) < o.digits <;> by_cases h2 : o.value = 0 <;> simp [h, h2]
theorem order_iff (o : Ob) (hc : countsObB o = true) : orderedB o = false ↔ (o.hi < o.lo ∨ o.high < o.low) := by
  have h1 : mayB o.lo = true ∧ mayB o.hi = true ∧ mayB o.low = true ∧ mayB o.high = true := by
    unfold countsObB at hc
    simp only [Bool.and_eq_true] at hc
    exact ⟨hc.1.1.1.1.1.1, hc.1.1.1.1.1.2, hc.1.1.1.2, hc.1.1.2⟩
  unfold orderedB
  by_cases a : o.hi < o.lo
  · rw [spanE_3 h1.1 h1.2.1 a]; simp [a]
  · rw [spanE_4 h1.1 h1.2.1 a]
    by_cases b : o.high < o.low
    · rw [spanE_3 h1.2.2.1 h1.2.2.2 b]; simp [b]
    · rw [spanE_4 h1.2.2.1 h1.2.2.2 b]; simp [a, b]
theorem has_iff (a b n : Int) : hasB a b n = false ↔ (n < a ∨ b < n) := by unfold hasB; rw [decide_eq_false_iff_not]; omega
theorem fault_eq (o : Ob) (whole valued : Bool) (hv : valued = whole ∨ o.has = false) : faultP o whole = faultOf o whole valued := by
  unfold faultP faultOf
  by_cases hf : fitsB o = false
  · rw [if_pos hf, if_pos ((fits_iff o).1 hf)]
  · rw [if_neg hf, if_neg (fun h => hf ((fits_iff o).2 h))]
    unfold faultR
    have e10 : (HL.mayB o.handle = false ∨ (whole = true ∧ namedB o = false)) ↔ (HL.mayB o.handle = false ∨ (whole = true ∧ ¬ (o.kind : Int) = 1 ∧ HL.mayB o.parent = false) ∨ (whole = true ∧ refersB o.kind = true ∧ HL.mayB o.ref = false)) := by
      rw [named_iff]; cases whole <;> simp
    by_cases h10 : (HL.mayB o.handle = false ∨ (whole = true ∧ namedB o = false))
    · rw [if_pos h10, if_pos (e10.1 h10)]
    · rw [if_neg h10, if_neg (fun h => h10 (e10.2 h))]
      by_cases hc : countsObB o = false
      · rw [if_pos hc, if_pos ((counts_iff o).1 hc)]
      · rw [if_neg hc, if_neg (fun h => hc ((counts_iff o).2 h))]
        have ho := order_iff o (by simpa using hc)
        have e30 : (orderedB o = false ∨ (whole = true ∧ o.has = true ∧ hasB o.lo o.hi o.value = false)) ↔ (o.hi < o.lo ∨ o.high < o.low ∨ (valued = true ∧ o.has = true ∧ (o.value < o.lo ∨ o.hi < o.value))) := by
          rw [ho, has_iff]
          rcases hv with rfl | hv
          · constructor
            · rintro ((h | h) | h)
              · exact .inl h
              · exact .inr (.inl h)
              · exact .inr (.inr h)
            · rintro (h | h | h)
              · exact .inl (.inl h)
              · exact .inl (.inr h)
              · exact .inr h
          · rw [hv]; simp
        by_cases h30 : (orderedB o = false ∨ (whole = true ∧ o.has = true ∧ hasB o.lo o.hi o.value = false))
        · rw [if_pos h30, if_pos (e30.1 h30)]
        · rw [if_neg h30, if_neg (fun h => h30 (e30.2 h))]
end Go.Proofs.YtncahpbjbgcnbaaGreatDoor
