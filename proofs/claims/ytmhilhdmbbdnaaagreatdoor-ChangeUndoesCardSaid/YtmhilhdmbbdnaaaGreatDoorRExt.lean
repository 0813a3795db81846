/-
  PLAIN: a region that draws its order, whose own operations only read, and whose callees may make memory: one walk of the text's order, in the worlds that leave alone what is below.
-/
import Derived.Test.YtmhilhdmbbdnaaaGreatDoorGKit
import Derived.BigQuiet
namespace Go.Proofs.YtmhilhdmbbdnaaaGreatDoor.TX
open Go.RowKit
set_option maxRecDepth 100000
set_option linter.unusedVariables false
set_option linter.unusedSimpArgs false

/-- A world that leaves alone what w has. -/
structure Ext (w : World) where
  W : World
  b : Below w.heap.size w W
instance (w : World) : Nonempty (Ext w) := ⟨⟨w, Below.refl _ _⟩⟩
theorem Ext.same {w : World} : ∃ x : Ext w, w = x.W := ⟨⟨w, Below.refl _ _⟩, rfl⟩
theorem Ext.drewn {w : World} : ∃ x : Ext w, w.drew = x.W := ⟨⟨w.drew, (Below.refl _ _).drew⟩, rfl⟩
theorem wp_region_ext {P : Program} {id : Nat} {Q : Exit → Act → World → Prop} {a : Act} {w : World} {l : List Oper} (hm : P.follows .mixedOrders = true) (hB : Region.lexB .any l.toArray = true)
    (h : wpQuiet P l.toArray (fun W => ∃ x : Ext w, W = x.W) (fun a' => ∀ w', (∃ x : Ext w, w' = x.W) → Q .normal a' w') l a) : (Code.region id l.toArray true).wp P Q a w :=
  wp_region_quiet (C := fun W => ∃ x : Ext w, W = x.W) hm hB Ext.drewn (by simpa using h)
theorem ext_same {P : Program} {f : FuncId} {args : Array Value} {w : World} {x : Ext w} {v : Value} (h : Calls P f args x.W fun e w' => e = .returned v ∧ x.W = w') : Calls P f args x.W fun e w' => e = .returned v ∧ ∃ y : Ext w, w' = y.W :=
  h.mono fun _ _ ⟨he, hw⟩ => ⟨he, x, hw.symm⟩
theorem ext_below {P : Program} {f : FuncId} {args : Array Value} {w : World} {x : Ext w} {v : Value} (h : Calls P f args x.W fun e w' => e = .returned v ∧ Below x.W.heap.size x.W w') : Calls P f args x.W fun e w' => e = .returned v ∧ ∃ y : Ext w, w' = y.W :=
  h.mono fun _ _ ⟨he, hw⟩ => ⟨he, ⟨_, bThen x.b hw⟩, rfl⟩
/-- A piece of a body, by its way (path.py): 0 a sequence's left, 1 its right, 2 a block's, 3 a loop's, 4 an if's yes, 5 its no. -/
def pathC : List Nat → Code → Code
  | 0 :: l, .seq a _ => pathC l a
  | 1 :: l, .seq _ b => pathC l b
  | 2 :: l, .block _ c => pathC l c
  | 3 :: l, .loop c => pathC l c
  | 4 :: l, .cond _ a _ => pathC l a
  | 5 :: l, .cond _ _ b => pathC l b
  | _, c => c
def bodyC (f : Func) (l : List Nat) : Code := match f.body with | some c => pathC l c | none => .skip
end Go.Proofs.YtmhilhdmbbdnaaaGreatDoor.TX
