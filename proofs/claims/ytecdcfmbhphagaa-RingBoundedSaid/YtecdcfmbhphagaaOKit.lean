/-
  PLAIN: an object's fields; the block of a call's own that holds one.
-/
import Derived.Test.YtecdcfmbhphagaaGKit
import Derived.WalkKit
import Derived.Below
import Derived.Lib.Hide
import Derived.IntWalk
import Derived.Laws.World
namespace Go.Proofs.Ytecdcfmbhphagaa
open Go.RowKit
set_option maxRecDepth 100000
set_option linter.unusedVariables false

/-- An object's fields, in the order of its type. -/
structure Ob where
  handle : ByteArray
  kind : Nat
  parent : ByteArray
  typ : Nat
  ref : ByteArray
  lo : Int
  hi : Int
  digits : Nat
  on : Bool
  has : Bool
  value : Int
  low : Int
  high : Int
  assoc : Nat
abbrev obCells (o : Ob) : Array Value := #[.string o.handle, .int .u8 o.kind, .string o.parent, .int .u8 o.typ, .string o.ref, .int .i64 o.lo, .int .i64 o.hi, .int .u8 o.digits, .bool o.on, .bool o.has, .int .i64 o.value, .int .i64 o.low, .int .i64 o.high, .int .u8 o.assoc]
abbrev ob (o : Ob) : Value := .agg #[.string o.handle, .int .u8 o.kind, .string o.parent, .int .u8 o.typ, .string o.ref, .int .i64 o.lo, .int .i64 o.hi, .int .u8 o.digits, .bool o.on, .bool o.has, .int .i64 o.value, .int .i64 o.low, .int .i64 o.high, .int .u8 o.assoc]
theorem ret_ob {fn : Func} {R : Ending → World → Prop} {act : Act} {W : World} {B : Nat} {o : Ob} {p : Tmp} (hr : fn.results = #[.cell p 31]) (hp : act.tmps.getD p undef = .pointer (some ⟨B, 0, none⟩)) (hd : act.defers = [])
    (h : AtC W B (obCells o)) (hR : R (.returned (ob o)) W) : bodyPost Try.prog fn R .ret act W := by
  refine bodyPost_ret (v := ob o) ?_ hd hR
  have h0 := h.c
  simp at hp
  simp only [results, hr]
  simp [Sem.run_bind, Result.andThen, hp, go_sem, h0]
end Go.Proofs.Ytecdcfmbhphagaa
