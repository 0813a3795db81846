/-
  PLAIN: structs of two integers that a call lays in its own memory, behind callees that leave what is below alone.
-/
import Derived.Test.YtecdcfmbhphagaaFNum2
import Derived.Test.YtecdcfmbhphagaaGKit
import Derived.Laws.World
import Derived.Laws.ResultCell
namespace Go.Proofs.Ytecdcfmbhphagaa
open Go.RowKit FixMath
set_option maxRecDepth 100000
set_option linter.unusedVariables false

abbrev sp (a b : Int) : Value := .agg #[.int .i64 a, .int .i64 b]
/-- Block B, older than what W makes next, holds these two numbers. -/
structure At2 (W : World) (B : Nat) (a b : Int) : Prop where
  lt : B < W.heap.size
  c0 : W.cell? ⟨B, 0, none⟩ = some (.int .i64 a)
  c1 : W.cell? ⟨B, 1, none⟩ = some (.int .i64 b)
  f0 : W.frozen? ⟨B, 0, none⟩ = false
  f1 : W.frozen? ⟨B, 1, none⟩ = false
theorem At2.new (w : World) (a b : Int) (T : TypeId) : At2 (w.alloc (.cells #[.int .i64 a, .int .i64 b] T)) w.heap.size a b :=
  ⟨by simp, by rw [World.cell?_alloc_at _ _ _ _ rfl]; rfl, by rw [World.cell?_alloc_at _ _ _ _ rfl]; rfl, World.frozen?_alloc_at _ _ _ _ rfl, World.frozen?_alloc_at _ _ _ _ rfl⟩
theorem At2.then {W W1 : World} {B : Nat} {a b : Int} (h : At2 W B a b) (k : Below W.heap.size W W1) : At2 W1 B a b :=
  ⟨Nat.lt_of_lt_of_le h.lt k.size, by rw [k.cell h.lt]; exact h.c0, by rw [k.cell h.lt]; exact h.c1, by rw [k.frozen h.lt]; exact h.f0, by rw [k.frozen h.lt]; exact h.f1⟩
theorem At2.al {W : World} {B : Nat} {a b : Int} (h : At2 W B a b) (o : Obj) : At2 (W.alloc o) B a b := h.then (bAl (Below.refl _ _) o)
theorem At2.set {W : World} {B : Nat} {a b : Int} (h : At2 W B a b) (x y : Int) : At2 ((W.setCell ⟨B, 0, none⟩ (.int .i64 x)).setCell ⟨B, 1, none⟩ (.int .i64 y)) B x y := by
  have n01 : (⟨B, 1, none⟩ : Addr) ≠ ⟨B, 0, none⟩ := by simp
  have n10 : (⟨B, 0, none⟩ : Addr) ≠ ⟨B, 1, none⟩ := by simp
  have k1 : (W.setCell ⟨B, 0, none⟩ (.int .i64 x)).cell? ⟨B, 1, none⟩ = some (.int .i64 b) := by rw [World.cell?_setCell_other (h := n10)]; exact h.c1
  refine ⟨by simp [World.setCell]; exact h.lt, ?_, World.cell?_setCell_same _ _ _ k1, ?_, ?_⟩
  · rw [World.cell?_setCell_other (h := n01)]; exact World.cell?_setCell_same _ _ _ h.c0
  · simp; exact h.f0
  · simp; exact h.f1
theorem At2.store {W : World} {B : Nat} {a b : Int} (h : At2 W B a b) {p : Addr} (hp : p.block ≠ B) (v : Value) : At2 (W.setCell p v) B a b := by
  have n0 : p ≠ ⟨B, 0, none⟩ := fun e => hp (by rw [e])
  have n1 : p ≠ ⟨B, 1, none⟩ := fun e => hp (by rw [e])
  exact ⟨by simp [World.setCell]; exact h.lt, by rw [World.cell?_setCell_other (h := n0)]; exact h.c0, by rw [World.cell?_setCell_other (h := n1)]; exact h.c1, by simp; exact h.f0, by simp; exact h.f1⟩
theorem At2.drew {W : World} {B : Nat} {a b : Int} (h : At2 W B a b) (n : Nat) : At2 (W.drewN n) B a b := ⟨h.lt, h.c0, h.c1, h.f0, h.f1⟩
theorem bSet {w W : World} {B : Nat} (h : Below w.heap.size w W) (hB : w.heap.size ≤ B) (x y : Value) : Below w.heap.size w ((W.setCell ⟨B, 0, none⟩ x).setCell ⟨B, 1, none⟩ y) := (h.setCell (p := ⟨B, 0, none⟩) hB _).setCell (p := ⟨B, 1, none⟩) hB _
/-- What a region keeps: one struct of the call's own, and what was there before the call. -/
theorem keep1 {w W W1 : World} {B : Nat} {a b : Int} (h : W.cell? ⟨B, 0, none⟩ = some (.int .i64 a) ∧ W.cell? ⟨B, 1, none⟩ = some (.int .i64 b) ∧ B < W.heap.size ∧ Below w.heap.size w W) (k : Below W.heap.size W W1) :
    W1.cell? ⟨B, 0, none⟩ = some (.int .i64 a) ∧ W1.cell? ⟨B, 1, none⟩ = some (.int .i64 b) ∧ B < W1.heap.size ∧ Below w.heap.size w W1 :=
  ⟨by rw [k.cell h.2.2.1]; exact h.1, by rw [k.cell h.2.2.1]; exact h.2.1, Nat.lt_of_lt_of_le h.2.2.1 k.size, bThen h.2.2.2 k⟩
theorem begin1 {w W : World} {B : Nat} {a b : Int} (h : At2 W B a b) (hb : Below w.heap.size w W) :
    W.drew.cell? ⟨B, 0, none⟩ = some (.int .i64 a) ∧ W.drew.cell? ⟨B, 1, none⟩ = some (.int .i64 b) ∧ B < W.drew.heap.size ∧ Below w.heap.size w W.drew := ⟨h.c0, h.c1, h.lt, hb.drew⟩
end Go.Proofs.Ytecdcfmbhphagaa
