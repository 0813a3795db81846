/-
  PLAIN: blocks of a call's own, behind callees that leave what is below alone.
-/
import Derived.Test.YtecdcfmbhphagaaChecked
import Derived.WalkKit
import Derived.Below
import Derived.Lib.Hide
import Derived.IntWalk
import Derived.Deep.QuietTactic
import Derived.Laws.World
import Derived.Laws.ResultCell
namespace Go.Proofs.Ytecdcfmbhphagaa
open Go.RowKit
set_option maxRecDepth 100000
set_option linter.unusedVariables false

theorem bAl {w W : World} (h : Below w.heap.size w W) (o : Obj) : Below w.heap.size w (W.alloc o) := h.alloc h.size o
theorem bThen {w W W1 : World} (h : Below w.heap.size w W) (k : Below W.heap.size W W1) : Below w.heap.size w W1 := h.trans (k.mono h.size)
theorem bDrew {w W : World} (h : Below w.heap.size w W) (n : Nat) : Below w.heap.size w (W.drewN n) := h.trans ⟨rfl, rfl, rfl, Nat.le_refl _, fun _ _ => rfl⟩
theorem bStore {w W : World} (h : Below w.heap.size w W) {p : Addr} (hp : w.heap.size ≤ p.block) (x : Value) : Below w.heap.size w (W.setCell p x) := h.setCell hp _
/-- Block B, older than what W makes next, holds these cells, and may be written. -/
structure AtC (W : World) (B : Nat) (C : Array Value) : Prop where
  lt : B < W.heap.size
  c : ∀ i, W.cell? ⟨B, i, none⟩ = C[i]?
  f : ∀ i, W.frozen? ⟨B, i, none⟩ = false
theorem AtC.new (w : World) (C : Array Value) (T : TypeId) : AtC (w.alloc (.cells C T)) w.heap.size C :=
  ⟨by simp, fun i => World.cell?_alloc_at _ _ _ _ rfl, fun i => World.frozen?_alloc_at _ _ _ _ rfl⟩
theorem AtC.newAt {w : World} {B : Nat} {C : Array Value} {T : TypeId} (h : B = w.heap.size) : AtC (w.alloc (.cells C T)) B C := h ▸ AtC.new w C T
theorem AtC.then {W W1 : World} {B : Nat} {C : Array Value} (h : AtC W B C) (k : Below W.heap.size W W1) : AtC W1 B C :=
  ⟨Nat.lt_of_lt_of_le h.lt k.size, fun i => by rw [k.cell h.lt]; exact h.c i, fun i => by rw [k.frozen h.lt]; exact h.f i⟩
theorem AtC.al {W : World} {B : Nat} {C : Array Value} (h : AtC W B C) (o : Obj) : AtC (W.alloc o) B C := h.then (bAl (Below.refl _ _) o)
theorem AtC.drew1 {W : World} {B : Nat} {C : Array Value} (h : AtC W B C) : AtC W.drew B C := ⟨h.lt, h.c, h.f⟩
theorem AtC.set {W : World} {B : Nat} {C : Array Value} (h : AtC W B C) {i : Nat} (hi : i < C.size) (v : Value) : AtC (W.setCell ⟨B, i, none⟩ v) B (C.setIfInBounds i v) := by
  refine ⟨by simp [World.setCell]; exact h.lt, fun j => ?_, fun j => by simp; exact h.f j⟩
  by_cases e : i = j
  · subst e
    have h1 : W.cell? ⟨B, i, none⟩ = some C[i] := by rw [h.c i]; simp [hi]
    rw [World.cell?_setCell_same _ _ _ h1]
    simp [hi]
  · have n0 : (⟨B, i, none⟩ : Addr) ≠ ⟨B, j, none⟩ := fun x => e (by injection x)
    rw [World.cell?_setCell_other (h := n0), h.c j, Array.getElem?_setIfInBounds_ne e]
theorem AtC.store {W : World} {B : Nat} {C : Array Value} (h : AtC W B C) {p : Addr} (hp : p.block ≠ B) (v : Value) : AtC (W.setCell p v) B C := by
  refine ⟨by simp [World.setCell]; exact h.lt, fun j => ?_, fun j => by simp; exact h.f j⟩
  have n0 : p ≠ ⟨B, j, none⟩ := fun x => hp (by rw [x])
  rw [World.cell?_setCell_other (h := n0)]; exact h.c j
set_option maxHeartbeats 2000000 in
/-- A whole object stored. -/
theorem AtC.fill {W : World} {B : Nat} {C : Array Value} (h : AtC W B C) (hC : C.size = 14) (v0 v1 v2 v3 v4 v5 v6 v7 v8 v9 v10 v11 v12 v13 : Value) :
    AtC ((((((((((((((W.setCell ⟨B, 0, none⟩ v0).setCell ⟨B, 1, none⟩ v1).setCell ⟨B, 2, none⟩ v2).setCell ⟨B, 3, none⟩ v3).setCell ⟨B, 4, none⟩ v4).setCell ⟨B, 5, none⟩ v5).setCell ⟨B, 6, none⟩ v6).setCell ⟨B, 7, none⟩ v7).setCell ⟨B, 8, none⟩ v8).setCell ⟨B, 9, none⟩ v9).setCell ⟨B, 10, none⟩ v10).setCell ⟨B, 11, none⟩ v11).setCell ⟨B, 12, none⟩ v12).setCell ⟨B, 13, none⟩ v13) B #[v0, v1, v2, v3, v4, v5, v6, v7, v8, v9, v10, v11, v12, v13] := by
  have e : ((((((((((((((C.setIfInBounds 0 v0).setIfInBounds 1 v1).setIfInBounds 2 v2).setIfInBounds 3 v3).setIfInBounds 4 v4).setIfInBounds 5 v5).setIfInBounds 6 v6).setIfInBounds 7 v7).setIfInBounds 8 v8).setIfInBounds 9 v9).setIfInBounds 10 v10).setIfInBounds 11 v11).setIfInBounds 12 v12).setIfInBounds 13 v13) = #[v0, v1, v2, v3, v4, v5, v6, v7, v8, v9, v10, v11, v12, v13] := by
    obtain ⟨l⟩ := C
    match l, hC with
    | [_, _, _, _, _, _, _, _, _, _, _, _, _, _], _ => simp only [List.setIfInBounds_toArray, List.set_cons_zero, List.set_cons_succ]
  rw [← e]
  exact (AtC.set (AtC.set (AtC.set (AtC.set (AtC.set (AtC.set (AtC.set (AtC.set (AtC.set (AtC.set (AtC.set (AtC.set (AtC.set (AtC.set h (i := 0) (by simp [hC]) v0) (i := 1) (by simp [hC]) v1) (i := 2) (by simp [hC]) v2) (i := 3) (by simp [hC]) v3) (i := 4) (by simp [hC]) v4) (i := 5) (by simp [hC]) v5) (i := 6) (by simp [hC]) v6) (i := 7) (by simp [hC]) v7) (i := 8) (by simp [hC]) v8) (i := 9) (by simp [hC]) v9) (i := 10) (by simp [hC]) v10) (i := 11) (by simp [hC]) v11) (i := 12) (by simp [hC]) v12) (i := 13) (by simp [hC]) v13)
theorem bFill {w W : World} {B : Nat} (h : Below w.heap.size w W) (hB : w.heap.size ≤ B) (v0 v1 v2 v3 v4 v5 v6 v7 v8 v9 v10 v11 v12 v13 : Value) : Below w.heap.size w ((((((((((((((W.setCell ⟨B, 0, none⟩ v0).setCell ⟨B, 1, none⟩ v1).setCell ⟨B, 2, none⟩ v2).setCell ⟨B, 3, none⟩ v3).setCell ⟨B, 4, none⟩ v4).setCell ⟨B, 5, none⟩ v5).setCell ⟨B, 6, none⟩ v6).setCell ⟨B, 7, none⟩ v7).setCell ⟨B, 8, none⟩ v8).setCell ⟨B, 9, none⟩ v9).setCell ⟨B, 10, none⟩ v10).setCell ⟨B, 11, none⟩ v11).setCell ⟨B, 12, none⟩ v12).setCell ⟨B, 13, none⟩ v13) := (bStore (bStore (bStore (bStore (bStore (bStore (bStore (bStore (bStore (bStore (bStore (bStore (bStore (bStore h (p := ⟨B, 0, none⟩) hB v0) (p := ⟨B, 1, none⟩) hB v1) (p := ⟨B, 2, none⟩) hB v2) (p := ⟨B, 3, none⟩) hB v3) (p := ⟨B, 4, none⟩) hB v4) (p := ⟨B, 5, none⟩) hB v5) (p := ⟨B, 6, none⟩) hB v6) (p := ⟨B, 7, none⟩) hB v7) (p := ⟨B, 8, none⟩) hB v8) (p := ⟨B, 9, none⟩) hB v9) (p := ⟨B, 10, none⟩) hB v10) (p := ⟨B, 11, none⟩) hB v11) (p := ⟨B, 12, none⟩) hB v12) (p := ⟨B, 13, none⟩) hB v13)
theorem keepD {W0 W W1 : World} {C : Prop} (h : C ∧ Below W0.heap.size W0 W) (k : Below W.heap.size W W1) : Below W0.heap.size W0 W1 := bThen h.2 k
end Go.Proofs.Ytecdcfmbhphagaa
