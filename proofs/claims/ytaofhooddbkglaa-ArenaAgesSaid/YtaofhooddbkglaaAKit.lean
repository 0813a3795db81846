/-
  PLAIN: the cells of an arena that holds these slots and ages; what a call keeps of memory.
-/
import Derived.Test.YtaofhooddbkglaaAMath
import Derived.Test.YtaofhooddbkglaaGKit
import Derived.Laws.AppendOwn
namespace Go.Proofs.Ytaofhooddbkglaa
open Go.RowKit
set_option maxRecDepth 100000
set_option linter.unusedVariables false
set_option linter.unusedSimpArgs false

/-- Slots: which are taken; how often each was. -/
structure Ar where
  tk : List Bool
  ag : List Nat
def agesV (ag : List Nat) : List Value := (List.range 64).map fun i => Value.int .i64 (ag.getD i 0 : Int)
def arC (B : Nat) (s : Ar) : Array Value := (([.pointer (some ⟨B, 0, none⟩), .int .i64 s.tk.length, .int .u64 (bitsN s.tk : Int)] : List Value) ++ agesV s.ag).toArray
theorem arC_size (B : Nat) (s : Ar) : (arC B s).size = 67 := by simp [arC, agesV]
theorem arC_0 (B : Nat) (s : Ar) : (arC B s)[0]? = some (.pointer (some ⟨B, 0, none⟩)) := by simp [arC]
theorem arC_1 (B : Nat) (s : Ar) : (arC B s)[1]? = some (.int .i64 s.tk.length) := by simp [arC]
theorem arC_2 (B : Nat) (s : Ar) : (arC B s)[2]? = some (.int .u64 (bitsN s.tk : Int)) := by simp [arC]
theorem arC_3 (B : Nat) (s : Ar) {k : Nat} (h : k < 64) : (arC B s)[3 + k]? = some (.int .i64 (s.ag.getD k 0 : Int)) := by
  rw [show 3 + k = k + 1 + 1 + 1 by omega]
  simp [arC, agesV, h]
theorem arC_set2 (B : Nat) (s : Ar) (k : Nat) (b : Bool) : (arC B s).setIfInBounds 2 (.int .u64 (bitsN (s.tk.set k b) : Int)) = arC B ⟨s.tk.set k b, s.ag⟩ := by
  simp [arC]
theorem agesV_set (ag : List Nat) {k : Nat} (h : k < 64) (hl : k < ag.length) (x : Nat) : (agesV ag).set k (.int .i64 (x : Int)) = agesV (ag.set k x) := by
  apply List.ext_getElem?
  intro i
  simp only [agesV, List.getElem?_set, List.getElem?_map, List.getD_eq_getElem?_getD]
  by_cases e : k = i
  · subst e; simp [h, hl]
  · rcases hi : (List.range 64)[i]? with _ | j
    · simp [e]
    · have hj : j = i := by
        have := (List.getElem?_eq_some_iff.1 hi).2
        simpa using this.symm
      subst hj
      simp [e]
theorem arC_set3 (B : Nat) (s : Ar) {k : Nat} (h : k < 64) (hl : k < s.ag.length) (x : Nat) : (arC B s).setIfInBounds (3 + k) (.int .i64 (x : Int)) = arC B ⟨s.tk, s.ag.set k x⟩ := by
  rw [show 3 + k = k + 1 + 1 + 1 by omega]
  simp only [arC, List.setIfInBounds_toArray, List.cons_append, List.nil_append, List.set_cons_succ]
  rw [agesV_set _ h hl]

/-- All blocks that P names are as they were. -/
structure Kept (w w' : World) (P : Nat → Prop) : Prop where
  os : w'.os = w.os
  tape : w'.tape = w.tape
  output : w'.output = w.output
  size : w.heap.size ≤ w'.heap.size
  block : ∀ k, k < w.heap.size → P k → w'.heap[k]? = w.heap[k]?
theorem Kept.refl (w : World) (P : Nat → Prop) : Kept w w P := ⟨rfl, rfl, rfl, Nat.le_refl _, fun _ _ _ => rfl⟩
theorem Kept.of_below {w w' : World} {P : Nat → Prop} (h : Below w.heap.size w w') : Kept w w' P := ⟨h.os, h.tape, h.output, h.size, fun k hk _ => h.block k hk⟩
theorem Kept.weak {w w' : World} {P Q : Nat → Prop} (h : Kept w w' P) (hq : ∀ k, Q k → P k) : Kept w w' Q := ⟨h.os, h.tape, h.output, h.size, fun k hk q => h.block k hk (hq k q)⟩
theorem Kept.trans {a b c : World} {P : Nat → Prop} (h : Kept a b P) (k : Kept b c P) : Kept a c P :=
  ⟨k.os.trans h.os, k.tape.trans h.tape, k.output.trans h.output, Nat.le_trans h.size k.size, fun i hi p => (k.block i (Nat.lt_of_lt_of_le hi h.size) p).trans (h.block i hi p)⟩
theorem Kept.below {w w' : World} {P : Nat → Prop} {B : Nat} (h : Kept w w' P) (hB : B ≤ w.heap.size) (hp : ∀ k, k < B → P k) : Below B w w' :=
  ⟨h.os, h.tape, h.output, h.size, fun k hk => h.block k (by omega) (hp k hk)⟩
theorem Kept.cell {w w' : World} {P : Nat → Prop} (h : Kept w w' P) {b o : Nat} {sp : _} (hb : b < w.heap.size) (hp : P b) : w'.cell? ⟨b, o, sp⟩ = w.cell? ⟨b, o, sp⟩ := World.cell?_of_block (h.block b hb hp)
theorem Kept.frozen {w w' : World} {P : Nat → Prop} (h : Kept w w' P) {b o : Nat} {sp : _} (hb : b < w.heap.size) (hp : P b) : w'.frozen? ⟨b, o, sp⟩ = w.frozen? ⟨b, o, sp⟩ := World.frozen?_of_block (h.block b hb hp)
theorem AtC.kept {W W1 : World} {B : Nat} {C : Array Value} {P : Nat → Prop} (h : AtC W B C) (k : Kept W W1 P) (hp : P B) : AtC W1 B C :=
  ⟨Nat.lt_of_lt_of_le h.lt k.size, fun i => by rw [k.cell h.lt hp]; exact h.c i, fun i => by rw [k.frozen h.lt hp]; exact h.f i⟩
theorem Kept.set {w W : World} {P : Nat → Prop} (h : Kept w W P) {B i : Nat} (hB : ¬ P B) (v : Value) : Kept w (W.setCell ⟨B, i, none⟩ v) P := by
  refine ⟨h.os, h.tape, h.output, by simpa [World.setCell] using h.size, fun k hk p => ?_⟩
  rw [Below.heap_setCell _ _ _ _ (fun e => hB (by have : k = B := e; exact this ▸ p))]
  exact h.block k hk p
theorem bKept {w W W1 : World} {P : Nat → Prop} (h : Below w.heap.size w W) (k : Kept W W1 P) (hp : ∀ i, i < w.heap.size → P i) : Below w.heap.size w W1 := h.trans (k.below h.size hp)
end Go.Proofs.Ytaofhooddbkglaa
