/-
  PLAIN: the cells of an index; rows of texts with numbers in memory; what a call keeps of memory.
-/
import Derived.Test.YtecdcfmbhphagaaIMath
import Derived.Test.YtecdcfmbhphagaaGKit
import Derived.Test.YtecdcfmbhphagaaHSame
import Derived.Laws.AppendOwn
namespace Go.Proofs.Ytecdcfmbhphagaa.IX
open Go.RowKit HL
set_option maxRecDepth 100000
set_option linter.unusedVariables false
set_option linter.unusedSimpArgs false

abbrev ptr (B : Nat) : Value := .pointer (some ⟨B, 0, none⟩)
abbrev ixC (B : Nat) (v : Value) : Array Value := #[ptr B, v]
/-- The cells of rows. -/
def rowsV (l : List Rw) : List Value := l.flatMap fun r => [str r.1, .int .i64 r.2]
theorem rowsV_nil : rowsV [] = [] := rfl
theorem rowsV_cons (r : Rw) (l : List Rw) : rowsV (r :: l) = str r.1 :: .int .i64 r.2 :: rowsV l := rfl
theorem rowsV_app (a b : List Rw) : rowsV (a ++ b) = rowsV a ++ rowsV b := by simp [rowsV]
theorem rowsV_len (l : List Rw) : (rowsV l).length = l.length * 2 := by
  induction l with
  | nil => rfl
  | cons r l ih => rw [rowsV_cons]; simp [ih]; omega
theorem rowsV_take (l : List Rw) (k : Nat) : (rowsV l).take (k * 2) = rowsV (l.take k) := by
  induction l generalizing k with
  | nil => simp [rowsV_nil]
  | cons r l ih =>
    cases k with
    | zero => simp [rowsV_nil]
    | succ k => rw [show (k + 1) * 2 = k * 2 + 1 + 1 by omega, rowsV_cons, List.take_succ_cons, List.take_succ_cons, List.take_succ_cons, rowsV_cons, ih]
theorem rowsV_drop (l : List Rw) (k : Nat) : (rowsV l).drop (k * 2) = rowsV (l.drop k) := by
  induction l generalizing k with
  | nil => simp [rowsV_nil]
  | cons r l ih =>
    cases k with
    | zero => simp
    | succ k => rw [show (k + 1) * 2 = k * 2 + 1 + 1 by omega, rowsV_cons, List.drop_succ_cons, List.drop_succ_cons, List.drop_succ_cons, ih]
theorem rowsV_at {l : List Rw} {i : Nat} {r : Rw} (h : l[i]? = some r) : (rowsV l)[i * 2]? = some (str r.1) ∧ (rowsV l)[i * 2 + 1]? = some (.int .i64 r.2) := by
  induction l generalizing i with
  | nil => simp at h
  | cons x l ih =>
    cases i with
    | zero => simp at h; subst h; simp [rowsV_cons]
    | succ i =>
      simp at h
      rw [show (i + 1) * 2 = i * 2 + 1 + 1 by omega, show i * 2 + 1 + 1 + 1 = (i * 2 + 1) + 1 + 1 by omega, rowsV_cons]
      simpa using ih h
theorem rowsV_one (l : List Rw) : ∀ u ∈ rowsV l, u.oneCell' = true := by
  intro u hu
  obtain ⟨r, _, hr⟩ := List.mem_flatMap.1 hu
  simp at hr
  rcases hr with rfl | rfl <;> rfl

/-- The cells behind A, below block B, are the rows l. -/
def RdR (w : World) (B : Nat) (A : Option Addr) (l : List Rw) : Prop := l = [] ∨ ∃ b off, A = some ⟨b, off, none⟩ ∧ b < B ∧ ∀ j x, l[j]? = some x → w.cell? ⟨b, off + j * 2, none⟩ = some (str x.1) ∧ w.cell? ⟨b, off + j * 2 + 1, none⟩ = some (.int .i64 x.2)
theorem RdR.at_ {w : World} {B : Nat} {A : Option Addr} {l : List Rw} (h : RdR w B A l) (h0 : 0 < l.length) : ∃ b off, A = some ⟨b, off, none⟩ ∧ b < B ∧ ∀ j x, l[j]? = some x → w.cell? ⟨b, off + j * 2, none⟩ = some (str x.1) ∧ w.cell? ⟨b, off + j * 2 + 1, none⟩ = some (.int .i64 x.2) := by
  rcases h with rfl | h
  · simp at h0
  · exact h
theorem RdR.below {w w' : World} {B : Nat} {A : Option Addr} {l : List Rw} (h : RdR w B A l) (k : Below B w w') : RdR w' B A l := by
  rcases h with h | ⟨b, off, e, hb, hc⟩
  · exact .inl h
  · exact .inr ⟨b, off, e, hb, fun j x hx => ⟨(k.cell (p := ⟨b, _, none⟩) hb).trans (hc j x hx).1, (k.cell (p := ⟨b, _, none⟩) hb).trans (hc j x hx).2⟩⟩
theorem RdR.more {w : World} {B B' : Nat} {A : Option Addr} {l : List Rw} (h : RdR w B A l) (k : B ≤ B') : RdR w B' A l := by
  rcases h with h | ⟨b, off, e, hb, hc⟩
  · exact .inl h
  · exact .inr ⟨b, off, e, by omega, hc⟩
/-- All blocks that P names are as they were. -/
structure Kept (w w' : World) (P : Nat → Prop) : Prop where
  os : w'.os = w.os
  tape : w'.tape = w.tape
  output : w'.output = w.output
  size : w.heap.size ≤ w'.heap.size
  block : ∀ k, k < w.heap.size → P k → w'.heap[k]? = w.heap[k]?
theorem Kept.refl (w : World) (P : Nat → Prop) : Kept w w P := ⟨rfl, rfl, rfl, Nat.le_refl _, fun _ _ _ => rfl⟩
theorem Kept.of_below {w w' : World} {P : Nat → Prop} (h : Below w.heap.size w w') : Kept w w' P := ⟨h.os, h.tape, h.output, h.size, fun k hk _ => h.block k hk⟩
theorem Kept.weak {w w' : World} {P Q : Nat → Prop} (h : Kept w w' P) (hq : ∀ k, Q k → P k) : Kept w w' Q := ⟨h.os, h.tape, h.output, h.size, fun k hk q => h.block k hk (hq k q)⟩
theorem Kept.trans {a b c : World} {P : Nat → Prop} (h : Kept a b P) (k : Kept b c P) : Kept a c P :=
  ⟨k.os.trans h.os, k.tape.trans h.tape, k.output.trans h.output, Nat.le_trans h.size k.size, fun i hi p => (k.block i (Nat.lt_of_lt_of_le hi h.size) p).trans (h.block i hi p)⟩
/-- A later call may turn, besides, what was made since. -/
theorem Kept.trans' {a b c : World} {P Q : Nat → Prop} (h : Kept a b P) (k : Kept b c Q) (hq : ∀ i, i < a.heap.size → P i → Q i) : Kept a c P :=
  ⟨k.os.trans h.os, k.tape.trans h.tape, k.output.trans h.output, Nat.le_trans h.size k.size, fun i hi p => (k.block i (Nat.lt_of_lt_of_le hi h.size) (hq i hi p)).trans (h.block i hi p)⟩
theorem Kept.below {w w' : World} {P : Nat → Prop} {B : Nat} (h : Kept w w' P) (hB : B ≤ w.heap.size) (hp : ∀ k, k < B → P k) : Below B w w' :=
  ⟨h.os, h.tape, h.output, h.size, fun k hk => h.block k (by omega) (hp k hk)⟩
theorem Kept.cell {w w' : World} {P : Nat → Prop} (h : Kept w w' P) {b o : Nat} {sp : _} (hb : b < w.heap.size) (hp : P b) : w'.cell? ⟨b, o, sp⟩ = w.cell? ⟨b, o, sp⟩ := World.cell?_of_block (h.block b hb hp)
theorem Kept.frozen {w w' : World} {P : Nat → Prop} (h : Kept w w' P) {b o : Nat} {sp : _} (hb : b < w.heap.size) (hp : P b) : w'.frozen? ⟨b, o, sp⟩ = w.frozen? ⟨b, o, sp⟩ := World.frozen?_of_block (h.block b hb hp)
theorem Kept.atC {W W1 : World} {B : Nat} {C : Array Value} {P : Nat → Prop} (k : Kept W W1 P) (h : AtC W B C) (hp : P B) : AtC W1 B C :=
  ⟨Nat.lt_of_lt_of_le h.lt k.size, fun i => by rw [k.cell h.lt hp]; exact h.c i, fun i => by rw [k.frozen h.lt hp]; exact h.f i⟩
theorem Kept.set {w W : World} {P : Nat → Prop} (h : Kept w W P) {B i : Nat} (hB : B < w.heap.size → ¬ P B) (v : Value) : Kept w (W.setCell ⟨B, i, none⟩ v) P := by
  refine ⟨h.os, h.tape, h.output, by simpa [World.setCell] using h.size, fun k hk p => ?_⟩
  rw [Below.heap_setCell _ _ _ _ (fun e => by have e2 : k = B := e; subst e2; exact hB hk p)]
  exact h.block k hk p
theorem Kept.alloc {w W : World} {P : Nat → Prop} (h : Kept w W P) (o : Obj) : Kept w (W.alloc o) P :=
  ⟨h.os, h.tape, h.output, Nat.le_trans h.size (by simp), fun k hk p => (Below.heap_alloc W o k (Nat.lt_of_lt_of_le hk h.size)).trans (h.block k hk p)⟩
theorem Kept.grown {w W W' : World} {P : Nat → Prop} (h : Kept w W P) {r : Option Nat} (g : W.grownBy W' r) (hr : ∀ k, r = some k → k < w.heap.size → ¬ P k) : Kept w W' P :=
  ⟨g.os.trans h.os, g.tape.trans h.tape, g.output.trans h.output, Nat.le_trans h.size g.size, fun k hk p => (g.block k (Nat.lt_of_lt_of_le hk h.size) (fun e => hr k e.symm hk p)).trans (h.block k hk p)⟩
theorem Kept.then {w W W' : World} {P : Nat → Prop} (h : Kept w W P) (b : Below W.heap.size W W') : Kept w W' P := h.trans (.of_below b)
theorem ownsRow_kept {w w' : World} {P : Nat → Prop} {base : Nat} {e : TypeId} {size n : Nat} {v : Value} {xs : List Value} (h : w.ownsRow base e size v n xs) (k : Kept w w' P) (hp : ∀ b, v.ownBlock = some b → P b) : w'.ownsRow base e size v n xs := by
  have hlt := h.lt
  refine ⟨h.1, ?_⟩
  rcases h.2 with h2 | ⟨g, cap, cur, rfl, hg, hh, r⟩
  · exact .inl h2
  · exact .inr ⟨g, cap, cur, rfl, hg, by rw [k.block g (hlt g rfl).2 (hp g rfl)]; exact hh, r⟩

end Go.Proofs.Ytecdcfmbhphagaa.IX
