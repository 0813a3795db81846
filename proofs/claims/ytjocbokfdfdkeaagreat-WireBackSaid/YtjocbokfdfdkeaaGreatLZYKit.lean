/-
  PLAIN: readers and writers in memory.
-/
import Derived.Test.YtjocbokfdfdkeaaGreatYMath
import Derived.Test.YtjocbokfdfdkeaaGreatLZIOwn
import Derived.Test.YtjocbokfdfdkeaaGreatLZ3
import Derived.Laws.IdiomStrings
import Derived.Recover
namespace Go.Proofs.YtjocbokfdfdkeaaGreat.YX
open Go.RowKit HL
open IX (ptr El cellsK cellsK_at cellsK_len OwnK RdK Kept)
set_option maxRecDepth 100000
set_option linter.unusedVariables false
set_option linter.unusedSimpArgs false

abbrev u8 (b : UInt8) : Value := .int .u8 (b.toNat : Int)
noncomputable def u8K : El UInt8 where
  T := 39
  e := 5
  size := 1
  bytes := 1
  z := .int .u8 0
  i := IX.infoOf 5
  enc := fun x => [u8 x]
  el := by kernel_rfl
  ht := Tryz.underlying39
  hi := by kernel_rfl
  hz := by kernel_rfl
  hs := by kernel_rfl
  hb := by kernel_rfl
  hzs := rfl
  pos := by decide
  len := fun _ => rfl
  one := fun _ u hu => by simp at hu; subst hu; rfl
  small := by decide
/-- The cells behind A, below block B, are the bytes l. -/
def RdY (w : World) (B : Nat) (A : Option Addr) (l : Bs) : Prop := l = [] ∨ ∃ b off, A = some ⟨b, off, none⟩ ∧ b < B ∧ ∀ j x, l[j]? = some x → w.cell? ⟨b, off + j, none⟩ = some (u8 x)
theorem RdY.at_ {w : World} {B : Nat} {A : Option Addr} {l : Bs} (h : RdY w B A l) (h0 : 0 < l.length) : ∃ b off, A = some ⟨b, off, none⟩ ∧ b < B ∧ ∀ j x, l[j]? = some x → w.cell? ⟨b, off + j, none⟩ = some (u8 x) := by
  rcases h with rfl | h
  · simp at h0
  · exact h
theorem rdY {w : World} {B : Nat} {A : Option Addr} {l : Bs} (h : RdK u8K w B A l) : RdY w B A l := by
  rcases h with h | ⟨b, off, e, hb, hc⟩
  · exact .inl h
  · refine .inr ⟨b, off, e, hb, fun j x hx => ?_⟩
    have h0 := hc _ _ (cellsK_at u8K hx (i := 0) (u := u8 x) rfl)
    have e1 : j * u8K.size + 0 = j := by show j * 1 + 0 = j; omega
    rwa [e1] at h0
theorem cells8 (l : Bs) : cellsK u8K l = l.map u8 := by
  induction l with
  | nil => rfl
  | cons x l ih => show u8 x :: cellsK u8K l = _; rw [ih]; rfl
theorem rdY_back {w : World} {B : Nat} {A : Option Addr} {l : Bs} (h : RdY w B A l) : RdK u8K w B A l := by
  rcases h with h | ⟨b, off, e, hb, hc⟩
  · exact .inl h
  · refine .inr ⟨b, off, e, hb, fun m u hu => ?_⟩
    rw [cells8, List.getElem?_map] at hu
    obtain ⟨x, hx, rfl⟩ := Option.map_eq_some_iff.1 hu
    exact hc m x hx
/-- string(b). -/
theorem conv_str {w : World} {B n c : Nat} {A : Option Addr} {l : Bs} (h : RdK u8K w B A l) (hn : l.length = n) : (convert 39 9 (.slice A n c)).run Tryz.prog w = .ok (str l) w := by
  subst hn
  cases l with
  | nil =>
    cases A with
    | none => exact run_convert_bytes_nil w 39 5 Tryz.underlying39 Tryz.underlying5 0 c 9 Tryz.underlying9
    | some a => exact run_convert_bytes_back w 39 9 5 a c [] Tryz.underlying39 Tryz.underlying5 Tryz.underlying9 (fun j hj => by simp at hj)
  | cons x l =>
    obtain ⟨b, off, rfl, hb, hc⟩ := (rdY h).at_ (by simp)
    refine run_convert_bytes_back w 39 9 5 ⟨b, off, none⟩ c (x :: l) Tryz.underlying39 Tryz.underlying5 Tryz.underlying9 (fun j hj => ?_)
    have e : (⟨b, off, none⟩ : Addr).add j = ⟨b, off + j, none⟩ := by unfold Addr.add; split <;> simp_all
    rw [e]
    exact hc j _ (by simp [hj])
/-- Block B, of type T, holds these cells, and may be written. -/
def AtH (w : World) (B : Nat) (T : TypeId) (C : Array Value) : Prop := w.heap[B]? = some (.cells C T (0, 0))
theorem AtH.at_ {w : World} {B : Nat} {T : TypeId} {C : Array Value} (h : AtH w B T C) : AtC w B C := by
  refine ⟨(Array.getElem?_eq_some_iff.1 h).1, fun i => ?_, fun i => ?_⟩
  · exact cell_of_row w B i C T (0, 0) h
  · have h : w.heap[B]? = some (.cells C T (0, 0)) := h
    simp [World.frozen?, h]
theorem AtH.lt {w : World} {B : Nat} {T : TypeId} {C : Array Value} (h : AtH w B T C) : B < w.heap.size := h.at_.lt
theorem AtH.kept {w w' : World} {B : Nat} {T : TypeId} {C : Array Value} {P : Nat → Prop} (h : AtH w B T C) (k : Kept w w' P) (hp : P B) : AtH w' B T C := (k.block B h.lt hp).trans h
theorem AtH.below {w w' : World} {B : Nat} {T : TypeId} {C : Array Value} (h : AtH w B T C) (k : Below w.heap.size w w') : AtH w' B T C := (k.block B h.lt).trans h
theorem AtH.new (w : World) (T : TypeId) (C : Array Value) : AtH (w.alloc (.cells C T)) w.heap.size T C := by unfold AtH World.alloc; simp
theorem AtH.row {w : World} {B : Nat} {T : TypeId} {C : Array Value} (h : AtH w B T C) (C' : Array Value) : AtH (w.setRow B C') B T C' := setRow_heap w B C C' T (0, 0) h
theorem AtH.set {w : World} {B : Nat} {T : TypeId} {C : Array Value} (h : AtH w B T C) (i : Nat) (v : Value) : AtH (w.setCell ⟨B, i, none⟩ v) B T (C.setIfInBounds i v) := by
  rw [setCell_eq_setRow w B i C T (0, 0) v h]
  exact h.row _
theorem AtH.drew {w : World} {B : Nat} {T : TypeId} {C : Array Value} (h : AtH w B T C) (n : Nat) : AtH (w.drewN n) B T C := h
theorem _root_.Go.Proofs.YtjocbokfdfdkeaaGreat.IX.Kept.row {w W : World} {P : Nat → Prop} (h : Kept w W P) {B : Nat} (hB : ¬ P B) (C : Array Value) : Kept w (W.setRow B C) P := by
  refine ⟨by simpa using h.os, by simpa using h.tape, by simpa using h.output, by simpa using h.size, fun k hk p => ?_⟩
  have hk2 : k ≠ B := fun e => hB (by rw [← e]; exact p)
  rw [setRow_other _ _ _ _ hk2]
  exact h.block k hk p
theorem _root_.Go.Proofs.YtjocbokfdfdkeaaGreat.IX.Kept.drew {w W : World} {P : Nat → Prop} (h : Kept w W P) (n : Nat) : Kept w (W.drewN n) P := ⟨h.os, h.tape, h.output, h.size, h.block⟩
theorem _root_.Go.Proofs.YtjocbokfdfdkeaaGreat.IX.Kept.al {w W : World} {P : Nat → Prop} (h : Kept w W P) (o : Obj) : Kept w (W.alloc o) P := h.trans (.of_below (bAl (Below.refl _ _) o))
theorem _root_.Go.Proofs.YtjocbokfdfdkeaaGreat.AtC.kept {W W1 : World} {B : Nat} {C : Array Value} {P : Nat → Prop} (h : AtC W B C) (k : Kept W W1 P) (hp : P B) : AtC W1 B C :=
  ⟨Nat.lt_of_lt_of_le h.lt k.size, fun i => by rw [k.cell h.lt hp]; exact h.c i, fun i => by rw [k.frozen h.lt hp]; exact h.f i⟩
/-- A reader: what is left, or it has failed. (The document's is laid just so.) -/
def RAt (w : World) (B : Nat) (s : Option Bs) : Prop :=
  match s with
  | some l => ∃ A c, AtC w B #[.slice A l.length c, .bool false] ∧ RdK u8K w B A l ∧ l.length ≤ c
  | none => AtC w B #[.slice none 0 0, .bool true]
theorem RAt.kept {w w' : World} {B : Nat} {s : Option Bs} {P : Nat → Prop} (h : RAt w B s) (k : Kept w w' P) (hp : ∀ j, j ≤ B → P j) : RAt w' B s := by
  cases s with
  | none => exact AtC.kept h k (hp B (Nat.le_refl _))
  | some l =>
    obtain ⟨A, c, h1, h2, h3⟩ := h
    refine ⟨A, c, h1.kept k (hp B (Nat.le_refl _)), ?_, h3⟩
    rcases h2 with h | ⟨b, off, rfl, hb, hc⟩
    · exact .inl h
    · exact .inr ⟨b, off, rfl, hb, fun m u hu => (k.cell (Nat.lt_trans hb h1.lt) (hp b (Nat.le_of_lt hb))).trans (hc m u hu)⟩
theorem RAt.below {w w' : World} {B : Nat} {s : Option Bs} (h : RAt w B s) (k : Below w.heap.size w w') : RAt w' B s := h.kept (P := fun _ => True) (.of_below k) (fun _ _ => trivial)
theorem RAt.lt {w : World} {B : Nat} {s : Option Bs} (h : RAt w B s) : B < w.heap.size := by
  cases s with
  | none => exact AtC.lt h
  | some l => obtain ⟨A, c, h1, _⟩ := h; exact h1.lt
/-- Another one's block was written alone. -/
theorem RAt.other {w w' : World} {B B2 : Nat} {s : Option Bs} (h : RAt w B s) (k : Kept w w' (· ≠ B2)) (hne : B < B2) : RAt w' B s := h.kept k (fun j hj => by show j ≠ B2; omega)
end Go.Proofs.YtjocbokfdfdkeaaGreat.YX
