/-
  PLAIN: rows of objects as a list (for the layers from wf on): a kind of element of 14 cells.
-/
import Derived.Test.YtjocbokfdfdkeaaGreatLZIOwn
import Derived.Test.YtjocbokfdfdkeaaGreatLZ0
import Derived.Laws.StructEq
import Derived.Laws.Tables
import Derived.Laws.Cells
namespace Go.Proofs.YtjocbokfdfdkeaaGreat.WX
open Go.RowKit HL
open IX (ptr El cellsK cellsK_at OwnK RdK)
set_option maxRecDepth 100000
set_option linter.unusedVariables false
set_option linter.unusedSimpArgs false
abbrev hb (o : Ob) : Bs := o.handle.data.toList
abbrev pb (o : Ob) : Bs := o.parent.data.toList
abbrev rb (o : Ob) : Bs := o.ref.data.toList
noncomputable def obK : El Ob where
  T := 115
  e := 24
  size := 14
  bytes := (IX.infoOf 24).bytes
  z := ob zeroOb
  i := IX.infoOf 24
  enc := fun o => (obCells o).toList
  el := by kernel_rfl
  ht := Tryz.underlying115
  hi := by kernel_rfl
  hz := by kernel_rfl
  hs := by kernel_rfl
  hb := rfl
  hzs := rfl
  pos := by decide
  len := fun _ => rfl
  one := fun _ u hu => by simp at hu; rcases hu with rfl | rfl | rfl | rfl | rfl | rfl | rfl | rfl | rfl | rfl | rfl | rfl | rfl | rfl <;> rfl
  small := of_decide_eq_true (by kernel_rfl)
theorem obs_at {w : World} {B : Nat} {A : Option Addr} {l : List Ob} (h : RdK obK w B A l) (h0 : 0 < l.length) : ∃ b off, A = some ⟨b, off, none⟩ ∧ b < B ∧ ∀ j o, l[j]? = some o → w.cell? ⟨b, off + j * 14, none⟩ = some (.string o.handle) ∧ w.cell? ⟨b, off + j * 14 + 1, none⟩ = some (.int .u8 o.kind) ∧ w.cell? ⟨b, off + j * 14 + 2, none⟩ = some (.string o.parent) ∧ w.cell? ⟨b, off + j * 14 + 3, none⟩ = some (.int .u8 o.typ) ∧ w.cell? ⟨b, off + j * 14 + 4, none⟩ = some (.string o.ref) ∧ w.cell? ⟨b, off + j * 14 + 5, none⟩ = some (.int .i64 o.lo) ∧ w.cell? ⟨b, off + j * 14 + 6, none⟩ = some (.int .i64 o.hi) ∧ w.cell? ⟨b, off + j * 14 + 7, none⟩ = some (.int .u8 o.digits) ∧ w.cell? ⟨b, off + j * 14 + 8, none⟩ = some (.bool o.on) ∧ w.cell? ⟨b, off + j * 14 + 9, none⟩ = some (.bool o.has) ∧ w.cell? ⟨b, off + j * 14 + 10, none⟩ = some (.int .i64 o.value) ∧ w.cell? ⟨b, off + j * 14 + 11, none⟩ = some (.int .i64 o.low) ∧ w.cell? ⟨b, off + j * 14 + 12, none⟩ = some (.int .i64 o.high) ∧ w.cell? ⟨b, off + j * 14 + 13, none⟩ = some (.int .u8 o.assoc) := by
  rcases h with rfl | ⟨b, off, e, hb, hc⟩
  · simp at h0
  · refine ⟨b, off, e, hb, fun j o hx => ?_⟩
    have q : ∀ (i : Nat) (u : Value), (obCells o)[i]? = some u → w.cell? ⟨b, off + j * 14 + i, none⟩ = some u := fun i u hu => by
      have := hc _ _ (cellsK_at obK hx (i := i) (u := u) (by rw [← hu]; exact Array.getElem?_toList))
      rw [Nat.add_assoc]; exact this
    exact ⟨q 0 _ rfl, q 1 _ rfl, q 2 _ rfl, q 3 _ rfl, q 4 _ rfl, q 5 _ rfl, q 6 _ rfl, q 7 _ rfl, q 8 _ rfl, q 9 _ rfl, q 10 _ rfl, q 11 _ rfl, q 12 _ rfl, q 13 _ rfl⟩
theorem tl_ne {a b : ByteArray} (h : a ≠ b) : (a.toList == b.toList) = false := by
  rw [beq_eq_false_iff_ne, ne_eq, ByteArray.toList_eq, ByteArray.toList_eq]
  intro e; apply h
  obtain ⟨⟨x⟩⟩ := a
  obtain ⟨⟨y⟩⟩ := b
  simp at e; rw [e]
theorem bs_eq {a b : ByteArray} (h : a.data.toList = b.data.toList) : a = b := by
  obtain ⟨⟨x⟩⟩ := a
  obtain ⟨⟨y⟩⟩ := b
  simp at h
  rw [h]
end Go.Proofs.YtjocbokfdfdkeaaGreat.WX
/-
  PLAIN: a change's fields; rows of changes as a list: a kind of element of 15 cells.
-/
namespace Go.Proofs.YtjocbokfdfdkeaaGreat.DX
open Go.RowKit HL
open IX (ptr El cellsK cellsK_at OwnK RdK)
open WX (hb pb rb tl_ne bs_eq)
set_option maxRecDepth 100000
set_option linter.unusedVariables false
set_option linter.unusedSimpArgs false

/-- A change's fields: its kind and its object. -/
structure Ch where
  kind : Nat
  o : Ob
abbrev chCells (c : Ch) : Array Value := #[.int .u8 c.kind, .string c.o.handle, .int .u8 c.o.kind, .string c.o.parent, .int .u8 c.o.typ, .string c.o.ref, .int .i64 c.o.lo, .int .i64 c.o.hi, .int .u8 c.o.digits, .bool c.o.on, .bool c.o.has, .int .i64 c.o.value, .int .i64 c.o.low, .int .i64 c.o.high, .int .u8 c.o.assoc]
abbrev ch (c : Ch) : Value := .agg #[.int .u8 c.kind, .string c.o.handle, .int .u8 c.o.kind, .string c.o.parent, .int .u8 c.o.typ, .string c.o.ref, .int .i64 c.o.lo, .int .i64 c.o.hi, .int .u8 c.o.digits, .bool c.o.on, .bool c.o.has, .int .i64 c.o.value, .int .i64 c.o.low, .int .i64 c.o.high, .int .u8 c.o.assoc]
def zeroCh : Ch := ⟨0, zeroOb⟩
noncomputable def chK : El Ch where
  T := 32
  e := 26
  size := 15
  bytes := (IX.infoOf 26).bytes
  z := ch zeroCh
  i := IX.infoOf 26
  enc := fun c => (chCells c).toList
  el := by kernel_rfl
  ht := Tryz.underlying32
  hi := by kernel_rfl
  hz := by kernel_rfl
  hs := by kernel_rfl
  hb := rfl
  hzs := rfl
  pos := by decide
  len := fun _ => rfl
  one := fun _ u hu => by simp at hu; rcases hu with rfl | rfl | rfl | rfl | rfl | rfl | rfl | rfl | rfl | rfl | rfl | rfl | rfl | rfl | rfl <;> rfl
  small := of_decide_eq_true (by kernel_rfl)
theorem chs_at {w : World} {B : Nat} {A : Option Addr} {l : List Ch} (h : RdK chK w B A l) (h0 : 0 < l.length) : ∃ b off, A = some ⟨b, off, none⟩ ∧ b < B ∧ ∀ j c, l[j]? = some c → w.cell? ⟨b, off + j * 15, none⟩ = some (.int .u8 c.kind) ∧ w.cell? ⟨b, off + j * 15 + 1, none⟩ = some (.string c.o.handle) ∧ w.cell? ⟨b, off + j * 15 + 2, none⟩ = some (.int .u8 c.o.kind) ∧ w.cell? ⟨b, off + j * 15 + 3, none⟩ = some (.string c.o.parent) ∧ w.cell? ⟨b, off + j * 15 + 4, none⟩ = some (.int .u8 c.o.typ) ∧ w.cell? ⟨b, off + j * 15 + 5, none⟩ = some (.string c.o.ref) ∧ w.cell? ⟨b, off + j * 15 + 6, none⟩ = some (.int .i64 c.o.lo) ∧ w.cell? ⟨b, off + j * 15 + 7, none⟩ = some (.int .i64 c.o.hi) ∧ w.cell? ⟨b, off + j * 15 + 8, none⟩ = some (.int .u8 c.o.digits) ∧ w.cell? ⟨b, off + j * 15 + 9, none⟩ = some (.bool c.o.on) ∧ w.cell? ⟨b, off + j * 15 + 10, none⟩ = some (.bool c.o.has) ∧ w.cell? ⟨b, off + j * 15 + 11, none⟩ = some (.int .i64 c.o.value) ∧ w.cell? ⟨b, off + j * 15 + 12, none⟩ = some (.int .i64 c.o.low) ∧ w.cell? ⟨b, off + j * 15 + 13, none⟩ = some (.int .i64 c.o.high) ∧ w.cell? ⟨b, off + j * 15 + 14, none⟩ = some (.int .u8 c.o.assoc) := by
  rcases h with rfl | ⟨b, off, e, hb, hc⟩
  · simp at h0
  · refine ⟨b, off, e, hb, fun j c hx => ?_⟩
    have q : ∀ (i : Nat) (u : Value), (chCells c)[i]? = some u → w.cell? ⟨b, off + j * 15 + i, none⟩ = some u := fun i u hu => by
      have := hc _ _ (cellsK_at chK hx (i := i) (u := u) (by rw [← hu]; exact Array.getElem?_toList))
      rw [Nat.add_assoc]; exact this
    exact ⟨q 0 _ rfl, q 1 _ rfl, q 2 _ rfl, q 3 _ rfl, q 4 _ rfl, q 5 _ rfl, q 6 _ rfl, q 7 _ rfl, q 8 _ rfl, q 9 _ rfl, q 10 _ rfl, q 11 _ rfl, q 12 _ rfl, q 13 _ rfl, q 14 _ rfl⟩
/-- Are two objects the same? -/
noncomputable def eqOb (a b : Ob) : Bool := @decide (a = b) (Classical.propDecidable _)
theorem eqOb_t {a b : Ob} (h : a = b) : eqOb a b = true := by simp [eqOb, h]
theorem eqOb_f {a b : Ob} (h : a ≠ b) : eqOb a b = false := by simp [eqOb, h]
theorem eqOb_iff {a b : Ob} : eqOb a b = true ↔ a = b := by simp [eqOb]
/-- Are two changes the same? -/
noncomputable def eqCh (a b : Ch) : Bool := @decide (a = b) (Classical.propDecidable _)
theorem eqCh_t {a b : Ch} (h : a = b) : eqCh a b = true := by simp [eqCh, h]
theorem eqCh_f {a b : Ch} (h : a ≠ b) : eqCh a b = false := by simp [eqCh, h]
theorem eqCh_iff {a b : Ch} : eqCh a b = true ↔ a = b := by simp [eqCh]
theorem bytesT {s t : ByteArray} (h : s.toList = t.toList) : s = t := by
  rw [ByteArray.toList_eq, ByteArray.toList_eq] at h
  exact ByteArray.ext (Array.toList_inj.1 h)
theorem str_b (a b : ByteArray) : (a.toList == b.toList) = @decide (a = b) (Classical.propDecidable _) := by
  by_cases h : a = b
  · simp [h]
  · rw [tl_ne h]; simp [h]
theorem u8_b (a b : Nat) : ((a : Int) == (b : Int)) = decide (a = b) := by
  by_cases h : a = b
  · simp [h]
  · have : ¬ (a : Int) = b := by omega
    simp [h, this]
end Go.Proofs.YtjocbokfdfdkeaaGreat.DX
/-
  PLAIN: a whole row stored into a block of the call's own; a row that a result's cell holds.
-/
namespace Go.Proofs.YtjocbokfdfdkeaaGreat
open Go.RowKit
set_option maxRecDepth 100000
set_option linter.unusedVariables false

theorem storeAs {P : Program} {vs vs' : List Value} (he : vs = vs') (g : Nat) (t : TypeId) (cur : Array Value) (w : World) (hg : w.heap[g]? = some (.cells cur t (0, 0))) (hl : vs'.length = cur.size) (h1 : ∀ v ∈ vs', v.oneCell' = true) :
    (storeCells ⟨g, 0, none⟩ vs 0).run P w = .ok () (w.setRow g vs'.toArray) := by
  subst he
  have := run_storeCells_from (P := P) g t vs 0 cur w hg (by omega) h1
  simpa using this
theorem AtC.row {W : World} {g : Nat} {Z C : Array Value} {T : TypeId} (hg : W.heap[g]? = some (.cells Z T (0, 0))) : AtC (W.setRow g C) g C :=
  ⟨by simpa using (Array.getElem?_eq_some_iff.1 hg).1, fun i => cell_setRow_same _ _ _ _ _ _ _ hg, fun i => by simp [World.frozen?, setRow_heap _ _ _ _ _ _ hg]⟩
theorem bRow {w W : World} (h : Below w.heap.size w W) {g : Nat} (hg : w.heap.size ≤ g) (C : Array Value) : Below w.heap.size w (W.setRow g C) :=
  ⟨by simpa using h.os, by simpa using h.tape, by simpa using h.output, by simpa using h.size, fun k hk => (setRow_other _ _ _ _ (by omega)).trans (h.block k hk)⟩
theorem ret_row {P : Program} {fn : Func} {R : Ending → World → Prop} {act : Act} {W : World} {B : Nat} {C : Array Value} {p : Tmp} {ty : TypeId} (hr : fn.results = #[.cell p ty]) (hp : act.tmps.getD p undef = .pointer (some ⟨B, 0, none⟩)) (hd : act.defers = [])
    (h : AtC W B C) (ha : (isAgg ty).run P W = .ok true W) (hs : (sizeOf ty).run P W = .ok C.size W) (hR : R (.returned (.agg C)) W) : bodyPost P fn R .ret act W := by
  refine bodyPost_ret (v := .agg C) ?_ hd hR
  have hl := run_loadCells_list (P := P) W ⟨B, 0, none⟩ C.toList (fun j v hv => by
    have : (⟨B, 0, none⟩ : Addr).add j = ⟨B, j, none⟩ := by unfold Addr.add; split <;> simp_all
    rw [this, h.c j]; simpa using hv)
  simp only [Array.length_toList, Array.toArray_toList] at hl
  simp at hp
  have h0 : (asAddr (act.tmps[p]?.getD undef)).run P W = .ok ⟨B, 0, none⟩ W := by rw [hp]; simp [asAddr, go_sem]
  simp only [results, hr]
  simp [Sem.run_bind, Result.andThen, h0, loadVar, ha, hs, hl]
end Go.Proofs.YtjocbokfdfdkeaaGreat
