/-
  PLAIN: a change's fields; rows of changes as a list: a kind of element of 15 cells.
-/
import Derived.Test.YtkgjgbenfpkekaaWOb
import Derived.Laws.StructEq
namespace Go.Proofs.Ytkgjgbenfpkekaa.DX
open Go.RowKit HL
open IX (ptr El cellsK cellsK_at OwnK RdK)
open WX (hb pb rb tl_ne bs_eq)
set_option maxRecDepth 100000
set_option linter.unusedVariables false
set_option linter.unusedSimpArgs false

/-- A change's fields: its kind and its object. -/
structure Ch where
  kind : Nat
  o : Ob
abbrev chCells (c : Ch) : Array Value := #[.int .u8 c.kind, .string c.o.handle, .int .u8 c.o.kind, .string c.o.parent, .int .u8 c.o.typ, .string c.o.ref, .int .i64 c.o.lo, .int .i64 c.o.hi, .int .u8 c.o.digits, .bool c.o.on, .bool c.o.has, .int .i64 c.o.value, .int .i64 c.o.low, .int .i64 c.o.high, .int .u8 c.o.assoc]
abbrev ch (c : Ch) : Value := .agg #[.int .u8 c.kind, .string c.o.handle, .int .u8 c.o.kind, .string c.o.parent, .int .u8 c.o.typ, .string c.o.ref, .int .i64 c.o.lo, .int .i64 c.o.hi, .int .u8 c.o.digits, .bool c.o.on, .bool c.o.has, .int .i64 c.o.value, .int .i64 c.o.low, .int .i64 c.o.high, .int .u8 c.o.assoc]
def zeroCh : Ch := ⟨0, zeroOb⟩
noncomputable def chK : El Ch where
  T := 23
  e := 39
  size := 15
  bytes := (IX.infoOf 39).bytes
  z := ch zeroCh
  i := IX.infoOf 39
  enc := fun c => (chCells c).toList
  el := by kernel_rfl
  ht := Try.underlying23
  hi := by kernel_rfl
  hz := by kernel_rfl
  hs := by kernel_rfl
  hb := rfl
  hzs := rfl
  pos := by decide
  len := fun _ => rfl
  one := fun _ u hu => by simp at hu; rcases hu with rfl | rfl | rfl | rfl | rfl | rfl | rfl | rfl | rfl | rfl | rfl | rfl | rfl | rfl | rfl <;> rfl
  small := of_decide_eq_true (by kernel_rfl)
theorem chs_at {w : World} {B : Nat} {A : Option Addr} {l : List Ch} (h : RdK chK w B A l) (h0 : 0 < l.length) : ∃ b off, A = some ⟨b, off, none⟩ ∧ b < B ∧ ∀ j c, l[j]? = some c → w.cell? ⟨b, off + j * 15, none⟩ = some (.int .u8 c.kind) ∧ w.cell? ⟨b, off + j * 15 + 1, none⟩ = some (.string c.o.handle) ∧ w.cell? ⟨b, off + j * 15 + 2, none⟩ = some (.int .u8 c.o.kind) ∧ w.cell? ⟨b, off + j * 15 + 3, none⟩ = some (.string c.o.parent) ∧ w.cell? ⟨b, off + j * 15 + 4, none⟩ = some (.int .u8 c.o.typ) ∧ w.cell? ⟨b, off + j * 15 + 5, none⟩ = some (.string c.o.ref) ∧ w.cell? ⟨b, off + j * 15 + 6, none⟩ = some (.int .i64 c.o.lo) ∧ w.cell? ⟨b, off + j * 15 + 7, none⟩ = some (.int .i64 c.o.hi) ∧ w.cell? ⟨b, off + j * 15 + 8, none⟩ = some (.int .u8 c.o.digits) ∧ w.cell? ⟨b, off + j * 15 + 9, none⟩ = some (.bool c.o.on) ∧ w.cell? ⟨b, off + j * 15 + 10, none⟩ = some (.bool c.o.has) ∧ w.cell? ⟨b, off + j * 15 + 11, none⟩ = some (.int .i64 c.o.value) ∧ w.cell? ⟨b, off + j * 15 + 12, none⟩ = some (.int .i64 c.o.low) ∧ w.cell? ⟨b, off + j * 15 + 13, none⟩ = some (.int .i64 c.o.high) ∧ w.cell? ⟨b, off + j * 15 + 14, none⟩ = some (.int .u8 c.o.assoc) := by
  rcases h with rfl | ⟨b, off, e, hb, hc⟩
  · simp at h0
  · refine ⟨b, off, e, hb, fun j c hx => ?_⟩
    have q : ∀ (i : Nat) (u : Value), (chCells c)[i]? = some u → w.cell? ⟨b, off + j * 15 + i, none⟩ = some u := fun i u hu => by
      have := hc _ _ (cellsK_at chK hx (i := i) (u := u) (by rw [← hu]; exact Array.getElem?_toList))
      rw [Nat.add_assoc]; exact this
    exact ⟨q 0 _ rfl, q 1 _ rfl, q 2 _ rfl, q 3 _ rfl, q 4 _ rfl, q 5 _ rfl, q 6 _ rfl, q 7 _ rfl, q 8 _ rfl, q 9 _ rfl, q 10 _ rfl, q 11 _ rfl, q 12 _ rfl, q 13 _ rfl, q 14 _ rfl⟩
/-- Are two objects the same? -/
noncomputable def eqOb (a b : Ob) : Bool := @decide (a = b) (Classical.propDecidable _)
theorem eqOb_t {a b : Ob} (h : a = b) : eqOb a b = true := by simp [eqOb, h]
theorem eqOb_f {a b : Ob} (h : a ≠ b) : eqOb a b = false := by simp [eqOb, h]
theorem eqOb_iff {a b : Ob} : eqOb a b = true ↔ a = b := by simp [eqOb]
/-- Are two changes the same? -/
noncomputable def eqCh (a b : Ch) : Bool := @decide (a = b) (Classical.propDecidable _)
theorem eqCh_t {a b : Ch} (h : a = b) : eqCh a b = true := by simp [eqCh, h]
theorem eqCh_f {a b : Ch} (h : a ≠ b) : eqCh a b = false := by simp [eqCh, h]
theorem eqCh_iff {a b : Ch} : eqCh a b = true ↔ a = b := by simp [eqCh]
theorem bytesT {s t : ByteArray} (h : s.toList = t.toList) : s = t := by
  rw [ByteArray.toList_eq, ByteArray.toList_eq] at h
  exact ByteArray.ext (Array.toList_inj.1 h)
theorem str_b (a b : ByteArray) : (a.toList == b.toList) = @decide (a = b) (Classical.propDecidable _) := by
  by_cases h : a = b
  · simp [h]
  · rw [tl_ne h]; simp [h]
theorem u8_b (a b : Nat) : ((a : Int) == (b : Int)) = decide (a = b) := by
  by_cases h : a = b
  · simp [h]
  · have : ¬ (a : Int) = b := by omega
    simp [h, this]
end Go.Proofs.Ytkgjgbenfpkekaa.DX
