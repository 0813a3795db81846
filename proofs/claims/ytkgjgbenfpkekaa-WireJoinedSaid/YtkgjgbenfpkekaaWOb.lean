/-
  PLAIN: rows of objects as a list (for the layers from wf on): a kind of element of 14 cells.
-/
import Derived.Test.YtkgjgbenfpkekaaIOwn
import Derived.Test.YtkgjgbenfpkekaaOKit
import Derived.Test.YtkgjgbenfpkekaaORefParts
namespace Go.Proofs.Ytkgjgbenfpkekaa.WX
open Go.RowKit HL
open IX (ptr El cellsK cellsK_at OwnK RdK)
set_option maxRecDepth 100000
set_option linter.unusedVariables false
set_option linter.unusedSimpArgs false
abbrev hb (o : Ob) : Bs := o.handle.data.toList
abbrev pb (o : Ob) : Bs := o.parent.data.toList
abbrev rb (o : Ob) : Bs := o.ref.data.toList
noncomputable def obK : El Ob where
  T := 22
  e := 37
  size := 14
  bytes := (IX.infoOf 37).bytes
  z := ob zeroOb
  i := IX.infoOf 37
  enc := fun o => (obCells o).toList
  el := by kernel_rfl
  ht := Try.underlying22
  hi := by kernel_rfl
  hz := by kernel_rfl
  hs := by kernel_rfl
  hb := rfl
  hzs := rfl
  pos := by decide
  len := fun _ => rfl
  one := fun _ u hu => by simp at hu; rcases hu with rfl | rfl | rfl | rfl | rfl | rfl | rfl | rfl | rfl | rfl | rfl | rfl | rfl | rfl <;> rfl
  small := of_decide_eq_true (by kernel_rfl)
theorem obs_at {w : World} {B : Nat} {A : Option Addr} {l : List Ob} (h : RdK obK w B A l) (h0 : 0 < l.length) : ∃ b off, A = some ⟨b, off, none⟩ ∧ b < B ∧ ∀ j o, l[j]? = some o → w.cell? ⟨b, off + j * 14, none⟩ = some (.string o.handle) ∧ w.cell? ⟨b, off + j * 14 + 1, none⟩ = some (.int .u8 o.kind) ∧ w.cell? ⟨b, off + j * 14 + 2, none⟩ = some (.string o.parent) ∧ w.cell? ⟨b, off + j * 14 + 3, none⟩ = some (.int .u8 o.typ) ∧ w.cell? ⟨b, off + j * 14 + 4, none⟩ = some (.string o.ref) ∧ w.cell? ⟨b, off + j * 14 + 5, none⟩ = some (.int .i64 o.lo) ∧ w.cell? ⟨b, off + j * 14 + 6, none⟩ = some (.int .i64 o.hi) ∧ w.cell? ⟨b, off + j * 14 + 7, none⟩ = some (.int .u8 o.digits) ∧ w.cell? ⟨b, off + j * 14 + 8, none⟩ = some (.bool o.on) ∧ w.cell? ⟨b, off + j * 14 + 9, none⟩ = some (.bool o.has) ∧ w.cell? ⟨b, off + j * 14 + 10, none⟩ = some (.int .i64 o.value) ∧ w.cell? ⟨b, off + j * 14 + 11, none⟩ = some (.int .i64 o.low) ∧ w.cell? ⟨b, off + j * 14 + 12, none⟩ = some (.int .i64 o.high) ∧ w.cell? ⟨b, off + j * 14 + 13, none⟩ = some (.int .u8 o.assoc) := by
  rcases h with rfl | ⟨b, off, e, hb, hc⟩
  · simp at h0
  · refine ⟨b, off, e, hb, fun j o hx => ?_⟩
    have q : ∀ (i : Nat) (u : Value), (obCells o)[i]? = some u → w.cell? ⟨b, off + j * 14 + i, none⟩ = some u := fun i u hu => by
      have := hc _ _ (cellsK_at obK hx (i := i) (u := u) (by rw [← hu]; exact Array.getElem?_toList))
      rw [Nat.add_assoc]; exact this
    exact ⟨q 0 _ rfl, q 1 _ rfl, q 2 _ rfl, q 3 _ rfl, q 4 _ rfl, q 5 _ rfl, q 6 _ rfl, q 7 _ rfl, q 8 _ rfl, q 9 _ rfl, q 10 _ rfl, q 11 _ rfl, q 12 _ rfl, q 13 _ rfl⟩
theorem tl_ne {a b : ByteArray} (h : a ≠ b) : (a.toList == b.toList) = false := by
  rw [beq_eq_false_iff_ne, ne_eq, ByteArray.toList_eq, ByteArray.toList_eq]
  intro e; apply h
  obtain ⟨⟨x⟩⟩ := a
  obtain ⟨⟨y⟩⟩ := b
  simp at e; rw [e]
theorem bs_eq {a b : ByteArray} (h : a.data.toList = b.data.toList) : a = b := by
  obtain ⟨⟨x⟩⟩ := a
  obtain ⟨⟨y⟩⟩ := b
  simp at h
  rw [h]
end Go.Proofs.Ytkgjgbenfpkekaa.WX
