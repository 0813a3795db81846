/-
  PLAIN: rows of entries as a list: a kind of element of 18 cells; two entries compared.
-/
import Derived.Test.YtkgjgbenfpkekaaGreatPRest
import Derived.Test.YtkgjgbenfpkekaaGreatDEq
namespace Go.Proofs.YtkgjgbenfpkekaaGreat.PX
open Go.RowKit HL
open IX (ptr El cellsK cellsK_at cellsK_len OwnK RdK Kept)
set_option maxRecDepth 100000
set_option linter.unusedVariables false
set_option linter.unusedSimpArgs false

noncomputable def enK : El En where
  T := 34
  e := 103
  size := 18
  bytes := (IX.infoOf 103).bytes
  z := en zeroEn
  i := IX.infoOf 103
  enc := fun e => (enC e).toList
  el := by kernel_rfl
  ht := Tryz.underlying34
  hi := by kernel_rfl
  hz := by kernel_rfl
  hs := by kernel_rfl
  hb := rfl
  hzs := rfl
  pos := by decide
  len := fun _ => rfl
  one := fun _ u hu => by simp at hu; rcases hu with rfl | rfl | rfl | rfl | rfl | rfl | rfl | rfl | rfl | rfl | rfl | rfl | rfl | rfl | rfl | rfl | rfl | rfl <;> rfl
  small := of_decide_eq_true (by kernel_rfl)
theorem ens_at {w : World} {B : Nat} {A : Option Addr} {l : List En} (h : RdK enK w B A l) (h0 : 0 < l.length) : ∃ b off, A = some ⟨b, off, none⟩ ∧ b < B ∧ ∀ j e, l[j]? = some e → w.cell? ⟨b, off + j * 18, none⟩ = some (.string e.handle) ∧ w.cell? ⟨b, off + j * 18 + 1, none⟩ = some (.bool e.there) ∧ w.cell? ⟨b, off + j * 18 + 2, none⟩ = some (.string e.o.handle) ∧ w.cell? ⟨b, off + j * 18 + 3, none⟩ = some (.int .u8 e.o.kind) ∧ w.cell? ⟨b, off + j * 18 + 4, none⟩ = some (.string e.o.parent) ∧ w.cell? ⟨b, off + j * 18 + 5, none⟩ = some (.int .u8 e.o.typ) ∧ w.cell? ⟨b, off + j * 18 + 6, none⟩ = some (.string e.o.ref) ∧ w.cell? ⟨b, off + j * 18 + 7, none⟩ = some (.int .i64 e.o.lo) ∧ w.cell? ⟨b, off + j * 18 + 8, none⟩ = some (.int .i64 e.o.hi) ∧ w.cell? ⟨b, off + j * 18 + 9, none⟩ = some (.int .u8 e.o.digits) ∧ w.cell? ⟨b, off + j * 18 + 10, none⟩ = some (.bool e.o.on) ∧ w.cell? ⟨b, off + j * 18 + 11, none⟩ = some (.bool e.o.has) ∧ w.cell? ⟨b, off + j * 18 + 12, none⟩ = some (.int .i64 e.o.value) ∧ w.cell? ⟨b, off + j * 18 + 13, none⟩ = some (.int .i64 e.o.low) ∧ w.cell? ⟨b, off + j * 18 + 14, none⟩ = some (.int .i64 e.o.high) ∧ w.cell? ⟨b, off + j * 18 + 15, none⟩ = some (.int .u8 e.o.assoc) ∧ w.cell? ⟨b, off + j * 18 + 16, none⟩ = some (.int .i64 e.desc) ∧ w.cell? ⟨b, off + j * 18 + 17, none⟩ = some (.int .i64 e.state) := by
  rcases h with rfl | ⟨b, off, e, hb, hc⟩
  · simp at h0
  · refine ⟨b, off, e, hb, fun j e hx => ?_⟩
    have q : ∀ (i : Nat) (u : Value), (enC e)[i]? = some u → w.cell? ⟨b, off + j * 18 + i, none⟩ = some u := fun i u hu => by
      have := hc _ _ (cellsK_at enK hx (i := i) (u := u) (by rw [← hu]; exact Array.getElem?_toList))
      rw [Nat.add_assoc]; exact this
    exact ⟨q 0 _ rfl, q 1 _ rfl, q 2 _ rfl, q 3 _ rfl, q 4 _ rfl, q 5 _ rfl, q 6 _ rfl, q 7 _ rfl, q 8 _ rfl, q 9 _ rfl, q 10 _ rfl, q 11 _ rfl, q 12 _ rfl, q 13 _ rfl, q 14 _ rfl, q 15 _ rfl, q 16 _ rfl, q 17 _ rfl⟩
end Go.Proofs.YtkgjgbenfpkekaaGreat.PX
