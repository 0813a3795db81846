/-
  PLAIN: rows of puts (a version and an entry) of one's own.
-/
import Derived.Test.YtecdcfmbhphagaaBSteadyAll
namespace Go.Proofs.Ytecdcfmbhphagaa.BX
open Go.RowKit HL
open IX (ptr El cellsK cellsK_at cellsK_len OwnK RdK Kept)
set_option maxRecDepth 100000
set_option linter.unusedVariables false
set_option linter.unusedSimpArgs false

noncomputable def putK : El (Int × En) where
  T := 65
  e := 67
  size := 19
  bytes := (IX.infoOf 67).bytes
  z := .agg (rowC (0, zeroEn))
  i := IX.infoOf 67
  enc := fun x => (rowC x).toList
  el := by kernel_rfl
  ht := Try.underlying65
  hi := by kernel_rfl
  hz := by kernel_rfl
  hs := by kernel_rfl
  hb := rfl
  hzs := rfl
  pos := by decide
  len := fun _ => rfl
  one := fun x u hu => rowL_one x u hu
  small := of_decide_eq_true (by kernel_rfl)
theorem puts_at {w : World} {B : Nat} {A : Option Addr} {l : List (Int × En)} (h : RdK putK w B A l) (h0 : 0 < l.length) : ∃ b off, A = some ⟨b, off, none⟩ ∧ b < B ∧ ∀ j x, l[j]? = some x → w.cell? ⟨b, off + j * 19, none⟩ = some (.int .i64 x.1) ∧ w.rangeAt b (off + j * 19 + 1) (enC x.2).toList := by
  rcases h with rfl | ⟨b, off, e, hb, hc⟩
  · simp at h0
  · refine ⟨b, off, e, hb, fun j x hx => ?_⟩
    have q : ∀ (i : Nat) (u : Value), (rowC x)[i]? = some u → w.cell? ⟨b, off + j * 19 + i, none⟩ = some u := fun i u hu => by
      have := hc _ _ (IX.cellsK_at putK hx (i := i) (u := u) (by rw [← hu]; exact Array.getElem?_toList))
      rw [Nat.add_assoc]; exact this
    refine ⟨q 0 _ rfl, fun i v hv => ?_⟩
    have e2 : (rowC x).toList = [.int .i64 x.1] ++ (enC x.2).toList := rfl
    have := q (1 + i) v (by rw [← Array.getElem?_toList, e2, List.getElem?_append_right (by simp), ← hv]; congr 1; simp)
    rw [Nat.add_assoc]; exact this
theorem RgAt.same {w w' : World} {B : Nat} {g : Rg} {R : List (Int × En)} (h : RgAt w B g R) (e : w'.heap[B]? = w.heap[B]?) : RgAt w' B g R := h.kb (Bb := B) ⟨e, e⟩
end Go.Proofs.Ytecdcfmbhphagaa.BX
