/-
  WALKS and PLAIN: bytes that were told, or none.
-/
import Derived.Test.YtkgjgbenfpkekaaPRest
import Derived.Test.YtkgjgbenfpkekaaYBytes
namespace Go.Proofs.Ytkgjgbenfpkekaa.PX
open Go.RowKit HL
open IX (ptr El cellsK cellsK_at cellsK_len OwnK RdK Kept)
open YX (numB rdU rdB rdT rdS rdI addW intN natI rest told WAt WPt Wr RAt vS vU vI u8K Got)
set_option maxRecDepth 100000
set_option linter.unusedVariables false
set_option linter.unusedSimpArgs false

/-- A row of bytes that reads as l. -/
def Rows (w : World) (v : Value) (l : Bs) : Prop := ∃ A c, v = .slice A l.length c ∧ RdK u8K w w.heap.size A l ∧ l.length ≤ c ∧ (A = none → c = 0)
theorem Rows.below {w w' : World} {v : Value} {l : Bs} (h : Rows w v l) (k : Below w.heap.size w w') : Rows w' v l := by
  obtain ⟨A, c, e, h1, h2, h3⟩ := h
  exact ⟨A, c, e, (h1.below k).more k.size, h2, h3⟩
/-- Bytes and no error, or none and an error. -/
inductive Bt (w : World) : Value → Int → Option Bs → Prop where
  | yes' (v : Value) (l : Bs) (h : Rows w v l) : Bt w v 0 (some l)
  | no' : Bt w (.slice none 0 0) 3 none
theorem Bt.no (w : World) (v : Value) : Bt w (.slice none 0 0) 3 none := .no'
theorem Bt.below {w w' : World} {v : Value} {e : Int} {r : Option Bs} (h : Bt w v e r) (k : Below w.heap.size w w') : Bt w' v e r := by
  cases h with
  | yes' _ l h => exact .yes' _ _ (h.below k)
  | no' => exact .no'
/-- What a call that tells bytes and an error comes to. -/
def Bts (w0 : World) (r : Option Bs) (e : Ending) (w' : World) : Prop := ∃ v n, e = .returned (.tuple #[v, .int .i64 n]) ∧ Bt w' v n r ∧ Below w0.heap.size w0 w'
theorem got_rows {w : World} {base : Nat} {v : Value} {l : Bs} (h : Got w base v l) : Rows w v l := by
  obtain ⟨g, cap, cur, fz, e, h0, h1, h2, h3, h4, h5, h6⟩ := h.x
  refine ⟨_, _, e, .inr ⟨g, 0, rfl, (Array.getElem?_eq_some_iff.1 h1).1, fun m u hu => ?_⟩, h3, fun q => by cases q⟩
  rw [Nat.zero_add, cell_of_row w g m cur _ fz h1]
  rw [YX.cells8, ← h6, List.getElem?_take] at hu
  split at hu
  · simpa using hu
  · cases hu
theorem bytes_any (B : Nat) (r : Option Bs) (w : World) (h : WAt w B r) : Calls Try.prog 18 #[ptr B] w fun e w' => Bts w r e w' := by
  cases r with
  | none => exact (YX.bytes_no B w h).mono fun e w' ⟨h1, h2⟩ => ⟨_, 3, h1, .no', h2 ▸ Below.refl _ _⟩
  | some l => exact (YX.bytes_some B l w h).mono fun e w' ⟨v, h1, h2, h3⟩ => ⟨v, 0, h1, .yes' v l (got_rows h2), h3⟩
end Go.Proofs.Ytkgjgbenfpkekaa.PX
