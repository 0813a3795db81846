/-
  A row of bytes and an error told: as a text.
-/
import Derived.Test.YtkgjgbenfpkekaaPKit
namespace Go.Proofs.Ytkgjgbenfpkekaa.PX
open Go.RowKit HL
open IX (ptr El RdK)
open YX (u8K)
set_option maxRecDepth 100000
set_option linter.unusedVariables false

def nOf : Option Bs → Int
  | some _ => 0
  | none => 3
/-- A row that is turned into this text. -/
def Txt (w : World) (v : Value) (s : Bs) : Prop := ∀ W, Below w.heap.size w W → (convert 26 9 v).run Try.prog W = .ok (str s) W
theorem Txt.below {w W : World} {v : Value} {s : Bs} (h : Txt w v s) (k : Below w.heap.size w W) : Txt W v s := fun W2 q => h W2 (bThen k q)
def TelB (w0 : World) (n : Int) (s : Bs) (e : Ending) (w' : World) : Prop := ∃ v, e = .returned (.tuple #[v, .int .i64 n]) ∧ Txt w' v s ∧ Below w0.heap.size w0 w'
theorem bts_telB {w0 : World} {r : Option Bs} {e : Ending} {w' : World} (h : Bts w0 r e w') : TelB w0 (nOf r) (r.getD []) e w' := by
  obtain ⟨v, n, rfl, hb, k⟩ := h
  cases hb with
  | yes' v l hr =>
    obtain ⟨A, c, rfl, r1, _⟩ := hr
    exact ⟨_, rfl, fun W q => YX.conv_str ((r1.below q).more q.size) rfl, k⟩
  | no' => exact ⟨_, rfl, fun W q => YX.conv_str (B := 0) (l := []) (.inl rfl) rfl, k⟩
end Go.Proofs.Ytkgjgbenfpkekaa.PX
