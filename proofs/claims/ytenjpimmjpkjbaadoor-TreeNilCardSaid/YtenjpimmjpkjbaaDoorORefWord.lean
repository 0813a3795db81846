/-
  WALKS: the document's Refers, Word, Bare, Only.
-/
import Derived.Test.YtenjpimmjpkjbaaDoorORefParts
namespace Go.Proofs.YtenjpimmjpkjbaaDoor
open Go.RowKit
set_option maxRecDepth 100000
set_option linter.unusedVariables false

def refersB (k : Nat) : Bool := decide (k = 6 ∨ k = 7 ∨ k = 8)
def wordOf (k : Nat) : ByteArray := match k with
  | 1 => ⟨#[109, 100, 115]⟩ | 2 => ⟨#[118, 109, 100]⟩ | 3 => ⟨#[99, 104, 97, 110, 110, 101, 108]⟩ | 4 => ⟨#[109, 101, 116, 114, 105, 99]⟩ | 5 => ⟨#[115, 121, 115, 116, 101, 109]⟩
  | 6 => ⟨#[99, 111, 110, 100, 105, 116, 105, 111, 110]⟩ | 7 => ⟨#[115, 105, 103, 110, 97, 108]⟩ | 8 => ⟨#[108, 105, 109, 105, 116]⟩ | 9 => ⟨#[99, 111, 110, 116, 101, 120, 116]⟩ | _ => ⟨#[]⟩
theorem word_none {k : Nat} (h : k = 0 ∨ 9 < k) : wordOf k = ⟨#[]⟩ := by
  unfold wordOf
  split <;> first | rfl | omega
end Go.Proofs.YtenjpimmjpkjbaaDoor
