/-
  WALK: the document's Digits.
-/
import Derived.Test.YthdphdmiafkkgaaDoorFNum2
import Derived.Laws.IdiomStrings
namespace Go.Proofs.YthdphdmiafkkgaaDoor
open Go.RowKit FixMath
set_option maxRecDepth 100000
set_option linter.unusedVariables false

abbrev str (l : Bs) : Value := .string ⟨l.toArray⟩
theorem bytes_add (a b : Bs) : (⟨a.toArray⟩ : ByteArray) ++ ⟨b.toArray⟩ = ⟨(a ++ b).toArray⟩ := by
  apply ByteArray.ext
  rw [ByteArray.data_append]
  simp

theorem conv_dig (q : Nat) (wr : World) : (convert 24 9 (.slice (some ⟨wr.heap.size, 0, none⟩) 1 1)).run Tryd.prog (wr.alloc (.cells #[.int .u8 (48 + (q : Int) % 10)] 5)) = .ok (.string ⟨#[dig q]⟩) (wr.alloc (.cells #[.int .u8 (48 + (q : Int) % 10)] 5)) :=
  run_convert_bytes_back (l := [dig q]) _ _ _ 5 _ _ Tryd.underlying24 Tryd.underlying5 Tryd.underlying9 (fun j hj => by
    obtain rfl : j = 0 := by simp at hj; omega
    have : ((dig q).toNat : Int) = 48 + (q : Int) % 10 := by rw [dig_toNat]; omega
    simp [World.cell?_alloc_mark, Addr.add, this])
end Go.Proofs.YthdphdmiafkkgaaDoor
