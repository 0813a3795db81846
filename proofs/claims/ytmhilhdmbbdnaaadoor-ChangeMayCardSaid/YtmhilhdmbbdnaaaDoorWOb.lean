/-
  PLAIN: rows of objects as a list (for the layers from wf on): a kind of element of 14 cells.
-/
import Derived.Test.YtmhilhdmbbdnaaaDoorIOwn
import Derived.Test.YtmhilhdmbbdnaaaDoorOKit
import Derived.Test.YtmhilhdmbbdnaaaDoorORefParts
namespace Go.Proofs.YtmhilhdmbbdnaaaDoor.WX
open Go.RowKit HL
open IX (ptr El cellsK cellsK_at OwnK RdK strK)
set_option maxRecDepth 100000
set_option linter.unusedVariables false
set_option linter.unusedSimpArgs false
abbrev hb (o : Ob) : Bs := o.handle.data.toList
abbrev pb (o : Ob) : Bs := o.parent.data.toList
abbrev rb (o : Ob) : Bs := o.ref.data.toList
theorem tl_ne {a b : ByteArray} (h : a ≠ b) : (a.toList == b.toList) = false := by
  rw [beq_eq_false_iff_ne, ne_eq, ByteArray.toList_eq, ByteArray.toList_eq]
  intro e; apply h
  obtain ⟨⟨x⟩⟩ := a
  obtain ⟨⟨y⟩⟩ := b
  simp at e; rw [e]
theorem bs_eq {a b : ByteArray} (h : a.data.toList = b.data.toList) : a = b := by
  obtain ⟨⟨x⟩⟩ := a
  obtain ⟨⟨y⟩⟩ := b
  simp at h
  rw [h]
end Go.Proofs.YtmhilhdmbbdnaaaDoor.WX
