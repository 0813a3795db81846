/-
  WALKS: the document's reader: fail, Byte, Truth, Uint, Int, Text, Done.
-/
import Derived.Test.YtkgjgbenfpkekaaYRefNum
import Derived.Deep.RegionHeld3
namespace Go.Proofs.Ytkgjgbenfpkekaa.YX
open Go.RowKit HL
open IX (ptr El cellsK cellsK_at cellsK_len OwnK RdK Kept slice_toK slice_fromK)
set_option maxRecDepth 100000
set_option linter.unusedVariables false
set_option linter.unusedSimpArgs false

theorem rfail_any (B : Nat) (w : World) (h : Bad w B) : Calls Try.prog 83 #[ptr B] w fun e w' => e = .returned (.tuple #[]) ∧ RAt w' B none ∧ Kept w w' (· ≠ B) := by
  obtain ⟨x, y, h1⟩ := h
  have c0 := h1.c 0
  have c1 := h1.c 1
  have f0 := h1.f 0
  have f1 := h1.f 1
  have H : Hid (RAt ((w.setCell ⟨B, 1, none⟩ (.bool true)).setCell ⟨B, 0, none⟩ (.slice none 0 0)) B none) := Lib.hid ((h1.set (i := 1) (by simp) _).set (i := 0) (by simp) _)
  clear h1
  go_enter Try.func83, Try.ntmps83
  go_wp2
  go_end0
  exact ⟨rfl, H.out, kset2 (kset _) _⟩
end Go.Proofs.Ytkgjgbenfpkekaa.YX
