/-
  What an object's text reads as: the text cut at its blanks, each piece at its '='; the library's Cut.
-/
import Derived.Test.YtonhijonnonmbaaDoorOIndex
import Derived.Test.YtonhijonnonmbaaDoorORefParts
import Derived.Test.YtonhijonnonmbaaDoorShelf
import Derived.Lib.CutLaws
import Derived.Lib.IndexBytes
namespace Go.Proofs.YtonhijonnonmbaaDoor
open Go.RowKit
set_option maxRecDepth 100000
set_option linter.unusedVariables false
set_option linter.unusedSimpArgs false

def cut1 (s : ByteArray) (c : UInt8) : ByteArray × ByteArray × Bool := (⟨(Lib.cut s.data.toList [c]).1.toArray⟩, ⟨(Lib.cut s.data.toList [c]).2.1.toArray⟩, (Lib.cut s.data.toList [c]).2.2)
theorem cut_sizes (l : List UInt8) (c : UInt8) : (Lib.cut l [c]).1.length ≤ l.length ∧ (Lib.cut l [c]).2.1.length ≤ l.length ∧ ((Lib.cut l [c]).2.2 = true → (Lib.cut l [c]).2.1.length < l.length) := by
  unfold Lib.cut
  split
  · rename_i h
    have hc := Lib.indexB_cases ⟨l.toArray⟩ ⟨#[c]⟩
    have e1 : Lib.indexB ⟨l.toArray⟩ ⟨#[c]⟩ = Lib.index l [c] := by
      unfold Lib.indexB
      simp
    rw [e1] at hc
    rcases hc with hc | ⟨i, hi, hle⟩
    · omega
    · have hs : i + 1 ≤ l.length := by simpa [ByteArray.size] using hle
      rw [hi]
      refine ⟨by simp; omega, by simp, fun _ => ?_⟩
      simp
      omega
  · simp
theorem cut1_sizes (s : ByteArray) (c : UInt8) : (cut1 s c).1.size ≤ s.size ∧ (cut1 s c).2.1.size ≤ s.size ∧ ((cut1 s c).2.2 = true → (cut1 s c).2.1.size < s.size) := by
  have h := cut_sizes s.data.toList c
  have e : s.data.toList.length = s.size := Array.length_toList
  rw [e] at h
  unfold cut1
  generalize Lib.cut s.data.toList [c] = r at *
  obtain ⟨a, b, d⟩ := r
  have e1 : (⟨a.toArray⟩ : ByteArray).size = a.length := List.size_toArray ..
  have e2 : (⟨b.toArray⟩ : ByteArray).size = b.length := List.size_toArray ..
  rw [e1, e2]
  exact h
/-- What is read of the pieces behind the first two. -/
noncomputable def loopR : Nat → Ob → ByteArray → Bool → Ob
  | 0, o, _, _ => o
  | _ + 1, o, _, false => o
  | n + 1, o, rest, true =>
    if idxI (cut1 (cut1 rest 32).1 61).1 < 0 then zeroOb
    else loopR n (setF o (cut1 (cut1 rest 32).1 61).2.1 (idxI (cut1 (cut1 rest 32).1 61).1).toNat) (cut1 rest 32).2.1 (cut1 rest 32).2.2
/-- The object that a text describes. -/
noncomputable def readOf (s : ByteArray) : Ob :=
  loopR (s.size + 2) { zeroOb with kind := kindS (cut1 s 32).1, handle := (cut1 (cut1 s 32).2.1 32).1 } (cut1 (cut1 s 32).2.1 32).2.1 (cut1 (cut1 s 32).2.1 32).2.2
theorem idxI_cases (s : ByteArray) : idxI s = -1 ∨ ∃ k : Nat, k < 12 ∧ idxI s = (k : Int) := by
  unfold idxI
  cases h : (List.range 12).find? fun k => decide ((nameAt k).data = s.data) with
  | none => exact .inl rfl
  | some k => exact .inr ⟨k, by simpa using List.mem_of_find?_eq_some h, rfl⟩
theorem cutW (s : ByteArray) (c : UInt8) (m : Int) (w : World) (hs : s.size ≤ 1000) (hm : w.cell? ⟨3, 0, none⟩ = some (.int .i64 m)) :
    Calls Tryd.prog 47 #[.string s, .string ⟨#[c]⟩] w fun e w' => e = .returned (.tuple #[.string (cut1 s c).1, .string (cut1 s c).2.1, .bool (cut1 s c).2.2]) ∧ Below w.heap.size w w' :=
  (Tryd.strings_Cut s ⟨#[c]⟩ m w (by omega) hm).mono fun e w' ⟨he, n, hw⟩ => ⟨he, by rw [hw]; exact ⟨rfl, rfl, rfl, Nat.le_refl _, fun _ _ => rfl⟩⟩
theorem freadAny (k : Nat) (hk : k < 12) (o : Ob) (B : Nat) (v : ByteArray) (w : World) (h : AtC w B (obCells o)) (hv : v.size ≤ maxLen) :
    Calls Tryd.prog 51 #[.agg #[fcell k 0, .string (nameAt k), fcell k 2, fcell k 3, fcell k 4, fcell k 5], .pointer (some ⟨B, 0, none⟩), .string v] w fun e w' => e = .returned (.tuple #[]) ∧ AtC w' B (obCells (setF o v k)) ∧ w.grownBy w' (some B) := by
  rw [← fcell_name hk]
  rcases (show k = 0 ∨ k = 1 ∨ k = 2 ∨ k = 3 ∨ k = 4 ∨ k = 5 ∨ k = 6 ∨ k = 7 ∨ k = 8 ∨ k = 9 ∨ k = 10 ∨ k = 11 by omega) with rfl | rfl | rfl | rfl | rfl | rfl | rfl | rfl | rfl | rfl | rfl | rfl
  · exact fread0 o B v w h hv
  · exact fread1 o B v w h hv
  · exact fread2 o B v w h hv
  · exact fread3 o B v w h hv
  · exact fread4 o B v w h hv
  · exact fread5 o B v w h hv
  · exact fread6 o B v w h hv
  · exact fread7 o B v w h hv
  · exact fread8 o B v w h hv
  · exact fread9 o B v w h hv
  · exact fread10 o B v w h hv
  · exact fread11 o B v w h hv
end Go.Proofs.YtonhijonnonmbaaDoor
