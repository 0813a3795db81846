/-
  PLAIN: the text of an object, as pieces joined by blanks.
-/
import Derived.Test.YtonhijonnonmbaaDoorOFText
import Derived.Test.YtonhijonnonmbaaDoorHSplit
import Derived.Lib.ItoaLen
namespace Go.Proofs.YtonhijonnonmbaaDoor
open Go.RowKit
set_option maxRecDepth 100000
set_option linter.unusedVariables false

def fnameL : Nat → List UInt8
  | 0 => [112, 97, 114, 101, 110, 116]
  | 1 => [116, 121, 112, 101]
  | 2 => [114, 101, 102]
  | 3 => [108, 111]
  | 4 => [104, 105]
  | 5 => [100, 105, 103, 105, 116, 115]
  | 6 => [111, 110]
  | 7 => [104, 97, 115]
  | 8 => [118, 97, 108, 117, 101]
  | 9 => [108, 111, 119]
  | 10 => [104, 105, 103, 104]
  | 11 => [97, 115, 115, 111, 99]
  | _ => []
def pieceL (o : Ob) (i : Nat) : List UInt8 := fnameL i ++ [61] ++ (ftext o i).data.toList
def piecesTo (o : Ob) : Nat → List (List UInt8)
  | 0 => [(wordOf o.kind).data.toList, o.handle.data.toList]
  | n + 1 => if zB o n then piecesTo o n else piecesTo o n ++ [pieceL o n]
def textTo (o : Ob) : Nat → List UInt8
  | 0 => (wordOf o.kind).data.toList ++ [32] ++ o.handle.data.toList
  | n + 1 => if zB o n then textTo o n else textTo o n ++ [32] ++ pieceL o n
def textOf (o : Ob) : ByteArray := ⟨(textTo o 12).toArray⟩
theorem joinTail_snoc (sep x : List UInt8) (r : List (List UInt8)) : Lib.joinTail sep (r ++ [x]) = Lib.joinTail sep r ++ (sep ++ x) := by simp [Lib.joinTail]
theorem join_snoc (xs : List (List UInt8)) (x sep : List UInt8) (h : xs ≠ []) : Lib.join (xs ++ [x]) sep = Lib.join xs sep ++ sep ++ x := by
  cases xs with
  | nil => exact absurd rfl h
  | cons a r => rw [List.cons_append, Lib.join_cons, Lib.join_cons, joinTail_snoc]; simp [List.append_assoc]
theorem pieces_len (o : Ob) : ∀ n, 2 ≤ (piecesTo o n).length ∧ (piecesTo o n).length ≤ n + 2
  | 0 => by simp [piecesTo]
  | n + 1 => by
    have h := pieces_len o n
    unfold piecesTo
    split
    · omega
    · simp; omega
theorem pieces_join (o : Ob) : ∀ n, Lib.join (piecesTo o n) [32] = textTo o n
  | 0 => by
    show Lib.join ([(wordOf o.kind).data.toList] ++ [o.handle.data.toList]) [32] = _
    rw [join_snoc _ _ _ (by simp), Lib.join_one]; rfl
  | n + 1 => by
    have h := pieces_join o n
    have hl := (pieces_len o n).1
    unfold piecesTo textTo
    split
    · exact h
    · rw [join_snoc _ _ _ (by intro e; rw [e] at hl; simp at hl), h]
/-- Lengths that a walk may add up; numbers that an int64 holds. -/
structure Small (o : Ob) : Prop where
  handle : o.handle.size ≤ 1000
  parent : o.parent.size ≤ 1000
  ref : o.ref.size ≤ 1000
  lo : -9223372036854775808 ≤ o.lo ∧ o.lo ≤ 9223372036854775807
  hi : -9223372036854775808 ≤ o.hi ∧ o.hi ≤ 9223372036854775807
  value : -9223372036854775808 ≤ o.value ∧ o.value ≤ 9223372036854775807
  low : -9223372036854775808 ≤ o.low ∧ o.low ≤ 9223372036854775807
  high : -9223372036854775808 ≤ o.high ∧ o.high ≤ 9223372036854775807
  typ : o.typ ≤ 255
  digits : o.digits ≤ 255
  assoc : o.assoc ≤ 255
theorem itoa_len {n : Int} (h : -9223372036854775808 ≤ n ∧ n ≤ 9223372036854775807) : (Lib.itoa n).length ≤ 1000 := Nat.le_trans (Lib.itoa_length_le n h.1 h.2) (by decide)
theorem ftext_len {o : Ob} (h : Small o) : ∀ i, i < 12 → (ftext o i).data.toList.length ≤ 1000 := by
  intro i hi
  have hb : ∀ b : Bool, -9223372036854775808 ≤ boolI b ∧ boolI b ≤ 9223372036854775807 := by intro b; cases b <;> decide
  rcases (show i = 0 ∨ i = 1 ∨ i = 2 ∨ i = 3 ∨ i = 4 ∨ i = 5 ∨ i = 6 ∨ i = 7 ∨ i = 8 ∨ i = 9 ∨ i = 10 ∨ i = 11 by omega) with rfl | rfl | rfl | rfl | rfl | rfl | rfl | rfl | rfl | rfl | rfl | rfl
  · exact h.parent
  · exact itoa_len (n := (o.typ : Int)) (by have := h.typ; omega)
  · exact h.ref
  · exact itoa_len h.lo
  · exact itoa_len h.hi
  · exact itoa_len (n := (o.digits : Int)) (by have := h.digits; omega)
  · exact itoa_len (hb _)
  · exact itoa_len (hb _)
  · exact itoa_len h.value
  · exact itoa_len h.low
  · exact itoa_len h.high
  · exact itoa_len (n := (o.assoc : Int)) (by have := h.assoc; omega)
theorem fname_len : ∀ i, (fnameL i).length ≤ 6 := by
  intro i; unfold fnameL; split <;> simp
theorem word_len (k : Nat) : (wordOf k).data.toList.length ≤ 9 := by unfold wordOf; split <;> simp
theorem text_len {o : Ob} (h : Small o) : ∀ n, n ≤ 12 → (textTo o n).length ≤ 1100 * (n + 1)
  | 0, _ => by
    have h1 := word_len o.kind
    have h2 : o.handle.data.toList.length ≤ 1000 := h.handle
    simp only [textTo, List.length_append, List.length_singleton]; omega
  | n + 1, hn => by
    have h1 := text_len h n (by omega)
    unfold textTo
    split
    · omega
    · have h2 := ftext_len h n (by omega)
      have h3 := fname_len n
      simp only [pieceL, List.length_append, List.length_singleton]; omega
end Go.Proofs.YtonhijonnonmbaaDoor
