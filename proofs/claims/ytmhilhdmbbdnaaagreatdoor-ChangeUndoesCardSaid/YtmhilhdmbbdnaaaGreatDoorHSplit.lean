/-
  THE PIECES OF A TEXT between its marks; the document's Split and Parts.
-/
import Derived.Test.YtmhilhdmbbdnaaaGreatDoorHSame
namespace Go.Proofs.YtmhilhdmbbdnaaaGreatDoor.HL
open Go.RowKit
set_option maxRecDepth 100000
set_option linter.unusedVariables false
set_option linter.unusedSimpArgs false

def fr (s : ByteArray) (c : Int) : Nat → Nat
  | 0 => 0
  | k + 1 => if (bt s k : Int) = c then k + 1 else fr s c k
def cutL (s : ByteArray) (a b : Nat) : List UInt8 := (s.data.toList.drop a).take (b - a)
def ps (s : ByteArray) (c : Int) : Nat → List (List UInt8)
  | 0 => []
  | k + 1 => if (bt s k : Int) = c then ps s c k ++ [cutL s (fr s c k) k] else ps s c k
def splitL (s : ByteArray) (c : Int) : List (List UInt8) := ps s c s.size ++ [cutL s (fr s c s.size) s.size]
theorem fr_le (s : ByteArray) (c : Int) (k : Nat) : fr s c k ≤ k := by
  induction k with
  | zero => simp [fr]
  | succ k ih => simp only [fr]; split <;> omega
theorem ps_le (s : ByteArray) (c : Int) (k : Nat) : (ps s c k).length ≤ k := by
  induction k with
  | zero => simp [ps]
  | succ k ih =>
    simp only [ps]
    split
    · simp; omega
    · omega
theorem splitL_le (s : ByteArray) (c : Int) : (splitL s c).length ≤ s.size + 1 := by
  have := ps_le s c s.size
  simp [splitL]; omega
theorem fr_t {s : ByteArray} {c : Int} {k : Nat} (h : (bt s k : Int) = c) : fr s c (k + 1) = k + 1 := by simp [fr, h]
theorem fr_f {s : ByteArray} {c : Int} {k : Nat} (h : (bt s k : Int) ≠ c) : fr s c (k + 1) = fr s c k := by simp [fr, h]
theorem ps_t {s : ByteArray} {c : Int} {k : Nat} (h : (bt s k : Int) = c) : ps s c (k + 1) = ps s c k ++ [cutL s (fr s c k) k] := by simp [ps, h]
theorem ps_f {s : ByteArray} {c : Int} {k : Nat} (h : (bt s k : Int) ≠ c) : ps s c (k + 1) = ps s c k := by simp [ps, h]
theorem extract_str (s : ByteArray) (a b : Nat) : Value.string (s.extract a b) = str (cutL s a b) := congrArg Value.string (Lib.extract_eq s a b)

/-- A slice of strings of the call's own (from block 'base' on). -/
def OwnS (w : World) (base : Nat) (v : Value) (xs : List (List UInt8)) : Prop := w.ownsRow base 9 1 v xs.length (xs.map str)
theorem OwnS.form {w : World} {base : Nat} {v : Value} {xs : List (List UInt8)} (h : OwnS w base v xs) :
    ∃ A c, v = .slice A xs.length c ∧ Strs w w.heap.size A xs ∧ (∀ a, A = some a → base ≤ a.block) ∧ xs.length ≤ c := by
  rcases h.2 with ⟨rfl, h0⟩ | ⟨g, cap, cur, rfl, hb, hg, hnc, _⟩
  · exact ⟨none, 0, by rw [h0], .inl (List.eq_nil_of_length_eq_zero h0), fun a e => (by cases e), by rw [h0]; exact Nat.le_refl _⟩
  · refine ⟨_, cap, rfl, .inr ⟨g, 0, rfl, (Array.getElem?_eq_some_iff.1 hg).1, fun j x hx => ?_⟩, fun a e => (by cases e; exact hb), hnc⟩
    have := h.cells (g := g) rfl j (str x) (by simp [hx])
    rw [show (⟨g, 0, none⟩ : Addr).add j = ⟨g, 0 + j, none⟩ by unfold Addr.add; split <;> simp_all] at this
    exact this
theorem OwnS.base {w : World} {base base' : Nat} {v : Value} {xs : List (List UInt8)} (h : OwnS w base v xs) (hb : base' ≤ base) : OwnS w base' v xs := by
  refine ⟨h.1, ?_⟩
  rcases h.2 with h2 | ⟨g, cap, cur, e, hg, r⟩
  · exact .inl h2
  · exact .inr ⟨g, cap, cur, e, Nat.le_trans hb hg, r⟩
theorem OwnS.nil_ (w : World) (base : Nat) : OwnS w base (.slice none 0 0) [] := ⟨rfl, .inl ⟨rfl, rfl⟩⟩

theorem info_str : (Tryz.prog.info? 9).map (fun i => (i.zero, i.size, i.bytes)) = some (some (.string ByteArray.empty), 1, 16) := by kernel_rfl

theorem OwnS.more {w : World} {base : Nat} {v : Value} {xs : List (List UInt8)} {x : Value} {l : List UInt8} (h : w.ownsRow base 9 1 v (xs.length + 1) (xs.map str ++ [x])) (hx : x = str l) : OwnS w base v (xs ++ [l]) := by
  subst hx
  unfold OwnS
  simpa using h
theorem below_append {B base : Nat} {w0 w w' : World} {v : Value} {n : Nat} {xs : List Value} {o : Obj} (hb : Below B w0 w) (hB : B ≤ w0.heap.size) (hown : w.ownsRow base 9 1 v n xs) (hbase : B ≤ base) (hg : (w.alloc o).grownBy w' v.ownBlock) : Below B w0 w' :=
  (hb.alloc (Nat.le_trans hB hb.size) o).grown hg (by have := hb.size; simp; omega) (fun k hk => Nat.le_trans hbase (hown.lt k hk).1)

theorem str_one (x : Value) (h : x.oneCell' = true) : ∀ u ∈ [x], u.oneCell' = true := by simpa using h

end Go.Proofs.YtmhilhdmbbdnaaaGreatDoor.HL
