/-
  THE ITERATOR pieces: it hands a text's pieces over, one by one, whatever the loop body does that keeps what lay below n0 and the walks' objects.
-/
import Derived.Test.YtmhilhdmbbdnaaaGreatDoorHSplit
import Derived.RangeFuncNested
import Derived.RangeFuncBound
import Derived.RangeFuncBox
import Derived.RangeFuncCalls
import Derived.RangeFuncLeaves
import Derived.Shelf.Abstract
import Derived.OwnWalkIn
import Derived.TacticsInMore
import Derived.LoopNIn
import Derived.LoopIn
import Derived.Maps.AppendAt
namespace Go.Proofs.YtmhilhdmbbdnaaaGreatDoor.HL
open Go.RowKit
set_option maxRecDepth 100000
set_option linter.unusedVariables false
set_option linter.unusedSimpArgs false

attribute [local go_sem] Oper.semAt_some

theorem get_bt (s : ByteArray) (j : Nat) (h : j < s.size) : (s.get! j).toNat = bt s j := by
  have := get_at s j h
  rw [Nat.add_zero] at this
  rw [this]; exact bt_get s j h
theorem cont_hi {s : ByteArray} {j : Nat} (h : (decide (j < s.size) && (s.get! j).toNat / 64 == 2) = true) : j < s.size ∧ 128 ≤ bt s j := by
  simp only [Bool.and_eq_true, decide_eq_true_eq, beq_iff_eq] at h
  have := get_bt s j h.1
  omega
theorem wide (s : ByteArray) (k : Nat) (h : k < s.size) (ha : 128 ≤ bt s k) : ∀ j, j < (Utf8.decode s k).2 → k + j < s.size ∧ 128 ≤ bt s (k + j) := by
  have h0 : ¬ (s.get! (k + 0)).toNat < 128 := by rw [Nat.add_zero, get_bt s k h]; omega
  have hz : ∀ j, j = 0 → k + j < s.size ∧ 128 ≤ bt s (k + j) := fun j e => by subst e; exact ⟨by omega, by simpa using ha⟩
  have key : ∀ j, (decide (k + j < s.size) && (s.get! (k + j)).toNat / 64 == 2) = true → k + j < s.size ∧ 128 ≤ bt s (k + j) := fun j hj => cont_hi hj
  intro j hj
  unfold Utf8.decode at hj
  simp only [h0, if_false] at hj
  split at hj
  · rename_i hc
    rw [Bool.and_eq_true] at hc
    have k1 := key 1 hc.2
    have : j = 0 ∨ j = 1 := by split at hj <;> simp at hj <;> omega
    rcases this with e | e
    · exact hz j e
    · subst e; exact k1
  · split at hj
    · rename_i hc
      rw [Bool.and_eq_true, Bool.and_eq_true] at hc
      have k1 := key 1 hc.1.2
      have k2 := key 2 hc.2
      have : j = 0 ∨ j = 1 ∨ j = 2 := by split at hj <;> simp at hj <;> omega
      rcases this with e | e | e
      · exact hz j e
      · subst e; exact k1
      · subst e; exact k2
    · split at hj
      · rename_i hc
        rw [Bool.and_eq_true, Bool.and_eq_true, Bool.and_eq_true] at hc
        have k1 := key 1 hc.1.1.2
        have k2 := key 2 hc.1.2
        have k3 := key 3 hc.2
        have : j = 0 ∨ j = 1 ∨ j = 2 ∨ j = 3 := by split at hj <;> simp at hj <;> omega
        rcases this with e | e | e | e
        · exact hz j e
        · subst e; exact k1
        · subst e; exact k2
        · subst e; exact k3
      · simp at hj
        exact hz j hj

theorem ps_pre (s : ByteArray) (c : Int) {k n : Nat} (h : k ≤ n) : ps s c k <+: ps s c n := by
  induction n with
  | zero => obtain rfl : k = 0 := by omega
            exact List.prefix_refl _
  | succ n ih =>
    by_cases e : k = n + 1
    · subst e; exact List.prefix_refl _
    · refine (ih (by omega)).trans ?_
      simp only [ps]
      split
      · exact ⟨_, rfl⟩
      · exact List.prefix_refl _
theorem fr_jump {s : ByteArray} {c : Int} {k wd : Nat} (h : ∀ j, j < wd → (bt s (k + j) : Int) ≠ c) : fr s c (k + wd) = fr s c k ∧ ps s c (k + wd) = ps s c k := by
  induction wd with
  | zero => simp
  | succ wd ih =>
    have := ih (fun j hj => h j (by omega))
    have hn := h wd (by omega)
    rw [← Nat.add_assoc, fr_f hn, ps_f hn]
    exact this

/-- What the string's iterator in block K hands over at place k: the mark (and it stands there), or another rune, and none of the bytes passed over is the mark. -/
theorem next_mark (s : ByteArray) (c : Int) (hc0 : 0 ≤ c) (hc : c < 128) (k K : Nat) (h : k < s.size) (w : World) (hk : w.heap[K]? = some (.stringIter s k)) :
    ∃ (r wd : Nat), (∀ ty, (Instr.next (.pointer (some ⟨K, 0, none⟩)) true ty).run Tryz.prog w = .ok (.tuple #[.bool true, .int .i64 k, .int .i32 r]) (w.iterAt K s (k + wd))) ∧ k + wd ≤ s.size ∧ 1 ≤ wd ∧
      (((r : Int) = c ∧ wd = 1 ∧ (bt s k : Int) = c) ∨ ((r : Int) ≠ c ∧ fr s c (k + wd) = fr s c k ∧ ps s c (k + wd) = ps s c k)) := by
  by_cases ha : (s[k]'h).toNat < 128
  · refine ⟨(s[k]'h).toNat, 1, fun ty => Lib.run_next_ascii_at w K s k ty hk h ha, by omega, Nat.le_refl _, ?_⟩
    have g := bt_get s k h
    by_cases e : (bt s k : Int) = c
    · exact .inl ⟨by rw [g]; exact e, rfl, e⟩
    · exact .inr ⟨by rw [g]; exact e, fr_f e, ps_f e⟩
  · have g := bt_get s k h
    have hh := decode_high s k h (by omega)
    have hw := wide s k h (by omega)
    refine ⟨(Utf8.decode s k).1, (Utf8.decode s k).2, fun ty => Lib.run_next_any_at w K s k ty hk h, ?_, hh.2, .inr ⟨by omega, ?_⟩⟩
    · have := (hw ((Utf8.decode s k).2 - 1) (by omega)).1
      omega
    · exact fr_jump (fun j hj => by have := (hw j hj).2; omega)

/-- What a round that goes on must keep: what lay below n0, and the walks' objects. -/
def Kept (n₀ : Nat) (A B : World) : Prop := Below n₀ A B ∧ KeepsWalks A B
theorem Kept.t {n₀ : Nat} {A B C : World} (h : Kept n₀ A B) (k : Kept n₀ B C) : Kept n₀ A C := ⟨h.1.trans k.1, h.2.trans k.2⟩
theorem Kept.b {n₀ : Nat} {w : World} (hn : n₀ ≤ w.heap.size) (W : World) (l : Nat) (o o' : Obj) (hl : w.heap.size ≤ l) (h : W.heap[l]? = some o) (hc : o.isCells = false) (hw : o.isWalk = false) : Kept n₀ W (W.putObj l o') :=
  ⟨belowK_b hn W l o o' hl h hc hw, walksK_b (w := w) W l o o' hl h hc hw⟩

/-- The blocks Bs and Bm, and the walks' objects, lie as they lay. -/
def Keeps (Bs Bm : Nat) (A B : World) : Prop := (B.heap[Bs]? = A.heap[Bs]? ∧ B.heap[Bm]? = A.heap[Bm]?) ∧ KeepsWalks A B
theorem Keeps.t {Bs Bm : Nat} {A B C : World} (h : Keeps Bs Bm A B) (k : Keeps Bs Bm B C) : Keeps Bs Bm A C := ⟨⟨k.1.1.trans h.1.1, k.1.2.trans h.1.2⟩, h.2.trans k.2⟩
theorem Keeps.b {Bs Bm : Nat} {w : World} (h1 : Bs < w.heap.size) (h2 : Bm < w.heap.size) (W : World) (l : Nat) (o o' : Obj) (hl : w.heap.size ≤ l) (h : W.heap[l]? = some o) (hc : o.isCells = false) (hw : o.isWalk = false) : Keeps Bs Bm W (W.putObj l o') :=
  ⟨⟨World.putObj_heap_other (by omega), World.putObj_heap_other (by omega)⟩, walksK_b (w := w) W l o o' hl h hc hw⟩
theorem Kept.keeps {n₀ Bs Bm : Nat} {A B : World} (h : Kept n₀ A B) (h1 : Bs < n₀) (h2 : Bm < n₀) : Keeps Bs Bm A B := ⟨⟨h.1.block _ h1, h.1.block _ h2⟩, h.2⟩

theorem grownBy_iterAt (w : World) (K : Nat) (s : ByteArray) (p : Nat) : w.grownBy (w.iterAt K s p) (some K) :=
  ⟨rfl, rfl, rfl, by rw [Lib.iterAt_size]; exact Nat.le_refl _, fun j _ hj => Lib.iterAt_other w K j s p (fun e => hj (by rw [e]))⟩

end Go.Proofs.YtmhilhdmbbdnaaaGreatDoor.HL
