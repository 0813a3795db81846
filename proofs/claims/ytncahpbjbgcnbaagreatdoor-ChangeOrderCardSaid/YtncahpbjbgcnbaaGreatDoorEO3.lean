/-
  THE PIECES OF A TEXT between its marks; the document's Split and Parts.
-/
import Derived.Test.YtncahpbjbgcnbaaGreatDoorEO0
import Derived.RangeFuncNested
import Derived.RangeFuncBound
import Derived.RangeFuncBox
import Derived.RangeFuncCalls
import Derived.RangeFuncLeaves
import Derived.Shelf.Abstract
import Derived.OwnWalkIn
import Derived.TacticsInMore
import Derived.LoopNIn
import Derived.LoopIn
import Derived.Maps.AppendAt
import Derived.Laws.CopyOwn
import Derived.Sort.OwnSorted
import Derived.Lib.OwnBridge
import Derived.IntWalk
import Derived.BigQuiet
import Derived.Laws.OwnMore
import Derived.Laws.AppendOwnNone
import Derived.Deep.QuietTactic
import Derived.Deep.RegionLaw
namespace Go.Proofs.YtncahpbjbgcnbaaGreatDoor.HL
open Go.RowKit
set_option maxRecDepth 100000
set_option linter.unusedVariables false
set_option linter.unusedSimpArgs false

def fr (s : ByteArray) (c : Int) : Nat → Nat
  | 0 => 0
  | k + 1 => if (bt s k : Int) = c then k + 1 else fr s c k
def cutL (s : ByteArray) (a b : Nat) : List UInt8 := (s.data.toList.drop a).take (b - a)
def ps (s : ByteArray) (c : Int) : Nat → List (List UInt8)
  | 0 => []
  | k + 1 => if (bt s k : Int) = c then ps s c k ++ [cutL s (fr s c k) k] else ps s c k
def splitL (s : ByteArray) (c : Int) : List (List UInt8) := ps s c s.size ++ [cutL s (fr s c s.size) s.size]
theorem fr_le (s : ByteArray) (c : Int) (k : Nat) : fr s c k ≤ k := by
  induction k with
  | zero => simp [fr]
  | succ k ih => simp only [fr]; split <;> omega
theorem ps_le (s : ByteArray) (c : Int) (k : Nat) : (ps s c k).length ≤ k := by
  induction k with
  | zero => simp [ps]
  | succ k ih =>
    simp only [ps]
    split
    · simp; omega
    · omega
theorem splitL_le (s : ByteArray) (c : Int) : (splitL s c).length ≤ s.size + 1 := by
  have := ps_le s c s.size
  simp [splitL]; omega
theorem fr_t {s : ByteArray} {c : Int} {k : Nat} (h : (bt s k : Int) = c) : fr s c (k + 1) = k + 1 := by simp [fr, h]
theorem fr_f {s : ByteArray} {c : Int} {k : Nat} (h : (bt s k : Int) ≠ c) : fr s c (k + 1) = fr s c k := by simp [fr, h]
theorem ps_t {s : ByteArray} {c : Int} {k : Nat} (h : (bt s k : Int) = c) : ps s c (k + 1) = ps s c k ++ [cutL s (fr s c k) k] := by simp [ps, h]
theorem ps_f {s : ByteArray} {c : Int} {k : Nat} (h : (bt s k : Int) ≠ c) : ps s c (k + 1) = ps s c k := by simp [ps, h]
theorem extract_str (s : ByteArray) (a b : Nat) : Value.string (s.extract a b) = str (cutL s a b) := congrArg Value.string (Lib.extract_eq s a b)

/-- A slice of strings of the call's own (from block 'base' on). -/
def OwnS (w : World) (base : Nat) (v : Value) (xs : List (List UInt8)) : Prop := w.ownsRow base 9 1 v xs.length (xs.map str)
theorem OwnS.form {w : World} {base : Nat} {v : Value} {xs : List (List UInt8)} (h : OwnS w base v xs) :
    ∃ A c, v = .slice A xs.length c ∧ Strs w w.heap.size A xs ∧ (∀ a, A = some a → base ≤ a.block) ∧ xs.length ≤ c := by
  rcases h.2 with ⟨rfl, h0⟩ | ⟨g, cap, cur, rfl, hb, hg, hnc, _⟩
  · exact ⟨none, 0, by rw [h0], .inl (List.eq_nil_of_length_eq_zero h0), fun a e => (by cases e), by rw [h0]; exact Nat.le_refl _⟩
  · refine ⟨_, cap, rfl, .inr ⟨g, 0, rfl, (Array.getElem?_eq_some_iff.1 hg).1, fun j x hx => ?_⟩, fun a e => (by cases e; exact hb), hnc⟩
    have := h.cells (g := g) rfl j (str x) (by simp [hx])
    rw [show (⟨g, 0, none⟩ : Addr).add j = ⟨g, 0 + j, none⟩ by unfold Addr.add; split <;> simp_all] at this
    exact this
theorem OwnS.base {w : World} {base base' : Nat} {v : Value} {xs : List (List UInt8)} (h : OwnS w base v xs) (hb : base' ≤ base) : OwnS w base' v xs := by
  refine ⟨h.1, ?_⟩
  rcases h.2 with h2 | ⟨g, cap, cur, e, hg, r⟩
  · exact .inl h2
  · exact .inr ⟨g, cap, cur, e, Nat.le_trans hb hg, r⟩
theorem OwnS.nil_ (w : World) (base : Nat) : OwnS w base (.slice none 0 0) [] := ⟨rfl, .inl ⟨rfl, rfl⟩⟩

theorem info_str : (Tryz.prog.info? 9).map (fun i => (i.zero, i.size, i.bytes)) = some (some (.string ByteArray.empty), 1, 16) := by kernel_rfl

theorem OwnS.more {w : World} {base : Nat} {v : Value} {xs : List (List UInt8)} {x : Value} {l : List UInt8} (h : w.ownsRow base 9 1 v (xs.length + 1) (xs.map str ++ [x])) (hx : x = str l) : OwnS w base v (xs ++ [l]) := by
  subst hx
  unfold OwnS
  simpa using h
theorem below_append {B base : Nat} {w0 w w' : World} {v : Value} {n : Nat} {xs : List Value} {o : Obj} (hb : Below B w0 w) (hB : B ≤ w0.heap.size) (hown : w.ownsRow base 9 1 v n xs) (hbase : B ≤ base) (hg : (w.alloc o).grownBy w' v.ownBlock) : Below B w0 w' :=
  (hb.alloc (Nat.le_trans hB hb.size) o).grown hg (by have := hb.size; simp; omega) (fun k hk => Nat.le_trans hbase (hown.lt k hk).1)

theorem str_one (x : Value) (h : x.oneCell' = true) : ∀ u ∈ [x], u.oneCell' = true := by simpa using h

end Go.Proofs.YtncahpbjbgcnbaaGreatDoor.HL
/-
  THE ITERATOR pieces: it hands a text's pieces over, one by one, whatever the loop body does that keeps what lay below n0 and the walks' objects.
-/
namespace Go.Proofs.YtncahpbjbgcnbaaGreatDoor.HL
open Go.RowKit
set_option maxRecDepth 100000
set_option linter.unusedVariables false
set_option linter.unusedSimpArgs false

attribute [local go_sem] Oper.semAt_some

theorem get_bt (s : ByteArray) (j : Nat) (h : j < s.size) : (s.get! j).toNat = bt s j := by
  have := get_at s j h
  rw [Nat.add_zero] at this
  rw [this]; exact bt_get s j h
theorem cont_hi {s : ByteArray} {j : Nat} (h : (decide (j < s.size) && (s.get! j).toNat / 64 == 2) = true) : j < s.size ∧ 128 ≤ bt s j := by
  simp only [Bool.and_eq_true, decide_eq_true_eq, beq_iff_eq] at h
  have := get_bt s j h.1
  omega
theorem wide (s : ByteArray) (k : Nat) (h : k < s.size) (ha : 128 ≤ bt s k) : ∀ j, j < (Utf8.decode s k).2 → k + j < s.size ∧ 128 ≤ bt s (k + j) := by
  have h0 : ¬ (s.get! (k + 0)).toNat < 128 := by rw [Nat.add_zero, get_bt s k h]; omega
  have hz : ∀ j, j = 0 → k + j < s.size ∧ 128 ≤ bt s (k + j) := fun j e => by subst e; exact ⟨by omega, by simpa using ha⟩
  have key : ∀ j, (decide (k + j < s.size) && (s.get! (k + j)).toNat / 64 == 2) = true → k + j < s.size ∧ 128 ≤ bt s (k + j) := fun j hj => cont_hi hj
  intro j hj
  unfold Utf8.decode at hj
  simp only [h0, if_false] at hj
  split at hj
  · rename_i hc
    rw [Bool.and_eq_true] at hc
    have k1 := key 1 hc.2
    have : j = 0 ∨ j = 1 := by split at hj <;> simp at hj <;> omega
    rcases this with e | e
    · exact hz j e
    · subst e; exact k1
  · split at hj
    · rename_i hc
      rw [Bool.and_eq_true, Bool.and_eq_true] at hc
      have k1 := key 1 hc.1.2
      have k2 := key 2 hc.2
      have : j = 0 ∨ j = 1 ∨ j = 2 := by split at hj <;> simp at hj <;> omega
      rcases this with e | e | e
      · exact hz j e
      · subst e; exact k1
      · subst e; exact k2
    · split at hj
      · rename_i hc
        rw [Bool.and_eq_true, Bool.and_eq_true, Bool.and_eq_true] at hc
        have k1 := key 1 hc.1.1.2
        have k2 := key 2 hc.1.2
        have k3 := key 3 hc.2
        have : j = 0 ∨ j = 1 ∨ j = 2 ∨ j = 3 := by split at hj <;> simp at hj <;> omega
        rcases this with e | e | e | e
        · exact hz j e
        · subst e; exact k1
        · subst e; exact k2
        · subst e; exact k3
      · simp at hj
        exact hz j hj

theorem ps_pre (s : ByteArray) (c : Int) {k n : Nat} (h : k ≤ n) : ps s c k <+: ps s c n := by
  induction n with
  | zero => obtain rfl : k = 0 := by omega
            exact List.prefix_refl _
  | succ n ih =>
    by_cases e : k = n + 1
    · subst e; exact List.prefix_refl _
    · refine (ih (by omega)).trans ?_
      simp only [ps]
      split
      · exact ⟨_, rfl⟩
      · exact List.prefix_refl _
theorem fr_jump {s : ByteArray} {c : Int} {k wd : Nat} (h : ∀ j, j < wd → (bt s (k + j) : Int) ≠ c) : fr s c (k + wd) = fr s c k ∧ ps s c (k + wd) = ps s c k := by
  induction wd with
  | zero => simp
  | succ wd ih =>
    have := ih (fun j hj => h j (by omega))
    have hn := h wd (by omega)
    rw [← Nat.add_assoc, fr_f hn, ps_f hn]
    exact this

/-- What the string's iterator in block K hands over at place k: the mark (and it stands there), or another rune, and none of the bytes passed over is the mark. -/
theorem next_mark (s : ByteArray) (c : Int) (hc0 : 0 ≤ c) (hc : c < 128) (k K : Nat) (h : k < s.size) (w : World) (hk : w.heap[K]? = some (.stringIter s k)) :
    ∃ (r wd : Nat), (∀ ty, (Instr.next (.pointer (some ⟨K, 0, none⟩)) true ty).run Tryz.prog w = .ok (.tuple #[.bool true, .int .i64 k, .int .i32 r]) (w.iterAt K s (k + wd))) ∧ k + wd ≤ s.size ∧ 1 ≤ wd ∧
      (((r : Int) = c ∧ wd = 1 ∧ (bt s k : Int) = c) ∨ ((r : Int) ≠ c ∧ fr s c (k + wd) = fr s c k ∧ ps s c (k + wd) = ps s c k)) := by
  by_cases ha : (s[k]'h).toNat < 128
  · refine ⟨(s[k]'h).toNat, 1, fun ty => Lib.run_next_ascii_at w K s k ty hk h ha, by omega, Nat.le_refl _, ?_⟩
    have g := bt_get s k h
    by_cases e : (bt s k : Int) = c
    · exact .inl ⟨by rw [g]; exact e, rfl, e⟩
    · exact .inr ⟨by rw [g]; exact e, fr_f e, ps_f e⟩
  · have g := bt_get s k h
    have hh := decode_high s k h (by omega)
    have hw := wide s k h (by omega)
    refine ⟨(Utf8.decode s k).1, (Utf8.decode s k).2, fun ty => Lib.run_next_any_at w K s k ty hk h, ?_, hh.2, .inr ⟨by omega, ?_⟩⟩
    · have := (hw ((Utf8.decode s k).2 - 1) (by omega)).1
      omega
    · exact fr_jump (fun j hj => by have := (hw j hj).2; omega)

/-- What a round that goes on must keep: what lay below n0, and the walks' objects. -/
def Kept (n₀ : Nat) (A B : World) : Prop := Below n₀ A B ∧ KeepsWalks A B
theorem Kept.t {n₀ : Nat} {A B C : World} (h : Kept n₀ A B) (k : Kept n₀ B C) : Kept n₀ A C := ⟨h.1.trans k.1, h.2.trans k.2⟩
theorem Kept.b {n₀ : Nat} {w : World} (hn : n₀ ≤ w.heap.size) (W : World) (l : Nat) (o o' : Obj) (hl : w.heap.size ≤ l) (h : W.heap[l]? = some o) (hc : o.isCells = false) (hw : o.isWalk = false) : Kept n₀ W (W.putObj l o') :=
  ⟨belowK_b hn W l o o' hl h hc hw, walksK_b (w := w) W l o o' hl h hc hw⟩

/-- The blocks Bs and Bm, and the walks' objects, lie as they lay. -/
def Keeps (Bs Bm : Nat) (A B : World) : Prop := (B.heap[Bs]? = A.heap[Bs]? ∧ B.heap[Bm]? = A.heap[Bm]?) ∧ KeepsWalks A B
theorem Keeps.t {Bs Bm : Nat} {A B C : World} (h : Keeps Bs Bm A B) (k : Keeps Bs Bm B C) : Keeps Bs Bm A C := ⟨⟨k.1.1.trans h.1.1, k.1.2.trans h.1.2⟩, h.2.trans k.2⟩
theorem Keeps.b {Bs Bm : Nat} {w : World} (h1 : Bs < w.heap.size) (h2 : Bm < w.heap.size) (W : World) (l : Nat) (o o' : Obj) (hl : w.heap.size ≤ l) (h : W.heap[l]? = some o) (hc : o.isCells = false) (hw : o.isWalk = false) : Keeps Bs Bm W (W.putObj l o') :=
  ⟨⟨World.putObj_heap_other (by omega), World.putObj_heap_other (by omega)⟩, walksK_b (w := w) W l o o' hl h hc hw⟩
theorem Kept.keeps {n₀ Bs Bm : Nat} {A B : World} (h : Kept n₀ A B) (h1 : Bs < n₀) (h2 : Bm < n₀) : Keeps Bs Bm A B := ⟨⟨h.1.block _ h1, h.1.block _ h2⟩, h.2⟩

theorem grownBy_iterAt (w : World) (K : Nat) (s : ByteArray) (p : Nat) : w.grownBy (w.iterAt K s p) (some K) :=
  ⟨rfl, rfl, rfl, by rw [Lib.iterAt_size]; exact Nat.le_refl _, fun j _ hj => Lib.iterAt_other w K j s p (fun e => hj (by rw [e]))⟩

end Go.Proofs.YtncahpbjbgcnbaaGreatDoor.HL
/-
  slices.Collect of an iterator; Parts.
-/
namespace Go.Proofs.YtncahpbjbgcnbaaGreatDoor.HL
open Go.RowKit
set_option maxRecDepth 100000
set_option linter.unusedVariables false
set_option linter.unusedSimpArgs false

attribute [local go_sem] Oper.semAt_some

theorem same_nil (w : World) : Calls Tryz.prog 21 #[.slice none 0 0, .slice none 0 0] w fun e w' => e = .returned (.bool true) ∧ Dr w w' := by
  have h := same_any none none 0 0 [] [] w 0 (Strs.nil_ _ _ _) (Strs.nil_ _ _ _) (Nat.zero_le _) (Nat.zero_le _)
  rw [sameB_t rfl] at h
  exact h

/-! ### The law -/
end Go.Proofs.YtncahpbjbgcnbaaGreatDoor.HL
/-
  SORTING: settle, Sort, Merge: the same slice of the call's own owns the texts in ascending order, each once.
-/
namespace Go.Proofs.YtncahpbjbgcnbaaGreatDoor.HL
open Go.RowKit
set_option maxRecDepth 100000
set_option linter.unusedVariables false
set_option linter.unusedSimpArgs false

/-- A row of the call's own in block g, of known capacity. -/
def RowG (w : World) (g cap : Nat) (xs : List (List UInt8)) : Prop := w.ownsRow g 9 1 (.slice (some ⟨g, 0, none⟩) xs.length cap) xs.length (xs.map encStr)
theorem RowG.own {w : World} {g cap base : Nat} {xs : List (List UInt8)} (h : RowG w g cap xs) (hb : base ≤ g) : OwnS w base (.slice (some ⟨g, 0, none⟩) xs.length cap) xs := OwnS.base (base := g) (show w.ownsRow _ _ _ _ _ _ from h) hb
theorem RowG.lt {w : World} {g cap : Nat} {xs : List (List UInt8)} (h : RowG w g cap xs) : g < w.heap.size := (World.ownsRow.lt h g rfl).2

theorem RowG.parts {w : World} {g cap : Nat} {xs : List (List UInt8)} (h : RowG w g cap xs) : ∃ cur, w.heap[g]? = some (.cells cur 9 (0, 0)) ∧ xs.length ≤ cap ∧ cap ≤ maxLen ∧ cur.size = cap * 1 ∧ cur.toList.take xs.length = xs.map encStr := by
  rcases h.2 with ⟨e0, _⟩ | ⟨g', cap', cur, hv, _, hb, h1, h2, h3, h4⟩
  · cases e0
  · cases hv
    rw [Nat.mul_one] at h4
    exact ⟨cur, hb, h1, h2, h3, h4⟩

theorem sort_row (g cap : Nat) (xs : List (List UInt8)) (w : World) (h : RowG w g cap xs) (hn : xs.length ≤ 1048576) :
    Calls Tryz.prog 82 #[.slice (some ⟨g, 0, none⟩) xs.length cap] w fun e w' => e = .returned (.tuple #[]) ∧ RowG w' g cap (sorted xs) ∧ w.grownBy w' (some g) := by
  obtain ⟨cur, hb, h1, h2, h3, h4⟩ := h.parts
  by_cases h0 : xs.length = 0
  · have hx := List.eq_nil_of_length_eq_zero h0
    subst hx
    have hs : sorted [] = [] := List.eq_nil_of_length_eq_zero (by rw [sorted_len]; rfl)
    rw [hs]
    exact (Tryz.slices_Sort_string_none _ _ _).mono fun e w' ⟨he, hw⟩ => ⟨he, by rw [hw]; exact h, by rw [hw]; exact World.grownBy.refl _ _⟩
  · refine (Tryz.slices_Sort_string g 0 cap xs w (holds_of_block hb h4) h.lt (by omega)).mono fun e w' ⟨he, nn, os, hw⟩ => ?_
    subst hw
    refine ⟨he, ?_, grownBy_sorted _⟩
    have hr := ownsRow_sorted (n := nn) (os := os) (ts := sorted xs) (sorted_len xs) (Nat.le_refl g) hb h1 h2 h3
    unfold RowG
    rw [sorted_len]
    exact hr

theorem compact_row (g cap : Nat) (xs : List (List UInt8)) (w : World) (h : RowG w g cap xs) (hn : xs.length ≤ 1048576) :
    Calls Tryz.prog 83 #[.slice (some ⟨g, 0, none⟩) xs.length cap] w fun e w' => e = .returned (.slice (some ⟨g, 0, none⟩) (Lib.compact xs).length cap) ∧ RowG w' g cap (Lib.compact xs) ∧ w.grownBy w' (some g) := by
  obtain ⟨cur, hb, h1, h2, h3, h4⟩ := h.parts
  have hle := Lib.compact_length_le xs
  refine (Tryz.slices_Compact_string g 0 cap xs w (holds_of_block hb h4) (by omega) h1).mono fun e w' ⟨he, q, hw⟩ => ?_
  subst hw
  refine ⟨he, ?_, ?_⟩
  · have hc := Lib.ownsRow_putRow (q := q) (k := (Lib.compact xs).length) (ys := Lib.compact xs ++ List.replicate (xs.length - (Lib.compact xs).length) []) h (by simp; omega) hle
    rw [List.take_left] at hc
    exact hc
  · have := grownBy_sorted (w := w) (g := g) (n := q) (os := #[]) (Lib.compact xs ++ List.replicate (xs.length - (Lib.compact xs).length) []).toArray
    rwa [Sort.grow_empty] at this

theorem settle_any (g cap : Nat) (xs : List (List UInt8)) (w : World) (h : RowG w g cap xs) (hn : xs.length ≤ 1048576) :
    Calls Tryz.prog 64 #[.slice (some ⟨g, 0, none⟩) xs.length cap] w fun e w' => e = .returned (.slice (some ⟨g, 0, none⟩) (sortU xs).length cap) ∧ RowG w' g cap (sortU xs) ∧ w.grownBy w' (some g) := by
  have c1 := sort_row g cap xs w h hn
  have hl := sorted_len xs
  have c2 := fun w1 (h1 : RowG w1 g cap (sorted xs)) => compact_row g cap (sorted xs) w1 h1 (by omega)
  rw [hl] at c2
  have HU : Hid (sortU xs = Lib.compact (sorted xs)) := Lib.hid rfl
  rw [← HU.out] at c2
  have C1 := Lib.hid c1
  have C2 := Lib.hid c2
  clear c1 c2 hl
  go_enter Tryz.func64, Tryz.ntmps64
  go_wp2_with (first | (go_at_call 82; refine C1.out.mono ?_; rintro e w1 ⟨rfl, r1, g1⟩) | (go_at_call 83; refine (C2.out w1 r1).mono ?_; rintro e w2 ⟨rfl, r2, g2⟩))
  go_ret
  exact ⟨rfl, r2, g1.trans g2⟩

theorem made_row {w : World} {base g n : Nat} {cs : List Value} (h : w.ownsRow base 9 1 (.slice (some ⟨g, 0, none⟩) n n) n cs) : ∃ cur : List Value, w.heap[g]? = some (.cells cur.toArray 9 (0, 0)) ∧ cur.length = n := by
  rcases h.2 with ⟨e0, _⟩ | ⟨g', cap', cur, hv, _, hb, h1, h2, h3, h4⟩
  · cases e0
  · cases hv
    exact ⟨cur.toList, by simpa using hb, by simpa using h3⟩
theorem below_grown_none {w w' : World} (h : w.grownBy w' none) : Below w.heap.size w w' := (Below.refl _ w).grown h (Nat.le_refl _) (fun k e => by cases e)
theorem Strs.src {w : World} {B : Nat} {A : Option Addr} {xs : List (List UInt8)} (h : Strs w B A xs) (h0 : 0 < xs.length) : ∃ ad, A = some ad ∧ ∀ j v, (xs.map encStr)[j]? = some v → w.cell? (ad.add j) = some v := by
  obtain ⟨b, off, rfl, _, hc⟩ := h.at_ h0
  refine ⟨_, rfl, fun j v hv => ?_⟩
  rw [List.getElem?_map] at hv
  obtain ⟨x, hx, rfl⟩ := Option.map_eq_some_iff.1 hv
  rw [show (⟨b, off, none⟩ : Addr).add j = ⟨b, off + j, none⟩ by unfold Addr.add; split <;> simp_all]
  exact hc j x hx

theorem row_spliced {w : World} {g n : Nat} {cur : List Value} {xs : List (List UInt8)} (hc : cur.length = n) (hw : Hid (w.heap[g]? = some (.cells (splice cur 0 (xs.map encStr)).toArray 9 (0, 0)))) (hn : xs.length ≤ 1000000) (he : xs.length = n := by rfl) : RowG w g n xs := by
  subst he
  have hs : splice cur 0 (xs.map encStr) = xs.map encStr := by
    unfold splice
    rw [List.take_zero, List.nil_append, List.drop_eq_nil_of_le (by simp; omega), List.append_nil]
  have hw' := hw.out
  rw [hs] at hw'
  exact ⟨by simp, .inr ⟨g, xs.length, _, rfl, Nat.le_refl _, hw', Nat.le_refl _, by unfold maxLen; omega, by simp, by rw [Nat.mul_one]; exact List.take_of_length_le (by simp)⟩⟩

set_option maxHeartbeats 1000000 in
theorem sort_any (A : Option Addr) (c : Nat) (xs : List (List UInt8)) (w : World) (h : Strs w w.heap.size A xs) (hn : xs.length ≤ 1000000) :
    Calls Tryz.prog 47 #[.slice A xs.length c] w fun e w' => ∃ g cap, e = .returned (.slice (some ⟨g, 0, none⟩) (sortU xs).length cap) ∧ w.heap.size ≤ g ∧ RowG w' g cap (sortU xs) ∧ Below w.heap.size w w' := by
  obtain ⟨i0, hi, hz0, hz1, hz2⟩ := info_parts info_str
  have hcell : (Tryz.prog.info? 9).map (·.size) = some 1 := by rw [hi]; simp [hz1]
  have h1c : ∀ v ∈ xs.map encStr, v.oneCell' = true := by
    intro v hv
    obtain ⟨x, _, rfl⟩ := List.mem_map.1 hv
    rfl
  have H1C := Lib.hid h1c
  have HS := Lib.hid h
  have c3 := fun w2 (h2 : RowG w2 w.heap.size xs.length xs) => settle_any w.heap.size xs.length xs w2 h2 (by omega)
  have C3 := Lib.hid c3
  clear h1c h c3
  go_enter Tryz.func47, Tryz.ntmps47
  go_wp2_with (first | (at_make; refine wpList_make_full _ rfl _ _ 47 rfl w.heap.size 9 i0 (.string ByteArray.empty) 1 Tryz.underlying47 hi hz0 hz1 .i64 .i64 (xs.length : Int) (xs.length : Int) xs.length rfl rfl rfl rfl (by rw [hz2]; omega) (by unfold maxLen; omega) (Nat.le_refl _) ?_; intro w1 r1 g1; obtain ⟨cur, hc1, hc2⟩ := made_row r1; have HC := Lib.hid hc2; have hb1 := below_grown_none g1; have HS1 := Lib.hid (HS.out.below hb1); clear r1 hc2) | ((refine wpList_copy_splice rfl (.tmp 7) (.tmp 8) 47 47 rfl 9 Tryz.underlying47 hcell (some ⟨w.heap.size, 0, none⟩) A xs.length xs.length xs.length c rfl rfl w.heap.size 0 cur 9 hc1 (xs.map encStr) ?_ (fun h0 => ⟨rfl, HS1.out.src (by simpa using h0)⟩) ?_ H1C.out w.heap.size w hb1 (Nat.le_refl _) ?_); (rw [List.length_map]; exact (Nat.min_self _).symm); (have := HC.out; simp; omega); intro w2 hw2 hb2; have HR := Lib.hid (row_spliced HC.out hw2 (by omega))) | (go_at_call 64; refine (C3.out _ HR.out).mono ?_; rintro e w3 ⟨rfl, r3, g3⟩))
  go_ret
  exact ⟨_, _, rfl, Nat.le_refl _, r3, hb2.grown g3 hb2.size (fun k e => by cases e; exact Nat.le_refl _)⟩
theorem row_spliced2 {w : World} {g n m : Nat} {cur : List Value} {xs ys : List (List UInt8)} (hc : cur.length = n + m) (hx : xs.length = n) (hy : ys.length = m) (hn : n + m ≤ 2000000)
    (hw : Hid (w.heap[g]? = some (.cells (splice (splice cur 0 (xs.map encStr)) n (ys.map encStr)).toArray 9 (0, 0)))) : RowG w g (n + m) (xs ++ ys) := by
  subst hx hy
  have hs : splice (splice cur 0 (xs.map encStr)) xs.length (ys.map encStr) = (xs ++ ys).map encStr := by
    unfold splice
    simp only [List.take_zero, List.nil_append, Nat.zero_add, List.length_map]
    rw [List.take_append_of_le_length (by simp), List.take_of_length_le (by simp), List.drop_append, List.drop_of_length_le (by simp), List.nil_append, List.drop_drop, List.drop_eq_nil_of_le (by simp; omega), List.append_nil, List.map_append]
  have hw' := hw.out
  rw [hs] at hw'
  exact ⟨by simp, .inr ⟨g, xs.length + ys.length, _, rfl, Nat.le_refl _, hw', by simp, by unfold maxLen; omega, by simp, by rw [Nat.mul_one]; exact List.take_of_length_le (by simp)⟩⟩

end Go.Proofs.YtncahpbjbgcnbaaGreatDoor.HL
/-
  A TEXT PUT IN AT ITS PLACE, ONCE (the document's Sort), and a list with the texts of another left out (its Without). No walk.
-/
namespace Go.Proofs.YtncahpbjbgcnbaaGreatDoor.HL
open Go.RowKit
set_option linter.unusedVariables false
set_option linter.unusedSimpArgs false

theorem sortU_take_has {l : List Bs} {k : Nat} (h : k < l.length) (hm : l[k] ∈ sortU (l.take k)) : sortU (l.take (k + 1)) = sortU (l.take k) := by
  rw [List.take_succ_eq_append_getElem h]
  refine asc_uniq (sortU_asc _) (sortU_asc _) fun x => ?_
  rw [sortU_mem, sortU_mem, List.mem_append, List.mem_singleton]
  refine ⟨fun q => q.elim id fun e => ?_, .inl⟩
  subst e
  exact sortU_mem.1 hm
/-- All ahead of p are less than x; the one at p, if there is one, is not; x is not there: then x belongs at p. -/
theorem sortU_take_in {l : List Bs} {k p : Nat} (h : k < l.length) (hm : l[k] ∉ sortU (l.take k)) (hp : p ≤ (sortU (l.take k)).length) (h1 : ∀ x ∈ (sortU (l.take k)).take p, x < l[k])
    (h2 : ∀ (q : p < (sortU (l.take k)).length), ¬ (sortU (l.take k))[p] < l[k]) :
    sortU (l.take (k + 1)) = (sortU (l.take k)).take p ++ [l[k]] ++ (sortU (l.take k)).drop p := by
  rw [List.take_succ_eq_append_getElem h]
  have hA := sortU_asc (l.take k)
  have hM := fun x => @sortU_mem (l.take k) x
  generalize sortU (l.take k) = L at *
  have hsplit : L = L.take p ++ L.drop p := (List.take_append_drop p L).symm
  have hdrop : ∀ y ∈ L.drop p, l[k] < y := by
    intro y hy
    by_cases q : p < L.length
    · have hd : L.drop p = L[p] :: L.drop (p + 1) := List.drop_eq_getElem_cons q
      have hlt : l[k] < L[p] := by
        rcases tri l[k] L[p] with t | t | t
        · exact t
        · exact absurd (by rw [t]; exact List.getElem_mem q) hm
        · exact absurd t (h2 q)
      have hA2 : Asc (L.drop p) := by
        rw [hsplit] at hA
        exact (List.pairwise_append.1 hA).2.1
      rw [hd] at hy hA2
      rcases List.mem_cons.1 hy with e | e
      · rw [e]; exact hlt
      · exact lt_trans hlt ((List.pairwise_cons.1 hA2).1 y e)
    · rw [List.drop_eq_nil_of_le (by omega)] at hy
      cases hy
  refine asc_uniq (sortU_asc _) ?_ fun x => ?_
  · have hA' := hA
    rw [hsplit] at hA'
    obtain ⟨p1, p2, p3⟩ := List.pairwise_append.1 hA'
    rw [List.append_assoc]
    refine List.pairwise_append.2 ⟨p1, List.pairwise_cons.2 ⟨hdrop, p2⟩, fun a ha b hb => ?_⟩
    rcases List.mem_cons.1 hb with e | e
    · rw [e]; exact h1 a ha
    · exact p3 a ha b e
  · rw [sortU_mem, List.mem_append, List.mem_singleton, ← hM x]
    simp only [List.mem_append, List.mem_singleton]
    constructor
    · rintro (q | q)
      · rw [hsplit, List.mem_append] at q
        exact q.elim (fun a => .inl (.inl a)) .inr
      · exact .inl (.inr q)
    · rintro ((q | q) | q)
      · exact .inl (List.mem_of_mem_take q)
      · exact .inr q
      · exact .inl (List.mem_of_mem_drop q)
/-- The law's Without: what is in a and not in b, sorted, is withoutU's. -/
theorem sortU_filter (xs ys : List Bs) : sortU (xs.filter fun x => !decide (x ∈ ys)) = (sortU xs).filter fun x => !decide (x ∈ sortU ys) := by
  refine asc_uniq (sortU_asc _) (List.Pairwise.filter _ (sortU_asc xs)) fun x => ?_
  rw [sortU_mem, List.mem_filter, List.mem_filter, sortU_mem]
  simp [sortU_mem]
end Go.Proofs.YtncahpbjbgcnbaaGreatDoor.HL
/-
  WALKS: Has, within, Long, Rising (the program's and the document's).
-/
namespace Go.Proofs.YtncahpbjbgcnbaaGreatDoor.HL
open Go.RowKit
set_option maxRecDepth 100000
set_option linter.unusedVariables false
set_option linter.unusedSimpArgs false

theorem mem_take_succ {l : List Bs} {k : Nat} (h : k < l.length) {x : Bs} (hn : x ∉ l.take k) (hk : l[k] ≠ x) : x ∉ l.take (k + 1) := by
  rw [List.take_succ_eq_append_getElem h]
  simp only [List.mem_append, List.mem_singleton, not_or]
  exact ⟨hn, fun e => hk e.symm⟩

set_option maxHeartbeats 400000 in
theorem has_any (A : Option Addr) (c : Nat) (l : List Bs) (x : Bs) (B : Nat) (w : World) (h : Strs w B A l) (hn : l.length ≤ maxLen) :
    Calls Tryz.prog 24 #[.slice A l.length c, str x] w fun e w' => e = .returned (.bool (decide (x ∈ l))) ∧ w = w' := by
  unfold maxLen at hn
  go_enter Tryz.func24, Tryz.ntmps24
  go_wp2
  go_loop [5] (fun i => ∃ k : Nat, i = .int .i64 k ∧ k ≤ l.length ∧ x ∉ l.take k) (fun i => l.length - (intOf i).toNat)
  case atStart => exact ⟨0, rfl, Nat.zero_le _, by simp⟩
  case round =>
    obtain ⟨k, rfl, hk, hm⟩ := hrel
    have HM := Lib.hid hm
    clear hm
    by_cases hlt : k < l.length
    · obtain ⟨b, o, rfl, _, hc⟩ := h.at_ (by omega)
      have hx := hc k _ (List.getElem?_eq_getElem hlt)
      clear hc h
      by_cases he : l[k] = x
      · have hb : (l[k] == x) = true := by simpa using he
        have HV : Hid (decide (x ∈ l) = true) := Lib.hid (decide_eq_true (by rw [← he]; exact List.getElem_mem hlt))
        clear he
        go_wp2
        go_ret
        exact ⟨by rw [HV.out]; rfl, rfl⟩
      · have hb : (l[k] == x) = false := by simpa using he
        have HR := Lib.hid (mem_take_succ hlt HM.out he)
        clear he
        go_wp2
        go_round
        case rel => exact ⟨k + 1, by go_num, by omega, HR.out⟩
        case measure => simp [intOf]; omega
    · have HV : Hid (decide (x ∈ l) = false) := Lib.hid (decide_eq_false (by have := HM.out; rwa [List.take_of_length_le (by omega)] at this))
      go_wp2
      go_ret
      exact ⟨by rw [HV.out]; rfl, rfl⟩

def subB (a b : List Bs) : Bool := a.all fun x => decide (x ∈ b)
theorem subB_f {a b : List Bs} {x : Bs} (h : x ∈ a) (hn : x ∉ b) : subB a b = false := by
  unfold subB
  rw [List.all_eq_false]
  exact ⟨x, h, by simpa using hn⟩
theorem subB_t {a b : List Bs} (h : ∀ x ∈ a, x ∈ b) : subB a b = true := by
  unfold subB
  rw [List.all_eq_true]
  exact fun x hx => decide_eq_true (h x hx)

def longB (l : List Bs) : Bool := decide (100 < l.length) || l.any fun x => decide (100 < x.length)
theorem longB_t1 {l : List Bs} (h : 100 < l.length) : longB l = true := by simp [longB, h]
theorem longB_t2 {l : List Bs} {x : Bs} (hx : x ∈ l) (h : 100 < x.length) : longB l = true := by
  unfold longB
  rw [Bool.or_eq_true]
  exact .inr (List.any_eq_true.2 ⟨x, hx, decide_eq_true h⟩)
theorem longB_f {l : List Bs} (h : ¬ 100 < l.length) (h2 : ∀ x ∈ l, ¬ 100 < x.length) : longB l = false := by
  unfold longB
  rw [Bool.or_eq_false_iff]
  exact ⟨decide_eq_false h, List.any_eq_false.2 fun x hx => by simpa using h2 x hx⟩
theorem longB_out {l : List Bs} (h : longB l = false) : l.length ≤ 100 ∧ ∀ x ∈ l, x.length ≤ 100 := by
  unfold longB at h
  rw [Bool.or_eq_false_iff] at h
  exact ⟨by have := of_decide_eq_false h.1; omega, fun x hx => by have := List.any_eq_false.1 h.2 x hx; simpa using this⟩

end Go.Proofs.YtncahpbjbgcnbaaGreatDoor.HL
/-
  WALK: the document's Sort, for seats without the handles' texts (out of HSpread and HRefSort).
-/
namespace Go.Proofs.YtncahpbjbgcnbaaGreatDoor.HL
open Go.RowKit
set_option maxRecDepth 100000
set_option linter.unusedVariables false
set_option linter.unusedSimpArgs false
theorem str_cells (ys : List Bs) : ∀ u ∈ ys.map str, u.oneCell' = true := by
  intro u hu
  obtain ⟨y, _, rfl⟩ := List.mem_map.1 hu
  rfl
theorem run_spread_none {P : Program} (t ty e : TypeId) (i : TypeInfo) (ht : P.underlying t = some (.slice e)) (hi : P.info? e = some i) {w : World} {base size : Nat} {v : Value} {n : Nat} {xs : List Value} (hown : w.ownsRow base e size v n xs) (c : Nat) :
    (Builtin.append_ #[t, t] ty #[v, .slice none 0 c]).run P w = .ok v w := by
  cases hown.2 with
  | inl q =>
    obtain ⟨e1, e2⟩ := q
    rw [e1]
    simp [Builtin.append_, run_underlying ht, sizeOf, typeInfo, hi, Builtin.lenOf, Builtin.firstCells]
  | inr q =>
    obtain ⟨g, cap, cur, e1, _, _, hnc, _⟩ := q
    rw [e1]
    simp [Builtin.append_, run_underlying ht, sizeOf, typeInfo, hi, Builtin.lenOf, Builtin.firstCells, hnc, storeCells]

theorem wpList_spread {ops : Array Oper} {rest : List Oper} {o : Oper} {a : Act} {Q : Exit → Act → World → Prop} (w : World) (hgd : o.guard = none) (s x : Operand)
    (ho : o.op = .call { callee := .builtin .append, args := #[s, x], argTypes := #[47, 47] }) (base : Nat) (v : Value) (xs : List Bs) (hs : a.eval s = v) (hown : OwnS w base v xs)
    (B : Nat) (A : Option Addr) (c : Nat) (ys : List Bs) (hx : a.eval x = .slice A ys.length c) (hr : Strs w B A ys) (hl : xs.length + ys.length ≤ 1000000) (hbase : base ≤ w.heap.size)
    (h : ∀ v' w', OwnS w' base v' (xs ++ ys) → w.grownBy w' v.ownBlock → wpList Tryz.prog ops Q rest (a.put o.dst v') w') : wpList Tryz.prog ops Q (o :: rest) a w := by
  obtain ⟨i0, hi, hz0, hz1, hz2⟩ := info_parts info_str
  have hcat : ∀ v' w', w'.ownsRow base 9 1 v' (xs.length + ys.length) (xs.map str ++ ys.map str) → OwnS w' base v' (xs ++ ys) := fun v' w' q => by
    unfold OwnS
    simpa using q
  cases A with
  | none =>
    have hy : ys = [] := by
      rcases hr with q | ⟨_, _, q, _⟩
      · exact q
      · cases q
    subst hy
    refine wpList_plain hgd fun K hK => ?_
    have hrun := run_spread_none 47 o.type 9 i0 Tryz.underlying47 hi hown c
    unfold Oper.wp
    simp [execOp, ho, resolve, invoke, builtin, hs, hx, hrun, Result.andThen]
    exact hK _ _ (h v w (by rw [List.append_nil]; exact hown) (World.grownBy.refl _ _))
  | some ad =>
    refine wpList_append_own w hgd s x 47 ho base 9 i0 (.string ByteArray.empty) 1 16 Tryz.underlying47 hi hz0 hz1 hz2 rfl (by decide) v xs.length _ hs hown ad ys.length c (ys.map str) hx (by simp) ?_ (str_cells ys) (by unfold maxLen; omega) (by omega) hbase (fun v' w' q g _ => h v' w' (hcat v' w' q) g)
    intro j u hu
    rw [List.getElem?_map] at hu
    obtain ⟨y, hy, rfl⟩ := Option.map_eq_some_iff.1 hu
    rcases hr with q | ⟨b, off, e, _, hc⟩
    · rw [q] at hy; cases hy
    · cases e
      rw [show (⟨b, off, none⟩ : Addr).add j = ⟨b, off + j, none⟩ by unfold Addr.add; split <;> simp_all]
      exact hc j y hy
theorem OwnS.lit (w : World) (base : Nat) (hb : base ≤ w.heap.size) : OwnS (w.alloc (.cells #[] 9)) base (.slice (some ⟨w.heap.size, 0, none⟩) 0 0) [] := World.ownsRow_lit w #[] 0 hb (Nat.zero_le _) rfl


theorem quiet_add {P : Program} {f : FuncId} {args : Array Value} {w : World} {a n : Nat} {v : Value} (h : Calls P f args (w.drewN (a + n)) fun e w' => e = .returned v ∧ ∃ m, w' = (w.drewN (a + n)).drewN m) :
    Calls P f args (w.drewN (a + n)) fun e w' => e = .returned v ∧ ∃ m, w' = w.drewN (a + m) := h.mono fun _ _ k => by
  obtain ⟨he, m, hm⟩ := k
  exact ⟨he, n + m, by rw [hm, World.drewN_drewN, Nat.add_assoc]⟩
/-- 'append(own, xs...)' as one step of a region that draws. -/
theorem step_spread {ops : Array Oper} {o : Oper} {a : Act} {w : World} {K : Act → World → Prop} {Q : Exit → Act → World → Prop} {E : Prop} (hgd : o.guard = none) (s x : Operand)
    (ho : o.op = .call { callee := .builtin .append, args := #[s, x], argTypes := #[47, 47] }) (base : Nat) (v : Value) (xs : List Bs) (hs : a.eval s = v) (hown : OwnS w base v xs)
    (B : Nat) (A : Option Addr) (m c : Nat) (ys : List Bs) (hx : a.eval x = .slice A m c) (hm : ys.length = m) (hr : Strs w B A ys) (hl : xs.length + ys.length ≤ 1000000) (hbase : base ≤ w.heap.size)
    (h : ∀ v' w', OwnS w' base v' (xs ++ ys) → w.grownBy w' v.ownBlock → K (a.put o.dst v') w') :
    if Region.wanted o (yielded ops a.tmps) = true then Oper.wp Tryz.prog o a w K Q else E := by
  have hw : Region.wanted o (yielded ops a.tmps) = true := by simp [Region.wanted, hgd]
  rw [if_pos hw]
  subst hm
  obtain ⟨i0, hi, hz0, hz1, hz2⟩ := info_parts info_str
  have hcat : ∀ v' w', w'.ownsRow base 9 1 v' (xs.length + ys.length) (xs.map str ++ ys.map str) → OwnS w' base v' (xs ++ ys) := fun v' w' q => by
    unfold OwnS
    simpa using q
  cases A with
  | none =>
    have hy : ys = [] := by
      rcases hr with q | ⟨_, _, q, _⟩
      · exact q
      · cases q
    subst hy
    have hrun := run_spread_none 47 o.type 9 i0 Tryz.underlying47 hi hown c
    unfold Oper.wp
    simp [execOp, ho, resolve, invoke, builtin, hs, hx, hrun, Result.andThen]
    exact h v w (by rw [List.append_nil]; exact hown) (World.grownBy.refl _ _)
  | some ad =>
    refine wp_append_own w s x 47 ho base 9 i0 (.string ByteArray.empty) 1 16 Tryz.underlying47 hi hz0 hz1 hz2 rfl (by decide) v xs.length _ hs hown ad ys.length c (ys.map str) hx (by simp) ?_ (str_cells ys) (by unfold maxLen; omega) (by omega) hbase (fun v' w' q g _ => h v' w' (hcat v' w' q) g)
    intro j u hu
    rw [List.getElem?_map] at hu
    obtain ⟨y, hy, rfl⟩ := Option.map_eq_some_iff.1 hu
    rcases hr with q | ⟨b, off, e, _, hc⟩
    · rw [q] at hy; cases hy
    · cases e
      rw [show (⟨b, off, none⟩ : Addr).add j = ⟨b, off + j, none⟩ by unfold Addr.add; split <;> simp_all]
      exact hc j y hy

/-- A row of one's own, cut short. -/
theorem OwnS.take {w : World} {base p c : Nat} {A : Option Addr} {zs : List Bs} (h : OwnS w base (.slice A zs.length c) zs) (hp : p ≤ zs.length) : OwnS w base (.slice A p c) (zs.take p) := by
  have hl : (zs.take p).length = p := by rw [List.length_take]; omega
  refine ⟨by simp, ?_⟩
  rw [hl]
  rcases h.2 with ⟨e, h0⟩ | ⟨g, cap, cur, e, hg, hb, hn, hc, hs, ht⟩
  · have p0 : p = 0 := by omega
    simp only [Value.slice.injEq] at e
    obtain ⟨rfl, _, rfl⟩ := e
    subst p0
    exact .inl ⟨rfl, rfl⟩
  · simp only [Value.slice.injEq] at e
    obtain ⟨rfl, _, rfl⟩ := e
    refine .inr ⟨g, c, cur, rfl, hg, hb, by omega, hc, hs, ?_⟩
    rw [Nat.mul_one] at ht ⊢
    rw [List.map_take, ← ht, List.take_take, Nat.min_eq_left hp]
/-- What another row's growing leaves alone. -/
theorem OwnS.beside {w w' : World} {base : Nat} {v : Value} {zs : List Bs} {r : Option Nat} (h : OwnS w base v zs) (hg : w.grownBy w' r) (hr : ∀ k, r = some k → k < base) : OwnS w' base v zs := by
  refine ⟨h.1, ?_⟩
  rcases h.2 with e | ⟨g, cap, cur, e, hb, hh, q⟩
  · exact .inl e
  · refine .inr ⟨g, cap, cur, e, hb, ?_, q⟩
    have hlt : g < w.heap.size := (Array.getElem?_eq_some_iff.1 hh).1
    rw [hg.block g hlt (fun e2 => by have := hr g e2.symm; omega), hh]

theorem addr_add0 (a : Addr) : a.add 0 = a := by unfold Addr.add; simp
theorem elem_strs : Tryz.prog.elem 47 = 9 := by kernel_rfl
theorem size_str (W : World) : (sizeOf 9).run Tryz.prog W = .ok 1 W := by kernel_rfl
theorem under_strs : Tryz.prog.underlying 47 = some (.slice (Tryz.prog.elem 47)) := by rw [elem_strs]; exact Tryz.underlying47
theorem OwnS.cap {w : World} {base c : Nat} {A : Option Addr} {zs : List Bs} (h : OwnS w base (.slice A zs.length c) zs) : zs.length ≤ c := by
  obtain ⟨A', c', e, _, _, hl⟩ := h.form
  cases e
  exact hl
/-- out[p:], whatever the row. -/
theorem slice_from {w : World} {base c p : Nat} {A : Option Addr} {zs : List Bs} (h : OwnS w base (.slice A zs.length c) zs) (hp : p ≤ zs.length) :
    ∃ A2 c2, (∀ W, (Instr.slice 47 (.slice A zs.length c) (some (.int .i64 p)) none none).run Tryz.prog W = .ok (.slice A2 (zs.length - p) c2) W) ∧ Strs w w.heap.size A2 (zs.drop p) := by
  refine ⟨if c = p then A else A.map (·.add p), c - p, fun W => ?_, ?_⟩
  · rw [run_slice_l W 47 A zs.length c under_strs .i64 (p : Int) (by omega) (by omega), elem_strs, size_str]
    simp [Result.andThen, sliced]
  · by_cases e : p = zs.length
    · exact .inl (List.drop_eq_nil_of_le (by omega))
    · have hc := h.cap
      rw [if_neg (by omega)]
      obtain ⟨A', c', e2, hs, _, _⟩ := h.form
      cases e2
      obtain ⟨b, o, rfl, hb, hcell⟩ := hs.at_ (by omega)
      refine .inr ⟨b, o + p, ?_, hb, fun j x hx => ?_⟩
      · unfold Addr.add
        simp only [Option.map_some]
        split
        · rename_i h0; subst h0; rfl
        · rfl
      · rw [List.getElem?_drop] at hx
        rw [Nat.add_assoc]
        exact hcell (p + j) x hx
theorem slice_to {w : World} {base c p : Nat} {A : Option Addr} {zs : List Bs} (h : OwnS w base (.slice A zs.length c) zs) (hp : p ≤ zs.length) (W : World) :
    (Instr.slice 47 (.slice A zs.length c) none (some (.int .i64 p)) none).run Tryz.prog W = .ok (.slice A p c) W := by
  have hc := h.cap
  rw [run_slice_h W 47 A zs.length c under_strs .i64 (p : Int) (by omega) (by omega), elem_strs, size_str]
  cases A <;> simp [Result.andThen, sliced, addr_add0]
/-- Compare of two short texts: its answer, and what that says. -/
theorem refCmp_c (x y : Bs) (hx : x.length ≤ 100) (hy : y.length ≤ 100) : ∃ c : Int, (c < 0 ↔ x < y) ∧ ∀ W, Calls Tryz.prog 40 #[str x, str y] W fun e w' => e = .returned (.int .i64 c) ∧ Dr W w' := by
  refine ⟨Lib.compareBytes x y, ?_, fun W => ?_⟩
  · rcases cmp_cases x y with ⟨h, q⟩ | ⟨h, q⟩ | ⟨h, q⟩
    · rw [h]; exact ⟨fun _ => q, fun _ => by omega⟩
    · rw [h]; exact ⟨fun e => by omega, fun e => absurd (q ▸ e) (lt_irrefl _)⟩
    · rw [h]; exact ⟨fun e => by omega, fun e => absurd (lt_trans e q) (lt_irrefl _)⟩
  · have h := refCompare_any ⟨x.toArray⟩ ⟨y.toArray⟩ W (by show x.length ≤ maxLen; unfold maxLen; omega) (by show y.length ≤ maxLen; unfold maxLen; omega)
    exact h
theorem mem_take_lt {zs : List Bs} {p : Nat} {x : Bs} (h : p < zs.length) (h1 : ∀ y ∈ zs.take p, y < x) (h2 : zs[p] < x) : ∀ y ∈ zs.take (p + 1), y < x := by
  rw [List.take_succ_eq_append_getElem h]
  intro y hy
  rcases List.mem_append.1 hy with q | q
  · exact h1 y q
  · rw [List.mem_singleton.1 q]; exact h2
theorem insert_at {xs zs : List Bs} {k p : Nat} (hlt : k < xs.length) (hz : zs = sortU (xs.take k)) (hn : xs[k] ∉ zs) (hp : p ≤ zs.length) (h1 : ∀ y ∈ zs.take p, y < xs[k]) (h2 : ∀ q : p < zs.length, ¬ zs[p] < xs[k]) :
    zs.take p ++ [xs[k]] ++ zs.drop p = sortU (xs.take (k + 1)) := by
  subst hz
  exact (sortU_take_in hlt hn hp h1 h2).symm
theorem own_below {w w' : World} {base n : Nat} {v : Value} {us : List Value} (h : w.ownsRow base 9 1 v n us) (hb : Below w.heap.size w w') : w'.ownsRow base 9 1 v n us := by
  refine ⟨h.1, ?_⟩
  rcases h.2 with e | ⟨g, cap, cur, e, hg, hh, q⟩
  · exact .inl e
  · refine .inr ⟨g, cap, cur, e, hg, ?_, q⟩
    have hlt : g < w.heap.size := (Array.getElem?_eq_some_iff.1 hh).1
    rw [hb.block g hlt, hh]
theorem OwnS.below {w w' : World} {base : Nat} {v : Value} {zs : List Bs} (h : OwnS w base v zs) (hb : Below w.heap.size w w') : OwnS w' base v zs := own_below h hb
theorem OwnS.lt {w : World} {base : Nat} {v : Value} {zs : List Bs} (h : OwnS w base v zs) : ∀ k, v.ownBlock = some k → base ≤ k ∧ k < w.heap.size := World.ownsRow.lt (show w.ownsRow _ _ _ _ _ _ from h)
theorem OwnS.strs {w : World} {base n c : Nat} {A : Option Addr} {zs : List Bs} (h : OwnS w base (.slice A n c) zs) : Strs w w.heap.size A zs := by
  obtain ⟨A', c', e, s, _, _⟩ := h.form
  cases e
  exact s
theorem one_strs (W : World) (x : Bs) : Strs (W.alloc (.cells #[str x] 9)) (W.heap.size + 1) (some ⟨W.heap.size, 0, none⟩) [x] := by
  refine .inr ⟨W.heap.size, 0, rfl, by omega, fun j y hj => ?_⟩
  cases j with
  | zero =>
    simp at hj
    subst hj
    have := cell_one_new W (str x) 9 0 (str x) rfl
    rw [addr_add0] at this
    exact this
  | succ j => simp at hj
theorem sortU_len (xs : List Bs) : (sortU xs).length ≤ xs.length := by
  have := Lib.compact_length_le (sorted xs)
  rw [sorted_len] at this
  exact this
theorem sortU_nil : sortU [] = [] := List.eq_nil_of_length_eq_zero (by have := sortU_len []; simpa using this)
theorem sort_len_take (xs : List Bs) (k : Nat) : (sortU (xs.take k)).length ≤ k := by
  have := sortU_len (xs.take k)
  rw [List.length_take] at this
  omega

end Go.Proofs.YtncahpbjbgcnbaaGreatDoor.HL
