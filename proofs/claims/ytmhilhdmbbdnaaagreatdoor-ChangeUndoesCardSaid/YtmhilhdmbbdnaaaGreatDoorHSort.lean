/-
  SORTING: settle, Sort, Merge: the same slice of the call's own owns the texts in ascending order, each once.
-/
import Derived.Test.YtmhilhdmbbdnaaaGreatDoorHParts
import Derived.Test.YtmhilhdmbbdnaaaGreatDoorHOrder
import Derived.Laws.CopyOwn
import Derived.Sort.OwnSorted
import Derived.Lib.OwnBridge
namespace Go.Proofs.YtmhilhdmbbdnaaaGreatDoor.HL
open Go.RowKit
set_option maxRecDepth 100000
set_option linter.unusedVariables false
set_option linter.unusedSimpArgs false

/-- A row of the call's own in block g, of known capacity. -/
def RowG (w : World) (g cap : Nat) (xs : List (List UInt8)) : Prop := w.ownsRow g 9 1 (.slice (some ⟨g, 0, none⟩) xs.length cap) xs.length (xs.map encStr)
theorem RowG.own {w : World} {g cap base : Nat} {xs : List (List UInt8)} (h : RowG w g cap xs) (hb : base ≤ g) : OwnS w base (.slice (some ⟨g, 0, none⟩) xs.length cap) xs := OwnS.base (base := g) (show w.ownsRow _ _ _ _ _ _ from h) hb
theorem RowG.lt {w : World} {g cap : Nat} {xs : List (List UInt8)} (h : RowG w g cap xs) : g < w.heap.size := (World.ownsRow.lt h g rfl).2

theorem RowG.parts {w : World} {g cap : Nat} {xs : List (List UInt8)} (h : RowG w g cap xs) : ∃ cur, w.heap[g]? = some (.cells cur 9 (0, 0)) ∧ xs.length ≤ cap ∧ cap ≤ maxLen ∧ cur.size = cap * 1 ∧ cur.toList.take xs.length = xs.map encStr := by
  rcases h.2 with ⟨e0, _⟩ | ⟨g', cap', cur, hv, _, hb, h1, h2, h3, h4⟩
  · cases e0
  · cases hv
    rw [Nat.mul_one] at h4
    exact ⟨cur, hb, h1, h2, h3, h4⟩

theorem sort_row (g cap : Nat) (xs : List (List UInt8)) (w : World) (h : RowG w g cap xs) (hn : xs.length ≤ 1048576) :
    Calls Tryz.prog 87 #[.slice (some ⟨g, 0, none⟩) xs.length cap] w fun e w' => e = .returned (.tuple #[]) ∧ RowG w' g cap (sorted xs) ∧ w.grownBy w' (some g) := by
  obtain ⟨cur, hb, h1, h2, h3, h4⟩ := h.parts
  by_cases h0 : xs.length = 0
  · have hx := List.eq_nil_of_length_eq_zero h0
    subst hx
    have hs : sorted [] = [] := List.eq_nil_of_length_eq_zero (by rw [sorted_len]; rfl)
    rw [hs]
    exact (Tryz.slices_Sort_string_none _ _ _).mono fun e w' ⟨he, hw⟩ => ⟨he, by rw [hw]; exact h, by rw [hw]; exact World.grownBy.refl _ _⟩
  · refine (Tryz.slices_Sort_string g 0 cap xs w (holds_of_block hb h4) h.lt (by omega)).mono fun e w' ⟨he, nn, os, hw⟩ => ?_
    subst hw
    refine ⟨he, ?_, grownBy_sorted _⟩
    have hr := ownsRow_sorted (n := nn) (os := os) (ts := sorted xs) (sorted_len xs) (Nat.le_refl g) hb h1 h2 h3
    unfold RowG
    rw [sorted_len]
    exact hr

theorem compact_row (g cap : Nat) (xs : List (List UInt8)) (w : World) (h : RowG w g cap xs) (hn : xs.length ≤ 1048576) :
    Calls Tryz.prog 88 #[.slice (some ⟨g, 0, none⟩) xs.length cap] w fun e w' => e = .returned (.slice (some ⟨g, 0, none⟩) (Lib.compact xs).length cap) ∧ RowG w' g cap (Lib.compact xs) ∧ w.grownBy w' (some g) := by
  obtain ⟨cur, hb, h1, h2, h3, h4⟩ := h.parts
  have hle := Lib.compact_length_le xs
  refine (Tryz.slices_Compact_string g 0 cap xs w (holds_of_block hb h4) (by omega) h1).mono fun e w' ⟨he, q, hw⟩ => ?_
  subst hw
  refine ⟨he, ?_, ?_⟩
  · have hc := Lib.ownsRow_putRow (q := q) (k := (Lib.compact xs).length) (ys := Lib.compact xs ++ List.replicate (xs.length - (Lib.compact xs).length) []) h (by simp; omega) hle
    rw [List.take_left] at hc
    exact hc
  · have := grownBy_sorted (w := w) (g := g) (n := q) (os := #[]) (Lib.compact xs ++ List.replicate (xs.length - (Lib.compact xs).length) []).toArray
    rwa [Sort.grow_empty] at this

theorem settle_any (g cap : Nat) (xs : List (List UInt8)) (w : World) (h : RowG w g cap xs) (hn : xs.length ≤ 1048576) :
    Calls Tryz.prog 69 #[.slice (some ⟨g, 0, none⟩) xs.length cap] w fun e w' => e = .returned (.slice (some ⟨g, 0, none⟩) (sortU xs).length cap) ∧ RowG w' g cap (sortU xs) ∧ w.grownBy w' (some g) := by
  have c1 := sort_row g cap xs w h hn
  have hl := sorted_len xs
  have c2 := fun w1 (h1 : RowG w1 g cap (sorted xs)) => compact_row g cap (sorted xs) w1 h1 (by omega)
  rw [hl] at c2
  have HU : Hid (sortU xs = Lib.compact (sorted xs)) := Lib.hid rfl
  rw [← HU.out] at c2
  have C1 := Lib.hid c1
  have C2 := Lib.hid c2
  clear c1 c2 hl
  go_enter Tryz.func69, Tryz.ntmps69
  go_wp2_with (first | (go_at_call 87; refine C1.out.mono ?_; rintro e w1 ⟨rfl, r1, g1⟩) | (go_at_call 88; refine (C2.out w1 r1).mono ?_; rintro e w2 ⟨rfl, r2, g2⟩))
  go_ret
  exact ⟨rfl, r2, g1.trans g2⟩

theorem made_row {w : World} {base g n : Nat} {cs : List Value} (h : w.ownsRow base 9 1 (.slice (some ⟨g, 0, none⟩) n n) n cs) : ∃ cur : List Value, w.heap[g]? = some (.cells cur.toArray 9 (0, 0)) ∧ cur.length = n := by
  rcases h.2 with ⟨e0, _⟩ | ⟨g', cap', cur, hv, _, hb, h1, h2, h3, h4⟩
  · cases e0
  · cases hv
    exact ⟨cur.toList, by simpa using hb, by simpa using h3⟩
theorem below_grown_none {w w' : World} (h : w.grownBy w' none) : Below w.heap.size w w' := (Below.refl _ w).grown h (Nat.le_refl _) (fun k e => by cases e)
theorem Strs.src {w : World} {B : Nat} {A : Option Addr} {xs : List (List UInt8)} (h : Strs w B A xs) (h0 : 0 < xs.length) : ∃ ad, A = some ad ∧ ∀ j v, (xs.map encStr)[j]? = some v → w.cell? (ad.add j) = some v := by
  obtain ⟨b, off, rfl, _, hc⟩ := h.at_ h0
  refine ⟨_, rfl, fun j v hv => ?_⟩
  rw [List.getElem?_map] at hv
  obtain ⟨x, hx, rfl⟩ := Option.map_eq_some_iff.1 hv
  rw [show (⟨b, off, none⟩ : Addr).add j = ⟨b, off + j, none⟩ by unfold Addr.add; split <;> simp_all]
  exact hc j x hx

theorem row_spliced {w : World} {g n : Nat} {cur : List Value} {xs : List (List UInt8)} (hc : cur.length = n) (hw : Hid (w.heap[g]? = some (.cells (splice cur 0 (xs.map encStr)).toArray 9 (0, 0)))) (hn : xs.length ≤ 1000000) (he : xs.length = n := by rfl) : RowG w g n xs := by
  subst he
  have hs : splice cur 0 (xs.map encStr) = xs.map encStr := by
    unfold splice
    rw [List.take_zero, List.nil_append, List.drop_eq_nil_of_le (by simp; omega), List.append_nil]
  have hw' := hw.out
  rw [hs] at hw'
  exact ⟨by simp, .inr ⟨g, xs.length, _, rfl, Nat.le_refl _, hw', Nat.le_refl _, by unfold maxLen; omega, by simp, by rw [Nat.mul_one]; exact List.take_of_length_le (by simp)⟩⟩

set_option maxHeartbeats 1000000 in
theorem sort_any (A : Option Addr) (c : Nat) (xs : List (List UInt8)) (w : World) (h : Strs w w.heap.size A xs) (hn : xs.length ≤ 1000000) :
    Calls Tryz.prog 52 #[.slice A xs.length c] w fun e w' => ∃ g cap, e = .returned (.slice (some ⟨g, 0, none⟩) (sortU xs).length cap) ∧ w.heap.size ≤ g ∧ RowG w' g cap (sortU xs) ∧ Below w.heap.size w w' := by
  obtain ⟨i0, hi, hz0, hz1, hz2⟩ := info_parts info_str
  have hcell : (Tryz.prog.info? 9).map (·.size) = some 1 := by rw [hi]; simp [hz1]
  have h1c : ∀ v ∈ xs.map encStr, v.oneCell' = true := by
    intro v hv
    obtain ⟨x, _, rfl⟩ := List.mem_map.1 hv
    rfl
  have H1C := Lib.hid h1c
  have HS := Lib.hid h
  have c3 := fun w2 (h2 : RowG w2 w.heap.size xs.length xs) => settle_any w.heap.size xs.length xs w2 h2 (by omega)
  have C3 := Lib.hid c3
  clear h1c h c3
  go_enter Tryz.func52, Tryz.ntmps52
  go_wp2_with (first | (at_make; refine wpList_make_full _ rfl _ _ 49 rfl w.heap.size 9 i0 (.string ByteArray.empty) 1 Tryz.underlying49 hi hz0 hz1 .i64 .i64 (xs.length : Int) (xs.length : Int) xs.length rfl rfl rfl rfl (by rw [hz2]; omega) (by unfold maxLen; omega) (Nat.le_refl _) ?_; intro w1 r1 g1; obtain ⟨cur, hc1, hc2⟩ := made_row r1; have HC := Lib.hid hc2; have hb1 := below_grown_none g1; have HS1 := Lib.hid (HS.out.below hb1); clear r1 hc2) | ((refine wpList_copy_splice rfl (.tmp 7) (.tmp 8) 49 49 rfl 9 Tryz.underlying49 hcell (some ⟨w.heap.size, 0, none⟩) A xs.length xs.length xs.length c rfl rfl w.heap.size 0 cur 9 hc1 (xs.map encStr) ?_ (fun h0 => ⟨rfl, HS1.out.src (by simpa using h0)⟩) ?_ H1C.out w.heap.size w hb1 (Nat.le_refl _) ?_); (rw [List.length_map]; exact (Nat.min_self _).symm); (have := HC.out; simp; omega); intro w2 hw2 hb2; have HR := Lib.hid (row_spliced HC.out hw2 (by omega))) | (go_at_call 69; refine (C3.out _ HR.out).mono ?_; rintro e w3 ⟨rfl, r3, g3⟩))
  go_ret
  exact ⟨_, _, rfl, Nat.le_refl _, r3, hb2.grown g3 hb2.size (fun k e => by cases e; exact Nat.le_refl _)⟩
theorem row_spliced2 {w : World} {g n m : Nat} {cur : List Value} {xs ys : List (List UInt8)} (hc : cur.length = n + m) (hx : xs.length = n) (hy : ys.length = m) (hn : n + m ≤ 2000000)
    (hw : Hid (w.heap[g]? = some (.cells (splice (splice cur 0 (xs.map encStr)) n (ys.map encStr)).toArray 9 (0, 0)))) : RowG w g (n + m) (xs ++ ys) := by
  subst hx hy
  have hs : splice (splice cur 0 (xs.map encStr)) xs.length (ys.map encStr) = (xs ++ ys).map encStr := by
    unfold splice
    simp only [List.take_zero, List.nil_append, Nat.zero_add, List.length_map]
    rw [List.take_append_of_le_length (by simp), List.take_of_length_le (by simp), List.drop_append, List.drop_of_length_le (by simp), List.nil_append, List.drop_drop, List.drop_eq_nil_of_le (by simp; omega), List.append_nil, List.map_append]
  have hw' := hw.out
  rw [hs] at hw'
  exact ⟨by simp, .inr ⟨g, xs.length + ys.length, _, rfl, Nat.le_refl _, hw', by simp, by unfold maxLen; omega, by simp, by rw [Nat.mul_one]; exact List.take_of_length_le (by simp)⟩⟩

end Go.Proofs.YtmhilhdmbbdnaaaGreatDoor.HL
