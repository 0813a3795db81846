/-
  WITHOUT: what the first list has and the second one has not.
-/
import Derived.Test.YtlbeaofnolaooaaHSort
import Derived.Shelf.SlicesE.DeleteFunc
import Derived.Lib.SliceRun
namespace Go.Proofs.Ytlbeaofnolaooaa
open Go.RowKit
set_option maxRecDepth 100000
set_option linter.unusedVariables false
set_option linter.unusedSimpArgs false

theorem bin_any (b off c : Nat) (l : List Bs) (x : Bs) (w : World) (h : Asc l) (hn : l.length ≤ 1000000) (hc : ∀ j y, l[j]? = some y → w.cell? ⟨b, off + j, none⟩ = some (str y)) :
    Calls Try.prog 43 #[.slice (some ⟨b, off, none⟩) l.length c, str x] w fun e w' => (∃ i : Int, e = .returned (.tuple #[.int .i64 i, .bool (decide (x ∈ l))])) ∧ ∃ q, w' = w.drewN q := by
  have hs := Any2.slices_BinarySearch_string Try.layBin b off l.length c (fun j => ⟨(l.getD j x).toArray⟩) ⟨x.toArray⟩ w (by omega) (fun j hj => by
    rw [List.getD_eq_getElem?_getD, List.getElem?_eq_getElem hj]
    exact hc j _ (List.getElem?_eq_getElem hj))
  refine Calls.mono hs ?_
  rintro e w' ⟨he, hw⟩
  rw [search_found h x] at he
  exact ⟨⟨_, he⟩, hw⟩

theorem gone_gives (l : List Bs) (x : Bs) (B b off c : Nat) (W : World) (h : Asc l) (hn : l.length ≤ 1000000) (hB : W.cell? ⟨B, 0, none⟩ = some (.slice (some ⟨b, off, none⟩) l.length c))
    (hc : ∀ j y, l[j]? = some y → W.cell? ⟨b, off + j, none⟩ = some (str y)) :
    FnGives Try.prog 42 #[.pointer (some ⟨B, 0, none⟩)] #[encStr x] (.bool (decide (x ∈ l))) W := by
  have hb := Lib.hid (bin_any b off c l x W h hn hc)
  clear hc h
  obtain ⟨d, hd⟩ : ∃ d, decide (x ∈ l) = d := ⟨_, rfl⟩
  rw [hd] at hb ⊢
  clear hd
  show Calls Try.prog 42 #[str x, .pointer (some ⟨B, 0, none⟩)] W _
  go_enter Try.func42, Try.ntmps42
  go_wp2_with (go_at_call 43; refine hb.out.mono ?_; rintro e w' ⟨⟨i, rfl⟩, q, rfl⟩)
  go_ret
  exact ⟨rfl, _, rfl⟩

def withoutU (xs ys : List Bs) : List Bs := (sortU xs).filter fun x => !decide (x ∈ sortU ys)

theorem delete_row (g cap : Nat) (xs ys : List Bs) (B b off c : Nat) (w : World) (h : RowG w g cap xs) (hn : xs.length ≤ 1000000) (ha : Asc ys) (hm : ys.length ≤ 1000000)
    (hB : w.cell? ⟨B, 0, none⟩ = some (.slice (some ⟨b, off, none⟩) ys.length c)) (hc : ∀ j y, ys[j]? = some y → w.cell? ⟨b, off + j, none⟩ = some (str y)) (hBg : B ≠ g) (hbg : b ≠ g) (hbs : b < w.heap.size) :
    Calls Try.prog 41 #[.slice (some ⟨g, 0, none⟩) xs.length cap, .func (.func 42) #[] #[.pointer (some ⟨B, 0, none⟩)]] w fun e w' => e = .returned (.slice (some ⟨g, 0, none⟩) (xs.filter fun x => !decide (x ∈ ys)).length cap) ∧ RowG w' g cap (xs.filter fun x => !decide (x ∈ ys)) ∧ w.grownBy w' (some g) := by
  obtain ⟨cur, hb, h1, h2, h3, h4⟩ := h.parts
  have hBs : B < w.heap.size := World.block_lt_of_cell? w _ hB
  have eg : ∀ args w, (callFunc 42 args).run Try.prog w = .ok (.enter 42 args) w := enters_of Try.func42 (by kernel_rfl) rfl
  have hp : PredAt Try.prog 42 #[.pointer (some ⟨B, 0, none⟩)] encStr (fun x => decide (x ∈ ys)) w := fun W x hbl =>
    gone_gives ys x B b off c W ha hm ((hbl.cell (p := ⟨B, 0, none⟩) hBs).trans hB) (fun j y hj => (hbl.cell (p := ⟨b, off + j, none⟩) hbs).trans (hc j y hj))
  have hpo : PredOver Try.prog 42 #[.pointer (some ⟨B, 0, none⟩)] encStr (fun x => decide (x ∈ ys)) g 0 xs.toArray.size w := fun n os dk x _ =>
    gone_gives ys x B b off c _ ha hm
      (by unfold sortWorld; rw [Sort.cell?_grow _ _ _ (by show B < (Sort.putRow _ _ _ _ _).heap.size; rw [Sort.size_putRow]; exact hBs), Sort.cell?_putRow_other _ _ g 0 _ _ (Or.inl hBg)]; exact hB)
      (fun j y hj => by unfold sortWorld; rw [Sort.cell?_grow _ _ _ (by show b < (Sort.putRow _ _ _ _ _).heap.size; rw [Sort.size_putRow]; exact hbs), Sort.cell?_putRow_other _ _ g 0 _ _ (Or.inl hbg)]; exact hc j y hj)
  have hd := AnyE.slices_DeleteFunc Try.layDel encStr (fun _ => rfl) (fun x => decide (x ∈ ys)) 42 #[.pointer (some ⟨B, 0, none⟩)] eg [] Try.zeroValue9 g 0 cap xs.toArray w hp hpo (holds_of_block hb h4) (by simp; omega) (by simpa using h1)
  have hle := List.length_filter_le (fun x => !decide (x ∈ ys)) xs
  refine Calls.mono hd fun e w' ⟨he, q, hw⟩ => ?_
  subst hw
  refine ⟨he, ?_, ?_⟩
  · have hr := Lib.ownsRow_putRow (q := q) (k := (xs.filter fun x => !decide (x ∈ ys)).length) (ys := (xs.filter fun x => !decide (x ∈ ys)) ++ List.replicate (xs.length - (xs.filter fun x => !decide (x ∈ ys)).length) []) h (by simp; omega) hle
    rw [List.take_left] at hr
    exact hr
  · have := grownBy_sorted (w := w) (g := g) (n := q) (os := #[]) ((xs.filter fun x => !decide (x ∈ ys)) ++ List.replicate (xs.length - (xs.filter fun x => !decide (x ∈ ys)).length) []).toArray
    rwa [Sort.grow_empty] at this
theorem RowG.cells {w : World} {g cap : Nat} {xs : List Bs} (h : RowG w g cap xs) : ∀ j y, xs[j]? = some y → w.cell? ⟨g, 0 + j, none⟩ = some (str y) := by
  intro j y hy
  obtain ⟨A, c, e, hs, _, _⟩ := (h.own (Nat.le_refl g)).form
  cases e
  obtain ⟨b, off, e, _, hc⟩ := hs.at_ (by have := (List.getElem?_eq_some_iff.1 hy).1; omega)
  cases e
  exact hc j y hy
theorem RowG.strs {w : World} {g cap : Nat} {xs : List Bs} (h : RowG w g cap xs) : Strs w w.heap.size (some ⟨g, 0, none⟩) xs := .inr ⟨g, 0, rfl, h.lt, h.cells⟩
theorem RowG.keep {w w' : World} {g cap : Nat} {xs : List Bs} (h : RowG w g cap xs) (hk : w'.heap[g]? = w.heap[g]?) : RowG w' g cap xs := by
  obtain ⟨cur, hb, h1, h2, h3, h4⟩ := h.parts
  exact ⟨h.1, .inr ⟨g, cap, cur, rfl, Nat.le_refl _, by rw [hk]; exact hb, h1, h2, h3, by rw [Nat.mul_one]; exact h4⟩⟩

set_option maxHeartbeats 2000000 in
theorem without_any (A1 A2 : Option Addr) (c1 c2 : Nat) (xs ys : List Bs) (w : World) (h1 : Strs w w.heap.size A1 xs) (h2 : Strs w w.heap.size A2 ys) (hn : xs.length ≤ 1000000) (hm : ys.length ≤ 1000000) :
    Calls Try.prog 20 #[.slice A1 xs.length c1, .slice A2 ys.length c2] w fun e w' => ∃ g cap, e = .returned (.slice (some ⟨g, 0, none⟩) (withoutU xs ys).length cap) ∧ w.heap.size ≤ g ∧ RowG w' g cap (withoutU xs ys) ∧ Below w.heap.size w w' := by
  have hmf : ∀ (fn : Fn) (first cap : Array Value) (w : World), (Instr.makeFunc fn first cap).run Try.prog w = .ok (.func fn first cap) w := fun _ _ _ _ => rfl
  have C2 := Lib.hid (sort_any A2 c2 ys w h2 hm)
  have H1 := Lib.hid h1
  clear h1 h2
  go_enter Try.func20, Try.ntmps20
  go_wp2_with (first | (go_at_call 18; refine C2.out.mono ?_; rintro e w1 ⟨g, cap, rfl, hg, hr, hb⟩; clear C2))
  have hb1 : Below w.heap.size w (w1.alloc (.cells #[.slice (some ⟨g, 0, none⟩) (sortU ys).length cap] 25)) := hb.alloc hb.size _
  have bx := Boxed.new w1 25 (.slice (some ⟨g, 0, none⟩) (sortU ys).length cap)
  have hr1 : RowG (w1.alloc (.cells #[.slice (some ⟨g, 0, none⟩) (sortU ys).length cap] 25)) g cap (sortU ys) := hr.keep (Below.heap_alloc w1 _ g hr.lt)
  have hglt := hr.lt
  generalize hW : (w1.alloc (.cells #[.slice (some ⟨g, 0, none⟩) (sortU ys).length cap] 25)) = W at *
  have hWs : W.heap.size = w1.heap.size + 1 := by rw [← hW]; simp
  have C1 := Lib.hid (sort_any A1 c1 xs W ((H1.out.below hb1).more hb1.size) hn)
  have HB := Lib.hid hb
  have HW := Lib.hid hWs
  have HR1 := Lib.hid hr1
  clear hW hr hb hWs hr1 H1
  have HU : Hid (withoutU xs ys = (sortU xs).filter fun x => !decide (x ∈ sortU ys)) := Lib.hid rfl
  have hxl := sortU_le xs
  have hyl := sortU_le ys
  refine C1.out.mono ?_
  rintro e w2 ⟨k, cap2, rfl, hk, hr2, hb2⟩
  have hgk : g ≠ k := by have := HW.out; omega
  have hBk : w1.heap.size ≠ k := by have := HW.out; omega
  have hg2 : g < w2.heap.size := by have := hb2.size; have := HW.out; omega
  have bx2 : w2.cell? ⟨w1.heap.size, 0, none⟩ = some (.slice (some ⟨g, 0, none⟩) (sortU ys).length cap) := (hb2.cell (p := ⟨w1.heap.size, 0, none⟩) (by have := HW.out; show w1.heap.size < _; omega)).trans bx.cell
  have hc2 : ∀ j y, (sortU ys)[j]? = some y → w2.cell? ⟨g, 0 + j, none⟩ = some (str y) := fun j y hj => (hb2.cell (p := ⟨g, 0 + j, none⟩) (by have := HW.out; show g < _; omega)).trans (HR1.out.cells j y hj)
  have C3 := Lib.hid (delete_row k cap2 (sortU xs) (sortU ys) w1.heap.size g 0 cap w2 hr2 (by omega) (sortU_asc ys) (by omega) bx2 hc2 hBk hgk hg2)
  rw [← HU.out] at C3
  have HB2 := Lib.hid (hb1.trans (hb2.mono hb1.size))
  have HK : Hid (w.heap.size ≤ k) := Lib.hid (by have := HW.out; have := HB.out.size; omega)
  clear hr2 hb2 bx2 hc2 bx hb1
  go_wp2_with (go_at_call 41; refine C3.out.mono ?_; rintro e w3 ⟨rfl, hr3, hg3⟩)
  go_ret
  exact ⟨k, cap2, rfl, HK.out, hr3, HB2.out.grown hg3 HB2.out.size (fun j e => by cases e; exact HK.out)⟩
end Go.Proofs.Ytlbeaofnolaooaa
