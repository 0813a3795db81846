/-
  PLAIN: a whole object stored into a row of one's own.
-/
import Derived.Test.YthlalmoapbdccaaDoorWZ14
namespace Go.Proofs.YthlalmoapbdccaaDoor.WX
open Go.RowKit HL
open IX (ptr El cellsK cellsK_at cellsK_inv OwnK RdK strK)
set_option maxRecDepth 100000
set_option linter.unusedVariables false
set_option linter.unusedSimpArgs false

/-- The cells stored from off on. -/
def putC (W : World) (g : Nat) : Nat → List Value → World
  | _, [] => W
  | off, v :: vs => putC (W.setCell ⟨g, off, none⟩ v) g (off + 1) vs
theorem putC_at {g : Nat} : ∀ (vs : List Value) (off : Nat) {W : World} {C : Array Value}, AtC W g C → off + vs.length ≤ C.size →
    ∃ C' : Array Value, C'.size = C.size ∧ AtC (putC W g off vs) g C' ∧ (∀ i, i < off → C'[i]? = C[i]?) ∧ (∀ i, i < vs.length → C'[off + i]? = vs[i]?) ∧ (∀ i, off + vs.length ≤ i → C'[i]? = C[i]?)
  | [], off, W, C, h, hl => ⟨C, rfl, h, fun _ _ => rfl, fun i hi => by simp at hi, fun _ _ => rfl⟩
  | v :: vs, off, W, C, h, hl => by
    have hl' : off + 1 + vs.length ≤ (C.setIfInBounds off v).size := by simp at hl ⊢; omega
    obtain ⟨C', h1, h2, h3, h4, h5⟩ := putC_at vs (off + 1) (h.set (i := off) (by simp at hl; omega) v) hl'
    refine ⟨C', by simpa using h1, h2, fun i hi => ?_, fun i hi => ?_, fun i hi => ?_⟩
    · rw [h3 i (by omega), Array.getElem?_setIfInBounds_ne (by omega)]
    · cases i with
      | zero =>
        have hlt : off < C.size := by simp at hl; omega
        rw [Nat.add_zero, h3 off (by omega)]; simp [hlt]
      | succ i =>
        have := h4 i (by simpa using hi)
        rw [show off + (i + 1) = off + 1 + i by omega, this]; rfl
    · have hi2 : off + 1 + vs.length ≤ i := by simp at hi; omega
      rw [h5 i hi2, Array.getElem?_setIfInBounds_ne (by omega)]
theorem putC_below {w : World} {g : Nat} (hg : w.heap.size ≤ g) : ∀ (vs : List Value) (off : Nat) {W : World}, Below w.heap.size w W → Below w.heap.size w (putC W g off vs)
  | [], _, _, h => h
  | v :: vs, off, W, h => putC_below hg vs (off + 1) (bStore h (p := ⟨g, off, none⟩) hg v)
/-- The cells of a block begin with the row's. -/
def Beg (C : Array Value) (l : List Ob) : Prop := l.length * 14 ≤ C.size ∧ ∀ (m : Nat) (u : Value), (cellsK obK l)[m]? = some u → C[m]? = some u
theorem own_at {w : World} {base : Nat} {v : Value} {l : List Ob} (h : OwnK obK w base v l) (h0 : 0 < l.length) : ∃ g cap C, v = .slice (some ⟨g, 0, none⟩) l.length cap ∧ l.length ≤ cap ∧ base ≤ g ∧ AtC w g C ∧ Beg C l := by
  have hlt := h.lt
  rcases h.2 with ⟨_, e⟩ | ⟨g, cap, cur, rfl, hg, hh, hn, hc, hs, ht⟩
  · omega
  · have hcell : ∀ i, w.cell? ⟨g, i, none⟩ = cur[i]? := fun i => cell_of_row w g i cur _ (0, 0) hh
    refine ⟨g, cap, cur, rfl, hn, hg, ⟨(hlt g rfl).2, hcell, fun i => ?_⟩, ?_, fun m u hu => ?_⟩
    · simp [World.frozen?, hh]
    · have := congrArg List.length ht
      rw [List.length_take, IX.cellsK_len] at this
      have e : obK.size = 14 := rfl
      rw [e] at this
      simp at this
      omega
    · rw [← ht, List.getElem?_take] at hu
      split at hu
      · simpa using hu
      · cases hu
theorem Beg.rd {W : World} {g : Nat} {C : Array Value} {l : List Ob} (h : Beg C l) (a : AtC W g C) : RdK obK W W.heap.size (some ⟨g, 0, none⟩) l := by
  refine .inr ⟨g, 0, rfl, a.lt, fun m u hu => ?_⟩
  rw [Nat.zero_add, a.c m]
  exact h.2 m u hu
theorem beg_put {W : World} {g k : Nat} {C : Array Value} {l : List Ob} {x : Ob} (h : Beg C l) (a : AtC W g C) (hk : k < l.length) : ∃ C', AtC (putC W g (k * 14) (obCells x).toList) g C' ∧ Beg C' (l.set k x) := by
  have hC := h.1
  have hk14 : k * 14 + 14 ≤ C.size := by omega
  obtain ⟨C', h1, h2, h3, h4, h5⟩ := putC_at (obCells x).toList (k * 14) a (by show k * 14 + 14 ≤ _; omega)
  refine ⟨C', h2, by rw [List.length_set, h1]; exact hC, fun m u hu => ?_⟩
  obtain ⟨j, i, y, rfl, hy, hu2⟩ := cellsK_inv obK hu
  have hi : i < 14 := by
    have := (List.getElem?_eq_some_iff.1 hu2).1
    rwa [obK.len] at this
  have e : obK.size = 14 := rfl
  rw [e]
  by_cases hj : j = k
  · subst hj
    rw [List.getElem?_set_self hk] at hy
    cases hy
    rw [h4 i hi]
    exact hu2
  · rw [List.getElem?_set_ne (fun z => hj z.symm)] at hy
    have hc := h.2 _ _ (cellsK_at obK hy hu2)
    rw [e] at hc
    rcases Nat.lt_or_gt_of_ne hj with q | q
    · rw [h3 _ (by omega)]; exact hc
    · rw [h5 _ (by show k * 14 + 14 ≤ _; omega)]; exact hc
/-- Two places changed: the same objects in another order. -/
theorem swap_perm {l : List Ob} {i k : Nat} {x y : Ob} (hi : l[i]? = some x) (hk : l[k]? = some y) : l.Perm ((l.set i y).set k x) := by
  obtain ⟨h1, rfl⟩ := List.getElem?_eq_some_iff.1 hi
  obtain ⟨h2, rfl⟩ := List.getElem?_eq_some_iff.1 hk
  exact (List.set_set_perm h1 h2).symm
end Go.Proofs.YthlalmoapbdccaaDoor.WX
