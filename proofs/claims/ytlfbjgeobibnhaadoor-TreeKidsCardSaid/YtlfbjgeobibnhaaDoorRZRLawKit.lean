/-
  WALKS: Has, Rising, named as the laws of the tree call them; rows of objects and of handles, read at a place.
-/
import Derived.Test.YtlfbjgeobibnhaaDoorRZRSameO
import Derived.Test.YtlfbjgeobibnhaaDoorRZRWalkedM
import Derived.Test.YtlfbjgeobibnhaaDoorRZHRising
namespace Go.Proofs.YtlfbjgeobibnhaaDoor.TX
open Go.RowKit HL
open IX (ptr El cellsK cellsK_at OwnK IxAt Rw numOf mayS strK RdK keys)
set_option maxRecDepth 100000
set_option linter.unusedVariables false
set_option linter.unusedSimpArgs false

theorem has_form (A : Option Addr) (c m : Nat) (l : List Bs) (x : ByteArray) (w : World) (h : RdK strK w w.heap.size A l) (hm : l.length = m) (hn : m ≤ 1000000) {b : Bool} (hb : decide (x.data.toList ∈ l) = b) :
    Calls Tryd.prog 26 #[.slice A m c, .string x] w fun e w' => e = .returned (.bool b) ∧ w = w' := by
  subst hm
  subst hb
  exact Go.Proofs.YtlfbjgeobibnhaaDoor.HL.has_any A c l x.data.toList w.heap.size w h.strs (by unfold maxLen; omega)
theorem rising_form (A : Option Addr) (c m : Nat) (l : List Bs) (w : World) (h : RdK strK w w.heap.size A l) (hm : l.length = m) (hn : m ≤ 1000000) (ha : Asc l) :
    Calls Tryd.prog 25 #[.slice A m c] w fun e w' => e = .returned (.bool true) ∧ Below w.heap.size w w' := by
  subst hm
  refine (rising_any A c l w.heap.size w h.strs (by unfold maxLen; omega)).mono ?_
  rintro e w' ⟨rfl, hd⟩
  exact ⟨by rw [decide_eq_true ha], hd.below _⟩
theorem named_form (A : Option Addr) (c m : Nat) (l : List Ob) (w : World) (h : RdK obK w w.heap.size A l) (hm : l.length = m) (hn : m ≤ 100000) :
    Calls Tryd.prog 24 #[.slice A m c] w fun e w' => ∃ A' c', e = .returned (.slice A' m c') ∧ OwnK strK w' w.heap.size (.slice A' m c') (hs l) ∧ Below w.heap.size w w' := by
  subst hm
  exact calls_form (by simp [hs]) (namedL_any A c l w h hn)
theorem names_at {w : World} {B : Nat} {A : Option Addr} {l : List Ob} (h : RdK strK w B A (hs l)) (h0 : 0 < l.length) : ∃ b off, A = some ⟨b, off, none⟩ ∧ b < B ∧ ∀ j o, l[j]? = some o → w.cell? ⟨b, off + j, none⟩ = some (.string o.handle) := by
  obtain ⟨b, off, e, hb, hc⟩ := h.strs.at_ (by simpa [hs] using h0)
  exact ⟨b, off, e, hb, fun j o hj => hc j (TX.hb o) (by simp [hs, hj])⟩
/-- What a row of objects holds at a place, in all worlds behind one. -/
theorem row_cells {w : World} {A : Option Addr} {l : List Ob} {k : Nat} (h : RdK obK w w.heap.size A l) (hk : k < l.length) : ∃ b off, A = some ⟨b, off, none⟩ ∧ b < w.heap.size ∧ ∀ W, Below w.heap.size w W →
    W.cell? ⟨b, off + k * 14, none⟩ = some (.string l[k].handle) ∧ W.cell? ⟨b, off + k * 14 + 1, none⟩ = some (.int .u8 l[k].kind) ∧ W.cell? ⟨b, off + k * 14 + 2, none⟩ = some (.string l[k].parent) ∧ W.cell? ⟨b, off + k * 14 + 3, none⟩ = some (.int .u8 l[k].typ) ∧ W.cell? ⟨b, off + k * 14 + 4, none⟩ = some (.string l[k].ref) ∧ W.cell? ⟨b, off + k * 14 + 5, none⟩ = some (.int .i64 l[k].lo) ∧ W.cell? ⟨b, off + k * 14 + 6, none⟩ = some (.int .i64 l[k].hi) ∧ W.cell? ⟨b, off + k * 14 + 7, none⟩ = some (.int .u8 l[k].digits) ∧ W.cell? ⟨b, off + k * 14 + 8, none⟩ = some (.bool l[k].on) ∧ W.cell? ⟨b, off + k * 14 + 9, none⟩ = some (.bool l[k].has) ∧ W.cell? ⟨b, off + k * 14 + 10, none⟩ = some (.int .i64 l[k].value) ∧ W.cell? ⟨b, off + k * 14 + 11, none⟩ = some (.int .i64 l[k].low) ∧ W.cell? ⟨b, off + k * 14 + 12, none⟩ = some (.int .i64 l[k].high) ∧ W.cell? ⟨b, off + k * 14 + 13, none⟩ = some (.int .u8 l[k].assoc) := by
  obtain ⟨b, off, e, hb, _⟩ := obs_at h (by omega)
  refine ⟨b, off, e, hb, fun W q => ?_⟩
  obtain ⟨b', off', e', _, hc⟩ := obs_at (h.below q) (by omega)
  rw [e] at e'; cases e'
  exact hc k _ (List.getElem?_eq_getElem hk)
theorem name_cell {w : World} {A : Option Addr} {l : List Ob} {k : Nat} (h : RdK strK w w.heap.size A (hs l)) (hk : k < l.length) : ∃ b off, A = some ⟨b, off, none⟩ ∧ ∀ W, Below w.heap.size w W → W.cell? ⟨b, off + k, none⟩ = some (.string l[k].handle) := by
  obtain ⟨b, off, e, hb, _⟩ := names_at h (by omega)
  refine ⟨b, off, e, fun W q => ?_⟩
  obtain ⟨b', off', e', _, hc⟩ := names_at (h.below q) (by omega)
  rw [e] at e'; cases e'
  exact hc k _ (List.getElem?_eq_getElem hk)
theorem str_cell {w : World} {A : Option Addr} {l : List Bs} (h : RdK strK w w.heap.size A l) (h0 : 0 < l.length) : ∃ b off, A = some ⟨b, off, none⟩ ∧ ∀ W, Below w.heap.size w W → ∀ k (hk : k < l.length), W.cell? ⟨b, off + k, none⟩ = some (.string ⟨l[k].toArray⟩) := by
  obtain ⟨b, off, e, hb, _⟩ := h.strs.at_ h0
  refine ⟨b, off, e, fun W q k hk => ?_⟩
  obtain ⟨b', off', e', _, hc⟩ := (h.below q).strs.at_ h0
  rw [e] at e'; cases e'
  exact hc k _ (List.getElem?_eq_getElem hk)
/-! ## The tree asked of a handle, as the laws ask -/
section
variable {w W : World} {L : Lay} {s : Sl} {n : Nat}
theorem TH.at_ (h : TH w W L s n) (x : ByteArray) {a : Ob} {b : Bool} (h1 : obAt s x.data.toList = a) (h2 : there s x.data.toList = b) : Calls Tryd.prog 9 #[ptr L.T, .string x] W fun e W' => e = .returned (.tuple #[ob a, .bool b]) ∧ Below W.heap.size W W' := by
  have q := at_any h.t x
  rw [h1, h2] at q
  exact q
theorem TH.slot (h : TH w W L s n) (x : ByteArray) {k : Nat} {b : Bool} (h1 : slotN s x.data.toList = k) (h2 : there s x.data.toList = b) : Calls Tryd.prog 10 #[ptr L.T, .string x] W fun e W' => e = .returned (.tuple #[.int .i64 k, .bool b]) ∧ Below W.heap.size W W' := by
  have q := slot_any h.t x
  rw [h1, h2] at q
  exact q
theorem TH.many (h : TH w W L s n) {m : Nat} (h1 : (rowsOf s none).length = m) : Calls Tryd.prog 14 #[ptr L.T] W fun e W' => e = .returned (.int .i64 m) ∧ W = W' := by
  have q := many_tr h.t.t
  rw [h1] at q
  exact q
theorem TH.all (h : TH w W L s n) {m : Nat} (h1 : (rowsOf s none).length = m) : Calls Tryd.prog 16 #[ptr L.T] W fun e W' => ∃ A c, e = .returned (.slice A m c) ∧ OwnK obK W' W.heap.size (.slice A m c) (obsR s (rowsOf s none)) ∧ Below W.heap.size W W' :=
  calls_form (by rw [obsR, List.length_map]; exact h1) (all_any h.t)
theorem TH.walk (h : TH w W L s n) {m : Nat} (h1 : (walkL s).length = m) : Calls Tryd.prog 17 #[ptr L.T] W fun e W' => ∃ A c, e = .returned (.slice A m c) ∧ OwnK obK W' W.heap.size (.slice A m c) (walkL s) ∧ Below W.heap.size W W' :=
  calls_form h1 (walk_any h.t)
theorem TH.kids (h : TH w W L s n) (x : ByteArray) (hx : x.size ≤ maxLen) {m : Nat} (h1 : (keys (rowsOf s (some x.data.toList))).length = m) : Calls Tryd.prog 18 #[ptr L.T, .string x] W fun e W' => ∃ A c, e = .returned (.slice A m c) ∧ OwnK strK W' W.heap.size (.slice A m c) (keys (rowsOf s (some x.data.toList))) ∧ Below W.heap.size W W' :=
  calls_form h1 (kids_any h.t x hx)
theorem TH.above (h : TH w W L s n) (x : ByteArray) {m : Nat} (h1 : (TX.above s x.data.toList).length = m) : Calls Tryd.prog 19 #[ptr L.T, .string x] W fun e W' => ∃ A c, e = .returned (.slice A m c) ∧ OwnK strK W' W.heap.size (.slice A m c) (TX.above s x.data.toList) ∧ Below W.heap.size W W' :=
  calls_form h1 (above_any h.t x)
end
theorem own_cap {α : Type} {K : El α} {w : World} {base m c : Nat} {A : Option Addr} {l : List α} (h : OwnK K w base (.slice A m c) l) (hm : l.length = m) : m ≤ c := by
  obtain ⟨A', c', e, _, h2, _⟩ := OwnK.form h
  cases e
  omega
/-- The slots that are held, as cells. -/
def heldC (s : Sl) (inn : List Ob) (k : Nat) : Array Value := ((heldL s inn k).map Value.bool).toArray
theorem heldC_0 (s : Sl) (inn : List Ob) {n : Nat} (h : s.length = n) : madeCells #[.bool false] n = heldC s inn 0 := by
  subst h
  unfold heldC
  rw [heldL_0]
  apply Array.ext'
  simp only [madeCells]
  apply List.ext_getElem
  · simp
  · intro i h1 h2; simp [Nat.mod_one]
theorem heldC_next {s : Sl} {inn : List Ob} {k : Nat} (hk : k < inn.length) : (heldC s inn k).setIfInBounds (slotN s (hb inn[k])) (.bool true) = heldC s inn (k + 1) := by
  unfold heldC
  rw [heldL_next hk]
  apply Array.ext'
  simp [List.map_set]
theorem heldC_len (s : Sl) (inn : List Ob) (k : Nat) : (heldC s inn k).size = s.length := by simp [heldC, heldL_len]
theorem heldC_no {s : Sl} {inn : List Ob} (f : Fil8 s inn) (wf : Wf s) {k : Nat} (hk : k < inn.length) : slotN s (hb inn[k]) < s.length ∧ (heldC s inn k)[slotN s (hb inn[k])]? = some (.bool false) := by
  obtain ⟨h1, h2⟩ := heldL_no f wf hk
  refine ⟨h1, ?_⟩
  unfold heldC
  simp [h2]
end Go.Proofs.YtlfbjgeobibnhaaDoor.TX
