/-
  PLAIN and WALK: a row made whole, written place by place; bytes.Equal.
-/
import Derived.Test.YtkgjgbenfpkekaaPKit
import Derived.Deep.MidRow
namespace Go.Proofs.Ytkgjgbenfpkekaa.PX
open Go.RowKit HL
open IX (ptr El cellsK cellsK_at cellsK_len cellsK_app cellsK_cons OwnK RdK Kept)
open YX (numB rdU rdB rdT rdS rdI addW intN natI rest told WAt WPt Wr RAt vS vU vI u8K Got)
set_option maxRecDepth 100000
set_option linter.unusedVariables false
set_option linter.unusedSimpArgs false

/-- Block g holds just this row. -/
def RowAt {α : Type} (K : El α) (W : World) (g : Nat) (l : List α) : Prop := AtC W g (cellsK K l).toArray
theorem RowAt.rd {α : Type} {K : El α} {W : World} {g : Nat} {l : List α} (h : RowAt K W g l) : RdK K W W.heap.size (some ⟨g, 0, none⟩) l :=
  .inr ⟨g, 0, rfl, h.lt, fun m u hu => by rw [Nat.zero_add, h.c m]; simpa using hu⟩
theorem cells_rep {α : Type} (K : El α) (x : α) : ∀ (n m : Nat), (cellsK K (List.replicate n x))[m]? = if m < n * K.size then (K.enc x)[m % K.size]? else none
  | 0, m => by simp [cellsK]
  | n + 1, m => by
    have hl : (K.enc x).length = K.size := K.len x
    have hp := K.pos
    rw [List.replicate_succ, cellsK_cons, List.getElem?_append, hl]
    by_cases h : m < K.size
    · rw [if_pos h, if_pos (by rw [Nat.succ_mul]; omega), Nat.mod_eq_of_lt h]
    · rw [if_neg h, cells_rep K x n (m - K.size), Nat.succ_mul]
      have e : (m - K.size) % K.size = m % K.size := (Nat.mod_eq_sub_mod (by omega)).symm
      rw [e]
      by_cases q : m - K.size < n * K.size
      · rw [if_pos q, if_pos (by omega)]
      · rw [if_neg q, if_neg (by omega)]
theorem row_made {α : Type} (K : El α) (x : α) (z : Array Value) (hz : z.toList = K.enc x) (n : Nat) (W : World) (T : TypeId) : RowAt K (W.alloc (.cells (madeCells z (n * K.size)) T)) W.heap.size (List.replicate n x) := by
  have hs : z.size = K.size := by rw [← Array.length_toList, hz]; exact K.len x
  have e : madeCells z (n * K.size) = (cellsK K (List.replicate n x)).toArray := by
    apply Array.ext_getElem?
    intro m
    have ea : (cellsK K (List.replicate n x)).toArray[m]? = (cellsK K (List.replicate n x))[m]? := by simp
    rw [ea, cells_rep]
    have hp := K.pos
    by_cases h : m < n * K.size
    · rw [if_pos h, ← hz, Array.getElem?_toList]
      have hm : m % K.size < z.size := by rw [hs]; exact Nat.mod_lt _ hp
      simp [madeCells, h, hs, Array.getElem?_eq_getElem hm]
      exact getElem!_pos z _ hm
    · rw [if_neg h]; simp [madeCells, h]
  unfold RowAt
  rw [← e]
  exact AtC.new _ _ _
theorem row_set {α : Type} {K : El α} {W : World} {g k : Nat} {l : List α} (h : RowAt K W g l) (hk : k < l.length) (y : α) : RowAt K (stC W g (k * K.size) (K.enc y)) g (l.set k y) := by
  have e1 : cellsK K l = cellsK K (l.take k) ++ K.enc l[k] ++ cellsK K (l.drop (k + 1)) := by
    have e : l = l.take k ++ l[k] :: l.drop (k + 1) := by rw [← List.drop_eq_getElem_cons hk, List.take_append_drop]
    have := congrArg (cellsK K) e
    rw [cellsK_app, cellsK_cons, ← List.append_assoc] at this
    exact this
  have e2 : cellsK K (l.set k y) = cellsK K (l.take k) ++ K.enc y ++ cellsK K (l.drop (k + 1)) := by
    rw [List.set_eq_take_append_cons_drop, if_pos hk, cellsK_app, cellsK_cons, List.append_assoc]
  have e3 : (cellsK K (l.take k)).length = k * K.size := by rw [cellsK_len, List.length_take, Nat.min_eq_left (by omega)]
  unfold RowAt at h ⊢
  rw [e1] at h
  have := at_mid (K.enc y) (cellsK K (l.take k)) (K.enc l[k]) (cellsK K (l.drop (k + 1))) W h (by rw [K.len, K.len])
  rw [e3] at this
  rw [e2]
  exact this
theorem setCells_row (B : Nat) : ∀ (vs : List Value) (off : Nat) (W : World), W.setCells B off vs = stC W B off vs
  | [], off, W => rfl
  | v :: vs, off, W => setCells_row B vs (off + 1) _
theorem row_there {α : Type} {K : El α} {W : World} {g k : Nat} {l : List α} (h : RowAt K W g l) (hk : k < l.length) : W.there g (k * K.size) K.size := fun j hj => by
  refine ⟨?_, h.f _⟩
  rw [h.c]
  have : k * K.size + j < (cellsK K l).length := by
    rw [cellsK_len]
    have : (k + 1) * K.size ≤ l.length * K.size := Nat.mul_le_mul_right _ hk
    rw [Nat.succ_mul] at this
    omega
  simp [this]
theorem bts_none {P : Program} {f : Nat} {args : Array Value} {w : World} (h : Calls P f args w fun e w' => Bts w none e w') : Calls P f args w fun e w' => e = .returned (.tuple #[.slice none 0 0, .int .i64 3]) ∧ Below w.heap.size w w' :=
  h.mono fun e w' ⟨v, n, he, hb, k⟩ => by cases hb; exact ⟨he, k⟩
theorem bts_some {P : Program} {f : Nat} {args : Array Value} {w : World} {b : Bs} (h : Calls P f args w fun e w' => Bts w (some b) e w') : Calls P f args w fun e w' => ∃ A c, e = .returned (.tuple #[.slice A b.length c, .int .i64 0]) ∧ RdK u8K w' w'.heap.size A b ∧ Below w.heap.size w w' :=
  h.mono fun e w' ⟨v, n, he, hb, k⟩ => by
    cases hb with
    | yes' _ _ hr => obtain ⟨A, c, rfl, h1, h2, h3⟩ := hr; exact ⟨A, c, he, h1, k⟩
theorem set_rep {α : Type} (a : List α) (x z : α) {n k : Nat} (ha : a.length = k) (hk : k < n) : (a ++ List.replicate (n - k) z).set k x = (a ++ [x]) ++ List.replicate (n - (k + 1)) z := by
  obtain ⟨m, hm⟩ : ∃ m, n - k = m + 1 := ⟨n - k - 1, by omega⟩
  rw [hm, show n - (k + 1) = m by omega, List.set_append_right _ _ (by omega), ha, Nat.sub_self, List.replicate_succ, List.set_cons_zero]
  simp
set_option maxHeartbeats 2000000 in
theorem equal_any {A A2 : Option Addr} {n n2 c c2 : Nat} (a b : Bs) (w : World) (ha : RdK u8K w w.heap.size A a) (hb : RdK u8K w w.heap.size A2 b) (hn : a.length = n) (hn2 : b.length = n2) :
    Calls Try.prog 86 #[.slice A n c, .slice A2 n2 c2] w fun e w' => e = .returned (.bool (decide (a = b))) ∧ w = w' := by
  have c1 := YX.conv_str (c := c) ha hn
  have c2 := YX.conv_str (c := c2) hb hn2
  have e0 : (a == b) = decide (a = b) := by rw [Bool.eq_iff_iff]; simp
  clear ha hb
  by_cases h : a = b
  · subst h
    go_enter Try.func86, Try.ntmps86
    go_wp2
    go_ret
    exact ⟨by simp, rfl⟩
  · go_enter Try.func86, Try.ntmps86
    go_wp2
    go_ret
    exact ⟨by simp [h], rfl⟩
end Go.Proofs.Ytkgjgbenfpkekaa.PX
