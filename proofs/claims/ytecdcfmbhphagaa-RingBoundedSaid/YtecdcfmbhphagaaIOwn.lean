/-
  ROWS OF ANY KIND OF ELEMENT in memory: what reads as a list; a row of one's own; append, a cut, a literal, a copy within the row, a clear: laws for the walk.
-/
import Derived.Test.YtecdcfmbhphagaaIKit
import Derived.Laws.OwnMore
import Derived.Laws.AppendOwnNone
import Derived.OwnWalk
import Derived.Laws.CopyOwn
import Derived.Deep.RegionLaw
import Derived.Maps.AppendAt
import Derived.Lib.SliceRun
namespace Go.Proofs.Ytecdcfmbhphagaa.IX
open Go.RowKit HL
set_option maxRecDepth 100000
set_option linter.unusedVariables false
set_option linter.unusedSimpArgs false

/-- A kind of element: its type, its slices' type, its cells. -/
structure El (α : Type) where
  T : TypeId
  e : TypeId
  size : Nat
  bytes : Nat
  z : Value
  i : TypeInfo
  enc : α → List Value
  el : Try.prog.elem T = e
  ht : Try.prog.underlying T = some (.slice e)
  hi : Try.prog.info? e = some i
  hz : i.zero = some z
  hs : i.size = size
  hb : i.bytes = bytes
  hzs : z.cells.size = size
  pos : 0 < size
  len : ∀ x, (enc x).length = size
  one : ∀ x, ∀ u ∈ enc x, u.oneCell' = true
  small : bytes ≤ 1000
variable {α : Type}
theorem addr0 (a : Addr) : a.add 0 = a := by unfold Addr.add; simp
theorem addr_lit (b o j : Nat) : (⟨b, o, none⟩ : Addr).add j = ⟨b, o + j, none⟩ := by unfold Addr.add; split <;> simp_all
/-- The cells of a list. -/
def cellsK (K : El α) (l : List α) : List Value := l.flatMap K.enc
theorem cellsK_cons (K : El α) (x : α) (l : List α) : cellsK K (x :: l) = K.enc x ++ cellsK K l := rfl
theorem cellsK_app (K : El α) (a b : List α) : cellsK K (a ++ b) = cellsK K a ++ cellsK K b := by simp [cellsK]
theorem cellsK_len (K : El α) (l : List α) : (cellsK K l).length = l.length * K.size := by
  induction l with
  | nil => simp [cellsK]
  | cons x l ih => rw [cellsK_cons, List.length_append, K.len, ih, List.length_cons, Nat.add_mul]; omega
theorem cellsK_take (K : El α) (l : List α) (k : Nat) : (cellsK K l).take (k * K.size) = cellsK K (l.take k) := by
  induction l generalizing k with
  | nil => simp [cellsK]
  | cons x l ih =>
    cases k with
    | zero => simp [cellsK]
    | succ k =>
      rw [cellsK_cons, List.take_succ_cons, cellsK_cons, ← ih k, List.take_append, K.len, List.take_of_length_le (by rw [K.len, Nat.add_mul]; omega)]
      congr 2
      rw [Nat.add_mul]; omega
theorem cellsK_drop (K : El α) (l : List α) (k : Nat) : (cellsK K l).drop (k * K.size) = cellsK K (l.drop k) := by
  have h1 : cellsK K l = cellsK K (l.take k) ++ cellsK K (l.drop k) := by rw [← cellsK_app, List.take_append_drop]
  by_cases h : k ≤ l.length
  · rw [h1]
    have e : (cellsK K (l.take k)).length = k * K.size := by rw [cellsK_len, List.length_take, Nat.min_eq_left h]
    rw [List.drop_append, e, Nat.sub_self, List.drop_zero, List.drop_of_length_le (by omega), List.nil_append]
  · have h2 : l.drop k = [] := List.drop_eq_nil_of_le (by omega)
    rw [h2, List.drop_of_length_le (by rw [cellsK_len]; exact Nat.mul_le_mul_right _ (by omega))]; rfl
theorem cellsK_at (K : El α) {l : List α} {j : Nat} {x : α} (h : l[j]? = some x) {i : Nat} {u : Value} (hu : (K.enc x)[i]? = some u) : (cellsK K l)[j * K.size + i]? = some u := by
  have hj : j < l.length := (List.getElem?_eq_some_iff.1 h).1
  have hi : i < K.size := by have := (List.getElem?_eq_some_iff.1 hu).1; rwa [K.len] at this
  have e : l.drop j = x :: l.drop (j + 1) := by rw [List.drop_eq_getElem_cons hj, (List.getElem?_eq_some_iff.1 h).2]
  rw [← List.getElem?_drop, cellsK_drop, e, cellsK_cons, List.getElem?_append_left (by rw [K.len]; exact hi)]
  exact hu
theorem cellsK_inv (K : El α) {l : List α} {m : Nat} {u : Value} (h : (cellsK K l)[m]? = some u) : ∃ j i x, m = j * K.size + i ∧ l[j]? = some x ∧ (K.enc x)[i]? = some u := by
  induction l generalizing m with
  | nil => simp [cellsK] at h
  | cons x l ih =>
    rw [cellsK_cons] at h
    by_cases hm : m < (K.enc x).length
    · rw [List.getElem?_append_left hm] at h
      exact ⟨0, m, x, by simp, rfl, h⟩
    · rw [List.getElem?_append_right (by omega), K.len] at h
      obtain ⟨j, i, y, e, h1, h2⟩ := ih h
      rw [K.len] at hm
      exact ⟨j + 1, i, y, by rw [Nat.add_mul]; omega, by simpa using h1, h2⟩
theorem cellsK_one (K : El α) (l : List α) : ∀ u ∈ cellsK K l, u.oneCell' = true := by
  intro u hu
  obtain ⟨x, _, hx⟩ := List.mem_flatMap.1 hu
  exact K.one x u hx
/-- The cells behind A, below block B, read as l. -/
def RdK (K : El α) (w : World) (B : Nat) (A : Option Addr) (l : List α) : Prop :=
  l = [] ∨ ∃ b off, A = some ⟨b, off, none⟩ ∧ b < B ∧ ∀ m u, (cellsK K l)[m]? = some u → w.cell? ⟨b, off + m, none⟩ = some u
theorem RdK.below {K : El α} {w w' : World} {B : Nat} {A : Option Addr} {l : List α} (h : RdK K w B A l) (k : Below B w w') : RdK K w' B A l := by
  rcases h with h | ⟨b, off, e, hb, hc⟩
  · exact .inl h
  · exact .inr ⟨b, off, e, hb, fun m u hu => (k.cell (p := ⟨b, _, none⟩) hb).trans (hc m u hu)⟩
theorem RdK.more {K : El α} {w : World} {B B' : Nat} {A : Option Addr} {l : List α} (h : RdK K w B A l) (k : B ≤ B') : RdK K w B' A l := by
  rcases h with h | ⟨b, off, e, hb, hc⟩
  · exact .inl h
  · exact .inr ⟨b, off, e, by omega, hc⟩
theorem RdK.kept {K : El α} {w w' : World} {B : Nat} {A : Option Addr} {l : List α} {P : Nat → Prop} (h : RdK K w B A l) (k : Kept w w' P) (hB : B ≤ w.heap.size) (hp : ∀ a, A = some a → P a.block) : RdK K w' B A l := by
  rcases h with h | ⟨b, off, rfl, hb, hc⟩
  · exact .inl h
  · exact .inr ⟨b, off, rfl, hb, fun m u hu => (k.cell (Nat.lt_of_lt_of_le hb hB) (hp _ rfl)).trans (hc m u hu)⟩
/-- A row of one's own. -/
def OwnK (K : El α) (w : World) (base : Nat) (v : Value) (l : List α) : Prop := w.ownsRow base K.e K.size v l.length (cellsK K l)
theorem OwnK.lt {K : El α} {w : World} {base : Nat} {v : Value} {l : List α} (h : OwnK K w base v l) : ∀ k, v.ownBlock = some k → base ≤ k ∧ k < w.heap.size := World.ownsRow.lt (show w.ownsRow _ _ _ _ _ _ from h)
theorem OwnK.nil_ (K : El α) (w : World) (base : Nat) : OwnK K w base (.slice none 0 0) [] := ⟨by simp [cellsK], .inl ⟨rfl, rfl⟩⟩
theorem OwnK.form {K : El α} {w : World} {base : Nat} {v : Value} {l : List α} (h : OwnK K w base v l) : ∃ A c, v = .slice A l.length c ∧ RdK K w w.heap.size A l ∧ l.length ≤ c ∧ c ≤ maxLen := by
  have hlt := h.lt
  rcases h.2 with ⟨rfl, e⟩ | ⟨g, cap, cur, rfl, hg, hh, hn, hc, hs, ht⟩
  · rw [e]
    exact ⟨none, 0, rfl, .inl (List.eq_nil_of_length_eq_zero e), by omega, by unfold maxLen; omega⟩
  · refine ⟨_, cap, rfl, .inr ⟨g, 0, rfl, (hlt g rfl).2, fun m u hu => ?_⟩, hn, hc⟩
    rw [Nat.zero_add, cell_of_row w g m cur _ (0, 0) hh]
    rw [← ht, List.getElem?_take] at hu
    split at hu
    · simpa using hu
    · cases hu
theorem OwnK.base {K : El α} {w : World} {base base' : Nat} {v : Value} {l : List α} (h : OwnK K w base v l) (hb : base' ≤ base) : OwnK K w base' v l := by
  refine ⟨h.1, ?_⟩
  rcases h.2 with h2 | ⟨g, cap, cur, e, hg, r⟩
  · exact .inl h2
  · exact .inr ⟨g, cap, cur, e, Nat.le_trans hb hg, r⟩
theorem OwnK.up {K : El α} {w : World} {base base' : Nat} {v : Value} {l : List α} (h : OwnK K w base v l) (hb : ∀ k, v.ownBlock = some k → base' ≤ k) : OwnK K w base' v l := by
  refine ⟨h.1, ?_⟩
  rcases h.2 with h2 | ⟨g, cap, cur, rfl, hg, r⟩
  · exact .inl h2
  · exact .inr ⟨g, cap, cur, rfl, hb g rfl, r⟩
theorem OwnK.kept {K : El α} {w w' : World} {base : Nat} {v : Value} {l : List α} {P : Nat → Prop} (h : OwnK K w base v l) (k : Kept w w' P) (hp : ∀ b, v.ownBlock = some b → P b) : OwnK K w' base v l := ownsRow_kept h k hp
theorem OwnK.below {K : El α} {w w' : World} {base : Nat} {v : Value} {l : List α} (h : OwnK K w base v l) (k : Below w.heap.size w w') : OwnK K w' base v l := h.kept (P := fun _ => True) (.of_below k) (fun _ _ => trivial)
theorem OwnK.lit {K : El α} (w : World) (base : Nat) (hb : base ≤ w.heap.size) : OwnK K (w.alloc (.cells #[] K.e)) base (.slice (some ⟨w.heap.size, 0, none⟩) 0 0) [] := by
  have := World.ownsRow_lit (e := K.e) (size := K.size) w #[] 0 hb (Nat.zero_le _) (by simp)
  exact this
theorem RdK.lit {K : El α} (w : World) (x : α) (C : Array Value) (hC : C.toList = K.enc x) (T : TypeId) : RdK K (w.alloc (.cells C T)) (w.heap.size + 1) (some ⟨w.heap.size, 0, none⟩) [x] := by
  refine .inr ⟨w.heap.size, 0, rfl, by omega, fun m u hu => ?_⟩
  have hu : (K.enc x)[m]? = some u := by simpa [cellsK] using hu
  rw [World.cell?_alloc_at _ _ _ _ rfl, Nat.zero_add, ← Array.getElem?_toList, hC]
  exact hu
/-! ## append(own, xs...) -/
theorem run_spreadK_none {P : Program} (t ty e : TypeId) (i : TypeInfo) (ht : P.underlying t = some (.slice e)) (hi : P.info? e = some i) {w : World} {base size : Nat} {v : Value} {n : Nat} {xs : List Value} (hown : w.ownsRow base e size v n xs) (c : Nat) :
    (Builtin.append_ #[t, t] ty #[v, .slice none 0 c]).run P w = .ok v w := by
  cases hown.2 with
  | inl q =>
    obtain ⟨e1, e2⟩ := q
    rw [e1]
    simp [Builtin.append_, run_underlying ht, sizeOf, typeInfo, hi, Builtin.lenOf, Builtin.firstCells]
  | inr q =>
    obtain ⟨g, cap, cur, e1, _, _, hnc, _⟩ := q
    rw [e1]
    simp [Builtin.append_, run_underlying ht, sizeOf, typeInfo, hi, Builtin.lenOf, Builtin.firstCells, hnc, storeCells]
theorem run_spreadK (K : El α) (ty : TypeId) (w : World) (base : Nat) (v : Value) (xs : List α) (hown : OwnK K w base v xs) (B : Nat) (A : Option Addr) (m c : Nat) (ys : List α) (hm : ys.length = m) (hr : RdK K w B A ys)
    (hl : xs.length + ys.length ≤ 1000000) (hbase : base ≤ w.heap.size) :
    ∃ v' w', (Builtin.append_ #[K.T, K.T] ty #[v, .slice A m c]).run Try.prog w = .ok v' w' ∧ OwnK K w' base v' (xs ++ ys) ∧ w.grownBy w' v.ownBlock ∧ (v'.ownBlock = v.ownBlock ∨ v'.ownBlock = some w.heap.size) := by
  subst hm
  cases A with
  | none =>
    have hy : ys = [] := by
      rcases hr with q | ⟨_, _, q, _⟩
      · exact q
      · cases q
    subst hy
    exact ⟨v, w, run_spreadK_none K.T ty K.e K.i K.ht K.hi hown c, by rw [List.append_nil]; exact hown, World.grownBy.refl _ _, .inl rfl⟩
  | some ad =>
    obtain ⟨v', w', h1, h2, h3, _, h5⟩ := run_append_own_at (P := Try.prog) w base K.T ty K.e K.i K.z K.size K.bytes K.ht K.hi K.hz K.hs K.hb K.hzs K.pos v xs.length _ hown ad ys.length c (cellsK K ys) (cellsK_len K ys) (by
      intro j u hu
      rcases hr with q | ⟨b, off, e, _, hc⟩
      · rw [q] at hu; simp [cellsK] at hu
      · cases e
        rw [addr_lit]
        exact hc j u hu) (cellsK_one K ys) (by unfold maxLen; omega) (Nat.le_trans (Nat.mul_le_mul hl K.small) (by decide)) hbase
    refine ⟨v', w', h1, ?_, h3, h5⟩
    unfold OwnK
    rw [List.length_append, cellsK_app]; exact h2
theorem wpList_spreadK (K : El α) {ops : Array Oper} {rest : List Oper} {o : Oper} {a : Act} {Q : Exit → Act → World → Prop} {w : World} (hgd : o.guard = none) (s x : Operand)
    (ho : o.op = .call { callee := .builtin .append, args := #[s, x], argTypes := #[K.T, K.T] }) (base : Nat) (v : Value) (xs : List α) (hs : a.eval s = v) (hown : OwnK K w base v xs)
    (B : Nat) (A : Option Addr) (m c : Nat) (ys : List α) (hx : a.eval x = .slice A m c) (hm : ys.length = m) (hr : RdK K w B A ys) (hl : xs.length + ys.length ≤ 1000000) (hbase : base ≤ w.heap.size)
    (h : ∀ v' w', OwnK K w' base v' (xs ++ ys) → w.grownBy w' v.ownBlock → (v'.ownBlock = v.ownBlock ∨ v'.ownBlock = some w.heap.size) → wpList Try.prog ops Q rest (a.put o.dst v') w') : wpList Try.prog ops Q (o :: rest) a w := by
  obtain ⟨v', w', h1, h2, h3, h5⟩ := run_spreadK K o.type w base v xs hown B A m c ys hm hr hl hbase
  refine wpList_plain hgd fun K' hK => ?_
  unfold Oper.wp
  simp [execOp, ho, resolve, invoke, builtin, hs, hx, h1, Result.andThen]
  exact hK _ _ (h v' w' h2 h3 h5)
theorem step_spreadK (K : El α) {ops : Array Oper} {o : Oper} {a : Act} {w : World} {K' : Act → World → Prop} {Q : Exit → Act → World → Prop} {E : Prop} (hgd : o.guard = none) (s x : Operand)
    (ho : o.op = .call { callee := .builtin .append, args := #[s, x], argTypes := #[K.T, K.T] }) (base : Nat) (v : Value) (xs : List α) (hs : a.eval s = v) (hown : OwnK K w base v xs)
    (B : Nat) (A : Option Addr) (m c : Nat) (ys : List α) (hx : a.eval x = .slice A m c) (hm : ys.length = m) (hr : RdK K w B A ys) (hl : xs.length + ys.length ≤ 1000000) (hbase : base ≤ w.heap.size)
    (h : ∀ v' w', OwnK K w' base v' (xs ++ ys) → w.grownBy w' v.ownBlock → (v'.ownBlock = v.ownBlock ∨ v'.ownBlock = some w.heap.size) → K' (a.put o.dst v') w') :
    if Region.wanted o (yielded ops a.tmps) = true then Oper.wp Try.prog o a w K' Q else E := by
  have hw : Region.wanted o (yielded ops a.tmps) = true := by simp [Region.wanted, hgd]
  rw [if_pos hw]
  obtain ⟨v', w', h1, h2, h3, h5⟩ := run_spreadK K o.type w base v xs hown B A m c ys hm hr hl hbase
  unfold Oper.wp
  simp [execOp, ho, resolve, invoke, builtin, hs, hx, h1, Result.andThen]
  exact h v' w' h2 h3 h5
/-! ## Cuts -/
theorem under_K (K : El α) : Try.prog.underlying K.T = some (.slice (Try.prog.elem K.T)) := by rw [K.el]; exact K.ht
theorem size_K (K : El α) (W : World) : (sizeOf K.e).run Try.prog W = .ok K.size W := by simp [sizeOf, typeInfo, K.hi, K.hs]
theorem slice_toK (K : El α) {A : Option Addr} {n c p : Nat} (hp : p ≤ n) (hc : n ≤ c) (W : World) : (Instr.slice K.T (.slice A n c) none (some (.int .i64 p)) none).run Try.prog W = .ok (.slice A p c) W := by
  rw [run_slice_h W K.T A n c (under_K K) .i64 (p : Int) (by omega) (by omega), K.el, size_K]
  cases A <;> simp [Result.andThen, sliced, addr0]
theorem slice_fromK (K : El α) {w : World} {B n c p : Nat} {A : Option Addr} {l : List α} (h : RdK K w B A l) (hn : l.length = n) (hp : p ≤ n) (hc : n ≤ c) :
    ∃ A2 c2, (∀ W, (Instr.slice K.T (.slice A n c) (some (.int .i64 p)) none none).run Try.prog W = .ok (.slice A2 (n - p) c2) W) ∧ (∀ w', RdK K w' B A l → RdK K w' B A2 (l.drop p)) ∧ n - p ≤ c2 ∧ (p < c → ∀ a, A = some a → A2 = some (a.add (p * K.size))) ∧ (∀ a, A2 = some a → ∃ a', A = some a' ∧ a.block = a'.block) ∧ (A ≠ none → A2 ≠ none) := by
  subst hn
  refine ⟨if c = p then A else A.map (·.add (p * K.size)), c - p, fun W => ?_, fun w' h => ?_, by omega, fun hpc a e => by rw [if_neg (by omega), e]; rfl, fun a e => ?_, fun e => ?_⟩
  · rw [run_slice_l W K.T A l.length c (under_K K) .i64 (p : Int) (by omega) (by omega), K.el, size_K]
    simp [Result.andThen, sliced]
  · by_cases e : p = l.length
    · exact .inl (List.drop_eq_nil_of_le (by omega))
    · rw [if_neg (by omega)]
      rcases h with h | ⟨b, o, rfl, hb, hcell⟩
      · subst h; simp at hp e; omega
      refine .inr ⟨b, o + p * K.size, by simp [addr_lit], hb, fun m u hu => ?_⟩
      rw [← cellsK_drop, List.getElem?_drop] at hu
      rw [Nat.add_assoc]
      exact hcell _ u hu
  · split at e
    · exact ⟨a, e, rfl⟩
    · cases A with
      | none => simp at e
      | some a' => simp at e; subst e; exact ⟨a', rfl, by unfold Addr.add; split <;> rfl⟩
  · split
    · exact e
    · cases A with
      | none => exact absurd rfl e
      | some a' => simp
theorem OwnK.some_ {K : El α} {w : World} {base : Nat} {v : Value} {l : List α} (h : OwnK K w base v l) {n : Nat} (hn : l.length = n + 1) : ∃ g cap, v = .slice (some ⟨g, 0, none⟩) (n + 1) cap ∧ base ≤ g ∧ g < w.heap.size ∧ n + 1 ≤ cap := by
  have hlt := h.lt
  rcases h.2 with ⟨_, e⟩ | ⟨g, cap, cur, rfl, hg, hh, hn2, hc, hs, ht⟩
  · omega
  · rw [hn] at hn2 ⊢
    exact ⟨g, cap, rfl, hg, (hlt g rfl).2, hn2⟩
theorem OwnK.take {K : El α} {w : World} {base p c : Nat} {A : Option Addr} {l : List α} (h : OwnK K w base (.slice A l.length c) l) (hp : p ≤ l.length) : OwnK K w base (.slice A p c) (l.take p) := by
  have hl : (l.take p).length = p := by rw [List.length_take]; omega
  refine ⟨by rw [cellsK_len], ?_⟩
  rw [hl]
  rcases h.2 with ⟨e, h0⟩ | ⟨g, cap, cur, e, hg, hb, hn, hc, hs, ht⟩
  · have p0 : p = 0 := by omega
    simp only [Value.slice.injEq] at e
    obtain ⟨rfl, _, rfl⟩ := e
    subst p0
    exact .inl ⟨rfl, rfl⟩
  · simp only [Value.slice.injEq] at e
    obtain ⟨rfl, _, rfl⟩ := e
    refine .inr ⟨g, c, cur, rfl, hg, hb, by omega, hc, hs, ?_⟩
    rw [← cellsK_take, ← ht, List.take_take, Nat.min_eq_left (Nat.mul_le_mul_right _ hp)]
/-! ## The kinds -/
noncomputable def infoOf (t : TypeId) : TypeInfo := (Try.prog.info? t).get!
noncomputable def intK : El Int where
  T := 45
  e := 3
  size := 1
  bytes := 8
  z := .int .i64 0
  i := infoOf 3
  enc := fun x => [.int .i64 x]
  el := by kernel_rfl
  ht := Try.underlying45
  hi := by kernel_rfl
  hz := by kernel_rfl
  hs := by kernel_rfl
  hb := by kernel_rfl
  hzs := rfl
  pos := by decide
  len := fun _ => rfl
  one := fun _ u hu => by simp at hu; subst hu; rfl
  small := by decide
/-- The cells behind A, below block B, are the numbers l. -/
def RdI (w : World) (B : Nat) (A : Option Addr) (l : List Int) : Prop := l = [] ∨ ∃ b off, A = some ⟨b, off, none⟩ ∧ b < B ∧ ∀ j x, l[j]? = some x → w.cell? ⟨b, off + j, none⟩ = some (.int .i64 x)
theorem RdI.at_ {w : World} {B : Nat} {A : Option Addr} {l : List Int} (h : RdI w B A l) (h0 : 0 < l.length) : ∃ b off, A = some ⟨b, off, none⟩ ∧ b < B ∧ ∀ j x, l[j]? = some x → w.cell? ⟨b, off + j, none⟩ = some (.int .i64 x) := by
  rcases h with rfl | h
  · simp at h0
  · exact h
theorem RdK.ints {w : World} {B : Nat} {A : Option Addr} {l : List Int} (h : RdK intK w B A l) : RdI w B A l := by
  rcases h with h | ⟨b, off, e, hb, hc⟩
  · exact .inl h
  · refine .inr ⟨b, off, e, hb, fun j x hx => ?_⟩
    have h0 := hc _ _ (cellsK_at intK hx (i := 0) (u := .int .i64 x) rfl)
    have e1 : j * intK.size + 0 = j := by show j * 1 + 0 = j; omega
    rwa [e1] at h0
theorem RdI.below {w w' : World} {B : Nat} {A : Option Addr} {l : List Int} (h : RdI w B A l) (k : Below B w w') : RdI w' B A l := by
  rcases h with h | ⟨b, off, e, hb, hc⟩
  · exact .inl h
  · exact .inr ⟨b, off, e, hb, fun j x hx => (k.cell (p := ⟨b, _, none⟩) hb).trans (hc j x hx)⟩
theorem RdI.more {w : World} {B B' : Nat} {A : Option Addr} {l : List Int} (h : RdI w B A l) (k : B ≤ B') : RdI w B' A l := by
  rcases h with h | ⟨b, off, e, hb, hc⟩
  · exact .inl h
  · exact .inr ⟨b, off, e, by omega, hc⟩
end Go.Proofs.Ytecdcfmbhphagaa.IX
