/-
  Within a row of one's own: a copy one place up, an append that closes a gap, a clear of the last place: laws for the walk.
-/
import Derived.Test.YtenjpimmjpkjbaaDoorIOwn
namespace Go.Proofs.YtenjpimmjpkjbaaDoor.IX
open Go.RowKit HL
set_option maxRecDepth 100000
set_option linter.unusedVariables false
set_option linter.unusedSimpArgs false
variable {α : Type}

theorem grownBy_setRow (w : World) (g : Nat) (cs : Array Value) : w.grownBy (w.setRow g cs) (some g) :=
  ⟨rfl, rfl, rfl, by simp [World.setRow], fun k hk hne => setRow_other w g k cs (fun e => hne (by rw [e]))⟩
/-- What an own row's block holds. -/
theorem OwnK.open_ {K : El α} {w : World} {base g n cap : Nat} {l : List α} (h : OwnK K w base (.slice (some ⟨g, 0, none⟩) n cap) l) :
    n = l.length ∧ base ≤ g ∧ ∃ cur, w.heap[g]? = some (.cells cur K.e (0, 0)) ∧ l.length ≤ cap ∧ cap ≤ maxLen ∧ cur.size = cap * K.size ∧ cur.toList.take (l.length * K.size) = cellsK K l := by
  rcases h.2 with ⟨e, _⟩ | ⟨g', cap', cur, e, hg, hb, hn, hc, hs, ht⟩
  · simp at e
  · simp only [Value.slice.injEq, Option.some.injEq, Addr.mk.injEq] at e
    obtain ⟨⟨rfl, _⟩, rfl, rfl⟩ := e
    exact ⟨rfl, hg, cur, hb, hn, hc, hs, ht⟩
theorem OwnK.set_ {K : El α} {w : World} {base g cap : Nat} {cur : Array Value} (hg : base ≤ g) (hb : w.heap[g]? = some (.cells cur K.e (0, 0))) (hc : cap ≤ maxLen) (cs : List Value) (hs : cs.length = cap * K.size) (l : List α) (hl : l.length ≤ cap) (ht : cs.take (l.length * K.size) = cellsK K l) :
    OwnK K (w.setRow g cs.toArray) base (.slice (some ⟨g, 0, none⟩) l.length cap) l :=
  ⟨by rw [cellsK_len], .inr ⟨g, cap, _, rfl, hg, setRow_heap w g cur _ K.e _ hb, hl, hc, by simpa using hs, by simpa using ht⟩⟩
theorem seg_take {L cs : List Value} {o m : Nat} (h : o + cs.length = m) (hm : m ≤ L.length) : (L.take o ++ cs ++ L.drop (o + cs.length)).take m = L.take o ++ cs := by
  rw [List.take_append_of_le_length (by simp; omega), List.take_of_length_le (by simp; omega)]
theorem seg_len {L cs : List Value} {o : Nat} (h : o + cs.length ≤ L.length) : (L.take o ++ cs ++ L.drop (o + cs.length)).length = L.length := by simp; omega
theorem run_shiftK (K : El α) (ty : TypeId) (w : World) (base g cap : Nat) (l : List α) (hown : OwnK K w base (.slice (some ⟨g, 0, none⟩) l.length cap) l) (i m : Nat) (hi : i + 1 + m = l.length) (dp sp : Option Addr) (dCap sCap : Nat)
    (hpos : 0 < m → dp = some ⟨g, (i + 1) * K.size, none⟩ ∧ sp = some ⟨g, i * K.size, none⟩) :
    ∃ w', (Builtin.copy_ #[K.T, K.T] ty #[.slice dp m dCap, .slice sp (m + 1) sCap]).run Tryd.prog w = .ok (.int .i64 m) w' ∧ OwnK K w' base (.slice (some ⟨g, 0, none⟩) l.length cap) (l.take (i + 1) ++ (l.drop i).take m) ∧ w.grownBy w' (some g) := by
  obtain ⟨_, hg, cur, hb, hn, hc, hs, ht⟩ := hown.open_
  by_cases h0 : m = 0
  · subst h0
    have hl : ∀ (x : Addr), (loadCells x 0).run Tryd.prog w = .ok #[] w := fun x => by simpa using run_loadCells_list (P := Tryd.prog) w x [] (by simp)
    refine ⟨w, ?_, ?_, World.grownBy.refl _ _⟩
    · cases dp <;> cases sp <;> simp [Builtin.copy_, run_underlying K.ht, Builtin.lenOf, Builtin.firstCells, sizeOf, typeInfo, K.hi, K.hs, storeCells, hl, goInt]
    · rw [List.take_zero, List.append_nil, List.take_of_length_le (by omega)]; exact hown
  · obtain ⟨rfl, rfl⟩ := hpos (by omega)
    have e1 : l.length * K.size = (i + 1) * K.size + m * K.size := by rw [← Nat.add_mul, hi]
    have e2 : (cellsK K ((l.drop i).take m)).length = m * K.size := by rw [cellsK_len, List.length_take, List.length_drop]; congr 1; omega
    have hcap : (i + 1) * K.size + m * K.size ≤ cur.size := by rw [← e1, hs]; exact Nat.mul_le_mul_right _ hn
    have hsrc : ∀ j v, (cellsK K ((l.drop i).take m))[j]? = some v → w.cell? ((⟨g, i * K.size, none⟩ : Addr).add j) = some v := fun j v hv => by
      rw [addr_lit, cell_of_row w g _ cur _ (0, 0) hb]
      rw [← cellsK_take, List.getElem?_take] at hv
      split at hv
      · rw [← cellsK_drop, ← ht, List.getElem?_drop, List.getElem?_take] at hv
        split at hv
        · simpa using hv
        · cases hv
      · cases hv
    have hl := run_loadCells_list (P := Tryd.prog) w ⟨g, i * K.size, none⟩ _ hsrc
    have hst := run_storeCells_at Tryd.prog g ((i + 1) * K.size) K.e (cellsK K ((l.drop i).take m)) 0 cur w hb (by rw [e2]; simpa using hcap) (cellsK_one K _)
    rw [e2] at hl
    simp only [Nat.add_zero] at hst
    have hmin : Nat.min (m + 1) m = m := Nat.min_eq_right (by omega)
    have hw := OwnK.set_ (K := K) (base := base) hg hb hc _ (by rw [seg_len (L := cur.toList) (o := (i + 1) * K.size) (by rw [e2]; simpa using hcap)]; simpa using hs) (l.take (i + 1) ++ (l.drop i).take m) (by simp; omega) (by
      rw [seg_take (by rw [e2, ← e1]; simp; congr 1; omega) (by rw [show (l.take (i + 1) ++ (l.drop i).take m).length = l.length by simp; omega]; simpa [hs] using Nat.mul_le_mul_right K.size hn), cellsK_app]
      congr 1
      rw [← cellsK_take, ← ht, List.take_take, Nat.min_eq_left (Nat.mul_le_mul_right _ (by omega))])
    rw [show (l.take (i + 1) ++ (l.drop i).take m).length = l.length by simp; omega] at hw
    refine ⟨_, ?_, hw, grownBy_setRow _ _ _⟩
    simp [Builtin.copy_, run_underlying K.ht, Builtin.lenOf, Builtin.firstCells, sizeOf, typeInfo, K.hi, K.hs, hmin, hl, hst, goInt]
/-- A copy one place up within a row of one's own. -/
theorem wpList_shiftK (K : El α) {ops : Array Oper} {rest : List Oper} {o : Oper} {a : Act} {Q : Exit → Act → World → Prop} {w : World} (hgd : o.guard = none) (d s : Operand)
    (ho : o.op = .call { callee := .builtin .copy, args := #[d, s], argTypes := #[K.T, K.T] }) (base g cap : Nat) (l : List α) (hown : OwnK K w base (.slice (some ⟨g, 0, none⟩) l.length cap) l) (i m : Nat) (hi : i + 1 + m = l.length) (dp sp : Option Addr) (dCap sCap : Nat)
    (hd : a.eval d = .slice dp m dCap) (hs : a.eval s = .slice sp (m + 1) sCap) (hpos : 0 < m → dp = some ⟨g, (i + 1) * K.size, none⟩ ∧ sp = some ⟨g, i * K.size, none⟩)
    (h : ∀ w', OwnK K w' base (.slice (some ⟨g, 0, none⟩) l.length cap) (l.take (i + 1) ++ (l.drop i).take m) → w.grownBy w' (some g) → wpList Tryd.prog ops Q rest (a.put o.dst (.int .i64 m)) w') : wpList Tryd.prog ops Q (o :: rest) a w := by
  obtain ⟨w', h1, h2, h3⟩ := run_shiftK K o.type w base g cap l hown i m hi dp sp dCap sCap hpos
  refine wpList_plain hgd fun K' hK => ?_
  unfold Oper.wp
  simp [execOp, ho, resolve, invoke, builtin, hd, hs, h1, Result.andThen]
  exact hK _ _ (h w' h2 h3)
/-- append(s[:i], s[i+1:]...) of a row of one's own. -/
theorem run_closeK (K : El α) (ty : TypeId) (w : World) (base g cap : Nat) (l : List α) (m i : Nat) (hm : l.length = m + 1) (hown : OwnK K w base (.slice (some ⟨g, 0, none⟩) (m + 1) cap) l) (hi : i ≤ m) (sp : Option Addr) (sCap : Nat)
    (hpos : i < m → sp = some ⟨g, (i + 1) * K.size, none⟩) (hsp : sp ≠ none) :
    ∃ w', (Builtin.append_ #[K.T, K.T] ty #[.slice (some ⟨g, 0, none⟩) i cap, .slice sp (m - i) sCap]).run Tryd.prog w = .ok (.slice (some ⟨g, 0, none⟩) m cap) w' ∧ OwnK K w' base (.slice (some ⟨g, 0, none⟩) m cap) (l.take i ++ l.drop (i + 1)) ∧ w.grownBy w' (some g) := by
  obtain ⟨_, hg, cur, hb, hn, hc, hs, ht⟩ := hown.open_
  obtain ⟨ad, rfl⟩ : ∃ ad, sp = some ad := by cases sp with | none => exact absurd rfl hsp | some ad => exact ⟨ad, rfl⟩
  have e2 : (cellsK K (l.drop (i + 1))).length = (m - i) * K.size := by rw [cellsK_len, List.length_drop]; congr 1; omega
  have hsrc : ∀ j v, (cellsK K (l.drop (i + 1)))[j]? = some v → w.cell? (ad.add j) = some v := fun j v hv => by
    have hj := (List.getElem?_eq_some_iff.1 hv).1
    have hlt : i < m := by
      by_cases h : i < m
      · exact h
      · rw [e2, show m - i = 0 by omega] at hj; simp at hj
    obtain rfl : ad = ⟨g, (i + 1) * K.size, none⟩ := by simpa using hpos hlt
    rw [addr_lit, cell_of_row w g _ cur _ (0, 0) hb]
    rw [← cellsK_drop, ← ht, List.getElem?_drop, List.getElem?_take] at hv
    split at hv
    · simpa using hv
    · cases hv
  have e3 : i * K.size + (m - i) * K.size = m * K.size := by rw [← Nat.add_mul]; congr 1; omega
  have hcap : i * K.size + (m - i) * K.size ≤ cur.size := by rw [e3, hs]; exact Nat.mul_le_mul_right _ (by omega)
  have hr := run_append_room (P := Tryd.prog) w K.T ty K.e K.i K.ht K.hi g i cap cur hb ad (m - i) sCap (cellsK K (l.drop (i + 1))) (by rw [e2, K.hs]) hsrc (cellsK_one K _) (by omega) (by rw [K.hs, e2]; exact hcap)
  rw [K.hs, show i + (m - i) = m by omega] at hr
  have hll : (l.take i ++ l.drop (i + 1)).length = m := by simp; omega
  have hw := OwnK.set_ (K := K) (base := base) hg hb hc _ (by rw [seg_len (L := cur.toList) (o := i * K.size) (by rw [e2]; simpa using hcap)]; simpa using hs) (l.take i ++ l.drop (i + 1)) (by omega) (by
    rw [hll, seg_take (by rw [e2, e3]) (by simp [hs]; exact Nat.mul_le_mul_right K.size (by omega)), cellsK_app]
    congr 1
    rw [← cellsK_take, ← ht, List.take_take, Nat.min_eq_left (Nat.mul_le_mul_right _ (by omega))])
  rw [hll] at hw
  exact ⟨_, hr, hw, grownBy_setRow _ _ _⟩
theorem wpList_closeK (K : El α) {ops : Array Oper} {rest : List Oper} {o : Oper} {a : Act} {Q : Exit → Act → World → Prop} {w : World} (hgd : o.guard = none) (d s : Operand)
    (ho : o.op = .call { callee := .builtin .append, args := #[d, s], argTypes := #[K.T, K.T] }) (base g cap : Nat) (l : List α) (m i : Nat) (hm : l.length = m + 1) (hown : OwnK K w base (.slice (some ⟨g, 0, none⟩) (m + 1) cap) l) (hi : i ≤ m) (sp : Option Addr) (sCap : Nat)
    (hd : a.eval d = .slice (some ⟨g, 0, none⟩) i cap) (hs : a.eval s = .slice sp (m - i) sCap) (hpos : i < m → sp = some ⟨g, (i + 1) * K.size, none⟩) (hsp : sp ≠ none)
    (h : ∀ w', OwnK K w' base (.slice (some ⟨g, 0, none⟩) m cap) (l.take i ++ l.drop (i + 1)) → w.grownBy w' (some g) → wpList Tryd.prog ops Q rest (a.put o.dst (.slice (some ⟨g, 0, none⟩) m cap)) w') : wpList Tryd.prog ops Q (o :: rest) a w := by
  obtain ⟨w', h1, h2, h3⟩ := run_closeK K o.type w base g cap l m i hm hown hi sp sCap hpos hsp
  refine wpList_plain hgd fun K' hK => ?_
  unfold Oper.wp
  simp [execOp, ho, resolve, invoke, builtin, hd, hs, h1, Result.andThen]
  exact hK _ _ (h w' h2 h3)
/-- clear of what lies behind a row of one's own, one place. -/
theorem run_clearK (K : El α) (w : World) (base g cap m c : Nat) (l : List α) (hown : OwnK K w base (.slice (some ⟨g, 0, none⟩) m cap) l) (hm : m < cap) (z : Value) (hz : ∀ W, (zeroValue K.e).run Tryd.prog W = .ok z W) (hzs : z.cells.size = K.size) (hz1 : ∀ u ∈ z.cells.toList, u.oneCell' = true) :
    ∃ w', (∀ ty, (Builtin.clear_ #[K.T] ty #[.slice (some ⟨g, m * K.size, none⟩) 1 c]).run Tryd.prog w = .ok (.tuple #[]) w') ∧ OwnK K w' base (.slice (some ⟨g, 0, none⟩) m cap) l ∧ w.grownBy w' (some g) := by
  obtain ⟨rfl, hg, cur, hb, hn, hc, hs, ht⟩ := hown.open_
  have e0 : (Builtin.zeroCells z.cells 1).toList = z.cells.toList := by
    apply List.ext_getElem
    · simp [Builtin.zeroCells]
    · intro j h1 h2
      have hj : j < z.cells.size := by simpa using h2
      simp [Builtin.zeroCells, Nat.mod_eq_of_lt hj, hj]
  have hcap : l.length * K.size + z.cells.toList.length ≤ cur.size := by
    rw [show z.cells.toList.length = K.size by rw [Array.length_toList, hzs], hs]
    calc l.length * K.size + K.size = (l.length + 1) * K.size := by rw [Nat.add_mul]; omega
      _ ≤ cap * K.size := Nat.mul_le_mul_right _ hm
  have hst := run_storeCells_at Tryd.prog g (l.length * K.size) K.e z.cells.toList 0 cur w hb (by simpa using hcap) hz1
  simp only [Nat.add_zero] at hst
  have hw := OwnK.set_ (K := K) (base := base) hg hb hc _ (by rw [seg_len (L := cur.toList) (o := l.length * K.size) (by rw [Array.length_toList]; exact hcap)]; simpa using hs) l hn (by
    rw [List.append_assoc, List.take_append_of_le_length (by simp; omega), List.take_take, Nat.min_self, ht])
  refine ⟨_, fun ty => ?_, hw, grownBy_setRow _ _ _⟩
  simp [Builtin.clear_, run_underlying K.ht, hz, e0, hst]
end Go.Proofs.YtenjpimmjpkjbaaDoor.IX
