/-
  WALK: the document's Sort, for seats without the handles' texts (out of HSpread and HRefSort).
-/
import Derived.Test.YtmhilhdmbbdnaaaGreatDoorHInsert
import Derived.Test.YtmhilhdmbbdnaaaGreatDoorHHas
import Derived.Test.YtmhilhdmbbdnaaaGreatDoorHSplit
import Derived.Laws.OwnMore
import Derived.Laws.AppendOwnNone
import Derived.Deep.QuietTactic
import Derived.BigQuiet
import Derived.Deep.RegionLaw
namespace Go.Proofs.YtmhilhdmbbdnaaaGreatDoor.HL
open Go.RowKit
set_option maxRecDepth 100000
set_option linter.unusedVariables false
set_option linter.unusedSimpArgs false
theorem str_cells (ys : List Bs) : ∀ u ∈ ys.map str, u.oneCell' = true := by
  intro u hu
  obtain ⟨y, _, rfl⟩ := List.mem_map.1 hu
  rfl
theorem run_spread_none {P : Program} (t ty e : TypeId) (i : TypeInfo) (ht : P.underlying t = some (.slice e)) (hi : P.info? e = some i) {w : World} {base size : Nat} {v : Value} {n : Nat} {xs : List Value} (hown : w.ownsRow base e size v n xs) (c : Nat) :
    (Builtin.append_ #[t, t] ty #[v, .slice none 0 c]).run P w = .ok v w := by
  cases hown.2 with
  | inl q =>
    obtain ⟨e1, e2⟩ := q
    rw [e1]
    simp [Builtin.append_, run_underlying ht, sizeOf, typeInfo, hi, Builtin.lenOf, Builtin.firstCells]
  | inr q =>
    obtain ⟨g, cap, cur, e1, _, _, hnc, _⟩ := q
    rw [e1]
    simp [Builtin.append_, run_underlying ht, sizeOf, typeInfo, hi, Builtin.lenOf, Builtin.firstCells, hnc, storeCells]

theorem wpList_spread {ops : Array Oper} {rest : List Oper} {o : Oper} {a : Act} {Q : Exit → Act → World → Prop} (w : World) (hgd : o.guard = none) (s x : Operand)
    (ho : o.op = .call { callee := .builtin .append, args := #[s, x], argTypes := #[49, 49] }) (base : Nat) (v : Value) (xs : List Bs) (hs : a.eval s = v) (hown : OwnS w base v xs)
    (B : Nat) (A : Option Addr) (c : Nat) (ys : List Bs) (hx : a.eval x = .slice A ys.length c) (hr : Strs w B A ys) (hl : xs.length + ys.length ≤ 1000000) (hbase : base ≤ w.heap.size)
    (h : ∀ v' w', OwnS w' base v' (xs ++ ys) → w.grownBy w' v.ownBlock → wpList Tryz.prog ops Q rest (a.put o.dst v') w') : wpList Tryz.prog ops Q (o :: rest) a w := by
  obtain ⟨i0, hi, hz0, hz1, hz2⟩ := info_parts info_str
  have hcat : ∀ v' w', w'.ownsRow base 9 1 v' (xs.length + ys.length) (xs.map str ++ ys.map str) → OwnS w' base v' (xs ++ ys) := fun v' w' q => by
    unfold OwnS
    simpa using q
  cases A with
  | none =>
    have hy : ys = [] := by
      rcases hr with q | ⟨_, _, q, _⟩
      · exact q
      · cases q
    subst hy
    refine wpList_plain hgd fun K hK => ?_
    have hrun := run_spread_none 49 o.type 9 i0 Tryz.underlying49 hi hown c
    unfold Oper.wp
    simp [execOp, ho, resolve, invoke, builtin, hs, hx, hrun, Result.andThen]
    exact hK _ _ (h v w (by rw [List.append_nil]; exact hown) (World.grownBy.refl _ _))
  | some ad =>
    refine wpList_append_own w hgd s x 49 ho base 9 i0 (.string ByteArray.empty) 1 16 Tryz.underlying49 hi hz0 hz1 hz2 rfl (by decide) v xs.length _ hs hown ad ys.length c (ys.map str) hx (by simp) ?_ (str_cells ys) (by unfold maxLen; omega) (by omega) hbase (fun v' w' q g _ => h v' w' (hcat v' w' q) g)
    intro j u hu
    rw [List.getElem?_map] at hu
    obtain ⟨y, hy, rfl⟩ := Option.map_eq_some_iff.1 hu
    rcases hr with q | ⟨b, off, e, _, hc⟩
    · rw [q] at hy; cases hy
    · cases e
      rw [show (⟨b, off, none⟩ : Addr).add j = ⟨b, off + j, none⟩ by unfold Addr.add; split <;> simp_all]
      exact hc j y hy
theorem OwnS.lit (w : World) (base : Nat) (hb : base ≤ w.heap.size) : OwnS (w.alloc (.cells #[] 9)) base (.slice (some ⟨w.heap.size, 0, none⟩) 0 0) [] := World.ownsRow_lit w #[] 0 hb (Nat.zero_le _) rfl


theorem quiet_add {P : Program} {f : FuncId} {args : Array Value} {w : World} {a n : Nat} {v : Value} (h : Calls P f args (w.drewN (a + n)) fun e w' => e = .returned v ∧ ∃ m, w' = (w.drewN (a + n)).drewN m) :
    Calls P f args (w.drewN (a + n)) fun e w' => e = .returned v ∧ ∃ m, w' = w.drewN (a + m) := h.mono fun _ _ k => by
  obtain ⟨he, m, hm⟩ := k
  exact ⟨he, n + m, by rw [hm, World.drewN_drewN, Nat.add_assoc]⟩
/-- 'append(own, xs...)' as one step of a region that draws. -/
theorem step_spread {ops : Array Oper} {o : Oper} {a : Act} {w : World} {K : Act → World → Prop} {Q : Exit → Act → World → Prop} {E : Prop} (hgd : o.guard = none) (s x : Operand)
    (ho : o.op = .call { callee := .builtin .append, args := #[s, x], argTypes := #[49, 49] }) (base : Nat) (v : Value) (xs : List Bs) (hs : a.eval s = v) (hown : OwnS w base v xs)
    (B : Nat) (A : Option Addr) (m c : Nat) (ys : List Bs) (hx : a.eval x = .slice A m c) (hm : ys.length = m) (hr : Strs w B A ys) (hl : xs.length + ys.length ≤ 1000000) (hbase : base ≤ w.heap.size)
    (h : ∀ v' w', OwnS w' base v' (xs ++ ys) → w.grownBy w' v.ownBlock → K (a.put o.dst v') w') :
    if Region.wanted o (yielded ops a.tmps) = true then Oper.wp Tryz.prog o a w K Q else E := by
  have hw : Region.wanted o (yielded ops a.tmps) = true := by simp [Region.wanted, hgd]
  rw [if_pos hw]
  subst hm
  obtain ⟨i0, hi, hz0, hz1, hz2⟩ := info_parts info_str
  have hcat : ∀ v' w', w'.ownsRow base 9 1 v' (xs.length + ys.length) (xs.map str ++ ys.map str) → OwnS w' base v' (xs ++ ys) := fun v' w' q => by
    unfold OwnS
    simpa using q
  cases A with
  | none =>
    have hy : ys = [] := by
      rcases hr with q | ⟨_, _, q, _⟩
      · exact q
      · cases q
    subst hy
    have hrun := run_spread_none 49 o.type 9 i0 Tryz.underlying49 hi hown c
    unfold Oper.wp
    simp [execOp, ho, resolve, invoke, builtin, hs, hx, hrun, Result.andThen]
    exact h v w (by rw [List.append_nil]; exact hown) (World.grownBy.refl _ _)
  | some ad =>
    refine wp_append_own w s x 49 ho base 9 i0 (.string ByteArray.empty) 1 16 Tryz.underlying49 hi hz0 hz1 hz2 rfl (by decide) v xs.length _ hs hown ad ys.length c (ys.map str) hx (by simp) ?_ (str_cells ys) (by unfold maxLen; omega) (by omega) hbase (fun v' w' q g _ => h v' w' (hcat v' w' q) g)
    intro j u hu
    rw [List.getElem?_map] at hu
    obtain ⟨y, hy, rfl⟩ := Option.map_eq_some_iff.1 hu
    rcases hr with q | ⟨b, off, e, _, hc⟩
    · rw [q] at hy; cases hy
    · cases e
      rw [show (⟨b, off, none⟩ : Addr).add j = ⟨b, off + j, none⟩ by unfold Addr.add; split <;> simp_all]
      exact hc j y hy

/-- A row of one's own, cut short. -/
theorem OwnS.take {w : World} {base p c : Nat} {A : Option Addr} {zs : List Bs} (h : OwnS w base (.slice A zs.length c) zs) (hp : p ≤ zs.length) : OwnS w base (.slice A p c) (zs.take p) := by
  have hl : (zs.take p).length = p := by rw [List.length_take]; omega
  refine ⟨by simp, ?_⟩
  rw [hl]
  rcases h.2 with ⟨e, h0⟩ | ⟨g, cap, cur, e, hg, hb, hn, hc, hs, ht⟩
  · have p0 : p = 0 := by omega
    simp only [Value.slice.injEq] at e
    obtain ⟨rfl, _, rfl⟩ := e
    subst p0
    exact .inl ⟨rfl, rfl⟩
  · simp only [Value.slice.injEq] at e
    obtain ⟨rfl, _, rfl⟩ := e
    refine .inr ⟨g, c, cur, rfl, hg, hb, by omega, hc, hs, ?_⟩
    rw [Nat.mul_one] at ht ⊢
    rw [List.map_take, ← ht, List.take_take, Nat.min_eq_left hp]
/-- What another row's growing leaves alone. -/
theorem OwnS.beside {w w' : World} {base : Nat} {v : Value} {zs : List Bs} {r : Option Nat} (h : OwnS w base v zs) (hg : w.grownBy w' r) (hr : ∀ k, r = some k → k < base) : OwnS w' base v zs := by
  refine ⟨h.1, ?_⟩
  rcases h.2 with e | ⟨g, cap, cur, e, hb, hh, q⟩
  · exact .inl e
  · refine .inr ⟨g, cap, cur, e, hb, ?_, q⟩
    have hlt : g < w.heap.size := (Array.getElem?_eq_some_iff.1 hh).1
    rw [hg.block g hlt (fun e2 => by have := hr g e2.symm; omega), hh]

theorem addr_add0 (a : Addr) : a.add 0 = a := by unfold Addr.add; simp
theorem elem_strs : Tryz.prog.elem 49 = 9 := by kernel_rfl
theorem size_str (W : World) : (sizeOf 9).run Tryz.prog W = .ok 1 W := by kernel_rfl
theorem under_strs : Tryz.prog.underlying 49 = some (.slice (Tryz.prog.elem 49)) := by rw [elem_strs]; exact Tryz.underlying49
theorem OwnS.cap {w : World} {base c : Nat} {A : Option Addr} {zs : List Bs} (h : OwnS w base (.slice A zs.length c) zs) : zs.length ≤ c := by
  obtain ⟨A', c', e, _, _, hl⟩ := h.form
  cases e
  exact hl
/-- out[p:], whatever the row. -/
theorem slice_from {w : World} {base c p : Nat} {A : Option Addr} {zs : List Bs} (h : OwnS w base (.slice A zs.length c) zs) (hp : p ≤ zs.length) :
    ∃ A2 c2, (∀ W, (Instr.slice 49 (.slice A zs.length c) (some (.int .i64 p)) none none).run Tryz.prog W = .ok (.slice A2 (zs.length - p) c2) W) ∧ Strs w w.heap.size A2 (zs.drop p) := by
  refine ⟨if c = p then A else A.map (·.add p), c - p, fun W => ?_, ?_⟩
  · rw [run_slice_l W 49 A zs.length c under_strs .i64 (p : Int) (by omega) (by omega), elem_strs, size_str]
    simp [Result.andThen, sliced]
  · by_cases e : p = zs.length
    · exact .inl (List.drop_eq_nil_of_le (by omega))
    · have hc := h.cap
      rw [if_neg (by omega)]
      obtain ⟨A', c', e2, hs, _, _⟩ := h.form
      cases e2
      obtain ⟨b, o, rfl, hb, hcell⟩ := hs.at_ (by omega)
      refine .inr ⟨b, o + p, ?_, hb, fun j x hx => ?_⟩
      · unfold Addr.add
        simp only [Option.map_some]
        split
        · rename_i h0; subst h0; rfl
        · rfl
      · rw [List.getElem?_drop] at hx
        rw [Nat.add_assoc]
        exact hcell (p + j) x hx
theorem slice_to {w : World} {base c p : Nat} {A : Option Addr} {zs : List Bs} (h : OwnS w base (.slice A zs.length c) zs) (hp : p ≤ zs.length) (W : World) :
    (Instr.slice 49 (.slice A zs.length c) none (some (.int .i64 p)) none).run Tryz.prog W = .ok (.slice A p c) W := by
  have hc := h.cap
  rw [run_slice_h W 49 A zs.length c under_strs .i64 (p : Int) (by omega) (by omega), elem_strs, size_str]
  cases A <;> simp [Result.andThen, sliced, addr_add0]
/-- Compare of two short texts: its answer, and what that says. -/
theorem refCmp_c (x y : Bs) (hx : x.length ≤ 100) (hy : y.length ≤ 100) : ∃ c : Int, (c < 0 ↔ x < y) ∧ ∀ W, Calls Tryz.prog 48 #[str x, str y] W fun e w' => e = .returned (.int .i64 c) ∧ Dr W w' := by
  refine ⟨Lib.compareBytes x y, ?_, fun W => ?_⟩
  · rcases cmp_cases x y with ⟨h, q⟩ | ⟨h, q⟩ | ⟨h, q⟩
    · rw [h]; exact ⟨fun _ => q, fun _ => by omega⟩
    · rw [h]; exact ⟨fun e => by omega, fun e => absurd (q ▸ e) (lt_irrefl _)⟩
    · rw [h]; exact ⟨fun e => by omega, fun e => absurd (lt_trans e q) (lt_irrefl _)⟩
  · have h := refCompare_any ⟨x.toArray⟩ ⟨y.toArray⟩ W (by show x.length ≤ maxLen; unfold maxLen; omega) (by show y.length ≤ maxLen; unfold maxLen; omega)
    exact h
theorem mem_take_lt {zs : List Bs} {p : Nat} {x : Bs} (h : p < zs.length) (h1 : ∀ y ∈ zs.take p, y < x) (h2 : zs[p] < x) : ∀ y ∈ zs.take (p + 1), y < x := by
  rw [List.take_succ_eq_append_getElem h]
  intro y hy
  rcases List.mem_append.1 hy with q | q
  · exact h1 y q
  · rw [List.mem_singleton.1 q]; exact h2
theorem insert_at {xs zs : List Bs} {k p : Nat} (hlt : k < xs.length) (hz : zs = sortU (xs.take k)) (hn : xs[k] ∉ zs) (hp : p ≤ zs.length) (h1 : ∀ y ∈ zs.take p, y < xs[k]) (h2 : ∀ q : p < zs.length, ¬ zs[p] < xs[k]) :
    zs.take p ++ [xs[k]] ++ zs.drop p = sortU (xs.take (k + 1)) := by
  subst hz
  exact (sortU_take_in hlt hn hp h1 h2).symm
theorem own_below {w w' : World} {base n : Nat} {v : Value} {us : List Value} (h : w.ownsRow base 9 1 v n us) (hb : Below w.heap.size w w') : w'.ownsRow base 9 1 v n us := by
  refine ⟨h.1, ?_⟩
  rcases h.2 with e | ⟨g, cap, cur, e, hg, hh, q⟩
  · exact .inl e
  · refine .inr ⟨g, cap, cur, e, hg, ?_, q⟩
    have hlt : g < w.heap.size := (Array.getElem?_eq_some_iff.1 hh).1
    rw [hb.block g hlt, hh]
theorem OwnS.below {w w' : World} {base : Nat} {v : Value} {zs : List Bs} (h : OwnS w base v zs) (hb : Below w.heap.size w w') : OwnS w' base v zs := own_below h hb
theorem OwnS.lt {w : World} {base : Nat} {v : Value} {zs : List Bs} (h : OwnS w base v zs) : ∀ k, v.ownBlock = some k → base ≤ k ∧ k < w.heap.size := World.ownsRow.lt (show w.ownsRow _ _ _ _ _ _ from h)
theorem OwnS.strs {w : World} {base n c : Nat} {A : Option Addr} {zs : List Bs} (h : OwnS w base (.slice A n c) zs) : Strs w w.heap.size A zs := by
  obtain ⟨A', c', e, s, _, _⟩ := h.form
  cases e
  exact s
theorem one_strs (W : World) (x : Bs) : Strs (W.alloc (.cells #[str x] 9)) (W.heap.size + 1) (some ⟨W.heap.size, 0, none⟩) [x] := by
  refine .inr ⟨W.heap.size, 0, rfl, by omega, fun j y hj => ?_⟩
  cases j with
  | zero =>
    simp at hj
    subst hj
    have := cell_one_new W (str x) 9 0 (str x) rfl
    rw [addr_add0] at this
    exact this
  | succ j => simp at hj
theorem sortU_len (xs : List Bs) : (sortU xs).length ≤ xs.length := by
  have := Lib.compact_length_le (sorted xs)
  rw [sorted_len] at this
  exact this
theorem sortU_nil : sortU [] = [] := List.eq_nil_of_length_eq_zero (by have := sortU_len []; simpa using this)
theorem sort_len_take (xs : List Bs) (k : Nat) : (sortU (xs.take k)).length ≤ k := by
  have := sortU_len (xs.take k)
  rw [List.length_take] at this
  omega

end Go.Proofs.YtmhilhdmbbdnaaaGreatDoor.HL
