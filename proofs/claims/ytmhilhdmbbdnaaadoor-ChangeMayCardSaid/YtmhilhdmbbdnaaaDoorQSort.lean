/-
  WALK: the document's Sort, for seats without the handles' texts (out of HSpread and HRefSort).
-/
import Derived.Test.YtmhilhdmbbdnaaaDoorHInsert
import Derived.Test.YtmhilhdmbbdnaaaDoorHHas
import Derived.Test.YtmhilhdmbbdnaaaDoorHSplit
import Derived.Laws.OwnMore
import Derived.Laws.AppendOwnNone
import Derived.Deep.QuietTactic
import Derived.BigQuiet
import Derived.Deep.RegionLaw
namespace Go.Proofs.YtmhilhdmbbdnaaaDoor.HL
open Go.RowKit
set_option maxRecDepth 100000
set_option linter.unusedVariables false
set_option linter.unusedSimpArgs false
def RefSortSaid : Prop := ∀ (A : Option Addr) (c : Nat) (xs : List Bs) (W : World), Strs W W.heap.size A xs → xs.length ≤ 200 → (∀ x ∈ xs, x.length ≤ 100) →
  Calls Tryd.prog 26 #[.slice A xs.length c] W fun e w' => ∃ v, e = .returned v ∧ OwnS w' W.heap.size v (sortU xs) ∧ Below W.heap.size W w'

theorem str_cells (ys : List Bs) : ∀ u ∈ ys.map str, u.oneCell' = true := by
  intro u hu
  obtain ⟨y, _, rfl⟩ := List.mem_map.1 hu
  rfl
theorem run_spread_none {P : Program} (t ty e : TypeId) (i : TypeInfo) (ht : P.underlying t = some (.slice e)) (hi : P.info? e = some i) {w : World} {base size : Nat} {v : Value} {n : Nat} {xs : List Value} (hown : w.ownsRow base e size v n xs) (c : Nat) :
    (Builtin.append_ #[t, t] ty #[v, .slice none 0 c]).run P w = .ok v w := by
  cases hown.2 with
  | inl q =>
    obtain ⟨e1, e2⟩ := q
    rw [e1]
    simp [Builtin.append_, run_underlying ht, sizeOf, typeInfo, hi, Builtin.lenOf, Builtin.firstCells]
  | inr q =>
    obtain ⟨g, cap, cur, e1, _, _, hnc, _⟩ := q
    rw [e1]
    simp [Builtin.append_, run_underlying ht, sizeOf, typeInfo, hi, Builtin.lenOf, Builtin.firstCells, hnc, storeCells]

theorem wpList_spread {ops : Array Oper} {rest : List Oper} {o : Oper} {a : Act} {Q : Exit → Act → World → Prop} (w : World) (hgd : o.guard = none) (s x : Operand)
    (ho : o.op = .call { callee := .builtin .append, args := #[s, x], argTypes := #[33, 33] }) (base : Nat) (v : Value) (xs : List Bs) (hs : a.eval s = v) (hown : OwnS w base v xs)
    (B : Nat) (A : Option Addr) (c : Nat) (ys : List Bs) (hx : a.eval x = .slice A ys.length c) (hr : Strs w B A ys) (hl : xs.length + ys.length ≤ 1000000) (hbase : base ≤ w.heap.size)
    (h : ∀ v' w', OwnS w' base v' (xs ++ ys) → w.grownBy w' v.ownBlock → wpList Tryd.prog ops Q rest (a.put o.dst v') w') : wpList Tryd.prog ops Q (o :: rest) a w := by
  obtain ⟨i0, hi, hz0, hz1, hz2⟩ := info_parts info_str
  have hcat : ∀ v' w', w'.ownsRow base 9 1 v' (xs.length + ys.length) (xs.map str ++ ys.map str) → OwnS w' base v' (xs ++ ys) := fun v' w' q => by
    unfold OwnS
    simpa using q
  cases A with
  | none =>
    have hy : ys = [] := by
      rcases hr with q | ⟨_, _, q, _⟩
      · exact q
      · cases q
    subst hy
    refine wpList_plain hgd fun K hK => ?_
    have hrun := run_spread_none 33 o.type 9 i0 Tryd.underlying33 hi hown c
    unfold Oper.wp
    simp [execOp, ho, resolve, invoke, builtin, hs, hx, hrun, Result.andThen]
    exact hK _ _ (h v w (by rw [List.append_nil]; exact hown) (World.grownBy.refl _ _))
  | some ad =>
    refine wpList_append_own w hgd s x 33 ho base 9 i0 (.string ByteArray.empty) 1 16 Tryd.underlying33 hi hz0 hz1 hz2 rfl (by decide) v xs.length _ hs hown ad ys.length c (ys.map str) hx (by simp) ?_ (str_cells ys) (by unfold maxLen; omega) (by omega) hbase (fun v' w' q g _ => h v' w' (hcat v' w' q) g)
    intro j u hu
    rw [List.getElem?_map] at hu
    obtain ⟨y, hy, rfl⟩ := Option.map_eq_some_iff.1 hu
    rcases hr with q | ⟨b, off, e, _, hc⟩
    · rw [q] at hy; cases hy
    · cases e
      rw [show (⟨b, off, none⟩ : Addr).add j = ⟨b, off + j, none⟩ by unfold Addr.add; split <;> simp_all]
      exact hc j y hy
theorem OwnS.lit (w : World) (base : Nat) (hb : base ≤ w.heap.size) : OwnS (w.alloc (.cells #[] 9)) base (.slice (some ⟨w.heap.size, 0, none⟩) 0 0) [] := World.ownsRow_lit w #[] 0 hb (Nat.zero_le _) rfl


theorem quiet_add {P : Program} {f : FuncId} {args : Array Value} {w : World} {a n : Nat} {v : Value} (h : Calls P f args (w.drewN (a + n)) fun e w' => e = .returned v ∧ ∃ m, w' = (w.drewN (a + n)).drewN m) :
    Calls P f args (w.drewN (a + n)) fun e w' => e = .returned v ∧ ∃ m, w' = w.drewN (a + m) := h.mono fun _ _ k => by
  obtain ⟨he, m, hm⟩ := k
  exact ⟨he, n + m, by rw [hm, World.drewN_drewN, Nat.add_assoc]⟩
/-- 'append(own, xs...)' as one step of a region that draws. -/
theorem step_spread {ops : Array Oper} {o : Oper} {a : Act} {w : World} {K : Act → World → Prop} {Q : Exit → Act → World → Prop} {E : Prop} (hgd : o.guard = none) (s x : Operand)
    (ho : o.op = .call { callee := .builtin .append, args := #[s, x], argTypes := #[33, 33] }) (base : Nat) (v : Value) (xs : List Bs) (hs : a.eval s = v) (hown : OwnS w base v xs)
    (B : Nat) (A : Option Addr) (m c : Nat) (ys : List Bs) (hx : a.eval x = .slice A m c) (hm : ys.length = m) (hr : Strs w B A ys) (hl : xs.length + ys.length ≤ 1000000) (hbase : base ≤ w.heap.size)
    (h : ∀ v' w', OwnS w' base v' (xs ++ ys) → w.grownBy w' v.ownBlock → K (a.put o.dst v') w') :
    if Region.wanted o (yielded ops a.tmps) = true then Oper.wp Tryd.prog o a w K Q else E := by
  have hw : Region.wanted o (yielded ops a.tmps) = true := by simp [Region.wanted, hgd]
  rw [if_pos hw]
  subst hm
  obtain ⟨i0, hi, hz0, hz1, hz2⟩ := info_parts info_str
  have hcat : ∀ v' w', w'.ownsRow base 9 1 v' (xs.length + ys.length) (xs.map str ++ ys.map str) → OwnS w' base v' (xs ++ ys) := fun v' w' q => by
    unfold OwnS
    simpa using q
  cases A with
  | none =>
    have hy : ys = [] := by
      rcases hr with q | ⟨_, _, q, _⟩
      · exact q
      · cases q
    subst hy
    have hrun := run_spread_none 33 o.type 9 i0 Tryd.underlying33 hi hown c
    unfold Oper.wp
    simp [execOp, ho, resolve, invoke, builtin, hs, hx, hrun, Result.andThen]
    exact h v w (by rw [List.append_nil]; exact hown) (World.grownBy.refl _ _)
  | some ad =>
    refine wp_append_own w s x 33 ho base 9 i0 (.string ByteArray.empty) 1 16 Tryd.underlying33 hi hz0 hz1 hz2 rfl (by decide) v xs.length _ hs hown ad ys.length c (ys.map str) hx (by simp) ?_ (str_cells ys) (by unfold maxLen; omega) (by omega) hbase (fun v' w' q g _ => h v' w' (hcat v' w' q) g)
    intro j u hu
    rw [List.getElem?_map] at hu
    obtain ⟨y, hy, rfl⟩ := Option.map_eq_some_iff.1 hu
    rcases hr with q | ⟨b, off, e, _, hc⟩
    · rw [q] at hy; cases hy
    · cases e
      rw [show (⟨b, off, none⟩ : Addr).add j = ⟨b, off + j, none⟩ by unfold Addr.add; split <;> simp_all]
      exact hc j y hy

/-- A row of one's own, cut short. -/
theorem OwnS.take {w : World} {base p c : Nat} {A : Option Addr} {zs : List Bs} (h : OwnS w base (.slice A zs.length c) zs) (hp : p ≤ zs.length) : OwnS w base (.slice A p c) (zs.take p) := by
  have hl : (zs.take p).length = p := by rw [List.length_take]; omega
  refine ⟨by simp, ?_⟩
  rw [hl]
  rcases h.2 with ⟨e, h0⟩ | ⟨g, cap, cur, e, hg, hb, hn, hc, hs, ht⟩
  · have p0 : p = 0 := by omega
    simp only [Value.slice.injEq] at e
    obtain ⟨rfl, _, rfl⟩ := e
    subst p0
    exact .inl ⟨rfl, rfl⟩
  · simp only [Value.slice.injEq] at e
    obtain ⟨rfl, _, rfl⟩ := e
    refine .inr ⟨g, c, cur, rfl, hg, hb, by omega, hc, hs, ?_⟩
    rw [Nat.mul_one] at ht ⊢
    rw [List.map_take, ← ht, List.take_take, Nat.min_eq_left hp]
/-- What another row's growing leaves alone. -/
theorem OwnS.beside {w w' : World} {base : Nat} {v : Value} {zs : List Bs} {r : Option Nat} (h : OwnS w base v zs) (hg : w.grownBy w' r) (hr : ∀ k, r = some k → k < base) : OwnS w' base v zs := by
  refine ⟨h.1, ?_⟩
  rcases h.2 with e | ⟨g, cap, cur, e, hb, hh, q⟩
  · exact .inl e
  · refine .inr ⟨g, cap, cur, e, hb, ?_, q⟩
    have hlt : g < w.heap.size := (Array.getElem?_eq_some_iff.1 hh).1
    rw [hg.block g hlt (fun e2 => by have := hr g e2.symm; omega), hh]

theorem addr_add0 (a : Addr) : a.add 0 = a := by unfold Addr.add; simp
theorem elem_strs : Tryd.prog.elem 33 = 9 := by kernel_rfl
theorem size_str (W : World) : (sizeOf 9).run Tryd.prog W = .ok 1 W := by kernel_rfl
theorem under_strs : Tryd.prog.underlying 33 = some (.slice (Tryd.prog.elem 33)) := by rw [elem_strs]; exact Tryd.underlying33
theorem OwnS.cap {w : World} {base c : Nat} {A : Option Addr} {zs : List Bs} (h : OwnS w base (.slice A zs.length c) zs) : zs.length ≤ c := by
  obtain ⟨A', c', e, _, _, hl⟩ := h.form
  cases e
  exact hl
/-- out[p:], whatever the row. -/
theorem slice_from {w : World} {base c p : Nat} {A : Option Addr} {zs : List Bs} (h : OwnS w base (.slice A zs.length c) zs) (hp : p ≤ zs.length) :
    ∃ A2 c2, (∀ W, (Instr.slice 33 (.slice A zs.length c) (some (.int .i64 p)) none none).run Tryd.prog W = .ok (.slice A2 (zs.length - p) c2) W) ∧ Strs w w.heap.size A2 (zs.drop p) := by
  refine ⟨if c = p then A else A.map (·.add p), c - p, fun W => ?_, ?_⟩
  · rw [run_slice_l W 33 A zs.length c under_strs .i64 (p : Int) (by omega) (by omega), elem_strs, size_str]
    simp [Result.andThen, sliced]
  · by_cases e : p = zs.length
    · exact .inl (List.drop_eq_nil_of_le (by omega))
    · have hc := h.cap
      rw [if_neg (by omega)]
      obtain ⟨A', c', e2, hs, _, _⟩ := h.form
      cases e2
      obtain ⟨b, o, rfl, hb, hcell⟩ := hs.at_ (by omega)
      refine .inr ⟨b, o + p, ?_, hb, fun j x hx => ?_⟩
      · unfold Addr.add
        simp only [Option.map_some]
        split
        · rename_i h0; subst h0; rfl
        · rfl
      · rw [List.getElem?_drop] at hx
        rw [Nat.add_assoc]
        exact hcell (p + j) x hx
theorem slice_to {w : World} {base c p : Nat} {A : Option Addr} {zs : List Bs} (h : OwnS w base (.slice A zs.length c) zs) (hp : p ≤ zs.length) (W : World) :
    (Instr.slice 33 (.slice A zs.length c) none (some (.int .i64 p)) none).run Tryd.prog W = .ok (.slice A p c) W := by
  have hc := h.cap
  rw [run_slice_h W 33 A zs.length c under_strs .i64 (p : Int) (by omega) (by omega), elem_strs, size_str]
  cases A <;> simp [Result.andThen, sliced, addr_add0]
/-- Compare of two short texts: its answer, and what that says. -/
theorem refCmp_c (x y : Bs) (hx : x.length ≤ 100) (hy : y.length ≤ 100) : ∃ c : Int, (c < 0 ↔ x < y) ∧ ∀ W, Calls Tryd.prog 41 #[str x, str y] W fun e w' => e = .returned (.int .i64 c) ∧ Dr W w' := by
  refine ⟨Lib.compareBytes x y, ?_, fun W => ?_⟩
  · rcases cmp_cases x y with ⟨h, q⟩ | ⟨h, q⟩ | ⟨h, q⟩
    · rw [h]; exact ⟨fun _ => q, fun _ => by omega⟩
    · rw [h]; exact ⟨fun e => by omega, fun e => absurd (q ▸ e) (lt_irrefl _)⟩
    · rw [h]; exact ⟨fun e => by omega, fun e => absurd (lt_trans e q) (lt_irrefl _)⟩
  · have h := refCompare_any ⟨x.toArray⟩ ⟨y.toArray⟩ W (by show x.length ≤ maxLen; unfold maxLen; omega) (by show y.length ≤ maxLen; unfold maxLen; omega)
    exact h
theorem mem_take_lt {zs : List Bs} {p : Nat} {x : Bs} (h : p < zs.length) (h1 : ∀ y ∈ zs.take p, y < x) (h2 : zs[p] < x) : ∀ y ∈ zs.take (p + 1), y < x := by
  rw [List.take_succ_eq_append_getElem h]
  intro y hy
  rcases List.mem_append.1 hy with q | q
  · exact h1 y q
  · rw [List.mem_singleton.1 q]; exact h2
theorem insert_at {xs zs : List Bs} {k p : Nat} (hlt : k < xs.length) (hz : zs = sortU (xs.take k)) (hn : xs[k] ∉ zs) (hp : p ≤ zs.length) (h1 : ∀ y ∈ zs.take p, y < xs[k]) (h2 : ∀ q : p < zs.length, ¬ zs[p] < xs[k]) :
    zs.take p ++ [xs[k]] ++ zs.drop p = sortU (xs.take (k + 1)) := by
  subst hz
  exact (sortU_take_in hlt hn hp h1 h2).symm
theorem own_below {w w' : World} {base n : Nat} {v : Value} {us : List Value} (h : w.ownsRow base 9 1 v n us) (hb : Below w.heap.size w w') : w'.ownsRow base 9 1 v n us := by
  refine ⟨h.1, ?_⟩
  rcases h.2 with e | ⟨g, cap, cur, e, hg, hh, q⟩
  · exact .inl e
  · refine .inr ⟨g, cap, cur, e, hg, ?_, q⟩
    have hlt : g < w.heap.size := (Array.getElem?_eq_some_iff.1 hh).1
    rw [hb.block g hlt, hh]
theorem OwnS.below {w w' : World} {base : Nat} {v : Value} {zs : List Bs} (h : OwnS w base v zs) (hb : Below w.heap.size w w') : OwnS w' base v zs := own_below h hb
theorem OwnS.lt {w : World} {base : Nat} {v : Value} {zs : List Bs} (h : OwnS w base v zs) : ∀ k, v.ownBlock = some k → base ≤ k ∧ k < w.heap.size := World.ownsRow.lt (show w.ownsRow _ _ _ _ _ _ from h)
theorem OwnS.strs {w : World} {base n c : Nat} {A : Option Addr} {zs : List Bs} (h : OwnS w base (.slice A n c) zs) : Strs w w.heap.size A zs := by
  obtain ⟨A', c', e, s, _, _⟩ := h.form
  cases e
  exact s
theorem one_strs (W : World) (x : Bs) : Strs (W.alloc (.cells #[str x] 9)) (W.heap.size + 1) (some ⟨W.heap.size, 0, none⟩) [x] := by
  refine .inr ⟨W.heap.size, 0, rfl, by omega, fun j y hj => ?_⟩
  cases j with
  | zero =>
    simp at hj
    subst hj
    have := cell_one_new W (str x) 9 0 (str x) rfl
    rw [addr_add0] at this
    exact this
  | succ j => simp at hj
theorem sortU_len (xs : List Bs) : (sortU xs).length ≤ xs.length := by
  have := Lib.compact_length_le (sorted xs)
  rw [sorted_len] at this
  exact this
theorem sortU_nil : sortU [] = [] := List.eq_nil_of_length_eq_zero (by have := sortU_len []; simpa using this)
theorem sort_len_take (xs : List Bs) (k : Nat) : (sortU (xs.take k)).length ≤ k := by
  have := sortU_len (xs.take k)
  rw [List.length_take] at this
  omega

set_option maxHeartbeats 8000000 in
theorem refSort_any : RefSortSaid := by
  intro A c xs w h hn he
  have H := Lib.hid h
  have HE := Lib.hid he
  clear h he
  go_enter Tryd.func26, Tryd.ntmps26
  go_wp2
  go_loopw [3, 4] (fun v i wr => ∃ (k : Nat) (zs : List Bs), i = .int .i64 k ∧ k ≤ xs.length ∧ Hid (zs = sortU (xs.take k)) ∧ zs.length ≤ k ∧ Hid (OwnS wr w.heap.size v zs) ∧ Below w.heap.size w wr) (fun _ i _ => xs.length - (intOf i).toNat)
  case atStart => exact ⟨0, [], rfl, Nat.zero_le _, Lib.hid (by simp [sortU_nil]), Nat.le_refl _, Lib.hid (OwnS.nil_ w _), Below.refl _ _⟩
  case round =>
    obtain ⟨k, zs, rfl, hk, HZ, hzl, HO, hb⟩ := hrel
    obtain ⟨A1, c1, rfl, s1, hbase1, hcap1⟩ := HO.out.form
    have S1 := Lib.hid s1
    have HB1 := Lib.hid hbase1
    clear s1 hbase1
    by_cases hlt : k < xs.length
    · obtain ⟨b, o, rfl, hbb, hcc⟩ := (H.out.below hb).at_ (by omega)
      have hx := hcc k _ (List.getElem?_eq_getElem hlt)
      have CH := Lib.hid (has_any A1 c1 zs xs[k] _ wr S1.out (by unfold maxLen; omega))
      clear hcc
      by_cases hm' : xs[k] ∈ zs
      · have hd : decide (xs[k] ∈ zs) = true := decide_eq_true hm'
        have HZ2 : Hid (zs = sortU (xs.take (k + 1))) := Lib.hid (by rw [sortU_take_has hlt (by rw [← HZ.out]; exact hm')]; exact HZ.out)
        clear hm'
        go_wp2_with (go_at_call 40; refine CH.out.mono ?_; rintro e w1 ⟨rfl, rfl⟩)
        go_roundw
        case rel => exact ⟨k + 1, zs, by go_num, by omega, HZ2, by omega, HO, hb⟩
        case measure => simp [intOf]; omega
      · have hd : decide (xs[k] ∈ zs) = false := decide_eq_false hm'
        have HNM := Lib.hid hm'
        clear hm'
        go_wp2_with (go_at_call 40; refine CH.out.mono ?_; rintro e w1 ⟨rfl, rfl⟩)
        go_loopw [5] (fun a w' => ∃ p : Nat, a = .int .i64 p ∧ p ≤ zs.length ∧ Hid (∀ y ∈ zs.take p, y < xs[k]) ∧ Dr wr w') (fun a _ => zs.length - (intOf a).toNat)
        case atStart => exact ⟨0, rfl, Nat.zero_le _, Lib.hid (by simp), Dr.refl _⟩
        case round =>
          obtain ⟨p, rfl, hp, HL, ⟨dn, rfl⟩⟩ := hrel
          by_cases hpl : p < zs.length
          · obtain ⟨b1, o1, rfl, hb1, hc1⟩ := S1.out.at_ (by omega)
            have hz := hc1 p _ (List.getElem?_eq_getElem hpl)
            have hsub : ∀ y ∈ zs, y ∈ xs := fun y hy => by
              rw [HZ.out, sortU_mem] at hy
              exact List.mem_of_mem_take hy
            have hin := hsub _ (List.getElem_mem hpl)
            obtain ⟨cc, hcc, CC⟩ := refCmp_c zs[p] xs[k] (HE.out _ hin) (HE.out _ (List.getElem_mem hlt))
            have CC' := fun W => Lib.hid (CC W)
            clear hc1 hin hsub CC
            by_cases hl : cc < 0
            · have HL2 := Lib.hid (mem_take_lt hpl HL.out (hcc.1 hl))
              clear hcc
              go_wp2
              go_quiet ((go_at_call 41; first | exact Calls.quiet_of (CC' _).out | exact quiet_add (CC' _).out))
              go_wp2
              go_roundw
              case rel => exact ⟨p + 1, by go_num, by omega, HL2, by first | exact Dr.one _ _ | exact ⟨_, rfl⟩⟩
              case measure => simp [intOf]; omega
            · have HNL : Hid (¬ zs[p] < xs[k]) := Lib.hid (fun e => hl (hcc.2 e))
              clear hcc
              obtain ⟨A2, c2, hsl, S2⟩ := slice_from HO.out hp
              obtain ⟨ds, hds⟩ : ∃ ds, ds = zs.drop p := ⟨_, rfl⟩
              obtain ⟨ts, hts⟩ : ∃ ts, ts = zs.take p := ⟨_, rfl⟩
              have hto := fun W => slice_to HO.out hp W
              have OT := Lib.hid (OwnS.take HO.out hp)
              have hdl : zs.length - p = ds.length := by rw [hds, List.length_drop]
              have htl : ts.length = p := by rw [hts, List.length_take]; omega
              have hdn : ds.length ≤ zs.length := by omega
              have hn9 : ts.length + ds.length ≤ zs.length := by omega
              rw [hdl] at hsl
              rw [← hds] at S2
              rw [← hts] at OT
              have HZ2 : Hid (ts ++ [xs[k]] ++ ds = sortU (xs.take (k + 1))) := Lib.hid (by rw [hts, hds]; exact insert_at hlt HZ.out HNM.out hp HL.out (fun q => HNL.out))
              have HS2 := Lib.hid S2
              have HTL := Lib.hid htl
              clear hds hts hdl S2 htl
              go_wp2
              go_quiet ((go_at_call 41; first | exact Calls.quiet_of (CC' _).out | exact quiet_add (CC' _).out))
              go_wp2_with (at_builtin; refine wpList_spread _ rfl _ _ rfl wr.heap.size _ [] rfl (OwnS.lit _ wr.heap.size (by simp)) wr.heap.size A2 c2 ds rfl (HS2.out.below (((Dr.one wr _).below _).alloc (by simp) _)) (by simp; omega) (by simp) ?_)
              intro v6 w9 o6 g6
              have b9 : Below wr.heap.size wr w9 := (((Dr.one wr _).below _).alloc (by simp) _).grown g6 (by simp) (fun q hq => by simp [Value.ownBlock] at hq; omega)
              obtain ⟨A6, c6, rfl, s6, hb6, _⟩ := o6.form
              have O6 := Lib.hid o6
              have OT9 := Lib.hid (OT.out.below b9)
              have hx9 : w9.cell? ⟨b, o + k, none⟩ = some (str xs[k]) := (b9.cell (p := ⟨b, o + k, none⟩) (Nat.lt_of_lt_of_le hbb hb.size)).trans hx
              have B9 := Lib.hid b9
              clear o6 g6 s6 hb6 b9 hx
              go_wp2
              have hts : ts.length ≤ zs.length := by omega
              have hb10 : w.heap.size ≤ w9.heap.size := Nat.le_trans hb.size B9.out.size
              have bel := (Below.refl w9.heap.size w9).drew.alloc (Nat.le_refl _) (.cells #[str xs[k]] 9)
              have HB10 := Lib.hid ((hb.trans (B9.out.mono hb.size)).drew.alloc hb10 (.cells #[str xs[k]] 9))
              have BEL := Lib.hid bel
              clear bel
              go_region_law (first
                | (refine step_spread rfl _ _ rfl w.heap.size _ ts rfl (OT9.out.below BEL.out) (w9.heap.size + 1) _ 1 1 [xs[k]] rfl rfl (one_strs w9.drew xs[k]) (by simp; omega) (by simp; omega) ?_; intro v8 w8 o8 g8)
                | (refine step_spread rfl _ _ rfl w.heap.size v8 _ rfl o8 _ A6 ds.length c6 ds rfl rfl ((O6.out.below BEL.out).beside g8 (fun q hq => (OT.out.lt q hq).2)).strs (by simp; omega) (by have := g8.size; simp at this; omega) ?_; intro v10 w10 o10 g10))
              have HB11 := Lib.hid ((HB10.out.grown g8 (by simp; omega) (fun q hq => (OT.out.lt q hq).1)).grown g10 (by have := g8.size; simp at this; omega) (fun q hq => (o8.lt q hq).1))
              have O10 := Lib.hid o10
              clear o8 g8 o10 g10
              have hlen2 : (ts ++ [xs[k]] ++ ds).length ≤ k + 1 := by simp; omega
              go_wp2
              go_roundw
              case rel => exact ⟨k + 1, ts ++ [xs[k]] ++ ds, by go_num, by omega, HZ2, hlen2, O10, HB11.out⟩
              case measure => simp [intOf]; omega
          · have HPL := Lib.hid hpl
            obtain ⟨A2, c2, hsl, S2⟩ := slice_from HO.out hp
            obtain ⟨ds, hds⟩ : ∃ ds, ds = zs.drop p := ⟨_, rfl⟩
            obtain ⟨ts, hts⟩ : ∃ ts, ts = zs.take p := ⟨_, rfl⟩
            have hto := fun W => slice_to HO.out hp W
            have OT := Lib.hid (OwnS.take HO.out hp)
            have hdl : zs.length - p = ds.length := by rw [hds, List.length_drop]
            have htl : ts.length = p := by rw [hts, List.length_take]; omega
            have hdn : ds.length ≤ zs.length := by omega
            have hn9 : ts.length + ds.length ≤ zs.length := by omega
            rw [hdl] at hsl
            rw [← hds] at S2
            rw [← hts] at OT
            have HZ2 : Hid (ts ++ [xs[k]] ++ ds = sortU (xs.take (k + 1))) := Lib.hid (by rw [hts, hds]; exact insert_at hlt HZ.out HNM.out hp HL.out (fun q => absurd q HPL.out))
            have HS2 := Lib.hid S2
            have HTL := Lib.hid htl
            clear hds hts hdl S2 htl
            go_wp2
            go_quiet ((go_at_call 41; first | exact Calls.quiet_of (CC' _).out | exact quiet_add (CC' _).out))
            go_wp2_with (at_builtin; refine wpList_spread _ rfl _ _ rfl wr.heap.size _ [] rfl (OwnS.lit _ wr.heap.size (by simp)) wr.heap.size A2 c2 ds rfl (HS2.out.below (((Dr.one wr _).below _).alloc (by simp) _)) (by simp; omega) (by simp) ?_)
            intro v6 w9 o6 g6
            have b9 : Below wr.heap.size wr w9 := (((Dr.one wr _).below _).alloc (by simp) _).grown g6 (by simp) (fun q hq => by simp [Value.ownBlock] at hq; omega)
            obtain ⟨A6, c6, rfl, s6, hb6, _⟩ := o6.form
            have O6 := Lib.hid o6
            have OT9 := Lib.hid (OT.out.below b9)
            have hx9 : w9.cell? ⟨b, o + k, none⟩ = some (str xs[k]) := (b9.cell (p := ⟨b, o + k, none⟩) (Nat.lt_of_lt_of_le hbb hb.size)).trans hx
            have B9 := Lib.hid b9
            clear o6 g6 s6 hb6 b9 hx
            go_wp2
            have hts : ts.length ≤ zs.length := by omega
            have hb10 : w.heap.size ≤ w9.heap.size := Nat.le_trans hb.size B9.out.size
            have bel := (Below.refl w9.heap.size w9).drew.alloc (Nat.le_refl _) (.cells #[str xs[k]] 9)
            have HB10 := Lib.hid ((hb.trans (B9.out.mono hb.size)).drew.alloc hb10 (.cells #[str xs[k]] 9))
            have BEL := Lib.hid bel
            clear bel
            go_region_law (first
              | (refine step_spread rfl _ _ rfl w.heap.size _ ts rfl (OT9.out.below BEL.out) (w9.heap.size + 1) _ 1 1 [xs[k]] rfl rfl (one_strs w9.drew xs[k]) (by simp; omega) (by simp; omega) ?_; intro v8 w8 o8 g8)
              | (refine step_spread rfl _ _ rfl w.heap.size v8 _ rfl o8 _ A6 ds.length c6 ds rfl rfl ((O6.out.below BEL.out).beside g8 (fun q hq => (OT.out.lt q hq).2)).strs (by simp; omega) (by have := g8.size; simp at this; omega) ?_; intro v10 w10 o10 g10))
            have HB11 := Lib.hid ((HB10.out.grown g8 (by simp; omega) (fun q hq => (OT.out.lt q hq).1)).grown g10 (by have := g8.size; simp at this; omega) (fun q hq => (o8.lt q hq).1))
            have O10 := Lib.hid o10
            clear o8 g8 o10 g10
            have hlen2 : (ts ++ [xs[k]] ++ ds).length ≤ k + 1 := by simp; omega
            go_wp2
            go_roundw
            case rel => exact ⟨k + 1, ts ++ [xs[k]] ++ ds, by go_num, by omega, HZ2, hlen2, O10, HB11.out⟩
            case measure => simp [intOf]; omega
    · have hks : k = xs.length := by omega
      subst hks
      have HE2 : Hid (zs = sortU xs) := Lib.hid (by rw [HZ.out, List.take_of_length_le (Nat.le_refl _)])
      go_wp2
      go_ret
      exact ⟨_, rfl, by rw [← HE2.out]; exact HO.out, hb⟩
end Go.Proofs.YtmhilhdmbbdnaaaDoor.HL
