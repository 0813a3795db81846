/-
  'append(own, xs...)' over rows of texts, whatever the source (nil, empty, any); WALK: the document's Merge, out of what is said of its Sort.
-/
import Derived.Test.YtlbeaofnolaooaaHRefWithout
import Derived.Laws.OwnMore
import Derived.Laws.AppendOwnNone
namespace Go.Proofs.Ytlbeaofnolaooaa
open Go.RowKit
set_option maxRecDepth 100000
set_option linter.unusedVariables false
set_option linter.unusedSimpArgs false

theorem str_cells (ys : List Bs) : ∀ u ∈ ys.map str, u.oneCell' = true := by
  intro u hu
  obtain ⟨y, _, rfl⟩ := List.mem_map.1 hu
  rfl
theorem run_spread_none {P : Program} (t ty e : TypeId) (i : TypeInfo) (ht : P.underlying t = some (.slice e)) (hi : P.info? e = some i) {w : World} {base size : Nat} {v : Value} {n : Nat} {xs : List Value} (hown : w.ownsRow base e size v n xs) (c : Nat) :
    (Builtin.append_ #[t, t] ty #[v, .slice none 0 c]).run P w = .ok v w := by
  cases hown.2 with
  | inl q =>
    obtain ⟨e1, e2⟩ := q
    rw [e1]
    simp [Builtin.append_, run_underlying ht, sizeOf, typeInfo, hi, Builtin.lenOf, Builtin.firstCells]
  | inr q =>
    obtain ⟨g, cap, cur, e1, _, _, hnc, _⟩ := q
    rw [e1]
    simp [Builtin.append_, run_underlying ht, sizeOf, typeInfo, hi, Builtin.lenOf, Builtin.firstCells, hnc, storeCells]

theorem wpList_spread {ops : Array Oper} {rest : List Oper} {o : Oper} {a : Act} {Q : Exit → Act → World → Prop} (w : World) (hgd : o.guard = none) (s x : Operand)
    (ho : o.op = .call { callee := .builtin .append, args := #[s, x], argTypes := #[25, 25] }) (base : Nat) (v : Value) (xs : List Bs) (hs : a.eval s = v) (hown : OwnS w base v xs)
    (B : Nat) (A : Option Addr) (c : Nat) (ys : List Bs) (hx : a.eval x = .slice A ys.length c) (hr : Strs w B A ys) (hl : xs.length + ys.length ≤ 1000000) (hbase : base ≤ w.heap.size)
    (h : ∀ v' w', OwnS w' base v' (xs ++ ys) → w.grownBy w' v.ownBlock → wpList Try.prog ops Q rest (a.put o.dst v') w') : wpList Try.prog ops Q (o :: rest) a w := by
  obtain ⟨i0, hi, hz0, hz1, hz2⟩ := info_parts info_str
  have hcat : ∀ v' w', w'.ownsRow base 9 1 v' (xs.length + ys.length) (xs.map str ++ ys.map str) → OwnS w' base v' (xs ++ ys) := fun v' w' q => by
    unfold OwnS
    simpa using q
  cases A with
  | none =>
    have hy : ys = [] := by
      rcases hr with q | ⟨_, _, q, _⟩
      · exact q
      · cases q
    subst hy
    refine wpList_plain hgd fun K hK => ?_
    have hrun := run_spread_none 25 o.type 9 i0 Try.underlying25 hi hown c
    unfold Oper.wp
    simp [execOp, ho, resolve, invoke, builtin, hs, hx, hrun, Result.andThen]
    exact hK _ _ (h v w (by rw [List.append_nil]; exact hown) (World.grownBy.refl _ _))
  | some ad =>
    refine wpList_append_own w hgd s x 25 ho base 9 i0 (.string ByteArray.empty) 1 16 Try.underlying25 hi hz0 hz1 hz2 rfl (by decide) v xs.length _ hs hown ad ys.length c (ys.map str) hx (by simp) ?_ (str_cells ys) (by unfold maxLen; omega) (by omega) hbase (fun v' w' q g _ => h v' w' (hcat v' w' q) g)
    intro j u hu
    rw [List.getElem?_map] at hu
    obtain ⟨y, hy, rfl⟩ := Option.map_eq_some_iff.1 hu
    rcases hr with q | ⟨b, off, e, _, hc⟩
    · rw [q] at hy; cases hy
    · cases e
      rw [show (⟨b, off, none⟩ : Addr).add j = ⟨b, off + j, none⟩ by unfold Addr.add; split <;> simp_all]
      exact hc j y hy
theorem OwnS.lit (w : World) (base : Nat) (hb : base ≤ w.heap.size) : OwnS (w.alloc (.cells #[] 9)) base (.slice (some ⟨w.heap.size, 0, none⟩) 0 0) [] := World.ownsRow_lit w #[] 0 hb (Nat.zero_le _) rfl

set_option maxHeartbeats 2000000 in
theorem refMerge_any (CS : RefSortSaid) (A1 A2 : Option Addr) (c1 c2 : Nat) (xs ys : List Bs) (w : World) (h1 : Strs w w.heap.size A1 xs) (h2 : Strs w w.heap.size A2 ys) (hn : xs.length ≤ 100) (hm : ys.length ≤ 100) (he1 : ∀ x ∈ xs, x.length ≤ 100) (he2 : ∀ x ∈ ys, x.length ≤ 100) :
    Calls Try.prog 24 #[.slice A1 xs.length c1, .slice A2 ys.length c2] w fun e w' => ∃ v, e = .returned v ∧ OwnS w' w.heap.size v (sortU (xs ++ ys)) ∧ Below w.heap.size w w' := by
  have HCS := Lib.hid CS
  have HE : Hid (∀ x ∈ xs ++ ys, x.length ≤ 100) := Lib.hid (fun x hx => (List.mem_append.1 hx).elim (he1 x) (he2 x))
  clear he1 he2
  have b0 : Below w.heap.size w (w.alloc (.cells #[] 9)) := (Below.refl _ w).alloc (Nat.le_refl _) _
  have O0 := Lib.hid (OwnS.lit w w.heap.size (Nat.le_refl _))
  have H1 := Lib.hid (h1.below b0)
  have H2 := Lib.hid h2
  have hz0 : w.heap.size ≤ (w.alloc (.cells #[] 9)).heap.size := b0.size
  have HB0 := Lib.hid b0
  have HZ0 := Lib.hid hz0
  clear CS h1 h2 b0 hz0
  go_enter Try.func24, Try.ntmps24
  go_wp2_with (at_builtin; refine wpList_spread _ rfl _ _ rfl w.heap.size _ [] rfl O0.out _ A1 c1 xs rfl H1.out ?d1 HZ0.out ?_)
  case d1 => simp; omega
  intro v1 w1 o1 g1
  have b1 : Below w.heap.size w w1 := HB0.out.grown g1 HZ0.out (fun k hk => (O0.out.lt k hk).1)
  have H2b := Lib.hid (H2.out.below b1)
  have O1 := Lib.hid o1
  clear o1 g1
  go_wp2_with (at_builtin; refine wpList_spread _ rfl _ _ rfl w.heap.size _ xs rfl O1.out _ A2 c2 ys rfl H2b.out ?d2 b1.size ?_)
  case d2 => omega
  intro v2 w2 o2 g2
  have b2 : Below w.heap.size w w2 := b1.grown g2 b1.size (fun k hk => (World.ownsRow.lt (show w1.ownsRow _ _ _ _ _ _ from O1.out) k hk).1)
  obtain ⟨A, c, rfl, s2, _, _⟩ := o2.form
  have q2 := HCS.out A c (xs ++ ys) w2 s2 (by rw [List.length_append]; omega) HE.out
  rw [List.length_append] at q2 ⊢
  have C2 := Lib.hid q2
  clear o2 g2 s2 b1 O1 q2
  go_wp2_with (go_at_call 23; refine C2.out.mono ?_; rintro e w3 ⟨v3, rfl, o3, b3⟩; have O3 := Lib.hid o3; clear o3)
  go_ret
  exact ⟨_, rfl, O3.out.base b2.size, b2.trans (b3.mono b2.size)⟩
end Go.Proofs.Ytlbeaofnolaooaa
