/-
  WALK: the law's from: what From goes over, gathered in two rows.
-/
import Derived.Test.YtpdhfogmdhnoeaaIRegion
namespace Go.Proofs.Ytpdhfogmdhnoeaa.IX
open Go.RowKit HL
set_option maxRecDepth 100000
set_option linter.unusedVariables false
set_option linter.unusedSimpArgs false
attribute [local go_sem] Oper.semAt_some

theorem run_seq_nil (W : World) (f : Fn) (cs : Array Value) : (binOp .eql 46 (.func f #[] cs) Value.nilFunc).run Try.prog W = .ok (.bool false) W := by
  have h : ∀ d : Nat, (Op.equalIn (d + 1) 46 (.func f #[] cs) Value.nilFunc).run Try.prog W = .ok false W := fun d => by
    simp [Op.equalIn, run_underlying Try.underlying46, Value.nilFunc]
  simp only [binOp]
  simp [Op.equal, Op.maxDepth, h 9999]
/-- Two boxed rows of one's own: what has come. -/
def Two (Bh Bn base : Nat) (pre : List Rw) (W : World) : Prop := ∃ v1 v2, Boxed W Bh 27 v1 ∧ Boxed W Bn 28 v2 ∧ OwnK strK W base v1 (keys pre) ∧ OwnK intK W base v2 (nums pre)
theorem boxed_far {W : World} {B : Nat} {t : TypeId} {v : Value} (h : Boxed W B t v) {r : Option Nat} (hr : ∀ k, r = some k → ∃ o : Obj, W.heap[k]? = some o ∧ o.isCells = false) : some B ≠ r := fun e => by
  obtain ⟨o, ho, hc⟩ := hr B e.symm
  have h : W.heap[B]? = some (Obj.cells #[v] t (0, 0)) := h
  rw [h] at ho
  cases ho
  cases hc
theorem own_far {α : Type} {K : El α} {W : World} {base : Nat} {v : Value} {l : List α} (h : OwnK K W base v l) {r : Option Nat} (hr : ∀ k, r = some k → ∃ o : Obj, W.heap[k]? = some o ∧ o.isCells = false) : v.ownBlock = none ∨ v.ownBlock ≠ r := by
  cases e : v.ownBlock with
  | none => exact .inl rfl
  | some g =>
    refine .inr fun e2 => ?_
    obtain ⟨o, ho, hc⟩ := hr g e2.symm
    rcases h.2 with ⟨rfl, _⟩ | ⟨g', cap, cur, rfl, _, hh, _⟩
    · simp [Value.ownBlock] at e
    · simp only [Value.ownBlock, Option.some.injEq] at e
      subst e
      rw [hh] at ho
      cases ho
      cases hc
theorem two_own (Bh Bn base B : Nat) : OwnFrom B (Two Bh Bn base) := fun s W W' row ⟨v1, v2, h1, h2, h3, h4⟩ hg hr =>
  have hr' : ∀ k, row = some k → ∃ o : Obj, W.heap[k]? = some o ∧ o.isCells = false := fun k e => (hr k e).2
  ⟨v1, v2, h1.kept hg (boxed_far h1 hr'), h2.kept hg (boxed_far h2 hr'), World.ownsRow.kept h3 hg (own_far h3 hr'), World.ownsRow.kept h4 hg (own_far h4 hr')⟩
theorem keepsOthers_of {W W' : World} {P : Nat → Prop} (h : Kept W W' P) (hp : ∀ k o, W.heap[k]? = some o → o.isCells = false → P k) : KeepsOthers W W' :=
  ⟨h.size, fun k o hk ho => (h.block k (Array.getElem?_eq_some_iff.1 hk).1 (hp k o hk ho)).trans hk⟩
set_option maxHeartbeats 8000000 in
theorem from_in (B : Nat) (v : Value) (l : List Rw) (h : Bs) (w : World) (hA : IxAt w B v l) (hn : l.length ≤ 300) :
    CallsIn Fence.wide 9 Try.prog 24 #[ptr B, str h] w fun e w' => ∃ v1 v2, e = .returned (.tuple #[v1, v2, .bool true]) ∧ OwnK strK w' w.heap.size v1 (keys (l.drop (plc l h))) ∧ OwnK intK w' w.heap.size v2 (nums (l.drop (plc l h))) ∧ Below w.heap.size w w' := by
  have hF : Fence.wide.fn 24 := trivial
  have hF1 : Fence.wide.fn 20 := trivial
  have hF3 : Fence.wide.fn 51 := trivial
  have CF := Lib.hid (from_any B v l h w hA (by omega))
  have HN := run_seq_nil
  have hdl : (l.drop (plc l h)).length ≤ 300 := by rw [List.length_drop]; omega
  clear hA
  generalize l.drop (plc l h) = d at *
  refine callsIn_of_wp_marks Try.func24 rfl hF ?_ rfl
  simp only [Try.ntmps24, List.size_toArray, List.length_cons, List.length_nil, Nat.reduceAdd, Nat.reduceSub, Array.replicate_succ, Array.replicate_zero, List.push_toArray, List.append_toArray, List.nil_append, List.cons_append]
  gi_wp2_with (gi_at_call 20; refine (callsIn_wide.2 CF.out).mono ?_; rintro e w1 ⟨Bb, A, c, rfl, it, k1⟩; have IT := Lib.hid it; clear it)
  have bH0 := Boxed.new w1 27 (.slice none 0 0)
  have bN := Boxed.new (w1.alloc (.cells #[.slice none 0 0] 27)) 28 (.slice none 0 0)
  have bH := bH0.alloc (.cells #[.slice none 0 0] 28)
  have hB1 : Below w1.heap.size w1 ((w1.alloc (.cells #[.slice none 0 0] 27)).alloc (.cells #[.slice none 0 0] 28)) := ((Below.refl _ w1).alloc (Nat.le_refl _) _).alloc (by simp) _
  have hsz : ((w1.alloc (.cells #[.slice none 0 0] 27)).alloc (.cells #[.slice none 0 0] 28)).heap.size = w1.heap.size + 2 := by simp
  simp only [World.size_alloc] at bN
  clear bH0
  obtain ⟨W0, hW0⟩ : ∃ W0, (w1.alloc (.cells #[.slice none 0 0] 27)).alloc (.cells #[.slice none 0 0] 28) = W0 := ⟨_, rfl⟩
  rw [hW0] at bH bN hB1 hsz ⊢
  clear hW0
  have hBb : Bb < w1.heap.size := IT.out.box.lt
  have hAb : ∀ a, A = some a → a.block < w1.heap.size := fun a e => (IT.out.own.lt a.block (by rw [e]; rfl)).2
  have hseq := each_stops Fence.wide (9 - 1) hF3 rfl (by omega) Bb A c d W0 ((hB1.cell (p := ⟨Bb, 0, none⟩) hBb).trans IT.out.box.cell) (by omega) (((OwnK.below IT.out.own hB1).form).elim fun A' ⟨c', e, r, _⟩ => by cases e; exact r) (by omega)
  have hz1 := k1.size
  refine wpIn_rangeFunc_ownG rfl (by omega) (gf := 51) (lb := #[.pointer (some ⟨Bb, 0, none⟩)]) rfl hF3 (enters_of Try.func51 (by kernel_rfl) rfl)
    hseq (fun h k => h.t k) (keepA_b (w := W0) (fun a e => by have := hAb a e; omega)) (Below.refl _ _) (fun _ => rfl)
    (fun pre W => Two w1.heap.size (w1.heap.size + 1) (w1.heap.size + 2) pre W ∧ Below w1.heap.size w1 W)
    (fun _ _ _ => False)
    (OwnFrom.and (two_own _ _ _ _) (ownFrom_below (Nat.le_refl _) (by omega)))
    (fun _ _ _ _ _ h _ _ => h)
    ⟨⟨_, _, bH, bN, OwnK.nil_ _ _ _, OwnK.nil_ _ _ _⟩, hB1⟩
    (fun x => { tmps := #[ptr B, str h, undef, undef, .slice none 0 0, .slice none 0 0, .bool false, .func (.func 51) #[] #[.pointer (some ⟨Bb, 0, none⟩)], ptr w1.heap.size, ptr (w1.heap.size + 1), str x.1, .int .i64 x.2, ptr B, str h, .func (.func 51) #[] #[.pointer (some ⟨Bb, 0, none⟩)], .func (.func 51) #[] #[.pointer (some ⟨Bb, 0, none⟩)], .bool false, .func (.func 51) #[] #[.pointer (some ⟨Bb, 0, none⟩)], str x.1, .int .i64 x.2, undef, undef, undef, undef, undef, undef, undef, undef, undef, undef, undef, undef, undef], defers := [] }) ?assign ?body ?done ?stop
  case assign =>
    intro l x W K hK
    gi_wp2
    exact hK
  case body =>
    rintro l' pre x W ⟨⟨v1, v2, b1, b2, o1, o2⟩, hB⟩ hlt
    have hszW : w1.heap.size + 1 + 1 ≤ W.heap.size := b2.lt
    have HB := Lib.hid hB
    have B1 := Lib.hid b1
    have B2 := Lib.hid b2
    have O1 := Lib.hid o1
    have O2 := Lib.hid o2
    clear hseq bH bN hB1 b1 b2 o1 o2 hB CF
    gi_wp2
    refine wpIn_region_any (by kernel_rfl) ?_
    refine two_appends (Bh := w1.heap.size) (Bn := w1.heap.size + 1) (x := x.1) (y := x.2) (base := w1.heap.size + 2) (v1 := v1) (v2 := v2) (L1 := keys pre) (L2 := nums pre)
      (mk := fun s0 s1 s2 s3 s4 s5 s6 s7 => { tmps := #[ptr B, str h, undef, undef, .slice none 0 0, .slice none 0 0, .bool false, .func (.func 51) #[] #[.pointer (some ⟨Bb, 0, none⟩)], ptr w1.heap.size, ptr (w1.heap.size + 1), str x.1, .int .i64 x.2, ptr B, str h, .func (.func 51) #[] #[.pointer (some ⟨Bb, 0, none⟩)], .func (.func 51) #[] #[.pointer (some ⟨Bb, 0, none⟩)], .bool false, .func (.func 51) #[] #[.pointer (some ⟨Bb, 0, none⟩)], str x.1, .int .i64 x.2, s0, s1, s2, s3, s4, s5, s6, s7, undef, undef, undef, undef, undef], defers := [] })
      ?O ?R W.drew (by rw [keys_len]; omega) (by rw [nums_len]; omega) (by show _ ≤ W.heap.size; omega) ?FIN 10 false false false false false false false false false false _ _ _ _ _ _ _ _ W.drew (by decide) (by decide) ?HA ?HB (Kept.refl _ _)
    case O => exact ⟨⟨_, rfl, rfl, rfl, rfl⟩, ⟨_, rfl, rfl, rfl, rfl⟩, ⟨_, rfl, rfl, rfl, rfl⟩, ⟨_, rfl, rfl, rfl, rfl⟩, ⟨_, rfl, rfl, rfl, rfl⟩, ⟨_, rfl, rfl, rfl, rfl⟩, ⟨_, rfl, rfl, rfl, rfl⟩, ⟨_, rfl, rfl, rfl, rfl⟩, ⟨_, rfl, rfl, rfl, rfl⟩, ⟨_, rfl, rfl, rfl, rfl⟩, by decide +kernel, by decide +kernel, by kernel_rfl⟩
    case R => constructor <;> intros <;> rfl
    case HA => exact ⟨fun e => by simp at e, fun e => by simp at e, fun e => by simp at e, fun _ => O1.out, fun e => by simp at e, fun _ => B1.out, fun e => by simp at e⟩
    case HB => exact ⟨fun e => by simp at e, fun e => by simp at e, fun e => by simp at e, fun _ => O2.out, fun e => by simp at e, fun _ => B2.out, fun e => by simp at e⟩
    case FIN =>
      intro s0 s1 s2 s3 s4 s5 s6 s7 w2 n1 n2 p1 p2 kk
      have hkl : (keys pre ++ [x.1]).length = pre.length + 1 := by simp [keys_len]
      obtain ⟨A3, c3, e3, _, _, _⟩ := p1.form
      rw [hkl] at e3
      subst e3
      have q1 := n1.cell
      have hlt3 : (pre.length : Int) + 1 ≤ 300 := by omega
      have hP : ∀ k, k ≠ w1.heap.size → k ≠ w1.heap.size + 1 → (k < w1.heap.size + 2 ∨ ∃ o : Obj, W.heap[k]? = some o ∧ o.isCells = false) → v1.ownBlock ≠ some k ∧ v2.ownBlock ≠ some k := by
        intro k _ _ h
        rcases h with h | h
        · exact ⟨fun e => by have := (O1.out.lt k e).1; omega, fun e => by have := (O2.out.lt k e).1; omega⟩
        · have hr : ∀ j, some k = some j → ∃ o : Obj, W.heap[j]? = some o ∧ o.isCells = false := fun j e => by cases e; exact h
          exact ⟨fun e => (own_far O1.out hr).elim (fun e2 => by rw [e] at e2; cases e2) (fun e2 => e2 e), fun e => (own_far O2.out hr).elim (fun e2 => by rw [e] at e2; cases e2) (fun e2 => e2 e)⟩
      have hKO : KeepsOthers W w2 := keepsOthers_of (W := W) (P := fun k => k ≠ w1.heap.size ∧ k ≠ w1.heap.size + 1 ∧ v1.ownBlock ≠ some k ∧ v2.ownBlock ≠ some k) ⟨kk.os, kk.tape, kk.output, kk.size, kk.block⟩ (fun k o hk ho => by
        have h1 : k ≠ w1.heap.size := fun e => by
          subst e
          have b := B1.out
          have b : W.heap[w1.heap.size]? = some (Obj.cells #[v1] 27 (0, 0)) := b
          rw [hk] at b; cases b; cases ho
        have h2 : k ≠ w1.heap.size + 1 := fun e => by
          subst e
          have b := B2.out
          have b : W.heap[w1.heap.size + 1]? = some (Obj.cells #[v2] 28 (0, 0)) := b
          rw [hk] at b; cases b; cases ho
        exact ⟨h1, h2, hP k h1 h2 (.inr ⟨o, hk, ho⟩)⟩)
      have hBW : Below w1.heap.size W w2 := ⟨kk.os, kk.tape, kk.output, kk.size, fun k hk => kk.block k (by show k < W.heap.size; omega) ⟨by omega, by omega, hP k (by omega) (by omega) (.inl (by omega))⟩⟩
      have hKA : KeepA A W w2 := fun a e => hBW.block _ (hAb a e)
      have HKO := Lib.hid hKO
      have HBW := Lib.hid (HB.out.trans hBW)
      have HKA := Lib.hid hKA
      have HT : Hid (Two w1.heap.size (w1.heap.size + 1) (w1.heap.size + 2) (pre ++ [x]) w2) := Lib.hid ⟨_, _, n1, n2, by simpa [keys] using p1, by simpa [nums] using p2⟩
      clear hKO hBW hKA hP kk n1 n2 p1 p2 hkl
      change Exit.then _ _ _ { tmps := #[ptr B, str h, undef, undef, .slice none 0 0, .slice none 0 0, .bool false, .func (.func 51) #[] #[.pointer (some ⟨Bb, 0, none⟩)], ptr w1.heap.size, ptr (w1.heap.size + 1), str x.1, .int .i64 x.2, ptr B, str h, .func (.func 51) #[] #[.pointer (some ⟨Bb, 0, none⟩)], .func (.func 51) #[] #[.pointer (some ⟨Bb, 0, none⟩)], .bool false, .func (.func 51) #[] #[.pointer (some ⟨Bb, 0, none⟩)], str x.1, .int .i64 x.2, s0, s1, s2, .slice A3 (pre.length + 1) c3, s4, s5, s6, s7, undef, undef, undef, undef, undef], defers := [] } _
      gi_wp2
      exact ⟨HKO.out.from _, HKA.out, HT.out, HBW.out⟩
  case done =>
    rintro D ys W hD rfl ⟨⟨v1, v2, b1, b2, o1, o2⟩, hB⟩ hK
    have HB := Lib.hid hB
    have O1 := Lib.hid o1
    have O2 := Lib.hid o2
    have c1 := b1.cell
    have c2 := b2.cell
    clear hseq bH bN hB1 hB o1 o2 CF
    gi_wp2
    refine wpIn_wide.2 ?_
    go_quiet (fail)
    gi_wp2
    have hK' : (W.drewN nq).heap[D]? = some (.deferred (some [])) := hK
    refine ⟨by simp, .inl ⟨_, _, rfl, run_takeDeferred hK', ?_⟩⟩
    have hb : Below w.heap.size w (W.drewN nq) := (k1.trans (HB.out.mono hz1)).trans ⟨rfl, rfl, rfl, Nat.le_refl _, fun _ _ => rfl⟩
    have o1' : OwnK strK (W.drewN nq) (w1.heap.size + 2) v1 (keys ys) := O1.out
    have o2' : OwnK intK (W.drewN nq) (w1.heap.size + 2) v2 (nums ys) := O2.out
    refine ⟨_, results_tmp3 rfl _ _ _, _, _, rfl, (o1'.putObj (.deferred none) hK' rfl).base (by omega), (o2'.putObj (.deferred none) hK' rfl).base (by omega), hb.trans (belowK_b (w := w) (Nat.le_refl _) _ D _ _ (by omega) hK' rfl rfl)⟩
  case stop =>
    rintro D c pre W hD hpre h hK
    exact h.elim
theorem lawFrom_any (B : Nat) (v : Value) (l : List Rw) (h : Bs) (w : World) (hA : IxAt w B v l) (hn : l.length ≤ 300) :
    Calls Try.prog 24 #[ptr B, str h] w fun e w' => ∃ v1 v2, e = .returned (.tuple #[v1, v2, .bool true]) ∧ OwnK strK w' w.heap.size v1 (keys (l.drop (plc l h))) ∧ OwnK intK w' w.heap.size v2 (nums (l.drop (plc l h))) ∧ Below w.heap.size w w' := callsIn_wide.1 (from_in B v l h w hA hn)
end Go.Proofs.Ytpdhfogmdhnoeaa.IX
