/-
  WALKS: All and the statements' from over whatever index whose rows are told (made by wip/gen_inil.py out of XIAll and XIFrom).
-/
import Derived.Test.YtpdhfogmdhnoeaaIFrom
import Derived.Test.YtpdhfogmdhnoeaaIAll
namespace Go.Proofs.Ytpdhfogmdhnoeaa.IX
open Go.RowKit HL
set_option maxRecDepth 100000
set_option linter.unusedVariables false
set_option linter.unusedSimpArgs false
attribute [local go_sem] Oper.semAt_some

set_option maxHeartbeats 4000000 in
theorem all_inG (pv : Value) (A : Option Addr) (c : Nat) (l : List Rw) (w : World) (rd : RdK rowK w w.heap.size A l) (hAb : ∀ a, A = some a → a.block < w.heap.size) (CH : Hid (∀ W, Below w.heap.size w W → Calls Try.prog 43 #[pv] W fun e w' => e = .returned (.slice A l.length c) ∧ W = w')) (hn : l.length ≤ 1000000) :
    CallsIn Fence.wide 9 Try.prog 19 #[pv] w fun e w' => ∃ v', e = .returned v' ∧ OwnK strK w' w.heap.size v' (keys l) ∧ Below w.heap.size w w' := by
  have hF : Fence.wide.fn 19 := trivial
  have hF1 : Fence.wide.fn 42 := trivial
  have hF2 : Fence.wide.fn 43 := trivial
  have hF3 : Fence.wide.fn 51 := trivial
  have CE := Lib.hid (each_any (.slice A l.length c) A _ c rfl)
  have RD := Lib.hid rd
  obtain ⟨i0, hi, hz0, hz1, hz2⟩ := info_parts info_str
  clear rd
  refine callsIn_of_wp_marks Try.func19 rfl hF ?_ rfl
  simp only [Try.ntmps19, List.size_toArray, List.length_cons, List.length_nil, Nat.reduceAdd, Nat.reduceSub, Array.replicate_succ, Array.replicate_zero, List.push_toArray, List.append_toArray, List.nil_append, List.cons_append]
  gi_wp2_with (first
    | (gi_at_call 43; refine (callsIn_wide.2 (CH.out _ ((Below.refl _ _).alloc (Nat.le_refl _) _))).mono ?_; rintro e w1 ⟨rfl, rfl⟩)
    | (gi_at_call 42; refine (callsIn_wide.2 (CE.out _)).mono ?_; rintro e w1 ⟨rfl, rfl⟩))
  have bL0 := Boxed.new w 27 (.slice none 0 0)
  have bS := Boxed.new (w.alloc (.cells #[.slice none 0 0] 27)) 50 (.slice A l.length c)
  have bL := bL0.alloc (.cells #[.slice A l.length c] 50)
  have hB0 : Below w.heap.size w ((w.alloc (.cells #[.slice none 0 0] 27)).alloc (.cells #[.slice A l.length c] 50)) := ((Below.refl _ w).alloc (Nat.le_refl _) _).alloc (by simp) _
  have hsz : ((w.alloc (.cells #[.slice none 0 0] 27)).alloc (.cells #[.slice A l.length c] 50)).heap.size = w.heap.size + 2 := by simp
  simp only [World.size_alloc] at bS
  clear bL0
  obtain ⟨W0, hW0⟩ : ∃ W0, (w.alloc (.cells #[.slice none 0 0] 27)).alloc (.cells #[.slice A l.length c] 50) = W0 := ⟨_, rfl⟩
  rw [hW0] at bS bL hB0 hsz ⊢
  clear hW0
  have hseq := each_stops Fence.wide (9 - 1) hF3 rfl (by omega) (w.heap.size + 1) A c l W0 bS.cell (by omega) ((RD.out.below hB0).more (by omega)) hn
  refine wpIn_rangeFunc_ownG rfl (by omega) (gf := 51) (lb := #[.pointer (some ⟨w.heap.size + 1, 0, none⟩)]) rfl hF3 (enters_of Try.func51 (by kernel_rfl) rfl)
    hseq (fun h k => h.t k) (keepA_b (w := W0) (fun a e => by have := hAb a e; omega)) (Below.refl _ _) (fun _ => rfl)
    (fun pre W => (∃ v, Boxed W w.heap.size 27 v ∧ W.ownsRow (w.heap.size + 2) 9 1 v pre.length (pre.map fun x => str x.1) ∧ True) ∧ Boxed W (w.heap.size + 1) 50 (.slice A l.length c) ∧ Below w.heap.size w W)
    (fun _ _ _ => False)
    (OwnFrom.and (Own.from (holdsRow_own (w.heap.size + 2) w.heap.size 27 9 1 (fun pre : List Rw => pre.length) (fun pre => pre.map fun x => str x.1) (fun pre v => True)) _) (OwnFrom.and (Own.from (boxed_own _ _ (fun _ => .slice A l.length c)) _) (ownFrom_below (Nat.le_refl _) (by omega))))
    (fun _ _ _ _ _ h _ _ => h)
    ⟨⟨_, bL, World.ownsRow_nil _ _ _ _, trivial⟩, bS, hB0⟩
    (fun x => { tmps := #[pv, undef, .slice none 0 0, .pointer (some ⟨w.heap.size, 0, none⟩), str x.1, pv, .slice A l.length c, .func (.func 51) #[] #[.pointer (some ⟨w.heap.size + 1, 0, none⟩)], str x.1, .int .i64 x.2, undef, undef, undef, undef, undef], defers := [] }) ?assign ?body ?done ?stop
  case assign =>
    intro l x W K hK
    gi_wp2
    exact hK
  case body =>
    rintro l' pre x W ⟨⟨v, hv, hrow, _⟩, hS, hB⟩ hlt
    have hN1 : pre.length ≤ 1000001 := Nat.le_trans (Nat.le_of_lt hlt) (by omega)
    have hc1 := hv.cell
    have hszW : w.heap.size + 1 + 1 ≤ W.heap.size := hS.lt
    have HBW := Lib.hid hB
    have HS := Lib.hid hS
    clear hseq bS bL hB0 hS hB CH CE
    gi_wp2_with (gi_at_builtin; go_loud (refine wpListIn_append_own _ rfl _ _ 27 rfl (w.heap.size + 2) 9 i0 (.string ByteArray.empty) 1 16 Try.underlying27 hi hz0 hz1 hz2 rfl (by decide) _ pre.length (pre.map fun x => str x.1) rfl (hrow.alloc _) ⟨W.heap.size, 0, none⟩ 1 1 [str x.1] rfl rfl (cell_one_new _ _ _) (by simp [Value.oneCell']) (Nat.le_trans (Nat.add_le_add_right hN1 1) (by unfold maxLen; decide)) (Nat.le_trans (Nat.mul_le_mul_right 16 (Nat.add_le_add_right hN1 1)) (by decide)) (by simp; omega) ?_); intro v' w1 hown' hgrow _; obtain ⟨g', cap', rfl⟩ := ownsRow_succ hown'; go_loud (obtain ⟨hva, hv2, hr2, hk2, hb2⟩ := hv.appended (by decide) (own_mono hrow (base' := w.heap.size) (by omega)) (by omega) (by omega) (own_mono hown' (base' := w.heap.size) (by omega)) hgrow); have hc2 := hva.cell; have hf2 := hva.frozen)
    have hne : ∀ k, k < w.heap.size + 2 → some k ≠ v.ownBlock := fun k hk e' => by have := (hrow.lt k e'.symm).1; omega
    have hS2 : Boxed _ _ _ _ := ((HS.out.alloc (.cells #[str x.1] 9)).kept hgrow (hne _ (by omega))).other (show w.heap.size + 1 ≠ w.heap.size by omega) (.slice (some ⟨g', 0, none⟩) (pre.length + 1) cap')
    have hown2 := hown'.kept (grownBy_setCell' w1 w.heap.size (.slice (some ⟨g', 0, none⟩) (pre.length + 1) cap')) (.inr fun e => by have := (hown'.lt w.heap.size e).1; omega)
    exact ⟨hk2.from _, fun a e => hb2.block _ (hAb a e), ⟨_, hv2, by simpa using hown2, trivial⟩, hS2, HBW.out.trans hb2⟩
  case done =>
    rintro D ys W hD rfl ⟨⟨v, hv, hrow, _⟩, hS, hB⟩ hK
    have hrow2 : OwnK strK W (w.heap.size + 2) v (keys ys) := by
      unfold OwnK
      rw [str_cells, keys_len]
      unfold keys
      rw [List.map_map]
      exact hrow
    obtain ⟨A2, c2, rfl, _, _, _⟩ := hrow2.form
    have hc1 := hv.cell
    have HRow := Lib.hid hrow2
    have HBW := Lib.hid hB
    clear hrow hrow2 hB hS hseq bS bL hB0 CH CE
    gi_wp2
    refine ⟨by simp, .inl ⟨_, _, rfl, run_takeDeferred hK, ?_⟩⟩
    refine ⟨_, results_tmp rfl _ _ _, _, rfl, (HRow.out.putObj (.deferred none) hK rfl).base (by omega), HBW.out.trans (belowK_b (w := w) (Nat.le_refl _) W D _ _ (by omega) hK rfl rfl)⟩
  case stop =>
    rintro D c pre W hD hpre h hK
    exact h.elim
set_option maxHeartbeats 8000000 in
theorem from_inG (pv : Value) (d : List Rw) (h : Bs) (w : World) (CF : Hid (Calls Try.prog 20 #[pv, str h] w fun e w' => ∃ Bb A c, e = .returned (.func (.func 51) #[] #[.pointer (some ⟨Bb, 0, none⟩)]) ∧ Iter w' w.heap.size Bb A c d ∧ Below w.heap.size w w')) (hdl : d.length ≤ 300) :
    CallsIn Fence.wide 9 Try.prog 24 #[pv, str h] w fun e w' => ∃ v1 v2, e = .returned (.tuple #[v1, v2, .bool true]) ∧ OwnK strK w' w.heap.size v1 (keys d) ∧ OwnK intK w' w.heap.size v2 (nums d) ∧ Below w.heap.size w w' := by
  have hF : Fence.wide.fn 24 := trivial
  have hF1 : Fence.wide.fn 20 := trivial
  have hF3 : Fence.wide.fn 51 := trivial
  have HN := run_seq_nil
  refine callsIn_of_wp_marks Try.func24 rfl hF ?_ rfl
  simp only [Try.ntmps24, List.size_toArray, List.length_cons, List.length_nil, Nat.reduceAdd, Nat.reduceSub, Array.replicate_succ, Array.replicate_zero, List.push_toArray, List.append_toArray, List.nil_append, List.cons_append]
  gi_wp2_with (gi_at_call 20; refine (callsIn_wide.2 CF.out).mono ?_; rintro e w1 ⟨Bb, A, c, rfl, it, k1⟩; have IT := Lib.hid it; clear it)
  have bH0 := Boxed.new w1 27 (.slice none 0 0)
  have bN := Boxed.new (w1.alloc (.cells #[.slice none 0 0] 27)) 28 (.slice none 0 0)
  have bH := bH0.alloc (.cells #[.slice none 0 0] 28)
  have hB1 : Below w1.heap.size w1 ((w1.alloc (.cells #[.slice none 0 0] 27)).alloc (.cells #[.slice none 0 0] 28)) := ((Below.refl _ w1).alloc (Nat.le_refl _) _).alloc (by simp) _
  have hsz : ((w1.alloc (.cells #[.slice none 0 0] 27)).alloc (.cells #[.slice none 0 0] 28)).heap.size = w1.heap.size + 2 := by simp
  simp only [World.size_alloc] at bN
  clear bH0
  obtain ⟨W0, hW0⟩ : ∃ W0, (w1.alloc (.cells #[.slice none 0 0] 27)).alloc (.cells #[.slice none 0 0] 28) = W0 := ⟨_, rfl⟩
  rw [hW0] at bH bN hB1 hsz ⊢
  clear hW0
  have hBb : Bb < w1.heap.size := IT.out.box.lt
  have hAb : ∀ a, A = some a → a.block < w1.heap.size := fun a e => (IT.out.own.lt a.block (by rw [e]; rfl)).2
  have hseq := each_stops Fence.wide (9 - 1) hF3 rfl (by omega) Bb A c d W0 ((hB1.cell (p := ⟨Bb, 0, none⟩) hBb).trans IT.out.box.cell) (by omega) (((OwnK.below IT.out.own hB1).form).elim fun A' ⟨c', e, r, _⟩ => by cases e; exact r) (by omega)
  have hz1 := k1.size
  refine wpIn_rangeFunc_ownG rfl (by omega) (gf := 51) (lb := #[.pointer (some ⟨Bb, 0, none⟩)]) rfl hF3 (enters_of Try.func51 (by kernel_rfl) rfl)
    hseq (fun h k => h.t k) (keepA_b (w := W0) (fun a e => by have := hAb a e; omega)) (Below.refl _ _) (fun _ => rfl)
    (fun pre W => Two w1.heap.size (w1.heap.size + 1) (w1.heap.size + 2) pre W ∧ Below w1.heap.size w1 W)
    (fun _ _ _ => False)
    (OwnFrom.and (two_own _ _ _ _) (ownFrom_below (Nat.le_refl _) (by omega)))
    (fun _ _ _ _ _ h _ _ => h)
    ⟨⟨_, _, bH, bN, OwnK.nil_ _ _ _, OwnK.nil_ _ _ _⟩, hB1⟩
    (fun x => { tmps := #[pv, str h, undef, undef, .slice none 0 0, .slice none 0 0, .bool false, .func (.func 51) #[] #[.pointer (some ⟨Bb, 0, none⟩)], ptr w1.heap.size, ptr (w1.heap.size + 1), str x.1, .int .i64 x.2, pv, str h, .func (.func 51) #[] #[.pointer (some ⟨Bb, 0, none⟩)], .func (.func 51) #[] #[.pointer (some ⟨Bb, 0, none⟩)], .bool false, .func (.func 51) #[] #[.pointer (some ⟨Bb, 0, none⟩)], str x.1, .int .i64 x.2, undef, undef, undef, undef, undef, undef, undef, undef, undef, undef, undef, undef, undef], defers := [] }) ?assign ?body ?done ?stop
  case assign =>
    intro l x W K hK
    gi_wp2
    exact hK
  case body =>
    rintro l' pre x W ⟨⟨v1, v2, b1, b2, o1, o2⟩, hB⟩ hlt
    have hszW : w1.heap.size + 1 + 1 ≤ W.heap.size := b2.lt
    have HB := Lib.hid hB
    have B1 := Lib.hid b1
    have B2 := Lib.hid b2
    have O1 := Lib.hid o1
    have O2 := Lib.hid o2
    clear hseq bH bN hB1 b1 b2 o1 o2 hB CF
    gi_wp2
    refine wpIn_region_any (by kernel_rfl) ?_
    refine two_appends (Bh := w1.heap.size) (Bn := w1.heap.size + 1) (x := x.1) (y := x.2) (base := w1.heap.size + 2) (v1 := v1) (v2 := v2) (L1 := keys pre) (L2 := nums pre)
      (mk := fun s0 s1 s2 s3 s4 s5 s6 s7 => { tmps := #[pv, str h, undef, undef, .slice none 0 0, .slice none 0 0, .bool false, .func (.func 51) #[] #[.pointer (some ⟨Bb, 0, none⟩)], ptr w1.heap.size, ptr (w1.heap.size + 1), str x.1, .int .i64 x.2, pv, str h, .func (.func 51) #[] #[.pointer (some ⟨Bb, 0, none⟩)], .func (.func 51) #[] #[.pointer (some ⟨Bb, 0, none⟩)], .bool false, .func (.func 51) #[] #[.pointer (some ⟨Bb, 0, none⟩)], str x.1, .int .i64 x.2, s0, s1, s2, s3, s4, s5, s6, s7, undef, undef, undef, undef, undef], defers := [] })
      ?O ?R W.drew (by rw [keys_len]; omega) (by rw [nums_len]; omega) (by show _ ≤ W.heap.size; omega) ?FIN 10 false false false false false false false false false false _ _ _ _ _ _ _ _ W.drew (by decide) (by decide) ?HA ?HB (Kept.refl _ _)
    case O => exact ⟨⟨_, rfl, rfl, rfl, rfl⟩, ⟨_, rfl, rfl, rfl, rfl⟩, ⟨_, rfl, rfl, rfl, rfl⟩, ⟨_, rfl, rfl, rfl, rfl⟩, ⟨_, rfl, rfl, rfl, rfl⟩, ⟨_, rfl, rfl, rfl, rfl⟩, ⟨_, rfl, rfl, rfl, rfl⟩, ⟨_, rfl, rfl, rfl, rfl⟩, ⟨_, rfl, rfl, rfl, rfl⟩, ⟨_, rfl, rfl, rfl, rfl⟩, by decide +kernel, by decide +kernel, by kernel_rfl⟩
    case R => constructor <;> intros <;> rfl
    case HA => exact ⟨fun e => by simp at e, fun e => by simp at e, fun e => by simp at e, fun _ => O1.out, fun e => by simp at e, fun _ => B1.out, fun e => by simp at e⟩
    case HB => exact ⟨fun e => by simp at e, fun e => by simp at e, fun e => by simp at e, fun _ => O2.out, fun e => by simp at e, fun _ => B2.out, fun e => by simp at e⟩
    case FIN =>
      intro s0 s1 s2 s3 s4 s5 s6 s7 w2 n1 n2 p1 p2 kk
      have hkl : (keys pre ++ [x.1]).length = pre.length + 1 := by simp [keys_len]
      obtain ⟨A3, c3, e3, _, _, _⟩ := p1.form
      rw [hkl] at e3
      subst e3
      have q1 := n1.cell
      have hlt3 : (pre.length : Int) + 1 ≤ 300 := by omega
      have hP : ∀ k, k ≠ w1.heap.size → k ≠ w1.heap.size + 1 → (k < w1.heap.size + 2 ∨ ∃ o : Obj, W.heap[k]? = some o ∧ o.isCells = false) → v1.ownBlock ≠ some k ∧ v2.ownBlock ≠ some k := by
        intro k _ _ h
        rcases h with h | h
        · exact ⟨fun e => by have := (O1.out.lt k e).1; omega, fun e => by have := (O2.out.lt k e).1; omega⟩
        · have hr : ∀ j, some k = some j → ∃ o : Obj, W.heap[j]? = some o ∧ o.isCells = false := fun j e => by cases e; exact h
          exact ⟨fun e => (own_far O1.out hr).elim (fun e2 => by rw [e] at e2; cases e2) (fun e2 => e2 e), fun e => (own_far O2.out hr).elim (fun e2 => by rw [e] at e2; cases e2) (fun e2 => e2 e)⟩
      have hKO : KeepsOthers W w2 := keepsOthers_of (W := W) (P := fun k => k ≠ w1.heap.size ∧ k ≠ w1.heap.size + 1 ∧ v1.ownBlock ≠ some k ∧ v2.ownBlock ≠ some k) ⟨kk.os, kk.tape, kk.output, kk.size, kk.block⟩ (fun k o hk ho => by
        have h1 : k ≠ w1.heap.size := fun e => by
          subst e
          have b := B1.out
          have b : W.heap[w1.heap.size]? = some (Obj.cells #[v1] 27 (0, 0)) := b
          rw [hk] at b; cases b; cases ho
        have h2 : k ≠ w1.heap.size + 1 := fun e => by
          subst e
          have b := B2.out
          have b : W.heap[w1.heap.size + 1]? = some (Obj.cells #[v2] 28 (0, 0)) := b
          rw [hk] at b; cases b; cases ho
        exact ⟨h1, h2, hP k h1 h2 (.inr ⟨o, hk, ho⟩)⟩)
      have hBW : Below w1.heap.size W w2 := ⟨kk.os, kk.tape, kk.output, kk.size, fun k hk => kk.block k (by show k < W.heap.size; omega) ⟨by omega, by omega, hP k (by omega) (by omega) (.inl (by omega))⟩⟩
      have hKA : KeepA A W w2 := fun a e => hBW.block _ (hAb a e)
      have HKO := Lib.hid hKO
      have HBW := Lib.hid (HB.out.trans hBW)
      have HKA := Lib.hid hKA
      have HT : Hid (Two w1.heap.size (w1.heap.size + 1) (w1.heap.size + 2) (pre ++ [x]) w2) := Lib.hid ⟨_, _, n1, n2, by simpa [keys] using p1, by simpa [nums] using p2⟩
      clear hKO hBW hKA hP kk n1 n2 p1 p2 hkl
      change Exit.then _ _ _ { tmps := #[pv, str h, undef, undef, .slice none 0 0, .slice none 0 0, .bool false, .func (.func 51) #[] #[.pointer (some ⟨Bb, 0, none⟩)], ptr w1.heap.size, ptr (w1.heap.size + 1), str x.1, .int .i64 x.2, pv, str h, .func (.func 51) #[] #[.pointer (some ⟨Bb, 0, none⟩)], .func (.func 51) #[] #[.pointer (some ⟨Bb, 0, none⟩)], .bool false, .func (.func 51) #[] #[.pointer (some ⟨Bb, 0, none⟩)], str x.1, .int .i64 x.2, s0, s1, s2, .slice A3 (pre.length + 1) c3, s4, s5, s6, s7, undef, undef, undef, undef, undef], defers := [] } _
      gi_wp2
      exact ⟨HKO.out.from _, HKA.out, HT.out, HBW.out⟩
  case done =>
    rintro D ys W hD rfl ⟨⟨v1, v2, b1, b2, o1, o2⟩, hB⟩ hK
    have HB := Lib.hid hB
    have O1 := Lib.hid o1
    have O2 := Lib.hid o2
    have c1 := b1.cell
    have c2 := b2.cell
    clear hseq bH bN hB1 hB o1 o2 CF
    gi_wp2
    refine wpIn_wide.2 ?_
    go_quiet (fail)
    gi_wp2
    have hK' : (W.drewN nq).heap[D]? = some (.deferred (some [])) := hK
    refine ⟨by simp, .inl ⟨_, _, rfl, run_takeDeferred hK', ?_⟩⟩
    have hb : Below w.heap.size w (W.drewN nq) := (k1.trans (HB.out.mono hz1)).trans ⟨rfl, rfl, rfl, Nat.le_refl _, fun _ _ => rfl⟩
    have o1' : OwnK strK (W.drewN nq) (w1.heap.size + 2) v1 (keys ys) := O1.out
    have o2' : OwnK intK (W.drewN nq) (w1.heap.size + 2) v2 (nums ys) := O2.out
    refine ⟨_, results_tmp3 rfl _ _ _, _, _, rfl, (o1'.putObj (.deferred none) hK' rfl).base (by omega), (o2'.putObj (.deferred none) hK' rfl).base (by omega), hb.trans (belowK_b (w := w) (Nat.le_refl _) _ D _ _ (by omega) hK' rfl rfl)⟩
  case stop =>
    rintro D c pre W hD hpre h hK
    exact h.elim
end Go.Proofs.Ytpdhfogmdhnoeaa.IX
