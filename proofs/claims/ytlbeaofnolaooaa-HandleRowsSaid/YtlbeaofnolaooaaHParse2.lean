/-
  WALK: the program's Parse: a range over the iterator that may return in its body.
-/
import Derived.Test.YtlbeaofnolaooaaHParse
namespace Go.Proofs.Ytlbeaofnolaooaa
open Go.RowKit
set_option maxRecDepth 100000
set_option linter.unusedVariables false
set_option linter.unusedSimpArgs false

attribute [local go_sem] Oper.semAt_some

theorem grownBy_of_below {W W1 : World} (h : Below W.heap.size W W1) : W.grownBy W1 none := ⟨h.os, h.tape, h.output, h.size, fun k hk _ => h.block k hk⟩
theorem KeepsOthers.of_below {W W1 : World} (h : Below W.heap.size W W1) : KeepsOthers W W1 := KeepsOthers.of_grownBy (grownBy_of_below h) fun j o e _ => by cases e

theorem own_mono {w : World} {base base' : Nat} {e : TypeId} {size : Nat} {v : Value} {n : Nat} {xs : List Value} (h : w.ownsRow base e size v n xs) (hb : base' ≤ base) : w.ownsRow base' e size v n xs := by
  refine ⟨h.1, ?_⟩
  rcases h.2 with h2 | ⟨g, cap, cur, e, hg, r⟩
  · exact .inl h2
  · exact .inr ⟨g, cap, cur, e, Nat.le_trans hb hg, r⟩
theorem Boxed.later {W W1 : World} {B : Nat} {t : TypeId} {v : Value} (h : Boxed W B t v) (hb : Below W.heap.size W W1) : Boxed W1 B t v := (hb.block B h.lt).trans h
theorem own_later {W W1 : World} {base : Nat} {e : TypeId} {size : Nat} {v : Value} {n : Nat} {xs : List Value} (h : W.ownsRow base e size v n xs) (hb : Below W.heap.size W W1) : W1.ownsRow base e size v n xs :=
  h.kept (grownBy_of_below hb) (by cases v.ownBlock <;> simp)
theorem own_not {W : World} {base : Nat} {e : TypeId} {size : Nat} {v : Value} {n : Nat} {xs : List Value} (h : W.ownsRow base e size v n xs) {k : Nat} (hk : k < base) : some k ≠ v.ownBlock := fun e' => by have := (h.lt k e'.symm).1; omega

theorem parse_dash (s : ByteArray) (w : World) (h : s.data.toList = [45]) :
    Calls Try.prog 29 #[.string s] w fun e w' => e = .returned (.tuple #[.slice none 0 0, .int .i64 0]) ∧ Below w.heap.size w w' := by
  have hd := dash_iff.2 h
  have hd2 : s.toList = [45] := by rw [ByteArray.toList_eq]; exact h
  clear h
  go_enter Try.func29, Try.ntmps29
  go_wp2
  exact bodyPost_ret (v := .tuple #[.slice none 0 0, .int .i64 0]) (by simp [results, Try.f29, go_sem]) rfl ⟨rfl, ((Below.refl _ _).alloc (Nat.le_refl _) _).alloc (by simp) _⟩

/-- What Parse says of a text that is not the empty list's. -/
def ParsePost (w : World) (l : List Bs) (e : Ending) (w' : World) : Prop :=
  ((okT l = true ∧ PR w l e w') ∨ (okT l = false ∧ e = .returned (.tuple #[.slice none 0 0, .int .i64 10]) ∧ Below w.heap.size w w'))

set_option maxHeartbeats 4000000 in
theorem parse_in (s : ByteArray) (w : World) (hs : s.size ≤ 1000000) (h : s.data.toList ≠ [45]) :
    CallsIn Fence.wide 9 Try.prog 29 #[.string s] w (ParsePost w (splitL s 32)) := by
  have hd := dash_f h
  have hne : ¬ s.toList = [45] := by rw [ByteArray.toList_eq]; exact h
  have hll := splitL_le s 32
  have HLN := Lib.hid (split_len s 32)
  clear h
  have h29 : Fence.wide.fn 29 := trivial
  have h38 : Fence.wide.fn 38 := trivial
  have h48 : Fence.wide.fn 48 := trivial
  have h10 : Fence.wide.fn 10 := trivial
  obtain ⟨i0, hi, hz0, hz1, hz2⟩ := info_parts info_str
  refine callsIn_of_wp_marks Try.func29 rfl h29 ?_ rfl
  simp only [Try.ntmps29, List.size_toArray, List.length_cons, List.length_nil, Nat.reduceAdd, Nat.reduceSub, Array.replicate_succ, Array.replicate_zero, List.push_toArray, List.append_toArray, List.nil_append, List.cons_append]
  gi_wp2_with (gi_at_call 38; refine (pieces_in Fence.wide (9 - 1) h38 rfl _ _ _).mono ?_; rintro e w' ⟨rfl, rfl⟩)
  have bR0 := Boxed.new w 25 (.slice none 0 0)
  have bE0 := Boxed.new (w.alloc (.cells #[.slice none 0 0] 25)) 32 (.int .i64 0)
  have bL0 := Boxed.new ((w.alloc (.cells #[.slice none 0 0] 25)).alloc (.cells #[.int .i64 0] 32)) 25 (.slice none 0 0)
  have bS0 := Boxed.new (((w.alloc (.cells #[.slice none 0 0] 25)).alloc (.cells #[.int .i64 0] 32)).alloc (.cells #[.slice none 0 0] 25)) 9 (.string s)
  have bM0 := Boxed.new ((((w.alloc (.cells #[.slice none 0 0] 25)).alloc (.cells #[.int .i64 0] 32)).alloc (.cells #[.slice none 0 0] 25)).alloc (.cells #[.string s] 9)) 21 (.int .i32 32)
  simp only [World.size_alloc] at bE0 bL0 bS0 bM0
  have hB0 : Below w.heap.size w (((((w.alloc (.cells #[.slice none 0 0] 25)).alloc (.cells #[.int .i64 0] 32)).alloc (.cells #[.slice none 0 0] 25)).alloc (.cells #[.string s] 9)).alloc (.cells #[.int .i32 32] 21)) :=
    (((((Below.refl _ w).alloc (Nat.le_refl _) _).alloc (by simp) _).alloc (by simp; omega) _).alloc (by simp; omega) _).alloc (by simp; omega) _
  have bR := (((bR0.alloc (.cells #[.int .i64 0] 32)).alloc (.cells #[.slice none 0 0] 25)).alloc (.cells #[.string s] 9)).alloc (.cells #[.int .i32 32] 21)
  have bE := ((bE0.alloc (.cells #[.slice none 0 0] 25)).alloc (.cells #[.string s] 9)).alloc (.cells #[.int .i32 32] 21)
  have bL := (bL0.alloc (.cells #[.string s] 9)).alloc (.cells #[.int .i32 32] 21)
  have bS := bS0.alloc (.cells #[.int .i32 32] 21)
  have hsz : (((((w.alloc (.cells #[.slice none 0 0] 25)).alloc (.cells #[.int .i64 0] 32)).alloc (.cells #[.slice none 0 0] 25)).alloc (.cells #[.string s] 9)).alloc (.cells #[.int .i32 32] 21)).heap.size = w.heap.size + 5 := by simp
  clear bR0 bE0 bL0 bS0
  obtain ⟨W0, hW0⟩ : ∃ W0, (((((w.alloc (.cells #[.slice none 0 0] 25)).alloc (.cells #[.int .i64 0] 32)).alloc (.cells #[.slice none 0 0] 25)).alloc (.cells #[.string s] 9)).alloc (.cells #[.int .i32 32] 21)) = W0 := ⟨_, rfl⟩
  rw [hW0] at bM0 hB0 bR bE bL bS hsz ⊢
  clear hW0
  have hseq := pieces_stopsL Fence.wide (9 - 1) h48 rfl (by omega) (w.heap.size + 1 + 1 + 1) (w.heap.size + 1 + 1 + 1 + 1) s 32 (by omega) (by omega) (by unfold maxLen; omega) W0 (by omega) (by omega) bS.cell bM0.cell (fun x hx => by have := HLN.out x hx; unfold maxLen; omega)
  refine wpIn_rangeFunc_ownG rfl (by omega) (gf := 48) (lb := #[.pointer (some ⟨w.heap.size + 1 + 1 + 1, 0, none⟩), .pointer (some ⟨w.heap.size + 1 + 1 + 1 + 1, 0, none⟩)]) rfl h48 (enters_of Try.func48 (by kernel_rfl) rfl)
    hseq Keeps.t (Keeps.b (by omega) (by omega)) (Below.refl _ _) (fun _ => rfl)
    (fun pre W => (∃ v, Boxed W (w.heap.size + 1 + 1) 25 v ∧ W.ownsRow (w.heap.size + 5) 9 1 v pre.length (pre.map fun x => str x.1) ∧ True) ∧ Boxed W w.heap.size 25 (.slice none 0 0) ∧ Boxed W (w.heap.size + 1) 32 (.int .i64 0) ∧ Boxed W (w.heap.size + 1 + 1 + 1) 9 (.string s) ∧ Boxed W (w.heap.size + 1 + 1 + 1 + 1) 21 (.int .i32 32) ∧ (∀ x ∈ pre, mayS x.1 = true) ∧ Below w.heap.size w W)
    (fun c pre W => (c = .ret ∧ ∃ x ∈ pre, mayS x.1 = false) ∧ Boxed W w.heap.size 25 (.slice none 0 0) ∧ Boxed W (w.heap.size + 1) 32 (.int .i64 10) ∧ Below w.heap.size w W)
    (OwnFrom.and (Own.from (holdsRow_own (w.heap.size + 5) (w.heap.size + 1 + 1) 25 9 1 (fun pre : List { x : List UInt8 // x.length ≤ maxLen } => pre.length) (fun pre => pre.map fun x => str x.1) (fun pre v => True)) _)
      (OwnFrom.and (Own.from (boxed_own _ _ (fun _ => .slice none 0 0)) _) (OwnFrom.and (Own.from (boxed_own _ _ (fun _ => .int .i64 0)) _) (OwnFrom.and (Own.from (boxed_own _ _ (fun _ => .string s)) _) (OwnFrom.and (Own.from (boxed_own _ _ (fun _ => .int .i32 32)) _) (OwnFrom.and (ownFrom_pure _ _) (ownFrom_below (Nat.le_refl _) (by omega))))))))
    (fun c => OwnFrom.and (ownFrom_pure _ _) (OwnFrom.and (Own.from (boxed_own _ _ (fun _ => .slice none 0 0)) _) (OwnFrom.and (Own.from (boxed_own _ _ (fun _ => .int .i64 10)) _) (ownFrom_below (Nat.le_refl _) (by omega)))))
    ⟨⟨_, bL, World.ownsRow_nil _ _ _ _, trivial⟩, bR, bE, bS, bM0, (fun x hx => by cases hx), hB0⟩
    (fun x => { tmps := #[.string s, undef, .pointer (some ⟨w.heap.size, 0, none⟩), .pointer (some ⟨w.heap.size + 1, 0, none⟩), .pointer (some ⟨w.heap.size + 1 + 1, 0, none⟩), str x.1, .string s, .bool false, .string s,
      .func (.func 48) #[] #[.pointer (some ⟨w.heap.size + 1 + 1 + 1, 0, none⟩), .pointer (some ⟨w.heap.size + 1 + 1 + 1 + 1, 0, none⟩)], str x.1, undef, undef, undef, undef, undef, undef, undef, undef], defers := [] }) ?assign ?body ?done ?stop
  case assign =>
    intro l x W K hK
    gi_wp2
    exact hK
  case body =>
    rintro l pre x W ⟨⟨v, hv, hrow, _⟩, hR, hE, hS, hM, hp, hB⟩ hlt
    have CM := Lib.hid (may_any ⟨x.1.toArray⟩ W x.2)
    have hN1 : pre.length ≤ 1000001 := Nat.le_trans (Nat.le_of_lt hlt) (by omega)
    have HV := Lib.hid hv
    have HR := Lib.hid hR
    have HE := Lib.hid hE
    have HS := Lib.hid hS
    have HMk := Lib.hid hM
    have HRow := Lib.hid hrow
    have HBW := Lib.hid hB
    by_cases hm : mayS x.1 = true
    · have hm' : mayB ⟨x.1.toArray⟩ = true := hm
      have HP : Hid (∀ y ∈ pre ++ [x], mayS y.1 = true) := Lib.hid fun y hy => by
        rcases List.mem_append.1 hy with h | h
        · exact hp y h
        · rw [List.mem_singleton.1 h]; exact hm
      clear hm hp hv hR hE hS hM hrow hB hseq bR bE bL bS bM0 hB0 hd hne
      gi_wp2_with (first | (gi_at_call 10; refine (CallsIn.inRound l (callsIn_wide.2 CM.out)).mono ?_; rintro e W1 ⟨rfl, hb1⟩; have hv1 := Boxed.later HV.out hb1; have hc1 := hv1.cell; have hrow1 := own_later HRow.out hb1; have hM1 := Boxed.later HMk.out hb1; have hsz1 : w.heap.size + 5 ≤ W1.heap.size := (by have := hM1.lt; omega)) | (gi_at_builtin; go_loud (refine wpListIn_append_own _ rfl _ _ 25 rfl (w.heap.size + 5) 9 i0 (.string ByteArray.empty) 1 16 Try.underlying25 hi hz0 hz1 hz2 rfl (by decide) _ pre.length (pre.map fun x => str x.1) rfl (hrow1.alloc _) ⟨W1.heap.size, 0, none⟩ 1 1 [str x.1] rfl rfl (cell_one_new _ _ _) (by simp [Value.oneCell']) (Nat.le_trans (Nat.add_le_add_right hN1 1) (by unfold maxLen; decide)) (Nat.le_trans (Nat.mul_le_mul_right 16 (Nat.add_le_add_right hN1 1)) (by decide)) (by simp; omega) ?_); intro v' w1 hown' hgrow _; obtain ⟨g', cap', rfl⟩ := ownsRow_succ hown'; go_loud (obtain ⟨hva, hv2, hr2, hk2, hb2⟩ := hv1.appended (by decide) (own_mono hrow1 (base' := w.heap.size) (by omega)) (by omega) (by omega) (own_mono hown' (base' := w.heap.size) (by omega)) hgrow); have hc2 := hva.cell; have hf2 := hva.frozen))
      have hR2 := (((Boxed.later HR.out hb1).alloc (.cells #[str x.1] 9)).kept hgrow (own_not hrow1 (by omega))).other (show w.heap.size ≠ w.heap.size + 1 + 1 by omega) (.slice (some ⟨g', 0, none⟩) (pre.length + 1) cap')
      have hE2 := (((Boxed.later HE.out hb1).alloc (.cells #[str x.1] 9)).kept hgrow (own_not hrow1 (by omega))).other (show w.heap.size + 1 ≠ w.heap.size + 1 + 1 by omega) (.slice (some ⟨g', 0, none⟩) (pre.length + 1) cap')
      have hS2 : Boxed _ _ _ _ := (((Boxed.later HS.out hb1).alloc (.cells #[str x.1] 9)).kept hgrow (own_not hrow1 (by omega))).other (show w.heap.size + 1 + 1 + 1 ≠ w.heap.size + 1 + 1 by omega) (.slice (some ⟨g', 0, none⟩) (pre.length + 1) cap')
      have hM2 : Boxed _ _ _ _ := (((Boxed.later HMk.out hb1).alloc (.cells #[str x.1] 9)).kept hgrow (own_not hrow1 (by omega))).other (show w.heap.size + 1 + 1 + 1 + 1 ≠ w.heap.size + 1 + 1 by omega) (.slice (some ⟨g', 0, none⟩) (pre.length + 1) cap')
      have hKO := (KeepsOthers.of_below hb1).trans hk2
      have hown2 := hown'.kept (grownBy_setCell' w1 (w.heap.size + 1 + 1) (.slice (some ⟨g', 0, none⟩) (pre.length + 1) cap')) (.inr fun e => own_not hown' (show w.heap.size + 1 + 1 < w.heap.size + 5 by omega) e.symm)
      exact ⟨hKO.from _, ⟨⟨hS2.trans HS.out.symm, hM2.trans HMk.out.symm⟩, hKO.walks⟩, ⟨_, hv2, by simpa using hown2, trivial⟩, hR2, hE2, hS2, hM2, HP.out, HBW.out.trans ((hb1.mono HBW.out.size).trans hb2)⟩
    · have hm0 : mayS x.1 = false := by simpa using hm
      have hm' : mayB ⟨x.1.toArray⟩ = false := hm0
      have HP : Hid (∃ y ∈ pre ++ [x], mayS y.1 = false) := Lib.hid ⟨x, List.mem_append.2 (.inr (by simp)), hm0⟩
      clear hm hm0 hp hv hR hE hS hM hrow hB hseq bR bE bL bS bM0 hB0 hd hne
      gi_wp2_with (first | (gi_at_call 10; refine (CallsIn.inRound l (callsIn_wide.2 CM.out)).mono ?_; rintro e W1 ⟨rfl, hb1⟩; have hR1 := Boxed.later HR.out hb1; have hE1 := Boxed.later HE.out hb1; have cR := hR1.cell; have fR := hR1.frozen; have cE := hE1.cell; have fE := hE1.frozen))
      have hR2 := (hR1.set (.slice none 0 0)).other (show w.heap.size ≠ w.heap.size + 1 by omega) (.int .i64 10)
      have hE2 := (hE1.other (show w.heap.size + 1 ≠ w.heap.size by omega) (.slice none 0 0)).set (.int .i64 10)
      have hKO := ((KeepsOthers.of_below hb1).trans (KeepsOthers.setCell W1 ⟨w.heap.size, 0, none⟩ (.slice none 0 0))).trans (KeepsOthers.setCell _ ⟨w.heap.size + 1, 0, none⟩ (.int .i64 10))
      exact ⟨hKO.from _, ⟨rfl, HP.out⟩, hR2, hE2, ((HBW.out.trans (hb1.mono HBW.out.size)).setCell (p := ⟨w.heap.size, 0, none⟩) (Nat.le_refl _) _).setCell (p := ⟨w.heap.size + 1, 0, none⟩) (by simp) _⟩
  case done =>
    rintro D ys W hD hS ⟨⟨v, hv, hrow, _⟩, hR, hE, _, _, hp, hB⟩ hK
    have hlen : 0 < ys.length := by
      have : (ys.map (·.1)).length = (splitL s 32).length := by rw [hS]
      simp [splitL] at this
      omega
    obtain ⟨m, hm⟩ : ∃ m, ys.length = m + 1 := ⟨ys.length - 1, by omega⟩
    have hrow' := hrow
    rw [hm] at hrow'
    obtain ⟨g, cap, rfl⟩ := ownsRow_succ hrow'
    have HOK : Hid (okT (splitL s 32) = true) := Lib.hid (okT_t fun x hx => by
      rw [← hS] at hx
      obtain ⟨y, hy, rfl⟩ := List.mem_map.1 hx
      exact hp y hy)
    have hc := hv.cell
    have cR := hR.cell
    have fR := hR.frozen
    have cE := hE.cell
    have fE := hE.frozen
    have HRow := Lib.hid hrow
    have HBW := Lib.hid hB
    have HR := Lib.hid hR
    have HE := Lib.hid hE
    have HSy := Lib.hid hS
    have HmL := Lib.hid hm
    clear hrow hrow' hB hR hE hS hp hm hseq bR bE bL bS bM0 hB0 hd hne
    gi_wp2
    have hK1 := (KeepsOthers.setCell W ⟨w.heap.size, 0, none⟩ (.slice (some ⟨g, 0, none⟩) (m + 1) cap)).same D _ hK rfl
    have hK' := (KeepsOthers.setCell (W.setCell ⟨w.heap.size, 0, none⟩ (.slice (some ⟨g, 0, none⟩) (m + 1) cap)) ⟨w.heap.size + 1, 0, none⟩ (.int .i64 0)).same D _ hK1 rfl
    refine ⟨by simp, .inl ⟨_, _, rfl, run_takeDeferred hK', ?_⟩⟩
    have bR1 : Boxed _ _ _ _ := (Boxed.set (.slice (some ⟨g, 0, none⟩) (m + 1) cap) (show Boxed W w.heap.size _ _ from HR.out)).other (show w.heap.size ≠ w.heap.size + 1 by omega) (.int .i64 0)
    have bE1 : Boxed _ _ _ _ := Boxed.set (.int .i64 0) (Boxed.other (show Boxed W (w.heap.size + 1) _ _ from HE.out) (show w.heap.size + 1 ≠ w.heap.size by omega) (.slice (some ⟨g, 0, none⟩) (m + 1) cap))
    have c5 := cell_kept bR1.cell (grownBy_putObj' _ D (.deferred none)) (fun r e => by cases e; exact ⟨_, hK', rfl⟩)
    have c6 := cell_kept bE1.cell (grownBy_putObj' _ D (.deferred none)) (fun r e => by cases e; exact ⟨_, hK', rfl⟩)
    have r1 := HRow.out.kept (grownBy_setCell' W w.heap.size (.slice (some ⟨g, 0, none⟩) (m + 1) cap)) (.inr fun e => own_not HRow.out (show w.heap.size < w.heap.size + 5 by omega) e.symm)
    have r2 := r1.kept (grownBy_setCell' _ (w.heap.size + 1) (.int .i64 0)) (.inr fun e => own_not HRow.out (show w.heap.size + 1 < w.heap.size + 5 by omega) e.symm)
    have r3 := ownsRow_putObj r2 (.deferred none) hK' rfl
    have hfin : PR w (splitL s 32) (.returned (.tuple #[.slice (some ⟨g, 0, none⟩) (m + 1) cap, .int .i64 0])) (((W.setCell ⟨w.heap.size, 0, none⟩ (.slice (some ⟨g, 0, none⟩) (m + 1) cap)).setCell ⟨w.heap.size + 1, 0, none⟩ (.int .i64 0)).putObj D (.deferred none)) := by
      refine ⟨_, rfl, ?_, ?_⟩
      · have r4 := own_mono r3 (base' := w.heap.size) (by omega)
        unfold OwnS
        rw [← HSy.out, List.length_map, List.map_map]
        exact r4
      · exact ((HBW.out.setCell (p := ⟨w.heap.size, 0, none⟩) (Nat.le_refl _) _).setCell (p := ⟨w.heap.size + 1, 0, none⟩) (by simp) _).trans (belowK_b (w := w) (Nat.le_refl _) _ D _ _ (by omega) hK' rfl rfl)
    refine ⟨.tuple #[.slice (some ⟨g, 0, none⟩) (m + 1) cap, .int .i64 0], ?_, .inl ⟨HOK.out, hfin⟩⟩
    simp [results, Try.f29, go_sem, c5, c6]
  case stop =>
    rintro D c pre W hD hpre ⟨⟨rfl, y, hy, hm⟩, hR, hE, hB⟩ hK
    have HOK : Hid (okT (splitL s 32) = false) := Lib.hid (okT_f (hpre.subset (List.mem_map.2 ⟨y, hy, rfl⟩)) hm)
    have c5 := cell_kept (Boxed.cell hR) (grownBy_putObj' _ D (.deferred none)) (fun r e => by cases e; exact ⟨_, hK, rfl⟩)
    have c6 := cell_kept (Boxed.cell hE) (grownBy_putObj' _ D (.deferred none)) (fun r e => by cases e; exact ⟨_, hK, rfl⟩)
    have HBW := Lib.hid hB
    clear hR hE hB hm hpre hseq bR bE bL bS bM0 hB0 hd hne
    gi_wp2
    refine ⟨by simp, .inl ⟨_, _, rfl, run_takeDeferred hK, ?_⟩⟩
    refine ⟨.tuple #[.slice none 0 0, .int .i64 10], ?_, .inr ⟨HOK.out, rfl, HBW.out.trans (belowK_b (w := w) (Nat.le_refl _) W D _ _ (by omega) hK rfl rfl)⟩⟩
    simp [results, Try.f29, go_sem, c5, c6]

theorem parse_any (s : ByteArray) (w : World) (hs : s.size ≤ 1000000) (h : s.data.toList ≠ [45]) :
    Calls Try.prog 29 #[.string s] w (ParsePost w (splitL s 32)) := callsIn_wide.1 (parse_in s w hs h)
theorem parse_ok (s : ByteArray) (w : World) (hs : s.size ≤ 1000000) (h : s.data.toList ≠ [45]) (ho : okT (splitL s 32) = true) :
    Calls Try.prog 29 #[.string s] w (PR w (splitL s 32)) :=
  (parse_any s w hs h).mono fun e w' hp => by
    rcases hp with ⟨_, hp⟩ | ⟨hf, _⟩
    · exact hp
    · rw [ho] at hf; cases hf
theorem parse_bad (s : ByteArray) (w : World) (hs : s.size ≤ 1000000) (h : s.data.toList ≠ [45]) (ho : okT (splitL s 32) = false) :
    Calls Try.prog 29 #[.string s] w fun e w' => e = .returned (.tuple #[.slice none 0 0, .int .i64 10]) ∧ Below w.heap.size w w' :=
  (parse_any s w hs h).mono fun e w' hp => by
    rcases hp with ⟨hf, _⟩ | ⟨_, hp⟩
    · rw [ho] at hf; cases hf
    · exact hp
end Go.Proofs.Ytlbeaofnolaooaa
