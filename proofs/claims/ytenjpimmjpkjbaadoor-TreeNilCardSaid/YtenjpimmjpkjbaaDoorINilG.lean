/-
  WALKS: All and the statements' from over whatever index whose rows are told (made by wip/gen_inil.py out of XIAll and XIFrom).
-/
import Derived.Test.YtenjpimmjpkjbaaDoorIFrom
import Derived.Test.YtenjpimmjpkjbaaDoorIAll
namespace Go.Proofs.YtenjpimmjpkjbaaDoor.IX
open Go.RowKit HL
set_option maxRecDepth 100000
set_option linter.unusedVariables false
set_option linter.unusedSimpArgs false
attribute [local go_sem] Oper.semAt_some

set_option maxHeartbeats 4000000 in
theorem all_inG (pv : Value) (A : Option Addr) (c : Nat) (l : List Rw) (w : World) (rd : RdK rowK w w.heap.size A l) (hAb : ∀ a, A = some a → a.block < w.heap.size) (CH : Hid (∀ W, Below w.heap.size w W → Calls Tryd.prog 58 #[pv] W fun e w' => e = .returned (.slice A l.length c) ∧ W = w')) (hn : l.length ≤ 1000000) :
    CallsIn Fence.wide 9 Tryd.prog 43 #[pv] w fun e w' => ∃ v', e = .returned v' ∧ OwnK strK w' w.heap.size v' (keys l) ∧ Below w.heap.size w w' := by
  have hF : Fence.wide.fn 43 := trivial
  have hF1 : Fence.wide.fn 59 := trivial
  have hF2 : Fence.wide.fn 58 := trivial
  have hF3 : Fence.wide.fn 70 := trivial
  have CE := Lib.hid (each_any (.slice A l.length c) A _ c rfl)
  have RD := Lib.hid rd
  obtain ⟨i0, hi, hz0, hz1, hz2⟩ := info_parts info_str
  clear rd
  refine callsIn_of_wp_marks Tryd.func43 rfl hF ?_ rfl
  simp only [Tryd.ntmps43, List.size_toArray, List.length_cons, List.length_nil, Nat.reduceAdd, Nat.reduceSub, Array.replicate_succ, Array.replicate_zero, List.push_toArray, List.append_toArray, List.nil_append, List.cons_append]
  gi_wp2_with (first
    | (gi_at_call 58; refine (callsIn_wide.2 (CH.out _ ((Below.refl _ _).alloc (Nat.le_refl _) _))).mono ?_; rintro e w1 ⟨rfl, rfl⟩)
    | (gi_at_call 59; refine (callsIn_wide.2 (CE.out _)).mono ?_; rintro e w1 ⟨rfl, rfl⟩))
  have bL0 := Boxed.new w 43 (.slice none 0 0)
  have bS := Boxed.new (w.alloc (.cells #[.slice none 0 0] 43)) 82 (.slice A l.length c)
  have bL := bL0.alloc (.cells #[.slice A l.length c] 82)
  have hB0 : Below w.heap.size w ((w.alloc (.cells #[.slice none 0 0] 43)).alloc (.cells #[.slice A l.length c] 82)) := ((Below.refl _ w).alloc (Nat.le_refl _) _).alloc (by simp) _
  have hsz : ((w.alloc (.cells #[.slice none 0 0] 43)).alloc (.cells #[.slice A l.length c] 82)).heap.size = w.heap.size + 2 := by simp
  simp only [World.size_alloc] at bS
  clear bL0
  obtain ⟨W0, hW0⟩ : ∃ W0, (w.alloc (.cells #[.slice none 0 0] 43)).alloc (.cells #[.slice A l.length c] 82) = W0 := ⟨_, rfl⟩
  rw [hW0] at bS bL hB0 hsz ⊢
  clear hW0
  have hseq := each_stops Fence.wide (9 - 1) hF3 rfl (by omega) (w.heap.size + 1) A c l W0 bS.cell (by omega) ((RD.out.below hB0).more (by omega)) hn
  refine wpIn_rangeFunc_ownG rfl (by omega) (gf := 70) (lb := #[.pointer (some ⟨w.heap.size + 1, 0, none⟩)]) rfl hF3 (enters_of Tryd.func70 (by kernel_rfl) rfl)
    hseq (fun h k => h.t k) (keepA_b (w := W0) (fun a e => by have := hAb a e; omega)) (Below.refl _ _) (fun _ => rfl)
    (fun pre W => (∃ v, Boxed W w.heap.size 43 v ∧ W.ownsRow (w.heap.size + 2) 9 1 v pre.length (pre.map fun x => str x.1) ∧ True) ∧ Boxed W (w.heap.size + 1) 82 (.slice A l.length c) ∧ Below w.heap.size w W)
    (fun _ _ _ => False)
    (OwnFrom.and (Own.from (holdsRow_own (w.heap.size + 2) w.heap.size 43 9 1 (fun pre : List Rw => pre.length) (fun pre => pre.map fun x => str x.1) (fun pre v => True)) _) (OwnFrom.and (Own.from (boxed_own _ _ (fun _ => .slice A l.length c)) _) (ownFrom_below (Nat.le_refl _) (by omega))))
    (fun _ _ _ _ _ h _ _ => h)
    ⟨⟨_, bL, World.ownsRow_nil _ _ _ _, trivial⟩, bS, hB0⟩
    (fun x => { tmps := #[pv, undef, .slice none 0 0, .pointer (some ⟨w.heap.size, 0, none⟩), str x.1, pv, .slice A l.length c, .func (.func 70) #[] #[.pointer (some ⟨w.heap.size + 1, 0, none⟩)], str x.1, .int .i64 x.2, undef, undef, undef, undef, undef], defers := [] }) ?assign ?body ?done ?stop
  case assign =>
    intro l x W K hK
    gi_wp2
    exact hK
  case body =>
    rintro l' pre x W ⟨⟨v, hv, hrow, _⟩, hS, hB⟩ hlt
    have hN1 : pre.length ≤ 1000001 := Nat.le_trans (Nat.le_of_lt hlt) (by omega)
    have hc1 := hv.cell
    have hszW : w.heap.size + 1 + 1 ≤ W.heap.size := hS.lt
    have HBW := Lib.hid hB
    have HS := Lib.hid hS
    clear hseq bS bL hB0 hS hB CH CE
    gi_wp2_with (gi_at_builtin; go_loud (refine wpListIn_append_own _ rfl _ _ 43 rfl (w.heap.size + 2) 9 i0 (.string ByteArray.empty) 1 16 Tryd.underlying43 hi hz0 hz1 hz2 rfl (by decide) _ pre.length (pre.map fun x => str x.1) rfl (hrow.alloc _) ⟨W.heap.size, 0, none⟩ 1 1 [str x.1] rfl rfl (cell_one_new _ _ _) (by simp [Value.oneCell']) (Nat.le_trans (Nat.add_le_add_right hN1 1) (by unfold maxLen; decide)) (Nat.le_trans (Nat.mul_le_mul_right 16 (Nat.add_le_add_right hN1 1)) (by decide)) (by simp; omega) ?_); intro v' w1 hown' hgrow _; obtain ⟨g', cap', rfl⟩ := ownsRow_succ hown'; go_loud (obtain ⟨hva, hv2, hr2, hk2, hb2⟩ := hv.appended (by decide) (own_mono hrow (base' := w.heap.size) (by omega)) (by omega) (by omega) (own_mono hown' (base' := w.heap.size) (by omega)) hgrow); have hc2 := hva.cell; have hf2 := hva.frozen)
    have hne : ∀ k, k < w.heap.size + 2 → some k ≠ v.ownBlock := fun k hk e' => by have := (hrow.lt k e'.symm).1; omega
    have hS2 : Boxed _ _ _ _ := ((HS.out.alloc (.cells #[str x.1] 9)).kept hgrow (hne _ (by omega))).other (show w.heap.size + 1 ≠ w.heap.size by omega) (.slice (some ⟨g', 0, none⟩) (pre.length + 1) cap')
    have hown2 := hown'.kept (grownBy_setCell' w1 w.heap.size (.slice (some ⟨g', 0, none⟩) (pre.length + 1) cap')) (.inr fun e => by have := (hown'.lt w.heap.size e).1; omega)
    exact ⟨hk2.from _, fun a e => hb2.block _ (hAb a e), ⟨_, hv2, by simpa using hown2, trivial⟩, hS2, HBW.out.trans hb2⟩
  case done =>
    rintro D ys W hD rfl ⟨⟨v, hv, hrow, _⟩, hS, hB⟩ hK
    have hrow2 : OwnK strK W (w.heap.size + 2) v (keys ys) := by
      unfold OwnK
      rw [str_cells, keys_len]
      unfold keys
      rw [List.map_map]
      exact hrow
    obtain ⟨A2, c2, rfl, _, _, _⟩ := hrow2.form
    have hc1 := hv.cell
    have HRow := Lib.hid hrow2
    have HBW := Lib.hid hB
    clear hrow hrow2 hB hS hseq bS bL hB0 CH CE
    gi_wp2
    refine ⟨by simp, .inl ⟨_, _, rfl, run_takeDeferred hK, ?_⟩⟩
    refine ⟨_, results_tmp rfl _ _ _, _, rfl, (HRow.out.putObj (.deferred none) hK rfl).base (by omega), HBW.out.trans (belowK_b (w := w) (Nat.le_refl _) W D _ _ (by omega) hK rfl rfl)⟩
  case stop =>
    rintro D c pre W hD hpre h hK
    exact h.elim
end Go.Proofs.YtenjpimmjpkjbaaDoor.IX
