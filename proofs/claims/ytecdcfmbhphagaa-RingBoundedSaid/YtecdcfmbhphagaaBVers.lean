/-
  WALK: Versions of a ring.
-/
import Derived.Test.YtecdcfmbhphagaaBAwake
import Derived.Test.YtecdcfmbhphagaaShelf
import Derived.Lib.OwnBridge
namespace Go.Proofs.Ytecdcfmbhphagaa.BX
open Go.RowKit Go.Sort HL
open IX (ptr El cellsK cellsK_at cellsK_len OwnK RdK Kept intK)
set_option maxRecDepth 100000
set_option linter.unusedVariables false
set_option linter.unusedSimpArgs false
attribute [local go_sem] Oper.semAt_some

abbrev vi (x : Int) : Value := .int .i64 x
def vers (g : Rg) : List Int := (kept g).reverse.map (·.1)
theorem own_mono {w : World} {base base' : Nat} {e : TypeId} {size : Nat} {v : Value} {n : Nat} {xs : List Value} (h : w.ownsRow base e size v n xs) (hb : base' ≤ base) : w.ownsRow base' e size v n xs := by
  refine ⟨h.1, ?_⟩
  rcases h.2 with h2 | ⟨g, cap, cur, e, hg, r⟩
  · exact .inl h2
  · exact .inr ⟨g, cap, cur, e, Nat.le_trans hb hg, r⟩
theorem info_int : (Try.prog.info? 3).map (fun i => (i.zero, i.size, i.bytes)) = some (some (.int .i64 0), 1, 8) := by kernel_rfl
theorem int_cells (l : List Int) : cellsK intK l = l.map vi := by
  induction l with
  | nil => rfl
  | cons x l ih => rw [IX.cellsK_cons, ih]; rfl
set_option maxHeartbeats 4000000 in
theorem vers_in {B : Nat} {g : Rg} {R : List (Int × En)} (w : World) (hA : RgAt w B g R) (hn : g.all.length ≤ 100000) :
    CallsIn Fence.wide 9 Try.prog 22 #[ptr B] w fun e w' => ∃ v, e = .returned v ∧ w'.ownsRow w.heap.size 3 1 v (vers g).length ((vers g).map vi) ∧ Below w.heap.size w w' := by
  have hF : Fence.wide.fn 22 := trivial
  have hF1 : Fence.wide.fn 33 := trivial
  have hF3 : Fence.wide.fn 39 := trivial
  have hF4 : Fence.wide.fn 35 := trivial
  obtain ⟨i0, hi, hz0, hz1, hz2⟩ := info_parts info_int
  have CB := Lib.hid (back_any (B := B) (w.alloc (.cells #[.slice none 0 0] 45)))
  have HA := Lib.hid hA
  have hlB := hA.lt
  have hkl : (kept g).length ≤ 100000 := by rw [kept_len]; omega
  clear hA
  refine callsIn_of_wp_marks Try.func22 rfl hF ?_ rfl
  simp only [Try.ntmps22, List.size_toArray, List.length_cons, List.length_nil, Nat.reduceAdd, Nat.reduceSub, Array.replicate_succ, Array.replicate_zero, List.push_toArray, List.append_toArray, List.nil_append, List.cons_append]
  gi_wp2_with (gi_at_call 33; refine (callsIn_wide.2 CB.out).mono ?_; rintro e w1 ⟨rfl, rfl⟩)
  have bL0 := Boxed.new w 45 (.slice none 0 0)
  have bS := Boxed.new (w.alloc (.cells #[.slice none 0 0] 45)) 23 (ptr B)
  have bL := bL0.alloc (.cells #[ptr B] 23)
  have hB0 : Below w.heap.size w ((w.alloc (.cells #[.slice none 0 0] 45)).alloc (.cells #[ptr B] 23)) := ((Below.refl _ w).alloc (Nat.le_refl _) _).alloc (by simp) _
  have hsz : ((w.alloc (.cells #[.slice none 0 0] 45)).alloc (.cells #[ptr B] 23)).heap.size = w.heap.size + 2 := by simp
  simp only [World.size_alloc] at bS
  clear bL0 CB
  change Code.wpIn _ _ _ _ _ _ ((w.alloc (.cells #[.slice none 0 0] 45)).alloc (.cells #[ptr B] 23))
  generalize (w.alloc (.cells #[.slice none 0 0] 45)).alloc (.cells #[ptr B] 23) = W0 at *
  have hseq := back1_stops (9 - 1) (by omega) (w.heap.size + 1) B g R W0 bS.cell (by omega) (HA.out.below hB0) (by omega)
  refine wpIn_rangeFunc_ownG rfl (by omega) (gf := 39) (lb := #[.pointer (some ⟨w.heap.size + 1, 0, none⟩)]) rfl hF3 (enters_of Try.func39 (by kernel_rfl) rfl)
    hseq (fun h k => h.t k) (kb_b (n := W0.heap.size) (by omega) (by omega)) (Below.refl _ _) (fun _ => rfl)
    (fun pre W => (∃ v, Boxed W w.heap.size 45 v ∧ W.ownsRow (w.heap.size + 2) 3 1 v pre.length (pre.map fun x => vi x.1) ∧ True) ∧ Boxed W (w.heap.size + 1) 23 (ptr B) ∧ Below w.heap.size w W)
    (fun _ _ _ => False)
    (OwnFrom.and (Own.from (holdsRow_own (w.heap.size + 2) w.heap.size 45 3 1 (fun pre : List (Int × En) => pre.length) (fun pre => pre.map fun x => vi x.1) (fun pre v => True)) _) (OwnFrom.and (Own.from (boxed_own _ _ (fun _ => ptr B)) _) (ownFrom_below (Nat.le_refl _) (by omega))))
    (fun _ _ _ _ _ h _ _ => h)
    ⟨⟨_, bL, World.ownsRow_nil _ _ _ _, trivial⟩, bS, hB0⟩
    (fun x => { tmps := #[ptr B, undef, .slice none 0 0, ptr w.heap.size, .int .i64 x.1, ptr B, .func (.func 39) #[] #[.pointer (some ⟨w.heap.size + 1, 0, none⟩)], .int .i64 x.1, en x.2, undef, undef, undef, undef, undef, undef, undef], defers := [] }) ?assign ?body ?done ?stop
  case assign =>
    intro l x W K hK
    gi_wp2
    exact hK
  case body =>
    rintro l' pre x W ⟨⟨v, hv, hrow, _⟩, hS, hB⟩ hlt
    have hN1 : pre.length ≤ 1000001 := by omega
    have hc1 := hv.cell
    have hszW : w.heap.size + 1 + 1 ≤ W.heap.size := hS.lt
    have HBW := Lib.hid hB
    have HS := Lib.hid hS
    clear hseq bS bL hB0 hS hB
    gi_wp2_with (gi_at_builtin; go_loud (refine wpListIn_append_own _ rfl _ _ 45 rfl (w.heap.size + 2) 3 i0 (.int .i64 0) 1 8 Try.underlying45 hi hz0 hz1 hz2 rfl (by decide) _ pre.length (pre.map fun x => vi x.1) rfl (hrow.alloc _) ⟨W.heap.size, 0, none⟩ 1 1 [vi x.1] rfl rfl (cell_one_new _ _ _) (by simp [Value.oneCell']) (Nat.le_trans (Nat.add_le_add_right hN1 1) (by unfold maxLen; decide)) (Nat.le_trans (Nat.mul_le_mul_right 8 (Nat.add_le_add_right hN1 1)) (by decide)) (by simp; omega) ?_); intro v' w1 hown' hgrow _; obtain ⟨g', cap', rfl⟩ := ownsRow_succ hown'; go_loud (obtain ⟨hva, hv2, hr2, hk2, hb2⟩ := hv.appended (by decide) (own_mono hrow (base' := w.heap.size) (by omega)) (by omega) (by omega) (own_mono hown' (base' := w.heap.size) (by omega)) hgrow); have hc2 := hva.cell; have hf2 := hva.frozen)
    have hne : ∀ k, k < w.heap.size + 2 → some k ≠ v.ownBlock := fun k hk e' => by have := (hrow.lt k e'.symm).1; omega
    have hS2 : Boxed _ _ _ _ := ((HS.out.alloc (.cells #[vi x.1] 3)).kept hgrow (hne _ (by omega))).other (show w.heap.size + 1 ≠ w.heap.size by omega) (.slice (some ⟨g', 0, none⟩) (pre.length + 1) cap')
    have hown2 := hown'.kept (grownBy_setCell' w1 w.heap.size (.slice (some ⟨g', 0, none⟩) (pre.length + 1) cap')) (.inr fun e => by have := (hown'.lt w.heap.size e).1; omega)
    exact ⟨hk2.from _, ⟨hb2.block _ (by omega), hS2.trans HS.out.symm⟩, ⟨_, hv2, by simpa using hown2, trivial⟩, hS2, HBW.out.trans hb2⟩
  case done =>
    rintro D ys W hD rfl ⟨⟨v, hv, hrow, _⟩, hS, hB⟩ hK
    have hzs : vers g = ((kept g).map (·.1)).reverse := by unfold vers; rw [List.map_reverse]
    obtain ⟨zs, hz⟩ : ∃ zs, (kept g).map (·.1) = zs := ⟨_, rfl⟩
    have hzl : zs.length = (kept g).length := by rw [← hz, List.length_map]
    have hr2 : W.ownsRow (w.heap.size + 2) 3 1 v zs.length (zs.map vi) := by
      rw [hzl, ← hz, List.map_map]
      exact hrow
    rw [hz] at hzs
    have HZS := Lib.hid hzs
    have HB := Lib.hid hB
    have hDW : D < W.heap.size := (Array.getElem?_eq_some_iff.1 hK).1
    have hk2 : zs.length ≤ 100000 := by omega
    have c0 := hv.cell
    have hlv := hv.lt
    have HV := Lib.hid hv
    have HK := Lib.hid hK
    clear hseq bS bL hB0 hS hB hrow hz hzl hzs hv hK
    by_cases hv0 : v = .slice none 0 0
    · subst hv0
      have h0 : zs = [] := by
        rcases hr2.2 with ⟨_, e⟩ | ⟨g', cap, cur, e, _⟩
        · exact List.eq_nil_of_length_eq_zero e
        · cases e
      have CR := Lib.hid (Try.slices_Reverse_int_empty none 0 W)
      have HR2 := Lib.hid hr2
      clear hr2
      gi_wp2_with (gi_at_call 35; refine (callsIn_wide.2 CR.out).mono ?_; rintro e w1 ⟨rfl, hw1⟩; subst hw1)
      refine ⟨by simp, .inl ⟨_, _, rfl, run_takeDeferred HK.out, ?_⟩⟩
      refine ⟨_, results_tmp rfl _ _ _, _, rfl, ?_, HB.out.trans (belowK_b (w := w) (Nat.le_refl _) _ D _ _ (by omega) HK.out rfl rfl)⟩
      rw [HZS.out, h0]
      exact World.ownsRow_nil _ _ _ _
    · obtain ⟨g1, cap, rfl, hg1, hg2, hcap, hcm, _, hH⟩ := Lib.holds_of_ownsRow hr2 hv0
      have hDg : D ≠ g1 := fun e => by
        rcases hr2.2 with ⟨e0, _⟩ | ⟨g', cap', cur, e0, _, hh, _⟩
        · exact hv0 e0
        · simp at e0
          have := HK.out
          rw [e, e0.1, hh] at this
          cases this
      have CR : Hid (Calls Try.prog 35 #[.slice (some ⟨g1, 0, none⟩) zs.length cap] W fun e w' => e = .returned (.tuple #[]) ∧ w'.ownsRow (w.heap.size + 2) 3 1 (.slice (some ⟨g1, 0, none⟩) zs.length cap) zs.length (zs.reverse.map vi) ∧ Below w.heap.size W w' ∧ w'.cell? ⟨w.heap.size, 0, none⟩ = some (.slice (some ⟨g1, 0, none⟩) zs.length cap) ∧ w'.heap[D]? = some (.deferred (some [])) ∧ w.heap.size < w'.heap.size) :=
        Lib.hid ((Try.slices_Reverse_int g1 0 cap zs W hH (by omega)).mono fun e w' ⟨he, nn, hw⟩ => by
          have h1 := Lib.ownsRow_putRow (q := nn) (k := zs.length) (ys := zs.reverse) hr2 (by simp) (Nat.le_refl _)
          rw [List.take_of_length_le (by simp)] at h1
          have hb2 := Lib.below_putRow (enc := vi) (q := nn) (d := zs.reverse.toArray) (Below.refl (w.heap.size + 2) W) hg1
          have hD2 : (putRow vi (Sort.ahead W nn) g1 0 zs.reverse.toArray).heap[D]? = W.heap[D]? := by
            simp [putRow, mapBlock, Sort.ahead, Array.getElem?_modify, Ne.symm hDg]
          subst hw
          exact ⟨he, h1, hb2.mono (by omega), (hb2.cell (p := ⟨w.heap.size, 0, none⟩) (by show w.heap.size < w.heap.size + 2; omega)).trans c0, hD2.trans HK.out, Nat.lt_of_lt_of_le hlv hb2.size⟩)
      clear hr2 hH
      gi_wp2_with (gi_at_call 35; refine (callsIn_wide.2 CR.out).mono ?_; rintro e w1 ⟨rfl, o1, k1, c1, d1, l1⟩; have O1 := Lib.hid o1; have K1 := Lib.hid k1; have D1 := Lib.hid d1; clear o1 k1 d1)
      refine ⟨by simp, .inl ⟨_, _, rfl, run_takeDeferred D1.out, ?_⟩⟩
      refine ⟨_, results_tmp rfl _ _ _, _, rfl, ?_, (HB.out.trans K1.out).trans (belowK_b (w := w) (Nat.le_refl _) _ D _ _ (by omega) D1.out rfl rfl)⟩
      rw [HZS.out, List.length_reverse]
      exact own_mono (ownsRow_putObj O1.out (.deferred none) D1.out rfl) (by omega)
  case stop =>
    rintro D c pre W hD hpre h hK
    exact h.elim
theorem vers_any {B : Nat} {g : Rg} {R : List (Int × En)} (w : World) (hA : RgAt w B g R) (hn : g.all.length ≤ 100000) :
    Calls Try.prog 22 #[ptr B] w fun e w' => ∃ v, e = .returned v ∧ w'.ownsRow w.heap.size 3 1 v (vers g).length ((vers g).map vi) ∧ Below w.heap.size w w' := callsIn_wide.1 (vers_in w hA hn)
end Go.Proofs.Ytecdcfmbhphagaa.BX
