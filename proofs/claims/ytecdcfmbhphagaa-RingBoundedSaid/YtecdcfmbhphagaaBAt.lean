/-
  WALK: At of a ring.
-/
import Derived.Test.YtecdcfmbhphagaaBLast
namespace Go.Proofs.Ytecdcfmbhphagaa.BX
open Go.RowKit HL
open IX (ptr El cellsK cellsK_at cellsK_len OwnK RdK Kept)
set_option maxRecDepth 100000
set_option linter.unusedVariables false
set_option linter.unusedSimpArgs false
attribute [local go_sem] Oper.semAt_some

/-- Ahead of a round: none so far was of a version that is low enough. -/
def A0 (w : World) (v : Int) (pre : List (Int × En)) (W : World) : Prop := (∀ y ∈ pre, decide (y.1 ≤ v) = false) ∧ AtC W w.heap.size #[.int .i64 v] ∧ AtC W (w.heap.size + 1) (enC zeroEn) ∧ AtC W (w.heap.size + 2) #[.int .i64 0] ∧ Below w.heap.size w W ∧ w.heap.size + 4 ≤ W.heap.size
/-- Found. -/
def A1 (w : World) (v : Int) (c : Code) (pre : List (Int × En)) (W : World) : Prop := (c = .ret ∧ ∃ p x, pre = p ++ [x] ∧ (∀ y ∈ p, decide (y.1 ≤ v) = false) ∧ x.1 ≤ v ∧ AtC W (w.heap.size + 1) (enC x.2) ∧ AtC W (w.heap.size + 2) #[.int .i64 0]) ∧ Below w.heap.size w W
theorem a0_own (w : World) (v : Int) (n : Nat) (hn : w.heap.size ≤ n) : OwnFrom n (A0 w v) := fun s W W' row ⟨h0, h1, h2, h3, h4, h5⟩ hg hr =>
  ⟨h0, atC_grown h1 (by simp) hg (fun r e => (hr r e).2), atC_grown h2 (by decide) hg (fun r e => (hr r e).2), atC_grown h3 (by decide) hg (fun r e => (hr r e).2), ownFrom_below (β := List (Int × En)) (Nat.le_refl _) hn s W W' row h4 hg hr, Nat.le_trans h5 hg.size⟩
theorem a1_own (w : World) (v : Int) (c : Code) (n : Nat) (hn : w.heap.size ≤ n) : OwnFrom n (A1 w v c) := fun s W W' row ⟨⟨h0, p, x, hx, hp, hv, h1, h2⟩, h4⟩ hg hr =>
  ⟨⟨h0, p, x, hx, hp, hv, atC_grown h1 (by simp) hg (fun r e => (hr r e).2), atC_grown h2 (by simp) hg (fun r e => (hr r e).2)⟩, ownFrom_below (β := List (Int × En)) (Nat.le_refl _) hn s W W' row h4 hg hr⟩
theorem at_found {g : Rg} {v : Int} (hv : 0 ≤ v) {p : List (Int × En)} {x : Int × En} (h : p ++ [x] <+: kept g) (hp : ∀ y ∈ p, decide (y.1 ≤ v) = false) (hx : x.1 ≤ v) : atR g v = (x.2, 0) := by
  obtain ⟨t, ht⟩ := h
  unfold atR
  rw [if_neg (by omega), ← ht, List.append_assoc, List.find?_append]
  rw [List.find?_eq_none.2 (fun y hy => by rw [hp y hy]; simp)]
  simp [hx]
theorem at_none {g : Rg} {v : Int} (hv : 0 ≤ v) (hp : ∀ y ∈ kept g, decide (y.1 ≤ v) = false) : atR g v = if g.size < g.all.length then (zeroEn, 160) else (neverE g.h, 0) := by
  unfold atR
  rw [if_neg (by omega), List.find?_eq_none.2 (fun y hy => by rw [hp y hy]; simp)]
set_option maxHeartbeats 4000000 in
theorem at_in {B : Nat} {g : Rg} {R : List (Int × En)} (v : Int) (w : World) (hA : RgAt w B g R) (hn : g.all.length ≤ 1000000) (hv : 0 ≤ v) :
    CallsIn Fence.wide 9 Try.prog 23 #[ptr B, .int .i64 v] w fun e w' => e = .returned (.tuple #[en (atR g v).1, .int .i64 (atR g v).2]) ∧ Below w.heap.size w w' := by
  have hF : Fence.wide.fn 23 := trivial
  have hF1 : Fence.wide.fn 33 := trivial
  have hF2 : Fence.wide.fn 27 := trivial
  have hF3 : Fence.wide.fn 39 := trivial
  have hF4 : Fence.wide.fn 34 := trivial
  have hF5 : Fence.wide.fn 18 := trivial
  have b0 := (((Below.refl w.heap.size w).alloc (Nat.le_refl _) (.cells #[.int .i64 v] 3)).alloc (by simp) (.cells (enC zeroEn) 35)).alloc (by simp; omega) (.cells #[.int .i64 0] 24)
  have m0 := ((AtC.new w #[.int .i64 v] 3).al (.cells (enC zeroEn) 35)).al (.cells #[.int .i64 0] 24)
  have m1 : AtC _ (w.heap.size + 1) (enC zeroEn) := (AtC.newAt (w := w.alloc (.cells #[.int .i64 v] 3)) (T := 35) (by simp)).al (.cells #[.int .i64 0] 24)
  have m2 : AtC (((w.alloc (.cells #[.int .i64 v] 3)).alloc (.cells (enC zeroEn) 35)).alloc (.cells #[.int .i64 0] 24)) (w.heap.size + 2) #[.int .i64 0] := AtC.newAt (by simp)
  have hsz : (((w.alloc (.cells #[.int .i64 v] 3)).alloc (.cells (enC zeroEn) 35)).alloc (.cells #[.int .i64 0] 24)).heap.size = w.heap.size + 3 := by simp
  have h1 := hA.s1
  have hv0 : decide (v < 0) = false := decide_eq_false (by omega)
  have HA := Lib.hid hA
  have hlB := hA.lt
  clear hA
  have c00 : (((w.alloc (.cells #[.int .i64 v] 3)).alloc (.cells (enC zeroEn) 35)).alloc (.cells #[.int .i64 0] 24)).cell? ⟨w.heap.size, 0, none⟩ = some (.int .i64 v) := m0.c 0
  refine callsIn_of_wp_marks Try.func23 rfl hF ?_ rfl
  simp only [Try.ntmps23, List.size_toArray, List.length_cons, List.length_nil, Nat.reduceAdd, Nat.reduceSub, Array.replicate_succ, Array.replicate_zero, List.push_toArray, List.append_toArray, List.nil_append, List.cons_append]
  have CM := Lib.hid (made_any (B := B) (((w.alloc (.cells #[.int .i64 v] 3)).alloc (.cells (enC zeroEn) 35)).alloc (.cells #[.int .i64 0] 24)) (HA.out.below b0).c0)
  have CB := Lib.hid (back_any (B := B) (((w.alloc (.cells #[.int .i64 v] 3)).alloc (.cells (enC zeroEn) 35)).alloc (.cells #[.int .i64 0] 24)))
  gi_wp2_with (first
    | (gi_at_call 27; refine (callsIn_wide.2 CM.out).mono ?_; rintro e w1 ⟨rfl, rfl⟩)
    | (gi_at_call 33; refine (callsIn_wide.2 CB.out).mono ?_; rintro e w1 ⟨rfl, rfl⟩))
  change Code.wpIn _ _ _ _ _ _ ((((w.alloc (.cells #[.int .i64 v] 3)).alloc (.cells (enC zeroEn) 35)).alloc (.cells #[.int .i64 0] 24)).alloc (.cells #[ptr B] 23))
  have b1 := b0.alloc (by rw [hsz]; omega) (.cells #[ptr B] 23)
  have n0 := m0.al (.cells #[ptr B] 23)
  have n1 := m1.al (.cells #[ptr B] 23)
  have n2 := m2.al (.cells #[ptr B] 23)
  have n3 : AtC ((((w.alloc (.cells #[.int .i64 v] 3)).alloc (.cells (enC zeroEn) 35)).alloc (.cells #[.int .i64 0] 24)).alloc (.cells #[ptr B] 23)) (w.heap.size + 3) #[ptr B] := AtC.newAt (by rw [hsz])
  have hsz1 : ((((w.alloc (.cells #[.int .i64 v] 3)).alloc (.cells (enC zeroEn) 35)).alloc (.cells #[.int .i64 0] 24)).alloc (.cells #[ptr B] 23)).heap.size = w.heap.size + 4 := by rw [World.size_alloc, hsz]
  clear m0 m1 m2 b0 CM CB c00
  clear hsz
  generalize (((w.alloc (.cells #[.int .i64 v] 3)).alloc (.cells (enC zeroEn) 35)).alloc (.cells #[.int .i64 0] 24)).alloc (.cells #[ptr B] 23) = W0 at *
  have hR0 := HA.out.below b1
  have c3 : W0.cell? ⟨w.heap.size + 3, 0, none⟩ = some (ptr B) := n3.c 0
  have hseq := back1_stops (9 - 1) (by omega) (w.heap.size + 3) B g R W0 c3 n3.lt hR0 hn
  refine wpIn_rangeFunc_ownH rfl (by omega) (gf := 39) (lb := #[.pointer (some ⟨w.heap.size + 3, 0, none⟩)]) rfl hF3 (enters_of Try.func39 (by kernel_rfl) rfl)
    hseq (fun h k => h.t k) (kb_b (n := W0.heap.size) (by omega) (by omega)) (Below.refl _ _) (fun _ => rfl)
    (A0 w v) (A1 w v) (a0_own w v _ (by omega)) (fun c => a1_own w v c _ (by omega)) ⟨(fun y hy => by cases hy), n0, n1, n2, b1, by omega⟩
    (fun x a' W' => ∃ b6, a' = { tmps := #[ptr B, .int .i64 v, undef, ptr w.heap.size, ptr (w.heap.size + 1), ptr (w.heap.size + 2), .int .i64 x.1, ptr b6, .bool false, ptr B, .bool true, .bool false, undef, .bool false, .int .i64 v, .bool false, undef, ptr B, .func (.func 39) #[] #[.pointer (some ⟨w.heap.size + 3, 0, none⟩)], .int .i64 x.1, en x.2, undef, undef, undef, undef, undef, undef, undef, undef, undef, undef], defers := [] } ∧ AtC W' b6 (enC x.2) ∧ w.heap.size + 4 ≤ b6)
    (fun x a' s W W' row ⟨b6, h1, h2, h3⟩ hg hr => ⟨b6, h1, atC_grown h2 (by simp) hg (fun r e => (hr r e).2), h3⟩) ?assign ?body ?done ?stop
  case assign =>
    rintro l pre x W K ⟨h0, h1, h2, h3, h4, h5⟩ hK
    have N5 := AtC.new W (enC zeroEn) 35
    have n5t : (W.alloc (.cells (enC zeroEn) 35)).there W.heap.size 0 (enC x.2).size := there_at (C := enC zeroEn) N5
    have X6 := set_at (C := enC x.2) N5 rfl
    have K6 := set_below (bAl (Below.refl W.heap.size W) (.cells (enC zeroEn) 35)) (Nat.le_refl _) (enC x.2)
    have hE1 := en_one x.2
    gi_wp2_with ((show wpListIn _ _ _ _ _ [{ dst := none, op := _, type := _, pos := _, after := _, guard := _ }] _ _); (refine wpListIn_store_mid rfl _ _ _ rfl W.heap.size 0 (enC x.2) rfl rfl n5t (by kernel_rfl) hE1 ?_))
    exact hK _ _ (kf_below K6) ⟨K6.block _ (by omega), K6.block _ (by omega)⟩ ⟨h0, h1.then K6, h2.then K6, h3.then K6, bThen h4 K6, Nat.le_trans h5 K6.size⟩ ⟨W.heap.size, rfl, X6, h5⟩
  case body =>
    rintro l pre x a' W hl hr ⟨h0, h1, h2, h3, h4, h5⟩ ⟨b6, rfl, X6, hb6⟩ hlt
    have HI := Lib.hid (show A0 w v pre W from ⟨h0, h1, h2, h3, h4, h5⟩)
    have c0 : W.cell? ⟨w.heap.size, 0, none⟩ = some (.int .i64 v) := h1.c 0
    by_cases hx : x.1 ≤ v
    · obtain ⟨CE, hE⟩ : ∃ CE, enC x.2 = CE := ⟨_, rfl⟩
      have hEs : (Try.prog.info? 35).map (·.size) = some CE.toList.length := by rw [← hE]; kernel_rfl
      have hEs2 : (Try.prog.info? 35).map (·.size) = some CE.size := by rw [← hE]; kernel_rfl
      have hE1 : CE.all (·.oneCell') = true := by rw [← hE]; exact en_one x.2
      have hE0 : (enC zeroEn).size = CE.size := by rw [← hE]; rfl
      rw [hE] at X6
      have HE := Lib.hid hE
      have HZ1 : Hid (W.there (w.heap.size + 1) 0 CE.size) := Lib.hid (by rw [← hE0]; exact there_at (C := enC zeroEn) h2)
      have g3 := atC_kept h3 (set_kept (B := w.heap.size + 1) CE) (by show w.heap.size + 2 ≠ _; omega)
      have z2 : (W.setCells (w.heap.size + 1) 0 CE.toList).cell? ⟨w.heap.size + 2, 0, none⟩ = some (.int .i64 0) := g3.c 0
      have f2 := g3.f 0
      have y1 := (set_at (C := CE) h2 hE0).store (p := ⟨w.heap.size + 2, 0, none⟩) (by show w.heap.size + 2 ≠ _; omega) (.int .i64 0)
      have y2 := g3.set (i := 0) (by simp) (.int .i64 0)
      have HX := Lib.hid (range_at X6)
      have kk : Kept W ((W.setCells (w.heap.size + 1) 0 CE.toList).setCell ⟨w.heap.size + 2, 0, none⟩ (.int .i64 0)) (fun k => k ≠ w.heap.size + 1 ∧ k ≠ w.heap.size + 2) :=
        ((set_kept (B := w.heap.size + 1) CE).weak (fun k q => q.1)).set (by simp) _
      have KK := Lib.hid kk
      have KF := Lib.hid (keepsOthers_of kk (fun k o ho hc => ⟨atC_far h2 (by simp) ho hc, atC_far h3 (by simp) ho hc⟩))
      have Y1 := Lib.hid y1
      have Y2 := Lib.hid y2
      clear hseq n0 n1 n2 b1 hR0 c3 y1 y2 g3 kk X6 h1 h2 h3 h4 hE
      gi_wp2_with (first
        | ((show wpListIn _ _ _ _ _ ({ dst := some 24, op := _, type := _, pos := _, after := _, guard := _ } :: _) _ _); (refine wpListIn_load_mid rfl _ _ rfl b6 0 rfl CE.toList _ HX.out Try.underlying35 rfl hEs ?_))
        | ((show wpListIn _ _ _ _ _ ({ dst := none, op := Op.store 35 _ _, type := _, pos := _, after := _, guard := _ } :: _) _ _); (refine wpListIn_store_mid rfl _ _ _ rfl (w.heap.size + 1) 0 CE rfl rfl HZ1.out hEs2 hE1 ?_)))
      have HB := Lib.hid HI.out.2.2.2.2.1
      exact ⟨KF.out.from _, ⟨rfl, pre, x, rfl, HI.out.1, hx, by rw [HE.out]; exact Y1.out, by simpa using Y2.out⟩, HB.out.trans (KK.out.below HB.out.size (fun k hk => ⟨by omega, by omega⟩))⟩
    · clear hseq n0 n1 n2 b1 hR0 c3 X6 h1 h2 h3 h4
      gi_wp2
      have hI := HI.out
      exact ⟨KeepsFrom.refl _ _, ⟨rfl, rfl⟩, ⟨fun y hy => by
        rcases List.mem_append.1 hy with q | q
        · exact hI.1 y q
        · rw [List.mem_singleton.1 q]; exact decide_eq_false (by omega), hI.2⟩⟩
  case done =>
    rintro D ys W hD rfl ⟨hys, h1, h2, h3, h4, h5⟩ hK
    have HV := Lib.hid (at_none hv hys)
    have CD := Lib.hid (dropped_any W (HA.out.below h4) hn)
    have H2 := Lib.hid h2
    have H3 := Lib.hid h3
    have H4 := Lib.hid h4
    have hDW : D < W.heap.size := (Array.getElem?_eq_some_iff.1 hK).1
    have HK := Lib.hid hK
    have HD : Hid (dropN g = g.all.length - g.size) := Lib.hid rfl
    clear hseq n0 n1 n2 b1 hR0 c3 h1 h2 h3 h4 hys hK
    by_cases hd : g.size < g.all.length
    · have hd2 : (0 : Int) < (dropN g : Int) := by have := HD.out; omega
      have HV2 : Hid (atR g v = (zeroEn, 160)) := Lib.hid (by rw [HV.out, if_pos hd])
      generalize dropN g = dn at *
      have hE1 := en_one zeroEn
      gi_wp2_with (first
        | (gi_at_call 18; refine (callsIn_wide.2 CD.out).mono ?_; rintro e w1 ⟨rfl, k1⟩; have G2 := Lib.hid (H2.out.then k1); have G3 := Lib.hid (atC_kept (H3.out.then k1) (set_kept (B := w.heap.size + 1) (enC zeroEn)) (by show w.heap.size + 2 ≠ _; omega)); have K1 := Lib.hid k1; have S2 := Lib.hid (set_at (C := enC zeroEn) G2.out rfl); have KS := Lib.hid (set_kept (W := w1) (B := w.heap.size + 1) (enC zeroEn)); have HT : Hid (w1.there (w.heap.size + 1) 0 (enC zeroEn).size) := Lib.hid (there_at (C := enC zeroEn) G2.out); clear k1)
        | ((show wpListIn _ _ _ _ _ ({ dst := none, op := Op.store 35 _ _, type := _, pos := _, after := _, guard := _ } :: _) _ _); (refine wpListIn_store_mid rfl _ _ _ rfl (w.heap.size + 1) 0 (enC zeroEn) rfl rfl HT.out (by kernel_rfl) hE1 ?_); generalize w1.setCells (w.heap.size + 1) 0 (enC zeroEn).toList = Wx at *; have z2 := G3.out.c 0; have f2 := G3.out.f 0))
      have y1 := S2.out.store (p := ⟨w.heap.size + 2, 0, none⟩) (by show w.heap.size + 2 ≠ _; omega) (.int .i64 (160))
      have y2 := G3.out.set (i := 0) (by simp) (.int .i64 (160))
      have kk : Kept w1 (Wx.setCell ⟨w.heap.size + 2, 0, none⟩ (.int .i64 (160))) (fun k => k ≠ w.heap.size + 1 ∧ k ≠ w.heap.size + 2) :=
        (KS.out.weak (fun k q => q.1)).set (by simp) _
      have hw1 := K1.out.size
      change _ ∧ _
      generalize (Wx.setCell ⟨w.heap.size + 2, 0, none⟩ (.int .i64 (160))) = Wf at *
      have hKf : Wf.heap[D]? = some (.deferred (some [])) := (kk.block D (by omega) ⟨by omega, by omega⟩).trans ((K1.out.block D hDW).trans HK.out)
      have hfar : ∀ r, some D = some r → ∃ o : Obj, Wf.heap[r]? = some o ∧ o.isCells = false := fun r e => by cases e; exact ⟨_, hKf, rfl⟩
      have q1 := atC_grown y1 (by simp) (grownBy_putObj' Wf D (.deferred none)) hfar
      have q2 := atC_grown y2 (by simp) (grownBy_putObj' Wf D (.deferred none)) hfar
      refine ⟨by simp, .inl ⟨_, _, rfl, run_takeDeferred hKf, ?_⟩⟩
      refine ⟨_, results_c2 rfl rfl rfl (load_row q1 (agg_en _) (sz_en _)) (load_cell (agg_errno _) (q2.c 0)), by rw [HV2.out]; rfl, ?_⟩
      exact ((H4.out.trans (K1.out.mono (by omega))).trans (kk.below (B := w.heap.size) (by omega) (fun k hk => ⟨by omega, by omega⟩))).trans (belowK_b (w := w) (Nat.le_refl _) Wf D _ _ (by omega) hKf rfl rfl)
    · have hd2 : ¬ (0 : Int) < (dropN g : Int) := by have := HD.out; omega
      have HV2 : Hid (atR g v = (neverE g.h, 0)) := Lib.hid (by rw [HV.out, if_neg hd])
      have CN := Lib.hid (fun W2 (k : Below W.heap.size W W2) => never_any (B := B) g.h W2 (Nat.lt_of_lt_of_le (by omega) k.size) (HA.out.below (bThen H4.out k)).c1)
      generalize dropN g = dn at *
      have hE1 := en_one (neverE g.h)
      gi_wp2_with (first
        | (gi_at_call 18; refine (callsIn_wide.2 CD.out).mono ?_; rintro e w0 ⟨rfl, k0⟩; have K0 := Lib.hid k0; clear k0)
        | (gi_at_call 34; refine (callsIn_wide.2 (CN.out _ K0.out)).mono ?_; rintro e w1 ⟨rfl, k2⟩; have k1 := bThen K0.out k2; have G2 := Lib.hid (H2.out.then k1); have G3 := Lib.hid (atC_kept (H3.out.then k1) (set_kept (B := w.heap.size + 1) (enC (neverE g.h))) (by show w.heap.size + 2 ≠ _; omega)); have K1 := Lib.hid k1; have S2 := Lib.hid (set_at (C := enC (neverE g.h)) G2.out rfl); have KS := Lib.hid (set_kept (W := w1) (B := w.heap.size + 1) (enC (neverE g.h))); have HT : Hid (w1.there (w.heap.size + 1) 0 (enC (neverE g.h)).size) := Lib.hid (there_at (C := enC zeroEn) G2.out); clear k1 k2)
        | ((show wpListIn _ _ _ _ _ ({ dst := none, op := Op.store 35 _ _, type := _, pos := _, after := _, guard := _ } :: _) _ _); (refine wpListIn_store_mid rfl _ _ _ rfl (w.heap.size + 1) 0 (enC (neverE g.h)) rfl rfl HT.out (by kernel_rfl) hE1 ?_); generalize w1.setCells (w.heap.size + 1) 0 (enC (neverE g.h)).toList = Wx at *; have z2 := G3.out.c 0; have f2 := G3.out.f 0))
      have y1 := S2.out.store (p := ⟨w.heap.size + 2, 0, none⟩) (by show w.heap.size + 2 ≠ _; omega) (.int .i64 (0))
      have y2 := G3.out.set (i := 0) (by simp) (.int .i64 (0))
      have kk : Kept w1 (Wx.setCell ⟨w.heap.size + 2, 0, none⟩ (.int .i64 (0))) (fun k => k ≠ w.heap.size + 1 ∧ k ≠ w.heap.size + 2) :=
        (KS.out.weak (fun k q => q.1)).set (by simp) _
      have hw1 := K1.out.size
      change _ ∧ _
      generalize (Wx.setCell ⟨w.heap.size + 2, 0, none⟩ (.int .i64 (0))) = Wf at *
      have hKf : Wf.heap[D]? = some (.deferred (some [])) := (kk.block D (by omega) ⟨by omega, by omega⟩).trans ((K1.out.block D hDW).trans HK.out)
      have hfar : ∀ r, some D = some r → ∃ o : Obj, Wf.heap[r]? = some o ∧ o.isCells = false := fun r e => by cases e; exact ⟨_, hKf, rfl⟩
      have q1 := atC_grown y1 (by simp) (grownBy_putObj' Wf D (.deferred none)) hfar
      have q2 := atC_grown y2 (by simp) (grownBy_putObj' Wf D (.deferred none)) hfar
      refine ⟨by simp, .inl ⟨_, _, rfl, run_takeDeferred hKf, ?_⟩⟩
      refine ⟨_, results_c2 rfl rfl rfl (load_row q1 (agg_en _) (sz_en _)) (load_cell (agg_errno _) (q2.c 0)), by rw [HV2.out]; rfl, ?_⟩
      exact ((H4.out.trans (K1.out.mono (by omega))).trans (kk.below (B := w.heap.size) (by omega) (fun k hk => ⟨by omega, by omega⟩))).trans (belowK_b (w := w) (Nat.le_refl _) Wf D _ _ (by omega) hKf rfl rfl)
  case stop =>
    rintro D c pre W hD hpre ⟨⟨rfl, p, x, rfl, hp, hx, h1, h2⟩, h4⟩ hK
    have HV := Lib.hid (at_found hv hpre hp hx)
    have hfar : ∀ r, some D = some r → ∃ o : Obj, W.heap[r]? = some o ∧ o.isCells = false := fun r e => by cases e; exact ⟨_, hK, rfl⟩
    have q1 := atC_grown h1 (by simp) (grownBy_putObj' W D (.deferred none)) hfar
    have q2 := atC_grown h2 (by simp) (grownBy_putObj' W D (.deferred none)) hfar
    clear hseq n0 n1 n2 b1 hR0 c3 h1 h2
    gi_wp2
    refine ⟨by simp, .inl ⟨_, _, rfl, run_takeDeferred hK, ?_⟩⟩
    refine ⟨_, results_c2 rfl rfl rfl (load_row q1 (agg_en _) (sz_en _)) (load_cell (agg_errno _) (q2.c 0)), ?_, h4.trans (belowK_b (w := w) (Nat.le_refl _) W D _ _ (by omega) hK rfl rfl)⟩
    rw [HV.out]; rfl
theorem at_any {B : Nat} {g : Rg} {R : List (Int × En)} (v : Int) (w : World) (hA : RgAt w B g R) (hn : g.all.length ≤ 1000000) (hv : 0 ≤ v) :
    Calls Try.prog 23 #[ptr B, .int .i64 v] w fun e w' => e = .returned (.tuple #[en (atR g v).1, .int .i64 (atR g v).2]) ∧ Below w.heap.size w w' := callsIn_wide.1 (at_in v w hA hn hv)
end Go.Proofs.Ytecdcfmbhphagaa.BX
