/-
  WALK: Last of a ring.
-/
import Derived.Test.YtecdcfmbhphagaaBBack
namespace Go.Proofs.Ytecdcfmbhphagaa.BX
open Go.RowKit HL
open IX (ptr El cellsK cellsK_at cellsK_len OwnK RdK Kept)
open TX (wpAnyS_take wpAnyS_one wpAnyS_done OnNormal)
set_option maxRecDepth 100000
set_option linter.unusedVariables false
set_option linter.unusedSimpArgs false
attribute [local go_sem] Oper.semAt_some

/-! ## blocks of cells beside objects that are none -/
theorem atC_cells {W : World} {B : Nat} {C : Array Value} (h : AtC W B C) (h0 : 0 < C.size) : ∀ o : Obj, W.heap[B]? = some o → o.isCells = true := by
  intro o ho
  have h1 := h.c 0
  rw [Array.getElem?_eq_getElem h0] at h1
  cases o <;> simp_all [World.cell?, Obj.isCells]
theorem atC_far {W : World} {B : Nat} {C : Array Value} (h : AtC W B C) (h0 : 0 < C.size) {k : Nat} {o : Obj} (ho : W.heap[k]? = some o) (hc : o.isCells = false) : k ≠ B := fun e => by
  subst e
  rw [atC_cells h h0 o ho] at hc; cases hc
theorem atC_grown {W W' : World} {B : Nat} {C : Array Value} (h : AtC W B C) (h0 : 0 < C.size) {row : Option Nat} (hg : W.grownBy W' row) (hr : ∀ r, row = some r → ∃ o : Obj, W.heap[r]? = some o ∧ o.isCells = false) : AtC W' B C := by
  have hb : W'.heap[B]? = W.heap[B]? := hg.block B h.lt (fun e => by obtain ⟨o, ho, hc⟩ := hr B e.symm; exact atC_far h h0 ho hc rfl)
  exact ⟨Nat.lt_of_lt_of_le h.lt hg.size, fun i => (World.cell?_of_block (a := ⟨B, i, none⟩) hb).trans (h.c i), fun i => (World.frozen?_of_block (a := ⟨B, i, none⟩) hb).trans (h.f i)⟩
theorem own_atC {β : Type} (n B : Nat) (C : β → Array Value) (h0 : ∀ s, 0 < (C s).size) : OwnFrom n (fun s W => AtC W B (C s)) := fun s W W' row h hg hr => atC_grown h (h0 s) hg (fun r e => (hr r e).2)
theorem keepsOthers_of {W W' : World} {P : Nat → Prop} (h : Kept W W' P) (hp : ∀ k o, W.heap[k]? = some o → o.isCells = false → P k) : KeepsOthers W W' :=
  ⟨h.size, fun k o hk ho => (h.block k (Array.getElem?_eq_some_iff.1 hk).1 (hp k o hk ho)).trans hk⟩
theorem kb_b {B Bb n : Nat} (hB : B < n) (hBb : Bb < n) (W : World) (l : Nat) (o o' : Obj) (hl : n ≤ l) (h : W.heap[l]? = some o) (hc : o.isCells = false) (hw : o.isWalk = false) : KB B Bb W (W.putObj l o') :=
  ⟨World.putObj_heap_other (by omega), World.putObj_heap_other (by omega)⟩
theorem back1_stops (q : Nat) (hq : 1 ≤ q) (Bb B : Nat) (g : Rg) (R : List (Int × En)) (w : World) (hb : w.cell? ⟨Bb, 0, none⟩ = some (ptr B)) (hBb : Bb < w.heap.size) (hR : RgAt w B g R) (hlen : g.all.length ≤ 1000000) :
    SeqStopsK Fence.wide q Try.prog 39 #[.pointer (some ⟨Bb, 0, none⟩)] (fun x : Int × En => #[.int .i64 x.1, en x.2]) (KB B Bb) (fun ys => ys = kept g) (fun pre => pre <+: kept g) (kept g).length w := fun l J Jx W hW hJ _ hY h0 =>
  back1_in q hq l Bb B g R J Jx (fun pre x W1 hj hp => hY pre x W1 hj (by have := hp.length_le; simp at this; omega)) W hJ ((hW.cell (p := ⟨Bb, 0, none⟩) hBb).trans hb) (Nat.lt_of_lt_of_le hBb hW.size) (hR.below hW) hlen h0
theorem kept_one {g : Rg} {x : Int × En} (h1 : 1 ≤ g.size) (h : [x] <+: kept g) : x = (lastV g, lastE g) ∧ isL g = true := by
  rcases List.eq_nil_or_concat g.all with e | ⟨l, y, e⟩
  · rw [kept_nil e] at h; simp at h
  · rw [List.concat_eq_append] at e
    rw [kept_snoc e h1] at h
    obtain ⟨a, b, c⟩ := last_snoc e
    have : x = y := by obtain ⟨t, ht⟩ := h; simp at ht; exact ht.1
    subst this
    exact ⟨by rw [a, b], c⟩
theorem kept_no {g : Rg} (h1 : 1 ≤ g.size) (h : kept g = []) : lastV g = 0 ∧ lastE g = neverE g.h ∧ isL g = false := by
  rcases List.eq_nil_or_concat g.all with e | ⟨l, y, e⟩
  · exact last_nil e
  · rw [List.concat_eq_append] at e
    rw [kept_snoc e h1] at h; cases h
/-! ## results in cells -/
theorem load_cell {P : Program} {W : World} {B : Nat} {ty : TypeId} {v : Value} (ha : (isAgg ty).run P W = .ok false W) (h : W.cell? ⟨B, 0, none⟩ = some v) : (loadVar ty ⟨B, 0, none⟩).run P W = .ok v W := by
  simp [loadVar, Sem.run_bind, ha, go_sem, h]
theorem load_row {P : Program} {W : World} {B : Nat} {C : Array Value} {ty : TypeId} (h : AtC W B C) (ha : (isAgg ty).run P W = .ok true W) (hs : (sizeOf ty).run P W = .ok C.size W) : (loadVar ty ⟨B, 0, none⟩).run P W = .ok (.agg C) W := by
  have hl := run_loadCells_list (P := P) W ⟨B, 0, none⟩ C.toList (fun j v hv => by
    have : (⟨B, 0, none⟩ : Addr).add j = ⟨B, j, none⟩ := by unfold Addr.add; split <;> simp_all
    rw [this, h.c j]; simpa using hv)
  simp only [Array.length_toList, Array.toArray_toList] at hl
  simp [loadVar, Sem.run_bind, ha, hs, hl]
theorem addr_run {P : Program} {W : World} (a : Addr) : (asAddr (.pointer (some a))).run P W = .ok a W := by simp [asAddr, go_sem]
theorem results_c3 {P : Program} {fn : Func} {W : World} {tmps : Array Value} {p q r : Tmp} {t1 t2 t3 : TypeId} {a b c : Addr} {x y z : Value} (hr : fn.results = #[.cell p t1, .cell q t2, .cell r t3])
    (hp : tmps.getD p undef = .pointer (some a)) (hq : tmps.getD q undef = .pointer (some b)) (hz : tmps.getD r undef = .pointer (some c))
    (h1 : (loadVar t1 a).run P W = .ok x W) (h2 : (loadVar t2 b).run P W = .ok y W) (h3 : (loadVar t3 c).run P W = .ok z W) : (results fn tmps).run P W = .ok (.tuple #[x, y, z]) W := by
  have a1 := addr_run (P := P) (W := W) a
  have a2 := addr_run (P := P) (W := W) b
  have a3 := addr_run (P := P) (W := W) c
  simp at hp hq hz
  simp only [results, hr]
  simp [Sem.run_bind, Result.andThen, hp, hq, hz, a1, a2, a3, h1, h2, h3]
theorem results_c2 {P : Program} {fn : Func} {W : World} {tmps : Array Value} {p q : Tmp} {t1 t2 : TypeId} {a b : Addr} {x y : Value} (hr : fn.results = #[.cell p t1, .cell q t2])
    (hp : tmps.getD p undef = .pointer (some a)) (hq : tmps.getD q undef = .pointer (some b))
    (h1 : (loadVar t1 a).run P W = .ok x W) (h2 : (loadVar t2 b).run P W = .ok y W) : (results fn tmps).run P W = .ok (.tuple #[x, y]) W := by
  have a1 := addr_run (P := P) (W := W) a
  have a2 := addr_run (P := P) (W := W) b
  simp at hp hq
  simp only [results, hr]
  simp [Sem.run_bind, Result.andThen, hp, hq, a1, a2, h1, h2]
theorem agg_en (W : World) : (isAgg 35).run Try.prog W = .ok true W := by kernel_rfl
theorem sz_en (W : World) : (sizeOf 35).run Try.prog W = .ok 18 W := by kernel_rfl
theorem agg_int (W : World) : (isAgg 3).run Try.prog W = .ok false W := by kernel_rfl
theorem agg_bool (W : World) : (isAgg 4).run Try.prog W = .ok false W := by kernel_rfl
theorem agg_errno (W : World) : (isAgg 24).run Try.prog W = .ok false W := by kernel_rfl
theorem kf_below {n : Nat} {W W' : World} (h : Below W.heap.size W W') : KeepsFrom n W W' := ⟨h.size, fun k o _ hk _ => (h.block k (Array.getElem?_eq_some_iff.1 hk).1).trans hk⟩
/-- Ahead of the first round. -/
def I0 (w : World) (pre : List (Int × En)) (W : World) : Prop := pre = [] ∧ AtC W w.heap.size #[.int .i64 0] ∧ AtC W (w.heap.size + 1) (enC zeroEn) ∧ AtC W (w.heap.size + 2) #[.bool false] ∧ Below w.heap.size w W ∧ w.heap.size + 4 ≤ W.heap.size
/-- Told. -/
def I1 (w : World) (c : Code) (pre : List (Int × En)) (W : World) : Prop := (c = .ret ∧ ∃ x, pre = [x] ∧ AtC W w.heap.size #[.int .i64 x.1] ∧ AtC W (w.heap.size + 1) (enC x.2) ∧ AtC W (w.heap.size + 2) #[.bool true]) ∧ Below w.heap.size w W
theorem i0_own (w : World) (n : Nat) (hn : w.heap.size ≤ n) : OwnFrom n (I0 w) := fun s W W' row ⟨h0, h1, h2, h3, h4, h5⟩ hg hr =>
  ⟨h0, atC_grown h1 (by decide) hg (fun r e => (hr r e).2), atC_grown h2 (by decide) hg (fun r e => (hr r e).2), atC_grown h3 (by decide) hg (fun r e => (hr r e).2), ownFrom_below (β := List (Int × En)) (Nat.le_refl _) hn s W W' row h4 hg hr, Nat.le_trans h5 hg.size⟩
theorem i1_own (w : World) (c : Code) (n : Nat) (hn : w.heap.size ≤ n) : OwnFrom n (I1 w c) := fun s W W' row ⟨⟨h0, x, hx, h1, h2, h3⟩, h4⟩ hg hr =>
  ⟨⟨h0, x, hx, atC_grown h1 (by simp) hg (fun r e => (hr r e).2), atC_grown h2 (by simp) hg (fun r e => (hr r e).2), atC_grown h3 (by simp) hg (fun r e => (hr r e).2)⟩, ownFrom_below (β := List (Int × En)) (Nat.le_refl _) hn s W W' row h4 hg hr⟩
set_option maxHeartbeats 4000000 in
theorem last_in {B : Nat} {g : Rg} {R : List (Int × En)} (w : World) (hA : RgAt w B g R) (hn : g.all.length ≤ 1000000) :
    CallsIn Fence.wide 9 Try.prog 16 #[ptr B] w fun e w' => e = .returned (.tuple #[.int .i64 (lastV g), en (lastE g), .bool (isL g)]) ∧ Below w.heap.size w w' := by
  have hF : Fence.wide.fn 16 := trivial
  have hF1 : Fence.wide.fn 33 := trivial
  have hF2 : Fence.wide.fn 27 := trivial
  have hF3 : Fence.wide.fn 39 := trivial
  have hF4 : Fence.wide.fn 34 := trivial
  have b0 := (((Below.refl w.heap.size w).alloc (Nat.le_refl _) (.cells #[.int .i64 0] 3)).alloc (by simp) (.cells (enC zeroEn) 35)).alloc (by simp; omega) (.cells #[.bool false] 4)
  have m0 := ((AtC.new w #[.int .i64 0] 3).al (.cells (enC zeroEn) 35)).al (.cells #[.bool false] 4)
  have m1 : AtC _ (w.heap.size + 1) (enC zeroEn) := (AtC.newAt (w := w.alloc (.cells #[.int .i64 0] 3)) (T := 35) (by simp)).al (.cells #[.bool false] 4)
  have m2 : AtC ((((w.alloc (.cells #[.int .i64 0] 3)).alloc (.cells (enC zeroEn) 35))).alloc (.cells #[.bool false] 4)) (w.heap.size + 2) #[.bool false] := AtC.newAt (by simp)
  have hsz : ((((w.alloc (.cells #[.int .i64 0] 3)).alloc (.cells (enC zeroEn) 35))).alloc (.cells #[.bool false] 4)).heap.size = w.heap.size + 3 := by simp
  have h1 := hA.s1
  have HA := Lib.hid hA
  have hlB := hA.lt
  clear hA
  refine callsIn_of_wp_marks Try.func16 rfl hF ?_ rfl
  simp only [Try.ntmps16, List.size_toArray, List.length_cons, List.length_nil, Nat.reduceAdd, Nat.reduceSub, Array.replicate_succ, Array.replicate_zero, List.push_toArray, List.append_toArray, List.nil_append, List.cons_append]
  have CM := Lib.hid (made_any (B := B) ((((w.alloc (.cells #[.int .i64 0] 3)).alloc (.cells (enC zeroEn) 35))).alloc (.cells #[.bool false] 4)) (HA.out.below b0).c0)
  have CB := Lib.hid (back_any (B := B) ((((w.alloc (.cells #[.int .i64 0] 3)).alloc (.cells (enC zeroEn) 35))).alloc (.cells #[.bool false] 4)))
  gi_wp2_with (first
    | (gi_at_call 27; refine (callsIn_wide.2 CM.out).mono ?_; rintro e w1 ⟨rfl, rfl⟩)
    | (gi_at_call 33; refine (callsIn_wide.2 CB.out).mono ?_; rintro e w1 ⟨rfl, rfl⟩))
  change Code.wpIn _ _ _ _ _ _ (((((w.alloc (.cells #[.int .i64 0] 3)).alloc (.cells (enC zeroEn) 35))).alloc (.cells #[.bool false] 4)).alloc (.cells #[ptr B] 23))
  have b1 := b0.alloc (by rw [hsz]; omega) (.cells #[ptr B] 23)
  have n0 := m0.al (.cells #[ptr B] 23)
  have n1 := m1.al (.cells #[ptr B] 23)
  have n2 := m2.al (.cells #[ptr B] 23)
  have n3 : AtC (((((w.alloc (.cells #[.int .i64 0] 3)).alloc (.cells (enC zeroEn) 35))).alloc (.cells #[.bool false] 4)).alloc (.cells #[ptr B] 23)) (w.heap.size + 3) #[ptr B] := AtC.newAt (by rw [hsz])
  have hsz1 : (((((w.alloc (.cells #[.int .i64 0] 3)).alloc (.cells (enC zeroEn) 35))).alloc (.cells #[.bool false] 4)).alloc (.cells #[ptr B] 23)).heap.size = w.heap.size + 4 := by rw [World.size_alloc, hsz]
  clear m0 m1 m2 b0 CM CB
  clear hsz
  generalize ((((w.alloc (.cells #[.int .i64 0] 3)).alloc (.cells (enC zeroEn) 35))).alloc (.cells #[.bool false] 4)).alloc (.cells #[ptr B] 23) = W0 at *
  have hR0 := HA.out.below b1
  have c3 : W0.cell? ⟨w.heap.size + 3, 0, none⟩ = some (ptr B) := n3.c 0
  have hseq := back1_stops (9 - 1) (by omega) (w.heap.size + 3) B g R W0 c3 n3.lt hR0 hn
  refine wpIn_rangeFunc_ownH rfl (by omega) (gf := 39) (lb := #[.pointer (some ⟨w.heap.size + 3, 0, none⟩)]) rfl hF3 (enters_of Try.func39 (by kernel_rfl) rfl)
    hseq (fun h k => h.t k) (kb_b (n := W0.heap.size) (by omega) (by omega)) (Below.refl _ _) (fun _ => rfl)
    (I0 w) (I1 w) (i0_own w _ (by omega)) (fun c => i1_own w c _ (by omega)) ⟨rfl, n0, n1, n2, b1, by omega⟩
    (fun x a' W' => ∃ b6, a' = { tmps := #[ptr B, undef, ptr w.heap.size, ptr (w.heap.size + 1), ptr (w.heap.size + 2), .int .i64 x.1, ptr b6, ptr B, .bool true, .bool false, undef, ptr B, .func (.func 39) #[] #[.pointer (some ⟨w.heap.size + 3, 0, none⟩)], .int .i64 x.1, en x.2, undef, undef, undef, undef], defers := [] } ∧ AtC W' b6 (enC x.2) ∧ w.heap.size + 4 ≤ b6)
    (fun x a' s W W' row ⟨b6, h1, h2, h3⟩ hg hr => ⟨b6, h1, atC_grown h2 (by simp) hg (fun r e => (hr r e).2), h3⟩) ?assign ?body ?done ?stop
  case assign =>
    rintro l pre x W K ⟨rfl, h1, h2, h3, h4, h5⟩ hK
    have N5 := AtC.new W (enC zeroEn) 35
    have n5t : (W.alloc (.cells (enC zeroEn) 35)).there W.heap.size 0 (enC x.2).size := there_at (C := enC zeroEn) N5
    have X6 := set_at (C := enC x.2) N5 rfl
    have K6 := set_below (bAl (Below.refl W.heap.size W) (.cells (enC zeroEn) 35)) (Nat.le_refl _) (enC x.2)
    have hE1 := en_one x.2
    gi_wp2_with ((show wpListIn _ _ _ _ _ [{ dst := none, op := _, type := _, pos := _, after := _, guard := _ }] _ _); (refine wpListIn_store_mid rfl _ _ _ rfl W.heap.size 0 (enC x.2) rfl rfl n5t (by kernel_rfl) hE1 ?_))
    exact hK _ _ (kf_below K6) ⟨K6.block _ (by omega), K6.block _ (by omega)⟩ ⟨rfl, h1.then K6, h2.then K6, h3.then K6, bThen h4 K6, Nat.le_trans h5 K6.size⟩ ⟨W.heap.size, rfl, X6, h5⟩
  case body =>
    rintro l pre x a' W hl hr ⟨rfl, h1, h2, h3, h4, h5⟩ ⟨b6, rfl, X6, hb6⟩ hlt
    obtain ⟨CE, hE⟩ : ∃ CE, enC x.2 = CE := ⟨_, rfl⟩
    have hEs : (Try.prog.info? 35).map (·.size) = some CE.toList.length := by rw [← hE]; kernel_rfl
    have hEs2 : (Try.prog.info? 35).map (·.size) = some CE.size := by rw [← hE]; kernel_rfl
    have hE1 : CE.all (·.oneCell') = true := by rw [← hE]; exact en_one x.2
    have hE0 : (enC zeroEn).size = CE.size := by rw [← hE]; rfl
    rw [hE] at X6
    have HE := Lib.hid hE
    have HZ0 := Lib.hid h1.drew1
    have g2 := h2.drew1.store (p := ⟨w.heap.size, 0, none⟩) (by show w.heap.size ≠ _; omega) (.int .i64 x.1)
    have HZ1 : Hid ((W.drew.setCell ⟨w.heap.size, 0, none⟩ (.int .i64 x.1)).there (w.heap.size + 1) 0 CE.size) := Lib.hid (by rw [← hE0]; exact there_at (C := enC zeroEn) g2)
    have HZ2 : Hid (AtC ((W.drew.setCell ⟨w.heap.size, 0, none⟩ (.int .i64 x.1)).setCells (w.heap.size + 1) 0 CE.toList) (w.heap.size + 2) #[.bool false]) := Lib.hid (atC_kept (h3.drew1.store (p := ⟨w.heap.size, 0, none⟩) (by show w.heap.size ≠ _; omega) _) (set_kept CE) (by show w.heap.size + 2 ≠ _; omega))
    have y0 := (h1.drew1.set (i := 0) (by simp) (.int .i64 x.1))
    have y1 := set_at (C := CE) g2 hE0
    have y2 := HZ2.out.set (i := 0) (by simp) (.bool true)
    have e0 := (atC_kept y0 (set_kept (B := w.heap.size + 1) CE) (by show w.heap.size ≠ _; omega)).store (p := ⟨w.heap.size + 2, 0, none⟩) (by show w.heap.size + 2 ≠ _; omega) (.bool true)
    have e1 := y1.store (p := ⟨w.heap.size + 2, 0, none⟩) (by show w.heap.size + 2 ≠ _; omega) (.bool true)
    have x2 := X6.drew1.store (p := ⟨w.heap.size, 0, none⟩) (by show w.heap.size ≠ _; omega) (.int .i64 x.1)
    have x3 := atC_kept x2 (set_kept (B := w.heap.size + 1) CE) (by show b6 ≠ _; omega)
    have x4 := x3.store (p := ⟨w.heap.size + 2, 0, none⟩) (by show w.heap.size + 2 ≠ _; omega) (.bool true)
    have hS1 : Hid (W.drew.rangeAt b6 0 CE.toList) := Lib.hid (range_at X6.drew1)
    have hS2 := Lib.hid (range_at x2)
    have hS3 := Lib.hid (range_at x3)
    have hS4 := Lib.hid (range_at x4)
    have kk : Kept W (((W.drew.setCell ⟨w.heap.size, 0, none⟩ (.int .i64 x.1)).setCells (w.heap.size + 1) 0 CE.toList).setCell ⟨w.heap.size + 2, 0, none⟩ (.bool true)) (fun k => k ≠ w.heap.size ∧ k ≠ w.heap.size + 1 ∧ k ≠ w.heap.size + 2) :=
      (((Kept.of_below (bD1 W)).set (by simp) _).trans ((set_kept (B := w.heap.size + 1) CE).weak (fun k q => q.2.1))).set (by simp) _
    have KK := Lib.hid kk
    have KF := Lib.hid (keepsOthers_of kk (fun k o ho hc => ⟨atC_far h1 (by simp) ho hc, atC_far h2 (by simp) ho hc, atC_far h3 (by simp) ho hc⟩))
    have Y0 := Lib.hid e0
    have Y1 := Lib.hid e1
    have Y2 := Lib.hid y2
    have HB := Lib.hid h4
    clear hseq n0 n1 n2 b1 hR0 c3 y0 y1 y2 e0 e1 x2 x3 x4 g2 kk X6 h1 h2 h3 h4 hE
    gi_wp2
    simp only [List.size_toArray, List.length_cons, List.length_nil, Nat.reduceAdd, Array.replicate_succ, Array.replicate_zero, List.push_toArray, List.append_toArray, List.nil_append, List.cons_append]
    refine TX.round_held (fun w' : World => Hid (w'.rangeAt b6 0 CE.toList)) [] (by kernel_rfl) (by kernel_rfl) ?_
    generalize W.drew = Wd at *
    refine wpAnyS_take (i := 0) (oi := { dst := some 15, op := Op.move (Operand.tmp 5), type := 3, pos := "ring.go:117", after := #[], guard := none }) (v := .int .i64 x.1) rfl (by kernel_rfl) (by kernel_rfl) (by kernel_rfl) (by kernel_rfl) (fun _ _ _ h => nomatch h.1) (Or.inl ⟨by rfl, ?hyl0⟩) (by assumption) ?restl0
    case hyl0 => (intro w hSw; go_simp; try with_reducible rfl)
    try simp only [Act.put, List.setIfInBounds_toArray, List.set_cons_zero, List.set_cons_succ]
    refine wpAnyS_take (i := 1) (oi := { dst := some 16, op := Op.load 35 (Operand.tmp 6), type := 35, pos := "ring.go:117", after := #[{ on := 2, ground := Ground.gcOnly Departure.lateStores }], guard := none }) (v := .agg CE) rfl (by kernel_rfl) (by kernel_rfl) (by kernel_rfl) (by kernel_rfl) (fun _ _ _ h => nomatch h.1) (yieldsIf_load_mid (by rfl) _ _ rfl (b6) (0) rfl (CE.toList) _ (fun w h => h.out) Try.underlying35 rfl hEs) (by assumption) ?_
    try simp only [Act.put, List.setIfInBounds_toArray, List.set_cons_zero, List.set_cons_succ]
    refine wpAnyS_one (i := 2) (o := { dst := none, op := Op.store 3 (Operand.tmp 2) (Operand.tmp 15), type := 0, pos := "ring.go:117", after := #[{ on := 0, ground := Ground.data }, { on := 0, ground := Ground.phase }, { on := 1, ground := Ground.textOnly Departure.lateStores }], guard := none }) (by kernel_rfl) rfl (fun K hK => ?_)
    have zc := HZ0.out.c 0
    have zf := HZ0.out.f 0
    simp at zc
    go_simp
    go_wp2_with fail
    refine hK.out _ _ (fun _ => hS2) ?_
    clear hK K
    try simp only [Act.put, List.setIfInBounds_toArray, List.set_cons_zero, List.set_cons_succ]
    refine wpAnyS_one (i := 3) (o := { dst := none, op := Op.store 35 (Operand.tmp 3) (Operand.tmp 16), type := 0, pos := "ring.go:117", after := #[{ on := 1, ground := Ground.data }, { on := 2, ground := Ground.chain }, { on := 0, ground := Ground.phase }, { on := 1, ground := Ground.phase }, { on := 2, ground := Ground.phase }], guard := none }) (by kernel_rfl) rfl (fun K hK => ?_)
    refine wp_store_mid _ _ _ rfl (w.heap.size + 1) 0 CE rfl rfl HZ1.out hEs2 hE1 ?_
    refine hK.out _ _ (fun _ => hS3) ?_
    clear hK K
    try simp only [Act.put, List.setIfInBounds_toArray, List.set_cons_zero, List.set_cons_succ]
    refine wpAnyS_one (i := 4) (o := { dst := none, op := Op.store 4 (Operand.tmp 4) (Operand.const (Value.bool true)), type := 0, pos := "ring.go:117", after := #[{ on := 3, ground := Ground.chain }, { on := 0, ground := Ground.phase }, { on := 1, ground := Ground.phase }, { on := 2, ground := Ground.phase }, { on := 3, ground := Ground.phase }], guard := none }) (by kernel_rfl) rfl (fun K hK => ?_)
    have zc := HZ2.out.c 0
    have zf := HZ2.out.f 0
    simp at zc
    go_simp
    go_wp2_with fail
    refine hK.out _ _ (fun _ => hS4) ?_
    clear hK K
    try simp only [Act.put, List.setIfInBounds_toArray, List.set_cons_zero, List.set_cons_succ]
    refine wpAnyS_done (by kernel_rfl) ?_ _
    refine ⟨rfl, ?_⟩
    gi_wp2
    exact ⟨KF.out.from _, ⟨rfl, x, rfl, by simpa using Y0.out, by rw [HE.out]; exact Y1.out, by simpa using Y2.out⟩, HB.out.trans (KK.out.below HB.out.size (fun k hk => ⟨by omega, by omega, by omega⟩))⟩
  case done =>
    rintro D ys W hD rfl ⟨hys, h1, h2, h3, h4, h5⟩ hK
    have HV := Lib.hid (kept_no HA.out.s1 hys)
    have CN := Lib.hid (never_any (B := B) g.h W (by omega) (HA.out.below h4).c1)
    have H1 := Lib.hid h1
    have H2 := Lib.hid h2
    have H3 := Lib.hid h3
    have H4 := Lib.hid h4
    have hDW : D < W.heap.size := (Array.getElem?_eq_some_iff.1 hK).1
    have HK := Lib.hid hK
    have hE1 := en_one (neverE g.h)
    clear hseq n0 n1 n2 b1 hR0 c3 h1 h2 h3 h4 hys hK
    gi_wp2_with (first
      | (gi_at_call 34; refine (callsIn_wide.2 CN.out).mono ?_; rintro e w1 ⟨rfl, k1⟩; have G1 := Lib.hid (H1.out.then k1); have G2 := Lib.hid ((H2.out.then k1).store (p := ⟨w.heap.size, 0, none⟩) (by show w.heap.size ≠ _; omega) (.int .i64 0)); have G3 := Lib.hid (atC_kept ((H3.out.then k1).store (p := ⟨w.heap.size, 0, none⟩) (by show w.heap.size ≠ _; omega) (.int .i64 0)) (set_kept (B := w.heap.size + 1) (enC (neverE g.h))) (by show w.heap.size + 2 ≠ _; omega)); have K1 := Lib.hid k1; have z0 := G1.out.c 0; have f0 := G1.out.f 0; have z2 := G3.out.c 0; have f2 := G3.out.f 0; have HT : Hid ((w1.setCell ⟨w.heap.size, 0, none⟩ (.int .i64 0)).there (w.heap.size + 1) 0 (enC (neverE g.h)).size) := Lib.hid (there_at (C := enC zeroEn) G2.out); clear k1)
      | ((show wpListIn _ _ _ _ _ ({ dst := none, op := Op.store 35 _ _, type := _, pos := _, after := _, guard := _ } :: _) _ _); (refine wpListIn_store_mid rfl _ _ _ rfl (w.heap.size + 1) 0 (enC (neverE g.h)) rfl rfl HT.out (by kernel_rfl) hE1 ?_)))
    have y0 := (atC_kept (G1.out.set (i := 0) (by simp) (.int .i64 0)) (set_kept (B := w.heap.size + 1) (enC (neverE g.h))) (by show w.heap.size ≠ _; omega)).store (p := ⟨w.heap.size + 2, 0, none⟩) (by show w.heap.size + 2 ≠ _; omega) (.bool false)
    have y1 := (set_at (C := enC (neverE g.h)) G2.out rfl).store (p := ⟨w.heap.size + 2, 0, none⟩) (by show w.heap.size + 2 ≠ _; omega) (.bool false)
    have y2 := G3.out.set (i := 0) (by simp) (.bool false)
    have kk : Kept w1 (((w1.setCell ⟨w.heap.size, 0, none⟩ (.int .i64 0)).setCells (w.heap.size + 1) 0 (enC (neverE g.h)).toList).setCell ⟨w.heap.size + 2, 0, none⟩ (.bool false)) (fun k => k ≠ w.heap.size ∧ k ≠ w.heap.size + 1 ∧ k ≠ w.heap.size + 2) :=
      (((Kept.refl w1 _).set (by simp) _).trans ((set_kept (B := w.heap.size + 1) (enC (neverE g.h))).weak (fun k q => q.2.1))).set (by simp) _
    have hw1 := K1.out.size
    change _ ∧ _
    generalize (((w1.setCell ⟨w.heap.size, 0, none⟩ (.int .i64 0)).setCells (w.heap.size + 1) 0 (enC (neverE g.h)).toList).setCell ⟨w.heap.size + 2, 0, none⟩ (.bool false)) = Wf at *
    have hKf : Wf.heap[D]? = some (.deferred (some [])) := (kk.block D (by omega) ⟨by omega, by omega, by omega⟩).trans ((K1.out.block D hDW).trans HK.out)
    have hfar : ∀ r, some D = some r → ∃ o : Obj, Wf.heap[r]? = some o ∧ o.isCells = false := fun r e => by cases e; exact ⟨_, hKf, rfl⟩
    have q0 := atC_grown y0 (by simp) (grownBy_putObj' Wf D (.deferred none)) hfar
    have q1 := atC_grown y1 (by simp) (grownBy_putObj' Wf D (.deferred none)) hfar
    have q2 := atC_grown y2 (by simp) (grownBy_putObj' Wf D (.deferred none)) hfar
    refine ⟨by simp, .inl ⟨_, _, rfl, run_takeDeferred hKf, ?_⟩⟩
    refine ⟨_, results_c3 rfl rfl rfl rfl (load_cell (agg_int _) (q0.c 0)) (load_row q1 (agg_en _) (sz_en _)) (load_cell (agg_bool _) (q2.c 0)), ?_, ?_⟩
    · rw [HV.out.1, HV.out.2.1, HV.out.2.2]; rfl
    · exact ((H4.out.trans (K1.out.mono (by omega))).trans (kk.below (B := w.heap.size) (by omega) (fun k hk => ⟨by omega, by omega, by omega⟩))).trans (belowK_b (w := w) (Nat.le_refl _) Wf D _ _ (by omega) hKf rfl rfl)
  case stop =>
    rintro D c pre W hD hpre ⟨⟨rfl, x, rfl, h1, h2, h3⟩, h4⟩ hK
    have HV := Lib.hid (kept_one HA.out.s1 hpre)
    have hfar : ∀ r, some D = some r → ∃ o : Obj, W.heap[r]? = some o ∧ o.isCells = false := fun r e => by cases e; exact ⟨_, hK, rfl⟩
    have q0 := atC_grown h1 (by simp) (grownBy_putObj' W D (.deferred none)) hfar
    have q1 := atC_grown h2 (by simp) (grownBy_putObj' W D (.deferred none)) hfar
    have q2 := atC_grown h3 (by simp) (grownBy_putObj' W D (.deferred none)) hfar
    clear hseq n0 n1 n2 b1 hR0 c3 h1 h2 h3
    gi_wp2
    refine ⟨by simp, .inl ⟨_, _, rfl, run_takeDeferred hK, ?_⟩⟩
    refine ⟨_, results_c3 rfl rfl rfl rfl (load_cell (agg_int _) (q0.c 0)) (load_row q1 (agg_en _) (sz_en _)) (load_cell (agg_bool _) (q2.c 0)), ?_, h4.trans (belowK_b (w := w) (Nat.le_refl _) W D _ _ (by omega) hK rfl rfl)⟩
    have e1 := HV.out.1
    have e2 := HV.out.2
    rw [e2]
    subst e1
    rfl
theorem last_any {B : Nat} {g : Rg} {R : List (Int × En)} (w : World) (hA : RgAt w B g R) (hn : g.all.length ≤ 1000000) :
    Calls Try.prog 16 #[ptr B] w fun e w' => e = .returned (.tuple #[.int .i64 (lastV g), en (lastE g), .bool (isL g)]) ∧ Below w.heap.size w w' := callsIn_wide.1 (last_in w hA hn)
end Go.Proofs.Ytecdcfmbhphagaa.BX
