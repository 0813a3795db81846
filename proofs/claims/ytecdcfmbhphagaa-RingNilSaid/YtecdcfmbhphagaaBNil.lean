/-
  WALKS: a ring that nobody made: what each call tells.
-/
import Derived.Test.YtecdcfmbhphagaaBAwake
import Derived.Test.YtecdcfmbhphagaaShelf
namespace Go.Proofs.Ytecdcfmbhphagaa.BX
open Go.RowKit HL
open IX (ptr El cellsK cellsK_at cellsK_len OwnK RdK Kept)
set_option maxRecDepth 100000
set_option linter.unusedVariables false
set_option linter.unusedSimpArgs false
attribute [local go_sem] Oper.semAt_some

/-- No ring, or one that nobody made. -/
def Unm (W : World) (v : Value) : Prop := v = .pointer none ∨ ∃ B, v = ptr B ∧ W.cell? ⟨B, 0, none⟩ = some (.pointer none) ∧ B < W.heap.size
theorem Unm.then {W W1 : World} {v : Value} (h : Unm W v) (k : Below W.heap.size W W1) : Unm W1 v := by
  rcases h with h | ⟨B, e, c, l⟩
  · exact .inl h
  · exact .inr ⟨B, e, by rw [k.cell (p := ⟨B, 0, none⟩) l]; exact c, Nat.lt_of_lt_of_le l k.size⟩
theorem run_nil_some {P : Program} (w : World) {tp te : TypeId} (a : Addr) (hp : P.underlying tp = some (.pointer te)) : (binOp .eql tp (.pointer none) (.pointer (some a))).run P w = .ok (.bool false) w := by
  have h : ∀ d : Nat, (Op.equalIn (d + 1) tp (.pointer none) (.pointer (some a))).run P w = .ok false w := fun d => by
    simp [Op.equalIn, run_underlying hp]
  simp only [binOp]
  simp [Op.equal, Op.maxDepth, h 9999]
theorem made_no (v : Value) (w : World) (h : Unm w v) : Calls Try.prog 27 #[v] w fun e w' => e = .returned (.bool false) ∧ w = w' := by
  rcases h with rfl | ⟨B, rfl, c0, _⟩
  · go_enter Try.func27, Try.ntmps27
    go_wp2
    go_ret
    exact ⟨rfl, rfl⟩
  · have HE := fun W => run_nil_some (P := Try.prog) W (tp := 23) ⟨B, 0, none⟩ Try.underlying23
    go_enter Try.func27, Try.ntmps27
    go_wp2
    go_ret
    exact ⟨rfl, rfl⟩
theorem many_no (v : Value) (w : World) (h : Unm w v) : Calls Try.prog 20 #[v] w fun e w' => e = .returned (.int .i64 0) ∧ w = w' := by
  have C := Lib.hid (made_no v w h)
  clear h
  go_enter Try.func20, Try.ntmps20
  go_wp2_with (go_at_call 27; ((with_reducible refine C.out.mono ?_); rintro e w1 ⟨rfl, rfl⟩))
  go_ret
  exact ⟨rfl, rfl⟩
theorem dropped_no (v : Value) (w : World) (h : Unm w v) : Calls Try.prog 18 #[v] w fun e w' => e = .returned (.int .i64 0) ∧ w = w' := by
  have C := Lib.hid (made_no v w h)
  clear h
  go_enter Try.func18, Try.ntmps18
  go_wp2_with (go_at_call 27; ((with_reducible refine C.out.mono ?_); rintro e w1 ⟨rfl, rfl⟩))
  go_ret
  exact ⟨rfl, rfl⟩
theorem putNo_any (v : Value) (n : Int) {CE : Array Value} (w : World) (h : Unm w v) : Calls Try.prog 14 #[v, .int .i64 n, .agg CE] w fun e w' => e = .returned (.int .i64 1) ∧ Below w.heap.size w w' := by
  have hb := bAl (Below.refl w.heap.size w) (.cells CE 35)
  have C := Lib.hid (made_no v _ (h.then hb))
  clear h
  go_enter Try.func14, Try.ntmps14
  go_wp2_with (go_at_call 27; ((with_reducible refine C.out.mono ?_); rintro e w1 ⟨rfl, rfl⟩))
  go_ret
  exact ⟨rfl, hb⟩
theorem copyNil_any (w : World) : Calls Try.prog 12 #[.pointer none] w fun e w' => e = .returned (.pointer none) ∧ w = w' := by
  go_enter Try.func12, Try.ntmps12
  go_wp2
  go_ret
  exact ⟨rfl, rfl⟩
set_option maxHeartbeats 2000000 in
theorem at_no (v : Value) (n : Int) (w : World) (h : Unm w v) : Calls Try.prog 23 #[v, .int .i64 n] w fun e w' => e = .returned (.tuple #[en zeroEn, .int .i64 1]) ∧ Below w.heap.size w w' := by
  have b0 := (((Below.refl w.heap.size w).alloc (Nat.le_refl _) (.cells #[.int .i64 n] 3)).alloc (by simp) (.cells (enC zeroEn) 35)).alloc (by simp; omega) (.cells #[.int .i64 0] 24)
  have m1 : AtC _ (w.heap.size + 1) (enC zeroEn) := (AtC.newAt (w := w.alloc (.cells #[.int .i64 n] 3)) (T := 35) (by simp)).al (.cells #[.int .i64 0] 24)
  have m2 : AtC (((w.alloc (.cells #[.int .i64 n] 3)).alloc (.cells (enC zeroEn) 35)).alloc (.cells #[.int .i64 0] 24)) (w.heap.size + 2) #[.int .i64 0] := AtC.newAt (by simp)
  have C := Lib.hid (made_no v _ (h.then b0))
  have zall := en_one zeroEn
  clear h
  go_enter Try.func23, Try.ntmps23
  go_upto_region 1 with fail
  change Code.wp _ _ _ _ (((w.alloc (.cells #[.int .i64 n] 3)).alloc (.cells (enC zeroEn) 35)).alloc (.cells #[.int .i64 0] 24))
  generalize (((w.alloc (.cells #[.int .i64 n] 3)).alloc (.cells (enC zeroEn) 35)).alloc (.cells #[.int .i64 0] 24)) = W0 at *
  have zt : W0.there (w.heap.size + 1) 0 (enC zeroEn).size := there_at (C := enC zeroEn) m1
  have G3 := Lib.hid (atC_kept m2 (set_kept (B := w.heap.size + 1) (enC zeroEn)) (by show w.heap.size + 2 ≠ _; omega))
  have S2 := Lib.hid (set_at (C := enC zeroEn) m1 rfl)
  have KS := Lib.hid (set_below b0 (show w.heap.size ≤ w.heap.size + 1 by omega) (enC zeroEn))
  clear m1 m2 b0
  go_wp2_with (first
    | (go_at_call 27; ((with_reducible refine C.out.mono ?_); rintro e w1 ⟨rfl, rfl⟩))
    | ((with_reducible show wpList _ _ _ ({ dst := none, op := Op.store 35 _ _, type := _, pos := _, after := _, guard := _ } :: _) _ _); (refine wpList_store_mid rfl _ _ _ rfl (w.heap.size + 1) 0 (enC zeroEn) rfl rfl zt (by kernel_rfl) zall ?_); generalize W0.setCells (w.heap.size + 1) 0 (enC zeroEn).toList = W1 at *; have z2 := G3.out.c 0; have f2 := G3.out.f 0))
  have y1 := S2.out.store (p := ⟨w.heap.size + 2, 0, none⟩) (by show w.heap.size + 2 ≠ _; omega) (.int .i64 1)
  have y2 := G3.out.set (i := 0) (by simp) (.int .i64 1)
  exact bodyPost_ret (results_c2 rfl rfl rfl (load_row y1 (agg_en _) (sz_en _)) (load_cell (agg_errno _) (y2.c 0))) rfl ⟨rfl, KS.out.setCell (p := ⟨w.heap.size + 2, 0, none⟩) (by show w.heap.size ≤ w.heap.size + 2; omega) _⟩
set_option maxHeartbeats 2000000 in
theorem last_no (v : Value) (w : World) (h : Unm w v) : Calls Try.prog 16 #[v] w fun e w' => e = .returned (.tuple #[.int .i64 0, en zeroEn, .bool false]) ∧ Below w.heap.size w w' := by
  have b0 := (((Below.refl w.heap.size w).alloc (Nat.le_refl _) (.cells #[.int .i64 0] 3)).alloc (by simp) (.cells (enC zeroEn) 35)).alloc (by simp; omega) (.cells #[.bool false] 4)
  have m0 := ((AtC.new w #[.int .i64 0] 3).al (.cells (enC zeroEn) 35)).al (.cells #[.bool false] 4)
  have m1 : AtC _ (w.heap.size + 1) (enC zeroEn) := (AtC.newAt (w := w.alloc (.cells #[.int .i64 0] 3)) (T := 35) (by simp)).al (.cells #[.bool false] 4)
  have m2 : AtC (((w.alloc (.cells #[.int .i64 0] 3)).alloc (.cells (enC zeroEn) 35)).alloc (.cells #[.bool false] 4)) (w.heap.size + 2) #[.bool false] := AtC.newAt (by simp)
  have C := Lib.hid (made_no v _ (h.then b0))
  have zall := en_one zeroEn
  clear h
  go_enter Try.func16, Try.ntmps16
  go_upto_region 1 with fail
  change Code.wp _ _ _ _ (((w.alloc (.cells #[.int .i64 0] 3)).alloc (.cells (enC zeroEn) 35)).alloc (.cells #[.bool false] 4))
  generalize (((w.alloc (.cells #[.int .i64 0] 3)).alloc (.cells (enC zeroEn) 35)).alloc (.cells #[.bool false] 4)) = W9 at *
  have z0 := m0.c 0
  have f0 := m0.f 0
  have n0 := m0.set (i := 0) (by simp) (.int .i64 0)
  have n1 := m1.store (p := ⟨w.heap.size, 0, none⟩) (by show w.heap.size ≠ _; omega) (.int .i64 0)
  have n2 := m2.store (p := ⟨w.heap.size, 0, none⟩) (by show w.heap.size ≠ _; omega) (.int .i64 0)
  have b1 := b0.setCell (p := ⟨w.heap.size, 0, none⟩) (Nat.le_refl _) (.int .i64 0)
  have zt : (W9.setCell ⟨w.heap.size, 0, none⟩ (.int .i64 0)).there (w.heap.size + 1) 0 (enC zeroEn).size := there_at (C := enC zeroEn) n1
  have G3 := Lib.hid (atC_kept n2 (set_kept (B := w.heap.size + 1) (enC zeroEn)) (by show w.heap.size + 2 ≠ _; omega))
  have G0 := Lib.hid (atC_kept n0 (set_kept (B := w.heap.size + 1) (enC zeroEn)) (by show w.heap.size ≠ _; omega))
  have S2 := Lib.hid (set_at (C := enC zeroEn) n1 rfl)
  have KS := Lib.hid (set_below b1 (show w.heap.size ≤ w.heap.size + 1 by omega) (enC zeroEn))
  clear m0 m1 m2 b0 n0 n1 n2 b1
  go_wp2_with (first
    | (go_at_call 27; ((with_reducible refine C.out.mono ?_); rintro e w1 ⟨rfl, rfl⟩))
    | ((with_reducible show wpList _ _ _ ({ dst := none, op := Op.store 35 _ _, type := _, pos := _, after := _, guard := _ } :: _) _ _); (refine wpList_store_mid rfl _ _ _ rfl (w.heap.size + 1) 0 (enC zeroEn) rfl rfl zt (by kernel_rfl) zall ?_); generalize (W9.setCell ⟨w.heap.size, 0, none⟩ (.int .i64 0)).setCells (w.heap.size + 1) 0 (enC zeroEn).toList = W1 at *; have z2 := G3.out.c 0; have f2 := G3.out.f 0))
  have y0 := G0.out.store (p := ⟨w.heap.size + 2, 0, none⟩) (by show w.heap.size + 2 ≠ _; omega) (.bool false)
  have y1 := S2.out.store (p := ⟨w.heap.size + 2, 0, none⟩) (by show w.heap.size + 2 ≠ _; omega) (.bool false)
  have y2 := G3.out.set (i := 0) (by simp) (.bool false)
  exact bodyPost_ret (results_c3 rfl rfl rfl rfl (load_cell (agg_int _) (y0.c 0)) (load_row y1 (agg_en _) (sz_en _)) (load_cell (agg_bool _) (y2.c 0))) rfl ⟨rfl, KS.out.setCell (p := ⟨w.heap.size + 2, 0, none⟩) (by show w.heap.size ≤ w.heap.size + 2; omega) _⟩
theorem backP_any (p : Option Addr) (w : World) : Calls Try.prog 33 #[.pointer p] w fun e w' => e = .returned (.func (.func 39) #[] #[.pointer (some ⟨w.heap.size, 0, none⟩)]) ∧ w' = w.alloc (.cells #[.pointer p] 23) := by
  go_enter Try.func33, Try.ntmps33
  go_wp2
  go_ret
  exact ⟨rfl, rfl⟩
theorem back1_no (q : Nat) (hq : 1 ≤ q) (l Bb : Nat) (v : Value) (J Jx : List (Int × En) → World → Prop) (W : World) (hb : W.cell? ⟨Bb, 0, none⟩ = some v) (hv : Unm W v) (h0 : J [] W) :
    CallsIn Fence.wide q Try.prog 39 #[.func (.yield l) #[] #[], .pointer (some ⟨Bb, 0, none⟩)] W fun e W' => (∃ v, e = .returned v) ∧
      ((∃ ys, ys = [] ∧ J ys W') ∨ (∃ pre, pre = [] ∧ Jx pre W')) := by
  have hF : Fence.wide.fn 39 := trivial
  have hF1 : Fence.wide.fn 20 := trivial
  have CM := Lib.hid (many_no v W hv)
  have H0 := Lib.hid h0
  clear h0 hv
  refine callsIn_of_wp Try.func39 rfl hF ?_ rfl
  simp only [Try.ntmps39, List.size_toArray, List.length_cons, List.length_nil, Nat.reduceAdd, Nat.reduceSub, Array.replicate_succ, Array.replicate_zero, List.push_toArray, List.append_toArray, List.nil_append, List.cons_append]
  gi_wp2_with (gi_at_call 20; refine (callsIn_wide.2 CM.out).mono ?_; rintro e w1 ⟨rfl, rfl⟩)
  gi_loopw [7] (fun st wr => st = .int .i64 0 ∧ J [] wr) (fun st _ => 0)
  case atStart => exact ⟨rfl, H0.out⟩
  case round =>
    obtain ⟨rfl, hJs⟩ := hrel
    have HJs := Lib.hid hJs
    clear hJs
    gi_wp2
    go_end0
    exact ⟨⟨_, rfl⟩, .inl ⟨_, rfl, HJs.out⟩⟩
theorem backNo_stops (q : Nat) (hq : 1 ≤ q) (Bb : Nat) (v : Value) (w : World) (hb : w.cell? ⟨Bb, 0, none⟩ = some v) (hBb : Bb < w.heap.size) (hv : Unm w v) :
    SeqStopsK Fence.wide q Try.prog 39 #[.pointer (some ⟨Bb, 0, none⟩)] (fun x : Int × En => #[.int .i64 x.1, en x.2]) (fun _ _ => True) (fun ys => ys = []) (fun pre => pre = []) 0 w := fun l J Jx W hW hJ _ hY h0 =>
  back1_no q hq l Bb v J Jx W ((hW.cell (p := ⟨Bb, 0, none⟩) hBb).trans hb) (hv.then hW) h0
theorem unm_ptr {W : World} {v : Value} (h : Unm W v) : ∃ p, v = .pointer p := by
  rcases h with rfl | ⟨B, rfl, _⟩ <;> exact ⟨_, rfl⟩
theorem kfNo {B : Nat} : OwnFrom B (fun (_ : List (Int × En)) (_ : World) => False) := fun _ _ _ _ h _ _ => h
set_option maxHeartbeats 2000000 in
theorem versions_in (p : Option Addr) (w : World) (h : Unm w (.pointer p)) : CallsIn Fence.wide 9 Try.prog 22 #[.pointer p] w fun e w' => e = .returned (.slice none 0 0) ∧ Below w.heap.size w w' := by
  have hF : Fence.wide.fn 22 := trivial
  have hF1 : Fence.wide.fn 33 := trivial
  have hF3 : Fence.wide.fn 39 := trivial
  have hF4 : Fence.wide.fn 35 := trivial
  have b0 := bAl (Below.refl w.heap.size w) (.cells #[.slice none 0 0] 45)
  have m0 := AtC.new w #[.slice none 0 0] 45
  have CB := Lib.hid (backP_any p (w.alloc (.cells #[.slice none 0 0] 45)))
  have HU := Lib.hid (h.then b0)
  clear h
  refine callsIn_of_wp_marks Try.func22 rfl hF ?_ rfl
  simp only [Try.ntmps22, List.size_toArray, List.length_cons, List.length_nil, Nat.reduceAdd, Nat.reduceSub, Array.replicate_succ, Array.replicate_zero, List.push_toArray, List.append_toArray, List.nil_append, List.cons_append]
  gi_wp2_with (gi_at_call 33; refine (callsIn_wide.2 CB.out).mono ?_; rintro e w1 ⟨rfl, rfl⟩)
  have b1 := bAl b0 (.cells #[.pointer p] 23)
  have n0 := m0.al (.cells #[.pointer p] 23)
  have n1 : AtC ((w.alloc (.cells #[.slice none 0 0] 45)).alloc (.cells #[.pointer p] 23)) (w.heap.size + 1) #[.pointer p] := AtC.newAt (by simp)
  have hU1 := HU.out.then (bAl (Below.refl _ _) (.cells #[.pointer p] 23))
  have hsz1 : ((w.alloc (.cells #[.slice none 0 0] 45)).alloc (.cells #[.pointer p] 23)).heap.size = w.heap.size + 2 := by simp
  change Code.wpIn _ _ _ _ _ _ ((w.alloc (.cells #[.slice none 0 0] 45)).alloc (.cells #[.pointer p] 23))
  clear m0 b0 CB HU
  generalize (w.alloc (.cells #[.slice none 0 0] 45)).alloc (.cells #[.pointer p] 23) = W0 at *
  have c3 : W0.cell? ⟨w.heap.size + 1, 0, none⟩ = some (.pointer p) := n1.c 0
  have hseq := backNo_stops (9 - 1) (by omega) (w.heap.size + 1) (.pointer p) W0 c3 n1.lt hU1
  refine wpIn_rangeFunc_ownG rfl (by omega) (gf := 39) (lb := #[.pointer (some ⟨w.heap.size + 1, 0, none⟩)]) rfl hF3 (enters_of Try.func39 (by kernel_rfl) rfl)
    hseq (fun _ _ => trivial) (fun _ _ _ _ _ _ _ _ => trivial) (Below.refl _ _) (fun _ => rfl)
    (fun _ W => AtC W w.heap.size #[.slice none 0 0] ∧ Below w.heap.size w W) (fun _ _ _ => False)
    (OwnFrom.and (own_atC _ _ (fun _ => #[.slice none 0 0]) (fun _ => by simp)) (ownFrom_below (Nat.le_refl _) (by omega))) (fun _ => kfNo) ⟨n0, b1⟩
    (fun x => { tmps := #[.pointer p, undef, .slice none 0 0, ptr w.heap.size, .int .i64 x.1, .pointer p, .func (.func 39) #[] #[.pointer (some ⟨w.heap.size + 1, 0, none⟩)], .int .i64 x.1, en x.2, undef, undef, undef, undef, undef, undef, undef], defers := [] }) ?assign ?body ?done ?stop
  case assign =>
    intro l x W K hK
    gi_wp2
    exact hK
  case body =>
    intro l pre x W _ hlt
    exact absurd hlt (Nat.not_lt_zero _)
  case done =>
    rintro D ys W hD rfl ⟨h1, h4⟩ hK
    have c0 : W.cell? ⟨w.heap.size, 0, none⟩ = some (.slice none 0 0) := h1.c 0
    have CR := Lib.hid (Try.slices_Reverse_int_empty none 0 W)
    have H4 := Lib.hid h4
    clear hseq n0 b1 h1 h4
    gi_wp2_with (gi_at_call 35; refine (callsIn_wide.2 CR.out).mono ?_; rintro e w1 ⟨rfl, rfl⟩)
    refine ⟨by simp, .inl ⟨_, _, rfl, run_takeDeferred hK, ?_⟩⟩
    exact ⟨_, results_tmp rfl _ _ _, rfl, H4.out.trans (belowK_b (w := w) (Nat.le_refl _) _ D _ _ (by omega) hK rfl rfl)⟩
  case stop =>
    rintro D c pre W hD hpre h hK
    exact h.elim
theorem versions_no (p : Option Addr) (w : World) (h : Unm w (.pointer p)) : Calls Try.prog 22 #[.pointer p] w fun e w' => e = .returned (.slice none 0 0) ∧ Below w.heap.size w w' := callsIn_wide.1 (versions_in p w h)
end Go.Proofs.Ytecdcfmbhphagaa.BX
