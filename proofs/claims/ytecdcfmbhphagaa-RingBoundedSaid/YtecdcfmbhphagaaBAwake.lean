/-
  WALK: awake: the chapter's example.
-/
import Derived.Test.YtecdcfmbhphagaaBEntry
namespace Go.Proofs.Ytecdcfmbhphagaa.BX
open Go.RowKit HL
open IX (ptr El cellsK cellsK_at cellsK_len OwnK RdK Kept)
set_option maxRecDepth 100000
set_option linter.unusedVariables false
set_option linter.unusedSimpArgs false

theorem en_opq (e : En) : ∃ C, en e = .agg C ∧ enC e = C ∧ (Try.prog.info? 35).map (·.size) = some C.size ∧ (Try.prog.info? 35).map (·.size) = some C.toList.length ∧ C.all (·.oneCell') = true ∧ (enC zeroEn).size = C.size :=
  ⟨enC e, rfl, rfl, by kernel_rfl, by kernel_rfl, en_one e, rfl⟩
/-- A put whose answer is known. -/
theorem put_known {B : Nat} {g g' : Rg} {v : Int} {e : En} {r : Int} {C : Array Value} (h : putE g v e = r ∧ putG g v e = g') (hC : en e = .agg C) (hn : g.all.length ≤ 100000) (W : World) (R : List (Int × En)) (hR : RgAt W B g R) :
    Calls Try.prog 14 #[ptr B, .int .i64 v, .agg C] W fun x W' => x = .returned (.int .i64 r) ∧ (∃ R', RgAt W' B g' R') ∧ Kept W W' (· ≠ B) := by
  have := put_any v e W hR hn
  rw [h.1, h.2, hC] at this
  exact this
theorem at_known {B : Nat} {g : Rg} {v : Int} {e : En} {r : Int} {C : Array Value} (h : atR g v = (e, r)) (hC : en e = .agg C) (hn : g.all.length ≤ 100000) (hv : 0 ≤ v) (W : World) (R : List (Int × En)) (hR : RgAt W B g R) :
    Calls Try.prog 23 #[ptr B, .int .i64 v] W fun x W' => x = .returned (.tuple #[.agg C, .int .i64 r]) ∧ Below W.heap.size W W' := by
  have := at_any v W hR (by omega) hv
  rw [h, ← hC] at *
  exact this
theorem entry_known {h : ByteArray} {n : Int} {C : Array Value} (hC : en (entE h n) = .agg C) (W : World) : Calls Try.prog 26 #[.string h, .int .i64 n] W fun x W' => x = .returned (.agg C) ∧ Below W.heap.size W W' := by
  have := entry_any h n W
  rw [hC] at this
  exact this
theorem eq_known {e : En} {C : Array Value} (hC : en e = .agg C) (W : World) : (Op.equalIn 10000 35 (.agg C) (.agg C)).run Try.prog W = .ok true W := by
  have := run_eqEn W e e
  rw [hC, eqEn_same] at this
  exact this
/-- An entry laid into a variable of the call's own. -/
theorem laid_var {w W : World} {C : Array Value} (hb : Below w.heap.size w W) (h0 : (enC zeroEn).size = C.size) :
    AtC ((W.alloc (.cells (enC zeroEn) 35)).setCells W.heap.size 0 C.toList) W.heap.size C ∧ Below W.heap.size W ((W.alloc (.cells (enC zeroEn) 35)).setCells W.heap.size 0 C.toList) ∧ (W.alloc (.cells (enC zeroEn) 35)).there W.heap.size 0 C.size :=
  ⟨set_at (AtC.new _ _ _) h0, set_below (bAl (Below.refl _ _) _) (Nat.le_refl _) C, by rw [← h0]; exact there_at (C := enC zeroEn) (AtC.new _ _ _)⟩
set_option maxHeartbeats 4000000 in
theorem awake_any (w : World) : Calls Try.prog 25 #[] w fun e w' => e = .returned (.bool true) ∧ Below w.heap.size w w' := by
  have hb : Below w.heap.size w w := Below.refl _ _
  have CN := Lib.hid (new_yes hA1 2 w (by decide))
  obtain ⟨X1, v1, c1, s1, l1, o1, z1⟩ := en_opq (entE hA1 1)
  obtain ⟨X2, v2, c2, s2, l2, o2, z2⟩ := en_opq (entE hA1 2)
  obtain ⟨X3, v3, c3, s3, l3, o3, z3⟩ := en_opq (entE hA1 3)
  obtain ⟨XN, vN, cN, sN, lN, oN, zN⟩ := en_opq (neverE hA1)
  obtain ⟨XZ, vZ, cZ, sZ, lZ, oZ, zZ⟩ := en_opq zeroEn
  have E1 := Lib.hid (fun W => entry_known v1 W)
  have E2 := Lib.hid (fun W => entry_known v2 W)
  have E3 := Lib.hid (fun W => entry_known v3 W)
  have P1 := Lib.hid (fun W R (h : RgAt W w.heap.size gA0 R) => put_known ex1 v1 (by decide) W R h)
  have P2 := Lib.hid (fun W R (h : RgAt W w.heap.size gA1 R) => put_known ex2 v2 (by decide) W R h)
  have P3 := Lib.hid (fun W R (h : RgAt W w.heap.size gA1 R) => put_known ex3 v2 (by decide) W R h)
  have P4 := Lib.hid (fun W R (h : RgAt W w.heap.size gA2 R) => put_known ex4 v3 (by decide) W R h)
  have A1 := Lib.hid (fun W R (h : RgAt W w.heap.size gA2 R) => at_known at1 v1 (by decide) (by omega) W R h)
  have A2 := Lib.hid (fun W R (h : RgAt W w.heap.size gA2 R) => at_known at2 vN (by decide) (by omega) W R h)
  have A3 := Lib.hid (fun W R (h : RgAt W w.heap.size gA3 R) => at_known at3 vZ (by decide) (by omega) W R h)
  have A4 := Lib.hid (fun W R (h : RgAt W w.heap.size gA3 R) => at_known at4 v2 (by decide) (by omega) W R h)
  have A5 := Lib.hid (fun W R (h : RgAt W w.heap.size gA3 R) => at_known at5 v3 (by decide) (by omega) W R h)
  have Q1 := fun W => eq_known v1 W
  have Q2 := fun W => eq_known v2 W
  have Q3 := fun W => eq_known v3 W
  have QN : ∀ W, (Op.equalIn 10000 35 (.agg XN) (.agg #[.string ⟨#[97]⟩, .bool false, .string ⟨#[]⟩, .int .u8 0, .string ⟨#[]⟩, .int .u8 0, .string ⟨#[]⟩, .int .i64 0, .int .i64 0, .int .u8 0, .bool false, .bool false, .int .i64 0, .int .i64 0, .int .i64 0, .int .u8 0, .int .i64 0, .int .i64 0])).run Try.prog W = .ok true W := fun W => by
    have := run_eqEn W (neverE hA1) (neverE hA1)
    rw [eqEn_same] at this
    rw [← vN]
    exact this
  clear c1 c2 c3 cN cZ v1 v2 v3 vN vZ
  go_enter Try.func25, Try.ntmps25
  go_upto_region 2 with (go_at_call 10; ((refine CN.out.mono ?_); rintro e w0 ⟨rfl, r0, k0⟩; have HR0 : Hid (RgAt _ _ gA0 _) := Lib.hid r0; have K0 := Lib.hid k0; clear r0 k0))
  go_upto_region 4 with (first
    | (go_at_call 14; ((with_reducible refine (P3.out _ _ HR5.out).mono ?_); rintro e w6 ⟨rfl, ⟨R6, r6⟩, k6⟩; have HR6 := Lib.hid r6; have K6 := Lib.hid (belowK K5.out k6 (Nat.le_refl _)); clear r6 k6))
    | (go_at_call 26; ((with_reducible refine (E2.out _).mono ?_); rintro e w5 ⟨rfl, k5⟩; have HR5 := Lib.hid (HR4.out.below k5); have K5 := Lib.hid (bThen K4.out k5); clear k5))
    | (go_at_call 14; ((with_reducible refine (P2.out _ _ HR3.out).mono ?_); rintro e w4 ⟨rfl, ⟨R4, r4⟩, k4⟩; have HR4 := Lib.hid r4; have K4 := Lib.hid (belowK K3.out k4 (Nat.le_refl _)); clear r4 k4))
    | (go_at_call 26; ((with_reducible refine (E2.out _).mono ?_); rintro e w3 ⟨rfl, k3⟩; have HR3 := Lib.hid (HR2.out.below k3); have K3 := Lib.hid (bThen K2.out k3); clear k3))
    | (go_at_call 14; ((with_reducible refine (P1.out _ _ HR1.out).mono ?_); rintro e w2 ⟨rfl, ⟨R2, r2⟩, k2⟩; have HR2 := Lib.hid r2; have K2 := Lib.hid (belowK K1.out k2 (Nat.le_refl _)); clear r2 k2))
    | (go_at_call 26; ((with_reducible refine (E1.out _).mono ?_); rintro e w1 ⟨rfl, k1⟩; have HR1 := Lib.hid (HR0.out.below k1); have K1 := Lib.hid (bThen K0.out k1); clear k1)))
  go_upto_region 5 with (first
    | (go_at_call 23; ((with_reducible refine (A1.out _ _ HR6.out).mono ?_); rintro e u11 ⟨rfl, k11⟩; have KU11 := Lib.hid (bThen K6.out k11); have L11 := laid_var (C := X1) KU11.out z1; have LT11 : Hid (w.heap.size < u11.heap.size) := Lib.hid (HR6.out.below k11).lt; have HX11 := Lib.hid L11.1; have KB11 := Lib.hid (bThen KU11.out L11.2.1); have HRv11 := Lib.hid ((HR6.out.below k11).below L11.2.1); have HT11 := Lib.hid L11.2.2; clear k11 L11))
    | ((show wpList _ _ _ ({ dst := none, op := Op.store 35 _ _, type := _, pos := _, after := _, guard := _ } :: _) _ _); (refine wpList_store_mid rfl _ _ _ rfl u11.heap.size 0 X1 rfl rfl HT11.out s1 o1 ?_); change wpList _ _ _ _ _ ((u11.alloc (.cells (enC zeroEn) 35)).setCells u11.heap.size 0 X1.toList); generalize ((u11.alloc (.cells (enC zeroEn) 35)).setCells u11.heap.size 0 X1.toList) = V11 at *))
  go_upto_region 6 with (first
    | (go_at_call 23; ((with_reducible refine (A2.out _ _ HRv11.out).mono ?_); rintro e u12 ⟨rfl, k12⟩; have KU12 := Lib.hid (bThen KB11.out k12); have L12 := laid_var (C := XN) KU12.out zN; have LT12 : Hid (w.heap.size < u12.heap.size) := Lib.hid (HRv11.out.below k12).lt; have HX11 := Lib.hid ((HX11.out.then k12).then L12.2.1); have HX12 := Lib.hid L12.1; have KB12 := Lib.hid (bThen KU12.out L12.2.1); have HRv12 := Lib.hid ((HRv11.out.below k12).below L12.2.1); have HT12 := Lib.hid L12.2.2; clear k12 L12))
    | ((show wpList _ _ _ ({ dst := none, op := Op.store 35 _ _, type := _, pos := _, after := _, guard := _ } :: _) _ _); (refine wpList_store_mid rfl _ _ _ rfl u12.heap.size 0 XN rfl rfl HT12.out sN oN ?_); change wpList _ _ _ _ _ ((u12.alloc (.cells (enC zeroEn) 35)).setCells u12.heap.size 0 XN.toList); generalize ((u12.alloc (.cells (enC zeroEn) 35)).setCells u12.heap.size 0 XN.toList) = V12 at *))
  go_upto_region 7 with (first
    | (go_at_call 14; ((with_reducible refine (P4.out _ _ HR7.out).mono ?_); rintro e w8 ⟨rfl, ⟨R8, r8⟩, k8⟩; have HR8 := Lib.hid r8; have K8 := Lib.hid (belowK K7.out k8 (Nat.le_refl _)); have HX11 := Lib.hid (atC_kept HX11.out k8 (show u11.heap.size ≠ w.heap.size by have := LT11.out; omega)); have HX12 := Lib.hid (atC_kept HX12.out k8 (show u12.heap.size ≠ w.heap.size by have := LT12.out; omega)); clear r8 k8))
    | (go_at_call 26; ((with_reducible refine (E3.out _).mono ?_); rintro e w7 ⟨rfl, k7⟩; have HR7 := Lib.hid (HRv12.out.below k7); have K7 := Lib.hid (bThen KB12.out k7); have HX11 := Lib.hid (HX11.out.then k7); have HX12 := Lib.hid (HX12.out.then k7); clear k7)))
  go_upto_region 8 with (first
    | (go_at_call 23; ((with_reducible refine (A3.out _ _ HR8.out).mono ?_); rintro e u13 ⟨rfl, k13⟩; have KU13 := Lib.hid (bThen K8.out k13); have L13 := laid_var (C := XZ) KU13.out zZ; have LT13 : Hid (w.heap.size < u13.heap.size) := Lib.hid (HR8.out.below k13).lt; have HX11 := Lib.hid ((HX11.out.then k13).then L13.2.1); have HX12 := Lib.hid ((HX12.out.then k13).then L13.2.1); have HX13 := Lib.hid L13.1; have KB13 := Lib.hid (bThen KU13.out L13.2.1); have HRv13 := Lib.hid ((HR8.out.below k13).below L13.2.1); have HT13 := Lib.hid L13.2.2; clear k13 L13))
    | ((show wpList _ _ _ ({ dst := none, op := Op.store 35 _ _, type := _, pos := _, after := _, guard := _ } :: _) _ _); (refine wpList_store_mid rfl _ _ _ rfl u13.heap.size 0 XZ rfl rfl HT13.out sZ oZ ?_); change wpList _ _ _ _ _ ((u13.alloc (.cells (enC zeroEn) 35)).setCells u13.heap.size 0 XZ.toList); generalize ((u13.alloc (.cells (enC zeroEn) 35)).setCells u13.heap.size 0 XZ.toList) = V13 at *))
  go_upto_region 9 with (first
    | (go_at_call 23; ((with_reducible refine (A4.out _ _ HRv13.out).mono ?_); rintro e u14 ⟨rfl, k14⟩; have KU14 := Lib.hid (bThen KB13.out k14); have L14 := laid_var (C := X2) KU14.out z2; have LT14 : Hid (w.heap.size < u14.heap.size) := Lib.hid (HRv13.out.below k14).lt; have HX11 := Lib.hid ((HX11.out.then k14).then L14.2.1); have HX12 := Lib.hid ((HX12.out.then k14).then L14.2.1); have HX13 := Lib.hid ((HX13.out.then k14).then L14.2.1); have HX14 := Lib.hid L14.1; have KB14 := Lib.hid (bThen KU14.out L14.2.1); have HRv14 := Lib.hid ((HRv13.out.below k14).below L14.2.1); have HT14 := Lib.hid L14.2.2; clear k14 L14))
    | ((show wpList _ _ _ ({ dst := none, op := Op.store 35 _ _, type := _, pos := _, after := _, guard := _ } :: _) _ _); (refine wpList_store_mid rfl _ _ _ rfl u14.heap.size 0 X2 rfl rfl HT14.out s2 o2 ?_); change wpList _ _ _ _ _ ((u14.alloc (.cells (enC zeroEn) 35)).setCells u14.heap.size 0 X2.toList); generalize ((u14.alloc (.cells (enC zeroEn) 35)).setCells u14.heap.size 0 X2.toList) = V14 at *))
  go_upto_region 10 with (first
    | (go_at_call 23; ((with_reducible refine (A5.out _ _ HRv14.out).mono ?_); rintro e u15 ⟨rfl, k15⟩; have KU15 := Lib.hid (bThen KB14.out k15); have L15 := laid_var (C := X3) KU15.out z3; have LT15 : Hid (w.heap.size < u15.heap.size) := Lib.hid (HRv14.out.below k15).lt; have HX11 := Lib.hid ((HX11.out.then k15).then L15.2.1); have HX12 := Lib.hid ((HX12.out.then k15).then L15.2.1); have HX13 := Lib.hid ((HX13.out.then k15).then L15.2.1); have HX14 := Lib.hid ((HX14.out.then k15).then L15.2.1); have HX15 := Lib.hid L15.1; have KB15 := Lib.hid (bThen KU15.out L15.2.1); have HRv15 := Lib.hid ((HRv14.out.below k15).below L15.2.1); have HT15 := Lib.hid L15.2.2; clear k15 L15))
    | ((show wpList _ _ _ ({ dst := none, op := Op.store 35 _ _, type := _, pos := _, after := _, guard := _ } :: _) _ _); (refine wpList_store_mid rfl _ _ _ rfl u15.heap.size 0 X3 rfl rfl HT15.out s3 o3 ?_); change wpList _ _ _ _ _ ((u15.alloc (.cells (enC zeroEn) 35)).setCells u15.heap.size 0 X3.toList); generalize ((u15.alloc (.cells (enC zeroEn) 35)).setCells u15.heap.size 0 X3.toList) = V15 at *))
  have hS5 : ∀ w', Below V15.heap.size V15 w' → Hid (w'.rangeAt u11.heap.size 0 X1.toList) ∧ Hid (w'.rangeAt u12.heap.size 0 XN.toList) ∧ Hid (w'.rangeAt u14.heap.size 0 X2.toList) ∧ Hid (w'.rangeAt u15.heap.size 0 X3.toList) := fun w' k => ⟨Lib.hid (range_at (HX11.out.then k)), Lib.hid (range_at (HX12.out.then k)), Lib.hid (range_at (HX14.out.then k)), Lib.hid (range_at (HX15.out.then k))⟩
  have CMY := Lib.hid (fun W (k : Below V15.heap.size V15 W) => (show Calls Try.prog 20 #[ptr w.heap.size] W fun e w' => e = .returned (.int .i64 2) ∧ Below W.heap.size W w' from by have := many_any W (HRv15.out.below k) (by decide); rw [many5] at this; exact this))
  have CDR := Lib.hid (fun W (k : Below V15.heap.size V15 W) => (show Calls Try.prog 18 #[ptr w.heap.size] W fun e w' => e = .returned (.int .i64 1) ∧ Below W.heap.size W w' from by have := dropped_any W (HRv15.out.below k) (by decide); rw [drop5] at this; exact this))
  have KF := Lib.hid KB15.out
  have B0 := Lib.hid (bD1 V15)
  have hS0 := hS5 _ (bD1 V15)
  have HS5 := Lib.hid hS5
  clear HX11 HX12 HX13 HX14 HX15 hS5
  have hS5 := HS5.out
  refine wp_region_held_drew (S := fun w' => Hid (w'.rangeAt u11.heap.size 0 X1.toList) ∧ Hid (w'.rangeAt u12.heap.size 0 XN.toList) ∧ Hid (w'.rangeAt u14.heap.size 0 X2.toList) ∧ Hid (w'.rangeAt u15.heap.size 0 X3.toList)) (by kernel_rfl) hS0 (fun hHeld0 => ?_)
  refine wpAnyH_take (i := 0) (oi := { dst := some 69, op := Op.move (Operand.tmp 4), type := 24, pos := "outright.go:27", after := #[], guard := none }) (v := ?vvw0) rfl (by kernel_rfl) (by kernel_rfl) (by kernel_rfl) (fun _ _ _ h => h) (Or.inl ⟨by rfl, ?hyw0⟩) (by assumption) ?restw0
  case hyw0 => (intro w hSw; go_simp; try with_reducible rfl)
  try simp only [Act.put, List.setIfInBounds_toArray, List.set_cons_zero, List.set_cons_succ]
  refine wpAnyH_take (i := 1) (oi := { dst := some 70, op := Op.binOp BinOp.eql 24 (Operand.tmp 69) (Operand.const (Value.int IntKind.i64 0)) 24, type := 4, pos := "outright.go:27", after := #[{ on := 0, ground := Ground.data }], guard := none }) (v := ?vvw1) rfl (by kernel_rfl) (by kernel_rfl) (by kernel_rfl) (fun _ _ _ h => h) (Or.inl ⟨by rfl, ?hyw1⟩) (by assumption) ?restw1
  case hyw1 => (intro w hSw; go_simp; try with_reducible rfl)
  try simp only [Act.put, List.setIfInBounds_toArray, List.set_cons_zero, List.set_cons_succ]
  refine wpAnyH_take (i := 2) (oi := { dst := some 71, op := Op.move (Operand.tmp 70), type := 4, pos := "outright.go:27", after := #[{ on := 1, ground := Ground.data }], guard := none }) (v := ?vvw2) rfl (by kernel_rfl) (by kernel_rfl) (by kernel_rfl) (fun _ _ _ h => h) (Or.inl ⟨by rfl, ?hyw2⟩) (by assumption) ?restw2
  case hyw2 => (intro w hSw; go_simp; try with_reducible rfl)
  try simp only [Act.put, List.setIfInBounds_toArray, List.set_cons_zero, List.set_cons_succ]
  refine wpAnyH_take (i := 3) (oi := { dst := some 72, op := Op.load 35 (Operand.tmp 3), type := 35, pos := "outright.go:27", after := #[{ on := 2, ground := Ground.guard }], guard := some (2, true) }) (v := .agg X1) rfl (by kernel_rfl) (by kernel_rfl) (by kernel_rfl) (fun _ _ _ h => h) (yieldsIf_load_mid (by rfl) _ _ rfl (u11.heap.size) (0) rfl (X1.toList) _ (fun w h => h.1.out) Try.underlying35 rfl l1) (by assumption) ?_
  try simp only [Act.put, List.setIfInBounds_toArray, List.set_cons_zero, List.set_cons_succ]
  refine wpAnyH_ready (rs := [4]) (by kernel_rfl) (by simp) ?_
  refine AllReadyH.cons (o := { dst := some 73, op := Op.call { callee := Callee.value (Operand.func 26), args := #[Operand.const (Value.string { data := #[97] }), Operand.const (Value.int IntKind.i64 1)], argTypes := #[9, 3] }, type := 35, pos := "outright.go:27", after := #[{ on := 2, ground := Ground.chain }, { on := 2, ground := Ground.guard }], guard := some (2, true) }) rfl (fun K hK => ?_) AllReadyH.nil
  go_simp
  refine (E1.out _).mono ?_
  rintro e y1 ⟨rfl, k1⟩
  go_wp2_with fail
  have B1 := Lib.hid (bThen B0.out k1)
  clear k1
  refine hK.out _ _ (hS5 _ B1.out) (fun hHeld1 => ?_)
  clear hK K
  try simp only [Act.put, List.setIfInBounds_toArray, List.set_cons_zero, List.set_cons_succ]
  refine wpAnyH_take (i := 5) (oi := { dst := some 74, op := Op.binOp BinOp.eql 35 (Operand.tmp 72) (Operand.tmp 73) 35, type := 4, pos := "outright.go:27", after := #[{ on := 3, ground := Ground.data }, { on := 4, ground := Ground.data }, { on := 2, ground := Ground.guard }], guard := some (2, true) }) (v := ?vvw5) rfl (by kernel_rfl) (by kernel_rfl) (by kernel_rfl) (fun _ _ _ h => h) (Or.inl ⟨by rfl, ?hyw5⟩) (by assumption) ?restw5
  case hyw5 => (intro w hSw; go_simp; try with_reducible rfl)
  try simp only [Act.put, List.setIfInBounds_toArray, List.set_cons_zero, List.set_cons_succ]
  refine wpAnyH_take (i := 6) (oi := { dst := some 75, op := Op.pick (Operand.tmp 71) (Operand.tmp 74) (Operand.const (Value.bool false)), type := 4, pos := "outright.go:27", after := #[{ on := 2, ground := Ground.data }, { on := 5, ground := Ground.data }], guard := none }) (v := ?vvw6) rfl (by kernel_rfl) (by kernel_rfl) (by kernel_rfl) (fun _ _ _ h => h) (Or.inl ⟨by rfl, ?hyw6⟩) (by assumption) ?restw6
  case hyw6 => (intro w hSw; go_simp; try with_reducible rfl)
  try simp only [Act.put, List.setIfInBounds_toArray, List.set_cons_zero, List.set_cons_succ]
  refine wpAnyH_take (i := 7) (oi := { dst := some 76, op := Op.move (Operand.tmp 75), type := 4, pos := "outright.go:27", after := #[{ on := 6, ground := Ground.data }, { on := 4, ground := Ground.chain }], guard := none }) (v := ?vvw7) rfl (by kernel_rfl) (by kernel_rfl) (by kernel_rfl) (fun _ _ _ h => h) (Or.inl ⟨by rfl, ?hyw7⟩) (by assumption) ?restw7
  case hyw7 => (intro w hSw; go_simp; try with_reducible rfl)
  try simp only [Act.put, List.setIfInBounds_toArray, List.set_cons_zero, List.set_cons_succ]
  refine wpAnyH_take (i := 8) (oi := { dst := some 77, op := Op.move (Operand.tmp 6), type := 24, pos := "outright.go:27", after := #[{ on := 7, ground := Ground.guard }], guard := some (7, true) }) (v := ?vvw8) rfl (by kernel_rfl) (by kernel_rfl) (by kernel_rfl) (fun _ _ _ h => h) (Or.inl ⟨by rfl, ?hyw8⟩) (by assumption) ?restw8
  case hyw8 => (intro w hSw; go_simp; try with_reducible rfl)
  try simp only [Act.put, List.setIfInBounds_toArray, List.set_cons_zero, List.set_cons_succ]
  refine wpAnyH_take (i := 9) (oi := { dst := some 78, op := Op.binOp BinOp.eql 24 (Operand.tmp 77) (Operand.const (Value.int IntKind.i64 0)) 24, type := 4, pos := "outright.go:27", after := #[{ on := 8, ground := Ground.data }, { on := 7, ground := Ground.guard }], guard := some (7, true) }) (v := ?vvw9) rfl (by kernel_rfl) (by kernel_rfl) (by kernel_rfl) (fun _ _ _ h => h) (Or.inl ⟨by rfl, ?hyw9⟩) (by assumption) ?restw9
  case hyw9 => (intro w hSw; go_simp; try with_reducible rfl)
  try simp only [Act.put, List.setIfInBounds_toArray, List.set_cons_zero, List.set_cons_succ]
  refine wpAnyH_take (i := 10) (oi := { dst := some 79, op := Op.pick (Operand.tmp 76) (Operand.tmp 78) (Operand.const (Value.bool false)), type := 4, pos := "outright.go:27", after := #[{ on := 7, ground := Ground.data }, { on := 9, ground := Ground.data }], guard := none }) (v := ?vvw10) rfl (by kernel_rfl) (by kernel_rfl) (by kernel_rfl) (fun _ _ _ h => h) (Or.inl ⟨by rfl, ?hyw10⟩) (by assumption) ?restw10
  case hyw10 => (intro w hSw; go_simp; try with_reducible rfl)
  try simp only [Act.put, List.setIfInBounds_toArray, List.set_cons_zero, List.set_cons_succ]
  refine wpAnyH_take (i := 11) (oi := { dst := some 80, op := Op.move (Operand.tmp 79), type := 4, pos := "outright.go:27", after := #[{ on := 10, ground := Ground.data }, { on := 7, ground := Ground.chain }], guard := none }) (v := ?vvw11) rfl (by kernel_rfl) (by kernel_rfl) (by kernel_rfl) (fun _ _ _ h => h) (Or.inl ⟨by rfl, ?hyw11⟩) (by assumption) ?restw11
  case hyw11 => (intro w hSw; go_simp; try with_reducible rfl)
  try simp only [Act.put, List.setIfInBounds_toArray, List.set_cons_zero, List.set_cons_succ]
  refine wpAnyH_take (i := 12) (oi := { dst := some 81, op := Op.load 35 (Operand.tmp 5), type := 35, pos := "outright.go:27", after := #[{ on := 11, ground := Ground.guard }], guard := some (11, true) }) (v := .agg XN) rfl (by kernel_rfl) (by kernel_rfl) (by kernel_rfl) (fun _ _ _ h => h) (yieldsIf_load_mid (by rfl) _ _ rfl (u12.heap.size) (0) rfl (XN.toList) _ (fun w h => h.2.1.out) Try.underlying35 rfl lN) (by assumption) ?_
  try simp only [Act.put, List.setIfInBounds_toArray, List.set_cons_zero, List.set_cons_succ]
  refine wpAnyH_take (i := 13) (oi := { dst := some 82, op := Op.build 35 #[(0, Operand.const (Value.string { data := #[97] }))], type := 35, pos := "outright.go:27", after := #[{ on := 11, ground := Ground.guard }], guard := some (11, true) }) (v := ?vvw13) rfl (by kernel_rfl) (by kernel_rfl) (by kernel_rfl) (fun _ _ _ h => h) (Or.inl ⟨by rfl, ?hyw13⟩) (by assumption) ?restw13
  case hyw13 => (intro w hSw; go_simp; try with_reducible rfl)
  try simp only [Act.put, List.setIfInBounds_toArray, List.set_cons_zero, List.set_cons_succ]
  refine wpAnyH_take (i := 14) (oi := { dst := some 83, op := Op.binOp BinOp.eql 35 (Operand.tmp 81) (Operand.tmp 82) 35, type := 4, pos := "outright.go:27", after := #[{ on := 12, ground := Ground.data }, { on := 13, ground := Ground.data }, { on := 11, ground := Ground.guard }], guard := some (11, true) }) (v := ?vvw14) rfl (by kernel_rfl) (by kernel_rfl) (by kernel_rfl) (fun _ _ _ h => h) (Or.inl ⟨by rfl, ?hyw14⟩) (by assumption) ?restw14
  case hyw14 => (intro w hSw; go_simp; try with_reducible rfl)
  try simp only [Act.put, List.setIfInBounds_toArray, List.set_cons_zero, List.set_cons_succ]
  refine wpAnyH_take (i := 15) (oi := { dst := some 84, op := Op.pick (Operand.tmp 80) (Operand.tmp 83) (Operand.const (Value.bool false)), type := 4, pos := "outright.go:27", after := #[{ on := 11, ground := Ground.data }, { on := 14, ground := Ground.data }], guard := none }) (v := ?vvw15) rfl (by kernel_rfl) (by kernel_rfl) (by kernel_rfl) (fun _ _ _ h => h) (Or.inl ⟨by rfl, ?hyw15⟩) (by assumption) ?restw15
  case hyw15 => (intro w hSw; go_simp; try with_reducible rfl)
  try simp only [Act.put, List.setIfInBounds_toArray, List.set_cons_zero, List.set_cons_succ]
  refine wpAnyH_take (i := 16) (oi := { dst := some 85, op := Op.move (Operand.tmp 84), type := 4, pos := "outright.go:27", after := #[{ on := 15, ground := Ground.data }, { on := 11, ground := Ground.chain }], guard := none }) (v := ?vvw16) rfl (by kernel_rfl) (by kernel_rfl) (by kernel_rfl) (fun _ _ _ h => h) (Or.inl ⟨by rfl, ?hyw16⟩) (by assumption) ?restw16
  case hyw16 => (intro w hSw; go_simp; try with_reducible rfl)
  try simp only [Act.put, List.setIfInBounds_toArray, List.set_cons_zero, List.set_cons_succ]
  refine wpAnyH_take (i := 17) (oi := { dst := some 86, op := Op.move (Operand.tmp 8), type := 24, pos := "outright.go:27", after := #[{ on := 16, ground := Ground.guard }], guard := some (16, true) }) (v := ?vvw17) rfl (by kernel_rfl) (by kernel_rfl) (by kernel_rfl) (fun _ _ _ h => h) (Or.inl ⟨by rfl, ?hyw17⟩) (by assumption) ?restw17
  case hyw17 => (intro w hSw; go_simp; try with_reducible rfl)
  try simp only [Act.put, List.setIfInBounds_toArray, List.set_cons_zero, List.set_cons_succ]
  refine wpAnyH_take (i := 18) (oi := { dst := some 87, op := Op.binOp BinOp.eql 24 (Operand.tmp 86) (Operand.const (Value.int IntKind.i64 160)) 24, type := 4, pos := "outright.go:27", after := #[{ on := 17, ground := Ground.data }, { on := 16, ground := Ground.guard }], guard := some (16, true) }) (v := ?vvw18) rfl (by kernel_rfl) (by kernel_rfl) (by kernel_rfl) (fun _ _ _ h => h) (Or.inl ⟨by rfl, ?hyw18⟩) (by assumption) ?restw18
  case hyw18 => (intro w hSw; go_simp; try with_reducible rfl)
  try simp only [Act.put, List.setIfInBounds_toArray, List.set_cons_zero, List.set_cons_succ]
  refine wpAnyH_take (i := 19) (oi := { dst := some 88, op := Op.pick (Operand.tmp 85) (Operand.tmp 87) (Operand.const (Value.bool false)), type := 4, pos := "outright.go:27", after := #[{ on := 16, ground := Ground.data }, { on := 18, ground := Ground.data }], guard := none }) (v := ?vvw19) rfl (by kernel_rfl) (by kernel_rfl) (by kernel_rfl) (fun _ _ _ h => h) (Or.inl ⟨by rfl, ?hyw19⟩) (by assumption) ?restw19
  case hyw19 => (intro w hSw; go_simp; try with_reducible rfl)
  try simp only [Act.put, List.setIfInBounds_toArray, List.set_cons_zero, List.set_cons_succ]
  refine wpAnyH_take (i := 20) (oi := { dst := some 89, op := Op.move (Operand.tmp 88), type := 4, pos := "outright.go:27", after := #[{ on := 19, ground := Ground.data }, { on := 16, ground := Ground.chain }], guard := none }) (v := ?vvw20) rfl (by kernel_rfl) (by kernel_rfl) (by kernel_rfl) (fun _ _ _ h => h) (Or.inl ⟨by rfl, ?hyw20⟩) (by assumption) ?restw20
  case hyw20 => (intro w hSw; go_simp; try with_reducible rfl)
  try simp only [Act.put, List.setIfInBounds_toArray, List.set_cons_zero, List.set_cons_succ]
  refine wpAnyH_take (i := 21) (oi := { dst := some 90, op := Op.move (Operand.tmp 10), type := 24, pos := "outright.go:27", after := #[{ on := 20, ground := Ground.guard }], guard := some (20, true) }) (v := ?vvw21) rfl (by kernel_rfl) (by kernel_rfl) (by kernel_rfl) (fun _ _ _ h => h) (Or.inl ⟨by rfl, ?hyw21⟩) (by assumption) ?restw21
  case hyw21 => (intro w hSw; go_simp; try with_reducible rfl)
  try simp only [Act.put, List.setIfInBounds_toArray, List.set_cons_zero, List.set_cons_succ]
  refine wpAnyH_take (i := 22) (oi := { dst := some 91, op := Op.binOp BinOp.eql 24 (Operand.tmp 90) (Operand.const (Value.int IntKind.i64 0)) 24, type := 4, pos := "outright.go:27", after := #[{ on := 21, ground := Ground.data }, { on := 20, ground := Ground.guard }], guard := some (20, true) }) (v := ?vvw22) rfl (by kernel_rfl) (by kernel_rfl) (by kernel_rfl) (fun _ _ _ h => h) (Or.inl ⟨by rfl, ?hyw22⟩) (by assumption) ?restw22
  case hyw22 => (intro w hSw; go_simp; try with_reducible rfl)
  try simp only [Act.put, List.setIfInBounds_toArray, List.set_cons_zero, List.set_cons_succ]
  refine wpAnyH_take (i := 23) (oi := { dst := some 92, op := Op.pick (Operand.tmp 89) (Operand.tmp 91) (Operand.const (Value.bool false)), type := 4, pos := "outright.go:27", after := #[{ on := 20, ground := Ground.data }, { on := 22, ground := Ground.data }], guard := none }) (v := ?vvw23) rfl (by kernel_rfl) (by kernel_rfl) (by kernel_rfl) (fun _ _ _ h => h) (Or.inl ⟨by rfl, ?hyw23⟩) (by assumption) ?restw23
  case hyw23 => (intro w hSw; go_simp; try with_reducible rfl)
  try simp only [Act.put, List.setIfInBounds_toArray, List.set_cons_zero, List.set_cons_succ]
  refine wpAnyH_take (i := 24) (oi := { dst := some 93, op := Op.move (Operand.tmp 92), type := 4, pos := "outright.go:27", after := #[{ on := 23, ground := Ground.data }, { on := 20, ground := Ground.chain }], guard := none }) (v := ?vvw24) rfl (by kernel_rfl) (by kernel_rfl) (by kernel_rfl) (fun _ _ _ h => h) (Or.inl ⟨by rfl, ?hyw24⟩) (by assumption) ?restw24
  case hyw24 => (intro w hSw; go_simp; try with_reducible rfl)
  try simp only [Act.put, List.setIfInBounds_toArray, List.set_cons_zero, List.set_cons_succ]
  refine wpAnyH_take (i := 25) (oi := { dst := some 94, op := Op.load 35 (Operand.tmp 9), type := 35, pos := "outright.go:27", after := #[{ on := 24, ground := Ground.guard }], guard := some (24, true) }) (v := .agg X2) rfl (by kernel_rfl) (by kernel_rfl) (by kernel_rfl) (fun _ _ _ h => h) (yieldsIf_load_mid (by rfl) _ _ rfl (u14.heap.size) (0) rfl (X2.toList) _ (fun w h => h.2.2.1.out) Try.underlying35 rfl l2) (by assumption) ?_
  try simp only [Act.put, List.setIfInBounds_toArray, List.set_cons_zero, List.set_cons_succ]
  refine wpAnyH_ready (rs := [26]) (by kernel_rfl) (by simp) ?_
  refine AllReadyH.cons (o := { dst := some 95, op := Op.call { callee := Callee.value (Operand.func 26), args := #[Operand.const (Value.string { data := #[97] }), Operand.const (Value.int IntKind.i64 2)], argTypes := #[9, 3] }, type := 35, pos := "outright.go:27", after := #[{ on := 24, ground := Ground.chain }, { on := 24, ground := Ground.guard }], guard := some (24, true) }) rfl (fun K hK => ?_) AllReadyH.nil
  go_simp
  refine (E2.out _).mono ?_
  rintro e y2 ⟨rfl, k2⟩
  go_wp2_with fail
  have B2 := Lib.hid (bThen B1.out k2)
  clear k2
  refine hK.out _ _ (hS5 _ B2.out) (fun hHeld2 => ?_)
  clear hK K
  try simp only [Act.put, List.setIfInBounds_toArray, List.set_cons_zero, List.set_cons_succ]
  refine wpAnyH_take (i := 27) (oi := { dst := some 96, op := Op.binOp BinOp.eql 35 (Operand.tmp 94) (Operand.tmp 95) 35, type := 4, pos := "outright.go:27", after := #[{ on := 25, ground := Ground.data }, { on := 26, ground := Ground.data }, { on := 24, ground := Ground.guard }], guard := some (24, true) }) (v := ?vvw27) rfl (by kernel_rfl) (by kernel_rfl) (by kernel_rfl) (fun _ _ _ h => h) (Or.inl ⟨by rfl, ?hyw27⟩) (by assumption) ?restw27
  case hyw27 => (intro w hSw; go_simp; try with_reducible rfl)
  try simp only [Act.put, List.setIfInBounds_toArray, List.set_cons_zero, List.set_cons_succ]
  refine wpAnyH_take (i := 28) (oi := { dst := some 97, op := Op.pick (Operand.tmp 93) (Operand.tmp 96) (Operand.const (Value.bool false)), type := 4, pos := "outright.go:27", after := #[{ on := 24, ground := Ground.data }, { on := 27, ground := Ground.data }], guard := none }) (v := ?vvw28) rfl (by kernel_rfl) (by kernel_rfl) (by kernel_rfl) (fun _ _ _ h => h) (Or.inl ⟨by rfl, ?hyw28⟩) (by assumption) ?restw28
  case hyw28 => (intro w hSw; go_simp; try with_reducible rfl)
  try simp only [Act.put, List.setIfInBounds_toArray, List.set_cons_zero, List.set_cons_succ]
  refine wpAnyH_take (i := 29) (oi := { dst := some 98, op := Op.move (Operand.tmp 97), type := 4, pos := "outright.go:27", after := #[{ on := 28, ground := Ground.data }, { on := 26, ground := Ground.chain }], guard := none }) (v := ?vvw29) rfl (by kernel_rfl) (by kernel_rfl) (by kernel_rfl) (fun _ _ _ h => h) (Or.inl ⟨by rfl, ?hyw29⟩) (by assumption) ?restw29
  case hyw29 => (intro w hSw; go_simp; try with_reducible rfl)
  try simp only [Act.put, List.setIfInBounds_toArray, List.set_cons_zero, List.set_cons_succ]
  refine wpAnyH_take (i := 30) (oi := { dst := some 99, op := Op.move (Operand.tmp 12), type := 24, pos := "outright.go:27", after := #[{ on := 29, ground := Ground.guard }], guard := some (29, true) }) (v := ?vvw30) rfl (by kernel_rfl) (by kernel_rfl) (by kernel_rfl) (fun _ _ _ h => h) (Or.inl ⟨by rfl, ?hyw30⟩) (by assumption) ?restw30
  case hyw30 => (intro w hSw; go_simp; try with_reducible rfl)
  try simp only [Act.put, List.setIfInBounds_toArray, List.set_cons_zero, List.set_cons_succ]
  refine wpAnyH_take (i := 31) (oi := { dst := some 100, op := Op.binOp BinOp.eql 24 (Operand.tmp 99) (Operand.const (Value.int IntKind.i64 0)) 24, type := 4, pos := "outright.go:27", after := #[{ on := 30, ground := Ground.data }, { on := 29, ground := Ground.guard }], guard := some (29, true) }) (v := ?vvw31) rfl (by kernel_rfl) (by kernel_rfl) (by kernel_rfl) (fun _ _ _ h => h) (Or.inl ⟨by rfl, ?hyw31⟩) (by assumption) ?restw31
  case hyw31 => (intro w hSw; go_simp; try with_reducible rfl)
  try simp only [Act.put, List.setIfInBounds_toArray, List.set_cons_zero, List.set_cons_succ]
  refine wpAnyH_take (i := 32) (oi := { dst := some 101, op := Op.pick (Operand.tmp 98) (Operand.tmp 100) (Operand.const (Value.bool false)), type := 4, pos := "outright.go:27", after := #[{ on := 29, ground := Ground.data }, { on := 31, ground := Ground.data }], guard := none }) (v := ?vvw32) rfl (by kernel_rfl) (by kernel_rfl) (by kernel_rfl) (fun _ _ _ h => h) (Or.inl ⟨by rfl, ?hyw32⟩) (by assumption) ?restw32
  case hyw32 => (intro w hSw; go_simp; try with_reducible rfl)
  try simp only [Act.put, List.setIfInBounds_toArray, List.set_cons_zero, List.set_cons_succ]
  refine wpAnyH_take (i := 33) (oi := { dst := some 102, op := Op.move (Operand.tmp 101), type := 4, pos := "outright.go:27", after := #[{ on := 32, ground := Ground.data }, { on := 29, ground := Ground.chain }], guard := none }) (v := ?vvw33) rfl (by kernel_rfl) (by kernel_rfl) (by kernel_rfl) (fun _ _ _ h => h) (Or.inl ⟨by rfl, ?hyw33⟩) (by assumption) ?restw33
  case hyw33 => (intro w hSw; go_simp; try with_reducible rfl)
  try simp only [Act.put, List.setIfInBounds_toArray, List.set_cons_zero, List.set_cons_succ]
  refine wpAnyH_take (i := 34) (oi := { dst := some 103, op := Op.load 35 (Operand.tmp 11), type := 35, pos := "outright.go:27", after := #[{ on := 33, ground := Ground.guard }], guard := some (33, true) }) (v := .agg X3) rfl (by kernel_rfl) (by kernel_rfl) (by kernel_rfl) (fun _ _ _ h => h) (yieldsIf_load_mid (by rfl) _ _ rfl (u15.heap.size) (0) rfl (X3.toList) _ (fun w h => h.2.2.2.out) Try.underlying35 rfl l3) (by assumption) ?_
  try simp only [Act.put, List.setIfInBounds_toArray, List.set_cons_zero, List.set_cons_succ]
  refine wpAnyH_ready (rs := [35]) (by kernel_rfl) (by simp) ?_
  refine AllReadyH.cons (o := { dst := some 104, op := Op.call { callee := Callee.value (Operand.func 26), args := #[Operand.const (Value.string { data := #[97] }), Operand.const (Value.int IntKind.i64 3)], argTypes := #[9, 3] }, type := 35, pos := "outright.go:27", after := #[{ on := 33, ground := Ground.chain }, { on := 33, ground := Ground.guard }], guard := some (33, true) }) rfl (fun K hK => ?_) AllReadyH.nil
  go_simp
  refine (E3.out _).mono ?_
  rintro e y3 ⟨rfl, k3⟩
  go_wp2_with fail
  have B3 := Lib.hid (bThen B2.out k3)
  clear k3
  refine hK.out _ _ (hS5 _ B3.out) (fun hHeld3 => ?_)
  clear hK K
  try simp only [Act.put, List.setIfInBounds_toArray, List.set_cons_zero, List.set_cons_succ]
  refine wpAnyH_take (i := 36) (oi := { dst := some 105, op := Op.binOp BinOp.eql 35 (Operand.tmp 103) (Operand.tmp 104) 35, type := 4, pos := "outright.go:27", after := #[{ on := 34, ground := Ground.data }, { on := 35, ground := Ground.data }, { on := 33, ground := Ground.guard }], guard := some (33, true) }) (v := ?vvw36) rfl (by kernel_rfl) (by kernel_rfl) (by kernel_rfl) (fun _ _ _ h => h) (Or.inl ⟨by rfl, ?hyw36⟩) (by assumption) ?restw36
  case hyw36 => (intro w hSw; go_simp; try with_reducible rfl)
  try simp only [Act.put, List.setIfInBounds_toArray, List.set_cons_zero, List.set_cons_succ]
  refine wpAnyH_take (i := 37) (oi := { dst := some 106, op := Op.pick (Operand.tmp 102) (Operand.tmp 105) (Operand.const (Value.bool false)), type := 4, pos := "outright.go:27", after := #[{ on := 33, ground := Ground.data }, { on := 36, ground := Ground.data }], guard := none }) (v := ?vvw37) rfl (by kernel_rfl) (by kernel_rfl) (by kernel_rfl) (fun _ _ _ h => h) (Or.inl ⟨by rfl, ?hyw37⟩) (by assumption) ?restw37
  case hyw37 => (intro w hSw; go_simp; try with_reducible rfl)
  try simp only [Act.put, List.setIfInBounds_toArray, List.set_cons_zero, List.set_cons_succ]
  refine wpAnyH_take (i := 38) (oi := { dst := some 107, op := Op.move (Operand.tmp 106), type := 4, pos := "outright.go:27", after := #[{ on := 37, ground := Ground.data }, { on := 35, ground := Ground.chain }], guard := none }) (v := ?vvw38) rfl (by kernel_rfl) (by kernel_rfl) (by kernel_rfl) (fun _ _ _ h => h) (Or.inl ⟨by rfl, ?hyw38⟩) (by assumption) ?restw38
  case hyw38 => (intro w hSw; go_simp; try with_reducible rfl)
  try simp only [Act.put, List.setIfInBounds_toArray, List.set_cons_zero, List.set_cons_succ]
  refine wpAnyH_take (i := 39) (oi := { dst := some 108, op := Op.move (Operand.tmp 1), type := 23, pos := "outright.go:27", after := #[{ on := 38, ground := Ground.guard }], guard := some (38, true) }) (v := ?vvw39) rfl (by kernel_rfl) (by kernel_rfl) (by kernel_rfl) (fun _ _ _ h => h) (Or.inl ⟨by rfl, ?hyw39⟩) (by assumption) ?restw39
  case hyw39 => (intro w hSw; go_simp; try with_reducible rfl)
  try simp only [Act.put, List.setIfInBounds_toArray, List.set_cons_zero, List.set_cons_succ]
  refine wpAnyH_ready (rs := [40]) (by kernel_rfl) (by simp) ?_
  refine AllReadyH.cons (o := { dst := some 109, op := Op.call { callee := Callee.value (Operand.func 20), args := #[Operand.tmp 108], argTypes := #[23] }, type := 3, pos := "outright.go:27", after := #[{ on := 39, ground := Ground.data }, { on := 38, ground := Ground.chain }, { on := 38, ground := Ground.guard }], guard := some (38, true) }) rfl (fun K hK => ?_) AllReadyH.nil
  go_simp
  refine (CMY.out _ B3.out).mono ?_
  rintro e y4 ⟨rfl, k4⟩
  go_wp2_with fail
  have B4 := Lib.hid (bThen B3.out k4)
  clear k4
  refine hK.out _ _ (hS5 _ B4.out) (fun hHeld4 => ?_)
  clear hK K
  try simp only [Act.put, List.setIfInBounds_toArray, List.set_cons_zero, List.set_cons_succ]
  refine wpAnyH_take (i := 41) (oi := { dst := some 110, op := Op.binOp BinOp.eql 3 (Operand.tmp 109) (Operand.const (Value.int IntKind.i64 2)) 3, type := 4, pos := "outright.go:27", after := #[{ on := 40, ground := Ground.data }, { on := 38, ground := Ground.guard }], guard := some (38, true) }) (v := ?vvw41) rfl (by kernel_rfl) (by kernel_rfl) (by kernel_rfl) (fun _ _ _ h => h) (Or.inl ⟨by rfl, ?hyw41⟩) (by assumption) ?restw41
  case hyw41 => (intro w hSw; go_simp; try with_reducible rfl)
  try simp only [Act.put, List.setIfInBounds_toArray, List.set_cons_zero, List.set_cons_succ]
  refine wpAnyH_take (i := 42) (oi := { dst := some 111, op := Op.pick (Operand.tmp 107) (Operand.tmp 110) (Operand.const (Value.bool false)), type := 4, pos := "outright.go:27", after := #[{ on := 38, ground := Ground.data }, { on := 41, ground := Ground.data }], guard := none }) (v := ?vvw42) rfl (by kernel_rfl) (by kernel_rfl) (by kernel_rfl) (fun _ _ _ h => h) (Or.inl ⟨by rfl, ?hyw42⟩) (by assumption) ?restw42
  case hyw42 => (intro w hSw; go_simp; try with_reducible rfl)
  try simp only [Act.put, List.setIfInBounds_toArray, List.set_cons_zero, List.set_cons_succ]
  refine wpAnyH_take (i := 43) (oi := { dst := some 112, op := Op.move (Operand.tmp 111), type := 4, pos := "outright.go:27", after := #[{ on := 42, ground := Ground.data }, { on := 40, ground := Ground.chain }], guard := none }) (v := ?vvw43) rfl (by kernel_rfl) (by kernel_rfl) (by kernel_rfl) (fun _ _ _ h => h) (Or.inl ⟨by rfl, ?hyw43⟩) (by assumption) ?restw43
  case hyw43 => (intro w hSw; go_simp; try with_reducible rfl)
  try simp only [Act.put, List.setIfInBounds_toArray, List.set_cons_zero, List.set_cons_succ]
  refine wpAnyH_take (i := 44) (oi := { dst := some 113, op := Op.move (Operand.tmp 1), type := 23, pos := "outright.go:27", after := #[{ on := 43, ground := Ground.guard }], guard := some (43, true) }) (v := ?vvw44) rfl (by kernel_rfl) (by kernel_rfl) (by kernel_rfl) (fun _ _ _ h => h) (Or.inl ⟨by rfl, ?hyw44⟩) (by assumption) ?restw44
  case hyw44 => (intro w hSw; go_simp; try with_reducible rfl)
  try simp only [Act.put, List.setIfInBounds_toArray, List.set_cons_zero, List.set_cons_succ]
  refine wpAnyH_ready (rs := [45]) (by kernel_rfl) (by simp) ?_
  refine AllReadyH.cons (o := { dst := some 114, op := Op.call { callee := Callee.value (Operand.func 18), args := #[Operand.tmp 113], argTypes := #[23] }, type := 3, pos := "outright.go:27", after := #[{ on := 44, ground := Ground.data }, { on := 43, ground := Ground.chain }, { on := 43, ground := Ground.guard }], guard := some (43, true) }) rfl (fun K hK => ?_) AllReadyH.nil
  go_simp
  refine (CDR.out _ B4.out).mono ?_
  rintro e y5 ⟨rfl, k5⟩
  go_wp2_with fail
  have B5 := Lib.hid (bThen B4.out k5)
  clear k5
  refine hK.out _ _ (hS5 _ B5.out) (fun hHeld5 => ?_)
  clear hK K
  try simp only [Act.put, List.setIfInBounds_toArray, List.set_cons_zero, List.set_cons_succ]
  refine wpAnyH_take (i := 46) (oi := { dst := some 115, op := Op.binOp BinOp.eql 3 (Operand.tmp 114) (Operand.const (Value.int IntKind.i64 1)) 3, type := 4, pos := "outright.go:27", after := #[{ on := 45, ground := Ground.data }, { on := 43, ground := Ground.guard }], guard := some (43, true) }) (v := ?vvw46) rfl (by kernel_rfl) (by kernel_rfl) (by kernel_rfl) (fun _ _ _ h => h) (Or.inl ⟨by rfl, ?hyw46⟩) (by assumption) ?restw46
  case hyw46 => (intro w hSw; go_simp; try with_reducible rfl)
  try simp only [Act.put, List.setIfInBounds_toArray, List.set_cons_zero, List.set_cons_succ]
  refine wpAnyH_take (i := 47) (oi := { dst := some 116, op := Op.pick (Operand.tmp 112) (Operand.tmp 115) (Operand.const (Value.bool false)), type := 4, pos := "outright.go:27", after := #[{ on := 43, ground := Ground.data }, { on := 46, ground := Ground.data }], guard := none }) (v := ?vvw47) rfl (by kernel_rfl) (by kernel_rfl) (by kernel_rfl) (fun _ _ _ h => h) (Or.inl ⟨by rfl, ?hyw47⟩) (by assumption) ?restw47
  case hyw47 => (intro w hSw; go_simp; try with_reducible rfl)
  try simp only [Act.put, List.setIfInBounds_toArray, List.set_cons_zero, List.set_cons_succ]
  refine wpAnyH_take (i := 48) (oi := { dst := some 0, op := Op.assign (Operand.tmp 116), type := 4, pos := "outright.go:27", after := #[{ on := 47, ground := Ground.data }, { on := 45, ground := Ground.chain }, { on := 0, ground := Ground.phase }, { on := 1, ground := Ground.phase }, { on := 2, ground := Ground.phase }, { on := 3, ground := Ground.phase }, { on := 4, ground := Ground.phase }, { on := 5, ground := Ground.phase }, { on := 6, ground := Ground.phase }, { on := 7, ground := Ground.phase }, { on := 8, ground := Ground.phase }, { on := 9, ground := Ground.phase }, { on := 10, ground := Ground.phase }, { on := 11, ground := Ground.phase }, { on := 12, ground := Ground.phase }, { on := 13, ground := Ground.phase }, { on := 14, ground := Ground.phase }, { on := 15, ground := Ground.phase }, { on := 16, ground := Ground.phase }, { on := 17, ground := Ground.phase }, { on := 18, ground := Ground.phase }, { on := 19, ground := Ground.phase }, { on := 20, ground := Ground.phase }, { on := 21, ground := Ground.phase }, { on := 22, ground := Ground.phase }, { on := 23, ground := Ground.phase }, { on := 24, ground := Ground.phase }, { on := 25, ground := Ground.phase }, { on := 26, ground := Ground.phase }, { on := 27, ground := Ground.phase }, { on := 28, ground := Ground.phase }, { on := 29, ground := Ground.phase }, { on := 30, ground := Ground.phase }, { on := 31, ground := Ground.phase }, { on := 32, ground := Ground.phase }, { on := 33, ground := Ground.phase }, { on := 34, ground := Ground.phase }, { on := 35, ground := Ground.phase }, { on := 36, ground := Ground.phase }, { on := 37, ground := Ground.phase }, { on := 38, ground := Ground.phase }, { on := 39, ground := Ground.phase }, { on := 40, ground := Ground.phase }, { on := 41, ground := Ground.phase }, { on := 42, ground := Ground.phase }, { on := 43, ground := Ground.phase }, { on := 44, ground := Ground.phase }, { on := 45, ground := Ground.phase }, { on := 46, ground := Ground.phase }, { on := 47, ground := Ground.phase }], guard := none }) (v := ?vvw48) rfl (by kernel_rfl) (by kernel_rfl) (by kernel_rfl) (fun _ _ _ h => h) (Or.inl ⟨by rfl, ?hyw48⟩) (by assumption) ?restw48
  case hyw48 => (intro w hSw; go_simp; try with_reducible rfl)
  try simp only [Act.put, List.setIfInBounds_toArray, List.set_cons_zero, List.set_cons_succ]
  refine wpAnyH_done (by kernel_rfl) ?_ _
  go_wp2
  go_ret
  exact ⟨rfl, bThen KF.out B5.out⟩
end Go.Proofs.Ytecdcfmbhphagaa.BX
